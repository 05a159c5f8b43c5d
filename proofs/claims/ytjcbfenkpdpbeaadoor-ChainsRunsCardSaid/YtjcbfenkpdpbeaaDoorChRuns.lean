/-
  ChainsRuns, walked.
-/
import Derived.Test.YtjcbfenkpdpbeaaDoorChR
import Derived.Test.YtjcbfenkpdpbeaaDoorChC
import Derived.Test.YtjcbfenkpdpbeaaDoorDgAlive
import Derived.BigQuiet
namespace Go.Proofs.YtjcbfenkpdpbeaaDoor
open Go.RowKit

theorem secret_v (w : World) (hR : Rounds w) (seed : List Int) (hs : seed.length = 16) (lf i : Int) (ds c6 : Array Value) (h1 : ds = arrV .u8 seed) (h2 : c6 = arrV .u8 (secC seed lf i)) :
    Calls Tryd.prog 11 #[.agg ds, .int .i64 lf, .int .i64 i] w fun e w' => e = .returned (.agg c6) ∧ w.grownBy w' none := by
  subst h1 h2
  exact secret_is w hR seed hs lf i
theorem rsecret_v (w : World) (seed : List Int) (hs : isDig seed) (lf i : Int) (ds c6 : Array Value) (h1 : ds = arrV .u8 seed) (h2 : c6 = arrV .u8 (secC seed lf i)) :
    Calls Tryd.prog 12 #[.agg ds, .int .i64 lf, .int .i64 i] w fun e w' => e = .returned (.agg c6) ∧ w.grownBy w' none := by
  subst h1 h2
  exact rsecret_is w seed hs lf i
theorem eqDD (l : List Int) (h : l.length = 16) (ds : Array Value) (hd : ds = arrV .u8 l) (w : World) : Sem.run Tryd.prog (Op.equalIn 10000 23 (.agg ds) (.agg ds)) w = .ok true w := by
  rw [hd, eqD w l l h h]; simp

set_option maxRecDepth 100000 in
set_option maxHeartbeats 4000000 in
theorem runs_any (w : World) (hR : Rounds w) (x : List Int) (hx : isDig x) (a0 a1 fr to : Int) :
    Calls Tryd.prog 3 #[.agg (arrV .u8 x), .agg #[.int .i64 a0, .int .i64 a1], .agg #[.int .i64 fr, .int .i64 to]] w fun e w' => e = .returned (.bool true) ∧ w.grownBy w' none := by
  obtain ⟨lo, hlo⟩ : ∃ lo, (¬ 0 ≤ fr ∧ lo = 0) ∨ (0 ≤ fr ∧ lo = fr) := ⟨if 0 ≤ fr then fr else 0, by split <;> omega⟩
  obtain ⟨hi, hhi⟩ : ∃ hi, (to ≤ 3 ∧ hi = to) ∨ (3 < to ∧ hi = 3) := ⟨if to ≤ 3 then to else 3, by split <;> omega⟩
  obtain ⟨n, hn⟩ : ∃ n, n = (hi - lo).toNat := ⟨_, rfl⟩
  obtain ⟨Z16, hZ16⟩ : ∃ Z, Z = arrV .u8 (List.replicate 16 0) := ⟨_, rfl⟩
  have hz16 : ∀ w, Sem.run Tryd.prog (zeroValue 23) w = .ok (.agg Z16) w := fun w => by rw [hZ16]; exact z16run w
  have hZs : Z16.size = 16 := by rw [hZ16]; rfl
  obtain ⟨ds, hds⟩ : ∃ ds, ds = arrV .u8 x := ⟨_, rfl⟩
  rw [← hds]
  have HD := Lib.hid (show ds = arrV .u8 x ∧ ds.size = 16 ∧ Z16.size = 16 from ⟨hds, by rw [hds, arr_size, hx.1], hZs⟩)
  have HN := Lib.hid (And.intro hx (And.intro hlo (And.intro hhi (And.intro hn hR))))
  clear hZ16 hZs hds hx hlo hhi hn hR
  have b0 := Blk.new w 23 ds
  have b1 := Blk.new (w.alloc (.cells ds 23)) 24 #[.int .i64 a0, .int .i64 a1]
  have b2 := Blk.new ((w.alloc (.cells ds 23)).alloc (.cells #[.int .i64 a0, .int .i64 a1] 24)) 24 #[.int .i64 fr, .int .i64 to]
  simp only [World.size_alloc] at b1 b2
  have c0 := (b0.alloc (.cells #[.int .i64 a0, .int .i64 a1] 24)).alloc (.cells #[.int .i64 fr, .int .i64 to] 24)
  have c1 := b1.alloc (.cells #[.int .i64 fr, .int .i64 to] 24)
  have hg0 := grown_trans (grown_trans (World.grownBy_alloc w (.cells ds 23) none) (World.grownBy_alloc _ (.cells #[.int .i64 a0, .int .i64 a1] 24) none)) (World.grownBy_alloc _ (.cells #[.int .i64 fr, .int .i64 to] 24) none)
  have HB := Lib.hid (And.intro c0 (And.intro c1 (And.intro b2 hg0)))
  clear b0 b1 b2 c0 c1 hg0
  go_enter Tryd.func3, Tryd.ntmps3
  go_wp2_with fail
  generalize ((w.alloc (.cells ds 23)).alloc (.cells #[.int .i64 a0, .int .i64 a1] 24)).alloc (.cells #[.int .i64 fr, .int .i64 to] 24) = w0 at *
  have f0 : w0.cell? ⟨w.heap.size + 1 + 1, 0, none⟩ = some (.int .i64 fr) := HB.out.2.2.1.cell 0
  have f1 : w0.cell? ⟨w.heap.size + 1 + 1, 1, none⟩ = some (.int .i64 to) := HB.out.2.2.1.cell 1
  go_quiet (fail)
  clear f0 f1
  have HB1 := Lib.hid (show Blk (w0.drewN nq) w.heap.size 23 ds ∧ Blk (w0.drewN nq) (w.heap.size + 1) 24 #[.int .i64 a0, .int .i64 a1] ∧ w.grownBy (w0.drewN nq) none from ⟨HB.out.1, HB.out.2.1, ⟨HB.out.2.2.2.os, HB.out.2.2.2.tape, HB.out.2.2.2.output, HB.out.2.2.2.size, HB.out.2.2.2.block⟩⟩)
  generalize w0.drewN nq = w1 at *
  clear HB
  go_wp2_with fail
  refine (alive_is w1).mono ?_
  rintro e w2 ⟨rfl, hk2⟩
  have HB2 := Lib.hid (And.intro (HB1.out.1.grown hk2 (by simp)) (And.intro (HB1.out.2.1.grown hk2 (by simp)) (grown_trans HB1.out.2.2 hk2)))
  clear hk2 HB1
  have k0 : w2.cell? ⟨w.heap.size + 1, 0, none⟩ = some (.int .i64 a0) := HB2.out.2.1.cell 0
  have k1 : w2.cell? ⟨w.heap.size + 1, 1, none⟩ = some (.int .i64 a1) := HB2.out.2.1.cell 1
  go_wp2_with (refine wpList_load_row rfl 23 _ rfl w.heap.size rfl 23 ds (0, 0) _ HB2.out.1 Tryd.underlying23 rfl (by rw [HD.out.2.1]; exact info16) ?_)
  clear k0 k1
  obtain ⟨rs, hrs⟩ : ∃ rs, rs = arrV .u8 (runC x a0 a1 lo n) := ⟨_, rfl⟩
  have hrz : rs.size = 16 := by rw [hrs, arr_size]; exact (runC_dig x a0 a1 lo HN.out.1 n).1
  have HRS := Lib.hid (And.intro hrz (And.intro (show (rs.all fun v => v.oneCell') = true by rw [hrs]; exact arr_one _ _) hrs))
  have hrun := run_is w2 (HN.out.2.2.2.2.grown HB2.out.2.2 (by simp)) x HN.out.1 a0 a1 fr to lo hi n (by have := HN.out.2.1; omega) (by have := HN.out.2.2.1; omega) HN.out.2.2.2.1 rs hrs
  rw [← HD.out.1] at hrun
  clear hrs hrz
  refine hrun.mono ?_
  rintro e w3 ⟨rfl, hk3⟩
  clear hrun
  have HB3 := Lib.hid (And.intro (HB2.out.1.grown hk3 (by simp)) (And.intro (HB2.out.2.1.grown hk3 (by simp)) (grown_trans HB2.out.2.2 hk3)))
  clear hk3 HB2
  go_wp2_with (refine wpList_store_row rfl 23 _ _ rfl w3.heap.size rs rfl rfl 23 _ (heap_alloc_new w3 _) (by rw [HRS.out.1]; exact info16) (by rw [HD.out.2.2, HRS.out.1]) HRS.out.2.1 ?_)
  have q0 : Blk ((w3.alloc (.cells Z16 23)).setRow w3.heap.size rs) w3.heap.size 23 rs := (Blk.new w3 _ Z16).row rs
  have q1 := (HB3.out.1.alloc (.cells Z16 23)).farRow (g' := w3.heap.size) (Nat.ne_of_lt HB3.out.1.lt) rs
  have q2 := (HB3.out.2.1.alloc (.cells Z16 23)).farRow (g' := w3.heap.size) (Nat.ne_of_lt HB3.out.2.1.lt) rs
  have q3 := grown_row (grown_trans HB3.out.2.2 (World.grownBy_alloc w3 (.cells Z16 23) none)) (g := w3.heap.size) (.inl HB3.out.2.2.size) rs
  generalize (w3.alloc (.cells Z16 23)).setRow w3.heap.size rs = w4 at *
  have HB4 := Lib.hid (And.intro q0 (And.intro q1 (And.intro q2 q3)))
  clear q0 q1 q2 q3 HB3
  obtain ⟨gr, hgr⟩ : ∃ gr, gr = w3.heap.size := ⟨_, rfl⟩
  rw [← hgr] at HB4 ⊢
  clear hgr
  obtain ⟨xl, hxl⟩ : ∃ l, l = ds.toList := ⟨_, rfl⟩
  have hua := Tryd.underlying23
  have hixl : (Tryd.prog.info? 23).map (·.size) = some xl.length := by rw [hxl, Array.length_toList, HD.out.2.1]; exact info16
  have hxa : xl.toArray = ds := by rw [hxl, Array.toArray_toList]
  have HXA := Lib.hid hxa
  have hS : ∀ V, w4.grownBy V none → V.rangeAt w.heap.size 0 xl ∧ V.cell? ⟨w.heap.size + 1, 0, none⟩ = some (.int .i64 a0) ∧ V.cell? ⟨w.heap.size + 1, 1, none⟩ = some (.int .i64 a1) := fun V hV => ⟨fun j v hv => by
    have h1 := HB4.out.2.1.grown hV (by simp)
    rw [Nat.zero_add, h1.cell, ← Array.getElem?_toList, ← hxl]; exact hv, (HB4.out.2.2.1.grown hV (by simp)).cell 0, (HB4.out.2.2.1.grown hV (by simp)).cell 1⟩
  have HS := Lib.hid hS
  obtain ⟨sc, hsc⟩ : ∃ sc, sc = arrV .u8 (secC x a0 a1) := ⟨_, rfl⟩
  have heq := eqDD (secC x a0 a1) (secC_dig _ _ _).1 sc hsc
  have HSC := Lib.hid hsc
  clear hxl hxa hS hsc
  refine wp_region_held_drew (S := fun V => V.rangeAt w.heap.size 0 xl ∧ V.cell? ⟨w.heap.size + 1, 0, none⟩ = some (.int .i64 a0) ∧ V.cell? ⟨w.heap.size + 1, 1, none⟩ = some (.int .i64 a1)) (by kernel_rfl) (HS.out _ (grown_drew (World.grownBy.refl w4 none))) (fun _ => ?_)
  refine wpAnyH_take (i := 0) (oi := _) (v := .agg xl.toArray) rfl (by kernel_rfl) (by kernel_rfl) (by kernel_rfl) (fun _ _ _ h => h) (yieldsIf_load_mid (by rfl) 23 _ rfl w.heap.size 0 rfl xl _ (fun V hSw => hSw.1) hua rfl hixl) (by assumption) ?_
  refine wpAnyH_take (i := 1) (oi := _) (v := ?v1) rfl (by kernel_rfl) (by kernel_rfl) (by kernel_rfl) (fun _ _ _ h => h) (Or.inl ⟨by rfl, ?hy1⟩) (by assumption) ?rest1
  case hy1 => (intro V hSw; (try dsimp only at hSw); go_simp) <;> with_reducible rfl
  simp only [Act.put, List.getElem_toArray, List.getElem_cons_succ, List.getElem_cons_zero, List.setIfInBounds_toArray, List.set_cons_zero, List.set_cons_succ]
  refine wpAnyH_take (i := 2) (oi := _) (v := ?v2) rfl (by kernel_rfl) (by kernel_rfl) (by kernel_rfl) (fun _ _ _ h => h) (Or.inl ⟨by rfl, ?hy2⟩) (by assumption) ?rest2
  case hy2 => (intro V hSw; (try dsimp only at hSw); go_simp) <;> with_reducible rfl
  simp only [Act.put, List.getElem_toArray, List.getElem_cons_succ, List.getElem_cons_zero, List.setIfInBounds_toArray, List.set_cons_zero, List.set_cons_succ]
  refine wpAnyH_take (i := 3) (oi := _) (v := ?v3) rfl (by kernel_rfl) (by kernel_rfl) (by kernel_rfl) (fun _ _ _ h => h) (Or.inl ⟨by rfl, ?hy3⟩) (by assumption) ?rest3
  case hy3 => (intro V hSw; (try dsimp only at hSw); go_simp) <;> with_reducible rfl
  simp only [Act.put, List.getElem_toArray, List.getElem_cons_succ, List.getElem_cons_zero, List.setIfInBounds_toArray, List.set_cons_zero, List.set_cons_succ]
  refine wpAnyH_take (i := 4) (oi := _) (v := ?v4) rfl (by kernel_rfl) (by kernel_rfl) (by kernel_rfl) (fun _ _ _ h => h) (Or.inl ⟨by rfl, ?hy4⟩) (by assumption) ?rest4
  case hy4 => (intro V hSw; (try dsimp only at hSw); go_simp) <;> with_reducible rfl
  simp only [Act.put, List.getElem_toArray, List.getElem_cons_succ, List.getElem_cons_zero, List.setIfInBounds_toArray, List.set_cons_zero, List.set_cons_succ]
  refine wpAnyH_take (i := 6) (oi := _) (v := .agg xl.toArray) rfl (by kernel_rfl) (by kernel_rfl) (by kernel_rfl) (fun _ _ _ h => h) (yieldsIf_load_mid (by rfl) 23 _ rfl w.heap.size 0 rfl xl _ (fun V hSw => hSw.1) hua rfl hixl) (by assumption) ?_
  simp only [Act.put, List.getElem_toArray, List.getElem_cons_succ, List.getElem_cons_zero, List.setIfInBounds_toArray, List.set_cons_zero, List.set_cons_succ]
  refine wpAnyH_take (i := 7) (oi := _) (v := ?v7) rfl (by kernel_rfl) (by kernel_rfl) (by kernel_rfl) (fun _ _ _ h => h) (Or.inl ⟨by rfl, ?hy7⟩) (by assumption) ?rest7
  case hy7 => (intro V hSw; (try dsimp only at hSw); go_simp) <;> with_reducible rfl
  simp only [Act.put, List.getElem_toArray, List.getElem_cons_succ, List.getElem_cons_zero, List.setIfInBounds_toArray, List.set_cons_zero, List.set_cons_succ]
  refine wpAnyH_take (i := 8) (oi := _) (v := ?v8) rfl (by kernel_rfl) (by kernel_rfl) (by kernel_rfl) (fun _ _ _ h => h) (Or.inl ⟨by rfl, ?hy8⟩) (by assumption) ?rest8
  case hy8 => (intro V hSw; (try dsimp only at hSw); go_simp) <;> with_reducible rfl
  simp only [Act.put, List.getElem_toArray, List.getElem_cons_succ, List.getElem_cons_zero, List.setIfInBounds_toArray, List.set_cons_zero, List.set_cons_succ]
  refine wpAnyH_take (i := 9) (oi := _) (v := ?v9) rfl (by kernel_rfl) (by kernel_rfl) (by kernel_rfl) (fun _ _ _ h => h) (Or.inl ⟨by rfl, ?hy9⟩) (by assumption) ?rest9
  case hy9 => (intro V hSw; (try dsimp only at hSw); go_simp) <;> with_reducible rfl
  simp only [Act.put, List.getElem_toArray, List.getElem_cons_succ, List.getElem_cons_zero, List.setIfInBounds_toArray, List.set_cons_zero, List.set_cons_succ]
  refine wpAnyH_take (i := 10) (oi := _) (v := ?v10) rfl (by kernel_rfl) (by kernel_rfl) (by kernel_rfl) (fun _ _ _ h => h) (Or.inl ⟨by rfl, ?hy10⟩) (by assumption) ?rest10
  case hy10 => (intro V hSw; (try dsimp only at hSw); go_simp) <;> with_reducible rfl
  simp only [Act.put, List.getElem_toArray, List.getElem_cons_succ, List.getElem_cons_zero, List.setIfInBounds_toArray, List.set_cons_zero, List.set_cons_succ]
  refine wpAnyH_ready (rs := [5]) (by kernel_rfl) (by simp) ?_
  refine AllReadyH.cons (o := _) rfl (fun K hK => ?_) AllReadyH.nil
  go_simp
  rw [HXA.out]
  refine (secret_v _ (HN.out.2.2.2.2.grown (grown_trans HB4.out.2.2.2 (grown_drew (World.grownBy.refl w4 none))) (by simp)) x HN.out.1.1 a0 a1 ds sc HD.out.1 HSC.out).mono ?_
  rintro e w5 ⟨rfl, hk5⟩
  have G5 : w4.grownBy w5 none := grown_trans (grown_drew (World.grownBy.refl w4 none)) hk5
  clear hk5
  go_wp2_with fail
  refine hK.out _ _ (HS.out _ G5) (fun _ => ?_)
  clear hK K
  try simp only [Act.put, List.setIfInBounds_toArray, List.set_cons_zero, List.set_cons_succ]
  refine wpAnyH_ready (rs := [11]) (by kernel_rfl) (by simp) ?_
  refine AllReadyH.cons (o := _) rfl (fun K hK => ?_) AllReadyH.nil
  go_simp
  refine (rsecret_v _ x HN.out.1 a0 a1 ds sc HD.out.1 HSC.out).mono ?_
  rintro e w6 ⟨rfl, hk6⟩
  have G6 : w4.grownBy w6 none := grown_trans G5 hk6
  clear hk6
  go_wp2_with fail
  refine hK.out _ _ (HS.out _ G6) (fun _ => ?_)
  clear hK K
  try simp only [Act.put, List.setIfInBounds_toArray, List.set_cons_zero, List.set_cons_succ]
  refine wpAnyH_take (i := 12) (oi := _) (v := ?v12) rfl (by kernel_rfl) (by kernel_rfl) (by kernel_rfl) (fun _ _ _ h => h) (Or.inl ⟨by rfl, ?hy12⟩) (by assumption) ?rest12
  case hy12 => (intro V hSw; (try dsimp only at hSw); go_simp) <;> with_reducible rfl
  simp only [Act.put, List.getElem_toArray, List.getElem_cons_succ, List.getElem_cons_zero, List.setIfInBounds_toArray, List.set_cons_zero, List.set_cons_succ]
  refine wpAnyH_done (by kernel_rfl) ?_ _
  clear heq
  have HB6 := Lib.hid (And.intro (HB4.out.1.grown G6 (by simp)) (And.intro (HB4.out.2.1.grown G6 (by simp)) (And.intro (HB4.out.2.2.1.grown G6 (by simp)) (grown_trans HB4.out.2.2.2 G6))))
  clear G5 G6 HB4 HS
  by_cases hge : to ≤ fr
  · have d1 : decide (to ≤ fr) = true := by simpa using hge
    have hrx : rs = ds := by
      have h0 : n = 0 := by have := HN.out; omega
      rw [HRS.out.2.2, h0, runC, HD.out.1]
    have heq := eqDD x HN.out.1.1 ds HD.out.1
    clear hge
    subst hrx
    go_wp2_with (first
      | (refine wpList_load_row rfl 23 _ rfl gr rfl 23 rs (0, 0) _ HB6.out.1 Tryd.underlying23 rfl (by rw [HD.out.2.1]; exact info16) ?_)
      | (refine wpList_load_row rfl 23 _ rfl w.heap.size rfl 23 rs (0, 0) _ HB6.out.2.1 Tryd.underlying23 rfl (by rw [HD.out.2.1]; exact info16) ?_))
    go_ret
    exact ⟨rfl, HB6.out.2.2.2⟩
  · have d1 : decide (to ≤ fr) = false := by simpa using hge
    go_wp2_with fail
    obtain ⟨rl, hrl⟩ : ∃ l, l = rs.toList := ⟨_, rfl⟩
    have hirl : (Tryd.prog.info? 23).map (·.size) = some rl.length := by rw [hrl, Array.length_toList, HRS.out.1]; exact info16
    have HRA := Lib.hid (show rl.toArray = rs by rw [hrl, Array.toArray_toList])
    have hS : ∀ V, w6.grownBy V none → V.rangeAt w.heap.size 0 xl ∧ V.rangeAt gr 0 rl ∧ V.cell? ⟨w.heap.size + 1, 0, none⟩ = some (.int .i64 a0) ∧ V.cell? ⟨w.heap.size + 1, 1, none⟩ = some (.int .i64 a1) := fun V hV => ⟨fun j v hv => by
      have h1 := HB6.out.2.1.grown hV (by simp)
      rw [Nat.zero_add, h1.cell, ← HXA.out]; simpa using hv, fun j v hv => by
      have h1 := HB6.out.1.grown hV (by simp)
      rw [Nat.zero_add, h1.cell, ← HRA.out]; simpa using hv, (HB6.out.2.2.1.grown hV (by simp)).cell 0, (HB6.out.2.2.1.grown hV (by simp)).cell 1⟩
    have HS := Lib.hid hS
    have heq := eqDD (runC x a0 a1 lo n) (runC_dig x a0 a1 lo HN.out.1 n).1 rs HRS.out.2.2
    have hrr := rrun_is
    have HRR := Lib.hid hrr
    clear hrl hS hrr
    refine wp_region_held_drew (S := fun V => V.rangeAt w.heap.size 0 xl ∧ V.rangeAt gr 0 rl ∧ V.cell? ⟨w.heap.size + 1, 0, none⟩ = some (.int .i64 a0) ∧ V.cell? ⟨w.heap.size + 1, 1, none⟩ = some (.int .i64 a1)) (by kernel_rfl) (HS.out _ (grown_drew (World.grownBy.refl w6 none))) (fun _ => ?_)
    refine wpAnyH_take (i := 0) (oi := _) (v := .agg rl.toArray) rfl (by kernel_rfl) (by kernel_rfl) (by kernel_rfl) (fun _ _ _ h => h) (yieldsIf_load_mid (by rfl) 23 _ rfl gr 0 rfl rl _ (fun V hSw => hSw.2.1) hua rfl hirl) (by assumption) ?_
    refine wpAnyH_take (i := 1) (oi := _) (v := .agg xl.toArray) rfl (by kernel_rfl) (by kernel_rfl) (by kernel_rfl) (fun _ _ _ h => h) (yieldsIf_load_mid (by rfl) 23 _ rfl w.heap.size 0 rfl xl _ (fun V hSw => hSw.1) hua rfl hixl) (by assumption) ?_
    simp only [Act.put, List.getElem_toArray, List.getElem_cons_succ, List.getElem_cons_zero, List.setIfInBounds_toArray, List.set_cons_zero, List.set_cons_succ]
    refine wpAnyH_take (i := 2) (oi := _) (v := ?vc2) rfl (by kernel_rfl) (by kernel_rfl) (by kernel_rfl) (fun _ _ _ h => h) (Or.inl ⟨by rfl, ?hyc2⟩) (by assumption) ?restc2
    case hyc2 => (intro V hSw; (try dsimp only at hSw); go_simp) <;> with_reducible rfl
    simp only [Act.put, List.getElem_toArray, List.getElem_cons_succ, List.getElem_cons_zero, List.setIfInBounds_toArray, List.set_cons_zero, List.set_cons_succ]
    refine wpAnyH_take (i := 3) (oi := _) (v := ?vc3) rfl (by kernel_rfl) (by kernel_rfl) (by kernel_rfl) (fun _ _ _ h => h) (Or.inl ⟨by rfl, ?hyc3⟩) (by assumption) ?restc3
    case hyc3 => (intro V hSw; (try dsimp only at hSw); go_simp) <;> with_reducible rfl
    simp only [Act.put, List.getElem_toArray, List.getElem_cons_succ, List.getElem_cons_zero, List.setIfInBounds_toArray, List.set_cons_zero, List.set_cons_succ]
    refine wpAnyH_take (i := 4) (oi := _) (v := ?vc4) rfl (by kernel_rfl) (by kernel_rfl) (by kernel_rfl) (fun _ _ _ h => h) (Or.inl ⟨by rfl, ?hyc4⟩) (by assumption) ?restc4
    case hyc4 => (intro V hSw; (try dsimp only at hSw); go_simp) <;> with_reducible rfl
    simp only [Act.put, List.getElem_toArray, List.getElem_cons_succ, List.getElem_cons_zero, List.setIfInBounds_toArray, List.set_cons_zero, List.set_cons_succ]
    refine wpAnyH_take (i := 5) (oi := _) (v := ?vc5) rfl (by kernel_rfl) (by kernel_rfl) (by kernel_rfl) (fun _ _ _ h => h) (Or.inl ⟨by rfl, ?hyc5⟩) (by assumption) ?restc5
    case hyc5 => (intro V hSw; (try dsimp only at hSw); go_simp) <;> with_reducible rfl
    simp only [Act.put, List.getElem_toArray, List.getElem_cons_succ, List.getElem_cons_zero, List.setIfInBounds_toArray, List.set_cons_zero, List.set_cons_succ]
    refine wpAnyH_take (i := 6) (oi := _) (v := ?vc6) rfl (by kernel_rfl) (by kernel_rfl) (by kernel_rfl) (fun _ _ _ h => h) (Or.inl ⟨by rfl, ?hyc6⟩) (by assumption) ?restc6
    case hyc6 => (intro V hSw; (try dsimp only at hSw); go_simp) <;> with_reducible rfl
    simp only [Act.put, List.getElem_toArray, List.getElem_cons_succ, List.getElem_cons_zero, List.setIfInBounds_toArray, List.set_cons_zero, List.set_cons_succ]
    refine wpAnyH_take (i := 7) (oi := _) (v := .int .i64 lo) rfl (by kernel_rfl) (by kernel_rfl) (by kernel_rfl) (fun _ _ _ h => h) (Or.inl ⟨by rfl, ?hyb7⟩) (by assumption) ?restb7
    case hyb7 =>
      intro V hSw
      clear hSw
      rcases HN.out.2.1 with ⟨a, b⟩ | ⟨a, b⟩
      · have a2 : ¬ 0 ≤ fr := by omega
        rw [b]; clear b; go_simp
      · have a2 : ¬ fr < 0 := by omega
        rw [b]; clear b; go_simp
    simp only [Act.put, List.getElem_toArray, List.getElem_cons_succ, List.getElem_cons_zero, List.setIfInBounds_toArray, List.set_cons_zero, List.set_cons_succ]
    refine wpAnyH_take (i := 8) (oi := _) (v := ?vc8) rfl (by kernel_rfl) (by kernel_rfl) (by kernel_rfl) (fun _ _ _ h => h) (Or.inl ⟨by rfl, ?hyc8⟩) (by assumption) ?restc8
    case hyc8 => (intro V hSw; (try dsimp only at hSw); go_simp) <;> with_reducible rfl
    simp only [Act.put, List.getElem_toArray, List.getElem_cons_succ, List.getElem_cons_zero, List.setIfInBounds_toArray, List.set_cons_zero, List.set_cons_succ]
    refine wpAnyH_take (i := 9) (oi := _) (v := .int .i64 hi) rfl (by kernel_rfl) (by kernel_rfl) (by kernel_rfl) (fun _ _ _ h => h) (Or.inl ⟨by rfl, ?hyb9⟩) (by assumption) ?restb9
    case hyb9 =>
      intro V hSw
      clear hSw
      rcases HN.out.2.2.1 with ⟨a, b⟩ | ⟨a, b⟩
      · have a2 : ¬ 3 < to := by omega
        rw [b]; clear b; go_simp
      · have a2 : ¬ to ≤ 3 := by omega
        rw [b]; clear b; go_simp
    simp only [Act.put, List.getElem_toArray, List.getElem_cons_succ, List.getElem_cons_zero, List.setIfInBounds_toArray, List.set_cons_zero, List.set_cons_succ]
    refine wpAnyH_ready (rs := [10]) (by kernel_rfl) (by simp) ?_
    refine AllReadyH.cons (o := _) rfl (fun K hK => ?_) AllReadyH.nil
    go_simp
    rw [HXA.out, HD.out.1]
    refine (rrun_is _ x HN.out.1 a0 a1 lo hi (by have := HN.out.2.1; omega) (by have := HN.out.2.2.1; omega) n HN.out.2.2.2.1 rs HRS.out.2.2).mono ?_
    rintro e w7 ⟨rfl, hk7⟩
    rw [← HD.out.1]
    have G7 : w6.grownBy w7 none := grown_trans (grown_drew (World.grownBy.refl w6 none)) hk7
    clear hk7
    go_wp2_with fail
    refine hK.out _ _ (HS.out _ G7) (fun _ => ?_)
    clear hK K
    try simp only [Act.put, List.setIfInBounds_toArray, List.set_cons_zero, List.set_cons_succ]
    rw [HRA.out]
    refine wpAnyH_take (i := 11) (oi := _) (v := ?vc11) rfl (by kernel_rfl) (by kernel_rfl) (by kernel_rfl) (fun _ _ _ h => h) (Or.inl ⟨by rfl, ?hyc11⟩) (by assumption) ?restc11
    case hyc11 => (intro V hSw; (try dsimp only at hSw); go_simp) <;> with_reducible rfl
    simp only [Act.put, List.getElem_toArray, List.getElem_cons_succ, List.getElem_cons_zero, List.setIfInBounds_toArray, List.set_cons_zero, List.set_cons_succ]
    refine wpAnyH_take (i := 12) (oi := _) (v := ?vc12) rfl (by kernel_rfl) (by kernel_rfl) (by kernel_rfl) (fun _ _ _ h => h) (Or.inl ⟨by rfl, ?hyc12⟩) (by assumption) ?restc12
    case hyc12 => (intro V hSw; (try dsimp only at hSw); go_simp) <;> with_reducible rfl
    simp only [Act.put, List.getElem_toArray, List.getElem_cons_succ, List.getElem_cons_zero, List.setIfInBounds_toArray, List.set_cons_zero, List.set_cons_succ]
    refine wpAnyH_done (by kernel_rfl) ?_ _
    go_wp2_with fail
    go_ret
    exact ⟨rfl, grown_trans HB6.out.2.2.2 G7⟩
end Go.Proofs.YtjcbfenkpdpbeaaDoor
