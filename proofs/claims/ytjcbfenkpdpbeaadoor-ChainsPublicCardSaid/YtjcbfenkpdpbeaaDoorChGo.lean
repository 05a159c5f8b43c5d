/-
  ChainsGo, walked.
-/
import Derived.Test.YtjcbfenkpdpbeaaDoorChR
import Derived.Test.YtjcbfenkpdpbeaaDoorDgAlive
import Derived.Test.YtjcbfenkpdpbeaaDoorGrow
namespace Go.Proofs.YtjcbfenkpdpbeaaDoor
open Go.RowKit

theorem run_v (w : World) (hR : Rounds w) (x : List Int) (hx : isDig x) (lf i fr to : Int) (h0 : 0 ≤ fr) (h3 : to ≤ 3) (n : Nat) (hn : n = (to - fr).toNat) (ds rs : Array Value) (h1 : ds = arrV .u8 x) (h2 : rs = arrV .u8 (runC x lf i fr n)) :
    Calls Tryd.prog 10 #[.agg ds, .int .i64 lf, .int .i64 i, .int .i64 fr, .int .i64 to] w fun e w' => e = .returned (.agg rs) ∧ w.grownBy w' none := by
  subst h1
  exact run_is w hR x hx lf i fr to fr to n (.inr ⟨h0, rfl⟩) (.inl ⟨h3, rfl⟩) hn rs h2
theorem eqDG (l : List Int) (h : l.length = 16) (ds : Array Value) (hd : ds = arrV .u8 l) (w : World) : Sem.run Tryd.prog (Op.equalIn 10000 23 (.agg ds) (.agg ds)) w = .ok true w := by
  rw [hd, eqD w l l h h]; simp
theorem row_load (g : Nat) (cs : Array Value) (hs : cs.size = 16) (V : World) (h : Blk V g 23 cs) : Sem.run Tryd.prog (Instr.loadAt 23 (.pointer (some ⟨g, 0, none⟩))) V = .ok (.agg cs) V := by
  have := run_loadAt_mid (P := Tryd.prog) V g 0 23 cs.toList _ (fun j v hv => by rw [Nat.zero_add, h.cell, ← Array.getElem?_toList]; exact hv) Tryd.underlying23 rfl (by rw [Array.length_toList, hs]; exact info16)
  rwa [Array.toArray_toList] at this
theorem uint_mod (u : Int) (h : 0 ≤ u) : ∃ m : Int, 0 ≤ m ∧ m ≤ 3 ∧ (u.tmod 4 = m ∧ u % 4 = m ∧ IntKind.i64.wrap m = m) := ⟨u % 4, by omega, by omega, Int.tmod_eq_emod_of_nonneg h, rfl, by rw [IntKind.wrap_i64]; omega⟩

set_option maxRecDepth 100000 in
set_option maxHeartbeats 4000000 in
theorem go_any (w : World) (hR : Rounds w) (x : List Int) (hx : isDig x) (a0 a1 u0 u1 : Int) (h0 : 0 ≤ u0) (h1 : 0 ≤ u1) :
    Calls Tryd.prog 6 #[.agg (arrV .u8 x), .agg #[.int .i64 a0, .int .i64 a1], .agg #[.int .u64 u0, .int .u64 u1]] w fun e w' => e = .returned (.bool true) ∧ w.grownBy w' none := by
  obtain ⟨p, hp0, hp3, hpe⟩ := uint_mod u0 h0
  obtain ⟨q, hq0, hq3, hqe⟩ := uint_mod u1 h1
  obtain ⟨Z16, hZ16⟩ : ∃ Z, Z = arrV .u8 (List.replicate 16 0) := ⟨_, rfl⟩
  have hz16 : ∀ w, Sem.run Tryd.prog (zeroValue 23) w = .ok (.agg Z16) w := fun w => by rw [hZ16]; exact z16run w
  have hZs : Z16.size = 16 := by rw [hZ16]; rfl
  obtain ⟨ds, hds⟩ : ∃ ds, ds = arrV .u8 x := ⟨_, rfl⟩
  rw [← hds]
  have HD := Lib.hid (show ds = arrV .u8 x ∧ ds.size = 16 ∧ Z16.size = 16 from ⟨hds, by rw [hds, arr_size, hx.1], hZs⟩)
  have HN := Lib.hid (And.intro hx hR)
  have HM := Lib.hid (And.intro hpe hqe)
  clear hZ16 hZs hds hx hR hpe hqe h0 h1
  have b0 := Blk.new w 23 ds
  have b1 := Blk.new (w.alloc (.cells ds 23)) 24 #[.int .i64 a0, .int .i64 a1]
  have b2 := Blk.new ((w.alloc (.cells ds 23)).alloc (.cells #[.int .i64 a0, .int .i64 a1] 24)) 45 #[.int .u64 u0, .int .u64 u1]
  simp only [World.size_alloc] at b1 b2
  have c0 := (b0.alloc (.cells #[.int .i64 a0, .int .i64 a1] 24)).alloc (.cells #[.int .u64 u0, .int .u64 u1] 45)
  have c1 := b1.alloc (.cells #[.int .u64 u0, .int .u64 u1] 45)
  have hg0 := grown_trans (grown_trans (World.grownBy_alloc w (.cells ds 23) none) (World.grownBy_alloc _ (.cells #[.int .i64 a0, .int .i64 a1] 24) none)) (World.grownBy_alloc _ (.cells #[.int .u64 u0, .int .u64 u1] 45) none)
  have HB := Lib.hid (And.intro c0 (And.intro c1 (And.intro b2 hg0)))
  clear b0 b1 b2 c0 c1 hg0
  go_enter Tryd.func6, Tryd.ntmps6
  go_wp2_with fail
  generalize ((w.alloc (.cells ds 23)).alloc (.cells #[.int .i64 a0, .int .i64 a1] 24)).alloc (.cells #[.int .u64 u0, .int .u64 u1] 45) = w0 at *
  refine (alive_is w0).mono ?_
  rintro e w1 ⟨rfl, hk1⟩
  have HB1 := Lib.hid (And.intro (HB.out.1.grown hk1 (by simp)) (And.intro (HB.out.2.1.grown hk1 (by simp)) (And.intro (HB.out.2.2.1.grown hk1 (by simp)) (grown_trans HB.out.2.2.2 hk1))))
  clear hk1 HB
  go_wp2_with fail
  have k0 : w1.cell? ⟨w.heap.size + 1, 0, none⟩ = some (.int .i64 a0) := HB1.out.2.1.cell 0
  have k1 : w1.cell? ⟨w.heap.size + 1, 1, none⟩ = some (.int .i64 a1) := HB1.out.2.1.cell 1
  go_quiet (fail)
  clear k0 k1
  generalize nq = m1
  go_wp2_with fail
  have f0 : w1.cell? ⟨w.heap.size + 1 + 1, 0, none⟩ = some (.int .u64 u0) := HB1.out.2.2.1.cell 0
  have f1 : w1.cell? ⟨w.heap.size + 1 + 1, 1, none⟩ = some (.int .u64 u1) := HB1.out.2.2.1.cell 1
  have e0 := HM.out.1.1
  have e1 := HM.out.2.1
  have e2 := HM.out.1.2.1
  have e3 := HM.out.2.2.1
  have e4 := HM.out.1.2.2
  have e5 := HM.out.2.2.2
  go_quiet (fail)
  clear f0 f1 e0 e1 e2 e3 e4 e5
  have HB2 := Lib.hid (show Blk (w1.drewN (m1 + nq)) w.heap.size 23 ds ∧ w.grownBy (w1.drewN (m1 + nq)) none from ⟨HB1.out.1, ⟨HB1.out.2.2.2.os, HB1.out.2.2.2.tape, HB1.out.2.2.2.output, HB1.out.2.2.2.size, HB1.out.2.2.2.block⟩⟩)
  clear HB1
  by_cases hpq : q < p
  · have d1 : decide (q < p) = true := by simp; omega
    obtain ⟨n0, hn0⟩ : ∃ n : Nat, n = (q).toNat := ⟨_, rfl⟩
    obtain ⟨n1, hn1⟩ : ∃ n : Nat, n = (p - q).toNat := ⟨_, rfl⟩
    obtain ⟨n2, hn2⟩ : ∃ n : Nat, n = (p).toNat := ⟨_, rfl⟩
    obtain ⟨n3, hn3⟩ : ∃ n : Nat, n = (3 - p).toNat := ⟨_, rfl⟩
    have e2 : runC x a0 a1 0 n2 = runC (runC x a0 a1 0 n0) a0 a1 q n1 := by
      have := runC_add x a0 a1 0 n0 n1
      rw [show n0 + n1 = n2 by omega, show (0 : Int) + (n0 : Int) = q by omega] at this
      exact this
    have e3 : runC x a0 a1 0 3 = runC (runC x a0 a1 0 n2) a0 a1 p n3 := by
      have := runC_add x a0 a1 0 n2 n3
      rw [show n2 + n3 = 3 by omega, show (0 : Int) + (n2 : Int) = p by omega] at this
      exact this
    obtain ⟨ys, hys⟩ : ∃ ys, ys = arrV .u8 (runC x a0 a1 0 n0) := ⟨_, rfl⟩
    obtain ⟨zs, hzs⟩ : ∃ zs, zs = arrV .u8 (runC x a0 a1 0 n2) := ⟨_, rfl⟩
    obtain ⟨us, hus⟩ : ∃ us, us = arrV .u8 (runC x a0 a1 0 3) := ⟨_, rfl⟩
    have hyd := runC_dig x a0 a1 0 HN.out.1 n0
    have hzd := runC_dig x a0 a1 0 HN.out.1 n2
    have hud := runC_dig x a0 a1 0 HN.out.1 3
    have HY := Lib.hid (show ys.size = 16 ∧ (ys.all fun v => v.oneCell') = true ∧ ys = arrV .u8 (runC x a0 a1 0 n0) ∧ isDig (runC x a0 a1 0 n0) from ⟨by rw [hys, arr_size]; exact hyd.1, by rw [hys]; exact arr_one _ _, hys, hyd⟩)
    have HZ := Lib.hid (show zs.size = 16 ∧ (zs.all fun v => v.oneCell') = true ∧ zs = arrV .u8 (runC x a0 a1 0 n2) ∧ isDig (runC x a0 a1 0 n2) from ⟨by rw [hzs, arr_size]; exact hzd.1, by rw [hzs]; exact arr_one _ _, hzs, hzd⟩)
    have HU := Lib.hid (show us = arrV .u8 (runC x a0 a1 0 3) from hus)
    have HE := Lib.hid (And.intro hn0 (And.intro hn1 (And.intro hn2 (And.intro hn3 (And.intro e2 e3)))))
    have heqz := eqDG _ hzd.1 zs hzs
    have hequ := eqDG _ hud.1 us hus
    clear hpq hn0 hn1 hn2 hn3 e2 e3 hys hzs hus hyd hzd hud
    go_wp2_with (refine wpList_load_row rfl 23 _ rfl w.heap.size rfl 23 ds (0, 0) _ HB2.out.1 Tryd.underlying23 rfl (by rw [HD.out.2.1]; exact info16) ?_)
    refine (run_v _ (HN.out.2.grown HB2.out.2 (by simp)) x HN.out.1 a0 a1 0 q (by omega) (by omega) n0 (by have := HE.out.1; omega) ds ys HD.out.1 HY.out.2.2.1).mono ?_
    rintro e w3 ⟨rfl, hk3⟩
    have HB3 := Lib.hid (And.intro (HB2.out.1.grown hk3 (by simp)) (grown_trans HB2.out.2 hk3))
    clear hk3
    go_wp2_with (first
      | (refine wpList_store_row rfl 23 _ _ rfl w3.heap.size ys rfl rfl 23 _ (heap_alloc_new w3 _) (by rw [HY.out.1]; exact info16) (by rw [HD.out.2.2, HY.out.1]) HY.out.2.1 ?_
         obtain ⟨w4, hw4⟩ : ∃ w4, w4 = (w3.alloc (.cells Z16 23)).setRow w3.heap.size ys := ⟨_, rfl⟩
         rw [← hw4]
         have HB4 := Lib.hid (show Blk w4 w3.heap.size 23 ys ∧ Blk w4 w.heap.size 23 ds ∧ w.grownBy w4 none from by
           rw [hw4]
           exact ⟨(Blk.new w3 _ Z16).row ys, (HB3.out.1.alloc (.cells Z16 23)).farRow (g' := w3.heap.size) (Nat.ne_of_lt HB3.out.1.lt) ys, grown_row (grown_trans HB3.out.2 (World.grownBy_alloc w3 (.cells Z16 23) none)) (g := w3.heap.size) (.inl HB3.out.2.size) ys⟩)
         clear hw4)
      | (refine wpList_load_row rfl 23 _ rfl w3.heap.size rfl 23 ys (0, 0) _ HB4.out.1 Tryd.underlying23 rfl (by rw [HY.out.1]; exact info16) ?_))
    refine (run_v w4 (HN.out.2.grown HB4.out.2.2 (by simp)) _ HY.out.2.2.2 a0 a1 q p (by omega) (by omega) n1 HE.out.2.1 ys zs HY.out.2.2.1 (by rw [HZ.out.2.2.1, HE.out.2.2.2.2.1])).mono ?_
    rintro e w5 ⟨rfl, hk5⟩
    have HB5 := Lib.hid (And.intro (HB4.out.2.1.grown hk5 (by simp)) (grown_trans HB4.out.2.2 hk5))
    clear hk5
    go_wp2_with (refine wpList_store_row rfl 23 _ _ rfl w5.heap.size zs rfl rfl 23 _ (heap_alloc_new w5 _) (by rw [HZ.out.1]; exact info16) (by rw [HD.out.2.2, HZ.out.1]) HZ.out.2.1 ?_)
    have q0 : Blk ((w5.alloc (.cells Z16 23)).setRow w5.heap.size zs) w5.heap.size 23 zs := (Blk.new w5 _ Z16).row zs
    have q1 := (HB5.out.1.alloc (.cells Z16 23)).farRow (g' := w5.heap.size) (Nat.ne_of_lt HB5.out.1.lt) zs
    have q3 := grown_row (grown_trans HB5.out.2 (World.grownBy_alloc w5 (.cells Z16 23) none)) (g := w5.heap.size) (.inl HB5.out.2.size) zs
    generalize (w5.alloc (.cells Z16 23)).setRow w5.heap.size zs = w6 at *
    obtain ⟨gz, hgz⟩ : ∃ gz, gz = w5.heap.size := ⟨_, rfl⟩
    rw [← hgz] at q0 ⊢
    have HB6 := Lib.hid (And.intro q0 (And.intro q1 q3))
    clear q0 q1 q3 hgz
    refine wp_region_grown (by kernel_rfl) (by kernel_rfl) ?_
    have v1 : ∀ z : Gr w6, Sem.run Tryd.prog (Instr.loadAt 23 (.pointer (some ⟨w.heap.size, 0, none⟩))) z.1 = .ok (.agg ds) z.1 := fun z => row_load _ ds HD.out.2.1 z.1 (HB6.out.2.1.grown z.2 (by simp))
    have v2 : ∀ z : Gr w6, Sem.run Tryd.prog (Instr.loadAt 23 (.pointer (some ⟨gz, 0, none⟩))) z.1 = .ok (.agg zs) z.1 := fun z => row_load _ zs HZ.out.1 z.1 (HB6.out.1.grown z.2 (by simp))
    have s1 : ∀ z : Gr w6, Calls Tryd.prog 10 #[.agg ds, .int .i64 a0, .int .i64 a1, .int .i64 0, .int .i64 p] z.1 fun e w' => e = .returned (.agg zs) ∧ z.1.grownBy w' none := fun z =>
      run_v z.1 (HN.out.2.grown (grown_trans HB6.out.2.2 z.2) (by simp)) x HN.out.1 a0 a1 0 p (by omega) (by omega) n2 (by have := HE.out.2.2.1; omega) ds zs HD.out.1 HZ.out.2.2.1
    have s2 : ∀ z : Gr w6, Calls Tryd.prog 10 #[.agg zs, .int .i64 a0, .int .i64 a1, .int .i64 p, .int .i64 3] z.1 fun e w' => e = .returned (.agg us) ∧ z.1.grownBy w' none := fun z =>
      run_v z.1 (HN.out.2.grown (grown_trans HB6.out.2.2 z.2) (by simp)) _ HZ.out.2.2.2 a0 a1 p 3 (by omega) (by omega) n3 HE.out.2.2.2.1 zs us HZ.out.2.2.1 (by rw [HU.out, HE.out.2.2.2.2.2])
    have s3 : ∀ z : Gr w6, Calls Tryd.prog 10 #[.agg ds, .int .i64 a0, .int .i64 a1, .int .i64 0, .int .i64 3] z.1 fun e w' => e = .returned (.agg us) ∧ z.1.grownBy w' none := fun z =>
      run_v z.1 (HN.out.2.grown (grown_trans HB6.out.2.2 z.2) (by simp)) x HN.out.1 a0 a1 0 3 (by omega) (by omega) 3 rfl ds us HD.out.1 HU.out
    have S1 := Lib.hid s1
    have S2 := Lib.hid s2
    have S3 := Lib.hid s3
    clear s1 s2 s3
    have V1 := Lib.hid v1
    have V2 := Lib.hid v2
    clear v1 v2
    repeat (first
      | (refine wpQuiet_load_row 23 _ ⟨w.heap.size, 0, none⟩ (.agg ds) (by rfl) rfl rfl (by rintro _ ⟨z, rfl⟩; exact V1.out z) ?_; simp only [Act.put, List.setIfInBounds_toArray, List.set_cons_zero, List.set_cons_succ])
      | (refine wpQuiet_load_row 23 _ ⟨gz, 0, none⟩ (.agg zs) (by rfl) rfl rfl (by rintro _ ⟨z, rfl⟩; exact V2.out z) ?_; simp only [Act.put, List.setIfInBounds_toArray, List.set_cons_zero, List.set_cons_succ])
      | go_big_quiet_step (first
      | (go_at_call 10; with_reducible exact Calls.grown _ (S1.out _))
      | (go_at_call 10; with_reducible exact Calls.grown _ (S2.out _))
      | (go_at_call 10; with_reducible exact Calls.grown _ (S3.out _))))
    refine wpQuiet_nil ?_
    rintro w7 ⟨⟨_, k7⟩, rfl⟩
    go_wp2_with fail
    go_ret
    exact ⟨rfl, grown_trans HB6.out.2.2 k7⟩
  · have d1 : decide (q < p) = false := by simp; omega
    obtain ⟨n0, hn0⟩ : ∃ n : Nat, n = (p).toNat := ⟨_, rfl⟩
    obtain ⟨n1, hn1⟩ : ∃ n : Nat, n = (q - p).toNat := ⟨_, rfl⟩
    obtain ⟨n2, hn2⟩ : ∃ n : Nat, n = (q).toNat := ⟨_, rfl⟩
    obtain ⟨n3, hn3⟩ : ∃ n : Nat, n = (3 - q).toNat := ⟨_, rfl⟩
    have e2 : runC x a0 a1 0 n2 = runC (runC x a0 a1 0 n0) a0 a1 p n1 := by
      have := runC_add x a0 a1 0 n0 n1
      rw [show n0 + n1 = n2 by omega, show (0 : Int) + (n0 : Int) = p by omega] at this
      exact this
    have e3 : runC x a0 a1 0 3 = runC (runC x a0 a1 0 n2) a0 a1 q n3 := by
      have := runC_add x a0 a1 0 n2 n3
      rw [show n2 + n3 = 3 by omega, show (0 : Int) + (n2 : Int) = q by omega] at this
      exact this
    obtain ⟨ys, hys⟩ : ∃ ys, ys = arrV .u8 (runC x a0 a1 0 n0) := ⟨_, rfl⟩
    obtain ⟨zs, hzs⟩ : ∃ zs, zs = arrV .u8 (runC x a0 a1 0 n2) := ⟨_, rfl⟩
    obtain ⟨us, hus⟩ : ∃ us, us = arrV .u8 (runC x a0 a1 0 3) := ⟨_, rfl⟩
    have hyd := runC_dig x a0 a1 0 HN.out.1 n0
    have hzd := runC_dig x a0 a1 0 HN.out.1 n2
    have hud := runC_dig x a0 a1 0 HN.out.1 3
    have HY := Lib.hid (show ys.size = 16 ∧ (ys.all fun v => v.oneCell') = true ∧ ys = arrV .u8 (runC x a0 a1 0 n0) ∧ isDig (runC x a0 a1 0 n0) from ⟨by rw [hys, arr_size]; exact hyd.1, by rw [hys]; exact arr_one _ _, hys, hyd⟩)
    have HZ := Lib.hid (show zs.size = 16 ∧ (zs.all fun v => v.oneCell') = true ∧ zs = arrV .u8 (runC x a0 a1 0 n2) ∧ isDig (runC x a0 a1 0 n2) from ⟨by rw [hzs, arr_size]; exact hzd.1, by rw [hzs]; exact arr_one _ _, hzs, hzd⟩)
    have HU := Lib.hid (show us = arrV .u8 (runC x a0 a1 0 3) from hus)
    have HE := Lib.hid (And.intro hn0 (And.intro hn1 (And.intro hn2 (And.intro hn3 (And.intro e2 e3)))))
    have heqz := eqDG _ hzd.1 zs hzs
    have hequ := eqDG _ hud.1 us hus
    clear hpq hn0 hn1 hn2 hn3 e2 e3 hys hzs hus hyd hzd hud
    go_wp2_with (refine wpList_load_row rfl 23 _ rfl w.heap.size rfl 23 ds (0, 0) _ HB2.out.1 Tryd.underlying23 rfl (by rw [HD.out.2.1]; exact info16) ?_)
    refine (run_v _ (HN.out.2.grown HB2.out.2 (by simp)) x HN.out.1 a0 a1 0 p (by omega) (by omega) n0 (by have := HE.out.1; omega) ds ys HD.out.1 HY.out.2.2.1).mono ?_
    rintro e w3 ⟨rfl, hk3⟩
    have HB3 := Lib.hid (And.intro (HB2.out.1.grown hk3 (by simp)) (grown_trans HB2.out.2 hk3))
    clear hk3
    go_wp2_with (first
      | (refine wpList_store_row rfl 23 _ _ rfl w3.heap.size ys rfl rfl 23 _ (heap_alloc_new w3 _) (by rw [HY.out.1]; exact info16) (by rw [HD.out.2.2, HY.out.1]) HY.out.2.1 ?_
         obtain ⟨w4, hw4⟩ : ∃ w4, w4 = (w3.alloc (.cells Z16 23)).setRow w3.heap.size ys := ⟨_, rfl⟩
         rw [← hw4]
         have HB4 := Lib.hid (show Blk w4 w3.heap.size 23 ys ∧ Blk w4 w.heap.size 23 ds ∧ w.grownBy w4 none from by
           rw [hw4]
           exact ⟨(Blk.new w3 _ Z16).row ys, (HB3.out.1.alloc (.cells Z16 23)).farRow (g' := w3.heap.size) (Nat.ne_of_lt HB3.out.1.lt) ys, grown_row (grown_trans HB3.out.2 (World.grownBy_alloc w3 (.cells Z16 23) none)) (g := w3.heap.size) (.inl HB3.out.2.size) ys⟩)
         clear hw4)
      | (refine wpList_load_row rfl 23 _ rfl w3.heap.size rfl 23 ys (0, 0) _ HB4.out.1 Tryd.underlying23 rfl (by rw [HY.out.1]; exact info16) ?_))
    refine (run_v w4 (HN.out.2.grown HB4.out.2.2 (by simp)) _ HY.out.2.2.2 a0 a1 p q (by omega) (by omega) n1 HE.out.2.1 ys zs HY.out.2.2.1 (by rw [HZ.out.2.2.1, HE.out.2.2.2.2.1])).mono ?_
    rintro e w5 ⟨rfl, hk5⟩
    have HB5 := Lib.hid (And.intro (HB4.out.2.1.grown hk5 (by simp)) (grown_trans HB4.out.2.2 hk5))
    clear hk5
    go_wp2_with (refine wpList_store_row rfl 23 _ _ rfl w5.heap.size zs rfl rfl 23 _ (heap_alloc_new w5 _) (by rw [HZ.out.1]; exact info16) (by rw [HD.out.2.2, HZ.out.1]) HZ.out.2.1 ?_)
    have q0 : Blk ((w5.alloc (.cells Z16 23)).setRow w5.heap.size zs) w5.heap.size 23 zs := (Blk.new w5 _ Z16).row zs
    have q1 := (HB5.out.1.alloc (.cells Z16 23)).farRow (g' := w5.heap.size) (Nat.ne_of_lt HB5.out.1.lt) zs
    have q3 := grown_row (grown_trans HB5.out.2 (World.grownBy_alloc w5 (.cells Z16 23) none)) (g := w5.heap.size) (.inl HB5.out.2.size) zs
    generalize (w5.alloc (.cells Z16 23)).setRow w5.heap.size zs = w6 at *
    obtain ⟨gz, hgz⟩ : ∃ gz, gz = w5.heap.size := ⟨_, rfl⟩
    rw [← hgz] at q0 ⊢
    have HB6 := Lib.hid (And.intro q0 (And.intro q1 q3))
    clear q0 q1 q3 hgz
    refine wp_region_grown (by kernel_rfl) (by kernel_rfl) ?_
    have v1 : ∀ z : Gr w6, Sem.run Tryd.prog (Instr.loadAt 23 (.pointer (some ⟨w.heap.size, 0, none⟩))) z.1 = .ok (.agg ds) z.1 := fun z => row_load _ ds HD.out.2.1 z.1 (HB6.out.2.1.grown z.2 (by simp))
    have v2 : ∀ z : Gr w6, Sem.run Tryd.prog (Instr.loadAt 23 (.pointer (some ⟨gz, 0, none⟩))) z.1 = .ok (.agg zs) z.1 := fun z => row_load _ zs HZ.out.1 z.1 (HB6.out.1.grown z.2 (by simp))
    have s1 : ∀ z : Gr w6, Calls Tryd.prog 10 #[.agg ds, .int .i64 a0, .int .i64 a1, .int .i64 0, .int .i64 q] z.1 fun e w' => e = .returned (.agg zs) ∧ z.1.grownBy w' none := fun z =>
      run_v z.1 (HN.out.2.grown (grown_trans HB6.out.2.2 z.2) (by simp)) x HN.out.1 a0 a1 0 q (by omega) (by omega) n2 (by have := HE.out.2.2.1; omega) ds zs HD.out.1 HZ.out.2.2.1
    have s2 : ∀ z : Gr w6, Calls Tryd.prog 10 #[.agg zs, .int .i64 a0, .int .i64 a1, .int .i64 q, .int .i64 3] z.1 fun e w' => e = .returned (.agg us) ∧ z.1.grownBy w' none := fun z =>
      run_v z.1 (HN.out.2.grown (grown_trans HB6.out.2.2 z.2) (by simp)) _ HZ.out.2.2.2 a0 a1 q 3 (by omega) (by omega) n3 HE.out.2.2.2.1 zs us HZ.out.2.2.1 (by rw [HU.out, HE.out.2.2.2.2.2])
    have s3 : ∀ z : Gr w6, Calls Tryd.prog 10 #[.agg ds, .int .i64 a0, .int .i64 a1, .int .i64 0, .int .i64 3] z.1 fun e w' => e = .returned (.agg us) ∧ z.1.grownBy w' none := fun z =>
      run_v z.1 (HN.out.2.grown (grown_trans HB6.out.2.2 z.2) (by simp)) x HN.out.1 a0 a1 0 3 (by omega) (by omega) 3 rfl ds us HD.out.1 HU.out
    have S1 := Lib.hid s1
    have S2 := Lib.hid s2
    have S3 := Lib.hid s3
    clear s1 s2 s3
    have V1 := Lib.hid v1
    have V2 := Lib.hid v2
    clear v1 v2
    repeat (first
      | (refine wpQuiet_load_row 23 _ ⟨w.heap.size, 0, none⟩ (.agg ds) (by rfl) rfl rfl (by rintro _ ⟨z, rfl⟩; exact V1.out z) ?_; simp only [Act.put, List.setIfInBounds_toArray, List.set_cons_zero, List.set_cons_succ])
      | (refine wpQuiet_load_row 23 _ ⟨gz, 0, none⟩ (.agg zs) (by rfl) rfl rfl (by rintro _ ⟨z, rfl⟩; exact V2.out z) ?_; simp only [Act.put, List.setIfInBounds_toArray, List.set_cons_zero, List.set_cons_succ])
      | go_big_quiet_step (first
      | (go_at_call 10; with_reducible exact Calls.grown _ (S1.out _))
      | (go_at_call 10; with_reducible exact Calls.grown _ (S2.out _))
      | (go_at_call 10; with_reducible exact Calls.grown _ (S3.out _))))
    refine wpQuiet_nil ?_
    rintro w7 ⟨⟨_, k7⟩, rfl⟩
    go_wp2_with fail
    go_ret
    exact ⟨rfl, grown_trans HB6.out.2.2 k7⟩
end Go.Proofs.YtjcbfenkpdpbeaaDoor
