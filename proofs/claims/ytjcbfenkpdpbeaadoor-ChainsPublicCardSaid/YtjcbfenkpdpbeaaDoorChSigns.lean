/-
  Several texts in one: ChZ, ChN.
-/
import Derived.Test.YtjcbfenkpdpbeaaDoorChSig
import Derived.Test.YtjcbfenkpdpbeaaDoorChRefS
import Derived.Test.YtjcbfenkpdpbeaaDoorNum
import Derived.Test.YtjcbfenkpdpbeaaDoorDgAlive
/-
  ChainsSigns, walked.
-/
namespace Go.Proofs.YtjcbfenkpdpbeaaDoor
open Go.RowKit

theorem pub_v (w : World) (hR : Rounds w) (seed : List Int) (hs : isDig seed) (lf : Int) (hlf : 0 ≤ lf ∧ lf < 32) (ds rs : Array Value) (h : ds = arrV .u8 seed) (hrs : rs = arrV .u8 (pubS seed lf)) :
    Calls Tryd.prog 14 #[.agg ds, .int .i64 lf] w fun e w' => e = .returned (.tuple #[.agg rs, .nilIface]) ∧ w.grownBy w' none := by
  subst h; exact pub_ok w hR seed hs lf hlf rs hrs
theorem sign_v (w : World) (hR : Rounds w) (seed : List Int) (hs : isDig seed) (lf : Int) (hlf : 0 ≤ lf ∧ lf < 32) (d : List Int) (hd : isDig d) (ds dd : Array Value) (h : ds = arrV .u8 seed) (h2 : dd = arrV .u8 d) :
    Calls Tryd.prog 15 #[.agg ds, .int .i64 lf, .agg dd] w fun e w' => ∃ b, e = .returned (.tuple #[.slice (some ⟨b, 0, none⟩) 68 68, .nilIface]) ∧ w.heap.size ≤ b ∧ w'.there b 0 1088 ∧ DigsAt w' b 0 (sigsS seed lf d) ∧ w.grownBy w' none := by
  subst h h2; exact sign_ok w hR seed hs lf hlf d hd
theorem back_v (w : World) (hR : Rounds w) (lf : Int) (hlf : 0 ≤ lf ∧ lf < 32) (b off c : Nat) (seed : List Int) (d : List Int) (hd : isDig d) (hD : DigsAt w b off (sigsS seed lf d)) (dd rs : Array Value) (h2 : dd = arrV .u8 d) (hrs : rs = arrV .u8 (pubS seed lf)) :
    Calls Tryd.prog 17 #[.int .i64 lf, .slice (some ⟨b, off, none⟩) 68 c, .agg dd] w fun e w' => e = .returned (.tuple #[.agg rs, .nilIface]) ∧ w.grownBy w' none := by
  subst h2; exact recover_ok w hR lf hlf b off c (sigsS seed lf d) (sigsS_length _ _ _) (sigsS_dig _ _ _) hD d hd rs (by rw [hrs, recC_sigs])
theorem rpub_v (w : World) (seed : List Int) (hs : isDig seed) (lf : Int) (ds rs : Array Value) (h : ds = arrV .u8 seed) (hrs : rs = arrV .u8 (pubS seed lf)) :
    Calls Tryd.prog 18 #[.agg ds, .int .i64 lf] w fun e w' => e = .returned (.agg rs) ∧ w.grownBy w' none := by
  subst h; exact rpublic_is w seed hs lf rs hrs
theorem rsign_v (w : World) (seed : List Int) (hs : isDig seed) (lf : Int) (d : List Int) (hd : isDig d) (ds dd : Array Value) (h : ds = arrV .u8 seed) (h2 : dd = arrV .u8 d) :
    Calls Tryd.prog 20 #[.agg ds, .int .i64 lf, .agg dd] w fun e w' => ∃ b cap, e = .returned (.slice (some ⟨b, 0, none⟩) 68 cap) ∧ DigsAt w' b 0 (sigsS seed lf d) ∧ w.grownBy w' none := by
  subst h h2; exact rsign_is w seed hs lf d hd
theorem range_blk {w : World} {g : Nat} {t : TypeId} {cs : Array Value} (h : Blk w g t cs) : w.rangeAt g 0 cs.toList := fun j v hv => by
  rw [Nat.zero_add, h.cell, ← Array.getElem?_toList]; exact hv

set_option maxRecDepth 100000 in
set_option maxHeartbeats 4000000 in
theorem signs_main (w : World) (hR : Rounds w) (seed : List Int) (hs : isDig seed) (lf : Int) (hlf : 0 ≤ lf ∧ lf < 32) (d : List Int) (hd : isDig d) :
    Calls Tryd.prog 4 #[.agg (arrV .u8 seed), .int .i64 lf, .agg (arrV .u8 d)] w fun e w' => e = .returned (.bool true) ∧ w.grownBy w' none := by
  obtain ⟨Z16, hZ16⟩ : ∃ Z, Z = arrV .u8 (List.replicate 16 0) := ⟨_, rfl⟩
  have hz16 : ∀ w, Sem.run Tryd.prog (zeroValue 23) w = .ok (.agg Z16) w := fun w => by rw [hZ16]; exact z16run w
  have hZs : Z16.size = 16 := by rw [hZ16]; rfl
  obtain ⟨ds, hds⟩ : ∃ ds, ds = arrV .u8 seed := ⟨_, rfl⟩
  obtain ⟨dd, hdd⟩ : ∃ dd, dd = arrV .u8 d := ⟨_, rfl⟩
  rw [← hds, ← hdd]
  obtain ⟨rs, hrs⟩ : ∃ rs, rs = arrV .u8 (pubS seed lf) := ⟨_, rfl⟩
  obtain ⟨dsl, hdsl⟩ : ∃ l, l = ds.toList := ⟨_, rfl⟩
  obtain ⟨ddl, hddl⟩ : ∃ l, l = dd.toList := ⟨_, rfl⟩
  obtain ⟨rsl, hrsl⟩ : ∃ l, l = rs.toList := ⟨_, rfl⟩
  have h16 : ds.size = 16 ∧ dd.size = 16 ∧ rs.size = 16 := ⟨by rw [hds, arr_size, hs.1], by rw [hdd, arr_size, hd.1], by rw [hrs, arr_size]; exact (pubS_dig _ _).1⟩
  have HI := Lib.hid (show (Tryd.prog.info? 23).map (·.size) = some dsl.length ∧ (Tryd.prog.info? 23).map (·.size) = some ddl.length ∧ (Tryd.prog.info? 23).map (·.size) = some rsl.length from
    ⟨by rw [hdsl, Array.length_toList, h16.1]; exact info16, by rw [hddl, Array.length_toList, h16.2.1]; exact info16, by rw [hrsl, Array.length_toList, h16.2.2]; exact info16⟩)
  have hq := eqDG (pubS seed lf) (pubS_dig _ _).1 rsl.toArray (by rw [hrsl, Array.toArray_toList, hrs])
  have HD := Lib.hid (And.intro h16.1 (And.intro h16.2.1 (And.intro hZs (And.intro h16.2.2 (show (rs.all fun x => x.oneCell') = true by rw [hrs]; exact arr_one _ _)))))
  have HL := Lib.hid (And.intro hdsl (And.intro hddl hrsl))
  have S1 := Lib.hid (fun (z : World) (hz : w.grownBy z none) => pub_v z (hR.grown hz (by simp)) seed hs lf hlf ds rs hds hrs)
  have S2 := Lib.hid (fun (z : World) (hz : w.grownBy z none) => sign_v z (hR.grown hz (by simp)) seed hs lf hlf d hd ds dd hds hdd)
  have S0 := Lib.hid (fun (z : World) (hz : w.grownBy z none) (b : Nat) (hD : DigsAt z b 0 (sigsS seed lf d)) => back_v z (hR.grown hz (by simp)) lf hlf b 0 68 seed d hd hD dd rs hdd hrs)
  have S3w := Lib.hid (fun (z : World) => rpub_v z seed hs lf dsl.toArray rsl.toArray (by rw [hdsl, Array.toArray_toList, hds]) (by rw [hrsl, Array.toArray_toList, hrs]))
  have S4w := Lib.hid (fun (z : World) => rsign_v z seed hs lf d hd dsl.toArray ddl.toArray (by rw [hdsl, Array.toArray_toList, hds]) (by rw [hddl, Array.toArray_toList, hdd]))
  have d1 : decide (lf < 0) = false := by simp; omega
  have d2 : decide (31 < lf) = false := by simp; omega
  have h0 : ¬ lf < 0 := by omega
  have h1 : ¬ 31 < lf := by omega
  clear hrs hds hdd hR hlf hs hd hZ16 hZs hdsl hddl hrsl h16
  go_enter Tryd.func4, Tryd.ntmps4
  go_wp2_with fail
  refine (alive_is _).mono ?_
  rintro e w1 ⟨rfl, hk1⟩
  have hb1 := Blk.new (w.alloc (.cells ds 23)) 23 dd
  rw [World.size_alloc] at hb1
  have HB1 := Lib.hid (And.intro (((Blk.new w 23 ds).alloc (.cells dd 23)).grown hk1 (by simp)) (And.intro (hb1.grown hk1 (by simp)) (grown_trans (grown_trans (World.grownBy_alloc w (.cells ds 23) none) (World.grownBy_alloc _ (.cells dd 23) none)) hk1)))
  clear hk1 hb1
  go_wp2_with (refine wpList_load_row rfl 23 _ rfl w.heap.size rfl 23 ds (0, 0) _ HB1.out.1 Tryd.underlying23 rfl (by rw [HD.out.1]; exact info16) ?_)
  refine (S1.out w1 HB1.out.2.2).mono ?_
  rintro e w2 ⟨rfl, hk2⟩
  have HK2 := Lib.hid hk2
  clear hk2
  go_wp2_with (first
    | (refine wpList_store_row rfl 23 _ _ rfl w2.heap.size rs rfl rfl 23 _ (heap_alloc_new w2 _) (by rw [HD.out.2.2.2.1]; exact info16) (by rw [HD.out.2.2.1, HD.out.2.2.2.1]) HD.out.2.2.2.2 ?_
       obtain ⟨p7, hp7⟩ : ∃ p, p = w2.heap.size := ⟨_, rfl⟩
       obtain ⟨w3, hw3⟩ : ∃ w3, w3 = (w2.alloc (.cells Z16 23)).setRow p7 rs := ⟨_, rfl⟩
       rw [← hp7, ← hw3]
       have HB3 := Lib.hid (show Blk w3 p7 23 rs ∧ Blk w3 w.heap.size 23 ds ∧ Blk w3 (w.heap.size + 1) 23 dd ∧ w.grownBy w3 none from by
         rw [hw3, hp7]
         have hg3 := grown_trans HK2.out (grown_row (World.grownBy_alloc w2 (.cells Z16 23) none) (.inl (Nat.le_refl _)) rs)
         exact ⟨(Blk.new w2 23 Z16).row rs, HB1.out.1.grown hg3 (by simp), HB1.out.2.1.grown hg3 (by simp), grown_trans HB1.out.2.2 hg3⟩)
       clear hw3 hp7)
    | (refine wpList_load_row rfl 23 _ rfl w.heap.size rfl 23 ds (0, 0) _ HB3.out.2.1 Tryd.underlying23 rfl (by rw [HD.out.1]; exact info16) ?_)
    | (refine wpList_load_row rfl 23 _ rfl (w.heap.size + 1) rfl 23 dd (0, 0) _ HB3.out.2.2.1 Tryd.underlying23 rfl (by rw [HD.out.2.1]; exact info16) ?_))
  refine (S2.out w3 HB3.out.2.2.2).mono ?_
  rintro e w4 ⟨b, rfl, hb, _, hD4, hk4⟩
  have HB4 := Lib.hid (And.intro (HB3.out.1.grown hk4 (by simp)) (And.intro (HB3.out.2.1.grown hk4 (by simp)) (And.intro (HB3.out.2.2.1.grown hk4 (by simp)) (And.intro (grown_trans HB3.out.2.2.2 hk4) hD4))))
  clear hk4 hD4 hb
  go_wp2_with (refine wpList_load_row rfl 23 _ rfl (w.heap.size + 1) rfl 23 dd (0, 0) _ HB4.out.2.2.1 Tryd.underlying23 rfl (by rw [HD.out.2.1]; exact info16) ?_)
  refine (S0.out w4 HB4.out.2.2.2.1 b HB4.out.2.2.2.2).mono ?_
  rintro e w5 ⟨rfl, hk5⟩
  have HK5 := Lib.hid hk5
  clear hk5
  go_wp2_with (refine wpList_store_row rfl 23 _ _ rfl w5.heap.size rs rfl rfl 23 _ (heap_alloc_new w5 _) (by rw [HD.out.2.2.2.1]; exact info16) (by rw [HD.out.2.2.1, HD.out.2.2.2.1]) HD.out.2.2.2.2 ?_)
  obtain ⟨p11, hp11⟩ : ∃ p, p = w5.heap.size := ⟨_, rfl⟩
  obtain ⟨w6, hw6⟩ : ∃ w6, w6 = (w5.alloc (.cells Z16 23)).setRow p11 rs := ⟨_, rfl⟩
  rw [← hp11, ← hw6]
  have HB6 := Lib.hid (show Blk w6 p11 23 rs ∧ Blk w6 p7 23 rs ∧ Blk w6 w.heap.size 23 ds ∧ Blk w6 (w.heap.size + 1) 23 dd ∧ w.grownBy w6 none ∧ DigsAt w6 b 0 (sigsS seed lf d) from by
    rw [hw6, hp11]
    have hg6 := grown_trans HK5.out (grown_row (World.grownBy_alloc w5 (.cells Z16 23) none) (.inl (Nat.le_refl _)) rs)
    exact ⟨(Blk.new w5 23 Z16).row rs, HB4.out.1.grown hg6 (by simp), HB4.out.2.1.grown hg6 (by simp), HB4.out.2.2.1.grown hg6 (by simp), grown_trans HB4.out.2.2.2.1 hg6, HB4.out.2.2.2.2.grown hg6⟩)
  clear hw6 hp11
  have HSS := Lib.hid (show ∀ V, w6.grownBy V none → V.rangeAt w.heap.size 0 dsl ∧ V.rangeAt (w.heap.size + 1) 0 ddl ∧ V.rangeAt p7 0 rsl ∧ V.rangeAt p11 0 rsl from fun V hV => by
    obtain ⟨e1, e2, e3⟩ := HL.out
    rw [e1, e2, e3]
    exact ⟨range_blk (HB6.out.2.2.1.grown hV (by simp)), range_blk (HB6.out.2.2.2.1.grown hV (by simp)), range_blk (HB6.out.2.1.grown hV (by simp)), range_blk (HB6.out.1.grown hV (by simp))⟩)
  have S3 := Lib.hid (fun (z : World) (_ : w6.grownBy z none) => S3w.out z)
  have S4 := Lib.hid (fun (z : World) (_ : w6.grownBy z none) => S4w.out z)
  have S5 := Lib.hid (fun (z : World) (hz : w6.grownBy z none) (b2 cap2 : Nat) (hD2 : DigsAt z b2 0 (sigsS seed lf d)) => same_is z b 0 68 b2 0 cap2 (sigsS seed lf d) (sigsS_length _ _ _) (sigsS_dig _ _ _) (HB6.out.2.2.2.2.2.grown hz) hD2)
  refine wp_region_held_drew (S := fun V => V.rangeAt w.heap.size 0 dsl ∧ V.rangeAt (w.heap.size + 1) 0 ddl ∧ V.rangeAt p7 0 rsl ∧ V.rangeAt p11 0 rsl) (by kernel_rfl) (HSS.out _ (grown_drew (World.grownBy.refl w6 none))) (fun hHeld => ?_)
  refine wpAnyH_take (i := 0) (oi := _) (v := ?v0) rfl (by kernel_rfl) (by kernel_rfl) (by kernel_rfl) (fun _ _ _ h => h) (Or.inl ⟨by rfl, ?hy0⟩) (by assumption) ?rest0
  case hy0 => (intro V hSw; (try dsimp only at hSw); go_simp) <;> with_reducible rfl
  simp only [Act.put, List.getElem_toArray, List.getElem_cons_zero, List.setIfInBounds_toArray, List.set_cons_zero, List.set_cons_succ]
  refine wpAnyH_take (i := 1) (oi := _) (v := ?v1) rfl (by kernel_rfl) (by kernel_rfl) (by kernel_rfl) (fun _ _ _ h => h) (Or.inl ⟨by rfl, ?hy1⟩) (by assumption) ?rest1
  case hy1 => (intro V hSw; (try dsimp only at hSw); go_simp) <;> with_reducible rfl
  simp only [Act.put, List.getElem_toArray, List.getElem_cons_succ, List.getElem_cons_zero, List.setIfInBounds_toArray, List.set_cons_zero, List.set_cons_succ]
  refine wpAnyH_take (i := 2) (oi := _) (v := ?v2) rfl (by kernel_rfl) (by kernel_rfl) (by kernel_rfl) (fun _ _ _ h => h) (Or.inl ⟨by rfl, ?hy2⟩) (by assumption) ?rest2
  case hy2 => (intro V hSw; (try dsimp only at hSw); go_simp) <;> with_reducible rfl
  simp only [Act.put, List.getElem_toArray, List.getElem_cons_succ, List.getElem_cons_zero, List.setIfInBounds_toArray, List.set_cons_zero, List.set_cons_succ]
  refine wpAnyH_take (i := 3) (oi := _) (v := ?v3) rfl (by kernel_rfl) (by kernel_rfl) (by kernel_rfl) (fun _ _ _ h => h) (Or.inl ⟨by rfl, ?hy3⟩) (by assumption) ?rest3
  case hy3 => (intro V hSw; (try dsimp only at hSw); go_simp) <;> with_reducible rfl
  simp only [Act.put, List.getElem_toArray, List.getElem_cons_succ, List.getElem_cons_zero, List.setIfInBounds_toArray, List.set_cons_zero, List.set_cons_succ]
  refine wpAnyH_take (i := 4) (oi := _) (v := ?v4) rfl (by kernel_rfl) (by kernel_rfl) (by kernel_rfl) (fun _ _ _ h => h) (Or.inl ⟨by rfl, ?hy4⟩) (by assumption) ?rest4
  case hy4 => (intro V hSw; (try dsimp only at hSw); go_simp) <;> with_reducible rfl
  simp only [Act.put, List.getElem_toArray, List.getElem_cons_succ, List.getElem_cons_zero, List.setIfInBounds_toArray, List.set_cons_zero, List.set_cons_succ]
  refine wpAnyH_take (i := 5) (oi := _) (v := ?v5) rfl (by kernel_rfl) (by kernel_rfl) (by kernel_rfl) (fun _ _ _ h => h) (Or.inl ⟨by rfl, ?hy5⟩) (by assumption) ?rest5
  case hy5 => (intro V hSw; (try dsimp only at hSw); go_simp) <;> with_reducible rfl
  simp only [Act.put, List.getElem_toArray, List.getElem_cons_succ, List.getElem_cons_zero, List.setIfInBounds_toArray, List.set_cons_zero, List.set_cons_succ]
  refine wpAnyH_take (i := 6) (oi := _) (v := ?v6) rfl (by kernel_rfl) (by kernel_rfl) (by kernel_rfl) (fun _ _ _ h => h) (Or.inl ⟨by rfl, ?hy6⟩) (by assumption) ?rest6
  case hy6 => (intro V hSw; (try dsimp only at hSw); go_simp) <;> with_reducible rfl
  simp only [Act.put, List.getElem_toArray, List.getElem_cons_succ, List.getElem_cons_zero, List.setIfInBounds_toArray, List.set_cons_zero, List.set_cons_succ]
  refine wpAnyH_take (i := 7) (oi := _) (v := ?v7) rfl (by kernel_rfl) (by kernel_rfl) (by kernel_rfl) (fun _ _ _ h => h) (Or.inl ⟨by rfl, ?hy7⟩) (by assumption) ?rest7
  case hy7 => (intro V hSw; (try dsimp only at hSw); go_simp) <;> with_reducible rfl
  simp only [Act.put, List.getElem_toArray, List.getElem_cons_succ, List.getElem_cons_zero, List.setIfInBounds_toArray, List.set_cons_zero, List.set_cons_succ]
  refine wpAnyH_take (i := 8) (oi := _) (v := ?v8) rfl (by kernel_rfl) (by kernel_rfl) (by kernel_rfl) (fun _ _ _ h => h) (Or.inl ⟨by rfl, ?hy8⟩) (by assumption) ?rest8
  case hy8 => (intro V hSw; (try dsimp only at hSw); go_simp) <;> with_reducible rfl
  simp only [Act.put, List.getElem_toArray, List.getElem_cons_succ, List.getElem_cons_zero, List.setIfInBounds_toArray, List.set_cons_zero, List.set_cons_succ]
  refine wpAnyH_take (i := 9) (oi := _) (v := ?v9) rfl (by kernel_rfl) (by kernel_rfl) (by kernel_rfl) (fun _ _ _ h => h) (Or.inl ⟨by rfl, ?hy9⟩) (by assumption) ?rest9
  case hy9 => (intro V hSw; (try dsimp only at hSw); go_simp) <;> with_reducible rfl
  simp only [Act.put, List.getElem_toArray, List.getElem_cons_succ, List.getElem_cons_zero, List.setIfInBounds_toArray, List.set_cons_zero, List.set_cons_succ]
  refine wpAnyH_take (i := 10) (oi := _) (v := ?v10) rfl (by kernel_rfl) (by kernel_rfl) (by kernel_rfl) (fun _ _ _ h => h) (Or.inl ⟨by rfl, ?hy10⟩) (by assumption) ?rest10
  case hy10 => (intro V hSw; (try dsimp only at hSw); go_simp) <;> with_reducible rfl
  simp only [Act.put, List.getElem_toArray, List.getElem_cons_succ, List.getElem_cons_zero, List.setIfInBounds_toArray, List.set_cons_zero, List.set_cons_succ]
  refine wpAnyH_take (i := 11) (oi := _) (v := .agg rsl.toArray) rfl (by kernel_rfl) (by kernel_rfl) (by kernel_rfl) (fun _ _ _ h => h) (yieldsIf_load_mid (by rfl) _ _ rfl p7 0 rfl rsl _ (fun V hSw => hSw.2.2.1) Tryd.underlying23 rfl HI.out.2.2) (by assumption) ?rest11
  simp only [Act.put, List.getElem_toArray, List.getElem_cons_succ, List.getElem_cons_zero, List.setIfInBounds_toArray, List.set_cons_zero, List.set_cons_succ]
  refine wpAnyH_take (i := 12) (oi := _) (v := .agg dsl.toArray) rfl (by kernel_rfl) (by kernel_rfl) (by kernel_rfl) (fun _ _ _ h => h) (yieldsIf_load_mid (by rfl) _ _ rfl w.heap.size 0 rfl dsl _ (fun V hSw => hSw.1) Tryd.underlying23 rfl HI.out.1) (by assumption) ?rest12
  simp only [Act.put, List.getElem_toArray, List.getElem_cons_succ, List.getElem_cons_zero, List.setIfInBounds_toArray, List.set_cons_zero, List.set_cons_succ]
  refine wpAnyH_take (i := 13) (oi := _) (v := ?v13) rfl (by kernel_rfl) (by kernel_rfl) (by kernel_rfl) (fun _ _ _ h => h) (Or.inl ⟨by rfl, ?hy13⟩) (by assumption) ?rest13
  case hy13 => (intro V hSw; (try dsimp only at hSw); go_simp) <;> with_reducible rfl
  simp only [Act.put, List.getElem_toArray, List.getElem_cons_succ, List.getElem_cons_zero, List.setIfInBounds_toArray, List.set_cons_zero, List.set_cons_succ]
  refine wpAnyH_ready (rs := [14]) (by kernel_rfl) (by simp) ?_
  refine AllReadyH.cons (o := _) rfl (fun K hK => ?_) AllReadyH.nil
  go_simp
  refine (S3.out _ (grown_drew (World.grownBy.refl w6 none))).mono ?_
  rintro e w7 ⟨rfl, hk7⟩
  have HK7 := Lib.hid (grown_trans (grown_drew (World.grownBy.refl w6 none)) hk7)
  clear hk7
  go_wp2_with fail
  refine hK.out _ _ (HSS.out _ HK7.out) (fun hHeld => ?_)
  clear hK K
  try simp only [Act.put, List.setIfInBounds_toArray, List.set_cons_zero, List.set_cons_succ]
  refine wpAnyH_take (i := 15) (oi := _) (v := ?v15) rfl (by kernel_rfl) (by kernel_rfl) (by kernel_rfl) (fun _ _ _ h => h) (Or.inl ⟨by rfl, ?hy15⟩) (by assumption) ?rest15
  case hy15 => (intro V hSw; (try dsimp only at hSw); go_simp) <;> with_reducible rfl
  simp only [Act.put, List.getElem_toArray, List.getElem_cons_succ, List.getElem_cons_zero, List.setIfInBounds_toArray, List.set_cons_zero, List.set_cons_succ]
  refine wpAnyH_take (i := 16) (oi := _) (v := ?v16) rfl (by kernel_rfl) (by kernel_rfl) (by kernel_rfl) (fun _ _ _ h => h) (Or.inl ⟨by rfl, ?hy16⟩) (by assumption) ?rest16
  case hy16 => (intro V hSw; (try dsimp only at hSw); go_simp) <;> with_reducible rfl
  simp only [Act.put, List.getElem_toArray, List.getElem_cons_succ, List.getElem_cons_zero, List.setIfInBounds_toArray, List.set_cons_zero, List.set_cons_succ]
  refine wpAnyH_take (i := 17) (oi := _) (v := ?v17) rfl (by kernel_rfl) (by kernel_rfl) (by kernel_rfl) (fun _ _ _ h => h) (Or.inl ⟨by rfl, ?hy17⟩) (by assumption) ?rest17
  case hy17 => (intro V hSw; (try dsimp only at hSw); go_simp) <;> with_reducible rfl
  simp only [Act.put, List.getElem_toArray, List.getElem_cons_succ, List.getElem_cons_zero, List.setIfInBounds_toArray, List.set_cons_zero, List.set_cons_succ]
  refine wpAnyH_take (i := 18) (oi := _) (v := ?v18) rfl (by kernel_rfl) (by kernel_rfl) (by kernel_rfl) (fun _ _ _ h => h) (Or.inl ⟨by rfl, ?hy18⟩) (by assumption) ?rest18
  case hy18 => (intro V hSw; (try dsimp only at hSw); go_simp) <;> with_reducible rfl
  simp only [Act.put, List.getElem_toArray, List.getElem_cons_succ, List.getElem_cons_zero, List.setIfInBounds_toArray, List.set_cons_zero, List.set_cons_succ]
  refine wpAnyH_take (i := 19) (oi := _) (v := .agg dsl.toArray) rfl (by kernel_rfl) (by kernel_rfl) (by kernel_rfl) (fun _ _ _ h => h) (yieldsIf_load_mid (by rfl) _ _ rfl w.heap.size 0 rfl dsl _ (fun V hSw => hSw.1) Tryd.underlying23 rfl HI.out.1) (by assumption) ?rest19
  simp only [Act.put, List.getElem_toArray, List.getElem_cons_succ, List.getElem_cons_zero, List.setIfInBounds_toArray, List.set_cons_zero, List.set_cons_succ]
  refine wpAnyH_take (i := 20) (oi := _) (v := ?v20) rfl (by kernel_rfl) (by kernel_rfl) (by kernel_rfl) (fun _ _ _ h => h) (Or.inl ⟨by rfl, ?hy20⟩) (by assumption) ?rest20
  case hy20 => (intro V hSw; (try dsimp only at hSw); go_simp) <;> with_reducible rfl
  simp only [Act.put, List.getElem_toArray, List.getElem_cons_succ, List.getElem_cons_zero, List.setIfInBounds_toArray, List.set_cons_zero, List.set_cons_succ]
  refine wpAnyH_take (i := 21) (oi := _) (v := .agg ddl.toArray) rfl (by kernel_rfl) (by kernel_rfl) (by kernel_rfl) (fun _ _ _ h => h) (yieldsIf_load_mid (by rfl) _ _ rfl (w.heap.size + 1) 0 rfl ddl _ (fun V hSw => hSw.2.1) Tryd.underlying23 rfl HI.out.2.1) (by assumption) ?rest21
  simp only [Act.put, List.getElem_toArray, List.getElem_cons_succ, List.getElem_cons_zero, List.setIfInBounds_toArray, List.set_cons_zero, List.set_cons_succ]
  refine wpAnyH_ready (rs := [22]) (by kernel_rfl) (by simp) ?_
  refine AllReadyH.cons (o := _) rfl (fun K hK => ?_) AllReadyH.nil
  go_simp
  refine (S4.out _ HK7.out).mono ?_
  rintro e w8 ⟨b2, cap2, rfl, hD2, hk8⟩
  have HK8 := Lib.hid (And.intro (grown_trans HK7.out hk8) hD2)
  clear hk8 hD2
  go_wp2_with fail
  refine hK.out _ _ (HSS.out _ HK8.out.1) (fun hHeld => ?_)
  clear hK K
  try simp only [Act.put, List.setIfInBounds_toArray, List.set_cons_zero, List.set_cons_succ]
  refine wpAnyH_ready (rs := [23]) (by kernel_rfl) (by simp) ?_
  refine AllReadyH.cons (o := _) rfl (fun K hK => ?_) AllReadyH.nil
  go_simp
  refine (S5.out _ HK8.out.1 b2 cap2 HK8.out.2).mono ?_
  rintro e w9 ⟨rfl, hk9⟩
  have HK9 := Lib.hid (grown_trans HK8.out.1 hk9)
  clear hk9
  go_wp2_with fail
  refine hK.out _ _ (HSS.out _ HK9.out) (fun hHeld => ?_)
  clear hK K
  try simp only [Act.put, List.setIfInBounds_toArray, List.set_cons_zero, List.set_cons_succ]
  refine wpAnyH_take (i := 24) (oi := _) (v := ?v24) rfl (by kernel_rfl) (by kernel_rfl) (by kernel_rfl) (fun _ _ _ h => h) (Or.inl ⟨by rfl, ?hy24⟩) (by assumption) ?rest24
  case hy24 => (intro V hSw; (try dsimp only at hSw); go_simp) <;> with_reducible rfl
  simp only [Act.put, List.getElem_toArray, List.getElem_cons_succ, List.getElem_cons_zero, List.setIfInBounds_toArray, List.set_cons_zero, List.set_cons_succ]
  refine wpAnyH_take (i := 25) (oi := _) (v := ?v25) rfl (by kernel_rfl) (by kernel_rfl) (by kernel_rfl) (fun _ _ _ h => h) (Or.inl ⟨by rfl, ?hy25⟩) (by assumption) ?rest25
  case hy25 => (intro V hSw; (try dsimp only at hSw); go_simp) <;> with_reducible rfl
  simp only [Act.put, List.getElem_toArray, List.getElem_cons_succ, List.getElem_cons_zero, List.setIfInBounds_toArray, List.set_cons_zero, List.set_cons_succ]
  refine wpAnyH_take (i := 26) (oi := _) (v := .agg rsl.toArray) rfl (by kernel_rfl) (by kernel_rfl) (by kernel_rfl) (fun _ _ _ h => h) (yieldsIf_load_mid (by rfl) _ _ rfl p11 0 rfl rsl _ (fun V hSw => hSw.2.2.2) Tryd.underlying23 rfl HI.out.2.2) (by assumption) ?rest26
  simp only [Act.put, List.getElem_toArray, List.getElem_cons_succ, List.getElem_cons_zero, List.setIfInBounds_toArray, List.set_cons_zero, List.set_cons_succ]
  refine wpAnyH_take (i := 27) (oi := _) (v := .agg rsl.toArray) rfl (by kernel_rfl) (by kernel_rfl) (by kernel_rfl) (fun _ _ _ h => h) (yieldsIf_load_mid (by rfl) _ _ rfl p7 0 rfl rsl _ (fun V hSw => hSw.2.2.1) Tryd.underlying23 rfl HI.out.2.2) (by assumption) ?rest27
  simp only [Act.put, List.getElem_toArray, List.getElem_cons_succ, List.getElem_cons_zero, List.setIfInBounds_toArray, List.set_cons_zero, List.set_cons_succ]
  refine wpAnyH_take (i := 28) (oi := _) (v := ?v28) rfl (by kernel_rfl) (by kernel_rfl) (by kernel_rfl) (fun _ _ _ h => h) (Or.inl ⟨by rfl, ?hy28⟩) (by assumption) ?rest28
  case hy28 => (intro V hSw; (try dsimp only at hSw); go_simp) <;> with_reducible rfl
  simp only [Act.put, List.getElem_toArray, List.getElem_cons_succ, List.getElem_cons_zero, List.setIfInBounds_toArray, List.set_cons_zero, List.set_cons_succ]
  refine wpAnyH_take (i := 29) (oi := _) (v := ?v29) rfl (by kernel_rfl) (by kernel_rfl) (by kernel_rfl) (fun _ _ _ h => h) (Or.inl ⟨by rfl, ?hy29⟩) (by assumption) ?rest29
  case hy29 => (intro V hSw; (try dsimp only at hSw); go_simp) <;> with_reducible rfl
  simp only [Act.put, List.getElem_toArray, List.getElem_cons_succ, List.getElem_cons_zero, List.setIfInBounds_toArray, List.set_cons_zero, List.set_cons_succ]
  refine wpAnyH_take (i := 30) (oi := _) (v := ?v30) rfl (by kernel_rfl) (by kernel_rfl) (by kernel_rfl) (fun _ _ _ h => h) (Or.inl ⟨by rfl, ?hy30⟩) (by assumption) ?rest30
  case hy30 => (intro V hSw; (try dsimp only at hSw); go_simp) <;> with_reducible rfl
  simp only [Act.put, List.getElem_toArray, List.getElem_cons_succ, List.getElem_cons_zero, List.setIfInBounds_toArray, List.set_cons_zero, List.set_cons_succ]
  refine wpAnyH_done (by kernel_rfl) ?_ _
  go_wp2_with fail
  go_ret
  exact ⟨rfl, grown_trans HB6.out.2.2.2.2.1 HK9.out⟩
end Go.Proofs.YtjcbfenkpdpbeaaDoor
/-
  ChainsSigns, walked: by no leaf.
-/
namespace Go.Proofs.YtjcbfenkpdpbeaaDoor
open Go.RowKit

set_option maxRecDepth 100000 in
set_option maxHeartbeats 4000000 in
theorem signs_no (w : World) (B : Nat) (E : Nat → Addr) (he : ErrEnv w B E) (lf : Int) (hlf : lf < 0 ∨ 32 ≤ lf) (ds dd : Array Value) (hds : ds.size = 16) (hdd : dd.size = 16) :
    Calls Tryd.prog 4 #[.agg ds, .int .i64 lf, .agg dd] w fun e w' => e = .returned (.bool true) ∧ w.grownBy w' none := by
  obtain ⟨rs, hrs⟩ : ∃ rs, rs = arrV .u8 (List.replicate 16 0) := ⟨_, rfl⟩
  have hq := eqDG (List.replicate 16 0) rfl rs hrs
  have HD := Lib.hid (And.intro hds hdd)
  have HS6 := Lib.hid (show rs.size = 16 ∧ (rs.all fun x => x.oneCell') = true from ⟨by rw [hrs]; rfl, by rw [hrs]; exact arr_one _ _⟩)
  have S1 := Lib.hid (fun (z : World) (hz : w.grownBy z none) => pub_no z B (E 0) ((he.grown hz (by simp)).var 0 (by omega)) lf hlf ds hds rs hrs)
  have S2 := Lib.hid (fun (z : World) (hz : w.grownBy z none) => sign_no z B (E 0) ((he.grown hz (by simp)).var 0 (by omega)) lf hlf ds dd)
  have S3 := Lib.hid (fun (z : World) (hz : w.grownBy z none) => num_err z B E 0 (by omega) (he.grown hz (by simp)))
  have hz16 : ∀ w, Sem.run Tryd.prog (zeroValue 23) w = .ok (.agg rs) w := fun w => by rw [hrs]; exact z16run w
  clear hrs hds hdd he
  rcases hlf with hneg | hbig
  · have d1 : decide (lf < 0) = true := by simp; omega
    go_enter Tryd.func4, Tryd.ntmps4
    go_wp2_with fail
    refine (alive_is _).mono ?_
    rintro e w1 ⟨rfl, hk1⟩
    have hb1 := Blk.new (w.alloc (.cells ds 23)) 23 dd
    rw [World.size_alloc] at hb1
    have HB1 := Lib.hid (And.intro (((Blk.new w 23 ds).alloc (.cells dd 23)).grown hk1 (by simp)) (And.intro (hb1.grown hk1 (by simp)) (grown_trans (grown_trans (World.grownBy_alloc w (.cells ds 23) none) (World.grownBy_alloc _ (.cells dd 23) none)) hk1)))
    clear hk1 hb1
    go_wp2_with (refine wpList_load_row rfl 23 _ rfl w.heap.size rfl 23 ds (0, 0) _ HB1.out.1 Tryd.underlying23 rfl (by rw [HD.out.1]; exact info16) ?_)
    refine (S1.out w1 HB1.out.2.2).mono ?_
    rintro e w2 ⟨rfl, hk2⟩
    have HK2 := Lib.hid hk2
    clear hk2
    go_wp2_with (first
      | (refine wpList_store_row rfl 23 _ _ rfl w2.heap.size rs rfl rfl 23 _ (heap_alloc_new w2 _) (by rw [HS6.out.1]; exact info16) rfl HS6.out.2 ?_
         obtain ⟨p7, hp7⟩ : ∃ p, p = w2.heap.size := ⟨_, rfl⟩
         obtain ⟨w3, hw3⟩ : ∃ w3, w3 = (w2.alloc (.cells rs 23)).setRow p7 rs := ⟨_, rfl⟩
         rw [← hp7, ← hw3]
         have HB3 := Lib.hid (show Blk w3 p7 23 rs ∧ Blk w3 w.heap.size 23 ds ∧ Blk w3 (w.heap.size + 1) 23 dd ∧ w.grownBy w3 none from by
           rw [hw3, hp7]
           have hg3 := grown_trans HK2.out (grown_row (World.grownBy_alloc w2 (.cells rs 23) none) (.inl (Nat.le_refl _)) rs)
           exact ⟨(Blk.new w2 23 rs).row rs, HB1.out.1.grown hg3 (by simp), HB1.out.2.1.grown hg3 (by simp), grown_trans HB1.out.2.2 hg3⟩)
         clear hw3 hp7)
      | (refine wpList_load_row rfl 23 _ rfl w.heap.size rfl 23 ds (0, 0) _ HB3.out.2.1 Tryd.underlying23 rfl (by rw [HD.out.1]; exact info16) ?_)
      | (refine wpList_load_row rfl 23 _ rfl (w.heap.size + 1) rfl 23 dd (0, 0) _ HB3.out.2.2.1 Tryd.underlying23 rfl (by rw [HD.out.2]; exact info16) ?_))
    refine (S2.out w3 HB3.out.2.2.2).mono ?_
    rintro e w4 ⟨rfl, hk4⟩
    have HB4 := Lib.hid (And.intro (HB3.out.1.grown hk4 (by simp)) (grown_trans HB3.out.2.2.2 hk4))
    clear hk4
    go_wp2_with (refine wpList_load_row rfl 23 _ rfl p7 rfl 23 rs (0, 0) _ HB4.out.1 Tryd.underlying23 rfl (by rw [HS6.out.1]; exact info16) ?_)
    refine (S3.out w4 HB4.out.2).mono ?_
    rintro e w5 ⟨rfl, hk5⟩
    have HG5 := Lib.hid (grown_trans HB4.out.2 hk5)
    clear hk5
    go_wp2_with fail
    refine (S3.out w5 HG5.out).mono ?_
    rintro e w6 ⟨rfl, hk6⟩
    have HG6 := Lib.hid (grown_trans HG5.out hk6)
    clear hk6
    go_wp2_with fail
    go_ret
    exact ⟨rfl, HG6.out⟩
  · have d1 : decide (lf < 0) = false := by simp; omega
    have d2 : decide (31 < lf) = true := by simp; omega
    have h0 : ¬ lf < 0 := by omega
    have h1 : 31 < lf := by omega
    go_enter Tryd.func4, Tryd.ntmps4
    go_wp2_with fail
    refine (alive_is _).mono ?_
    rintro e w1 ⟨rfl, hk1⟩
    have hb1 := Blk.new (w.alloc (.cells ds 23)) 23 dd
    rw [World.size_alloc] at hb1
    have HB1 := Lib.hid (And.intro (((Blk.new w 23 ds).alloc (.cells dd 23)).grown hk1 (by simp)) (And.intro (hb1.grown hk1 (by simp)) (grown_trans (grown_trans (World.grownBy_alloc w (.cells ds 23) none) (World.grownBy_alloc _ (.cells dd 23) none)) hk1)))
    clear hk1 hb1
    go_wp2_with (refine wpList_load_row rfl 23 _ rfl w.heap.size rfl 23 ds (0, 0) _ HB1.out.1 Tryd.underlying23 rfl (by rw [HD.out.1]; exact info16) ?_)
    refine (S1.out w1 HB1.out.2.2).mono ?_
    rintro e w2 ⟨rfl, hk2⟩
    have HK2 := Lib.hid hk2
    clear hk2
    go_wp2_with (first
      | (refine wpList_store_row rfl 23 _ _ rfl w2.heap.size rs rfl rfl 23 _ (heap_alloc_new w2 _) (by rw [HS6.out.1]; exact info16) rfl HS6.out.2 ?_
         obtain ⟨p7, hp7⟩ : ∃ p, p = w2.heap.size := ⟨_, rfl⟩
         obtain ⟨w3, hw3⟩ : ∃ w3, w3 = (w2.alloc (.cells rs 23)).setRow p7 rs := ⟨_, rfl⟩
         rw [← hp7, ← hw3]
         have HB3 := Lib.hid (show Blk w3 p7 23 rs ∧ Blk w3 w.heap.size 23 ds ∧ Blk w3 (w.heap.size + 1) 23 dd ∧ w.grownBy w3 none from by
           rw [hw3, hp7]
           have hg3 := grown_trans HK2.out (grown_row (World.grownBy_alloc w2 (.cells rs 23) none) (.inl (Nat.le_refl _)) rs)
           exact ⟨(Blk.new w2 23 rs).row rs, HB1.out.1.grown hg3 (by simp), HB1.out.2.1.grown hg3 (by simp), grown_trans HB1.out.2.2 hg3⟩)
         clear hw3 hp7)
      | (refine wpList_load_row rfl 23 _ rfl w.heap.size rfl 23 ds (0, 0) _ HB3.out.2.1 Tryd.underlying23 rfl (by rw [HD.out.1]; exact info16) ?_)
      | (refine wpList_load_row rfl 23 _ rfl (w.heap.size + 1) rfl 23 dd (0, 0) _ HB3.out.2.2.1 Tryd.underlying23 rfl (by rw [HD.out.2]; exact info16) ?_))
    refine (S2.out w3 HB3.out.2.2.2).mono ?_
    rintro e w4 ⟨rfl, hk4⟩
    have HB4 := Lib.hid (And.intro (HB3.out.1.grown hk4 (by simp)) (grown_trans HB3.out.2.2.2 hk4))
    clear hk4
    go_wp2_with (refine wpList_load_row rfl 23 _ rfl p7 rfl 23 rs (0, 0) _ HB4.out.1 Tryd.underlying23 rfl (by rw [HS6.out.1]; exact info16) ?_)
    refine (S3.out w4 HB4.out.2).mono ?_
    rintro e w5 ⟨rfl, hk5⟩
    have HG5 := Lib.hid (grown_trans HB4.out.2 hk5)
    clear hk5
    go_wp2_with fail
    refine (S3.out w5 HG5.out).mono ?_
    rintro e w6 ⟨rfl, hk6⟩
    have HG6 := Lib.hid (grown_trans HG5.out hk6)
    clear hk6
    go_wp2_with fail
    go_ret
    exact ⟨rfl, HG6.out⟩
end Go.Proofs.YtjcbfenkpdpbeaaDoor
