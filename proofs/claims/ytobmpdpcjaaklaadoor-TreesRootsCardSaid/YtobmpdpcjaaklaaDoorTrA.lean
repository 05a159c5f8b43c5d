/-
  trees.Join and quorateref04.Join.
-/
import Derived.Test.YtobmpdpcjaaklaaDoorDiA
namespace Go.Proofs.YtobmpdpcjaaklaaDoor
open Go.RowKit

/-- The digest above two. -/
def joinC (a b : List Int) : List Int := ofS 4 [a, b]
theorem joinC_dig (a b : List Int) : isDig (joinC a b) := by rw [joinC]; exact ofS_dig _ _

set_option maxRecDepth 100000 in
set_option maxHeartbeats 2000000 in
theorem join_is (w : World) (hR : Rounds w) (a b : List Int) (ha : isDig a) (hb : isDig b) (da db rs : Array Value) (hda : da = arrV .u8 a) (hdb : db = arrV .u8 b) (hrs : rs = arrV .u8 (joinC a b)) :
    Calls Tryd.prog 17 #[.agg da, .agg db] w fun e w' => e = .returned (.agg rs) ∧ w.grownBy w' none := by
  obtain ⟨Z16, hZ16⟩ : ∃ Z, Z = arrV .u8 (List.replicate 16 0) := ⟨_, rfl⟩
  have hz16 : ∀ w, Sem.run Tryd.prog (zeroValue 25) w = .ok (.agg Z16) w := fun w => by rw [hZ16]; exact z16run w
  have hZs : Z16.size = 16 := by rw [hZ16]; rfl
  have hps : ∀ p ∈ [a, b], p.length ≤ 65536 := by
    intro p hp
    have : p.length = 16 := by
      simp only [List.mem_cons, List.not_mem_nil, or_false] at hp
      rcases hp with rfl | rfl
      · exact ha.1
      · exact hb.1
    omega
  have hs16 : rs.size = 16 := by rw [hrs, arr_size]; exact (joinC_dig _ _).1
  have HS6 := Lib.hid (And.intro hs16 (And.intro (show (rs.all fun x => x.oneCell') = true by rw [hrs]; exact arr_one _ _) hrs))
  obtain ⟨l6, hl6⟩ : ∃ l, l = rs.toList := ⟨_, rfl⟩
  have hl16 : l6.length = 16 := by rw [hl6, Array.length_toList, hs16]
  have hi6 : (Tryd.prog.info? 25).map (·.size) = some l6.length := by rw [hl16]; exact info16
  have ho6 : ∀ v ∈ l6, v.oneCell' = true := by rw [hl6, hrs]; simp [Value.oneCell']
  have HLE := Lib.hid hl6
  have HL6 := Lib.hid (show arrV .u8 (ofS 4 [a, b]) = l6.toArray by rw [hl6, Array.toArray_toList, hrs, joinC])
  have HD := Lib.hid (And.intro hda (And.intro hdb (And.intro hZs (And.intro ha hb))))
  have HR := Lib.hid hR
  have hsl := dig_slice
  clear hZ16 hZs hda hdb hrs hR ha hb
  go_enter Tryd.func17, Tryd.ntmps17
  go_wp2_with fail
  obtain ⟨w0, hw0⟩ : ∃ w0, w0 = ((w.alloc (.cells da 25)).alloc (.cells db 25)).alloc (.cells Z16 25) := ⟨_, rfl⟩
  rw [← hw0]
  have s0 : w0.heap.size = w.heap.size + 3 := by rw [hw0]; simp
  have HB0 := Lib.hid (show Blk w0 w.heap.size 25 da ∧ Blk w0 (w.heap.size + 1) 25 db ∧ Blk w0 (w.heap.size + 1 + 1) 25 Z16 ∧ w.grownBy w0 none from by
    rw [hw0]
    have b1 := (Blk.new (w.alloc (.cells da 25)) 25 db).alloc (.cells Z16 25)
    have b2 := Blk.new ((w.alloc (.cells da 25)).alloc (.cells db 25)) 25 Z16
    simp only [World.size_alloc] at b1 b2
    exact ⟨((Blk.new w 25 da).alloc _).alloc _, b1, b2, grown_trans (grown_trans (World.grownBy_alloc w _ none) (World.grownBy_alloc _ _ none)) (World.grownBy_alloc _ _ none)⟩)
  clear hw0
  have W3 : w0.grownBy (w0.drew.alloc (.cells #[.slice (some ⟨w.heap.size, 0, none⟩) 16 16, .slice (some ⟨w.heap.size + 1, 0, none⟩) 16 16] 51)) none := grown_trans (grown_drew (World.grownBy.refl w0 none)) (World.grownBy_alloc _ _ none)
  have HP := Lib.hid (show PartsI (w0.drew.alloc (.cells #[.slice (some ⟨w.heap.size, 0, none⟩) 16 16, .slice (some ⟨w.heap.size + 1, 0, none⟩) 16 16] 51)) (some ⟨w0.heap.size, 0, none⟩) [a, b] from by
    have := parts_new w0.drew 51 #[.slice (some ⟨w.heap.size, 0, none⟩) 16 16, .slice (some ⟨w.heap.size + 1, 0, none⟩) 16 16] [a, b] (fun j hj => by
      have : j = 0 ∨ j = 1 := by simp at hj; omega
      rcases this with rfl | rfl
      · exact ⟨_, 16, 16, rfl, HD.out.2.2.2.1.1, Nat.le_refl _, bytes_blk (t := 25) (show Blk _ w.heap.size 25 (arrV .u8 a) by rw [← HD.out.1]; exact HB0.out.1.grown W3 (by simp))⟩
      · exact ⟨_, 16, 16, rfl, HD.out.2.2.2.2.1, Nat.le_refl _, bytes_blk (t := 25) (show Blk _ (w.heap.size + 1) 25 (arrV .u8 b) by rw [← HD.out.2.1]; exact HB0.out.2.1.grown W3 (by simp))⟩)
    simpa using this)
  have HW3 := Lib.hid (And.intro W3 (grown_trans HB0.out.2.2.2 W3))
  have hT : w0.drew.there (w.heap.size + 1 + 1) 0 16 := there_blk HB0.out.2.2.1.drew (by rw [HD.out.2.2.1]; exact Nat.le_refl _)
  clear s0 hs16 hl6 W3
  go_region_held3 (fun W => W.there (w.heap.size + 1 + 1) 0 16) (first | assumption | (refine there_alloc ?_ _; assumption) | (refine World.there_setCells ?_ _ _ _; assumption))
    ((first
      | (go_at_call 22; refine (of_is _ (HR.out.grown HW3.out.2 (by simp)) 4 _ 2 2 [a, b] rfl HP.out (by omega) hps).mono ?_; rintro e w9 ⟨rfl, hk9⟩; rw [HL6.out]; have hT9 := there_grown (by assumption) hk9)))
  have HK9 := Lib.hid (grown_trans HW3.out.2 hk9)
  have HB9 := Lib.hid ((HB0.out.2.2.1.grown HW3.out.1 (by simp)).grown hk9 (by simp))
  have HE := Lib.hid (show w9.setCells (w.heap.size + 1 + 1) 0 l6 = w9.setRow (w.heap.size + 1 + 1) rs by
    rw [HLE.out]
    exact setCells_row (P := Tryd.prog) HB9.out (by rw [HS6.out.1]; exact info16) (by rw [HD.out.2.2.1, HS6.out.1]) HS6.out.2.1)
  rw [HE.out]
  go_wp2_with fail
  refine bodyPost_ret (results_cell rfl _ _ _ ⟨w.heap.size + 1 + 1, 0, none⟩ (.agg rs) rfl (run_loadVar_row _ (w.heap.size + 1 + 1) 25 25 rs (0, 0) _ (HB9.out.row rs) Tryd.underlying25 rfl (by rw [HS6.out.1]; exact info16))) rfl ?_
  exact ⟨rfl, grown_row HK9.out (.inl (by omega)) rs⟩

theorem range_blk' {w : World} {g g' : Nat} {t : TypeId} {cs cs' : Array Value} {l : List Value} (h : Blk w g t cs) (hne : g ≠ g') (hl : l = cs.toList) : (w.setRow g' cs').rangeAt g 0 l := by
  rw [hl]; exact range_blk (h.farRow hne cs')

set_option maxRecDepth 100000 in
set_option maxHeartbeats 4000000 in
theorem rjoin_is (w : World) (a b : List Int) (ha : isDig a) (hb : isDig b) (da db rs : Array Value) (hda : da = arrV .u8 a) (hdb : db = arrV .u8 b) (hrs : rs = arrV .u8 (joinC a b)) :
    Calls Tryd.prog 18 #[.agg da, .agg db] w fun e w' => e = .returned (.agg rs) ∧ w.grownBy w' none := by
  obtain ⟨s0, h0⟩ := dig_str a ha
  obtain ⟨s1, h1⟩ := dig_str b hb
  obtain ⟨Z16, hZ16⟩ : ∃ Z, Z = arrV .u8 (List.replicate 16 0) := ⟨_, rfl⟩
  have hz16 : ∀ w, Sem.run Tryd.prog (zeroValue 25) w = .ok (.agg Z16) w := fun w => by rw [hZ16]; exact z16run w
  obtain ⟨la, hla⟩ : ∃ l, l = da.toList := ⟨_, rfl⟩
  obtain ⟨lb, hlb⟩ : ∃ l, l = db.toList := ⟨_, rfl⟩
  have h16 : Z16.size = 16 ∧ da.size = 16 ∧ db.size = 16 := ⟨by rw [hZ16]; rfl, by rw [hda, arr_size, ha.1], by rw [hdb, arr_size, hb.1]⟩
  have HD := Lib.hid h16
  have HL := Lib.hid (And.intro hla hlb)
  have HI := Lib.hid (show (Tryd.prog.info? 25).map (·.size) = some la.length ∧ (Tryd.prog.info? 25).map (·.size) = some lb.length from ⟨by rw [hla, Array.length_toList, h16.2.1]; exact info16, by rw [hlb, Array.length_toList, h16.2.2]; exact info16⟩)
  have T0 := Lib.hid (fun V => text_v V a ha.1 s0 h0 la.toArray (by rw [hla, Array.toArray_toList, hda]))
  have T1 := Lib.hid (fun V => text_v V b hb.1 s1 h1 lb.toArray (by rw [hlb, Array.toArray_toList, hdb]))
  have HS6 := Lib.hid (show rs.size = 16 ∧ (rs.all fun x => x.oneCell') = true ∧ arrV .u8 (ofS 4 [a, b]) = rs from ⟨by rw [hrs, arr_size]; exact (joinC_dig _ _).1, by rw [hrs]; exact arr_one _ _, by rw [hrs, joinC]⟩)
  have HE := Lib.hid (show [s0, s1].map xsOf = [a, b] by simp [h0, h1])
  have HTL := Lib.hid (show (∀ t ∈ [s0, s1], t.size ≤ 2000) ∧ (framedL 4 ([s0, s1].map xsOf)).length ≤ 50000 from ⟨fun t ht => by
    have : (xsOf t).length = 16 := by
      simp only [List.mem_cons, List.not_mem_nil, or_false] at ht
      rcases ht with rfl | rfl
      · rw [h0]; exact ha.1
      · rw [h1]; exact hb.1
    rw [xsOf_length] at this
    omega, by
    rw [HE.out]
    have := framedL_le 4 16 [a, b] (fun p hp => by
      simp only [List.mem_cons, List.not_mem_nil, or_false] at hp
      rcases hp with rfl | rfl
      · exact Nat.le_of_eq ha.1
      · exact Nat.le_of_eq hb.1)
    simp at this
    omega⟩)
  clear hZ16 hda hdb hrs ha hb h0 h1 hla hlb h16
  go_enter Tryd.func18, Tryd.ntmps18
  go_wp2_with fail
  obtain ⟨w0, hw0⟩ : ∃ w0, w0 = ((w.alloc (.cells da 25)).alloc (.cells db 25)).alloc (.cells Z16 25) := ⟨_, rfl⟩
  rw [← hw0]
  have HB0 := Lib.hid (show Blk w0 w.heap.size 25 da ∧ Blk w0 (w.heap.size + 1) 25 db ∧ Blk w0 (w.heap.size + 1 + 1) 25 Z16 ∧ w.grownBy w0 none from by
    rw [hw0]
    have b1 := (Blk.new (w.alloc (.cells da 25)) 25 db).alloc (.cells Z16 25)
    have b2 := Blk.new ((w.alloc (.cells da 25)).alloc (.cells db 25)) 25 Z16
    simp only [World.size_alloc] at b1 b2
    exact ⟨((Blk.new w 25 da).alloc _).alloc _, b1, b2, grown_trans (grown_trans (World.grownBy_alloc w _ none) (World.grownBy_alloc _ _ none)) (World.grownBy_alloc _ _ none)⟩)
  clear hw0
  have HSS := Lib.hid (show ∀ V, w0.grownBy V none → V.rangeAt w.heap.size 0 la ∧ V.rangeAt (w.heap.size + 1) 0 lb from fun V hV => by
    obtain ⟨e1, e2⟩ := HL.out
    rw [e1, e2]
    exact ⟨range_blk (HB0.out.1.grown hV (by simp)), range_blk (HB0.out.2.1.grown hV (by simp))⟩)
  have HK0 := Lib.hid (grown_drew (World.grownBy.refl w0 none))
  refine wp_region_held_drew (S := fun V => V.rangeAt w.heap.size 0 la ∧ V.rangeAt (w.heap.size + 1) 0 lb) (by kernel_rfl) (HSS.out _ (grown_drew (World.grownBy.refl w0 none))) (fun hHeld => ?_)
  refine wpAnyH_take (i := 0) (oi := _) (v := .agg la.toArray) rfl (by kernel_rfl) (by kernel_rfl) (by kernel_rfl) (fun _ _ _ h => h) (yieldsIf_load_mid (by rfl) _ _ rfl w.heap.size 0 rfl la _ (fun V hSw => hSw.1) Tryd.underlying25 rfl HI.out.1) (by assumption) ?rest0j
  simp only [Act.put, List.getElem_toArray, List.getElem_cons_zero, List.setIfInBounds_toArray, List.set_cons_zero, List.set_cons_succ]
  refine wpAnyH_take (i := 2) (oi := _) (v := .agg lb.toArray) rfl (by kernel_rfl) (by kernel_rfl) (by kernel_rfl) (fun _ _ _ h => h) (yieldsIf_load_mid (by rfl) _ _ rfl (w.heap.size + 1) 0 rfl lb _ (fun V hSw => hSw.2) Tryd.underlying25 rfl HI.out.2) (by assumption) ?rest2j
  simp only [Act.put, List.getElem_toArray, List.getElem_cons_succ, List.getElem_cons_zero, List.setIfInBounds_toArray, List.set_cons_zero, List.set_cons_succ]
  refine wpAnyH_ready (rs := [1]) (by kernel_rfl) (by simp) ?_
  refine AllReadyH.cons (o := _) rfl (fun K hK => ?_) AllReadyH.nil
  go_simp
  refine (T0.out _).mono ?_
  rintro e w1 ⟨rfl, hk1⟩
  have HK1 := Lib.hid (grown_trans HK0.out hk1)
  clear hk1
  go_wp2_with fail
  refine hK.out _ _ (HSS.out _ HK1.out) (fun hHeld => ?_)
  clear hK K
  try simp only [Act.put, List.setIfInBounds_toArray, List.set_cons_zero, List.set_cons_succ]
  refine wpAnyH_ready (rs := [3]) (by kernel_rfl) (by simp) ?_
  refine AllReadyH.cons (o := _) rfl (fun K hK => ?_) AllReadyH.nil
  go_simp
  refine (T1.out _).mono ?_
  rintro e w2 ⟨rfl, hk2⟩
  have HK2 := Lib.hid (grown_trans HK1.out hk2)
  clear hk2
  go_wp2_with fail
  refine hK.out _ _ (HSS.out _ HK2.out) (fun hHeld => ?_)
  clear hK K
  try simp only [Act.put, List.setIfInBounds_toArray, List.set_cons_zero, List.set_cons_succ]
  refine wpAnyH_ready (rs := [4]) (by kernel_rfl) (by simp) ?_
  refine AllReadyH.cons (o := _) rfl (fun K hK => ?_) AllReadyH.nil
  go_simp
  have hga := grown_trans HK2.out (World.grownBy_alloc w2 (.cells ([s0, s1].map Value.string).toArray 9) none)
  refine hK.out _ _ (HSS.out _ hga) (fun hHeld => ?_)
  clear hK K
  try simp only [Act.put, List.setIfInBounds_toArray, List.set_cons_zero, List.set_cons_succ]
  have hP := texts_new w2 9 [s0, s1]
  refine wpAnyH_ready (rs := [5]) (by kernel_rfl) (by simp) ?_
  refine AllReadyH.cons (o := _) rfl (fun K hK => ?_) AllReadyH.nil
  go_simp
  refine (rof_is _ 4 (some ⟨w2.heap.size, 0, none⟩) 2 2 [s0, s1] rfl hP (by omega) HTL.out.1 HTL.out.2).mono ?_
  rintro e w4 ⟨rfl, hk4⟩
  rw [HE.out, HS6.out.2.2]
  have HK4 := Lib.hid (grown_trans hga hk4)
  clear hP hga hk4
  go_wp2_with fail
  refine hK.out _ _ (HSS.out _ HK4.out) (fun hHeld => ?_)
  clear hK K
  try simp only [Act.put, List.setIfInBounds_toArray, List.set_cons_zero, List.set_cons_succ]
  refine wpAnyH_ready (rs := [6]) (by kernel_rfl) (by simp) ?_
  refine AllReadyH.cons (o := _) rfl (fun K hK => ?_) AllReadyH.nil
  rw [if_pos (by rfl)]
  have HZ4 := Lib.hid (HB0.out.2.2.1.grown HK4.out (by simp))
  refine wp_store_row _ _ _ rfl (w.heap.size + 1 + 1) rs rfl rfl 25 _ HZ4.out (by rw [HS6.out.1]; exact info16) (by rw [HD.out.1, HS6.out.1]) HS6.out.2.1 ?_
  refine hK.out _ _ ⟨range_blk' (HB0.out.1.grown HK4.out (by simp)) (by omega) HL.out.1, range_blk' (HB0.out.2.1.grown HK4.out (by simp)) (by omega) HL.out.2⟩ (fun _ => ?_)
  refine wpAnyH_done (by kernel_rfl) ?_ _
  go_wp2_with fail
  refine bodyPost_ret (results_cell rfl _ _ _ ⟨w.heap.size + 1 + 1, 0, none⟩ (.agg rs) rfl (run_loadVar_row _ (w.heap.size + 1 + 1) 25 25 rs (0, 0) _ (HZ4.out.row rs) Tryd.underlying25 rfl (by rw [HS6.out.1]; exact info16))) rfl ?_
  exact ⟨rfl, grown_row (grown_trans HB0.out.2.2.2 HK4.out) (.inl (by omega)) rs⟩
end Go.Proofs.YtobmpdpcjaaklaaDoor
