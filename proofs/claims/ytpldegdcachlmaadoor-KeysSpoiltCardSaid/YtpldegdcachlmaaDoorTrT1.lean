/-
  Several texts in one: TrA, TrC, TrD, TrE, TrP.
-/
import Derived.Test.YtpldegdcachlmaaDoorDiA
import Derived.Test.YtpldegdcachlmaaDoorErrA
/-
  trees.Join and quorateref04.Join.
-/

namespace Go.Proofs.YtpldegdcachlmaaDoor
open Go.RowKit

/-- The digest above two. -/
def joinC (a b : List Int) : List Int := ofS 4 [a, b]
theorem joinC_dig (a b : List Int) : isDig (joinC a b) := by rw [joinC]; exact ofS_dig _ _

set_option maxRecDepth 100000 in
set_option maxHeartbeats 2000000 in
theorem join_is (w : World) (hR : Rounds w) (a b : List Int) (ha : isDig a) (hb : isDig b) (da db rs : Array Value) (hda : da = arrV .u8 a) (hdb : db = arrV .u8 b) (hrs : rs = arrV .u8 (joinC a b)) :
    Calls Tryd.prog 51 #[.agg da, .agg db] w fun e w' => e = .returned (.agg rs) ∧ w.grownBy w' none := by
  obtain ⟨Z16, hZ16⟩ : ∃ Z, Z = arrV .u8 (List.replicate 16 0) := ⟨_, rfl⟩
  have hz16 : ∀ w, Sem.run Tryd.prog (zeroValue 23) w = .ok (.agg Z16) w := fun w => by rw [hZ16]; exact z16run w
  have hZs : Z16.size = 16 := by rw [hZ16]; rfl
  have hps : ∀ p ∈ [a, b], p.length ≤ 65536 := by
    intro p hp
    have : p.length = 16 := by
      simp only [List.mem_cons, List.not_mem_nil, or_false] at hp
      rcases hp with rfl | rfl
      · exact ha.1
      · exact hb.1
    omega
  have hs16 : rs.size = 16 := by rw [hrs, arr_size]; exact (joinC_dig _ _).1
  have HS6 := Lib.hid (And.intro hs16 (And.intro (show (rs.all fun x => x.oneCell') = true by rw [hrs]; exact arr_one _ _) hrs))
  obtain ⟨l6, hl6⟩ : ∃ l, l = rs.toList := ⟨_, rfl⟩
  have hl16 : l6.length = 16 := by rw [hl6, Array.length_toList, hs16]
  have hi6 : (Tryd.prog.info? 23).map (·.size) = some l6.length := by rw [hl16]; exact info16
  have ho6 : ∀ v ∈ l6, v.oneCell' = true := by rw [hl6, hrs]; simp [Value.oneCell']
  have HLE := Lib.hid hl6
  have HL6 := Lib.hid (show arrV .u8 (ofS 4 [a, b]) = l6.toArray by rw [hl6, Array.toArray_toList, hrs, joinC])
  have HD := Lib.hid (And.intro hda (And.intro hdb (And.intro hZs (And.intro ha hb))))
  have HR := Lib.hid hR
  have hsl := dig_slice
  clear hZ16 hZs hda hdb hrs hR ha hb
  go_enter Tryd.func51, Tryd.ntmps51
  go_wp2_with fail
  obtain ⟨w0, hw0⟩ : ∃ w0, w0 = ((w.alloc (.cells da 23)).alloc (.cells db 23)).alloc (.cells Z16 23) := ⟨_, rfl⟩
  rw [← hw0]
  have s0 : w0.heap.size = w.heap.size + 3 := by rw [hw0]; simp
  have HB0 := Lib.hid (show Blk w0 w.heap.size 23 da ∧ Blk w0 (w.heap.size + 1) 23 db ∧ Blk w0 (w.heap.size + 1 + 1) 23 Z16 ∧ w.grownBy w0 none from by
    rw [hw0]
    have b1 := (Blk.new (w.alloc (.cells da 23)) 23 db).alloc (.cells Z16 23)
    have b2 := Blk.new ((w.alloc (.cells da 23)).alloc (.cells db 23)) 23 Z16
    simp only [World.size_alloc] at b1 b2
    exact ⟨((Blk.new w 23 da).alloc _).alloc _, b1, b2, grown_trans (grown_trans (World.grownBy_alloc w _ none) (World.grownBy_alloc _ _ none)) (World.grownBy_alloc _ _ none)⟩)
  clear hw0
  have W3 : w0.grownBy (w0.drew.alloc (.cells #[.slice (some ⟨w.heap.size, 0, none⟩) 16 16, .slice (some ⟨w.heap.size + 1, 0, none⟩) 16 16] 70)) none := grown_trans (grown_drew (World.grownBy.refl w0 none)) (World.grownBy_alloc _ _ none)
  have HP := Lib.hid (show PartsI (w0.drew.alloc (.cells #[.slice (some ⟨w.heap.size, 0, none⟩) 16 16, .slice (some ⟨w.heap.size + 1, 0, none⟩) 16 16] 70)) (some ⟨w0.heap.size, 0, none⟩) [a, b] from by
    have := parts_new w0.drew 70 #[.slice (some ⟨w.heap.size, 0, none⟩) 16 16, .slice (some ⟨w.heap.size + 1, 0, none⟩) 16 16] [a, b] (fun j hj => by
      have : j = 0 ∨ j = 1 := by simp at hj; omega
      rcases this with rfl | rfl
      · exact ⟨_, 16, 16, rfl, HD.out.2.2.2.1.1, Nat.le_refl _, bytes_blk (t := 23) (show Blk _ w.heap.size 23 (arrV .u8 a) by rw [← HD.out.1]; exact HB0.out.1.grown W3 (by simp))⟩
      · exact ⟨_, 16, 16, rfl, HD.out.2.2.2.2.1, Nat.le_refl _, bytes_blk (t := 23) (show Blk _ (w.heap.size + 1) 23 (arrV .u8 b) by rw [← HD.out.2.1]; exact HB0.out.2.1.grown W3 (by simp))⟩)
    simpa using this)
  have HW3 := Lib.hid (And.intro W3 (grown_trans HB0.out.2.2.2 W3))
  have hT : w0.drew.there (w.heap.size + 1 + 1) 0 16 := there_blk HB0.out.2.2.1.drew (by rw [HD.out.2.2.1]; exact Nat.le_refl _)
  clear s0 hs16 hl6 W3
  go_region_held3 (fun W => W.there (w.heap.size + 1 + 1) 0 16) (first | assumption | (refine there_alloc ?_ _; assumption) | (refine World.there_setCells ?_ _ _ _; assumption))
    ((first
      | (go_at_call 55; refine (of_is _ (HR.out.grown HW3.out.2 (by simp)) 4 _ 2 2 [a, b] rfl HP.out (by omega) hps).mono ?_; rintro e w9 ⟨rfl, hk9⟩; rw [HL6.out]; have hT9 := there_grown (by assumption) hk9)))
  have HK9 := Lib.hid (grown_trans HW3.out.2 hk9)
  have HB9 := Lib.hid ((HB0.out.2.2.1.grown HW3.out.1 (by simp)).grown hk9 (by simp))
  have HE := Lib.hid (show w9.setCells (w.heap.size + 1 + 1) 0 l6 = w9.setRow (w.heap.size + 1 + 1) rs by
    rw [HLE.out]
    exact setCells_row (P := Tryd.prog) HB9.out (by rw [HS6.out.1]; exact info16) (by rw [HD.out.2.2.1, HS6.out.1]) HS6.out.2.1)
  rw [HE.out]
  go_wp2_with fail
  refine bodyPost_ret (results_cell rfl _ _ _ ⟨w.heap.size + 1 + 1, 0, none⟩ (.agg rs) rfl (run_loadVar_row _ (w.heap.size + 1 + 1) 23 23 rs (0, 0) _ (HB9.out.row rs) Tryd.underlying23 rfl (by rw [HS6.out.1]; exact info16))) rfl ?_
  exact ⟨rfl, grown_row HK9.out (.inl (by omega)) rs⟩

theorem range_blk' {w : World} {g g' : Nat} {t : TypeId} {cs cs' : Array Value} {l : List Value} (h : Blk w g t cs) (hne : g ≠ g') (hl : l = cs.toList) : (w.setRow g' cs').rangeAt g 0 l := by
  rw [hl]; exact range_blk (h.farRow hne cs')

set_option maxRecDepth 100000 in
set_option maxHeartbeats 4000000 in
theorem rjoin_is (w : World) (a b : List Int) (ha : isDig a) (hb : isDig b) (da db rs : Array Value) (hda : da = arrV .u8 a) (hdb : db = arrV .u8 b) (hrs : rs = arrV .u8 (joinC a b)) :
    Calls Tryd.prog 26 #[.agg da, .agg db] w fun e w' => e = .returned (.agg rs) ∧ w.grownBy w' none := by
  obtain ⟨s0, h0⟩ := dig_str a ha
  obtain ⟨s1, h1⟩ := dig_str b hb
  obtain ⟨Z16, hZ16⟩ : ∃ Z, Z = arrV .u8 (List.replicate 16 0) := ⟨_, rfl⟩
  have hz16 : ∀ w, Sem.run Tryd.prog (zeroValue 23) w = .ok (.agg Z16) w := fun w => by rw [hZ16]; exact z16run w
  obtain ⟨la, hla⟩ : ∃ l, l = da.toList := ⟨_, rfl⟩
  obtain ⟨lb, hlb⟩ : ∃ l, l = db.toList := ⟨_, rfl⟩
  have h16 : Z16.size = 16 ∧ da.size = 16 ∧ db.size = 16 := ⟨by rw [hZ16]; rfl, by rw [hda, arr_size, ha.1], by rw [hdb, arr_size, hb.1]⟩
  have HD := Lib.hid h16
  have HL := Lib.hid (And.intro hla hlb)
  have HI := Lib.hid (show (Tryd.prog.info? 23).map (·.size) = some la.length ∧ (Tryd.prog.info? 23).map (·.size) = some lb.length from ⟨by rw [hla, Array.length_toList, h16.2.1]; exact info16, by rw [hlb, Array.length_toList, h16.2.2]; exact info16⟩)
  have T0 := Lib.hid (fun V => text_v V a ha.1 s0 h0 la.toArray (by rw [hla, Array.toArray_toList, hda]))
  have T1 := Lib.hid (fun V => text_v V b hb.1 s1 h1 lb.toArray (by rw [hlb, Array.toArray_toList, hdb]))
  have HS6 := Lib.hid (show rs.size = 16 ∧ (rs.all fun x => x.oneCell') = true ∧ arrV .u8 (ofS 4 [a, b]) = rs from ⟨by rw [hrs, arr_size]; exact (joinC_dig _ _).1, by rw [hrs]; exact arr_one _ _, by rw [hrs, joinC]⟩)
  have HE := Lib.hid (show [s0, s1].map xsOf = [a, b] by simp [h0, h1])
  have HTL := Lib.hid (show (∀ t ∈ [s0, s1], t.size ≤ 2000) ∧ (framedL 4 ([s0, s1].map xsOf)).length ≤ 50000 from ⟨fun t ht => by
    have : (xsOf t).length = 16 := by
      simp only [List.mem_cons, List.not_mem_nil, or_false] at ht
      rcases ht with rfl | rfl
      · rw [h0]; exact ha.1
      · rw [h1]; exact hb.1
    rw [xsOf_length] at this
    omega, by
    rw [HE.out]
    have := framedL_le 4 16 [a, b] (fun p hp => by
      simp only [List.mem_cons, List.not_mem_nil, or_false] at hp
      rcases hp with rfl | rfl
      · exact Nat.le_of_eq ha.1
      · exact Nat.le_of_eq hb.1)
    simp at this
    omega⟩)
  clear hZ16 hda hdb hrs ha hb h0 h1 hla hlb h16
  go_enter Tryd.func26, Tryd.ntmps26
  go_wp2_with fail
  obtain ⟨w0, hw0⟩ : ∃ w0, w0 = ((w.alloc (.cells da 23)).alloc (.cells db 23)).alloc (.cells Z16 23) := ⟨_, rfl⟩
  rw [← hw0]
  have HB0 := Lib.hid (show Blk w0 w.heap.size 23 da ∧ Blk w0 (w.heap.size + 1) 23 db ∧ Blk w0 (w.heap.size + 1 + 1) 23 Z16 ∧ w.grownBy w0 none from by
    rw [hw0]
    have b1 := (Blk.new (w.alloc (.cells da 23)) 23 db).alloc (.cells Z16 23)
    have b2 := Blk.new ((w.alloc (.cells da 23)).alloc (.cells db 23)) 23 Z16
    simp only [World.size_alloc] at b1 b2
    exact ⟨((Blk.new w 23 da).alloc _).alloc _, b1, b2, grown_trans (grown_trans (World.grownBy_alloc w _ none) (World.grownBy_alloc _ _ none)) (World.grownBy_alloc _ _ none)⟩)
  clear hw0
  have HSS := Lib.hid (show ∀ V, w0.grownBy V none → V.rangeAt w.heap.size 0 la ∧ V.rangeAt (w.heap.size + 1) 0 lb from fun V hV => by
    obtain ⟨e1, e2⟩ := HL.out
    rw [e1, e2]
    exact ⟨range_blk (HB0.out.1.grown hV (by simp)), range_blk (HB0.out.2.1.grown hV (by simp))⟩)
  have HK0 := Lib.hid (grown_drew (World.grownBy.refl w0 none))
  refine wp_region_held_drew (S := fun V => V.rangeAt w.heap.size 0 la ∧ V.rangeAt (w.heap.size + 1) 0 lb) (by kernel_rfl) (HSS.out _ (grown_drew (World.grownBy.refl w0 none))) (fun hHeld => ?_)
  refine wpAnyH_take (i := 0) (oi := _) (v := .agg la.toArray) rfl (by kernel_rfl) (by kernel_rfl) (by kernel_rfl) (fun _ _ _ h => h) (yieldsIf_load_mid (by rfl) _ _ rfl w.heap.size 0 rfl la _ (fun V hSw => hSw.1) Tryd.underlying23 rfl HI.out.1) (by assumption) ?rest0j
  simp only [Act.put, List.getElem_toArray, List.getElem_cons_zero, List.setIfInBounds_toArray, List.set_cons_zero, List.set_cons_succ]
  refine wpAnyH_take (i := 2) (oi := _) (v := .agg lb.toArray) rfl (by kernel_rfl) (by kernel_rfl) (by kernel_rfl) (fun _ _ _ h => h) (yieldsIf_load_mid (by rfl) _ _ rfl (w.heap.size + 1) 0 rfl lb _ (fun V hSw => hSw.2) Tryd.underlying23 rfl HI.out.2) (by assumption) ?rest2j
  simp only [Act.put, List.getElem_toArray, List.getElem_cons_succ, List.getElem_cons_zero, List.setIfInBounds_toArray, List.set_cons_zero, List.set_cons_succ]
  refine wpAnyH_ready (rs := [1]) (by kernel_rfl) (by simp) ?_
  refine AllReadyH.cons (o := _) rfl (fun K hK => ?_) AllReadyH.nil
  go_simp
  refine (T0.out _).mono ?_
  rintro e w1 ⟨rfl, hk1⟩
  have HK1 := Lib.hid (grown_trans HK0.out hk1)
  clear hk1
  go_wp2_with fail
  refine hK.out _ _ (HSS.out _ HK1.out) (fun hHeld => ?_)
  clear hK K
  try simp only [Act.put, List.setIfInBounds_toArray, List.set_cons_zero, List.set_cons_succ]
  refine wpAnyH_ready (rs := [3]) (by kernel_rfl) (by simp) ?_
  refine AllReadyH.cons (o := _) rfl (fun K hK => ?_) AllReadyH.nil
  go_simp
  refine (T1.out _).mono ?_
  rintro e w2 ⟨rfl, hk2⟩
  have HK2 := Lib.hid (grown_trans HK1.out hk2)
  clear hk2
  go_wp2_with fail
  refine hK.out _ _ (HSS.out _ HK2.out) (fun hHeld => ?_)
  clear hK K
  try simp only [Act.put, List.setIfInBounds_toArray, List.set_cons_zero, List.set_cons_succ]
  refine wpAnyH_ready (rs := [4]) (by kernel_rfl) (by simp) ?_
  refine AllReadyH.cons (o := _) rfl (fun K hK => ?_) AllReadyH.nil
  go_simp
  have hga := grown_trans HK2.out (World.grownBy_alloc w2 (.cells ([s0, s1].map Value.string).toArray 9) none)
  refine hK.out _ _ (HSS.out _ hga) (fun hHeld => ?_)
  clear hK K
  try simp only [Act.put, List.setIfInBounds_toArray, List.set_cons_zero, List.set_cons_succ]
  have hP := texts_new w2 9 [s0, s1]
  refine wpAnyH_ready (rs := [5]) (by kernel_rfl) (by simp) ?_
  refine AllReadyH.cons (o := _) rfl (fun K hK => ?_) AllReadyH.nil
  go_simp
  refine (rof_is _ 4 (some ⟨w2.heap.size, 0, none⟩) 2 2 [s0, s1] rfl hP (by omega) HTL.out.1 HTL.out.2).mono ?_
  rintro e w4 ⟨rfl, hk4⟩
  rw [HE.out, HS6.out.2.2]
  have HK4 := Lib.hid (grown_trans hga hk4)
  clear hP hga hk4
  go_wp2_with fail
  refine hK.out _ _ (HSS.out _ HK4.out) (fun hHeld => ?_)
  clear hK K
  try simp only [Act.put, List.setIfInBounds_toArray, List.set_cons_zero, List.set_cons_succ]
  refine wpAnyH_ready (rs := [6]) (by kernel_rfl) (by simp) ?_
  refine AllReadyH.cons (o := _) rfl (fun K hK => ?_) AllReadyH.nil
  rw [if_pos (by rfl)]
  have HZ4 := Lib.hid (HB0.out.2.2.1.grown HK4.out (by simp))
  refine wp_store_row _ _ _ rfl (w.heap.size + 1 + 1) rs rfl rfl 23 _ HZ4.out (by rw [HS6.out.1]; exact info16) (by rw [HD.out.1, HS6.out.1]) HS6.out.2.1 ?_
  refine hK.out _ _ ⟨range_blk' (HB0.out.1.grown HK4.out (by simp)) (by omega) HL.out.1, range_blk' (HB0.out.2.1.grown HK4.out (by simp)) (by omega) HL.out.2⟩ (fun _ => ?_)
  refine wpAnyH_done (by kernel_rfl) ?_ _
  go_wp2_with fail
  refine bodyPost_ret (results_cell rfl _ _ _ ⟨w.heap.size + 1 + 1, 0, none⟩ (.agg rs) rfl (run_loadVar_row _ (w.heap.size + 1 + 1) 23 23 rs (0, 0) _ (HZ4.out.row rs) Tryd.underlying23 rfl (by rw [HS6.out.1]; exact info16))) rfl ?_
  exact ⟨rfl, grown_row (grown_trans HB0.out.2.2.2 HK4.out) (.inl (by omega)) rs⟩
end Go.Proofs.YtpldegdcachlmaaDoor
/-
  trees.Climb and quorateref04.Climb.
-/

namespace Go.Proofs.YtpldegdcachlmaaDoor
open Go.RowKit

theorem i64_and1 (n : Int) : bits .and .i64 n 1 = n % 2 := by
  have h3 : (BitVec.ofInt 64 1).toNat = 2 ^ 1 - 1 := by decide
  have key : (BitVec.ofInt 64 n &&& BitVec.ofInt 64 1).toNat = (n % ((2 ^ 64 : Nat) : Int)).toNat % 2 ^ 1 := by
    rw [BitVec.toNat_and, BitVec.toNat_ofInt, h3, Nat.and_two_pow_sub_one_eq_mod]
  show IntKind.i64.wrap ((BitVec.ofInt 64 n &&& BitVec.ofInt 64 1).toNat : Nat) = n % 2
  rw [key, IntKind.wrap_i64]
  omega
/-- Where a way up has come to behind n digests. -/
def climbC (x : List Int) (i : Int) (ps : List (List Int)) : Nat → List Int
  | 0 => x
  | n + 1 => if i / 2 ^ n % 2 = 0 then joinC (climbC x i ps n) (ps.getD n zeroC) else joinC (ps.getD n zeroC) (climbC x i ps n)
theorem climbC_dig {x : List Int} (hx : isDig x) (i : Int) (ps : List (List Int)) : ∀ n, isDig (climbC x i ps n)
  | 0 => hx
  | n + 1 => by rw [climbC]; split <;> exact joinC_dig _ _
theorem leaf_yes (w : World) (lf : Int) (h : 0 ≤ lf ∧ lf < 32) : Calls Tryd.prog 46 #[.int .i64 lf] w fun e w' => e = .returned (.bool true) ∧ w' = w := by
  have d1 : decide (0 ≤ lf) = true := by simp; omega
  have d2 : decide (lf < 32) = true := by simp; omega
  obtain ⟨h1, h2⟩ := h
  go_enter Tryd.func46, Tryd.ntmps46
  go_wp2
  go_ret
  simp
theorem leaf_no (w : World) (lf : Int) (h : lf < 0 ∨ 32 ≤ lf) : Calls Tryd.prog 46 #[.int .i64 lf] w fun e w' => e = .returned (.bool false) ∧ w' = w := by
  by_cases h0 : lf < 0
  · have d1 : decide (0 ≤ lf) = false := by simp; omega
    have h1 : ¬ 0 ≤ lf := by omega
    go_enter Tryd.func46, Tryd.ntmps46
    go_wp2
    go_ret
    simp
  · have d1 : decide (0 ≤ lf) = true := by simp; omega
    have d2 : decide (lf < 32) = false := by simp; omega
    have h1 : 0 ≤ lf := by omega
    have h2 : ¬ lf < 32 := by omega
    go_enter Tryd.func46, Tryd.ntmps46
    go_wp2
    go_ret
    simp

set_option maxRecDepth 100000 in
set_option maxHeartbeats 8000000 in
theorem climb_ok (w : World) (hR : Rounds w) (x : List Int) (hx : isDig x) (lf : Int) (hlf : 0 ≤ lf ∧ lf < 32) (b off c : Nat) (ps : List (List Int)) (hl : ps.length = 5) (hps : ∀ p ∈ ps, isDig p) (hD : DigsAt w b off ps) (ds rs : Array Value) (hds : ds = arrV .u8 x) (hrs : rs = arrV .u8 (climbC x lf ps 5)) :
    Calls Tryd.prog 32 #[.agg ds, .int .i64 lf, .slice (some ⟨b, off, none⟩) 5 c] w fun e w' => e = .returned (.tuple #[.agg rs, .nilIface]) ∧ w.grownBy w' none := by
  obtain ⟨Z16, hZ16⟩ : ∃ Z, Z = arrV .u8 (List.replicate 16 0) := ⟨_, rfl⟩
  have hz16 : ∀ w, Sem.run Tryd.prog (zeroValue 23) w = .ok (.agg Z16) w := fun w => by rw [hZ16]; exact z16run w
  have HD := Lib.hid (show ds = arrV .u8 (climbC x lf ps 0) ∧ ds.size = 16 ∧ Z16.size = 16 ∧ (ds.all fun v => v.oneCell') = true from ⟨by rw [hds, climbC], by rw [hds, arr_size, hx.1], by rw [hZ16]; rfl, by rw [hds]; exact arr_one _ _⟩)
  have HN := Lib.hid (And.intro hx (And.intro hl (And.intro hps (And.intro hD (And.intro hrs hR)))))
  have HLF := Lib.hid hlf
  clear hZ16 hds hx hl hps hD hrs hR hlf
  go_enter Tryd.func32, Tryd.ntmps32
  go_wp2_with fail
  refine (leaf_yes _ lf HLF.out).mono ?_
  rintro e w' ⟨rfl, rfl⟩
  have b0 := (Blk.new w 23 ds).alloc (.cells Z16 23)
  have b1 := Blk.new (w.alloc (.cells ds 23)) 23 Z16
  have b2 := Blk.new ((w.alloc (.cells ds 23)).alloc (.cells Z16 23)) 23 Z16
  simp only [World.size_alloc] at b1 b2
  have HZ2 := Lib.hid (And.intro (b0.alloc (.cells Z16 23)) b2)
  have HF := Lib.hid (show Blk ((((w.alloc (.cells ds 23)).alloc (.cells Z16 23)).alloc (.cells Z16 23)).setRow (w.heap.size + 1 + 1) ds) (w.heap.size + 1) 23 Z16 ∧ Blk ((((w.alloc (.cells ds 23)).alloc (.cells Z16 23)).alloc (.cells Z16 23)).setRow (w.heap.size + 1 + 1) ds) (w.heap.size + 1 + 1) 23 ds ∧ w.grownBy ((((w.alloc (.cells ds 23)).alloc (.cells Z16 23)).alloc (.cells Z16 23)).setRow (w.heap.size + 1 + 1) ds) none from
    ⟨(b1.alloc (.cells Z16 23)).farRow (by omega) ds, b2.row ds, grown_row (grown_trans (grown_trans (World.grownBy_alloc w _ none) (World.grownBy_alloc _ _ none)) (World.grownBy_alloc _ _ none)) (.inl (by omega)) ds⟩)
  have HB0 := Lib.hid b0
  clear b0 b1 b2
  go_wp2_with (first
    | (refine wpList_load_row rfl 23 _ rfl w.heap.size rfl 23 ds (0, 0) _ HB0.out Tryd.underlying23 rfl (by rw [HD.out.2.1]; exact info16) ?_)
    | (refine wpList_store_row rfl 23 _ _ rfl (w.heap.size + 1 + 1) ds rfl rfl 23 _ HZ2.out.2 (by rw [HD.out.2.1]; exact info16) (by rw [HD.out.2.2.1, HD.out.2.1]) HD.out.2.2.2 ?_))
  generalize (((w.alloc (.cells ds 23)).alloc (.cells Z16 23)).alloc (.cells Z16 23)).setRow (w.heap.size + 1 + 1) ds = w3 at *
  go_loopw [24] (fun i wr => ∃ k : Nat, k ≤ 5 ∧ i = .int .i64 (k : Int) ∧ Blk wr (w.heap.size + 1 + 1) 23 (arrV .u8 (climbC x lf ps k)) ∧ Blk wr (w.heap.size + 1) 23 Z16 ∧ w.grownBy wr none) (fun i _ => 5 - (intOf i).toNat)
  case atStart => exact ⟨0, by omega, rfl, by rw [← HD.out.1]; exact HF.out.2.1, HF.out.1, HF.out.2.2⟩
  case round =>
    obtain ⟨k, hk, hi, hB, hZ, hG⟩ := hrel
    obtain ⟨cs, hcs⟩ : ∃ cs, cs = arrV .u8 (climbC x lf ps k) := ⟨_, rfl⟩
    rw [← hcs] at hB
    have hdk := climbC_dig HN.out.1 lf ps k
    have hsz : cs.size = 16 := by rw [hcs, arr_size]; exact hdk.1
    by_cases hlt : k < 5
    · have hpd := getD_dig HN.out.2.2.1 k
      obtain ⟨p, hp⟩ : ∃ p, p = ps.getD k zeroC := ⟨_, rfl⟩
      rw [← hp] at hpd
      obtain ⟨es, hes⟩ : ∃ es, es = arrV .u8 p := ⟨_, rfl⟩
      obtain ⟨el, hel⟩ : ∃ el, el = es.toList := ⟨_, rfl⟩
      have he16 : es.size = 16 := by rw [hes, arr_size]; exact hpd.1
      have hr1 : wr.rangeAt b (off + k * 16) el := by
        rw [hel, hes, hp]
        exact range_grown (HN.out.2.2.2.1 k (by rw [HN.out.2.1]; exact hlt)) hG
      obtain ⟨ns, hns⟩ : ∃ ns, ns = arrV .u8 (climbC x lf ps (k + 1)) := ⟨_, rfl⟩
      have hn16 : ns.size = 16 := by rw [hns, arr_size]; exact (climbC_dig HN.out.1 lf ps (k + 1)).1
      have HNS := Lib.hid (And.intro hn16 (And.intro (show (ns.all fun v => v.oneCell') = true by rw [hns]; exact arr_one _ _) hns))
      have HES := Lib.hid (And.intro he16 (And.intro (show (es.all fun v => v.oneCell') = true by rw [hes]; exact arr_one _ _) (And.intro hr1 (And.intro (show (Tryd.prog.info? 23).map (·.size) = some el.length by rw [hel, Array.length_toList, he16]; exact info16) (show el.toArray = es by rw [hel, Array.toArray_toList])))))
      have HB := Lib.hid (And.intro hB (And.intro hZ (And.intro hG hsz)))
      have hand := i64_and1 (lf / 2 ^ k)
      by_cases hpar : lf / 2 ^ k % 2 = 0
      · have J := Lib.hid (fun (V : World) (hV : w.grownBy V none) => join_is V (HN.out.2.2.2.2.2.grown hV (by simp)) (climbC x lf ps k) p hdk hpd cs es ns hcs hes (by rw [hns, climbC, if_pos hpar, ← hp]))
        rw [hpar] at hand
        have hcases : k = 0 ∨ k = 1 ∨ k = 2 ∨ k = 3 ∨ k = 4 := by omega
        clear hB hZ hG hk hlt hp hes hel he16 hr1 hns hn16 hpar hcs hsz
        rcases hcases with rfl | rfl | rfl | rfl | rfl
        · subst hi
          have hand' : bits .and .i64 (lf) 1 = 0 := by simpa using hand
          clear hand
          go_wp2_with (first
            | (refine wpList_load_mid rfl 23 _ rfl b _ rfl el _ HES.out.2.2.1 Tryd.underlying23 rfl HES.out.2.2.2.1 ?_; rw [HES.out.2.2.2.2])
            | (refine wpList_store_row rfl 23 _ _ rfl wr.heap.size es rfl rfl 23 _ (heap_alloc_new wr _) (by rw [HES.out.1]; exact info16) (by rw [HD.out.2.2.1, HES.out.1]) HES.out.2.1 ?_
               obtain ⟨w4, hw4⟩ : ∃ w4, w4 = (wr.alloc (.cells Z16 23)).setRow wr.heap.size es := ⟨_, rfl⟩
               obtain ⟨p10, hp10⟩ : ∃ p, p = wr.heap.size := ⟨_, rfl⟩
               rw [← hw4, ← hp10]
               have HB4 := Lib.hid (show Blk w4 p10 23 es ∧ Blk w4 (w.heap.size + 1 + 1) 23 cs ∧ Blk w4 (w.heap.size + 1) 23 Z16 ∧ w.grownBy w4 none from by
                 rw [hw4, hp10]
                 have hg4 := grown_row (World.grownBy_alloc wr (.cells Z16 23) none) (.inl (Nat.le_refl _)) es
                 exact ⟨(Blk.new wr 23 Z16).row es, HB.out.1.grown hg4 (by simp), HB.out.2.1.grown hg4 (by simp), grown_trans HB.out.2.2.1 hg4⟩)
               clear hw4 hp10)
            | (refine wpList_load_row rfl 23 _ rfl (w.heap.size + 1 + 1) rfl 23 cs (0, 0) _ HB4.out.2.1 Tryd.underlying23 rfl (by rw [HB.out.2.2.2]; exact info16) ?_)
            | (refine wpList_load_row rfl 23 _ rfl p10 rfl 23 es (0, 0) _ HB4.out.1 Tryd.underlying23 rfl (by rw [HES.out.1]; exact info16) ?_))
          refine (J.out w4 HB4.out.2.2.2).mono ?_
          rintro e w5 ⟨rfl, hk5⟩
          have HB5 := Lib.hid (And.intro (HB4.out.2.1.grown hk5 (by simp)) (And.intro (HB4.out.2.2.1.grown hk5 (by simp)) (grown_trans HB4.out.2.2.2 hk5)))
          clear hk5
          go_wp2_with (refine wpList_store_row rfl 23 _ _ rfl (w.heap.size + 1 + 1) ns rfl rfl 23 _ HB5.out.1 (by rw [HNS.out.1]; exact info16) (by rw [HB.out.2.2.2, HNS.out.1]) HNS.out.2.1 ?_)
          go_roundw
          case rel => exact ⟨1, by omega, rfl, by rw [← HNS.out.2.2]; exact HB5.out.1.row ns, HB5.out.2.1.farRow (by omega) ns, grown_row HB5.out.2.2 (.inl (by omega)) ns⟩
          case measure => simp [intOf]
        · subst hi
          have hand' : bits .and .i64 (lf / 2) 1 = 0 := by simpa using hand
          clear hand
          go_wp2_with (first
            | (refine wpList_load_mid rfl 23 _ rfl b _ rfl el _ HES.out.2.2.1 Tryd.underlying23 rfl HES.out.2.2.2.1 ?_; rw [HES.out.2.2.2.2])
            | (refine wpList_store_row rfl 23 _ _ rfl wr.heap.size es rfl rfl 23 _ (heap_alloc_new wr _) (by rw [HES.out.1]; exact info16) (by rw [HD.out.2.2.1, HES.out.1]) HES.out.2.1 ?_
               obtain ⟨w4, hw4⟩ : ∃ w4, w4 = (wr.alloc (.cells Z16 23)).setRow wr.heap.size es := ⟨_, rfl⟩
               obtain ⟨p10, hp10⟩ : ∃ p, p = wr.heap.size := ⟨_, rfl⟩
               rw [← hw4, ← hp10]
               have HB4 := Lib.hid (show Blk w4 p10 23 es ∧ Blk w4 (w.heap.size + 1 + 1) 23 cs ∧ Blk w4 (w.heap.size + 1) 23 Z16 ∧ w.grownBy w4 none from by
                 rw [hw4, hp10]
                 have hg4 := grown_row (World.grownBy_alloc wr (.cells Z16 23) none) (.inl (Nat.le_refl _)) es
                 exact ⟨(Blk.new wr 23 Z16).row es, HB.out.1.grown hg4 (by simp), HB.out.2.1.grown hg4 (by simp), grown_trans HB.out.2.2.1 hg4⟩)
               clear hw4 hp10)
            | (refine wpList_load_row rfl 23 _ rfl (w.heap.size + 1 + 1) rfl 23 cs (0, 0) _ HB4.out.2.1 Tryd.underlying23 rfl (by rw [HB.out.2.2.2]; exact info16) ?_)
            | (refine wpList_load_row rfl 23 _ rfl p10 rfl 23 es (0, 0) _ HB4.out.1 Tryd.underlying23 rfl (by rw [HES.out.1]; exact info16) ?_))
          refine (J.out w4 HB4.out.2.2.2).mono ?_
          rintro e w5 ⟨rfl, hk5⟩
          have HB5 := Lib.hid (And.intro (HB4.out.2.1.grown hk5 (by simp)) (And.intro (HB4.out.2.2.1.grown hk5 (by simp)) (grown_trans HB4.out.2.2.2 hk5)))
          clear hk5
          go_wp2_with (refine wpList_store_row rfl 23 _ _ rfl (w.heap.size + 1 + 1) ns rfl rfl 23 _ HB5.out.1 (by rw [HNS.out.1]; exact info16) (by rw [HB.out.2.2.2, HNS.out.1]) HNS.out.2.1 ?_)
          go_roundw
          case rel => exact ⟨2, by omega, rfl, by rw [← HNS.out.2.2]; exact HB5.out.1.row ns, HB5.out.2.1.farRow (by omega) ns, grown_row HB5.out.2.2 (.inl (by omega)) ns⟩
          case measure => simp [intOf]
        · subst hi
          have hand' : bits .and .i64 (lf / 4) 1 = 0 := by simpa using hand
          clear hand
          go_wp2_with (first
            | (refine wpList_load_mid rfl 23 _ rfl b _ rfl el _ HES.out.2.2.1 Tryd.underlying23 rfl HES.out.2.2.2.1 ?_; rw [HES.out.2.2.2.2])
            | (refine wpList_store_row rfl 23 _ _ rfl wr.heap.size es rfl rfl 23 _ (heap_alloc_new wr _) (by rw [HES.out.1]; exact info16) (by rw [HD.out.2.2.1, HES.out.1]) HES.out.2.1 ?_
               obtain ⟨w4, hw4⟩ : ∃ w4, w4 = (wr.alloc (.cells Z16 23)).setRow wr.heap.size es := ⟨_, rfl⟩
               obtain ⟨p10, hp10⟩ : ∃ p, p = wr.heap.size := ⟨_, rfl⟩
               rw [← hw4, ← hp10]
               have HB4 := Lib.hid (show Blk w4 p10 23 es ∧ Blk w4 (w.heap.size + 1 + 1) 23 cs ∧ Blk w4 (w.heap.size + 1) 23 Z16 ∧ w.grownBy w4 none from by
                 rw [hw4, hp10]
                 have hg4 := grown_row (World.grownBy_alloc wr (.cells Z16 23) none) (.inl (Nat.le_refl _)) es
                 exact ⟨(Blk.new wr 23 Z16).row es, HB.out.1.grown hg4 (by simp), HB.out.2.1.grown hg4 (by simp), grown_trans HB.out.2.2.1 hg4⟩)
               clear hw4 hp10)
            | (refine wpList_load_row rfl 23 _ rfl (w.heap.size + 1 + 1) rfl 23 cs (0, 0) _ HB4.out.2.1 Tryd.underlying23 rfl (by rw [HB.out.2.2.2]; exact info16) ?_)
            | (refine wpList_load_row rfl 23 _ rfl p10 rfl 23 es (0, 0) _ HB4.out.1 Tryd.underlying23 rfl (by rw [HES.out.1]; exact info16) ?_))
          refine (J.out w4 HB4.out.2.2.2).mono ?_
          rintro e w5 ⟨rfl, hk5⟩
          have HB5 := Lib.hid (And.intro (HB4.out.2.1.grown hk5 (by simp)) (And.intro (HB4.out.2.2.1.grown hk5 (by simp)) (grown_trans HB4.out.2.2.2 hk5)))
          clear hk5
          go_wp2_with (refine wpList_store_row rfl 23 _ _ rfl (w.heap.size + 1 + 1) ns rfl rfl 23 _ HB5.out.1 (by rw [HNS.out.1]; exact info16) (by rw [HB.out.2.2.2, HNS.out.1]) HNS.out.2.1 ?_)
          go_roundw
          case rel => exact ⟨3, by omega, rfl, by rw [← HNS.out.2.2]; exact HB5.out.1.row ns, HB5.out.2.1.farRow (by omega) ns, grown_row HB5.out.2.2 (.inl (by omega)) ns⟩
          case measure => simp [intOf]
        · subst hi
          have hand' : bits .and .i64 (lf / 8) 1 = 0 := by simpa using hand
          clear hand
          go_wp2_with (first
            | (refine wpList_load_mid rfl 23 _ rfl b _ rfl el _ HES.out.2.2.1 Tryd.underlying23 rfl HES.out.2.2.2.1 ?_; rw [HES.out.2.2.2.2])
            | (refine wpList_store_row rfl 23 _ _ rfl wr.heap.size es rfl rfl 23 _ (heap_alloc_new wr _) (by rw [HES.out.1]; exact info16) (by rw [HD.out.2.2.1, HES.out.1]) HES.out.2.1 ?_
               obtain ⟨w4, hw4⟩ : ∃ w4, w4 = (wr.alloc (.cells Z16 23)).setRow wr.heap.size es := ⟨_, rfl⟩
               obtain ⟨p10, hp10⟩ : ∃ p, p = wr.heap.size := ⟨_, rfl⟩
               rw [← hw4, ← hp10]
               have HB4 := Lib.hid (show Blk w4 p10 23 es ∧ Blk w4 (w.heap.size + 1 + 1) 23 cs ∧ Blk w4 (w.heap.size + 1) 23 Z16 ∧ w.grownBy w4 none from by
                 rw [hw4, hp10]
                 have hg4 := grown_row (World.grownBy_alloc wr (.cells Z16 23) none) (.inl (Nat.le_refl _)) es
                 exact ⟨(Blk.new wr 23 Z16).row es, HB.out.1.grown hg4 (by simp), HB.out.2.1.grown hg4 (by simp), grown_trans HB.out.2.2.1 hg4⟩)
               clear hw4 hp10)
            | (refine wpList_load_row rfl 23 _ rfl (w.heap.size + 1 + 1) rfl 23 cs (0, 0) _ HB4.out.2.1 Tryd.underlying23 rfl (by rw [HB.out.2.2.2]; exact info16) ?_)
            | (refine wpList_load_row rfl 23 _ rfl p10 rfl 23 es (0, 0) _ HB4.out.1 Tryd.underlying23 rfl (by rw [HES.out.1]; exact info16) ?_))
          refine (J.out w4 HB4.out.2.2.2).mono ?_
          rintro e w5 ⟨rfl, hk5⟩
          have HB5 := Lib.hid (And.intro (HB4.out.2.1.grown hk5 (by simp)) (And.intro (HB4.out.2.2.1.grown hk5 (by simp)) (grown_trans HB4.out.2.2.2 hk5)))
          clear hk5
          go_wp2_with (refine wpList_store_row rfl 23 _ _ rfl (w.heap.size + 1 + 1) ns rfl rfl 23 _ HB5.out.1 (by rw [HNS.out.1]; exact info16) (by rw [HB.out.2.2.2, HNS.out.1]) HNS.out.2.1 ?_)
          go_roundw
          case rel => exact ⟨4, by omega, rfl, by rw [← HNS.out.2.2]; exact HB5.out.1.row ns, HB5.out.2.1.farRow (by omega) ns, grown_row HB5.out.2.2 (.inl (by omega)) ns⟩
          case measure => simp [intOf]
        · subst hi
          have hand' : bits .and .i64 (lf / 16) 1 = 0 := by simpa using hand
          clear hand
          go_wp2_with (first
            | (refine wpList_load_mid rfl 23 _ rfl b _ rfl el _ HES.out.2.2.1 Tryd.underlying23 rfl HES.out.2.2.2.1 ?_; rw [HES.out.2.2.2.2])
            | (refine wpList_store_row rfl 23 _ _ rfl wr.heap.size es rfl rfl 23 _ (heap_alloc_new wr _) (by rw [HES.out.1]; exact info16) (by rw [HD.out.2.2.1, HES.out.1]) HES.out.2.1 ?_
               obtain ⟨w4, hw4⟩ : ∃ w4, w4 = (wr.alloc (.cells Z16 23)).setRow wr.heap.size es := ⟨_, rfl⟩
               obtain ⟨p10, hp10⟩ : ∃ p, p = wr.heap.size := ⟨_, rfl⟩
               rw [← hw4, ← hp10]
               have HB4 := Lib.hid (show Blk w4 p10 23 es ∧ Blk w4 (w.heap.size + 1 + 1) 23 cs ∧ Blk w4 (w.heap.size + 1) 23 Z16 ∧ w.grownBy w4 none from by
                 rw [hw4, hp10]
                 have hg4 := grown_row (World.grownBy_alloc wr (.cells Z16 23) none) (.inl (Nat.le_refl _)) es
                 exact ⟨(Blk.new wr 23 Z16).row es, HB.out.1.grown hg4 (by simp), HB.out.2.1.grown hg4 (by simp), grown_trans HB.out.2.2.1 hg4⟩)
               clear hw4 hp10)
            | (refine wpList_load_row rfl 23 _ rfl (w.heap.size + 1 + 1) rfl 23 cs (0, 0) _ HB4.out.2.1 Tryd.underlying23 rfl (by rw [HB.out.2.2.2]; exact info16) ?_)
            | (refine wpList_load_row rfl 23 _ rfl p10 rfl 23 es (0, 0) _ HB4.out.1 Tryd.underlying23 rfl (by rw [HES.out.1]; exact info16) ?_))
          refine (J.out w4 HB4.out.2.2.2).mono ?_
          rintro e w5 ⟨rfl, hk5⟩
          have HB5 := Lib.hid (And.intro (HB4.out.2.1.grown hk5 (by simp)) (And.intro (HB4.out.2.2.1.grown hk5 (by simp)) (grown_trans HB4.out.2.2.2 hk5)))
          clear hk5
          go_wp2_with (refine wpList_store_row rfl 23 _ _ rfl (w.heap.size + 1 + 1) ns rfl rfl 23 _ HB5.out.1 (by rw [HNS.out.1]; exact info16) (by rw [HB.out.2.2.2, HNS.out.1]) HNS.out.2.1 ?_)
          go_roundw
          case rel => exact ⟨5, by omega, rfl, by rw [← HNS.out.2.2]; exact HB5.out.1.row ns, HB5.out.2.1.farRow (by omega) ns, grown_row HB5.out.2.2 (.inl (by omega)) ns⟩
          case measure => simp [intOf]
      · have J := Lib.hid (fun (V : World) (hV : w.grownBy V none) => join_is V (HN.out.2.2.2.2.2.grown hV (by simp)) p (climbC x lf ps k) hpd hdk es cs ns hes hcs (by rw [hns, climbC, if_neg hpar, ← hp]))
        rw [show lf / 2 ^ k % 2 = 1 by omega] at hand
        have hcases : k = 0 ∨ k = 1 ∨ k = 2 ∨ k = 3 ∨ k = 4 := by omega
        clear hB hZ hG hk hlt hp hes hel he16 hr1 hns hn16 hpar hcs hsz
        rcases hcases with rfl | rfl | rfl | rfl | rfl
        · subst hi
          have hand' : bits .and .i64 (lf) 1 = 1 := by simpa using hand
          clear hand
          go_wp2_with (first
            | (refine wpList_load_mid rfl 23 _ rfl b _ rfl el _ HES.out.2.2.1 Tryd.underlying23 rfl HES.out.2.2.2.1 ?_; rw [HES.out.2.2.2.2])
            | (refine wpList_store_row rfl 23 _ _ rfl wr.heap.size es rfl rfl 23 _ (heap_alloc_new wr _) (by rw [HES.out.1]; exact info16) (by rw [HD.out.2.2.1, HES.out.1]) HES.out.2.1 ?_
               obtain ⟨w4, hw4⟩ : ∃ w4, w4 = (wr.alloc (.cells Z16 23)).setRow wr.heap.size es := ⟨_, rfl⟩
               obtain ⟨p10, hp10⟩ : ∃ p, p = wr.heap.size := ⟨_, rfl⟩
               rw [← hw4, ← hp10]
               have HB4 := Lib.hid (show Blk w4 p10 23 es ∧ Blk w4 (w.heap.size + 1 + 1) 23 cs ∧ Blk w4 (w.heap.size + 1) 23 Z16 ∧ w.grownBy w4 none from by
                 rw [hw4, hp10]
                 have hg4 := grown_row (World.grownBy_alloc wr (.cells Z16 23) none) (.inl (Nat.le_refl _)) es
                 exact ⟨(Blk.new wr 23 Z16).row es, HB.out.1.grown hg4 (by simp), HB.out.2.1.grown hg4 (by simp), grown_trans HB.out.2.2.1 hg4⟩)
               clear hw4 hp10)
            | (refine wpList_load_row rfl 23 _ rfl (w.heap.size + 1 + 1) rfl 23 cs (0, 0) _ HB4.out.2.1 Tryd.underlying23 rfl (by rw [HB.out.2.2.2]; exact info16) ?_)
            | (refine wpList_load_row rfl 23 _ rfl p10 rfl 23 es (0, 0) _ HB4.out.1 Tryd.underlying23 rfl (by rw [HES.out.1]; exact info16) ?_))
          refine (J.out w4 HB4.out.2.2.2).mono ?_
          rintro e w5 ⟨rfl, hk5⟩
          have HB5 := Lib.hid (And.intro (HB4.out.2.1.grown hk5 (by simp)) (And.intro (HB4.out.2.2.1.grown hk5 (by simp)) (grown_trans HB4.out.2.2.2 hk5)))
          clear hk5
          go_wp2_with (refine wpList_store_row rfl 23 _ _ rfl (w.heap.size + 1 + 1) ns rfl rfl 23 _ HB5.out.1 (by rw [HNS.out.1]; exact info16) (by rw [HB.out.2.2.2, HNS.out.1]) HNS.out.2.1 ?_)
          go_roundw
          case rel => exact ⟨1, by omega, rfl, by rw [← HNS.out.2.2]; exact HB5.out.1.row ns, HB5.out.2.1.farRow (by omega) ns, grown_row HB5.out.2.2 (.inl (by omega)) ns⟩
          case measure => simp [intOf]
        · subst hi
          have hand' : bits .and .i64 (lf / 2) 1 = 1 := by simpa using hand
          clear hand
          go_wp2_with (first
            | (refine wpList_load_mid rfl 23 _ rfl b _ rfl el _ HES.out.2.2.1 Tryd.underlying23 rfl HES.out.2.2.2.1 ?_; rw [HES.out.2.2.2.2])
            | (refine wpList_store_row rfl 23 _ _ rfl wr.heap.size es rfl rfl 23 _ (heap_alloc_new wr _) (by rw [HES.out.1]; exact info16) (by rw [HD.out.2.2.1, HES.out.1]) HES.out.2.1 ?_
               obtain ⟨w4, hw4⟩ : ∃ w4, w4 = (wr.alloc (.cells Z16 23)).setRow wr.heap.size es := ⟨_, rfl⟩
               obtain ⟨p10, hp10⟩ : ∃ p, p = wr.heap.size := ⟨_, rfl⟩
               rw [← hw4, ← hp10]
               have HB4 := Lib.hid (show Blk w4 p10 23 es ∧ Blk w4 (w.heap.size + 1 + 1) 23 cs ∧ Blk w4 (w.heap.size + 1) 23 Z16 ∧ w.grownBy w4 none from by
                 rw [hw4, hp10]
                 have hg4 := grown_row (World.grownBy_alloc wr (.cells Z16 23) none) (.inl (Nat.le_refl _)) es
                 exact ⟨(Blk.new wr 23 Z16).row es, HB.out.1.grown hg4 (by simp), HB.out.2.1.grown hg4 (by simp), grown_trans HB.out.2.2.1 hg4⟩)
               clear hw4 hp10)
            | (refine wpList_load_row rfl 23 _ rfl (w.heap.size + 1 + 1) rfl 23 cs (0, 0) _ HB4.out.2.1 Tryd.underlying23 rfl (by rw [HB.out.2.2.2]; exact info16) ?_)
            | (refine wpList_load_row rfl 23 _ rfl p10 rfl 23 es (0, 0) _ HB4.out.1 Tryd.underlying23 rfl (by rw [HES.out.1]; exact info16) ?_))
          refine (J.out w4 HB4.out.2.2.2).mono ?_
          rintro e w5 ⟨rfl, hk5⟩
          have HB5 := Lib.hid (And.intro (HB4.out.2.1.grown hk5 (by simp)) (And.intro (HB4.out.2.2.1.grown hk5 (by simp)) (grown_trans HB4.out.2.2.2 hk5)))
          clear hk5
          go_wp2_with (refine wpList_store_row rfl 23 _ _ rfl (w.heap.size + 1 + 1) ns rfl rfl 23 _ HB5.out.1 (by rw [HNS.out.1]; exact info16) (by rw [HB.out.2.2.2, HNS.out.1]) HNS.out.2.1 ?_)
          go_roundw
          case rel => exact ⟨2, by omega, rfl, by rw [← HNS.out.2.2]; exact HB5.out.1.row ns, HB5.out.2.1.farRow (by omega) ns, grown_row HB5.out.2.2 (.inl (by omega)) ns⟩
          case measure => simp [intOf]
        · subst hi
          have hand' : bits .and .i64 (lf / 4) 1 = 1 := by simpa using hand
          clear hand
          go_wp2_with (first
            | (refine wpList_load_mid rfl 23 _ rfl b _ rfl el _ HES.out.2.2.1 Tryd.underlying23 rfl HES.out.2.2.2.1 ?_; rw [HES.out.2.2.2.2])
            | (refine wpList_store_row rfl 23 _ _ rfl wr.heap.size es rfl rfl 23 _ (heap_alloc_new wr _) (by rw [HES.out.1]; exact info16) (by rw [HD.out.2.2.1, HES.out.1]) HES.out.2.1 ?_
               obtain ⟨w4, hw4⟩ : ∃ w4, w4 = (wr.alloc (.cells Z16 23)).setRow wr.heap.size es := ⟨_, rfl⟩
               obtain ⟨p10, hp10⟩ : ∃ p, p = wr.heap.size := ⟨_, rfl⟩
               rw [← hw4, ← hp10]
               have HB4 := Lib.hid (show Blk w4 p10 23 es ∧ Blk w4 (w.heap.size + 1 + 1) 23 cs ∧ Blk w4 (w.heap.size + 1) 23 Z16 ∧ w.grownBy w4 none from by
                 rw [hw4, hp10]
                 have hg4 := grown_row (World.grownBy_alloc wr (.cells Z16 23) none) (.inl (Nat.le_refl _)) es
                 exact ⟨(Blk.new wr 23 Z16).row es, HB.out.1.grown hg4 (by simp), HB.out.2.1.grown hg4 (by simp), grown_trans HB.out.2.2.1 hg4⟩)
               clear hw4 hp10)
            | (refine wpList_load_row rfl 23 _ rfl (w.heap.size + 1 + 1) rfl 23 cs (0, 0) _ HB4.out.2.1 Tryd.underlying23 rfl (by rw [HB.out.2.2.2]; exact info16) ?_)
            | (refine wpList_load_row rfl 23 _ rfl p10 rfl 23 es (0, 0) _ HB4.out.1 Tryd.underlying23 rfl (by rw [HES.out.1]; exact info16) ?_))
          refine (J.out w4 HB4.out.2.2.2).mono ?_
          rintro e w5 ⟨rfl, hk5⟩
          have HB5 := Lib.hid (And.intro (HB4.out.2.1.grown hk5 (by simp)) (And.intro (HB4.out.2.2.1.grown hk5 (by simp)) (grown_trans HB4.out.2.2.2 hk5)))
          clear hk5
          go_wp2_with (refine wpList_store_row rfl 23 _ _ rfl (w.heap.size + 1 + 1) ns rfl rfl 23 _ HB5.out.1 (by rw [HNS.out.1]; exact info16) (by rw [HB.out.2.2.2, HNS.out.1]) HNS.out.2.1 ?_)
          go_roundw
          case rel => exact ⟨3, by omega, rfl, by rw [← HNS.out.2.2]; exact HB5.out.1.row ns, HB5.out.2.1.farRow (by omega) ns, grown_row HB5.out.2.2 (.inl (by omega)) ns⟩
          case measure => simp [intOf]
        · subst hi
          have hand' : bits .and .i64 (lf / 8) 1 = 1 := by simpa using hand
          clear hand
          go_wp2_with (first
            | (refine wpList_load_mid rfl 23 _ rfl b _ rfl el _ HES.out.2.2.1 Tryd.underlying23 rfl HES.out.2.2.2.1 ?_; rw [HES.out.2.2.2.2])
            | (refine wpList_store_row rfl 23 _ _ rfl wr.heap.size es rfl rfl 23 _ (heap_alloc_new wr _) (by rw [HES.out.1]; exact info16) (by rw [HD.out.2.2.1, HES.out.1]) HES.out.2.1 ?_
               obtain ⟨w4, hw4⟩ : ∃ w4, w4 = (wr.alloc (.cells Z16 23)).setRow wr.heap.size es := ⟨_, rfl⟩
               obtain ⟨p10, hp10⟩ : ∃ p, p = wr.heap.size := ⟨_, rfl⟩
               rw [← hw4, ← hp10]
               have HB4 := Lib.hid (show Blk w4 p10 23 es ∧ Blk w4 (w.heap.size + 1 + 1) 23 cs ∧ Blk w4 (w.heap.size + 1) 23 Z16 ∧ w.grownBy w4 none from by
                 rw [hw4, hp10]
                 have hg4 := grown_row (World.grownBy_alloc wr (.cells Z16 23) none) (.inl (Nat.le_refl _)) es
                 exact ⟨(Blk.new wr 23 Z16).row es, HB.out.1.grown hg4 (by simp), HB.out.2.1.grown hg4 (by simp), grown_trans HB.out.2.2.1 hg4⟩)
               clear hw4 hp10)
            | (refine wpList_load_row rfl 23 _ rfl (w.heap.size + 1 + 1) rfl 23 cs (0, 0) _ HB4.out.2.1 Tryd.underlying23 rfl (by rw [HB.out.2.2.2]; exact info16) ?_)
            | (refine wpList_load_row rfl 23 _ rfl p10 rfl 23 es (0, 0) _ HB4.out.1 Tryd.underlying23 rfl (by rw [HES.out.1]; exact info16) ?_))
          refine (J.out w4 HB4.out.2.2.2).mono ?_
          rintro e w5 ⟨rfl, hk5⟩
          have HB5 := Lib.hid (And.intro (HB4.out.2.1.grown hk5 (by simp)) (And.intro (HB4.out.2.2.1.grown hk5 (by simp)) (grown_trans HB4.out.2.2.2 hk5)))
          clear hk5
          go_wp2_with (refine wpList_store_row rfl 23 _ _ rfl (w.heap.size + 1 + 1) ns rfl rfl 23 _ HB5.out.1 (by rw [HNS.out.1]; exact info16) (by rw [HB.out.2.2.2, HNS.out.1]) HNS.out.2.1 ?_)
          go_roundw
          case rel => exact ⟨4, by omega, rfl, by rw [← HNS.out.2.2]; exact HB5.out.1.row ns, HB5.out.2.1.farRow (by omega) ns, grown_row HB5.out.2.2 (.inl (by omega)) ns⟩
          case measure => simp [intOf]
        · subst hi
          have hand' : bits .and .i64 (lf / 16) 1 = 1 := by simpa using hand
          clear hand
          go_wp2_with (first
            | (refine wpList_load_mid rfl 23 _ rfl b _ rfl el _ HES.out.2.2.1 Tryd.underlying23 rfl HES.out.2.2.2.1 ?_; rw [HES.out.2.2.2.2])
            | (refine wpList_store_row rfl 23 _ _ rfl wr.heap.size es rfl rfl 23 _ (heap_alloc_new wr _) (by rw [HES.out.1]; exact info16) (by rw [HD.out.2.2.1, HES.out.1]) HES.out.2.1 ?_
               obtain ⟨w4, hw4⟩ : ∃ w4, w4 = (wr.alloc (.cells Z16 23)).setRow wr.heap.size es := ⟨_, rfl⟩
               obtain ⟨p10, hp10⟩ : ∃ p, p = wr.heap.size := ⟨_, rfl⟩
               rw [← hw4, ← hp10]
               have HB4 := Lib.hid (show Blk w4 p10 23 es ∧ Blk w4 (w.heap.size + 1 + 1) 23 cs ∧ Blk w4 (w.heap.size + 1) 23 Z16 ∧ w.grownBy w4 none from by
                 rw [hw4, hp10]
                 have hg4 := grown_row (World.grownBy_alloc wr (.cells Z16 23) none) (.inl (Nat.le_refl _)) es
                 exact ⟨(Blk.new wr 23 Z16).row es, HB.out.1.grown hg4 (by simp), HB.out.2.1.grown hg4 (by simp), grown_trans HB.out.2.2.1 hg4⟩)
               clear hw4 hp10)
            | (refine wpList_load_row rfl 23 _ rfl (w.heap.size + 1 + 1) rfl 23 cs (0, 0) _ HB4.out.2.1 Tryd.underlying23 rfl (by rw [HB.out.2.2.2]; exact info16) ?_)
            | (refine wpList_load_row rfl 23 _ rfl p10 rfl 23 es (0, 0) _ HB4.out.1 Tryd.underlying23 rfl (by rw [HES.out.1]; exact info16) ?_))
          refine (J.out w4 HB4.out.2.2.2).mono ?_
          rintro e w5 ⟨rfl, hk5⟩
          have HB5 := Lib.hid (And.intro (HB4.out.2.1.grown hk5 (by simp)) (And.intro (HB4.out.2.2.1.grown hk5 (by simp)) (grown_trans HB4.out.2.2.2 hk5)))
          clear hk5
          go_wp2_with (refine wpList_store_row rfl 23 _ _ rfl (w.heap.size + 1 + 1) ns rfl rfl 23 _ HB5.out.1 (by rw [HNS.out.1]; exact info16) (by rw [HB.out.2.2.2, HNS.out.1]) HNS.out.2.1 ?_)
          go_roundw
          case rel => exact ⟨5, by omega, rfl, by rw [← HNS.out.2.2]; exact HB5.out.1.row ns, HB5.out.2.1.farRow (by omega) ns, grown_row HB5.out.2.2 (.inl (by omega)) ns⟩
          case measure => simp [intOf]
    · obtain rfl : k = 5 := by omega
      have hr : cs = rs := by rw [hcs, HN.out.2.2.2.2.1]
      subst hr
      have HB := Lib.hid (And.intro hB (And.intro hZ (And.intro hG (And.intro hsz (show (cs.all fun v => v.oneCell') = true by rw [hcs]; exact arr_one _ _)))))
      subst hi
      clear hB hZ hG hk hlt hcs hdk hsz
      go_wp2_with (first
        | (refine wpList_load_row rfl 23 _ rfl (w.heap.size + 1 + 1) rfl 23 cs (0, 0) _ HB.out.1 Tryd.underlying23 rfl (by rw [HB.out.2.2.2.1]; exact info16) ?_)
        | (refine wpList_store_row rfl 23 _ _ rfl (w.heap.size + 1) cs rfl rfl 23 _ HB.out.2.1 (by rw [HB.out.2.2.2.1]; exact info16) (by rw [HD.out.2.2.1, HB.out.2.2.2.1]) HB.out.2.2.2.2 ?_))
      refine bodyPost_ret (results_cell_t rfl _ _ _ ⟨w.heap.size + 1, 0, none⟩ (.agg cs) rfl (run_loadVar_row _ (w.heap.size + 1) 23 23 cs (0, 0) _ (HB.out.2.1.row cs) Tryd.underlying23 rfl (by rw [HB.out.2.2.2.1]; exact info16))) rfl ?_
      exact ⟨rfl, grown_row HB.out.2.2.1 (.inl (by omega)) cs⟩
end Go.Proofs.YtpldegdcachlmaaDoor
/-
  trees.Climb by no leaf, and with a way of another length.
-/
namespace Go.Proofs.YtpldegdcachlmaaDoor
open Go.RowKit

set_option maxRecDepth 100000 in
set_option maxHeartbeats 4000000 in
theorem climb_no (w : World) (B : Nat) (a : Addr) (hE : ErrAt w B (gix.getD 0 0) a) (lf : Int) (hlf : lf < 0 ∨ 32 ≤ lf) (A : Option Addr) (n c : Nat) (ds : Array Value) (hds : ds.size = 16) (zs : Array Value) (hzs : zs = arrV .u8 (List.replicate 16 0)) :
    Calls Tryd.prog 32 #[.agg ds, .int .i64 lf, .slice A n c] w fun e w' => e = .returned (.tuple #[.agg zs, errV a]) ∧ w.grownBy w' none := by
  obtain ⟨zl, hzl⟩ : ∃ l, l = zs.toList := ⟨_, rfl⟩
  have hz : zs = zl.toArray := by rw [hzl, Array.toArray_toList]
  have hz16 : ∀ w, Sem.run Tryd.prog (zeroValue 23) w = .ok (.agg zl.toArray) w := fun w => by rw [← hz, hzs]; exact z16run w
  have hzn : zl.length = 16 := by rw [hzl, Array.length_toList, hzs]; rfl
  have hi6 : (Tryd.prog.info? 23).map (·.size) = some zl.length := by rw [hzn]; exact info16
  have ho6 : ∀ v ∈ zl, v.oneCell' = true := by rw [hzl, hzs]; simp [Value.oneCell']
  have HZ := Lib.hid (And.intro hz (And.intro hzn (show (zs.all fun v => v.oneCell') = true by rw [hzs]; exact arr_one _ _)))
  have HLF := Lib.hid hlf
  have HE := Lib.hid hE
  have HDS := Lib.hid hds
  have HZL := Lib.hid hzl
  have hB0 : 0 < w.heap.size := by
    have := World.block_lt_of_cell? w _ hE.1
    simpa only [gix, List.getD_cons_zero] using this
  clear hzl hzs hlf hE hds
  go_enter Tryd.func32, Tryd.ntmps32
  obtain ⟨w0, hw0⟩ : ∃ w0, w0 = (w.alloc (.cells ds 23)).alloc (.cells zl.toArray 23) := ⟨_, rfl⟩
  have HZ0 := Lib.hid (show Blk w0 (w.heap.size + 1) 23 zs by rw [hw0, hz]; have := Blk.new (w.alloc (.cells ds 23)) 23 zl.toArray; rwa [World.size_alloc] at this)
  have HG0 := Lib.hid (show w.grownBy w0 none by rw [hw0]; exact grown_trans (World.grownBy_alloc _ _ none) (World.grownBy_alloc _ _ none))
  have HW0 := Lib.hid hw0
  clear hw0
  go_wp2_with fail
  rw [← HW0.out]
  refine (leaf_no w0 lf HLF.out).mono ?_
  rintro e w9 ⟨rfl, h9⟩
  rw [h9]
  clear h9
  go_wp2_with fail
  have hT : w0.drew.there (w.heap.size + 1) 0 16 := there_blk HZ0.out.drew (by rw [HZ.out.1, List.size_toArray, HZ.out.2.1]; exact Nat.le_refl _)
  have hc : w0.drew.cell? ⟨gix.getD 0 0, 0, none⟩ = some (errV a) := by
    rw [World.cell?_drew]; exact HG0.out.cell HE.out.1 (by simp)
  simp only [gix, List.getD_cons_zero] at hc
  have hS := And.intro hT hc
  have hgb : ¬ 0 = w.heap.size + 1 := by omega
  clear hT hc
  go_region_held3 (fun W => W.there (w.heap.size + 1) 0 16 ∧ W.cell? ⟨0, 0, none⟩ = some (errV a)) (first | exact hS | assumption | exact ⟨World.there_setCells hS.1 _ _ _, (World.cell?_setCells_out _ _ _ _ _ (fun e => absurd e hgb)).trans hS.2⟩)
    (fail)
  have HB9 := Lib.hid HZ0.out.drew
  have HG9 := Lib.hid (show w.grownBy w0.drew none from grown_trans HG0.out (grown_drew (World.grownBy.refl w0 none)))
  have HEQ := Lib.hid (show w0.drew.setCells (w.heap.size + 1) 0 zl = w0.drew.setRow (w.heap.size + 1) zs by
    rw [HZL.out]
    exact setCells_row (P := Tryd.prog) HB9.out (by rw [HZ.out.1, List.size_toArray, HZ.out.2.1]; exact info16) rfl HZ.out.2.2)
  rw [HEQ.out]
  go_wp2_with fail
  refine bodyPost_ret (results_cell_t rfl _ _ _ ⟨w.heap.size + 1, 0, none⟩ (.agg zs) rfl (run_loadVar_row _ (w.heap.size + 1) 23 23 zs (0, 0) _ (HB9.out.row zs) Tryd.underlying23 rfl (by rw [HZ.out.1, List.size_toArray, HZ.out.2.1]; exact info16))) rfl ?_
  exact ⟨rfl, grown_row HG9.out (.inl (Nat.le_succ _)) zs⟩
set_option maxRecDepth 100000 in
set_option maxHeartbeats 4000000 in
theorem climb_form (w : World) (B : Nat) (a : Addr) (hE : ErrAt w B (gix.getD 3 0) a) (lf : Int) (hlf : 0 ≤ lf ∧ lf < 32) (A : Option Addr) (n c : Nat) (hn68 : n ≠ 5) (ds : Array Value) (hds : ds.size = 16) (zs : Array Value) (hzs : zs = arrV .u8 (List.replicate 16 0)) :
    Calls Tryd.prog 32 #[.agg ds, .int .i64 lf, .slice A n c] w fun e w' => e = .returned (.tuple #[.agg zs, errV a]) ∧ w.grownBy w' none := by
  obtain ⟨zl, hzl⟩ : ∃ l, l = zs.toList := ⟨_, rfl⟩
  have hz : zs = zl.toArray := by rw [hzl, Array.toArray_toList]
  have hz16 : ∀ w, Sem.run Tryd.prog (zeroValue 23) w = .ok (.agg zl.toArray) w := fun w => by rw [← hz, hzs]; exact z16run w
  have hzn : zl.length = 16 := by rw [hzl, Array.length_toList, hzs]; rfl
  have hi6 : (Tryd.prog.info? 23).map (·.size) = some zl.length := by rw [hzn]; exact info16
  have ho6 : ∀ v ∈ zl, v.oneCell' = true := by rw [hzl, hzs]; simp [Value.oneCell']
  have HZ := Lib.hid (And.intro hz (And.intro hzn (show (zs.all fun v => v.oneCell') = true by rw [hzs]; exact arr_one _ _)))
  have HLF := Lib.hid hlf
  have HE := Lib.hid hE
  have HDS := Lib.hid hds
  have HZL := Lib.hid hzl
  have hB0 : 4 < w.heap.size := by
    have := World.block_lt_of_cell? w _ hE.1
    simpa only [gix, List.getD_cons_zero, List.getD_cons_succ] using this
  clear hzl hzs hlf hE hds
  go_enter Tryd.func32, Tryd.ntmps32
  obtain ⟨w0, hw0⟩ : ∃ w0, w0 = (w.alloc (.cells ds 23)).alloc (.cells zl.toArray 23) := ⟨_, rfl⟩
  have HZ0 := Lib.hid (show Blk w0 (w.heap.size + 1) 23 zs by rw [hw0, hz]; have := Blk.new (w.alloc (.cells ds 23)) 23 zl.toArray; rwa [World.size_alloc] at this)
  have HG0 := Lib.hid (show w.grownBy w0 none by rw [hw0]; exact grown_trans (World.grownBy_alloc _ _ none) (World.grownBy_alloc _ _ none))
  have HW0 := Lib.hid hw0
  clear hw0
  go_wp2_with fail
  rw [← HW0.out]
  refine (leaf_yes w0 lf HLF.out).mono ?_
  rintro e w9 ⟨rfl, h9⟩
  rw [h9]
  clear h9
  have d68 : ¬ ((n : Int) = 5) := by omega
  go_wp2_with fail
  have hT : w0.drew.there (w.heap.size + 1) 0 16 := there_blk HZ0.out.drew (by rw [HZ.out.1, List.size_toArray, HZ.out.2.1]; exact Nat.le_refl _)
  have hc : w0.drew.cell? ⟨gix.getD 3 0, 0, none⟩ = some (errV a) := by
    rw [World.cell?_drew]; exact HG0.out.cell HE.out.1 (by simp)
  simp only [gix, List.getD_cons_zero, List.getD_cons_succ] at hc
  have hS := And.intro hT hc
  have hgb : ¬ 4 = w.heap.size + 1 := by omega
  clear hT hc
  go_region_held3 (fun W => W.there (w.heap.size + 1) 0 16 ∧ W.cell? ⟨4, 0, none⟩ = some (errV a)) (first | exact hS | assumption | exact ⟨World.there_setCells hS.1 _ _ _, (World.cell?_setCells_out _ _ _ _ _ (fun e => absurd e hgb)).trans hS.2⟩)
    (fail)
  have HB9 := Lib.hid HZ0.out.drew
  have HG9 := Lib.hid (show w.grownBy w0.drew none from grown_trans HG0.out (grown_drew (World.grownBy.refl w0 none)))
  have HEQ := Lib.hid (show w0.drew.setCells (w.heap.size + 1) 0 zl = w0.drew.setRow (w.heap.size + 1) zs by
    rw [HZL.out]
    exact setCells_row (P := Tryd.prog) HB9.out (by rw [HZ.out.1, List.size_toArray, HZ.out.2.1]; exact info16) rfl HZ.out.2.2)
  rw [HEQ.out]
  go_wp2_with fail
  refine bodyPost_ret (results_cell_t rfl _ _ _ ⟨w.heap.size + 1, 0, none⟩ (.agg zs) rfl (run_loadVar_row _ (w.heap.size + 1) 23 23 zs (0, 0) _ (HB9.out.row zs) Tryd.underlying23 rfl (by rw [HZ.out.1, List.size_toArray, HZ.out.2.1]; exact info16))) rfl ?_
  exact ⟨rfl, grown_row HG9.out (.inl (Nat.le_succ _)) zs⟩
end Go.Proofs.YtpldegdcachlmaaDoor
/-
  quorateref04.Climb.
-/

namespace Go.Proofs.YtpldegdcachlmaaDoor
open Go.RowKit

theorem half (i : Int) (h : 0 ≤ i ∧ i < 32) (k : Nat) (hk : k < 5) : ∃ v v' p : Int, i / 2 ^ k = v ∧ i / 2 ^ (k + 1) = v' ∧ (0 ≤ v ∧ v < 32) ∧ v.tmod 2 = p ∧ v % 2 = p ∧ v.tdiv 2 = v' ∧ v / 2 = v' ∧ IntKind.i64.wrap v' = v' ∧ (p = 0 ∨ p = 1) := by
  have hv : 0 ≤ i / 2 ^ k ∧ i / 2 ^ k < 32 := by
    have : k = 0 ∨ k = 1 ∨ k = 2 ∨ k = 3 ∨ k = 4 := by omega
    rcases this with rfl | rfl | rfl | rfl | rfl <;> simp <;> omega
  have hv2 : i / 2 ^ (k + 1) = i / 2 ^ k / 2 := by
    have : k = 0 ∨ k = 1 ∨ k = 2 ∨ k = 3 ∨ k = 4 := by omega
    rcases this with rfl | rfl | rfl | rfl | rfl <;> simp <;> omega
  refine ⟨i / 2 ^ k, i / 2 ^ k / 2, i / 2 ^ k % 2, rfl, hv2, hv, Int.tmod_eq_emod_of_nonneg hv.1, rfl, Int.tdiv_eq_ediv_of_nonneg hv.1, rfl, by rw [IntKind.wrap_i64]; omega, by omega⟩

set_option maxRecDepth 100000 in
set_option maxHeartbeats 8000000 in
theorem rclimb_is (w : World) (x : List Int) (hx : isDig x) (lf : Int) (hlf : 0 ≤ lf ∧ lf < 32) (b off c : Nat) (ps : List (List Int)) (hl : ps.length = 5) (hps : ∀ p ∈ ps, isDig p) (hD : DigsAt w b off ps) (ds rs : Array Value) (hds : ds = arrV .u8 x) (hrs : rs = arrV .u8 (climbC x lf ps 5)) :
    Calls Tryd.prog 33 #[.agg ds, .int .i64 lf, .slice (some ⟨b, off, none⟩) 5 c] w fun e w' => e = .returned (.agg rs) ∧ w.grownBy w' none := by
  obtain ⟨Z16, hZ16⟩ : ∃ Z, Z = arrV .u8 (List.replicate 16 0) := ⟨_, rfl⟩
  have hz16 : ∀ w, Sem.run Tryd.prog (zeroValue 23) w = .ok (.agg Z16) w := fun w => by rw [hZ16]; exact z16run w
  have HD := Lib.hid (show ds = arrV .u8 (climbC x lf ps 0) ∧ ds.size = 16 ∧ Z16.size = 16 ∧ (ds.all fun v => v.oneCell') = true from ⟨by rw [hds, climbC], by rw [hds, arr_size, hx.1], by rw [hZ16]; rfl, by rw [hds]; exact arr_one _ _⟩)
  have HN := Lib.hid (And.intro hx (And.intro hl (And.intro hps (And.intro hD hrs))))
  have HLF := Lib.hid hlf
  clear hZ16 hds hx hl hps hD hrs hlf
  go_enter Tryd.func33, Tryd.ntmps33
  go_wp2_with fail
  have b0 := (Blk.new w 23 ds).alloc (.cells Z16 23)
  have b1 := Blk.new (w.alloc (.cells ds 23)) 23 Z16
  rw [World.size_alloc] at b1
  have HF := Lib.hid (And.intro b0 (And.intro b1 (grown_trans (World.grownBy_alloc w (.cells ds 23) none) (World.grownBy_alloc _ (.cells Z16 23) none))))
  clear b0 b1
  generalize (w.alloc (.cells ds 23)).alloc (.cells Z16 23) = w3 at *
  go_loopw [11, 1] (fun i v wr => ∃ k : Nat, k ≤ 5 ∧ i = .int .i64 (k : Int) ∧ v = .int .i64 (lf / 2 ^ k) ∧ Blk wr w.heap.size 23 (arrV .u8 (climbC x lf ps k)) ∧ Blk wr (w.heap.size + 1) 23 Z16 ∧ w.grownBy wr none) (fun i _ _ => 5 - (intOf i).toNat)
  case atStart => exact ⟨0, by omega, rfl, by simp, by rw [← HD.out.1]; exact HF.out.1, HF.out.2.1, HF.out.2.2⟩
  case round =>
    obtain ⟨k, hk, hi, hv, hB, hZ, hG⟩ := hrel
    obtain ⟨cs, hcs⟩ : ∃ cs, cs = arrV .u8 (climbC x lf ps k) := ⟨_, rfl⟩
    rw [← hcs] at hB
    have hdk := climbC_dig HN.out.1 lf ps k
    have hsz : cs.size = 16 := by rw [hcs, arr_size]; exact hdk.1
    obtain ⟨I, hI⟩ : ∃ I : Int, I = (k : Int) := ⟨_, rfl⟩
    rw [← hI] at hi
    by_cases hlt : k < 5
    · have d1 : decide (I < 5) = true := by simp; omega
      have hI5 : 0 ≤ I ∧ I < 5 := by omega
      have hkI : I.toNat = k := by omega
      obtain ⟨v, v', p2, e1, e2, hvr, m1, m2, m3, m4, m5, hp2⟩ := half lf HLF.out k hlt
      rw [e1] at hv
      subst hi hv
      have hpd := getD_dig HN.out.2.2.1 k
      obtain ⟨p, hp⟩ : ∃ p, p = ps.getD k zeroC := ⟨_, rfl⟩
      rw [← hp] at hpd
      obtain ⟨es, hes⟩ : ∃ es, es = arrV .u8 p := ⟨_, rfl⟩
      obtain ⟨el, hel⟩ : ∃ el, el = es.toList := ⟨_, rfl⟩
      have he16 : es.size = 16 := by rw [hes, arr_size]; exact hpd.1
      have hr1 : wr.rangeAt b (off + I.toNat * 16) el := by
        rw [hkI, hel, hes, hp]
        exact range_grown (HN.out.2.2.2.1 k (by rw [HN.out.2.1]; exact hlt)) hG
      obtain ⟨ns, hns⟩ : ∃ ns, ns = arrV .u8 (climbC x lf ps (k + 1)) := ⟨_, rfl⟩
      have hn16 : ns.size = 16 := by rw [hns, arr_size]; exact (climbC_dig HN.out.1 lf ps (k + 1)).1
      have HNS := Lib.hid (And.intro hn16 (And.intro (show (ns.all fun v => v.oneCell') = true by rw [hns]; exact arr_one _ _) hns))
      have HES := Lib.hid (And.intro he16 (And.intro (show (es.all fun v => v.oneCell') = true by rw [hes]; exact arr_one _ _) (And.intro hr1 (And.intro (show (Tryd.prog.info? 23).map (·.size) = some el.length by rw [hel, Array.length_toList, he16]; exact info16) (show el.toArray = es by rw [hel, Array.toArray_toList])))))
      have HB := Lib.hid (And.intro hB (And.intro hZ (And.intro hG hsz)))
      have HK := Lib.hid (And.intro hI (And.intro hlt e2))
      have hpar : lf / 2 ^ k % 2 = p2 := by rw [e1]; exact m2
      rcases hp2 with rfl | rfl
      · have J := Lib.hid (fun (V : World) => rjoin_is V (climbC x lf ps k) p hdk hpd cs es ns hcs hes (by rw [hns, climbC, if_pos hpar, ← hp]))
        clear hB hZ hG hk hlt hp hes hel he16 hr1 hns hn16 hpar hcs hsz hI hkI e1 e2 hdk hpd
        go_wp2_with (first
          | (refine wpList_load_mid rfl 23 _ rfl b (off + I.toNat * 16) rfl el _ HES.out.2.2.1 Tryd.underlying23 rfl HES.out.2.2.2.1 ?_; rw [HES.out.2.2.2.2])
          | (refine wpList_store_row rfl 23 _ _ rfl wr.heap.size es rfl rfl 23 _ (heap_alloc_new wr _) (by rw [HES.out.1]; exact info16) (by rw [HD.out.2.2.1, HES.out.1]) HES.out.2.1 ?_
             obtain ⟨w4, hw4⟩ : ∃ w4, w4 = (wr.alloc (.cells Z16 23)).setRow wr.heap.size es := ⟨_, rfl⟩
             obtain ⟨p10, hp10⟩ : ∃ p, p = wr.heap.size := ⟨_, rfl⟩
             rw [← hw4, ← hp10]
             have HB4 := Lib.hid (show Blk w4 p10 23 es ∧ Blk w4 w.heap.size 23 cs ∧ Blk w4 (w.heap.size + 1) 23 Z16 ∧ w.grownBy w4 none from by
               rw [hw4, hp10]
               have hg4 := grown_row (World.grownBy_alloc wr (.cells Z16 23) none) (.inl (Nat.le_refl _)) es
               exact ⟨(Blk.new wr 23 Z16).row es, HB.out.1.grown hg4 (by simp), HB.out.2.1.grown hg4 (by simp), grown_trans HB.out.2.2.1 hg4⟩)
             clear hw4 hp10)
          | (refine wpList_load_row rfl 23 _ rfl w.heap.size rfl 23 cs (0, 0) _ HB4.out.2.1 Tryd.underlying23 rfl (by rw [HB.out.2.2.2]; exact info16) ?_)
          | (refine wpList_load_row rfl 23 _ rfl p10 rfl 23 es (0, 0) _ HB4.out.1 Tryd.underlying23 rfl (by rw [HES.out.1]; exact info16) ?_))
        refine (J.out w4).mono ?_
        rintro e w5 ⟨rfl, hk5⟩
        have HB5 := Lib.hid (And.intro (HB4.out.2.1.grown hk5 (by simp)) (And.intro (HB4.out.2.2.1.grown hk5 (by simp)) (grown_trans HB4.out.2.2.2 hk5)))
        clear hk5
        go_wp2_with (refine wpList_store_row rfl 23 _ _ rfl w.heap.size ns rfl rfl 23 _ HB5.out.1 (by rw [HNS.out.1]; exact info16) (by rw [HB.out.2.2.2, HNS.out.1]) HNS.out.2.1 ?_)
        go_roundw
        case rel => obtain ⟨hI, hlt, e2⟩ := HK.out; exact ⟨k + 1, by omega, by rw [hI]; rfl, by rw [e2], by rw [← HNS.out.2.2]; exact HB5.out.1.row ns, HB5.out.2.1.farRow (by omega) ns, grown_row HB5.out.2.2 (.inl (by omega)) ns⟩
        case measure => obtain ⟨hI, hlt, _⟩ := HK.out; simp only [intOf]; omega
      · have J := Lib.hid (fun (V : World) => rjoin_is V p (climbC x lf ps k) hpd hdk es cs ns hes hcs (by rw [hns, climbC, if_neg (by omega), ← hp]))
        clear hB hZ hG hk hlt hp hes hel he16 hr1 hns hn16 hpar hcs hsz hI hkI e1 e2 hdk hpd
        go_wp2_with (first
          | (refine wpList_load_mid rfl 23 _ rfl b (off + I.toNat * 16) rfl el _ HES.out.2.2.1 Tryd.underlying23 rfl HES.out.2.2.2.1 ?_; rw [HES.out.2.2.2.2])
          | (refine wpList_store_row rfl 23 _ _ rfl wr.heap.size es rfl rfl 23 _ (heap_alloc_new wr _) (by rw [HES.out.1]; exact info16) (by rw [HD.out.2.2.1, HES.out.1]) HES.out.2.1 ?_
             obtain ⟨w4, hw4⟩ : ∃ w4, w4 = (wr.alloc (.cells Z16 23)).setRow wr.heap.size es := ⟨_, rfl⟩
             obtain ⟨p10, hp10⟩ : ∃ p, p = wr.heap.size := ⟨_, rfl⟩
             rw [← hw4, ← hp10]
             have HB4 := Lib.hid (show Blk w4 p10 23 es ∧ Blk w4 w.heap.size 23 cs ∧ Blk w4 (w.heap.size + 1) 23 Z16 ∧ w.grownBy w4 none from by
               rw [hw4, hp10]
               have hg4 := grown_row (World.grownBy_alloc wr (.cells Z16 23) none) (.inl (Nat.le_refl _)) es
               exact ⟨(Blk.new wr 23 Z16).row es, HB.out.1.grown hg4 (by simp), HB.out.2.1.grown hg4 (by simp), grown_trans HB.out.2.2.1 hg4⟩)
             clear hw4 hp10)
          | (refine wpList_load_row rfl 23 _ rfl w.heap.size rfl 23 cs (0, 0) _ HB4.out.2.1 Tryd.underlying23 rfl (by rw [HB.out.2.2.2]; exact info16) ?_)
          | (refine wpList_load_row rfl 23 _ rfl p10 rfl 23 es (0, 0) _ HB4.out.1 Tryd.underlying23 rfl (by rw [HES.out.1]; exact info16) ?_))
        refine (J.out w4).mono ?_
        rintro e w5 ⟨rfl, hk5⟩
        have HB5 := Lib.hid (And.intro (HB4.out.2.1.grown hk5 (by simp)) (And.intro (HB4.out.2.2.1.grown hk5 (by simp)) (grown_trans HB4.out.2.2.2 hk5)))
        clear hk5
        go_wp2_with (refine wpList_store_row rfl 23 _ _ rfl w.heap.size ns rfl rfl 23 _ HB5.out.1 (by rw [HNS.out.1]; exact info16) (by rw [HB.out.2.2.2, HNS.out.1]) HNS.out.2.1 ?_)
        go_roundw
        case rel => obtain ⟨hI, hlt, e2⟩ := HK.out; exact ⟨k + 1, by omega, by rw [hI]; rfl, by rw [e2], by rw [← HNS.out.2.2]; exact HB5.out.1.row ns, HB5.out.2.1.farRow (by omega) ns, grown_row HB5.out.2.2 (.inl (by omega)) ns⟩
        case measure => obtain ⟨hI, hlt, _⟩ := HK.out; simp only [intOf]; omega
    · obtain rfl : k = 5 := by omega
      have d1 : decide (I < 5) = false := by simp; omega
      have hr : cs = rs := by rw [hcs, HN.out.2.2.2.2]
      subst hr
      have HB := Lib.hid (And.intro hB (And.intro hZ (And.intro hG (And.intro hsz (show (cs.all fun v => v.oneCell') = true by rw [hcs]; exact arr_one _ _)))))
      subst hi hv
      clear hB hZ hG hk hlt hcs hdk hsz hI
      go_wp2_with (first
        | (refine wpList_load_row rfl 23 _ rfl w.heap.size rfl 23 cs (0, 0) _ HB.out.1 Tryd.underlying23 rfl (by rw [HB.out.2.2.2.1]; exact info16) ?_)
        | (refine wpList_store_row rfl 23 _ _ rfl (w.heap.size + 1) cs rfl rfl 23 _ HB.out.2.1 (by rw [HB.out.2.2.2.1]; exact info16) (by rw [HD.out.2.2.1, HB.out.2.2.2.1]) HB.out.2.2.2.2 ?_))
      refine bodyPost_ret (results_cell rfl _ _ _ ⟨w.heap.size + 1, 0, none⟩ (.agg cs) rfl (run_loadVar_row _ (w.heap.size + 1) 23 23 cs (0, 0) _ (HB.out.2.1.row cs) Tryd.underlying23 rfl (by rw [HB.out.2.2.2.1]; exact info16))) rfl ?_
      exact ⟨rfl, grown_row HB.out.2.2.1 (.inl (by omega)) cs⟩
end Go.Proofs.YtpldegdcachlmaaDoor
/-
  Trees of digests, plain: nodes, levels, ways up.
-/

namespace Go.Proofs.YtpldegdcachlmaaDoor
open Go.RowKit

/-- The j-th digest of the level of that height. -/
def nodeC (ps : List (List Int)) : Nat → Nat → List Int
  | 0, j => ps.getD j zeroC
  | h + 1, j => joinC (nodeC ps h (2 * j)) (nodeC ps h (2 * j + 1))
theorem nodeC_dig {ps : List (List Int)} (hps : ∀ p ∈ ps, isDig p) : ∀ h j, isDig (nodeC ps h j)
  | 0, j => getD_dig hps j
  | h + 1, j => by rw [nodeC]; exact joinC_dig _ _
/-- The first n digests of a level. -/
def levC (ps : List (List Int)) (h n : Nat) : List (List Int) := upto (nodeC ps h) n
theorem levC_length (ps : List (List Int)) (h n : Nat) : (levC ps h n).length = n := upto_length _ _
theorem levC_get {ps : List (List Int)} {h n k : Nat} (hk : k < n) : (levC ps h n).getD k zeroC = nodeC ps h k := by
  simp [levC, upto, List.getD, List.getElem?_map, List.getElem?_range hk]
theorem levC_dig {ps : List (List Int)} (hps : ∀ p ∈ ps, isDig p) (h n : Nat) : ∀ p ∈ levC ps h n, isDig p := by
  intro p hp
  simp only [levC, upto, List.mem_map] at hp
  obtain ⟨k, _, rfl⟩ := hp
  exact nodeC_dig hps h k
theorem levC_zero {ps : List (List Int)} {n : Nat} (hl : ps.length = n) : levC ps 0 n = ps := by
  subst hl
  refine List.ext_getElem (by rw [levC_length]) fun i h1 h2 => ?_
  simp [levC, upto, nodeC, List.getD, h2]
/-- The k-th digest above these. -/
def pairC (ps : List (List Int)) (k : Nat) : List Int := joinC (ps.getD (2 * k) zeroC) (ps.getD (2 * k + 1) zeroC)
theorem pairC_dig (ps : List (List Int)) (k : Nat) : isDig (pairC ps k) := by rw [pairC]; exact joinC_dig _ _
theorem pairC_lev {ps : List (List Int)} {h n k : Nat} (hk : 2 * k + 1 < n) : pairC (levC ps h n) k = nodeC ps (h + 1) k := by
  rw [pairC, levC_get (by omega), levC_get hk, nodeC]
/-- The one beside. -/
def sib (j : Nat) : Nat := if j % 2 = 0 then j + 1 else j - 1
/-- The digest beside the way up from a leaf, at a height. -/
def wayC (ps : List (List Int)) (i h : Nat) : List Int := nodeC ps h (sib (i / 2 ^ h))
theorem wayC_dig {ps : List (List Int)} (hps : ∀ p ∈ ps, isDig p) (i h : Nat) : isDig (wayC ps i h) := nodeC_dig hps _ _
theorem climb_way (ps qs : List (List Int)) (i : Nat) (x : List Int) (hx : x = nodeC ps 0 i) : ∀ n, (∀ h, h < n → qs.getD h zeroC = wayC ps i h) → climbC x (i : Int) qs n = nodeC ps n (i / 2 ^ n)
  | 0, _ => by rw [climbC, hx, Nat.pow_zero, Nat.div_one]
  | n + 1, hq => by
    have ih := climb_way ps qs i x hx n (fun h hh => hq h (by omega))
    have e : i / 2 ^ (n + 1) = i / 2 ^ n / 2 := by rw [Nat.pow_succ, Nat.div_div_eq_div_mul]
    have ec : (i : Int) / 2 ^ n % 2 = ((i / 2 ^ n % 2 : Nat) : Int) := by
      have : (i : Int) / 2 ^ n = ((i / 2 ^ n : Nat) : Int) := by rw [Int.natCast_ediv]; simp
      rw [this]; omega
    rw [climbC, ih, hq n (by omega), wayC, ec, e, nodeC]
    generalize i / 2 ^ n = q
    by_cases hp : q % 2 = 0
    · rw [sib, if_pos (by omega), if_pos hp, show 2 * (q / 2) = q by omega]
    · rw [sib, if_neg (by omega), if_neg hp, show 2 * (q / 2) = q - 1 by omega, show q - 1 + 1 = q by omega]
theorem i64_xor1 : ∀ k : Fin 32, bits .xor .i64 ((k.1 : Nat) : Int) 1 = ((sib k.1 : Nat) : Int) := by decide
/-- Two leaves beside each other. -/
theorem sib_sib (i : Nat) : sib (sib i) = i := by
  unfold sib
  by_cases h : i % 2 = 0
  · rw [if_pos h, if_neg (by omega)]; omega
  · rw [if_neg h, if_pos (by omega)]; omega
theorem sib_half (i : Nat) : sib i / 2 = i / 2 := by unfold sib; split <;> omega
theorem way_beside (ps : List (List Int)) (i h : Nat) : wayC ps (sib i) (h + 1) = wayC ps i (h + 1) := by
  have e : ∀ x : Nat, x / 2 ^ (h + 1) = x / 2 / 2 ^ h := fun x => by rw [Nat.pow_succ, Nat.mul_comm, Nat.div_div_eq_div_mul]
  rw [wayC, wayC, e, e, sib_half]
end Go.Proofs.YtpldegdcachlmaaDoor
