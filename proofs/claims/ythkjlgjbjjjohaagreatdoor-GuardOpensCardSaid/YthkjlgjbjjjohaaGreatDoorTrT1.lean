/-
  Several texts in one: TrA, TrC, TrP.
-/
import Derived.Test.YthkjlgjbjjjohaaGreatDoorDiA
/-
  trees.Join and quorateref04.Join.
-/

namespace Go.Proofs.YthkjlgjbjjjohaaGreatDoor
open Go.RowKit

/-- The digest above two. -/
def joinC (a b : List Int) : List Int := ofS 4 [a, b]
theorem joinC_dig (a b : List Int) : isDig (joinC a b) := by rw [joinC]; exact ofS_dig _ _

set_option maxRecDepth 100000 in
set_option maxHeartbeats 2000000 in
theorem join_is (w : World) (hR : Rounds w) (a b : List Int) (ha : isDig a) (hb : isDig b) (da db rs : Array Value) (hda : da = arrV .u8 a) (hdb : db = arrV .u8 b) (hrs : rs = arrV .u8 (joinC a b)) :
    Calls Tryz.prog 130 #[.agg da, .agg db] w fun e w' => e = .returned (.agg rs) ∧ w.grownBy w' none := by
  obtain ⟨Z16, hZ16⟩ : ∃ Z, Z = arrV .u8 (List.replicate 16 0) := ⟨_, rfl⟩
  have hz16 : ∀ w, Sem.run Tryz.prog (zeroValue 23) w = .ok (.agg Z16) w := fun w => by rw [hZ16]; exact z16run w
  have hZs : Z16.size = 16 := by rw [hZ16]; rfl
  have hps : ∀ p ∈ [a, b], p.length ≤ 65536 := by
    intro p hp
    have : p.length = 16 := by
      simp only [List.mem_cons, List.not_mem_nil, or_false] at hp
      rcases hp with rfl | rfl
      · exact ha.1
      · exact hb.1
    omega
  have hs16 : rs.size = 16 := by rw [hrs, arr_size]; exact (joinC_dig _ _).1
  have HS6 := Lib.hid (And.intro hs16 (And.intro (show (rs.all fun x => x.oneCell') = true by rw [hrs]; exact arr_one _ _) hrs))
  obtain ⟨l6, hl6⟩ : ∃ l, l = rs.toList := ⟨_, rfl⟩
  have hl16 : l6.length = 16 := by rw [hl6, Array.length_toList, hs16]
  have hi6 : (Tryz.prog.info? 23).map (·.size) = some l6.length := by rw [hl16]; exact info16
  have ho6 : ∀ v ∈ l6, v.oneCell' = true := by rw [hl6, hrs]; simp [Value.oneCell']
  have HLE := Lib.hid hl6
  have HL6 := Lib.hid (show arrV .u8 (ofS 4 [a, b]) = l6.toArray by rw [hl6, Array.toArray_toList, hrs, joinC])
  have HD := Lib.hid (And.intro hda (And.intro hdb (And.intro hZs (And.intro ha hb))))
  have HR := Lib.hid hR
  have hsl := dig_slice
  clear hZ16 hZs hda hdb hrs hR ha hb
  go_enter Tryz.func130, Tryz.ntmps130
  go_wp2_with fail
  obtain ⟨w0, hw0⟩ : ∃ w0, w0 = ((w.alloc (.cells da 23)).alloc (.cells db 23)).alloc (.cells Z16 23) := ⟨_, rfl⟩
  rw [← hw0]
  have s0 : w0.heap.size = w.heap.size + 3 := by rw [hw0]; simp
  have HB0 := Lib.hid (show Blk w0 w.heap.size 23 da ∧ Blk w0 (w.heap.size + 1) 23 db ∧ Blk w0 (w.heap.size + 1 + 1) 23 Z16 ∧ w.grownBy w0 none from by
    rw [hw0]
    have b1 := (Blk.new (w.alloc (.cells da 23)) 23 db).alloc (.cells Z16 23)
    have b2 := Blk.new ((w.alloc (.cells da 23)).alloc (.cells db 23)) 23 Z16
    simp only [World.size_alloc] at b1 b2
    exact ⟨((Blk.new w 23 da).alloc _).alloc _, b1, b2, grown_trans (grown_trans (World.grownBy_alloc w _ none) (World.grownBy_alloc _ _ none)) (World.grownBy_alloc _ _ none)⟩)
  clear hw0
  have W3 : w0.grownBy (w0.drew.alloc (.cells #[.slice (some ⟨w.heap.size, 0, none⟩) 16 16, .slice (some ⟨w.heap.size + 1, 0, none⟩) 16 16] 49)) none := grown_trans (grown_drew (World.grownBy.refl w0 none)) (World.grownBy_alloc _ _ none)
  have HP := Lib.hid (show PartsI (w0.drew.alloc (.cells #[.slice (some ⟨w.heap.size, 0, none⟩) 16 16, .slice (some ⟨w.heap.size + 1, 0, none⟩) 16 16] 49)) (some ⟨w0.heap.size, 0, none⟩) [a, b] from by
    have := parts_new w0.drew 49 #[.slice (some ⟨w.heap.size, 0, none⟩) 16 16, .slice (some ⟨w.heap.size + 1, 0, none⟩) 16 16] [a, b] (fun j hj => by
      have : j = 0 ∨ j = 1 := by simp at hj; omega
      rcases this with rfl | rfl
      · exact ⟨_, 16, 16, rfl, HD.out.2.2.2.1.1, Nat.le_refl _, bytes_blk (t := 23) (show Blk _ w.heap.size 23 (arrV .u8 a) by rw [← HD.out.1]; exact HB0.out.1.grown W3 (by simp))⟩
      · exact ⟨_, 16, 16, rfl, HD.out.2.2.2.2.1, Nat.le_refl _, bytes_blk (t := 23) (show Blk _ (w.heap.size + 1) 23 (arrV .u8 b) by rw [← HD.out.2.1]; exact HB0.out.2.1.grown W3 (by simp))⟩)
    simpa using this)
  have HW3 := Lib.hid (And.intro W3 (grown_trans HB0.out.2.2.2 W3))
  have hT : w0.drew.there (w.heap.size + 1 + 1) 0 16 := there_blk HB0.out.2.2.1.drew (by rw [HD.out.2.2.1]; exact Nat.le_refl _)
  clear s0 hs16 hl6 W3
  go_region_held3 (fun W => W.there (w.heap.size + 1 + 1) 0 16) (first | assumption | (refine there_alloc ?_ _; assumption) | (refine World.there_setCells ?_ _ _ _; assumption))
    ((first
      | (go_at_call 85; refine (of_is _ (HR.out.grown HW3.out.2 (by simp)) 4 _ 2 2 [a, b] rfl HP.out (by omega) hps).mono ?_; rintro e w9 ⟨rfl, hk9⟩; rw [HL6.out]; have hT9 := there_grown (by assumption) hk9)))
  have HK9 := Lib.hid (grown_trans HW3.out.2 hk9)
  have HB9 := Lib.hid ((HB0.out.2.2.1.grown HW3.out.1 (by simp)).grown hk9 (by simp))
  have HE := Lib.hid (show w9.setCells (w.heap.size + 1 + 1) 0 l6 = w9.setRow (w.heap.size + 1 + 1) rs by
    rw [HLE.out]
    exact setCells_row (P := Tryz.prog) HB9.out (by rw [HS6.out.1]; exact info16) (by rw [HD.out.2.2.1, HS6.out.1]) HS6.out.2.1)
  rw [HE.out]
  go_wp2_with fail
  refine bodyPost_ret (results_cell rfl _ _ _ ⟨w.heap.size + 1 + 1, 0, none⟩ (.agg rs) rfl (run_loadVar_row _ (w.heap.size + 1 + 1) 23 23 rs (0, 0) _ (HB9.out.row rs) Tryz.underlying23 rfl (by rw [HS6.out.1]; exact info16))) rfl ?_
  exact ⟨rfl, grown_row HK9.out (.inl (by omega)) rs⟩

theorem range_blk' {w : World} {g g' : Nat} {t : TypeId} {cs cs' : Array Value} {l : List Value} (h : Blk w g t cs) (hne : g ≠ g') (hl : l = cs.toList) : (w.setRow g' cs').rangeAt g 0 l := by
  rw [hl]; exact range_blk (h.farRow hne cs')

set_option maxRecDepth 100000 in
set_option maxHeartbeats 4000000 in
theorem rjoin_is (w : World) (a b : List Int) (ha : isDig a) (hb : isDig b) (da db rs : Array Value) (hda : da = arrV .u8 a) (hdb : db = arrV .u8 b) (hrs : rs = arrV .u8 (joinC a b)) :
    Calls Tryz.prog 97 #[.agg da, .agg db] w fun e w' => e = .returned (.agg rs) ∧ w.grownBy w' none := by
  obtain ⟨s0, h0⟩ := dig_str a ha
  obtain ⟨s1, h1⟩ := dig_str b hb
  obtain ⟨Z16, hZ16⟩ : ∃ Z, Z = arrV .u8 (List.replicate 16 0) := ⟨_, rfl⟩
  have hz16 : ∀ w, Sem.run Tryz.prog (zeroValue 23) w = .ok (.agg Z16) w := fun w => by rw [hZ16]; exact z16run w
  obtain ⟨la, hla⟩ : ∃ l, l = da.toList := ⟨_, rfl⟩
  obtain ⟨lb, hlb⟩ : ∃ l, l = db.toList := ⟨_, rfl⟩
  have h16 : Z16.size = 16 ∧ da.size = 16 ∧ db.size = 16 := ⟨by rw [hZ16]; rfl, by rw [hda, arr_size, ha.1], by rw [hdb, arr_size, hb.1]⟩
  have HD := Lib.hid h16
  have HL := Lib.hid (And.intro hla hlb)
  have HI := Lib.hid (show (Tryz.prog.info? 23).map (·.size) = some la.length ∧ (Tryz.prog.info? 23).map (·.size) = some lb.length from ⟨by rw [hla, Array.length_toList, h16.2.1]; exact info16, by rw [hlb, Array.length_toList, h16.2.2]; exact info16⟩)
  have T0 := Lib.hid (fun V => text_v V a ha.1 s0 h0 la.toArray (by rw [hla, Array.toArray_toList, hda]))
  have T1 := Lib.hid (fun V => text_v V b hb.1 s1 h1 lb.toArray (by rw [hlb, Array.toArray_toList, hdb]))
  have HS6 := Lib.hid (show rs.size = 16 ∧ (rs.all fun x => x.oneCell') = true ∧ arrV .u8 (ofS 4 [a, b]) = rs from ⟨by rw [hrs, arr_size]; exact (joinC_dig _ _).1, by rw [hrs]; exact arr_one _ _, by rw [hrs, joinC]⟩)
  have HE := Lib.hid (show [s0, s1].map xsOf = [a, b] by simp [h0, h1])
  have HTL := Lib.hid (show (∀ t ∈ [s0, s1], t.size ≤ 2000) ∧ (framedL 4 ([s0, s1].map xsOf)).length ≤ 50000 from ⟨fun t ht => by
    have : (xsOf t).length = 16 := by
      simp only [List.mem_cons, List.not_mem_nil, or_false] at ht
      rcases ht with rfl | rfl
      · rw [h0]; exact ha.1
      · rw [h1]; exact hb.1
    rw [xsOf_length] at this
    omega, by
    rw [HE.out]
    have := framedL_le 4 16 [a, b] (fun p hp => by
      simp only [List.mem_cons, List.not_mem_nil, or_false] at hp
      rcases hp with rfl | rfl
      · exact Nat.le_of_eq ha.1
      · exact Nat.le_of_eq hb.1)
    simp at this
    omega⟩)
  clear hZ16 hda hdb hrs ha hb h0 h1 hla hlb h16
  go_enter Tryz.func97, Tryz.ntmps97
  go_wp2_with fail
  obtain ⟨w0, hw0⟩ : ∃ w0, w0 = ((w.alloc (.cells da 23)).alloc (.cells db 23)).alloc (.cells Z16 23) := ⟨_, rfl⟩
  rw [← hw0]
  have HB0 := Lib.hid (show Blk w0 w.heap.size 23 da ∧ Blk w0 (w.heap.size + 1) 23 db ∧ Blk w0 (w.heap.size + 1 + 1) 23 Z16 ∧ w.grownBy w0 none from by
    rw [hw0]
    have b1 := (Blk.new (w.alloc (.cells da 23)) 23 db).alloc (.cells Z16 23)
    have b2 := Blk.new ((w.alloc (.cells da 23)).alloc (.cells db 23)) 23 Z16
    simp only [World.size_alloc] at b1 b2
    exact ⟨((Blk.new w 23 da).alloc _).alloc _, b1, b2, grown_trans (grown_trans (World.grownBy_alloc w _ none) (World.grownBy_alloc _ _ none)) (World.grownBy_alloc _ _ none)⟩)
  clear hw0
  have HSS := Lib.hid (show ∀ V, w0.grownBy V none → V.rangeAt w.heap.size 0 la ∧ V.rangeAt (w.heap.size + 1) 0 lb from fun V hV => by
    obtain ⟨e1, e2⟩ := HL.out
    rw [e1, e2]
    exact ⟨range_blk (HB0.out.1.grown hV (by simp)), range_blk (HB0.out.2.1.grown hV (by simp))⟩)
  have HK0 := Lib.hid (grown_drew (World.grownBy.refl w0 none))
  refine wp_region_held_drew (S := fun V => V.rangeAt w.heap.size 0 la ∧ V.rangeAt (w.heap.size + 1) 0 lb) (by kernel_rfl) (HSS.out _ (grown_drew (World.grownBy.refl w0 none))) (fun hHeld => ?_)
  refine wpAnyH_take (i := 0) (oi := _) (v := .agg la.toArray) rfl (by kernel_rfl) (by kernel_rfl) (by kernel_rfl) (fun _ _ _ h => h) (yieldsIf_load_mid (by rfl) _ _ rfl w.heap.size 0 rfl la _ (fun V hSw => hSw.1) Tryz.underlying23 rfl HI.out.1) (by assumption) ?rest0j
  simp only [Act.put, List.getElem_toArray, List.getElem_cons_zero, List.setIfInBounds_toArray, List.set_cons_zero, List.set_cons_succ]
  refine wpAnyH_take (i := 2) (oi := _) (v := .agg lb.toArray) rfl (by kernel_rfl) (by kernel_rfl) (by kernel_rfl) (fun _ _ _ h => h) (yieldsIf_load_mid (by rfl) _ _ rfl (w.heap.size + 1) 0 rfl lb _ (fun V hSw => hSw.2) Tryz.underlying23 rfl HI.out.2) (by assumption) ?rest2j
  simp only [Act.put, List.getElem_toArray, List.getElem_cons_succ, List.getElem_cons_zero, List.setIfInBounds_toArray, List.set_cons_zero, List.set_cons_succ]
  refine wpAnyH_ready (rs := [1]) (by kernel_rfl) (by simp) ?_
  refine AllReadyH.cons (o := _) rfl (fun K hK => ?_) AllReadyH.nil
  go_simp
  refine (T0.out _).mono ?_
  rintro e w1 ⟨rfl, hk1⟩
  have HK1 := Lib.hid (grown_trans HK0.out hk1)
  clear hk1
  go_wp2_with fail
  refine hK.out _ _ (HSS.out _ HK1.out) (fun hHeld => ?_)
  clear hK K
  try simp only [Act.put, List.setIfInBounds_toArray, List.set_cons_zero, List.set_cons_succ]
  refine wpAnyH_ready (rs := [3]) (by kernel_rfl) (by simp) ?_
  refine AllReadyH.cons (o := _) rfl (fun K hK => ?_) AllReadyH.nil
  go_simp
  refine (T1.out _).mono ?_
  rintro e w2 ⟨rfl, hk2⟩
  have HK2 := Lib.hid (grown_trans HK1.out hk2)
  clear hk2
  go_wp2_with fail
  refine hK.out _ _ (HSS.out _ HK2.out) (fun hHeld => ?_)
  clear hK K
  try simp only [Act.put, List.setIfInBounds_toArray, List.set_cons_zero, List.set_cons_succ]
  refine wpAnyH_ready (rs := [4]) (by kernel_rfl) (by simp) ?_
  refine AllReadyH.cons (o := _) rfl (fun K hK => ?_) AllReadyH.nil
  go_simp
  have hga := grown_trans HK2.out (World.grownBy_alloc w2 (.cells ([s0, s1].map Value.string).toArray 9) none)
  refine hK.out _ _ (HSS.out _ hga) (fun hHeld => ?_)
  clear hK K
  try simp only [Act.put, List.setIfInBounds_toArray, List.set_cons_zero, List.set_cons_succ]
  have hP := texts_new w2 9 [s0, s1]
  refine wpAnyH_ready (rs := [5]) (by kernel_rfl) (by simp) ?_
  refine AllReadyH.cons (o := _) rfl (fun K hK => ?_) AllReadyH.nil
  go_simp
  refine (rof_is _ 4 (some ⟨w2.heap.size, 0, none⟩) 2 2 [s0, s1] rfl hP (by omega) HTL.out.1 HTL.out.2).mono ?_
  rintro e w4 ⟨rfl, hk4⟩
  rw [HE.out, HS6.out.2.2]
  have HK4 := Lib.hid (grown_trans hga hk4)
  clear hP hga hk4
  go_wp2_with fail
  refine hK.out _ _ (HSS.out _ HK4.out) (fun hHeld => ?_)
  clear hK K
  try simp only [Act.put, List.setIfInBounds_toArray, List.set_cons_zero, List.set_cons_succ]
  refine wpAnyH_ready (rs := [6]) (by kernel_rfl) (by simp) ?_
  refine AllReadyH.cons (o := _) rfl (fun K hK => ?_) AllReadyH.nil
  rw [if_pos (by rfl)]
  have HZ4 := Lib.hid (HB0.out.2.2.1.grown HK4.out (by simp))
  refine wp_store_row _ _ _ rfl (w.heap.size + 1 + 1) rs rfl rfl 23 _ HZ4.out (by rw [HS6.out.1]; exact info16) (by rw [HD.out.1, HS6.out.1]) HS6.out.2.1 ?_
  refine hK.out _ _ ⟨range_blk' (HB0.out.1.grown HK4.out (by simp)) (by omega) HL.out.1, range_blk' (HB0.out.2.1.grown HK4.out (by simp)) (by omega) HL.out.2⟩ (fun _ => ?_)
  refine wpAnyH_done (by kernel_rfl) ?_ _
  go_wp2_with fail
  refine bodyPost_ret (results_cell rfl _ _ _ ⟨w.heap.size + 1 + 1, 0, none⟩ (.agg rs) rfl (run_loadVar_row _ (w.heap.size + 1 + 1) 23 23 rs (0, 0) _ (HZ4.out.row rs) Tryz.underlying23 rfl (by rw [HS6.out.1]; exact info16))) rfl ?_
  exact ⟨rfl, grown_row (grown_trans HB0.out.2.2.2 HK4.out) (.inl (by omega)) rs⟩
end Go.Proofs.YthkjlgjbjjjohaaGreatDoor
/-
  trees.Climb and quorateref04.Climb.
-/

namespace Go.Proofs.YthkjlgjbjjjohaaGreatDoor
open Go.RowKit

theorem i64_and1 (n : Int) : bits .and .i64 n 1 = n % 2 := by
  have h3 : (BitVec.ofInt 64 1).toNat = 2 ^ 1 - 1 := by decide
  have key : (BitVec.ofInt 64 n &&& BitVec.ofInt 64 1).toNat = (n % ((2 ^ 64 : Nat) : Int)).toNat % 2 ^ 1 := by
    rw [BitVec.toNat_and, BitVec.toNat_ofInt, h3, Nat.and_two_pow_sub_one_eq_mod]
  show IntKind.i64.wrap ((BitVec.ofInt 64 n &&& BitVec.ofInt 64 1).toNat : Nat) = n % 2
  rw [key, IntKind.wrap_i64]
  omega
/-- Where a way up has come to behind n digests. -/
def climbC (x : List Int) (i : Int) (ps : List (List Int)) : Nat → List Int
  | 0 => x
  | n + 1 => if i / 2 ^ n % 2 = 0 then joinC (climbC x i ps n) (ps.getD n zeroC) else joinC (ps.getD n zeroC) (climbC x i ps n)
theorem climbC_dig {x : List Int} (hx : isDig x) (i : Int) (ps : List (List Int)) : ∀ n, isDig (climbC x i ps n)
  | 0 => hx
  | n + 1 => by rw [climbC]; split <;> exact joinC_dig _ _
theorem leaf_yes (w : World) (lf : Int) (h : 0 ≤ lf ∧ lf < 32) : Calls Tryz.prog 134 #[.int .i64 lf] w fun e w' => e = .returned (.bool true) ∧ w' = w := by
  have d1 : decide (0 ≤ lf) = true := by simp; omega
  have d2 : decide (lf < 32) = true := by simp; omega
  obtain ⟨h1, h2⟩ := h
  go_enter Tryz.func134, Tryz.ntmps134
  go_wp2
  go_ret
  simp
theorem leaf_no (w : World) (lf : Int) (h : lf < 0 ∨ 32 ≤ lf) : Calls Tryz.prog 134 #[.int .i64 lf] w fun e w' => e = .returned (.bool false) ∧ w' = w := by
  by_cases h0 : lf < 0
  · have d1 : decide (0 ≤ lf) = false := by simp; omega
    have h1 : ¬ 0 ≤ lf := by omega
    go_enter Tryz.func134, Tryz.ntmps134
    go_wp2
    go_ret
    simp
  · have d1 : decide (0 ≤ lf) = true := by simp; omega
    have d2 : decide (lf < 32) = false := by simp; omega
    have h1 : 0 ≤ lf := by omega
    have h2 : ¬ lf < 32 := by omega
    go_enter Tryz.func134, Tryz.ntmps134
    go_wp2
    go_ret
    simp

end Go.Proofs.YthkjlgjbjjjohaaGreatDoor
/-
  Trees of digests, plain: nodes, levels, ways up.
-/

namespace Go.Proofs.YthkjlgjbjjjohaaGreatDoor
open Go.RowKit

/-- The j-th digest of the level of that height. -/
def nodeC (ps : List (List Int)) : Nat → Nat → List Int
  | 0, j => ps.getD j zeroC
  | h + 1, j => joinC (nodeC ps h (2 * j)) (nodeC ps h (2 * j + 1))
theorem nodeC_dig {ps : List (List Int)} (hps : ∀ p ∈ ps, isDig p) : ∀ h j, isDig (nodeC ps h j)
  | 0, j => getD_dig hps j
  | h + 1, j => by rw [nodeC]; exact joinC_dig _ _
/-- The first n digests of a level. -/
def levC (ps : List (List Int)) (h n : Nat) : List (List Int) := upto (nodeC ps h) n
theorem levC_length (ps : List (List Int)) (h n : Nat) : (levC ps h n).length = n := upto_length _ _
theorem levC_get {ps : List (List Int)} {h n k : Nat} (hk : k < n) : (levC ps h n).getD k zeroC = nodeC ps h k := by
  simp [levC, upto, List.getD, List.getElem?_map, List.getElem?_range hk]
theorem levC_dig {ps : List (List Int)} (hps : ∀ p ∈ ps, isDig p) (h n : Nat) : ∀ p ∈ levC ps h n, isDig p := by
  intro p hp
  simp only [levC, upto, List.mem_map] at hp
  obtain ⟨k, _, rfl⟩ := hp
  exact nodeC_dig hps h k
theorem levC_zero {ps : List (List Int)} {n : Nat} (hl : ps.length = n) : levC ps 0 n = ps := by
  subst hl
  refine List.ext_getElem (by rw [levC_length]) fun i h1 h2 => ?_
  simp [levC, upto, nodeC, List.getD, h2]
/-- The k-th digest above these. -/
def pairC (ps : List (List Int)) (k : Nat) : List Int := joinC (ps.getD (2 * k) zeroC) (ps.getD (2 * k + 1) zeroC)
theorem pairC_dig (ps : List (List Int)) (k : Nat) : isDig (pairC ps k) := by rw [pairC]; exact joinC_dig _ _
theorem pairC_lev {ps : List (List Int)} {h n k : Nat} (hk : 2 * k + 1 < n) : pairC (levC ps h n) k = nodeC ps (h + 1) k := by
  rw [pairC, levC_get (by omega), levC_get hk, nodeC]
/-- The one beside. -/
def sib (j : Nat) : Nat := if j % 2 = 0 then j + 1 else j - 1
/-- The digest beside the way up from a leaf, at a height. -/
def wayC (ps : List (List Int)) (i h : Nat) : List Int := nodeC ps h (sib (i / 2 ^ h))
theorem wayC_dig {ps : List (List Int)} (hps : ∀ p ∈ ps, isDig p) (i h : Nat) : isDig (wayC ps i h) := nodeC_dig hps _ _
theorem climb_way (ps qs : List (List Int)) (i : Nat) (x : List Int) (hx : x = nodeC ps 0 i) : ∀ n, (∀ h, h < n → qs.getD h zeroC = wayC ps i h) → climbC x (i : Int) qs n = nodeC ps n (i / 2 ^ n)
  | 0, _ => by rw [climbC, hx, Nat.pow_zero, Nat.div_one]
  | n + 1, hq => by
    have ih := climb_way ps qs i x hx n (fun h hh => hq h (by omega))
    have e : i / 2 ^ (n + 1) = i / 2 ^ n / 2 := by rw [Nat.pow_succ, Nat.div_div_eq_div_mul]
    have ec : (i : Int) / 2 ^ n % 2 = ((i / 2 ^ n % 2 : Nat) : Int) := by
      have : (i : Int) / 2 ^ n = ((i / 2 ^ n : Nat) : Int) := by rw [Int.natCast_ediv]; simp
      rw [this]; omega
    rw [climbC, ih, hq n (by omega), wayC, ec, e, nodeC]
    generalize i / 2 ^ n = q
    by_cases hp : q % 2 = 0
    · rw [sib, if_pos (by omega), if_pos hp, show 2 * (q / 2) = q by omega]
    · rw [sib, if_neg (by omega), if_neg hp, show 2 * (q / 2) = q - 1 by omega, show q - 1 + 1 = q by omega]
theorem i64_xor1 : ∀ k : Fin 32, bits .xor .i64 ((k.1 : Nat) : Int) 1 = ((sib k.1 : Nat) : Int) := by decide
/-- Two leaves beside each other. -/
theorem sib_sib (i : Nat) : sib (sib i) = i := by
  unfold sib
  by_cases h : i % 2 = 0
  · rw [if_pos h, if_neg (by omega)]; omega
  · rw [if_neg h, if_pos (by omega)]; omega
theorem sib_half (i : Nat) : sib i / 2 = i / 2 := by unfold sib; split <;> omega
theorem way_beside (ps : List (List Int)) (i h : Nat) : wayC ps (sib i) (h + 1) = wayC ps i (h + 1) := by
  have e : ∀ x : Nat, x / 2 ^ (h + 1) = x / 2 / 2 ^ h := fun x => by rw [Nat.pow_succ, Nat.mul_comm, Nat.div_div_eq_div_mul]
  rw [wayC, wayC, e, e, sib_half]
end Go.Proofs.YthkjlgjbjjjohaaGreatDoor
