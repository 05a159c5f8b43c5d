/-
  DiskKeeps (pure): the first sectors are written one by one; what is synced; what a crash keeps.
-/
import Derived.Test.YtmecimhlnajaoaaDoorDkA
import Derived.Test.YtmecimhlnajaoaaDoorDkLa
namespace Go.Proofs.YtmecimhlnajaoaaDoor
open Go.RowKit Go.Maps

/-- The first places are written with the list's bytes. -/
def listW (n : Nat) (l : List UInt8) (k : Nat) : List (Option (List Int)) := (l.take k).map (fun x => some (firstR (x.toNat : Int))) ++ List.replicate (n - k) none
theorem listW_len {n k : Nat} {l : List UInt8} (h : k ≤ n) (hk : k ≤ l.length) : (listW n l k).length = n := by simp [listW]; omega
theorem listW_set {n k : Nat} {l : List UInt8} (h : k < n) (hk : k < l.length) : (listW n l k).set k (some (firstR (l[k].toNat : Int))) = listW n l (k + 1) := by
  unfold listW
  rw [List.set_append_right _ _ (by simp; omega), List.length_map, List.length_take, show k - min k l.length = 0 by omega, show n - k = (n - (k + 1)) + 1 by omega, List.replicate_succ, List.set_cons_zero, List.take_succ_eq_append_getElem hk]
  simp only [List.map_append, List.map_cons, List.map_nil, List.append_assoc, List.singleton_append]
theorem listW_at {n k i : Nat} {l : List UInt8} (hk : k ≤ l.length) (hi : i < n) (hkn : k ≤ n) : (listW n l k)[i]? = some (if h : i < k then some (firstR ((l[i]'(by omega)).toNat : Int)) else none) := by
  unfold listW
  by_cases h : i < k
  · rw [List.getElem?_append_left (by simp; omega), dif_pos h, List.getElem?_map, List.getElem?_take_of_lt h, List.getElem?_eq_getElem (by omega)]; rfl
  · rw [List.getElem?_append_right (by simp; omega), dif_neg h, List.getElem?_replicate, if_pos (by simp; omega)]
theorem listW_dirty {n k : Nat} {l : List UInt8} (h : k ≤ n) (hk : k ≤ l.length) : dirtyL (listW n l k) = (List.range k).map fun i : Nat => (i : Int) := by
  unfold dirtyL
  congr 1
  rw [listW_len h hk, show n = k + (n - k) by omega, List.range_add, List.filter_append]
  have e1 : (List.range k).filter (fun i => ((listW (k + (n - k)) l k)[i]?.join).isSome) = List.range k := List.filter_eq_self.2 (fun i hi => by
    have hi := List.mem_range.1 hi
    rw [listW_at hk (by omega) (by omega), dif_pos hi]; rfl)
  have e2 : ((List.range (n - k)).map (k + ·)).filter (fun i => ((listW (k + (n - k)) l k)[i]?.join).isSome) = [] := List.filter_eq_nil_iff.2 (fun i hi => by
    obtain ⟨j, hj, rfl⟩ := List.mem_map.1 hi
    have hj := List.mem_range.1 hj
    rw [listW_at hk (by omega) (by omega), dif_neg (by omega)]; simp)
  rw [e1, e2, List.append_nil]
/-- The disk whose sectors hold the list's bytes first, zero behind. -/
def synL (n : Nat) (l : List UInt8) : List (List Int) := (List.range n).map fun i => firstR ((l.getD i 0).toNat : Int)
theorem synL_len (n : Nat) (l : List UInt8) : (synL n l).length = n := by simp [synL]
theorem synL_at {n i : Nat} {l : List UInt8} (h : i < n) : (synL n l).getD i [] = firstR ((l.getD i 0).toNat : Int) := by
  simp [synL, List.getD, List.getElem?_map, List.getElem?_range h]
theorem synL_nil (n : Nat) : synL n [] = List.replicate n (List.replicate 64 0) := by
  refine List.ext_getElem (by simp [synL]) (fun i h1 h2 => ?_)
  simp [synL, firstR, List.replicate_succ]
def kpS (n : Nat) (s : List UInt8) (l : List UInt8) (k : Nat) : DkS := { syn := synL n s, wr := listW n l k, off := false, lasts := -1 }
theorem kpS_new (n : Nat) (l : List UInt8) : newS n = kpS n [] l 0 := by simp [newS, kpS, synL_nil, listW]
theorem kpS_write {n k : Nat} {s l : List UInt8} (h : k < n) (hk : k < l.length) : wE (kpS n s l k) (k : Int) = 0 ∧ wS (kpS n s l k) (k : Int) (firstR (l[k].toNat : Int)) = kpS n s l (k + 1) := by
  have hl : k < (kpS n s l k).syn.length := by show k < (synL n s).length; rw [synL_len]; exact h
  refine ⟨wE_ok hl rfl (by simp [kpS]), ?_⟩
  rw [wS_ok _ hl rfl rfl]
  simp only [wrS, kpS, listW_set h hk]
theorem kpS_sync {n : Nat} {l l2 : List UInt8} (h : l.length ≤ n) : sE (kpS n [] l l.length) = 0 ∧ sS (kpS n [] l l.length) = kpS n l l2 0 := by
  refine ⟨sE_ok rfl (by simp [kpS]), ?_⟩
  rw [sS_ok rfl rfl]
  have e : mgS (synL n []) (listW n l l.length) (fun _ => true) = synL n l := by
    refine List.ext_getElem (by rw [mgS_length, synL_len, synL_len]) (fun i h1 h2 => ?_)
    have hi : i < n := by rwa [synL_len] at h2
    rw [mgS_at h1, if_pos rfl, listW_at (Nat.le_refl _) hi h]
    have e2 : (synL n l)[i] = firstR ((l.getD i 0).toNat : Int) := by
      rw [← synL_at hi, List.getD, List.getElem?_eq_getElem h2, Option.getD_some]
    rw [e2]
    by_cases hil : i < l.length
    · rw [dif_pos hil]; simp [List.getD, List.getElem?_eq_getElem hil]
    · rw [dif_neg hil, synL_at hi]; simp [List.getD, List.getElem?_eq_none (Nat.le_of_not_lt hil)]
  simp only [syncS, kpS, e, listW_len h (Nat.le_refl _)]
  simp [listW]
/-- What sector i holds at the end. -/
def kpB (s l : List UInt8) (keep : List Bool) (i : Nat) : UInt8 := if i < l.length ∧ keep[i]? = some true then l.getD i 0 else s.getD i 0
theorem kpS_crash {n : Nat} {s l : List UInt8} {keep : List Bool} (h : l.length ≤ n) : (crashS (kpS n s l l.length) keep).syn.length = n ∧ (crashS (kpS n s l l.length) keep).off = false ∧ dirtyL (crashS (kpS n s l l.length) keep).wr = [] ∧
    ∀ i, i < n → rE (crashS (kpS n s l l.length) keep) (i : Int) = 0 ∧ rV (crashS (kpS n s l l.length) keep) (i : Int) = firstR ((kpB s l keep i).toNat : Int) := by
  have hl : (crashS (kpS n s l l.length) keep).syn.length = n := by show (mgS (synL n s) _ _).length = n; rw [mgS_length, synL_len]
  refine ⟨hl, rfl, ?_, fun i hi => ⟨rE_ok (by rw [hl]; exact hi) rfl, ?_⟩⟩
  · show dirtyL (List.replicate _ none) = []
    unfold dirtyL
    rw [List.filter_eq_nil_iff.2 (fun i hi => by
      have hi := List.mem_range.1 hi
      rw [List.getElem?_replicate, if_pos (by simpa using hi)]; simp)]
    rfl
  · rw [rV_ok (by rw [hl]; exact hi) rfl, readS]
    have e1 : (crashS (kpS n s l l.length) keep).wr[i]?.join = none := by
      show (List.replicate _ (none : Option (List Int)))[i]?.join = none
      rw [List.getElem?_replicate]; split <;> rfl
    rw [e1, Option.getD_none]
    show (mgS (synL n s) (listW n l l.length) (keepP (dirtyL (listW n l l.length)) keep (dirtyL (listW n l l.length)).length)).getD i [] = _
    rw [listW_dirty h (Nat.le_refl _)]
    have hm : i < (mgS (synL n s) (listW n l l.length) (keepP ((List.range l.length).map fun i : Nat => (i : Int)) keep ((List.range l.length).map fun i : Nat => (i : Int)).length)).length := by rw [mgS_length, synL_len]; exact hi
    rw [List.getD, List.getElem?_eq_getElem hm, Option.getD_some, mgS_at hm, synL_at hi, listW_at (Nat.le_refl _) hi h]
    have hk : keepP ((List.range l.length).map fun i : Nat => (i : Int)) keep ((List.range l.length).map fun i : Nat => (i : Int)).length i = decide (i < l.length ∧ keep[i]? = some true) := by
      rw [Bool.eq_iff_iff, decide_eq_true_iff, keepP, List.any_eq_true]
      constructor
      · rintro ⟨j, hj, h2⟩
        have hj := List.mem_range.1 hj
        rw [List.length_map, List.length_range] at hj
        simp only [Bool.and_eq_true, beq_iff_eq, List.getElem?_map, List.getElem?_range hj, Option.map_some, Option.some.injEq] at h2
        obtain rfl : j = i := by omega
        exact ⟨hj, h2.2⟩
      · rintro ⟨h1, h2⟩
        refine ⟨i, List.mem_range.2 (by simpa using h1), ?_⟩
        simp only [Bool.and_eq_true, beq_iff_eq, List.getElem?_map, List.getElem?_range h1, Option.map_some]
        exact ⟨trivial, h2⟩
    rw [hk, kpB]
    by_cases hc : i < l.length ∧ keep[i]? = some true
    · rw [if_pos (by simpa using hc), if_pos hc, dif_pos hc.1]
      simp [List.getD, List.getElem?_eq_getElem hc.1]
    · rw [if_neg (by simpa using hc), if_neg hc]
end Go.Proofs.YtmecimhlnajaoaaDoor
