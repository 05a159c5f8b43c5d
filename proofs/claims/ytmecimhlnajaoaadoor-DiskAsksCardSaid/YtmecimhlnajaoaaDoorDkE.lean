/-
  DiskPower, walked: just so many writes are done as the power lasts.
-/
import Derived.Test.YtmecimhlnajaoaaDoorDkA
import Derived.Test.YtmecimhlnajaoaaDoorNum
namespace Go.Proofs.YtmecimhlnajaoaaDoor
open Go.RowKit Go.Maps

theorem u_mod (a n : Int) (hn : 0 < n ∧ n < 1000) : ∃ k : Nat, wrap64 ((IntKind.u64.wrap a).tmod n) = (k : Int) ∧ (k : Int) < n := by
  have h : 0 ≤ IntKind.u64.wrap a := by
    simp only [IntKind.wrap, IntKind.signed, IntKind.bits, Bool.false_and, Bool.false_eq_true, if_false]
    omega
  have h1 := Int.tmod_nonneg n h
  have h2 := Int.tmod_lt_of_pos (IntKind.u64.wrap a) hn.1
  obtain ⟨t, ht⟩ : ∃ t, (IntKind.u64.wrap a).tmod n = t := ⟨_, rfl⟩
  rw [ht] at h1 h2 ⊢
  refine ⟨t.toNat, ?_, by omega⟩
  unfold wrap64
  omega
/-- The first k places are written with r. -/
def firstW (n k : Nat) (r : List Int) : List (Option (List Int)) := List.replicate k (some r) ++ List.replicate (n - k) none
theorem firstW_len {n k : Nat} (h : k ≤ n) (r : List Int) : (firstW n k r).length = n := by simp [firstW]; omega
theorem firstW_set {n k : Nat} (h : k < n) (r : List Int) : (firstW n k r).set k (some r) = firstW n (k + 1) r := by
  unfold firstW
  rw [List.set_append_right _ _ (by simp), List.length_replicate, Nat.sub_self, show n - k = (n - (k + 1)) + 1 by omega, List.replicate_succ, List.set_cons_zero, List.replicate_succ' (n := k)]
  simp
theorem firstW_dirty {n k : Nat} (h : k ≤ n) (r : List Int) : dirtyL (firstW n k r) = (List.range k).map fun i : Nat => (i : Int) := by
  unfold dirtyL
  congr 1
  rw [firstW_len h, show n = k + (n - k) by omega, List.range_add, List.filter_append]
  have e1 : (List.range k).filter (fun i => ((firstW (k + (n - k)) k r)[i]?.join).isSome) = List.range k := List.filter_eq_self.2 (fun i hi => by
    have hi := List.mem_range.1 hi
    rw [firstW, List.getElem?_append_left (by simpa using hi), List.getElem?_replicate, if_pos hi]; rfl)
  have e2 : ((List.range (n - k)).map (k + ·)).filter (fun i => ((firstW (k + (n - k)) k r)[i]?.join).isSome) = [] := List.filter_eq_nil_iff.2 (fun i hi => by
    obtain ⟨j, hj, rfl⟩ := List.mem_map.1 hi
    have hj := List.mem_range.1 hj
    rw [firstW, List.getElem?_append_right (by simp), List.getElem?_replicate, if_pos (by simp; omega)]; simp)
  rw [e1, e2, List.append_nil]
/-- n sectors behind i writes, the power lasts L operations. -/
def pwS (n L i : Nat) (r : List Int) : DkS := { syn := List.replicate n (List.replicate 64 0), wr := firstW n (min i L) r, off := decide (L < i), lasts := ((L - min i L : Nat) : Int) }
theorem pwS_arm (n L : Nat) (r : List Int) : armS (newS n) (L : Int) = pwS n L 0 r := by
  have : ¬ ((L : Int) < -1) := by omega
  simp [armS, newS, pwS, firstW, this]
theorem pwS_yes {n L i : Nat} (r : List Int) (hi : i < n) (h : i < L) : wE (pwS n L i r) (i : Int) = 0 ∧ wS (pwS n L i r) (i : Int) r = pwS n L (i + 1) r := by
  have e1 : inR (pwS n L i r) (i : Int) = true := by simp [inR, pwS]; omega
  have e2 : opOk (pwS n L i r) = true := opOk_of (by simp [pwS]; omega) (by simp [pwS]; omega)
  have hm : min i L = i := by omega
  have hm2 : min (i + 1) L = i + 1 := by omega
  have e3 : opS (pwS n L i r) = { pwS n L i r with lasts := ((L - (i + 1) : Nat) : Int) } := by
    unfold opS
    rw [if_neg (by simp [pwS]; omega), if_neg (by simp [pwS]; omega), if_pos (by simp [pwS]; omega)]
    congr 1
    simp only [pwS, hm]; omega
  refine ⟨by simp [wE, e1, e2], ?_⟩
  rw [wS, if_pos e1, if_pos e2, e3, Int.toNat_natCast]
  have hd : decide (L < i) = decide (L < i + 1) := by
    rw [decide_eq_false (by omega), decide_eq_false (by omega)]
  simp only [wrS, pwS, hm, hm2, firstW_set hi, hd]
theorem pwS_no {n L i : Nat} (r : List Int) (hi : i < n) (h : ¬ i < L) : wE (pwS n L i r) (i : Int) = 2 ∧ wS (pwS n L i r) (i : Int) r = pwS n L (i + 1) r := by
  have e1 : inR (pwS n L i r) (i : Int) = true := by simp [inR, pwS]; omega
  have hl : (pwS n L i r).lasts = 0 := by simp [pwS]; omega
  have e2 : opOk (pwS n L i r) = false := by simp [opOk, hl]
  have e3 : opS (pwS n L i r) = { pwS n L i r with off := true } := by rw [opS, if_pos hl]
  refine ⟨by simp [wE, e1, e2], ?_⟩
  rw [wS, if_pos e1, if_neg (by simp [e2]), e3]
  have hm : min i L = L := by omega
  have hm2 : min (i + 1) L = L := by omega
  have hd : decide (L < i + 1) = true := decide_eq_true (by omega)
  simp only [pwS, hm, hm2, hd]
end Go.Proofs.YtmecimhlnajaoaaDoor
