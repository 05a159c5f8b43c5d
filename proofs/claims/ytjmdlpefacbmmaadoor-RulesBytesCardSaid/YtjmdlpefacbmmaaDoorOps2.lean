/-
  One op of a script, written by a Writer without an error.
-/
import Derived.Test.YtjmdlpefacbmmaaDoorOps
import Derived.Test.YtjmdlpefacbmmaaDoorVars
namespace Go.Proofs.YtjmdlpefacbmmaaDoor
open Go.RowKit

theorem goodNum {n width : Int} (h : badNum n width = false) : ∃ m k : Nat, n = (m : Int) ∧ width = (k : Int) ∧ 1 ≤ k ∧ k ≤ 8 ∧ m < 256 ^ k := by
  unfold badNum at h
  simp only [Bool.or_eq_false_iff, decide_eq_false_iff_not] at h
  obtain ⟨⟨⟨h1, h2⟩, h3⟩, h4⟩ := h
  obtain ⟨k, rfl⟩ := Int.eq_ofNat_of_zero_le (show 0 ≤ width by omega)
  obtain ⟨m, rfl⟩ := Int.eq_ofNat_of_zero_le (show 0 ≤ n by omega)
  refine ⟨m, k, rfl, rfl, by omega, by omega, ?_⟩
  rw [Int.toNat_natCast, shr_cast] at h4
  have h5 : m / 256 ^ k = 0 := by
    simp only [bne_eq_false_iff_eq] at h4
    omega
  exact (Nat.div_eq_zero_iff_lt (Nat.pow_pos (by omega))).1 h5

/-- What an op leaves of a Writer without an error that holds l: the error's number, the bytes. -/
def wOp (o : OpV) (l : List UInt8) : Nat × List UInt8 :=
  if o.kind == 1 then (if badNum o.n o.width then (1, l) else (0, l ++ be o.width.toNat o.n.toNat))
  else if o.kind == 2 then (0, l ++ [if bits BinOp.and IntKind.i64 o.n 1 == 1 then 1 else 0])
  else if o.kind == 3 then (0, l ++ o.bytes)
  else if o.kind == 4 then (if o.most < (o.bytes.length : Int) ∨ 65535 < o.bytes.length then (1, l) else (0, l ++ (be 2 o.bytes.length ++ o.bytes)))
  else if o.kind == 5 then (if o.most < (o.bytes.length : Int) ∨ 255 < o.bytes.length then (1, l) else (0, l ++ (be 1 o.bytes.length ++ o.bytes)))
  else if o.kind == 6 then (10, l) else (0, l)

end Go.Proofs.YtjmdlpefacbmmaaDoor
