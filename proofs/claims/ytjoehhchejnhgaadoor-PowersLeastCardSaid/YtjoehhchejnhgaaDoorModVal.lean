/-
  'int(uint(x) % m)': a number from 0 to m - 1.
-/
import Derived.Test.YtjoehhchejnhgaaDoorBase
namespace Go.Proofs.YtjoehhchejnhgaaDoor
open Go.RowKit

theorem mod_val (f : Int) (m : Nat) (h : 0 < m) (hm : m ≤ 1000000000) : ∃ k : Nat, k < m ∧ wrap64 ((IntKind.u64.wrap f).tmod (m : Int)) = (k : Int) := by
  have h0 : 0 ≤ IntKind.u64.wrap f := by simp [IntKind.wrap_u64]; omega
  have h1 : (IntKind.u64.wrap f).tmod m = IntKind.u64.wrap f % m := Int.tmod_eq_emod_of_nonneg h0
  have h2 := Int.emod_nonneg (IntKind.u64.wrap f) (show (m : Int) ≠ 0 by omega)
  have h3 := Int.emod_lt_of_pos (IntKind.u64.wrap f) (show (0 : Int) < m by omega)
  refine ⟨(IntKind.u64.wrap f % m).toNat, by omega, ?_⟩
  rw [h1]
  generalize IntKind.u64.wrap f % (m : Int) = q at *
  unfold wrap64
  omega
theorem u64_small (x : Int) (h0 : 0 ≤ x) (h1 : x ≤ 1000000000) : IntKind.u64.wrap x = x := by rw [IntKind.wrap_u64]; omega
end Go.Proofs.YtjoehhchejnhgaaDoor
