/-
  Package turns: Next.
-/
import Derived.Test.YtfpjocinbnipgaaDoorTuW
import Derived.Test.YtfpjocinbnipgaaDoorEv
namespace Go.Proofs.YtfpjocinbnipgaaDoor
open Go.RowKit

theorem next_ok (w : World) (r : Int) (h0 : 0 ≤ r) (h1 : r < 1099511627776) : Calls Tryd.prog 26 #[.int .i64 r] w fun e w' => e = .returned (.tuple #[.int .i64 (r + 1), .nilIface]) ∧ w = w' := by
  have d0 : decide (r < (0 : Int)) = false := by simp; omega
  have d1 : decide ((1099511627776 : Int) ≤ r) = false := by simp; omega
  have hw : wrap64 (r + 1) = r + 1 := w64 _ ⟨by omega, by omega⟩
  clear h0 h1
  go_enter Tryd.func26, Tryd.ntmps26
  go_wp2
  go_ret2
  exact ⟨by simp [hw], rfl⟩

theorem next_bad (w : World) (B : Nat) (r : Int) (a : Addr) (he : ErrAt w B 0 a) (h : r < 0 ∨ 1099511627776 ≤ r) : Calls Tryd.prog 26 #[.int .i64 r] w fun e w' => e = .returned (.tuple #[.int .i64 0, errV a]) ∧ w.grownBy w' none := by
  have c := he.1
  by_cases h0 : r < 0
  · have d0 : decide (r < (0 : Int)) = true := by simp; omega
    clear h0 h
    go_enter Tryd.func26, Tryd.ntmps26
    go_wp2
    go_quiet (fail)
    go_wp2
    go_ret2
    exact ⟨rfl, rfl, rfl, rfl, Nat.le_refl _, fun _ _ _ => rfl⟩
  · have d0 : decide (r < (0 : Int)) = false := by simp; omega
    have d1 : decide ((1099511627776 : Int) ≤ r) = true := by simp; omega
    clear h0 h
    go_enter Tryd.func26, Tryd.ntmps26
    go_wp2
    go_quiet (fail)
    go_wp2
    go_ret2
    exact ⟨rfl, rfl, rfl, rfl, Nat.le_refl _, fun _ _ _ => rfl⟩

end Go.Proofs.YtfpjocinbnipgaaDoor
