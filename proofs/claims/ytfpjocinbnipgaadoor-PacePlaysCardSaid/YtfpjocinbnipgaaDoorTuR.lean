/-
  The document's Wait.
-/
import Derived.Test.YtfpjocinbnipgaaDoorTuW
namespace Go.Proofs.YtfpjocinbnipgaaDoor
open Go.RowKit

theorem refWait_is (w : World) (f : Int) : Calls Tryd.prog 19 #[.int .i64 f] w fun e w' => e = .returned (.int .i64 (waitOf f)) ∧ w = w' := by
  by_cases h0 : f ≤ 0
  · have d0 : decide (f ≤ (0 : Int)) = true := by simp; omega
    have hv : waitOf f = 2 := by simp [waitOf, h0]
    clear h0
    go_enter Tryd.func19, Tryd.ntmps19
    go_wp2
    go_ret
    exact ⟨by rw [hv]; rfl, rfl⟩
  · have d0 : decide (f ≤ (0 : Int)) = false := by simp; omega
    by_cases h1 : f = 1
    · subst h1
      go_enter Tryd.func19, Tryd.ntmps19
      go_wp2
      go_ret
      exact ⟨rfl, rfl⟩
    · have d1 : (f == 1) = false := by simpa using h1
      by_cases h2 : f = 2
      · subst h2
        go_enter Tryd.func19, Tryd.ntmps19
        go_wp2
        go_ret
        exact ⟨rfl, rfl⟩
      · have d2 : (f == 2) = false := by simpa using h2
        have hv : waitOf f = 16 := by simp [waitOf, h0, h1, h2]
        clear h0 h1 h2
        go_enter Tryd.func19, Tryd.ntmps19
        go_wp2
        go_ret
        exact ⟨by rw [hv]; rfl, rfl⟩

end Go.Proofs.YtfpjocinbnipgaaDoor
