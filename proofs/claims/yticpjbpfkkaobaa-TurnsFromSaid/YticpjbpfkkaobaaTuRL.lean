/-
  The document's Leader.
-/
import Derived.Test.YticpjbpfkkaobaaTu
namespace Go.Proofs.Yticpjbpfkkaobaa
open Go.RowKit

theorem refLeader_is (w : World) (n r : Int) : Calls Try.prog 8 #[.int .i64 n, .int .i64 r] w fun e w' => e = .returned (.int .i64 (leaderOf n r)) ∧ w = w' := by
  by_cases h1 : 1 ≤ n
  · have d1 : decide (n < (1 : Int)) = false := by simp; omega
    by_cases h7 : n ≤ 7
    · have d7 : decide ((7 : Int) < n) = false := by simp; omega
      by_cases h0 : 0 ≤ r
      · have d0 : decide (r < (0 : Int)) = false := by simp; omega
        have hz : ¬ n = 0 := by omega
        have hc : inCircle n = true := by simp [inCircle]; omega
        have hv : leaderOf n r = r % n := by simp [leaderOf, hc, h0]
        have ht : r.tmod n = r % n := Int.tmod_eq_emod_of_nonneg h0
        have hlo : 0 ≤ r % n := Int.emod_nonneg _ (by omega)
        have hhi : r % n < n := Int.emod_lt_of_pos _ (by omega)
        have hw : wrap64 (r % n) = r % n := w64 _ ⟨by omega, by omega⟩
        clear h0 h1 h7 hlo hhi hc
        go_enter Try.func8, Try.ntmps8
        go_wp2
        go_ret
        exact ⟨by rw [hv]; rfl, rfl⟩
      · have d0 : decide (r < (0 : Int)) = true := by simp; omega
        have hv : leaderOf n r = -1 := by simp [leaderOf, h0]
        clear h0 h1 h7
        go_enter Try.func8, Try.ntmps8
        go_wp2
        go_ret
        exact ⟨by rw [hv]; rfl, rfl⟩
    · have d7 : decide ((7 : Int) < n) = true := by simp; omega
      have hc : inCircle n = false := by simp [inCircle]; omega
      have hv : leaderOf n r = -1 := by simp [leaderOf, hc]
      clear h1 h7 hc
      go_enter Try.func8, Try.ntmps8
      go_wp2
      go_ret
      exact ⟨by rw [hv]; rfl, rfl⟩
  · have d1 : decide (n < (1 : Int)) = true := by simp; omega
    have hc : inCircle n = false := by simp [inCircle]; omega
    have hv : leaderOf n r = -1 := by simp [leaderOf, hc]
    clear h1 hc
    go_enter Try.func8, Try.ntmps8
    go_wp2
    go_ret
    exact ⟨by rw [hv]; rfl, rfl⟩

end Go.Proofs.Yticpjbpfkkaobaa
