/-
  Package turns: what isCircle and Leader answer; nothing is turned.
-/
import Derived.Test.YticpjbpfkkaobaaDoorTuW
namespace Go.Proofs.YticpjbpfkkaobaaDoor
open Go.RowKit

def inCircle (n : Int) : Bool := decide (1 ≤ n) && decide (n ≤ 7)
def leaderOf (n r : Int) : Int := if inCircle n && decide (0 ≤ r) then r % n else -1

theorem circle_is (w : World) (n : Int) : Calls Tryd.prog 16 #[.int .i64 n] w fun e w' => e = .returned (.bool (inCircle n)) ∧ w = w' := by
  by_cases h1 : 1 ≤ n
  · have d1 : decide ((1 : Int) ≤ n) = true := by simp; omega
    by_cases h7 : n ≤ 7
    · have d7 : decide (n ≤ (7 : Int)) = true := by simp; omega
      have hv : inCircle n = true := by simp [inCircle]; omega
      clear h1 h7
      go_enter Tryd.func16, Tryd.ntmps16
      go_wp2
      go_ret
      exact ⟨by rw [hv]; rfl, rfl⟩
    · have d7 : decide (n ≤ (7 : Int)) = false := by simp; omega
      have hv : inCircle n = false := by simp [inCircle]; omega
      clear h1 h7
      go_enter Tryd.func16, Tryd.ntmps16
      go_wp2
      go_ret
      exact ⟨by rw [hv]; rfl, rfl⟩
  · have d1 : decide ((1 : Int) ≤ n) = false := by simp; omega
    have hv : inCircle n = false := by simp [inCircle]; omega
    clear h1
    go_enter Tryd.func16, Tryd.ntmps16
    go_wp2
    go_ret
    exact ⟨by rw [hv]; rfl, rfl⟩

theorem leader_is (w : World) (n r : Int) : Calls Tryd.prog 9 #[.int .i64 n, .int .i64 r] w fun e w' => e = .returned (.int .i64 (leaderOf n r)) ∧ w = w' := by
  by_cases hc : inCircle n = true
  · by_cases h0 : 0 ≤ r
    · have d0 : decide (r < (0 : Int)) = false := by simp; omega
      have hn : 1 ≤ n ∧ n ≤ 7 := by simpa [inCircle] using hc
      have hz : ¬ n = 0 := by omega
      have hv : leaderOf n r = r % n := by simp [leaderOf, hc, h0]
      have ht : r.tmod n = r % n := Int.tmod_eq_emod_of_nonneg h0
      have hlo : 0 ≤ r % n := Int.emod_nonneg _ (by omega)
      have hhi : r % n < n := Int.emod_lt_of_pos _ (by omega)
      have hw : wrap64 (r % n) = r % n := w64 _ ⟨by omega, by omega⟩
      clear h0 hn hlo hhi
      go_enter Tryd.func9, Tryd.ntmps9
      go_wp2_with (go_at_call 16; refine (circle_is _ _).mono ?_; rintro e w1 ⟨rfl, rfl⟩)
      go_ret
      exact ⟨by rw [hv]; rfl, rfl⟩
    · have d0 : decide (r < (0 : Int)) = true := by simp; omega
      have hv : leaderOf n r = -1 := by simp [leaderOf, h0]
      clear h0
      go_enter Tryd.func9, Tryd.ntmps9
      go_wp2_with (go_at_call 16; refine (circle_is _ _).mono ?_; rintro e w1 ⟨rfl, rfl⟩)
      go_ret
      exact ⟨by rw [hv]; rfl, rfl⟩
  · have hc' : inCircle n = false := by simpa using hc
    have hv : leaderOf n r = -1 := by simp [leaderOf, hc']
    clear hc
    go_enter Tryd.func9, Tryd.ntmps9
    go_wp2_with (go_at_call 16; refine (circle_is _ _).mono ?_; rintro e w1 ⟨rfl, rfl⟩)
    go_ret
    exact ⟨by rw [hv]; rfl, rfl⟩

theorem turns_alive (w : World) : Calls Tryd.prog 7 #[] w fun e w' => e = .returned (.bool true) ∧ w = w' := by
  have hl : leaderOf 4 6 = 2 := by decide
  go_enter Tryd.func7, Tryd.ntmps7
  go_wp2_with fail
  refine (leader_is _ 4 6).mono ?_
  rintro e w1 ⟨rfl, rfl⟩
  go_wp2_with fail
  refine (wait_is _ 0 2 rfl).mono ?_
  rintro e w1 ⟨rfl, rfl⟩
  go_wp2_with fail
  refine (wait_is _ 3 16 rfl).mono ?_
  rintro e w1 ⟨rfl, rfl⟩
  go_wp2_with fail
  refine (wait_is _ 9 16 rfl).mono ?_
  rintro e w1 ⟨rfl, rfl⟩
  go_wp2_with fail
  go_ret
  exact ⟨rfl, rfl⟩
end Go.Proofs.YticpjbpfkkaobaaDoor
