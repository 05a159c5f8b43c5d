/-
  Package turns: what isCircle, Leader and Wait answer, and what the document's Leader answers; nothing is turned.
-/
import Derived.Test.YticpjbpfkkaobaaDoorBase
import Derived.LoopTactic
namespace Go.Proofs.YticpjbpfkkaobaaDoor
open Go.RowKit

theorem w64 (n : Int) (h : -9223372036854775808 ≤ n ∧ n ≤ 9223372036854775807) : wrap64 n = n := by unfold wrap64; omega
def inCircle (n : Int) : Bool := decide (1 ≤ n) && decide (n ≤ 7)
def leaderOf (n r : Int) : Int := if inCircle n && decide (0 ≤ r) then r % n else -1
def waitOf (f : Int) : Int := if f ≤ 0 then 2 else if f = 1 then 4 else if f = 2 then 8 else 16

theorem circle_is (w : World) (n : Int) : Calls Tryd.prog 16 #[.int .i64 n] w fun e w' => e = .returned (.bool (inCircle n)) ∧ w = w' := by
  by_cases h1 : 1 ≤ n
  · have d1 : decide ((1 : Int) ≤ n) = true := by simp; omega
    by_cases h7 : n ≤ 7
    · have d7 : decide (n ≤ (7 : Int)) = true := by simp; omega
      have hv : inCircle n = true := by simp [inCircle]; omega
      clear h1 h7
      go_enter Tryd.func16, Tryd.ntmps16
      go_wp2
      go_ret
      exact ⟨by rw [hv]; rfl, rfl⟩
    · have d7 : decide (n ≤ (7 : Int)) = false := by simp; omega
      have hv : inCircle n = false := by simp [inCircle]; omega
      clear h1 h7
      go_enter Tryd.func16, Tryd.ntmps16
      go_wp2
      go_ret
      exact ⟨by rw [hv]; rfl, rfl⟩
  · have d1 : decide ((1 : Int) ≤ n) = false := by simp; omega
    have hv : inCircle n = false := by simp [inCircle]; omega
    clear h1
    go_enter Tryd.func16, Tryd.ntmps16
    go_wp2
    go_ret
    exact ⟨by rw [hv]; rfl, rfl⟩

theorem leader_is (w : World) (n r : Int) : Calls Tryd.prog 9 #[.int .i64 n, .int .i64 r] w fun e w' => e = .returned (.int .i64 (leaderOf n r)) ∧ w = w' := by
  by_cases hc : inCircle n = true
  · by_cases h0 : 0 ≤ r
    · have d0 : decide (r < (0 : Int)) = false := by simp; omega
      have hn : 1 ≤ n ∧ n ≤ 7 := by simpa [inCircle] using hc
      have hz : ¬ n = 0 := by omega
      have hv : leaderOf n r = r % n := by simp [leaderOf, hc, h0]
      have ht : r.tmod n = r % n := Int.tmod_eq_emod_of_nonneg h0
      have hlo : 0 ≤ r % n := Int.emod_nonneg _ (by omega)
      have hhi : r % n < n := Int.emod_lt_of_pos _ (by omega)
      have hw : wrap64 (r % n) = r % n := w64 _ ⟨by omega, by omega⟩
      clear h0 hn hlo hhi
      go_enter Tryd.func9, Tryd.ntmps9
      go_wp2_with (go_at_call 16; refine (circle_is _ _).mono ?_; rintro e w1 ⟨rfl, rfl⟩)
      go_ret
      exact ⟨by rw [hv]; rfl, rfl⟩
    · have d0 : decide (r < (0 : Int)) = true := by simp; omega
      have hv : leaderOf n r = -1 := by simp [leaderOf, h0]
      clear h0
      go_enter Tryd.func9, Tryd.ntmps9
      go_wp2_with (go_at_call 16; refine (circle_is _ _).mono ?_; rintro e w1 ⟨rfl, rfl⟩)
      go_ret
      exact ⟨by rw [hv]; rfl, rfl⟩
  · have hc' : inCircle n = false := by simpa using hc
    have hv : leaderOf n r = -1 := by simp [leaderOf, hc']
    clear hc
    go_enter Tryd.func9, Tryd.ntmps9
    go_wp2_with (go_at_call 16; refine (circle_is _ _).mono ?_; rintro e w1 ⟨rfl, rfl⟩)
    go_ret
    exact ⟨by rw [hv]; rfl, rfl⟩

theorem wait_is (w : World) (f v : Int) (hv : waitOf f = v) : Calls Tryd.prog 11 #[.int .i64 f] w fun e w' => e = .returned (.int .i64 v) ∧ w = w' := by
  go_enter Tryd.func11, Tryd.ntmps11
  have Hv := Lib.hid hv
  clear hv
  go_wp2
  go_loop [3, 4] (fun t i => ∃ k : Nat, k ≤ 3 ∧ (k = 0 ∨ (k : Int) ≤ f) ∧ i = .int .i64 (k : Int) ∧ t = .int .i64 ((2 ^ (k + 1) : Nat) : Int)) (fun _ i => 4 - (intOf i).toNat)
  case atStart => exact ⟨0, by omega, .inl rfl, rfl, rfl⟩
  case round =>
    obtain ⟨k, hk, hf, rfl, rfl⟩ := hrel
    have hk4 : k = 0 ∨ k = 1 ∨ k = 2 ∨ k = 3 := by omega
    rcases hk4 with rfl | rfl | rfl | rfl
    · by_cases hlt : (0 : Int) < f
      · have d : decide ((0 : Int) < f) = true := by simpa using hlt
        go_wp2
        go_round
        case rel => exact ⟨1, by omega, .inr (by omega), rfl, rfl⟩
        case measure => simp [intOf]
      · have d : decide ((0 : Int) < f) = false := by simpa using hlt
        have hv : v = 2 := by rw [← Hv.out]; simp [waitOf]; omega
        subst hv
        go_wp2
        go_ret
        exact ⟨rfl, rfl⟩
    · by_cases hlt : (1 : Int) < f
      · have d : decide ((1 : Int) < f) = true := by simpa using hlt
        go_wp2
        go_round
        case rel => exact ⟨2, by omega, .inr (by omega), rfl, rfl⟩
        case measure => simp [intOf]
      · have d : decide ((1 : Int) < f) = false := by simpa using hlt
        have hf1 : f = 1 := by omega
        have hv : v = 4 := by rw [← Hv.out, hf1]; rfl
        subst hv
        clear hf1
        go_wp2
        go_ret
        exact ⟨rfl, rfl⟩
    · by_cases hlt : (2 : Int) < f
      · have d : decide ((2 : Int) < f) = true := by simpa using hlt
        go_wp2
        go_round
        case rel => exact ⟨3, by omega, .inr (by omega), rfl, rfl⟩
        case measure => simp [intOf]
      · have d : decide ((2 : Int) < f) = false := by simpa using hlt
        have hf2 : f = 2 := by omega
        have hv : v = 8 := by rw [← Hv.out, hf2]; rfl
        subst hv
        clear hf2
        go_wp2
        go_ret
        exact ⟨rfl, rfl⟩
    · have hv : v = 16 := by
        rw [← Hv.out]
        have h3 : (3 : Int) ≤ f := by omega
        simp [waitOf]; omega
      subst hv
      by_cases hlt : (3 : Int) < f
      · have d : decide ((3 : Int) < f) = true := by simpa using hlt
        go_wp2
        go_ret
        exact ⟨rfl, rfl⟩
      · have d : decide ((3 : Int) < f) = false := by simpa using hlt
        go_wp2
        go_ret
        exact ⟨rfl, rfl⟩

theorem turns_alive (w : World) : Calls Tryd.prog 7 #[] w fun e w' => e = .returned (.bool true) ∧ w = w' := by
  have hl : leaderOf 4 6 = 2 := by decide
  go_enter Tryd.func7, Tryd.ntmps7
  go_wp2_with fail
  refine (leader_is _ 4 6).mono ?_
  rintro e w1 ⟨rfl, rfl⟩
  go_wp2_with fail
  refine (wait_is _ 0 2 rfl).mono ?_
  rintro e w1 ⟨rfl, rfl⟩
  go_wp2_with fail
  refine (wait_is _ 3 16 rfl).mono ?_
  rintro e w1 ⟨rfl, rfl⟩
  go_wp2_with fail
  refine (wait_is _ 9 16 rfl).mono ?_
  rintro e w1 ⟨rfl, rfl⟩
  go_wp2_with fail
  go_ret
  exact ⟨rfl, rfl⟩
end Go.Proofs.YticpjbpfkkaobaaDoor
