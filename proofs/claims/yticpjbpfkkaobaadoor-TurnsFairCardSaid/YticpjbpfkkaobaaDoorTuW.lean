/-
  Package turns: what Wait answers; nothing is turned.
-/
import Derived.Test.YticpjbpfkkaobaaDoorBase
import Derived.LoopTactic
namespace Go.Proofs.YticpjbpfkkaobaaDoor
open Go.RowKit

theorem w64 (n : Int) (h : -9223372036854775808 ≤ n ∧ n ≤ 9223372036854775807) : wrap64 n = n := by unfold wrap64; omega
def waitOf (f : Int) : Int := if f ≤ 0 then 2 else if f = 1 then 4 else if f = 2 then 8 else 16

theorem wait_is (w : World) (f v : Int) (hv : waitOf f = v) : Calls Tryd.prog 11 #[.int .i64 f] w fun e w' => e = .returned (.int .i64 v) ∧ w = w' := by
  go_enter Tryd.func11, Tryd.ntmps11
  have Hv := Lib.hid hv
  clear hv
  go_wp2
  go_loop [3, 4] (fun t i => ∃ k : Nat, k ≤ 3 ∧ (k = 0 ∨ (k : Int) ≤ f) ∧ i = .int .i64 (k : Int) ∧ t = .int .i64 ((2 ^ (k + 1) : Nat) : Int)) (fun _ i => 4 - (intOf i).toNat)
  case atStart => exact ⟨0, by omega, .inl rfl, rfl, rfl⟩
  case round =>
    obtain ⟨k, hk, hf, rfl, rfl⟩ := hrel
    have hk4 : k = 0 ∨ k = 1 ∨ k = 2 ∨ k = 3 := by omega
    rcases hk4 with rfl | rfl | rfl | rfl
    · by_cases hlt : (0 : Int) < f
      · have d : decide ((0 : Int) < f) = true := by simpa using hlt
        go_wp2
        go_round
        case rel => exact ⟨1, by omega, .inr (by omega), rfl, rfl⟩
        case measure => simp [intOf]
      · have d : decide ((0 : Int) < f) = false := by simpa using hlt
        have hv : v = 2 := by rw [← Hv.out]; simp [waitOf]; omega
        subst hv
        go_wp2
        go_ret
        exact ⟨rfl, rfl⟩
    · by_cases hlt : (1 : Int) < f
      · have d : decide ((1 : Int) < f) = true := by simpa using hlt
        go_wp2
        go_round
        case rel => exact ⟨2, by omega, .inr (by omega), rfl, rfl⟩
        case measure => simp [intOf]
      · have d : decide ((1 : Int) < f) = false := by simpa using hlt
        have hf1 : f = 1 := by omega
        have hv : v = 4 := by rw [← Hv.out, hf1]; rfl
        subst hv
        clear hf1
        go_wp2
        go_ret
        exact ⟨rfl, rfl⟩
    · by_cases hlt : (2 : Int) < f
      · have d : decide ((2 : Int) < f) = true := by simpa using hlt
        go_wp2
        go_round
        case rel => exact ⟨3, by omega, .inr (by omega), rfl, rfl⟩
        case measure => simp [intOf]
      · have d : decide ((2 : Int) < f) = false := by simpa using hlt
        have hf2 : f = 2 := by omega
        have hv : v = 8 := by rw [← Hv.out, hf2]; rfl
        subst hv
        clear hf2
        go_wp2
        go_ret
        exact ⟨rfl, rfl⟩
    · have hv : v = 16 := by
        rw [← Hv.out]
        have h3 : (3 : Int) ≤ f := by omega
        simp [waitOf]; omega
      subst hv
      by_cases hlt : (3 : Int) < f
      · have d : decide ((3 : Int) < f) = true := by simpa using hlt
        go_wp2
        go_ret
        exact ⟨rfl, rfl⟩
      · have d : decide ((3 : Int) < f) = false := by simpa using hlt
        go_wp2
        go_ret
        exact ⟨rfl, rfl⟩

end Go.Proofs.YticpjbpfkkaobaaDoor
