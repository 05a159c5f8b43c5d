/-
  TurnsDouble: the walk.
-/
import Derived.Test.YticpjbpfkkaobaaTu
namespace Go.Proofs.Yticpjbpfkkaobaa
open Go.RowKit

theorem mod_val (f : Int) (m : Nat) (h : 0 < m) (hm : m ≤ 1000000000) : ∃ k : Nat, k < m ∧ wrap64 ((IntKind.u64.wrap f).tmod (m : Int)) = (k : Int) := by
  have h0 : 0 ≤ IntKind.u64.wrap f := by simp [IntKind.wrap_u64]; omega
  have h1 : (IntKind.u64.wrap f).tmod m = IntKind.u64.wrap f % m := Int.tmod_eq_emod_of_nonneg h0
  have h2 := Int.emod_nonneg (IntKind.u64.wrap f) (show (m : Int) ≠ 0 by omega)
  have h3 := Int.emod_lt_of_pos (IntKind.u64.wrap f) (show (0 : Int) < m by omega)
  refine ⟨(IntKind.u64.wrap f % m).toNat, by omega, ?_⟩
  rw [h1]
  generalize IntKind.u64.wrap f % (m : Int) = q at *
  unfold wrap64
  omega

theorem double_any (w : World) (f : Int) : Calls Try.prog 5 #[.int .i64 f] w fun e w' => e = .returned (.bool true) ∧ w = w' := by
  obtain ⟨k, hk1, hk⟩ := mod_val f 1000 (by omega) (by omega)
  rw [show ((1000 : Nat) : Int) = 1000 from rfl] at hk
  have hk4 : k = 0 ∨ k = 1 ∨ k = 2 ∨ 3 ≤ k := by omega
  have hw : wrap64 ((k : Int) + 1) = (k : Int) + 1 := w64 _ ⟨by omega, by omega⟩
  rcases hk4 with rfl | rfl | rfl | hk3
  · go_enter Try.func5, Try.ntmps5
    go_wp2_with fail
    refine (turns_alive _).mono ?_
    rintro e w1 ⟨rfl, rfl⟩
    go_wp2_with fail
    refine (wait_is _ 0 2 rfl).mono ?_
    rintro e w1 ⟨rfl, rfl⟩
    go_wp2_with fail
    refine (wait_is _ 1 4 rfl).mono ?_
    rintro e w1 ⟨rfl, rfl⟩
    go_wp2_with fail
    go_ret
    exact ⟨rfl, rfl⟩
  · go_enter Try.func5, Try.ntmps5
    go_wp2_with fail
    refine (turns_alive _).mono ?_
    rintro e w1 ⟨rfl, rfl⟩
    go_wp2_with fail
    refine (wait_is _ 1 4 rfl).mono ?_
    rintro e w1 ⟨rfl, rfl⟩
    go_wp2_with fail
    refine (wait_is _ 2 8 rfl).mono ?_
    rintro e w1 ⟨rfl, rfl⟩
    go_wp2_with fail
    go_ret
    exact ⟨rfl, rfl⟩
  · go_enter Try.func5, Try.ntmps5
    go_wp2_with fail
    refine (turns_alive _).mono ?_
    rintro e w1 ⟨rfl, rfl⟩
    go_wp2_with fail
    refine (wait_is _ 2 8 rfl).mono ?_
    rintro e w1 ⟨rfl, rfl⟩
    go_wp2_with fail
    refine (wait_is _ 3 16 rfl).mono ?_
    rintro e w1 ⟨rfl, rfl⟩
    go_wp2_with fail
    go_ret
    exact ⟨rfl, rfl⟩
  · have h1 : waitOf (k : Int) = 16 := by simp [waitOf]; omega
    have h2 : waitOf ((k : Int) + 1) = 16 := by simp [waitOf]; omega
    clear hk1 hk3
    go_enter Try.func5, Try.ntmps5
    go_wp2_with fail
    refine (turns_alive _).mono ?_
    rintro e w1 ⟨rfl, rfl⟩
    go_wp2_with fail
    refine (wait_is _ _ 16 h1).mono ?_
    rintro e w1 ⟨rfl, rfl⟩
    go_wp2_with fail
    refine (wait_is _ _ 16 h2).mono ?_
    rintro e w1 ⟨rfl, rfl⟩
    go_wp2_with fail
    go_ret
    exact ⟨rfl, rfl⟩
end Go.Proofs.Yticpjbpfkkaobaa
