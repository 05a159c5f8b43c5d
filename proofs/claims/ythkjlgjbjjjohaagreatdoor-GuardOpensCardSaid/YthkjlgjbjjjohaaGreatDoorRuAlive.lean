/-
  The law's own 'alive' of layer 13.
-/
import Derived.Test.YthkjlgjbjjjohaaGreatDoorRuA
namespace Go.Proofs.YthkjlgjbjjjohaaGreatDoor
open Go.RowKit

theorem kv1 : voteE 1 0 0 0 0 1 3 2 = 0 := by decide
theorem kv2 : voteE 1 3 1 0 1 1 3 2 = 10 := by decide
theorem kv3 : voteE 1 3 1 0 1 1 4 0 = 15 := by decide
theorem kr1 : voteR ⟨1, 0, 0, 0, 0⟩ ⟨1, 1, 3, 2, 1⟩ = ⟨1, 3, 1, 0, 1⟩ := by simp [voteR, kv1, voteL]
theorem kr2 : voteR ⟨1, 3, 1, 0, 1⟩ ⟨1, 1, 3, 2, 1⟩ = ⟨1, 3, 1, 0, 1⟩ := by simp [voteR, kv2]
theorem kr3 : voteR ⟨1, 3, 1, 0, 1⟩ ⟨1, 1, 4, 0, 0⟩ = ⟨1, 3, 1, 0, 1⟩ := by simp [voteR, kv3]

theorem vote_k1 (w : World) (B : Nat) (E : Nat → Addr) (he : ErrEnv w B E) :
    Calls Tryz.prog 49 #[stV 1 0 0 0 0, .int .i64 1, .int .i64 3, .int .i64 2, .int .i64 1] w fun en w' => en = .returned (.tuple #[stV 1 3 1 0 1, .nilIface]) ∧ w.grownBy w' none :=
  (vote_is w B E he ⟨1, 0, 0, 0, 0⟩ ⟨1, 1, 3, 2, 1⟩).mono fun en w' ⟨h1, h2⟩ => ⟨by rw [h1, kr1, kv1]; rfl, h2⟩
theorem vote_k2 (w : World) (B : Nat) (E : Nat → Addr) (he : ErrEnv w B E) :
    Calls Tryz.prog 49 #[stV 1 3 1 0 1, .int .i64 1, .int .i64 3, .int .i64 2, .int .i64 1] w fun en w' => en = .returned (.tuple #[stV 1 3 1 0 1, errV (E 9)]) ∧ w.grownBy w' none :=
  (vote_is w B E he ⟨1, 3, 1, 0, 1⟩ ⟨1, 1, 3, 2, 1⟩).mono fun en w' ⟨h1, h2⟩ => ⟨by rw [h1, kr2, kv2]; rfl, h2⟩
theorem vote_k3 (w : World) (B : Nat) (E : Nat → Addr) (he : ErrEnv w B E) :
    Calls Tryz.prog 49 #[stV 1 3 1 0 1, .int .i64 1, .int .i64 4, .int .i64 0, .int .i64 0] w fun en w' => en = .returned (.tuple #[stV 1 3 1 0 1, errV (E 14)]) ∧ w.grownBy w' none :=
  (vote_is w B E he ⟨1, 3, 1, 0, 1⟩ ⟨1, 1, 4, 0, 0⟩).mono fun en w' ⟨h1, h2⟩ => ⟨by rw [h1, kr3, kv3]; rfl, h2⟩

end Go.Proofs.YthkjlgjbjjjohaaGreatDoor
