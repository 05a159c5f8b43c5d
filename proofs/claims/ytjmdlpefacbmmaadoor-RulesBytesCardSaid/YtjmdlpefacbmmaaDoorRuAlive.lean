/-
  The law's own 'alive' of layer 13.
-/
import Derived.Test.YtjmdlpefacbmmaaDoorRu7
namespace Go.Proofs.YtjmdlpefacbmmaaDoor
open Go.RowKit

theorem kv1 : voteE 1 0 0 0 0 1 3 2 = 0 := by decide
theorem kv2 : voteE 1 3 1 0 1 1 3 2 = 10 := by decide
theorem kv3 : voteE 1 3 1 0 1 1 4 0 = 15 := by decide
theorem kr1 : voteR ⟨1, 0, 0, 0, 0⟩ ⟨1, 1, 3, 2, 1⟩ = ⟨1, 3, 1, 0, 1⟩ := by simp [voteR, kv1, voteL]
theorem kr2 : voteR ⟨1, 3, 1, 0, 1⟩ ⟨1, 1, 3, 2, 1⟩ = ⟨1, 3, 1, 0, 1⟩ := by simp [voteR, kv2]
theorem kr3 : voteR ⟨1, 3, 1, 0, 1⟩ ⟨1, 1, 4, 0, 0⟩ = ⟨1, 3, 1, 0, 1⟩ := by simp [voteR, kv3]

theorem vote_k1 (w : World) (B : Nat) (E : Nat → Addr) (he : ErrEnv w B E) :
    Calls Tryd.prog 22 #[stV 1 0 0 0 0, .int .i64 1, .int .i64 3, .int .i64 2, .int .i64 1] w fun en w' => en = .returned (.tuple #[stV 1 3 1 0 1, .nilIface]) ∧ w.grownBy w' none :=
  (vote_is w B E he ⟨1, 0, 0, 0, 0⟩ ⟨1, 1, 3, 2, 1⟩).mono fun en w' ⟨h1, h2⟩ => ⟨by rw [h1, kr1, kv1]; rfl, h2⟩
theorem vote_k2 (w : World) (B : Nat) (E : Nat → Addr) (he : ErrEnv w B E) :
    Calls Tryd.prog 22 #[stV 1 3 1 0 1, .int .i64 1, .int .i64 3, .int .i64 2, .int .i64 1] w fun en w' => en = .returned (.tuple #[stV 1 3 1 0 1, errV (E 9)]) ∧ w.grownBy w' none :=
  (vote_is w B E he ⟨1, 3, 1, 0, 1⟩ ⟨1, 1, 3, 2, 1⟩).mono fun en w' ⟨h1, h2⟩ => ⟨by rw [h1, kr2, kv2]; rfl, h2⟩
theorem vote_k3 (w : World) (B : Nat) (E : Nat → Addr) (he : ErrEnv w B E) :
    Calls Tryd.prog 22 #[stV 1 3 1 0 1, .int .i64 1, .int .i64 4, .int .i64 0, .int .i64 0] w fun en w' => en = .returned (.tuple #[stV 1 3 1 0 1, errV (E 14)]) ∧ w.grownBy w' none :=
  (vote_is w B E he ⟨1, 3, 1, 0, 1⟩ ⟨1, 1, 4, 0, 0⟩).mono fun en w' ⟨h1, h2⟩ => ⟨by rw [h1, kr3, kv3]; rfl, h2⟩

set_option maxHeartbeats 4000000 in
theorem rules_alive (w : World) (B : Nat) (E : Nat → Addr) (he : ErrEnv w B E) :
    Calls Tryd.prog 10 #[] w fun en w' => en = .returned (.bool true) ∧ w.grownBy w' none := by
  go_enter Tryd.func10, Tryd.ntmps10
  go_wp2_with fail
  refine (vote_k1 _ B E he).mono ?_
  rintro en w1 ⟨rfl, k1⟩
  have ka := grown_trans k1 (World.grownBy_alloc w1 (.cells (stC 1 3 1 0 1) 23) none)
  have hS := Blk.new w1 23 (stC 1 3 1 0 1)
  have he1 := he.grown ka (by simp)
  go_wp2_with fail
  refine (vote_k2 _ B E he1).mono ?_
  rintro en w2 ⟨rfl, k2⟩
  have kb := grown_trans (grown_trans ka k2) (World.grownBy_alloc w2 (.cells (stC 1 3 1 0 1) 23) none)
  have hS2 := (hS.grown k2 (by simp)).alloc (.cells (stC 1 3 1 0 1) 23)
  have he2 := he.grown kb (by simp)
  have a0 := hS2.cell 0
  have a1 := hS2.cell 1
  have a2 := hS2.cell 2
  have a3 := hS2.cell 3
  have a4 := hS2.cell 4
  simp at a0 a1 a2 a3 a4
  clear hS hS2 he1 ka k1 k2
  go_wp2_with fail
  refine (vote_k3 _ B E he2).mono ?_
  rintro en w3 ⟨rfl, k3⟩
  have kc := grown_trans (grown_trans kb k3) (World.grownBy_alloc w3 (.cells (stC 1 3 1 0 1) 23) none)
  have he3 := he.grown kc (by simp)
  go_wp2_with fail
  refine (num_err _ B E 9 (by omega) he3).mono ?_
  rintro en w4 ⟨rfl, k4⟩
  go_wp2_with fail
  refine (num_err _ B E 14 (by omega) (he3.grown k4 (by simp))).mono ?_
  rintro en w5 ⟨rfl, k5⟩
  go_wp2_with fail
  go_ret
  exact ⟨rfl, grown_trans (grown_trans kc k4) k5⟩
end Go.Proofs.YtjmdlpefacbmmaaDoor
