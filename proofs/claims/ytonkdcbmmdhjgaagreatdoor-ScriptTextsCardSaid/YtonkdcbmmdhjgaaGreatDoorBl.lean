/-
  A list of booleans in memory.
-/
import Derived.Test.YtonkdcbmmdhjgaaGreatDoorBase
namespace Go.Proofs.YtonkdcbmmdhjgaaGreatDoor
open Go.RowKit

/-- The booleans l lie at A. -/
def BoolsAt (w : World) (A : Option Addr) (l : List Bool) : Prop :=
  l ≠ [] → ∃ b off, A = some ⟨b, off, none⟩ ∧ ∀ j (h : j < l.length), w.cell? ⟨b, off + j, none⟩ = some (.bool l[j])
theorem BoolsAt.nil (w : World) (A : Option Addr) : BoolsAt w A [] := fun h => absurd rfl h
theorem BoolsAt.kept {F : Nat → Prop} {w w' : World} {A : Option Addr} {l : List Bool} (h : BoolsAt w A l) (hk : Kept F w w') (hA : ∀ a, A = some a → l ≠ [] → ¬ F a.block) : BoolsAt w' A l := fun hl => by
  obtain ⟨b, off, rfl, hc⟩ := h hl
  exact ⟨b, off, rfl, fun j hj => hk.cell (hc j hj) (hA ⟨b, off, none⟩ rfl hl)⟩
theorem BoolsAt.grown {w w' : World} {A : Option Addr} {l : List Bool} (h : BoolsAt w A l) (hg : w.grownBy w' none) : BoolsAt w' A l :=
  h.kept (Kept.of_grown (F := fun _ => False) hg fun _ e => by cases e) (fun _ _ _ h => h)
end Go.Proofs.YtonkdcbmmdhjgaaGreatDoor
