/-
  An error's value, and a variable that holds one.
-/
import Derived.Test.YtonkdcbmmdhjgaaGreatDoorBase
import Derived.Deep.QuietTactic
import Derived.BigQuiet
import Derived.Deep.RegionWith
namespace Go.Proofs.YtonkdcbmmdhjgaaGreatDoor
open Go.RowKit

/-- The error value at address a. -/
abbrev errV (a : Addr) : Value := .iface 142 (.pointer (some a))
/-- The variable k holds the error at a; both lie below B. -/
def ErrAt (w : World) (B k : Nat) (a : Addr) : Prop := w.cell? ⟨k, 0, none⟩ = some (errV a) ∧ k < B
theorem ErrAt.below {w w' : World} {B B' k : Nat} {a : Addr} (h : ErrAt w B k a) (hb : Below B' w w') (hB : B ≤ B') : ErrAt w' B k a :=
  ⟨(hb.cell (p := ⟨k, 0, none⟩) (Nat.lt_of_lt_of_le h.2 hB)).trans h.1, h.2⟩
theorem ErrAt.grown {w w' : World} {B k : Nat} {a : Addr} {row : Option Nat} (h : ErrAt w B k a) (hb : w.grownBy w' row) (hr : ∀ g, row = some g → B ≤ g) : ErrAt w' B k a :=
  ⟨hb.cell h.1 (by intro e; have := hr k e.symm; have := h.2; omega), h.2⟩
/-- What stands in a variable of type error: nil, or the error of that number. -/
def evOf (E : Nat → Addr) : Nat → Value
  | 0 => .nilIface
  | k + 1 => errV (E k)

end Go.Proofs.YtonkdcbmmdhjgaaGreatDoor
