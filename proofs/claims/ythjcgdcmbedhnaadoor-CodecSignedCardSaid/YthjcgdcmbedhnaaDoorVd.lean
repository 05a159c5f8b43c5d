/-
  Validators as letters, and rows of them.
-/
import Derived.Test.YthjcgdcmbedhnaaDoorBaseA
import Derived.Deep.MidRow
namespace Go.Proofs.YthjcgdcmbedhnaaDoor
open Go.RowKit

/-- A validator: the key's bytes, the power. -/
structure Vd where
  key : List Int
  p : Int
def Vd.cells (x : Vd) : List Value := x.key.map (Value.int .u8) ++ [.int .i64 x.p]
abbrev Vd.val (x : Vd) : Value := .agg x.cells.toArray
def VdsAt (w : World) (A : Option Addr) (V : List Vd) : Prop := V ≠ [] → ∃ b off, A = some ⟨b, off, none⟩ ∧ ∀ k (h : k < V.length), w.rangeAt b (off + k * 17) V[k].cells
theorem range_kept {w w' : World} {b o : Nat} {cs : List Value} (h : w.rangeAt b o cs) (hk : w.grownBy w' none) : w'.rangeAt b o cs := fun j v hv => hk.cell (h j v hv) (by simp)
theorem VdsAt.grown {w w' : World} {A : Option Addr} {V : List Vd} (h : VdsAt w A V) (hk : w.grownBy w' none) : VdsAt w' A V := fun hne => by
  obtain ⟨b, off, rfl, hc⟩ := h hne
  exact ⟨b, off, rfl, fun k hk' => range_kept (hc k hk') hk⟩
theorem Vd.cells_length {x : Vd} (h : x.key.length = 16) : x.cells.length = 17 := by simp [Vd.cells, h]
end Go.Proofs.YthjcgdcmbedhnaaDoor
