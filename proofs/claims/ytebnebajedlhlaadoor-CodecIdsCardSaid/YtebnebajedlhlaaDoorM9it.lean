/-
  Several texts in one: Vd, Sg.
-/
import Derived.Test.YtebnebajedlhlaaDoorM9iq
import Derived.Deep.MidRow
import Derived.Test.YtebnebajedlhlaaDoorM9ir
/-
  Validators as letters, and rows of them.
-/
namespace Go.Proofs.YtebnebajedlhlaaDoor
open Go.RowKit

/-- A validator: the key's bytes, the power. -/
structure Vd where
  key : List Int
  p : Int
def Vd.cells (x : Vd) : List Value := x.key.map (Value.int .u8) ++ [.int .i64 x.p]
abbrev Vd.val (x : Vd) : Value := .agg x.cells.toArray
def VdsAt (w : World) (A : Option Addr) (V : List Vd) : Prop := V ≠ [] → ∃ b off, A = some ⟨b, off, none⟩ ∧ ∀ k (h : k < V.length), w.rangeAt b (off + k * 17) V[k].cells
theorem range_kept {w w' : World} {b o : Nat} {cs : List Value} (h : w.rangeAt b o cs) (hk : w.grownBy w' none) : w'.rangeAt b o cs := fun j v hv => hk.cell (h j v hv) (by simp)
theorem VdsAt.grown {w w' : World} {A : Option Addr} {V : List Vd} (h : VdsAt w A V) (hk : w.grownBy w' none) : VdsAt w' A V := fun hne => by
  obtain ⟨b, off, rfl, hc⟩ := h hne
  exact ⟨b, off, rfl, fun k hk' => range_kept (hc k hk') hk⟩
theorem Vd.cells_length {x : Vd} (h : x.key.length = 16) : x.cells.length = 17 := by simp [Vd.cells, h]
end Go.Proofs.YtebnebajedlhlaaDoor
/-
  Signatures, and who signed: their cells, rows of them in memory.
-/
namespace Go.Proofs.YtebnebajedlhlaaDoor
open Go.RowKit

/-- A signature's value. -/
def sigV (lf : Int) (c p : Value) : Array Value := #[.int .i64 lf, c, p]
theorem sigV_one (lf : Int) (A1 A2 : Option Addr) (n1 c1 n2 c2 : Nat) : ((sigV lf (.slice A1 n1 c1) (.slice A2 n2 c2)).all fun v => v.oneCell') = true := by simp [sigV, Value.oneCell']
theorem sigV_size (lf : Int) (c p : Value) : (sigV lf c p).size = 3 := rfl
/-- A row of digests, as memory has it. -/
def DigRow (w : World) (A : Option Addr) (n : Nat) (ps : List (List Int)) : Prop := ps.length = n ∧ (∀ p ∈ ps, isDig p) ∧ (n = 0 ∨ ∃ b off, A = some ⟨b, off, none⟩ ∧ DigsAt w b off ps)
theorem DigRow.grown {w w' : World} {A : Option Addr} {n : Nat} {ps : List (List Int)} (h : DigRow w A n ps) (hg : w.grownBy w' none) : DigRow w' A n ps := by
  obtain ⟨h1, h2, h0 | ⟨b, off, e, hD⟩⟩ := h
  · exact ⟨h1, h2, .inl h0⟩
  · exact ⟨h1, h2, .inr ⟨b, off, e, hD.grown hg⟩⟩
/-- A signature with its signer, as memory has it. -/
structure Sg where
  who : Int
  lf : Int
  A1 : Option Addr
  n1 : Nat
  c1 : Nat
  cs : List (List Int)
  A2 : Option Addr
  n2 : Nat
  c2 : Nat
  ps : List (List Int)
def Sg.sig (s : Sg) : Array Value := sigV s.lf (.slice s.A1 s.n1 s.c1) (.slice s.A2 s.n2 s.c2)
def Sg.cells (s : Sg) : Array Value := #[.int .i64 s.who] ++ s.sig
def SgsAt (w : World) (A : Option Addr) (L : List Sg) : Prop := L ≠ [] → ∃ b off, A = some ⟨b, off, none⟩ ∧ ∀ k (h : k < L.length), w.rangeAt b (off + k * 4) L[k].cells.toList
def SgsOk (w : World) (L : List Sg) : Prop := ∀ s ∈ L, DigRow w s.A1 s.n1 s.cs ∧ DigRow w s.A2 s.n2 s.ps
theorem SgsAt.grown {w w' : World} {A : Option Addr} {L : List Sg} (h : SgsAt w A L) (hk : w.grownBy w' none) : SgsAt w' A L := fun hne => by
  obtain ⟨b, off, rfl, hc⟩ := h hne
  exact ⟨b, off, rfl, fun k hk' => range_kept (hc k hk') hk⟩
theorem SgsOk.grown {w w' : World} {L : List Sg} (h : SgsOk w L) (hk : w.grownBy w' none) : SgsOk w' L := fun s hs => ⟨(h s hs).1.grown hk, (h s hs).2.grown hk⟩
theorem range_block {w : World} {b o : Nat} {x : Value} {l : List Value} (h : w.rangeAt b o (x :: l)) : b < w.heap.size := World.block_lt_of_cell? w _ (h 0 x rfl)
theorem sg_one (s : Sg) : (s.cells.all fun v => v.oneCell') = true := by simp [Sg.cells, Sg.sig, sigV, Value.oneCell']
end Go.Proofs.YtebnebajedlhlaaDoor
