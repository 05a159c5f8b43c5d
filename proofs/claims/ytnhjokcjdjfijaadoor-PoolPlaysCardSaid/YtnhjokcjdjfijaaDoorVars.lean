/-
  Some of package api's errors, by their numbers.
-/
import Derived.Test.YtnhjokcjdjfijaaDoorErr
namespace Go.Proofs.YtnhjokcjdjfijaaDoor
open Go.RowKit

/-- Each variable of the list holds its error. -/
structure ErrVars (S : List Nat) (w : World) (B : Nat) (E : Nat → Addr) : Prop where
  var : ∀ i, i ∈ S → ErrAt w B (gix.getD i 0) (E i)
theorem ErrVars.below {S : List Nat} {w w' : World} {B B' : Nat} {E : Nat → Addr} (h : ErrVars S w B E) (hb : Below B' w w') (hB : B ≤ B') : ErrVars S w' B E := ⟨fun i hi => (h.var i hi).below hb hB⟩
theorem ErrVars.grown {S : List Nat} {w w' : World} {B : Nat} {E : Nat → Addr} {row : Option Nat} (h : ErrVars S w B E) (hb : w.grownBy w' row) (hr : ∀ g, row = some g → B ≤ g) : ErrVars S w' B E := ⟨fun i hi => (h.var i hi).grown hb hr⟩
theorem ErrVars.sub {S T : List Nat} {w : World} {B : Nat} {E : Nat → Addr} (h : ErrVars S w B E) (hs : ∀ i ∈ T, i ∈ S) : ErrVars T w B E := ⟨fun i hi => h.var i (hs i hi)⟩
theorem ErrEnv.vars {w : World} {B : Nat} {E : Nat → Addr} (h : ErrEnv w B E) (S : List Nat) (hs : ∀ i ∈ S, i < 18) : ErrVars S w B E := ⟨fun i hi => h.var i (hs i hi)⟩
theorem ErrVars.kept {S : List Nat} {w w' : World} {F : Nat → Prop} {B : Nat} {E : Nat → Addr} (h : ErrVars S w B E) (hk : Kept F w w') (hF : ∀ k, F k → B ≤ k) : ErrVars S w' B E :=
  ⟨fun i hi => ⟨hk.cell (h.var i hi).1 (fun hf => absurd (hF _ hf) (by have := (h.var i hi).2; simp only; omega)), (h.var i hi).2⟩⟩
end Go.Proofs.YtnhjokcjdjfijaaDoor
