/-
  A slice's elements opened one by one.
-/
import Derived.Test.YtonkdcbmmdhjgaaGreatDoorArg0
namespace Go.Proofs.YtonkdcbmmdhjgaaGreatDoor
open Go.ChangeShapes Go.WideShapes Go.ChangeAt Go.RowKit

section
variable {H : Type} {enc : TypeId × Value → H} {w : World} {base : Nat} {spare : Nat → Bool} {held : Bool} {fuel : Nat} {cs : List Value} {x : DataW H × List MemPlace}
/-- A slice whose elements' cells have been opened one by one: k cells an element. -/
theorem open_elems {α : Type} {t e : TypeId} {k : Nat} (ht : Tryz.prog.underlying t = some (.slice e)) (hc : Tryz.prog.cellsOf e = k) (R : α → List Value → Prop) (dflt : α)
    (hR : ∀ {fuel : Nat} {cs : List Value} {y : DataW H × List MemPlace}, DataW.trod enc Tryz.prog w base spare held fuel e cs = some y → ∃ z, R z cs)
    (h : DataW.trod enc Tryz.prog w base spare held fuel t cs = some x) :
    ∃ A n c, ∃ xs : List α, cs = [.slice A n c] ∧ xs.length = n ∧ n ≤ c ∧ (xs ≠ [] → ∃ ad, A = some ad ∧ ∀ i (_ : i < xs.length), ∃ es, R xs[i] es ∧ es.length = k ∧ ∀ j, j < k → w.cell? (ad.add (i * k + j)) = es[j]?) := by
  rcases DataW.trod_slice ht h with ⟨hcs, _⟩ | ⟨a, len, cap, elems, rest, n, _, hcs, _, _, hl, _, hlen, hel, _⟩
  · exact ⟨none, 0, 0, [], hcs, rfl, Nat.le_refl _, fun h => absurd rfl h⟩
  · rw [hc] at hel
    have each : ∀ i, i < len → ∃ z es, R z es ∧ es.length = k ∧ ∀ j, j < k → w.cell? (a.add (i * k + j)) = es[j]? := by
      intro i hi
      have hE := hel i hi
      have hi' : i < elems.length := by omega
      rw [List.getElem?_eq_getElem hi'] at hE
      simp only [Option.bind_eq_some_iff] at hE
      obtain ⟨cs', hc', ht⟩ := hE
      obtain ⟨z, hz⟩ := hR ht
      obtain ⟨h1, _, hat⟩ := World.cells?_some hc'
      refine ⟨z, cs', hz, by omega, fun j hj => ?_⟩
      rw [← Go.Deep.add_add]
      exact hat j hj
    let ops : List α := (List.range len).map fun i => if h : i < len then (each i h).choose else dflt
    have hops : ops.length = len := by simp [ops]
    refine ⟨some a, len, cap, ops, hcs, hops, hl, fun _ => ⟨a, rfl, fun i hi => ?_⟩⟩
    have hi' : i < len := by omega
    have e : ops[i] = (each i hi').choose := by simp [ops, hi']
    rw [e]
    exact (each i hi').choose_spec
end
end Go.Proofs.YtonkdcbmmdhjgaaGreatDoor
