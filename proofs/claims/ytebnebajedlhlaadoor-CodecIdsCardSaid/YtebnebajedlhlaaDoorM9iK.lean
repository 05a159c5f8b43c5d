/-
  Several texts in one: ArgE, ArgL.
-/
import Derived.Test.YtebnebajedlhlaaDoorM9il
import Derived.Test.YtebnebajedlhlaaDoorM9im
/-
  A slice's elements opened one by one.
-/

namespace Go.Proofs.YtebnebajedlhlaaDoor
open Go.ChangeShapes Go.WideShapes Go.ChangeAt Go.RowKit

section
variable {H : Type} {enc : TypeId × Value → H} {w : World} {base : Nat} {spare : Nat → Bool} {held : Bool} {fuel : Nat} {cs : List Value} {x : DataW H × List MemPlace}
/-- A slice whose elements' cells have been opened one by one: k cells an element. -/
theorem open_elems {α : Type} {t e : TypeId} {k : Nat} (ht : Tryd.prog.underlying t = some (.slice e)) (hc : Tryd.prog.cellsOf e = k) (R : α → List Value → Prop) (dflt : α)
    (hR : ∀ {fuel : Nat} {cs : List Value} {y : DataW H × List MemPlace}, DataW.trod enc Tryd.prog w base spare held fuel e cs = some y → ∃ z, R z cs)
    (h : DataW.trod enc Tryd.prog w base spare held fuel t cs = some x) :
    ∃ A n c, ∃ xs : List α, cs = [.slice A n c] ∧ xs.length = n ∧ n ≤ c ∧ (xs ≠ [] → ∃ ad, A = some ad ∧ ∀ i (_ : i < xs.length), ∃ es, R xs[i] es ∧ es.length = k ∧ ∀ j, j < k → w.cell? (ad.add (i * k + j)) = es[j]?) := by
  rcases DataW.trod_slice ht h with ⟨hcs, _⟩ | ⟨a, len, cap, elems, rest, n, _, hcs, _, _, hl, _, hlen, hel, _⟩
  · exact ⟨none, 0, 0, [], hcs, rfl, Nat.le_refl _, fun h => absurd rfl h⟩
  · rw [hc] at hel
    have each : ∀ i, i < len → ∃ z es, R z es ∧ es.length = k ∧ ∀ j, j < k → w.cell? (a.add (i * k + j)) = es[j]? := by
      intro i hi
      have hE := hel i hi
      have hi' : i < elems.length := by omega
      rw [List.getElem?_eq_getElem hi'] at hE
      simp only [Option.bind_eq_some_iff] at hE
      obtain ⟨cs', hc', ht⟩ := hE
      obtain ⟨z, hz⟩ := hR ht
      obtain ⟨h1, _, hat⟩ := World.cells?_some hc'
      refine ⟨z, cs', hz, by omega, fun j hj => ?_⟩
      rw [← Go.Deep.add_add]
      exact hat j hj
    let ops : List α := (List.range len).map fun i => if h : i < len then (each i h).choose else dflt
    have hops : ops.length = len := by simp [ops]
    refine ⟨some a, len, cap, ops, hcs, hops, hl, fun _ => ⟨a, rfl, fun i hi => ?_⟩⟩
    have hi' : i < len := by omega
    have e : ops[i] = (each i hi').choose := by simp [ops, hi']
    rw [e]
    exact (each i hi').choose_spec
end
end Go.Proofs.YtebnebajedlhlaaDoor
/-
  An argument opened: a slice of anything, of slices of bytes.
-/
namespace Go.Proofs.YtebnebajedlhlaaDoor
open Go.ChangeShapes Go.WideShapes Go.ChangeAt Go.RowKit

/-- The bytes' lists ps lie at A, each as a slice. -/
def ListsAt (w : World) (A : Option Addr) (ps : List (List UInt8)) : Prop := ps ≠ [] → ∃ ad, A = some ad ∧ ∀ j (_ : j < ps.length), ∃ B c, w.cell? (ad.add j) = some (.slice B ps[j].length c) ∧ ps[j].length ≤ c ∧ BytesAt w B ps[j]
section
variable {H : Type} {enc : TypeId × Value → H} {w : World} {base : Nat} {spare : Nat → Bool} {held : Bool} {fuel : Nat} {cs : List Value} {x : DataW H × List MemPlace}
theorem cellsOf_bytes : Tryd.prog.cellsOf 33 = 1 := by kernel_rfl
theorem open_lists (h : DataW.trod enc Tryd.prog w base spare held fuel 27 cs = some x) :
    ∃ A n c, ∃ ps : List (List UInt8), cs = [.slice A n c] ∧ ps.length = n ∧ n ≤ c ∧ ListsAt w A ps := by
  obtain ⟨A, n, c, ps, hcs, hn, hc, hat⟩ := open_elems Tryd.underlying27 cellsOf_bytes (fun (l : List UInt8) es => ∃ B m c, es = [.slice B m c] ∧ l.length = m ∧ m ≤ c ∧ BytesAt w B l) [] (fun h => by
    obtain ⟨B, m, c, l, h1, h2, h3, _, h4, _⟩ := open_bytes h
    exact ⟨l, B, m, c, h1, h2, h3, h4⟩) h
  refine ⟨A, n, c, ps, hcs, hn, hc, fun hne => ?_⟩
  obtain ⟨ad, eA, hat2⟩ := hat hne
  refine ⟨ad, eA, fun j hj => ?_⟩
  obtain ⟨es, ⟨B, m, c', rfl, h2, h3, h4⟩, _, hcell⟩ := hat2 j hj
  subst h2
  exact ⟨B, c', by have := hcell 0 (by omega); rw [Nat.mul_one, Nat.add_zero] at this; exact this, h3, h4⟩
set_option maxRecDepth 100000 in
theorem arg_lists {v : Value} {d : DataW H} {p : List MemPlace} {b0 : Nat} (hv : Value.okWide Tryd.prog w .any b0 27 v) (h : DataW.Trod enc Tryd.prog w base spare held 27 v d p) :
    ∃ A n c, ∃ ps : List (List UInt8), v = .slice A n c ∧ ps.length = n ∧ n ≤ c ∧ ListsAt w A ps := by
  obtain ⟨a0, len, cap, rfl⟩ := okWide_slice Tryd.underlying27 hv
  obtain ⟨fuel, hf⟩ := h
  obtain ⟨A, n, c, xs, hcs, hn, hc, hb⟩ := open_lists hf
  have e : Value.slice a0 len cap = .slice A n c := (List.cons.inj (show [Value.slice a0 len cap] = [Value.slice A n c] from hcs)).1
  exact ⟨A, n, c, xs, e, hn, hc, hb⟩
end
theorem ListsAt.grown {w w' : World} {A : Option Addr} {ps : List (List UInt8)} (h : ListsAt w A ps) (hg : w.grownBy w' none) : ListsAt w' A ps := fun hne => by
  obtain ⟨ad, e, hat⟩ := h hne
  refine ⟨ad, e, fun j hj => ?_⟩
  obtain ⟨B, c, h1, h2, h3⟩ := hat j hj
  exact ⟨B, c, hg.cell h1 (by simp), h2, h3.grown hg (by simp)⟩
theorem ListsAt.get {w : World} {A : Option Addr} {ps : List (List UInt8)} (h : ListsAt w A ps) (k : Nat) (hk : k < ps.length) : ∃ ad B c, A = some ad ∧ w.cell? (ad.add k) = some (.slice B (ps.getD k []).length c) ∧ (ps.getD k []).length ≤ c ∧ BytesAt w B (ps.getD k []) := by
  obtain ⟨ad, e, hat⟩ := h (by intro e; rw [e] at hk; simp at hk)
  obtain ⟨B, c, h1, h2, h3⟩ := hat k hk
  have : ps.getD k [] = ps[k] := by simp [List.getD, hk]
  rw [this]
  exact ⟨ad, B, c, e, h1, h2, h3⟩
end Go.Proofs.YtebnebajedlhlaaDoor
