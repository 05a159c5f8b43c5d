/-
  Several texts in one: ArgE, ArgL, DiK.
-/
import Derived.Test.YtlokjbjpmhfkhaaDoorM11h
import Derived.Test.YtlokjbjpmhfkhaaDoorM11k
import Derived.Test.YtlokjbjpmhfkhaaDoorM11g
/-
  A slice's elements opened one by one.
-/

namespace Go.Proofs.YtlokjbjpmhfkhaaDoor
open Go.ChangeShapes Go.WideShapes Go.ChangeAt Go.RowKit

section
variable {H : Type} {enc : TypeId × Value → H} {w : World} {base : Nat} {spare : Nat → Bool} {held : Bool} {fuel : Nat} {cs : List Value} {x : DataW H × List MemPlace}
/-- A slice whose elements' cells have been opened one by one: k cells an element. -/
theorem open_elems {α : Type} {t e : TypeId} {k : Nat} (ht : Tryd.prog.underlying t = some (.slice e)) (hc : Tryd.prog.cellsOf e = k) (R : α → List Value → Prop) (dflt : α)
    (hR : ∀ {fuel : Nat} {cs : List Value} {y : DataW H × List MemPlace}, DataW.trod enc Tryd.prog w base spare held fuel e cs = some y → ∃ z, R z cs)
    (h : DataW.trod enc Tryd.prog w base spare held fuel t cs = some x) :
    ∃ A n c, ∃ xs : List α, cs = [.slice A n c] ∧ xs.length = n ∧ n ≤ c ∧ (xs ≠ [] → ∃ ad, A = some ad ∧ ∀ i (_ : i < xs.length), ∃ es, R xs[i] es ∧ es.length = k ∧ ∀ j, j < k → w.cell? (ad.add (i * k + j)) = es[j]?) := by
  rcases DataW.trod_slice ht h with ⟨hcs, _⟩ | ⟨a, len, cap, elems, rest, n, _, hcs, _, _, hl, _, hlen, hel, _⟩
  · exact ⟨none, 0, 0, [], hcs, rfl, Nat.le_refl _, fun h => absurd rfl h⟩
  · rw [hc] at hel
    have each : ∀ i, i < len → ∃ z es, R z es ∧ es.length = k ∧ ∀ j, j < k → w.cell? (a.add (i * k + j)) = es[j]? := by
      intro i hi
      have hE := hel i hi
      have hi' : i < elems.length := by omega
      rw [List.getElem?_eq_getElem hi'] at hE
      simp only [Option.bind_eq_some_iff] at hE
      obtain ⟨cs', hc', ht⟩ := hE
      obtain ⟨z, hz⟩ := hR ht
      obtain ⟨h1, _, hat⟩ := World.cells?_some hc'
      refine ⟨z, cs', hz, by omega, fun j hj => ?_⟩
      rw [← Go.Deep.add_add]
      exact hat j hj
    let ops : List α := (List.range len).map fun i => if h : i < len then (each i h).choose else dflt
    have hops : ops.length = len := by simp [ops]
    refine ⟨some a, len, cap, ops, hcs, hops, hl, fun _ => ⟨a, rfl, fun i hi => ?_⟩⟩
    have hi' : i < len := by omega
    have e : ops[i] = (each i hi').choose := by simp [ops, hi']
    rw [e]
    exact (each i hi').choose_spec
end
end Go.Proofs.YtlokjbjpmhfkhaaDoor
/-
  An argument opened: a slice of anything, of slices of bytes.
-/
namespace Go.Proofs.YtlokjbjpmhfkhaaDoor
open Go.ChangeShapes Go.WideShapes Go.ChangeAt Go.RowKit

/-- The bytes' lists ps lie at A, each as a slice. -/
def ListsAt (w : World) (A : Option Addr) (ps : List (List UInt8)) : Prop := ps ≠ [] → ∃ ad, A = some ad ∧ ∀ j (_ : j < ps.length), ∃ B c, w.cell? (ad.add j) = some (.slice B ps[j].length c) ∧ ps[j].length ≤ c ∧ BytesAt w B ps[j]
section
variable {H : Type} {enc : TypeId × Value → H} {w : World} {base : Nat} {spare : Nat → Bool} {held : Bool} {fuel : Nat} {cs : List Value} {x : DataW H × List MemPlace}
theorem cellsOf_bytes : Tryd.prog.cellsOf 25 = 1 := by kernel_rfl
theorem open_lists (h : DataW.trod enc Tryd.prog w base spare held fuel 23 cs = some x) :
    ∃ A n c, ∃ ps : List (List UInt8), cs = [.slice A n c] ∧ ps.length = n ∧ n ≤ c ∧ ListsAt w A ps := by
  obtain ⟨A, n, c, ps, hcs, hn, hc, hat⟩ := open_elems Tryd.underlying23 cellsOf_bytes (fun (l : List UInt8) es => ∃ B m c, es = [.slice B m c] ∧ l.length = m ∧ m ≤ c ∧ BytesAt w B l) [] (fun h => by
    obtain ⟨B, m, c, l, h1, h2, h3, _, h4, _⟩ := open_bytes h
    exact ⟨l, B, m, c, h1, h2, h3, h4⟩) h
  refine ⟨A, n, c, ps, hcs, hn, hc, fun hne => ?_⟩
  obtain ⟨ad, eA, hat2⟩ := hat hne
  refine ⟨ad, eA, fun j hj => ?_⟩
  obtain ⟨es, ⟨B, m, c', rfl, h2, h3, h4⟩, _, hcell⟩ := hat2 j hj
  subst h2
  exact ⟨B, c', by have := hcell 0 (by omega); rw [Nat.mul_one, Nat.add_zero] at this; exact this, h3, h4⟩
set_option maxRecDepth 100000 in
theorem arg_lists {v : Value} {d : DataW H} {p : List MemPlace} {b0 : Nat} (hv : Value.okWide Tryd.prog w .any b0 23 v) (h : DataW.Trod enc Tryd.prog w base spare held 23 v d p) :
    ∃ A n c, ∃ ps : List (List UInt8), v = .slice A n c ∧ ps.length = n ∧ n ≤ c ∧ ListsAt w A ps := by
  obtain ⟨a0, len, cap, rfl⟩ := okWide_slice Tryd.underlying23 hv
  obtain ⟨fuel, hf⟩ := h
  obtain ⟨A, n, c, xs, hcs, hn, hc, hb⟩ := open_lists hf
  have e : Value.slice a0 len cap = .slice A n c := (List.cons.inj (show [Value.slice a0 len cap] = [Value.slice A n c] from hcs)).1
  exact ⟨A, n, c, xs, e, hn, hc, hb⟩
end
theorem ListsAt.grown {w w' : World} {A : Option Addr} {ps : List (List UInt8)} (h : ListsAt w A ps) (hg : w.grownBy w' none) : ListsAt w' A ps := fun hne => by
  obtain ⟨ad, e, hat⟩ := h hne
  refine ⟨ad, e, fun j hj => ?_⟩
  obtain ⟨B, c, h1, h2, h3⟩ := hat j hj
  exact ⟨B, c, hg.cell h1 (by simp), h2, h3.grown hg (by simp)⟩
theorem ListsAt.get {w : World} {A : Option Addr} {ps : List (List UInt8)} (h : ListsAt w A ps) (k : Nat) (hk : k < ps.length) : ∃ ad B c, A = some ad ∧ w.cell? (ad.add k) = some (.slice B (ps.getD k []).length c) ∧ (ps.getD k []).length ≤ c ∧ BytesAt w B (ps.getD k []) := by
  obtain ⟨ad, e, hat⟩ := h (by intro e; rw [e] at hk; simp at hk)
  obtain ⟨B, c, h1, h2, h3⟩ := hat k hk
  have : ps.getD k [] = ps[k] := by simp [List.getD, hk]
  rw [this]
  exact ⟨ad, B, c, e, h1, h2, h3⟩
end Go.Proofs.YtlokjbjpmhfkhaaDoor
/-
  An argument opened: a row of digests.
-/
namespace Go.Proofs.YtlokjbjpmhfkhaaDoor
open Go.ChangeShapes Go.WideShapes Go.ChangeAt Go.RowKit

section
variable {H : Type} {enc : TypeId × Value → H} {w : World} {base : Nat} {spare : Nat → Bool} {held : Bool} {fuel : Nat} {cs : List Value} {x : DataW H × List MemPlace}
theorem cellsOf_digest : Tryd.prog.cellsOf 32 = 16 := by kernel_rfl
theorem open_digs (h : DataW.trod enc Tryd.prog w base spare held fuel 49 cs = some x) :
    ∃ A n c, ∃ ps : List (List Int), cs = [.slice A n c] ∧ ps.length = n ∧ n ≤ c ∧ (∀ p ∈ ps, isDig p) ∧ (ps ≠ [] → ∃ ad, A = some ad ∧ ∀ i (_ : i < ps.length), ∀ j, j < 16 → w.cell? (ad.add (i * 16 + j)) = (ps[i].map (Value.int .u8))[j]?) := by
  obtain ⟨A, n, c, ps, hcs, hn, hc, hat⟩ := open_elems Tryd.underlying49 cellsOf_digest (fun (l : List Int) es => es = l.map (Value.int .u8) ∧ isDig l) zeroC (fun h => by
    obtain ⟨l, h1, h2, _, h4⟩ := arr_of_trod (n := 16) Tryd.underlying32 Tryd.underlying5 (by kernel_rfl) (by kernel_rfl) h
    exact ⟨l, h1, h2, fun z hz => by
      have := h4 z hz
      simp [Lit.wf, IntKind.min, IntKind.max, IntKind.signed, IntKind.bits] at this
      omega⟩) h
  refine ⟨A, n, c, ps, hcs, hn, hc, fun p hp => ?_, fun hne => ?_⟩
  · have hne : ps ≠ [] := by rintro rfl; cases hp
    obtain ⟨ad, _, hat2⟩ := hat hne
    obtain ⟨i, hi, rfl⟩ := List.mem_iff_getElem.1 hp
    obtain ⟨es, ⟨_, h2⟩, _⟩ := hat2 i hi
    exact h2
  · obtain ⟨ad, eA, hat2⟩ := hat hne
    refine ⟨ad, eA, fun i hi j hj => ?_⟩
    obtain ⟨es, ⟨rfl, _⟩, _, h3⟩ := hat2 i hi
    exact h3 j hj
set_option maxRecDepth 100000 in
theorem arg_digs {v : Value} {d : DataW H} {p : List MemPlace} {b0 : Nat} (hv : Value.okWide Tryd.prog w .any b0 49 v) (h : DataW.Trod enc Tryd.prog w base spare held 49 v d p) :
    ∃ A n c, ∃ ps : List (List Int), v = .slice A n c ∧ ps.length = n ∧ n ≤ c ∧ (∀ p ∈ ps, isDig p) ∧ (ps ≠ [] → ∃ ad, A = some ad ∧ ∀ i (_ : i < ps.length), ∀ j, j < 16 → w.cell? (ad.add (i * 16 + j)) = (ps[i].map (Value.int .u8))[j]?) := by
  obtain ⟨a0, len, cap, rfl⟩ := okWide_slice Tryd.underlying49 hv
  obtain ⟨fuel, hf⟩ := h
  obtain ⟨A, n, c, xs, hcs, hn, hc, hb⟩ := open_digs hf
  have e : Value.slice a0 len cap = .slice A n c := (List.cons.inj (show [Value.slice a0 len cap] = [Value.slice A n c] from hcs)).1
  exact ⟨A, n, c, xs, e, hn, hc, hb⟩
end
/-- Its place: a block and an offset. -/
theorem digs_at {w : World} {A : Option Addr} {ps : List (List Int)} (hne : ps ≠ []) (hd : ∀ p ∈ ps, isDig p) (h : ps ≠ [] → ∃ ad, A = some ad ∧ ∀ i (_ : i < ps.length), ∀ j, j < 16 → w.cell? (ad.add (i * 16 + j)) = (ps[i].map (Value.int .u8))[j]?) :
    ∃ b off, A = some ⟨b, off, none⟩ ∧ DigsAt w b off ps := by
  obtain ⟨⟨b, off, spot⟩, rfl, hc⟩ := h hne
  have hl : 0 < ps.length := List.length_pos_iff.2 hne
  have h0 := hc 0 hl 0 (by omega)
  have hl16 := (hd _ (List.getElem_mem hl)).1
  rw [List.getElem?_eq_getElem (by rw [List.length_map, hl16]; omega)] at h0
  have hspot : spot = none := by simpa [Addr.add] using World.cell?_spot h0
  subst hspot
  refine ⟨b, off, rfl, fun j hj i v hv => ?_⟩
  have hg : ps.getD j zeroC = ps[j] := by rw [List.getD, List.getElem?_eq_getElem hj]; rfl
  rw [hg] at hv
  have hi : i < 16 := by
    have := (List.getElem?_eq_some_iff.1 hv).1
    rw [Array.length_toList, arr_size, (hd _ (List.getElem_mem hj)).1] at this
    exact this
  have := hc j hj i hi
  rw [Addr.add_mid] at this
  rw [Nat.add_assoc, this]
  simpa [arrV] using hv
end Go.Proofs.YtlokjbjpmhfkhaaDoor
