/-
  Several texts in one: Arr, Arg0.
-/
import Derived.Test.YtebnebajedlhlaaDoorM9ik
import Derived.OpenShut
import Derived.Deep.Slices
import Derived.Deep.Fields
/-
  An array of numbers, as the reader reads it: taken apart.
-/
namespace Go.Proofs.YtebnebajedlhlaaDoor
open Go.ChangeShapes Go.WideShapes Go.ChangeAt Go.RowKit

section
variable {H : Type} {enc : TypeId × Value → H} {P : Program} {w : World} {base : Nat} {spare : Nat → Bool} {held : Bool} {fuel : Nat}
def numV : Value → Int
  | .int _ n => n
  | _ => 0
theorem arr_of_trod {t e : TypeId} {n : Nat} {q : IntKind} {cs : List Value} {x : DataW H × List MemPlace} (ht : P.underlying t = some (.array n e)) (he : P.underlying e = some (.int q)) (hce : P.cellsOf e = 1) (hct : P.cellsOf t = n)
    (h : DataW.trod enc P w base spare held fuel t cs = some x) :
    ∃ l : List Int, cs = l.map (Value.int q) ∧ l.length = n ∧ x = (.agg (l.map fun z => .lit (.int q z)), []) ∧ ∀ z ∈ l, (Lit.int q z).wf = true := by
  obtain ⟨xs, m, _, hx, hlen, hxl, hi⟩ := DataW.trod_array ht h
  rw [hct] at hlen
  have each : ∀ i, i < n → ∃ z, cs[i]? = some (.int q z) ∧ xs[i]? = some (.lit (.int q z), []) ∧ (Lit.int q z).wf = true := by
    intro i hn
    have h1 := hi i hn
    rw [hce, Nat.mul_one] at h1
    have hxi : xs[i]? = some (xs[i]'(by omega)) := List.getElem?_eq_getElem _
    rw [hxi] at h1
    obtain ⟨z, e1, e2, e3⟩ := DataW.trod_int he h1
    refine ⟨z, ?_, by rw [hxi, e2], e3⟩
    have : ((cs.drop i).take 1)[0]? = some (.int q z) := by rw [e1]; rfl
    simpa using this
  have hcs : cs = (cs.map numV).map (Value.int q) := by
    apply List.ext_getElem?
    intro i
    by_cases hn : i < n
    · obtain ⟨z, e1, _⟩ := each i hn
      simp [e1, numV]
    · rw [List.getElem?_eq_none (by omega), List.getElem?_eq_none (by simp; omega)]
  have hxs : xs = (cs.map numV).map fun z => ((DataW.lit (.int q z), []) : DataW H × List MemPlace) := by
    apply List.ext_getElem?
    intro i
    by_cases hn : i < n
    · obtain ⟨z, e1, e2, _⟩ := each i hn
      rw [e2]
      simp [e1, numV]
    · rw [List.getElem?_eq_none (by omega), List.getElem?_eq_none (by simp; omega)]
  refine ⟨cs.map numV, hcs, by simp; exact hlen, ?_, ?_⟩
  · rw [hx, hxs]
    simp [Function.comp_def, List.flatMap_map]
  · intro z hz
    obtain ⟨i, hn, rfl⟩ := List.mem_iff_getElem.1 hz
    have hn' : i < n := by simp at hn; omega
    obtain ⟨z', e1, _, e3⟩ := each i hn'
    have : (cs.map numV)[i] = z' := by
      have : (cs.map numV)[i]? = some z' := by simp [e1, numV]
      rw [List.getElem?_eq_getElem hn] at this
      exact Option.some.inj this
    rw [this]
    exact e3
theorem okWide_array {r : Reach} {b0 : Nat} {t e : TypeId} {n : Nat} {v : Value} (ht : P.underlying t = some (.array n e)) (h : Value.okWide P w r b0 t v) : ∃ cs, v = .agg cs ∧ cs.size = P.cellsOf t := by
  simp only [Value.okWide, ht] at h
  obtain ⟨cs, h1, h2, _⟩ := h
  exact ⟨cs, h1, h2⟩
theorem arg_arr {r : Reach} {b0 : Nat} {t e : TypeId} {n : Nat} {q : IntKind} {v : Value} {d : DataW H} {p : List MemPlace} (ht : P.underlying t = some (.array n e)) (he : P.underlying e = some (.int q)) (hce : P.cellsOf e = 1) (hct : P.cellsOf t = n)
    (hv : Value.okWide P w r b0 t v) (h : DataW.Trod enc P w base spare held t v d p) : ∃ l : List Int, v = .agg (l.map (Value.int q)).toArray ∧ l.length = n ∧ ∀ z ∈ l, (Lit.int q z).wf = true := by
  obtain ⟨cs, rfl, _⟩ := okWide_array ht hv
  obtain ⟨fuel, hf⟩ := h
  obtain ⟨l, hcs, hl, _, hwf⟩ := arr_of_trod ht he hce hct hf
  refine ⟨l, ?_, hl, hwf⟩
  have : cs.toList = l.map (Value.int q) := hcs
  rw [← this]
end
end Go.Proofs.YtebnebajedlhlaaDoor
/-
  An address with no spot.
-/
namespace Go.Proofs.YtebnebajedlhlaaDoor
open Go.ChangeShapes Go.WideShapes Go.ChangeAt Go.RowKit

section
variable {H : Type} {enc : TypeId × Value → H} {w : World} {base : Nat} {spare : Nat → Bool} {held : Bool} {fuel : Nat} {cs : List Value} {x : DataW H × List MemPlace}

theorem addr_form {ad : Addr} {k : Nat} {v : Value} (h : w.cell? (ad.add k) = some v) (hs : k = 0) : ∃ b off, ad = ⟨b, off, none⟩ := by
  subst hs
  obtain ⟨b, off, spot⟩ := ad
  have hspot : spot = none := by simpa [Addr.add] using World.cell?_spot h
  subst hspot
  exact ⟨b, off, rfl⟩
end
end Go.Proofs.YtebnebajedlhlaaDoor
