/-
  Several texts in one: Arr, Arg0, ArgB, ShArg.
-/
import Derived.Test.YtmoebkdbnldbdaaGreatDoorM20pg
import Derived.OpenShut
import Derived.Deep.Slices
import Derived.Deep.Fields
import Derived.Test.YtmoebkdbnldbdaaGreatDoorM20pa
import Derived.Test.YtmoebkdbnldbdaaGreatDoorM20pe
/-
  An array of numbers, as the reader reads it: taken apart.
-/
namespace Go.Proofs.YtmoebkdbnldbdaaGreatDoor
open Go.ChangeShapes Go.WideShapes Go.ChangeAt Go.RowKit

section
variable {H : Type} {enc : TypeId × Value → H} {P : Program} {w : World} {base : Nat} {spare : Nat → Bool} {held : Bool} {fuel : Nat}
def numV : Value → Int
  | .int _ n => n
  | _ => 0
theorem arr_of_trod {t e : TypeId} {n : Nat} {q : IntKind} {cs : List Value} {x : DataW H × List MemPlace} (ht : P.underlying t = some (.array n e)) (he : P.underlying e = some (.int q)) (hce : P.cellsOf e = 1) (hct : P.cellsOf t = n)
    (h : DataW.trod enc P w base spare held fuel t cs = some x) :
    ∃ l : List Int, cs = l.map (Value.int q) ∧ l.length = n ∧ x = (.agg (l.map fun z => .lit (.int q z)), []) ∧ ∀ z ∈ l, (Lit.int q z).wf = true := by
  obtain ⟨xs, m, _, hx, hlen, hxl, hi⟩ := DataW.trod_array ht h
  rw [hct] at hlen
  have each : ∀ i, i < n → ∃ z, cs[i]? = some (.int q z) ∧ xs[i]? = some (.lit (.int q z), []) ∧ (Lit.int q z).wf = true := by
    intro i hn
    have h1 := hi i hn
    rw [hce, Nat.mul_one] at h1
    have hxi : xs[i]? = some (xs[i]'(by omega)) := List.getElem?_eq_getElem _
    rw [hxi] at h1
    obtain ⟨z, e1, e2, e3⟩ := DataW.trod_int he h1
    refine ⟨z, ?_, by rw [hxi, e2], e3⟩
    have : ((cs.drop i).take 1)[0]? = some (.int q z) := by rw [e1]; rfl
    simpa using this
  have hcs : cs = (cs.map numV).map (Value.int q) := by
    apply List.ext_getElem?
    intro i
    by_cases hn : i < n
    · obtain ⟨z, e1, _⟩ := each i hn
      simp [e1, numV]
    · rw [List.getElem?_eq_none (by omega), List.getElem?_eq_none (by simp; omega)]
  have hxs : xs = (cs.map numV).map fun z => ((DataW.lit (.int q z), []) : DataW H × List MemPlace) := by
    apply List.ext_getElem?
    intro i
    by_cases hn : i < n
    · obtain ⟨z, e1, e2, _⟩ := each i hn
      rw [e2]
      simp [e1, numV]
    · rw [List.getElem?_eq_none (by omega), List.getElem?_eq_none (by simp; omega)]
  refine ⟨cs.map numV, hcs, by simp; exact hlen, ?_, ?_⟩
  · rw [hx, hxs]
    simp [Function.comp_def, List.flatMap_map]
  · intro z hz
    obtain ⟨i, hn, rfl⟩ := List.mem_iff_getElem.1 hz
    have hn' : i < n := by simp at hn; omega
    obtain ⟨z', e1, _, e3⟩ := each i hn'
    have : (cs.map numV)[i] = z' := by
      have : (cs.map numV)[i]? = some z' := by simp [e1, numV]
      rw [List.getElem?_eq_getElem hn] at this
      exact Option.some.inj this
    rw [this]
    exact e3
theorem okWide_array {r : Reach} {b0 : Nat} {t e : TypeId} {n : Nat} {v : Value} (ht : P.underlying t = some (.array n e)) (h : Value.okWide P w r b0 t v) : ∃ cs, v = .agg cs ∧ cs.size = P.cellsOf t := by
  simp only [Value.okWide, ht] at h
  obtain ⟨cs, h1, h2, _⟩ := h
  exact ⟨cs, h1, h2⟩
theorem arg_arr {r : Reach} {b0 : Nat} {t e : TypeId} {n : Nat} {q : IntKind} {v : Value} {d : DataW H} {p : List MemPlace} (ht : P.underlying t = some (.array n e)) (he : P.underlying e = some (.int q)) (hce : P.cellsOf e = 1) (hct : P.cellsOf t = n)
    (hv : Value.okWide P w r b0 t v) (h : DataW.Trod enc P w base spare held t v d p) : ∃ l : List Int, v = .agg (l.map (Value.int q)).toArray ∧ l.length = n ∧ ∀ z ∈ l, (Lit.int q z).wf = true := by
  obtain ⟨cs, rfl, _⟩ := okWide_array ht hv
  obtain ⟨fuel, hf⟩ := h
  obtain ⟨l, hcs, hl, _, hwf⟩ := arr_of_trod ht he hce hct hf
  refine ⟨l, ?_, hl, hwf⟩
  have : cs.toList = l.map (Value.int q) := hcs
  rw [← this]
end
end Go.Proofs.YtmoebkdbnldbdaaGreatDoor
/-
  An address with no spot.
-/
namespace Go.Proofs.YtmoebkdbnldbdaaGreatDoor
open Go.ChangeShapes Go.WideShapes Go.ChangeAt Go.RowKit

section
variable {H : Type} {enc : TypeId × Value → H} {w : World} {base : Nat} {spare : Nat → Bool} {held : Bool} {fuel : Nat} {cs : List Value} {x : DataW H × List MemPlace}

theorem addr_form {ad : Addr} {k : Nat} {v : Value} (h : w.cell? (ad.add k) = some v) (hs : k = 0) : ∃ b off, ad = ⟨b, off, none⟩ := by
  subst hs
  obtain ⟨b, off, spot⟩ := ad
  have hspot : spot = none := by simpa [Addr.add] using World.cell?_spot h
  subst hspot
  exact ⟨b, off, rfl⟩
end
end Go.Proofs.YtmoebkdbnldbdaaGreatDoor
/-
  An argument opened: a slice of bytes, as a list.
-/

namespace Go.Proofs.YtmoebkdbnldbdaaGreatDoor
open Go.ChangeShapes Go.WideShapes Go.ChangeAt Go.RowKit

section
variable {H : Type} {enc : TypeId × Value → H} {w : World} {base : Nat} {spare : Nat → Bool} {held : Bool} {fuel : Nat} {cs : List Value} {x : DataW H × List MemPlace}

theorem u8_of {z : Int} (h : (Lit.int .u8 z).wf = true) : (((UInt8.ofNat z.toNat).toNat : Nat) : Int) = z := by
  have hz : 0 ≤ z ∧ z ≤ 255 := by simpa [Lit.wf, IntKind.min, IntKind.max, IntKind.signed, IntKind.bits] using h
  simp; omega

theorem open_bytes (h : DataW.trod enc Tryz.prog w base spare held fuel 61 cs = some x) :
    ∃ A n c, ∃ l : List UInt8, cs = [.slice A n c] ∧ l.length = n ∧ n ≤ c ∧ c ≤ maxLen ∧ BytesAt w A l ∧ ∀ ad, A = some ad → l ≠ [] → ad.block < w.heap.size := by
  rcases open_ints Tryz.underlying61 Tryz.underlying5 (by kernel_rfl) h with ⟨hcs, _⟩ | ⟨a, len, cap, zs, hcs, _, hl, hm, hz, _, hcell, hwf⟩
  · exact ⟨none, 0, 0, [], hcs, rfl, Nat.le_refl _, by simp [maxLen], BytesAt.nil _ _, fun _ e => by cases e⟩
  · have hlz : len ≤ zs.length := by rw [hz]; split <;> omega
    have hc : ∀ j (hj : j < ((zs.take len).map fun z => UInt8.ofNat z.toNat).length), w.cell? (a.add j) = some (.int .u8 (((zs.take len).map fun z => UInt8.ofNat z.toNat)[j].toNat : Nat)) := by
      intro j hj
      have hj' : j < len := by simp at hj; omega
      rw [hcell j (by omega)]
      simp only [List.getElem_map, List.getElem_take]
      rw [u8_of (hwf _ (List.getElem_mem _))]
      simp [List.getD, List.getElem?_eq_getElem (show j < zs.length by omega)]
    refine ⟨some a, len, cap, (zs.take len).map fun z => UInt8.ofNat z.toNat, hcs, by simp; omega, hl, hm, fun _ => ⟨a, rfl, hc⟩, ?_⟩
    intro ad e hne
    injection e with e
    subst e
    have h0 := hc 0 (List.length_pos_iff.2 hne)
    have := World.block_lt_of_cell? w _ h0
    rwa [block_add] at this

theorem BytesAt.get {A : Option Addr} {l : List UInt8} (h : BytesAt w A l) (hl : l ≠ []) : ∃ b off, A = some ⟨b, off, none⟩ ∧ ∀ j (hj : j < l.length), w.cell? ⟨b, off + j, none⟩ = some (.int .u8 l[j].toNat) := by
  obtain ⟨ad, rfl, hc⟩ := h hl
  obtain ⟨b, off, rfl⟩ := addr_form (hc 0 (List.length_pos_iff.2 hl)) rfl
  exact ⟨b, off, rfl, fun j hj => by rw [← Go.WideShapes.add_plain]; exact hc j hj⟩
set_option maxRecDepth 100000 in
theorem arg_bytes {v : Value} {d : DataW H} {p : List MemPlace} {b0 : Nat} (hv : Value.okWide Tryz.prog w .any b0 61 v) (h : DataW.Trod enc Tryz.prog w base spare held 61 v d p) :
    ∃ A n c, ∃ l : List UInt8, v = .slice A n c ∧ l.length = n ∧ n ≤ c ∧ BytesAt w A l := by
  obtain ⟨a0, len, cap, rfl⟩ := okWide_slice Tryz.underlying61 hv
  obtain ⟨fuel, hf⟩ := h
  obtain ⟨A, n, c, l, hcs, hn, hc, _, hb, _⟩ := open_bytes hf
  have e : Value.slice a0 len cap = .slice A n c := (List.cons.inj (show [Value.slice a0 len cap] = [Value.slice A n c] from hcs)).1
  exact ⟨A, n, c, l, e, hn, hc, hb⟩
end
end Go.Proofs.YtmoebkdbnldbdaaGreatDoor
/-
  Arguments of layer 2: bytes as numbers; a digest.
-/
namespace Go.Proofs.YtmoebkdbnldbdaaGreatDoor
open Go.ChangeShapes Go.WideShapes Go.ChangeAt Go.RowKit

def intsB (l : List UInt8) : List Int := l.map fun b => ((b.toNat : Nat) : Int)
theorem intsB_length (l : List UInt8) : (intsB l).length = l.length := by simp [intsB]
theorem BytesI.of {w : World} {A : Option Addr} {l : List UInt8} (h : BytesAt w A l) : BytesI w A (intsB l) := fun hne => by
  obtain ⟨ad, rfl, hc⟩ := h (by rintro rfl; exact hne rfl)
  refine ⟨ad, rfl, fun j hj => ?_⟩
  rw [intsB_length] at hj
  rw [hc j hj]
  simp [intsB, List.getD, List.getElem?_eq_getElem hj]
end Go.Proofs.YtmoebkdbnldbdaaGreatDoor
