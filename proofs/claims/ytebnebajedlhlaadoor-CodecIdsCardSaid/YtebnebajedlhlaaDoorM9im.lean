/-
  Several texts in one: ArgB, ShArg.
-/
import Derived.Test.YtebnebajedlhlaaDoorM9il
import Derived.Test.YtebnebajedlhlaaDoorM9ik
import Derived.Test.YtebnebajedlhlaaDoorM9ie
import Derived.Test.YtebnebajedlhlaaDoorM9ij
/-
  An argument opened: a slice of bytes, as a list.
-/

namespace Go.Proofs.YtebnebajedlhlaaDoor
open Go.ChangeShapes Go.WideShapes Go.ChangeAt Go.RowKit

section
variable {H : Type} {enc : TypeId × Value → H} {w : World} {base : Nat} {spare : Nat → Bool} {held : Bool} {fuel : Nat} {cs : List Value} {x : DataW H × List MemPlace}

theorem u8_of {z : Int} (h : (Lit.int .u8 z).wf = true) : (((UInt8.ofNat z.toNat).toNat : Nat) : Int) = z := by
  have hz : 0 ≤ z ∧ z ≤ 255 := by simpa [Lit.wf, IntKind.min, IntKind.max, IntKind.signed, IntKind.bits] using h
  simp; omega

theorem open_bytes (h : DataW.trod enc Tryd.prog w base spare held fuel 33 cs = some x) :
    ∃ A n c, ∃ l : List UInt8, cs = [.slice A n c] ∧ l.length = n ∧ n ≤ c ∧ c ≤ maxLen ∧ BytesAt w A l ∧ ∀ ad, A = some ad → l ≠ [] → ad.block < w.heap.size := by
  rcases open_ints Tryd.underlying33 Tryd.underlying5 (by kernel_rfl) h with ⟨hcs, _⟩ | ⟨a, len, cap, zs, hcs, _, hl, hm, hz, _, hcell, hwf⟩
  · exact ⟨none, 0, 0, [], hcs, rfl, Nat.le_refl _, by simp [maxLen], BytesAt.nil _ _, fun _ e => by cases e⟩
  · have hlz : len ≤ zs.length := by rw [hz]; split <;> omega
    have hc : ∀ j (hj : j < ((zs.take len).map fun z => UInt8.ofNat z.toNat).length), w.cell? (a.add j) = some (.int .u8 (((zs.take len).map fun z => UInt8.ofNat z.toNat)[j].toNat : Nat)) := by
      intro j hj
      have hj' : j < len := by simp at hj; omega
      rw [hcell j (by omega)]
      simp only [List.getElem_map, List.getElem_take]
      rw [u8_of (hwf _ (List.getElem_mem _))]
      simp [List.getD, List.getElem?_eq_getElem (show j < zs.length by omega)]
    refine ⟨some a, len, cap, (zs.take len).map fun z => UInt8.ofNat z.toNat, hcs, by simp; omega, hl, hm, fun _ => ⟨a, rfl, hc⟩, ?_⟩
    intro ad e hne
    injection e with e
    subst e
    have h0 := hc 0 (List.length_pos_iff.2 hne)
    have := World.block_lt_of_cell? w _ h0
    rwa [block_add] at this

theorem BytesAt.get {A : Option Addr} {l : List UInt8} (h : BytesAt w A l) (hl : l ≠ []) : ∃ b off, A = some ⟨b, off, none⟩ ∧ ∀ j (hj : j < l.length), w.cell? ⟨b, off + j, none⟩ = some (.int .u8 l[j].toNat) := by
  obtain ⟨ad, rfl, hc⟩ := h hl
  obtain ⟨b, off, rfl⟩ := addr_form (hc 0 (List.length_pos_iff.2 hl)) rfl
  exact ⟨b, off, rfl, fun j hj => by rw [← Go.WideShapes.add_plain]; exact hc j hj⟩
set_option maxRecDepth 100000 in
theorem arg_bytes {v : Value} {d : DataW H} {p : List MemPlace} {b0 : Nat} (hv : Value.okWide Tryd.prog w .any b0 33 v) (h : DataW.Trod enc Tryd.prog w base spare held 33 v d p) :
    ∃ A n c, ∃ l : List UInt8, v = .slice A n c ∧ l.length = n ∧ n ≤ c ∧ BytesAt w A l := by
  obtain ⟨a0, len, cap, rfl⟩ := okWide_slice Tryd.underlying33 hv
  obtain ⟨fuel, hf⟩ := h
  obtain ⟨A, n, c, l, hcs, hn, hc, _, hb, _⟩ := open_bytes hf
  have e : Value.slice a0 len cap = .slice A n c := (List.cons.inj (show [Value.slice a0 len cap] = [Value.slice A n c] from hcs)).1
  exact ⟨A, n, c, l, e, hn, hc, hb⟩
end
end Go.Proofs.YtebnebajedlhlaaDoor
/-
  Arguments of layer 2: bytes as numbers; a digest.
-/
namespace Go.Proofs.YtebnebajedlhlaaDoor
open Go.ChangeShapes Go.WideShapes Go.ChangeAt Go.RowKit

def intsB (l : List UInt8) : List Int := l.map fun b => ((b.toNat : Nat) : Int)
theorem intsB_length (l : List UInt8) : (intsB l).length = l.length := by simp [intsB]
theorem BytesI.of {w : World} {A : Option Addr} {l : List UInt8} (h : BytesAt w A l) : BytesI w A (intsB l) := fun hne => by
  obtain ⟨ad, rfl, hc⟩ := h (by rintro rfl; exact hne rfl)
  refine ⟨ad, rfl, fun j hj => ?_⟩
  rw [intsB_length] at hj
  rw [hc j hj]
  simp [intsB, List.getD, List.getElem?_eq_getElem hj]
end Go.Proofs.YtebnebajedlhlaaDoor
