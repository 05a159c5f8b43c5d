/-
  Arguments of layer 2: bytes as numbers; a digest.
-/
import Derived.Test.YtmikejlpldnokaaDoorSh8
import Derived.Test.YtmikejlpldnokaaDoorArr
import Derived.Test.YtmikejlpldnokaaDoorArgB
namespace Go.Proofs.YtmikejlpldnokaaDoor
open Go.ChangeShapes Go.WideShapes Go.ChangeAt Go.RowKit

def intsB (l : List UInt8) : List Int := l.map fun b => ((b.toNat : Nat) : Int)
theorem intsB_length (l : List UInt8) : (intsB l).length = l.length := by simp [intsB]
theorem BytesI.of {w : World} {A : Option Addr} {l : List UInt8} (h : BytesAt w A l) : BytesI w A (intsB l) := fun hne => by
  obtain ⟨ad, rfl, hc⟩ := h (by rintro rfl; exact hne rfl)
  refine ⟨ad, rfl, fun j hj => ?_⟩
  rw [intsB_length] at hj
  rw [hc j hj]
  simp [intsB, List.getD, List.getElem?_eq_getElem hj]
theorem BytesI.lt {w : World} {A : Option Addr} {x : List Int} (h : BytesI w A x) (ad : Addr) (e : A = some ad) (hne : x ≠ []) : ad.block < w.heap.size := by
  obtain ⟨ad', e', hc⟩ := h hne
  rw [e] at e'
  obtain rfl := Option.some.inj e'
  have h0 := World.block_lt_of_cell? w _ (hc 0 (List.length_pos_iff.2 hne))
  rwa [block_add] at h0
end Go.Proofs.YtmikejlpldnokaaDoor
