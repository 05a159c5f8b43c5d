/-
  Arguments of layer 2: bytes as numbers; a digest.
-/
import Derived.Test.YtjcbfenkpdpbeaaDoorSh8
import Derived.Test.YtjcbfenkpdpbeaaDoorShOf
import Derived.Test.YtjcbfenkpdpbeaaDoorArr
import Derived.Test.YtjcbfenkpdpbeaaDoorArgB
namespace Go.Proofs.YtjcbfenkpdpbeaaDoor
open Go.ChangeShapes Go.WideShapes Go.ChangeAt Go.RowKit

theorem u8_info : (Tryd.prog.info? 5).map (fun i => (i.zero, i.size, i.bytes)) = some (some (.int .u8 0), 1, 1) := by kernel_rfl
def intsB (l : List UInt8) : List Int := l.map fun b => ((b.toNat : Nat) : Int)
theorem intsB_length (l : List UInt8) : (intsB l).length = l.length := by simp [intsB]
theorem BytesI.of {w : World} {A : Option Addr} {l : List UInt8} (h : BytesAt w A l) : BytesI w A (intsB l) := fun hne => by
  obtain ⟨ad, rfl, hc⟩ := h (by rintro rfl; exact hne rfl)
  refine ⟨ad, rfl, fun j hj => ?_⟩
  rw [intsB_length] at hj
  rw [hc j hj]
  simp [intsB, List.getD, List.getElem?_eq_getElem hj]
end Go.Proofs.YtjcbfenkpdpbeaaDoor
