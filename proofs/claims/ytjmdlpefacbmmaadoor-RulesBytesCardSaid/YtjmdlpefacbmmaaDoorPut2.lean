/-
  Put at bytes: its closure, and it.
-/
import Derived.Test.YtjmdlpefacbmmaaDoorPut
namespace Go.Proofs.YtjmdlpefacbmmaaDoor
open Go.RowKit

theorem BytesAt.lt {w : World} {A : Option Addr} {l : List UInt8} (h : BytesAt w A l) : ∀ ad, A = some ad → l ≠ [] → ad.block < w.heap.size := by
  intro ad e hne
  obtain ⟨ad', e', hc⟩ := h hne
  rw [e] at e'
  injection e' with e'
  subst e'
  have := World.block_lt_of_cell? w _ (hc 0 (List.length_pos_iff.2 hne))
  rwa [block_add] at this
section
variable (w : World) (g m c : Nat) (A : Option Addr)
end

end Go.Proofs.YtjmdlpefacbmmaaDoor
