/-
  A string's bytes.
-/
import Derived.Test.YtmikejlpldnokaaDoorShArg
import Derived.Test.YtmikejlpldnokaaDoorArrEq
import Derived.Lib.ConvBytes
namespace Go.Proofs.YtmikejlpldnokaaDoor
open Go.RowKit

theorem conv_is (w : World) (s : ByteArray) : ∃ c w', (∀ t, t = w → Sem.run Tryd.prog (convert 9 22 (.string s)) t = .ok (.slice (some ⟨w.heap.size, 0, none⟩) s.size c) w') ∧ s.size ≤ c ∧ BytesI w' (some ⟨w.heap.size, 0, none⟩) (intsB s.data.toList) ∧ w.grownBy w' none ∧ w.heap.size < w'.heap.size := by
  refine ⟨_, _, fun t e => by rw [e]; exact Lib.run_convert_string_bytes w 9 22 5 s Tryd.underlying9 Tryd.underlying22 Tryd.underlying5, grownCap_ge _ _ _ _, fun _ => ⟨_, rfl, fun j hj => ?_⟩, ⟨?_, ?_, ?_, ?_, ?_⟩, ?_⟩
  · rw [intsB_length] at hj
    rw [show (⟨w.heap.size, 0, none⟩ : Addr).add j = ⟨w.heap.size, j, none⟩ by have := add_none w.heap.size 0 j; rwa [Nat.zero_add] at this]
    have hj2 : j < s.size := by rw [Array.length_toList] at hj; exact hj
    rw [Lib.bytesWorld_cell w 5 s j hj2]
    congr 2
    simp only [intsB, List.getD, List.getElem?_map, List.getElem?_eq_getElem hj, Option.map_some, Option.getD_some]
  · simp [Lib.bytesWorld, World.freeze, World.alloc, World.drew, -World.alloc_eq, -World.drew_eq]
  · simp [Lib.bytesWorld, World.freeze, World.alloc, World.drew, -World.alloc_eq, -World.drew_eq]
  · simp [Lib.bytesWorld, World.freeze, World.alloc, World.drew, -World.alloc_eq, -World.drew_eq]
  · rw [Lib.bytesWorld_size]; omega
  · exact fun k hk _ => Lib.bytesWorld_at_old w _ s k hk
  · rw [Lib.bytesWorld_size]; omega
end Go.Proofs.YtmikejlpldnokaaDoor
