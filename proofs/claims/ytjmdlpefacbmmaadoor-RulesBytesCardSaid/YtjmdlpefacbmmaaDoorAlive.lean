/-
  The law's own 'alive': it answers true, and turns nothing that was there. What 'string(b)' is.
-/
import Derived.Test.YtjmdlpefacbmmaaDoorWire2
import Derived.Test.YtjmdlpefacbmmaaDoorNum
import Derived.Laws.BytesArg
import Derived.Lib.SlBytesConst
namespace Go.Proofs.YtjmdlpefacbmmaaDoor
open Go.RowKit

theorem toString_any {w : World} {A : Option Addr} {n c : Nat} {l : List UInt8} (hb : BytesAt w A l) (hn : l.length = n) :
    (convert 36 9 (.slice A n c)).run Tryd.prog w = .ok (.string ⟨l.toArray⟩) w := by
  subst hn
  rcases A with _ | ad
  · have hl0 : l = [] := by
      rcases l with _ | ⟨x, r⟩
      · rfl
      · obtain ⟨_, h, _⟩ := hb (by simp)
        cases h
    subst hl0
    exact run_convert_bytes_nil w 36 5 Tryd.underlying36 Tryd.underlying5 _ _ 9 Tryd.underlying9
  · refine run_convert_bytes_back w 36 9 5 ad c l Tryd.underlying36 Tryd.underlying5 Tryd.underlying9 fun j hj => ?_
    obtain ⟨ad', h, hc⟩ := hb (by intro e; subst e; simp at hj)
    injection h with h
    subst h
    exact hc j hj
theorem upTo_fresh {F : Nat → Prop} {a b : Nat} (h : ¬ F b) : ¬ upTo F a b b := by
  rintro (hf | ⟨_, h2⟩)
  · exact h hf
  · omega
theorem be_alive : ([] : List UInt8) ++ be 2 258 ++ (be 2 2 ++ [97, 98]) = [1, 2, 0, 2, 97, 98] := by decide

end Go.Proofs.YtjmdlpefacbmmaaDoor
