/-
  Put at bytes: a list that is too long; a Writer with an error.
-/
import Derived.Test.YtjmdlpefacbmmaaDoorPut2
namespace Go.Proofs.YtjmdlpefacbmmaaDoor
open Go.RowKit

theorem long_cases {m : Nat} {most : Int} (h : most < (m : Int) ∨ 255 < m) : decide (most < (m : Int)) = true ∨ (decide (most < (m : Int)) = false ∧ decide ((255 : Int) < (m : Int)) = true) := by
  by_cases h1 : most < (m : Int)
  · exact .inl (by simpa using h1)
  · exact .inr ⟨by simpa using h1, by simp; omega⟩

end Go.Proofs.YtjmdlpefacbmmaaDoor
