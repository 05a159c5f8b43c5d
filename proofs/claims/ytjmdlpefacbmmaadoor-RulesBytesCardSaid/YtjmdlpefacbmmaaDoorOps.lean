/-
  The Writer's other calls with an error; one op of a script, written.
-/
import Derived.Test.YtjmdlpefacbmmaaDoorPut3
import Derived.Test.YtjmdlpefacbmmaaDoorNum
namespace Go.Proofs.YtjmdlpefacbmmaaDoor
open Go.RowKit

theorem blong_cases {m : Nat} {most : Int} (h : most < (m : Int) ∨ 65535 < m) : decide (most < (m : Int)) = true ∨ (decide (most < (m : Int)) = false ∧ decide ((65535 : Int) < (m : Int)) = true) := by
  by_cases h1 : most < (m : Int)
  · exact .inl (by simpa using h1)
  · exact .inr ⟨by simpa using h1, by simp; omega⟩

/-! ### one op -/
/-- An op of a script, with the bytes that it holds. -/
structure OpV where
  kind : Int
  n : Int
  width : Int
  most : Int
  bytes : List UInt8

/-- The op as a value: its bytes lie at A. -/
def opVal (o : OpV) (A : Option Addr) (c : Nat) : Value := .agg #[.int .i64 o.kind, .int .i64 o.n, .int .i64 o.width, .int .i64 o.most, .slice A o.bytes.length c]

end Go.Proofs.YtjmdlpefacbmmaaDoor
