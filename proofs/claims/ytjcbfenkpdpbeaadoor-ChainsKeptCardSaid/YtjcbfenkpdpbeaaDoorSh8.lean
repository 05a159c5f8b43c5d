/-
  SHA-256: the hash of bytes as a function.
-/
import Derived.Test.YtjcbfenkpdpbeaaDoorSh7
namespace Go.Proofs.YtjcbfenkpdpbeaaDoor
open Go.RowKit

theorem add_none (b o j : Nat) : (⟨b, o, none⟩ : Addr).add j = ⟨b, o + j, none⟩ := by simp [Addr.add]
/-- The hash of bytes. -/
def hashS (x : List Int) : List Int := digS (writeS startS x)
theorem hashS_length (x : List Int) : (hashS x).length = 32 := digS_length _

end Go.Proofs.YtjcbfenkpdpbeaaDoor
