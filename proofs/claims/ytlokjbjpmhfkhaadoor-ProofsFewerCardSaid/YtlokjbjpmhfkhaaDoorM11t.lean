/-
  Several texts in one: ChS, ChB, ChE.
-/
import Derived.Test.YtlokjbjpmhfkhaaDoorM11s
import Derived.Test.YtlokjbjpmhfkhaaDoorM11r
import Derived.Test.YtlokjbjpmhfkhaaDoorM11k
/-
  chains.secrets: a leaf's chains, each with its secret, as an iterator.
-/

namespace Go.Proofs.YtlokjbjpmhfkhaaDoor
open Go.RowKit Go.Shelf

attribute [local go_sem] Oper.semAt_some

/-- What a round of a range over the secrets keeps: the table of the rounds, the boxes of the seed and the leaf. -/
def KpS (b1 b2 : Nat) (A B : World) : Prop := (Rounds A → Rounds B) ∧ B.heap[b1]? = A.heap[b1]? ∧ B.heap[b2]? = A.heap[b2]?
theorem KpS.refl {b1 b2 : Nat} (A : World) : KpS b1 b2 A A := ⟨id, rfl, rfl⟩
theorem KpS.trans {b1 b2 : Nat} {A B C : World} (h : KpS b1 b2 A B) (k : KpS b1 b2 B C) : KpS b1 b2 A C := ⟨fun r => k.1 (h.1 r), k.2.1.trans h.2.1, k.2.2.trans h.2.2⟩
theorem KpS.grown {b1 b2 : Nat} {A B : World} {row : Option Nat} (hg : A.grownBy B row) (hr : row ≠ some 18) (h1 : b1 < A.heap.size) (h2 : b2 < A.heap.size) (n1 : row ≠ some b1) (n2 : row ≠ some b2) : KpS b1 b2 A B :=
  ⟨fun r => r.grown hg (fun e => hr e.symm), hg.block b1 h1 (fun e => n1 e.symm), hg.block b2 h2 (fun e => n2 e.symm)⟩

/-- What comes as k-th. -/
def secE (seed : List Int) (lf : Int) (k : Nat) : Array Value := #[.int .i64 (k : Int), .agg (arrV .u8 (secC seed lf k))]

/-- The first k of 68. -/
def upF (k : Nat) : List (Fin 68) := (List.finRange 68).take k
theorem upF_succ (k : Nat) (hk : k < 68) : upF (k + 1) = upF k ++ [⟨k, hk⟩] := by
  rw [upF, upF, List.take_add_one, List.getElem?_eq_getElem (by simpa using hk)]
  simp
theorem upF_length (k : Nat) (hk : k ≤ 68) : (upF k).length = k := by simp [upF, hk]
theorem upF_mem (x : Fin 68) : x ∈ upF 68 := by
  rw [upF, List.take_of_length_le (by simp)]; exact List.mem_finRange x
end Go.Proofs.YtlokjbjpmhfkhaaDoor
/-
  quorateref03: one, Secret, Step, Run.
-/
namespace Go.Proofs.YtlokjbjpmhfkhaaDoor
open Go.RowKit

end Go.Proofs.YtlokjbjpmhfkhaaDoor
/-
  quorateref03.Ended.
-/

namespace Go.Proofs.YtlokjbjpmhfkhaaDoor
open Go.RowKit

end Go.Proofs.YtlokjbjpmhfkhaaDoor
