/-
  Several texts in one: RfU, RfS.
-/
import Derived.Great.BuildSlice
import Derived.Test.YtebnebajedlhlaaDoorM9ih
/-
  Strings as numbers; what quorateref02.Sum wants to know of its padding.
-/
namespace Go.Proofs.YtebnebajedlhlaaDoor
open Go.RowKit

theorem u8i : (Tryd.prog.info? 5).map (fun i => (i.zero, i.size, i.bytes)) = some (some (.int .u8 0), 1, 1) := by kernel_rfl
theorem zrun {P : Program} {t : TypeId} {v : Value} (w : World) (h : (P.info? t).bind (·.zero) = some v) : Sem.run P (zeroValue t) w = .ok v w := by
  cases hq : P.info? t with
  | none => simp [hq] at h
  | some i =>
    have h1 : i.zero = some v := by simpa [hq] using h
    simp [zeroValue, typeInfo, hq, h1]
def xsOf (s : ByteArray) : List Int := s.data.toList.map fun b => ((b.toNat : Nat) : Int)
theorem xsOf_length (s : ByteArray) : (xsOf s).length = s.size := by simp [xsOf]
theorem xsOf_range (s : ByteArray) : ∀ z ∈ xsOf s, 0 ≤ z ∧ z < 256 := fun z hz => by
  simp only [xsOf, List.mem_map] at hz
  obtain ⟨b, _, rfl⟩ := hz
  have := b.toNat_lt
  omega
def lenV : Value → Nat
  | .slice _ n _ => n
  | _ => 0
theorem grown_ownU {a b c : World} {v : Value} {base : Nat} {e : TypeId} {n : Nat} {xs : List Value} (h : a.grownBy b none) (k : b.grownBy c v.ownBlock) (hv : ownsU b base e v n xs) (hB : a.heap.size ≤ base) : a.grownBy c none := by
  cases hg : v.ownBlock with
  | none => rw [hg] at k; exact grown_trans h k
  | some g => rw [hg] at k; exact grown_fresh h k (Nat.le_trans hB (hv.lt g hg).1)
def zerosN (n : Nat) : Nat := if 56 < (n + 1) % 64 then 120 - (n + 1) % 64 else 56 - (n + 1) % 64
theorem zerosN_at (n k : Nat) (h : k ≤ zerosN n) : ((n + 1 + k) % 64 = 56) ↔ k = zerosN n := by
  unfold zerosN at *
  split at h <;> rename_i h1 <;> simp only [h1, if_true, if_false] <;> omega
theorem rep_snoc (k : Nat) : List.replicate (k + 1) (0 : Int) = List.replicate k 0 ++ [0] := by
  rw [List.replicate_succ']

theorem endB_length (N : Nat) : (endB N).length = 8 := rfl
theorem endB_byte (N : Nat) (k : Nat) (SH : Int) (hk : k < 8) (h : SH = 56 - 8 * (k : Int)) : (N : Int) / 2 ^ SH.toNat % 256 = (endB N).getD k 0 := by
  have hc : k = 0 ∨ k = 1 ∨ k = 2 ∨ k = 3 ∨ k = 4 ∨ k = 5 ∨ k = 6 ∨ k = 7 := by omega
  subst h
  rcases hc with rfl | rfl | rfl | rfl | rfl | rfl | rfl | rfl <;> simp [endB, wordB] <;> omega
theorem take_get (l : List Int) (k : Nat) (h : k < l.length) : l.take (k + 1) = l.take k ++ [l.getD k 0] := by
  rw [List.take_add_one, List.getD, List.getElem?_eq_getElem h]; rfl

end Go.Proofs.YtebnebajedlhlaaDoor
/-
  quorateref02.Sum: SHA-256 by whole blocks.
-/

namespace Go.Proofs.YtebnebajedlhlaaDoor
open Go.RowKit

end Go.Proofs.YtebnebajedlhlaaDoor
