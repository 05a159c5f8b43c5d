/-
  What is written is what is read: the answers of the reads on the bytes that the writes make. Arithmetic alone.
-/
import Derived.Test.YtmmjpkijnecmcaaDoorTake
import Derived.Test.YtmmjpkijnecmcaaDoorWrites
namespace Go.Proofs.YtmmjpkijnecmcaaDoor
open Go.RowKit

theorem valOf_be : ∀ k n, valOf (be k n) = n % 256 ^ k
  | 0, n => by simp [be, valOf, Nat.mod_one]
  | k + 1, n => by
    have h1 : valOf (be (k + 1) n) = (n / 256 ^ k % 256) * 256 ^ k + valOf (be k n) := by
      have h := valOf_cons (be k n) (n / 256 ^ k % 256)
      rw [be_length] at h
      rw [← h]
      simp [be, valOf]
    rw [h1, valOf_be k n, Nat.pow_succ, Nat.mod_mul, Nat.mul_comm (256 ^ k), Nat.add_comm]
theorem pNum_be (k m : Nat) (r : List UInt8) (h1 : 1 ≤ k) (h8 : k ≤ 8) (hm : m < 256 ^ k) (h63 : m < 9223372036854775808) : pNum (k : Int) 0 (be k m ++ r) = (m, 0, r) := by
  have hl : (be k m).length = k := be_length k m
  have ht : (be k m ++ r).take k = be k m := by rw [List.take_append_of_le_length (by omega), List.take_of_length_le (by omega)]
  have hd : (be k m ++ r).drop k = r := by
    have h := List.drop_left (l₁ := be k m) (l₂ := r)
    rw [hl] at h
    exact h
  have hv : valOf (be k m) = m := by rw [valOf_be, Nat.mod_eq_of_lt hm]
  unfold pNum
  rw [if_neg (by simp), if_neg (by omega), if_neg (by rw [List.length_append, hl]; omega), Int.toNat_natCast, ht, hd, hv, if_neg (by omega)]
theorem pNum_byte (b : UInt8) (r : List UInt8) : pNum 1 0 (b :: r) = (b.toNat, 0, r) := by
  have h := pNum_be 1 b.toNat r (by omega) (by omega) (by have := b.toNat_lt; omega) (by have := b.toNat_lt; omega)
  rw [be_one] at h
  exact h
theorem pFlag_bit (b : Bool) (r : List UInt8) : pFlag 0 ((if b then 1 else 0) :: r) = (b, 0, r) := by
  unfold pFlag
  rw [pNum_byte]
  cases b <;> rfl
theorem pFixed_app (x r : List UInt8) : pFixed (x.length : Int) 0 (x ++ r) = (x, 0, r) := by
  unfold pFixed
  rw [if_neg (by simp), if_neg (by omega), if_neg (by rw [List.length_append]; omega), Int.toNat_natCast, List.take_left, List.drop_left]
theorem pMost_be (k m : Nat) (most : Int) (r : List UInt8) (h1 : 1 ≤ k) (h8 : k ≤ 8) (hm : m < 256 ^ k) (h63 : m < 9223372036854775808) (hmost : ¬ most < (m : Int)) : pMost (k : Int) most 0 (be k m ++ r) = (m, 0, r) := by
  unfold pMost
  rw [pNum_be k m r h1 h8 hm h63]
  simp only
  rw [if_neg (fun h => hmost h.2)]
theorem pBytes_app (x r : List UInt8) (most : Int) (h : ¬ most < (x.length : Int)) (h2 : x.length ≤ 65535) : pBytes most 0 (be 2 x.length ++ (x ++ r)) = (x, 0, r) := by
  unfold pBytes
  have := pMost_be 2 x.length most (x ++ r) (by omega) (by omega) (by omega) (by omega) h
  rw [show ((2 : Nat) : Int) = 2 from rfl] at this
  rw [this]
  exact pFixed_app x r
theorem pMany_app : ∀ (x r : List UInt8), pMany x.length 0 (x ++ r) = (x.map (·.toNat), 0, r)
  | [], r => rfl
  | b :: x, r => by
    rw [List.length_cons, List.cons_append, pMany_succ x.length (b :: (x ++ r)) b.toNat 0 (x ++ r) (pNum_byte b (x ++ r)), pMany_app x r]
    rfl
theorem pTake_app (x r : List UInt8) (most : Int) (h : ¬ most < (x.length : Int)) (h2 : x.length ≤ 255) : pTake most 0 (be 1 x.length ++ (x ++ r)) = (x.map (·.toNat), 0, r) := by
  unfold pTake
  have := pMost_be 1 x.length most (x ++ r) (by omega) (by omega) (by omega) (by omega) h
  rw [show ((1 : Nat) : Int) = 1 from rfl] at this
  rw [this]
  simp only [pMany_app]
  rfl
theorem cells_bytes (x : List UInt8) : cells_u8 (x.map (·.toNat)) = Lib.byteCells x := by simp [cells_u8, Lib.byteCells]
theorem firstErr_zero : ∀ (l : List OpV), firstErr l = 0 → ∀ o ∈ l, wErr o = 0
  | [], _, _, h => by cases h
  | a :: r, h, o, ho => by
    simp only [firstErr] at h
    by_cases ha : wErr a = 0
    · rw [if_pos ha] at h
      rcases List.mem_cons.1 ho with rfl | ho
      · exact ha
      · exact firstErr_zero r h o ho
    · rw [if_neg ha] at h; exact absurd h ha
theorem wants_drop (ops : List OpV) (k : Nat) (h : k < ops.length) : wants (ops.drop k) = wBytes ops[k] ++ wants (ops.drop (k + 1)) := by
  unfold wants
  rw [List.drop_eq_getElem_cons h, List.flatMap_cons]
end Go.Proofs.YtmmjpkijnecmcaaDoor
