/-
  Slots: what the document reads is what a parse gives at a place of its parity.
-/
import Derived.Test.YtilfapibfadbfaaDoorSlN
namespace Go.Proofs.YtilfapibfadbfaaDoor
open Go.RowKit Go.Maps

theorem small_val {bs : List UInt8} (hb : bs.length = 64) (h : valOf (bs.take 8) < 9223372036854775808) : (bs.getD 0 0).toNat ≤ 127 := by
  cases bs with
  | nil => simp at hb
  | cons b l =>
    have hl : l.length = 63 := by simpa using hb
    rw [List.take_succ_cons] at h
    have e : valOf (b :: l.take 7) = b.toNat * 256 ^ (l.take 7).length + valOf (l.take 7) := by
      have := valOf_consn (l.take 7) b.toNat
      rw [← this]; simp [valOf]
    have h2 : (l.take 7).length = 7 := by simp; omega
    rw [e, h2] at h
    show b.toNat ≤ 127
    omega
theorem slot_byte8 (n : Nat) (x : List UInt8) : (slotL n x)[8]? = some ((min x.length 31 : Nat) : Int) := by
  unfold slotL headL
  rw [List.append_assoc, List.getElem?_append_right (by simp [intsB, be_length]), show 8 - (intsB (be 8 n)).length = 0 by simp [intsB, be_length]]
  rfl
theorem read_parse {bs : List UInt8} (hb : bs.length = 64) (k : Nat) : readR bs (k : Int) = (parseS bs).filter fun cx => cx.1 % 2 == k := by
  have h8 : valOf ((bs.drop 8).take 1) = (bs.getD 8 0).toNat := by
    rw [List.drop_eq_getElem_cons (by omega), List.take_succ_cons, List.take_zero, valOf_one_lt, List.getD, List.getElem?_eq_getElem (by omega), Option.getD_some]
  unfold readR parseS
  rw [h8]
  by_cases hs : slotL (valOf (bs.take 8)) ((bs.drop 9).take (bs.getD 8 0).toNat) = intsB bs
  · have hb8 : (bs.getD 8 0).toNat ≤ 31 := by
      have h1 := slot_byte8 (valOf (bs.take 8)) ((bs.drop 9).take (bs.getD 8 0).toNat)
      rw [hs] at h1
      have h2 : (intsB bs)[8]? = some ((bs.getD 8 0).toNat : Int) := by
        simp [intsB, List.getD, List.getElem?_eq_getElem (show 8 < bs.length by omega)]
      rw [h2] at h1
      have h3 := Option.some.inj h1
      omega
    by_cases hv : valOf (bs.take 8) < 9223372036854775808
    · have h0 := small_val hb hv
      rw [if_pos (show valOf (bs.take 8) < 9223372036854775808 ∧ (bs.getD 8 0).toNat ≤ 55 ∧ _ from ⟨hv, by omega, hs⟩)]
      by_cases hp : valOf (bs.take 8) % 2 = k
      · rw [if_pos ⟨h0, hb8, by omega, hs⟩, Option.filter_some, if_pos (by simpa using hp)]
      · rw [if_neg (by rintro ⟨_, _, h, _⟩; omega), Option.filter_some, if_neg (by simpa using hp)]
    · rw [if_neg (by rintro ⟨h, _⟩; exact hv (valOf_small h (by omega))), if_neg (by rintro ⟨h, _⟩; exact hv h)]
      rfl
  · rw [if_neg (fun h => hs h.2.2.2), if_neg (fun h => hs h.2.2)]
    rfl
end Go.Proofs.YtilfapibfadbfaaDoor
