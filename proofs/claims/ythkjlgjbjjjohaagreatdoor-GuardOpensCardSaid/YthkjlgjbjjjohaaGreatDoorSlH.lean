/-
  Slots (pure): what a slot's bytes say; rows of a disk; the chapter's example.
-/
import Derived.Test.YthkjlgjbjjjohaaGreatDoorSlG
import Derived.Test.YthkjlgjbjjjohaaGreatDoorErrA
import Derived.Laws.BytesArg
import Derived.Lib.SlBytesConst
namespace Go.Proofs.YthkjlgjbjjjohaaGreatDoor
open Go.RowKit Go.Maps

theorem toString_anyS7 {w : World} {A : Option Addr} {n c : Nat} {l : List UInt8} (hb : BytesAt w A l) (hn : l.length = n) :
    (convert 49 9 (.slice A n c)).run Tryz.prog w = .ok (.string ⟨l.toArray⟩) w := by
  subst hn
  rcases A with _ | ad
  · have hl0 : l = [] := by
      rcases l with _ | ⟨x, r⟩
      · rfl
      · obtain ⟨_, h, _⟩ := hb (by simp)
        cases h
    subst hl0
    exact run_convert_bytes_nil w 49 5 Tryz.underlying49 Tryz.underlying5 _ _ 9 Tryz.underlying9
  · refine run_convert_bytes_back w 49 9 5 ad c l Tryz.underlying49 Tryz.underlying5 Tryz.underlying9 fun j hj => ?_
    obtain ⟨ad', h, hc⟩ := hb (by intro e; subst e; simp at hj)
    injection h with h
    subst h
    exact hc j hj
theorem intsB_injS7 : ∀ {a b : List UInt8}, intsB a = intsB b → a = b
  | [], [], _ => rfl
  | [], _ :: _, h => by cases h
  | _ :: _, [], h => by cases h
  | x :: a, y :: b, h => by
    have h : ((x.toNat : Nat) : Int) :: intsB a = ((y.toNat : Nat) : Int) :: intsB b := h
    injection h with h1 h2
    rw [intsB_injS7 h2, UInt8.toNat_inj.1 (show x.toNat = y.toNat by omega)]
theorem valOf_consn : ∀ (l : List UInt8) (n : Nat), l.foldl (fun n c => n * 256 + c.toNat) n = n * 256 ^ l.length + valOf l := by
  have key : ∀ (l : List UInt8) (n : Nat), l.foldl (fun n c => n * 256 + c.toNat) n = n * 256 ^ l.length + l.foldl (fun n c => n * 256 + c.toNat) 0 := by
    intro l
    induction l with
    | nil => intro n; simp
    | cons d l ih =>
      intro n
      rw [List.foldl_cons, ih, List.foldl_cons, ih (0 * 256 + d.toNat), List.length_cons, Nat.pow_succ]
      rw [Nat.add_mul, Nat.mul_assoc, Nat.mul_comm 256]
      simp; omega
  exact fun l n => key l n
theorem valOf_beS7 : ∀ k n, valOf (be k n) = n % 256 ^ k
  | 0, n => by simp [be, valOf, Nat.mod_one]
  | k + 1, n => by
    have h1 : valOf (be (k + 1) n) = (n / 256 ^ k % 256) * 256 ^ k + valOf (be k n) := by
      rw [be, valOf, List.foldl_cons, valOf_consn, be_length]
      simp
    rw [h1, valOf_beS7 k n, Nat.pow_succ, Nat.mod_mul, Nat.mul_comm (256 ^ k), Nat.add_comm]
def slotB (n : Nat) (x : List UInt8) : List UInt8 := bytesL (slotL n x)
theorem slotB_ints (n : Nat) (x : List UInt8) : intsB (slotB n x) = slotL n x := ints_bytes (slotL_byte n x)
theorem slotB_len (n : Nat) (x : List UInt8) : (slotB n x).length = 64 := by rw [slotB, bytesL, List.length_map, slotL_len]
theorem ints_take (l : List UInt8) (k : Nat) : intsB (l.take k) = (intsB l).take k := by simp [intsB, List.map_take]
theorem ints_drop (l : List UInt8) (k : Nat) : intsB (l.drop k) = (intsB l).drop k := by simp [intsB, List.map_drop]
/-- A slot says what it was made of. -/
theorem parse_slot {n : Nat} {x : List UInt8} (hn : n < 9223372036854775808) (hx : x.length ≤ 31) : parseS (slotB n x) = some (n, x) := by
  have h8 : (slotB n x).take 8 = be 8 n := intsB_injS7 (by
    rw [ints_take, slotB_ints, slotL, headL, List.append_assoc, List.take_append_of_le_length (by rw [intsB_length, be_length]; omega), List.take_of_length_le (by rw [intsB_length, be_length]; omega)])
  have hd8 : (intsB (slotB n x)).drop 8 = ((min x.length 31 : Nat) : Int) :: (intsB (x.take 31) ++ List.replicate (31 - x.length) 0) ++ (ofS 5 [headL n x] ++ List.replicate 8 0) := by
    rw [slotB_ints, slotL, headL, List.append_assoc, List.drop_append, List.drop_of_length_le (by rw [intsB_length, be_length]; omega), intsB_length, be_length]
    rfl
  have h1 : ((slotB n x).drop 8).take 1 = [UInt8.ofNat x.length] := intsB_injS7 (by
    rw [ints_take, ints_drop, hd8]
    have : (UInt8.ofNat x.length).toNat = x.length := by simp; omega
    simp [intsB, this]; omega)
  have hv1 : valOf (((slotB n x).drop 8).take 1) = x.length := by
    rw [h1, valOf]
    simp; omega
  have hx9 : ((slotB n x).drop 9).take x.length = x := intsB_injS7 (by
    rw [ints_take, ints_drop, show 9 = 8 + 1 from rfl, ← List.drop_drop, hd8]
    simp only [List.cons_append, List.drop_succ_cons, List.drop_zero]
    rw [List.take_of_length_le hx, List.append_assoc, List.take_append_of_le_length (by rw [intsB_length]; exact Nat.le_refl _), List.take_of_length_le (by rw [intsB_length]; exact Nat.le_refl _)])
  have hv8 : valOf ((slotB n x).take 8) = n := by rw [h8, valOf_beS7, Nat.mod_eq_of_lt (by omega)]
  rw [parseS, hv8, hv1, hx9, if_pos ⟨hn, by omega, (slotB_ints n x).symm⟩]
def zeroB : List UInt8 := List.replicate 64 0
theorem zeroB_ints : intsB zeroB = zeroR := by kernel_rfl
theorem parse_zero : parseS zeroB = none := by kernel_rfl
end Go.Proofs.YthkjlgjbjjjohaaGreatDoor
