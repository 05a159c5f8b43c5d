/-
  Several texts in one: ChB, ChE, ChC, Dg.
-/
import Derived.Test.YtmoebkdbnldbdaaGreatDoorM20pw
import Derived.Test.YtmoebkdbnldbdaaGreatDoorM20pj
import Derived.Test.YtmoebkdbnldbdaaGreatDoorM20px
import Derived.Test.YtmoebkdbnldbdaaGreatDoorM20pa
/-
  quorateref03: one, Secret, Step, Run.
-/
namespace Go.Proofs.YtmoebkdbnldbdaaGreatDoor
open Go.RowKit

end Go.Proofs.YtmoebkdbnldbdaaGreatDoor
/-
  quorateref03.Ended.
-/

namespace Go.Proofs.YtmoebkdbnldbdaaGreatDoor
open Go.RowKit

end Go.Proofs.YtmoebkdbnldbdaaGreatDoor
/-
  quorateref03.Run.
-/

namespace Go.Proofs.YtmoebkdbnldbdaaGreatDoor
open Go.RowKit

end Go.Proofs.YtmoebkdbnldbdaaGreatDoor
/-
  A digest's digits: what they are, and that of two digests each has a lesser one.
-/

namespace Go.Proofs.YtmoebkdbnldbdaaGreatDoor
open Go.RowKit

/-- Four digits of a number to the base 4. -/
def dig4 (n : Int) : List Int := [n / 64 % 4, n / 16 % 4, n / 4 % 4, n % 4]
def digsS : List Int → List Int
  | [] => []
  | a :: d => dig4 a ++ digsS d
def sumD (l : List Int) : Int := l.foldl (fun s x => s + (3 - x)) 0
def digitsS (d : List Int) : List Int := digsS d ++ dig4 (sumD (digsS d))

theorem foldl_sum (l : List Int) : ∀ s, l.foldl (fun s x => s + (3 - x)) s = s + sumD l := by
  induction l with
  | nil => intro s; simp [sumD]
  | cons a l ih => intro s; simp only [sumD, List.foldl_cons]; rw [ih, ih (0 + (3 - a))]; omega
theorem sumD_append (a b : List Int) : sumD (a ++ b) = sumD a + sumD b := by
  rw [sumD, List.foldl_append, foldl_sum]; rfl
theorem sumD_dig4 (n : Int) : sumD (dig4 n) = 12 - (n / 64 % 4 + n / 16 % 4 + n / 4 % 4 + n % 4) := by
  simp only [sumD, dig4, List.foldl_cons, List.foldl_nil]; omega
theorem digsS_length (d : List Int) : (digsS d).length = 4 * d.length := by
  induction d with
  | nil => rfl
  | cons a d ih => simp only [digsS, List.length_append, ih, List.length_cons]; show 4 + _ = _; omega
theorem digitsS_length (d : List Int) : (digitsS d).length = 4 * d.length + 4 := by
  rw [digitsS, List.length_append, digsS_length]; rfl
theorem digsS_range (d : List Int) : ∀ z ∈ digsS d, 0 ≤ z ∧ z ≤ 3 := by
  induction d with
  | nil => intro z hz; cases hz
  | cons a d ih =>
    intro z hz
    rcases List.mem_append.1 hz with h | h
    · simp only [dig4, List.mem_cons, List.not_mem_nil, or_false] at h; omega
    · exact ih z h
theorem sumD_range (d : List Int) : 0 ≤ sumD (digsS d) ∧ sumD (digsS d) ≤ 12 * d.length := by
  induction d with
  | nil => simp [digsS, sumD]
  | cons a d ih =>
    rw [digsS, sumD_append, sumD_dig4, List.length_cons]
    have e0 : 0 ≤ a / 64 % 4 ∧ a / 64 % 4 < 4 := by omega
    have e1 : 0 ≤ a / 16 % 4 ∧ a / 16 % 4 < 4 := by omega
    have e2 : 0 ≤ a / 4 % 4 ∧ a / 4 % 4 < 4 := by omega
    have e3 : 0 ≤ a % 4 ∧ a % 4 < 4 := by omega
    generalize a / 64 % 4 = a0 at *
    generalize a / 16 % 4 = a1 at *
    generalize a / 4 % 4 = a2 at *
    generalize a % 4 = a3 at *
    omega
theorem digitsS_range (d : List Int) : ∀ z ∈ digitsS d, 0 ≤ z ∧ z ≤ 3 := by
  intro z hz
  rcases List.mem_append.1 hz with h | h
  · exact digsS_range d z h
  · simp only [dig4, List.mem_cons, List.not_mem_nil, or_false] at h; omega

theorem dig_val (n : Int) (h : 0 ≤ n ∧ n < 256) : n = 64 * (n / 64 % 4) + 16 * (n / 16 % 4) + 4 * (n / 4 % 4) + n % 4 := by omega
theorem dig_eq (a b : Int) (ha : 0 ≤ a ∧ a < 256) (hb : 0 ≤ b ∧ b < 256) (h0 : a / 64 % 4 = b / 64 % 4) (h1 : a / 16 % 4 = b / 16 % 4) (h2 : a / 4 % 4 = b / 4 % 4) (h3 : a % 4 = b % 4) : a = b := by
  rw [dig_val a ha, dig_val b hb, h0, h1, h2, h3]
theorem dig_le (a b : Int) (ha : 0 ≤ a ∧ a < 256) (hb : 0 ≤ b ∧ b < 256) (h0 : b / 64 % 4 ≤ a / 64 % 4) (h1 : b / 16 % 4 ≤ a / 16 % 4) (h2 : b / 4 % 4 ≤ a / 4 % 4) (h3 : b % 4 ≤ a % 4) : b ≤ a := by
  have e1 := dig_val a ha
  have e2 := dig_val b hb
  generalize a / 64 % 4 = a0 at *
  generalize a / 16 % 4 = a1 at *
  generalize a / 4 % 4 = a2 at *
  generalize a % 4 = a3 at *
  generalize b / 64 % 4 = b0 at *
  generalize b / 16 % 4 = b1 at *
  generalize b / 4 % 4 = b2 at *
  generalize b % 4 = b3 at *
  omega

/-- No digit of the first is less: then its sum isn't greater; if the sums are the same, all is. -/
theorem digs_ge : ∀ (d e : List Int), d.length = e.length → (∀ z ∈ d, 0 ≤ z ∧ z < 256) → (∀ z ∈ e, 0 ≤ z ∧ z < 256) → (∀ i, i < 4 * d.length → (digsS e).getD i 0 ≤ (digsS d).getD i 0) →
    sumD (digsS d) ≤ sumD (digsS e) ∧ (sumD (digsS d) = sumD (digsS e) → d = e)
  | [], [], _, _, _, _ => ⟨Int.le_refl _, fun _ => rfl⟩
  | a :: d, b :: e, hl, hd, he, h => by
    have ih := digs_ge d e (by simpa using hl) (fun z hz => hd z (by simp [hz])) (fun z hz => he z (by simp [hz])) (fun i hi => by
      have := h (i + 4) (by simp only [List.length_cons]; omega)
      simpa [digsS, dig4] using this)
    have h0 := h 0 (by simp)
    have h1 := h 1 (by simp only [List.length_cons]; omega)
    have h2 := h 2 (by simp only [List.length_cons]; omega)
    have h3 := h 3 (by simp only [List.length_cons]; omega)
    simp only [digsS, dig4, List.cons_append, List.getD_cons_zero, List.getD_cons_succ] at h0 h1 h2 h3
    have ha := hd a (by simp)
    have hb := he b (by simp)
    rw [digsS, digsS, sumD_append, sumD_append, sumD_dig4, sumD_dig4]
    have hq := dig_eq a b ha hb
    obtain ⟨ih1, ih2⟩ := ih
    clear h hd he ha hb hl
    generalize a / 64 % 4 = a0 at *
    generalize a / 16 % 4 = a1 at *
    generalize a / 4 % 4 = a2 at *
    generalize a % 4 = a3 at *
    generalize b / 64 % 4 = b0 at *
    generalize b / 16 % 4 = b1 at *
    generalize b / 4 % 4 = b2 at *
    generalize b % 4 = b3 at *
    refine ⟨by omega, fun heq => ?_⟩
    have e1 : sumD (digsS d) = sumD (digsS e) := by omega
    rw [hq (by omega) (by omega) (by omega) (by omega), ih2 e1]

theorem no_less (d e : List Int) (hd : d.length = 16) (he : e.length = 16) (rd : ∀ z ∈ d, 0 ≤ z ∧ z < 256) (re : ∀ z ∈ e, 0 ≤ z ∧ z < 256) (h : ∀ i, i < 68 → (digitsS e).getD i 0 ≤ (digitsS d).getD i 0) : d = e := by
  have l1 := digsS_length d
  have l2 := digsS_length e
  rw [hd] at l1
  rw [he] at l2
  have lo : ∀ (l : List Int) (i : Nat), (digsS l).length = 64 → i < 64 → (digitsS l).getD i 0 = (digsS l).getD i 0 := fun l i hl hi => by
    simp [digitsS, List.getD, List.getElem?_append, hl, hi]
  have hi : ∀ (l : List Int) (i : Nat), (digsS l).length = 64 → (digitsS l).getD (64 + i) 0 = (dig4 (sumD (digsS l))).getD i 0 := fun l i hl => by
    simp [digitsS, List.getD, List.getElem?_append, hl]
    rw [if_neg (by omega)]
  have key := digs_ge d e (by omega) rd re (fun i hlt => by
    rw [hd] at hlt
    have := h i (by omega)
    rwa [lo d i l1 (by omega), lo e i l2 (by omega)] at this)
  have c0 := h 64 (by omega)
  have c1 := h 65 (by omega)
  have c2 := h 66 (by omega)
  have c3 := h 67 (by omega)
  rw [show 64 = 64 + 0 from rfl, hi d 0 l1, hi e 0 l2] at c0
  rw [show 65 = 64 + 1 from rfl, hi d 1 l1, hi e 1 l2] at c1
  rw [show 66 = 64 + 2 from rfl, hi d 2 l1, hi e 2 l2] at c2
  rw [show 67 = 64 + 3 from rfl, hi d 3 l1, hi e 3 l2] at c3
  simp only [dig4, List.getD_cons_zero, List.getD_cons_succ] at c0 c1 c2 c3
  have r1 := sumD_range d
  have r2 := sumD_range e
  rw [hd] at r1
  rw [he] at r2
  have := dig_le _ _ (by omega) (by omega) c0 c1 c2 c3
  exact key.2 (by omega)
end Go.Proofs.YtmoebkdbnldbdaaGreatDoor
