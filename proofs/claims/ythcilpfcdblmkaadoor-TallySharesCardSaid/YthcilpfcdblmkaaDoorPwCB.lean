/-
  Several texts in one: PwC2, PwB2.
-/
import Derived.Test.YthcilpfcdblmkaaDoorPwV
/-
  Places chosen by a test (pure).
-/

namespace Go.Proofs.YthcilpfcdblmkaaDoor
open Go.RowKit

def bitOf (z : Int) (i : Nat) : Bool := z.toNat.testBit i
def chosenS (b : Nat → Bool) (n : Nat) : List Int := ((List.range n).filter b).map Int.ofNat
theorem chosenS_yes {b : Nat → Bool} {k : Nat} (h : b k = true) : chosenS b (k + 1) = chosenS b k ++ [(k : Int)] := by
  simp [chosenS, List.range_succ, h]
theorem chosenS_no {b : Nat → Bool} {k : Nat} (h : b k = false) : chosenS b (k + 1) = chosenS b k := by
  simp [chosenS, List.range_succ, h]
theorem chosenS_length (b : Nat → Bool) (k : Nat) : (chosenS b k).length ≤ k := by
  have := List.length_filter_le b (List.range k)
  simpa [chosenS] using this

end Go.Proofs.YthcilpfcdblmkaaDoor
/-
  What chosen places have, as a sum over the places (pure).
-/

namespace Go.Proofs.YthcilpfcdblmkaaDoor
open Go.RowKit

def pAt (V : List Vd) (k : Nat) : Int := ((V[k]?).map Vd.p).getD 0
def wB (V : List Vd) (b : Nat → Bool) : Nat → Int
  | 0 => 0
  | k + 1 => wB V b k + if b k then pAt V k else 0
theorem wB_chosen (V : List Vd) (b : Nat → Bool) : ∀ k, (powersAt V (chosenS b k)).sum = wB V b k
  | 0 => rfl
  | k + 1 => by
    rw [wB, ← wB_chosen V b k]
    cases h : b k with
    | true => rw [chosenS_yes h, powersAt, List.map_append, List.sum_append]; simp [powersAt, pAt]
    | false => rw [chosenS_no h]; simp
theorem wB_congr (V : List Vd) {b b' : Nat → Bool} : ∀ k, (∀ i, i < k → b i = b' i) → wB V b k = wB V b' k
  | 0, _ => rfl
  | k + 1, h => by rw [wB, wB, wB_congr V k fun i hi => h i (by omega), h k (by omega)]
theorem wB_all (V : List Vd) : ∀ k, k ≤ V.length → wB V (fun _ => true) k = ((powersOf V).take k).sum
  | 0, _ => rfl
  | k + 1, h => by
    have hk : k < (powersOf V).length := by simp [powersOf]; omega
    rw [wB, wB_all V k (by omega), ← List.take_append_getElem hk, List.sum_append]
    simp [pAt, powersOf, List.getElem?_eq_getElem (show k < V.length by omega)]
theorem wB_total (V : List Vd) : wB V (fun _ => true) V.length = (powersOf V).sum := by
  rw [wB_all V _ (Nat.le_refl _), List.take_of_length_le (by simp [powersOf])]
theorem wB_not (V : List Vd) (b : Nat → Bool) : ∀ k, wB V b k + wB V (fun i => !b i) k = wB V (fun _ => true) k
  | 0 => rfl
  | k + 1 => by
    have := wB_not V b k
    simp only [wB]
    rcases Bool.eq_false_or_eq_true (b k) with hb | hb <;> simp [hb] <;> omega
theorem wB_and (V : List Vd) (b c : Nat → Bool) : ∀ k, wB V (fun i => b i && c i) k + wB V (fun i => b i || c i) k = wB V b k + wB V c k
  | 0 => rfl
  | k + 1 => by
    have := wB_and V b c k
    simp only [wB]
    rcases Bool.eq_false_or_eq_true (b k) with hb | hb <;> rcases Bool.eq_false_or_eq_true (c k) with hc | hc <;> simp [hb, hc] <;> omega
theorem pAt_right {V : List Vd} (hr : rightS V = true) (k : Nat) (hk : k < V.length) : 1 ≤ pAt V k := by
  have := ((rightS_iff V).1 hr).2 k hk
  simp only [pAt, List.getElem?_eq_getElem hk, Option.map_some, Option.getD_some]
  exact this.1
theorem wB_mono {V : List Vd} (hr : rightS V = true) {b c : Nat → Bool} : ∀ k, k ≤ V.length → (∀ i, i < k → b i = true → c i = true) → wB V b k ≤ wB V c k
  | 0, _, _ => by simp [wB]
  | k + 1, hk, h => by
    have ih := wB_mono hr k (by omega) fun i hi => h i (by omega)
    have hp := pAt_right hr k (by omega)
    have hkk := h k (by omega)
    simp only [wB]
    cases hb : b k <;> cases hc : c k <;> simp [hb, hc] at hkk ⊢ <;> omega

theorem chosenS_mem {b : Nat → Bool} {n : Nat} {i : Int} (h : i ∈ chosenS b n) : 0 ≤ i ∧ i < n := by
  simp only [chosenS, List.mem_map, List.mem_filter, List.mem_range] at h
  obtain ⟨k, ⟨hk, _⟩, rfl⟩ := h
  exact ⟨by simp, by simpa using hk⟩
theorem chosenS_nodup (b : Nat → Bool) : ∀ n, (chosenS b n).Nodup
  | 0 => by simp [chosenS]
  | n + 1 => by
    cases h : b n with
    | false => rw [chosenS_no h]; exact chosenS_nodup b n
    | true =>
      rw [chosenS_yes h, List.nodup_append]
      refine ⟨chosenS_nodup b n, by simp, fun a ha c hc => ?_⟩
      have := chosenS_mem ha
      obtain rfl : c = (n : Int) := by simpa using hc
      omega
theorem chosen_code {V : List Vd} (hr : rightS V = true) (b : Nat → Bool) : sumCode V (chosenS b V.length) = 0 := by
  have h1 : inR V (chosenS b V.length) = true := inR_iff.2 fun i hi => chosenS_mem hi
  simp [sumCode, hr, h1, chosenS_nodup]
theorem chosen_val {V : List Vd} (hr : rightS V = true) (b : Nat → Bool) : sumVal V (chosenS b V.length) = wB V b V.length := by
  rw [sumVal, if_pos (chosen_code hr b), wB_chosen]
theorem chosen_enough {V : List Vd} (hr : rightS V = true) (b : Nat → Bool) : enoughS V (chosenS b V.length) = decide (2 * (powersOf V).sum < 3 * wB V b V.length) := by
  have := total_bound hr
  rw [enoughS, chosen_code hr, chosen_val hr, quorumS, if_pos hr]
  by_cases h : 2 * (powersOf V).sum < 3 * wB V b V.length
  · rw [decide_eq_true h]; simp; omega
  · rw [decide_eq_false h]; simp; omega
theorem chosen_few {V : List Vd} (hr : rightS V = true) (b : Nat → Bool) : fewS V (chosenS b V.length) = decide (3 * wB V b V.length < (powersOf V).sum) := by
  rw [fewS, chosen_code hr, chosen_val hr, totalS, if_pos hr]; simp

end Go.Proofs.YthcilpfcdblmkaaDoor
