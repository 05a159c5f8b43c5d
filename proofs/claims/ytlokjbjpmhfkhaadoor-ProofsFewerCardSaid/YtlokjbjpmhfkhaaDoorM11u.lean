/-
  Several texts in one: ChC, Dg, Dg2.
-/
import Derived.Test.YtlokjbjpmhfkhaaDoorM11t
import Derived.Test.YtlokjbjpmhfkhaaDoorM11a
import Derived.OwnWalk
import Derived.Laws.MakeOwn
import Derived.Laws.OwnMore
/-
  quorateref03.Run.
-/

namespace Go.Proofs.YtlokjbjpmhfkhaaDoor
open Go.RowKit

end Go.Proofs.YtlokjbjpmhfkhaaDoor
/-
  A digest's digits: what they are, and that of two digests each has a lesser one.
-/

namespace Go.Proofs.YtlokjbjpmhfkhaaDoor
open Go.RowKit

/-- Four digits of a number to the base 4. -/
def dig4 (n : Int) : List Int := [n / 64 % 4, n / 16 % 4, n / 4 % 4, n % 4]
def digsS : List Int → List Int
  | [] => []
  | a :: d => dig4 a ++ digsS d
def sumD (l : List Int) : Int := l.foldl (fun s x => s + (3 - x)) 0
def digitsS (d : List Int) : List Int := digsS d ++ dig4 (sumD (digsS d))

theorem foldl_sum (l : List Int) : ∀ s, l.foldl (fun s x => s + (3 - x)) s = s + sumD l := by
  induction l with
  | nil => intro s; simp [sumD]
  | cons a l ih => intro s; simp only [sumD, List.foldl_cons]; rw [ih, ih (0 + (3 - a))]; omega
theorem sumD_append (a b : List Int) : sumD (a ++ b) = sumD a + sumD b := by
  rw [sumD, List.foldl_append, foldl_sum]; rfl
theorem sumD_dig4 (n : Int) : sumD (dig4 n) = 12 - (n / 64 % 4 + n / 16 % 4 + n / 4 % 4 + n % 4) := by
  simp only [sumD, dig4, List.foldl_cons, List.foldl_nil]; omega
theorem digsS_length (d : List Int) : (digsS d).length = 4 * d.length := by
  induction d with
  | nil => rfl
  | cons a d ih => simp only [digsS, List.length_append, ih, List.length_cons]; show 4 + _ = _; omega
theorem digitsS_length (d : List Int) : (digitsS d).length = 4 * d.length + 4 := by
  rw [digitsS, List.length_append, digsS_length]; rfl
theorem digsS_range (d : List Int) : ∀ z ∈ digsS d, 0 ≤ z ∧ z ≤ 3 := by
  induction d with
  | nil => intro z hz; cases hz
  | cons a d ih =>
    intro z hz
    rcases List.mem_append.1 hz with h | h
    · simp only [dig4, List.mem_cons, List.not_mem_nil, or_false] at h; omega
    · exact ih z h
theorem sumD_range (d : List Int) : 0 ≤ sumD (digsS d) ∧ sumD (digsS d) ≤ 12 * d.length := by
  induction d with
  | nil => simp [digsS, sumD]
  | cons a d ih =>
    rw [digsS, sumD_append, sumD_dig4, List.length_cons]
    have e0 : 0 ≤ a / 64 % 4 ∧ a / 64 % 4 < 4 := by omega
    have e1 : 0 ≤ a / 16 % 4 ∧ a / 16 % 4 < 4 := by omega
    have e2 : 0 ≤ a / 4 % 4 ∧ a / 4 % 4 < 4 := by omega
    have e3 : 0 ≤ a % 4 ∧ a % 4 < 4 := by omega
    generalize a / 64 % 4 = a0 at *
    generalize a / 16 % 4 = a1 at *
    generalize a / 4 % 4 = a2 at *
    generalize a % 4 = a3 at *
    omega
theorem digitsS_range (d : List Int) : ∀ z ∈ digitsS d, 0 ≤ z ∧ z ≤ 3 := by
  intro z hz
  rcases List.mem_append.1 hz with h | h
  · exact digsS_range d z h
  · simp only [dig4, List.mem_cons, List.not_mem_nil, or_false] at h; omega

theorem dig_val (n : Int) (h : 0 ≤ n ∧ n < 256) : n = 64 * (n / 64 % 4) + 16 * (n / 16 % 4) + 4 * (n / 4 % 4) + n % 4 := by omega
theorem dig_eq (a b : Int) (ha : 0 ≤ a ∧ a < 256) (hb : 0 ≤ b ∧ b < 256) (h0 : a / 64 % 4 = b / 64 % 4) (h1 : a / 16 % 4 = b / 16 % 4) (h2 : a / 4 % 4 = b / 4 % 4) (h3 : a % 4 = b % 4) : a = b := by
  rw [dig_val a ha, dig_val b hb, h0, h1, h2, h3]
theorem dig_le (a b : Int) (ha : 0 ≤ a ∧ a < 256) (hb : 0 ≤ b ∧ b < 256) (h0 : b / 64 % 4 ≤ a / 64 % 4) (h1 : b / 16 % 4 ≤ a / 16 % 4) (h2 : b / 4 % 4 ≤ a / 4 % 4) (h3 : b % 4 ≤ a % 4) : b ≤ a := by
  have e1 := dig_val a ha
  have e2 := dig_val b hb
  generalize a / 64 % 4 = a0 at *
  generalize a / 16 % 4 = a1 at *
  generalize a / 4 % 4 = a2 at *
  generalize a % 4 = a3 at *
  generalize b / 64 % 4 = b0 at *
  generalize b / 16 % 4 = b1 at *
  generalize b / 4 % 4 = b2 at *
  generalize b % 4 = b3 at *
  omega

/-- No digit of the first is less: then its sum isn't greater; if the sums are the same, all is. -/
theorem digs_ge : ∀ (d e : List Int), d.length = e.length → (∀ z ∈ d, 0 ≤ z ∧ z < 256) → (∀ z ∈ e, 0 ≤ z ∧ z < 256) → (∀ i, i < 4 * d.length → (digsS e).getD i 0 ≤ (digsS d).getD i 0) →
    sumD (digsS d) ≤ sumD (digsS e) ∧ (sumD (digsS d) = sumD (digsS e) → d = e)
  | [], [], _, _, _, _ => ⟨Int.le_refl _, fun _ => rfl⟩
  | a :: d, b :: e, hl, hd, he, h => by
    have ih := digs_ge d e (by simpa using hl) (fun z hz => hd z (by simp [hz])) (fun z hz => he z (by simp [hz])) (fun i hi => by
      have := h (i + 4) (by simp only [List.length_cons]; omega)
      simpa [digsS, dig4] using this)
    have h0 := h 0 (by simp)
    have h1 := h 1 (by simp only [List.length_cons]; omega)
    have h2 := h 2 (by simp only [List.length_cons]; omega)
    have h3 := h 3 (by simp only [List.length_cons]; omega)
    simp only [digsS, dig4, List.cons_append, List.getD_cons_zero, List.getD_cons_succ] at h0 h1 h2 h3
    have ha := hd a (by simp)
    have hb := he b (by simp)
    rw [digsS, digsS, sumD_append, sumD_append, sumD_dig4, sumD_dig4]
    have hq := dig_eq a b ha hb
    obtain ⟨ih1, ih2⟩ := ih
    clear h hd he ha hb hl
    generalize a / 64 % 4 = a0 at *
    generalize a / 16 % 4 = a1 at *
    generalize a / 4 % 4 = a2 at *
    generalize a % 4 = a3 at *
    generalize b / 64 % 4 = b0 at *
    generalize b / 16 % 4 = b1 at *
    generalize b / 4 % 4 = b2 at *
    generalize b % 4 = b3 at *
    refine ⟨by omega, fun heq => ?_⟩
    have e1 : sumD (digsS d) = sumD (digsS e) := by omega
    rw [hq (by omega) (by omega) (by omega) (by omega), ih2 e1]

theorem no_less (d e : List Int) (hd : d.length = 16) (he : e.length = 16) (rd : ∀ z ∈ d, 0 ≤ z ∧ z < 256) (re : ∀ z ∈ e, 0 ≤ z ∧ z < 256) (h : ∀ i, i < 68 → (digitsS e).getD i 0 ≤ (digitsS d).getD i 0) : d = e := by
  have l1 := digsS_length d
  have l2 := digsS_length e
  rw [hd] at l1
  rw [he] at l2
  have lo : ∀ (l : List Int) (i : Nat), (digsS l).length = 64 → i < 64 → (digitsS l).getD i 0 = (digsS l).getD i 0 := fun l i hl hi => by
    simp [digitsS, List.getD, List.getElem?_append, hl, hi]
  have hi : ∀ (l : List Int) (i : Nat), (digsS l).length = 64 → (digitsS l).getD (64 + i) 0 = (dig4 (sumD (digsS l))).getD i 0 := fun l i hl => by
    simp [digitsS, List.getD, List.getElem?_append, hl]
    rw [if_neg (by omega)]
  have key := digs_ge d e (by omega) rd re (fun i hlt => by
    rw [hd] at hlt
    have := h i (by omega)
    rwa [lo d i l1 (by omega), lo e i l2 (by omega)] at this)
  have c0 := h 64 (by omega)
  have c1 := h 65 (by omega)
  have c2 := h 66 (by omega)
  have c3 := h 67 (by omega)
  rw [show 64 = 64 + 0 from rfl, hi d 0 l1, hi e 0 l2] at c0
  rw [show 65 = 64 + 1 from rfl, hi d 1 l1, hi e 1 l2] at c1
  rw [show 66 = 64 + 2 from rfl, hi d 2 l1, hi e 2 l2] at c2
  rw [show 67 = 64 + 3 from rfl, hi d 3 l1, hi e 3 l2] at c3
  simp only [dig4, List.getD_cons_zero, List.getD_cons_succ] at c0 c1 c2 c3
  have r1 := sumD_range d
  have r2 := sumD_range e
  rw [hd] at r1
  rw [he] at r2
  have := dig_le _ _ (by omega) (by omega) c0 c1 c2 c3
  exact key.2 (by omega)
end Go.Proofs.YtlokjbjpmhfkhaaDoor
/-
  chains.base4, chains.Digits.
-/
namespace Go.Proofs.YtlokjbjpmhfkhaaDoor
open Go.RowKit

theorem i64_and3 (n : Int) : bits .and .i64 n 3 = n % 4 := by
  have h3 : (BitVec.ofInt 64 3).toNat = 2 ^ 2 - 1 := by decide
  have key : (BitVec.ofInt 64 n &&& BitVec.ofInt 64 3).toNat = (n % ((2 ^ 64 : Nat) : Int)).toNat % 2 ^ 2 := by
    rw [BitVec.toNat_and, BitVec.toNat_ofInt, h3, Nat.and_two_pow_sub_one_eq_mod]
  show IntKind.i64.wrap ((BitVec.ofInt 64 n &&& BitVec.ofInt 64 3).toNat : Nat) = n % 4
  rw [key, IntKind.wrap_i64]
  omega
def four (n : Int) (k : Nat) : Array Value := arrV .i64 ((dig4 n).take k ++ List.replicate (4 - k) 0)

theorem dig4_length (n : Int) : (dig4 n).length = 4 := rfl
theorem four_size (n : Int) (k : Nat) (h : k ≤ 4) : (four n k).size = 4 := by
  rw [four, arr_size, List.length_append, List.length_take, List.length_replicate, dig4_length]; omega
theorem four_all (n : Int) : four n 4 = arrV .i64 (dig4 n) := by
  rw [four, List.take_of_length_le (by rw [dig4_length]; omega)]; simp

set_option maxRecDepth 100000 in
set_option maxHeartbeats 1000000 in
theorem base4_is (w : World) (n : Int) (hn : 0 ≤ n ∧ n < 1000) : Calls Tryd.prog 71 #[.int .i64 n] w fun e w' => e = .returned (.agg (arrV .i64 (dig4 n))) ∧ w.grownBy w' none := by
  have HN := Lib.hid hn
  clear hn
  go_enter Tryd.func71, Tryd.ntmps71
  go_wp2_with fail
  have hB1 := Blk.new (w.alloc (.cells (four n 0) 144)) 144 (four n 0)
  have hB0 := (Blk.new w 144 (four n 0)).alloc (.cells (four n 0) 144)
  have hk := grown_trans (World.grownBy_alloc w (.cells (four n 0) 144) none) (World.grownBy_alloc _ (.cells (four n 0) 144) none)
  rw [World.size_alloc] at hB1
  rw [show (#[Value.int .i64 0, .int .i64 0, .int .i64 0, .int .i64 0] : Array Value) = four n 0 by simp [four, arrV, dig4]]
  generalize (w.alloc (.cells (four n 0) 144)).alloc (.cells (four n 0) 144) = w1 at *
  go_loopw [5] (fun i wr => ∃ k : Nat, k ≤ 4 ∧ i = .int .i64 (k : Int) ∧ Blk wr (w.heap.size + 1) 144 (four n k) ∧ Blk wr w.heap.size 144 (four n 0) ∧ w.grownBy wr none) (fun i _ => 4 - (intOf i).toNat)
  case atStart => exact ⟨0, by omega, rfl, hB1, hB0, hk⟩
  case round =>
    obtain ⟨k, hk, hi, hB, hB0, hK⟩ := hrel
    subst hi
    by_cases hlt : k < 4
    · have c0 := hB.cell k
      have f0 := hB.frozen k
      have HB := Lib.hid hB
      have HB0 := Lib.hid hB0
      have HK := Lib.hid hK
      have hcases : k = 0 ∨ k = 1 ∨ k = 2 ∨ k = 3 := by omega
      clear hB hB0 hK hlt hk
      rcases hcases with rfl | rfl | rfl | rfl
      · simp [four, arrV, dig4] at c0
        have hv := i64_and3 (n / 64)
        go_wp2_with fail
        go_roundw
        case rel =>
          refine ⟨1, by omega, rfl, ?_, HB0.out.far (p := ⟨w.heap.size + 1, 0, none⟩) (by dsimp only; omega) _, grown_far HK.out (p := ⟨w.heap.size + 1, 0, none⟩) (.inl (by dsimp only; omega)) _⟩
          have := HB.out.set 0 (.int .i64 (n / 64 % 4))
          rw [show (four n 0).setIfInBounds 0 (.int .i64 (n / 64 % 4)) = four n 1 by simp [four, arrV, dig4]] at this
          first | exact this | (rw [hv]; exact this)
        case measure => simp [intOf]
      · simp [four, arrV, dig4] at c0
        have hv := i64_and3 (n / 16)
        go_wp2_with fail
        go_roundw
        case rel =>
          refine ⟨2, by omega, rfl, ?_, HB0.out.far (p := ⟨w.heap.size + 1, 1, none⟩) (by dsimp only; omega) _, grown_far HK.out (p := ⟨w.heap.size + 1, 1, none⟩) (.inl (by dsimp only; omega)) _⟩
          have := HB.out.set 1 (.int .i64 (n / 16 % 4))
          rw [show (four n 1).setIfInBounds 1 (.int .i64 (n / 16 % 4)) = four n 2 by simp [four, arrV, dig4]] at this
          first | exact this | (rw [hv]; exact this)
        case measure => simp [intOf]
      · simp [four, arrV, dig4] at c0
        have hv := i64_and3 (n / 4)
        go_wp2_with fail
        go_roundw
        case rel =>
          refine ⟨3, by omega, rfl, ?_, HB0.out.far (p := ⟨w.heap.size + 1, 2, none⟩) (by dsimp only; omega) _, grown_far HK.out (p := ⟨w.heap.size + 1, 2, none⟩) (.inl (by dsimp only; omega)) _⟩
          have := HB.out.set 2 (.int .i64 (n / 4 % 4))
          rw [show (four n 2).setIfInBounds 2 (.int .i64 (n / 4 % 4)) = four n 3 by simp [four, arrV, dig4]] at this
          first | exact this | (rw [hv]; exact this)
        case measure => simp [intOf]
      · simp [four, arrV, dig4] at c0
        have hv := i64_and3 (n)
        go_wp2_with fail
        go_roundw
        case rel =>
          refine ⟨4, by omega, rfl, ?_, HB0.out.far (p := ⟨w.heap.size + 1, 3, none⟩) (by dsimp only; omega) _, grown_far HK.out (p := ⟨w.heap.size + 1, 3, none⟩) (.inl (by dsimp only; omega)) _⟩
          have := HB.out.set 3 (.int .i64 (n % 4))
          rw [show (four n 3).setIfInBounds 3 (.int .i64 (n % 4)) = four n 4 by simp [four, arrV, dig4]] at this
          first | exact this | (rw [hv]; exact this)
        case measure => simp [intOf]
    · obtain rfl : k = 4 := by omega
      obtain ⟨cs, hcs⟩ : ∃ cs, cs = four n 4 := ⟨_, rfl⟩
      rw [← hcs] at hB
      have hsz : cs.size = 4 := by rw [hcs]; exact four_size n 4 (Nat.le_refl _)
      have HI := Lib.hid (show (Tryd.prog.info? 144).map (·.size) = some cs.size by rw [hsz]; kernel_rfl)
      have HS := Lib.hid (And.intro hsz (And.intro (show (cs.all fun x => x.oneCell') = true by rw [hcs, four_all]; simp [arrV, Value.oneCell']) hcs))
      have HB := Lib.hid hB
      have HB0 := Lib.hid hB0
      have HK := Lib.hid hK
      clear hsz hcs hB hB0 hK hlt hk
      go_wp2_with (first
        | (refine wpList_load_row rfl 144 _ rfl (w.heap.size + 1) rfl 144 cs (0, 0) _ HB.out Tryd.underlying144 rfl HI.out ?_)
        | (refine wpList_store_row rfl 144 _ _ rfl w.heap.size cs rfl rfl 144 _ HB0.out HI.out (by rw [HS.out.1]; exact four_size n 0 (by omega)) HS.out.2.1 ?_))
      refine bodyPost_ret (results_cell rfl _ _ _ ⟨w.heap.size, 0, none⟩ (.agg cs) rfl (run_loadVar_row _ w.heap.size 144 144 cs (0, 0) _ (HB0.out.row cs) Tryd.underlying144 rfl HI.out)) rfl ?_
      exact ⟨by rw [HS.out.2.2, four_all], grown_row HK.out (.inl (Nat.le_refl _)) cs⟩
end Go.Proofs.YtlokjbjpmhfkhaaDoor
