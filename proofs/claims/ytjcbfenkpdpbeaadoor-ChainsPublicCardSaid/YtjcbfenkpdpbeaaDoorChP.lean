/-
  chains.places: the places of a chain, as an iterator.
-/
import Derived.Test.YtjcbfenkpdpbeaaDoorRg
import Derived.Test.YtjcbfenkpdpbeaaDoorCh
namespace Go.Proofs.YtjcbfenkpdpbeaaDoor
open Go.RowKit Go.Shelf

attribute [local go_sem] Oper.semAt_some

def placeAt (lo : Int) (k : Nat) : Int := lo + (k : Int)

set_option maxRecDepth 100000 in
set_option maxHeartbeats 2000000 in
theorem places1_in (m l B1 B2 : Nat) (Kp : World → World → Prop) (fr to lo hi : Int) (n : Nat) (hlo : (¬ 0 ≤ fr ∧ lo = 0) ∨ (0 ≤ fr ∧ lo = fr)) (hhi : (to ≤ 3 ∧ hi = to) ∨ (3 < to ∧ hi = 3)) (hn : n = (hi - lo).toNat) (J Jx : List Int → World → Prop) (hm : 1 ≤ m) (hKc : ∀ A B : World, Kp A B → B.cell? ⟨B2, 0, none⟩ = A.cell? ⟨B2, 0, none⟩)
    (hY : ∀ pre x W, J pre W → pre.length < n → YieldAt Fence.wide (m - 1) Tryd.prog l #[.int .i64 x] W fun e W' =>
      (e = .returned (.bool true) ∧ J (pre ++ [x]) W' ∧ Kp W W') ∨ (e = .returned (.bool false) ∧ Jx (pre ++ [x]) W'))
    (W : World) (h1 : W.cell? ⟨B1, 0, none⟩ = some (.int .i64 fr)) (h2 : W.cell? ⟨B2, 0, none⟩ = some (.int .i64 to)) (h0 : J [] W) :
    CallsIn Fence.wide m Tryd.prog 38 #[.func (.yield l) #[] #[], .pointer (some ⟨B1, 0, none⟩), .pointer (some ⟨B2, 0, none⟩)] W fun e W' => (∃ v, e = .returned v) ∧
      ((∃ ys, ys = upto (placeAt lo) n ∧ J ys W') ∨ (∃ pre, (∃ k, k ≤ n ∧ pre = upto (placeAt lo) k) ∧ Jx pre W')) := by
  have HN := Lib.hid hn
  have J0 := Lib.hid h0
  have HH := Lib.hid hhi
  clear hn h0 hhi
  rcases hlo with ⟨hf, rfl⟩ | ⟨hf, rfl⟩
  all_goals
    refine callsIn_of_wp Tryd.func38 rfl trivial ?_ rfl
    simp only [Tryd.ntmps38, List.size_toArray, List.length_cons, List.length_nil, Nat.reduceAdd, Nat.reduceSub, Array.replicate_succ, Array.replicate_zero, List.push_toArray, List.append_toArray, List.nil_append, List.cons_append]
    gi_wp2
  · gi_loopw [4] (fun i wr => ∃ k : Nat, k ≤ n ∧ i = .int .i64 (0 + (k : Int)) ∧ J (upto (placeAt 0) k) wr ∧ wr.cell? ⟨B2, 0, none⟩ = some (.int .i64 to)) (fun i _ => (4 - intOf i).toNat)
    case atStart => exact ⟨0, Nat.zero_le _, by simp, J0.out, h2⟩
    case round =>
      obtain ⟨k, hk, hi', hJs, h2'⟩ := hrel
      obtain ⟨I, hI⟩ : ∃ I : Int, I = 0 + (k : Int) := ⟨_, rfl⟩
      rw [← hI] at hi'
      subst hi'
      clear h2
      by_cases h3 : to ≤ 3
      · have hhi : hi = to := by have := HH.out; omega
        have HHI := Lib.hid hhi
        clear hhi
        by_cases hlt : k < n
        · have d1 : decide (I < to) = true := by have := HN.out; have := HHI.out; simp; omega
          obtain ⟨fn, tmps, assign, body, hy, hR⟩ := hY _ (placeAt 0 k) wr hJs (by rw [upto_length]; exact hlt)
          dsimp only [placeAt] at hy
          rw [← hI] at hy
          have hI3 : 0 ≤ I ∧ I < 3 := by have := HN.out; have := HHI.out; omega
          have HI := Lib.hid (And.intro hI hlt)
          clear hI hlt hk hJs hY
          gi_wp2
          refine hR.mono ?_
          rintro e W3 (⟨rfl, hJ3, hk3⟩ | ⟨rfl, hJx3⟩)
          · gi_wp2
            go_roundw
            case rel => obtain ⟨hI, hlt⟩ := HI.out; exact ⟨k + 1, by omega, by rw [hI]; (first | (congr 1; omega) | congr 1), by rw [upto_succ]; exact hJ3, (hKc _ _ hk3).trans h2'⟩
            case measure => simp only [intOf]; omega
          · gi_wp2
            refine bodyPost_ret (results_none rfl _ _ _) rfl ?_
            exact ⟨⟨_, rfl⟩, .inr ⟨_, ⟨k + 1, by have := HI.out; omega, (upto_succ _ _).symm⟩, hJx3⟩⟩
        · have d1 : decide (I < to) = false := by have := HN.out; have := HHI.out; simp; omega
          obtain rfl : k = n := by omega
          have HJ := Lib.hid hJs
          clear hI hlt hk hJs hY
          gi_wp2
          go_end0
          first | exact ⟨⟨_, rfl⟩, .inl ⟨_, rfl, HJ.out⟩⟩ | exact ⟨⟨_, rfl⟩, .inl HJ.out⟩
      · have h4 : 3 < to := by omega
        have hhi : hi = 3 := by have := HH.out; omega
        have HHI := Lib.hid hhi
        clear hhi
        by_cases hlt : k < n
        · have d1 : decide (I < 3) = true := by have := HN.out; have := HHI.out; simp; omega
          obtain ⟨fn, tmps, assign, body, hy, hR⟩ := hY _ (placeAt 0 k) wr hJs (by rw [upto_length]; exact hlt)
          dsimp only [placeAt] at hy
          rw [← hI] at hy
          have hI3 : 0 ≤ I ∧ I < 3 := by have := HN.out; have := HHI.out; omega
          have HI := Lib.hid (And.intro hI hlt)
          clear hI hlt hk hJs hY
          gi_wp2
          refine hR.mono ?_
          rintro e W3 (⟨rfl, hJ3, hk3⟩ | ⟨rfl, hJx3⟩)
          · gi_wp2
            go_roundw
            case rel => obtain ⟨hI, hlt⟩ := HI.out; exact ⟨k + 1, by omega, by rw [hI]; (first | (congr 1; omega) | congr 1), by rw [upto_succ]; exact hJ3, (hKc _ _ hk3).trans h2'⟩
            case measure => simp only [intOf]; omega
          · gi_wp2
            refine bodyPost_ret (results_none rfl _ _ _) rfl ?_
            exact ⟨⟨_, rfl⟩, .inr ⟨_, ⟨k + 1, by have := HI.out; omega, (upto_succ _ _).symm⟩, hJx3⟩⟩
        · have d1 : decide (I < 3) = false := by have := HN.out; have := HHI.out; simp; omega
          obtain rfl : k = n := by omega
          have HJ := Lib.hid hJs
          clear hI hlt hk hJs hY
          gi_wp2
          go_end0
          first | exact ⟨⟨_, rfl⟩, .inl ⟨_, rfl, HJ.out⟩⟩ | exact ⟨⟨_, rfl⟩, .inl HJ.out⟩
  · gi_loopw [4] (fun i wr => ∃ k : Nat, k ≤ n ∧ i = .int .i64 (lo + (k : Int)) ∧ J (upto (placeAt lo) k) wr ∧ wr.cell? ⟨B2, 0, none⟩ = some (.int .i64 to)) (fun i _ => (4 - intOf i).toNat)
    case atStart => exact ⟨0, Nat.zero_le _, by simp, J0.out, h2⟩
    case round =>
      obtain ⟨k, hk, hi', hJs, h2'⟩ := hrel
      obtain ⟨I, hI⟩ : ∃ I : Int, I = lo + (k : Int) := ⟨_, rfl⟩
      rw [← hI] at hi'
      subst hi'
      clear h2
      by_cases h3 : to ≤ 3
      · have hhi : hi = to := by have := HH.out; omega
        have HHI := Lib.hid hhi
        clear hhi
        by_cases hlt : k < n
        · have d1 : decide (I < to) = true := by have := HN.out; have := HHI.out; simp; omega
          obtain ⟨fn, tmps, assign, body, hy, hR⟩ := hY _ (placeAt lo k) wr hJs (by rw [upto_length]; exact hlt)
          dsimp only [placeAt] at hy
          rw [← hI] at hy
          have hI3 : 0 ≤ I ∧ I < 3 := by have := HN.out; have := HHI.out; omega
          have HI := Lib.hid (And.intro hI hlt)
          clear hI hlt hk hJs hY
          gi_wp2
          refine hR.mono ?_
          rintro e W3 (⟨rfl, hJ3, hk3⟩ | ⟨rfl, hJx3⟩)
          · gi_wp2
            go_roundw
            case rel => obtain ⟨hI, hlt⟩ := HI.out; exact ⟨k + 1, by omega, by rw [hI]; (first | (congr 1; omega) | congr 1), by rw [upto_succ]; exact hJ3, (hKc _ _ hk3).trans h2'⟩
            case measure => simp only [intOf]; omega
          · gi_wp2
            refine bodyPost_ret (results_none rfl _ _ _) rfl ?_
            exact ⟨⟨_, rfl⟩, .inr ⟨_, ⟨k + 1, by have := HI.out; omega, (upto_succ _ _).symm⟩, hJx3⟩⟩
        · have d1 : decide (I < to) = false := by have := HN.out; have := HHI.out; simp; omega
          obtain rfl : k = n := by omega
          have HJ := Lib.hid hJs
          clear hI hlt hk hJs hY
          gi_wp2
          go_end0
          first | exact ⟨⟨_, rfl⟩, .inl ⟨_, rfl, HJ.out⟩⟩ | exact ⟨⟨_, rfl⟩, .inl HJ.out⟩
      · have h4 : 3 < to := by omega
        have hhi : hi = 3 := by have := HH.out; omega
        have HHI := Lib.hid hhi
        clear hhi
        by_cases hlt : k < n
        · have d1 : decide (I < 3) = true := by have := HN.out; have := HHI.out; simp; omega
          obtain ⟨fn, tmps, assign, body, hy, hR⟩ := hY _ (placeAt lo k) wr hJs (by rw [upto_length]; exact hlt)
          dsimp only [placeAt] at hy
          rw [← hI] at hy
          have hI3 : 0 ≤ I ∧ I < 3 := by have := HN.out; have := HHI.out; omega
          have HI := Lib.hid (And.intro hI hlt)
          clear hI hlt hk hJs hY
          gi_wp2
          refine hR.mono ?_
          rintro e W3 (⟨rfl, hJ3, hk3⟩ | ⟨rfl, hJx3⟩)
          · gi_wp2
            go_roundw
            case rel => obtain ⟨hI, hlt⟩ := HI.out; exact ⟨k + 1, by omega, by rw [hI]; (first | (congr 1; omega) | congr 1), by rw [upto_succ]; exact hJ3, (hKc _ _ hk3).trans h2'⟩
            case measure => simp only [intOf]; omega
          · gi_wp2
            refine bodyPost_ret (results_none rfl _ _ _) rfl ?_
            exact ⟨⟨_, rfl⟩, .inr ⟨_, ⟨k + 1, by have := HI.out; omega, (upto_succ _ _).symm⟩, hJx3⟩⟩
        · have d1 : decide (I < 3) = false := by have := HN.out; have := HHI.out; simp; omega
          obtain rfl : k = n := by omega
          have HJ := Lib.hid hJs
          clear hI hlt hk hJs hY
          gi_wp2
          go_end0
          first | exact ⟨⟨_, rfl⟩, .inl ⟨_, rfl, HJ.out⟩⟩ | exact ⟨⟨_, rfl⟩, .inl HJ.out⟩
end Go.Proofs.YtjcbfenkpdpbeaaDoor
