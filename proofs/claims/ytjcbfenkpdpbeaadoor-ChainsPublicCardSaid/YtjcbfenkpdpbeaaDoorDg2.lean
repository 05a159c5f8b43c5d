/-
  chains.base4, chains.Digits.
-/
import Derived.Test.YtjcbfenkpdpbeaaDoorAv
import Derived.Test.YtjcbfenkpdpbeaaDoorDg
import Derived.OwnWalk
import Derived.Laws.MakeOwn
import Derived.Laws.OwnMore
namespace Go.Proofs.YtjcbfenkpdpbeaaDoor
open Go.RowKit

theorem i64_and3 (n : Int) : bits .and .i64 n 3 = n % 4 := by
  have h3 : (BitVec.ofInt 64 3).toNat = 2 ^ 2 - 1 := by decide
  have key : (BitVec.ofInt 64 n &&& BitVec.ofInt 64 3).toNat = (n % ((2 ^ 64 : Nat) : Int)).toNat % 2 ^ 2 := by
    rw [BitVec.toNat_and, BitVec.toNat_ofInt, h3, Nat.and_two_pow_sub_one_eq_mod]
  show IntKind.i64.wrap ((BitVec.ofInt 64 n &&& BitVec.ofInt 64 3).toNat : Nat) = n % 4
  rw [key, IntKind.wrap_i64]
  omega
def four (n : Int) (k : Nat) : Array Value := arrV .i64 ((dig4 n).take k ++ List.replicate (4 - k) 0)

theorem dig4_length (n : Int) : (dig4 n).length = 4 := rfl
theorem four_size (n : Int) (k : Nat) (h : k ≤ 4) : (four n k).size = 4 := by
  rw [four, arr_size, List.length_append, List.length_take, List.length_replicate, dig4_length]; omega
theorem four_all (n : Int) : four n 4 = arrV .i64 (dig4 n) := by
  rw [four, List.take_of_length_le (by rw [dig4_length]; omega)]; simp

set_option maxRecDepth 100000 in
set_option maxHeartbeats 1000000 in
theorem base4_is (w : World) (n : Int) (hn : 0 ≤ n ∧ n < 1000) : Calls Tryd.prog 37 #[.int .i64 n] w fun e w' => e = .returned (.agg (arrV .i64 (dig4 n))) ∧ w.grownBy w' none := by
  have HN := Lib.hid hn
  clear hn
  go_enter Tryd.func37, Tryd.ntmps37
  go_wp2_with fail
  have hB1 := Blk.new (w.alloc (.cells (four n 0) 70)) 70 (four n 0)
  have hB0 := (Blk.new w 70 (four n 0)).alloc (.cells (four n 0) 70)
  have hk := grown_trans (World.grownBy_alloc w (.cells (four n 0) 70) none) (World.grownBy_alloc _ (.cells (four n 0) 70) none)
  rw [World.size_alloc] at hB1
  rw [show (#[Value.int .i64 0, .int .i64 0, .int .i64 0, .int .i64 0] : Array Value) = four n 0 by simp [four, arrV, dig4]]
  generalize (w.alloc (.cells (four n 0) 70)).alloc (.cells (four n 0) 70) = w1 at *
  go_loopw [5] (fun i wr => ∃ k : Nat, k ≤ 4 ∧ i = .int .i64 (k : Int) ∧ Blk wr (w.heap.size + 1) 70 (four n k) ∧ Blk wr w.heap.size 70 (four n 0) ∧ w.grownBy wr none) (fun i _ => 4 - (intOf i).toNat)
  case atStart => exact ⟨0, by omega, rfl, hB1, hB0, hk⟩
  case round =>
    obtain ⟨k, hk, hi, hB, hB0, hK⟩ := hrel
    subst hi
    by_cases hlt : k < 4
    · have c0 := hB.cell k
      have f0 := hB.frozen k
      have HB := Lib.hid hB
      have HB0 := Lib.hid hB0
      have HK := Lib.hid hK
      have hcases : k = 0 ∨ k = 1 ∨ k = 2 ∨ k = 3 := by omega
      clear hB hB0 hK hlt hk
      rcases hcases with rfl | rfl | rfl | rfl
      · simp [four, arrV, dig4] at c0
        have hv := i64_and3 (n / 64)
        go_wp2_with fail
        go_roundw
        case rel =>
          refine ⟨1, by omega, rfl, ?_, HB0.out.far (p := ⟨w.heap.size + 1, 0, none⟩) (by dsimp only; omega) _, grown_far HK.out (p := ⟨w.heap.size + 1, 0, none⟩) (.inl (by dsimp only; omega)) _⟩
          have := HB.out.set 0 (.int .i64 (n / 64 % 4))
          rw [show (four n 0).setIfInBounds 0 (.int .i64 (n / 64 % 4)) = four n 1 by simp [four, arrV, dig4]] at this
          first | exact this | (rw [hv]; exact this)
        case measure => simp [intOf]
      · simp [four, arrV, dig4] at c0
        have hv := i64_and3 (n / 16)
        go_wp2_with fail
        go_roundw
        case rel =>
          refine ⟨2, by omega, rfl, ?_, HB0.out.far (p := ⟨w.heap.size + 1, 1, none⟩) (by dsimp only; omega) _, grown_far HK.out (p := ⟨w.heap.size + 1, 1, none⟩) (.inl (by dsimp only; omega)) _⟩
          have := HB.out.set 1 (.int .i64 (n / 16 % 4))
          rw [show (four n 1).setIfInBounds 1 (.int .i64 (n / 16 % 4)) = four n 2 by simp [four, arrV, dig4]] at this
          first | exact this | (rw [hv]; exact this)
        case measure => simp [intOf]
      · simp [four, arrV, dig4] at c0
        have hv := i64_and3 (n / 4)
        go_wp2_with fail
        go_roundw
        case rel =>
          refine ⟨3, by omega, rfl, ?_, HB0.out.far (p := ⟨w.heap.size + 1, 2, none⟩) (by dsimp only; omega) _, grown_far HK.out (p := ⟨w.heap.size + 1, 2, none⟩) (.inl (by dsimp only; omega)) _⟩
          have := HB.out.set 2 (.int .i64 (n / 4 % 4))
          rw [show (four n 2).setIfInBounds 2 (.int .i64 (n / 4 % 4)) = four n 3 by simp [four, arrV, dig4]] at this
          first | exact this | (rw [hv]; exact this)
        case measure => simp [intOf]
      · simp [four, arrV, dig4] at c0
        have hv := i64_and3 (n)
        go_wp2_with fail
        go_roundw
        case rel =>
          refine ⟨4, by omega, rfl, ?_, HB0.out.far (p := ⟨w.heap.size + 1, 3, none⟩) (by dsimp only; omega) _, grown_far HK.out (p := ⟨w.heap.size + 1, 3, none⟩) (.inl (by dsimp only; omega)) _⟩
          have := HB.out.set 3 (.int .i64 (n % 4))
          rw [show (four n 3).setIfInBounds 3 (.int .i64 (n % 4)) = four n 4 by simp [four, arrV, dig4]] at this
          first | exact this | (rw [hv]; exact this)
        case measure => simp [intOf]
    · obtain rfl : k = 4 := by omega
      obtain ⟨cs, hcs⟩ : ∃ cs, cs = four n 4 := ⟨_, rfl⟩
      rw [← hcs] at hB
      have hsz : cs.size = 4 := by rw [hcs]; exact four_size n 4 (Nat.le_refl _)
      have HI := Lib.hid (show (Tryd.prog.info? 70).map (·.size) = some cs.size by rw [hsz]; kernel_rfl)
      have HS := Lib.hid (And.intro hsz (And.intro (show (cs.all fun x => x.oneCell') = true by rw [hcs, four_all]; simp [arrV, Value.oneCell']) hcs))
      have HB := Lib.hid hB
      have HB0 := Lib.hid hB0
      have HK := Lib.hid hK
      clear hsz hcs hB hB0 hK hlt hk
      go_wp2_with (first
        | (refine wpList_load_row rfl 70 _ rfl (w.heap.size + 1) rfl 70 cs (0, 0) _ HB.out Tryd.underlying70 rfl HI.out ?_)
        | (refine wpList_store_row rfl 70 _ _ rfl w.heap.size cs rfl rfl 70 _ HB0.out HI.out (by rw [HS.out.1]; exact four_size n 0 (by omega)) HS.out.2.1 ?_))
      refine bodyPost_ret (results_cell rfl _ _ _ ⟨w.heap.size, 0, none⟩ (.agg cs) rfl (run_loadVar_row _ w.heap.size 70 70 cs (0, 0) _ (HB0.out.row cs) Tryd.underlying70 rfl HI.out)) rfl ?_
      exact ⟨by rw [HS.out.2.2, four_all], grown_row HK.out (.inl (Nat.le_refl _)) cs⟩
end Go.Proofs.YtjcbfenkpdpbeaaDoor
