/-
  PaceWaits: the walk.
-/
import Derived.Test.YtfpjocinbnipgaaDoorPaRises
namespace Go.Proofs.YtfpjocinbnipgaaDoor
open Go.RowKit

theorem wait_next (k W : Nat) (hW : waitOf (k : Int) = (W : Int)) : ∃ V : Nat, waitOf ((k : Int) + 1) = (V : Int) ∧ W ≤ V ∧ V ≤ 2 * W ∧ V ≤ 16 ∧ 2 ≤ V := by
  have h : k = 0 ∨ k = 1 ∨ k = 2 ∨ 3 ≤ k := by omega
  rcases h with rfl | rfl | rfl | h
  · have : W = 2 := by have : waitOf ((0 : Nat) : Int) = 2 := rfl; omega
    exact ⟨4, rfl, by omega, by omega, by omega, by omega⟩
  · have : W = 4 := by have : waitOf ((1 : Nat) : Int) = 4 := rfl; omega
    exact ⟨8, rfl, by omega, by omega, by omega, by omega⟩
  · have : W = 8 := by have : waitOf ((2 : Nat) : Int) = 8 := rfl; omega
    exact ⟨16, rfl, by omega, by omega, by omega, by omega⟩
  · have e1 : waitOf (k : Int) = 16 := by unfold waitOf; rw [if_neg (by omega), if_neg (by omega), if_neg (by omega)]
    have e2 : waitOf ((k : Int) + 1) = 16 := by unfold waitOf; rw [if_neg (by omega), if_neg (by omega), if_neg (by omega)]
    exact ⟨16, e2, by omega, by omega, by omega, by omega⟩
section
variable (w : World) (B g : Nat) (r f t x : Int) (a0 a13 : Addr) (h : Pc w g r f t) (he0 : ErrAt w B 1 a0) (he13 : ErrAt w B 0 a13)
include h he0 he13
theorem qc_new (hx0 : 0 ≤ x) (hx1 : r ≤ x) (hx2 : x < 1099511627776) : Calls Tryd.prog 10 #[.pointer (some ⟨g, 0, none⟩), .int .i64 x] w fun e w' => e = .returned (.tuple #[.bool true, .nilIface]) ∧ Pc w' g (x + 1) 0 0 ∧ w.grownBy w' (some g) := by
  have hy : yesB r x = true := by simp [yesB]; omega
  have hev : eV a0 a13 x = .nilIface := by unfold eV; rw [if_neg (by omega), if_neg (by omega)]
  refine (qc_is w B g r f t x a0 a13 h he0 he13).mono fun e w' ⟨h1, h2, h3⟩ => ⟨by rw [h1, hy, hev], ?_, h3⟩
  simpa [endR, endF, endT, hy] using h2
theorem tc_new (hf0 : 0 ≤ f) (hf1 : f ≤ 1000) (hx0 : 0 ≤ x) (hx1 : r ≤ x) (hx2 : x < 1099511627776) : Calls Tryd.prog 12 #[.pointer (some ⟨g, 0, none⟩), .int .i64 x] w fun e w' => e = .returned (.tuple #[.bool true, .nilIface]) ∧ Pc w' g (x + 1) (f + 1) 0 ∧ w.grownBy w' (some g) := by
  have hy : yesB r x = true := by simp [yesB]; omega
  have hev : eV a0 a13 x = .nilIface := by unfold eV; rw [if_neg (by omega), if_neg (by omega)]
  refine (tc_is w B g r f t x a0 a13 h hf0 hf1 he0 he13).mono fun e w' ⟨h1, h2, h3⟩ => ⟨by rw [h1, hy, hev], ?_, h3⟩
  simpa [endR, endF, endT, hy] using h2
end

set_option maxHeartbeats 4000000 in
theorem waits_any (w : World) (B : Nat) (a0 a13 : Addr) (he0 : ErrAt w B 1 a0) (he13 : ErrAt w B 0 a13) (fails round : Int) :
    Calls Tryd.prog 5 #[.int .i64 fails, .int .i64 round] w fun en w' => en = .returned (.bool true) ∧ w.grownBy w' none := by
  obtain ⟨M, hM, hM1⟩ := mod_val fails 12 (by omega) (by omega)
  rw [show ((12 : Nat) : Int) = 12 from rfl] at hM1
  obtain ⟨N5, hN, hN1⟩ := mod_val round 5 (by omega) (by omega)
  rw [show ((5 : Nat) : Int) = 5 from rfl] at hN1
  go_enter Tryd.func5, Tryd.ntmps5
  go_wp2_with fail
  refine (pace_alive _ B a0 a13 he0 he13).mono ?_
  rintro en w1 ⟨rfl, k1⟩
  go_wp2_with fail
  refine (new_ok _ _ (by omega) (by omega)).mono ?_
  rintro en w2 ⟨rfl, rfl⟩
  have hP : Pc (w1.alloc (.cells #[.int .i64 1, .int .i64 0, .int .i64 0] 48)) w1.heap.size 1 0 0 := Blk.new w1 _ _
  have k2 := grown_trans k1 (World.grownBy_alloc w1 (.cells #[.int .i64 1, .int .i64 0, .int .i64 0] 48) none)
  generalize w1.alloc (.cells #[.int .i64 1, .int .i64 0, .int .i64 0] 48) = w2 at *
  have hgg : w.heap.size ≤ w1.heap.size := k1.size
  generalize w1.heap.size = g at *
  go_wp2_with fail
  refine (left_v _ g 1 0 0 2 hP (by omega) (by omega) (by decide)).mono ?_
  rintro en w3 ⟨rfl, k3⟩
  have h3 : Pc w3 g 1 0 0 := Blk.grown hP k3 (by simp)
  have K3 := grown_trans k2 k3
  clear hP k1 k2 k3
  go_wp2_with fail
  try rw [hM1]
  clear hM1
  have HN := Lib.hid hN1
  clear hN1
  go_loopw [7, 31] (fun la i wr => ∃ k W : Nat, k ≤ M ∧ i = .int .i64 (k : Int) ∧ la = .int .i64 (W : Int) ∧ waitOf (k : Int) = (W : Int) ∧ Pc wr g (1 + (k : Int)) (k : Int) 0 ∧ w.grownBy wr none) (fun _ i _ => M - (intOf i).toNat)
  case atStart => exact ⟨0, 2, Nat.zero_le _, rfl, rfl, rfl, h3, K3⟩
  case round =>
    obtain ⟨k, W, hk, rfl, rfl, hW, hp, Kr⟩ := hrel
    obtain ⟨V, hV, hV1, hV2, hV3, hV4⟩ := wait_next k W hW
    have hW2 : 2 ≤ W ∧ W ≤ 16 := by have := waitOf_in (k : Int); omega
    have HW := Lib.hid hW
    have HV := Lib.hid hV
    clear hW hV
    by_cases hlt : k < M
    · have hlt' : decide ((k : Int) < (M : Int)) = true := by simp; omega
      obtain ⟨wo, rfl⟩ : ∃ wo : World, wo = wr := ⟨_, rfl⟩
      go_wp2_with fail
      go_loopw [9, 34, 35, 36, 37, 38, 39, 40] (fun nn _ _ _ _ _ _ _ wr => ∃ T : Nat, T < W ∧ nn = .int .i64 (T : Int) ∧ Pc wr g (1 + (k : Int)) (k : Int) (T : Int) ∧ w.grownBy wr none) (fun nn _ _ _ _ _ _ _ _ => W - (intOf nn).toNat)
      case atStart => exact ⟨0, by omega, rfl, hp, Kr⟩
      case round =>
        obtain ⟨T, hT, rfl, hp2, Kr2⟩ := hrel
        go_wp2_with fail
        refine (tick_is _ g _ _ _ hp2 (by omega) (by have := HW.out; omega)).mono ?_
        rintro en w5 ⟨rfl, h5, k5⟩
        have K5 := (Kept.of_grown (F := fun _ => False) Kr2 (fun _ h => by cases h)).trans (Kept.of_grown (F := upTo (fun _ => False) w.heap.size _) (k5) (fun g' e => by cases e; exact .inr ⟨by omega, hp2.lt⟩)) |>.grownNone (fun _ _ h => h)
        clear hp hp2 k5 Kr Kr2
        by_cases hov : W ≤ T + 1
        · have e1 : tickB (k : Int) (T : Int) = true := by have := HW.out; simp [tickB]; omega
          have e2 : tickT (k : Int) (T : Int) = 0 := by have := HW.out; unfold tickT; rw [if_pos (by omega)]
          rw [e1]
          rw [e2] at h5
          clear e1 e2
          obtain rfl : W = T + 1 := by omega
          have r0 := he0.grown K5 (by simp)
          have r13 := he13.grown K5 (by simp)
          go_wp2_with fail
          refine (tc_new _ B g _ _ _ (1 + (k : Int)) a0 a13 h5 r0 r13 (by omega) (by omega) (by omega) (by omega) (by omega)).mono ?_
          rintro en w6 ⟨rfl, h6, k6⟩
          have K6 := (Kept.of_grown (F := fun _ => False) K5 (fun _ h => by cases h)).trans (Kept.of_grown (F := upTo (fun _ => False) w.heap.size _) (k6) (fun g' e => by cases e; exact .inr ⟨by omega, h5.lt⟩)) |>.grownNone (fun _ _ h => h)
          clear h5 k6 K5 r0 r13
          go_wp2_with fail
          refine (left_v _ g _ _ _ (V : Int) h6 (by omega) (by omega) (by have := HV.out; omega)).mono ?_
          rintro en w7 ⟨rfl, k7⟩
          have h7 := Blk.grown h6 k7 (by simp)
          have K7 := grown_trans K6 k7
          have t1 : ((T : Int) != ((T + 1 : Nat) : Int) - 1) = false := by simp
          have t2 : decide ((V : Int) < ((T + 1 : Nat) : Int)) = false := by simp; omega
          have t3 : decide (2 * ((T + 1 : Nat) : Int) < (V : Int)) = false := by simp; omega
          clear h6 K6 k7
          go_wp2_with fail
          refine (left_v _ g _ _ _ (V : Int) h7 (by omega) (by omega) (by have := HV.out; omega)).mono ?_
          rintro en w8 ⟨rfl, k8⟩
          have h8 : Pc w8 g (1 + ((k + 1 : Nat) : Int)) ((k + 1 : Nat) : Int) 0 := by
            rw [show (1 + ((k + 1 : Nat) : Int)) = 1 + (k : Int) + 1 by omega]
            exact Blk.grown h7 k8 (by simp)
          have K8 := grown_trans K7 k8
          clear h7 K7 k8
          go_wp2_with fail
          go_roundw
          case rel => exact ⟨k + 1, V, by omega, by go_num, rfl, HV.out, h8, K8⟩
          case measure => simp [intOf]; omega
        · have e1 : tickB (k : Int) (T : Int) = false := by have := HW.out; simp [tickB]; omega
          have e2 : tickT (k : Int) (T : Int) = ((T + 1 : Nat) : Int) := by have := HW.out; unfold tickT; rw [if_neg (by omega)]; rfl
          rw [e1]
          rw [e2] at h5
          clear e1 e2
          have t1 : decide ((100 : Int) < (T : Int) + 1) = false := by simp; omega
          go_wp2_with fail
          go_roundw
          case rel => exact ⟨T + 1, by omega, by go_num, h5, K5⟩
          case measure => simp [intOf]; omega
    · have hlt' : decide ((k : Int) < (M : Int)) = false := by simp; omega
      have hN1 := HN.out
      have hw5 : wrap64 (1 + (k : Int) + (N5 : Int)) = 1 + (k : Int) + (N5 : Int) := w64 _ ⟨by omega, by omega⟩
      have hw6 : wrap64 (1 + (k : Int) + (N5 : Int) + 1) = 1 + (k : Int) + (N5 : Int) + 1 := w64 _ ⟨by omega, by omega⟩
      go_wp2_with fail
      refine (round_is _ g _ _ _ hp).mono ?_
      rintro en w5 ⟨rfl, rfl⟩
      have r0 := he0.grown Kr (by simp)
      have r13 := he13.grown Kr (by simp)
      go_wp2_with fail
      refine (qc_new _ B g _ _ _ (1 + (k : Int) + (N5 : Int)) a0 a13 hp r0 r13 (by omega) (by omega) (by omega)).mono ?_
      rintro en w6 ⟨rfl, h6, k6⟩
      have K6 := (Kept.of_grown (F := fun _ => False) Kr (fun _ h => by cases h)).trans (Kept.of_grown (F := upTo (fun _ => False) w.heap.size _) (k6) (fun g' e => by cases e; exact .inr ⟨by omega, hp.lt⟩)) |>.grownNone (fun _ _ h => h)
      clear hp k6 Kr r0 r13
      go_wp2_with fail
      refine (left_v _ g _ 0 0 2 h6 (by omega) (by omega) (by decide)).mono ?_
      rintro en w7 ⟨rfl, k7⟩
      have h7 : Pc w7 g (1 + (k : Int) + (N5 : Int) + 1) 0 0 := Blk.grown h6 k7 (by simp)
      have K7 := grown_trans K6 k7
      clear h6 K6 k7
      go_wp2_with fail
      refine (round_is _ g _ _ _ h7).mono ?_
      rintro en w8 ⟨rfl, rfl⟩
      go_wp2_with fail
      refine (fails_is _ g _ _ _ h7).mono ?_
      rintro en w8 ⟨rfl, rfl⟩
      go_wp2_with fail
      go_ret
      exact ⟨rfl, K7⟩
end Go.Proofs.YtfpjocinbnipgaaDoor
