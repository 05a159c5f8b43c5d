/-
  PaceOld: the walk.
-/
import Derived.Test.YtfpjocinbnipgaaDoorPa
import Derived.Test.YtfpjocinbnipgaaDoorModVal
import Derived.Test.YtfpjocinbnipgaaDoorArgI
namespace Go.Proofs.YtfpjocinbnipgaaDoor
open Go.RowKit

theorem left_v (w : World) (g : Nat) (r f t v : Int) (h : Pc w g r f t) (h0 : 0 ≤ t) (h1 : t ≤ 16) (hv : waitOf f - t = v) : Calls Tryd.prog 18 #[.pointer (some ⟨g, 0, none⟩)] w fun e w' => e = .returned (.int .i64 v) ∧ w.grownBy w' none :=
  hv ▸ left_is w g r f t h h0 h1
theorem fails_is (w : World) (g : Nat) (r f t : Int) (h : Pc w g r f t) : Calls Tryd.prog 17 #[.pointer (some ⟨g, 0, none⟩)] w fun e w' => e = .returned (.int .i64 f) ∧ w = w' := by
  have c1 := Blk.cell h 1
  simp at c1
  clear h
  go_enter Tryd.func17, Tryd.ntmps17
  go_wp2
  go_ret
  exact ⟨rfl, rfl⟩
section
variable (w : World) (B g : Nat) (r f t x : Int) (a0 a13 : Addr) (h : Pc w g r f t) (he0 : ErrAt w B 1 a0) (he13 : ErrAt w B 0 a13)
include h he0 he13
theorem qc_old (hx0 : 0 ≤ x) (hx1 : x < r) (hx2 : x < 1099511627776) : Calls Tryd.prog 10 #[.pointer (some ⟨g, 0, none⟩), .int .i64 x] w fun e w' => e = .returned (.tuple #[.bool false, .nilIface]) ∧ Pc w' g r f t ∧ w.grownBy w' (some g) := by
  have hy : yesB r x = false := by simp [yesB]; omega
  have hev : eV a0 a13 x = .nilIface := by unfold eV; rw [if_neg (by omega), if_neg (by omega)]
  refine (qc_is w B g r f t x a0 a13 h he0 he13).mono fun e w' ⟨h1, h2, h3⟩ => ⟨by rw [h1, hy, hev], ?_, h3⟩
  simpa [endR, endF, endT, hy] using h2
theorem tc_old (hf0 : 0 ≤ f) (hf1 : f ≤ 1000) (hx0 : 0 ≤ x) (hx1 : x < r) (hx2 : x < 1099511627776) : Calls Tryd.prog 12 #[.pointer (some ⟨g, 0, none⟩), .int .i64 x] w fun e w' => e = .returned (.tuple #[.bool false, .nilIface]) ∧ Pc w' g r f t ∧ w.grownBy w' (some g) := by
  have hy : yesB r x = false := by simp [yesB]; omega
  have hev : eV a0 a13 x = .nilIface := by unfold eV; rw [if_neg (by omega), if_neg (by omega)]
  refine (tc_is w B g r f t x a0 a13 h hf0 hf1 he0 he13).mono fun e w' ⟨h1, h2, h3⟩ => ⟨by rw [h1, hy, hev], ?_, h3⟩
  simpa [endR, endF, endT, hy] using h2
end

set_option maxHeartbeats 4000000 in
theorem old_any (w : World) (B : Nat) (hBw : B ≤ w.heap.size) (a0 a13 : Addr) (he0 : ErrAt w B 1 a0) (he13 : ErrAt w B 0 a13) (round ticks : Int) (A : Option Addr) (n c : Nat) (zs : List Int) (hn : zs.length = n) (hz : IntsAt w A zs) :
    Calls Tryd.prog 6 #[.int .i64 round, .int .i64 ticks, .slice A n c] w fun en w' => en = .returned (.bool true) ∧ w.grownBy w' none := by
  by_cases hbig : 60 < n
  · have d1 : decide ((60 : Int) < (n : Int)) = true := by simp; omega
    clear hn hbig
    go_enter Tryd.func6, Tryd.ntmps6
    go_wp2_with fail
    refine (pace_alive _ B a0 a13 he0 he13).mono ?_
    rintro en w1 ⟨rfl, k1⟩
    go_wp2_with fail
    go_ret
    exact ⟨rfl, k1⟩
  · have d1 : decide ((60 : Int) < (n : Int)) = false := by simp; omega
    have hn100 : n ≤ 60 := by omega
    have Hn := Lib.hid hn
    clear hn hbig
    obtain ⟨R0, hR0, hR1⟩ := mod_val round 100 (by omega) (by omega)
    rw [show ((100 : Nat) : Int) = 100 from rfl] at hR1
    have hR2 : wrap64 (2 + (R0 : Int)) = 2 + (R0 : Int) := w64 _ ⟨by omega, by omega⟩
    go_enter Tryd.func6, Tryd.ntmps6
    go_wp2_with fail
    refine (pace_alive _ B a0 a13 he0 he13).mono ?_
    rintro en w1 ⟨rfl, k1⟩
    go_wp2_with fail
    refine (new_ok _ _ (by omega) (by omega)).mono ?_
    rintro en w2 ⟨rfl, rfl⟩
    obtain ⟨R, hRR⟩ : ∃ R : Int, R = 2 + (R0 : Int) := ⟨_, rfl⟩
    rw [← hRR]
    clear hR1 hR2
    have hP : Pc (w1.alloc (.cells #[.int .i64 R, .int .i64 0, .int .i64 0] 48)) w1.heap.size R 0 0 := Blk.new w1 _ _
    have k2 := grown_trans k1 (World.grownBy_alloc w1 (.cells #[.int .i64 R, .int .i64 0, .int .i64 0] 48) none)
    generalize w1.alloc (.cells #[.int .i64 R, .int .i64 0, .int .i64 0] 48) = w2 at *
    have hgg : w.heap.size ≤ w1.heap.size := k1.size
    generalize w1.heap.size = g at *
    have hR0' : R = 2 + (R0 : Int) := hRR
    clear hRR
    have HR := Lib.hid hR0'
    clear hR0'
    have ht : (ticks.tmod 2 == 0) = true ∨ (ticks.tmod 2 == 0) = false := by cases (ticks.tmod 2 == 0) <;> simp
    rcases ht with ht | ht
    · go_wp2_with fail
      refine (tick_is _ g R 0 0 hP (by omega) (by decide)).mono ?_
      rintro en w4 ⟨rfl, h4, k4⟩
      have e2 : tickT 0 0 = 1 := by decide
      rw [e2] at h4
      clear e2
      have K4 : w.grownBy w4 none := (Kept.of_grown (F := fun _ => False) k2 (fun _ h => by cases h)).trans (Kept.of_grown (F := upTo (fun _ => False) w.heap.size _) k4 (fun g' e => by cases e; exact .inr ⟨by omega, hP.lt⟩)) |>.grownNone (fun _ _ h => h)
      go_wp2_with fail
      refine (left_v _ g _ 0 1 (2 - 1) h4 (by omega) (by omega) rfl).mono ?_
      rintro en w3 ⟨rfl, k3⟩
      have h3 : Pc w3 g R 0 1 := Blk.grown h4 k3 (by simp)
      have K3 : w.grownBy w3 none := grown_trans K4 k3
      go_wp2_with fail
      go_loopw [42] (fun i wr => ∃ k : Nat, k ≤ n ∧ i = .int .i64 (k : Int) ∧ Pc wr g R 0 1 ∧ w.grownBy wr none) (fun i _ => n - (intOf i).toNat)
      case atStart => exact ⟨0, Nat.zero_le _, rfl, h3, K3⟩
      case round =>
        obtain ⟨k, hk, rfl, hp, Kr⟩ := hrel
        by_cases hlt : k < n
        · have hlt' : decide ((k : Int) < (n : Int)) = true := by simp; omega
          have hkz : k < zs.length := by have := Hn.out; omega
          obtain ⟨zb, zo, rfl, hc⟩ := (hz.kept (Kept.of_grown (F := fun _ => False) Kr (fun _ e => by cases e)) (fun _ _ h => h)).get (by intro e; rw [e] at hkz; simp at hkz)
          have hcell := hc k hkz
          clear hc
          generalize zs[k] = x at hcell
          obtain ⟨q, hq1, hq⟩ := mod_val x (2 + R0) (by omega) (by omega)
          rw [show (((2 + R0 : Nat) : Int)) = R by have := HR.out; omega] at hq
          have hRl : 2 ≤ R ∧ R ≤ 1000 := by have := HR.out; omega
          have hqR : (q : Int) < R := by have := HR.out; omega
          have nz : ¬ R = 0 := by omega
          have r0 := he0.grown Kr (by simp)
          have r13 := he13.grown Kr (by simp)
          go_wp2_with fail
          refine (qc_old _ B g R 0 _ q a0 a13 hp r0 r13 (by omega) (by omega) (by omega)).mono ?_
          rintro en w5 ⟨rfl, h5, k5⟩
          have r0 := r0.grown k5 (by intro g' e; cases e; omega)
          have r13 := r13.grown k5 (by intro g' e; cases e; omega)
          go_wp2_with fail
          refine (tc_old _ B g R 0 1 q a0 a13 h5 r0 r13 (by omega) (by omega) (by omega) (by omega) (by omega)).mono ?_
          rintro en w6 ⟨rfl, h6, k6⟩
          have K6 : w.grownBy w6 none := (Kept.of_grown (F := fun _ => False) Kr (fun _ h => by cases h)).trans (Kept.of_grown (F := upTo (fun _ => False) w.heap.size _) (grown_trans k5 k6) (fun g' e => by cases e; exact .inr ⟨by omega, hp.lt⟩)) |>.grownNone (fun _ _ h => h)
          clear hp h5 k5 k6 r0 r13 hcell hq
          go_wp2_with fail
          go_roundw
          case rel => exact ⟨k + 1, by omega, by go_num, h6, K6⟩
          case measure => simp [intOf]; omega
        · have hlt' : decide ((k : Int) < (n : Int)) = false := by simp; omega
          go_wp2_with fail
          refine (round_is _ g R _ _ hp).mono ?_
          rintro en w7 ⟨rfl, rfl⟩
          go_wp2_with fail
          refine (left_v _ g R 0 1 (2 - 1) hp (by omega) (by omega) rfl).mono ?_
          rintro en w8 ⟨rfl, k8⟩
          go_wp2_with fail
          refine (fails_is _ g R _ _ (Blk.grown hp k8 (by simp) : Pc w8 g R 0 1)).mono ?_
          rintro en w9 ⟨rfl, rfl⟩
          go_wp2_with fail
          go_ret
          exact ⟨rfl, grown_trans Kr k8⟩
    · go_wp2_with fail
      refine (left_v _ g _ 0 0 (2 - 0) hP (by omega) (by omega) rfl).mono ?_
      rintro en w3 ⟨rfl, k3⟩
      have h3 : Pc w3 g R 0 0 := Blk.grown hP k3 (by simp)
      have K3 : w.grownBy w3 none := grown_trans k2 k3
      go_wp2_with fail
      go_loopw [42] (fun i wr => ∃ k : Nat, k ≤ n ∧ i = .int .i64 (k : Int) ∧ Pc wr g R 0 0 ∧ w.grownBy wr none) (fun i _ => n - (intOf i).toNat)
      case atStart => exact ⟨0, Nat.zero_le _, rfl, h3, K3⟩
      case round =>
        obtain ⟨k, hk, rfl, hp, Kr⟩ := hrel
        by_cases hlt : k < n
        · have hlt' : decide ((k : Int) < (n : Int)) = true := by simp; omega
          have hkz : k < zs.length := by have := Hn.out; omega
          obtain ⟨zb, zo, rfl, hc⟩ := (hz.kept (Kept.of_grown (F := fun _ => False) Kr (fun _ e => by cases e)) (fun _ _ h => h)).get (by intro e; rw [e] at hkz; simp at hkz)
          have hcell := hc k hkz
          clear hc
          generalize zs[k] = x at hcell
          obtain ⟨q, hq1, hq⟩ := mod_val x (2 + R0) (by omega) (by omega)
          rw [show (((2 + R0 : Nat) : Int)) = R by have := HR.out; omega] at hq
          have hRl : 2 ≤ R ∧ R ≤ 1000 := by have := HR.out; omega
          have hqR : (q : Int) < R := by have := HR.out; omega
          have nz : ¬ R = 0 := by omega
          have r0 := he0.grown Kr (by simp)
          have r13 := he13.grown Kr (by simp)
          go_wp2_with fail
          refine (qc_old _ B g R 0 _ q a0 a13 hp r0 r13 (by omega) (by omega) (by omega)).mono ?_
          rintro en w5 ⟨rfl, h5, k5⟩
          have r0 := r0.grown k5 (by intro g' e; cases e; omega)
          have r13 := r13.grown k5 (by intro g' e; cases e; omega)
          go_wp2_with fail
          refine (tc_old _ B g R 0 0 q a0 a13 h5 r0 r13 (by omega) (by omega) (by omega) (by omega) (by omega)).mono ?_
          rintro en w6 ⟨rfl, h6, k6⟩
          have K6 : w.grownBy w6 none := (Kept.of_grown (F := fun _ => False) Kr (fun _ h => by cases h)).trans (Kept.of_grown (F := upTo (fun _ => False) w.heap.size _) (grown_trans k5 k6) (fun g' e => by cases e; exact .inr ⟨by omega, hp.lt⟩)) |>.grownNone (fun _ _ h => h)
          clear hp h5 k5 k6 r0 r13 hcell hq
          go_wp2_with fail
          go_roundw
          case rel => exact ⟨k + 1, by omega, by go_num, h6, K6⟩
          case measure => simp [intOf]; omega
        · have hlt' : decide ((k : Int) < (n : Int)) = false := by simp; omega
          go_wp2_with fail
          refine (round_is _ g R _ _ hp).mono ?_
          rintro en w7 ⟨rfl, rfl⟩
          go_wp2_with fail
          refine (left_v _ g R 0 0 (2 - 0) hp (by omega) (by omega) rfl).mono ?_
          rintro en w8 ⟨rfl, k8⟩
          go_wp2_with fail
          refine (fails_is _ g R _ _ (Blk.grown hp k8 (by simp) : Pc w8 g R 0 0)).mono ?_
          rintro en w9 ⟨rfl, rfl⟩
          go_wp2_with fail
          go_ret
          exact ⟨rfl, grown_trans Kr k8⟩
end Go.Proofs.YtfpjocinbnipgaaDoor
