/-
  PaceRises: the walk.
-/
import Derived.Test.YtfpjocinbnipgaaDoorPaOld
namespace Go.Proofs.YtfpjocinbnipgaaDoor
open Go.RowKit

/-- One tick more: how many times the wait was over; the ticks that run. -/
theorem tick_count (f : Int) (W j q rm : Nat) (hW : waitOf f = (W : Int)) (h2 : 2 ≤ W) (hq : q = j / W) (hr : rm = j % W) :
    rm < W ∧ q ≤ j ∧ ((W ≤ rm + 1 ∧ tickB f (rm : Int) = true ∧ tickT f (rm : Int) = ((0 : Nat) : Int) ∧ q + 1 = (j + 1) / W ∧ 0 = (j + 1) % W) ∨
      (tickB f (rm : Int) = false ∧ tickT f (rm : Int) = ((rm + 1 : Nat) : Int) ∧ q = (j + 1) / W ∧ rm + 1 = (j + 1) % W)) := by
  subst hq hr
  have hlt : j % W < W := Nat.mod_lt _ (by omega)
  have hd := Nat.div_add_mod j W
  refine ⟨hlt, Nat.div_le_self _ _, ?_⟩
  by_cases h : W ≤ j % W + 1
  · have e1 : j + 1 = W * (j / W + 1) := by rw [Nat.mul_add]; omega
    have e2 : (j + 1) % W = 0 := by rw [e1]; exact Nat.mul_mod_right _ _
    have e3 : (j + 1) / W = j / W + 1 := by rw [e1]; exact Nat.mul_div_cancel_left _ (by omega)
    generalize j % W = rm at *
    refine .inl ⟨h, ?_, ?_, e3.symm, e2.symm⟩
    · unfold tickB; rw [hW]; simp; omega
    · unfold tickT; rw [hW, if_pos (by omega)]; rfl
  · have e1 : j + 1 = W * (j / W) + (j % W + 1) := by omega
    have e2 : (j + 1) % W = j % W + 1 := by
      rw [e1, Nat.mul_add_mod]
      exact Nat.mod_eq_of_lt (by omega)
    have e3 : (j + 1) / W = j / W := by
      rw [e1, Nat.mul_add_div (by omega), Nat.div_eq_of_lt (show j % W + 1 < W by omega)]
      omega
    generalize j % W = rm at *
    refine .inr ⟨?_, ?_, e3.symm, e2.symm⟩
    · unfold tickB; rw [hW]; simp; omega
    · unfold tickT; rw [hW, if_neg (by omega)]; rfl
theorem div_eq (j W q : Nat) (h : j ≤ 1000) (hq : q = j / W) : ((q : Int) == wrap64 ((j : Int) / (W : Int))) = true := by
  have e : (j : Int) / (W : Int) = ((j / W : Nat) : Int) := rfl
  have := Nat.div_le_self j W
  rw [e, ← hq]
  rw [← hq] at this
  rw [w64 _ ⟨by omega, by omega⟩]
  simp
theorem wait_nat (f : Int) : ∃ W : Nat, waitOf f = (W : Int) ∧ 2 ≤ W ∧ W ≤ 16 := by
  rcases waitOf_in f with h | h | h | h
  · exact ⟨2, h, by omega, by omega⟩
  · exact ⟨4, h, by omega, by omega⟩
  · exact ⟨8, h, by omega, by omega⟩
  · exact ⟨16, h, by omega, by omega⟩

theorem yes_in {r x : Int} (h : yesB r x = true) : 0 ≤ x ∧ x < 1099511627776 ∧ r ≤ x := by simpa [yesB] using h

set_option maxHeartbeats 4000000 in
theorem rises_any (w : World) (B : Nat) (a0 a13 : Addr) (he0 : ErrAt w B 1 a0) (he13 : ErrAt w B 0 a13) (A : Option Addr) (n c : Nat) (zs : List Int) (ticks : Int) (hn : zs.length = n) (hz : IntsAt w A zs) :
    Calls Tryd.prog 4 #[.slice A n c, .int .i64 ticks] w fun en w' => en = .returned (.bool true) ∧ w.grownBy w' none := by
  by_cases hbig : 100 < n
  · have d1 : decide ((100 : Int) < (n : Int)) = true := by simp; omega
    clear hn hbig
    go_enter Tryd.func4, Tryd.ntmps4
    go_wp2_with fail
    refine (pace_alive _ B a0 a13 he0 he13).mono ?_
    rintro en w1 ⟨rfl, k1⟩
    go_wp2_with fail
    go_ret
    exact ⟨rfl, k1⟩
  · have d1 : decide ((100 : Int) < (n : Int)) = false := by simp; omega
    have hn100 : n ≤ 100 := by omega
    have Hn := Lib.hid hn
    clear hn hbig
    obtain ⟨M, hM, hM1⟩ := mod_val ticks 100 (by omega) (by omega)
    rw [show ((100 : Nat) : Int) = 100 from rfl] at hM1
    go_enter Tryd.func4, Tryd.ntmps4
    go_wp2_with fail
    refine (pace_alive _ B a0 a13 he0 he13).mono ?_
    rintro en w1 ⟨rfl, k1⟩
    go_wp2_with fail
    refine (new_ok _ _ (by omega) (by omega)).mono ?_
    rintro en w2 ⟨rfl, rfl⟩
    have hP : Pc (w1.alloc (.cells #[.int .i64 1, .int .i64 0, .int .i64 0] 48)) w1.heap.size 1 0 0 := Blk.new w1 _ _
    have k2 := grown_trans k1 (World.grownBy_alloc w1 (.cells #[.int .i64 1, .int .i64 0, .int .i64 0] 48) none)
    generalize w1.alloc (.cells #[.int .i64 1, .int .i64 0, .int .i64 0] 48) = w2 at *
    have hgg : w.heap.size ≤ w1.heap.size := k1.size
    generalize w1.heap.size = g at *
    go_wp2_with fail
    go_loopw [7, 27] (fun la i wr => ∃ (k : Nat) (R F : Int), k ≤ n ∧ i = .int .i64 (k : Int) ∧ la = .int .i64 R ∧ 0 ≤ F ∧ F ≤ (k : Int) ∧ Pc wr g R F 0 ∧ w.grownBy wr none) (fun _ i _ => n - (intOf i).toNat)
    case atStart => exact ⟨0, 1, 0, Nat.zero_le _, rfl, rfl, by omega, by omega, hP, k2⟩
    case round =>
      obtain ⟨k, R, F, hk, rfl, rfl, hF0, hF1, hp, Kr⟩ := hrel
      by_cases hlt : k < n
      · have hlt' : decide ((k : Int) < (n : Int)) = true := by simp; omega
        have hkz : k < zs.length := by have := Hn.out; omega
        obtain ⟨zb, zo, rfl, hc⟩ := (hz.kept (Kept.of_grown (F := fun _ => False) Kr (fun _ e => by cases e)) (fun _ _ h => h)).get (by intro e; rw [e] at hkz; simp at hkz)
        have hcell := hc k hkz
        clear hc
        generalize zs[k] = x at hcell
        have r0 := he0.grown Kr (by simp)
        have r13 := he13.grown Kr (by simp)
        have hev : ((k : Int) % 2 == 0) = true ∨ ((k : Int) % 2 == 0) = false := by cases ((k : Int) % 2 == 0) <;> simp
        rcases hev with hev | hev
        · go_wp2_with fail
          refine (qc_is _ B g R F 0 x a0 a13 hp r0 r13).mono ?_
          rintro en w5 ⟨rfl, h5, k5⟩
          have K5 := (Kept.of_grown (F := fun _ => False) Kr (fun _ h => by cases h)).trans (Kept.of_grown (F := upTo (fun _ => False) w.heap.size _) (k5) (fun g' e => by cases e; exact .inr ⟨by omega, hp.lt⟩)) |>.grownNone (fun _ _ h => h)
          clear hp k5 Kr r0 r13 hcell
          by_cases hy : yesB R x = true
          · have hR : endR R x = x + 1 := by simp [endR, hy]
            have hF : endF R x F 0 = 0 := by simp [endF, hy]
            have hT : endT R x 0 = 0 := by simp [endT]
            have hb := yes_in hy
            rw [hR, hF, hT] at h5
            clear hR hF hT
            have t1 : decide (x + 1 < R) = false := by simp; omega
            have t2 : decide (R < x + 1) = true := by simp; omega
            go_wp2_with fail
            refine (round_is _ _ _ _ _ h5).mono ?_
            rintro en w6 ⟨rfl, rfl⟩
            go_wp2_with fail
            refine (round_is _ _ _ _ _ h5).mono ?_
            rintro en w6 ⟨rfl, rfl⟩
            go_wp2_with fail
            refine (round_is _ _ _ _ _ h5).mono ?_
            rintro en w6 ⟨rfl, rfl⟩
            go_wp2_with fail
            go_roundw
            case rel => exact ⟨k + 1, x + 1, 0, by omega, by go_num, rfl, by omega, by omega, h5, K5⟩
            case measure => simp [intOf]; omega
          · have hy' : yesB R x = false := by simpa using hy
            have hR : endR R x = R := by simp [endR, hy']
            have hF : endF R x F 0 = F := by simp [endF, hy']
            have hT : endT R x 0 = 0 := by simp [endT]
            rw [hR, hF, hT] at h5
            clear hR hF hT hy
            go_wp2_with fail
            refine (round_is _ _ _ _ _ h5).mono ?_
            rintro en w6 ⟨rfl, rfl⟩
            go_wp2_with fail
            refine (round_is _ _ _ _ _ h5).mono ?_
            rintro en w6 ⟨rfl, rfl⟩
            go_wp2_with fail
            refine (round_is _ _ _ _ _ h5).mono ?_
            rintro en w6 ⟨rfl, rfl⟩
            go_wp2_with fail
            go_roundw
            case rel => exact ⟨k + 1, R, F, by omega, by go_num, rfl, by omega, by omega, h5, K5⟩
            case measure => simp [intOf]; omega
        · go_wp2_with fail
          refine (tc_is _ B g R F 0 x a0 a13 hp (by omega) (by omega) r0 r13).mono ?_
          rintro en w5 ⟨rfl, h5, k5⟩
          have K5 := (Kept.of_grown (F := fun _ => False) Kr (fun _ h => by cases h)).trans (Kept.of_grown (F := upTo (fun _ => False) w.heap.size _) (k5) (fun g' e => by cases e; exact .inr ⟨by omega, hp.lt⟩)) |>.grownNone (fun _ _ h => h)
          clear hp k5 Kr r0 r13 hcell
          by_cases hy : yesB R x = true
          · have hR : endR R x = x + 1 := by simp [endR, hy]
            have hF : endF R x F (F + 1) = (F + 1) := by simp [endF, hy]
            have hT : endT R x 0 = 0 := by simp [endT]
            have hb := yes_in hy
            rw [hR, hF, hT] at h5
            clear hR hF hT
            have t1 : decide (x + 1 < R) = false := by simp; omega
            have t2 : decide (R < x + 1) = true := by simp; omega
            go_wp2_with fail
            refine (round_is _ _ _ _ _ h5).mono ?_
            rintro en w6 ⟨rfl, rfl⟩
            go_wp2_with fail
            refine (round_is _ _ _ _ _ h5).mono ?_
            rintro en w6 ⟨rfl, rfl⟩
            go_wp2_with fail
            refine (round_is _ _ _ _ _ h5).mono ?_
            rintro en w6 ⟨rfl, rfl⟩
            go_wp2_with fail
            go_roundw
            case rel => exact ⟨k + 1, x + 1, (F + 1), by omega, by go_num, rfl, by omega, by omega, h5, K5⟩
            case measure => simp [intOf]; omega
          · have hy' : yesB R x = false := by simpa using hy
            have hR : endR R x = R := by simp [endR, hy']
            have hF : endF R x F (F + 1) = F := by simp [endF, hy']
            have hT : endT R x 0 = 0 := by simp [endT]
            rw [hR, hF, hT] at h5
            clear hR hF hT hy
            go_wp2_with fail
            refine (round_is _ _ _ _ _ h5).mono ?_
            rintro en w6 ⟨rfl, rfl⟩
            go_wp2_with fail
            refine (round_is _ _ _ _ _ h5).mono ?_
            rintro en w6 ⟨rfl, rfl⟩
            go_wp2_with fail
            refine (round_is _ _ _ _ _ h5).mono ?_
            rintro en w6 ⟨rfl, rfl⟩
            go_wp2_with fail
            go_roundw
            case rel => exact ⟨k + 1, R, F, by omega, by go_num, rfl, by omega, by omega, h5, K5⟩
            case measure => simp [intOf]; omega
      · have hlt' : decide ((k : Int) < (n : Int)) = false := by simp; omega
        obtain ⟨W, hW, hW2, hW16⟩ := wait_nat F
        go_wp2_with fail
        refine (left_v _ g R F 0 W hp (by omega) (by omega) (by omega)).mono ?_
        rintro en w7 ⟨rfl, k7⟩
        have h7 : Pc w7 g R F 0 := Blk.grown hp k7 (by simp)
        have K7 := grown_trans Kr k7
        clear hp Kr k7
        go_wp2_with fail
        rw [hM1]
        clear hM1
        go_loopw [13, 69] (fun to i wr => ∃ j q rm : Nat, j ≤ M ∧ i = .int .i64 (j : Int) ∧ to = .int .i64 (q : Int) ∧ q = j / W ∧ rm = j % W ∧ Pc wr g R F (rm : Int) ∧ w.grownBy wr none) (fun _ i _ => M - (intOf i).toNat)
        case atStart => exact ⟨0, 0, 0, Nat.zero_le _, rfl, rfl, by simp, by simp, by simpa using h7, K7⟩
        case round =>
          obtain ⟨j, q, rm, hj, rfl, rfl, hq, hr, hp, Kr⟩ := hrel
          obtain ⟨hrW, hqj, hways⟩ := tick_count F W j q rm hW hW2 hq hr
          by_cases hjl : j < M
          · have hj' : decide ((j : Int) < (M : Int)) = true := by simp; omega
            rcases hways with ⟨_, q1, q2, q3, q4⟩ | ⟨q1, q2, q3, q4⟩
            · have E3 := Lib.hid q3
              have E4 := Lib.hid q4
              clear hq hr q3 q4
              go_wp2_with fail
              refine (tick_is _ g R F _ hp (by omega) (by omega)).mono ?_
              rintro en w8 ⟨rfl, h8, k8⟩
              have K8 := (Kept.of_grown (F := fun _ => False) Kr (fun _ h => by cases h)).trans (Kept.of_grown (F := upTo (fun _ => False) w.heap.size _) (k8) (fun g' e => by cases e; exact .inr ⟨by omega, hp.lt⟩)) |>.grownNone (fun _ _ h => h)
              clear hp k8 Kr
              rw [q1]
              rw [q2] at h8
              clear q1 q2
              go_wp2_with fail
              go_roundw
              case rel => exact ⟨j + 1, q + 1, 0, by omega, by go_num, by go_num, E3.out, E4.out, h8, K8⟩
              case measure => simp [intOf]; omega
            · have E3 := Lib.hid q3
              have E4 := Lib.hid q4
              clear hq hr q3 q4
              go_wp2_with fail
              refine (tick_is _ g R F _ hp (by omega) (by omega)).mono ?_
              rintro en w8 ⟨rfl, h8, k8⟩
              have K8 := (Kept.of_grown (F := fun _ => False) Kr (fun _ h => by cases h)).trans (Kept.of_grown (F := upTo (fun _ => False) w.heap.size _) (k8) (fun g' e => by cases e; exact .inr ⟨by omega, hp.lt⟩)) |>.grownNone (fun _ _ h => h)
              clear hp k8 Kr
              rw [q1]
              rw [q2] at h8
              clear q1 q2
              go_wp2_with fail
              go_roundw
              case rel => exact ⟨j + 1, q, rm + 1, by omega, by go_num, rfl, E3.out, E4.out, h8, K8⟩
              case measure => simp [intOf]; omega
          · have hj' : decide ((j : Int) < (M : Int)) = false := by simp; omega
            obtain rfl : j = M := by omega
            have hde := div_eq j W q (by omega) hq
            clear hways hq hr
            have t1 : decide ((2 : Int) ≤ (W : Int)) = true := by simp; omega
            have t2 : decide ((W : Int) ≤ (16 : Int)) = true := by simp; omega
            have nz : ¬ (W : Int) = 0 := by omega
            go_wp2_with fail
            go_ret
            exact ⟨rfl, Kr⟩
end Go.Proofs.YtfpjocinbnipgaaDoor
