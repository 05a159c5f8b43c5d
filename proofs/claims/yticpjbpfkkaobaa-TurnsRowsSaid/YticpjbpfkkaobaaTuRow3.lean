/-
  The document's Row; TurnsRows: the walk.
-/
import Derived.Test.YticpjbpfkkaobaaTuRow2
namespace Go.Proofs.Yticpjbpfkkaobaa
open Go.RowKit

theorem goodK_step {N i a : Nat} {g : Nat → Bool} (h : i < N) : goodK N g (N - i) a = goodK N g (N - (i + 1)) (if g i then a else a + 1) := by
  obtain ⟨rem, hr⟩ : ∃ rem, N - i = rem + 1 := ⟨N - i - 1, by omega⟩
  rw [hr, show N - (i + 1) = rem by omega]
  have e : N - (rem + 1) = i := by omega
  simp only [goodK, e]
theorem runK_step {N i k : Nat} {g : Nat → Bool} (h : k < N) : runK N i g (N - k) k = if g ((i + k) % N) then k else runK N i g (N - (k + 1)) (k + 1) := by
  obtain ⟨rem, hr⟩ : ∃ rem, N - k = rem + 1 := ⟨N - k - 1, by omega⟩
  rw [hr, show N - (k + 1) = rem by omega]
  simp only [runK]
theorem rowR_step {N L i : Nat} {g : Nat → Bool} (h : i < N) : rowR N L g (N - i) = if L ≤ runK N i g N 0 then true else rowR N L g (N - (i + 1)) := by
  obtain ⟨rem, hr⟩ : ∃ rem, N - i = rem + 1 := ⟨N - i - 1, by omega⟩
  rw [hr, show N - (i + 1) = rem by omega]
  have e : N - (rem + 1) = i := by omega
  simp only [rowR, e]

set_option maxHeartbeats 4000000 in
theorem refRow_good (w : World) (A : Option Addr) (n c : Nat) (l : List Int) (N L : Nat) (Nn long : Int) (hNn : Nn = (N : Int)) (h1 : 1 ≤ N) (h7 : N ≤ 7) (hl1 : 1 ≤ long) (hL : ∀ k : Nat, k ≤ N → (L ≤ k ↔ long ≤ (k : Int))) (hn : l.length = n) (h100 : n ≤ 100) (hz : IntsAt w A l) :
    Calls Try.prog 10 #[.int .i64 Nn, .int .i64 long, .slice A n c] w fun e w' => e = .returned (.bool (refRow N L (badF l))) ∧ w = w' := by
  obtain ⟨ans, hans⟩ : ∃ ans, refRow N L (badF l) = ans := ⟨_, rfl⟩
  rw [hans]
  have e1 : decide (Nn < (1 : Int)) = false := by simp; omega
  have e7 : decide ((7 : Int) < Nn) = false := by simp; omega
  have dl : decide (long < (1 : Int)) = false := by simp; omega
  have hz0 : ¬ Nn = 0 := by omega
  have HN := Lib.hid (And.intro hNn (And.intro h1 h7))
  have HA := Lib.hid hans
  have HL := Lib.hid (And.intro hn h100)
  have HT := Lib.hid hL
  clear hNn h1 h7 hans hn h100 hL hl1
  go_enter Try.func10, Try.ntmps10
  go_wp2_with fail
  go_loop [7, 8] (fun a i => ∃ i0 a0 : Nat, i0 ≤ N ∧ a0 ≤ i0 ∧ i = .int .i64 (i0 : Int) ∧ a = .int .i64 (a0 : Int) ∧ goodK N (badF l) (N - i0) a0 = goodK N (badF l) N 0) (fun _ i => 15 - (intOf i).toNat)
  case atStart => exact ⟨0, 0, Nat.zero_le _, Nat.le_refl _, rfl, rfl, rfl⟩
  case round =>
    obtain ⟨i0, a0, hi0, ha0, hi, ha, hs⟩ := hrel
    obtain ⟨I, hI⟩ : ∃ I : Int, I = (i0 : Int) := ⟨_, rfl⟩
    obtain ⟨R, hR⟩ : ∃ R : Int, R = (a0 : Int) := ⟨_, rfl⟩
    rw [← hI] at hi
    rw [← hR] at ha
    subst hi ha
    have HS := Lib.hid hs
    clear hs
    obtain ⟨hNn, h1, h7⟩ := HN.out
    by_cases hlt : i0 < N
    · have d1 : decide (I < Nn) = true := by simp; omega
      have hbad : decide (I ∈ l) = badF l i0 := by rw [hI]; exact badF_at l _ (by omega)
      have step := goodK_step (a := a0) (g := badF l) hlt
      have s2 : wrap64 (I + 1) = I + 1 := w64 _ ⟨by omega, by omega⟩
      have s3 : wrap64 (R + 1) = R + 1 := w64 _ ⟨by omega, by omega⟩
      have HI := Lib.hid (And.intro hI (And.intro hR (And.intro hlt ha0)))
      have HST := Lib.hid step
      by_cases hb : badF l i0 = true
      · rw [hb] at hbad
        have HB := Lib.hid (And.intro hbad hb)
        clear hbad hb hlt step hNn h1 h7 hI hR hi0 ha0
        go_wp2_with fail
        refine (in_is _ A n c l I true HB.out.1 HL.out.1 HL.out.2 hz).mono ?_
        rintro e w1 ⟨rfl, rfl⟩
        go_wp2_with fail
        go_round
        case rel =>
          obtain ⟨hI, hR, hlt, ha0⟩ := HI.out
          refine ⟨i0 + 1, a0, by omega, by omega, by rw [hI] at s2 ⊢; simpa using s2, by rw [hR], ?_⟩
          have := HST.out
          rw [HB.out.2, if_pos rfl] at this
          rw [← this]; exact HS.out
        case measure =>
          obtain ⟨hI, hR, hlt, ha0⟩ := HI.out
          obtain ⟨hNn, h1, h7⟩ := HN.out
          simp only [intOf, s2]
          omega
      · have hb' : badF l i0 = false := by simpa using hb
        rw [hb'] at hbad
        have HB := Lib.hid (And.intro hbad hb')
        clear hbad hb hb' hlt step hNn h1 h7 hI hR hi0 ha0
        go_wp2_with fail
        refine (in_is _ A n c l I false HB.out.1 HL.out.1 HL.out.2 hz).mono ?_
        rintro e w1 ⟨rfl, rfl⟩
        go_wp2_with fail
        go_round
        case rel =>
          obtain ⟨hI, hR, hlt, ha0⟩ := HI.out
          refine ⟨i0 + 1, a0 + 1, by omega, by omega, by rw [hI] at s2 ⊢; simpa using s2, by rw [hR] at s3 ⊢; simpa using s3, ?_⟩
          have := HST.out
          rw [HB.out.2, if_neg (by simp)] at this
          rw [← this]; exact HS.out
        case measure =>
          obtain ⟨hI, hR, hlt, ha0⟩ := HI.out
          obtain ⟨hNn, h1, h7⟩ := HN.out
          simp only [intOf, s2]
          omega
    · have d1 : decide (I < Nn) = false := by simp; omega
      have hgood : a0 = goodK N (badF l) N 0 := by
        rw [← HS.out, show N - i0 = 0 by omega]
        rfl
      by_cases hall : a0 = N
      · have d2 : (R == Nn) = true := by simp; omega
        have hans : ans = true := by rw [← HA.out, refRow, if_pos (hgood.symm.trans hall)]
        have HR := Lib.hid hans
        clear hlt hNn h1 h7 hI hR hi0 ha0 hgood hall hans
        go_wp2_with fail
        go_ret
        exact ⟨by rw [HR.out]; rfl, rfl⟩
      · have d2 : (R == Nn) = false := by simp; omega
        have hans : rowR N L (badF l) N = ans := by rw [← HA.out, refRow, if_neg (fun e => hall (hgood.trans e))]
        have HR := Lib.hid hans
        clear hlt hNn h1 h7 hI hR hi0 ha0 hgood hall hans
        go_wp2_with fail
        go_loop [9] (fun i => ∃ i0 : Nat, i0 ≤ N ∧ i = .int .i64 (i0 : Int) ∧ rowR N L (badF l) (N - i0) = ans) (fun i => 15 - (intOf i).toNat)
        case atStart => exact ⟨0, Nat.zero_le _, rfl, HR.out⟩
        case round =>
          obtain ⟨i1, hi1, hi, hs⟩ := hrel
          obtain ⟨J, hJ⟩ : ∃ J : Int, J = (i1 : Int) := ⟨_, rfl⟩
          rw [← hJ] at hi
          subst hi
          have HS2 := Lib.hid hs
          clear hs
          obtain ⟨hNn, h1, h7⟩ := HN.out
          by_cases hlt : i1 < N
          · have d3 : decide (J < Nn) = true := by simp; omega
            have step := rowR_step (L := L) (g := badF l) hlt
            have s4 : wrap64 (J + 1) = J + 1 := w64 _ ⟨by omega, by omega⟩
            have HJ := Lib.hid (And.intro hJ hlt)
            have HST := Lib.hid step
            clear hlt hNn h1 h7 hJ hi1 step
            go_wp2_with fail
            go_loop [10] (fun k => ∃ k0 : Nat, k0 ≤ N ∧ k = .int .i64 (k0 : Int) ∧ runK N i1 (badF l) (N - k0) k0 = runK N i1 (badF l) N 0) (fun k => 15 - (intOf k).toNat)
            case atStart => exact ⟨0, Nat.zero_le _, rfl, rfl⟩
            case round =>
              obtain ⟨k0, hk0, hk, hs⟩ := hrel
              obtain ⟨K, hK⟩ : ∃ K : Int, K = (k0 : Int) := ⟨_, rfl⟩
              rw [← hK] at hk
              subst hk
              have HS3 := Lib.hid hs
              clear hs
              obtain ⟨hJ, hlt⟩ := HJ.out
              obtain ⟨hNn, h1, h7⟩ := HN.out
              by_cases hk : k0 < N
              · have d5 : decide (K < Nn) = true := by simp; omega
                have t1 : wrap64 (J + K) = J + K := w64 _ ⟨by omega, by omega⟩
                obtain ⟨Q, hq1, hq2⟩ : ∃ Q : Int, (J + K).tmod Nn = Q ∧ Q = (((i1 + k0) % N : Nat) : Int) := ⟨_, rfl, by rw [hJ, hK, hNn, ← Int.natCast_add]; exact tmod_nat (i1 + k0) N⟩
                have hlt7 : (i1 + k0) % N < N := Nat.mod_lt _ (by omega)
                have hq3 : wrap64 Q = Q := w64 _ ⟨by omega, by omega⟩
                have hbad : decide (Q ∈ l) = badF l ((i1 + k0) % N) := by rw [hq2]; exact badF_at l _ (by omega)
                have step := runK_step (i := i1) (g := badF l) hk
                have HK := Lib.hid (And.intro hK hk)
                by_cases hb : badF l ((i1 + k0) % N) = true
                · rw [hb] at hbad step
                  have HB := Lib.hid hbad
                  have hrun : runK N i1 (badF l) N 0 = k0 := by
                    rw [← HS3.out, step, if_pos rfl]
                  by_cases hle : long ≤ K
                  · have d4 : decide (long ≤ K) = true := by simpa using hle
                    have hans : ans = true := by
                      rw [← HS2.out, HST.out, hrun, if_pos ((HT.out k0 hk0).2 (by rw [← hK]; exact hle))]
                    have HR2 := Lib.hid hans
                    clear hle hans hrun hbad hb step hK hk hlt7 hq2 hJ hlt hNn h1 h7 hk0
                    go_wp2_with fail
                    refine (in_is _ A n c l Q true HB.out HL.out.1 HL.out.2 hz).mono ?_
                    rintro e w1 ⟨rfl, rfl⟩
                    go_wp2_with fail
                    go_ret
                    exact ⟨by rw [HR2.out]; rfl, rfl⟩
                  · have d4 : decide (long ≤ K) = false := by simpa using hle
                    have hans : rowR N L (badF l) (N - (i1 + 1)) = ans := by
                      rw [← HS2.out, HST.out, hrun, if_neg (fun e => hle (by rw [hK]; exact (HT.out k0 hk0).1 e))]
                    have HR2 := Lib.hid hans
                    clear hle hans hrun hbad hb step hK hk hlt7 hq2 hJ hlt hNn h1 h7 hk0
                    go_wp2_with fail
                    refine (in_is _ A n c l Q true HB.out HL.out.1 HL.out.2 hz).mono ?_
                    rintro e w1 ⟨rfl, rfl⟩
                    go_wp2_with fail
                    go_round
                    case rel =>
                      obtain ⟨hJ, hlt⟩ := HJ.out
                      exact ⟨i1 + 1, by omega, by rw [hJ] at s4 ⊢; simpa using s4, HR2.out⟩
                    case measure =>
                      obtain ⟨hJ, hlt⟩ := HJ.out
                      obtain ⟨hNn, h1, h7⟩ := HN.out
                      simp only [intOf, s4]
                      omega
                · have hb' : badF l ((i1 + k0) % N) = false := by simpa using hb
                  rw [hb', if_neg (by simp)] at step
                  rw [hb'] at hbad
                  have HB := Lib.hid hbad
                  have hnext := step.symm.trans HS3.out
                  have HX := Lib.hid hnext
                  have s5 : wrap64 (K + 1) = K + 1 := w64 _ ⟨by omega, by omega⟩
                  clear hbad hb hb' step hK hk hlt7 hq2 hJ hlt hNn h1 h7 hk0 hnext
                  go_wp2_with fail
                  refine (in_is _ A n c l Q false HB.out HL.out.1 HL.out.2 hz).mono ?_
                  rintro e w1 ⟨rfl, rfl⟩
                  go_wp2_with fail
                  go_round
                  case rel =>
                    obtain ⟨hK, hk⟩ := HK.out
                    exact ⟨k0 + 1, by omega, by rw [hK] at s5 ⊢; simpa using s5, HX.out⟩
                  case measure =>
                    obtain ⟨hK, hk⟩ := HK.out
                    obtain ⟨hNn, h1, h7⟩ := HN.out
                    simp only [intOf, s5]
                    omega
              · have d5 : decide (K < Nn) = false := by simp; omega
                have hrun : runK N i1 (badF l) N 0 = k0 := by
                  rw [← HS3.out, show N - k0 = 0 by omega]
                  rfl
                by_cases hle : long ≤ K
                · have d4 : decide (long ≤ K) = true := by simpa using hle
                  have hans : ans = true := by
                    rw [← HS2.out, HST.out, hrun, if_pos ((HT.out k0 hk0).2 (by rw [← hK]; exact hle))]
                  have HR2 := Lib.hid hans
                  clear hle hans hrun hK hk hJ hlt hNn h1 h7 hk0
                  go_wp2_with fail
                  go_ret
                  exact ⟨by rw [HR2.out]; rfl, rfl⟩
                · have d4 : decide (long ≤ K) = false := by simpa using hle
                  have hans : rowR N L (badF l) (N - (i1 + 1)) = ans := by
                    rw [← HS2.out, HST.out, hrun, if_neg (fun e => hle (by rw [hK]; exact (HT.out k0 hk0).1 e))]
                  have HR2 := Lib.hid hans
                  clear hle hans hrun hK hk hJ hlt hNn h1 h7 hk0
                  go_wp2_with fail
                  go_round
                  case rel =>
                    obtain ⟨hJ, hlt⟩ := HJ.out
                    exact ⟨i1 + 1, by omega, by rw [hJ] at s4 ⊢; simpa using s4, HR2.out⟩
                  case measure =>
                    obtain ⟨hJ, hlt⟩ := HJ.out
                    obtain ⟨hNn, h1, h7⟩ := HN.out
                    simp only [intOf, s4]
                    omega
          · have d3 : decide (J < Nn) = false := by simp; omega
            have hans : ans = false := by
              rw [← HS2.out, show N - i1 = 0 by omega]
              rfl
            have HR2 := Lib.hid hans
            clear hlt hNn h1 h7 hJ hi1 hans
            go_wp2_with fail
            go_ret
            exact ⟨by rw [HR2.out]; rfl, rfl⟩

theorem circle_not {Nn : Int} (h : inCircle Nn = false) : decide (Nn < (1 : Int)) = true ∨ (decide (Nn < (1 : Int)) = false ∧ decide ((7 : Int) < Nn) = true) := by
  by_cases h1 : Nn < 1
  · exact .inl (by simpa using h1)
  · refine .inr ⟨by simp; omega, ?_⟩
    simp [inCircle] at h
    simp
    omega
theorem row_no (w : World) (A : Option Addr) (n c : Nat) (Nn long : Int) (hc : inCircle Nn = false) : Calls Try.prog 9 #[.int .i64 Nn, .int .i64 long, .slice A n c] w fun e w' => e = .returned (.bool false) ∧ w = w' := by
  go_enter Try.func9, Try.ntmps9
  go_wp2_with (go_at_call 14; refine (circle_is _ _).mono ?_; rintro e w1 ⟨rfl, rfl⟩)
  go_ret
  exact ⟨rfl, rfl⟩
theorem row_low (w : World) (A : Option Addr) (n c : Nat) (Nn long : Int) (hc : inCircle Nn = true) (dl : decide (long < (1 : Int)) = true) : Calls Try.prog 9 #[.int .i64 Nn, .int .i64 long, .slice A n c] w fun e w' => e = .returned (.bool true) ∧ w = w' := by
  go_enter Try.func9, Try.ntmps9
  go_wp2_with (go_at_call 14; refine (circle_is _ _).mono ?_; rintro e w1 ⟨rfl, rfl⟩)
  go_ret
  exact ⟨rfl, rfl⟩
theorem refRow_no (w : World) (A : Option Addr) (n c : Nat) (Nn long : Int) (hc : inCircle Nn = false) : Calls Try.prog 10 #[.int .i64 Nn, .int .i64 long, .slice A n c] w fun e w' => e = .returned (.bool false) ∧ w = w' := by
  rcases circle_not hc with e1 | ⟨e1, e2⟩
  all_goals
    clear hc
    go_enter Try.func10, Try.ntmps10
    go_wp2
    go_ret
    exact ⟨rfl, rfl⟩
theorem refRow_low (w : World) (A : Option Addr) (n c : Nat) (Nn long : Int) (e1 : decide (Nn < (1 : Int)) = false) (e7 : decide ((7 : Int) < Nn) = false) (dl : decide (long < (1 : Int)) = true) : Calls Try.prog 10 #[.int .i64 Nn, .int .i64 long, .slice A n c] w fun e w' => e = .returned (.bool true) ∧ w = w' := by
  go_enter Try.func10, Try.ntmps10
  go_wp2
  go_ret
  exact ⟨rfl, rfl⟩

set_option maxHeartbeats 1000000 in
theorem turnsRows_any (w : World) (A : Option Addr) (n c : Nat) (l : List Int) (Nn long : Int) (hn : l.length = n) (hz : IntsAt w A l) :
    Calls Try.prog 4 #[.int .i64 Nn, .int .i64 long, .slice A n c] w fun e w' => e = .returned (.bool true) ∧ w = w' := by
  by_cases hbig : 100 < n
  · have d1 : decide ((100 : Int) < (n : Int)) = true := by simp; omega
    clear hbig hn
    go_enter Try.func4, Try.ntmps4
    go_wp2_with fail
    refine (turns_alive _).mono ?_
    rintro e w1 ⟨rfl, rfl⟩
    go_wp2_with fail
    go_ret
    exact ⟨rfl, rfl⟩
  have d1 : decide ((100 : Int) < (n : Int)) = false := by simp; omega
  have h100 : n ≤ 100 := by omega
  clear hbig
  go_enter Try.func4, Try.ntmps4
  have Hn := Lib.hid hn
  clear hn
  go_wp2_with fail
  refine (turns_alive _).mono ?_
  rintro e w1 ⟨rfl, rfl⟩
  go_wp2_with fail
  by_cases hc : inCircle Nn = true
  · have hN7 : 1 ≤ Nn ∧ Nn ≤ 7 := by simpa [inCircle] using hc
    by_cases hl : long < 1
    · have dl : decide (long < (1 : Int)) = true := by simpa using hl
      have e1 : decide (Nn < (1 : Int)) = false := by simp; omega
      have e7 : decide ((7 : Int) < Nn) = false := by simp; omega
      clear hN7 hl
      refine (row_low _ A n c Nn long hc dl).mono ?_
      rintro e w1 ⟨rfl, rfl⟩
      go_wp2_with fail
      refine (refRow_low _ A n c Nn long e1 e7 dl).mono ?_
      rintro e w1 ⟨rfl, rfl⟩
      clear e1 e7 dl
      go_wp2_with fail
      go_ret
      exact ⟨rfl, rfl⟩
    · obtain ⟨N, hN⟩ : ∃ N : Nat, Nn = (N : Int) := ⟨Nn.toNat, by omega⟩
      obtain ⟨L, hL8, hL, ht⟩ : ∃ L : Nat, (1 ≤ L ∧ L < 9) ∧ (∀ k : Nat, k ≤ N → (L ≤ k ↔ long ≤ (k : Int))) ∧ ((min L N : Nat) : Int) = if long ≤ Nn then long else Nn := by
        by_cases hle : long ≤ Nn
        · refine ⟨long.toNat, by omega, fun k hk => by omega, ?_⟩
          rw [if_pos hle]
          omega
        · refine ⟨8, by omega, fun k hk => by omega, ?_⟩
          rw [if_neg hle]
          omega
      have hsame : rowP N (min L N) (badF l) (2 * N) 0 = refRow N L (badF l) := by
        rcases rows_same N (by omega) L (by omega) (decide ((0 : Int) ∈ l)) (decide ((1 : Int) ∈ l)) (decide ((2 : Int) ∈ l)) (decide ((3 : Int) ∈ l)) (decide ((4 : Int) ∈ l)) (decide ((5 : Int) ∈ l)) (decide ((6 : Int) ∈ l)) with h | h | h
        · omega
        · omega
        · exact h
      refine (row_good _ A n c l N (min L N) Nn long hN (by omega) (by omega) (by omega) ht Hn.out h100 hz).mono ?_
      rintro e w1 ⟨rfl, rfl⟩
      have F := (fun w => refRow_good w A n c l N L Nn long hN (by omega) (by omega) (by omega) hL Hn.out h100)
      rw [hsame]
      generalize refRow N L (badF l) = b at F
      have HF := Lib.hid F
      clear F hsame hL ht hN hL8 hl hN7 hc d1 h100
      go_wp2_with fail
      refine (HF.out _ hz).mono ?_
      rintro e w1 ⟨rfl, rfl⟩
      cases b
      · go_wp2_with fail
        go_ret
        exact ⟨rfl, rfl⟩
      · go_wp2_with fail
        go_ret
        exact ⟨rfl, rfl⟩
  · have hc' : inCircle Nn = false := by simpa using hc
    clear hc
    refine (row_no _ A n c Nn long hc').mono ?_
    rintro e w1 ⟨rfl, rfl⟩
    go_wp2_with fail
    refine (refRow_no _ A n c Nn long hc').mono ?_
    rintro e w1 ⟨rfl, rfl⟩
    clear hc'
    go_wp2_with fail
    go_ret
    exact ⟨rfl, rfl⟩
end Go.Proofs.Yticpjbpfkkaobaa
