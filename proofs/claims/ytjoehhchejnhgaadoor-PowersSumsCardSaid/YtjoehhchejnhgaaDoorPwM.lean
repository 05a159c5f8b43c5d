/-
  PowersSums, walked.
-/
import Derived.Test.YtjoehhchejnhgaaDoorPwG
import Derived.Test.YtjoehhchejnhgaaDoorNum
namespace Go.Proofs.YtjoehhchejnhgaaDoor
open Go.RowKit

theorem num_code (W : World) (B : Nat) (E : Nat → Addr) (k : Nat) (he : ErrEnv W B E) : Calls Tryd.prog 13 #[codeV (E 10) (E 0) (E 16) k] W fun e w' => e = .returned (.int .i64 (codeN k)) ∧ W.grownBy w' none := by
  match k with
  | 0 => exact (num_nil W).mono fun e w' ⟨h1, h2⟩ => ⟨h1, h2 ▸ World.grownBy.refl W none⟩
  | 1 => exact num_err W B E 10 (by omega) he
  | 2 => exact num_err W B E 0 (by omega) he
  | k + 3 => exact num_err W B E 16 (by omega) he

set_option maxRecDepth 100000 in
set_option maxHeartbeats 2000000 in
theorem sums_any (w : World) (A A2 : Option Addr) (c c2 B : Nat) (V : List Vd) (who : List Int) (E : Nat → Addr) (hV : VdsAt w A V) (ok : keysOk V) (hc : V.length ≤ c) (hU : IntsAt w A2 who) (hc2 : who.length ≤ c2)
    (hB : B ≤ w.heap.size) (he : ErrEnv w B E) :
    Calls Tryd.prog 3 #[.slice A V.length c, .slice A2 who.length c2] w fun e w' => e = .returned (.bool true) ∧ Below w.heap.size w w' := by
  have HF := Lib.hid (show ∀ W, Below w.heap.size w W → VdsAt W A V ∧ IntsAt W A2 who ∧ B ≤ W.heap.size ∧ ErrEnv W B E ∧ ErrAt W B 2 (E 10) ∧ ErrAt W B 0 (E 0) ∧ ErrAt W B 1 (E 16) from fun W hW =>
    ⟨hV.above hW, hU.above hW, Nat.le_trans hB hW.size, he.below hW hB, (he.below hW hB).var 10 (by omega), (he.below hW hB).var 0 (by omega), (he.below hW hB).var 16 (by omega)⟩)
  have HC := Lib.hid (And.intro ok (And.intro hc hc2))
  have K0 := Lib.hid (Below.refl w.heap.size w)
  clear hV hU hB he ok hc hc2
  go_enter Tryd.func3, Tryd.ntmps3
  go_wp2_with fail
  obtain ⟨_, _, f1, _, f3, f4, f5⟩ := HF.out w K0.out
  refine (alive_is w B (E 10) (E 0) (E 16) f1 f3 f4 f5).mono ?_
  rintro e w1 ⟨rfl, hk1⟩
  have K1 := Lib.hid hk1
  clear hk1 f1 f3 f4 f5
  by_cases h30 : V.length ≤ 30
  · have d1 : decide ((30 : Int) < (V.length : Int)) = false := by simp; omega
    have e1 : (V.length : Int) ≤ 30 := by omega
    by_cases h31 : who.length ≤ 40
    · have d2 : decide ((40 : Int) < (who.length : Int)) = false := by simp; omega
      have e2 : (who.length : Int) ≤ 40 := by omega
      have HL := Lib.hid (show V.length < 1000 ∧ who.length ≤ 100 from ⟨by omega, by omega⟩)
      clear h30 h31
      go_wp2_with fail
      obtain ⟨f1, f2, f3, _, f5, f6, f7⟩ := HF.out w1 K1.out
      refine (sum_is w1 A A2 c c2 B V who (E 10) (E 0) (E 16) f1 HC.out.1 HL.out.1 f2 HL.out.2 HC.out.2.2 f3 f5 f6 f7).mono ?_
      rintro e w2 ⟨rfl, hk2⟩
      have K2 := Lib.hid (above_trans K1.out hk2)
      clear hk2 f1 f2 f3 f5 f6 f7
      obtain ⟨s, hs⟩ : ∃ s, s = sumVal V who := ⟨_, rfl⟩
      obtain ⟨ev, hev⟩ : ∃ ev, ev = codeV (E 10) (E 0) (E 16) (sumCode V who) := ⟨_, rfl⟩
      obtain ⟨z, hz⟩ : ∃ z, z = codeN (sumCode V who) := ⟨_, rfl⟩
      have HN := Lib.hid (show ∀ W, Below w.heap.size w W → Calls Tryd.prog 13 #[ev] W fun e w' => e = .returned (.int .i64 z) ∧ W.grownBy w' none from fun W hW => by
        rw [hev, hz]; exact num_code W B E _ (HF.out W hW).2.2.2.1)
      have HS := Lib.hid (And.intro hs hz)
      rw [← hs, ← hev]
      clear hs hev hz
      go_wp2_with fail
      obtain ⟨f1, f2, f3, _, f5, f6, f7⟩ := HF.out w2 K2.out
      refine (rsum_is w2 A A2 c c2 V who f1 HC.out.1 HL.out.1 HC.out.2.1 f2 HL.out.2 HC.out.2.2).mono ?_
      rintro e w3 ⟨rfl, hk3⟩
      have K3 := Lib.hid (above_trans K2.out (grown_above hk3))
      clear hk3 f1 f2 f3 f5 f6 f7
      rw [← HS.out.1, ← HS.out.2]
      go_wp2_with fail
      obtain ⟨f1, f2, f3, _, f5, f6, f7⟩ := HF.out w3 K3.out
      refine (rright_is w3 A c V f1 HC.out.1 HL.out.1 HC.out.2.1).mono ?_
      rintro e w4 ⟨rfl, hk4⟩
      have K4 := Lib.hid (above_trans K3.out (grown_above hk4))
      clear hk4 f1 f2 f3 f5 f6 f7
      cases hr : rightS V with
      | false =>
        have hcode : sumCode V who = 1 := by simp [sumCode, hr]
        have HR := Lib.hid (And.intro hr hcode)
        clear hr hcode
        go_wp2_with fail
        obtain ⟨f1, f2, f3, _, f5, f6, f7⟩ := HF.out w4 K4.out
        refine (check_is w4 A c B V (E 10) f1 HC.out.1 HL.out.1 f5).mono ?_
        rintro e w5 ⟨hk5, ⟨h, _⟩ | ⟨_, rfl⟩⟩
        · rw [HR.out.1] at h; cases h
        have K5 := Lib.hid (above_trans K4.out (grown_above hk5))
        clear hk5 f1 f2 f3 f5 f6 f7
        go_wp2_with fail
        obtain ⟨f1, f2, f3, _, f5, f6, f7⟩ := HF.out w5 K5.out
        refine (check_is w5 A c B V (E 10) f1 HC.out.1 HL.out.1 f5).mono ?_
        rintro e w6 ⟨hk6, ⟨h, _⟩ | ⟨_, rfl⟩⟩
        · rw [HR.out.1] at h; cases h
        have K6 := Lib.hid (above_trans K5.out (grown_above hk6))
        clear hk6 f1 f2 f3 f5 f6 f7
        go_wp2_with fail
        refine (num_code w6 B E 1 (HF.out w6 K6.out).2.2.2.1).mono ?_
        rintro e w7 ⟨rfl, hk7⟩
        rw [show codeN 1 = 11 from rfl]
        have K7 := Lib.hid (above_trans K6.out (grown_above hk7))
        clear hk7
        go_wp2_with fail
        refine (HN.out w7 K7.out).mono ?_
        rintro e w8 ⟨rfl, hk8⟩
        have K8 := Lib.hid (above_trans K7.out (grown_above hk8))
        clear hk8
        go_wp2_with fail
        obtain ⟨f1, f2, f3, _, f5, f6, f7⟩ := HF.out w8 K8.out
        refine (total_is w8 A c B V (E 10) f1 HC.out.1 HL.out.1 f3 f5).mono ?_
        rintro e w9 ⟨rfl, hk9⟩
        rw [show totalS V = 0 by simp [totalS, HR.out.1]]
        have K9 := Lib.hid (above_trans K8.out hk9)
        clear hk9 f1 f2 f3 f5 f6 f7
        go_wp2_with fail
        obtain ⟨f1, f2, f3, _, f5, f6, f7⟩ := HF.out w9 K9.out
        refine (quorum_is w9 A c B V (E 10) f1 HC.out.1 HL.out.1 f3 f5).mono ?_
        rintro e w10 ⟨rfl, hk10⟩
        rw [show quorumS V = 0 by simp [quorumS, HR.out.1]]
        have K10 := Lib.hid (above_trans K9.out hk10)
        clear hk10 f1 f2 f3 f5 f6 f7
        go_wp2_with fail
        obtain ⟨f1, f2, f3, _, f5, f6, f7⟩ := HF.out w10 K10.out
        refine (enough_is w10 A A2 c c2 B V who (E 10) (E 0) (E 16) f1 HC.out.1 HL.out.1 f2 HL.out.2 HC.out.2.2 f3 f5 f6 f7).mono ?_
        rintro e w11 ⟨rfl, hk11⟩
        rw [show enoughS V who = false by simp [enoughS, HR.out.2]]
        have K11 := Lib.hid (above_trans K10.out hk11)
        clear hk11 f1 f2 f3 f5 f6 f7
        go_wp2_with fail
        obtain ⟨f1, f2, f3, _, f5, f6, f7⟩ := HF.out w11 K11.out
        refine (few_is w11 A A2 c c2 B V who (E 10) (E 0) (E 16) f1 HC.out.1 HL.out.1 f2 HL.out.2 HC.out.2.2 f3 f5 f6 f7).mono ?_
        rintro e w12 ⟨rfl, hk12⟩
        rw [show fewS V who = false by simp [fewS, HR.out.2]]
        have K12 := Lib.hid (above_trans K11.out hk12)
        clear hk12 f1 f2 f3 f5 f6 f7
        go_wp2_with fail
        go_ret
        exact ⟨rfl, K12.out⟩
      | true =>
        have hts := right_sumW hr
        have htb := total_bound hr
        obtain ⟨t, ht⟩ : ∃ t, t = (powersOf V).sum := ⟨_, rfl⟩
        have htT : totalS V = t := by rw [totalS, if_pos hr, ht]
        obtain ⟨q, hq⟩ : ∃ q, q = 2 * t / 3 + 1 := ⟨_, rfl⟩
        have hqQ : quorumS V = q := by rw [quorumS, if_pos hr, hq, ht]
        rw [← ht] at htb hts
        have s1 : wrap64 (3 * q) = 3 * q := w64 _ ⟨by omega, by omega⟩
        have s2 : wrap64 (2 * t) = 2 * t := w64 _ ⟨by omega, by omega⟩
        have s3 : wrap64 (q - 1) = q - 1 := w64 _ ⟨by omega, by omega⟩
        have s4 : wrap64 (3 * (q - 1)) = 3 * (q - 1) := w64 _ ⟨by omega, by omega⟩
        have l1 : 2 * t < 3 * q := by omega
        have l2 : 3 * (q - 1) ≤ 2 * t := by omega
        have HR := Lib.hid (And.intro hr (And.intro hts (And.intro htT (And.intro hqQ (And.intro s1 (And.intro s2 (And.intro s3 (And.intro s4 (And.intro l1 l2)))))))))
        clear hr hts htb ht htT hq hqQ s1 s2 s3 s4 l1 l2
        go_wp2_with fail
        obtain ⟨f1, f2, f3, _, f5, f6, f7⟩ := HF.out w4 K4.out
        refine (check_is w4 A c B V (E 10) f1 HC.out.1 HL.out.1 f5).mono ?_
        rintro e w5 ⟨hk5, ⟨_, rfl⟩ | ⟨h, _⟩⟩
        rotate_left
        · rw [HR.out.1] at h; cases h
        have K5 := Lib.hid (above_trans K4.out (grown_above hk5))
        clear hk5 f1 f2 f3 f5 f6 f7
        go_wp2_with fail
        refine (HN.out w5 K5.out).mono ?_
        rintro e w8 ⟨rfl, hk8⟩
        have K8 := Lib.hid (above_trans K5.out (grown_above hk8))
        clear hk8
        go_wp2_with fail
        obtain ⟨f1, f2, f3, _, f5, f6, f7⟩ := HF.out w8 K8.out
        refine (quorum_is w8 A c B V (E 10) f1 HC.out.1 HL.out.1 f3 f5).mono ?_
        rintro e w10 ⟨rfl, hk10⟩
        rw [HR.out.2.2.2.1]
        have K10 := Lib.hid (above_trans K8.out hk10)
        clear hk10 f1 f2 f3 f5 f6 f7
        go_wp2_with fail
        obtain ⟨f1, f2, f3, _, f5, f6, f7⟩ := HF.out w10 K10.out
        refine (rtotal_is w10 A c V f1 HC.out.1 HL.out.1).mono ?_
        rintro e w11 ⟨rfl, hk11⟩
        rw [HR.out.2.1]
        have K11 := Lib.hid (above_trans K10.out (grown_above hk11))
        clear hk11 f1 f2 f3 f5 f6 f7
        go_wp2_with fail
        obtain ⟨f1, f2, f3, _, f5, f6, f7⟩ := HF.out w11 K11.out
        refine (total_is w11 A c B V (E 10) f1 HC.out.1 HL.out.1 f3 f5).mono ?_
        rintro e w12 ⟨rfl, hk12⟩
        rw [HR.out.2.2.1]
        have K12 := Lib.hid (above_trans K11.out hk12)
        clear hk12 f1 f2 f3 f5 f6 f7
        obtain ⟨_, _, _, _, s1, s2, s3, s4, l1, l2⟩ := HR.out
        go_wp2_with fail
        obtain ⟨en, hen0⟩ : ∃ en, en = enoughS V who := ⟨_, rfl⟩
        obtain ⟨fw, hfw0⟩ : ∃ fw, fw = fewS V who := ⟨_, rfl⟩
        have hen := Lib.hid hen0
        have hfw := Lib.hid hfw0
        clear hen0 hfw0
        obtain ⟨f1, f2, f3, _, f5, f6, f7⟩ := HF.out w12 K12.out
        refine (enough_is w12 A A2 c c2 B V who (E 10) (E 0) (E 16) f1 HC.out.1 HL.out.1 f2 HL.out.2 HC.out.2.2 f3 f5 f6 f7).mono ?_
        rintro e w13 ⟨rfl, hk13⟩
        rw [← hen.out]
        have K13 := Lib.hid (above_trans K12.out hk13)
        clear hk13 f1 f2 f3 f5 f6 f7
        go_wp2_with fail
        obtain ⟨f1, f2, f3, _, f5, f6, f7⟩ := HF.out w13 K13.out
        refine (renough_is w13 A A2 c c2 V who f1 HC.out.1 HL.out.1 HC.out.2.1 f2 HL.out.2 HC.out.2.2).mono ?_
        rintro e w14 ⟨rfl, hk14⟩
        rw [← hen.out]
        have K14 := Lib.hid (above_trans K13.out (grown_above hk14))
        clear hk14 f1 f2 f3 f5 f6 f7
        go_wp2_with fail
        obtain ⟨f1, f2, f3, _, f5, f6, f7⟩ := HF.out w14 K14.out
        refine (few_is w14 A A2 c c2 B V who (E 10) (E 0) (E 16) f1 HC.out.1 HL.out.1 f2 HL.out.2 HC.out.2.2 f3 f5 f6 f7).mono ?_
        rintro e w15 ⟨rfl, hk15⟩
        rw [← hfw.out]
        have K15 := Lib.hid (above_trans K14.out hk15)
        clear hk15 f1 f2 f3 f5 f6 f7
        go_wp2_with fail
        obtain ⟨f1, f2, f3, _, f5, f6, f7⟩ := HF.out w15 K15.out
        refine (rfew_is w15 A A2 c c2 V who f1 HC.out.1 HL.out.1 HC.out.2.1 f2 HL.out.2 HC.out.2.2).mono ?_
        rintro e w16 ⟨rfl, hk16⟩
        rw [← hfw.out]
        have K16 := Lib.hid (above_trans K15.out (grown_above hk16))
        clear hk16 f1 f2 f3 f5 f6 f7 hen hfw
        go_wp2_with fail
        go_ret
        exact ⟨rfl, K16.out⟩
    · have d2 : decide ((40 : Int) < (who.length : Int)) = true := by simp; omega
      have e2 : (40 : Int) < (who.length : Int) := by omega
      clear h30 h31
      go_wp2_with fail
      go_ret
      exact ⟨rfl, K1.out⟩
  · have d1 : decide ((30 : Int) < (V.length : Int)) = true := by simp; omega
    have e1 : (30 : Int) < (V.length : Int) := by omega
    clear h30
    go_wp2_with fail
    go_ret
    exact ⟨rfl, K1.out⟩
end Go.Proofs.YtjoehhchejnhgaaDoor
