/-
  PowersMeet, walked.
-/
import Derived.Test.YtjoehhchejnhgaaDoorPwB
namespace Go.Proofs.YtjoehhchejnhgaaDoor
open Go.RowKit

set_option maxRecDepth 100000 in
set_option maxHeartbeats 4000000 in
theorem meet_any (w : World) (A : Option Addr) (c B : Nat) (V : List Vd) (a b : Int) (es er et : Addr) (hV : VdsAt w A V) (ok : keysOk V) (ha : 0 ≤ a ∧ a < 18446744073709551616) (hb : 0 ≤ b ∧ b < 18446744073709551616)
    (hB : B ≤ w.heap.size) (he : ErrAt w B 2 es) (her : ErrAt w B 0 er) (het : ErrAt w B 1 et) :
    Calls Tryd.prog 5 #[.slice A V.length c, .int .u64 a, .int .u64 b] w fun e w' => e = .returned (.bool true) ∧ Below w.heap.size w w' := by
  have HF := Lib.hid (show ∀ W, Below w.heap.size w W → VdsAt W A V ∧ B ≤ W.heap.size ∧ ErrAt W B 2 es ∧ ErrAt W B 0 er ∧ ErrAt W B 1 et from fun W hW =>
    ⟨hV.above hW, Nat.le_trans hB hW.size, he.above hW hB, her.above hW hB, het.above hW hB⟩)
  have HO := Lib.hid ok
  have HA := Lib.hid ha
  have HB := Lib.hid hb
  have K0 := Lib.hid (Below.refl w.heap.size w)
  clear hV hB he her het ok ha hb
  go_enter Tryd.func5, Tryd.ntmps5
  go_wp2_with fail
  obtain ⟨_, f2, f3, f4, f5⟩ := HF.out w K0.out
  refine (alive_is w B es er et f2 f3 f4 f5).mono ?_
  rintro e w1 ⟨rfl, hk1⟩
  have K1 := Lib.hid hk1
  clear hk1 f2 f3 f4 f5
  by_cases h7 : V.length ≤ 7
  · have d1 : decide ((7 : Int) < (V.length : Int)) = false := by simp; omega
    have e1 : (V.length : Int) ≤ 7 := by omega
    have HL := Lib.hid h7
    clear h7
    go_wp2_with fail
    obtain ⟨f1, f2, f3, f4, f5⟩ := HF.out w1 K1.out
    refine (check_is w1 A c B V es f1 HO.out (by have := HL.out; omega) f3).mono ?_
    rintro e w2 ⟨hk2, ⟨hr, rfl⟩ | ⟨_, rfl⟩⟩
    · have K2 := Lib.hid (above_trans K1.out (grown_above hk2))
      have HR := Lib.hid hr
      clear hk2 f1 f2 f3 f4 f5 hr
      obtain ⟨X, hX⟩ : ∃ X, X = chosenS (bitOf a) V.length := ⟨_, rfl⟩
      obtain ⟨Y, hY⟩ : ∃ Y, Y = chosenS (bitOf b) V.length := ⟨_, rfl⟩
      obtain ⟨Z, hZ⟩ : ∃ Z, Z = chosenS (bitOf (bits .and .u64 a b)) V.length := ⟨_, rfl⟩
      obtain ⟨N, hN⟩ : ∃ N, N = chosenS (bitOf (bits .xor .u64 18446744073709551615 a)) V.length := ⟨_, rfl⟩
      have hl : X.length ≤ 100 ∧ Y.length ≤ 100 ∧ Z.length ≤ 100 ∧ N.length ≤ 100 := by
        have := HL.out
        have h1 := chosenS_length (bitOf a) V.length
        have h2 := chosenS_length (bitOf b) V.length
        have h3 := chosenS_length (bitOf (bits .and .u64 a b)) V.length
        have h4 := chosenS_length (bitOf (bits .xor .u64 18446744073709551615 a)) V.length
        rw [hX, hY, hZ, hN]; omega
      have HX := Lib.hid (And.intro hX (And.intro hY (And.intro hZ (And.intro hN hl))))
      clear hX hY hZ hN hl
      go_wp2_with fail
      refine (chosen_is w2 A V.length c a HL.out HA.out).mono ?_
      rintro e w3 ⟨⟨Ax, cx, rfl, hcx, hix⟩, hk3⟩
      rw [← HX.out.1] at hcx hix ⊢
      have K3 := Lib.hid (above_trans K2.out (grown_above hk3))
      have HX3 := Lib.hid (And.intro hcx hix)
      clear hk3 hcx hix
      go_wp2_with fail
      refine (chosen_is w3 A V.length c b HL.out HB.out).mono ?_
      rintro e w4 ⟨⟨Ay, cy, rfl, hcy, hiy⟩, hk4⟩
      rw [← HX.out.2.1] at hcy hiy ⊢
      have K4 := Lib.hid (above_trans K3.out (grown_above hk4))
      have HY4 := Lib.hid (And.intro hcy (And.intro hiy (HX3.out.2.above (grown_above hk4))))
      clear hk4 hcy hiy
      go_wp2_with fail
      refine (chosen_is w4 A V.length c (bits .and .u64 a b) HL.out (bits_range _ _ _)).mono ?_
      rintro e w5 ⟨⟨Az, cz, rfl, hcz, hiz⟩, hk5⟩
      rw [← HX.out.2.2.1] at hcz hiz ⊢
      have K5 := Lib.hid (above_trans K4.out (grown_above hk5))
      have HC := Lib.hid (And.intro HX3.out.1 (And.intro HY4.out.1 hcz))
      have g1 := HY4.out.2.2.above (grown_above hk5)
      have g2 := HY4.out.2.1.above (grown_above hk5)
      have HI := Lib.hid (show ∀ W, Below w5.heap.size w5 W → IntsAt W Ax X ∧ IntsAt W Ay Y ∧ IntsAt W Az Z ∧ Below w.heap.size w W from fun W hW => ⟨g1.above hW, g2.above hW, hiz.above hW, above_trans K5.out hW⟩)
      clear hk5 hcz hiz g1 g2
      have J5 := Lib.hid (Below.refl w5.heap.size w5)
      have hT := total_bound HR.out
      obtain ⟨T, hTT⟩ : ∃ T, T = (powersOf V).sum := ⟨_, rfl⟩
      have eX : enoughS V X = decide (2 * T < 3 * wB V (bitOf a) V.length) := by rw [HX.out.1, chosen_enough HR.out, hTT]
      have eY : enoughS V Y = decide (2 * T < 3 * wB V (bitOf b) V.length) := by rw [HX.out.2.1, chosen_enough HR.out, hTT]
      have eZ : fewS V Z = decide (3 * wB V (fun i => bitOf a i && bitOf b i) V.length < T) := by
        rw [HX.out.2.2.1, chosen_few HR.out, hTT, wB_congr V V.length fun i _ => bit_and a b HA.out HB.out i]
      have eF : fewS V X = decide (3 * wB V (bitOf a) V.length < T) := by rw [HX.out.1, chosen_few HR.out, hTT]
      have hn64 : ∀ i, i < V.length → bitOf (bits .xor .u64 18446744073709551615 a) i = !bitOf a i := fun i hi => bit_not a HA.out i (by have := HL.out; omega)
      have eN : enoughS V N = decide (2 * T < 3 * wB V (fun i => !bitOf a i) V.length) := by
        rw [HX.out.2.2.2.1, chosen_enough HR.out, hTT, wB_congr V V.length hn64]
      have sX : sumCode V X = 0 ∧ sumVal V X = wB V (bitOf a) V.length := by rw [HX.out.1]; exact ⟨chosen_code HR.out _, chosen_val HR.out _⟩
      have sN : sumCode V N = 0 ∧ sumVal V N = wB V (fun i => !bitOf a i) V.length := by
        rw [HX.out.2.2.2.1]; exact ⟨chosen_code HR.out _, by rw [chosen_val HR.out, wB_congr V V.length hn64]⟩
      have q1 := wB_not V (bitOf a) V.length
      have q2 := wB_and V (bitOf a) (bitOf b) V.length
      have q3 := wB_mono HR.out (b := fun i => bitOf a i || bitOf b i) (c := fun _ => true) V.length (Nat.le_refl _) (fun _ _ _ => rfl)
      rw [wB_total, ← hTT] at q1 q3
      have hTS : totalS V = T := by rw [totalS, if_pos HR.out, hTT]
      obtain ⟨s, hs⟩ : ∃ s, s = wB V (bitOf a) V.length := ⟨_, rfl⟩
      obtain ⟨t, ht⟩ : ∃ t, t = wB V (fun i => !bitOf a i) V.length := ⟨_, rfl⟩
      rw [← hs] at eX eF sX q1
      rw [← ht] at eN sN q1
      have HE1 := Lib.hid (show enoughS V X = true → enoughS V Y = true → fewS V Z = false from fun h1 h2 => by
        rw [eX] at h1; rw [eY] at h2; rw [eZ]
        rw [← hs] at q2
        simp at h1 h2 ⊢; omega)
      have HE2 := Lib.hid (show fewS V X = true → enoughS V N = true from fun h1 => by
        rw [eF] at h1; rw [eN]
        simp at h1 ⊢; omega)
      have hst := sumVal_bound (V := V) HX.out.2.2.2.2.1
      have htt := sumVal_bound (V := V) HX.out.2.2.2.2.2.2.2
      rw [sX.2] at hst
      rw [sN.2] at htt
      have hw : wrap64 (s + t) = T := by rw [w64 _ ⟨by omega, by omega⟩, q1]
      have HS := Lib.hid (And.intro sX (And.intro sN (And.intro hTS hw)))
      clear hT hTT eX eY eZ eF eN sX sN q1 q2 q3 hTS hs ht hn64 hst htt hw
      go_wp2_with fail
      obtain ⟨g1, g2, g3, KW⟩ := HI.out w5 J5.out
      obtain ⟨f1, f2, f3, f4, f5⟩ := HF.out w5 KW
      refine (enough_is w5 A Ax c cx B V X es er et f1 HO.out (by have := HL.out; omega) g1 HX.out.2.2.2.2.1 HC.out.1 f2 f3 f4 f5).mono ?_
      rintro e x1 ⟨rfl, hk⟩
      have X1 := Lib.hid (above_trans J5.out hk)
      clear hk
      clear f1 f2 f3 f4 f5 g1 g2 g3 KW
      cases hx : enoughS V X with
      | false =>
        clear hx
        go_wp2_with fail
        obtain ⟨g1, g2, g3, KW⟩ := HI.out x1 X1.out
        obtain ⟨f1, f2, f3, f4, f5⟩ := HF.out x1 KW
        refine (few_is x1 A Ax c cx B V X es er et f1 HO.out (by have := HL.out; omega) g1 HX.out.2.2.2.2.1 HC.out.1 f2 f3 f4 f5).mono ?_
        rintro e y1 ⟨rfl, hk⟩
        have Y1 := Lib.hid (above_trans X1.out hk)
        clear hk
        clear f1 f2 f3 f4 f5 g1 g2 g3 KW
        cases hf : fewS V X with
        | false =>
          clear hf
          go_wp2_with fail
          obtain ⟨g1, g2, g3, KW⟩ := HI.out y1 Y1.out
          obtain ⟨f1, f2, f3, f4, f5⟩ := HF.out y1 KW
          refine (sum_is y1 A Ax c cx B V X es er et f1 HO.out (by have := HL.out; omega) g1 HX.out.2.2.2.2.1 HC.out.1 f2 f3 f4 f5).mono ?_
          rintro e z1 ⟨rfl, hk⟩
          have Z1 := Lib.hid (above_trans Y1.out hk)
          clear hk
          clear f1 f2 f3 f4 f5 g1 g2 g3 KW
          rw [HS.out.1.1, HS.out.1.2, codeV]
          go_wp2_with fail
          refine (chosen_is z1 A V.length c (bits .xor .u64 18446744073709551615 a) HL.out (bits_range _ _ _)).mono ?_
          rintro e z2 ⟨⟨An, cn, rfl, hcn, hin⟩, hk⟩
          rw [← HX.out.2.2.2.1] at hcn hin ⊢
          have Z2 := Lib.hid (above_trans Z1.out (grown_above hk))
          have HNN := Lib.hid (And.intro hcn hin)
          clear hk hcn hin
          go_wp2_with fail
          obtain ⟨g1, g2, g3, KW⟩ := HI.out z2 Z2.out
          obtain ⟨f1, f2, f3, f4, f5⟩ := HF.out z2 KW
          refine (sum_is z2 A An c cn B V N es er et f1 HO.out (by have := HL.out; omega) HNN.out.2 HX.out.2.2.2.2.2.2.2 HNN.out.1 f2 f3 f4 f5).mono ?_
          rintro e z3 ⟨rfl, hk⟩
          have Z3 := Lib.hid (above_trans Z2.out hk)
          clear hk
          clear f1 f2 f3 f4 f5 g1 g2 g3 KW
          rw [HS.out.2.1.1, HS.out.2.1.2, codeV]
          go_wp2_with fail
          obtain ⟨g1, g2, g3, KW⟩ := HI.out z3 Z3.out
          obtain ⟨f1, f2, f3, f4, f5⟩ := HF.out z3 KW
          refine (total_is z3 A c B V es f1 HO.out (by have := HL.out; omega) f2 f3).mono ?_
          rintro e z4 ⟨rfl, hk⟩
          rw [HS.out.2.2.1]
          have Z4 := Lib.hid (above_trans Z3.out hk)
          clear hk
          clear f1 f2 f3 f4 f5 g1 g2 g3 KW
          have hw := HS.out.2.2.2
          go_wp2_with fail
          go_ret
          exact ⟨rfl, (HI.out z4 Z4.out).2.2.2⟩
        | true =>
          have HEN := Lib.hid (HE2.out hf)
          clear hf
          go_wp2_with fail
          refine (chosen_is y1 A V.length c (bits .xor .u64 18446744073709551615 a) HL.out (bits_range _ _ _)).mono ?_
          rintro e y2 ⟨⟨An, cn, rfl, hcn, hin⟩, hk⟩
          rw [← HX.out.2.2.2.1] at hcn hin ⊢
          have Y2 := Lib.hid (above_trans Y1.out (grown_above hk))
          have HNN := Lib.hid (And.intro hcn hin)
          clear hk hcn hin
          go_wp2_with fail
          obtain ⟨g1, g2, g3, KW⟩ := HI.out y2 Y2.out
          obtain ⟨f1, f2, f3, f4, f5⟩ := HF.out y2 KW
          refine (enough_is y2 A An c cn B V N es er et f1 HO.out (by have := HL.out; omega) HNN.out.2 HX.out.2.2.2.2.2.2.2 HNN.out.1 f2 f3 f4 f5).mono ?_
          rintro e y3 ⟨rfl, hk⟩
          have Y3 := Lib.hid (above_trans Y2.out hk)
          clear hk
          clear f1 f2 f3 f4 f5 g1 g2 g3 KW
          rw [HEN.out]
          go_wp2_with fail
          obtain ⟨g1, g2, g3, KW⟩ := HI.out y3 Y3.out
          obtain ⟨f1, f2, f3, f4, f5⟩ := HF.out y3 KW
          refine (sum_is y3 A Ax c cx B V X es er et f1 HO.out (by have := HL.out; omega) g1 HX.out.2.2.2.2.1 HC.out.1 f2 f3 f4 f5).mono ?_
          rintro e z1 ⟨rfl, hk⟩
          have Z1 := Lib.hid (above_trans Y3.out hk)
          clear hk
          clear f1 f2 f3 f4 f5 g1 g2 g3 KW
          rw [HS.out.1.1, HS.out.1.2, codeV]
          go_wp2_with fail
          refine (chosen_is z1 A V.length c (bits .xor .u64 18446744073709551615 a) HL.out (bits_range _ _ _)).mono ?_
          rintro e z2 ⟨⟨An, cn, rfl, hcn, hin⟩, hk⟩
          rw [← HX.out.2.2.2.1] at hcn hin ⊢
          have Z2 := Lib.hid (above_trans Z1.out (grown_above hk))
          have HNN := Lib.hid (And.intro hcn hin)
          clear hk hcn hin
          go_wp2_with fail
          obtain ⟨g1, g2, g3, KW⟩ := HI.out z2 Z2.out
          obtain ⟨f1, f2, f3, f4, f5⟩ := HF.out z2 KW
          refine (sum_is z2 A An c cn B V N es er et f1 HO.out (by have := HL.out; omega) HNN.out.2 HX.out.2.2.2.2.2.2.2 HNN.out.1 f2 f3 f4 f5).mono ?_
          rintro e z3 ⟨rfl, hk⟩
          have Z3 := Lib.hid (above_trans Z2.out hk)
          clear hk
          clear f1 f2 f3 f4 f5 g1 g2 g3 KW
          rw [HS.out.2.1.1, HS.out.2.1.2, codeV]
          go_wp2_with fail
          obtain ⟨g1, g2, g3, KW⟩ := HI.out z3 Z3.out
          obtain ⟨f1, f2, f3, f4, f5⟩ := HF.out z3 KW
          refine (total_is z3 A c B V es f1 HO.out (by have := HL.out; omega) f2 f3).mono ?_
          rintro e z4 ⟨rfl, hk⟩
          rw [HS.out.2.2.1]
          have Z4 := Lib.hid (above_trans Z3.out hk)
          clear hk
          clear f1 f2 f3 f4 f5 g1 g2 g3 KW
          have hw := HS.out.2.2.2
          go_wp2_with fail
          go_ret
          exact ⟨rfl, (HI.out z4 Z4.out).2.2.2⟩
      | true =>
        go_wp2_with fail
        obtain ⟨g1, g2, g3, KW⟩ := HI.out x1 X1.out
        obtain ⟨f1, f2, f3, f4, f5⟩ := HF.out x1 KW
        refine (enough_is x1 A Ay c cy B V Y es er et f1 HO.out (by have := HL.out; omega) g2 HX.out.2.2.2.2.2.1 HC.out.2.1 f2 f3 f4 f5).mono ?_
        rintro e x2 ⟨rfl, hk⟩
        have X2 := Lib.hid (above_trans X1.out hk)
        clear hk
        clear f1 f2 f3 f4 f5 g1 g2 g3 KW
        cases hy : enoughS V Y with
        | false =>
          clear hx hy
          go_wp2_with fail
          obtain ⟨g1, g2, g3, KW⟩ := HI.out x2 X2.out
          obtain ⟨f1, f2, f3, f4, f5⟩ := HF.out x2 KW
          refine (few_is x2 A Ax c cx B V X es er et f1 HO.out (by have := HL.out; omega) g1 HX.out.2.2.2.2.1 HC.out.1 f2 f3 f4 f5).mono ?_
          rintro e y1 ⟨rfl, hk⟩
          have Y1 := Lib.hid (above_trans X2.out hk)
          clear hk
          clear f1 f2 f3 f4 f5 g1 g2 g3 KW
          cases hf : fewS V X with
          | false =>
            clear hf
            go_wp2_with fail
            obtain ⟨g1, g2, g3, KW⟩ := HI.out y1 Y1.out
            obtain ⟨f1, f2, f3, f4, f5⟩ := HF.out y1 KW
            refine (sum_is y1 A Ax c cx B V X es er et f1 HO.out (by have := HL.out; omega) g1 HX.out.2.2.2.2.1 HC.out.1 f2 f3 f4 f5).mono ?_
            rintro e z1 ⟨rfl, hk⟩
            have Z1 := Lib.hid (above_trans Y1.out hk)
            clear hk
            clear f1 f2 f3 f4 f5 g1 g2 g3 KW
            rw [HS.out.1.1, HS.out.1.2, codeV]
            go_wp2_with fail
            refine (chosen_is z1 A V.length c (bits .xor .u64 18446744073709551615 a) HL.out (bits_range _ _ _)).mono ?_
            rintro e z2 ⟨⟨An, cn, rfl, hcn, hin⟩, hk⟩
            rw [← HX.out.2.2.2.1] at hcn hin ⊢
            have Z2 := Lib.hid (above_trans Z1.out (grown_above hk))
            have HNN := Lib.hid (And.intro hcn hin)
            clear hk hcn hin
            go_wp2_with fail
            obtain ⟨g1, g2, g3, KW⟩ := HI.out z2 Z2.out
            obtain ⟨f1, f2, f3, f4, f5⟩ := HF.out z2 KW
            refine (sum_is z2 A An c cn B V N es er et f1 HO.out (by have := HL.out; omega) HNN.out.2 HX.out.2.2.2.2.2.2.2 HNN.out.1 f2 f3 f4 f5).mono ?_
            rintro e z3 ⟨rfl, hk⟩
            have Z3 := Lib.hid (above_trans Z2.out hk)
            clear hk
            clear f1 f2 f3 f4 f5 g1 g2 g3 KW
            rw [HS.out.2.1.1, HS.out.2.1.2, codeV]
            go_wp2_with fail
            obtain ⟨g1, g2, g3, KW⟩ := HI.out z3 Z3.out
            obtain ⟨f1, f2, f3, f4, f5⟩ := HF.out z3 KW
            refine (total_is z3 A c B V es f1 HO.out (by have := HL.out; omega) f2 f3).mono ?_
            rintro e z4 ⟨rfl, hk⟩
            rw [HS.out.2.2.1]
            have Z4 := Lib.hid (above_trans Z3.out hk)
            clear hk
            clear f1 f2 f3 f4 f5 g1 g2 g3 KW
            have hw := HS.out.2.2.2
            go_wp2_with fail
            go_ret
            exact ⟨rfl, (HI.out z4 Z4.out).2.2.2⟩
          | true =>
            have HEN := Lib.hid (HE2.out hf)
            clear hf
            go_wp2_with fail
            refine (chosen_is y1 A V.length c (bits .xor .u64 18446744073709551615 a) HL.out (bits_range _ _ _)).mono ?_
            rintro e y2 ⟨⟨An, cn, rfl, hcn, hin⟩, hk⟩
            rw [← HX.out.2.2.2.1] at hcn hin ⊢
            have Y2 := Lib.hid (above_trans Y1.out (grown_above hk))
            have HNN := Lib.hid (And.intro hcn hin)
            clear hk hcn hin
            go_wp2_with fail
            obtain ⟨g1, g2, g3, KW⟩ := HI.out y2 Y2.out
            obtain ⟨f1, f2, f3, f4, f5⟩ := HF.out y2 KW
            refine (enough_is y2 A An c cn B V N es er et f1 HO.out (by have := HL.out; omega) HNN.out.2 HX.out.2.2.2.2.2.2.2 HNN.out.1 f2 f3 f4 f5).mono ?_
            rintro e y3 ⟨rfl, hk⟩
            have Y3 := Lib.hid (above_trans Y2.out hk)
            clear hk
            clear f1 f2 f3 f4 f5 g1 g2 g3 KW
            rw [HEN.out]
            go_wp2_with fail
            obtain ⟨g1, g2, g3, KW⟩ := HI.out y3 Y3.out
            obtain ⟨f1, f2, f3, f4, f5⟩ := HF.out y3 KW
            refine (sum_is y3 A Ax c cx B V X es er et f1 HO.out (by have := HL.out; omega) g1 HX.out.2.2.2.2.1 HC.out.1 f2 f3 f4 f5).mono ?_
            rintro e z1 ⟨rfl, hk⟩
            have Z1 := Lib.hid (above_trans Y3.out hk)
            clear hk
            clear f1 f2 f3 f4 f5 g1 g2 g3 KW
            rw [HS.out.1.1, HS.out.1.2, codeV]
            go_wp2_with fail
            refine (chosen_is z1 A V.length c (bits .xor .u64 18446744073709551615 a) HL.out (bits_range _ _ _)).mono ?_
            rintro e z2 ⟨⟨An, cn, rfl, hcn, hin⟩, hk⟩
            rw [← HX.out.2.2.2.1] at hcn hin ⊢
            have Z2 := Lib.hid (above_trans Z1.out (grown_above hk))
            have HNN := Lib.hid (And.intro hcn hin)
            clear hk hcn hin
            go_wp2_with fail
            obtain ⟨g1, g2, g3, KW⟩ := HI.out z2 Z2.out
            obtain ⟨f1, f2, f3, f4, f5⟩ := HF.out z2 KW
            refine (sum_is z2 A An c cn B V N es er et f1 HO.out (by have := HL.out; omega) HNN.out.2 HX.out.2.2.2.2.2.2.2 HNN.out.1 f2 f3 f4 f5).mono ?_
            rintro e z3 ⟨rfl, hk⟩
            have Z3 := Lib.hid (above_trans Z2.out hk)
            clear hk
            clear f1 f2 f3 f4 f5 g1 g2 g3 KW
            rw [HS.out.2.1.1, HS.out.2.1.2, codeV]
            go_wp2_with fail
            obtain ⟨g1, g2, g3, KW⟩ := HI.out z3 Z3.out
            obtain ⟨f1, f2, f3, f4, f5⟩ := HF.out z3 KW
            refine (total_is z3 A c B V es f1 HO.out (by have := HL.out; omega) f2 f3).mono ?_
            rintro e z4 ⟨rfl, hk⟩
            rw [HS.out.2.2.1]
            have Z4 := Lib.hid (above_trans Z3.out hk)
            clear hk
            clear f1 f2 f3 f4 f5 g1 g2 g3 KW
            have hw := HS.out.2.2.2
            go_wp2_with fail
            go_ret
            exact ⟨rfl, (HI.out z4 Z4.out).2.2.2⟩
        | true =>
          have HEZ := Lib.hid (HE1.out hx hy)
          clear hx hy
          go_wp2_with fail
          obtain ⟨g1, g2, g3, KW⟩ := HI.out x2 X2.out
          obtain ⟨f1, f2, f3, f4, f5⟩ := HF.out x2 KW
          refine (few_is x2 A Az c cz B V Z es er et f1 HO.out (by have := HL.out; omega) g3 HX.out.2.2.2.2.2.2.1 HC.out.2.2 f2 f3 f4 f5).mono ?_
          rintro e x3 ⟨rfl, hk⟩
          have X3 := Lib.hid (above_trans X2.out hk)
          clear hk
          clear f1 f2 f3 f4 f5 g1 g2 g3 KW
          rw [HEZ.out]
          go_wp2_with fail
          obtain ⟨g1, g2, g3, KW⟩ := HI.out x3 X3.out
          obtain ⟨f1, f2, f3, f4, f5⟩ := HF.out x3 KW
          refine (few_is x3 A Ax c cx B V X es er et f1 HO.out (by have := HL.out; omega) g1 HX.out.2.2.2.2.1 HC.out.1 f2 f3 f4 f5).mono ?_
          rintro e y1 ⟨rfl, hk⟩
          have Y1 := Lib.hid (above_trans X3.out hk)
          clear hk
          clear f1 f2 f3 f4 f5 g1 g2 g3 KW
          cases hf : fewS V X with
          | false =>
            clear hf
            go_wp2_with fail
            obtain ⟨g1, g2, g3, KW⟩ := HI.out y1 Y1.out
            obtain ⟨f1, f2, f3, f4, f5⟩ := HF.out y1 KW
            refine (sum_is y1 A Ax c cx B V X es er et f1 HO.out (by have := HL.out; omega) g1 HX.out.2.2.2.2.1 HC.out.1 f2 f3 f4 f5).mono ?_
            rintro e z1 ⟨rfl, hk⟩
            have Z1 := Lib.hid (above_trans Y1.out hk)
            clear hk
            clear f1 f2 f3 f4 f5 g1 g2 g3 KW
            rw [HS.out.1.1, HS.out.1.2, codeV]
            go_wp2_with fail
            refine (chosen_is z1 A V.length c (bits .xor .u64 18446744073709551615 a) HL.out (bits_range _ _ _)).mono ?_
            rintro e z2 ⟨⟨An, cn, rfl, hcn, hin⟩, hk⟩
            rw [← HX.out.2.2.2.1] at hcn hin ⊢
            have Z2 := Lib.hid (above_trans Z1.out (grown_above hk))
            have HNN := Lib.hid (And.intro hcn hin)
            clear hk hcn hin
            go_wp2_with fail
            obtain ⟨g1, g2, g3, KW⟩ := HI.out z2 Z2.out
            obtain ⟨f1, f2, f3, f4, f5⟩ := HF.out z2 KW
            refine (sum_is z2 A An c cn B V N es er et f1 HO.out (by have := HL.out; omega) HNN.out.2 HX.out.2.2.2.2.2.2.2 HNN.out.1 f2 f3 f4 f5).mono ?_
            rintro e z3 ⟨rfl, hk⟩
            have Z3 := Lib.hid (above_trans Z2.out hk)
            clear hk
            clear f1 f2 f3 f4 f5 g1 g2 g3 KW
            rw [HS.out.2.1.1, HS.out.2.1.2, codeV]
            go_wp2_with fail
            obtain ⟨g1, g2, g3, KW⟩ := HI.out z3 Z3.out
            obtain ⟨f1, f2, f3, f4, f5⟩ := HF.out z3 KW
            refine (total_is z3 A c B V es f1 HO.out (by have := HL.out; omega) f2 f3).mono ?_
            rintro e z4 ⟨rfl, hk⟩
            rw [HS.out.2.2.1]
            have Z4 := Lib.hid (above_trans Z3.out hk)
            clear hk
            clear f1 f2 f3 f4 f5 g1 g2 g3 KW
            have hw := HS.out.2.2.2
            go_wp2_with fail
            go_ret
            exact ⟨rfl, (HI.out z4 Z4.out).2.2.2⟩
          | true =>
            have HEN := Lib.hid (HE2.out hf)
            clear hf
            go_wp2_with fail
            refine (chosen_is y1 A V.length c (bits .xor .u64 18446744073709551615 a) HL.out (bits_range _ _ _)).mono ?_
            rintro e y2 ⟨⟨An, cn, rfl, hcn, hin⟩, hk⟩
            rw [← HX.out.2.2.2.1] at hcn hin ⊢
            have Y2 := Lib.hid (above_trans Y1.out (grown_above hk))
            have HNN := Lib.hid (And.intro hcn hin)
            clear hk hcn hin
            go_wp2_with fail
            obtain ⟨g1, g2, g3, KW⟩ := HI.out y2 Y2.out
            obtain ⟨f1, f2, f3, f4, f5⟩ := HF.out y2 KW
            refine (enough_is y2 A An c cn B V N es er et f1 HO.out (by have := HL.out; omega) HNN.out.2 HX.out.2.2.2.2.2.2.2 HNN.out.1 f2 f3 f4 f5).mono ?_
            rintro e y3 ⟨rfl, hk⟩
            have Y3 := Lib.hid (above_trans Y2.out hk)
            clear hk
            clear f1 f2 f3 f4 f5 g1 g2 g3 KW
            rw [HEN.out]
            go_wp2_with fail
            obtain ⟨g1, g2, g3, KW⟩ := HI.out y3 Y3.out
            obtain ⟨f1, f2, f3, f4, f5⟩ := HF.out y3 KW
            refine (sum_is y3 A Ax c cx B V X es er et f1 HO.out (by have := HL.out; omega) g1 HX.out.2.2.2.2.1 HC.out.1 f2 f3 f4 f5).mono ?_
            rintro e z1 ⟨rfl, hk⟩
            have Z1 := Lib.hid (above_trans Y3.out hk)
            clear hk
            clear f1 f2 f3 f4 f5 g1 g2 g3 KW
            rw [HS.out.1.1, HS.out.1.2, codeV]
            go_wp2_with fail
            refine (chosen_is z1 A V.length c (bits .xor .u64 18446744073709551615 a) HL.out (bits_range _ _ _)).mono ?_
            rintro e z2 ⟨⟨An, cn, rfl, hcn, hin⟩, hk⟩
            rw [← HX.out.2.2.2.1] at hcn hin ⊢
            have Z2 := Lib.hid (above_trans Z1.out (grown_above hk))
            have HNN := Lib.hid (And.intro hcn hin)
            clear hk hcn hin
            go_wp2_with fail
            obtain ⟨g1, g2, g3, KW⟩ := HI.out z2 Z2.out
            obtain ⟨f1, f2, f3, f4, f5⟩ := HF.out z2 KW
            refine (sum_is z2 A An c cn B V N es er et f1 HO.out (by have := HL.out; omega) HNN.out.2 HX.out.2.2.2.2.2.2.2 HNN.out.1 f2 f3 f4 f5).mono ?_
            rintro e z3 ⟨rfl, hk⟩
            have Z3 := Lib.hid (above_trans Z2.out hk)
            clear hk
            clear f1 f2 f3 f4 f5 g1 g2 g3 KW
            rw [HS.out.2.1.1, HS.out.2.1.2, codeV]
            go_wp2_with fail
            obtain ⟨g1, g2, g3, KW⟩ := HI.out z3 Z3.out
            obtain ⟨f1, f2, f3, f4, f5⟩ := HF.out z3 KW
            refine (total_is z3 A c B V es f1 HO.out (by have := HL.out; omega) f2 f3).mono ?_
            rintro e z4 ⟨rfl, hk⟩
            rw [HS.out.2.2.1]
            have Z4 := Lib.hid (above_trans Z3.out hk)
            clear hk
            clear f1 f2 f3 f4 f5 g1 g2 g3 KW
            have hw := HS.out.2.2.2
            go_wp2_with fail
            go_ret
            exact ⟨rfl, (HI.out z4 Z4.out).2.2.2⟩
    · have K2 := Lib.hid (above_trans K1.out (grown_above hk2))
      clear hk2 f1 f2 f3 f4 f5
      go_wp2_with fail
      go_ret
      exact ⟨rfl, K2.out⟩
  · have d1 : decide ((7 : Int) < (V.length : Int)) = true := by simp; omega
    have e1 : (7 : Int) < (V.length : Int) := by omega
    clear h7
    go_wp2_with fail
    go_ret
    exact ⟨rfl, K1.out⟩
end Go.Proofs.YtjoehhchejnhgaaDoor
