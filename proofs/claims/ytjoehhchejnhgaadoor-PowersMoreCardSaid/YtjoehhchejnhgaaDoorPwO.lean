/-
  PowersMore, walked.
-/
import Derived.Test.YtjoehhchejnhgaaDoorPwB
namespace Go.Proofs.YtjoehhchejnhgaaDoor
open Go.RowKit

theorem sum_append_int (a b : List Int) : (a ++ b).sum = a.sum + b.sum := List.sum_append
theorem sum_reverse_int : ∀ l : List Int, l.reverse.sum = l.sum
  | [] => rfl
  | x :: l => by rw [List.reverse_cons, sum_append_int, sum_reverse_int l]; simp; omega
theorem rev_code (V : List Vd) (who : List Int) : sumCode V who.reverse = sumCode V who ∧ sumVal V who.reverse = sumVal V who := by
  have h1 : inR V who.reverse = inR V who := by
    rw [Bool.eq_iff_iff, inR_iff, inR_iff]; simp
  have h2 : sumCode V who.reverse = sumCode V who := by
    have h0 : who.reverse.Nodup ↔ who.Nodup := (List.reverse_perm who).nodup_iff
    simp [sumCode, h1, h0]
  refine ⟨h2, ?_⟩
  rw [sumVal, sumVal, h2, powersAt, powersAt, List.map_reverse, sum_reverse_int]
theorem drop_rev (l : List Int) (k : Nat) (h : k < l.length) : (l.drop k).reverse = (l.drop (k + 1)).reverse ++ [l[k]] := by
  rw [List.drop_eq_getElem_cons h, List.reverse_cons]
theorem none_enough {V : List Vd} (hr : rightS V = true) : enoughS V [] = false ∧ fewS V [] = true := by
  have hT := total_bound hr
  have h0 : sumCode V [] = 0 := by simp [sumCode, hr, inR]
  have hv : sumVal V [] = 0 := by rw [sumVal, if_pos h0]; rfl
  refine ⟨?_, ?_⟩
  · rw [enoughS, h0, hv, quorumS, if_pos hr]; simp; omega
  · rw [fewS, h0, hv, totalS, if_pos hr]; simp; omega
theorem bit127 (i : Nat) (h : i < 7) : bitOf 127 i = true := by
  have : i = 0 ∨ i = 1 ∨ i = 2 ∨ i = 3 ∨ i = 4 ∨ i = 5 ∨ i = 6 := by omega
  rcases this with rfl | rfl | rfl | rfl | rfl | rfl | rfl <;> rfl

set_option maxRecDepth 100000 in
set_option maxHeartbeats 4000000 in
theorem more_any (w : World) (A : Option Addr) (c B : Nat) (V : List Vd) (a more : Int) (es er et : Addr) (hV : VdsAt w A V) (ok : keysOk V) (ha : 0 ≤ a ∧ a < 18446744073709551616)
    (hB : B ≤ w.heap.size) (he : ErrAt w B 2 es) (her : ErrAt w B 0 er) (het : ErrAt w B 1 et) :
    Calls Tryd.prog 6 #[.slice A V.length c, .int .u64 a, .int .i64 more] w fun e w' => e = .returned (.bool true) ∧ Below w.heap.size w w' := by
  obtain ⟨i0, hi0, hz0, hz1, hz2⟩ := info_parts int_info
  have HI0 := Lib.hid (And.intro hi0 (And.intro hz0 (And.intro hz1 hz2)))
  have HF := Lib.hid (show ∀ W, Below w.heap.size w W → VdsAt W A V ∧ B ≤ W.heap.size ∧ ErrAt W B 2 es ∧ ErrAt W B 0 er ∧ ErrAt W B 1 et from fun W hW =>
    ⟨hV.above hW, Nat.le_trans hB hW.size, he.above hW hB, her.above hW hB, het.above hW hB⟩)
  have HO := Lib.hid ok
  have HA := Lib.hid ha
  have K0 := Lib.hid (Below.refl w.heap.size w)
  clear hV hB he her het ok ha hi0 hz0 hz1 hz2
  go_enter Tryd.func6, Tryd.ntmps6
  go_wp2_with fail
  obtain ⟨_, f2, f3, f4, f5⟩ := HF.out w K0.out
  refine (alive_is w B es er et f2 f3 f4 f5).mono ?_
  rintro e w1 ⟨rfl, hk1⟩
  have K1 := Lib.hid hk1
  clear hk1 f2 f3 f4 f5
  by_cases h7 : V.length ≤ 7
  · have d1 : decide ((7 : Int) < (V.length : Int)) = false := by simp; omega
    have e1 : (V.length : Int) ≤ 7 := by omega
    have HL := Lib.hid h7
    clear h7
    go_wp2_with fail
    obtain ⟨f1, f2, f3, f4, f5⟩ := HF.out w1 K1.out
    refine (check_is w1 A c B V es f1 HO.out (by have := HL.out; omega) f3).mono ?_
    rintro e w2 ⟨hk2, ⟨hr, rfl⟩ | ⟨_, rfl⟩⟩
    · have K2 := Lib.hid (above_trans K1.out (grown_above hk2))
      have HR := Lib.hid hr
      clear hk2 f1 f2 f3 f4 f5 hr
      obtain ⟨X, hX⟩ : ∃ X, X = chosenS (bitOf a) V.length := ⟨_, rfl⟩
      have hlX : X.length ≤ 7 := by
        have := HL.out
        have h1 := chosenS_length (bitOf a) V.length
        rw [hX]; omega
      have HX := Lib.hid (And.intro hX hlX)
      clear hX hlX
      go_wp2_with fail
      refine (chosen_is w2 A V.length c a HL.out HA.out).mono ?_
      rintro e w3 ⟨⟨Ax, cx, rfl, hcx, hix⟩, hk3⟩
      rw [← HX.out.1] at hcx hix ⊢
      have K3 := Lib.hid (above_trans K2.out (grown_above hk3))
      have HX3 := Lib.hid (And.intro hcx hix)
      have hown := World.ownsRow_lit (base := w3.heap.size) (e := 3) (size := 1) w3 #[] 0 (by omega) (by decide) rfl
      have HOWN := Lib.hid hown
      have el : (X.length : Int) ≤ 7 := by have := HX.out.2; omega
      clear hk3 hcx hix hown
      go_wp2_with fail
      go_loopw [8, 9] (fun v i wr => ∃ k : Nat, k ≤ X.length ∧ i = .int .i64 ((k : Int) - 1) ∧ wr.ownsRow w3.heap.size 3 1 v (X.drop k).reverse.length ((X.drop k).reverse.map (Value.int .i64)) ∧ w3.grownBy wr none) (fun _ i _ => (intOf i + 1).toNat)
      case atStart => exact ⟨X.length, by omega, rfl, by simpa using HOWN.out, World.grownBy_alloc _ _ none⟩
      case round =>
        obtain ⟨k, hkl, hi, hown, hK⟩ := hrel
        obtain ⟨I, hI⟩ : ∃ I : Int, I = (k : Int) - 1 := ⟨_, rfl⟩
        rw [← hI] at hi
        subst hi
        by_cases hlt : 0 < k
        · have d3 : decide (0 ≤ I) = true := by simp; omega
          have hIV : I < (X.length : Int) := by omega
          have hI0 : 0 ≤ I ∧ I < 1000 := by omega
          have hm : k - 1 < X.length := by omega
          obtain ⟨b, off, rfl, hc⟩ := (HX3.out.2.above (grown_above hK)).get (by rintro e; rw [e] at hm; simp at hm)
          obtain ⟨y, hy⟩ : ∃ y, y = X[k - 1] := ⟨_, rfl⟩
          have c1 : wr.cell? ⟨b, off + I.toNat, none⟩ = some (.int .i64 y) := by rw [show I.toNat = k - 1 by omega, hy]; exact hc (k - 1) hm
          have hdr := drop_rev X (k - 1) hm
          rw [← hy, show k - 1 + 1 = k by omega] at hdr
          have hN : (X.drop k).reverse.length ≤ 7 := by rw [List.length_reverse, List.length_drop]; have := HX.out.2; omega
          have HN := Lib.hid (And.intro hdr (And.intro hI (And.intro hlt (And.intro hkl hN))))
          have HOW := Lib.hid hown
          have HG := Lib.hid hK
          have hw1 : wrap64 (I - 1) = I - 1 := w64 _ ⟨by omega, by omega⟩
          clear hdr hI hlt hkl hN hown hK hc hm hy
          go_wp2_with (at_builtin; refine wpList_append_one rfl _ _ 23 rfl w3.heap.size 3 _ i0 Tryd.underlying23 HI0.out.1 HI0.out.2.1 HI0.out.2.2.1 HI0.out.2.2.2 _ _ _ rfl HOW.out y rfl (by have := HN.out.2.2.2.2; omega) HG.out.size ?_; intro v' w4 hown4 hgrow; have HO4 := Lib.hid hown4; have HG4 := Lib.hid (grown_own HG.out hgrow HOW.out (Nat.le_refl _)); clear hown4 hgrow)
          go_wp2_with fail
          go_roundw
          case rel =>
            obtain ⟨hdr, hI, hlt, hkl, hN⟩ := HN.out
            refine ⟨k - 1, by omega, by rw [hI]; congr 1; omega, ?_, HG4.out⟩
            rw [hdr, List.map_append, List.length_append]
            exact HO4.out
          case measure => obtain ⟨hdr, hI, hlt, hkl, hN⟩ := HN.out; simp [intOf]; omega
        · obtain rfl : k = 0 := by omega
          have d3 : decide (0 ≤ I) = false := by simp; omega
          rw [List.drop_zero] at hown
          obtain ⟨Ar, cr, rfl, hcr, hir⟩ := own_ints hown
          obtain ⟨R, hR⟩ : ∃ R, R = X.reverse := ⟨_, rfl⟩
          rw [← hR] at hcr hir ⊢
          have K4 := Lib.hid (above_trans K3.out (grown_above hK))
          have HX4 := Lib.hid (HX3.out.2.above (grown_above hK))
          have HCX := Lib.hid HX3.out.1
          have HRR := Lib.hid (And.intro hR (And.intro hcr hir))
          have J4 := Lib.hid (Below.refl wr.heap.size wr)
          have g1 := HX4.out
          have HI := Lib.hid (show ∀ W, Below wr.heap.size wr W → IntsAt W Ax X ∧ IntsAt W Ar R ∧ Below w.heap.size w W from fun W hW => ⟨g1.above hW, hir.above hW, above_trans K4.out hW⟩)
          have hT := total_bound HR.out
          obtain ⟨T, hTT⟩ : ∃ T, T = (powersOf V).sum := ⟨_, rfl⟩
          have n1 : (1 : Int) ≤ (V.length : Int) := by have := (right_powers HR.out).2.1; omega
          obtain ⟨m, hm⟩ : ∃ m, m = (IntKind.u64.wrap more).tmod (V.length : Int) := ⟨_, rfl⟩
          have hwr : 0 ≤ IntKind.u64.wrap more := by rw [IntKind.wrap_u64]; omega
          have hm0 : 0 ≤ m ∧ m < (V.length : Int) := by rw [hm]; exact ⟨Int.tmod_nonneg _ hwr, Int.tmod_lt_of_pos _ (by omega)⟩
          obtain ⟨z, hz⟩ : ∃ z, z = bits .or .u64 a (2 ^ m.toNat) := ⟨_, rfl⟩
          have hpw : (2 : Int) ^ m.toNat = ((2 ^ m.toNat : Nat) : Int) := by simp
          have hpl : 2 ^ m.toNat < 18446744073709551616 := Nat.lt_of_lt_of_le (Nat.pow_lt_pow_right (by omega) (show m.toNat < 64 by have := HL.out; omega)) (by decide)
          have hpr : 0 ≤ (2 : Int) ^ m.toNat ∧ (2 : Int) ^ m.toNat < 18446744073709551616 := by
            rw [hpw]; exact ⟨Int.natCast_nonneg _, show ((2 ^ m.toNat : Nat) : Int) < ((18446744073709551616 : Nat) : Int) from Int.ofNat_lt.2 hpl⟩
          have HPR := Lib.hid (show IntKind.u64.wrap ((2 : Int) ^ m.toNat) = (2 : Int) ^ m.toNat by rw [IntKind.wrap_u64, Int.emod_eq_of_lt hpr.1 hpr.2])
          have HZR := Lib.hid (show 0 ≤ z ∧ z < 18446744073709551616 by rw [hz]; exact bits_range _ _ _)
          obtain ⟨U, hU⟩ : ∃ U, U = chosenS (bitOf z) V.length := ⟨_, rfl⟩
          have hUm : ∀ i, i < V.length → bitOf a i = true → bitOf z i = true := fun i _ h => by
            rw [hz, bit_or a _ HA.out hpr, h]; rfl
          obtain ⟨Q, hQ⟩ : ∃ Q, Q = chosenS (bitOf 127) V.length := ⟨_, rfl⟩
          have hq : wB V (bitOf 127) V.length = T := by
            rw [wB_congr V V.length (b' := fun _ => true) fun i hi => bit127 i (by have := HL.out; omega), wB_total, hTT]
          have mono := wB_mono HR.out V.length (Nat.le_refl _) hUm
          have hUl : U.length ≤ 7 := by rw [hU]; have := chosenS_length (bitOf z) V.length; have := HL.out; omega
          have hQl : Q.length ≤ 7 := by rw [hQ]; have := chosenS_length (bitOf 127) V.length; have := HL.out; omega
          have eX : enoughS V X = decide (2 * T < 3 * wB V (bitOf a) V.length) := by rw [HX.out.1, chosen_enough HR.out, hTT]
          have eU : enoughS V U = decide (2 * T < 3 * wB V (bitOf z) V.length) := by rw [hU, chosen_enough HR.out, hTT]
          have fX : fewS V X = decide (3 * wB V (bitOf a) V.length < T) := by rw [HX.out.1, chosen_few HR.out, hTT]
          have fU : fewS V U = decide (3 * wB V (bitOf z) V.length < T) := by rw [hU, chosen_few HR.out, hTT]
          have eQ : enoughS V Q = true := by rw [hQ, chosen_enough HR.out, hq, ← hTT]; simp; omega
          have HE1 := Lib.hid (show enoughS V X = true → enoughS V U = true from fun h => by
            rw [eX] at h; rw [eU]; simp at h ⊢; omega)
          have HE2 := Lib.hid (show fewS V U = true → fewS V X = true from fun h => by
            rw [fU] at h; rw [fX]; simp at h ⊢; omega)
          have hcode : sumCode V X = 0 := by rw [HX.out.1]; exact chosen_code HR.out _
          obtain ⟨r1, r2⟩ := rev_code V X
          rw [← hR] at r1 r2
          have hRl : R.length ≤ 100 := by rw [hR, List.length_reverse]; have := HX.out.2; omega
          have eR : enoughS V R = enoughS V X := by rw [enoughS, enoughS, r1, r2]
          have HS := Lib.hid (And.intro hcode (And.intro (r1.trans hcode) (And.intro r2 (And.intro eR (And.intro hRl (And.intro (Nat.le_trans hUl (by omega : 7 ≤ 100)) (Nat.le_trans hQl (by omega : 7 ≤ 100))))))))
          have HU := Lib.hid (And.intro hU (And.intro hQ eQ))
          obtain ⟨n2, n3⟩ := none_enough HR.out
          have HNO := Lib.hid (And.intro n2 n3)
          have HM := Lib.hid (And.intro hm hz)
          clear hown hK hI hlt hkl hR hcr hir g1 hT hTT hwr hpw hpl hpr hUm hq mono hUl hQl eX eU fX fU eQ hcode r1 r2 hRl eR hU hQ n2 n3 HX3 HOWN hz hm
          go_wp2_with fail
          obtain ⟨g1, g2, KW⟩ := HI.out wr J4.out
          obtain ⟨f1, f2, f3, f4, f5⟩ := HF.out wr KW
          refine (sum_is wr A Ax c cx B V X es er et f1 HO.out (by have := HL.out; omega) g1 (by have := HX.out.2; omega) HCX.out f2 f3 f4 f5).mono ?_
          rintro e x1 ⟨rfl, hk⟩
          have J5 := Lib.hid (above_trans J4.out hk)
          have hkp := Lib.hid hk
          clear hk
          clear f1 f2 f3 f4 f5 g1 g2 KW
          rw [HS.out.1, codeV]
          obtain ⟨s, hs⟩ : ∃ s, s = sumVal V X := ⟨_, rfl⟩
          have Hs := Lib.hid hs
          rw [← hs]
          clear hs
          go_wp2_with fail
          obtain ⟨g1, g2, KW⟩ := HI.out x1 J5.out
          obtain ⟨f1, f2, f3, f4, f5⟩ := HF.out x1 KW
          refine (sum_is x1 A Ar c cr B V R es er et f1 HO.out (by have := HL.out; omega) g2 HS.out.2.2.2.2.1 HRR.out.2.1 f2 f3 f4 f5).mono ?_
          rintro e x2 ⟨rfl, hk⟩
          have J6 := Lib.hid (above_trans J5.out hk)
          have hkp := Lib.hid hk
          clear hk
          clear f1 f2 f3 f4 f5 g1 g2 KW
          rw [HS.out.2.1, HS.out.2.2.1, codeV, ← Hs.out]
          go_wp2_with fail
          obtain ⟨g1, g2, KW⟩ := HI.out x2 J6.out
          obtain ⟨f1, f2, f3, f4, f5⟩ := HF.out x2 KW
          refine (enough_is x2 A Ax c cx B V X es er et f1 HO.out (by have := HL.out; omega) g1 (by have := HX.out.2; omega) HCX.out f2 f3 f4 f5).mono ?_
          rintro e x3 ⟨rfl, hk⟩
          have J7 := Lib.hid (above_trans J6.out hk)
          have hkp := Lib.hid hk
          clear hk
          clear f1 f2 f3 f4 f5 g1 g2 KW
          obtain ⟨ex, hex⟩ : ∃ ex, ex = enoughS V X := ⟨_, rfl⟩
          have Hex := Lib.hid hex
          rw [← hex]
          clear hex
          go_wp2_with fail
          obtain ⟨g1, g2, KW⟩ := HI.out x3 J7.out
          obtain ⟨f1, f2, f3, f4, f5⟩ := HF.out x3 KW
          refine (enough_is x3 A Ar c cr B V R es er et f1 HO.out (by have := HL.out; omega) g2 HS.out.2.2.2.2.1 HRR.out.2.1 f2 f3 f4 f5).mono ?_
          rintro e x4 ⟨rfl, hk⟩
          have J8 := Lib.hid (above_trans J7.out hk)
          have hkp := Lib.hid hk
          clear hk
          clear f1 f2 f3 f4 f5 g1 g2 KW
          rw [HS.out.2.2.2.1, ← Hex.out]
          have dd : (ex != ex) = false := by cases ex <;> rfl
          have hmq : (IntKind.u64.wrap more).tmod (V.length : Int) = m := HM.out.1.symm
          go_wp2_with fail
          rw [HPR.out, ← HM.out.2]
          refine (chosen_is x4 A V.length c z HL.out (HZR.out)).mono ?_
          rintro e x5 ⟨⟨Au, cu, rfl, hcu, hiu⟩, hk⟩
          rw [← HU.out.1] at hcu hiu ⊢
          have J9 := Lib.hid (above_trans J8.out (grown_above hk))
          have HUU := Lib.hid (And.intro hcu hiu)
          clear hk hcu hiu
          go_wp2_with fail
          obtain ⟨g1, g2, KW⟩ := HI.out x5 J9.out
          obtain ⟨f1, f2, f3, f4, f5⟩ := HF.out x5 KW
          refine (enough_is x5 A Ax c cx B V X es er et f1 HO.out (by have := HL.out; omega) g1 (by have := HX.out.2; omega) HCX.out f2 f3 f4 f5).mono ?_
          rintro e x6 ⟨rfl, hk⟩
          have J10 := Lib.hid (above_trans J9.out hk)
          have hkp := Lib.hid hk
          clear hk
          clear f1 f2 f3 f4 f5 g1 g2 KW
          have HU6 := Lib.hid (HUU.out.2.above hkp.out)
          rw [← Hex.out]
          cases ex with
          | false =>
            go_wp2_with fail
            obtain ⟨g1, g2, KW⟩ := HI.out x6 J10.out
            obtain ⟨f1, f2, f3, f4, f5⟩ := HF.out x6 KW
            refine (few_is x6 A Au c cu B V U es er et f1 HO.out (by have := HL.out; omega) HU6.out HS.out.2.2.2.2.2.1 HUU.out.1 f2 f3 f4 f5).mono ?_
            rintro e v1 ⟨rfl, hk⟩
            have V1 := Lib.hid (above_trans J10.out hk)
            have hkp := Lib.hid hk
            clear hk
            clear f1 f2 f3 f4 f5 g1 g2 KW
            obtain ⟨fu, hfu⟩ : ∃ fu, fu = fewS V U := ⟨_, rfl⟩
            rw [← hfu]
            cases fu with
            | false =>
              clear hfu
              go_wp2_with fail
              refine (chosen_is v1 A V.length c 127 HL.out ⟨by omega, by omega⟩).mono ?_
              rintro e z1 ⟨⟨Aq, cq, rfl, hcu, hiu⟩, hk⟩
              rw [← HU.out.2.1] at hcu hiu ⊢
              have Z1 := Lib.hid (above_trans V1.out (grown_above hk))
              have HQQ := Lib.hid (And.intro hcu hiu)
              clear hk hcu hiu
              go_wp2_with fail
              obtain ⟨g1, g2, KW⟩ := HI.out z1 Z1.out
              obtain ⟨f1, f2, f3, f4, f5⟩ := HF.out z1 KW
              refine (enough_is z1 A Aq c cq B V Q es er et f1 HO.out (by have := HL.out; omega) HQQ.out.2 HS.out.2.2.2.2.2.2 HQQ.out.1 f2 f3 f4 f5).mono ?_
              rintro e z2 ⟨rfl, hk⟩
              have Z2 := Lib.hid (above_trans Z1.out hk)
              have hkp := Lib.hid hk
              clear hk
              clear f1 f2 f3 f4 f5 g1 g2 KW
              rw [HU.out.2.2]
              go_wp2_with fail
              obtain ⟨g1, g2, KW⟩ := HI.out z2 Z2.out
              obtain ⟨f1, f2, f3, f4, f5⟩ := HF.out z2 KW
              refine (enough_is z2 A none c 0 B V [] es er et f1 HO.out (by have := HL.out; omega) (fun h => absurd rfl h) (by simp) (by simp) f2 f3 f4 f5).mono ?_
              rintro e z3 ⟨rfl, hk⟩
              have Z3 := Lib.hid (above_trans Z2.out hk)
              have hkp := Lib.hid hk
              clear hk
              clear f1 f2 f3 f4 f5 g1 g2 KW
              rw [HNO.out.1]
              go_wp2_with fail
              obtain ⟨g1, g2, KW⟩ := HI.out z3 Z3.out
              obtain ⟨f1, f2, f3, f4, f5⟩ := HF.out z3 KW
              refine (few_is z3 A none c 0 B V [] es er et f1 HO.out (by have := HL.out; omega) (fun h => absurd rfl h) (by simp) (by simp) f2 f3 f4 f5).mono ?_
              rintro e z4 ⟨rfl, hk⟩
              have Z4 := Lib.hid (above_trans Z3.out hk)
              have hkp := Lib.hid hk
              clear hk
              clear f1 f2 f3 f4 f5 g1 g2 KW
              rw [HNO.out.2]
              go_wp2_with fail
              go_ret
              exact ⟨rfl, (HI.out z4 Z4.out).2.2⟩
            | true =>
              have HFX := Lib.hid (HE2.out hfu.symm)
              clear hfu
              go_wp2_with fail
              obtain ⟨g1, g2, KW⟩ := HI.out v1 V1.out
              obtain ⟨f1, f2, f3, f4, f5⟩ := HF.out v1 KW
              refine (few_is v1 A Ax c cx B V X es er et f1 HO.out (by have := HL.out; omega) g1 (by have := HX.out.2; omega) HCX.out f2 f3 f4 f5).mono ?_
              rintro e v2 ⟨rfl, hk⟩
              have V2 := Lib.hid (above_trans V1.out hk)
              have hkp := Lib.hid hk
              clear hk
              clear f1 f2 f3 f4 f5 g1 g2 KW
              rw [HFX.out]
              go_wp2_with fail
              refine (chosen_is v2 A V.length c 127 HL.out ⟨by omega, by omega⟩).mono ?_
              rintro e z1 ⟨⟨Aq, cq, rfl, hcu, hiu⟩, hk⟩
              rw [← HU.out.2.1] at hcu hiu ⊢
              have Z1 := Lib.hid (above_trans V2.out (grown_above hk))
              have HQQ := Lib.hid (And.intro hcu hiu)
              clear hk hcu hiu
              go_wp2_with fail
              obtain ⟨g1, g2, KW⟩ := HI.out z1 Z1.out
              obtain ⟨f1, f2, f3, f4, f5⟩ := HF.out z1 KW
              refine (enough_is z1 A Aq c cq B V Q es er et f1 HO.out (by have := HL.out; omega) HQQ.out.2 HS.out.2.2.2.2.2.2 HQQ.out.1 f2 f3 f4 f5).mono ?_
              rintro e z2 ⟨rfl, hk⟩
              have Z2 := Lib.hid (above_trans Z1.out hk)
              have hkp := Lib.hid hk
              clear hk
              clear f1 f2 f3 f4 f5 g1 g2 KW
              rw [HU.out.2.2]
              go_wp2_with fail
              obtain ⟨g1, g2, KW⟩ := HI.out z2 Z2.out
              obtain ⟨f1, f2, f3, f4, f5⟩ := HF.out z2 KW
              refine (enough_is z2 A none c 0 B V [] es er et f1 HO.out (by have := HL.out; omega) (fun h => absurd rfl h) (by simp) (by simp) f2 f3 f4 f5).mono ?_
              rintro e z3 ⟨rfl, hk⟩
              have Z3 := Lib.hid (above_trans Z2.out hk)
              have hkp := Lib.hid hk
              clear hk
              clear f1 f2 f3 f4 f5 g1 g2 KW
              rw [HNO.out.1]
              go_wp2_with fail
              obtain ⟨g1, g2, KW⟩ := HI.out z3 Z3.out
              obtain ⟨f1, f2, f3, f4, f5⟩ := HF.out z3 KW
              refine (few_is z3 A none c 0 B V [] es er et f1 HO.out (by have := HL.out; omega) (fun h => absurd rfl h) (by simp) (by simp) f2 f3 f4 f5).mono ?_
              rintro e z4 ⟨rfl, hk⟩
              have Z4 := Lib.hid (above_trans Z3.out hk)
              have hkp := Lib.hid hk
              clear hk
              clear f1 f2 f3 f4 f5 g1 g2 KW
              rw [HNO.out.2]
              go_wp2_with fail
              go_ret
              exact ⟨rfl, (HI.out z4 Z4.out).2.2⟩
          | true =>
            have HEU := Lib.hid (HE1.out Hex.out.symm)
            go_wp2_with fail
            obtain ⟨g1, g2, KW⟩ := HI.out x6 J10.out
            obtain ⟨f1, f2, f3, f4, f5⟩ := HF.out x6 KW
            refine (enough_is x6 A Au c cu B V U es er et f1 HO.out (by have := HL.out; omega) HU6.out HS.out.2.2.2.2.2.1 HUU.out.1 f2 f3 f4 f5).mono ?_
            rintro e x7 ⟨rfl, hk⟩
            have J11 := Lib.hid (above_trans J10.out hk)
            have hkp := Lib.hid hk
            clear hk
            clear f1 f2 f3 f4 f5 g1 g2 KW
            have HU7 := Lib.hid (HU6.out.above hkp.out)
            rw [HEU.out]
            go_wp2_with fail
            obtain ⟨g1, g2, KW⟩ := HI.out x7 J11.out
            obtain ⟨f1, f2, f3, f4, f5⟩ := HF.out x7 KW
            refine (few_is x7 A Au c cu B V U es er et f1 HO.out (by have := HL.out; omega) HU7.out HS.out.2.2.2.2.2.1 HUU.out.1 f2 f3 f4 f5).mono ?_
            rintro e v1 ⟨rfl, hk⟩
            have V1 := Lib.hid (above_trans J11.out hk)
            have hkp := Lib.hid hk
            clear hk
            clear f1 f2 f3 f4 f5 g1 g2 KW
            obtain ⟨fu, hfu⟩ : ∃ fu, fu = fewS V U := ⟨_, rfl⟩
            rw [← hfu]
            cases fu with
            | false =>
              clear hfu
              go_wp2_with fail
              refine (chosen_is v1 A V.length c 127 HL.out ⟨by omega, by omega⟩).mono ?_
              rintro e z1 ⟨⟨Aq, cq, rfl, hcu, hiu⟩, hk⟩
              rw [← HU.out.2.1] at hcu hiu ⊢
              have Z1 := Lib.hid (above_trans V1.out (grown_above hk))
              have HQQ := Lib.hid (And.intro hcu hiu)
              clear hk hcu hiu
              go_wp2_with fail
              obtain ⟨g1, g2, KW⟩ := HI.out z1 Z1.out
              obtain ⟨f1, f2, f3, f4, f5⟩ := HF.out z1 KW
              refine (enough_is z1 A Aq c cq B V Q es er et f1 HO.out (by have := HL.out; omega) HQQ.out.2 HS.out.2.2.2.2.2.2 HQQ.out.1 f2 f3 f4 f5).mono ?_
              rintro e z2 ⟨rfl, hk⟩
              have Z2 := Lib.hid (above_trans Z1.out hk)
              have hkp := Lib.hid hk
              clear hk
              clear f1 f2 f3 f4 f5 g1 g2 KW
              rw [HU.out.2.2]
              go_wp2_with fail
              obtain ⟨g1, g2, KW⟩ := HI.out z2 Z2.out
              obtain ⟨f1, f2, f3, f4, f5⟩ := HF.out z2 KW
              refine (enough_is z2 A none c 0 B V [] es er et f1 HO.out (by have := HL.out; omega) (fun h => absurd rfl h) (by simp) (by simp) f2 f3 f4 f5).mono ?_
              rintro e z3 ⟨rfl, hk⟩
              have Z3 := Lib.hid (above_trans Z2.out hk)
              have hkp := Lib.hid hk
              clear hk
              clear f1 f2 f3 f4 f5 g1 g2 KW
              rw [HNO.out.1]
              go_wp2_with fail
              obtain ⟨g1, g2, KW⟩ := HI.out z3 Z3.out
              obtain ⟨f1, f2, f3, f4, f5⟩ := HF.out z3 KW
              refine (few_is z3 A none c 0 B V [] es er et f1 HO.out (by have := HL.out; omega) (fun h => absurd rfl h) (by simp) (by simp) f2 f3 f4 f5).mono ?_
              rintro e z4 ⟨rfl, hk⟩
              have Z4 := Lib.hid (above_trans Z3.out hk)
              have hkp := Lib.hid hk
              clear hk
              clear f1 f2 f3 f4 f5 g1 g2 KW
              rw [HNO.out.2]
              go_wp2_with fail
              go_ret
              exact ⟨rfl, (HI.out z4 Z4.out).2.2⟩
            | true =>
              have HFX := Lib.hid (HE2.out hfu.symm)
              clear hfu
              go_wp2_with fail
              obtain ⟨g1, g2, KW⟩ := HI.out v1 V1.out
              obtain ⟨f1, f2, f3, f4, f5⟩ := HF.out v1 KW
              refine (few_is v1 A Ax c cx B V X es er et f1 HO.out (by have := HL.out; omega) g1 (by have := HX.out.2; omega) HCX.out f2 f3 f4 f5).mono ?_
              rintro e v2 ⟨rfl, hk⟩
              have V2 := Lib.hid (above_trans V1.out hk)
              have hkp := Lib.hid hk
              clear hk
              clear f1 f2 f3 f4 f5 g1 g2 KW
              rw [HFX.out]
              go_wp2_with fail
              refine (chosen_is v2 A V.length c 127 HL.out ⟨by omega, by omega⟩).mono ?_
              rintro e z1 ⟨⟨Aq, cq, rfl, hcu, hiu⟩, hk⟩
              rw [← HU.out.2.1] at hcu hiu ⊢
              have Z1 := Lib.hid (above_trans V2.out (grown_above hk))
              have HQQ := Lib.hid (And.intro hcu hiu)
              clear hk hcu hiu
              go_wp2_with fail
              obtain ⟨g1, g2, KW⟩ := HI.out z1 Z1.out
              obtain ⟨f1, f2, f3, f4, f5⟩ := HF.out z1 KW
              refine (enough_is z1 A Aq c cq B V Q es er et f1 HO.out (by have := HL.out; omega) HQQ.out.2 HS.out.2.2.2.2.2.2 HQQ.out.1 f2 f3 f4 f5).mono ?_
              rintro e z2 ⟨rfl, hk⟩
              have Z2 := Lib.hid (above_trans Z1.out hk)
              have hkp := Lib.hid hk
              clear hk
              clear f1 f2 f3 f4 f5 g1 g2 KW
              rw [HU.out.2.2]
              go_wp2_with fail
              obtain ⟨g1, g2, KW⟩ := HI.out z2 Z2.out
              obtain ⟨f1, f2, f3, f4, f5⟩ := HF.out z2 KW
              refine (enough_is z2 A none c 0 B V [] es er et f1 HO.out (by have := HL.out; omega) (fun h => absurd rfl h) (by simp) (by simp) f2 f3 f4 f5).mono ?_
              rintro e z3 ⟨rfl, hk⟩
              have Z3 := Lib.hid (above_trans Z2.out hk)
              have hkp := Lib.hid hk
              clear hk
              clear f1 f2 f3 f4 f5 g1 g2 KW
              rw [HNO.out.1]
              go_wp2_with fail
              obtain ⟨g1, g2, KW⟩ := HI.out z3 Z3.out
              obtain ⟨f1, f2, f3, f4, f5⟩ := HF.out z3 KW
              refine (few_is z3 A none c 0 B V [] es er et f1 HO.out (by have := HL.out; omega) (fun h => absurd rfl h) (by simp) (by simp) f2 f3 f4 f5).mono ?_
              rintro e z4 ⟨rfl, hk⟩
              have Z4 := Lib.hid (above_trans Z3.out hk)
              have hkp := Lib.hid hk
              clear hk
              clear f1 f2 f3 f4 f5 g1 g2 KW
              rw [HNO.out.2]
              go_wp2_with fail
              go_ret
              exact ⟨rfl, (HI.out z4 Z4.out).2.2⟩

    · have K2 := Lib.hid (above_trans K1.out (grown_above hk2))
      clear hk2 f1 f2 f3 f4 f5
      go_wp2_with fail
      go_ret
      exact ⟨rfl, K2.out⟩
  · have d1 : decide ((7 : Int) < (V.length : Int)) = true := by simp; omega
    have e1 : (7 : Int) < (V.length : Int) := by omega
    clear h7
    go_wp2_with fail
    go_ret
    exact ⟨rfl, K1.out⟩
end Go.Proofs.YtjoehhchejnhgaaDoor
