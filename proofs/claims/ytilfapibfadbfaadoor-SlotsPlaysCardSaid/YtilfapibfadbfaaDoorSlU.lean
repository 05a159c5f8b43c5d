/-
  SlotsPlays, walked.
-/
import Derived.Test.YtilfapibfadbfaaDoorSlT
import Derived.Test.YtilfapibfadbfaaDoorSlOp
import Derived.Test.YtilfapibfadbfaaDoorNb
namespace Go.Proofs.YtilfapibfadbfaaDoor
open Go.RowKit Go.Maps

set_option maxRecDepth 100000 in
set_option maxHeartbeats 4000000 in
theorem splays_any (w : World) (hR : Rounds w) (E : Nat → Addr) (he : ErrEnv w w.heap.size E) (A : Option Addr) (n c : Nat) (zs : List OpT) (hn : zs.length = n) (hz : OtsAt w A zs) :
    Calls Tryd.prog 4 #[.slice A n c] w fun e w' => e = .returned (.bool true) ∧ w.grownBy w' none := by
  have her : ErrAt w w.heap.size 0 (E 0) := he.var 0 (by omega)
  have hep : ErrAt w w.heap.size 6 (E 5) := he.var 5 (by omega)
  have hed : ErrAt w w.heap.size 1 (E 6) := he.var 6 (by omega)
  have hef : ErrAt w w.heap.size 7 (E 7) := he.var 7 (by omega)
  have hv := ErrEnv.vars he [0, 1] (by simp)
  have HX := Lib.hid (And.intro hR (And.intro hv (And.intro her (And.intro hep (And.intro hed (And.intro hef (And.intro he (And.intro hn hz))))))))
  clear hR hv her hep hed hef he hn hz
  refine (callsIn_wide (n := 10)).1 ?_
  refine callsIn_of_wp Tryd.func4 rfl trivial ?_ rfl
  simp only [Tryd.ntmps4, List.size_toArray, List.length_cons, List.length_nil, Nat.reduceAdd, Nat.reduceSub, Array.replicate_succ, Array.replicate_zero, List.push_toArray, List.append_toArray, List.nil_append, List.cons_append]
  gi_wp2
  refine ⟨trivial, ?_⟩
  refine (callsIn_wide.2 (alive_is w HX.out.1 E HX.out.2.1 (E 5) (E 6) (E 7) HX.out.2.2.2.1 HX.out.2.2.2.2.1 HX.out.2.2.2.2.2.1)).mono ?_
  rintro e w1 ⟨rfl, k1⟩
  have K1 := Lib.hid k1
  clear k1
  by_cases h60 : 60 < n
  · have d1 : decide ((60 : Int) < (n : Int)) = true := by simp; omega
    gi_wp2
    go_ret
    exact ⟨rfl, K1.out⟩
  have d1 : decide ((60 : Int) < (n : Int)) = false := by simp; omega
  have hn60 : n ≤ 60 := by omega
  clear h60
  gi_wp2
  refine ⟨trivial, ?_⟩
  refine (callsIn_wide.2 (dsk_new w w1 (Kept.of_grown (F := fun j => w.heap.size ≤ j) K1.out (fun _ e => by cases e)) 2 (by omega) (E 0) HX.out.2.2.1)).mono ?_
  rintro e w2 ⟨k2, d, b, m, rfl, hd, _⟩
  have H2 := Lib.hid hd
  clear k2 hd
  gi_wp2
  refine ⟨trivial, ?_⟩
  refine (callsIn_wide.2 (format_is w w2 d b m (newS 2) H2.out HX.out.1 (E 0) (E 5) HX.out.2.2.1 HX.out.2.2.2.1 0)).mono ?_
  rintro e w3 (⟨hbad, _⟩ | ⟨_, hd, ⟨hne, _⟩ | ⟨_, s0, rfl, hsl, hs⟩⟩)
  · exact absurd ⟨by omega, by simp [newS]⟩ hbad
  · exact absurd (eld_start []).2 hne
  have H3 := Lib.hid (And.intro hd (And.intro hsl hs))
  clear hd hsl hs
  gi_wp2
  gi_loopw [33, 5, 6, 7, 8] (fun i sv lv tv dv wr => ∃ (k s : Nat) (z : DkS) (cn : Nat) (rc : List UInt8) (td : Bool) (tr : List UInt8), k ≤ n ∧ i = .int .i64 (k : Int) ∧ sv = .pointer (some ⟨s, 0, none⟩) ∧ lv = .string ⟨rc.toArray⟩ ∧ tv = .string ⟨tr.toArray⟩ ∧ dv = .bool td ∧ Dsk w wr d b m z ∧ PlZ z cn rc td tr ∧ cn ≤ k ∧ SlAt wr s d b m 0 cn rc ∧ w.heap.size ≤ s) (fun i _ _ _ _ _ => n - (intOf i).toNat)
  case atStart => exact ⟨0, s0, _, 0, [], false, [], by omega, rfl, rfl, rfl, rfl, rfl, H3.out.1, plz_start, by omega, H3.out.2.1, H3.out.2.2⟩
  case round =>
    obtain ⟨k, s, z, cn, rc, td, tr, hkn, rfl, rfl, rfl, rfl, rfl, hdz, hpz, hck, hsl, hsw⟩ := hrel
    rename World => wx
    obtain ⟨lv, hlv⟩ : ∃ lv : ByteArray, (⟨rc.toArray⟩ : ByteArray) = lv := ⟨_, rfl⟩
    obtain ⟨tv, htv⟩ : ∃ tv : ByteArray, (⟨tr.toArray⟩ : ByteArray) = tv := ⟨_, rfl⟩
    rw [hlv, htv]
    have HLV := Lib.hid hlv
    have HTV := Lib.hid htv
    clear hlv htv
    by_cases hlt : k < n
    · have e3 : decide ((k : Int) < (n : Int)) = true := by simp; omega
      have hkz : k < zs.length := by rw [HX.out.2.2.2.2.2.2.2.1]; exact hlt
      have hne : zs ≠ [] := by rintro rfl; simp at hkz
      obtain ⟨bo', oo', ee', hc1⟩ := HX.out.2.2.2.2.2.2.2.2 hne
      obtain ⟨bo, oo, rfl, hc0⟩ := (HX.out.2.2.2.2.2.2.2.2.low hdz.2.1 (fun _ h => h)) hne
      obtain ⟨hcell, hbl, hkl, hib⟩ := hc0 k hkz
      obtain ⟨_, hbl1, hkl1, _⟩ := hc1 k hkz
      generalize zs[k] = op at *
      obtain ⟨ok_, oi, oA, oc, ol, oB, oe, okp⟩ := op
      have x0 := hcell 0 _ rfl
      have x1 := hcell 1 _ rfl
      have x2 := hcell 2 _ rfl
      have x3 := hcell 3 _ rfl
      simp only [Nat.add_zero] at x0 x1 x2 x3
      obtain ⟨on, hon⟩ : ∃ on, ol.length = on := ⟨_, rfl⟩
      obtain ⟨kpn, hkpn⟩ : ∃ kpn, okp.length = kpn := ⟨_, rfl⟩
      rw [hon] at x2
      rw [hkpn] at x3
      have hk2 : k < n ∧ n ≤ 60 := ⟨hlt, hn60⟩
      obtain ⟨q, hq⟩ : ∃ q, wx.heap.size = q := ⟨_, rfl⟩
      obtain ⟨W1, hW1⟩ : ∃ W1, wx.alloc (.cells #[.int .i64 ok_, .int .i64 oi, .slice oA on oc, .slice oB kpn oe] 45) = W1 := ⟨_, rfl⟩
      have gW1 : wx.grownBy W1 none := by rw [← hW1]; exact World.grownBy_alloc _ _ none
      have bq : Blk W1 q 45 #[.int .i64 ok_, .int .i64 oi, .slice oA on oc, .slice oB kpn oe] := by rw [← hW1, ← hq]; exact Blk.new _ _ _
      have y0 := bq.cell 0
      have y1 := bq.cell 1
      have y2 := bq.cell 2
      have y3 := bq.cell 3
      simp only [List.getElem?_toArray, List.getElem?_cons_zero, List.getElem?_cons_succ] at y0 y1 y2 y3
      have hbw : d < q ∧ b < q ∧ m < q ∧ s < q := by
        obtain ⟨D, hD, _⟩ := hdz.1.2.2.1
        obtain ⟨_, _, _, hS, _⟩ := hsl
        rw [← hq]
        exact ⟨hdz.1.1.lt, hdz.1.2.1.lt, hD.lt, hS.lt⟩
      have hAb : ∀ ad, oA = some ad → ol ≠ [] → ad.block < w.heap.size := fun ad e hne => by
        obtain ⟨ad', e', hc⟩ := hbl1 hne
        have e' : oA = some ad' := e'
        rw [e] at e'
        injection e' with e'
        subst e'
        have := World.block_lt_of_cell? w _ (hc 0 (List.length_pos_iff.2 hne))
        rwa [block_add] at this
      have HO := Lib.hid (And.intro (hdz.grown gW1) (And.intro hpz (And.intro (hsl.grown gW1) (And.intro hsw (And.intro bq (And.intro hbw (And.intro (hkl.grown gW1) (And.intro hkl1.lt (And.intro hon (And.intro hkpn (And.intro hib (And.intro hbl1 (And.intro hAb hck)))))))))))))
      clear hdz hpz hsl hsw hkz hne hc0 hcell hbl hkl hib hc1 hbl1 hkl1 ee' gW1 bq hbw hAb hon hkpn
      by_cases h100 : 100 < on
      · have e4 : decide ((100 : Int) < (on : Int)) = true := by simp; omega
        gi_wp2
        try rw [hq]
        try rw [hW1]
        gi_wp2
        first | exact ⟨_, results_tmp rfl _ _ _, rfl, HO.out.1.grownNone⟩ | exact ⟨rfl, _, results_tmp rfl _ _ _, rfl, HO.out.1.grownNone⟩ | (go_ret; exact ⟨rfl, HO.out.1.grownNone⟩)
      have e4 : decide ((100 : Int) < (on : Int)) = false := by simp; omega
      by_cases h20 : 20 < kpn
      · have e5 : decide ((20 : Int) < (kpn : Int)) = true := by simp; omega
        gi_wp2
        try rw [hq]
        try rw [hW1]
        gi_wp2
        first | exact ⟨_, results_tmp rfl _ _ _, rfl, HO.out.1.grownNone⟩ | exact ⟨rfl, _, results_tmp rfl _ _ _, rfl, HO.out.1.grownNone⟩ | (go_ret; exact ⟨rfl, HO.out.1.grownNone⟩)
      have e5 : decide ((20 : Int) < (kpn : Int)) = false := by simp; omega
      have hon100 : on ≤ 100 ∧ kpn ≤ 20 := by omega
      clear h100 h20
      have HS := Lib.hid (And.intro HO.out.1 (And.intro HO.out.2.1 (And.intro HO.out.2.2.1 HO.out.2.2.2.1)))
      have hck : cn ≤ k := HO.out.2.2.2.2.2.2.2.2.2.2.2.2.2
      by_cases hk1 : ok_ = 1
      · obtain rfl := hk1
        gi_upto_region 18 with fail
        try rw [hq]
        try rw [hW1]
        gi_wp2
        have hbA1 : BytesAt W1 oA ol := HO.out.2.2.2.2.2.2.2.2.2.2.2.1.low HS.out.1.2.1 (fun _ h => h)
        have HA1 := Lib.hid hbA1
        clear hbA1
        refine ⟨trivial, ?_⟩
        refine (callsIn_wide.2 (nbytes_is W1 oA on oc ol HA1.out HO.out.2.2.2.2.2.2.2.2.1 (by omega))).mono ?_
        rintro e w4 ⟨g4, cap4, rfl, hg4, hM4, hgr4⟩
        have H4 := Lib.hid (And.intro (HS.out.1.grown hgr4) (And.intro (HS.out.2.2.1.grown hgr4) (And.intro hM4.bytes (And.intro hg4 (HO.out.2.2.2.2.1.grown hgr4 (by simp))))))
        have hW1s : q < W1.heap.size := HO.out.2.2.2.2.1.lt
        clear hg4 hM4 hgr4
        gi_wp2
        have hput := sput_any w w4 d b m s z 0 cn rc H4.out.1 H4.out.2.1 HX.out.1 (some ⟨g4, 0, none⟩) on cap4 ol HO.out.2.2.2.2.2.2.2.2.1 H4.out.2.2.1 (E 0) (E 5) (E 7) HX.out.2.2.1 HX.out.2.2.2.1 HS.out.2.2.2 (fun ad e _ => by
          injection e with e
          subst e
          have := H4.out.2.2.2.1
          have := HO.out.2.2.2.2.2.1
          show ¬ (g4 = d ∨ g4 = b ∨ g4 = m ∨ g4 = s)
          omega) HX.out.2.2.2.2.2.1 (by omega) (by omega)
        have HPUT := Lib.hid hput
        clear hput
        refine ⟨trivial, ?_⟩
        refine (callsIn_wide.2 HPUT.out).mono ?_
        clear HPUT
        rintro e w6 ⟨hor, hk6⟩
        have hb6 := H4.out.2.2.2.2.kept hk6 (show ¬ (q = d ∨ q = b ∨ q = m ∨ q = s) by have := HO.out.2.2.2.2.2.1; omega)
        have z2 := hb6.cell 2
        simp only [List.getElem?_toArray, List.getElem?_cons_zero, List.getElem?_cons_succ] at z2
        clear hk6 hb6
        have hlo := HO.out.2.2.2.2.2.2.2.2.1
        rcases hor with ⟨h31, rfl, hd6, hs6⟩ | ⟨_, hful, _⟩ | ⟨h31, _, hd6, hor⟩
        · have e31 : decide ((31 : Int) < (on : Int)) = true := by simp; omega
          have H6 := Lib.hid (And.intro hd6 (And.intro HS.out.2.1 (And.intro hs6 HS.out.2.2.2)))
          clear hd6 hs6 hlo h31
          gi_wp2
          refine ⟨trivial, ?_⟩
          refine (callsIn_wide.2 (num_err w6 w.heap.size E 0 (by omega) (HX.out.2.2.2.2.2.2.1.below H6.out.1.below (Nat.le_refl _)))).mono ?_
          rintro e w7 ⟨rfl, g7⟩
          have H7 := Lib.hid (And.intro (H6.out.1.grown g7) (And.intro H6.out.2.1 (And.intro (H6.out.2.2.1.grown g7) H6.out.2.2.2)))
          clear g7
          gi_wp2
          refine ⟨trivial, ?_⟩
          refine (callsIn_wide.2 (record_is H7.out.2.2.1 (by have := H7.out.2.1.hrc; omega))).mono ?_
          rintro e w9 ⟨A9, c9, rfl, hb9, g9⟩
          have ht9 := toString_any (n := (rc).length) (c := c9) hb9 rfl
          rw [HLV.out] at ht9
          have H9 := Lib.hid (And.intro (H7.out.1.grown g9) (H7.out.2.2.1.grown g9))
          clear hb9 g9
          gi_wp2
          go_roundw
          case rel => exact ⟨k + 1, s, _, cn, rc, td, tr, by omega, by simp, rfl, by rw [HLV.out], by rw [HTV.out], rfl, H9.out.1, H7.out.2.1, by omega, H9.out.2, H7.out.2.2.2⟩
          case measure => simp [intOf]; omega
        · omega
        · have e31 : decide ((31 : Int) < (on : Int)) = false := by simp; omega
          have hpp := put_plz HS.out.2.1 ol h31
          rcases hor with ⟨hne, rfl, hs6⟩ | ⟨he0, rfl, hs6⟩
          · rcases hpp with ⟨hz0, _⟩ | ⟨hz2, hpz⟩
            · exact absurd hz0 hne
            rw [hz2]
            rw [show eV (E 0) (E 5) 2 = errV (E 5) from rfl]
            have H6 := Lib.hid (And.intro hd6 (And.intro hpz (And.intro hs6 HS.out.2.2.2)))
            have hbA6 : BytesAt w6 oA ol := HO.out.2.2.2.2.2.2.2.2.2.2.2.1.low hd6.2.1 (fun _ h => h)
            clear hd6 hs6 hpz hne hz2 h31
            cases td with
            | true =>
              clear hbA6 hlo
              rw [if_pos rfl] at H6
              gi_wp2
              refine ⟨trivial, ?_⟩
              refine (callsIn_wide.2 (num_err w6 w.heap.size E 5 (by omega) (HX.out.2.2.2.2.2.2.1.below H6.out.1.below (Nat.le_refl _)))).mono ?_
              rintro e w7 ⟨rfl, g7⟩
              have H7 := Lib.hid (And.intro (H6.out.1.grown g7) (And.intro H6.out.2.1 (And.intro (H6.out.2.2.1.grown g7) H6.out.2.2.2)))
              clear g7
              gi_wp2
              refine ⟨trivial, ?_⟩
              refine (callsIn_wide.2 (record_is H7.out.2.2.1 (by have := H7.out.2.1.hrc; omega))).mono ?_
              rintro e w9 ⟨A9, c9, rfl, hb9, g9⟩
              have ht9 := toString_any (n := (rc).length) (c := c9) hb9 rfl
              rw [HLV.out] at ht9
              have H9 := Lib.hid (And.intro (H7.out.1.grown g9) (H7.out.2.2.1.grown g9))
              clear hb9 g9
              gi_wp2
              go_roundw
              case rel => exact ⟨k + 1, s, _, cn, rc, true, tr, by omega, by simp, rfl, by rw [HLV.out], by rw [HTV.out], rfl, H9.out.1, H7.out.2.1, by omega, H9.out.2, H7.out.2.2.2⟩
              case measure => simp [intOf]; omega
            | false =>
              rw [if_neg (by simp)] at H6
              gi_wp2
              refine ⟨trivial, ?_⟩
              refine (callsIn_wide.2 (num_err w6 w.heap.size E 5 (by omega) (HX.out.2.2.2.2.2.2.1.below H6.out.1.below (Nat.le_refl _)))).mono ?_
              rintro e w7 ⟨rfl, g7⟩
              have H7 := Lib.hid (And.intro (H6.out.1.grown g7) (And.intro H6.out.2.1 (And.intro (H6.out.2.2.1.grown g7) H6.out.2.2.2)))
              have zz2 : w7.cell? ⟨q, 2, none⟩ = _ := g7.cell z2 (by simp)
              have ht := toString_any (n := on) (c := oc) (hbA6.grown g7 (fun _ _ => by simp)) hlo
              obtain ⟨ov, hov⟩ : ∃ ov : ByteArray, (⟨ol.toArray⟩ : ByteArray) = ov := ⟨_, rfl⟩
              rw [hov] at ht
              have HOV := Lib.hid hov
              clear g7 z2 hov hlo hbA6
              gi_wp2
              refine ⟨trivial, ?_⟩
              refine (callsIn_wide.2 (record_is H7.out.2.2.1 (by have := H7.out.2.1.hrc; omega))).mono ?_
              rintro e w9 ⟨A9, c9, rfl, hb9, g9⟩
              have ht9 := toString_any (n := (rc).length) (c := c9) hb9 rfl
              rw [HLV.out] at ht9
              have H9 := Lib.hid (And.intro (H7.out.1.grown g9) (H7.out.2.2.1.grown g9))
              clear hb9 g9
              gi_wp2
              go_roundw
              case rel => exact ⟨k + 1, s, _, cn, rc, true, ol, by omega, by simp, rfl, by rw [HLV.out], by rw [HOV.out], rfl, H9.out.1, H7.out.2.1, by omega, H9.out.2, H7.out.2.2.2⟩
              case measure => simp [intOf]; omega
          · rcases hpp with ⟨hz0, htd, hpz⟩ | ⟨hz2, _⟩
            case inr => omega
            subst htd
            have H6 := Lib.hid (And.intro hd6 (And.intro hpz (And.intro hs6 HS.out.2.2.2)))
            have hbA6 : BytesAt w6 oA ol := HO.out.2.2.2.2.2.2.2.2.2.2.2.1.low hd6.2.1 (fun _ h => h)
            have ht := toString_any (n := on) (c := oc) hbA6 hlo
            obtain ⟨ov, hov⟩ : ∃ ov : ByteArray, (⟨ol.toArray⟩ : ByteArray) = ov := ⟨_, rfl⟩
            rw [hov] at ht
            have HOV := Lib.hid hov
            clear hd6 hs6 hpz he0 hz0 h31 hbA6 hov hlo
            gi_wp2
            refine ⟨trivial, ?_⟩
            refine (callsIn_wide.2 (record_is H6.out.2.2.1 (by have := H6.out.2.1.hrc; omega))).mono ?_
            rintro e w9 ⟨A9, c9, rfl, hb9, g9⟩
            have ht9 := toString_any (n := (ol).length) (c := c9) hb9 rfl
            rw [HOV.out] at ht9
            have H9 := Lib.hid (And.intro (H6.out.1.grown g9) (H6.out.2.2.1.grown g9))
            clear hb9 g9
            gi_wp2
            go_roundw
            case rel => exact ⟨k + 1, s, _, (cn + 1), ol, false, tr, by omega, by simp, rfl, by rw [HOV.out], by rw [HTV.out], rfl, H9.out.1, H6.out.2.1, by omega, H9.out.2, H6.out.2.2.2⟩
            case measure => simp [intOf]; omega
      · by_cases hk2_ : ok_ = 2
        · obtain rfl := hk2_
          gi_upto_region 18 with fail
          try rw [hq]
          try rw [hW1]
          gi_wp2
          have hoff := dk_off W1 d b m z HS.out.1.1
          have HOFF := Lib.hid hoff
          clear hoff
          refine ⟨trivial, ?_⟩
          refine (callsIn_wide.2 HOFF.out).mono ?_
          clear HOFF
          rintro e w4 ⟨rfl, hw4⟩
          obtain rfl : W1 = w4 := hw4.symm
          cases hzo : z.off with
          | true =>
            have HZO := Lib.hid hzo
            clear hzo
            gi_wp2
            refine ⟨trivial, ?_⟩
            refine (callsIn_wide.2 (record_is HS.out.2.2.1 (by have := HS.out.2.1.hrc; omega))).mono ?_
            rintro e w9 ⟨A9, c9, rfl, hb9, g9⟩
            have ht9 := toString_any (n := (rc).length) (c := c9) hb9 rfl
            rw [HLV.out] at ht9
            have H9 := Lib.hid (And.intro (HS.out.1.grown g9) (HS.out.2.2.1.grown g9))
            clear hb9 g9
            gi_wp2
            go_roundw
            case rel => exact ⟨k + 1, s, _, cn, rc, td, tr, by omega, by simp, rfl, by rw [HLV.out], by rw [HTV.out], rfl, H9.out.1, HS.out.2.1, by omega, H9.out.2, HS.out.2.2.2⟩
            case measure => simp [intOf]; omega
          | false =>
            have HZO := Lib.hid hzo
            clear hzo
            gi_wp2
            refine ⟨trivial, ?_⟩
            refine (callsIn_wide.2 (dsk_arm HS.out.1 oi HO.out.2.2.2.2.2.2.2.2.2.2.1)).mono ?_
            rintro e w5 ⟨rfl, hd5, ht5⟩
            have H5 := Lib.hid (And.intro hd5 (And.intro (armS_plz HS.out.2.1 oi) (And.intro (HS.out.2.2.1.turn ht5) HS.out.2.2.2)))
            clear hd5 ht5
            gi_wp2
            refine ⟨trivial, ?_⟩
            refine (callsIn_wide.2 (record_is H5.out.2.2.1 (by have := H5.out.2.1.hrc; omega))).mono ?_
            rintro e w9 ⟨A9, c9, rfl, hb9, g9⟩
            have ht9 := toString_any (n := (rc).length) (c := c9) hb9 rfl
            rw [HLV.out] at ht9
            have H9 := Lib.hid (And.intro (H5.out.1.grown g9) (H5.out.2.2.1.grown g9))
            clear hb9 g9
            gi_wp2
            go_roundw
            case rel => exact ⟨k + 1, s, _, cn, rc, td, tr, by omega, by simp, rfl, by rw [HLV.out], by rw [HTV.out], rfl, H9.out.1, H5.out.2.1, by omega, H9.out.2, H5.out.2.2.2⟩
            case measure => simp [intOf]; omega
        · by_cases hk3 : ok_ = 3
          · obtain rfl := hk3
            gi_upto_region 18 with fail
            try rw [hq]
            try rw [hW1]
            gi_wp2
            have hcr := dsk_crash HS.out.1 oB kpn oe okp HO.out.2.2.2.2.2.2.2.2.2.1 HO.out.2.2.2.2.2.2.1 (fun a e hne => by
              have := HO.out.2.2.2.2.2.2.2.1 a e hne
              have := HS.out.1.2.2.2.1
              omega)
            have HCR := Lib.hid hcr
            clear hcr
            refine ⟨trivial, ?_⟩
            refine (callsIn_wide.2 HCR.out).mono ?_
            clear HCR
            rintro e w4 ⟨rfl, hd4, _⟩
            have hcp := crash_plz HS.out.2.1 (by omega) okp
            obtain ⟨bb, c5, x5, hrow, hsel, hc5, hpz5, hx5⟩ := hcp
            have hop := open_is w w4 d b m _ hd4 HX.out.1 E HX.out.2.1 (E 5) (E 6) HX.out.2.2.2.1 HX.out.2.2.2.2.1 0 bb (fun _ _ k hk => by
              rw [show (0 : Int).toNat + k = k by simp]
              exact hrow k hk)
            have HOP := Lib.hid (And.intro hop (And.intro hsel (And.intro hpz5 (And.intro hd4 hc5))))
            clear hop hrow hsel hpz5 hd4 hc5
            gi_wp2
            refine ⟨trivial, ?_⟩
            refine (callsIn_wide.2 HOP.out.1).mono ?_
            rintro e w5 ⟨g5, ⟨hbad, _⟩ | ⟨_, ⟨ho5, _⟩ | ⟨_, ⟨hn5, _⟩ | ⟨c', x', hc', s5, rfl, hsl5, hs5⟩⟩⟩⟩
            · exact absurd ⟨by omega, by rw [HOP.out.2.2.1.syn]; omega⟩ hbad
            · cases ho5
            · rw [HOP.out.2.1] at hn5; cases hn5
            rw [HOP.out.2.1] at hc'
            injection hc' with hc'
            injection hc' with hc1 hc2
            subst hc1 hc2
            have H5 := Lib.hid (And.intro (HOP.out.2.2.2.1.grown g5) (And.intro HOP.out.2.2.1 (And.intro hsl5 (show w.heap.size ≤ s5 by have := HOP.out.2.2.2.1.grownNone.size; omega))))
            have hc52 : c5 ≤ k + 1 := by have := HOP.out.2.2.2.2; omega
            clear g5 hsl5 hs5 HOP
            gi_wp2
            refine ⟨trivial, ?_⟩
            refine (callsIn_wide.2 (record_is H5.out.2.2.1 (by have := H5.out.2.1.hrc; omega))).mono ?_
            rintro e w6 ⟨A6, c6, rfl, hb6, g6⟩
            have ht6 := toString_any (n := x5.length) (c := c6) hb6 rfl
            have H6 := Lib.hid (And.intro (H5.out.1.grown g6) (And.intro H5.out.2.1 (And.intro (H5.out.2.2.1.grown g6) H5.out.2.2.2)))
            clear hb6 g6
            by_cases hxr : x5 = rc
            · subst hxr
              rw [HLV.out] at ht6
              clear hx5
              gi_wp2
              refine ⟨trivial, ?_⟩
              refine (callsIn_wide.2 (record_is H6.out.2.2.1 (by have := H6.out.2.1.hrc; omega))).mono ?_
              rintro e w9 ⟨A9, c9, rfl, hb9, g9⟩
              have ht9 := toString_any (n := (x5).length) (c := c9) hb9 rfl
              rw [HLV.out] at ht9
              have H9 := Lib.hid (And.intro (H6.out.1.grown g9) (H6.out.2.2.1.grown g9))
              clear hb9 g9
              gi_wp2
              go_roundw
              case rel => exact ⟨k + 1, s5, _, c5, x5, false, tr, by omega, by simp, rfl, by rw [HLV.out], by rw [HTV.out], rfl, H9.out.1, H6.out.2.1, by omega, H9.out.2, H6.out.2.2.2⟩
              case measure => simp [intOf]; omega
            · have hx5 : td = true ∧ x5 = tr := by rcases hx5 with h | h; exact absurd h hxr; exact h
              obtain ⟨rfl, rfl⟩ := hx5
              rw [HTV.out] at ht6
              have hne : ¬ tv.toList = lv.toList := by rw [← HTV.out, ← HLV.out, ByteArray.toList_mk, ByteArray.toList_mk]; exact hxr
              clear hxr
              gi_wp2
              refine ⟨trivial, ?_⟩
              refine (callsIn_wide.2 (record_is H6.out.2.2.1 (by have := H6.out.2.1.hrc; omega))).mono ?_
              rintro e w9 ⟨A9, c9, rfl, hb9, g9⟩
              have ht9 := toString_any (n := (x5).length) (c := c9) hb9 rfl
              rw [HTV.out] at ht9
              have H9 := Lib.hid (And.intro (H6.out.1.grown g9) (H6.out.2.2.1.grown g9))
              clear hb9 g9
              gi_wp2
              go_roundw
              case rel => exact ⟨k + 1, s5, _, c5, x5, false, x5, by omega, by simp, rfl, by rw [HTV.out], by rw [HTV.out], rfl, H9.out.1, H6.out.2.1, by omega, H9.out.2, H6.out.2.2.2⟩
              case measure => simp [intOf]; omega
          · have t1 : (ok_ == 1) = false := by simpa using hk1
            have t2 : (ok_ == 2) = false := by simpa using hk2_
            have t3 : (ok_ == 3) = false := by simpa using hk3
            clear hk1 hk2_ hk3
            gi_upto_region 18 with fail
            try rw [hq]
            try rw [hW1]
            gi_wp2
            refine ⟨trivial, ?_⟩
            refine (callsIn_wide.2 (record_is HS.out.2.2.1 (by have := HS.out.2.1.hrc; omega))).mono ?_
            rintro e w9 ⟨A9, c9, rfl, hb9, g9⟩
            have ht9 := toString_any (n := (rc).length) (c := c9) hb9 rfl
            rw [HLV.out] at ht9
            have H9 := Lib.hid (And.intro (HS.out.1.grown g9) (HS.out.2.2.1.grown g9))
            clear hb9 g9
            gi_wp2
            go_roundw
            case rel => exact ⟨k + 1, s, _, cn, rc, td, tr, by omega, by simp, rfl, by rw [HLV.out], by rw [HTV.out], rfl, H9.out.1, HS.out.2.1, by omega, H9.out.2, HS.out.2.2.2⟩
            case measure => simp [intOf]; omega
    · have e3 : decide ((k : Int) < (n : Int)) = false := by simp; omega
      gi_wp2
      go_ret
      exact ⟨rfl, hdz.grownNone⟩
end Go.Proofs.YtilfapibfadbfaaDoor
