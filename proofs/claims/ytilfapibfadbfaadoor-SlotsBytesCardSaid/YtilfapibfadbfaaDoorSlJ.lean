/-
  SlotsRanges, walked.
-/
import Derived.Test.YtilfapibfadbfaaDoorSlI
namespace Go.Proofs.YtilfapibfadbfaaDoor
open Go.RowKit Go.Maps

theorem u_mod (a n : Int) (hn : 0 < n ∧ n < 1000) : ∃ k : Nat, wrap64 ((IntKind.u64.wrap a).tmod n) = (k : Int) ∧ (k : Int) < n := by
  have h : 0 ≤ IntKind.u64.wrap a := by
    simp only [IntKind.wrap, IntKind.signed, IntKind.bits, Bool.false_and, Bool.false_eq_true, if_false]
    omega
  have h1 := Int.tmod_nonneg n h
  have h2 := Int.tmod_lt_of_pos (IntKind.u64.wrap a) hn.1
  obtain ⟨t, ht⟩ : ∃ t, (IntKind.u64.wrap a).tmod n = t := ⟨_, rfl⟩
  rw [ht] at h1 h2 ⊢
  refine ⟨t.toNat, ?_, by omega⟩
  unfold wrap64
  omega
theorem wE_step {z : DkS} {i : Int} {L : Nat} (r : List Int) (hi : 0 ≤ i ∧ i < (z.syn.length : Int)) (ho : z.off = false) (hl : z.lasts = ((L + 1 : Nat) : Int)) : wE z i = 0 ∧ (wS z i r).off = false ∧ (wS z i r).lasts = (L : Int) ∧ (wS z i r).syn.length = z.syn.length := by
  have e1 : inR z i = true := by simp only [inR, decide_eq_true_eq]; exact hi
  have e2 : opOk z = true := opOk_of ho (by omega)
  have e3 : opS z = { z with lasts := z.lasts - 1 } := by rw [opS, if_neg (by omega), if_neg (by simp [ho]), if_pos (by omega)]
  refine ⟨by simp [wE, e1, e2], ?_, ?_, wS_len z i r⟩
  · rw [wS, if_pos e1, if_pos e2, e3]; exact ho
  · rw [wS, if_pos e1, if_pos e2, e3]; show z.lasts - 1 = _; omega
theorem wE_dead {z : DkS} {i : Int} (hi : 0 ≤ i ∧ i < (z.syn.length : Int)) (hl : z.lasts = 0) : wE z i = 2 := by
  have e1 : inR z i = true := by simp only [inR, decide_eq_true_eq]; exact hi
  simp [wE, e1, opOk, hl]
theorem fmtE_arm {z : DkS} {B L : Nat} (hb : B + 2 ≤ z.syn.length) (ho : z.off = false) (hl : z.lasts = (L : Int)) : fmtE z (B : Int) = if L < 3 then 2 else 0 := by
  unfold fmtE
  have i0 : 0 ≤ (B : Int) + ((0 % 2 : Nat) : Int) ∧ (B : Int) + ((0 % 2 : Nat) : Int) < (z.syn.length : Int) := by omega
  have i1 : 0 ≤ (B : Int) + ((1 % 2 : Nat) : Int) ∧ (B : Int) + ((1 % 2 : Nat) : Int) < (z.syn.length : Int) := by omega
  match L with
  | 0 => rw [wE_dead i0 (by omega)]; rfl
  | 1 =>
    obtain ⟨a1, a2, a3, a4⟩ := wE_step (L := 0) (slotL 0 []) i0 ho hl
    rw [a1, wE_dead (by rw [a4]; exact i1) (by omega)]; rfl
  | 2 =>
    obtain ⟨a1, a2, a3, a4⟩ := wE_step (L := 1) (slotL 0 []) i0 ho hl
    obtain ⟨b1, b2, b3, b4⟩ := wE_step (L := 0) zeroR (by rw [a4]; exact i1) a2 a3
    have e2 : opOk (wS (wS z ((B : Int) + ((0 % 2 : Nat) : Int)) (slotL 0 [])) ((B : Int) + ((1 % 2 : Nat) : Int)) zeroR) = false := by rw [opOk, b3]; simp
    rw [a1, b1, sE, e2]
    rfl
  | L + 3 =>
    obtain ⟨a1, a2, a3, a4⟩ := wE_step (L := L + 2) (slotL 0 []) i0 ho hl
    obtain ⟨b1, b2, b3, b4⟩ := wE_step (L := L + 1) zeroR (by rw [a4]; exact i1) a2 a3
    rw [a1, b1, sE_ok b2 (by omega)]
    simp
theorem new_rows {n i : Nat} (h : i < n) : readS (newS n) i = intsB zeroB := by
  have e : (newS n).wr[i]?.join = none := by simp [newS, List.getElem?_replicate, h]
  rw [readS, e, Option.getD_none, zeroB_ints]
  simp [newS, List.getD, List.getElem?_replicate, h, zeroR]
theorem sel_zero : selK (fun _ => zeroB) 2 = none := by
  show selStep 1 (parseS zeroB) (selStep 0 (parseS zeroB) none) = none
  rw [parse_zero]; rfl
set_option maxRecDepth 100000 in
set_option maxHeartbeats 2000000 in
theorem ranges_any (w : World) (hR : Rounds w) (S0 base L0 : Int) (E : Nat → Addr) (he : ErrEnv w w.heap.size E) :
    Calls Tryd.prog 5 #[.int .i64 S0, .int .i64 base, .int .i64 L0] w fun e w' => e = .returned (.bool true) ∧ w.grownBy w' none := by
  have her : ErrAt w w.heap.size 0 (E 0) := he.var 0 (by omega)
  have hep : ErrAt w w.heap.size 6 (E 5) := he.var 5 (by omega)
  have hed : ErrAt w w.heap.size 1 (E 6) := he.var 6 (by omega)
  have hef : ErrAt w w.heap.size 7 (E 7) := he.var 7 (by omega)
  have hv := ErrEnv.vars he [0, 1] (by simp)
  obtain ⟨n, hn, hn6⟩ := u_mod S0 6 (by omega)
  obtain ⟨L, hL, hL6⟩ := u_mod L0 6 (by omega)
  have HX := Lib.hid (And.intro hR (And.intro hv (And.intro her (And.intro hep (And.intro hed (And.intro hef (And.intro he (And.intro hn hL))))))))
  clear hR hv her hep hed hef he hn hL
  refine (callsIn_wide (n := 10)).1 ?_
  refine callsIn_of_wp Tryd.func5 rfl trivial ?_ rfl
  simp only [Tryd.ntmps5, List.size_toArray, List.length_cons, List.length_nil, Nat.reduceAdd, Nat.reduceSub, Array.replicate_succ, Array.replicate_zero, List.push_toArray, List.append_toArray, List.nil_append, List.cons_append]
  gi_wp2
  refine ⟨trivial, ?_⟩
  refine (callsIn_wide.2 (alive_is w HX.out.1 E HX.out.2.1 (E 5) (E 6) (E 7) HX.out.2.2.2.1 HX.out.2.2.2.2.1 HX.out.2.2.2.2.2.1)).mono ?_
  rintro e w1 ⟨rfl, k1⟩
  have K1 := Lib.hid k1
  clear k1
  gi_wp2
  obtain ⟨M, hM⟩ : ∃ M : Nat, n + 1 = M := ⟨_, rfl⟩
  have hMw : wrap64 (1 + wrap64 ((IntKind.u64.wrap S0).tmod 6)) = (M : Int) := by
    rw [HX.out.2.2.2.2.2.2.2.1, ← hM]
    unfold wrap64
    omega
  rw [hMw, HX.out.2.2.2.2.2.2.2.2]
  have HM := Lib.hid hMw
  have hM6 : 1 ≤ M ∧ M ≤ 6 := by omega
  clear hMw hM hn6
  refine ⟨trivial, ?_⟩
  refine (callsIn_wide.2 (dsk_new w w1 (Kept.of_grown (F := fun j => w.heap.size ≤ j) K1.out (fun _ e => by cases e)) M (by omega) (E 0) HX.out.2.2.1)).mono ?_
  rintro e w2 ⟨k2, d, b, m, rfl, hd, _⟩
  have H2 := Lib.hid hd
  clear k2 hd
  gi_wp2
  have hns : (newS M).syn.length = M := by simp [newS]
  have hop := open_is w w2 d b m (newS M) H2.out HX.out.1 E HX.out.2.1 (E 5) (E 6) HX.out.2.2.2.1 HX.out.2.2.2.2.1 base (fun _ => zeroB) (fun h1 h2 k hk => ⟨rfl, new_rows (by rw [hns] at h2; omega)⟩)
  rw [hns] at hop
  have HOP := Lib.hid hop
  clear hop hns
  refine ⟨trivial, ?_⟩
  refine (callsIn_wide.2 HOP.out).mono ?_
  rintro e w3 ⟨g3, ⟨hbad, rfl⟩ | ⟨hok, ⟨hoff, _⟩ | ⟨_, ⟨_, rfl⟩ | ⟨c, x, hc, _⟩⟩⟩⟩
  · have H3 := Lib.hid (H2.out.grown g3)
    have HB := Lib.hid hbad
    clear g3 hbad HOP
    gi_wp2
    refine ⟨trivial, ?_⟩
    refine (callsIn_wide.2 (dsk_arm H3.out (L : Int) (by omega))).mono ?_
    rintro e w4 ⟨rfl, hd, _⟩
    have H4 := Lib.hid hd
    clear hd
    gi_wp2
    refine ⟨trivial, ?_⟩
    refine (callsIn_wide.2 (format_is w w4 d b m (armS (newS M) (L : Int)) H4.out HX.out.1 (E 0) (E 5) HX.out.2.2.1 HX.out.2.2.2.1 base)).mono ?_
    rintro e w5 (⟨_, rfl, hd⟩ | ⟨hok, _⟩)
    · have H5 := Lib.hid hd
      clear hd
      by_cases hb0 : base < 0
      · have d1 : decide (base < 0) = true := by simpa using hb0
        clear hb0
        gi_wp2
        refine ⟨trivial, ?_⟩
        refine (callsIn_wide.2 (num_err w5 w.heap.size E 0 (by omega) (HX.out.2.2.2.2.2.2.1.below H5.out.below (Nat.le_refl _)))).mono ?_
        rintro e w6 ⟨rfl, k6⟩
        have H6 := Lib.hid (H5.out.grown k6)
        clear k6
        gi_wp2
        refine ⟨trivial, ?_⟩
        refine (callsIn_wide.2 (num_err w6 w.heap.size E 0 (by omega) (HX.out.2.2.2.2.2.2.1.below H6.out.below (Nat.le_refl _)))).mono ?_
        rintro e w7 ⟨rfl, k7⟩
        have H7 := Lib.hid (H6.out.grown k7)
        clear k7
        gi_wp2
        go_ret
        exact ⟨rfl, H7.out.grownNone⟩
      · have d1 : decide (base < 0) = false := by simpa using hb0
        have hb1 : (M : Int) - 1 ≤ base := by have := HB.out; omega
        have d2 : decide ((M : Int) - 1 ≤ base) = true := by simpa using hb1
        clear hb0
        gi_wp2
        refine ⟨trivial, ?_⟩
        refine (callsIn_wide.2 (num_err w5 w.heap.size E 0 (by omega) (HX.out.2.2.2.2.2.2.1.below H5.out.below (Nat.le_refl _)))).mono ?_
        rintro e w6 ⟨rfl, k6⟩
        have H6 := Lib.hid (H5.out.grown k6)
        clear k6
        gi_wp2
        refine ⟨trivial, ?_⟩
        refine (callsIn_wide.2 (num_err w6 w.heap.size E 0 (by omega) (HX.out.2.2.2.2.2.2.1.below H6.out.below (Nat.le_refl _)))).mono ?_
        rintro e w7 ⟨rfl, k7⟩
        have H7 := Lib.hid (H6.out.grown k7)
        clear k7
        gi_wp2
        go_ret
        exact ⟨rfl, H7.out.grownNone⟩
    · exact absurd (by rw [show (armS (newS M) (L : Int)).syn.length = M by simp [armS, newS]] at hok; exact hok) HB.out
  · simp [newS] at hoff
  · obtain ⟨B0, rfl⟩ : ∃ B0 : Nat, base = (B0 : Int) := ⟨base.toNat, by omega⟩
    have H3 := Lib.hid (H2.out.grown g3)
    have HB := Lib.hid hok
    clear g3 hok HOP
    gi_wp2
    refine ⟨trivial, ?_⟩
    refine (callsIn_wide.2 (dsk_arm H3.out (L : Int) (by omega))).mono ?_
    rintro e w4 ⟨rfl, hd, _⟩
    have H4 := Lib.hid hd
    clear hd
    gi_wp2
    refine ⟨trivial, ?_⟩
    refine (callsIn_wide.2 (format_is w w4 d b m (armS (newS M) (L : Int)) H4.out HX.out.1 (E 0) (E 5) HX.out.2.2.1 HX.out.2.2.2.1 (B0 : Int))).mono ?_
    have hal : (armS (newS M) (L : Int)).syn.length = M := by simp [armS, newS]
    have hfe : fmtE (armS (newS M) (L : Int)) (B0 : Int) = if L < 3 then 2 else 0 := fmtE_arm (by rw [hal]; have := HB.out; omega) rfl (by show (if (L : Int) < -1 then (-1 : Int) else (L : Int)) = _; rw [if_neg (by omega)])
    have hb1 : ¬ (B0 : Int) < 0 ∧ ¬ (M : Int) - 1 ≤ (B0 : Int) := by have := HB.out; omega
    have d1 : decide ((B0 : Int) < 0) = false := by simp
    have d2 : decide ((M : Int) - 1 ≤ (B0 : Int)) = false := by simpa using hb1.2
    obtain ⟨J, hJ⟩ : ∃ J : Int, (B0 : Int) = J := ⟨_, rfl⟩
    have HFE := Lib.hid (And.intro hfe hal)
    clear hfe hal
    rintro e w5 (⟨hbad, _⟩ | ⟨_, hd, ⟨hne, rfl⟩ | ⟨h0, s, rfl, hsl, hs⟩⟩)
    · exact absurd (by rw [HFE.out.2]; exact HB.out) hbad
    · have hL3 : L < 3 := by
        rw [HFE.out.1] at hne
        by_cases h : L < 3
        · exact h
        · rw [if_neg h] at hne; exact absurd rfl hne
      have hev : eV (E 0) (E 5) (fmtE (armS (newS M) (L : Int)) (B0 : Int)) = errV (E 5) := by rw [HFE.out.1, if_pos hL3]; rfl
      have d3 : decide ((L : Int) < 3) = true := by simp; omega
      rw [hev]
      have H5 := Lib.hid hd
      rw [hJ] at d1 d2 ⊢
      clear hd hev hne hb1 hJ
      gi_wp2
      refine ⟨trivial, ?_⟩
      refine (callsIn_wide.2 (num_err w5 w.heap.size E 6 (by omega) (HX.out.2.2.2.2.2.2.1.below H5.out.below (Nat.le_refl _)))).mono ?_
      rintro e w6 ⟨rfl, k6⟩
      have H6 := Lib.hid (H5.out.grown k6)
      clear k6
      gi_wp2
      refine ⟨trivial, ?_⟩
      refine (callsIn_wide.2 (num_err w6 w.heap.size E 5 (by omega) (HX.out.2.2.2.2.2.2.1.below H6.out.below (Nat.le_refl _)))).mono ?_
      rintro e w7 ⟨rfl, k7⟩
      have H7 := Lib.hid (H6.out.grown k7)
      clear k7
      gi_wp2
      go_ret
      exact ⟨rfl, H7.out.grownNone⟩
    · have hL3 : ¬ L < 3 := by
        intro h
        rw [HFE.out.1, if_pos h] at h0
        cases h0
      have d3 : decide ((L : Int) < 3) = false := by simp; omega
      have H5 := Lib.hid hd
      rw [hJ] at d1 d2 hsl ⊢
      have HS := Lib.hid hsl
      clear hd hsl h0 hb1 hJ hs
      gi_wp2
      refine ⟨trivial, ?_⟩
      refine (callsIn_wide.2 (num_err w5 w.heap.size E 6 (by omega) (HX.out.2.2.2.2.2.2.1.below H5.out.below (Nat.le_refl _)))).mono ?_
      rintro e w6 ⟨rfl, k6⟩
      have H6 := Lib.hid (H5.out.grown k6)
      have HS6 := Lib.hid (HS.out.grown k6)
      clear k6
      gi_wp2
      refine ⟨trivial, ?_⟩
      refine (callsIn_wide.2 (record_is HS6.out (by simp))).mono ?_
      rintro e w7 ⟨A7, c7, rfl, _, k7⟩
      have H7 := Lib.hid (And.intro (H6.out.grown k7) (HS6.out.grown k7))
      clear k7
      gi_wp2
      refine ⟨trivial, ?_⟩
      refine (callsIn_wide.2 (count_is H7.out.2)).mono ?_
      rintro e w8 ⟨rfl, hw8⟩
      obtain rfl : w7 = w8 := hw8.symm
      gi_wp2
      go_ret
      exact ⟨rfl, H7.out.1.grownNone⟩
  · exact absurd hc (by rw [sel_zero]; simp)
end Go.Proofs.YtilfapibfadbfaaDoor
