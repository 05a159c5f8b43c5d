/-
  Several texts in one: GdF, GdG, GdH.
-/
import Derived.Test.YthkjlgjbjjjohaaGreatDoorGdG2
/-
  Guard: a guard on a disk whose power lasts; the chapter's example.
-/

namespace Go.Proofs.YthkjlgjbjjjohaaGreatDoor
open Go.RowKit Go.Maps

/-- A guard whose disk's power lasts. -/
structure GdRun (w0 w : World) (P : GdP) (seed : List Int) (cn : Nat) (st : St) : Prop where
  ex : ∃ z tr, GdIs w0 w P 0 seed z cn (stBs st) st ∧ PlZ z cn (stBs st) false tr ∧ Lasts z 2
  ok : st.ok
section
variable {w0 w w' : World} {P : GdP} {seed : List Int} {cn : Nat} {st t : St}
theorem GdRun.grown (h : GdRun w0 w P seed cn st) (hg : w.grownBy w' none) : GdRun w0 w' P seed cn st := by
  obtain ⟨z, tr, h1, h2⟩ := h.ex
  exact ⟨⟨z, tr, h1.grown hg, h2⟩, h.ok⟩
theorem put_run {z : DkS} {tr : List UInt8} (h2 : PlZ z cn (stBs st) false tr) (h3 : Lasts z 2) (t : St) : putE z 0 cn (stBs t) = 0 ∧ PlZ (putZ z 0 cn (stBs t)) (cn + 1) (stBs t) false tr ∧ Lasts (putZ z 0 cn (stBs t)) 2 := by
  have h4 := lasts_put h3 (base := 0) (by omega) cn (stBs t)
  rcases put_plz h2 (stBs t) (by rw [stBs_len]; omega) with ⟨_, _, h⟩ | ⟨h, _⟩
  · exact ⟨h4.1, h, h4.2⟩
  · rw [h4.1] at h; cases h
/-- What a step answers that signs, if the power lasts. -/
def RunPost (w0 w w' : World) (e : Ending) (P : GdP) (seed : List Int) (cn : Nat) (st t : St) (k : Nat) (m : List Int) (E : Nat → Addr) : Prop :=
  ((k ≠ 0 ∧ e = .returned (.tuple #[.agg sigZ, evOf E k]) ∧ GdRun w0 w' P seed cn st) ∨
   (k = 0 ∧ (∃ i : Nat, st.f = (i : Int) ∧ i < 32 ∧ SigR w w' e seed st.f i m) ∧ GdRun w0 w' P seed (cn + 1) t)) ∧ Kept P.F w w' ∧ ∀ j, j < w.heap.size → SlFar w P.s j → SlFar w' P.s j
theorem run_of_step {e : Ending} {z : DkS} {tr : List UInt8} {k : Nat} {m : List Int} {E : Nat → Addr} (h2 : PlZ z cn (stBs st) false tr) (h3 : Lasts z 2) (hs : st.ok) (ht : k = 0 → t.ok) (h : StepPost w0 w w' e P 0 seed z cn (stBs st) st t k m E) : RunPost w0 w w' e P seed cn st t k m E := by
  have hp := put_run h2 h3 t
  rcases h with ⟨hk, he, hg, gg⟩ | ⟨hk, i, hi, hi32, ⟨⟨hne, _⟩ | ⟨_, hsr, hg⟩, hkk, hff⟩⟩
  · exact ⟨.inl ⟨hk, he, ⟨z, tr, hg, h2, h3⟩, hs⟩, Kept.of_grown gg (fun _ e => by cases e), fun j _ hj => hj.kept (Kept.of_grown (F := fun _ => False) gg fun _ e => by cases e) (fun h => h)⟩
  · exact absurd hp.1 hne
  · exact ⟨.inr ⟨hk, ⟨i, hi, hi32, hsr⟩, ⟨_, tr, hg, hp.2⟩, ht hk⟩, hkk, hff⟩
theorem lateK_ok {st : St} {x : Stp} (hk : lateK st x = 0) : lateE st.e st.v st.l st.p st.f x.ep x.r = 0 ∧ 0 ≤ x.q ∧ x.q < x.r := by
  unfold lateK at hk
  split at hk
  · rename_i h; exact absurd hk h
  · rename_i h
    split at hk
    · omega
    · exact ⟨by omega, by omega, by omega⟩
section
variable (h : GdRun w0 w P seed cn st) (hR : Rounds w0) (E : Nat → Addr) (he : ErrEnv w0 w0.heap.size E) (hseed : isDig seed) (hcn : cn < 9223372036854775000)
include h hR he hseed hcn
theorem vote_run (x : Stp) (hep : -9223372036854775808 ≤ x.ep ∧ x.ep < 9223372036854775808) (hxr : -9223372036854775808 ≤ x.r ∧ x.r < 9223372036854775808) (d : List Int) (hd : isDig d) (dd : Array Value) (hdd : dd = arrV .u8 d) :
    Calls Tryz.prog 24 #[.pointer (some ⟨P.g, 0, none⟩), .int .i64 x.ep, .int .i64 x.r, .int .i64 x.q, .int .i64 x.g, .agg dd] w fun e w' =>
      RunPost w0 w w' e P seed cn st (voteR st x) (voteE st.e st.v st.l st.p st.f x.ep x.r x.q) (forV x.ep x.r d) E := by
  obtain ⟨z, tr, h1, h2, h3⟩ := h.ex
  exact (gvote_is h1 hR E he hseed hcn (by omega) x hep hxr d hd dd hdd).mono fun _ _ hp => run_of_step h2 h3 h.ok (fun hk => (vote_okS hk).1) hp
theorem prop_run (x : Stp) (hep : -9223372036854775808 ≤ x.ep ∧ x.ep < 9223372036854775808) (hxr : -9223372036854775808 ≤ x.r ∧ x.r < 9223372036854775808) (d : List Int) (hd : isDig d) (dd : Array Value) (hdd : dd = arrV .u8 d) :
    Calls Tryz.prog 55 #[.pointer (some ⟨P.g, 0, none⟩), .int .i64 x.ep, .int .i64 x.r, .agg dd] w fun e w' =>
      RunPost w0 w w' e P seed cn st (propR st x) (propE st.e st.v st.l st.p st.f x.ep x.r) (forP d) E := by
  obtain ⟨z, tr, h1, h2, h3⟩ := h.ex
  exact (gprop_is h1 hR E he hseed hcn (by omega) x hep hxr d hd dd hdd).mono fun _ _ hp => run_of_step h2 h3 h.ok (fun hk => (prop_okS hk).1) hp
theorem late_run (x : Stp) (hep : -9223372036854775808 ≤ x.ep ∧ x.ep < 9223372036854775808) (hxr : -9223372036854775808 ≤ x.r ∧ x.r < 9223372036854775808) (hxq : -9223372036854775808 ≤ x.q ∧ x.q < 9223372036854775808) :
    Calls Tryz.prog 25 #[.pointer (some ⟨P.g, 0, none⟩), .int .i64 x.ep, .int .i64 x.r, .int .i64 x.q] w fun e w' =>
      RunPost w0 w w' e P seed cn st (lateR st x) (lateK st x) (forL x.ep x.r x.q) E := by
  obtain ⟨z, tr, h1, h2, h3⟩ := h.ex
  exact (glate_is h1 hR E he hseed hcn (by omega) x hep hxr hxq).mono fun _ _ hp => run_of_step h2 h3 h.ok (fun hk => (late_okS (lateK_ok hk).1).1) hp
end
theorem enter_run (h : GdRun w0 w P seed cn st) (hR : Rounds w0) (E : Nat → Addr) (he : ErrEnv w0 w0.heap.size E) (hcn : cn < 9223372036854775000) (x : Stp) :
    Calls Tryz.prog 26 #[.pointer (some ⟨P.g, 0, none⟩), .int .i64 x.ep] w fun e w' =>
      (e = .returned (evOf E (enterE st.e st.v st.l st.p st.f x.ep)) ∧
       ((enterE st.e st.v st.l st.p st.f x.ep ≠ 0 ∧ GdRun w0 w' P seed cn st) ∨ (enterE st.e st.v st.l st.p st.f x.ep = 0 ∧ GdRun w0 w' P seed (cn + 1) (enterR st x)))) ∧ Kept P.F w w' := by
  obtain ⟨z, tr, h1, h2, h3⟩ := h.ex
  refine (genter_is h1 hR E he hcn (by omega) x).mono fun _ _ hp => ?_
  have hpr := put_run h2 h3 (enterR st x)
  rcases hp with ⟨hk, rfl, hg, gg⟩ | ⟨hk, ⟨hne, _⟩ | ⟨_, rfl, hg⟩, hkk, _⟩
  · exact ⟨⟨rfl, .inl ⟨hk, ⟨z, tr, hg, h2, h3⟩, h.ok⟩⟩, Kept.of_grown gg fun _ e => by cases e⟩
  · exact absurd hpr.1 hne
  · exact ⟨⟨by rw [hk]; rfl, .inr ⟨hk, ⟨_, tr, hg, hpr.2⟩, enter_okS hk⟩⟩, hkk⟩
theorem state_run (h : GdRun w0 w P seed cn st) : Calls Tryz.prog 14 #[.pointer (some ⟨P.g, 0, none⟩)] w fun e w' => e = .returned st.val ∧ w.grownBy w' none := by
  obtain ⟨z, tr, h1, _⟩ := h.ex
  exact gstate_is h1
end
section
variable {w0 w w' : World} {d b m kb lb cap : Nat} {seed : List Int} {z : DkS} {n : Nat}
theorem plz_lasts {z : DkS} {cn : Nat} {rc tr : List UInt8} {td : Bool} (h : PlZ z cn rc td tr) (h1 : z.off = false) (h2 : z.lasts = -1) : Lasts z 2 := ⟨h1, h2, h.syn⟩
theorem format_run (h : Dsk w0 w d b m (newS 2)) (hR : Rounds w0) (E : Nat → Addr) (he : ErrEnv w0 w0.heap.size E) (ep : Int) (hep : 0 ≤ ep ∧ ep ≤ 1073741824)
    (hk : KeyAt w kb (arrV .u8 seed) (.slice (some ⟨lb, 0, none⟩) 32 cap) (arrV .u8 (rootC seed))) (hl : DigsAt w lb 0 (leavesC seed)) (hkl : lb < w.heap.size) (hne : (kb ≠ d ∧ kb ≠ b ∧ kb ≠ m) ∧ (lb ≠ d ∧ lb ≠ b ∧ lb ≠ m)) :
    Calls Tryz.prog 22 #[.pointer (some ⟨d, 0, none⟩), .int .i64 0, .pointer (some ⟨kb, 0, none⟩), .int .i64 ep] w fun e w' =>
      (∃ g s, e = .returned (.tuple #[.pointer (some ⟨g, 0, none⟩), .nilIface]) ∧ w.heap.size ≤ g ∧ w.heap.size ≤ s ∧ GdRun w0 w' ⟨g, kb, lb, cap, s, d, b, m⟩ seed 1 (st0 ep) ∧ ∀ j, j < w.heap.size → SlFar w' s j) ∧ Kept (fun j => j = d ∨ j = b ∨ j = m) w w' := by
  have hz : Lasts (newS 2) 2 := ⟨rfl, rfl, rfl⟩
  have hfm := lasts_fmt hz (base := 0) (by omega)
  have hok : (st0 ep).ok := right_mk (by simp only [st0]; omega)
  refine (gformat_is h hR E he hz (by omega) ep hep hk hl hkl hne).mono ?_
  rintro e w' ⟨⟨g, s, rfl, hg, hs, hG, hf⟩, hk⟩
  have h4 := lasts_put hfm.2 (base := 0) (by omega) 0 (stBs (st0 ep))
  have hpl : PlZ (putZ (fmtZ (newS 2) 0) 0 0 (stBs (st0 ep))) 1 (stBs (st0 ep)) false [] := by
    rcases put_plz plz_start (stBs (st0 ep)) (by rw [stBs_len]; omega) with ⟨_, _, h⟩ | ⟨h, _⟩
    · exact h
    · rw [h4.1] at h; cases h
  exact ⟨⟨g, s, rfl, hg, hs, ⟨⟨_, [], hG, hpl, h4.2⟩, hok⟩, hf⟩, hk⟩
end
end Go.Proofs.YthkjlgjbjjjohaaGreatDoor
/-
  Guard: the chapter's example.
-/

namespace Go.Proofs.YthkjlgjbjjjohaaGreatDoor
open Go.RowKit Go.Maps

def dgO (x : Int) : List Int := x :: List.replicate 15 0
theorem dgO_dig {x : Int} (h : 0 ≤ x ∧ x < 256) : isDig (dgO x) := ⟨by simp [dgO], fun z hz => by
  simp only [dgO, List.mem_cons, List.mem_replicate] at hz
  omega⟩
theorem build_dg (w : World) (x : Int) : Sem.run Tryz.prog (Instr.build 23 #[(0, .int .u8 x)]) w = .ok (.agg (arrV .u8 (dgO x))) w := by
  exact run_build w 23 _ _ (by kernel_rfl)
theorem lit_dg (x : Int) : (#[.int .u8 x, .int .u8 0, .int .u8 0, .int .u8 0, .int .u8 0, .int .u8 0, .int .u8 0, .int .u8 0, .int .u8 0, .int .u8 0, .int .u8 0, .int .u8 0, .int .u8 0, .int .u8 0, .int .u8 0, .int .u8 0] : Array Value) = arrV .u8 (dgO x) := by kernel_rfl
theorem al_v1 : voteE (st0 1).e (st0 1).v (st0 1).l (st0 1).p (st0 1).f 1 1 0 = 0 := by decide
theorem al_s1 : voteR (st0 1) ⟨1, 1, 1, 0, 0⟩ = ⟨1, 1, 0, 0, 1⟩ := by simp [voteR, st0, show voteE 1 0 0 0 0 1 1 0 = 0 by decide, voteL]
theorem al_v2 : voteE 1 1 0 0 1 1 1 0 = 10 := by decide
set_option maxRecDepth 100000 in
set_option maxHeartbeats 4000000 in
theorem alive_is (w : World) (hR : Rounds w) (E : Nat → Addr) (he : ErrEnv w w.heap.size E) :
    Calls Tryz.prog 8 #[] w fun e w' => e = .returned (.bool true) ∧ w.grownBy w' none := by
  have hB5 := lit_dg 5
  have hB1 := lit_dg 1
  have hB2 := lit_dg 2
  obtain ⟨d5, hd5⟩ : ∃ D, dgO 5 = D := ⟨_, rfl⟩
  obtain ⟨d1, hd1⟩ : ∃ D, dgO 1 = D := ⟨_, rfl⟩
  obtain ⟨d2, hd2⟩ : ∃ D, dgO 2 = D := ⟨_, rfl⟩
  have HDG := Lib.hid (And.intro (show isDig d5 by rw [← hd5]; exact dgO_dig (by omega)) (And.intro (show isDig d1 by rw [← hd1]; exact dgO_dig (by omega)) (show isDig d2 by rw [← hd2]; exact dgO_dig (by omega))))
  rw [hd5] at hB5
  rw [hd1] at hB1
  rw [hd2] at hB2
  obtain ⟨D5, hD5⟩ : ∃ D, arrV .u8 d5 = D := ⟨_, rfl⟩
  obtain ⟨D1, hD1⟩ : ∃ D, arrV .u8 d1 = D := ⟨_, rfl⟩
  obtain ⟨D2, hD2⟩ : ∃ D, arrV .u8 d2 = D := ⟨_, rfl⟩
  rw [hD5] at hB5
  rw [hD1] at hB1
  rw [hD2] at hB2
  clear hd5 hd1 hd2
  have HX := Lib.hid (And.intro hR he)
  have HB := Lib.hid (And.intro hB5 (And.intro hB1 hB2))
  have HD := Lib.hid (And.intro hD5 (And.intro hD1 hD2))
  have HNE := Lib.hid (dsk_new w w (Kept.refl _ _) 2 (by omega) (E 0) (he.var 0 (by omega)))
  clear hR he hD5 hD1 hD2 hB5 hB1 hB2
  go_enter Tryz.func8, Tryz.ntmps8
  go_wp2_with fail
  refine HNE.out.mono ?_
  rintro e w1 ⟨g1, d, b, m, rfl, hd1, _⟩
  have H1 := Lib.hid (And.intro hd1 g1)
  clear hd1 g1 HNE
  go_wp2_with fail
  rw [HB.out.1]
  refine (new_is w1 (HX.out.1.grown H1.out.2 (by simp)) d5 HDG.out.1 D5 HD.out.1.symm).mono ?_
  rintro e w2 ⟨kb, lb, cap, rfl, hkb, hlb, hcap, hky, hlv, hkl, g2⟩
  rw [← HD.out.1] at hky
  have hlt1 : d < w1.heap.size ∧ b < w1.heap.size ∧ m < w1.heap.size := by
    obtain ⟨D, hD, _⟩ := H1.out.1.1.2.2.1
    exact ⟨H1.out.1.1.1.lt, H1.out.1.1.2.1.lt, hD.lt⟩
  have hll : lb < w2.heap.size := by
    have h0 := hlv 0 (by rw [leavesC_length]; omega)
    have h2 : ((leavesC d5).getD 0 zeroC).length = 16 := (leavesC_dig d5 ((leavesC d5).getD 0 zeroC) (by
      rw [List.getD, List.getElem?_eq_getElem (by rw [leavesC_length]; omega)]
      exact List.getElem_mem _)).1
    obtain ⟨v, r, hv⟩ : ∃ v r, (arrV .u8 ((leavesC d5).getD 0 zeroC)).toList = v :: r := List.exists_cons_of_ne_nil (fun e => by
      have h3 := congrArg List.length e
      rw [Array.length_toList, arr_size, h2] at h3
      simp at h3)
    exact World.block_lt_of_cell? w2 _ (h0 0 v (by rw [hv]; rfl))
  have H2 := Lib.hid (And.intro (H1.out.1.grown g2) (And.intro hky (And.intro hlv (And.intro hll (And.intro (show (kb ≠ d ∧ kb ≠ b ∧ kb ≠ m) ∧ (lb ≠ d ∧ lb ≠ b ∧ lb ≠ m) by omega) (grown_trans H1.out.2 g2))))))
  clear hkb hlb hcap hky hlv hkl g2 hlt1 hll
  have HF := Lib.hid (format_run H2.out.1 HX.out.1 E HX.out.2 1 (by omega) H2.out.2.1 H2.out.2.2.1 H2.out.2.2.2.1 H2.out.2.2.2.2.1)
  go_wp2_with fail
  refine HF.out.mono ?_
  rintro e w3 ⟨⟨g, s, rfl, hg, hs, hG, _⟩, hk3⟩
  have H3 := Lib.hid hG
  clear HF hg hs hG hk3
  go_wp2_with fail
  rw [HB.out.2.1]
  have HV := Lib.hid (vote_run H3.out HX.out.1 E HX.out.2 HDG.out.1 (by omega) ⟨1, 1, 1, 0, 0⟩ (by simp only; omega) (by simp only; omega) d1 HDG.out.2.1 D1 HD.out.2.1.symm)
  refine HV.out.mono ?_
  clear HV
  rintro e w4 ⟨⟨hne, _⟩ | ⟨_, ⟨i, _, _, bb, pp, pc, rfl, _⟩, hG⟩, _⟩
  · exact absurd al_v1 hne
  rw [al_s1] at hG
  obtain ⟨lf, hlf⟩ : ∃ lf, (st0 1).f = lf := ⟨_, rfl⟩
  obtain ⟨sv, hsv⟩ : ∃ sv, sigV (st0 1).f (.slice (some ⟨bb, 0, none⟩) 68 68) (.slice (some ⟨pp, 0, none⟩) 5 pc) = sv := ⟨_, rfl⟩
  have hso : (sv.all fun v => v.oneCell') = true := by rw [← hsv]; exact sigV_one _ _ _ _ _ _ _
  have hsz : sv.size = 3 := by rw [← hsv]; rfl
  rw [hsv]
  have H4 := Lib.hid (And.intro hG (And.intro hso hsz))
  clear hG hso hsz hsv hlf
  have hz30 := sigz_run
  go_wp2_with (first
    | (refine wpList_store_row rfl 73 _ _ rfl w4.heap.size sv rfl rfl 73 sigZ (heap_alloc_new w4 _) (by rw [H4.out.2.2]; exact info3) (by rw [H4.out.2.2]; rfl) H4.out.2.1 ?_))
  clear hz30
  obtain ⟨W4, hW4⟩ : ∃ W4, (w4.alloc (.cells sigZ 73)).setRow w4.heap.size sv = W4 := ⟨_, rfl⟩
  have g4 : w4.grownBy W4 none := by rw [← hW4]; exact grown_row (World.grownBy_alloc _ _ none) (.inl (Nat.le_refl _)) _
  rw [hW4]
  have h4 := H4.out.1.grown g4
  obtain ⟨z4, tr4, hgi, hpl, hla⟩ := h4.ex
  have hcr := crash_plz hpl (by omega) []
  obtain ⟨bb2, c5, x5, hrow, hsel, hc5, hpl5, hx5⟩ := hcr
  have hx5 : x5 = stBs ⟨1, 1, 0, 0, 1⟩ := by rcases hx5 with h | ⟨h, _⟩; exact h; cases h
  have H5 := Lib.hid (And.intro hgi (And.intro hrow (And.intro hsel (And.intro hx5 (And.intro hpl5 h4.ok)))))
  have HC := Lib.hid (dsk_crash hgi.dk none 0 0 [] rfl (BoolsAt.nil _ _) (fun _ e => by cases e))
  clear h4 g4 hW4 hgi hpl hla hrow hsel hx5 hpl5
  go_wp2_with fail
  refine HC.out.mono ?_
  rintro e w6 ⟨rfl, hd6, ht6⟩
  have hnf : ¬ (kb = d ∨ kb = b ∨ kb = m) ∧ ¬ (lb = d ∨ lb = b ∨ lb = m) := by have := H2.out.2.2.2.2.1; omega
  have hky6 := H5.out.1.ky.kept ht6 hnf.1
  have hlv6 := H5.out.1.lv.kept ht6 hnf.2
  have hlt6 : lb < w6.heap.size := Nat.lt_of_lt_of_le H5.out.1.lt2.2 ht6.size
  have H6 := Lib.hid (And.intro hd6 (And.intro hky6 (And.intro hlv6 hlt6)))
  clear hd6 ht6 hnf hky6 hlv6 hlt6 HC
  have HO := Lib.hid (gopen_some H6.out.1 HX.out.1 E HX.out.2 rfl (show 0 ≤ (0 : Int) ∧ (0 : Int) + 2 ≤ _ by rw [H5.out.2.2.2.2.1.syn]; omega) bb2 (fun k hk => by rw [show (0 : Int).toNat + k = k by simp]; exact H5.out.2.1 k hk) c5 x5 H5.out.2.2.1 (by rw [H5.out.2.2.2.1, stBs_len]; omega) H6.out.2.1 H6.out.2.2.1 H6.out.2.2.2 H2.out.2.2.2.2.1 ⟨1, 1, 0, 0, 1⟩ 0 (fun V A c hV hE hb => by
    rw [H5.out.2.2.2.1] at hb ⊢
    rw [stBs_len]
    exact read_st V w.heap.size hV E hE A c _ H5.out.2.2.2.2.2 hb))
  go_wp2_with fail
  refine HO.out.mono ?_
  rintro e w7 ⟨g7, ⟨h0, _⟩ | ⟨_, g', s', rfl, _, _, hG7⟩⟩
  · exact absurd rfl h0
  have H7 := Lib.hid (show GdRun w w7 ⟨g', kb, lb, cap, s', d, b, m⟩ d5 c5 ⟨1, 1, 0, 0, 1⟩ from ⟨⟨_, tr4, by rw [← H5.out.2.2.2.1]; exact hG7, by rw [← H5.out.2.2.2.1]; exact H5.out.2.2.2.2.1, plz_lasts H5.out.2.2.2.2.1 rfl rfl⟩, H5.out.2.2.2.2.2⟩)
  clear g7 hG7 HO
  go_wp2_with fail
  rw [HB.out.2.2]
  have HV := Lib.hid (vote_run H7.out HX.out.1 E HX.out.2 HDG.out.1 (by omega) ⟨1, 1, 1, 0, 0⟩ (by simp only; omega) (by simp only; omega) d2 HDG.out.2.2 D2 HD.out.2.2.symm)
  refine HV.out.mono ?_
  clear HV
  rintro e w8 ⟨⟨_, rfl, hG8⟩ | ⟨h0, _⟩, _⟩
  · have e10 : evOf E (voteE 1 1 0 0 1 1 1 0) = errV (E 9) := by rw [al_v2]; rfl
    rw [e10]
    obtain ⟨z8, _, hg8, _⟩ := hG8.ex
    have H8 := Lib.hid (And.intro hg8.dk.grownNone hg8.dk.below)
    clear e10 hG8 hg8
    go_wp2_with fail
    refine (num_err w8 w.heap.size E 9 (by omega) (HX.out.2.below H8.out.2 (Nat.le_refl _))).mono ?_
    rintro e w9 ⟨rfl, g9⟩
    have H9 := Lib.hid (grown_trans H8.out.1 g9)
    clear g9
    go_wp2_with fail
    go_ret
    exact ⟨rfl, H9.out⟩
  · exact absurd (show voteE 1 1 0 0 1 1 1 0 = 0 from h0) (by rw [al_v2]; omega)
end Go.Proofs.YthkjlgjbjjjohaaGreatDoor
/-
  Guard: a play's beginning.
-/

namespace Go.Proofs.YthkjlgjbjjjohaaGreatDoor
open Go.RowKit Go.Maps

/-- A play in memory, as far as the laws without a crash read it. -/
def PlAt (w : World) (pb : Nat) (P : GdP) (rest : List Value) : Prop := Blk w pb 42 (.pointer (some ⟨P.d, 0, none⟩) :: .pointer (some ⟨P.kb, 0, none⟩) :: .pointer (some ⟨P.g, 0, none⟩) :: rest).toArray ∧ ¬ P.F pb ∧ pb ≠ P.kb ∧ pb ≠ P.lb
theorem PlAt.kept {w w' : World} {pb : Nat} {P : GdP} {rest : List Value} (h : PlAt w pb P rest) (hk : Kept P.F w w') : PlAt w' pb P rest := ⟨h.1.kept hk h.2.1, h.2⟩
theorem PlAt.grown {w w' : World} {pb : Nat} {P : GdP} {rest : List Value} (h : PlAt w pb P rest) (hg : w.grownBy w' none) : PlAt w' pb P rest := ⟨h.1.grown hg (by simp), h.2⟩
theorem PlAt.guard {w : World} {pb : Nat} {P : GdP} {rest : List Value} (h : PlAt w pb P rest) : w.cell? ⟨pb, 2, none⟩ = some (.pointer (some ⟨P.g, 0, none⟩)) := by rw [h.1.cell]; rfl
theorem digs_lt {w : World} {lb : Nat} {seed : List Int} (h : DigsAt w lb 0 (leavesC seed)) : lb < w.heap.size := by
  have h0 := h 0 (by rw [leavesC_length]; omega)
  have h2 : ((leavesC seed).getD 0 zeroC).length = 16 := (leavesC_dig seed ((leavesC seed).getD 0 zeroC) (by
    rw [List.getD, List.getElem?_eq_getElem (by rw [leavesC_length]; omega)]
    exact List.getElem_mem _)).1
  obtain ⟨v, r, hv⟩ : ∃ v r, (arrV .u8 ((leavesC seed).getD 0 zeroC)).toList = v :: r := List.exists_cons_of_ne_nil (fun e => by
    have h3 := congrArg List.length e
    rw [Array.length_toList, arr_size, h2] at h3
    simp at h3)
  exact World.block_lt_of_cell? w _ (h0 0 v (by rw [hv]; rfl))
set_option maxRecDepth 100000 in
set_option maxHeartbeats 4000000 in
theorem begin_is (w0 w : World) (hk0 : Kept (fun j => w0.heap.size ≤ j) w0 w) (hR : Rounds w0) (E : Nat → Addr) (he : ErrEnv w0 w0.heap.size E) (seed : List Int) (hs : isDig seed) (sd : Array Value) (hsd : sd = arrV .u8 seed) (ep : Int) (hep : 0 ≤ ep ∧ ep ≤ 1073741824) :
    Calls Tryz.prog 9 #[.agg sd, .int .i64 ep] w fun e w' => ∃ pb P rest, e = .returned (.tuple #[.pointer (some ⟨pb, 0, none⟩), .bool true]) ∧ PlAt w' pb P rest ∧ GdRun w0 w' P seed 1 (st0 ep) ∧ w.grownBy w' none ∧ w.heap.size ≤ pb := by
  have hmm := @run_makeMap Tryz.prog
  obtain ⟨q, hq⟩ : ∃ q, w.heap.size = q := ⟨_, rfl⟩
  obtain ⟨W1, hW1⟩ : ∃ W1, w.alloc (.cells sd 23) = W1 := ⟨_, rfl⟩
  have gW1 : w.grownBy W1 none := by rw [← hW1]; exact World.grownBy_alloc _ _ none
  have bq : Blk W1 q 23 sd := by rw [← hW1, ← hq]; exact Blk.new _ _ _
  have hs16 : sd.size = 16 := by rw [hsd, arr_size, hs.1]
  have HNE := Lib.hid (dsk_new w0 W1 (hk0.next (Kept.of_grown (F := fun _ => False) gW1 fun _ e => by cases e) (fun _ _ h => h.elim)) 2 (by omega) (E 0) (he.var 0 (by omega)))
  have HX := Lib.hid (And.intro hR (And.intro he (And.intro hs (And.intro hsd (And.intro gW1 (And.intro bq (And.intro hs16 (And.intro hq hk0.size))))))))
  have HW := Lib.hid hW1
  have HM := Lib.hid hmm
  clear hR he hs hsd gW1 bq hs16 hW1 hk0 hmm
  go_enter Tryz.func9, Tryz.ntmps9
  go_upto_region 1 with (fail)
  rw [HW.out]
  clear hq
  go_wp2_with fail
  refine HNE.out.mono ?_
  rintro e w1 ⟨g1, d, b, m, rfl, hd1, hdl⟩
  have H1 := Lib.hid (And.intro hd1 (And.intro g1 (And.intro hdl (HX.out.2.2.2.2.2.1.grown g1 (by simp)))))
  clear hd1 g1 hdl HNE
  go_wp2_with (first
    | (refine wpList_load_row rfl 23 _ rfl q rfl 23 sd (0, 0) _ H1.out.2.2.2 Tryz.underlying23 rfl (by rw [HX.out.2.2.2.2.2.2.1]; exact info16) ?_))
  refine (new_is w1 (HX.out.1.kept H1.out.1.2.1 (fun _ h => h)) seed HX.out.2.2.1 sd HX.out.2.2.2.1).mono ?_
  rintro e w2 ⟨kb, lb, cap, rfl, hkb, hlb, hcap, hky, hlv, hkl, g2⟩
  have hmm := HM.out
  go_wp2_with fail
  clear hmm
  rw [HX.out.2.2.2.1] at hky
  obtain ⟨W3, hW3⟩ : ∃ W3, (w2.alloc (.map #[] 0)).alloc (.cells #[.pointer (some ⟨d, 0, none⟩), .pointer (some ⟨kb, 0, none⟩), .pointer none, .int .i64 ep, .int .i64 0, .int .i64 0, .int .i64 0, .int .i64 0, .slice none 0 0, .map (some w2.heap.size), .slice none 0 0] 42) = W3 := ⟨_, rfl⟩
  have g3 : w2.grownBy W3 none := by rw [← hW3]; exact grown_trans (World.grownBy_alloc _ _ none) (World.grownBy_alloc _ _ none)
  have b3 : Blk W3 (w2.heap.size + 1) 42 #[.pointer (some ⟨d, 0, none⟩), .pointer (some ⟨kb, 0, none⟩), .pointer none, .int .i64 ep, .int .i64 0, .int .i64 0, .int .i64 0, .int .i64 0, .slice none 0 0, .map (some w2.heap.size), .slice none 0 0] := by
    have h := Blk.new (w2.alloc (.map #[] 0)) 42 #[.pointer (some ⟨d, 0, none⟩), .pointer (some ⟨kb, 0, none⟩), .pointer none, .int .i64 ep, .int .i64 0, .int .i64 0, .int .i64 0, .int .i64 0, .slice none 0 0, .map (some w2.heap.size), .slice none 0 0]
    rw [World.size_alloc, hW3] at h
    exact h
  rw [hW3]
  have hs3 := b3.lt
  obtain ⟨pm, hpm⟩ : ∃ pm, w2.heap.size = pm := ⟨_, rfl⟩
  rw [hpm] at b3 hs3 ⊢
  have hlt1 : d < w1.heap.size ∧ b < w1.heap.size ∧ m < w1.heap.size := by
    obtain ⟨D, hD, _⟩ := H1.out.1.1.2.2.1
    exact ⟨H1.out.1.1.1.lt, H1.out.1.1.2.1.lt, hD.lt⟩
  have hll := digs_lt hlv
  have hwle := g2.size
  have H3 := Lib.hid (And.intro (H1.out.1.grown (grown_trans g2 g3)) (And.intro (hky.grown g3) (And.intro (hlv.grown g3) (And.intro b3 (And.intro (grown_trans HX.out.2.2.2.2.1 (grown_trans H1.out.2.1 (grown_trans g2 g3))) (And.intro (show (kb ≠ d ∧ kb ≠ b ∧ kb ≠ m) ∧ (lb ≠ d ∧ lb ≠ b ∧ lb ≠ m) by omega) (And.intro (show kb < pm ∧ lb < pm by rw [← hpm]; exact ⟨hky.lt, hll⟩) (And.intro (show d < pm ∧ b < pm ∧ m < pm by omega) (And.intro hs3 (show w.heap.size ≤ pm by have := HX.out.2.2.2.2.1.size; have := H1.out.2.1.size; omega))))))))))
  clear hkb hlb hcap hky hlv hkl g2 g3 b3 hs3 hlt1 hll hwle hW3 hpm
  have HF := Lib.hid (format_run H3.out.1 HX.out.1 E HX.out.2.1 ep hep H3.out.2.1 H3.out.2.2.1 (by have := H3.out.2.2.2.2.2.2.1; have := H3.out.2.2.2.2.2.2.2.2.1; omega) H3.out.2.2.2.2.2.1)
  refine HF.out.mono ?_
  clear HF
  rintro e w4 ⟨⟨g, s, rfl, hg, hss, hG, hf⟩, hk4⟩
  have hp4 := H3.out.2.2.2.1.kept hk4 (show ¬ (pm + 1 = d ∨ pm + 1 = b ∨ pm + 1 = m) by have := H3.out.2.2.2.2.2.2.2.1; omega)
  have nF : ¬ GdP.F ⟨g, kb, lb, cap, s, d, b, m⟩ (pm + 1) ∧ pm + 1 ≠ kb ∧ pm + 1 ≠ lb := by
    have h1 := H3.out.2.2.2.2.2.2.1
    have h2 := H3.out.2.2.2.2.2.2.2.1
    have h3 := H3.out.2.2.2.2.2.2.2.2.1
    simp only [GdP.F]
    omega
  have x2 := hp4.cell 2
  have f2 := hp4.frozen 2
  simp only [List.getElem?_toArray, List.getElem?_cons_zero, List.getElem?_cons_succ] at x2
  have hk5 : Kept (fun j => j = pm + 1) w4 (w4.setCell ⟨pm + 1, 2, none⟩ (.pointer (some ⟨g, 0, none⟩))) := (Kept.refl (fun j => j = pm + 1) w4).set (p := ⟨pm + 1, 2, none⟩) (.inl rfl) _
  have hset := hp4.set 2 (.pointer (some ⟨g, 0, none⟩))
  simp only [List.setIfInBounds_toArray, List.set_cons_zero, List.set_cons_succ] at hset
  have hR5 : GdRun w0 (w4.setCell ⟨pm + 1, 2, none⟩ (.pointer (some ⟨g, 0, none⟩))) ⟨g, kb, lb, cap, s, d, b, m⟩ seed 1 (st0 ep) := by
    obtain ⟨z, tr, h1, h2⟩ := hG.ex
    exact ⟨⟨z, tr, h1.beside hk5 nF (by have := HX.out.2.2.2.2.2.2.2.2; have := H3.out.2.2.2.2.2.2.2.2.2; omega) (hf (pm + 1) H3.out.2.2.2.2.2.2.2.2.1), h2⟩, hG.ok⟩
  have hgr : w.grownBy (w4.setCell ⟨pm + 1, 2, none⟩ (.pointer (some ⟨g, 0, none⟩))) none := by
    have k1 : Kept (fun j => w.heap.size ≤ j) w W3 := Kept.of_grown H3.out.2.2.2.2.1 fun _ e => by cases e
    have hd := H1.out.2.2.1
    have h1 := HX.out.2.2.2.2.1.size
    have k2 := k1.next hk4 (fun j _ e => by have e : j = d ∨ j = b ∨ j = m := e; show w.heap.size ≤ j; omega)
    have k3 := k2.next hk5 (fun j _ e => by have e : j = pm + 1 := e; have := H3.out.2.2.2.2.2.2.2.2.2; show w.heap.size ≤ j; omega)
    exact k3.grownNone (fun j h1 h2 => by omega)
  have H5 := Lib.hid (And.intro hset (And.intro hR5 (And.intro hgr nF)))
  clear hp4 nF hk5 hset hR5 hgr hG hf hk4 hg hss
  go_wp2_with fail
  clear x2 f2
  have H6 := Lib.hid H5.out.1
  obtain ⟨w5, hw5⟩ : ∃ w5, w4.setCell ⟨pm + 1, 2, none⟩ (.pointer (some ⟨g, 0, none⟩)) = w5 := ⟨_, rfl⟩
  rw [hw5] at H5 ⊢
  clear hw5 H6
  have y2 := H5.out.1.cell 2
  simp only [List.getElem?_toArray, List.getElem?_cons_zero, List.getElem?_cons_succ] at y2
  go_quiet (fail)
  go_wp2_with fail
  refine bodyPost_ret (results_tmp2 rfl _ _ _) rfl ?_
  have gd : ∀ k, w5.grownBy (w5.drewN k) none := fun k => ⟨rfl, rfl, rfl, Nat.le_refl _, fun _ _ _ => rfl⟩
  exact ⟨pm + 1, ⟨g, kb, lb, cap, s, d, b, m⟩, [.int .i64 ep, .int .i64 0, .int .i64 0, .int .i64 0, .int .i64 0, .slice none 0 0, .map (some pm), .slice none 0 0], rfl, PlAt.grown ⟨H5.out.1, H5.out.2.2.2⟩ (gd _), H5.out.2.1.grown (gd _), grown_trans H5.out.2.2.1 (gd _), by have := H3.out.2.2.2.2.2.2.2.2.2; omega⟩
end Go.Proofs.YthkjlgjbjjjohaaGreatDoor
