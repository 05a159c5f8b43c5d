/-
  GuardEpochs, walked.
-/
import Derived.Test.YthkjlgjbjjjohaaGreatDoorGdG3
import Derived.Test.YthkjlgjbjjjohaaGreatDoorWireB
namespace Go.Proofs.YthkjlgjbjjjohaaGreatDoor
open Go.RowKit Go.Maps

def epS (ep vv : Int) (n : Nat) : St := ⟨ep, vv, 0, 0, (n : Int)⟩
theorem ep_right {ep vv : Int} {n : Nat} (he : 1 ≤ ep ∧ ep ≤ 1073741824) (hv : 0 ≤ vv ∧ vv ≤ 1) (hn : n ≤ 32) : rightB ep vv 0 0 (n : Int) = true := right_mk (by omega)
theorem ep_enterN {ep vv x : Int} {n : Nat} (he : 1 ≤ ep ∧ ep ≤ 1073741824) (hv : 0 ≤ vv ∧ vv ≤ 1) (hn : n ≤ 32) (hx : ¬ (ep < x ∧ x ≤ 1073741824)) : enterE (epS ep vv n).e (epS ep vv n).v (epS ep vv n).l (epS ep vv n).p (epS ep vv n).f x = 18 := by
  show enterE ep vv 0 0 (n : Int) x = 18
  unfold enterE
  rw [ep_right he hv hn, if_neg (by simp), if_pos (by omega)]
theorem ep_enterY {ep vv x : Int} {n : Nat} (he : 1 ≤ ep ∧ ep ≤ 1073741824) (hv : 0 ≤ vv ∧ vv ≤ 1) (hn : n ≤ 32) (hx : ep < x ∧ x ≤ 1073741824) : enterE (epS ep vv n).e (epS ep vv n).v (epS ep vv n).l (epS ep vv n).p (epS ep vv n).f x = 0 := by
  show enterE ep vv 0 0 (n : Int) x = 0
  unfold enterE
  rw [ep_right he hv hn, if_neg (by simp), if_neg (by omega)]
theorem ep_enterR {ep vv x : Int} {n : Nat} (he : 1 ≤ ep ∧ ep ≤ 1073741824) (hv : 0 ≤ vv ∧ vv ≤ 1) (hn : n ≤ 32) (hx : ep < x ∧ x ≤ 1073741824) : enterR (epS ep vv n) ⟨4, x, 0, 0, 0⟩ = epS x 0 n := by
  unfold enterR
  rw [show enterE (epS ep vv n).e (epS ep vv n).v (epS ep vv n).l (epS ep vv n).p (epS ep vv n).f (Stp.mk 4 x 0 0 0).ep = 0 from ep_enterY he hv hn hx, if_pos rfl]
  rfl
theorem ep_vote {ep : Int} {n : Nat} (he : 1 ≤ ep ∧ ep ≤ 1073741824) (hn : n < 32) : voteE (epS ep 0 n).e (epS ep 0 n).v (epS ep 0 n).l (epS ep 0 n).p (epS ep 0 n).f ep 1 0 = 0 := by
  show voteE ep 0 0 0 (n : Int) ep 1 0 = 0
  have hc : chkN ep 0 0 0 (n : Int) ep 1 = 0 := by
    unfold chkN
    rw [ep_right he (by omega) (by omega), if_neg (by simp), if_neg (by simp), if_neg (by omega)]
  rw [voteE_eq hc, if_neg (by omega), if_neg (by omega), if_neg (by omega), if_neg (by omega)]
theorem ep_voteR {ep : Int} {n : Nat} (he : 1 ≤ ep ∧ ep ≤ 1073741824) (hn : n < 32) : voteR (epS ep 0 n) ⟨1, ep, 1, 0, 0⟩ = epS ep 1 (n + 1) := by
  unfold voteR
  rw [show voteE (epS ep 0 n).e (epS ep 0 n).v (epS ep 0 n).l (epS ep 0 n).p (epS ep 0 n).f (Stp.mk 1 ep 1 0 0).ep (Stp.mk 1 ep 1 0 0).r (Stp.mk 1 ep 1 0 0).q = 0 from ep_vote he hn, if_pos rfl]
  simp [epS, voteL]
/-- What entering an epoch answers in the law. -/
theorem ep_post {w0 w w' : World} {e : Ending} {P : GdP} {seed : List Int} {cn n : Nat} {ep vv x : Int} {E : Nat → Addr} (he : 1 ≤ ep ∧ ep ≤ 1073741824) (hv : 0 ≤ vv ∧ vv ≤ 1) (hn : n ≤ 32)
    (h : (e = .returned (evOf E (enterE (epS ep vv n).e (epS ep vv n).v (epS ep vv n).l (epS ep vv n).p (epS ep vv n).f (Stp.mk 4 x 0 0 0).ep)) ∧
       ((enterE (epS ep vv n).e (epS ep vv n).v (epS ep vv n).l (epS ep vv n).p (epS ep vv n).f (Stp.mk 4 x 0 0 0).ep ≠ 0 ∧ GdRun w0 w' P seed cn (epS ep vv n)) ∨ (enterE (epS ep vv n).e (epS ep vv n).v (epS ep vv n).l (epS ep vv n).p (epS ep vv n).f (Stp.mk 4 x 0 0 0).ep = 0 ∧ GdRun w0 w' P seed (cn + 1) (enterR (epS ep vv n) ⟨4, x, 0, 0, 0⟩)))) ∧ Kept P.F w w') :
    Kept P.F w w' ∧ ((¬ (ep < x ∧ x ≤ 1073741824) ∧ e = .returned (errV (E 17)) ∧ GdRun w0 w' P seed cn (epS ep vv n)) ∨ ((ep < x ∧ x ≤ 1073741824) ∧ e = .returned .nilIface ∧ GdRun w0 w' P seed (cn + 1) (epS x 0 n))) := by
  refine ⟨h.2, ?_⟩
  by_cases hx : ep < x ∧ x ≤ 1073741824
  · have h0 := ep_enterY he hv hn hx
    rcases h.1.2 with ⟨hne, _⟩ | ⟨_, hg⟩
    · exact absurd h0 hne
    · refine .inr ⟨hx, ?_, ?_⟩
      · rw [h.1.1]; show Ending.returned (evOf E (enterE _ _ _ _ _ x)) = _; rw [h0]; rfl
      · rw [ep_enterR he hv hn hx] at hg; exact hg
  · have h0 := ep_enterN he hv hn hx
    rcases h.1.2 with ⟨_, hg⟩ | ⟨hz, _⟩
    · refine .inl ⟨hx, ?_, hg⟩
      rw [h.1.1]; show Ending.returned (evOf E (enterE _ _ _ _ _ x)) = _; rw [h0]; rfl
    · rw [show enterE _ _ _ _ _ (Stp.mk 4 x 0 0 0).ep = 18 from h0] at hz; cases hz
/-- What the vote of the law answers. -/
theorem ev_post {w0 w w' : World} {e : Ending} {P : GdP} {seed m : List Int} {cn n : Nat} {ep : Int} {E : Nat → Addr} (he : 1 ≤ ep ∧ ep ≤ 1073741824) (hn : n < 32)
    (h : RunPost w0 w w' e P seed cn (epS ep 0 n) (voteR (epS ep 0 n) ⟨1, ep, 1, 0, 0⟩) (voteE (epS ep 0 n).e (epS ep 0 n).v (epS ep 0 n).l (epS ep 0 n).p (epS ep 0 n).f (Stp.mk 1 ep 1 0 0).ep (Stp.mk 1 ep 1 0 0).r (Stp.mk 1 ep 1 0 0).q) m E) :
    (∃ sg : Array Value, (sg.size = 3 ∧ (sg.all fun v => v.oneCell') = true) ∧ e = .returned (.tuple #[.agg sg, .nilIface])) ∧ Kept P.F w w' ∧ GdRun w0 w' P seed (cn + 1) (epS ep 1 (n + 1)) ∧ ∀ j, j < w.heap.size → SlFar w P.s j → SlFar w' P.s j := by
  rcases h.1 with ⟨hne, _⟩ | ⟨_, ⟨i, _, _, b, p, pc, rfl, _⟩, hg⟩
  · exact absurd (ep_vote he hn) hne
  · rw [ep_voteR he hn] at hg
    exact ⟨⟨_, ⟨rfl, sigV_one _ _ _ _ _ _ _⟩, rfl⟩, h.2.1, hg, h.2.2⟩
theorem epx_new {w0 w : World} {P : GdP} {seed : List Int} {cn : Nat} {st : St} {pb q qq : Nat} {rest : List Value} {t : TypeId} {sd : Array Value} (h : GdRun w0 w P seed cn st) (hp : PlAt w pb P rest) (hq : Blk w q t sd) (hqq : w.heap.size = qq) : (¬ P.F qq ∧ qq ≠ P.kb ∧ qq ≠ P.lb) ∧ (qq ≠ pb ∧ qq ≠ q) ∧ w0.heap.size ≤ qq := by
  obtain ⟨z, _, h1, _⟩ := h.ex
  have a := h1.lt
  have b := h1.lt2
  have c := hp.1.lt
  have d := hq.lt
  have e := h1.low
  simp only [GdP.F]
  omega
theorem epx_far {w0 w w' : World} {P : GdP} {seed : List Int} {cn : Nat} {st : St} {qq : Nat} (h : GdRun w0 w P seed cn st) (hqq : w.heap.size ≤ qq) (hg : w.grownBy w' none) : SlFar w' P.s qq := by
  obtain ⟨z, _, h1, _⟩ := h.ex
  exact (h1.sl.farNew hqq).kept (Kept.of_grown (F := fun _ => False) hg fun _ e => by cases e) (fun h => h)
theorem epx_store {w0 w : World} {P : GdP} {seed : List Int} {cn : Nat} {st : St} {pb q qq : Nat} {rest : List Value} {t : TypeId} {sd : Array Value} (h : GdRun w0 w P seed cn st) (hp : PlAt w pb P rest) (hq : Blk w q t sd) (sg : Array Value) (hn : (¬ P.F qq ∧ qq ≠ P.kb ∧ qq ≠ P.lb) ∧ (qq ≠ pb ∧ qq ≠ q) ∧ w0.heap.size ≤ qq) (hf : SlFar w P.s qq) : GdRun w0 (w.setRow qq sg) P seed cn st ∧ PlAt (w.setRow qq sg) pb P rest ∧ Blk (w.setRow qq sg) q t sd := by
  obtain ⟨z, tr, h1, h2⟩ := h.ex
  have hk := row_kept (w := w) (x := qq) sg
  exact ⟨⟨⟨z, tr, h1.beside hk hn.1 hn.2.2 hf, h2⟩, h.ok⟩, ⟨hp.1.kept hk (fun e => hn.2.1.1 e.symm), hp.2⟩, hq.kept hk (fun e => hn.2.1.2 e.symm)⟩
theorem gdN (w : World) (n : Nat) : w.grownBy (w.drewN n) none := ⟨rfl, rfl, rfl, Nat.le_refl _, fun _ _ _ => rfl⟩
theorem IntsAt.grownI {w w' : World} {A : Option Addr} {l : List Int} (h : IntsAt w A l) (hg : w.grownBy w' none) : IntsAt w' A l := h.kept (Kept.of_grown (F := fun _ => False) hg fun _ e => by cases e) (fun _ _ h => h)
theorem ErrEnv.moreJ {w : World} {B B' : Nat} {E : Nat → Addr} (h : ErrEnv w B E) (hB : B ≤ B') : ErrEnv w B' E := ⟨fun i hi => ⟨(h.var i hi).1, Nat.lt_of_lt_of_le (h.var i hi).2 hB⟩, fun i hi => ⟨Nat.lt_of_lt_of_le (h.row i hi).1 hB, (h.row i hi).2⟩, h.inj⟩
set_option maxRecDepth 100000 in
set_option maxHeartbeats 4000000 in
theorem epochs_any (w : World) (hR : Rounds w) (E : Nat → Addr) (he : ErrEnv w w.heap.size E) (seed : List Int) (hs : isDig seed) (sd : Array Value) (hsd : sd = arrV .u8 seed) (A : Option Addr) (n c : Nat) (bs : List Int) (hn : bs.length = n) (hb : IntsAt w A bs) :
    Calls Tryz.prog 6 #[.agg sd, .slice A n c] w fun e w' => e = .returned (.bool true) ∧ w.grownBy w' none := by
  obtain ⟨q, hq⟩ : ∃ q, w.heap.size = q := ⟨_, rfl⟩
  obtain ⟨W1, hW1⟩ : ∃ W1, w.alloc (.cells sd 23) = W1 := ⟨_, rfl⟩
  have gW1 : w.grownBy W1 none := by rw [← hW1]; exact World.grownBy_alloc _ _ none
  have bq : Blk W1 q 23 sd := by rw [← hW1, ← hq]; exact Blk.new _ _ _
  have hs16 : sd.size = 16 := by rw [hsd, arr_size, hs.1]
  have hal := alive_is W1 (hR.grown gW1 (by simp)) E ((he.grown gW1 (fun _ e => by cases e)).moreJ gW1.size)
  have HX := Lib.hid (And.intro hR (And.intro he (And.intro hs (And.intro hsd (And.intro gW1 (And.intro bq (And.intro hs16 (And.intro hq (And.intro hn hb)))))))))
  have HA := Lib.hid hal
  have HW := Lib.hid hW1
  clear hR he hs hsd gW1 bq hs16 hW1 hn hb hal
  go_enter Tryz.func6, Tryz.ntmps6
  go_upto_region 1 with (fail)
  rw [HW.out]
  clear hq
  go_wp2_with fail
  refine HA.out.mono ?_
  rintro e w2 ⟨rfl, g2⟩
  have H2 := Lib.hid (And.intro (grown_trans HX.out.2.2.2.2.1 g2) (HX.out.2.2.2.2.2.1.grown g2 (by simp)))
  have HE2 := Lib.hid (And.intro (HX.out.1.grown H2.out.1 (by simp)) ((HX.out.2.1.grown H2.out.1 (fun _ e => by cases e)).moreJ H2.out.1.size))
  clear g2 HA
  by_cases h100 : 12 < n
  · have d1 : decide ((12 : Int) < (n : Int)) = true := by simp; omega
    go_wp2_with fail
    go_ret
    exact ⟨rfl, H2.out.1⟩
  have d1 : decide ((12 : Int) < (n : Int)) = false := by simp; omega
  have hn12 : n ≤ 12 := by omega
  clear h100
  go_wp2_with (first
    | (refine wpList_load_row rfl 23 _ rfl q rfl 23 sd (0, 0) _ H2.out.2 Tryz.underlying23 rfl (by rw [HX.out.2.2.2.2.2.2.1]; exact info16) ?_))
  refine (begin_is w2 w2 (Kept.refl _ _) HE2.out.1 E HE2.out.2 seed HX.out.2.2.1 sd HX.out.2.2.2.1 1 (by omega)).mono ?_
  rintro e w3 ⟨pb, P, rest, rfl, hpl, hrun, g3, hpb⟩
  have H3 := Lib.hid (And.intro hpl (And.intro hrun (And.intro (grown_trans H2.out.1 g3) (And.intro (H2.out.2.grown g3 (by simp)) (show w.heap.size ≤ pb by have := H2.out.1.size; omega)))))
  clear hpl hrun g3 hpb
  go_wp2_with fail
  go_loopw [29, 7, 8] (fun i ev nv wr => ∃ (k nn : Nat) (ep vv : Int) (cn : Nat), k ≤ n ∧ i = .int .i64 (k : Int) ∧ ev = .int .i64 ep ∧ nv = .int .i64 (nn : Int) ∧ nn ≤ k ∧ (1 ≤ ep ∧ ep ≤ 1073741824) ∧ (0 ≤ vv ∧ vv ≤ 1) ∧ cn ≤ 1 + 2 * k ∧ GdRun w2 wr P seed cn (epS ep vv nn) ∧ PlAt wr pb P rest ∧ Blk wr q 23 sd) (fun i _ _ _ => n - (intOf i).toNat)
  case atStart => exact ⟨0, 0, 1, 0, 1, by omega, rfl, rfl, rfl, by omega, by omega, by omega, by omega, H3.out.2.1, H3.out.1, H3.out.2.2.2.1⟩
  case round =>
    obtain ⟨k, nn, ep, vv, cn, hkn, rfl, rfl, rfl, hnn, hep, hvv, hcn, hrun, hpl, hbq⟩ := hrel
    rename World => wx
    have hF : ¬ P.F q := by
      obtain ⟨z, _, h1, _⟩ := hrun.ex
      have h2 := h1.low
      have h3 := h1.dk.2.2
      have h4 := H2.out.2.lt
      simp only [GdP.F]
      omega
    have HD := Lib.hid (And.intro hrun (And.intro hpl (And.intro hbq hF)))
    clear hrun hpl hbq hF
    by_cases hlt : k < n
    · have e1 : decide ((k : Int) < (n : Int)) = true := by simp; omega
      have hkb : k < bs.length := by rw [HX.out.2.2.2.2.2.2.2.2.1]; exact hlt
      have hgx : w.grownBy wx none := by
        obtain ⟨z, _, h1, _⟩ := HD.out.1.ex
        exact grown_trans H2.out.1 h1.dk.grownNone
      obtain ⟨b0, off, rfl, hcb⟩ := (HX.out.2.2.2.2.2.2.2.2.2.grownI hgx).get (by rintro rfl; simp at hkb)
      have hc := hcb k hkb
      have y2 := HD.out.2.1.guard
      have hb1 : 0 ≤ (k : Int) ∧ (k : Int) + 1 ≤ 13 := by omega
      obtain ⟨bv, hbv⟩ : ∃ bv, bs[k] = bv := ⟨_, rfl⟩
      have HV := Lib.hid ((enter_run HD.out.1 HE2.out.1 E HE2.out.2 (by omega) ⟨4, bv, 0, 0, 0⟩).mono fun _ _ hp => ep_post hep hvv (by omega) hp)
      rw [hbv] at hc
      clear hcb hgx hbv hkb
      go_wp2_with fail
      refine HV.out.mono ?_
      clear HV
      rintro e w5 ⟨hk5, ⟨hno, rfl, hr5⟩ | ⟨hyes, rfl, hr5⟩⟩
      · have H5 := Lib.hid (And.intro hr5 (And.intro (HD.out.2.1.kept hk5) (And.intro (HD.out.2.2.1.kept hk5 HD.out.2.2.2) hno)))
        clear hr5 hk5 y2 hc hno
        by_cases hlt2 : ep < bv
        · have dd1 : decide (ep < bv) = true := by simp; omega
          have dd2 : decide (bv ≤ 1073741824) = false := by have := H5.out.2.2.2; simp; omega
          go_wp2_with fail
          go_roundw
          case rel => exact ⟨k + 1, nn, ep, vv, cn, by omega, by go_num, rfl, rfl, by omega, hep, hvv, by omega, H5.out.1, H5.out.2.1, H5.out.2.2.1⟩
          case measure => simp [intOf]; omega
        · have dd1 : decide (ep < bv) = false := by simp; omega
          go_wp2_with fail
          go_roundw
          case rel => exact ⟨k + 1, nn, ep, vv, cn, by omega, by go_num, rfl, rfl, by omega, hep, hvv, by omega, H5.out.1, H5.out.2.1, H5.out.2.2.1⟩
          case measure => simp [intOf]; omega
      · have H5 := Lib.hid (And.intro hr5 (And.intro (HD.out.2.1.kept hk5) (And.intro (HD.out.2.2.1.kept hk5 HD.out.2.2.2) hyes)))
        clear hr5 hk5 y2 hc hyes
        have dd1 : decide (ep < bv) = true := by have := H5.out.2.2.2; simp; omega
        have dd2 : decide (bv ≤ 1073741824) = true := by have := H5.out.2.2.2; simp; omega
        go_upto_region 17 with (fail)
        have HB := Lib.hid (show 1 ≤ bv ∧ bv ≤ 1073741824 by have := H5.out.2.2.2; omega)
        have HVT := Lib.hid (fun (Y : World) (hY : w5.grownBy Y none) => (vote_run (H5.out.1.grown hY) HE2.out.1 E HE2.out.2 HX.out.2.2.1 (by omega) ⟨1, bv, 1, 0, 0⟩ (by have := HB.out; simp only; omega) (by simp only; omega) seed HX.out.2.2.1 sd HX.out.2.2.2.1).mono fun _ _ hp => ev_post HB.out (by omega) hp)
        have HSS := Lib.hid (show ∀ Y : World, PlAt Y pb P rest → Blk Y q 23 sd → Y.cell? ⟨pb, 2, none⟩ = some (.pointer (some ⟨P.g, 0, none⟩)) ∧ Y.rangeAt q 0 sd.toList from fun Y h1 h2 => ⟨h1.guard, range_of_blk h2⟩)
        obtain ⟨V, hV⟩ : ∃ V, w5.drew = V := ⟨_, rfl⟩
        have gV := grown_drew (World.grownBy.refl w5 none)
        rw [hV] at gV
        have H6 := Lib.hid (And.intro gV (And.intro (H5.out.2.1.grown gV) (H5.out.2.2.1.grown gV (by simp))))
        clear gV
        have hz30 := sigz_run
        refine wp_region_held_drew (S := fun Y => Y.cell? ⟨pb, 2, none⟩ = some (.pointer (some ⟨P.g, 0, none⟩)) ∧ Y.rangeAt q 0 sd.toList) (by kernel_rfl) (by rw [hV]; exact HSS.out V H6.out.2.1 H6.out.2.2) (fun hHeld => ?_)
        rw [hV] at hHeld ⊢
        refine wpAnyH_take (i := 0) (oi := _) (v := ?vb0) rfl (by kernel_rfl) (by kernel_rfl) (by kernel_rfl) (fun _ _ _ h => h) (Or.inl ⟨by rfl, ?hyb0⟩) (by assumption) ?restb0
        case hyb0 => (intro V hSw; (try dsimp only at hSw); go_simp) <;> with_reducible rfl
        try simp only [Act.put, List.getElem_toArray, List.getElem_cons_succ, List.getElem_cons_zero, List.setIfInBounds_toArray, List.set_cons_zero, List.set_cons_succ]
        refine wpAnyH_take (i := 1) (oi := _) (v := ?vb1) rfl (by kernel_rfl) (by kernel_rfl) (by kernel_rfl) (fun _ _ _ h => h) (Or.inl ⟨by rfl, ?hyb1⟩) (by assumption) ?restb1
        case hyb1 => (intro V hSw; (try dsimp only at hSw); go_simp) <;> with_reducible rfl
        try simp only [Act.put, List.getElem_toArray, List.getElem_cons_succ, List.getElem_cons_zero, List.setIfInBounds_toArray, List.set_cons_zero, List.set_cons_succ]
        refine wpAnyH_take (i := 2) (oi := _) (v := ?vb2) rfl (by kernel_rfl) (by kernel_rfl) (by kernel_rfl) (fun _ _ _ h => h) (Or.inl ⟨by rfl, ?hyb2⟩) (by assumption) ?restb2
        case hyb2 => (intro V hSw; (try dsimp only at hSw); go_simp) <;> with_reducible rfl
        try simp only [Act.put, List.getElem_toArray, List.getElem_cons_succ, List.getElem_cons_zero, List.setIfInBounds_toArray, List.set_cons_zero, List.set_cons_succ]
        refine wpAnyH_take (i := 3) (oi := _) (v := ?vb3) rfl (by kernel_rfl) (by kernel_rfl) (by kernel_rfl) (fun _ _ _ h => h) (Or.inl ⟨by rfl, ?hyb3⟩) (by assumption) ?restb3
        case hyb3 => (intro V hSw; (try dsimp only at hSw); go_simp) <;> with_reducible rfl
        try simp only [Act.put, List.getElem_toArray, List.getElem_cons_succ, List.getElem_cons_zero, List.setIfInBounds_toArray, List.set_cons_zero, List.set_cons_succ]
        refine wpAnyH_take (i := 4) (oi := _) (v := ?vb4) rfl (by kernel_rfl) (by kernel_rfl) (by kernel_rfl) (fun _ _ _ h => h) (Or.inl ⟨by rfl, ?hyb4⟩) (by assumption) ?restb4
        case hyb4 => (intro V hSw; (try dsimp only at hSw); go_simp) <;> with_reducible rfl
        try simp only [Act.put, List.getElem_toArray, List.getElem_cons_succ, List.getElem_cons_zero, List.setIfInBounds_toArray, List.set_cons_zero, List.set_cons_succ]
        refine wpAnyH_take (i := 5) (oi := _) (v := .agg sd) rfl (by kernel_rfl) (by kernel_rfl) (by kernel_rfl) (fun _ _ _ h => h) (yieldsIf_load_mid (by rfl) _ _ rfl q 0 rfl sd.toList _ (fun V hSw => hSw.2) Tryz.underlying23 rfl (by rw [Array.length_toList, HX.out.2.2.2.2.2.2.1]; exact info16)) (by assumption) ?restb5
        try simp only [Act.put, List.getElem_toArray, List.getElem_cons_succ, List.getElem_cons_zero, List.setIfInBounds_toArray, List.set_cons_zero, List.set_cons_succ]
        refine wpAnyH_ready (rs := [6, 10]) (by kernel_rfl) (by simp) ?_
        refine (AllReadyH.cons (o := _) rfl (fun K9 hK => ?_) (AllReadyH.cons (o := _) rfl (fun K9 hK => ?_) AllReadyH.nil))
        · skip
          go_simp
          refine (HVT.out V H6.out.1).mono ?_
          rintro e w7 ⟨⟨sg, ⟨hsz, hso⟩, rfl⟩, hk7, hr7, _⟩
          have hp7 := H6.out.2.1.kept hk7
          have hb7 := H6.out.2.2.kept hk7 HD.out.2.2.2
          have H7a := Lib.hid (And.intro hr7 (And.intro hp7 (And.intro hb7 (And.intro hsz hso))))
          clear hr7 hk7 hp7 hb7 hsz hso
          (try go_wp2_with fail)
          refine hK.out _ _ (HSS.out _ H7a.out.2.1 H7a.out.2.2.1) (fun hHeld => ?_)
          clear hK K9
          try simp only [Act.put, List.getElem_toArray, List.getElem_cons_succ, List.getElem_cons_zero, List.setIfInBounds_toArray, List.set_cons_zero, List.set_cons_succ]
          refine wpAnyH_take (i := 7) (oi := _) (v := ?vc7) rfl (by kernel_rfl) (by kernel_rfl) (by kernel_rfl) (fun _ _ _ h => h) (Or.inl ⟨by rfl, ?hyc7⟩) (by assumption) ?restc7
          case hyc7 => (intro V hSw; (try dsimp only at hSw); go_simp) <;> with_reducible rfl
          try simp only [Act.put, List.getElem_toArray, List.getElem_cons_succ, List.getElem_cons_zero, List.setIfInBounds_toArray, List.set_cons_zero, List.set_cons_succ]
          refine wpAnyH_take (i := 8) (oi := _) (v := ?vc8) rfl (by kernel_rfl) (by kernel_rfl) (by kernel_rfl) (fun _ _ _ h => h) (Or.inl ⟨by rfl, ?hyc8⟩) (by assumption) ?restc8
          case hyc8 => (intro V hSw; (try dsimp only at hSw); go_simp) <;> with_reducible rfl
          try simp only [Act.put, List.getElem_toArray, List.getElem_cons_succ, List.getElem_cons_zero, List.setIfInBounds_toArray, List.set_cons_zero, List.set_cons_succ]
          refine wpAnyH_take (i := 9) (oi := _) (v := ?vc9) rfl (by kernel_rfl) (by kernel_rfl) (by kernel_rfl) (fun _ _ _ h => h) (Or.inl ⟨by rfl, ?hyc9⟩) (by assumption) ?restc9
          case hyc9 => (intro V hSw; (try dsimp only at hSw); go_simp) <;> with_reducible rfl
          try simp only [Act.put, List.getElem_toArray, List.getElem_cons_succ, List.getElem_cons_zero, List.setIfInBounds_toArray, List.set_cons_zero, List.set_cons_succ]
          refine wpAnyH_ready (rs := [10]) (by kernel_rfl) (by simp) ?_
          refine (AllReadyH.cons (o := _) rfl (fun K9 hK => ?_) AllReadyH.nil)
          go_simp
          obtain ⟨qq, hqq⟩ : ∃ qq, w7.heap.size = qq := ⟨_, rfl⟩
          obtain ⟨w8, hw8⟩ : ∃ w8, w7.alloc (.cells sigZ 73) = w8 := ⟨_, rfl⟩
          have g8 : w7.grownBy w8 none := by rw [← hw8]; exact World.grownBy_alloc _ _ none
          have b8 : Blk w8 qq 73 sigZ := by rw [← hw8, ← hqq]; exact Blk.new _ _ _
          have hb8 : PlAt w8 pb P rest := H7a.out.2.1.grown g8
          have hq8 : Blk w8 q 23 sd := H7a.out.2.2.1.grown g8 (by simp)
          have hne := epx_new H7a.out.1 H7a.out.2.1 H7a.out.2.2.1 hqq
          have H7 := Lib.hid (And.intro (H7a.out.1.grown g8) (And.intro hb8 (And.intro hq8 (And.intro b8 (And.intro H7a.out.2.2.2.1 (And.intro H7a.out.2.2.2.2 (And.intro hne (epx_far H7a.out.1 (by rw [hqq]; exact Nat.le_refl _) g8))))))))
          rw [hw8, hqq]
          clear g8 b8 hb8 hq8 hne hw8 hqq
          refine hK.out _ _ (HSS.out _ H7.out.2.1 H7.out.2.2.1) (fun hHeld => ?_)
          clear hK K9
          try simp only [Act.put, List.getElem_toArray, List.getElem_cons_succ, List.getElem_cons_zero, List.setIfInBounds_toArray, List.set_cons_zero, List.set_cons_succ]
          refine wpAnyH_ready (rs := [11]) (by kernel_rfl) (by simp) ?_
          refine (AllReadyH.cons (o := _) rfl (fun K9 hK => ?_) AllReadyH.nil)
          refine ready_store_mid (by rfl) 73 _ _ rfl qq 0 sg rfl rfl (there_blk H7.out.2.2.2.1 (by rw [H7.out.2.2.2.2.1]; exact Nat.le_refl _)) (by rw [H7.out.2.2.2.2.1]; exact info3) H7.out.2.2.2.2.2.1 ?_
          rw [setCells_row (P := Tryz.prog) (ty := 73) H7.out.2.2.2.1 (by rw [H7.out.2.2.2.2.1]; exact info3) (by rw [H7.out.2.2.2.2.1]; rfl) H7.out.2.2.2.2.2.1]
          have H8 := Lib.hid (epx_store H7.out.1 H7.out.2.1 H7.out.2.2.1 sg H7.out.2.2.2.2.2.2.1 H7.out.2.2.2.2.2.2.2)
          refine hK.out _ _ (HSS.out _ H8.out.2.1 H8.out.2.2) (fun hHeld => ?_)
          clear hK K9
          try simp only [Act.put, List.getElem_toArray, List.getElem_cons_succ, List.getElem_cons_zero, List.setIfInBounds_toArray, List.set_cons_zero, List.set_cons_succ]
          refine wpAnyH_take (i := 12) (oi := _) (v := ?vc12) rfl (by kernel_rfl) (by kernel_rfl) (by kernel_rfl) (fun _ _ _ h => h) (Or.inl ⟨by rfl, ?hyc12⟩) (by assumption) ?restc12
          case hyc12 => (intro V hSw; (try dsimp only at hSw); go_simp) <;> with_reducible rfl
          try simp only [Act.put, List.getElem_toArray, List.getElem_cons_succ, List.getElem_cons_zero, List.setIfInBounds_toArray, List.set_cons_zero, List.set_cons_succ]
          refine wpAnyH_done (by kernel_rfl) ?_ _
          go_wp2_with fail
          go_roundw
          case rel => exact ⟨k + 1, nn + 1, bv, 1, cn + 1 + 1, by omega, by go_num, rfl, by go_num, by omega, HB.out, by omega, by omega, H8.out.1, H8.out.2.1, H8.out.2.2⟩
          case measure => simp [intOf]; omega
        · skip
          go_simp
          obtain ⟨qq, hqq⟩ : ∃ qq, V.heap.size = qq := ⟨_, rfl⟩
          obtain ⟨V2, hV2⟩ : ∃ V2, V.alloc (.cells sigZ 73) = V2 := ⟨_, rfl⟩
          have g8 : V.grownBy V2 none := by rw [← hV2]; exact World.grownBy_alloc _ _ none
          have b8 : Blk V2 qq 73 sigZ := by rw [← hV2, ← hqq]; exact Blk.new _ _ _
          have hp8 := H6.out.2.1.grown g8
          have hq8 := H6.out.2.2.grown g8 (by simp)
          have hr8 := H5.out.1.grown H6.out.1
          have hne := epx_new hr8 H6.out.2.1 H6.out.2.2 hqq
          have H6b := Lib.hid (And.intro (grown_trans H6.out.1 g8) (And.intro hp8 (And.intro hq8 (And.intro b8 (And.intro hne (epx_far hr8 (by rw [hqq]; exact Nat.le_refl _) g8))))))
          rw [hV2, hqq]
          clear g8 b8 hp8 hq8 hr8 hne hV2 hqq
          refine hK.out _ _ (HSS.out _ H6b.out.2.1 H6b.out.2.2.1) (fun hHeld => ?_)
          clear hK K9
          try simp only [Act.put, List.getElem_toArray, List.getElem_cons_succ, List.getElem_cons_zero, List.setIfInBounds_toArray, List.set_cons_zero, List.set_cons_succ]
          refine wpAnyH_ready (rs := [6]) (by kernel_rfl) (by simp) ?_
          refine (AllReadyH.cons (o := _) rfl (fun K9 hK => ?_) AllReadyH.nil)
          go_simp
          refine ((HVT.out V2 H6b.out.1).mono fun _ _ hp => hp).mono ?_
          rintro e w7 ⟨⟨sg, ⟨hsz, hso⟩, rfl⟩, hk7, hr7, hf7⟩
          have H7 := Lib.hid (And.intro hr7 (And.intro (H6b.out.2.1.kept hk7) (And.intro (H6b.out.2.2.1.kept hk7 HD.out.2.2.2) (And.intro (H6b.out.2.2.2.1.kept hk7 H6b.out.2.2.2.2.1.1.1) (And.intro hsz (And.intro hso (And.intro H6b.out.2.2.2.2.1 (hf7 qq H6b.out.2.2.2.1.lt H6b.out.2.2.2.2.2))))))))
          clear hr7 hk7 hsz hso
          (try go_wp2_with fail)
          refine hK.out _ _ (HSS.out _ H7.out.2.1 H7.out.2.2.1) (fun hHeld => ?_)
          clear hK K9
          try simp only [Act.put, List.getElem_toArray, List.getElem_cons_succ, List.getElem_cons_zero, List.setIfInBounds_toArray, List.set_cons_zero, List.set_cons_succ]
          refine wpAnyH_take (i := 7) (oi := _) (v := ?vd7) rfl (by kernel_rfl) (by kernel_rfl) (by kernel_rfl) (fun _ _ _ h => h) (Or.inl ⟨by rfl, ?hyd7⟩) (by assumption) ?restd7
          case hyd7 => (intro V hSw; (try dsimp only at hSw); go_simp) <;> with_reducible rfl
          try simp only [Act.put, List.getElem_toArray, List.getElem_cons_succ, List.getElem_cons_zero, List.setIfInBounds_toArray, List.set_cons_zero, List.set_cons_succ]
          refine wpAnyH_take (i := 8) (oi := _) (v := ?vd8) rfl (by kernel_rfl) (by kernel_rfl) (by kernel_rfl) (fun _ _ _ h => h) (Or.inl ⟨by rfl, ?hyd8⟩) (by assumption) ?restd8
          case hyd8 => (intro V hSw; (try dsimp only at hSw); go_simp) <;> with_reducible rfl
          try simp only [Act.put, List.getElem_toArray, List.getElem_cons_succ, List.getElem_cons_zero, List.setIfInBounds_toArray, List.set_cons_zero, List.set_cons_succ]
          refine wpAnyH_take (i := 9) (oi := _) (v := ?vd9) rfl (by kernel_rfl) (by kernel_rfl) (by kernel_rfl) (fun _ _ _ h => h) (Or.inl ⟨by rfl, ?hyd9⟩) (by assumption) ?restd9
          case hyd9 => (intro V hSw; (try dsimp only at hSw); go_simp) <;> with_reducible rfl
          try simp only [Act.put, List.getElem_toArray, List.getElem_cons_succ, List.getElem_cons_zero, List.setIfInBounds_toArray, List.set_cons_zero, List.set_cons_succ]
          refine wpAnyH_ready (rs := [11]) (by kernel_rfl) (by simp) ?_
          refine (AllReadyH.cons (o := _) rfl (fun K9 hK => ?_) AllReadyH.nil)
          refine ready_store_mid (by rfl) 73 _ _ rfl qq 0 sg rfl rfl (there_blk H7.out.2.2.2.1 (by rw [H7.out.2.2.2.2.1]; exact Nat.le_refl _)) (by rw [H7.out.2.2.2.2.1]; exact info3) H7.out.2.2.2.2.2.1 ?_
          rw [setCells_row (P := Tryz.prog) (ty := 73) H7.out.2.2.2.1 (by rw [H7.out.2.2.2.2.1]; exact info3) (by rw [H7.out.2.2.2.2.1]; rfl) H7.out.2.2.2.2.2.1]
          have H8 := Lib.hid (epx_store H7.out.1 H7.out.2.1 H7.out.2.2.1 sg H7.out.2.2.2.2.2.2.1 H7.out.2.2.2.2.2.2.2)
          refine hK.out _ _ (HSS.out _ H8.out.2.1 H8.out.2.2) (fun hHeld => ?_)
          clear hK K9
          try simp only [Act.put, List.getElem_toArray, List.getElem_cons_succ, List.getElem_cons_zero, List.setIfInBounds_toArray, List.set_cons_zero, List.set_cons_succ]
          refine wpAnyH_take (i := 12) (oi := _) (v := ?vd12) rfl (by kernel_rfl) (by kernel_rfl) (by kernel_rfl) (fun _ _ _ h => h) (Or.inl ⟨by rfl, ?hyd12⟩) (by assumption) ?restd12
          case hyd12 => (intro V hSw; (try dsimp only at hSw); go_simp) <;> with_reducible rfl
          try simp only [Act.put, List.getElem_toArray, List.getElem_cons_succ, List.getElem_cons_zero, List.setIfInBounds_toArray, List.set_cons_zero, List.set_cons_succ]
          refine wpAnyH_done (by kernel_rfl) ?_ _
          go_wp2_with fail
          go_roundw
          case rel => exact ⟨k + 1, nn + 1, bv, 1, cn + 1 + 1, by omega, by go_num, rfl, by go_num, by omega, HB.out, by omega, by omega, H8.out.1, H8.out.2.1, H8.out.2.2⟩
          case measure => simp [intOf]; omega
    · have e1 : decide ((k : Int) < (n : Int)) = false := by simp; omega
      have y2 := HD.out.2.1.guard
      go_wp2_with fail
      refine (state_run HD.out.1).mono ?_
      rintro e w5 ⟨rfl, g5⟩
      have hgn : w.grownBy w5 none := by
        obtain ⟨z, _, h1, _⟩ := HD.out.1.ex
        exact grown_trans H2.out.1 (h1.grown g5).dk.grownNone
      have HG := Lib.hid hgn
      clear g5 y2 hgn
      simp only [epS]
      obtain ⟨q2, hq2⟩ : ∃ q2, w5.heap.size = q2 := ⟨_, rfl⟩
      obtain ⟨w6, hw6⟩ : ∃ w6, w5.alloc (.cells (stC ep vv 0 0 (nn : Int)) 46) = w6 := ⟨_, rfl⟩
      have gs := World.grownBy_alloc w5 (.cells (stC ep vv 0 0 (nn : Int)) 46) none
      have bb := Blk.new w5 46 (stC ep vv 0 0 (nn : Int))
      rw [hq2, hw6] at bb
      rw [hw6] at gs
      have z0 := bb.cell 0
      have z2 := bb.cell 2
      have z4 := bb.cell 4
      simp only [List.getElem?_toArray, List.getElem?_cons_zero, List.getElem?_cons_succ] at z0 z2 z4
      have HG6 := Lib.hid (grown_trans HG.out gs)
      have HW6 := Lib.hid (And.intro hw6 hq2)
      clear gs bb hw6 hq2
      go_upto_region 23 with (fail)
      rw [HW6.out.1]
      try rw [HW6.out.2]
      go_wp2_with fail
      go_ret
      exact ⟨rfl, HG6.out⟩
end Go.Proofs.YthkjlgjbjjjohaaGreatDoor
