/-
  GuardAgain, walked.
-/
import Derived.Test.YthkjlgjbjjjohaaGreatDoorGdL
namespace Go.Proofs.YthkjlgjbjjjohaaGreatDoor
open Go.RowKit Go.Maps

theorem askR_ok {st : St} (h : st.ok) {x : Stp} (hk : askK st x = 0) : (askR st x).ok := by
  unfold askK at hk
  unfold askR
  by_cases k1 : x.k = 1
  · rw [if_pos k1] at hk ⊢; exact (vote_okS hk).1
  · rw [if_neg k1] at hk ⊢
    by_cases k2 : x.k = 2
    · rw [if_pos k2] at hk ⊢; exact (late_okS (lateK_ok hk).1).1
    · rw [if_neg k2] at hk ⊢
      by_cases k3 : x.k = 3
      · rw [if_pos k3] at hk ⊢; exact (prop_okS hk).1
      · rw [if_neg k3] at hk ⊢; exact enter_okS hk
/-- A step of a guard whose disk's power lasts. -/
theorem ask_run {w0 w : World} {P : GdP} {seed : List Int} {cn : Nat} {st : St} (h : GdRun w0 w P seed cn st) (hR : Rounds w0) (E : Nat → Addr) (he : ErrEnv w0 w0.heap.size E) (hseed : isDig seed) (hcn : cn < 9223372036854775000) (o : GOp) (ho : o.fits) (xs : Array Value) (hxs : xs = askC o.x (arrV .u8 o.d)) :
    Calls Tryz.prog 27 #[.pointer (some ⟨P.g, 0, none⟩), .agg xs] w fun e w' =>
      (∃ sg ev, e = .returned (.tuple #[.agg sg, ev])) ∧ Kept P.F w w' ∧ ∃ cn' st', cn' ≤ cn + 1 ∧ GdRun w0 w' P seed cn' st' := by
  obtain ⟨z, tr, h1, h2, h3⟩ := h.ex
  refine (ask_is h1 hR E he hseed hcn (by omega) o.x ho.2.1 ho.2.2.1 ho.2.2.2.1 o.d ho.1 _ rfl xs hxs).mono ?_
  rintro e w' (⟨_, hsp⟩ | ⟨_, ev, rfl, hep⟩)
  · obtain ⟨sg, ev, rfl, _⟩ := hsp.form
    have hr := run_of_step h2 h3 h.ok (fun hk => askR_ok h.ok hk) hsp
    refine ⟨⟨sg, ev, rfl⟩, hr.2.1, ?_⟩
    rcases hr.1 with ⟨_, _, hg⟩ | ⟨_, _, hg⟩
    · exact ⟨cn, st, by omega, hg⟩
    · exact ⟨cn + 1, _, by omega, hg⟩
  · refine ⟨⟨_, ev, rfl⟩, hep.kept, ?_⟩
    have hpr := put_run h2 h3 (askR st o.x)
    rcases hep with ⟨hk, _, hg, gg⟩ | ⟨hk, ⟨hne, _⟩ | ⟨_, _, hg⟩, _⟩
    · exact ⟨cn, st, by omega, ⟨z, tr, hg, h2, h3⟩, h.ok⟩
    · exact absurd hpr.1 hne
    · exact ⟨cn + 1, askR st o.x, by omega, ⟨_, tr, hg, hpr.2⟩, askR_ok h.ok hk⟩
/-- The records that the two sectors hold, if no write is under way. -/
theorem plz_rows {z : DkS} {cn : Nat} {rc : List UInt8} {tr : List UInt8} (h : PlZ z cn rc false tr) (hc : cn < 9223372036854775808) :
    ∃ bb : Nat → List UInt8, (∀ k, k < 2 → (bb k).length = 64 ∧ readS z k = intsB (bb k)) ∧ selK bb 2 = some (cn, rc) := by
  obtain ⟨p1, p2, p3, p4⟩ := par2 cn
  obtain ⟨B, hB, hsq⟩ := h.sq
  have hwq : z.wr[(cn + 1) % 2]? = some none := by
    rcases h.wq with hq | ⟨ht, _⟩
    · exact hq
    · cases ht
  refine ⟨fun k => if k = cn % 2 then slotB cn rc else B, fun k hk => ?_, sel_two hc h.hrc hB (if_pos rfl) (if_neg fun e => p3 e.symm)⟩
  have two : k = cn % 2 ∨ k = (cn + 1) % 2 := by omega
  rcases two with e | e
  · dsimp only
    rw [if_pos e]
    refine ⟨slotB_len _ _, ?_⟩
    rw [readS, e, h.wp, slotB_ints]
    have := h.sp
    simp only [List.getD, this, Option.join_some, Option.getD_none, Option.getD_some]
  · dsimp only
    rw [if_neg (by omega)]
    refine ⟨oldB_len hB, ?_⟩
    rw [readS, e, hwq]
    simp only [List.getD, hsq, Option.join_some, Option.getD_none, Option.getD_some]
/-- A guard whose disk's power lasts is opened again. -/
theorem open_run {w0 w : World} {P : GdP} {seed : List Int} {cn : Nat} {st : St} (h : GdRun w0 w P seed cn st) (hR : Rounds w0) (E : Nat → Addr) (he : ErrEnv w0 w0.heap.size E) (hcn : cn < 9223372036854775000) :
    Calls Tryz.prog 17 #[.pointer (some ⟨P.d, 0, none⟩), .int .i64 0, .pointer (some ⟨P.kb, 0, none⟩)] w fun e w' => w.grownBy w' none ∧
      ∃ g s, e = .returned (.tuple #[.pointer (some ⟨g, 0, none⟩), .nilIface]) ∧ GdRun w0 w' ⟨g, P.kb, P.lb, P.cap, s, P.d, P.b, P.m⟩ seed cn st := by
  obtain ⟨z, tr, h1, h2, h3⟩ := h.ex
  obtain ⟨bb, hbb, hsel⟩ := plz_rows h2 (by omega)
  have hne := h1.ne.2
  have hl2 := h1.lt2
  simp only [GdP.F] at hne
  refine (gopen_some h1.dk hR E he h3.1 (show 0 ≤ (0 : Int) ∧ (0 : Int) + 2 ≤ _ by rw [h2.syn]; omega) bb (fun k hk => by rw [show (0 : Int).toNat + k = k by simp]; exact hbb k hk) cn (stBs st) hsel (by rw [stBs_len]; omega) h1.ky h1.lv hl2.2 (by omega) st 0 (fun V A c hV hE hb => by
    rw [stBs_len]
    exact read_st V w0.heap.size hV E hE A c _ h.ok hb)).mono ?_
  rintro e w' ⟨hg, ⟨h0, _⟩ | ⟨_, g, s, rfl, _, _, hG⟩⟩
  · exact absurd rfl h0
  · exact ⟨hg, g, s, rfl, ⟨z, tr, hG, h2, h3⟩, h.ok⟩
/-- The key's digest, told by the guard. -/
theorem root_run {w0 w : World} {P : GdP} {seed : List Int} {cn : Nat} {st : St} (h : GdRun w0 w P seed cn st) (rt : Array Value) (hrt : rt = arrV .u8 (rootC seed)) :
    Calls Tryz.prog 23 #[.pointer (some ⟨P.kb, 0, none⟩)] w fun e w' => e = .returned (.agg rt) ∧ w.grownBy w' none := by
  obtain ⟨z, tr, h1, _⟩ := h.ex
  rw [hrt]
  exact kroot_is w P.kb _ _ _ h1.ky (by rw [arr_size, (rootC_dig seed).1]) (arr_one _ _)
def gopZ : Array Value := #[.int .i64 0, .int .i64 0, .int .i64 0, .int .i64 0, .int .i64 0, .int .u8 0, .int .u8 0, .int .u8 0, .int .u8 0, .int .u8 0, .int .u8 0, .int .u8 0, .int .u8 0, .int .u8 0, .int .u8 0, .int .u8 0, .int .u8 0, .int .u8 0, .int .u8 0, .int .u8 0, .int .u8 0, .int .i64 0, .int .i64 0, .slice none 0 0]
theorem gopz_run (w : World) : Sem.run Tryz.prog (zeroValue 33) w = .ok (.agg gopZ) w := zrun w (by kernel_rfl)
theorem info24 : (Tryz.prog.info? 33).map (·.size) = some 24 := by kernel_rfl
theorem info21 : (Tryz.prog.info? 30).map (·.size) = some 21 := by kernel_rfl
theorem gop_one (o : GOp) : (o.cells.toArray.all fun v => v.oneCell') = true := by
  simp [GOp.cells, askC, arrV, Value.oneCell']
theorem gop_ask {w : World} {p : Nat} {t : TypeId} {o : GOp} (h : Blk w p t o.cells.toArray) : w.rangeAt p 0 (askC o.x (arrV .u8 o.d)).toList := by
  have r := range_of_blk h
  intro j v hv
  have hj := (List.getElem?_eq_some_iff.1 hv).1
  exact r j v (by simp only [GOp.cells]; rw [List.getElem?_append_left hj]; exact hv)
theorem ErrEnv.moreM {w : World} {B B' : Nat} {E : Nat → Addr} (h : ErrEnv w B E) (hB : B ≤ B') : ErrEnv w B' E := ⟨fun i hi => ⟨(h.var i hi).1, Nat.lt_of_lt_of_le (h.var i hi).2 hB⟩, fun i hi => ⟨Nat.lt_of_lt_of_le (h.row i hi).1 hB, (h.row i hi).2⟩, h.inj⟩
set_option maxRecDepth 100000 in
set_option maxHeartbeats 4000000 in
theorem again_any (w : World) (hR : Rounds w) (E : Nat → Addr) (he : ErrEnv w w.heap.size E) (seed : List Int) (hs : isDig seed) (sd : Array Value) (hsd : sd = arrV .u8 seed) (A : Option Addr) (n c : Nat) (zs : List GOp) (hn : zs.length = n) (hb : GOpsAt w A zs) :
    Calls Tryz.prog 7 #[.agg sd, .slice A n c] w fun e w' => e = .returned (.bool true) ∧ w.grownBy w' none := by
  obtain ⟨q, hq⟩ : ∃ q, w.heap.size = q := ⟨_, rfl⟩
  obtain ⟨W1, hW1⟩ : ∃ W1, w.alloc (.cells sd 23) = W1 := ⟨_, rfl⟩
  have gW1 : w.grownBy W1 none := by rw [← hW1]; exact World.grownBy_alloc _ _ none
  have bq : Blk W1 q 23 sd := by rw [← hW1, ← hq]; exact Blk.new _ _ _
  have hs16 : sd.size = 16 := by rw [hsd, arr_size, hs.1]
  have hal := alive_is W1 (hR.grown gW1 (by simp)) E ((he.grown gW1 (fun _ e => by cases e)).moreM gW1.size)
  have HX := Lib.hid (And.intro hR (And.intro he (And.intro hs (And.intro hsd (And.intro gW1 (And.intro bq (And.intro hs16 (And.intro hq (And.intro hn hb)))))))))
  have HA := Lib.hid hal
  have HW := Lib.hid hW1
  clear hR he hs hsd gW1 bq hs16 hW1 hn hb hal
  go_enter Tryz.func7, Tryz.ntmps7
  go_upto_region 1 with (fail)
  rw [HW.out]
  clear hq
  go_wp2_with fail
  refine HA.out.mono ?_
  rintro e w2 ⟨rfl, g2⟩
  have H2 := Lib.hid (And.intro (grown_trans HX.out.2.2.2.2.1 g2) (HX.out.2.2.2.2.2.1.grown g2 (by simp)))
  have HE2 := Lib.hid (And.intro (HX.out.1.grown H2.out.1 (by simp)) ((HX.out.2.1.grown H2.out.1 (fun _ e => by cases e)).moreM H2.out.1.size))
  clear g2 HA
  by_cases h100 : 20 < n
  · have d1 : decide ((20 : Int) < (n : Int)) = true := by simp; omega
    go_wp2_with fail
    go_ret
    exact ⟨rfl, H2.out.1⟩
  have d1 : decide ((20 : Int) < (n : Int)) = false := by simp; omega
  have hn20 : n ≤ 20 := by omega
  clear h100
  go_wp2_with (first
    | (refine wpList_load_row rfl 23 _ rfl q rfl 23 sd (0, 0) _ H2.out.2 Tryz.underlying23 rfl (by rw [HX.out.2.2.2.2.2.2.1]; exact info16) ?_))
  refine (begin_is w2 w2 (Kept.refl _ _) HE2.out.1 E HE2.out.2 seed HX.out.2.2.1 sd HX.out.2.2.2.1 1 (by omega)).mono ?_
  rintro e w3 ⟨pb, P, rest, rfl, hpl, hrun, g3, hpb⟩
  have H3 := Lib.hid (And.intro hpl (And.intro hrun (And.intro (grown_trans H2.out.1 g3) (show w.heap.size ≤ pb by have := H2.out.1.size; omega))))
  clear hpl hrun g3 hpb
  go_wp2_with fail
  go_loopw [27] (fun i wr => ∃ (k : Nat) (cn : Nat) (st : St), k ≤ n ∧ i = .int .i64 (k : Int) ∧ cn ≤ 1 + k ∧ GdRun w2 wr P seed cn st ∧ PlAt wr pb P rest) (fun i _ => n - (intOf i).toNat)
  case atStart => exact ⟨0, 1, _, by omega, rfl, by omega, H3.out.2.1, H3.out.1⟩
  case round =>
    obtain ⟨k, cn, st, hkn, rfl, hcn, hrun, hpl⟩ := hrel
    rename World => wx
    have HD := Lib.hid (And.intro hrun hpl)
    clear hrun hpl
    have hgx : w.grownBy wx none := by
      obtain ⟨z, _, h1, _⟩ := HD.out.1.ex
      exact grown_trans H2.out.1 h1.dk.grownNone
    have HGX := Lib.hid hgx
    clear hgx
    by_cases hlt : k < n
    · have e1 : decide ((k : Int) < (n : Int)) = true := by simp; omega
      have hkb : k < zs.length := by rw [HX.out.2.2.2.2.2.2.2.2.1]; exact hlt
      obtain ⟨b0, off, rfl, hcb⟩ := (HX.out.2.2.2.2.2.2.2.2.2.grown HGX.out) (by rintro rfl; simp at hkb)
      obtain ⟨hc, hbl, hfit⟩ := hcb k hkb
      obtain ⟨o, ho⟩ : ∃ o, zs[k] = o := ⟨_, rfl⟩
      rw [ho] at hc hfit
      obtain ⟨cs, hcs⟩ : ∃ cs, o.cells.toArray = cs := ⟨_, rfl⟩
      have hsz : cs.size = 24 := by rw [← hcs, List.size_toArray, GOp.cells_len hfit.1]
      have hon : (cs.all fun v => v.oneCell') = true := by rw [← hcs]; exact gop_one o
      obtain ⟨xs, hxs⟩ : ∃ xs, askC o.x (arrV .u8 o.d) = xs := ⟨_, rfl⟩
      have hx21 : xs.size = 21 := by rw [← hxs]; exact askC_size _ (by rw [arr_size, hfit.1.1])
      obtain ⟨p, hp⟩ : ∃ p, wx.heap.size = p := ⟨_, rfl⟩
      obtain ⟨wy, hwy⟩ : ∃ wy, (wx.alloc (.cells gopZ 33)).setRow p cs = wy := ⟨_, rfl⟩
      have gy : wx.grownBy wy none := by rw [← hwy]; exact grown_row (World.grownBy_alloc _ _ none) (.inl (by rw [hp]; exact Nat.le_refl _)) _
      have by' : Blk wy p 33 cs := by rw [← hwy, ← hp]; exact (Blk.new _ _ _).row _
      have HR := Lib.hid (And.intro hc (show (Tryz.prog.info? 33).map (·.size) = some o.cells.length by rw [GOp.cells_len hfit.1]; exact info24))
      have HC := Lib.hid (And.intro hcs (And.intro hsz (And.intro hon (And.intro hxs.symm (And.intro hx21 hfit)))))
      have HY := Lib.hid (And.intro (HD.out.1.grown gy) (And.intro (HD.out.2.grown gy) (And.intro by' (show Blk wy p 33 o.cells.toArray by rw [hcs]; exact by'))))
      have HWY := Lib.hid (And.intro hp hwy)
      have hb1 : 0 ≤ (k : Int) ∧ (k : Int) + 1 ≤ 21 := by omega
      clear hcb hc hbl ho hkb hfit hcs hsz hon hxs hx21 gy by' hp hwy
      have hz30 := gopz_run
      go_upto_region 11 with (first
        | (refine wpList_load_mid rfl 33 _ rfl b0 (off + k * 24) rfl o.cells _ HR.out.1 Tryz.underlying33 rfl HR.out.2 ?_; rw [HC.out.1])
        | (refine wpList_store_row rfl 33 _ _ rfl wx.heap.size cs rfl rfl 33 _ (heap_alloc_new wx _) (by rw [HC.out.2.1]; exact info24) (by rw [HC.out.2.1]; rfl) HC.out.2.2.1 ?_))
      rw [HWY.out.1]
      rw [HWY.out.2]
      clear hz30
      obtain ⟨V, hV⟩ : ∃ V, wy.drew = V := ⟨_, rfl⟩
      have gV := grown_drew (World.grownBy.refl wy none)
      rw [hV] at gV
      have HDV := Lib.hid (And.intro (HY.out.1.grown gV) (And.intro (HY.out.2.1.grown gV) (HY.out.2.2.2.grown gV (by simp))))
      clear gV
      have HV := Lib.hid (ask_run HDV.out.1 HE2.out.1 E HE2.out.2 HX.out.2.2.1 (by omega) o HC.out.2.2.2.2.2 xs HC.out.2.2.2.1)
      have HSS := Lib.hid (show ∀ Y : World, PlAt Y pb P rest → Blk Y p 33 o.cells.toArray → Y.cell? ⟨pb, 2, none⟩ = some (.pointer (some ⟨P.g, 0, none⟩)) ∧ Y.rangeAt p 0 xs.toList from fun Y h1 h2 => ⟨h1.guard, by rw [HC.out.2.2.2.1]; exact gop_ask h2⟩)
      refine wp_region_held_drew (S := fun Y => Y.cell? ⟨pb, 2, none⟩ = some (.pointer (some ⟨P.g, 0, none⟩)) ∧ Y.rangeAt p 0 xs.toList) (by kernel_rfl) (by rw [hV]; exact HSS.out V HDV.out.2.1 HDV.out.2.2) (fun hHeld => ?_)
      rw [hV] at hHeld ⊢
      refine wpAnyH_take (i := 0) (oi := _) (v := ?vb0) rfl (by kernel_rfl) (by kernel_rfl) (by kernel_rfl) (fun _ _ _ h => h) (Or.inl ⟨by rfl, ?hyb0⟩) (by assumption) ?restb0
      case hyb0 => (intro V hSw; (try dsimp only at hSw); go_simp) <;> with_reducible rfl
      try simp only [Act.put, List.getElem_toArray, List.getElem_cons_succ, List.getElem_cons_zero, List.setIfInBounds_toArray, List.set_cons_zero, List.set_cons_succ]
      refine wpAnyH_take (i := 1) (oi := _) (v := ?vb1) rfl (by kernel_rfl) (by kernel_rfl) (by kernel_rfl) (fun _ _ _ h => h) (Or.inl ⟨by rfl, ?hyb1⟩) (by assumption) ?restb1
      case hyb1 => (intro V hSw; (try dsimp only at hSw); go_simp) <;> with_reducible rfl
      try simp only [Act.put, List.getElem_toArray, List.getElem_cons_succ, List.getElem_cons_zero, List.setIfInBounds_toArray, List.set_cons_zero, List.set_cons_succ]
      refine wpAnyH_take (i := 2) (oi := _) (v := ?vb2) rfl (by kernel_rfl) (by kernel_rfl) (by kernel_rfl) (fun _ _ _ h => h) (Or.inl ⟨by rfl, ?hyb2⟩) (by assumption) ?restb2
      case hyb2 => (intro V hSw; (try dsimp only at hSw); go_simp) <;> with_reducible rfl
      try simp only [Act.put, List.getElem_toArray, List.getElem_cons_succ, List.getElem_cons_zero, List.setIfInBounds_toArray, List.set_cons_zero, List.set_cons_succ]
      refine wpAnyH_take (i := 3) (oi := _) (v := ?vb3) rfl (by kernel_rfl) (by kernel_rfl) (by kernel_rfl) (fun _ _ _ h => h) (Or.inl ⟨by rfl, ?hyb3⟩) (by assumption) ?restb3
      case hyb3 => (intro V hSw; (try dsimp only at hSw); go_simp) <;> with_reducible rfl
      try simp only [Act.put, List.getElem_toArray, List.getElem_cons_succ, List.getElem_cons_zero, List.setIfInBounds_toArray, List.set_cons_zero, List.set_cons_succ]
      refine wpAnyH_take (i := 4) (oi := _) (v := ?vb4) rfl (by kernel_rfl) (by kernel_rfl) (by kernel_rfl) (fun _ _ _ h => h) (Or.inl ⟨by rfl, ?hyb4⟩) (by assumption) ?restb4
      case hyb4 => (intro V hSw; (try dsimp only at hSw); go_simp) <;> with_reducible rfl
      try simp only [Act.put, List.getElem_toArray, List.getElem_cons_succ, List.getElem_cons_zero, List.setIfInBounds_toArray, List.set_cons_zero, List.set_cons_succ]
      refine wpAnyH_take (i := 5) (oi := _) (v := .agg xs) rfl (by kernel_rfl) (by kernel_rfl) (by kernel_rfl) (fun _ _ _ h => h) (yieldsIf_load_mid (by rfl) _ _ rfl p 0 rfl xs.toList _ (fun V hSw => hSw.2) Tryz.underlying30 rfl (by rw [Array.length_toList, HC.out.2.2.2.2.1]; exact info21)) (by assumption) ?restb5
      try simp only [Act.put, List.getElem_toArray, List.getElem_cons_succ, List.getElem_cons_zero, List.setIfInBounds_toArray, List.set_cons_zero, List.set_cons_succ]
      refine wpAnyH_ready (rs := [6]) (by kernel_rfl) (by simp) ?_
      refine (AllReadyH.cons (o := _) rfl (fun K9 hK => ?_) AllReadyH.nil)
      go_simp
      refine HV.out.mono ?_
      clear HV
      rintro e w5 ⟨⟨sg, ev, rfl⟩, hk5, cn', st', hcn', hr5⟩
      have hnp : ¬ P.F p := by
        obtain ⟨z, _, h1, _⟩ := HD.out.1.ex
        have h2 := h1.lt
        have h3 := HWY.out.1
        simp only [GdP.F]
        omega
      have H5 := Lib.hid (And.intro hr5 (And.intro (HDV.out.2.1.kept hk5) (And.intro (HDV.out.2.2.kept hk5 hnp) hcn')))
      clear hr5 hk5 hcn' hnp
      (try go_wp2_with fail)
      refine hK.out _ _ (HSS.out _ H5.out.2.1 H5.out.2.2.1) (fun hHeld => ?_)
      clear hK K9
      try simp only [Act.put, List.getElem_toArray, List.getElem_cons_succ, List.getElem_cons_zero, List.setIfInBounds_toArray, List.set_cons_zero, List.set_cons_succ]
      refine wpAnyH_take (i := 7) (oi := _) (v := ?vb7) rfl (by kernel_rfl) (by kernel_rfl) (by kernel_rfl) (fun _ _ _ h => h) (Or.inl ⟨by rfl, ?hyb7⟩) (by assumption) ?restb7
      case hyb7 => (intro V hSw; (try dsimp only at hSw); go_simp) <;> with_reducible rfl
      try simp only [Act.put, List.getElem_toArray, List.getElem_cons_succ, List.getElem_cons_zero, List.setIfInBounds_toArray, List.set_cons_zero, List.set_cons_succ]
      refine wpAnyH_take (i := 8) (oi := _) (v := ?vb8) rfl (by kernel_rfl) (by kernel_rfl) (by kernel_rfl) (fun _ _ _ h => h) (Or.inl ⟨by rfl, ?hyb8⟩) (by assumption) ?restb8
      case hyb8 => (intro V hSw; (try dsimp only at hSw); go_simp) <;> with_reducible rfl
      try simp only [Act.put, List.getElem_toArray, List.getElem_cons_succ, List.getElem_cons_zero, List.setIfInBounds_toArray, List.set_cons_zero, List.set_cons_succ]
      refine wpAnyH_take (i := 9) (oi := _) (v := ?vb9) rfl (by kernel_rfl) (by kernel_rfl) (by kernel_rfl) (fun _ _ _ h => h) (Or.inl ⟨by rfl, ?hyb9⟩) (by assumption) ?restb9
      case hyb9 => (intro V hSw; (try dsimp only at hSw); go_simp) <;> with_reducible rfl
      try simp only [Act.put, List.getElem_toArray, List.getElem_cons_succ, List.getElem_cons_zero, List.setIfInBounds_toArray, List.set_cons_zero, List.set_cons_succ]
      refine wpAnyH_done (by kernel_rfl) ?_ _
      go_wp2_with fail
      go_roundw
      case rel => exact ⟨k + 1, cn', st', by omega, by go_num, by have := H5.out.2.2.2; omega, H5.out.1, H5.out.2.1⟩
      case measure => simp [intOf]; omega
    · have e1 : decide ((k : Int) < (n : Int)) = false := by simp; omega
      go_upto_region 13 with (fail)
      obtain ⟨V, hV⟩ : ∃ V, wx.drew = V := ⟨_, rfl⟩
      have gV := grown_drew (World.grownBy.refl wx none)
      rw [hV] at gV
      have HDV := Lib.hid (And.intro (HD.out.1.grown gV) (HD.out.2.grown gV))
      clear gV
      have HSS := Lib.hid (show ∀ Y : World, PlAt Y pb P rest → Y.cell? ⟨pb, 0, none⟩ = some (.pointer (some ⟨P.d, 0, none⟩)) ∧ Y.cell? ⟨pb, 1, none⟩ = some (.pointer (some ⟨P.kb, 0, none⟩)) from fun Y h1 => ⟨h1.1.cell 0, h1.1.cell 1⟩)
      have HV := Lib.hid (open_run HDV.out.1 HE2.out.1 E HE2.out.2 (by omega))
      refine wp_region_held_drew (S := fun Y => Y.cell? ⟨pb, 0, none⟩ = some (.pointer (some ⟨P.d, 0, none⟩)) ∧ Y.cell? ⟨pb, 1, none⟩ = some (.pointer (some ⟨P.kb, 0, none⟩))) (by kernel_rfl) (by rw [hV]; exact HSS.out V HDV.out.2) (fun hHeld => ?_)
      rw [hV] at hHeld ⊢
      refine wpAnyH_take (i := 0) (oi := _) (v := ?ve0) rfl (by kernel_rfl) (by kernel_rfl) (by kernel_rfl) (fun _ _ _ h => h) (Or.inl ⟨by rfl, ?hye0⟩) (by assumption) ?reste0
      case hye0 => (intro V hSw; (try dsimp only at hSw); go_simp) <;> with_reducible rfl
      try simp only [Act.put, List.getElem_toArray, List.getElem_cons_succ, List.getElem_cons_zero, List.setIfInBounds_toArray, List.set_cons_zero, List.set_cons_succ]
      refine wpAnyH_take (i := 1) (oi := _) (v := ?ve1) rfl (by kernel_rfl) (by kernel_rfl) (by kernel_rfl) (fun _ _ _ h => h) (Or.inl ⟨by rfl, ?hye1⟩) (by assumption) ?reste1
      case hye1 => (intro V hSw; (try dsimp only at hSw); go_simp) <;> with_reducible rfl
      try simp only [Act.put, List.getElem_toArray, List.getElem_cons_succ, List.getElem_cons_zero, List.setIfInBounds_toArray, List.set_cons_zero, List.set_cons_succ]
      refine wpAnyH_take (i := 2) (oi := _) (v := ?ve2) rfl (by kernel_rfl) (by kernel_rfl) (by kernel_rfl) (fun _ _ _ h => h) (Or.inl ⟨by rfl, ?hye2⟩) (by assumption) ?reste2
      case hye2 => (intro V hSw; (try dsimp only at hSw); go_simp) <;> with_reducible rfl
      try simp only [Act.put, List.getElem_toArray, List.getElem_cons_succ, List.getElem_cons_zero, List.setIfInBounds_toArray, List.set_cons_zero, List.set_cons_succ]
      refine wpAnyH_take (i := 3) (oi := _) (v := ?ve3) rfl (by kernel_rfl) (by kernel_rfl) (by kernel_rfl) (fun _ _ _ h => h) (Or.inl ⟨by rfl, ?hye3⟩) (by assumption) ?reste3
      case hye3 => (intro V hSw; (try dsimp only at hSw); go_simp) <;> with_reducible rfl
      try simp only [Act.put, List.getElem_toArray, List.getElem_cons_succ, List.getElem_cons_zero, List.setIfInBounds_toArray, List.set_cons_zero, List.set_cons_succ]
      refine wpAnyH_take (i := 4) (oi := _) (v := ?ve4) rfl (by kernel_rfl) (by kernel_rfl) (by kernel_rfl) (fun _ _ _ h => h) (Or.inl ⟨by rfl, ?hye4⟩) (by assumption) ?reste4
      case hye4 => (intro V hSw; (try dsimp only at hSw); go_simp) <;> with_reducible rfl
      try simp only [Act.put, List.getElem_toArray, List.getElem_cons_succ, List.getElem_cons_zero, List.setIfInBounds_toArray, List.set_cons_zero, List.set_cons_succ]
      refine wpAnyH_take (i := 5) (oi := _) (v := ?ve5) rfl (by kernel_rfl) (by kernel_rfl) (by kernel_rfl) (fun _ _ _ h => h) (Or.inl ⟨by rfl, ?hye5⟩) (by assumption) ?reste5
      case hye5 => (intro V hSw; (try dsimp only at hSw); go_simp) <;> with_reducible rfl
      try simp only [Act.put, List.getElem_toArray, List.getElem_cons_succ, List.getElem_cons_zero, List.setIfInBounds_toArray, List.set_cons_zero, List.set_cons_succ]
      refine wpAnyH_take (i := 6) (oi := _) (v := ?ve6) rfl (by kernel_rfl) (by kernel_rfl) (by kernel_rfl) (fun _ _ _ h => h) (Or.inl ⟨by rfl, ?hye6⟩) (by assumption) ?reste6
      case hye6 => (intro V hSw; (try dsimp only at hSw); go_simp) <;> with_reducible rfl
      try simp only [Act.put, List.getElem_toArray, List.getElem_cons_succ, List.getElem_cons_zero, List.setIfInBounds_toArray, List.set_cons_zero, List.set_cons_succ]
      refine wpAnyH_take (i := 7) (oi := _) (v := ?ve7) rfl (by kernel_rfl) (by kernel_rfl) (by kernel_rfl) (fun _ _ _ h => h) (Or.inl ⟨by rfl, ?hye7⟩) (by assumption) ?reste7
      case hye7 => (intro V hSw; (try dsimp only at hSw); go_simp) <;> with_reducible rfl
      try simp only [Act.put, List.getElem_toArray, List.getElem_cons_succ, List.getElem_cons_zero, List.setIfInBounds_toArray, List.set_cons_zero, List.set_cons_succ]
      refine wpAnyH_ready (rs := [8]) (by kernel_rfl) (by simp) ?_
      refine (AllReadyH.cons (o := _) rfl (fun K9 hK => ?_) AllReadyH.nil)
      go_simp
      refine HV.out.mono ?_
      clear HV
      rintro e w5 ⟨g5, ga, sa, rfl, hr5⟩
      have H5 := Lib.hid (And.intro (HDV.out.1.grown g5) (And.intro (HDV.out.2.grown g5) hr5))
      clear hr5 g5
      (try go_wp2_with fail)
      refine hK.out _ _ (HSS.out _ H5.out.2.1) (fun hHeld => ?_)
      clear hK K9
      try simp only [Act.put, List.getElem_toArray, List.getElem_cons_succ, List.getElem_cons_zero, List.setIfInBounds_toArray, List.set_cons_zero, List.set_cons_succ]
      refine wpAnyH_take (i := 9) (oi := _) (v := ?ve9) rfl (by kernel_rfl) (by kernel_rfl) (by kernel_rfl) (fun _ _ _ h => h) (Or.inl ⟨by rfl, ?hye9⟩) (by assumption) ?reste9
      case hye9 => (intro V hSw; (try dsimp only at hSw); go_simp) <;> with_reducible rfl
      try simp only [Act.put, List.getElem_toArray, List.getElem_cons_succ, List.getElem_cons_zero, List.setIfInBounds_toArray, List.set_cons_zero, List.set_cons_succ]
      refine wpAnyH_take (i := 10) (oi := _) (v := ?ve10) rfl (by kernel_rfl) (by kernel_rfl) (by kernel_rfl) (fun _ _ _ h => h) (Or.inl ⟨by rfl, ?hye10⟩) (by assumption) ?reste10
      case hye10 => (intro V hSw; (try dsimp only at hSw); go_simp) <;> with_reducible rfl
      try simp only [Act.put, List.getElem_toArray, List.getElem_cons_succ, List.getElem_cons_zero, List.setIfInBounds_toArray, List.set_cons_zero, List.set_cons_succ]
      refine wpAnyH_take (i := 11) (oi := _) (v := ?ve11) rfl (by kernel_rfl) (by kernel_rfl) (by kernel_rfl) (fun _ _ _ h => h) (Or.inl ⟨by rfl, ?hye11⟩) (by assumption) ?reste11
      case hye11 => (intro V hSw; (try dsimp only at hSw); go_simp) <;> with_reducible rfl
      try simp only [Act.put, List.getElem_toArray, List.getElem_cons_succ, List.getElem_cons_zero, List.setIfInBounds_toArray, List.set_cons_zero, List.set_cons_succ]
      refine wpAnyH_take (i := 12) (oi := _) (v := ?ve12) rfl (by kernel_rfl) (by kernel_rfl) (by kernel_rfl) (fun _ _ _ h => h) (Or.inl ⟨by rfl, ?hye12⟩) (by assumption) ?reste12
      case hye12 => (intro V hSw; (try dsimp only at hSw); go_simp) <;> with_reducible rfl
      try simp only [Act.put, List.getElem_toArray, List.getElem_cons_succ, List.getElem_cons_zero, List.setIfInBounds_toArray, List.set_cons_zero, List.set_cons_succ]
      refine wpAnyH_take (i := 13) (oi := _) (v := ?ve13) rfl (by kernel_rfl) (by kernel_rfl) (by kernel_rfl) (fun _ _ _ h => h) (Or.inl ⟨by rfl, ?hye13⟩) (by assumption) ?reste13
      case hye13 => (intro V hSw; (try dsimp only at hSw); go_simp) <;> with_reducible rfl
      try simp only [Act.put, List.getElem_toArray, List.getElem_cons_succ, List.getElem_cons_zero, List.setIfInBounds_toArray, List.set_cons_zero, List.set_cons_succ]
      refine wpAnyH_done (by kernel_rfl) ?_ _
      obtain ⟨V5, hV5⟩ : ∃ V5, w5.drew = V5 := ⟨_, rfl⟩
      have gV := grown_drew (World.grownBy.refl w5 none)
      rw [hV5] at gV
      have HDV5 := Lib.hid (And.intro (H5.out.1.grown gV) (And.intro (H5.out.2.1.grown gV) (H5.out.2.2.grown gV)))
      clear gV
      have HV := Lib.hid (open_run HDV5.out.1 HE2.out.1 E HE2.out.2 (by omega))
      go_upto_region 14 with (fail)
      refine wp_region_held_drew (S := fun Y => Y.cell? ⟨pb, 0, none⟩ = some (.pointer (some ⟨P.d, 0, none⟩)) ∧ Y.cell? ⟨pb, 1, none⟩ = some (.pointer (some ⟨P.kb, 0, none⟩))) (by kernel_rfl) (by rw [hV5]; exact HSS.out V5 HDV5.out.2.1) (fun hHeld => ?_)
      rw [hV5] at hHeld ⊢
      refine wpAnyH_take (i := 0) (oi := _) (v := ?vf0) rfl (by kernel_rfl) (by kernel_rfl) (by kernel_rfl) (fun _ _ _ h => h) (Or.inl ⟨by rfl, ?hyf0⟩) (by assumption) ?restf0
      case hyf0 => (intro V hSw; (try dsimp only at hSw); go_simp) <;> with_reducible rfl
      try simp only [Act.put, List.getElem_toArray, List.getElem_cons_succ, List.getElem_cons_zero, List.setIfInBounds_toArray, List.set_cons_zero, List.set_cons_succ]
      refine wpAnyH_take (i := 1) (oi := _) (v := ?vf1) rfl (by kernel_rfl) (by kernel_rfl) (by kernel_rfl) (fun _ _ _ h => h) (Or.inl ⟨by rfl, ?hyf1⟩) (by assumption) ?restf1
      case hyf1 => (intro V hSw; (try dsimp only at hSw); go_simp) <;> with_reducible rfl
      try simp only [Act.put, List.getElem_toArray, List.getElem_cons_succ, List.getElem_cons_zero, List.setIfInBounds_toArray, List.set_cons_zero, List.set_cons_succ]
      refine wpAnyH_take (i := 2) (oi := _) (v := ?vf2) rfl (by kernel_rfl) (by kernel_rfl) (by kernel_rfl) (fun _ _ _ h => h) (Or.inl ⟨by rfl, ?hyf2⟩) (by assumption) ?restf2
      case hyf2 => (intro V hSw; (try dsimp only at hSw); go_simp) <;> with_reducible rfl
      try simp only [Act.put, List.getElem_toArray, List.getElem_cons_succ, List.getElem_cons_zero, List.setIfInBounds_toArray, List.set_cons_zero, List.set_cons_succ]
      refine wpAnyH_take (i := 3) (oi := _) (v := ?vf3) rfl (by kernel_rfl) (by kernel_rfl) (by kernel_rfl) (fun _ _ _ h => h) (Or.inl ⟨by rfl, ?hyf3⟩) (by assumption) ?restf3
      case hyf3 => (intro V hSw; (try dsimp only at hSw); go_simp) <;> with_reducible rfl
      try simp only [Act.put, List.getElem_toArray, List.getElem_cons_succ, List.getElem_cons_zero, List.setIfInBounds_toArray, List.set_cons_zero, List.set_cons_succ]
      refine wpAnyH_take (i := 4) (oi := _) (v := ?vf4) rfl (by kernel_rfl) (by kernel_rfl) (by kernel_rfl) (fun _ _ _ h => h) (Or.inl ⟨by rfl, ?hyf4⟩) (by assumption) ?restf4
      case hyf4 => (intro V hSw; (try dsimp only at hSw); go_simp) <;> with_reducible rfl
      try simp only [Act.put, List.getElem_toArray, List.getElem_cons_succ, List.getElem_cons_zero, List.setIfInBounds_toArray, List.set_cons_zero, List.set_cons_succ]
      refine wpAnyH_take (i := 5) (oi := _) (v := ?vf5) rfl (by kernel_rfl) (by kernel_rfl) (by kernel_rfl) (fun _ _ _ h => h) (Or.inl ⟨by rfl, ?hyf5⟩) (by assumption) ?restf5
      case hyf5 => (intro V hSw; (try dsimp only at hSw); go_simp) <;> with_reducible rfl
      try simp only [Act.put, List.getElem_toArray, List.getElem_cons_succ, List.getElem_cons_zero, List.setIfInBounds_toArray, List.set_cons_zero, List.set_cons_succ]
      refine wpAnyH_take (i := 6) (oi := _) (v := ?vf6) rfl (by kernel_rfl) (by kernel_rfl) (by kernel_rfl) (fun _ _ _ h => h) (Or.inl ⟨by rfl, ?hyf6⟩) (by assumption) ?restf6
      case hyf6 => (intro V hSw; (try dsimp only at hSw); go_simp) <;> with_reducible rfl
      try simp only [Act.put, List.getElem_toArray, List.getElem_cons_succ, List.getElem_cons_zero, List.setIfInBounds_toArray, List.set_cons_zero, List.set_cons_succ]
      refine wpAnyH_take (i := 7) (oi := _) (v := ?vf7) rfl (by kernel_rfl) (by kernel_rfl) (by kernel_rfl) (fun _ _ _ h => h) (Or.inl ⟨by rfl, ?hyf7⟩) (by assumption) ?restf7
      case hyf7 => (intro V hSw; (try dsimp only at hSw); go_simp) <;> with_reducible rfl
      try simp only [Act.put, List.getElem_toArray, List.getElem_cons_succ, List.getElem_cons_zero, List.setIfInBounds_toArray, List.set_cons_zero, List.set_cons_succ]
      refine wpAnyH_ready (rs := [8]) (by kernel_rfl) (by simp) ?_
      refine (AllReadyH.cons (o := _) rfl (fun K9 hK => ?_) AllReadyH.nil)
      go_simp
      refine HV.out.mono ?_
      clear HV
      rintro e w6 ⟨g6, gb, sb, rfl, hr6⟩
      have H6 := Lib.hid (And.intro (HDV5.out.1.grown g6) (And.intro (HDV5.out.2.1.grown g6) (And.intro (HDV5.out.2.2.grown g6) hr6)))
      clear hr6 g6
      (try go_wp2_with fail)
      refine hK.out _ _ (HSS.out _ H6.out.2.1) (fun hHeld => ?_)
      clear hK K9
      try simp only [Act.put, List.getElem_toArray, List.getElem_cons_succ, List.getElem_cons_zero, List.setIfInBounds_toArray, List.set_cons_zero, List.set_cons_succ]
      refine wpAnyH_take (i := 9) (oi := _) (v := ?vf9) rfl (by kernel_rfl) (by kernel_rfl) (by kernel_rfl) (fun _ _ _ h => h) (Or.inl ⟨by rfl, ?hyf9⟩) (by assumption) ?restf9
      case hyf9 => (intro V hSw; (try dsimp only at hSw); go_simp) <;> with_reducible rfl
      try simp only [Act.put, List.getElem_toArray, List.getElem_cons_succ, List.getElem_cons_zero, List.setIfInBounds_toArray, List.set_cons_zero, List.set_cons_succ]
      refine wpAnyH_take (i := 10) (oi := _) (v := ?vf10) rfl (by kernel_rfl) (by kernel_rfl) (by kernel_rfl) (fun _ _ _ h => h) (Or.inl ⟨by rfl, ?hyf10⟩) (by assumption) ?restf10
      case hyf10 => (intro V hSw; (try dsimp only at hSw); go_simp) <;> with_reducible rfl
      try simp only [Act.put, List.getElem_toArray, List.getElem_cons_succ, List.getElem_cons_zero, List.setIfInBounds_toArray, List.set_cons_zero, List.set_cons_succ]
      refine wpAnyH_take (i := 11) (oi := _) (v := ?vf11) rfl (by kernel_rfl) (by kernel_rfl) (by kernel_rfl) (fun _ _ _ h => h) (Or.inl ⟨by rfl, ?hyf11⟩) (by assumption) ?restf11
      case hyf11 => (intro V hSw; (try dsimp only at hSw); go_simp) <;> with_reducible rfl
      try simp only [Act.put, List.getElem_toArray, List.getElem_cons_succ, List.getElem_cons_zero, List.setIfInBounds_toArray, List.set_cons_zero, List.set_cons_succ]
      refine wpAnyH_take (i := 12) (oi := _) (v := ?vf12) rfl (by kernel_rfl) (by kernel_rfl) (by kernel_rfl) (fun _ _ _ h => h) (Or.inl ⟨by rfl, ?hyf12⟩) (by assumption) ?restf12
      case hyf12 => (intro V hSw; (try dsimp only at hSw); go_simp) <;> with_reducible rfl
      try simp only [Act.put, List.getElem_toArray, List.getElem_cons_succ, List.getElem_cons_zero, List.setIfInBounds_toArray, List.set_cons_zero, List.set_cons_succ]
      refine wpAnyH_take (i := 13) (oi := _) (v := ?vf13) rfl (by kernel_rfl) (by kernel_rfl) (by kernel_rfl) (fun _ _ _ h => h) (Or.inl ⟨by rfl, ?hyf13⟩) (by assumption) ?restf13
      case hyf13 => (intro V hSw; (try dsimp only at hSw); go_simp) <;> with_reducible rfl
      try simp only [Act.put, List.getElem_toArray, List.getElem_cons_succ, List.getElem_cons_zero, List.setIfInBounds_toArray, List.set_cons_zero, List.set_cons_succ]
      refine wpAnyH_done (by kernel_rfl) ?_ _
      go_upto_region 15 with (fail)
      obtain ⟨rt, hrt⟩ : ∃ rt, rt = arrV .u8 (rootC seed) := ⟨_, rfl⟩
      have hq : ∀ V, Sem.run Tryz.prog (Op.equalIn 10000 23 (.agg rt) (.agg rt)) V = .ok true V := eqDG (rootC seed) (rootC_dig seed).1 rt hrt
      have T1 := Lib.hid (show ∀ z : Gr w6, Calls Tryz.prog 14 #[.pointer (some ⟨P.g, 0, none⟩)] z.1 fun e w' => e = .returned (stV st.e st.v st.l st.p st.f) ∧ z.1.grownBy w' none from fun z => state_run (H6.out.1.grown z.2))
      have T2 := Lib.hid (show ∀ z : Gr w6, Calls Tryz.prog 14 #[.pointer (some ⟨ga, 0, none⟩)] z.1 fun e w' => e = .returned (stV st.e st.v st.l st.p st.f) ∧ z.1.grownBy w' none from fun z => state_run (P := ⟨ga, P.kb, P.lb, P.cap, sa, P.d, P.b, P.m⟩) (H6.out.2.2.1.grown z.2))
      have T3 := Lib.hid (show ∀ z : Gr w6, Calls Tryz.prog 14 #[.pointer (some ⟨gb, 0, none⟩)] z.1 fun e w' => e = .returned (stV st.e st.v st.l st.p st.f) ∧ z.1.grownBy w' none from fun z => state_run (P := ⟨gb, P.kb, P.lb, P.cap, sb, P.d, P.b, P.m⟩) (H6.out.2.2.2.grown z.2))
      have T4 := Lib.hid (show ∀ z : Gr w6, Calls Tryz.prog 23 #[.pointer (some ⟨P.kb, 0, none⟩)] z.1 fun e w' => e = .returned (.agg rt) ∧ z.1.grownBy w' none from fun z => root_run (H6.out.1.grown z.2) rt hrt)
      have T5 := Lib.hid (show ∀ z : Gr w6, Calls Tryz.prog 28 #[stV st.e st.v st.l st.p st.f] z.1 fun e w' => e = .returned (.bool true) ∧ z.1.grownBy w' none from fun z => by
        have h := refRight_is z.1 st.e st.v st.l st.p st.f
        rw [show rightB st.e st.v st.l st.p st.f = true from H6.out.1.ok] at h
        exact h)
      have y2 := H6.out.2.1.guard
      have gk : w6.cell? ⟨P.g, 0, none⟩ = some (.pointer (some ⟨P.kb, 0, none⟩)) := by obtain ⟨z, _, h1, _⟩ := H6.out.1.ex; exact h1.gd.cell 0
      have gak : w6.cell? ⟨ga, 0, none⟩ = some (.pointer (some ⟨P.kb, 0, none⟩)) := by obtain ⟨z, _, h1, _⟩ := H6.out.2.2.1.ex; exact h1.gd.cell 0
      have gc2 := Gr.cell y2
      have gcg := Gr.cell gk
      have gca := Gr.cell gak
      clear hrt y2 gk gak
      refine wp_region_grown (by kernel_rfl) (by kernel_rfl) ?_
      repeat (go_big_quiet_step (first
        | (go_at_call 14; with_reducible exact Calls.grown _ (T1.out _))
        | (go_at_call 14; with_reducible exact Calls.grown _ (T2.out _))
        | (go_at_call 14; with_reducible exact Calls.grown _ (T3.out _))
        | (go_at_call 23; with_reducible exact Calls.grown _ (T4.out _))
        | (go_at_call 28; with_reducible exact Calls.grown _ (T5.out _))))
      refine wpQuiet_nil ?_
      rintro w7 ⟨⟨_, k7⟩, rfl⟩
      clear gc2 gcg gca
      have H7 := Lib.hid (show w.grownBy w7 none by
        obtain ⟨z, _, h1, _⟩ := H6.out.1.ex
        exact grown_trans (grown_trans H2.out.1 h1.dk.grownNone) k7)
      clear k7
      go_wp2_with fail
      go_ret
      exact ⟨rfl, H7.out⟩
end Go.Proofs.YthkjlgjbjjjohaaGreatDoor
