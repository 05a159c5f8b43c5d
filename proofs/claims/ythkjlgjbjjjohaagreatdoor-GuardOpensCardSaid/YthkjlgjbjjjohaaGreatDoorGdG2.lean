/-
  Several texts in one: GdC, GdD, GdE.
-/
import Derived.Test.YthkjlgjbjjjohaaGreatDoorGdG1
import Derived.Test.YthkjlgjbjjjohaaGreatDoorRuA
/-
  Guard: Vote, Late, Propose, Enter, State.
-/
namespace Go.Proofs.YthkjlgjbjjjohaaGreatDoor
open Go.RowKit Go.Maps

/-- What a step that signs answers: its state's error, or what signing answers. -/
def StepPost (w0 w w' : World) (e : Ending) (P : GdP) (base : Int) (seed : List Int) (z : DkS) (cn : Nat) (rc : List UInt8) (st t : St) (k : Nat) (m : List Int) (E : Nat → Addr) : Prop :=
  (k ≠ 0 ∧ e = .returned (.tuple #[.agg sigZ, evOf E k]) ∧ GdIs w0 w' P base seed z cn rc st ∧ w.grownBy w' none) ∨
  (k = 0 ∧ ∃ i : Nat, st.f = (i : Int) ∧ i < 32 ∧ SgnPost w0 w w' e P base seed z cn rc st t i m (E 0) (E 5))
theorem vote_okS {s : St} {x : Stp} (h : voteE s.e s.v s.l s.p s.f x.ep x.r x.q = 0) : (voteR s x).ok ∧ ∃ i : Nat, s.f = (i : Int) ∧ i < 32 := by
  obtain ⟨hc, h0, hq, hv, hl, hf⟩ := vote_facts h
  obtain ⟨hr, _, hr1, hr2⟩ := chk_facts hc
  have hr := right_yes _ _ _ _ _ hr
  have hL := voteL_le s.l x.q x.g
  refine ⟨?_, s.f.toNat, by omega, by omega⟩
  rw [voteR, if_pos h]
  have h1 := hL.2.2 hl
  exact right_mk (by simp only; omega)
theorem late_okS {s : St} {x : Stp} (h : lateE s.e s.v s.l s.p s.f x.ep x.r = 0) : (lateR s x).ok ∧ ∃ i : Nat, s.f = (i : Int) ∧ i < 32 := by
  obtain ⟨hc, hf⟩ := late_facts h
  obtain ⟨hr, _, hr1, hr2⟩ := chk_facts hc
  have hr := right_yes _ _ _ _ _ hr
  have hL := lateV_le s.v x.r
  refine ⟨?_, s.f.toNat, by omega, by omega⟩
  rw [lateR, if_pos h]
  exact right_mk (by simp only; omega)
theorem prop_okS {s : St} {x : Stp} (h : propE s.e s.v s.l s.p s.f x.ep x.r = 0) : (propR s x).ok ∧ ∃ i : Nat, s.f = (i : Int) ∧ i < 32 := by
  obtain ⟨hc, hp, hf⟩ := prop_facts h
  obtain ⟨hr, _, hr1, hr2⟩ := chk_facts hc
  have hr := right_yes _ _ _ _ _ hr
  refine ⟨?_, s.f.toNat, by omega, by omega⟩
  rw [propR, if_pos h]
  exact right_mk (by simp only; omega)
def lateK (st : St) (x : Stp) : Nat := if lateE st.e st.v st.l st.p st.f x.ep x.r ≠ 0 then lateE st.e st.v st.l st.p st.f x.ep x.r else if x.q < 0 ∨ x.r ≤ x.q then 14 else 0
theorem lateK_pos {st : St} {x : Stp} {k : Nat} (h : lateE st.e st.v st.l st.p st.f x.ep x.r = k) (hk : k ≠ 0) : lateK st x = k := by rw [lateK, h, if_pos hk]
theorem lateK_bad {st : St} {x : Stp} (h : lateE st.e st.v st.l st.p st.f x.ep x.r = 0) (hb : x.q < 0 ∨ x.r ≤ x.q) : lateK st x = 14 := by rw [lateK, h, if_neg (by simp), if_pos hb]
theorem lateK_zero {st : St} {x : Stp} (h : lateE st.e st.v st.l st.p st.f x.ep x.r = 0) (hb : ¬ (x.q < 0 ∨ x.r ≤ x.q)) : lateK st x = 0 := by rw [lateK, h, if_neg (by simp), if_neg hb]
section
variable {w0 w w' : World} {P : GdP} {base : Int} {seed : List Int} {z : DkS} {cn : Nat} {rc : List UInt8} {st : St}
set_option maxRecDepth 100000 in
set_option maxHeartbeats 1000000 in
theorem gvote_is (h : GdIs w0 w P base seed z cn rc st) (hR : Rounds w0) (E : Nat → Addr) (he : ErrEnv w0 w0.heap.size E) (hseed : isDig seed) (hcn : cn < 9223372036854775000) (hb : 0 ≤ base ∧ base < 1000000) (x : Stp) (hep : -9223372036854775808 ≤ x.ep ∧ x.ep < 9223372036854775808) (hxr : -9223372036854775808 ≤ x.r ∧ x.r < 9223372036854775808) (d : List Int) (hd : isDig d) (dd : Array Value) (hdd : dd = arrV .u8 d) :
    Calls Tryz.prog 24 #[.pointer (some ⟨P.g, 0, none⟩), .int .i64 x.ep, .int .i64 x.r, .int .i64 x.q, .int .i64 x.g, .agg dd] w fun e w' =>
      StepPost w0 w w' e P base seed z cn rc st (voteR st x) (voteE st.e st.v st.l st.p st.f x.ep x.r x.q) (forV x.ep x.r d) E := by
  have hz30 := sigz_run
  have hzb := sigz_build
  obtain ⟨q, hq⟩ : ∃ q, w.heap.size = q := ⟨_, rfl⟩
  obtain ⟨W1, hW1⟩ : ∃ W1, (w.alloc (.cells dd 23)).alloc (.cells sigZ 73) = W1 := ⟨_, rfl⟩
  have b0 : Blk W1 q 23 dd := by rw [← hW1, ← hq]; exact (Blk.new _ _ _).alloc _
  have b1 : Blk W1 (q + 1) 73 sigZ := by
    have h := Blk.new (w.alloc (.cells dd 23)) 73 sigZ
    rw [World.size_alloc, hq, hW1] at h
    exact h
  have gW1 : w.grownBy W1 none := by rw [← hW1]; exact grown_trans (World.grownBy_alloc _ _ none) (World.grownBy_alloc _ _ none)
  have hd16 : dd.size = 16 := by rw [hdd, arr_size, hd.1]
  have h1 := h.grown gW1
  have hlt := h.lt
  have hl2 := h.lt2
  rw [hq] at hlt hl2
  have hcal := vote_is W1 w0.heap.size E (he.below h1.dk.below (Nat.le_refl _)) st x
  have HFN := Lib.hid (h.sl.farNew (g := (q + 1)) (by omega))
  have x2 := h1.gd.cell 2
  have x3 := h1.gd.cell 3
  have x4 := h1.gd.cell 4
  have x5 := h1.gd.cell 5
  have x6 := h1.gd.cell 6
  simp only [List.getElem?_toArray, List.getElem?_cons_zero, List.getElem?_cons_succ] at x2 x3 x4 x5 x6
  have HX := Lib.hid (And.intro h1 (And.intro hR (And.intro hlt (And.intro hl2 (And.intro hseed (And.intro gW1 (And.intro b1 (And.intro he (And.intro hcn hb)))))))))
  have HN := Lib.hid (And.intro hep hxr)
  have HD := Lib.hid (And.intro b0 (And.intro hd16 (And.intro hd hdd)))
  clear b0 hd16 hd hdd
  have HW := Lib.hid (And.intro hq hW1)
  have HC := Lib.hid hcal
  clear h hR he hseed hcn hb hep hxr hlt hl2 gW1 b1 hq hW1 h1 hcal
  go_enter Tryz.func24, Tryz.ntmps24
  go_upto_region 1 with (fail)
  rw [HW.out.2, HW.out.1]
  clear hz30
  go_wp2_with fail
  refine HC.out.mono ?_
  rintro e w2 ⟨rfl, g2⟩
  have hokS := @vote_okS st x
  obtain ⟨t, htt⟩ : ∃ t, voteR st x = t := ⟨_, rfl⟩
  obtain ⟨k, hk⟩ : ∃ k, voteE st.e st.v st.l st.p st.f x.ep x.r x.q = k := ⟨_, rfl⟩
  rw [htt, hk] at hokS
  rw [htt, hk]
  have HT := Lib.hid (And.intro htt hk)
  have h2 := HX.out.1.grown g2
  have gw2 := grown_trans HX.out.2.2.2.2.2.1 g2
  have H2 := Lib.hid (And.intro h2 (And.intro gw2 (And.intro (HX.out.2.2.2.2.2.2.1.grown g2 (by simp)) ((HD.out.1.grown (World.grownBy.refl W1 none) (by simp)).grown g2 (by simp)))))
  clear htt hk x2 x3 x4 x5 x6 h2 gw2 g2
  cases k with
  | succ k =>
    simp only [evOf]
    clear hokS
    have hb9 := H2.out.2.2.1.alloc (.cells (stC t.e t.v t.l t.p t.f) 46)
    have g9 := grown_trans H2.out.2.1 (World.grownBy_alloc w2 (.cells (stC t.e t.v t.l t.p t.f) 46) none)
    obtain ⟨w9, hw9⟩ : ∃ w9, w2.alloc (.cells (stC t.e t.v t.l t.p t.f) 46) = w9 := ⟨_, rfl⟩
    rw [hw9] at hb9 g9
    have H9 := Lib.hid (And.intro hb9 g9)
    have HW9 := Lib.hid hw9
    clear hb9 g9 hw9
    go_upto_region 2 with (fail)
    rw [HW9.out]
    go_wp2_with (first
      | (refine wpList_store_row rfl 73 _ _ rfl (q + 1) sigZ rfl rfl 73 _ H9.out.1 info3 rfl sigZ_one ?_))
    refine bodyPost_ret (results_cell_t rfl _ _ _ ⟨(q + 1), 0, none⟩ (.agg sigZ) rfl (run_loadVar_row _ (q + 1) 73 73 _ (0, 0) _ (H9.out.1.row _) Tryz.underlying73 rfl info3)) rfl ?_
    have gf := grown_row H9.out.2 (g := (q + 1)) (.inl (by rw [HW.out.1]; omega)) sigZ
    refine .inl ⟨by rw [HT.out.2]; omega, by rw [HT.out.2]; rfl, ?_, gf⟩
    exact (H2.out.1.grown (by rw [← HW9.out]; exact World.grownBy_alloc _ _ none)).beside (row_kept _) ⟨by have := HX.out.2.2.1; simp only [GdP.F]; omega, by have := HX.out.2.2.2.1; omega, by have := HX.out.2.2.2.1; omega⟩ (by have := HX.out.1.low; have := HX.out.2.2.1; omega) (HFN.out.kept (Kept.of_grown (F := fun _ => False) H9.out.2 fun _ e => by cases e) (fun h => h))
  | zero =>
    simp only [evOf]
    obtain ⟨hok, i, hi, hi32⟩ := hokS rfl
    have HOK := Lib.hid (And.intro hok (And.intro hi hi32))
    clear hokS hok hi hi32
    go_upto_region 2 with (fail)
    have bs := Blk.new w2 46 (stC t.e t.v t.l t.p t.f)
    have gs := World.grownBy_alloc w2 (.cells (stC t.e t.v t.l t.p t.f) 46) none
    obtain ⟨q2, hq2⟩ : ∃ q2, w2.heap.size = q2 := ⟨_, rfl⟩
    obtain ⟨w3, hw3⟩ : ∃ w3, w2.alloc (.cells (stC t.e t.v t.l t.p t.f) 46) = w3 := ⟨_, rfl⟩
    rw [hq2, hw3] at bs
    rw [hw3] at gs
    rw [hw3, hq2]
    obtain ⟨V3, hV3⟩ : ∃ V3, w3.drew = V3 := ⟨_, rfl⟩
    have g3 := grown_drew (grown_trans H2.out.2.1 gs)
    have g23 := grown_drew gs
    have bd := bs.drew
    rw [hV3] at g3 g23 bd
    have H3 := Lib.hid (And.intro (H2.out.1.grown g23) (And.intro g3 (And.intro bd (And.intro (H2.out.2.2.1.grown g23 (by simp)) (And.intro (show q2 < V3.heap.size from bd.lt) (And.intro (show (q + 1) < q2 by have := H2.out.2.2.1.lt; omega) (H2.out.2.2.2.grown g23 (by simp))))))))
    clear bs gs hq2 hw3 g3 g23 bd
    go_wp2_with fail
    have HSS := Lib.hid (show ∀ Y : World, Blk Y q2 46 (stC t.e t.v t.l t.p t.f) → Blk Y q 23 dd → (Y.cell? ⟨q2, 0, none⟩ = some (.int .i64 t.e) ∧ Y.cell? ⟨q2, 1, none⟩ = some (.int .i64 t.v) ∧ Y.cell? ⟨q2, 2, none⟩ = some (.int .i64 t.l) ∧ Y.cell? ⟨q2, 3, none⟩ = some (.int .i64 t.p) ∧ Y.cell? ⟨q2, 4, none⟩ = some (.int .i64 t.f)) ∧ Y.rangeAt q 0 dd.toList from fun Y h1 h2 => ⟨⟨h1.cell 0, h1.cell 1, h1.cell 2, h1.cell 3, h1.cell 4⟩, range_of_blk h2⟩)
    refine wp_region_held_drew (S := fun Y => (Y.cell? ⟨q2, 0, none⟩ = some (.int .i64 t.e) ∧ Y.cell? ⟨q2, 1, none⟩ = some (.int .i64 t.v) ∧ Y.cell? ⟨q2, 2, none⟩ = some (.int .i64 t.l) ∧ Y.cell? ⟨q2, 3, none⟩ = some (.int .i64 t.p) ∧ Y.cell? ⟨q2, 4, none⟩ = some (.int .i64 t.f)) ∧ Y.rangeAt q 0 dd.toList) (by kernel_rfl) (by rw [hV3]; exact HSS.out V3 H3.out.2.2.1 H3.out.2.2.2.2.2.2) (fun hHeld => ?_)
    rw [hV3] at hHeld ⊢
    refine wpAnyH_take (i := 0) (oi := _) (v := ?vv0) rfl (by kernel_rfl) (by kernel_rfl) (by kernel_rfl) (fun _ _ _ h => h) (Or.inl ⟨by rfl, ?hyv0⟩) (by assumption) ?restv0
    case hyv0 => (intro V hSw; (try dsimp only at hSw); go_simp) <;> with_reducible rfl
    try simp only [Act.put, List.getElem_toArray, List.getElem_cons_succ, List.getElem_cons_zero, List.setIfInBounds_toArray, List.set_cons_zero, List.set_cons_succ]
    refine wpAnyH_take (i := 1) (oi := _) (v := .agg #[.int .i64 t.e, .int .i64 t.v, .int .i64 t.l, .int .i64 t.p, .int .i64 t.f]) rfl (by kernel_rfl) (by kernel_rfl) (by kernel_rfl) (fun _ _ _ h => h) (Or.inl ⟨by rfl, ?hyv1⟩) (by assumption) ?restv1
    case hyv1 => intro V hSw; (try dsimp only at hSw); obtain ⟨s0, s1, s2, s3, s4⟩ := hSw.1; go_simp
    try simp only [Act.put, List.getElem_toArray, List.getElem_cons_succ, List.getElem_cons_zero, List.setIfInBounds_toArray, List.set_cons_zero, List.set_cons_succ]
    refine wpAnyH_take (i := 2) (oi := _) (v := ?vv2) rfl (by kernel_rfl) (by kernel_rfl) (by kernel_rfl) (fun _ _ _ h => h) (Or.inl ⟨by rfl, ?hyv2⟩) (by assumption) ?restv2
    case hyv2 => (intro V hSw; (try dsimp only at hSw); go_simp) <;> with_reducible rfl
    try simp only [Act.put, List.getElem_toArray, List.getElem_cons_succ, List.getElem_cons_zero, List.setIfInBounds_toArray, List.set_cons_zero, List.set_cons_succ]
    refine wpAnyH_take (i := 3) (oi := _) (v := ?vv3) rfl (by kernel_rfl) (by kernel_rfl) (by kernel_rfl) (fun _ _ _ h => h) (Or.inl ⟨by rfl, ?hyv3⟩) (by assumption) ?restv3
    case hyv3 => (intro V hSw; (try dsimp only at hSw); go_simp) <;> with_reducible rfl
    try simp only [Act.put, List.getElem_toArray, List.getElem_cons_succ, List.getElem_cons_zero, List.setIfInBounds_toArray, List.set_cons_zero, List.set_cons_succ]
    refine wpAnyH_take (i := 4) (oi := _) (v := .agg dd) rfl (by kernel_rfl) (by kernel_rfl) (by kernel_rfl) (fun _ _ _ h => h) (yieldsIf_load_mid (by rfl) _ _ rfl q 0 rfl dd.toList _ (fun V hSw => hSw.2) Tryz.underlying23 rfl (by rw [Array.length_toList, HD.out.2.1]; exact info16)) (by assumption) ?restv4
    try simp only [Act.put, List.getElem_toArray, List.getElem_cons_succ, List.getElem_cons_zero, List.setIfInBounds_toArray, List.set_cons_zero, List.set_cons_succ]
    refine wpAnyH_ready (rs := [5]) (by kernel_rfl) (by simp) ?_
    refine (AllReadyH.cons (o := _) rfl (fun K9 hK => ?_) AllReadyH.nil)
    go_simp
    refine (forV_is V3 (HX.out.2.1.kept H3.out.1.dk.2.1 (fun _ h => h)) x.ep x.r HN.out.1 HN.out.2 d HD.out.2.2.1 dd HD.out.2.2.2).mono ?_
    rintro e w4 ⟨rfl, g4⟩
    obtain ⟨M, hM⟩ : ∃ M, arrV .u8 (forV x.ep x.r d) = M := ⟨_, rfl⟩
    rw [hM]
    have H4 := Lib.hid (And.intro (H3.out.1.grown g4) (And.intro (grown_trans H3.out.2.1 g4) (And.intro (H3.out.2.2.1.grown g4 (by simp)) (And.intro (H3.out.2.2.2.1.grown g4 (by simp)) (And.intro (Nat.lt_of_lt_of_le H3.out.2.2.2.2.1 g4.size) (And.intro hM (H3.out.2.2.2.2.2.2.grown g4 (by simp))))))))
    clear g4 hM
    (try go_wp2_with fail)
    refine hK.out _ _ (HSS.out _ H4.out.2.2.1 H4.out.2.2.2.2.2.2) (fun hHeld => ?_)
    clear hK K9
    try simp only [Act.put, List.getElem_toArray, List.getElem_cons_succ, List.getElem_cons_zero, List.setIfInBounds_toArray, List.set_cons_zero, List.set_cons_succ]
    refine wpAnyH_ready (rs := [6]) (by kernel_rfl) (by simp) ?_
    refine (AllReadyH.cons (o := _) rfl (fun K9 hK => ?_) AllReadyH.nil)
    go_simp
    refine (gsign_is H4.out.1 HX.out.2.1 E HX.out.2.2.2.2.2.2.2.1 HX.out.2.2.2.2.1 t HOK.out.1 HX.out.2.2.2.2.2.2.2.2.1 HX.out.2.2.2.2.2.2.2.2.2 i HOK.out.2.2 HOK.out.2.1 (forV x.ep x.r d) (ofS_dig _ _) M H4.out.2.2.2.2.2.1.symm).mono ?_
    rintro e w5 hsp
    obtain ⟨sg, ev, rfl, hsz, hso⟩ := hsp.form
    have nF : ¬ P.F q2 ∧ ¬ P.F (q + 1) ∧ ¬ P.F q := by have := HX.out.2.2.1; have := H3.out.2.2.2.2.2.1; simp only [GdP.F]; omega
    have hb5 := H4.out.2.2.1.kept hsp.2.1 nF.1
    have hs5 := H4.out.2.2.2.1.kept hsp.2.1 nF.2.1
    have hd5 := H4.out.2.2.2.2.2.2.kept hsp.2.1 nF.2.2
    have hst := hsp.store (w := w) (x := (q + 1)) sg (by have := H3.out.2.2.2.2.2.1; have := H4.out.2.2.2.2.1; omega) (by rw [HW.out.1]; omega) H4.out.2.1 ⟨nF.2.1, by have := HX.out.2.2.2.1; omega, by have := HX.out.2.2.2.1; omega⟩ (by have := HX.out.1.low; have := HX.out.2.2.1; omega) (HFN.out.kept (Kept.of_grown (F := fun _ => False) H4.out.2.1 fun _ e => by cases e) (fun h => h))
    have H5 := Lib.hid (And.intro hst (And.intro hb5 (And.intro hs5 (And.intro hsz (And.intro hso hd5)))))
    clear hst hb5 hs5 hd5 hsz hso hsp nF
    (try go_wp2_with fail)
    refine hK.out _ _ (HSS.out _ H5.out.2.1 H5.out.2.2.2.2.2) (fun hHeld => ?_)
    clear hK K9
    try simp only [Act.put, List.getElem_toArray, List.getElem_cons_succ, List.getElem_cons_zero, List.setIfInBounds_toArray, List.set_cons_zero, List.set_cons_succ]
    refine wpAnyH_take (i := 7) (oi := _) (v := ?vv7) rfl (by kernel_rfl) (by kernel_rfl) (by kernel_rfl) (fun _ _ _ h => h) (Or.inl ⟨by rfl, ?hyv7⟩) (by assumption) ?restv7
    case hyv7 => (intro V hSw; (try dsimp only at hSw); go_simp) <;> with_reducible rfl
    try simp only [Act.put, List.getElem_toArray, List.getElem_cons_succ, List.getElem_cons_zero, List.setIfInBounds_toArray, List.set_cons_zero, List.set_cons_succ]
    refine wpAnyH_take (i := 8) (oi := _) (v := ?vv8) rfl (by kernel_rfl) (by kernel_rfl) (by kernel_rfl) (fun _ _ _ h => h) (Or.inl ⟨by rfl, ?hyv8⟩) (by assumption) ?restv8
    case hyv8 => (intro V hSw; (try dsimp only at hSw); go_simp) <;> with_reducible rfl
    try simp only [Act.put, List.getElem_toArray, List.getElem_cons_succ, List.getElem_cons_zero, List.setIfInBounds_toArray, List.set_cons_zero, List.set_cons_succ]
    refine wpAnyH_ready (rs := [9]) (by kernel_rfl) (by simp) ?_
    refine (AllReadyH.cons (o := _) rfl (fun K9 hK => ?_) AllReadyH.nil)
    refine ready_store_mid (by rfl) 73 _ _ rfl (q + 1) 0 sg rfl rfl (there_blk H5.out.2.2.1 (by rw [H5.out.2.2.2.1]; exact Nat.le_refl _)) (by rw [H5.out.2.2.2.1]; exact info3) H5.out.2.2.2.2.1 ?_
    rw [setCells_row (P := Tryz.prog) (ty := 73) H5.out.2.2.1 (by rw [H5.out.2.2.2.1]; exact info3) (by rw [H5.out.2.2.2.1]; rfl) H5.out.2.2.2.2.1]
    refine hK.out _ _ (HSS.out _ (H5.out.2.1.farRow (show q2 ≠ (q + 1) by have := H3.out.2.2.2.2.2.1; omega) _) (H5.out.2.2.2.2.2.farRow (show q ≠ (q + 1) by omega) _)) (fun hHeld => ?_)
    clear hK K9
    try simp only [Act.put, List.getElem_toArray, List.getElem_cons_succ, List.getElem_cons_zero, List.setIfInBounds_toArray, List.set_cons_zero, List.set_cons_succ]
    refine wpAnyH_take (i := 10) (oi := _) (v := ?vv10) rfl (by kernel_rfl) (by kernel_rfl) (by kernel_rfl) (fun _ _ _ h => h) (Or.inl ⟨by rfl, ?hyv10⟩) (by assumption) ?restv10
    case hyv10 => (intro V hSw; (try dsimp only at hSw); go_simp) <;> with_reducible rfl
    try simp only [Act.put, List.getElem_toArray, List.getElem_cons_succ, List.getElem_cons_zero, List.setIfInBounds_toArray, List.set_cons_zero, List.set_cons_succ]
    refine wpAnyH_done (by kernel_rfl) ?_ _
    go_wp2_with fail
    refine bodyPost_ret (results_cell_t rfl _ _ _ ⟨(q + 1), 0, none⟩ (.agg sg) rfl (run_loadVar_row _ (q + 1) 73 73 _ (0, 0) _ (H5.out.2.2.1.row _) Tryz.underlying73 rfl (by rw [H5.out.2.2.2.1]; exact info3))) rfl ?_
    refine .inr ⟨HT.out.2, i, HOK.out.2.1, HOK.out.2.2, ?_⟩
    rw [HT.out.1]
    exact H5.out.1
set_option maxRecDepth 100000 in
set_option maxHeartbeats 1000000 in
theorem gprop_is (h : GdIs w0 w P base seed z cn rc st) (hR : Rounds w0) (E : Nat → Addr) (he : ErrEnv w0 w0.heap.size E) (hseed : isDig seed) (hcn : cn < 9223372036854775000) (hb : 0 ≤ base ∧ base < 1000000) (x : Stp) (hep : -9223372036854775808 ≤ x.ep ∧ x.ep < 9223372036854775808) (hxr : -9223372036854775808 ≤ x.r ∧ x.r < 9223372036854775808) (d : List Int) (hd : isDig d) (dd : Array Value) (hdd : dd = arrV .u8 d) :
    Calls Tryz.prog 55 #[.pointer (some ⟨P.g, 0, none⟩), .int .i64 x.ep, .int .i64 x.r, .agg dd] w fun e w' =>
      StepPost w0 w w' e P base seed z cn rc st (propR st x) (propE st.e st.v st.l st.p st.f x.ep x.r) (forP d) E := by
  have hz30 := sigz_run
  have hzb := sigz_build
  obtain ⟨q, hq⟩ : ∃ q, w.heap.size = q := ⟨_, rfl⟩
  obtain ⟨W1, hW1⟩ : ∃ W1, (w.alloc (.cells dd 23)).alloc (.cells sigZ 73) = W1 := ⟨_, rfl⟩
  have b0 : Blk W1 q 23 dd := by rw [← hW1, ← hq]; exact (Blk.new _ _ _).alloc _
  have b1 : Blk W1 (q + 1) 73 sigZ := by
    have h := Blk.new (w.alloc (.cells dd 23)) 73 sigZ
    rw [World.size_alloc, hq, hW1] at h
    exact h
  have gW1 : w.grownBy W1 none := by rw [← hW1]; exact grown_trans (World.grownBy_alloc _ _ none) (World.grownBy_alloc _ _ none)
  have hd16 : dd.size = 16 := by rw [hdd, arr_size, hd.1]
  have h1 := h.grown gW1
  have hlt := h.lt
  have hl2 := h.lt2
  rw [hq] at hlt hl2
  have hcal := prop_is W1 w0.heap.size E (he.below h1.dk.below (Nat.le_refl _)) st x
  have HFN := Lib.hid (h.sl.farNew (g := (q + 1)) (by omega))
  have x2 := h1.gd.cell 2
  have x3 := h1.gd.cell 3
  have x4 := h1.gd.cell 4
  have x5 := h1.gd.cell 5
  have x6 := h1.gd.cell 6
  simp only [List.getElem?_toArray, List.getElem?_cons_zero, List.getElem?_cons_succ] at x2 x3 x4 x5 x6
  have HX := Lib.hid (And.intro h1 (And.intro hR (And.intro hlt (And.intro hl2 (And.intro hseed (And.intro gW1 (And.intro b1 (And.intro he (And.intro hcn hb)))))))))
  have HN := Lib.hid (And.intro hep hxr)
  have HD := Lib.hid (And.intro b0 (And.intro hd16 (And.intro hd hdd)))
  clear b0 hd16 hd hdd
  have HW := Lib.hid (And.intro hq hW1)
  have HC := Lib.hid hcal
  clear h hR he hseed hcn hb hep hxr hlt hl2 gW1 b1 hq hW1 h1 hcal
  go_enter Tryz.func55, Tryz.ntmps55
  go_upto_region 1 with (fail)
  rw [HW.out.2, HW.out.1]
  clear hz30
  go_wp2_with fail
  refine HC.out.mono ?_
  rintro e w2 ⟨rfl, g2⟩
  have hokS := @prop_okS st x
  obtain ⟨t, htt⟩ : ∃ t, propR st x = t := ⟨_, rfl⟩
  obtain ⟨k, hk⟩ : ∃ k, propE st.e st.v st.l st.p st.f x.ep x.r = k := ⟨_, rfl⟩
  rw [htt, hk] at hokS
  rw [htt, hk]
  have HT := Lib.hid (And.intro htt hk)
  have h2 := HX.out.1.grown g2
  have gw2 := grown_trans HX.out.2.2.2.2.2.1 g2
  have H2 := Lib.hid (And.intro h2 (And.intro gw2 (And.intro (HX.out.2.2.2.2.2.2.1.grown g2 (by simp)) ((HD.out.1.grown (World.grownBy.refl W1 none) (by simp)).grown g2 (by simp)))))
  clear htt hk x2 x3 x4 x5 x6 h2 gw2 g2
  cases k with
  | succ k =>
    simp only [evOf]
    clear hokS
    have hb9 := H2.out.2.2.1.alloc (.cells (stC t.e t.v t.l t.p t.f) 46)
    have g9 := grown_trans H2.out.2.1 (World.grownBy_alloc w2 (.cells (stC t.e t.v t.l t.p t.f) 46) none)
    obtain ⟨w9, hw9⟩ : ∃ w9, w2.alloc (.cells (stC t.e t.v t.l t.p t.f) 46) = w9 := ⟨_, rfl⟩
    rw [hw9] at hb9 g9
    have H9 := Lib.hid (And.intro hb9 g9)
    have HW9 := Lib.hid hw9
    clear hb9 g9 hw9
    go_upto_region 2 with (fail)
    rw [HW9.out]
    go_wp2_with (first
      | (refine wpList_store_row rfl 73 _ _ rfl (q + 1) sigZ rfl rfl 73 _ H9.out.1 info3 rfl sigZ_one ?_))
    refine bodyPost_ret (results_cell_t rfl _ _ _ ⟨(q + 1), 0, none⟩ (.agg sigZ) rfl (run_loadVar_row _ (q + 1) 73 73 _ (0, 0) _ (H9.out.1.row _) Tryz.underlying73 rfl info3)) rfl ?_
    have gf := grown_row H9.out.2 (g := (q + 1)) (.inl (by rw [HW.out.1]; omega)) sigZ
    refine .inl ⟨by rw [HT.out.2]; omega, by rw [HT.out.2]; rfl, ?_, gf⟩
    exact (H2.out.1.grown (by rw [← HW9.out]; exact World.grownBy_alloc _ _ none)).beside (row_kept _) ⟨by have := HX.out.2.2.1; simp only [GdP.F]; omega, by have := HX.out.2.2.2.1; omega, by have := HX.out.2.2.2.1; omega⟩ (by have := HX.out.1.low; have := HX.out.2.2.1; omega) (HFN.out.kept (Kept.of_grown (F := fun _ => False) H9.out.2 fun _ e => by cases e) (fun h => h))
  | zero =>
    simp only [evOf]
    obtain ⟨hok, i, hi, hi32⟩ := hokS rfl
    have HOK := Lib.hid (And.intro hok (And.intro hi hi32))
    clear hokS hok hi hi32
    go_upto_region 2 with (fail)
    have bs := Blk.new w2 46 (stC t.e t.v t.l t.p t.f)
    have gs := World.grownBy_alloc w2 (.cells (stC t.e t.v t.l t.p t.f) 46) none
    obtain ⟨q2, hq2⟩ : ∃ q2, w2.heap.size = q2 := ⟨_, rfl⟩
    obtain ⟨w3, hw3⟩ : ∃ w3, w2.alloc (.cells (stC t.e t.v t.l t.p t.f) 46) = w3 := ⟨_, rfl⟩
    rw [hq2, hw3] at bs
    rw [hw3] at gs
    rw [hw3, hq2]
    obtain ⟨V3, hV3⟩ : ∃ V3, w3.drew = V3 := ⟨_, rfl⟩
    have g3 := grown_drew (grown_trans H2.out.2.1 gs)
    have g23 := grown_drew gs
    have bd := bs.drew
    rw [hV3] at g3 g23 bd
    have H3 := Lib.hid (And.intro (H2.out.1.grown g23) (And.intro g3 (And.intro bd (And.intro (H2.out.2.2.1.grown g23 (by simp)) (And.intro (show q2 < V3.heap.size from bd.lt) (And.intro (show (q + 1) < q2 by have := H2.out.2.2.1.lt; omega) (H2.out.2.2.2.grown g23 (by simp))))))))
    clear bs gs hq2 hw3 g3 g23 bd
    go_wp2_with fail
    have HSS := Lib.hid (show ∀ Y : World, Blk Y q2 46 (stC t.e t.v t.l t.p t.f) → Blk Y q 23 dd → (Y.cell? ⟨q2, 0, none⟩ = some (.int .i64 t.e) ∧ Y.cell? ⟨q2, 1, none⟩ = some (.int .i64 t.v) ∧ Y.cell? ⟨q2, 2, none⟩ = some (.int .i64 t.l) ∧ Y.cell? ⟨q2, 3, none⟩ = some (.int .i64 t.p) ∧ Y.cell? ⟨q2, 4, none⟩ = some (.int .i64 t.f)) ∧ Y.rangeAt q 0 dd.toList from fun Y h1 h2 => ⟨⟨h1.cell 0, h1.cell 1, h1.cell 2, h1.cell 3, h1.cell 4⟩, range_of_blk h2⟩)
    refine wp_region_held_drew (S := fun Y => (Y.cell? ⟨q2, 0, none⟩ = some (.int .i64 t.e) ∧ Y.cell? ⟨q2, 1, none⟩ = some (.int .i64 t.v) ∧ Y.cell? ⟨q2, 2, none⟩ = some (.int .i64 t.l) ∧ Y.cell? ⟨q2, 3, none⟩ = some (.int .i64 t.p) ∧ Y.cell? ⟨q2, 4, none⟩ = some (.int .i64 t.f)) ∧ Y.rangeAt q 0 dd.toList) (by kernel_rfl) (by rw [hV3]; exact HSS.out V3 H3.out.2.2.1 H3.out.2.2.2.2.2.2) (fun hHeld => ?_)
    rw [hV3] at hHeld ⊢
    refine wpAnyH_take (i := 0) (oi := _) (v := ?vp0) rfl (by kernel_rfl) (by kernel_rfl) (by kernel_rfl) (fun _ _ _ h => h) (Or.inl ⟨by rfl, ?hyp0⟩) (by assumption) ?restp0
    case hyp0 => (intro V hSw; (try dsimp only at hSw); go_simp) <;> with_reducible rfl
    try simp only [Act.put, List.getElem_toArray, List.getElem_cons_succ, List.getElem_cons_zero, List.setIfInBounds_toArray, List.set_cons_zero, List.set_cons_succ]
    refine wpAnyH_take (i := 1) (oi := _) (v := .agg #[.int .i64 t.e, .int .i64 t.v, .int .i64 t.l, .int .i64 t.p, .int .i64 t.f]) rfl (by kernel_rfl) (by kernel_rfl) (by kernel_rfl) (fun _ _ _ h => h) (Or.inl ⟨by rfl, ?hyp1⟩) (by assumption) ?restp1
    case hyp1 => intro V hSw; (try dsimp only at hSw); obtain ⟨s0, s1, s2, s3, s4⟩ := hSw.1; go_simp
    try simp only [Act.put, List.getElem_toArray, List.getElem_cons_succ, List.getElem_cons_zero, List.setIfInBounds_toArray, List.set_cons_zero, List.set_cons_succ]
    refine wpAnyH_take (i := 2) (oi := _) (v := .agg dd) rfl (by kernel_rfl) (by kernel_rfl) (by kernel_rfl) (fun _ _ _ h => h) (yieldsIf_load_mid (by rfl) _ _ rfl q 0 rfl dd.toList _ (fun V hSw => hSw.2) Tryz.underlying23 rfl (by rw [Array.length_toList, HD.out.2.1]; exact info16)) (by assumption) ?restp2
    try simp only [Act.put, List.getElem_toArray, List.getElem_cons_succ, List.getElem_cons_zero, List.setIfInBounds_toArray, List.set_cons_zero, List.set_cons_succ]
    refine wpAnyH_ready (rs := [3]) (by kernel_rfl) (by simp) ?_
    refine (AllReadyH.cons (o := _) rfl (fun K9 hK => ?_) AllReadyH.nil)
    go_simp
    refine (forP_is V3 (HX.out.2.1.kept H3.out.1.dk.2.1 (fun _ h => h)) d HD.out.2.2.1 dd HD.out.2.2.2).mono ?_
    rintro e w4 ⟨rfl, g4⟩
    obtain ⟨M, hM⟩ : ∃ M, arrV .u8 (forP d) = M := ⟨_, rfl⟩
    rw [hM]
    have H4 := Lib.hid (And.intro (H3.out.1.grown g4) (And.intro (grown_trans H3.out.2.1 g4) (And.intro (H3.out.2.2.1.grown g4 (by simp)) (And.intro (H3.out.2.2.2.1.grown g4 (by simp)) (And.intro (Nat.lt_of_lt_of_le H3.out.2.2.2.2.1 g4.size) (And.intro hM (H3.out.2.2.2.2.2.2.grown g4 (by simp))))))))
    clear g4 hM
    (try go_wp2_with fail)
    refine hK.out _ _ (HSS.out _ H4.out.2.2.1 H4.out.2.2.2.2.2.2) (fun hHeld => ?_)
    clear hK K9
    try simp only [Act.put, List.getElem_toArray, List.getElem_cons_succ, List.getElem_cons_zero, List.setIfInBounds_toArray, List.set_cons_zero, List.set_cons_succ]
    refine wpAnyH_ready (rs := [4]) (by kernel_rfl) (by simp) ?_
    refine (AllReadyH.cons (o := _) rfl (fun K9 hK => ?_) AllReadyH.nil)
    go_simp
    refine (gsign_is H4.out.1 HX.out.2.1 E HX.out.2.2.2.2.2.2.2.1 HX.out.2.2.2.2.1 t HOK.out.1 HX.out.2.2.2.2.2.2.2.2.1 HX.out.2.2.2.2.2.2.2.2.2 i HOK.out.2.2 HOK.out.2.1 (forP d) (ofS_dig _ _) M H4.out.2.2.2.2.2.1.symm).mono ?_
    rintro e w5 hsp
    obtain ⟨sg, ev, rfl, hsz, hso⟩ := hsp.form
    have nF : ¬ P.F q2 ∧ ¬ P.F (q + 1) ∧ ¬ P.F q := by have := HX.out.2.2.1; have := H3.out.2.2.2.2.2.1; simp only [GdP.F]; omega
    have hb5 := H4.out.2.2.1.kept hsp.2.1 nF.1
    have hs5 := H4.out.2.2.2.1.kept hsp.2.1 nF.2.1
    have hd5 := H4.out.2.2.2.2.2.2.kept hsp.2.1 nF.2.2
    have hst := hsp.store (w := w) (x := (q + 1)) sg (by have := H3.out.2.2.2.2.2.1; have := H4.out.2.2.2.2.1; omega) (by rw [HW.out.1]; omega) H4.out.2.1 ⟨nF.2.1, by have := HX.out.2.2.2.1; omega, by have := HX.out.2.2.2.1; omega⟩ (by have := HX.out.1.low; have := HX.out.2.2.1; omega) (HFN.out.kept (Kept.of_grown (F := fun _ => False) H4.out.2.1 fun _ e => by cases e) (fun h => h))
    have H5 := Lib.hid (And.intro hst (And.intro hb5 (And.intro hs5 (And.intro hsz (And.intro hso hd5)))))
    clear hst hb5 hs5 hd5 hsz hso hsp nF
    (try go_wp2_with fail)
    refine hK.out _ _ (HSS.out _ H5.out.2.1 H5.out.2.2.2.2.2) (fun hHeld => ?_)
    clear hK K9
    try simp only [Act.put, List.getElem_toArray, List.getElem_cons_succ, List.getElem_cons_zero, List.setIfInBounds_toArray, List.set_cons_zero, List.set_cons_succ]
    refine wpAnyH_take (i := 5) (oi := _) (v := ?vp5) rfl (by kernel_rfl) (by kernel_rfl) (by kernel_rfl) (fun _ _ _ h => h) (Or.inl ⟨by rfl, ?hyp5⟩) (by assumption) ?restp5
    case hyp5 => (intro V hSw; (try dsimp only at hSw); go_simp) <;> with_reducible rfl
    try simp only [Act.put, List.getElem_toArray, List.getElem_cons_succ, List.getElem_cons_zero, List.setIfInBounds_toArray, List.set_cons_zero, List.set_cons_succ]
    refine wpAnyH_take (i := 6) (oi := _) (v := ?vp6) rfl (by kernel_rfl) (by kernel_rfl) (by kernel_rfl) (fun _ _ _ h => h) (Or.inl ⟨by rfl, ?hyp6⟩) (by assumption) ?restp6
    case hyp6 => (intro V hSw; (try dsimp only at hSw); go_simp) <;> with_reducible rfl
    try simp only [Act.put, List.getElem_toArray, List.getElem_cons_succ, List.getElem_cons_zero, List.setIfInBounds_toArray, List.set_cons_zero, List.set_cons_succ]
    refine wpAnyH_ready (rs := [7]) (by kernel_rfl) (by simp) ?_
    refine (AllReadyH.cons (o := _) rfl (fun K9 hK => ?_) AllReadyH.nil)
    refine ready_store_mid (by rfl) 73 _ _ rfl (q + 1) 0 sg rfl rfl (there_blk H5.out.2.2.1 (by rw [H5.out.2.2.2.1]; exact Nat.le_refl _)) (by rw [H5.out.2.2.2.1]; exact info3) H5.out.2.2.2.2.1 ?_
    rw [setCells_row (P := Tryz.prog) (ty := 73) H5.out.2.2.1 (by rw [H5.out.2.2.2.1]; exact info3) (by rw [H5.out.2.2.2.1]; rfl) H5.out.2.2.2.2.1]
    refine hK.out _ _ (HSS.out _ (H5.out.2.1.farRow (show q2 ≠ (q + 1) by have := H3.out.2.2.2.2.2.1; omega) _) (H5.out.2.2.2.2.2.farRow (show q ≠ (q + 1) by omega) _)) (fun hHeld => ?_)
    clear hK K9
    try simp only [Act.put, List.getElem_toArray, List.getElem_cons_succ, List.getElem_cons_zero, List.setIfInBounds_toArray, List.set_cons_zero, List.set_cons_succ]
    refine wpAnyH_take (i := 8) (oi := _) (v := ?vp8) rfl (by kernel_rfl) (by kernel_rfl) (by kernel_rfl) (fun _ _ _ h => h) (Or.inl ⟨by rfl, ?hyp8⟩) (by assumption) ?restp8
    case hyp8 => (intro V hSw; (try dsimp only at hSw); go_simp) <;> with_reducible rfl
    try simp only [Act.put, List.getElem_toArray, List.getElem_cons_succ, List.getElem_cons_zero, List.setIfInBounds_toArray, List.set_cons_zero, List.set_cons_succ]
    refine wpAnyH_done (by kernel_rfl) ?_ _
    go_wp2_with fail
    refine bodyPost_ret (results_cell_t rfl _ _ _ ⟨(q + 1), 0, none⟩ (.agg sg) rfl (run_loadVar_row _ (q + 1) 73 73 _ (0, 0) _ (H5.out.2.2.1.row _) Tryz.underlying73 rfl (by rw [H5.out.2.2.2.1]; exact info3))) rfl ?_
    refine .inr ⟨HT.out.2, i, HOK.out.2.1, HOK.out.2.2, ?_⟩
    rw [HT.out.1]
    exact H5.out.1
set_option maxRecDepth 100000 in
set_option maxHeartbeats 1000000 in
theorem glate_is (h : GdIs w0 w P base seed z cn rc st) (hR : Rounds w0) (E : Nat → Addr) (he : ErrEnv w0 w0.heap.size E) (hseed : isDig seed) (hcn : cn < 9223372036854775000) (hb : 0 ≤ base ∧ base < 1000000) (x : Stp) (hep : -9223372036854775808 ≤ x.ep ∧ x.ep < 9223372036854775808) (hxr : -9223372036854775808 ≤ x.r ∧ x.r < 9223372036854775808) (hxq : -9223372036854775808 ≤ x.q ∧ x.q < 9223372036854775808) :
    Calls Tryz.prog 25 #[.pointer (some ⟨P.g, 0, none⟩), .int .i64 x.ep, .int .i64 x.r, .int .i64 x.q] w fun e w' =>
      StepPost w0 w w' e P base seed z cn rc st (lateR st x) (lateK st x) (forL x.ep x.r x.q) E := by
  have hz30 := sigz_run
  have hzb := sigz_build
  obtain ⟨q, hq⟩ : ∃ q, w.heap.size = q := ⟨_, rfl⟩
  obtain ⟨W1, hW1⟩ : ∃ W1, w.alloc (.cells sigZ 73) = W1 := ⟨_, rfl⟩
  have b1 : Blk W1 q 73 sigZ := by rw [← hW1, ← hq]; exact Blk.new _ _ _
  have gW1 : w.grownBy W1 none := by rw [← hW1]; exact World.grownBy_alloc _ _ none
  have h1 := h.grown gW1
  have hlt := h.lt
  have hl2 := h.lt2
  rw [hq] at hlt hl2
  have hcal := late_is W1 w0.heap.size E (he.below h1.dk.below (Nat.le_refl _)) st x
  have HFN := Lib.hid (h.sl.farNew (g := q) (by omega))
  have x2 := h1.gd.cell 2
  have x3 := h1.gd.cell 3
  have x4 := h1.gd.cell 4
  have x5 := h1.gd.cell 5
  have x6 := h1.gd.cell 6
  simp only [List.getElem?_toArray, List.getElem?_cons_zero, List.getElem?_cons_succ] at x2 x3 x4 x5 x6
  have HX := Lib.hid (And.intro h1 (And.intro hR (And.intro hlt (And.intro hl2 (And.intro hseed (And.intro gW1 (And.intro b1 (And.intro he (And.intro hcn hb)))))))))
  have HN := Lib.hid (And.intro hep hxr)
  have HXQ := Lib.hid hxq
  clear hxq
  have HW := Lib.hid (And.intro hq hW1)
  have HC := Lib.hid hcal
  clear h hR he hseed hcn hb hep hxr hlt hl2 gW1 b1 hq hW1 h1 hcal
  go_enter Tryz.func25, Tryz.ntmps25
  go_upto_region 1 with (fail)
  rw [HW.out.2, HW.out.1]
  clear hz30
  go_wp2_with fail
  refine HC.out.mono ?_
  rintro e w2 ⟨rfl, g2⟩
  have hokS := @late_okS st x
  obtain ⟨t, htt⟩ : ∃ t, lateR st x = t := ⟨_, rfl⟩
  obtain ⟨k, hk⟩ : ∃ k, lateE st.e st.v st.l st.p st.f x.ep x.r = k := ⟨_, rfl⟩
  rw [htt, hk] at hokS
  rw [htt, hk]
  have HT := Lib.hid (And.intro htt hk)
  have h2 := HX.out.1.grown g2
  have gw2 := grown_trans HX.out.2.2.2.2.2.1 g2
  have H2 := Lib.hid (And.intro h2 (And.intro gw2 (And.intro (HX.out.2.2.2.2.2.2.1.grown g2 (by simp)) trivial)))
  clear htt hk x2 x3 x4 x5 x6 h2 gw2 g2
  cases k with
  | succ k =>
    simp only [evOf]
    clear hokS
    have hb9 := H2.out.2.2.1.alloc (.cells (stC t.e t.v t.l t.p t.f) 46)
    have g9 := grown_trans H2.out.2.1 (World.grownBy_alloc w2 (.cells (stC t.e t.v t.l t.p t.f) 46) none)
    obtain ⟨w9, hw9⟩ : ∃ w9, w2.alloc (.cells (stC t.e t.v t.l t.p t.f) 46) = w9 := ⟨_, rfl⟩
    rw [hw9] at hb9 g9
    have H9 := Lib.hid (And.intro hb9 g9)
    have HW9 := Lib.hid hw9
    clear hb9 g9 hw9
    go_upto_region 2 with (fail)
    rw [HW9.out]
    go_wp2_with (first
      | (refine wpList_store_row rfl 73 _ _ rfl q sigZ rfl rfl 73 _ H9.out.1 info3 rfl sigZ_one ?_))
    refine bodyPost_ret (results_cell_t rfl _ _ _ ⟨q, 0, none⟩ (.agg sigZ) rfl (run_loadVar_row _ q 73 73 _ (0, 0) _ (H9.out.1.row _) Tryz.underlying73 rfl info3)) rfl ?_
    have gf := grown_row H9.out.2 (g := q) (.inl (by rw [HW.out.1]; omega)) sigZ
    refine .inl ⟨by rw [lateK_pos HT.out.2 (by omega)]; omega, by rw [lateK_pos HT.out.2 (by omega)]; rfl, ?_, gf⟩
    exact (H2.out.1.grown (by rw [← HW9.out]; exact World.grownBy_alloc _ _ none)).beside (row_kept _) ⟨by have := HX.out.2.2.1; simp only [GdP.F]; omega, by have := HX.out.2.2.2.1; omega, by have := HX.out.2.2.2.1; omega⟩ (by have := HX.out.1.low; have := HX.out.2.2.1; omega) (HFN.out.kept (Kept.of_grown (F := fun _ => False) H9.out.2 fun _ e => by cases e) (fun h => h))
  | zero =>
    simp only [evOf]
    obtain ⟨hok, i, hi, hi32⟩ := hokS rfl
    have HOK := Lib.hid (And.intro hok (And.intro hi hi32))
    clear hokS hok hi hi32
    go_upto_region 4 with (fail)
    by_cases hbad : x.q < 0 ∨ x.r ≤ x.q
    · have hd : (decide (x.q < 0) = true) ∨ (decide (x.q < 0) = false ∧ decide (x.r ≤ x.q) = true) := by simp; omega
      have gs := grown_drew (World.grownBy_alloc w2 (.cells (stC t.e t.v t.l t.p t.f) 46) none)
      obtain ⟨w3, hw3⟩ : ∃ w3, w2.alloc (.cells (stC t.e t.v t.l t.p t.f) 46) = w3 := ⟨_, rfl⟩
      rw [hw3] at gs
      obtain ⟨V3, hV3⟩ : ∃ V3, w3.drew = V3 := ⟨_, rfl⟩
      rw [hV3] at gs
      have H9 := Lib.hid (And.intro (H2.out.2.2.1.grown gs (by simp)) (And.intro (grown_trans H2.out.2.1 gs) (H2.out.1.grown gs)))
      have HSE := Lib.hid (show ErrAt V3 q 13 (E 13) from ⟨((HX.out.2.2.2.2.2.2.2.1.var 13 (by omega)).below H9.out.2.2.dk.below (Nat.le_refl _)).1, by have h13 : 13 < w0.heap.size := (HX.out.2.2.2.2.2.2.2.1.var 13 (by omega)).2; have := H9.out.2.2.low; have := HX.out.2.2.1; omega⟩)
      have HBAD := Lib.hid hbad
      have HW3 := Lib.hid (And.intro hw3 hV3)
      clear gs hbad hw3 hV3
      have hzb2 := hzb
      rcases hd with hd | ⟨hd, hd2⟩
      · go_wp2_with fail
        rw [HW3.out.1]
        refine wp_region_held_drew (S := fun Y => Y.cell? ⟨13, 0, none⟩ = some (errV (E 13))) (by kernel_rfl) (by rw [HW3.out.2]; exact HSE.out.1) (fun hHeld => ?_)
        rw [HW3.out.2] at hHeld ⊢
        refine wpAnyH_take (i := 0) (oi := _) (v := .agg sigZ) rfl (by kernel_rfl) (by kernel_rfl) (by kernel_rfl) (fun _ _ _ h => h) (Or.inl ⟨by rfl, ?hye0⟩) (by assumption) ?reste0
        case hye0 => intro V hSw; have hzb := sigz_build V; go_simp; rfl
        try simp only [Act.put, List.getElem_toArray, List.getElem_cons_succ, List.getElem_cons_zero, List.setIfInBounds_toArray, List.set_cons_zero, List.set_cons_succ]
        refine wpAnyH_take (i := 1) (oi := _) (v := ?ve1) rfl (by kernel_rfl) (by kernel_rfl) (by kernel_rfl) (fun _ _ _ h => h) (Or.inl ⟨by rfl, ?hye1⟩) (by assumption) ?reste1
        case hye1 => (intro V hSw; (try dsimp only at hSw); go_simp) <;> with_reducible rfl
        try simp only [Act.put, List.getElem_toArray, List.getElem_cons_succ, List.getElem_cons_zero, List.setIfInBounds_toArray, List.set_cons_zero, List.set_cons_succ]
        refine wpAnyH_ready (rs := [2]) (by kernel_rfl) (by simp) ?_
        refine (AllReadyH.cons (o := _) rfl (fun K9 hK => ?_) AllReadyH.nil)
        refine ready_store_mid (by rfl) 73 _ _ rfl q 0 sigZ rfl rfl (there_blk H9.out.1 (Nat.le_refl _)) info3 sigZ_one ?_
        rw [setCells_row (P := Tryz.prog) (ty := 73) (cells := sigZ) H9.out.1 info3 rfl sigZ_one]
        refine hK.out _ _ ?_ (fun hHeld => ?_)
        · exact (HSE.out.below (Kept.below (F := fun j => j = q) (row_kept sigZ) (B := q) (by have := H9.out.1.lt; omega) (fun j e => by have e : j = q := e; omega)) (Nat.le_refl _)).1
        clear hK K9
        try simp only [Act.put, List.getElem_toArray, List.getElem_cons_succ, List.getElem_cons_zero, List.setIfInBounds_toArray, List.set_cons_zero, List.set_cons_succ]
        refine wpAnyH_take (i := 3) (oi := _) (v := ?ve3) rfl (by kernel_rfl) (by kernel_rfl) (by kernel_rfl) (fun _ _ _ h => h) (Or.inl ⟨by rfl, ?hye3⟩) (by assumption) ?reste3
        case hye3 => (intro V hSw; (try dsimp only at hSw); go_simp) <;> with_reducible rfl
        try simp only [Act.put, List.getElem_toArray, List.getElem_cons_succ, List.getElem_cons_zero, List.setIfInBounds_toArray, List.set_cons_zero, List.set_cons_succ]
        refine wpAnyH_done (by kernel_rfl) ?_ _
        go_wp2_with fail
        refine bodyPost_ret (results_cell_t rfl _ _ _ ⟨q, 0, none⟩ (.agg sigZ) rfl (run_loadVar_row _ q 73 73 _ (0, 0) _ (H9.out.1.row _) Tryz.underlying73 rfl info3)) rfl ?_
        have gf := grown_row H9.out.2.1 (g := q) (.inl (by rw [HW.out.1]; exact Nat.le_refl _)) sigZ
        refine .inl ⟨by rw [lateK_bad HT.out.2 HBAD.out]; omega, by rw [lateK_bad HT.out.2 HBAD.out]; rfl, ?_, gf⟩
        exact H9.out.2.2.beside (row_kept _) ⟨by have := HX.out.2.2.1; simp only [GdP.F]; omega, by have := HX.out.2.2.2.1; omega, by have := HX.out.2.2.2.1; omega⟩ (by have := HX.out.1.low; have := HX.out.2.2.1; omega) (HFN.out.kept (Kept.of_grown (F := fun _ => False) H9.out.2.1 fun _ e => by cases e) (fun h => h))
      · go_wp2_with fail
        rw [HW3.out.1]
        refine wp_region_held_drew (S := fun Y => Y.cell? ⟨13, 0, none⟩ = some (errV (E 13))) (by kernel_rfl) (by rw [HW3.out.2]; exact HSE.out.1) (fun hHeld => ?_)
        rw [HW3.out.2] at hHeld ⊢
        refine wpAnyH_take (i := 0) (oi := _) (v := .agg sigZ) rfl (by kernel_rfl) (by kernel_rfl) (by kernel_rfl) (fun _ _ _ h => h) (Or.inl ⟨by rfl, ?hyf0⟩) (by assumption) ?restf0
        case hyf0 => intro V hSw; have hzb := sigz_build V; go_simp; rfl
        try simp only [Act.put, List.getElem_toArray, List.getElem_cons_succ, List.getElem_cons_zero, List.setIfInBounds_toArray, List.set_cons_zero, List.set_cons_succ]
        refine wpAnyH_take (i := 1) (oi := _) (v := ?vf1) rfl (by kernel_rfl) (by kernel_rfl) (by kernel_rfl) (fun _ _ _ h => h) (Or.inl ⟨by rfl, ?hyf1⟩) (by assumption) ?restf1
        case hyf1 => (intro V hSw; (try dsimp only at hSw); go_simp) <;> with_reducible rfl
        try simp only [Act.put, List.getElem_toArray, List.getElem_cons_succ, List.getElem_cons_zero, List.setIfInBounds_toArray, List.set_cons_zero, List.set_cons_succ]
        refine wpAnyH_ready (rs := [2]) (by kernel_rfl) (by simp) ?_
        refine (AllReadyH.cons (o := _) rfl (fun K9 hK => ?_) AllReadyH.nil)
        refine ready_store_mid (by rfl) 73 _ _ rfl q 0 sigZ rfl rfl (there_blk H9.out.1 (Nat.le_refl _)) info3 sigZ_one ?_
        rw [setCells_row (P := Tryz.prog) (ty := 73) (cells := sigZ) H9.out.1 info3 rfl sigZ_one]
        refine hK.out _ _ ?_ (fun hHeld => ?_)
        · exact (HSE.out.below (Kept.below (F := fun j => j = q) (row_kept sigZ) (B := q) (by have := H9.out.1.lt; omega) (fun j e => by have e : j = q := e; omega)) (Nat.le_refl _)).1
        clear hK K9
        try simp only [Act.put, List.getElem_toArray, List.getElem_cons_succ, List.getElem_cons_zero, List.setIfInBounds_toArray, List.set_cons_zero, List.set_cons_succ]
        refine wpAnyH_take (i := 3) (oi := _) (v := ?vf3) rfl (by kernel_rfl) (by kernel_rfl) (by kernel_rfl) (fun _ _ _ h => h) (Or.inl ⟨by rfl, ?hyf3⟩) (by assumption) ?restf3
        case hyf3 => (intro V hSw; (try dsimp only at hSw); go_simp) <;> with_reducible rfl
        try simp only [Act.put, List.getElem_toArray, List.getElem_cons_succ, List.getElem_cons_zero, List.setIfInBounds_toArray, List.set_cons_zero, List.set_cons_succ]
        refine wpAnyH_done (by kernel_rfl) ?_ _
        go_wp2_with fail
        refine bodyPost_ret (results_cell_t rfl _ _ _ ⟨q, 0, none⟩ (.agg sigZ) rfl (run_loadVar_row _ q 73 73 _ (0, 0) _ (H9.out.1.row _) Tryz.underlying73 rfl info3)) rfl ?_
        have gf := grown_row H9.out.2.1 (g := q) (.inl (by rw [HW.out.1]; exact Nat.le_refl _)) sigZ
        refine .inl ⟨by rw [lateK_bad HT.out.2 HBAD.out]; omega, by rw [lateK_bad HT.out.2 HBAD.out]; rfl, ?_, gf⟩
        exact H9.out.2.2.beside (row_kept _) ⟨by have := HX.out.2.2.1; simp only [GdP.F]; omega, by have := HX.out.2.2.2.1; omega, by have := HX.out.2.2.2.1; omega⟩ (by have := HX.out.1.low; have := HX.out.2.2.1; omega) (HFN.out.kept (Kept.of_grown (F := fun _ => False) H9.out.2.1 fun _ e => by cases e) (fun h => h))
    have hd1 : decide (x.q < 0) = false := by simp; omega
    have hd2 : decide (x.r ≤ x.q) = false := by simp; omega
    have HQ := Lib.hid hbad
    clear hbad
    have bs := Blk.new w2 46 (stC t.e t.v t.l t.p t.f)
    have gs := World.grownBy_alloc w2 (.cells (stC t.e t.v t.l t.p t.f) 46) none
    obtain ⟨q2, hq2⟩ : ∃ q2, w2.heap.size = q2 := ⟨_, rfl⟩
    obtain ⟨w3, hw3⟩ : ∃ w3, w2.alloc (.cells (stC t.e t.v t.l t.p t.f) 46) = w3 := ⟨_, rfl⟩
    rw [hq2, hw3] at bs
    rw [hw3] at gs
    rw [hw3, hq2]
    obtain ⟨V3, hV3⟩ : ∃ V3, w3.drew = V3 := ⟨_, rfl⟩
    have g3 := grown_drew (grown_trans H2.out.2.1 gs)
    have g23 := grown_drew gs
    have bd := bs.drew
    rw [hV3] at g3 g23 bd
    have H3 := Lib.hid (And.intro (H2.out.1.grown g23) (And.intro g3 (And.intro bd (And.intro (H2.out.2.2.1.grown g23 (by simp)) (And.intro (show q2 < V3.heap.size from bd.lt) (And.intro (show q < q2 by have := H2.out.2.2.1.lt; omega) trivial))))))
    clear bs gs hq2 hw3 g3 g23 bd
    go_wp2_with fail
    have HSS := Lib.hid (show ∀ Y : World, Blk Y q2 46 (stC t.e t.v t.l t.p t.f) → (Y.cell? ⟨q2, 0, none⟩ = some (.int .i64 t.e) ∧ Y.cell? ⟨q2, 1, none⟩ = some (.int .i64 t.v) ∧ Y.cell? ⟨q2, 2, none⟩ = some (.int .i64 t.l) ∧ Y.cell? ⟨q2, 3, none⟩ = some (.int .i64 t.p) ∧ Y.cell? ⟨q2, 4, none⟩ = some (.int .i64 t.f)) from fun Y h1 => ⟨h1.cell 0, h1.cell 1, h1.cell 2, h1.cell 3, h1.cell 4⟩)
    refine wp_region_held_drew (S := fun Y => (Y.cell? ⟨q2, 0, none⟩ = some (.int .i64 t.e) ∧ Y.cell? ⟨q2, 1, none⟩ = some (.int .i64 t.v) ∧ Y.cell? ⟨q2, 2, none⟩ = some (.int .i64 t.l) ∧ Y.cell? ⟨q2, 3, none⟩ = some (.int .i64 t.p) ∧ Y.cell? ⟨q2, 4, none⟩ = some (.int .i64 t.f))) (by kernel_rfl) (by rw [hV3]; exact HSS.out V3 H3.out.2.2.1) (fun hHeld => ?_)
    rw [hV3] at hHeld ⊢
    refine wpAnyH_take (i := 0) (oi := _) (v := ?vl0) rfl (by kernel_rfl) (by kernel_rfl) (by kernel_rfl) (fun _ _ _ h => h) (Or.inl ⟨by rfl, ?hyl0⟩) (by assumption) ?restl0
    case hyl0 => (intro V hSw; (try dsimp only at hSw); go_simp) <;> with_reducible rfl
    try simp only [Act.put, List.getElem_toArray, List.getElem_cons_succ, List.getElem_cons_zero, List.setIfInBounds_toArray, List.set_cons_zero, List.set_cons_succ]
    refine wpAnyH_take (i := 1) (oi := _) (v := .agg #[.int .i64 t.e, .int .i64 t.v, .int .i64 t.l, .int .i64 t.p, .int .i64 t.f]) rfl (by kernel_rfl) (by kernel_rfl) (by kernel_rfl) (fun _ _ _ h => h) (Or.inl ⟨by rfl, ?hyl1⟩) (by assumption) ?restl1
    case hyl1 => intro V hSw; (try dsimp only at hSw); obtain ⟨s0, s1, s2, s3, s4⟩ := hSw; go_simp
    try simp only [Act.put, List.getElem_toArray, List.getElem_cons_succ, List.getElem_cons_zero, List.setIfInBounds_toArray, List.set_cons_zero, List.set_cons_succ]
    refine wpAnyH_take (i := 2) (oi := _) (v := ?vl2) rfl (by kernel_rfl) (by kernel_rfl) (by kernel_rfl) (fun _ _ _ h => h) (Or.inl ⟨by rfl, ?hyl2⟩) (by assumption) ?restl2
    case hyl2 => (intro V hSw; (try dsimp only at hSw); go_simp) <;> with_reducible rfl
    try simp only [Act.put, List.getElem_toArray, List.getElem_cons_succ, List.getElem_cons_zero, List.setIfInBounds_toArray, List.set_cons_zero, List.set_cons_succ]
    refine wpAnyH_take (i := 3) (oi := _) (v := ?vl3) rfl (by kernel_rfl) (by kernel_rfl) (by kernel_rfl) (fun _ _ _ h => h) (Or.inl ⟨by rfl, ?hyl3⟩) (by assumption) ?restl3
    case hyl3 => (intro V hSw; (try dsimp only at hSw); go_simp) <;> with_reducible rfl
    try simp only [Act.put, List.getElem_toArray, List.getElem_cons_succ, List.getElem_cons_zero, List.setIfInBounds_toArray, List.set_cons_zero, List.set_cons_succ]
    refine wpAnyH_take (i := 4) (oi := _) (v := ?vl4) rfl (by kernel_rfl) (by kernel_rfl) (by kernel_rfl) (fun _ _ _ h => h) (Or.inl ⟨by rfl, ?hyl4⟩) (by assumption) ?restl4
    case hyl4 => (intro V hSw; (try dsimp only at hSw); go_simp) <;> with_reducible rfl
    try simp only [Act.put, List.getElem_toArray, List.getElem_cons_succ, List.getElem_cons_zero, List.setIfInBounds_toArray, List.set_cons_zero, List.set_cons_succ]
    refine wpAnyH_ready (rs := [5]) (by kernel_rfl) (by simp) ?_
    refine (AllReadyH.cons (o := _) rfl (fun K9 hK => ?_) AllReadyH.nil)
    go_simp
    refine (forL_is V3 (HX.out.2.1.kept H3.out.1.dk.2.1 (fun _ h => h)) x.ep x.r x.q HN.out.1 HN.out.2 HXQ.out).mono ?_
    rintro e w4 ⟨rfl, g4⟩
    obtain ⟨M, hM⟩ : ∃ M, arrV .u8 (forL x.ep x.r x.q) = M := ⟨_, rfl⟩
    rw [hM]
    have H4 := Lib.hid (And.intro (H3.out.1.grown g4) (And.intro (grown_trans H3.out.2.1 g4) (And.intro (H3.out.2.2.1.grown g4 (by simp)) (And.intro (H3.out.2.2.2.1.grown g4 (by simp)) (And.intro (Nat.lt_of_lt_of_le H3.out.2.2.2.2.1 g4.size) (And.intro hM trivial))))))
    clear g4 hM
    (try go_wp2_with fail)
    refine hK.out _ _ (HSS.out _ H4.out.2.2.1) (fun hHeld => ?_)
    clear hK K9
    try simp only [Act.put, List.getElem_toArray, List.getElem_cons_succ, List.getElem_cons_zero, List.setIfInBounds_toArray, List.set_cons_zero, List.set_cons_succ]
    refine wpAnyH_ready (rs := [6]) (by kernel_rfl) (by simp) ?_
    refine (AllReadyH.cons (o := _) rfl (fun K9 hK => ?_) AllReadyH.nil)
    go_simp
    refine (gsign_is H4.out.1 HX.out.2.1 E HX.out.2.2.2.2.2.2.2.1 HX.out.2.2.2.2.1 t HOK.out.1 HX.out.2.2.2.2.2.2.2.2.1 HX.out.2.2.2.2.2.2.2.2.2 i HOK.out.2.2 HOK.out.2.1 (forL x.ep x.r x.q) (ofS_dig _ _) M H4.out.2.2.2.2.2.1.symm).mono ?_
    rintro e w5 hsp
    obtain ⟨sg, ev, rfl, hsz, hso⟩ := hsp.form
    have nF : ¬ P.F q2 ∧ ¬ P.F q ∧ ¬ P.F q := by have := HX.out.2.2.1; have := H3.out.2.2.2.2.2.1; simp only [GdP.F]; omega
    have hb5 := H4.out.2.2.1.kept hsp.2.1 nF.1
    have hs5 := H4.out.2.2.2.1.kept hsp.2.1 nF.2.1
    have hd5 := True.intro
    have hst := hsp.store (w := w) (x := q) sg (by have := H3.out.2.2.2.2.2.1; have := H4.out.2.2.2.2.1; omega) (by rw [HW.out.1]; omega) H4.out.2.1 ⟨nF.2.1, by have := HX.out.2.2.2.1; omega, by have := HX.out.2.2.2.1; omega⟩ (by have := HX.out.1.low; have := HX.out.2.2.1; omega) (HFN.out.kept (Kept.of_grown (F := fun _ => False) H4.out.2.1 fun _ e => by cases e) (fun h => h))
    have H5 := Lib.hid (And.intro hst (And.intro hb5 (And.intro hs5 (And.intro hsz (And.intro hso hd5)))))
    clear hst hb5 hs5 hd5 hsz hso hsp nF
    (try go_wp2_with fail)
    refine hK.out _ _ (HSS.out _ H5.out.2.1) (fun hHeld => ?_)
    clear hK K9
    try simp only [Act.put, List.getElem_toArray, List.getElem_cons_succ, List.getElem_cons_zero, List.setIfInBounds_toArray, List.set_cons_zero, List.set_cons_succ]
    refine wpAnyH_take (i := 7) (oi := _) (v := ?vl7) rfl (by kernel_rfl) (by kernel_rfl) (by kernel_rfl) (fun _ _ _ h => h) (Or.inl ⟨by rfl, ?hyl7⟩) (by assumption) ?restl7
    case hyl7 => (intro V hSw; (try dsimp only at hSw); go_simp) <;> with_reducible rfl
    try simp only [Act.put, List.getElem_toArray, List.getElem_cons_succ, List.getElem_cons_zero, List.setIfInBounds_toArray, List.set_cons_zero, List.set_cons_succ]
    refine wpAnyH_take (i := 8) (oi := _) (v := ?vl8) rfl (by kernel_rfl) (by kernel_rfl) (by kernel_rfl) (fun _ _ _ h => h) (Or.inl ⟨by rfl, ?hyl8⟩) (by assumption) ?restl8
    case hyl8 => (intro V hSw; (try dsimp only at hSw); go_simp) <;> with_reducible rfl
    try simp only [Act.put, List.getElem_toArray, List.getElem_cons_succ, List.getElem_cons_zero, List.setIfInBounds_toArray, List.set_cons_zero, List.set_cons_succ]
    refine wpAnyH_ready (rs := [9]) (by kernel_rfl) (by simp) ?_
    refine (AllReadyH.cons (o := _) rfl (fun K9 hK => ?_) AllReadyH.nil)
    refine ready_store_mid (by rfl) 73 _ _ rfl q 0 sg rfl rfl (there_blk H5.out.2.2.1 (by rw [H5.out.2.2.2.1]; exact Nat.le_refl _)) (by rw [H5.out.2.2.2.1]; exact info3) H5.out.2.2.2.2.1 ?_
    rw [setCells_row (P := Tryz.prog) (ty := 73) H5.out.2.2.1 (by rw [H5.out.2.2.2.1]; exact info3) (by rw [H5.out.2.2.2.1]; rfl) H5.out.2.2.2.2.1]
    refine hK.out _ _ (HSS.out _ (H5.out.2.1.farRow (show q2 ≠ q by have := H3.out.2.2.2.2.2.1; omega) _)) (fun hHeld => ?_)
    clear hK K9
    try simp only [Act.put, List.getElem_toArray, List.getElem_cons_succ, List.getElem_cons_zero, List.setIfInBounds_toArray, List.set_cons_zero, List.set_cons_succ]
    refine wpAnyH_take (i := 10) (oi := _) (v := ?vl10) rfl (by kernel_rfl) (by kernel_rfl) (by kernel_rfl) (fun _ _ _ h => h) (Or.inl ⟨by rfl, ?hyl10⟩) (by assumption) ?restl10
    case hyl10 => (intro V hSw; (try dsimp only at hSw); go_simp) <;> with_reducible rfl
    try simp only [Act.put, List.getElem_toArray, List.getElem_cons_succ, List.getElem_cons_zero, List.setIfInBounds_toArray, List.set_cons_zero, List.set_cons_succ]
    refine wpAnyH_done (by kernel_rfl) ?_ _
    go_wp2_with fail
    refine bodyPost_ret (results_cell_t rfl _ _ _ ⟨q, 0, none⟩ (.agg sg) rfl (run_loadVar_row _ q 73 73 _ (0, 0) _ (H5.out.2.2.1.row _) Tryz.underlying73 rfl (by rw [H5.out.2.2.2.1]; exact info3))) rfl ?_
    refine .inr ⟨lateK_zero HT.out.2 HQ.out, i, HOK.out.2.1, HOK.out.2.2, ?_⟩
    rw [HT.out.1]
    exact H5.out.1
end
theorem enter_okS {s : St} {x : Stp} (h : enterE s.e s.v s.l s.p s.f x.ep = 0) : (enterR s x).ok := by
  obtain ⟨hr, h1, h2⟩ := enter_facts h
  have hr := right_yes _ _ _ _ _ hr
  unfold St.ok
  rw [enterR, if_pos h]
  exact right_mk (by simp only; omega)
/-- What entering an epoch answers. -/
def EnterPost (w0 w w' : World) (e : Ending) (P : GdP) (base : Int) (seed : List Int) (z : DkS) (cn : Nat) (rc : List UInt8) (st t : St) (k : Nat) (E : Nat → Addr) : Prop :=
  (k ≠ 0 ∧ e = .returned (evOf E k) ∧ GdIs w0 w' P base seed z cn rc st ∧ w.grownBy w' none) ∨
  (k = 0 ∧ ((putE z base cn (stBs t) ≠ 0 ∧ e = .returned (eV (E 0) (E 5) (putE z base cn (stBs t))) ∧ GdIs w0 w' P base seed (putZ z base cn (stBs t)) cn rc st) ∨
    (putE z base cn (stBs t) = 0 ∧ e = .returned .nilIface ∧ GdIs w0 w' P base seed (putZ z base cn (stBs t)) (cn + 1) (stBs t) t)) ∧ Kept P.F w w' ∧ ∀ j, j < w.heap.size → SlFar w P.s j → SlFar w' P.s j)
section
variable {w0 w w' : World} {P : GdP} {base : Int} {seed : List Int} {z : DkS} {cn : Nat} {rc : List UInt8} {st : St}
set_option maxRecDepth 100000 in
set_option maxHeartbeats 1000000 in
theorem genter_is (h : GdIs w0 w P base seed z cn rc st) (hR : Rounds w0) (E : Nat → Addr) (he : ErrEnv w0 w0.heap.size E) (hcn : cn < 9223372036854775000) (hb : 0 ≤ base ∧ base < 1000000) (x : Stp) :
    Calls Tryz.prog 26 #[.pointer (some ⟨P.g, 0, none⟩), .int .i64 x.ep] w fun e w' =>
      EnterPost w0 w w' e P base seed z cn rc st (enterR st x) (enterE st.e st.v st.l st.p st.f x.ep) E := by
  have hcal := enter_is' w w0.heap.size E (he.below h.dk.below (Nat.le_refl _)) st x
  have x2 := h.gd.cell 2
  have x3 := h.gd.cell 3
  have x4 := h.gd.cell 4
  have x5 := h.gd.cell 5
  have x6 := h.gd.cell 6
  simp only [List.getElem?_toArray, List.getElem?_cons_zero, List.getElem?_cons_succ] at x2 x3 x4 x5 x6
  have HX := Lib.hid (And.intro h (And.intro hR (And.intro he (And.intro hcn hb))))
  have HC := Lib.hid hcal
  clear h hR he hcn hb hcal
  go_enter Tryz.func26, Tryz.ntmps26
  go_wp2_with fail
  refine HC.out.mono ?_
  rintro e w2 ⟨rfl, g2⟩
  have hokS := @enter_okS st x
  obtain ⟨t, htt⟩ : ∃ t, enterR st x = t := ⟨_, rfl⟩
  obtain ⟨k, hk⟩ : ∃ k, enterE st.e st.v st.l st.p st.f x.ep = k := ⟨_, rfl⟩
  rw [htt, hk] at hokS
  rw [htt, hk]
  have HT := Lib.hid (And.intro htt hk)
  have bs := Blk.new w2 46 (stC t.e t.v t.l t.p t.f)
  have gs := World.grownBy_alloc w2 (.cells (stC t.e t.v t.l t.p t.f) 46) none
  obtain ⟨q2, hq2⟩ : ∃ q2, w2.heap.size = q2 := ⟨_, rfl⟩
  obtain ⟨w3, hw3⟩ : ∃ w3, w2.alloc (.cells (stC t.e t.v t.l t.p t.f) 46) = w3 := ⟨_, rfl⟩
  rw [hq2, hw3] at bs
  rw [hw3] at gs
  have g3 := grown_trans g2 gs
  have H3 := Lib.hid (And.intro (HX.out.1.grown g3) (And.intro g3 bs))
  have HW := Lib.hid (And.intro hw3 hq2)
  have y0 := bs.cell 0
  have y1 := bs.cell 1
  have y2 := bs.cell 2
  have y3 := bs.cell 3
  have y4 := bs.cell 4
  simp only [List.getElem?_toArray, List.getElem?_cons_zero, List.getElem?_cons_succ] at y0 y1 y2 y3 y4
  clear htt hk x2 x3 x4 x5 x6 g2 bs gs g3 hw3 hq2
  cases k with
  | succ k =>
    simp only [evOf]
    clear hokS
    go_upto_region 2 with (fail)
    rw [HW.out.1]
    go_wp2_with fail
    go_ret
    exact .inl ⟨by rw [HT.out.2]; omega, by rw [HT.out.2]; rfl, H3.out.1, H3.out.2.1⟩
  | zero =>
    simp only [evOf]
    have HK := Lib.hid (gkeep_is H3.out.1 HX.out.2.1 E HX.out.2.2.1 t (hokS rfl) HX.out.2.2.2.1 HX.out.2.2.2.2)
    clear hokS
    go_upto_region 2 with (fail)
    rw [HW.out.1, HW.out.2]
    go_wp2_with fail
    refine HK.out.mono ?_
    rintro e w4 ⟨hor, hk4, hf4⟩
    have HE := Lib.hid (show Kept P.F w w4 ∧ ∀ j, j < w.heap.size → SlFar w P.s j → SlFar w4 P.s j from ⟨(Kept.of_grown (F := P.F) H3.out.2.1 fun _ e => by cases e).next hk4 (fun _ _ h => h), fun j hj hj' => hf4 j (Nat.lt_of_lt_of_le hj H3.out.2.1.size) (hj'.kept (Kept.of_grown (F := fun _ => False) H3.out.2.1 fun _ e => by cases e) (fun h => h))⟩)
    clear hk4 hf4 y0 y1 y2 y3 y4
    rcases hor with ⟨hne, rfl, hg⟩ | ⟨h0, rfl, hg⟩
    · have HF := Lib.hid (And.intro hne hg)
      obtain ⟨a, ha⟩ := eV_ne (er := E 0) (ep := E 5) hne
      have HA := Lib.hid ha
      rw [ha]
      clear ha hne hg
      go_wp2_with fail
      go_ret
      exact .inr ⟨HT.out.2, .inl ⟨by rw [HT.out.1]; exact HF.out.1, by rw [HT.out.1, HA.out]; rfl, by rw [HT.out.1]; exact HF.out.2⟩, HE.out⟩
    · have HF := Lib.hid (And.intro h0 hg)
      clear h0 hg
      go_wp2_with fail
      go_ret
      exact .inr ⟨HT.out.2, .inr ⟨by rw [HT.out.1]; exact HF.out.1, rfl, by rw [HT.out.1]; exact HF.out.2⟩, HE.out⟩
set_option maxRecDepth 100000 in
theorem gstate_is (h : GdIs w0 w P base seed z cn rc st) :
    Calls Tryz.prog 14 #[.pointer (some ⟨P.g, 0, none⟩)] w fun e w' => e = .returned st.val ∧ w.grownBy w' none := by
  have x2 := h.gd.cell 2
  have x3 := h.gd.cell 3
  have x4 := h.gd.cell 4
  have x5 := h.gd.cell 5
  have x6 := h.gd.cell 6
  simp only [List.getElem?_toArray, List.getElem?_cons_zero, List.getElem?_cons_succ] at x2 x3 x4 x5 x6
  have hg := h.lt.2.2.2.2
  clear h
  go_enter Tryz.func14, Tryz.ntmps14
  go_wp2_with fail
  refine bodyPost_ret (results_cell rfl _ _ _ ⟨w.heap.size, 0, none⟩ st.val rfl (load5 (Blk.new w 46 _))) rfl ?_
  exact ⟨rfl, World.grownBy_alloc _ _ none⟩
end
end Go.Proofs.YthkjlgjbjjjohaaGreatDoor
/-
  Guard: Format on a disk whose power lasts.
-/

namespace Go.Proofs.YthkjlgjbjjjohaaGreatDoor
open Go.RowKit Go.Maps

def Lasts (z : DkS) (n : Nat) : Prop := z.off = false ∧ z.lasts = -1 ∧ z.syn.length = n
theorem lasts_w {z : DkS} {n : Nat} (h : Lasts z n) {p : Int} (hp : 0 ≤ p ∧ p < (n : Int)) (r : List Int) : wE z p = 0 ∧ Lasts (wS z p r) n := by
  obtain ⟨h1, h2, h3⟩ := h
  obtain ⟨i, rfl⟩ : ∃ i : Nat, p = (i : Int) := ⟨p.toNat, by omega⟩
  have hi : i < z.syn.length := by omega
  rw [wS_ok r hi h1 h2]
  exact ⟨wE_ok hi h1 (by omega), h1, h2, h3⟩
theorem lasts_s {z : DkS} {n : Nat} (h : Lasts z n) : sE z = 0 ∧ Lasts (sS z) n := by
  obtain ⟨h1, h2, h3⟩ := h
  rw [sS_ok h1 h2]
  exact ⟨sE_ok h1 (by omega), h1, h2, by rw [show (syncS z).syn.length = z.syn.length from mgS_length _ _ _]; exact h3⟩
theorem lasts_fmt {z : DkS} {n : Nat} (h : Lasts z n) {base : Int} (hb : 0 ≤ base ∧ base + 2 ≤ (n : Int)) : fmtE z base = 0 ∧ Lasts (fmtZ z base) n := by
  have a1 := lasts_w h (p := base + ((0 % 2 : Nat) : Int)) (by omega) (slotL 0 [])
  have a2 := lasts_w a1.2 (p := base + ((1 % 2 : Nat) : Int)) (by omega) zeroR
  have a3 := lasts_s a2.2
  unfold fmtE fmtZ
  have n1 : ¬ wE z (base + ((0 % 2 : Nat) : Int)) ≠ 0 := fun h => h a1.1
  have n2 : ¬ wE (wS z (base + ((0 % 2 : Nat) : Int)) (slotL 0 [])) (base + ((1 % 2 : Nat) : Int)) ≠ 0 := fun h => h a2.1
  rw [if_neg n1, if_neg n2, if_neg n1, if_neg n2]
  exact a3
theorem lasts_put {z : DkS} {n : Nat} (h : Lasts z n) {base : Int} (hb : 0 ≤ base ∧ base + 2 ≤ (n : Int)) (cn : Nat) (l : List UInt8) : putE z base cn l = 0 ∧ Lasts (putZ z base cn l) n := by
  have a1 := lasts_w h (p := base + (((cn + 1) % 2 : Nat) : Int)) (by omega) (slotL (cn + 1) l)
  have a3 := lasts_s a1.2
  unfold putE putZ
  rw [if_neg (by rw [a1.1]; simp), if_neg (by rw [a1.1]; simp)]
  exact a3
theorem SlAt.farNil {w : World} {s d b m : Nat} {base : Int} {cn : Nat} (h : SlAt w s d b m base cn []) {g : Nat} : SlFar w s g := by
  obtain ⟨hs, A, cap, h1, _⟩ := h
  have e0 := h1.cell 3
  simp only [List.getElem?_toArray, List.getElem?_cons_zero, List.getElem?_cons_succ] at e0
  exact ⟨A, _, cap, e0, fun _ _ h => absurd rfl h⟩
def st0 (e : Int) : St := ⟨e, 0, 0, 0, 0⟩
section
variable {w0 w w' : World} {d b m kb lb cap : Nat} {base : Int} {seed : List Int} {z : DkS} {n : Nat}
set_option maxRecDepth 100000 in
theorem gformat_bad (E : Nat → Addr) (he : ErrEnv w w.heap.size E) (v0 : Value) (kb : Nat) (ep : Int) (hep : ep < 0 ∨ 1073741824 < ep) :
    Calls Tryz.prog 22 #[v0, .int .i64 base, .pointer (some ⟨kb, 0, none⟩), .int .i64 ep] w fun e w' => e = .returned (.tuple #[.pointer none, errV (E 3)]) ∧ w.grownBy w' none := by
  have er := he.form
  have hd : (decide (ep < 0) = true) ∨ (decide (ep < 0) = false ∧ decide (1073741824 < ep) = true) := by simp; omega
  clear he hep
  go_enter Tryz.func22, Tryz.ntmps22
  rcases hd with hd | ⟨hd, hd2⟩
  all_goals
    go_wp2_with fail
    go_quiet (fail)
    go_wp2_with fail
    refine bodyPost_ret (results_tmp2 rfl _ _ _) rfl ?_
    exact ⟨rfl, ⟨rfl, rfl, rfl, Nat.le_refl _, fun _ _ _ => rfl⟩⟩
set_option maxRecDepth 100000 in
set_option maxHeartbeats 1000000 in
theorem gformat_range (h : Dsk w0 w d b m z) (hR : Rounds w0) (E : Nat → Addr) (he : ErrEnv w0 w0.heap.size E) (kb : Nat) (ep : Int) (hep : 0 ≤ ep ∧ ep ≤ 1073741824) (hb : ¬ (0 ≤ base ∧ base + 2 ≤ (z.syn.length : Int))) :
    Calls Tryz.prog 22 #[.pointer (some ⟨d, 0, none⟩), .int .i64 base, .pointer (some ⟨kb, 0, none⟩), .int .i64 ep] w fun e w' => e = .returned (.tuple #[.pointer none, errV (E 0)]) ∧ Dsk w0 w' d b m z ∧ Kept (fun j => j = d ∨ j = b ∨ j = m) w w' := by
  have hd1 : decide (ep < 0) = false := by simp; omega
  have hd2 : decide (1073741824 < ep) = false := by simp; omega
  have HF := Lib.hid (format_any w0 w d b m z h hR (E 0) (E 5) (he.var 0 (by omega)) (he.var 5 (by omega)) base)
  have HB := Lib.hid hb
  clear h hR he hb hep
  go_enter Tryz.func22, Tryz.ntmps22
  go_wp2_with fail
  refine HF.out.mono ?_
  rintro e w1 ⟨⟨_, rfl, h1⟩ | ⟨hok, _⟩, hk⟩
  · have H1 := Lib.hid (And.intro h1 hk)
    clear h1 hk
    go_wp2_with fail
    refine bodyPost_ret (results_tmp2 rfl _ _ _) rfl ?_
    exact ⟨rfl, H1.out⟩
  · exact absurd hok HB.out
set_option maxRecDepth 100000 in
set_option maxHeartbeats 1000000 in
theorem gformat_is (h : Dsk w0 w d b m z) (hR : Rounds w0) (E : Nat → Addr) (he : ErrEnv w0 w0.heap.size E) (hz : Lasts z n) (hb : 0 ≤ base ∧ base + 2 ≤ (n : Int)) (ep : Int) (hep : 0 ≤ ep ∧ ep ≤ 1073741824)
    (hk : KeyAt w kb (arrV .u8 seed) (.slice (some ⟨lb, 0, none⟩) 32 cap) (arrV .u8 (rootC seed))) (hl : DigsAt w lb 0 (leavesC seed)) (hkl : lb < w.heap.size) (hne : (kb ≠ d ∧ kb ≠ b ∧ kb ≠ m) ∧ (lb ≠ d ∧ lb ≠ b ∧ lb ≠ m)) :
    Calls Tryz.prog 22 #[.pointer (some ⟨d, 0, none⟩), .int .i64 base, .pointer (some ⟨kb, 0, none⟩), .int .i64 ep] w fun e w' =>
      (∃ g s, e = .returned (.tuple #[.pointer (some ⟨g, 0, none⟩), .nilIface]) ∧ w.heap.size ≤ g ∧ w.heap.size ≤ s ∧ GdIs w0 w' ⟨g, kb, lb, cap, s, d, b, m⟩ base seed (putZ (fmtZ z base) base 0 (stBs (st0 ep))) 1 (stBs (st0 ep)) (st0 ep) ∧ ∀ j, j < w.heap.size → SlFar w' s j) ∧ Kept (fun j => j = d ∨ j = b ∨ j = m) w w' := by
  have hd1 : decide (ep < 0) = false := by simp; omega
  have hd2 : decide (1073741824 < ep) = false := by simp; omega
  have hn : n ≤ 4096 := by rw [← hz.2.2]; exact h.1.2.2.2.2.2.1.2
  have hfm := lasts_fmt hz hb
  have hpu := lasts_put hfm.2 hb 0 (stBs (st0 ep))
  have hok : (st0 ep).ok := right_mk (by simp only [st0]; omega)
  have HF := Lib.hid (format_any w0 w d b m z h hR (E 0) (E 5) (he.var 0 (by omega)) (he.var 5 (by omega)) base)
  have HX := Lib.hid (And.intro h (And.intro hR (And.intro he (And.intro hz (And.intro hb (And.intro hk (And.intro hl (And.intro hkl (And.intro hne (And.intro hfm.1 (And.intro hpu.1 (And.intro hok hn))))))))))))
  clear h hR he hb hep hz hk hl hkl hne hfm hpu hok hn
  go_enter Tryz.func22, Tryz.ntmps22
  go_wp2_with fail
  refine HF.out.mono ?_
  rintro e w1 ⟨⟨hno, _⟩ | ⟨_, hd, ⟨hne, _⟩ | ⟨_, s, rfl, hsl, hs⟩⟩, hk1⟩
  · exact absurd (by rw [HX.out.2.2.2.1.2.2]; exact HX.out.2.2.2.2.1) hno
  · exact absurd HX.out.2.2.2.2.2.2.2.2.2.1 hne
  have hky := HX.out.2.2.2.2.2.1.kept hk1 (show ¬ (kb = d ∨ kb = b ∨ kb = m) by have := HX.out.2.2.2.2.2.2.2.2.1.1; omega)
  have hlv := HX.out.2.2.2.2.2.2.1.kept hk1 (show ¬ (lb = d ∨ lb = b ∨ lb = m) by have := HX.out.2.2.2.2.2.2.2.2.1.2; omega)
  obtain ⟨q, hq⟩ : ∃ q, w1.heap.size = q := ⟨_, rfl⟩
  obtain ⟨W1, hW1⟩ : ∃ W1, w1.alloc (.cells #[.pointer (some ⟨kb, 0, none⟩), .pointer (some ⟨s, 0, none⟩), .int .i64 0, .int .i64 0, .int .i64 0, .int .i64 0, .int .i64 0] 69) = W1 := ⟨_, rfl⟩
  have gW1 : w1.grownBy W1 none := by rw [← hW1]; exact World.grownBy_alloc _ _ none
  have bq : Blk W1 q 69 #[.pointer (some ⟨kb, 0, none⟩), .pointer (some ⟨s, 0, none⟩), .int .i64 0, .int .i64 0, .int .i64 0, .int .i64 0, .int .i64 0] := by rw [← hW1, ← hq]; exact Blk.new _ _ _
  have hlt : d < w.heap.size ∧ b < w.heap.size ∧ m < w.heap.size ∧ kb < w.heap.size := by
    obtain ⟨D, hD, _⟩ := HX.out.1.1.2.2.1
    exact ⟨HX.out.1.1.1.lt, HX.out.1.1.2.1.lt, hD.lt, HX.out.2.2.2.2.2.1.lt⟩
  have hsq : s < q := by obtain ⟨_, _, _, hS, _⟩ := hsl; rw [← hq]; exact hS.lt
  have hwq : w.heap.size ≤ q := by rw [← hq]; exact hk1.size
  have hG : GdIs w0 W1 ⟨q, kb, lb, cap, s, d, b, m⟩ base seed (fmtZ z base) 0 [] ⟨0, 0, 0, 0, 0⟩ := by
    have h1 := HX.out.2.2.2.2.2.2.2.2.1
    have h2 := HX.out.2.2.2.2.2.2.2.1
    have h3 := HX.out.1.2.1.size
    refine ⟨hd.grown gW1, hsl.grown gW1, bq, hky.grown gW1, hlv.grown gW1, (hsl.farNew (g := q) (by omega)).kept (Kept.of_grown (F := fun _ => False) gW1 fun _ e => by cases e) (fun h => h), ⟨by simp only; omega, by simp only [GdP.F]; omega, by simp only [GdP.F]; omega⟩, by simp only; omega⟩
  have HFR := Lib.hid (show ∀ j, SlFar W1 s j from fun j => hsl.farNil.kept (Kept.of_grown (F := fun _ => False) gW1 fun _ e => by cases e) (fun h => h))
  have HG := Lib.hid (And.intro hG (And.intro (hk1.next (Kept.of_grown (F := fun _ => False) gW1 fun _ e => by cases e) (fun _ _ h => h.elim)) (And.intro hs (And.intro hwq (And.intro hlt hsq)))))
  have HW := Lib.hid (And.intro hW1 hq)
  clear hd hsl hs hk1 hky hlv hq hW1 gW1 bq hlt hsq hwq hG
  have HK := Lib.hid (gkeep_is HG.out.1 HX.out.2.1 E HX.out.2.2.1 (st0 ep) HX.out.2.2.2.2.2.2.2.2.2.2.2.1 (by omega) (by have := HX.out.2.2.2.2.1; have := HX.out.2.2.2.2.2.2.2.2.2.2.2.2; omega))
  go_upto_region 7 with (fail)
  rw [HW.out.1, HW.out.2]
  go_wp2_with fail
  refine HK.out.mono ?_
  rintro e w3 ⟨⟨hne, _⟩ | ⟨_, rfl, hg3⟩, hk3, hf3⟩
  · exact absurd HX.out.2.2.2.2.2.2.2.2.2.2.1 hne
  have HF3 := Lib.hid (show ∀ j, j < w.heap.size → SlFar w3 s j from fun j hj => hf3 j (by have h1 : q < W1.heap.size := HG.out.1.gd.lt; have := HG.out.2.2.2.1; omega) (HFR.out j))
  have H3 := Lib.hid (And.intro hg3 (HG.out.2.1.next hk3 (fun j hj hF => by
    have h1 := HG.out.2.2.1
    have h2 := HG.out.2.2.2.1
    have hF : j = d ∨ j = b ∨ j = m ∨ j = s ∨ j = q := hF
    show j = d ∨ j = b ∨ j = m
    omega)))
  clear hg3 hk3 hf3
  go_wp2_with fail
  refine bodyPost_ret (results_tmp2 rfl _ _ _) rfl ?_
  exact ⟨⟨q, s, rfl, HG.out.2.2.2.1, by rw [HG.out.2.2.1]; exact Nat.le_refl _, H3.out.1, HF3.out⟩, H3.out.2⟩
end
end Go.Proofs.YthkjlgjbjjjohaaGreatDoor
/-
  Guard: Open.
-/

namespace Go.Proofs.YthkjlgjbjjjohaaGreatDoor
open Go.RowKit Go.Maps

section
variable {w0 w w' : World} {d b m kb lb cap : Nat} {base : Int} {seed : List Int} {z : DkS} {n : Nat}
set_option maxRecDepth 100000 in
set_option maxHeartbeats 1000000 in
theorem gopen_none (h : Dsk w0 w d b m z) (hR : Rounds w0) (E : Nat → Addr) (he : ErrEnv w0 w0.heap.size E) (hz : z.off = false) (hb : 0 ≤ base ∧ base + 2 ≤ (z.syn.length : Int)) (bb : Nat → List UInt8) (hbb : ∀ k, k < 2 → (bb k).length = 64 ∧ readS z (base.toNat + k) = intsB (bb k)) (hsel : selK bb 2 = none) (kb : Nat) :
    Calls Tryz.prog 17 #[.pointer (some ⟨d, 0, none⟩), .int .i64 base, .pointer (some ⟨kb, 0, none⟩)] w fun e w' => e = .returned (.tuple #[.pointer none, errV (E 6)]) ∧ w.grownBy w' none := by
  have HO := Lib.hid (open_is w0 w d b m z h hR E (ErrEnv.vars he [0, 1] (by simp)) (E 5) (E 6) (he.var 5 (by omega)) (he.var 6 (by omega)) base bb (fun _ _ => hbb))
  have HX := Lib.hid (And.intro hz (And.intro hb hsel))
  clear h hR he hz hb hbb hsel
  go_enter Tryz.func17, Tryz.ntmps17
  go_wp2_with fail
  refine HO.out.mono ?_
  rintro e w1 ⟨g1, ⟨hbad, _⟩ | ⟨_, ⟨hoff, _⟩ | ⟨_, ⟨_, rfl⟩ | ⟨c, x, hs, _⟩⟩⟩⟩
  · exact absurd HX.out.2.1 hbad
  · rw [HX.out.1] at hoff; cases hoff
  · have H1 := Lib.hid g1
    clear g1
    go_wp2_with fail
    refine bodyPost_ret (results_tmp2 rfl _ _ _) rfl ?_
    exact ⟨rfl, H1.out⟩
  · rw [HX.out.2.2] at hs; cases hs
/-- What opening a record answers that reads as t, with the error's number k. -/
def OpenPost (w0 w : World) (d b m kb lb cap : Nat) (base : Int) (seed : List Int) (z : DkS) (c0 : Nat) (x0 : List UInt8) (t : St) (k : Nat) (E : Nat → Addr) (e : Ending) (w' : World) : Prop := w.grownBy w' none ∧
      ((k ≠ 0 ∧ e = .returned (.tuple #[.pointer none, errV (E 6)])) ∨
       (k = 0 ∧ ∃ g s, e = .returned (.tuple #[.pointer (some ⟨g, 0, none⟩), .nilIface]) ∧ w.heap.size ≤ g ∧ w.heap.size ≤ s ∧ GdIs w0 w' ⟨g, kb, lb, cap, s, d, b, m⟩ base seed z c0 x0 t))
set_option maxRecDepth 100000 in
set_option maxHeartbeats 1000000 in
theorem gopen_some (h : Dsk w0 w d b m z) (hR : Rounds w0) (E : Nat → Addr) (he : ErrEnv w0 w0.heap.size E) (hz : z.off = false) (hb : 0 ≤ base ∧ base + 2 ≤ (z.syn.length : Int)) (bb : Nat → List UInt8) (hbb : ∀ k, k < 2 → (bb k).length = 64 ∧ readS z (base.toNat + k) = intsB (bb k)) (c0 : Nat) (x0 : List UInt8) (hsel : selK bb 2 = some (c0, x0)) (hx : x0.length ≤ 1000)
    (hk : KeyAt w kb (arrV .u8 seed) (.slice (some ⟨lb, 0, none⟩) 32 cap) (arrV .u8 (rootC seed))) (hl : DigsAt w lb 0 (leavesC seed)) (hkl : lb < w.heap.size) (hne : (kb ≠ d ∧ kb ≠ b ∧ kb ≠ m) ∧ (lb ≠ d ∧ lb ≠ b ∧ lb ≠ m))
    (t : St) (k : Nat) (hrd : ∀ (V : World) (A : Option Addr) (c : Nat), w0.heap.size ≤ V.heap.size → ErrEnv V w0.heap.size E → BytesAt V A x0 → Calls Tryz.prog 37 #[.slice A x0.length c] V fun e w' => e = .returned (.tuple #[t.val, evOf E k]) ∧ V.grownBy w' none) :
    Calls Tryz.prog 17 #[.pointer (some ⟨d, 0, none⟩), .int .i64 base, .pointer (some ⟨kb, 0, none⟩)] w (OpenPost w0 w d b m kb lb cap base seed z c0 x0 t k E) := by
  have HO := Lib.hid (open_is w0 w d b m z h hR E (ErrEnv.vars he [0, 1] (by simp)) (E 5) (E 6) (he.var 5 (by omega)) (he.var 6 (by omega)) base bb (fun _ _ => hbb))
  have HX := Lib.hid (And.intro hz (And.intro hb (And.intro hsel (And.intro h (And.intro he (And.intro hk (And.intro hl (And.intro hkl (And.intro hne (And.intro hrd hx))))))))))
  clear h hR he hz hb hbb hsel hk hl hkl hne hrd hx
  go_enter Tryz.func17, Tryz.ntmps17
  go_wp2_with fail
  refine HO.out.mono ?_
  rintro e w1 ⟨g1, ⟨hbad, _⟩ | ⟨_, ⟨hoff, _⟩ | ⟨_, ⟨hno, _⟩ | ⟨c, x, hs, s, rfl, hsl, hss⟩⟩⟩⟩
  · exact absurd HX.out.2.1 hbad
  · rw [HX.out.1] at hoff; cases hoff
  · rw [HX.out.2.2.1] at hno; cases hno
  rw [HX.out.2.2.1] at hs
  injection hs with hs
  injection hs with hc1 hc2
  subst hc1 hc2
  have H1 := Lib.hid (And.intro g1 (And.intro hsl hss))
  clear g1 hsl hss
  go_wp2_with fail
  refine (record_is H1.out.2.1 (by have := HX.out.2.2.2.2.2.2.2.2.2.2; omega)).mono ?_
  rintro e w2 ⟨A2, c2, rfl, hb2, g2⟩
  have g12 := grown_trans H1.out.1 g2
  have h2 := HX.out.2.2.2.1.grown g12
  have HR := Lib.hid (HX.out.2.2.2.2.2.2.2.2.2.1 w2 A2 c2 (by have := h2.2.1.size; omega) (HX.out.2.2.2.2.1.below h2.below (Nat.le_refl _)) hb2)
  have H2 := Lib.hid (And.intro g12 (And.intro (H1.out.2.1.grown g2) h2))
  clear g2 g12 hb2 h2
  go_wp2_with fail
  refine HR.out.mono ?_
  rintro e w3 ⟨rfl, g3⟩
  have g13 := grown_trans H2.out.1 g3
  have bs := Blk.new w3 46 (stC t.e t.v t.l t.p t.f)
  have gs := World.grownBy_alloc w3 (.cells (stC t.e t.v t.l t.p t.f) 46) none
  obtain ⟨q2, hq2⟩ : ∃ q2, w3.heap.size = q2 := ⟨_, rfl⟩
  obtain ⟨w4, hw4⟩ : ∃ w4, w3.alloc (.cells (stC t.e t.v t.l t.p t.f) 46) = w4 := ⟨_, rfl⟩
  rw [hq2, hw4] at bs
  rw [hw4] at gs
  have y0 := bs.cell 0
  have y1 := bs.cell 1
  have y2 := bs.cell 2
  have y3 := bs.cell 3
  have y4 := bs.cell 4
  simp only [List.getElem?_toArray, List.getElem?_cons_zero, List.getElem?_cons_succ] at y0 y1 y2 y3 y4
  have H4 := Lib.hid (And.intro (grown_trans g13 gs) (And.intro (H2.out.2.1.grown (grown_trans g3 gs)) (H2.out.2.2.grown (grown_trans g3 gs))))
  have HW := Lib.hid (And.intro hw4 hq2)
  clear g3 g13 gs bs hw4 hq2
  cases k with
  | succ k =>
    simp only [evOf]
    have er : w4.cell? ⟨2, 0, none⟩ = some (errV (E 6)) := ((HX.out.2.2.2.2.1.var 6 (by omega)).below H4.out.2.2.below (Nat.le_refl _)).1
    clear y0 y1 y2 y3 y4
    go_upto_region 7 with (fail)
    rw [HW.out.1]
    go_wp2_with fail
    go_quiet (fail)
    go_wp2_with fail
    refine bodyPost_ret (results_tmp2 rfl _ _ _) rfl ?_
    exact ⟨grown_trans H4.out.1 ⟨rfl, rfl, rfl, Nat.le_refl _, fun _ _ _ => rfl⟩, .inl ⟨by omega, rfl⟩⟩
  | zero =>
    simp only [evOf]
    go_upto_region 7 with (fail)
    rw [HW.out.1, HW.out.2]
    go_wp2_with fail
    refine bodyPost_ret (results_tmp2 rfl _ _ _) rfl ?_
    have gn := World.grownBy_alloc w4 (.cells #[.pointer (some ⟨kb, 0, none⟩), .pointer (some ⟨s, 0, none⟩), .int .i64 t.e, .int .i64 t.v, .int .i64 t.l, .int .i64 t.p, .int .i64 t.f] 69) none
    have bn := Blk.new w4 69 #[.pointer (some ⟨kb, 0, none⟩), .pointer (some ⟨s, 0, none⟩), .int .i64 t.e, .int .i64 t.v, .int .i64 t.l, .int .i64 t.p, .int .i64 t.f]
    have hlt : d < w.heap.size ∧ b < w.heap.size ∧ m < w.heap.size ∧ kb < w.heap.size := by
      obtain ⟨D, hD, _⟩ := HX.out.2.2.2.1.1.2.2.1
      exact ⟨HX.out.2.2.2.1.1.1.lt, HX.out.2.2.2.1.1.2.1.lt, hD.lt, HX.out.2.2.2.2.2.1.lt⟩
    have hsq : s < w4.heap.size := by obtain ⟨_, _, _, hS, _⟩ := H4.out.2.1; exact hS.lt
    have h1 := HX.out.2.2.2.2.2.2.2.2.1
    have h2 := HX.out.2.2.2.2.2.2.2.1
    have h3 := HX.out.2.2.2.1.2.1.size
    have h4 := H4.out.1.size
    have h5 := H1.out.2.2
    have gall := grown_trans H4.out.1 gn
    exact ⟨gall, .inr ⟨rfl, w4.heap.size, s, rfl, h4, h5, H4.out.2.2.grown gn, H4.out.2.1.grown gn, bn, HX.out.2.2.2.2.2.1.grown gall, HX.out.2.2.2.2.2.2.1.grown gall, (H4.out.2.1.farNew (Nat.le_refl _)).kept (Kept.of_grown (F := fun _ => False) gn fun _ e => by cases e) (fun h => h), ⟨by simp only; omega, by simp only [GdP.F]; omega, by simp only [GdP.F]; omega⟩, by simp only; omega⟩⟩
end
end Go.Proofs.YthkjlgjbjjjohaaGreatDoor
