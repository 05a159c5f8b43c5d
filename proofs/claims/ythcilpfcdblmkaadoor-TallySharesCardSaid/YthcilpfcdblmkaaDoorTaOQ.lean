/-
  Several texts in one: TaO, TaQ.
-/
import Derived.Test.YthcilpfcdblmkaaDoorTaN
import Derived.Test.YthcilpfcdblmkaaDoorPwV
import Derived.Test.YthcilpfcdblmkaaDoorBs3
import Derived.Deep.RegionHeld3
import Derived.Test.YthcilpfcdblmkaaDoorTaJI
import Derived.Test.YthcilpfcdblmkaaDoorNum
/-
  The document's tally: Enough, Put.
-/
namespace Go.Proofs.YthcilpfcdblmkaaDoor
open Go.RowKit

theorem fstL_length (l : List (Nat × Int)) : (fstL l).length = l.length := by rw [fstL, List.length_map]
theorem sndL_length (l : List (Nat × Int)) : (sndL l).length = l.length := by rw [sndL, List.length_map]
theorem wm_info : (Tryd.prog.info? 36).map (fun i => (i.zero, i.size, i.bytes)) = some (some (.agg #[.int .i64 0, .int .i64 0, .int .i64 0]), 3, 24) := by kernel_rfl
theorem Mod.vds {w : World} {lo hi m : Nat} {V : List Vd} {ms : List Wm} (h : Mod w lo hi m V ms) : ∃ A c, w.cell? ⟨m, 0, none⟩ = some (.slice A V.length c) ∧ VdsAt w A V ∧ V.length ≤ c := by
  obtain ⟨_, _, A, c, _, _, h3, h4, h5, _⟩ := h
  exact ⟨A, c, h3.cell 0, h4, h5⟩
set_option maxRecDepth 100000 in
set_option maxHeartbeats 1000000 in
theorem menough_is (w : World) (lo hi m : Nat) (V : List Vd) (ms : List Wm) (h : Mod w lo hi m V ms) (hv : V.length ≤ 30) (hm : ms.length ≤ 100) (key : Int) (hs : (saidM ms key V.length).length ≤ 100) :
    Calls Tryd.prog 21 #[.pointer (some ⟨m, 0, none⟩), .int .i64 key] w fun e w' => e = .returned (.bool (enoughS V (fstL (saidM ms key V.length)))) ∧ w.grownBy w' none := by
  obtain ⟨A, c, hc, hvd, hvc⟩ := h.vds
  have HS := Lib.hid (said_is w lo hi m V ms h hv hm key)
  have HV := Lib.hid (And.intro hvd (And.intro hvc (And.intro h.2.1 (And.intro hs hv))))
  clear h hvd hvc hm hv hs
  go_enter Tryd.func21, Tryd.ntmps21
  go_wp2_with fail
  refine HS.out.mono ?_
  rintro e w1 ⟨A1, c1, A2, c2, rfl, h1, h2, h3, h4, k1⟩
  have hc1 := k1.cell hc (by simp)
  have K1 := Lib.hid k1
  obtain ⟨who, hwho⟩ : ∃ who, fstL (saidM ms key V.length) = who := ⟨_, rfl⟩
  have hl : (saidM ms key V.length).length = who.length := by rw [← hwho, fstL_length]
  have HC := Lib.hid (renough_is w1 A A1 c c1 V who (HV.out.1.grown k1) HV.out.2.2.1 (by have := HV.out; omega) HV.out.2.1 (by rw [← hwho]; exact h1) (by rw [← hl]; exact HV.out.2.2.2.1) (by rw [← hl]; exact h3))
  rw [hl]
  clear h1 h2 h3 h4 k1 hc
  go_wp2_with fail
  refine HC.out.mono ?_
  rintro e w2 ⟨rfl, k2⟩
  have K2 := Lib.hid k2
  clear k2
  go_wp2_with fail
  go_ret
  exact ⟨by rw [hwho]; rfl, grown_trans K1.out K2.out⟩

set_option maxRecDepth 100000 in
set_option maxHeartbeats 4000000 in
theorem mput_is (w : World) (lo hi m : Nat) (V : List Vd) (ms : List Wm) (h : Mod w lo hi m V ms) (hhi : hi ≤ w.heap.size) (hv : V.length ≤ 30) (hm : ms.length ≤ 99) (z : Wm) (hs : (saidM ms z.key V.length).length ≤ 100) (hs2 : (∀ x ∈ ms, x.who ≠ z.who) → (saidM (ms ++ [z]) z.key V.length).length ≤ 100) :
    Calls Tryd.prog 12 #[.pointer (some ⟨m, 0, none⟩), .agg #[.int .i64 z.key, .int .i64 z.who, .int .i64 z.thing]] w fun e w' =>
      (¬ (0 ≤ z.who ∧ z.who < (V.length : Int)) ∧ e = .returned (.tuple #[.bool false, .int .i64 1]) ∧ w.grownBy w' none) ∨
      ((0 ≤ z.who ∧ z.who < (V.length : Int)) ∧ (∃ x ∈ ms, x.who = z.who) ∧ e = .returned (.tuple #[.bool false, .int .i64 17]) ∧ w.grownBy w' none) ∨
      ((0 ≤ z.who ∧ z.who < (V.length : Int)) ∧ (∀ x ∈ ms, x.who ≠ z.who) ∧ e = .returned (.tuple #[.bool (!enoughS V (fstL (saidM ms z.key V.length)) && enoughS V (fstL (saidM (ms ++ [z]) z.key V.length))), .int .i64 0]) ∧ Mod w' lo hi m V (ms ++ [z]) ∧ Kept (fun j => hi ≤ j ∧ Tch w m j) w w') := by
  obtain ⟨B0, d0, hc1, hW⟩ := h.words
  obtain ⟨m1, m2, A, c, B1, d1, b0, v0, e0, o0, n0, l0⟩ := id h
  have hc := b0.cell 0
  have hc1' := b0.cell 1
  simp only [List.getElem?_toArray, List.getElem?_cons_zero, List.getElem?_cons_succ] at hc hc1'
  have eB := hc1.symm.trans hc1'
  injection eB with eB
  injection eB with eB1 _ eB2
  subst eB1 eB2
  obtain ⟨i0, hi0, hz0, hz1, hz2⟩ := info_parts wm_info
  have HI0 := Lib.hid (And.intro hi0 (And.intro hz0 (And.intro hz1 hz2)))
  clear hi0 hz0 hz1 hz2 hc1'
  obtain ⟨n, hn⟩ : ∃ n, V.length = n := ⟨_, rfl⟩
  obtain ⟨q, hq⟩ : ∃ q, ms.length = q := ⟨_, rfl⟩
  have H := Lib.hid (And.intro h (And.intro hhi (And.intro hv (And.intro hm (And.intro hs (And.intro hs2 (And.intro hn (And.intro hq hW))))))))
  have hml := World.block_lt_of_cell? w _ hc
  rw [hn] at hc hv b0 e0 ⊢
  rw [hq] at hc1 hm b0 o0
  have HC0 := Lib.hid hc1
  have HM0 := Lib.hid (And.intro m1 (And.intro m2 (And.intro b0 (And.intro v0 (And.intro e0 (And.intro o0 (And.intro n0 l0)))))))
  clear h hs hs2 hn hq hW hhi m1 m2 b0 v0 e0 o0 n0 l0
  obtain ⟨zk, zw, zt⟩ := z
  dsimp only
  obtain ⟨U, hU⟩ : ∃ U, w.alloc (.cells #[.int .i64 zk, .int .i64 zw, .int .i64 zt] 36) = U := ⟨_, rfl⟩
  obtain ⟨gb, hgb⟩ : ∃ gb, w.heap.size = gb := ⟨_, rfl⟩
  have gU : w.grownBy U none := by rw [← hU]; exact World.grownBy_alloc _ _ none
  have hb : Blk U gb 36 #[.int .i64 zk, .int .i64 zw, .int .i64 zt] := by rw [← hU, ← hgb]; exact Blk.new _ _ _
  have u0 := hb.cell 0
  have u1 := hb.cell 1
  have u2 := hb.cell 2
  simp only [List.getElem?_toArray, List.getElem?_cons_zero, List.getElem?_cons_succ] at u0 u1 u2
  have hcU := gU.cell hc (by simp)
  have hc1U := gU.cell hc1 (by simp)
  have HU := Lib.hid (And.intro gU hb)
  have HGB := Lib.hid hgb
  clear gU hb
  by_cases h0 : zw < 0
  · have d1 : decide (zw < 0) = true := by simpa using h0
    go_enter Tryd.func12, Tryd.ntmps12
    go_wp2_with fail
    (try rw [hU])
    (try rw [hgb])
    go_quiet (fail)
    go_wp2_with fail
    refine bodyPost_ret (results_tmp2 rfl _ _ _) rfl ?_
    exact .inl ⟨by omega, rfl, grown_trans HU.out.1 ⟨rfl, rfl, rfl, Nat.le_refl _, fun _ _ _ => rfl⟩⟩
  have d1 : decide (zw < 0) = false := by simpa using h0
  by_cases h1 : (n : Int) ≤ zw
  · have d2 : decide ((n : Int) ≤ zw) = true := by simpa using h1
    go_enter Tryd.func12, Tryd.ntmps12
    go_wp2_with fail
    (try rw [hU])
    (try rw [hgb])
    go_quiet (fail)
    go_wp2_with fail
    refine bodyPost_ret (results_tmp2 rfl _ _ _) rfl ?_
    exact .inl ⟨by omega, rfl, grown_trans HU.out.1 ⟨rfl, rfl, rfl, Nat.le_refl _, fun _ _ _ => rfl⟩⟩
  have d2 : decide ((n : Int) ≤ zw) = false := by simpa using h1
  have hrng : 0 ≤ zw ∧ zw < (n : Int) := by omega
  go_enter Tryd.func12, Tryd.ntmps12
  go_wp2_with fail
  (try rw [hU])
  (try rw [hgb])
  go_quiet (fail)
  have hgd : U.grownBy (U.drewN nq) none := ⟨rfl, rfl, rfl, Nat.le_refl _, fun _ _ _ => rfl⟩
  have hc1D := hgd.cell hc1U (by simp)
  have hbD := HU.out.2.grown hgd (by simp)
  have hwD := grown_trans HU.out.1 hgd
  obtain ⟨W1, hW1⟩ : ∃ W1, U.drewN nq = W1 := ⟨_, rfl⟩
  rw [hW1] at hc1D hbD hwD ⊢
  have HD := Lib.hid (And.intro hwD hbD)
  clear hW1 hgd hwD hbD hU hgb u0 u1 u2 hcU hc1U h0 h1 d1 d2
  go_wp2_with fail
  clear hc1D
  go_loopw [27] (fun i wr => ∃ j : Nat, j ≤ q ∧ i = .int .i64 (j : Int) ∧ w.grownBy wr none ∧ Blk wr gb 36 #[.int .i64 zk, .int .i64 zw, .int .i64 zt] ∧ ∀ x ∈ ms.take j, x.who ≠ zw) (fun i _ => q - (intOf i).toNat)
  case atStart => exact ⟨0, by omega, rfl, HD.out.1, HD.out.2, by simp⟩
  case round =>
    obtain ⟨j, hj, hi9, hK, hb, hD⟩ := hrel
    obtain ⟨J, hJ⟩ : ∃ J : Int, J = (j : Int) := ⟨_, rfl⟩
    rw [← hJ] at hi9
    subst hi9
    by_cases hjl : j < q
    · have e1 : decide (J < (q : Int)) = true := by simp; omega
      have hjm : j < ms.length := by have := H.out.2.2.2.2.2.2.2.1; omega
      obtain ⟨g, hBg, hcw⟩ := H.out.2.2.2.2.2.2.2.2 (by rintro rfl; simp at hjm)
      subst hBg
      have hJJ : J.toNat = j := by omega
      have x0 := hK.cell (hcw j hjm 0 _ rfl) (by simp)
      have x1 := hK.cell (hcw j hjm 1 _ rfl) (by simp)
      have x2 := hK.cell (hcw j hjm 2 _ rfl) (by simp)
      obtain ⟨⟨mk, mw, mt⟩, hm1⟩ : ∃ m, ms[j] = m := ⟨_, rfl⟩
      simp only [hm1, Nat.add_zero] at x0 x1 x2
      rw [← hJJ] at x0 x1 x2
      have hJ2 : 0 ≤ J ∧ J < (q : Int) := by omega
      have hstep : ¬ mw = zw → ∀ x ∈ ms.take (j + 1), x.who ≠ zw := fun hne x hx => by
        rw [← List.take_append_getElem hjm, hm1] at hx
        rcases List.mem_append.1 hx with h | h
        · exact hD x h
        · rw [List.mem_singleton.1 h]; exact hne
      have hex : mw = zw → ∃ x ∈ ms, x.who = zw := fun h => ⟨ms[j], List.getElem_mem hjm, by rw [hm1]; exact h⟩
      obtain ⟨ga, hga⟩ : ∃ ga, wr.heap.size = ga := ⟨_, rfl⟩
      obtain ⟨W2, hW2⟩ : ∃ W2, wr.alloc (.cells #[.int .i64 mk, .int .i64 mw, .int .i64 mt] 36) = W2 := ⟨_, rfl⟩
      have hb2 : Blk W2 ga 36 #[.int .i64 mk, .int .i64 mw, .int .i64 mt] := by rw [← hW2, ← hga]; exact Blk.new _ _ _
      have hg2 : wr.grownBy W2 none := by rw [← hW2]; exact World.grownBy_alloc _ _ none
      have hb3 := hb.grown hg2 (by simp)
      have z1 := hb3.cell 1
      have z2 := hb2.cell 1
      simp only [List.getElem?_toArray, List.getElem?_cons_zero, List.getElem?_cons_succ] at z1 z2
      have HJ := Lib.hid (And.intro hJ (And.intro hjl (And.intro (grown_trans hK hg2) (And.intro hb3 (And.intro hstep hex)))))
      clear hJ hjl hK hb hD hm1 hJJ hj hb2 hg2 hb3 hstep hex hcw
      by_cases heq : mw = zw
      · have e4 : (mw == zw) = true := by simpa using heq
        have HNE := Lib.hid heq
        clear heq
        go_wp2_with fail
        (try rw [hW2])
        (try rw [hga])
        clear x0 x1 x2 hW2 hga
        go_wp2_with fail
        refine bodyPost_ret (results_tmp2 rfl _ _ _) rfl ?_
        exact .inr (.inl ⟨hrng, HJ.out.2.2.2.2.2 HNE.out, rfl, HJ.out.2.2.1⟩)
      · have e4 : (mw == zw) = false := by simpa using heq
        have HNE := Lib.hid heq
        clear heq
        go_wp2_with fail
        (try rw [hW2])
        (try rw [hga])
        clear x0 x1 x2 hW2 hga
        go_wp2_with fail
        go_roundw
        case rel =>
          obtain ⟨hJ, hjl, hg, hb, hs, _⟩ := HJ.out
          exact ⟨j + 1, by omega, by rw [hJ]; rfl, hg, hb, hs HNE.out⟩
        case measure => obtain ⟨hJ, hjl, _⟩ := HJ.out; simp [intOf]; omega
    · have e1 : decide (J < (q : Int)) = false := by simp; omega
      have hD' : ∀ x ∈ ms, x.who ≠ zw := by rw [List.take_of_length_le (by have := H.out.2.2.2.2.2.2.2.1; omega)] at hD; exact hD
      have c0 := hb.cell 0
      simp only [List.getElem?_toArray, List.getElem?_cons_zero, List.getElem?_cons_succ] at c0
      have HM := Lib.hid (menough_is wr lo hi m V ms (H.out.1.grown hK) H.out.2.2.1 (by have := H.out.2.2.2.1; omega) zk H.out.2.2.2.2.1)
      have HJ := Lib.hid (And.intro hK (And.intro hb hD'))
      clear hJ hjl hj hK hb hD hD'
      go_wp2_with fail
      refine HM.out.mono ?_
      rintro e w5 ⟨rfl, k5⟩
      obtain ⟨bf, hbf⟩ : ∃ bf, enoughS V (fstL (saidM ms zk V.length)) = bf := ⟨_, rfl⟩
      rw [hbf]
      have HBF := Lib.hid hbf
      have hwg5 := grown_trans HJ.out.1 k5
      have HT5 := Lib.hid (And.intro hwg5 (HJ.out.2.1.grown k5 (by simp)))
      clear k5 hwg5 hbf c0
      go_wp2_with fail
      have g7 := grown_drew (World.grownBy.refl w5 none)
      obtain ⟨V2, hV2⟩ : ∃ V2, w5.drew = V2 := ⟨_, rfl⟩
      rw [hV2] at g7
      have hwV := grown_trans HT5.out.1 g7
      have kV : Kept (fun _ => False) w V2 := Kept.of_grown hwV fun _ e => by cases e
      have b7 := HM0.out.2.2.1.grown hwV (by simp)
      have hb7 := HT5.out.2.grown g7 (by simp)
      have o7 := own_kept HM0.out.2.2.2.2.2.1 kV (fun _ _ h => h)
      have k1 := b7.cell 1
      have k2 := hb7.cell 0
      have k3 := hb7.cell 1
      have k4 := hb7.cell 2
      simp only [List.getElem?_toArray, List.getElem?_cons_zero, List.getElem?_cons_succ] at k1 k2 k3 k4
      have hB7 : ∀ g, (Value.slice B0 q d0).ownBlock = some g → hi ≤ g ∧ g ≠ m ∧ g ≠ gb := fun g e => by
        obtain ⟨a, e1, e2⟩ := own_at e
        have hl := HM0.out.2.2.2.2.2.1.lt g e
        exact ⟨hl.1, fun h => HM0.out.2.2.2.2.2.2.1 a e1 (e2.trans h), fun h => by have := HGB.out; omega⟩
      have H7 := Lib.hid (And.intro hwV (And.intro b7 (And.intro (HM0.out.2.2.2.1.grown hwV) (And.intro o7 (And.intro hb7 hB7)))))
      clear g7 hwV kV b7 hb7 o7 hB7
      refine wp_region_held_drew (S := fun V => V.cell? ⟨gb, 0, none⟩ = some (.int .i64 zk) ∧ V.cell? ⟨gb, 1, none⟩ = some (.int .i64 zw) ∧ V.cell? ⟨gb, 2, none⟩ = some (.int .i64 zt)) (by kernel_rfl) (by rw [hV2]; exact ⟨k2, k3, k4⟩) (fun hHeld => ?_)
      rw [hV2] at hHeld ⊢
      refine wpAnyH_take (i := 0) (oi := _) (v := ?va0) rfl (by kernel_rfl) (by kernel_rfl) (by kernel_rfl) (fun _ _ _ h => h) (Or.inl ⟨by rfl, ?hya0⟩) (by assumption) ?resta0
      case hya0 => (intro V hSw; (try dsimp only at hSw); go_simp) <;> with_reducible rfl
      try simp only [Act.put, List.getElem_toArray, List.getElem_cons_succ, List.getElem_cons_zero, List.setIfInBounds_toArray, List.set_cons_zero, List.set_cons_succ]
      refine wpAnyH_take (i := 1) (oi := _) (v := ?va1) rfl (by kernel_rfl) (by kernel_rfl) (by kernel_rfl) (fun _ _ _ h => h) (Or.inl ⟨by rfl, ?hya1⟩) (by assumption) ?resta1
      case hya1 => (intro V hSw; (try dsimp only at hSw); go_simp) <;> with_reducible rfl
      try simp only [Act.put, List.getElem_toArray, List.getElem_cons_succ, List.getElem_cons_zero, List.setIfInBounds_toArray, List.set_cons_zero, List.set_cons_succ]
      refine wpAnyH_take (i := 2) (oi := _) (v := ?va2) rfl (by kernel_rfl) (by kernel_rfl) (by kernel_rfl) (fun _ _ _ h => h) (Or.inl ⟨by rfl, ?hya2⟩) (by assumption) ?resta2
      case hya2 => (intro V hSw; (try dsimp only at hSw); go_simp) <;> with_reducible rfl
      try simp only [Act.put, List.getElem_toArray, List.getElem_cons_succ, List.getElem_cons_zero, List.setIfInBounds_toArray, List.set_cons_zero, List.set_cons_succ]
      refine wpAnyH_take (i := 3) (oi := _) (v := ?va3) rfl (by kernel_rfl) (by kernel_rfl) (by kernel_rfl) (fun _ _ _ h => h) (Or.inl ⟨by rfl, ?hya3⟩) (by assumption) ?resta3
      case hya3 => (intro V hSw; (try dsimp only at hSw); go_simp) <;> with_reducible rfl
      try simp only [Act.put, List.getElem_toArray, List.getElem_cons_succ, List.getElem_cons_zero, List.setIfInBounds_toArray, List.set_cons_zero, List.set_cons_succ]
      refine wpAnyH_take (i := 5) (oi := _) (v := ?va5) rfl (by kernel_rfl) (by kernel_rfl) (by kernel_rfl) (fun _ _ _ h => h) (Or.inl ⟨by rfl, ?hya5⟩) (by assumption) ?resta5
      case hya5 => (intro V hSw; (try dsimp only at hSw); go_simp) <;> with_reducible rfl
      try simp only [Act.put, List.getElem_toArray, List.getElem_cons_succ, List.getElem_cons_zero, List.setIfInBounds_toArray, List.set_cons_zero, List.set_cons_succ]
      refine wpAnyH_ready (rs := [4, 6]) (by kernel_rfl) (by simp) ?_
      refine (AllReadyH.cons (o := _) rfl (fun K9 hK => ?_) (AllReadyH.cons (o := _) rfl (fun K9 hK => ?_) AllReadyH.nil))
      · skip
        go_simp
        refine hK.out _ _ hHeld (fun hHeld => ?_)
        clear hK K9
        try simp only [Act.put, List.getElem_toArray, List.getElem_cons_succ, List.getElem_cons_zero, List.setIfInBounds_toArray, List.set_cons_zero, List.set_cons_succ]
        refine wpAnyH_ready (rs := [6]) (by kernel_rfl) (by simp) ?_
        refine (AllReadyH.cons (o := _) rfl (fun K9 hK => ?_) AllReadyH.nil)
        rw [if_pos (by rfl)]
        refine wp_bslice_run 23 1 0 _ rfl (.agg #[.int .i64 zk, .int .i64 zw, .int .i64 zt]) _ rfl (run_slice_one V2 23 36 #[.int .i64 zk, .int .i64 zw, .int .i64 zt] Tryd.underlying23 (by kernel_rfl) (by kernel_rfl) (by simp) (by simp)) ?_
        have g8 := World.grownBy_alloc V2 (.cells #[.int .i64 zk, .int .i64 zw, .int .i64 zt] 36) none
        have hn8 : Blk (V2.alloc (.cells #[.int .i64 zk, .int .i64 zw, .int .i64 zt] 36)) V2.heap.size 36 #[.int .i64 zk, .int .i64 zw, .int .i64 zt] := Blk.new _ _ _
        have hhi7 : hi ≤ V2.heap.size := Nat.le_trans H.out.2.1 H7.out.1.size
        have k18 := g8.cell k1 (by simp)
        have H8 := Lib.hid (And.intro g8 (And.intro hn8 (And.intro (H7.out.2.2.2.1.alloc (.cells #[.int .i64 zk, .int .i64 zw, .int .i64 zt] 36)) hhi7)))
        refine hK.out _ _ ⟨g8.cell k2 (by simp), g8.cell k3 (by simp), g8.cell k4 (by simp)⟩ (fun hHeld => ?_)
        clear hK K9 g8 hn8 hhi7
        try simp only [Act.put, List.getElem_toArray, List.getElem_cons_succ, List.getElem_cons_zero, List.setIfInBounds_toArray, List.set_cons_zero, List.set_cons_succ]
        refine wpAnyH_ready (rs := [7]) (by kernel_rfl) (by simp) ?_
        refine (AllReadyH.cons (o := _) rfl (fun K9 hK => ?_) AllReadyH.nil)
        rw [if_pos (by rfl)]
        refine wp_push_elem _ _ _ 23 rfl hi 36 i0 _ 3 24 Tryd.underlying23 HI0.out.1 HI0.out.2.1 HI0.out.2.2.1 HI0.out.2.2.2 rfl (by decide) (.slice B0 q d0) q _ rfl H8.out.2.2.1 ⟨V2.heap.size, 0, none⟩ 1 [.int .i64 zk, .int .i64 zw, .int .i64 zt] rfl rfl (fun j u hu => by rw [addr_zero_add, H8.out.2.1.cell]; simpa using hu) (by intro u hu; simp at hu; rcases hu with rfl | rfl | rfl <;> rfl) (by omega) (by decide) (by have := H8.out.1.size; have := H8.out.2.2.2; omega) ?_
        intro A9 c9 w9 hown hg hat
        have hB7 := H7.out.2.2.2.2.2
        have hk9 := Kept.of_grown (F := fun j => (Value.slice B0 q d0).ownBlock = some j) hg (fun j e => e)
        have b9 := (H7.out.2.1.grown H8.out.1 (by simp)).kept hk9 (fun e => (hB7 m e).2.1 rfl)
        have hb9 := (H7.out.2.2.2.2.1.grown H8.out.1 (by simp)).kept hk9 (fun e => (hB7 gb e).2.2 rfl)
        have v9 : VdsAt w9 A V := fun hne => ((H7.out.2.2.1.grown H8.out.1).kept hk9 (fun a e h => by have := HM0.out.2.2.2.2.2.2.2 a e hne; have := (hB7 _ h).1; omega)) hne
        have m0 := b9.cell 1
        have f0 := b9.frozen 1
        simp only [List.getElem?_toArray, List.getElem?_cons_zero, List.getElem?_cons_succ] at m0
        have hmA : ∀ a, A9 = some a → hi ≤ a.block ∧ a.block ≠ m := fun a e => by
          have e2 : (Value.slice A9 (q + 1) c9).ownBlock = some a.block := by rw [e]; rfl
          refine ⟨(hown.lt _ e2).1, fun h => ?_⟩
          rcases hat with h2 | h2
          · exact (hB7 _ (h2.symm.trans e2)).2.1 h
          · have e3 := h2.symm.trans e2
            injection e3 with e3
            rw [World.size_alloc] at e3
            have := H7.out.1.size
            omega
        have hkw9 : Kept (fun j => hi ≤ j ∧ Tch w m j) w w9 := ((Kept.of_grown (F := fun j => hi ≤ j ∧ Tch w m j) H7.out.1 fun _ e => by cases e).next (Kept.of_grown (F := fun _ => False) H8.out.1 fun _ e => by cases e) (fun _ _ h => h.elim)).next hk9 (fun k _ e => ⟨(hB7 k e).1, .inr ⟨B0, q, d0, HC0.out, e⟩⟩)
        have hb10 := b9.set 1 (.slice A9 (q + 1) c9)
        have hK10 : Kept (fun j => j = m) w9 (w9.setCell ⟨m, 1, none⟩ (.slice A9 (q + 1) c9)) := (Kept.refl (fun j => j = m) w9).set (p := ⟨m, 1, none⟩) (.inl rfl) _
        have hT10 : Mod (w9.setCell ⟨m, 1, none⟩ (.slice A9 (q + 1) c9)) lo hi m V (ms ++ [⟨zk, zw, zt⟩]) := by
          have hq7 : ms.length = q := H.out.2.2.2.2.2.2.2.1
          have hn7 : V.length = n := H.out.2.2.2.2.2.2.1
          have hl : (ms ++ [(⟨zk, zw, zt⟩ : Wm)]).length = q + 1 := by rw [List.length_append, hq7, List.length_singleton]
          refine ⟨HM0.out.1, HM0.out.2.1, A, c, A9, c9, ?_, fun hne => (v9.kept hK10 (fun a e h => by have h : a.block = m := h; have := HM0.out.2.2.2.2.2.2.2 a e hne; have := HM0.out.1; omega)) hne, by rw [hn7]; exact HM0.out.2.2.2.2.1, ?_, fun a e => (hmA a e).2, HM0.out.2.2.2.2.2.2.2⟩
          · rw [hl, hn7]; simpa using hb10
          · rw [hl, List.flatMap_append]
            have : List.flatMap Wm.cells [(⟨zk, zw, zt⟩ : Wm)] = [.int .i64 zk, .int .i64 zw, .int .i64 zt] := rfl
            rw [this]
            exact own_kept hown hK10 (fun g e h => by obtain ⟨a, e1, e2⟩ := own_at e; have h : g = m := h; exact (hmA a e1).2 (e2.trans h))
        have hkw10 := hkw9.next hK10 (fun k _ h => by have h : k = m := h; rw [h]; exact ⟨HM0.out.1, .inl rfl⟩)
        have H10 := Lib.hid (And.intro hT10 hkw10)
        refine hK.out _ _ ⟨hb9.cell 0, hb9.cell 1, hb9.cell 2⟩ (fun hHeld => ?_)
        clear hK K9 hown hg hat hB7 hk9 v9 k1 k18 k2 k3 k4 hmA hkw9 hb10 hK10 hT10 hkw10
        try simp only [Act.put, List.getElem_toArray, List.getElem_cons_succ, List.getElem_cons_zero, List.setIfInBounds_toArray, List.set_cons_zero, List.set_cons_succ]
        refine wpAnyH_take (i := 8) (oi := _) (v := ?vb8) rfl (by kernel_rfl) (by kernel_rfl) (by kernel_rfl) (fun _ _ _ h => h) (Or.inl ⟨by rfl, ?hyb8⟩) (by assumption) ?restb8
        case hyb8 => (intro V hSw; (try dsimp only at hSw); go_simp) <;> with_reducible rfl
        try simp only [Act.put, List.getElem_toArray, List.getElem_cons_succ, List.getElem_cons_zero, List.setIfInBounds_toArray, List.set_cons_zero, List.set_cons_succ]
        refine wpAnyH_take (i := 9) (oi := _) (v := ?vb9) rfl (by kernel_rfl) (by kernel_rfl) (by kernel_rfl) (fun _ _ _ h => h) (Or.inl ⟨by rfl, ?hyb9⟩) (by assumption) ?restb9
        case hyb9 => (intro V hSw; (try dsimp only at hSw); go_simp) <;> with_reducible rfl
        try simp only [Act.put, List.getElem_toArray, List.getElem_cons_succ, List.getElem_cons_zero, List.setIfInBounds_toArray, List.set_cons_zero, List.set_cons_succ]
        refine wpAnyH_ready (rs := [10]) (by kernel_rfl) (by simp) ?_
        refine (AllReadyH.cons (o := _) rfl (fun K9 hK => ?_) AllReadyH.nil)
        go_simp
        have hbx : Blk (w9.setCell ⟨m, 1, none⟩ (.slice A9 (q + 1) c9)) gb 36 #[.int .i64 zk, .int .i64 zw, .int .i64 zt] := hb9.kept ((Kept.refl (fun j => j = m) w9).set (p := ⟨m, 1, none⟩) (.inl rfl) _) (fun h => by have h : gb = m := h; have := HGB.out; omega)
        clear b9 hb9 m0 f0
        have hT10 := H10.out.1
        have hk10 := H10.out.2
        generalize w9.setCell ⟨m, 1, none⟩ (.slice A9 (q + 1) c9) = w10 at hT10 hk10 hbx ⊢
        have y0 := hbx.cell 0
        have y1 := hbx.cell 1
        have y2 := hbx.cell 2
        simp only [List.getElem?_toArray, List.getElem?_cons_zero, List.getElem?_cons_succ] at y0 y1 y2
        have HX := Lib.hid (And.intro hT10 (And.intro hk10 hbx))
        clear H10 hT10 hk10 hbx
        refine hK.out _ _ ⟨y0, y1, y2⟩ (fun hHeld => ?_)
        clear hK K9
        refine wpAnyH_done (by kernel_rfl) ?_ _
        cases bf with
        | true =>
          go_wp2_with fail
          refine bodyPost_ret (results_tmp2 rfl _ _ _) rfl ?_
          refine .inr (.inr ⟨hrng, HJ.out.2.2, ?_, HX.out.1, HX.out.2.1⟩)
          rw [← H.out.2.2.2.2.2.2.1, HBF.out]; rfl
        | false =>
          have hs2 := H.out.2.2.2.2.2.1 HJ.out.2.2
          have HM2 := Lib.hid (menough_is w10 lo hi m V (ms ++ [⟨zk, zw, zt⟩]) HX.out.1 H.out.2.2.1 (by have := H.out.2.2.2.1; simp; omega) zk hs2)
          clear hs2
          go_wp2_with fail
          refine HM2.out.mono ?_
          rintro e w11 ⟨rfl, k11⟩
          have K11 := Lib.hid k11
          clear k11
          go_wp2_with fail
          refine bodyPost_ret (results_tmp2 rfl _ _ _) rfl ?_
          refine .inr (.inr ⟨hrng, HJ.out.2.2, ?_, HX.out.1.grown K11.out, HX.out.2.1.next (Kept.of_grown (F := fun _ => False) K11.out fun _ e => by cases e) (fun _ _ h => h.elim)⟩)
          rw [← H.out.2.2.2.2.2.2.1, HBF.out]; rfl
      · skip
        rw [if_pos (by rfl)]
        refine wp_bslice_run 23 1 0 _ rfl (.agg #[.int .i64 zk, .int .i64 zw, .int .i64 zt]) _ rfl (run_slice_one V2 23 36 #[.int .i64 zk, .int .i64 zw, .int .i64 zt] Tryd.underlying23 (by kernel_rfl) (by kernel_rfl) (by simp) (by simp)) ?_
        have g8 := World.grownBy_alloc V2 (.cells #[.int .i64 zk, .int .i64 zw, .int .i64 zt] 36) none
        have hn8 : Blk (V2.alloc (.cells #[.int .i64 zk, .int .i64 zw, .int .i64 zt] 36)) V2.heap.size 36 #[.int .i64 zk, .int .i64 zw, .int .i64 zt] := Blk.new _ _ _
        have hhi7 : hi ≤ V2.heap.size := Nat.le_trans H.out.2.1 H7.out.1.size
        have k18 := g8.cell k1 (by simp)
        have H8 := Lib.hid (And.intro g8 (And.intro hn8 (And.intro (H7.out.2.2.2.1.alloc (.cells #[.int .i64 zk, .int .i64 zw, .int .i64 zt] 36)) hhi7)))
        refine hK.out _ _ ⟨g8.cell k2 (by simp), g8.cell k3 (by simp), g8.cell k4 (by simp)⟩ (fun hHeld => ?_)
        clear hK K9 g8 hn8 hhi7
        try simp only [Act.put, List.getElem_toArray, List.getElem_cons_succ, List.getElem_cons_zero, List.setIfInBounds_toArray, List.set_cons_zero, List.set_cons_succ]
        refine wpAnyH_ready (rs := [4]) (by kernel_rfl) (by simp) ?_
        refine (AllReadyH.cons (o := _) rfl (fun K9 hK => ?_) AllReadyH.nil)
        go_simp
        refine hK.out _ _ hHeld (fun hHeld => ?_)
        clear hK K9
        try simp only [Act.put, List.getElem_toArray, List.getElem_cons_succ, List.getElem_cons_zero, List.setIfInBounds_toArray, List.set_cons_zero, List.set_cons_succ]
        refine wpAnyH_ready (rs := [7]) (by kernel_rfl) (by simp) ?_
        refine (AllReadyH.cons (o := _) rfl (fun K9 hK => ?_) AllReadyH.nil)
        rw [if_pos (by rfl)]
        refine wp_push_elem _ _ _ 23 rfl hi 36 i0 _ 3 24 Tryd.underlying23 HI0.out.1 HI0.out.2.1 HI0.out.2.2.1 HI0.out.2.2.2 rfl (by decide) (.slice B0 q d0) q _ rfl H8.out.2.2.1 ⟨V2.heap.size, 0, none⟩ 1 [.int .i64 zk, .int .i64 zw, .int .i64 zt] rfl rfl (fun j u hu => by rw [addr_zero_add, H8.out.2.1.cell]; simpa using hu) (by intro u hu; simp at hu; rcases hu with rfl | rfl | rfl <;> rfl) (by omega) (by decide) (by have := H8.out.1.size; have := H8.out.2.2.2; omega) ?_
        intro A9 c9 w9 hown hg hat
        have hB7 := H7.out.2.2.2.2.2
        have hk9 := Kept.of_grown (F := fun j => (Value.slice B0 q d0).ownBlock = some j) hg (fun j e => e)
        have b9 := (H7.out.2.1.grown H8.out.1 (by simp)).kept hk9 (fun e => (hB7 m e).2.1 rfl)
        have hb9 := (H7.out.2.2.2.2.1.grown H8.out.1 (by simp)).kept hk9 (fun e => (hB7 gb e).2.2 rfl)
        have v9 : VdsAt w9 A V := fun hne => ((H7.out.2.2.1.grown H8.out.1).kept hk9 (fun a e h => by have := HM0.out.2.2.2.2.2.2.2 a e hne; have := (hB7 _ h).1; omega)) hne
        have m0 := b9.cell 1
        have f0 := b9.frozen 1
        simp only [List.getElem?_toArray, List.getElem?_cons_zero, List.getElem?_cons_succ] at m0
        have hmA : ∀ a, A9 = some a → hi ≤ a.block ∧ a.block ≠ m := fun a e => by
          have e2 : (Value.slice A9 (q + 1) c9).ownBlock = some a.block := by rw [e]; rfl
          refine ⟨(hown.lt _ e2).1, fun h => ?_⟩
          rcases hat with h2 | h2
          · exact (hB7 _ (h2.symm.trans e2)).2.1 h
          · have e3 := h2.symm.trans e2
            injection e3 with e3
            rw [World.size_alloc] at e3
            have := H7.out.1.size
            omega
        have hkw9 : Kept (fun j => hi ≤ j ∧ Tch w m j) w w9 := ((Kept.of_grown (F := fun j => hi ≤ j ∧ Tch w m j) H7.out.1 fun _ e => by cases e).next (Kept.of_grown (F := fun _ => False) H8.out.1 fun _ e => by cases e) (fun _ _ h => h.elim)).next hk9 (fun k _ e => ⟨(hB7 k e).1, .inr ⟨B0, q, d0, HC0.out, e⟩⟩)
        have hb10 := b9.set 1 (.slice A9 (q + 1) c9)
        have hK10 : Kept (fun j => j = m) w9 (w9.setCell ⟨m, 1, none⟩ (.slice A9 (q + 1) c9)) := (Kept.refl (fun j => j = m) w9).set (p := ⟨m, 1, none⟩) (.inl rfl) _
        have hT10 : Mod (w9.setCell ⟨m, 1, none⟩ (.slice A9 (q + 1) c9)) lo hi m V (ms ++ [⟨zk, zw, zt⟩]) := by
          have hq7 : ms.length = q := H.out.2.2.2.2.2.2.2.1
          have hn7 : V.length = n := H.out.2.2.2.2.2.2.1
          have hl : (ms ++ [(⟨zk, zw, zt⟩ : Wm)]).length = q + 1 := by rw [List.length_append, hq7, List.length_singleton]
          refine ⟨HM0.out.1, HM0.out.2.1, A, c, A9, c9, ?_, fun hne => (v9.kept hK10 (fun a e h => by have h : a.block = m := h; have := HM0.out.2.2.2.2.2.2.2 a e hne; have := HM0.out.1; omega)) hne, by rw [hn7]; exact HM0.out.2.2.2.2.1, ?_, fun a e => (hmA a e).2, HM0.out.2.2.2.2.2.2.2⟩
          · rw [hl, hn7]; simpa using hb10
          · rw [hl, List.flatMap_append]
            have : List.flatMap Wm.cells [(⟨zk, zw, zt⟩ : Wm)] = [.int .i64 zk, .int .i64 zw, .int .i64 zt] := rfl
            rw [this]
            exact own_kept hown hK10 (fun g e h => by obtain ⟨a, e1, e2⟩ := own_at e; have h : g = m := h; exact (hmA a e1).2 (e2.trans h))
        have hkw10 := hkw9.next hK10 (fun k _ h => by have h : k = m := h; rw [h]; exact ⟨HM0.out.1, .inl rfl⟩)
        have H10 := Lib.hid (And.intro hT10 hkw10)
        refine hK.out _ _ ⟨hb9.cell 0, hb9.cell 1, hb9.cell 2⟩ (fun hHeld => ?_)
        clear hK K9 hown hg hat hB7 hk9 v9 k1 k18 k2 k3 k4 hmA hkw9 hb10 hK10 hT10 hkw10
        try simp only [Act.put, List.getElem_toArray, List.getElem_cons_succ, List.getElem_cons_zero, List.setIfInBounds_toArray, List.set_cons_zero, List.set_cons_succ]
        refine wpAnyH_take (i := 8) (oi := _) (v := ?vc8) rfl (by kernel_rfl) (by kernel_rfl) (by kernel_rfl) (fun _ _ _ h => h) (Or.inl ⟨by rfl, ?hyc8⟩) (by assumption) ?restc8
        case hyc8 => (intro V hSw; (try dsimp only at hSw); go_simp) <;> with_reducible rfl
        try simp only [Act.put, List.getElem_toArray, List.getElem_cons_succ, List.getElem_cons_zero, List.setIfInBounds_toArray, List.set_cons_zero, List.set_cons_succ]
        refine wpAnyH_take (i := 9) (oi := _) (v := ?vc9) rfl (by kernel_rfl) (by kernel_rfl) (by kernel_rfl) (fun _ _ _ h => h) (Or.inl ⟨by rfl, ?hyc9⟩) (by assumption) ?restc9
        case hyc9 => (intro V hSw; (try dsimp only at hSw); go_simp) <;> with_reducible rfl
        try simp only [Act.put, List.getElem_toArray, List.getElem_cons_succ, List.getElem_cons_zero, List.setIfInBounds_toArray, List.set_cons_zero, List.set_cons_succ]
        refine wpAnyH_ready (rs := [10]) (by kernel_rfl) (by simp) ?_
        refine (AllReadyH.cons (o := _) rfl (fun K9 hK => ?_) AllReadyH.nil)
        go_simp
        have hbx : Blk (w9.setCell ⟨m, 1, none⟩ (.slice A9 (q + 1) c9)) gb 36 #[.int .i64 zk, .int .i64 zw, .int .i64 zt] := hb9.kept ((Kept.refl (fun j => j = m) w9).set (p := ⟨m, 1, none⟩) (.inl rfl) _) (fun h => by have h : gb = m := h; have := HGB.out; omega)
        clear b9 hb9 m0 f0
        have hT10 := H10.out.1
        have hk10 := H10.out.2
        generalize w9.setCell ⟨m, 1, none⟩ (.slice A9 (q + 1) c9) = w10 at hT10 hk10 hbx ⊢
        have y0 := hbx.cell 0
        have y1 := hbx.cell 1
        have y2 := hbx.cell 2
        simp only [List.getElem?_toArray, List.getElem?_cons_zero, List.getElem?_cons_succ] at y0 y1 y2
        have HX := Lib.hid (And.intro hT10 (And.intro hk10 hbx))
        clear H10 hT10 hk10 hbx
        refine hK.out _ _ ⟨y0, y1, y2⟩ (fun hHeld => ?_)
        clear hK K9
        refine wpAnyH_done (by kernel_rfl) ?_ _
        cases bf with
        | true =>
          go_wp2_with fail
          refine bodyPost_ret (results_tmp2 rfl _ _ _) rfl ?_
          refine .inr (.inr ⟨hrng, HJ.out.2.2, ?_, HX.out.1, HX.out.2.1⟩)
          rw [← H.out.2.2.2.2.2.2.1, HBF.out]; rfl
        | false =>
          have hs2 := H.out.2.2.2.2.2.1 HJ.out.2.2
          have HM2 := Lib.hid (menough_is w10 lo hi m V (ms ++ [⟨zk, zw, zt⟩]) HX.out.1 H.out.2.2.1 (by have := H.out.2.2.2.1; simp; omega) zk hs2)
          clear hs2
          go_wp2_with fail
          refine HM2.out.mono ?_
          rintro e w11 ⟨rfl, k11⟩
          have K11 := Lib.hid k11
          clear k11
          go_wp2_with fail
          refine bodyPost_ret (results_tmp2 rfl _ _ _) rfl ?_
          refine .inr (.inr ⟨hrng, HJ.out.2.2, ?_, HX.out.1.grown K11.out, HX.out.2.1.next (Kept.of_grown (F := fun _ => False) K11.out fun _ e => by cases e) (fun _ _ h => h.elim)⟩)
          rw [← H.out.2.2.2.2.2.2.1, HBF.out]; rfl
end Go.Proofs.YthcilpfcdblmkaaDoor
/-
  TallyPlays: the tally and the document's side by side.
-/
namespace Go.Proofs.YthcilpfcdblmkaaDoor
open Go.RowKit

theorem num_is (w : World) (B : Nat) (E : Nat → Addr) (he : ErrEnv w B E) (k : Nat) (hk : k ≤ 18) : Calls Tryd.prog 10 #[evOf E k] w fun en w' => en = .returned (.int .i64 (k : Int)) ∧ w.grownBy w' none := by
  rcases k with _ | k
  · exact (num_nil w).mono fun en w' ⟨h1, h2⟩ => ⟨by rw [h1]; rfl, h2 ▸ World.grownBy.refl _ _⟩
  · exact (num_err w B E k (by omega) he).mono fun en w' ⟨h1, h2⟩ => ⟨by rw [h1]; rfl, h2⟩
/-- The number of Put's error. -/
def codeP (W : List (Wd Int)) (m : Wm) : Nat := if h : 0 ≤ m.who ∧ m.who.toNat < W.length then if W[m.who.toNat].said then 17 else 0 else 1
def yesP (V : List Vd) (W : List (Wd Int)) (m : Wm) : Bool := if codeP W m = 0 then (!enoughS V (whoL W m.key) && enoughS V (whoL (stepW W m) m.key)) else false
theorem codeP_le (W : List (Wd Int)) (m : Wm) : codeP W m ≤ 18 := by
  unfold codeP
  repeat' split
  all_goals omega
theorem code_out {W : List (Wd Int)} {m : Wm} (h : ¬ (0 ≤ m.who ∧ m.who < (W.length : Int))) : codeP W m = 1 ∧ stepW W m = W := by
  constructor
  · unfold codeP; rw [dif_neg (by omega)]
  · unfold stepW; rw [dif_neg (by omega)]
theorem code_twice {W : List (Wd Int)} {m : Wm} {i : Nat} (hi : i < W.length) (hm : m.who = (i : Int)) (hs : W[i].said = true) : codeP W m = 17 ∧ stepW W m = W := by
  have e : m.who.toNat = i := by omega
  constructor
  · unfold codeP; rw [dif_pos (by omega), if_pos (by simp only [e]; exact hs)]
  · unfold stepW; rw [dif_pos (by omega), if_pos (by simp only [e]; exact hs)]
theorem code_put {W : List (Wd Int)} {m : Wm} {i : Nat} (hi : i < W.length) (hm : m.who = (i : Int)) (hs : W[i].said = false) : codeP W m = 0 ∧ stepW W m = W.set i ⟨true, m.key, m.thing⟩ := by
  have e : m.who.toNat = i := by omega
  constructor
  · unfold codeP; rw [dif_pos (by omega), if_neg (by simp only [e, hs]; simp)]
  · unfold stepW; rw [dif_pos (by omega), if_neg (by simp only [e, hs]; simp), e]
theorem putI_code (w : World) (S : Nat → Prop) (t b B : Nat) (V0 : List Vd) (W0 : List (Wd Int)) (h : TalI w S t b V0 W0) (m : Wm) (E : Nat → Addr) (hB : B ≤ w.heap.size) (hBb : B ≤ b) (he : ErrEnv w B E) :
    Calls Tryd.prog 11 #[.pointer (some ⟨t, 0, none⟩), .int .i64 m.key, .int .i64 m.who, .int .i64 m.thing] w fun e w' =>
      e = .returned (.tuple #[.bool (yesP V0 W0 m), evOf E (codeP W0 m)]) ∧ TalI w' S t b V0 (stepW W0 m) ∧ Kept (fun j => j = b) w w' :=
  (putI_is w S t b B V0 W0 h m.key m.who m.thing (E 10) (E 0) (E 16) hB hBb (he.var 10 (by omega)) (he.var 0 (by omega)) (he.var 16 (by omega))).mono fun e w' hp => by
    have hl := h.2.2.2.1
    rcases hp with ⟨hr, rfl, hg⟩ | ⟨i, hi, hw, ⟨hs, rfl, hg⟩ | ⟨hs, rfl, hT, hK⟩⟩
    · obtain ⟨c1, c2⟩ := code_out (W := W0) (m := m) (by rw [hl]; exact hr)
      rw [yesP, c1, c2]
      exact ⟨rfl, h.grown hg, Kept.of_grown (F := fun j => j = b) hg fun _ e => by cases e⟩
    · obtain ⟨c1, c2⟩ := code_twice hi hw hs
      rw [yesP, c1, c2]
      exact ⟨rfl, h.grown hg, Kept.of_grown (F := fun j => j = b) hg fun _ e => by cases e⟩
    · obtain ⟨c1, c2⟩ := code_put hi hw hs
      rw [yesP, c1, c2]
      exact ⟨rfl, hT, hK⟩
theorem agree_len {W : List (Wd Int)} {ms : List Wm} (h : Agree W ms) (key : Int) : (saidM ms key W.length).length = (whoL W key).length := by rw [← said_who h key, List.length_map]
theorem mput_code (w : World) (lo hi m : Nat) (V : List Vd) (ms : List Wm) (W : List (Wd Int)) (hA : Agree W ms) (hW : W.length = V.length) (h : Mod w lo hi m V ms) (hhi : hi ≤ w.heap.size) (hv : V.length ≤ 30) (hm : ms.length ≤ 99) (z : Wm) :
    Calls Tryd.prog 12 #[.pointer (some ⟨m, 0, none⟩), .agg #[.int .i64 z.key, .int .i64 z.who, .int .i64 z.thing]] w fun e w' =>
      e = .returned (.tuple #[.bool (yesP V W z), .int .i64 (codeP W z : Int)]) ∧ Kept (fun j => hi ≤ j ∧ Tch w m j) w w' ∧ ∃ ms', Agree (stepW W z) ms' ∧ Mod w' lo hi m V ms' ∧ ms'.length ≤ ms.length + 1 := by
  have hlen : ∀ {W : List (Wd Int)} {ms : List Wm}, Agree W ms → W.length = V.length → (saidM ms z.key V.length).length ≤ 100 := fun h1 h2 => by
    rw [← h2, agree_len h1]
    exact Nat.le_trans (whoL_length _ z.key) (by omega)
  have hex : (∀ x ∈ ms, x.who ≠ z.who) → 0 ≤ z.who ∧ z.who < (V.length : Int) → ∃ i, ∃ hi : i < W.length, z.who = (i : Int) ∧ W[i].said = false ∧ Agree (W.set i ⟨true, z.key, z.thing⟩) (ms ++ [z]) := fun h1 h2 => by
    have hi : z.who.toNat < W.length := by omega
    refine ⟨z.who.toNat, hi, by omega, ?_, ?_⟩
    · cases hs : W[z.who.toNat].said
      · rfl
      · obtain ⟨x, hx, e⟩ := (agree_twice hA hi).1 hs
        exact absurd (by omega) (h1 x hx)
    · have hs : W[z.who.toNat].said = false := by
        cases hs : W[z.who.toNat].said
        · rfl
        · obtain ⟨x, hx, e⟩ := (agree_twice hA hi).1 hs
          exact absurd (by omega) (h1 x hx)
      have := agree_put hA hi hs z.key z.thing
      have e : (⟨z.key, ((z.who.toNat : Nat) : Int), z.thing⟩ : Wm) = z := by
        obtain ⟨a, b, c⟩ := z
        simp only at *
        congr 1
        omega
      rwa [e] at this
  have hs0 := hlen hA hW
  by_cases hr : 0 ≤ z.who ∧ z.who < (V.length : Int)
  · refine (mput_is w lo hi m V ms h hhi hv hm z hs0 (fun h1 => by
      obtain ⟨i, hi, _, _, h5⟩ := hex h1 hr
      exact hlen h5 (by rw [List.length_set]; exact hW))).mono ?_
    rintro e w' (⟨h1, _⟩ | ⟨_, ⟨x, hx, hxw⟩, rfl, hg⟩ | ⟨_, h1, rfl, hM, hK⟩)
    · exact absurd hr h1
    · have hi9 : z.who.toNat < W.length := by omega
      obtain ⟨c1, c2⟩ := code_twice (m := z) hi9 (by omega) ((agree_twice hA hi9).2 ⟨x, hx, by omega⟩)
      rw [yesP, c1, c2]
      exact ⟨rfl, Kept.of_grown (F := fun j => hi ≤ j ∧ Tch w m j) hg (fun _ e => by cases e), ms, hA, h.grown hg, by omega⟩
    · obtain ⟨i, hi, h3, h4, h5⟩ := hex h1 hr
      obtain ⟨c1, c2⟩ := code_put hi h3 h4
      have w1 : fstL (saidM ms z.key V.length) = whoL W z.key := by rw [← hW]; exact said_who hA z.key
      have w2 : fstL (saidM (ms ++ [z]) z.key V.length) = whoL (W.set i ⟨true, z.key, z.thing⟩) z.key := by
        rw [← hW]
        have := said_who h5 z.key
        rw [List.length_set] at this
        exact this
      rw [yesP, c1, c2, w1, w2]
      exact ⟨rfl, hK, ms ++ [z], h5, hM, by simp⟩
  · refine (mput_is w lo hi m V ms h hhi hv hm z hs0 (fun h1 => by
      have : (saidM (ms ++ [z]) z.key V.length) = saidM ms z.key V.length := by
        unfold saidM
        rw [List.flatMap_def, List.flatMap_def]
        congr 1
        refine List.map_congr_left (fun i hi => ?_)
        have hi := List.mem_range.1 hi
        rw [List.filter_append]
        have : ¬ z.who = (i : Int) := by omega
        simp [this]
      rw [this]; exact hs0)).mono ?_
    rintro e w' (⟨_, rfl, hg⟩ | ⟨h1, _⟩ | ⟨h1, _⟩)
    · obtain ⟨c1, c2⟩ := code_out (W := W) (m := z) (by rw [hW]; exact hr)
      rw [yesP, c1, c2]
      exact ⟨rfl, Kept.of_grown (F := fun j => hi ≤ j ∧ Tch w m j) hg (fun _ e => by cases e), ms, hA, h.grown hg, by omega⟩
    · exact absurd h1 hr
    · exact absurd h1 hr
/-- Said, of a tally that agrees. -/
theorem said_ag (w : World) (lo hi m : Nat) (V : List Vd) (ms : List Wm) (W : List (Wd Int)) (hA : Agree W ms) (hW : W.length = V.length) (h : Mod w lo hi m V ms) (hv : V.length ≤ 30) (hm : ms.length ≤ 100) (key : Int) :
    Calls Tryd.prog 14 #[.pointer (some ⟨m, 0, none⟩), .int .i64 key] w fun e w' => ∃ A1 c1 A2 c2, e = .returned (.tuple #[.slice A1 (whoL W key).length c1, .slice A2 (thgL W key).length c2]) ∧
      IntsAt w' A1 (whoL W key) ∧ IntsAt w' A2 (thgL W key) ∧ (whoL W key).length ≤ c1 ∧ w.grownBy w' none :=
  (said_is w lo hi m V ms h hv hm key).mono fun e w' ⟨A1, c1, A2, c2, he, h1, h2, h3, h4, hg⟩ => by
    have w1 : fstL (saidM ms key V.length) = whoL W key := by rw [← hW]; exact said_who hA key
    have w2 : sndL (saidM ms key V.length) = thgL W key := by rw [← hW]; exact said_thg hA key
    have l1 : (saidM ms key V.length).length = (whoL W key).length := by rw [← w1, fstL_length]
    have l2 : (saidM ms key V.length).length = (thgL W key).length := by rw [← w2, sndL_length]
    refine ⟨A1, c1, A2, c2, ?_, by rw [← w1]; exact h1, by rw [← w2]; exact h2, by rw [← l1]; exact h3, hg⟩
    rw [he, ← l1, ← l2]
theorem menough_ag (w : World) (lo hi m : Nat) (V : List Vd) (ms : List Wm) (W : List (Wd Int)) (hA : Agree W ms) (hW : W.length = V.length) (h : Mod w lo hi m V ms) (hv : V.length ≤ 30) (hm : ms.length ≤ 100) (key : Int) :
    Calls Tryd.prog 21 #[.pointer (some ⟨m, 0, none⟩), .int .i64 key] w fun e w' => e = .returned (.bool (enoughS V (whoL W key))) ∧ w.grownBy w' none :=
  (menough_is w lo hi m V ms h hv hm key (by rw [← hW, agree_len hA]; have := whoL_length W key; omega)).mono fun e w' ⟨he, hg⟩ => by
    have w1 : fstL (saidM ms key V.length) = whoL W key := by rw [← hW]; exact said_who hA key
    rw [w1] at he
    exact ⟨he, hg⟩
end Go.Proofs.YthcilpfcdblmkaaDoor
