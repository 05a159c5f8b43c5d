/-
  KeysApart, walked.
-/
import Derived.Test.YtpldegdcachlmaaDoorKg
namespace Go.Proofs.YtpldegdcachlmaaDoor
open Go.RowKit

/-- Two signatures of the same are the same: by keys.Same. -/
theorem ksigs_eq (w : World) (seed d : List Int) (lf : Int) (i b p c1 c2 b2 c3 p2 c4 : Nat) (hb : DigsAt w b 0 (sigsS seed lf d)) (hp : DigsAt w p 0 (upto (wayC (leavesC seed) i) 5)) (h1 : DigsAt w b2 0 (sigsS seed lf d)) (h2 : DigsAt w p2 0 (upto (wayC (leavesC seed) i) 5)) :
    Calls Tryd.prog 20 #[.agg (sigV lf (.slice (some ⟨b, 0, none⟩) 68 c1) (.slice (some ⟨p, 0, none⟩) 5 c2)), .agg (sigV lf (.slice (some ⟨b2, 0, none⟩) 68 c3) (.slice (some ⟨p2, 0, none⟩) 5 c4))] w fun e w' => e = .returned (.bool true) ∧ w.grownBy w' none := by
  have h := ksame_is w lf lf (some ⟨b, 0, none⟩) (some ⟨p, 0, none⟩) (some ⟨b2, 0, none⟩) (some ⟨p2, 0, none⟩) 68 c1 5 c2 68 c3 5 c4 true true
    (fun z hz => eqs_same z b 0 c1 b2 0 c3 68 _ _ (sigsS_length _ _ _) (sigsS_length _ _ _) (by omega) (sigsS_dig _ _ _) (sigsS_dig _ _ _) (hb.grown hz) (h1.grown hz) true (by simp))
    (fun z hz => eqs_same z p 0 c2 p2 0 c4 5 _ _ (upto_length _ _) (upto_length _ _) (by omega) (way_dig (leavesC_dig _) (fun k => k) i 5) (way_dig (leavesC_dig _) (fun k => k) i 5) (hp.grown hz) (h2.grown hz) true (by simp))
  simpa using h
theorem digs_first {w : World} {g : Nat} {ps : List (List Int)} (hps : ∀ p ∈ ps, isDig p) (h : DigsAt w g 0 ps) (h0 : 0 < ps.length) : ∃ x, w.cell? ⟨g, 0, none⟩ = some (.int .u8 x) := by
  have hl := (getD_dig hps 0).1
  refine ⟨(ps.getD 0 zeroC).getD 0 0, ?_⟩
  have := h 0 h0 0 (.int .u8 ((ps.getD 0 zeroC).getD 0 0)) (by rw [Array.getElem?_toList]; exact arr_get (by omega))
  simpa using this

set_option maxRecDepth 100000 in
set_option maxHeartbeats 8000000 in
theorem apart_main (w : World) (hR : Rounds w) (B : Nat) (E : Nat → Addr) (he : ErrEnv w B E) (seed : List Int) (hs : isDig seed) (d : List Int) (hd : isDig d) (sd dd : Array Value) (hsd : sd = arrV .u8 seed) (hdd : dd = arrV .u8 d) (lf : Int) :
    Calls Tryd.prog 7 #[.agg sd, .agg dd, .int .i64 lf] w fun e w' => e = .returned (.bool true) ∧ w.grownBy w' none := by
  have hz30 := sigz_run
  obtain ⟨i, hi⟩ : ∃ i : Nat, (i : Int) = lf % 32 := ⟨(lf % 32).toNat, by omega⟩
  obtain ⟨hu, hu2⟩ := u64_rem32 lf
  have hi32 : i < 32 := by omega
  obtain ⟨I, hI⟩ : ∃ I : Int, I = lf % 32 := ⟨_, rfl⟩
  rw [← hI] at hu hu2
  have hIi : I = (i : Int) := by omega
  have HA := Lib.hid (fun (z : World) (hz : w.grownBy z none) => keys_alive z (hR.grown hz (by simp)) B E (he.grown hz (by simp)))
  have K1 := Lib.hid (fun (z : World) (hz : w.grownBy z none) => new_is z (hR.grown hz (by simp)) seed hs sd hsd)
  obtain ⟨rt, hrt⟩ : ∃ rt, rt = arrV .u8 (rootC seed) := ⟨_, rfl⟩
  have hqr := eqDG (rootC seed) (rootC_dig seed).1 rt hrt
  have SK := Lib.hid (fun (z : World) kb g cap (hK : KeyAt z kb sd (.slice (some ⟨g, 0, none⟩) 32 cap) (arrV .u8 (rootC seed))) => kroot_is z kb sd rt _ (by rw [hrt]; exact hK) (by rw [hrt, arr_size]; exact (rootC_dig _).1) (by rw [hrt]; exact arr_one _ _))
  have SG := Lib.hid (fun (z : World) (hz : w.grownBy z none) kb g cap hK hD => ksign_is z (hR.grown hz (by simp)) kb g cap seed hs sd (arrV .u8 (rootC seed)) hsd hK hD i hi32 I hIi d hd dd hdd)
  have HS := Lib.hid (show sd.size = 16 ∧ dd.size = 16 from ⟨by rw [hsd, arr_size, hs.1], by rw [hdd, arr_size, hd.1]⟩)
  obtain ⟨sl, hsl⟩ : ∃ l, l = sd.toList := ⟨_, rfl⟩
  have HI := Lib.hid (show (Tryd.prog.info? 23).map (·.size) = some sl.length ∧ sl.toArray = sd ∧ sl = sd.toList from ⟨by rw [hsl, Array.length_toList, HS.out.1]; exact info16, by rw [hsl, Array.toArray_toList], hsl⟩)
  obtain ⟨w1, hw1⟩ : ∃ w1, w1 = (w.alloc (.cells sd 23)).alloc (.cells dd 23) := ⟨_, rfl⟩
  have H1 := Lib.hid (show Blk w1 w.heap.size 23 sd ∧ Blk w1 (w.heap.size + 1) 23 dd ∧ w.grownBy w1 none ∧ w1.heap.size = w.heap.size + 2 from by
    rw [hw1]
    have b2 := Blk.new (w.alloc (.cells sd 23)) 23 dd
    rw [World.size_alloc] at b2
    exact ⟨(Blk.new w 23 sd).alloc _, b2, grown_trans (World.grownBy_alloc w _ none) (World.grownBy_alloc _ _ none), by simp⟩)
  have HW1 := Lib.hid hw1
  clear hw1 hi hI hR he hs hd hsd hdd hrt hsl hi32 hIi
  go_enter Tryd.func7, Tryd.ntmps7
  go_wp2_with fail
  rw [← HW1.out]
  refine (HA.out w1 H1.out.2.2.1).mono ?_
  rintro e w2 ⟨rfl, hk2⟩
  have H2 := Lib.hid (show Blk w2 w.heap.size 23 sd ∧ Blk w2 (w.heap.size + 1) 23 dd ∧ w.grownBy w2 none ∧ w.heap.size + 2 ≤ w2.heap.size from ⟨H1.out.1.grown hk2 (by simp), H1.out.2.1.grown hk2 (by simp), grown_trans H1.out.2.2.1 hk2, by have h1 := hk2.size; have h2 := H1.out.2.2.2; omega⟩)
  clear hk2
  go_wp2_with fail
  have HG0 := Lib.hid (grown_drew (World.grownBy.refl w2 none))
  have SH := Lib.hid (show ∀ V, w2.grownBy V none → V.rangeAt w.heap.size 0 sl from fun V hV => by rw [HI.out.2.2]; exact range_blk (H2.out.1.grown hV (by simp)))
  refine wp_region_held_drew (S := fun V => V.rangeAt w.heap.size 0 sl) (by kernel_rfl) (SH.out _ HG0.out) (fun hHeld => ?_)
  refine wpAnyH_take (i := 0) (oi := _) (v := .agg sl.toArray) rfl (by kernel_rfl) (by kernel_rfl) (by kernel_rfl) (fun _ _ _ h => h) (yieldsIf_load_mid (by rfl) _ _ rfl w.heap.size 0 rfl sl _ (fun V hSw => hSw) Tryd.underlying23 rfl HI.out.1) (by assumption) ?rest0a
  simp only [Act.put, List.getElem_toArray, List.getElem_cons_zero, List.setIfInBounds_toArray, List.set_cons_zero, List.set_cons_succ]
  refine wpAnyH_take (i := 2) (oi := _) (v := .agg sl.toArray) rfl (by kernel_rfl) (by kernel_rfl) (by kernel_rfl) (fun _ _ _ h => h) (yieldsIf_load_mid (by rfl) _ _ rfl w.heap.size 0 rfl sl _ (fun V hSw => hSw) Tryd.underlying23 rfl HI.out.1) (by assumption) ?rest2a
  simp only [Act.put, List.getElem_toArray, List.getElem_cons_succ, List.getElem_cons_zero, List.setIfInBounds_toArray, List.set_cons_zero, List.set_cons_succ]
  refine wpAnyH_ready (rs := [1]) (by kernel_rfl) (by simp) ?_
  refine AllReadyH.cons (o := _) rfl (fun K hK => ?_) AllReadyH.nil
  rw [HI.out.2.1]
  go_simp
  refine (K1.out w2.drew (grown_trans H2.out.2.2.1 HG0.out)).mono ?_
  rintro e w3 ⟨kb, g, cap, rfl, hkb, hg, _, hK, hDg, hne, hk3⟩
  have HK3 := Lib.hid (grown_trans HG0.out hk3)
  have H3 := Lib.hid (show w2.heap.size ≤ kb ∧ w2.heap.size ≤ g ∧ KeyAt w3 kb sd (.slice (some ⟨g, 0, none⟩) 32 cap) (arrV .u8 (rootC seed)) ∧ DigsAt w3 g 0 (leavesC seed) from ⟨hkb, hg, hK, hDg⟩)
  clear hkb hg hK hDg hne hk3
  go_wp2_with fail
  refine hK.out _ _ (SH.out _ HK3.out) (fun hHeld => ?_)
  clear hK K
  try simp only [Act.put, List.setIfInBounds_toArray, List.set_cons_zero, List.set_cons_succ]
  refine wpAnyH_ready (rs := [3]) (by kernel_rfl) (by simp) ?_
  refine AllReadyH.cons (o := _) rfl (fun K hK => ?_) AllReadyH.nil
  go_simp
  refine (K1.out w3 (grown_trans H2.out.2.2.1 HK3.out)).mono ?_
  rintro e w4 ⟨kb2, g2, cap2, rfl, hkb2, hg2, _, hK2, hDg2, hne2, hk4⟩
  have HK4 := Lib.hid (grown_trans HK3.out hk4)
  have H4 := Lib.hid (show KeyAt w4 kb sd (.slice (some ⟨g, 0, none⟩) 32 cap) (arrV .u8 (rootC seed)) ∧ DigsAt w4 g 0 (leavesC seed) ∧ KeyAt w4 kb2 sd (.slice (some ⟨g2, 0, none⟩) 32 cap2) (arrV .u8 (rootC seed)) ∧ DigsAt w4 g2 0 (leavesC seed) ∧ Blk w4 (w.heap.size + 1) 23 dd ∧ w.grownBy w4 none from
    ⟨H3.out.2.2.1.grown hk4, H3.out.2.2.2.grown hk4, hK2, hDg2, H2.out.2.1.grown HK4.out (by simp), grown_trans H2.out.2.2.1 HK4.out⟩)
  clear hkb2 hg2 hK2 hDg2 hne2 hk4
  go_wp2_with fail
  refine hK.out _ _ (SH.out _ HK4.out) (fun hHeld => ?_)
  clear hK K
  try simp only [Act.put, List.setIfInBounds_toArray, List.set_cons_zero, List.set_cons_succ]
  refine wpAnyH_take (i := 4) (oi := _) (v := ?v4a) rfl (by kernel_rfl) (by kernel_rfl) (by kernel_rfl) (fun _ _ _ h => h) (Or.inl ⟨by rfl, ?hy4a⟩) (by assumption) ?rest4a
  case hy4a => (intro V hSw; (try dsimp only at hSw); go_simp) <;> with_reducible rfl
  simp only [Act.put, List.getElem_toArray, List.getElem_cons_succ, List.getElem_cons_zero, List.setIfInBounds_toArray, List.set_cons_zero, List.set_cons_succ]
  refine wpAnyH_take (i := 5) (oi := _) (v := ?v5a) rfl (by kernel_rfl) (by kernel_rfl) (by kernel_rfl) (fun _ _ _ h => h) (Or.inl ⟨by rfl, ?hy5a⟩) (by assumption) ?rest5a
  case hy5a => (intro V hSw; (try dsimp only at hSw); go_simp) <;> with_reducible rfl
  simp only [Act.put, List.getElem_toArray, List.getElem_cons_succ, List.getElem_cons_zero, List.setIfInBounds_toArray, List.set_cons_zero, List.set_cons_succ]
  refine wpAnyH_done (by kernel_rfl) ?_ _
  go_wp2_with (refine wpList_load_row rfl 23 _ rfl (w.heap.size + 1) rfl 23 dd (0, 0) _ H4.out.2.2.2.2.1 Tryd.underlying23 rfl (by rw [HS.out.2]; exact info16) ?_)
  refine (SG.out w4 H4.out.2.2.2.2.2 kb g cap H4.out.1 H4.out.2.1).mono ?_
  rintro e w5 ⟨b, p, pc, rfl, hb, hp, _, hSg, hk5⟩
  have H5 := Lib.hid (And.intro hk5 (And.intro hSg (And.intro hb hp)))
  clear hk5 hSg hb hp
  go_wp2_with (first
    | (refine wpList_store_row rfl 30 _ _ rfl w5.heap.size (sigV I (.slice (some ⟨b, 0, none⟩) 68 68) (.slice (some ⟨p, 0, none⟩) 5 pc)) rfl rfl 30 _ (heap_alloc_new w5 _) (by rw [sigV_size]; exact info3) (by rw [sigV_size]; rfl) (sigV_one _ _ _ _ _ _ _) ?_
       obtain ⟨w6, hw6⟩ : ∃ w6, w6 = (w5.alloc (.cells sigZ 30)).setRow w5.heap.size (sigV I (.slice (some ⟨b, 0, none⟩) 68 68) (.slice (some ⟨p, 0, none⟩) 5 pc)) := ⟨_, rfl⟩
       obtain ⟨qb, hqb⟩ : ∃ qb, qb = w5.heap.size := ⟨_, rfl⟩
       rw [← hw6, ← hqb]
       have H6 := Lib.hid (show Blk w6 qb 30 (sigV I (.slice (some ⟨b, 0, none⟩) 68 68) (.slice (some ⟨p, 0, none⟩) 5 pc)) ∧ SigAt w6 seed I i d b p ∧ w4.grownBy w6 none ∧ w4.heap.size ≤ qb ∧ b < qb ∧ p < qb from by
         rw [hw6, hqb]
         have g6 := grown_row (World.grownBy_alloc w5 (.cells sigZ 30) none) (.inl (Nat.le_refl _)) (sigV I (.slice (some ⟨b, 0, none⟩) 68 68) (.slice (some ⟨p, 0, none⟩) 5 pc))
         exact ⟨(Blk.new w5 30 sigZ).row _, H5.out.2.1.grown g6, grown_trans H5.out.1 g6, H5.out.1.size, (digs_block (sigsS_dig _ _ _) H5.out.2.1.chains (by rw [sigsS_length]; omega)).1, (digs_block (way_dig (leavesC_dig _) (fun k => k) i 5) H5.out.2.1.path (by rw [upto_length]; omega)).1⟩)
       have HD6 := Lib.hid (H4.out.2.2.2.2.1.grown H6.out.2.2.1 (by simp))
       clear hw6 hqb)
    | (refine wpList_load_row rfl 23 _ rfl (w.heap.size + 1) rfl 23 dd (0, 0) _ HD6.out Tryd.underlying23 rfl (by rw [HS.out.2]; exact info16) ?_))
  refine (SG.out w6 (grown_trans H4.out.2.2.2.2.2 H6.out.2.2.1) kb2 g2 cap2 (H4.out.2.2.1.grown H6.out.2.2.1) (H4.out.2.2.2.1.grown H6.out.2.2.1)).mono ?_
  rintro e w7 ⟨b2, p2, pc2, rfl, hb2, hp2, _, hSg2, hk7⟩
  have H7 := Lib.hid (And.intro hk7 (And.intro hSg2 (And.intro hb2 hp2)))
  clear hk7 hSg2 hb2 hp2
  go_wp2_with (first
    | (refine wpList_store_row rfl 30 _ _ rfl w7.heap.size (sigV I (.slice (some ⟨b2, 0, none⟩) 68 68) (.slice (some ⟨p2, 0, none⟩) 5 pc2)) rfl rfl 30 _ (heap_alloc_new w7 _) (by rw [sigV_size]; exact info3) (by rw [sigV_size]; rfl) (sigV_one _ _ _ _ _ _ _) ?_
       obtain ⟨w8, hw8⟩ : ∃ w8, w8 = (w7.alloc (.cells sigZ 30)).setRow w7.heap.size (sigV I (.slice (some ⟨b2, 0, none⟩) 68 68) (.slice (some ⟨p2, 0, none⟩) 5 pc2)) := ⟨_, rfl⟩
       obtain ⟨qc, hqc⟩ : ∃ qc, qc = w7.heap.size := ⟨_, rfl⟩
       rw [← hw8, ← hqc]
       have H8 := Lib.hid (show Blk w8 qb 30 (sigV I (.slice (some ⟨b, 0, none⟩) 68 68) (.slice (some ⟨p, 0, none⟩) 5 pc)) ∧ Blk w8 qc 30 (sigV I (.slice (some ⟨b2, 0, none⟩) 68 68) (.slice (some ⟨p2, 0, none⟩) 5 pc2)) ∧ SigAt w8 seed I i d b p ∧ SigAt w8 seed I i d b2 p2 ∧ w4.grownBy w8 none ∧ w6.heap.size ≤ qc ∧ w6.heap.size ≤ b2 ∧ w6.heap.size ≤ p2 from by
         rw [hw8, hqc]
         have g8 := grown_row (World.grownBy_alloc w7 (.cells sigZ 30) none) (.inl (Nat.le_refl _)) (sigV I (.slice (some ⟨b2, 0, none⟩) 68 68) (.slice (some ⟨p2, 0, none⟩) 5 pc2))
         have g68 := grown_trans H7.out.1 g8
         exact ⟨H6.out.1.grown g68 (by simp), (Blk.new w7 30 sigZ).row _, H6.out.2.1.grown g68, H7.out.2.1.grown g8, grown_trans H6.out.2.2.1 g68, H7.out.1.size, H7.out.2.2.1, H7.out.2.2.2⟩)
       clear hw8 hqc))
  refine (SK.out w8 kb g cap (H4.out.1.grown H8.out.2.2.2.2.1)).mono ?_
  rintro e w9 ⟨rfl, hk9⟩
  have HK9 := Lib.hid hk9
  clear hk9
  go_wp2_with fail
  refine (SK.out w9 kb2 g2 cap2 (H4.out.2.2.1.grown (grown_trans H8.out.2.2.2.2.1 HK9.out))).mono ?_
  rintro e wA ⟨rfl, hkA⟩
  have HKA := Lib.hid (grown_trans HK9.out hkA)
  have HBA := Lib.hid (show Blk wA qb 30 (sigV I (.slice (some ⟨b, 0, none⟩) 68 68) (.slice (some ⟨p, 0, none⟩) 5 pc)) ∧ Blk wA qc 30 (sigV I (.slice (some ⟨b2, 0, none⟩) 68 68) (.slice (some ⟨p2, 0, none⟩) 5 pc2)) from ⟨H8.out.1.grown HKA.out (by simp), H8.out.2.1.grown HKA.out (by simp)⟩)
  clear hkA
  go_wp2_with (first
    | (refine wpList_load_row_w (by rfl) 30 _ rfl qb rfl 30 (sigV I (.slice (some ⟨b, 0, none⟩) 68 68) (.slice (some ⟨p, 0, none⟩) 5 pc)) (0, 0) _ HBA.out.1 Tryd.underlying30 rfl (by rw [sigV_size]; exact info3) ?_)
    | (refine wpList_load_row_w (by rfl) 30 _ rfl qc rfl 30 (sigV I (.slice (some ⟨b2, 0, none⟩) 68 68) (.slice (some ⟨p2, 0, none⟩) 5 pc2)) (0, 0) _ HBA.out.2 Tryd.underlying30 rfl (by rw [sigV_size]; exact info3) ?_))
  refine (ksigs_eq wA seed d I i b p 68 pc b2 68 p2 pc2 (H8.out.2.2.1.grown HKA.out).chains (H8.out.2.2.1.grown HKA.out).path (H8.out.2.2.2.1.grown HKA.out).chains (H8.out.2.2.2.1.grown HKA.out).path).mono ?_
  rintro e wB ⟨rfl, hkB⟩
  have HKB := Lib.hid (grown_trans HKA.out hkB)
  clear hkB
  go_wp2_with fail
  have HX := Lib.hid (show SigAt wB seed I i d b p ∧ SigAt wB seed I i d b2 p2 ∧ Blk wB qb 30 (sigV I (.slice (some ⟨b, 0, none⟩) 68 68) (.slice (some ⟨p, 0, none⟩) 5 pc)) ∧ Blk wB qc 30 (sigV I (.slice (some ⟨b2, 0, none⟩) 68 68) (.slice (some ⟨p2, 0, none⟩) 5 pc2)) ∧ w4.grownBy wB none from ⟨H8.out.2.2.1.grown HKB.out, H8.out.2.2.2.1.grown HKB.out, H8.out.1.grown HKB.out (by simp), H8.out.2.1.grown HKB.out (by simp), grown_trans H8.out.2.2.2.2.1 HKB.out⟩)
  have HNE := Lib.hid (show b ≠ qb ∧ p ≠ qb ∧ b ≠ qc ∧ p ≠ qc ∧ b ≠ b2 ∧ b ≠ p2 ∧ p ≠ b2 ∧ p ≠ p2 ∧ b ≠ p ∧ w4.heap.size ≤ b ∧ w4.heap.size ≤ p from by
    have h1 := H6.out.1.lt
    have h2 := H6.out.2.2.2.2.1
    have h3 := H6.out.2.2.2.2.2
    have h4 := H8.out.2.2.2.2.2.1
    have h5 := H8.out.2.2.2.2.2.2.1
    have h6 := H8.out.2.2.2.2.2.2.2
    have h7 := H5.out.2.2.1
    have h8 := H5.out.2.2.2
    have h9 := HX.out.1.apart
    refine ⟨?_, ?_, ?_, ?_, ?_, ?_, ?_, ?_, h9, h7, h8⟩ <;> omega)
  obtain ⟨xu, hxu⟩ := digs_first (sigsS_dig seed I d) HX.out.1.chains (by rw [sigsS_length]; omega)
  have hfu : wB.frozen? ⟨b, 0, none⟩ = false := (HX.out.1.bthere 0 (by omega)).2
  have hcu : wB.cell? ⟨qb, 1, none⟩ = some (.slice (some ⟨b, 0, none⟩) 68 68) := HX.out.2.2.1.cell 1
  have HFu := Lib.hid (And.intro hxu hfu)
  refine wp_region_held_drew (S := fun V => V.cell? ⟨qb, 1, none⟩ = some (.slice (some ⟨b, 0, none⟩) 68 68)) (by kernel_rfl) (by rw [World.cell?_drew]; exact hcu) (fun hHeld => ?_)
  refine wpAnyH_take (i := 0) (oi := _) (v := ?v0u) rfl (by kernel_rfl) (by kernel_rfl) (by kernel_rfl) (fun _ _ _ h => h) (Or.inl ⟨by rfl, ?hy0u⟩) (by assumption) ?rest0u
  case hy0u => (intro V hSw; (try dsimp only at hSw); go_simp) <;> with_reducible rfl
  simp only [Act.put, List.getElem_toArray, List.getElem_cons_zero, List.setIfInBounds_toArray, List.set_cons_zero, List.set_cons_succ]
  refine wpAnyH_take (i := 1) (oi := _) (v := ?v1u) rfl (by kernel_rfl) (by kernel_rfl) (by kernel_rfl) (fun _ _ _ h => h) (Or.inl ⟨by rfl, ?hy1u⟩) (by assumption) ?rest1u
  case hy1u => (intro V hSw; (try dsimp only at hSw); go_simp) <;> with_reducible rfl
  simp only [Act.put, List.getElem_toArray, List.getElem_cons_succ, List.getElem_cons_zero, List.setIfInBounds_toArray, List.set_cons_zero, List.set_cons_succ]
  refine wpAnyH_take (i := 2) (oi := _) (v := ?v2u) rfl (by kernel_rfl) (by kernel_rfl) (by kernel_rfl) (fun _ _ _ h => h) (Or.inl ⟨by rfl, ?hy2u⟩) (by assumption) ?rest2u
  case hy2u => (intro V hSw; (try dsimp only at hSw); go_simp) <;> with_reducible rfl
  simp only [Act.put, List.getElem_toArray, List.getElem_cons_succ, List.getElem_cons_zero, List.setIfInBounds_toArray, List.set_cons_zero, List.set_cons_succ]
  refine wpAnyH_take (i := 3) (oi := _) (v := ?v3u) rfl (by kernel_rfl) (by kernel_rfl) (by kernel_rfl) (fun _ _ _ h => h) (Or.inl ⟨by rfl, ?hy3u⟩) (by assumption) ?rest3u
  case hy3u => (intro V hSw; (try dsimp only at hSw); go_simp) <;> with_reducible rfl
  simp only [Act.put, List.getElem_toArray, List.getElem_cons_succ, List.getElem_cons_zero, List.setIfInBounds_toArray, List.set_cons_zero, List.set_cons_succ]
  refine wpAnyH_take (i := 6) (oi := _) (v := ?v6u) rfl (by kernel_rfl) (by kernel_rfl) (by kernel_rfl) (fun _ _ _ h => h) (Or.inl ⟨by rfl, ?hy6u⟩) (by assumption) ?rest6u
  case hy6u => (intro V hSw; (try dsimp only at hSw); go_simp) <;> with_reducible rfl
  simp only [Act.put, List.getElem_toArray, List.getElem_cons_succ, List.getElem_cons_zero, List.setIfInBounds_toArray, List.set_cons_zero, List.set_cons_succ]
  refine wpAnyH_ready (rs := [4]) (by kernel_rfl) (by simp) ?_
  refine AllReadyH.cons (o := _) rfl (fun K hK => ?_) AllReadyH.nil
  go_simp
  refine hK.out _ _ (hHeld) (fun hHeld => ?_)
  clear hK K
  try simp only [Act.put, List.setIfInBounds_toArray, List.set_cons_zero, List.set_cons_succ]
  refine wpAnyH_take (i := 5) (oi := _) (v := ?v5u) rfl (by kernel_rfl) (by kernel_rfl) (by kernel_rfl) (fun _ _ _ h => h) (Or.inl ⟨by rfl, ?hy5u⟩) (by assumption) ?rest5u
  case hy5u => (intro V hSw; (try dsimp only at hSw); go_simp) <;> with_reducible rfl
  simp only [Act.put, List.getElem_toArray, List.getElem_cons_succ, List.getElem_cons_zero, List.setIfInBounds_toArray, List.set_cons_zero, List.set_cons_succ]
  refine wpAnyH_take (i := 7) (oi := _) (v := ?v7u) rfl (by kernel_rfl) (by kernel_rfl) (by kernel_rfl) (fun _ _ _ h => h) (Or.inl ⟨by rfl, ?hy7u⟩) (by assumption) ?rest7u
  case hy7u => (intro V hSw; (try dsimp only at hSw); go_simp) <;> with_reducible rfl
  simp only [Act.put, List.getElem_toArray, List.getElem_cons_succ, List.getElem_cons_zero, List.setIfInBounds_toArray, List.set_cons_zero, List.set_cons_succ]
  refine wpAnyH_ready (rs := [8]) (by kernel_rfl) (by simp) ?_
  refine AllReadyH.cons (o := _) rfl (fun K hK => ?_) AllReadyH.nil
  go_simp
  have hgu : wB.grownBy ((wB.setCell ⟨b, 0, none⟩ (.int .u8 (IntKind.u8.wrap (xu + 1)))).drew) (some b) := grown_drew (grownBy_setCell' _ _ _)
  refine hK.out _ _ (by rw [World.cell?_drew]; exact (grownBy_setCell' wB b _).cell hcu (fun e => HNE.out.1 (Option.some.inj e).symm)) (fun hHeld => ?_)
  clear hK K
  try simp only [Act.put, List.setIfInBounds_toArray, List.set_cons_zero, List.set_cons_succ]
  refine wpAnyH_done (by kernel_rfl) ?_ _
  obtain ⟨wC, hwC⟩ : ∃ z, z = (wB.setCell ⟨b, 0, none⟩ (.int .u8 (IntKind.u8.wrap (xu + 1)))).drew := ⟨_, rfl⟩
  rw [← hwC] at hgu ⊢
  have HGu := Lib.hid hgu
  clear hwC hgu hxu hfu hcu
  go_wp2_with fail
  have HXC := Lib.hid (show DigsAt wC p 0 (upto (wayC (leavesC seed) i) 5) ∧ wC.there p 0 80 ∧ SigAt wC seed I i d b2 p2 ∧ Blk wC qb 30 (sigV I (.slice (some ⟨b, 0, none⟩) 68 68) (.slice (some ⟨p, 0, none⟩) 5 pc)) ∧ Blk wC qc 30 (sigV I (.slice (some ⟨b2, 0, none⟩) 68 68) (.slice (some ⟨p2, 0, none⟩) 5 pc2)) from
    ⟨fun j hj => range_to (HX.out.1.path j hj) HGu.out (fun e => HNE.out.2.2.2.2.2.2.2.2.1 (Option.some.inj e).symm), there_to HX.out.1.pthere HGu.out (fun e => HNE.out.2.2.2.2.2.2.2.2.1 (Option.some.inj e).symm), HX.out.2.1.to HGu.out (fun e => HNE.out.2.2.2.2.1 (Option.some.inj e).symm) (fun e => HNE.out.2.2.2.2.2.1 (Option.some.inj e).symm), HX.out.2.2.1.grown HGu.out (fun e => HNE.out.1 (Option.some.inj e).symm), HX.out.2.2.2.1.grown HGu.out (fun e => HNE.out.2.2.1 (Option.some.inj e).symm)⟩)
  obtain ⟨xv, hxv⟩ := digs_first (way_dig (leavesC_dig seed) (fun k => k) i 5) HXC.out.1 (by rw [upto_length]; omega)
  have hfv : wC.frozen? ⟨p, 0, none⟩ = false := (HXC.out.2.1 0 (by omega)).2
  have hcv : wC.cell? ⟨qb, 2, none⟩ = some (.slice (some ⟨p, 0, none⟩) 5 pc) := HXC.out.2.2.2.1.cell 2
  have HFv := Lib.hid (And.intro hxv hfv)
  refine wp_region_held_drew (S := fun V => V.cell? ⟨qb, 2, none⟩ = some (.slice (some ⟨p, 0, none⟩) 5 pc)) (by kernel_rfl) (by rw [World.cell?_drew]; exact hcv) (fun hHeld => ?_)
  refine wpAnyH_take (i := 0) (oi := _) (v := ?v0v) rfl (by kernel_rfl) (by kernel_rfl) (by kernel_rfl) (fun _ _ _ h => h) (Or.inl ⟨by rfl, ?hy0v⟩) (by assumption) ?rest0v
  case hy0v => (intro V hSw; (try dsimp only at hSw); go_simp) <;> with_reducible rfl
  simp only [Act.put, List.getElem_toArray, List.getElem_cons_zero, List.setIfInBounds_toArray, List.set_cons_zero, List.set_cons_succ]
  refine wpAnyH_take (i := 1) (oi := _) (v := ?v1v) rfl (by kernel_rfl) (by kernel_rfl) (by kernel_rfl) (fun _ _ _ h => h) (Or.inl ⟨by rfl, ?hy1v⟩) (by assumption) ?rest1v
  case hy1v => (intro V hSw; (try dsimp only at hSw); go_simp) <;> with_reducible rfl
  simp only [Act.put, List.getElem_toArray, List.getElem_cons_succ, List.getElem_cons_zero, List.setIfInBounds_toArray, List.set_cons_zero, List.set_cons_succ]
  refine wpAnyH_take (i := 2) (oi := _) (v := ?v2v) rfl (by kernel_rfl) (by kernel_rfl) (by kernel_rfl) (fun _ _ _ h => h) (Or.inl ⟨by rfl, ?hy2v⟩) (by assumption) ?rest2v
  case hy2v => (intro V hSw; (try dsimp only at hSw); go_simp) <;> with_reducible rfl
  simp only [Act.put, List.getElem_toArray, List.getElem_cons_succ, List.getElem_cons_zero, List.setIfInBounds_toArray, List.set_cons_zero, List.set_cons_succ]
  refine wpAnyH_take (i := 3) (oi := _) (v := ?v3v) rfl (by kernel_rfl) (by kernel_rfl) (by kernel_rfl) (fun _ _ _ h => h) (Or.inl ⟨by rfl, ?hy3v⟩) (by assumption) ?rest3v
  case hy3v => (intro V hSw; (try dsimp only at hSw); go_simp) <;> with_reducible rfl
  simp only [Act.put, List.getElem_toArray, List.getElem_cons_succ, List.getElem_cons_zero, List.setIfInBounds_toArray, List.set_cons_zero, List.set_cons_succ]
  refine wpAnyH_take (i := 6) (oi := _) (v := ?v6v) rfl (by kernel_rfl) (by kernel_rfl) (by kernel_rfl) (fun _ _ _ h => h) (Or.inl ⟨by rfl, ?hy6v⟩) (by assumption) ?rest6v
  case hy6v => (intro V hSw; (try dsimp only at hSw); go_simp) <;> with_reducible rfl
  simp only [Act.put, List.getElem_toArray, List.getElem_cons_succ, List.getElem_cons_zero, List.setIfInBounds_toArray, List.set_cons_zero, List.set_cons_succ]
  refine wpAnyH_ready (rs := [4]) (by kernel_rfl) (by simp) ?_
  refine AllReadyH.cons (o := _) rfl (fun K hK => ?_) AllReadyH.nil
  go_simp
  refine hK.out _ _ (hHeld) (fun hHeld => ?_)
  clear hK K
  try simp only [Act.put, List.setIfInBounds_toArray, List.set_cons_zero, List.set_cons_succ]
  refine wpAnyH_take (i := 5) (oi := _) (v := ?v5v) rfl (by kernel_rfl) (by kernel_rfl) (by kernel_rfl) (fun _ _ _ h => h) (Or.inl ⟨by rfl, ?hy5v⟩) (by assumption) ?rest5v
  case hy5v => (intro V hSw; (try dsimp only at hSw); go_simp) <;> with_reducible rfl
  simp only [Act.put, List.getElem_toArray, List.getElem_cons_succ, List.getElem_cons_zero, List.setIfInBounds_toArray, List.set_cons_zero, List.set_cons_succ]
  refine wpAnyH_take (i := 7) (oi := _) (v := ?v7v) rfl (by kernel_rfl) (by kernel_rfl) (by kernel_rfl) (fun _ _ _ h => h) (Or.inl ⟨by rfl, ?hy7v⟩) (by assumption) ?rest7v
  case hy7v => (intro V hSw; (try dsimp only at hSw); go_simp) <;> with_reducible rfl
  simp only [Act.put, List.getElem_toArray, List.getElem_cons_succ, List.getElem_cons_zero, List.setIfInBounds_toArray, List.set_cons_zero, List.set_cons_succ]
  refine wpAnyH_ready (rs := [8]) (by kernel_rfl) (by simp) ?_
  refine AllReadyH.cons (o := _) rfl (fun K hK => ?_) AllReadyH.nil
  go_simp
  have hgv : wC.grownBy ((wC.setCell ⟨p, 0, none⟩ (.int .u8 (IntKind.u8.wrap (xv + 1)))).drew) (some p) := grown_drew (grownBy_setCell' _ _ _)
  refine hK.out _ _ (by rw [World.cell?_drew]; exact (grownBy_setCell' wC p _).cell hcv (fun e => HNE.out.2.1 (Option.some.inj e).symm)) (fun hHeld => ?_)
  clear hK K
  try simp only [Act.put, List.setIfInBounds_toArray, List.set_cons_zero, List.set_cons_succ]
  refine wpAnyH_done (by kernel_rfl) ?_ _
  obtain ⟨wD, hwD⟩ : ∃ z, z = (wC.setCell ⟨p, 0, none⟩ (.int .u8 (IntKind.u8.wrap (xv + 1)))).drew := ⟨_, rfl⟩
  rw [← hwD] at hgv ⊢
  have HGv := Lib.hid hgv
  clear hwD hgv hxv hfv hcv
  have HD := Lib.hid (show SigAt wD seed I i d b2 p2 ∧ Blk wD qc 30 (sigV I (.slice (some ⟨b2, 0, none⟩) 68 68) (.slice (some ⟨p2, 0, none⟩) 5 pc2)) ∧ KeyAt wD kb sd (.slice (some ⟨g, 0, none⟩) 32 cap) (arrV .u8 (rootC seed)) ∧ DigsAt wD g 0 (leavesC seed) ∧ Blk wD (w.heap.size + 1) 23 dd ∧ w.grownBy wD none from by
    have g4 := HX.out.2.2.2.2
    have hn := HNE.out
    have hkb := H4.out.1.lt
    have hgl := (digs_block (leavesC_dig seed) H4.out.2.1 (by rw [leavesC_length]; omega)).1
    have hw4 := H4.out.2.2.2.2.2.size
    have hdl := H4.out.2.2.2.2.1.lt
    have e1 : ∀ q, q < w4.heap.size → some q ≠ some b ∧ some q ≠ some p := fun q hq => ⟨fun e => by have := Option.some.inj e; omega, fun e => by have := Option.some.inj e; omega⟩
    refine ⟨HXC.out.2.2.1.to HGv.out (fun e => hn.2.2.2.2.2.2.1 (Option.some.inj e).symm) (fun e => hn.2.2.2.2.2.2.2.1 (Option.some.inj e).symm), HXC.out.2.2.2.2.grown HGv.out (fun e => hn.2.2.2.1 (Option.some.inj e).symm), ?_, ?_, ?_, ?_⟩
    · exact ((H4.out.1.grown g4).to HGu.out (e1 _ hkb).1).to HGv.out (e1 _ hkb).2
    · exact fun j hj => range_to (range_to ((H4.out.2.1.grown g4) j hj) HGu.out (e1 _ hgl).1) HGv.out (e1 _ hgl).2
    · exact ((H4.out.2.2.2.2.1.grown g4 (by simp)).grown HGu.out (e1 _ hdl).1).grown HGv.out (e1 _ hdl).2
    · exact grown_fresh (grown_fresh (grown_trans H4.out.2.2.2.2.2 g4) HGu.out (by omega)) HGv.out (by omega))
  go_wp2_with (refine wpList_load_row rfl 23 _ rfl (w.heap.size + 1) rfl 23 dd (0, 0) _ HD.out.2.2.2.2.1 Tryd.underlying23 rfl (by rw [HS.out.2]; exact info16) ?_)
  refine (SG.out wD HD.out.2.2.2.2.2 kb g cap HD.out.2.2.1 HD.out.2.2.2.1).mono ?_
  rintro e wE ⟨b3, p3, pc3, rfl, _, _, _, hSg3, hkE⟩
  have HE' := Lib.hid (And.intro hkE hSg3)
  clear hkE hSg3
  go_wp2_with (first
    | (refine wpList_store_row rfl 30 _ _ rfl wE.heap.size (sigV I (.slice (some ⟨b3, 0, none⟩) 68 68) (.slice (some ⟨p3, 0, none⟩) 5 pc3)) rfl rfl 30 _ (heap_alloc_new wE _) (by rw [sigV_size]; exact info3) (by rw [sigV_size]; rfl) (sigV_one _ _ _ _ _ _ _) ?_
       obtain ⟨wF, hwF⟩ : ∃ z, z = (wE.alloc (.cells sigZ 30)).setRow wE.heap.size (sigV I (.slice (some ⟨b3, 0, none⟩) 68 68) (.slice (some ⟨p3, 0, none⟩) 5 pc3)) := ⟨_, rfl⟩
       obtain ⟨qd, hqd⟩ : ∃ q, q = wE.heap.size := ⟨_, rfl⟩
       rw [← hwF, ← hqd]
       have HFF := Lib.hid (show Blk wF qd 30 (sigV I (.slice (some ⟨b3, 0, none⟩) 68 68) (.slice (some ⟨p3, 0, none⟩) 5 pc3)) ∧ Blk wF qc 30 (sigV I (.slice (some ⟨b2, 0, none⟩) 68 68) (.slice (some ⟨p2, 0, none⟩) 5 pc2)) ∧ SigAt wF seed I i d b3 p3 ∧ SigAt wF seed I i d b2 p2 ∧ w.grownBy wF none from by
         rw [hwF, hqd]
         have gF := grown_row (World.grownBy_alloc wE (.cells sigZ 30) none) (.inl (Nat.le_refl _)) (sigV I (.slice (some ⟨b3, 0, none⟩) 68 68) (.slice (some ⟨p3, 0, none⟩) 5 pc3))
         have gDF := grown_trans HE'.out.1 gF
         exact ⟨(Blk.new wE 30 sigZ).row _, HD.out.2.1.grown gDF (by simp), HE'.out.2.grown gF, HD.out.1.grown gDF, grown_trans HD.out.2.2.2.2.2 gDF⟩)
       clear hwF hqd)
    | (refine wpList_load_row_w (by rfl) 30 _ rfl qd rfl 30 (sigV I (.slice (some ⟨b3, 0, none⟩) 68 68) (.slice (some ⟨p3, 0, none⟩) 5 pc3)) (0, 0) _ HFF.out.1 Tryd.underlying30 rfl (by rw [sigV_size]; exact info3) ?_)
    | (refine wpList_load_row_w (by rfl) 30 _ rfl qc rfl 30 (sigV I (.slice (some ⟨b2, 0, none⟩) 68 68) (.slice (some ⟨p2, 0, none⟩) 5 pc2)) (0, 0) _ HFF.out.2.1 Tryd.underlying30 rfl (by rw [sigV_size]; exact info3) ?_))
  refine (ksigs_eq wF seed d I i b3 p3 68 pc3 b2 68 p2 pc2 HFF.out.2.2.1.chains HFF.out.2.2.1.path HFF.out.2.2.2.1.chains HFF.out.2.2.2.1.path).mono ?_
  rintro e wG ⟨rfl, hkG⟩
  have HKG := Lib.hid (grown_trans HFF.out.2.2.2.2 hkG)
  clear hkG
  go_wp2_with fail
  go_ret
  exact ⟨rfl, HKG.out⟩
end Go.Proofs.YtpldegdcachlmaaDoor
