/-
  quorateref05.Leaves and Sign; keys.Left.
-/
import Derived.Test.YtpldegdcachlmaaDoorKs
namespace Go.Proofs.YtpldegdcachlmaaDoor
open Go.RowKit

theorem digs_off_box {w : World} {b q : Nat} {ps : List (List Int)} {t : TypeId} {cs : Array Value} (hps : ∀ p ∈ ps, isDig p) (h : DigsAt w b 0 ps) (h0 : 0 < ps.length) (hB : Blk w q t cs) (hc : cs.size ≤ 15) : b ≠ q := by
  intro e
  subst e
  have hl0 := (getD_dig hps 0).1
  have h1 := h 0 h0 15 (.int .u8 ((ps.getD 0 zeroC).getD 15 0)) (by rw [Array.getElem?_toList]; exact arr_get (by omega))
  rw [hB.cell, Array.getElem?_eq_none (by omega)] at h1
  cases h1
theorem rpub_of (w : World) (seed : List Int) (hs : isDig seed) (iv : Int) (k : Nat) (hi : iv = (k : Int)) (sd rs : Array Value) (hsd : sd = arrV .u8 seed) (hrs : rs = leafV seed k) :
    Calls Tryd.prog 23 #[.agg sd, .int .i64 iv] w fun e w' => e = .returned (.agg rs) ∧ w.grownBy w' none := by
  subst hi
  exact rpub_v w seed hs (k : Int) sd rs hsd (by rw [hrs, leafV])
set_option maxRecDepth 100000 in
set_option maxHeartbeats 4000000 in
theorem rleaves_is (w : World) (seed : List Int) (hs : isDig seed) (sd : Array Value) (hsd : sd = arrV .u8 seed) :
    Calls Tryd.prog 10 #[.agg sd] w fun e w' => ∃ g cap, e = .returned (.slice (some ⟨g, 0, none⟩) 32 cap) ∧ 32 ≤ cap ∧ w.heap.size ≤ g ∧ DigsAt w' g 0 (leavesC seed) ∧ w.grownBy w' none := by
  obtain ⟨i0, hi0, hz0, hz1, hz2⟩ := info_parts info16p
  have HI0 := Lib.hid (And.intro hi0 (And.intro hz0 (And.intro hz1 hz2)))
  have HBS := Lib.hid (show ∀ (es : Array Value), es.size = 16 → ∀ V : World, Sem.run Tryd.prog (Instr.buildSlice 27 1 #[(0, .agg es)]) V = .ok (.slice (some ⟨V.heap.size, 0, none⟩) 1 1) (V.alloc (.cells es 23)) from fun es he V =>
    run_slice_one V 27 23 es Tryd.underlying27 (by rw [he]; exact info16) (by rw [he]; kernel_rfl) (by omega) (by omega))
  have HD := Lib.hid (show sd.size = 16 by rw [hsd, arr_size, hs.1])
  have HN := Lib.hid (And.intro hs hsd)
  have hown := World.ownsRow_lit (base := w.heap.size + 1) (e := 23) (size := 16) (w.alloc (.cells sd 23)) #[] 0 (by rw [World.size_alloc]; omega) (by decide) rfl
  rw [World.size_alloc] at hown
  obtain ⟨w1, hw1⟩ : ∃ w1, w1 = (w.alloc (.cells sd 23)).alloc (.cells #[] 23) := ⟨_, rfl⟩
  rw [← hw1] at hown
  have H1 := Lib.hid (show Blk w1 w.heap.size 23 sd ∧ w.grownBy w1 none ∧ w1.ownsRow (w.heap.size + 1) 23 16 (.slice (some ⟨w.heap.size + 1, 0, none⟩) 0 0) 0 (rowV (leafV seed) 0) ∧ w1.heap.size = w.heap.size + 2 from ⟨by rw [hw1]; exact (Blk.new w 23 sd).alloc _, by rw [hw1]; exact grown_trans (World.grownBy_alloc w _ none) (World.grownBy_alloc _ _ none), hown, by rw [hw1]; simp⟩)
  have HW1 := Lib.hid hw1
  clear hs hsd hi0 hz0 hz1 hz2 hown hw1
  go_enter Tryd.func10, Tryd.ntmps10
  go_wp2_with fail
  rw [← HW1.out]
  go_loopw [4, 3] (fun i v wr => ∃ k : Nat, k ≤ 32 ∧ i = .int .i64 (k : Int) ∧ wr.ownsRow (w.heap.size + 1) 23 16 v k (rowV (leafV seed) k) ∧ Blk wr w.heap.size 23 sd ∧ w.grownBy wr none ∧ w.heap.size + 2 ≤ wr.heap.size) (fun i _ _ => 32 - (intOf i).toNat)
  case atStart => exact ⟨0, by omega, rfl, H1.out.2.2.1, H1.out.1, H1.out.2.1, Nat.le_of_eq H1.out.2.2.2.symm⟩
  case round =>
    obtain ⟨k, hk, hi, hown, hB, hG, hsz⟩ := hrel
    obtain ⟨I, hI⟩ : ∃ I : Int, I = (k : Int) := ⟨_, rfl⟩
    rw [← hI] at hi
    subst hi
    obtain ⟨A1, cap1, rfl⟩ := own_slice _ hown
    by_cases hlt : k < 32
    · have d1 : decide (I < 32) = true := by simp; omega
      have hI68 : 0 ≤ I ∧ I < 32 := by omega
      obtain ⟨es, hes⟩ : ∃ es, es = leafV seed k := ⟨_, rfl⟩
      have HE := Lib.hid (show es.size = 16 ∧ (es.all fun v => v.oneCell') = true ∧ es = leafV seed k from ⟨by rw [hes]; exact leafV_size _ _, by rw [hes, leafV]; exact arr_one _ _, hes⟩)
      have HP := Lib.hid (rpub_of wr seed HN.out.1 I k hI sd es HN.out.2 hes)
      have HK := Lib.hid (And.intro hI (And.intro hlt (And.intro hown (And.intro hB (And.intro hG hsz)))))
      clear hI hlt hown hB hG hsz hes hk
      go_wp2_with (refine wpList_load_row rfl 23 _ rfl w.heap.size rfl 23 sd (0, 0) _ HK.out.2.2.2.1 Tryd.underlying23 rfl (by rw [HD.out]; exact info16) ?_)
      refine HP.out.mono ?_
      rintro e w3 ⟨rfl, hk3⟩
      have HK3 := Lib.hid hk3
      have HO3 := Lib.hid (own_keep HK.out.2.2.1 hk3)
      clear hk3
      go_wp2_with (first
        | (refine wpList_bslice_run rfl 27 1 0 _ rfl (.agg es) _ rfl (HBS.out es HE.out.1 _) ?_)
        | (at_builtin; refine wpList_push_row rfl _ _ 27 rfl (w.heap.size + 1) 23 23 i0 _ 16 16 Tryd.underlying27 HI0.out.1 HI0.out.2.1 HI0.out.2.2.1 HI0.out.2.2.2 rfl (by decide) _ _ _ rfl HO3.out es HE.out.2.1 HE.out.1 rfl (by have := HK.out.2.1; omega) (by decide) (by have := HK.out.2.2.2.2.2; have := HK3.out.size; omega) ?_; intro v' w4 hown4 hgrow hat4; have HO4 := Lib.hid hown4; have HG4 := Lib.hid hgrow; clear hown4 hgrow hat4))
      go_roundw
      case rel =>
        obtain ⟨hI, hlt, hown, hB, hG, hsz⟩ := HK.out
        have g4 := grown_trans (grown_weak HK3.out _) HG4.out
        refine ⟨k + 1, by omega, by rw [hI]; rfl, ?_, hB.grown g4 (fun e => by have := (hown.lt _ e.symm).1; omega), grown_own_r hG g4 hown (by omega), Nat.le_trans hsz g4.size⟩
        rw [rowV, ← HE.out.2.2]
        exact HO4.out
      case measure => obtain ⟨hI, hlt, _⟩ := HK.out; simp only [intOf]; omega
    · obtain rfl : k = 32 := by omega
      have d1 : decide (I < 32) = false := by simp; omega
      obtain ⟨g, cap2, hv, hcap, hbg, _, hR⟩ := own_rows (leafV seed) (leafV_size seed) (by omega) hown
      rw [hv] at hown ⊢
      have HRR := Lib.hid (And.intro hR (And.intro hcap (And.intro hbg hG)))
      clear hown hR hI hlt hk hv hcap hbg hG hB
      go_wp2_with fail
      go_ret
      refine ⟨g, cap2, rfl, HRR.out.2.1, by have := HRR.out.2.2.1; omega, fun j hj => ?_, HRR.out.2.2.2⟩
      rw [leavesC_length] at hj
      rw [leavesC_get hj]
      exact HRR.out.1 j hj

set_option maxRecDepth 100000 in
set_option maxHeartbeats 4000000 in
theorem rksign_is (w : World) (seed : List Int) (hs : isDig seed) (sd : Array Value) (hsd : sd = arrV .u8 seed) (g cap : Nat) (hcap : 32 ≤ cap) (hD : DigsAt w g 0 (leavesC seed)) (i : Nat) (hi : i < 32) (lf : Int) (hlf : lf = (i : Int)) (d : List Int) (hd : isDig d) (dd : Array Value) (hdd : dd = arrV .u8 d) :
    Calls Tryd.prog 17 #[.agg sd, .slice (some ⟨g, 0, none⟩) 32 cap, .int .i64 lf, .agg dd] w fun e w' => ∃ b bc p pc, e = .returned (.agg (sigV lf (.slice (some ⟨b, 0, none⟩) 68 bc) (.slice (some ⟨p, 0, none⟩) 5 pc))) ∧ DigsAt w' b 0 (sigsS seed lf d) ∧ DigsAt w' p 0 (upto (wayC (leavesC seed) i) 5) ∧ w.grownBy w' none := by
  have hz30 := sigz_run
  have HS := Lib.hid (show sd.size = 16 ∧ dd.size = 16 from ⟨by rw [hsd, arr_size, hs.1], by rw [hdd, arr_size, hd.1]⟩)
  have S1 := Lib.hid (fun (z : World) => rsign_v z seed hs lf d hd sd dd hsd hdd)
  have S2 := Lib.hid (fun (z : World) (hz : w.grownBy z none) => rpath_top z g 0 cap hcap (leavesC seed) (leavesC_length _) (leavesC_dig _) (hD.grown hz) i hi lf hlf)
  obtain ⟨w1, hw1⟩ : ∃ w1, w1 = ((w.alloc (.cells sd 23)).alloc (.cells dd 23)).alloc (.cells sigZ 30) := ⟨_, rfl⟩
  have H1 := Lib.hid (show Blk w1 w.heap.size 23 sd ∧ Blk w1 (w.heap.size + 1) 23 dd ∧ Blk w1 (w.heap.size + 1 + 1) 30 sigZ ∧ w.grownBy w1 none ∧ w1.heap.size = w.heap.size + 3 from by
    rw [hw1]
    have b1 := (Blk.new (w.alloc (.cells sd 23)) 23 dd).alloc (.cells sigZ 30)
    have b2 := Blk.new ((w.alloc (.cells sd 23)).alloc (.cells dd 23)) 30 sigZ
    simp only [World.size_alloc] at b1 b2
    exact ⟨((Blk.new w 23 sd).alloc _).alloc _, b1, b2, grown_trans (grown_trans (World.grownBy_alloc w _ none) (World.grownBy_alloc _ _ none)) (World.grownBy_alloc _ _ none), by simp⟩)
  have HW1 := Lib.hid hw1
  clear hs hsd hcap hD hi hlf hd hdd hw1
  go_enter Tryd.func17, Tryd.ntmps17
  go_wp2_with (first
    | (rw [← HW1.out]; refine wpList_load_row rfl 23 _ rfl w.heap.size rfl 23 sd (0, 0) _ H1.out.1 Tryd.underlying23 rfl (by rw [HS.out.1]; exact info16) ?_)
    | (refine wpList_load_row rfl 23 _ rfl (w.heap.size + 1) rfl 23 dd (0, 0) _ H1.out.2.1 Tryd.underlying23 rfl (by rw [HS.out.2]; exact info16) ?_))
  refine (S1.out _).mono ?_
  rintro e w2 ⟨b, bc, rfl, hb, hk2⟩
  have H2 := Lib.hid (And.intro hb (grown_trans H1.out.2.2.2.1 hk2))
  have HZ2 := Lib.hid (H1.out.2.2.1.grown hk2 (by simp))
  have HS2 := Lib.hid (show w.heap.size + 3 ≤ w2.heap.size by have h1 := hk2.size; have h2 := H1.out.2.2.2.2; omega)
  clear hb hk2
  go_wp2_with fail
  refine (S2.out _ H2.out.2).mono ?_
  rintro e w3 ⟨p, pc, rfl, hr, hk3⟩
  have H3 := Lib.hid (And.intro (wayL_digs hr) (And.intro (H2.out.1.grown hk3) (grown_trans H2.out.2 hk3)))
  have HZ3 := Lib.hid (HZ2.out.grown hk3 (by simp))
  clear hr hk3
  go_wp2_with (first
    | (refine wpList_build3 rfl 30 _ _ _ rfl (.int .i64 lf) (.slice (some ⟨b, 0, none⟩) 68 bc) (.slice (some ⟨p, 0, none⟩) 5 pc) _ rfl rfl rfl (build_sig _ _ _ _ _ _ _ _) ?_)
    | (refine wpList_store_row rfl 30 _ _ rfl (w.heap.size + 1 + 1) (sigV lf (.slice (some ⟨b, 0, none⟩) 68 bc) (.slice (some ⟨p, 0, none⟩) 5 pc)) rfl rfl 30 _ HZ3.out (by rw [sigV_size]; exact info3) (by rw [sigV_size]; rfl) (sigV_one _ _ _ _ _ _ _) ?_))
  refine bodyPost_ret (results_cell rfl _ _ _ ⟨w.heap.size + 1 + 1, 0, none⟩ (.agg (sigV lf (.slice (some ⟨b, 0, none⟩) 68 bc) (.slice (some ⟨p, 0, none⟩) 5 pc))) rfl (run_loadVar_row _ (w.heap.size + 1 + 1) 30 30 _ (0, 0) _ (HZ3.out.row _) Tryd.underlying30 rfl (by rw [sigV_size]; exact info3))) rfl ?_
  have hrow : w3.grownBy (w3.setRow (w.heap.size + 1 + 1) (sigV lf (.slice (some ⟨b, 0, none⟩) 68 bc) (.slice (some ⟨p, 0, none⟩) 5 pc))) (some (w.heap.size + 1 + 1)) := grown_row (World.grownBy.refl w3 _) (.inr rfl) _
  have hb := digs_off_box (sigsS_dig _ _ _) H3.out.2.1 (by rw [sigsS_length]; omega) HZ3.out (by show 3 ≤ 15; omega)
  have hp := digs_off_box (way_dig (leavesC_dig _) (fun k => k) i 5) H3.out.1 (by rw [upto_length]; omega) HZ3.out (by show 3 ≤ 15; omega)
  exact ⟨b, bc, p, pc, rfl, fun j hj => range_to (H3.out.2.1 j hj) hrow (fun e => hb (Option.some.inj e)), fun j hj => range_to (H3.out.1 j hj) hrow (fun e => hp (Option.some.inj e)), grown_fresh H3.out.2.2 hrow (by omega)⟩

theorem left_is (w : World) (lf r : Int) (hr : r = 32 - min (max lf 0) 32) : Calls Tryd.prog 14 #[.int .i64 lf] w fun e w' => e = .returned (.int .i64 r) ∧ w.grownBy w' none := by
  by_cases h0 : lf < 0
  · have e : r = 32 := by omega
    have d1 : ¬ 0 ≤ lf := by omega
    subst e
    clear hr
    go_enter Tryd.func14, Tryd.ntmps14
    go_wp2_with fail
    go_ret
    exact ⟨rfl, World.grownBy.refl w none⟩
  · by_cases h1 : 32 < lf
    · have e : r = 0 := by omega
      have d1 : 0 ≤ lf := by omega
      have d2 : ¬ lf ≤ 32 := by omega
      subst e
      clear hr
      go_enter Tryd.func14, Tryd.ntmps14
      go_wp2_with fail
      go_ret
      exact ⟨rfl, World.grownBy.refl w none⟩
    · have e : r = 32 - lf := by omega
      have d1 : 0 ≤ lf := by omega
      have d2 : lf ≤ 32 := by omega
      subst e
      clear hr
      go_enter Tryd.func14, Tryd.ntmps14
      go_wp2_with fail
      go_ret
      exact ⟨rfl, World.grownBy.refl w none⟩
end Go.Proofs.YtpldegdcachlmaaDoor
