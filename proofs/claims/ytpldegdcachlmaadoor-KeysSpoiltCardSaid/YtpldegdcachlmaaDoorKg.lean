/-
  KeysSigns, walked.
-/
import Derived.Test.YtpldegdcachlmaaDoorKa
import Derived.Test.YtpldegdcachlmaaDoorKq
import Derived.Test.YtpldegdcachlmaaDoorKv
import Derived.Test.YtpldegdcachlmaaDoorKl
namespace Go.Proofs.YtpldegdcachlmaaDoor
open Go.RowKit

/-- A digest's own equality. -/
theorem sigs_eq (w : World) (seed d : List Int) (lf : Int) (i b p : Nat) (hS : SigAt w seed lf i d b p) (b2 c1 c2 c3 p2 c4 : Nat) (h1 : DigsAt w b2 0 (sigsS seed lf d)) (h2 : DigsAt w p2 0 (upto (wayC (leavesC seed) i) 5)) :
    Calls Tryd.prog 15 #[.agg (sigV lf (.slice (some ⟨b, 0, none⟩) 68 c1) (.slice (some ⟨p, 0, none⟩) 5 c2)), .agg (sigV lf (.slice (some ⟨b2, 0, none⟩) 68 c3) (.slice (some ⟨p2, 0, none⟩) 5 c4))] w fun e w' => e = .returned (.bool true) ∧ w.grownBy w' none := by
  have h := rsame_is w lf lf (some ⟨b, 0, none⟩) (some ⟨p, 0, none⟩) (some ⟨b2, 0, none⟩) (some ⟨p2, 0, none⟩) 68 c1 5 c2 68 c3 5 c4 true true
    (fun z hz => digs_same z b 0 c1 b2 0 c3 68 _ _ (sigsS_length _ _ _) (sigsS_length _ _ _) (by omega) (sigsS_dig _ _ _) (sigsS_dig _ _ _) (hS.chains.grown hz) (h1.grown hz) true (by simp))
    (fun z hz => digs_same z p 0 c2 p2 0 c4 5 _ _ (upto_length _ _) (upto_length _ _) (by omega) (way_dig (leavesC_dig _) (fun k => k) i 5) (way_dig (leavesC_dig _) (fun k => k) i 5) (hS.path.grown hz) (h2.grown hz) true (by simp))
  simpa using h
theorem verify_own (w : World) (hR : Rounds w) (seed : List Int) (d : List Int) (hd : isDig d) (dd : Array Value) (hdd : dd = arrV .u8 d) (i : Nat) (hi : i < 32) (lf : Int) (hlf : lf = (i : Int)) (b p c1 c2 : Nat) (hS : SigAt w seed lf i d b p) (rt : Array Value) (hrt : rt = arrV .u8 (rootC seed)) :
    Calls Tryd.prog 18 #[.agg rt, .agg dd, .agg (sigV lf (.slice (some ⟨b, 0, none⟩) 68 c1) (.slice (some ⟨p, 0, none⟩) 5 c2))] w fun e w' => e = .returned (.bool true) ∧ w.grownBy w' none := by
  obtain ⟨xs, hxs⟩ : ∃ xs, xs = leafV seed i := ⟨_, rfl⟩
  have hr16 : rt.size = 16 := by rw [hrt, arr_size]; exact (rootC_dig _).1
  have hx : xs = arrV .u8 ((leavesC seed).getD i zeroC) := by rw [hxs, leafV, leavesC_get hi]
  exact verify_c w rt dd hr16 (by rw [hdd, arr_size, hd.1]) lf _ _ 68 c1 5 c2 xs rt (by rw [hxs]; exact leafV_size _ _) (by rw [hxs, leafV]; exact arr_one _ _) hr16 (by rw [hrt]; exact arr_one _ _) true (eqDG _ (rootC_dig seed).1 rt hrt)
    (fun z hz => back_v z (hR.grown hz (by simp)) lf (by omega) b 0 c1 seed d hd (hS.chains.grown hz) dd xs hdd (by rw [hxs, leafV, hlf]))
    (fun z hz => by
      subst hlf
      exact climb_ok z (hR.grown hz (by simp)) _ (getD_dig (leavesC_dig seed) i) (i : Int) (by omega) p 0 c2 _ (upto_length _ _) (way_dig (leavesC_dig _) (fun k => k) i 5) (hS.path.grown hz) xs rt hx (by rw [hrt, rootC, ← climb_root (ps := leavesC seed) hi]))

/-- What the law has at hand behind the key and the document's leaves. -/
structure AtKey (w z : World) (kb g cap g2 cap2 : Nat) (seed : List Int) (sd dd : Array Value) : Prop where
  key : KeyAt z kb sd (.slice (some ⟨g, 0, none⟩) 32 cap) (arrV .u8 (rootC seed))
  row : DigsAt z g 0 (leavesC seed)
  row2 : DigsAt z g2 0 (leavesC seed)
  cap : 32 ≤ cap2
  seedBox : Blk z w.heap.size 23 sd
  digBox : Blk z (w.heap.size + 1) 23 dd
  grow : w.grownBy z none
theorem AtKey.grown {w z y : World} {kb g cap g2 cap2 : Nat} {seed : List Int} {sd dd : Array Value} (h : AtKey w z kb g cap g2 cap2 seed sd dd) (hg : z.grownBy y none) : AtKey w y kb g cap g2 cap2 seed sd dd :=
  ⟨h.key.grown hg, h.row.grown hg, h.row2.grown hg, h.cap, h.seedBox.grown hg (by simp), h.digBox.grown hg (by simp), grown_trans h.grow hg⟩

set_option maxRecDepth 100000 in
set_option maxHeartbeats 4000000 in
theorem signs_neg (w : World) (hR : Rounds w) (B : Nat) (E : Nat → Addr) (he : ErrEnv w B E) (seed : List Int) (hs : isDig seed) (lf : Int) (hlf : lf < 0) (d : List Int) (hd : isDig d) (sd dd : Array Value) (hsd : sd = arrV .u8 seed) (hdd : dd = arrV .u8 d) :
    Calls Tryd.prog 3 #[.agg sd, .int .i64 lf, .agg dd] w fun e w' => e = .returned (.bool true) ∧ w.grownBy w' none := by
  have hz30 := sigz_run
  have HA := Lib.hid (fun (z : World) (hz : w.grownBy z none) => keys_alive z (hR.grown hz (by simp)) B E (he.grown hz (by simp)))
  have S1 := Lib.hid (fun (z : World) (hz : w.grownBy z none) => new_is z (hR.grown hz (by simp)) seed hs sd hsd)
  have S2 := Lib.hid (fun (z : World) => rleaves_is z seed hs sd hsd)
  obtain ⟨rt, hrt⟩ : ∃ rt, rt = arrV .u8 (rootC seed) := ⟨_, rfl⟩
  have hqr := eqDG (rootC seed) (rootC_dig seed).1 rt hrt
  have SK := Lib.hid (fun (z : World) kb g cap (hK : KeyAt z kb sd (.slice (some ⟨g, 0, none⟩) 32 cap) (arrV .u8 (rootC seed))) => kroot_is z kb sd rt _ (by rw [hrt]; exact hK) (by rw [hrt, arr_size]; exact (rootC_dig _).1) (by rw [hrt]; exact arr_one _ _))
  have SR := Lib.hid (fun (z : World) g cap (hc : 32 ≤ cap) hD => rroot_top z g 0 cap hc (leavesC seed) (leavesC_length _) (leavesC_dig _) hD rt (by rw [hrt, rootC]))
  have HS := Lib.hid (show sd.size = 16 ∧ dd.size = 16 from ⟨by rw [hsd, arr_size, hs.1], by rw [hdd, arr_size, hd.1]⟩)
  have d0 : decide (lf < 0) = true := by simp; omega
  have d1 : ¬ 0 ≤ lf := by omega
  have HLF := Lib.hid (show 32 - min (max lf 0) 32 = 32 by omega)
  have S3 := Lib.hid (fun (z : World) (hz : w.grownBy z none) (kv : Value) => ksign_neg z B (E 0) ((he.grown hz (by simp)).var 0 (by omega)) kv lf (by omega) dd)
  have S4 := Lib.hid (fun (z : World) (hz : w.grownBy z none) => num_err z B E 0 (by omega) (he.grown hz (by simp)))
  have hsb := sigz_build
  clear hR he hs hd hsd hdd hrt hlf
  obtain ⟨w1, hw1⟩ : ∃ w1, w1 = (w.alloc (.cells sd 23)).alloc (.cells dd 23) := ⟨_, rfl⟩
  have H1 := Lib.hid (show Blk w1 w.heap.size 23 sd ∧ Blk w1 (w.heap.size + 1) 23 dd ∧ w.grownBy w1 none from by
    rw [hw1]
    have b2 := Blk.new (w.alloc (.cells sd 23)) 23 dd
    rw [World.size_alloc] at b2
    exact ⟨(Blk.new w 23 sd).alloc _, b2, grown_trans (World.grownBy_alloc w _ none) (World.grownBy_alloc _ _ none)⟩)
  have HW1 := Lib.hid hw1
  clear hw1
  go_enter Tryd.func3, Tryd.ntmps3
  go_wp2_with fail
  rw [← HW1.out]
  refine (HA.out w1 H1.out.2.2).mono ?_
  rintro e w2 ⟨rfl, hk2⟩
  have H2 := Lib.hid (show Blk w2 w.heap.size 23 sd ∧ Blk w2 (w.heap.size + 1) 23 dd ∧ w.grownBy w2 none from ⟨H1.out.1.grown hk2 (by simp), H1.out.2.1.grown hk2 (by simp), grown_trans H1.out.2.2 hk2⟩)
  clear hk2
  go_wp2_with (refine wpList_load_row rfl 23 _ rfl w.heap.size rfl 23 sd (0, 0) _ H2.out.1 Tryd.underlying23 rfl (by rw [HS.out.1]; exact info16) ?_)
  refine (S1.out w2 H2.out.2.2).mono ?_
  rintro e w3 ⟨kb, g, cap, rfl, _, _, _, hK, hDg, _, hk3⟩
  have H3 := Lib.hid (show Blk w3 w.heap.size 23 sd ∧ Blk w3 (w.heap.size + 1) 23 dd ∧ w.grownBy w3 none ∧ KeyAt w3 kb sd (.slice (some ⟨g, 0, none⟩) 32 cap) (arrV .u8 (rootC seed)) ∧ DigsAt w3 g 0 (leavesC seed) from ⟨H2.out.1.grown hk3 (by simp), H2.out.2.1.grown hk3 (by simp), grown_trans H2.out.2.2 hk3, hK, hDg⟩)
  clear hk3 hK hDg
  go_wp2_with (refine wpList_load_row rfl 23 _ rfl w.heap.size rfl 23 sd (0, 0) _ H3.out.1 Tryd.underlying23 rfl (by rw [HS.out.1]; exact info16) ?_)
  refine (S2.out w3).mono ?_
  rintro e w4 ⟨g2, cap2, rfl, hc2, _, hD2, hk4⟩
  have H4 := Lib.hid (show AtKey w w4 kb g cap g2 cap2 seed sd dd from ⟨H3.out.2.2.2.1.grown hk4, H3.out.2.2.2.2.grown hk4, hD2, hc2, H3.out.1.grown hk4 (by simp), H3.out.2.1.grown hk4 (by simp), grown_trans H3.out.2.2.1 hk4⟩)
  clear hk4 hc2 hD2
  go_wp2_with (refine wpList_load_row rfl 23 _ rfl (w.heap.size + 1) rfl 23 dd (0, 0) _ H4.out.digBox Tryd.underlying23 rfl (by rw [HS.out.2]; exact info16) ?_)
  refine (S3.out w4 H4.out.grow _).mono ?_
  rintro e w5 ⟨rfl, hk5⟩
  have H5 := Lib.hid (H4.out.grown hk5)
  clear hk5
  go_wp2_with (refine wpList_store_row rfl 30 _ _ rfl w5.heap.size sigZ rfl rfl 30 _ (heap_alloc_new w5 _) (by exact info3) rfl (by simp [sigZ, Value.oneCell']) ?_)
  obtain ⟨w6, hw6⟩ : ∃ w6, w6 = (w5.alloc (.cells sigZ 30)).setRow w5.heap.size sigZ := ⟨_, rfl⟩
  obtain ⟨qb, hqb⟩ : ∃ qb, qb = w5.heap.size := ⟨_, rfl⟩
  rw [← hw6, ← hqb]
  have H6 := Lib.hid (show AtKey w w6 kb g cap g2 cap2 seed sd dd ∧ Blk w6 qb 30 sigZ from by
    rw [hw6, hqb]
    have g6 := grown_row (World.grownBy_alloc w5 (.cells sigZ 30) none) (.inl (Nat.le_refl _)) sigZ
    exact ⟨H5.out.grown g6, (Blk.new w5 30 sigZ).row _⟩)
  clear hw6 hqb
  refine (SK.out w6 kb g cap H6.out.1.key).mono ?_
  rintro e w7 ⟨rfl, hk7⟩
  have HK7 := Lib.hid hk7
  clear hk7
  go_wp2_with fail
  refine (SR.out w7 g2 cap2 H6.out.1.cap (H6.out.1.row2.grown HK7.out)).mono ?_
  rintro e w8 ⟨rfl, hk8⟩
  have HK8 := Lib.hid (grown_trans HK7.out hk8)
  clear hk8
  go_wp2_with fail
  refine (left_is w8 lf _ rfl).mono ?_
  rintro e w9 ⟨rfl, hk9⟩
  rw [HLF.out]
  have HK9 := Lib.hid (grown_trans HK8.out hk9)
  clear hk9
  have HB9 := Lib.hid (H6.out.2.grown HK9.out (by simp))
  have HG9 := Lib.hid (grown_trans H6.out.1.grow HK9.out)
  go_wp2_with (refine wpList_load_row rfl 30 _ rfl qb rfl 30 sigZ (0, 0) _ HB9.out Tryd.underlying30 rfl (by rw [show sigZ.size = 3 from rfl]; exact info3) ?_)
  refine (rsame_is w9 0 0 none none none none 0 0 0 0 0 0 0 0 true true (fun z _ => digs_none z none none 0 0) (fun z _ => digs_none z none none 0 0)).mono ?_
  rintro e wA ⟨rfl, hkA⟩
  have HGA := Lib.hid (grown_trans HG9.out hkA)
  clear hkA
  go_wp2_with fail
  refine (S4.out wA HGA.out).mono ?_
  rintro e wB ⟨rfl, hkB⟩
  have HGB := Lib.hid (grown_trans HGA.out hkB)
  clear hkB
  go_wp2_with fail
  go_ret
  exact ⟨rfl, HGB.out⟩

set_option maxRecDepth 100000 in
set_option maxHeartbeats 4000000 in
theorem signs_spent (w : World) (hR : Rounds w) (B : Nat) (E : Nat → Addr) (he : ErrEnv w B E) (seed : List Int) (hs : isDig seed) (lf : Int) (hlf : 32 < lf) (d : List Int) (hd : isDig d) (sd dd : Array Value) (hsd : sd = arrV .u8 seed) (hdd : dd = arrV .u8 d) :
    Calls Tryd.prog 3 #[.agg sd, .int .i64 lf, .agg dd] w fun e w' => e = .returned (.bool true) ∧ w.grownBy w' none := by
  have hz30 := sigz_run
  have HA := Lib.hid (fun (z : World) (hz : w.grownBy z none) => keys_alive z (hR.grown hz (by simp)) B E (he.grown hz (by simp)))
  have S1 := Lib.hid (fun (z : World) (hz : w.grownBy z none) => new_is z (hR.grown hz (by simp)) seed hs sd hsd)
  have S2 := Lib.hid (fun (z : World) => rleaves_is z seed hs sd hsd)
  obtain ⟨rt, hrt⟩ : ∃ rt, rt = arrV .u8 (rootC seed) := ⟨_, rfl⟩
  have hqr := eqDG (rootC seed) (rootC_dig seed).1 rt hrt
  have SK := Lib.hid (fun (z : World) kb g cap (hK : KeyAt z kb sd (.slice (some ⟨g, 0, none⟩) 32 cap) (arrV .u8 (rootC seed))) => kroot_is z kb sd rt _ (by rw [hrt]; exact hK) (by rw [hrt, arr_size]; exact (rootC_dig _).1) (by rw [hrt]; exact arr_one _ _))
  have SR := Lib.hid (fun (z : World) g cap (hc : 32 ≤ cap) hD => rroot_top z g 0 cap hc (leavesC seed) (leavesC_length _) (leavesC_dig _) hD rt (by rw [hrt, rootC]))
  have HS := Lib.hid (show sd.size = 16 ∧ dd.size = 16 from ⟨by rw [hsd, arr_size, hs.1], by rw [hdd, arr_size, hd.1]⟩)
  have d0 : decide (lf < 0) = false := by simp; omega
  have d0b : ¬ lf < 0 := by omega
  have d1 : 31 < lf := by omega
  have d2 : 0 ≤ lf := by omega
  have d3 : ¬ lf ≤ 32 := by omega
  have HLF := Lib.hid (show 32 - min (max lf 0) 32 = 0 by omega)
  have S3 := Lib.hid (fun (z : World) (hz : w.grownBy z none) (kv : Value) => ksign_spent z B (E 4) ((he.grown hz (by simp)).var 4 (by omega)) kv lf (by omega) dd)
  have S4 := Lib.hid (fun (z : World) (hz : w.grownBy z none) => num_err z B E 4 (by omega) (he.grown hz (by simp)))
  have hsb := sigz_build
  clear hR he hs hd hsd hdd hrt hlf
  obtain ⟨w1, hw1⟩ : ∃ w1, w1 = (w.alloc (.cells sd 23)).alloc (.cells dd 23) := ⟨_, rfl⟩
  have H1 := Lib.hid (show Blk w1 w.heap.size 23 sd ∧ Blk w1 (w.heap.size + 1) 23 dd ∧ w.grownBy w1 none from by
    rw [hw1]
    have b2 := Blk.new (w.alloc (.cells sd 23)) 23 dd
    rw [World.size_alloc] at b2
    exact ⟨(Blk.new w 23 sd).alloc _, b2, grown_trans (World.grownBy_alloc w _ none) (World.grownBy_alloc _ _ none)⟩)
  have HW1 := Lib.hid hw1
  clear hw1
  go_enter Tryd.func3, Tryd.ntmps3
  go_wp2_with fail
  rw [← HW1.out]
  refine (HA.out w1 H1.out.2.2).mono ?_
  rintro e w2 ⟨rfl, hk2⟩
  have H2 := Lib.hid (show Blk w2 w.heap.size 23 sd ∧ Blk w2 (w.heap.size + 1) 23 dd ∧ w.grownBy w2 none from ⟨H1.out.1.grown hk2 (by simp), H1.out.2.1.grown hk2 (by simp), grown_trans H1.out.2.2 hk2⟩)
  clear hk2
  go_wp2_with (refine wpList_load_row rfl 23 _ rfl w.heap.size rfl 23 sd (0, 0) _ H2.out.1 Tryd.underlying23 rfl (by rw [HS.out.1]; exact info16) ?_)
  refine (S1.out w2 H2.out.2.2).mono ?_
  rintro e w3 ⟨kb, g, cap, rfl, _, _, _, hK, hDg, _, hk3⟩
  have H3 := Lib.hid (show Blk w3 w.heap.size 23 sd ∧ Blk w3 (w.heap.size + 1) 23 dd ∧ w.grownBy w3 none ∧ KeyAt w3 kb sd (.slice (some ⟨g, 0, none⟩) 32 cap) (arrV .u8 (rootC seed)) ∧ DigsAt w3 g 0 (leavesC seed) from ⟨H2.out.1.grown hk3 (by simp), H2.out.2.1.grown hk3 (by simp), grown_trans H2.out.2.2 hk3, hK, hDg⟩)
  clear hk3 hK hDg
  go_wp2_with (refine wpList_load_row rfl 23 _ rfl w.heap.size rfl 23 sd (0, 0) _ H3.out.1 Tryd.underlying23 rfl (by rw [HS.out.1]; exact info16) ?_)
  refine (S2.out w3).mono ?_
  rintro e w4 ⟨g2, cap2, rfl, hc2, _, hD2, hk4⟩
  have H4 := Lib.hid (show AtKey w w4 kb g cap g2 cap2 seed sd dd from ⟨H3.out.2.2.2.1.grown hk4, H3.out.2.2.2.2.grown hk4, hD2, hc2, H3.out.1.grown hk4 (by simp), H3.out.2.1.grown hk4 (by simp), grown_trans H3.out.2.2.1 hk4⟩)
  clear hk4 hc2 hD2
  go_wp2_with (refine wpList_load_row rfl 23 _ rfl (w.heap.size + 1) rfl 23 dd (0, 0) _ H4.out.digBox Tryd.underlying23 rfl (by rw [HS.out.2]; exact info16) ?_)
  refine (S3.out w4 H4.out.grow _).mono ?_
  rintro e w5 ⟨rfl, hk5⟩
  have H5 := Lib.hid (H4.out.grown hk5)
  clear hk5
  go_wp2_with (refine wpList_store_row rfl 30 _ _ rfl w5.heap.size sigZ rfl rfl 30 _ (heap_alloc_new w5 _) (by exact info3) rfl (by simp [sigZ, Value.oneCell']) ?_)
  obtain ⟨w6, hw6⟩ : ∃ w6, w6 = (w5.alloc (.cells sigZ 30)).setRow w5.heap.size sigZ := ⟨_, rfl⟩
  obtain ⟨qb, hqb⟩ : ∃ qb, qb = w5.heap.size := ⟨_, rfl⟩
  rw [← hw6, ← hqb]
  have H6 := Lib.hid (show AtKey w w6 kb g cap g2 cap2 seed sd dd ∧ Blk w6 qb 30 sigZ from by
    rw [hw6, hqb]
    have g6 := grown_row (World.grownBy_alloc w5 (.cells sigZ 30) none) (.inl (Nat.le_refl _)) sigZ
    exact ⟨H5.out.grown g6, (Blk.new w5 30 sigZ).row _⟩)
  clear hw6 hqb
  refine (SK.out w6 kb g cap H6.out.1.key).mono ?_
  rintro e w7 ⟨rfl, hk7⟩
  have HK7 := Lib.hid hk7
  clear hk7
  go_wp2_with fail
  refine (SR.out w7 g2 cap2 H6.out.1.cap (H6.out.1.row2.grown HK7.out)).mono ?_
  rintro e w8 ⟨rfl, hk8⟩
  have HK8 := Lib.hid (grown_trans HK7.out hk8)
  clear hk8
  go_wp2_with fail
  refine (left_is w8 lf _ rfl).mono ?_
  rintro e w9 ⟨rfl, hk9⟩
  rw [HLF.out]
  have HK9 := Lib.hid (grown_trans HK8.out hk9)
  clear hk9
  have HB9 := Lib.hid (H6.out.2.grown HK9.out (by simp))
  have HG9 := Lib.hid (grown_trans H6.out.1.grow HK9.out)
  go_wp2_with (refine wpList_load_row rfl 30 _ rfl qb rfl 30 sigZ (0, 0) _ HB9.out Tryd.underlying30 rfl (by rw [show sigZ.size = 3 from rfl]; exact info3) ?_)
  refine (rsame_is w9 0 0 none none none none 0 0 0 0 0 0 0 0 true true (fun z _ => digs_none z none none 0 0) (fun z _ => digs_none z none none 0 0)).mono ?_
  rintro e wA ⟨rfl, hkA⟩
  have HGA := Lib.hid (grown_trans HG9.out hkA)
  clear hkA
  go_wp2_with fail
  refine (S4.out wA HGA.out).mono ?_
  rintro e wB ⟨rfl, hkB⟩
  have HGB := Lib.hid (grown_trans HGA.out hkB)
  clear hkB
  go_wp2_with fail
  go_ret
  exact ⟨rfl, HGB.out⟩

set_option maxRecDepth 100000 in
set_option maxHeartbeats 4000000 in
theorem signs_just (w : World) (hR : Rounds w) (B : Nat) (E : Nat → Addr) (he : ErrEnv w B E) (seed : List Int) (hs : isDig seed) (lf : Int) (hlf : lf = 32) (d : List Int) (hd : isDig d) (sd dd : Array Value) (hsd : sd = arrV .u8 seed) (hdd : dd = arrV .u8 d) :
    Calls Tryd.prog 3 #[.agg sd, .int .i64 lf, .agg dd] w fun e w' => e = .returned (.bool true) ∧ w.grownBy w' none := by
  have hz30 := sigz_run
  have HA := Lib.hid (fun (z : World) (hz : w.grownBy z none) => keys_alive z (hR.grown hz (by simp)) B E (he.grown hz (by simp)))
  have S1 := Lib.hid (fun (z : World) (hz : w.grownBy z none) => new_is z (hR.grown hz (by simp)) seed hs sd hsd)
  have S2 := Lib.hid (fun (z : World) => rleaves_is z seed hs sd hsd)
  obtain ⟨rt, hrt⟩ : ∃ rt, rt = arrV .u8 (rootC seed) := ⟨_, rfl⟩
  have hqr := eqDG (rootC seed) (rootC_dig seed).1 rt hrt
  have SK := Lib.hid (fun (z : World) kb g cap (hK : KeyAt z kb sd (.slice (some ⟨g, 0, none⟩) 32 cap) (arrV .u8 (rootC seed))) => kroot_is z kb sd rt _ (by rw [hrt]; exact hK) (by rw [hrt, arr_size]; exact (rootC_dig _).1) (by rw [hrt]; exact arr_one _ _))
  have SR := Lib.hid (fun (z : World) g cap (hc : 32 ≤ cap) hD => rroot_top z g 0 cap hc (leavesC seed) (leavesC_length _) (leavesC_dig _) hD rt (by rw [hrt, rootC]))
  have HS := Lib.hid (show sd.size = 16 ∧ dd.size = 16 from ⟨by rw [hsd, arr_size, hs.1], by rw [hdd, arr_size, hd.1]⟩)
  have d0 : decide (lf < 0) = false := by simp; omega
  have d0b : ¬ lf < 0 := by omega
  have d1 : 31 < lf := by omega
  have d2 : 0 ≤ lf := by omega
  have d3 : lf ≤ 32 := by omega
  have HLF := Lib.hid (show 32 - min (max lf 0) 32 = 32 - lf by omega)
  have S3 := Lib.hid (fun (z : World) (hz : w.grownBy z none) (kv : Value) => ksign_spent z B (E 4) ((he.grown hz (by simp)).var 4 (by omega)) kv lf (by omega) dd)
  have S4 := Lib.hid (fun (z : World) (hz : w.grownBy z none) => num_err z B E 4 (by omega) (he.grown hz (by simp)))
  have hsb := sigz_build
  clear hR he hs hd hsd hdd hrt hlf
  obtain ⟨w1, hw1⟩ : ∃ w1, w1 = (w.alloc (.cells sd 23)).alloc (.cells dd 23) := ⟨_, rfl⟩
  have H1 := Lib.hid (show Blk w1 w.heap.size 23 sd ∧ Blk w1 (w.heap.size + 1) 23 dd ∧ w.grownBy w1 none from by
    rw [hw1]
    have b2 := Blk.new (w.alloc (.cells sd 23)) 23 dd
    rw [World.size_alloc] at b2
    exact ⟨(Blk.new w 23 sd).alloc _, b2, grown_trans (World.grownBy_alloc w _ none) (World.grownBy_alloc _ _ none)⟩)
  have HW1 := Lib.hid hw1
  clear hw1
  go_enter Tryd.func3, Tryd.ntmps3
  go_wp2_with fail
  rw [← HW1.out]
  refine (HA.out w1 H1.out.2.2).mono ?_
  rintro e w2 ⟨rfl, hk2⟩
  have H2 := Lib.hid (show Blk w2 w.heap.size 23 sd ∧ Blk w2 (w.heap.size + 1) 23 dd ∧ w.grownBy w2 none from ⟨H1.out.1.grown hk2 (by simp), H1.out.2.1.grown hk2 (by simp), grown_trans H1.out.2.2 hk2⟩)
  clear hk2
  go_wp2_with (refine wpList_load_row rfl 23 _ rfl w.heap.size rfl 23 sd (0, 0) _ H2.out.1 Tryd.underlying23 rfl (by rw [HS.out.1]; exact info16) ?_)
  refine (S1.out w2 H2.out.2.2).mono ?_
  rintro e w3 ⟨kb, g, cap, rfl, _, _, _, hK, hDg, _, hk3⟩
  have H3 := Lib.hid (show Blk w3 w.heap.size 23 sd ∧ Blk w3 (w.heap.size + 1) 23 dd ∧ w.grownBy w3 none ∧ KeyAt w3 kb sd (.slice (some ⟨g, 0, none⟩) 32 cap) (arrV .u8 (rootC seed)) ∧ DigsAt w3 g 0 (leavesC seed) from ⟨H2.out.1.grown hk3 (by simp), H2.out.2.1.grown hk3 (by simp), grown_trans H2.out.2.2 hk3, hK, hDg⟩)
  clear hk3 hK hDg
  go_wp2_with (refine wpList_load_row rfl 23 _ rfl w.heap.size rfl 23 sd (0, 0) _ H3.out.1 Tryd.underlying23 rfl (by rw [HS.out.1]; exact info16) ?_)
  refine (S2.out w3).mono ?_
  rintro e w4 ⟨g2, cap2, rfl, hc2, _, hD2, hk4⟩
  have H4 := Lib.hid (show AtKey w w4 kb g cap g2 cap2 seed sd dd from ⟨H3.out.2.2.2.1.grown hk4, H3.out.2.2.2.2.grown hk4, hD2, hc2, H3.out.1.grown hk4 (by simp), H3.out.2.1.grown hk4 (by simp), grown_trans H3.out.2.2.1 hk4⟩)
  clear hk4 hc2 hD2
  go_wp2_with (refine wpList_load_row rfl 23 _ rfl (w.heap.size + 1) rfl 23 dd (0, 0) _ H4.out.digBox Tryd.underlying23 rfl (by rw [HS.out.2]; exact info16) ?_)
  refine (S3.out w4 H4.out.grow _).mono ?_
  rintro e w5 ⟨rfl, hk5⟩
  have H5 := Lib.hid (H4.out.grown hk5)
  clear hk5
  go_wp2_with (refine wpList_store_row rfl 30 _ _ rfl w5.heap.size sigZ rfl rfl 30 _ (heap_alloc_new w5 _) (by exact info3) rfl (by simp [sigZ, Value.oneCell']) ?_)
  obtain ⟨w6, hw6⟩ : ∃ w6, w6 = (w5.alloc (.cells sigZ 30)).setRow w5.heap.size sigZ := ⟨_, rfl⟩
  obtain ⟨qb, hqb⟩ : ∃ qb, qb = w5.heap.size := ⟨_, rfl⟩
  rw [← hw6, ← hqb]
  have H6 := Lib.hid (show AtKey w w6 kb g cap g2 cap2 seed sd dd ∧ Blk w6 qb 30 sigZ from by
    rw [hw6, hqb]
    have g6 := grown_row (World.grownBy_alloc w5 (.cells sigZ 30) none) (.inl (Nat.le_refl _)) sigZ
    exact ⟨H5.out.grown g6, (Blk.new w5 30 sigZ).row _⟩)
  clear hw6 hqb
  refine (SK.out w6 kb g cap H6.out.1.key).mono ?_
  rintro e w7 ⟨rfl, hk7⟩
  have HK7 := Lib.hid hk7
  clear hk7
  go_wp2_with fail
  refine (SR.out w7 g2 cap2 H6.out.1.cap (H6.out.1.row2.grown HK7.out)).mono ?_
  rintro e w8 ⟨rfl, hk8⟩
  have HK8 := Lib.hid (grown_trans HK7.out hk8)
  clear hk8
  go_wp2_with fail
  refine (left_is w8 lf _ rfl).mono ?_
  rintro e w9 ⟨rfl, hk9⟩
  rw [HLF.out]
  have HK9 := Lib.hid (grown_trans HK8.out hk9)
  clear hk9
  have HB9 := Lib.hid (H6.out.2.grown HK9.out (by simp))
  have HG9 := Lib.hid (grown_trans H6.out.1.grow HK9.out)
  go_wp2_with (refine wpList_load_row rfl 30 _ rfl qb rfl 30 sigZ (0, 0) _ HB9.out Tryd.underlying30 rfl (by rw [show sigZ.size = 3 from rfl]; exact info3) ?_)
  refine (rsame_is w9 0 0 none none none none 0 0 0 0 0 0 0 0 true true (fun z _ => digs_none z none none 0 0) (fun z _ => digs_none z none none 0 0)).mono ?_
  rintro e wA ⟨rfl, hkA⟩
  have HGA := Lib.hid (grown_trans HG9.out hkA)
  clear hkA
  go_wp2_with fail
  refine (S4.out wA HGA.out).mono ?_
  rintro e wB ⟨rfl, hkB⟩
  have HGB := Lib.hid (grown_trans HGA.out hkB)
  clear hkB
  go_wp2_with fail
  go_ret
  exact ⟨rfl, HGB.out⟩

set_option maxRecDepth 100000 in
set_option maxHeartbeats 4000000 in
theorem signs_main (w : World) (hR : Rounds w) (B : Nat) (E : Nat → Addr) (he : ErrEnv w B E) (seed : List Int) (hs : isDig seed) (lf : Int) (i : Nat) (hi : i < 32) (hlf : lf = (i : Int)) (d : List Int) (hd : isDig d) (sd dd : Array Value) (hsd : sd = arrV .u8 seed) (hdd : dd = arrV .u8 d) :
    Calls Tryd.prog 3 #[.agg sd, .int .i64 lf, .agg dd] w fun e w' => e = .returned (.bool true) ∧ w.grownBy w' none := by
  have hz30 := sigz_run
  have HA := Lib.hid (fun (z : World) (hz : w.grownBy z none) => keys_alive z (hR.grown hz (by simp)) B E (he.grown hz (by simp)))
  have S1 := Lib.hid (fun (z : World) (hz : w.grownBy z none) => new_is z (hR.grown hz (by simp)) seed hs sd hsd)
  have S2 := Lib.hid (fun (z : World) => rleaves_is z seed hs sd hsd)
  obtain ⟨rt, hrt⟩ : ∃ rt, rt = arrV .u8 (rootC seed) := ⟨_, rfl⟩
  have hqr := eqDG (rootC seed) (rootC_dig seed).1 rt hrt
  have SK := Lib.hid (fun (z : World) kb g cap (hK : KeyAt z kb sd (.slice (some ⟨g, 0, none⟩) 32 cap) (arrV .u8 (rootC seed))) => kroot_is z kb sd rt _ (by rw [hrt]; exact hK) (by rw [hrt, arr_size]; exact (rootC_dig _).1) (by rw [hrt]; exact arr_one _ _))
  have SR := Lib.hid (fun (z : World) g cap (hc : 32 ≤ cap) hD => rroot_top z g 0 cap hc (leavesC seed) (leavesC_length _) (leavesC_dig _) hD rt (by rw [hrt, rootC]))
  have HS := Lib.hid (show sd.size = 16 ∧ dd.size = 16 from ⟨by rw [hsd, arr_size, hs.1], by rw [hdd, arr_size, hd.1]⟩)
  have d0 : decide (lf < 0) = false := by simp; omega
  have d0b : ¬ lf < 0 := by omega
  have d1 : ¬ 31 < lf := by omega
  have d2 : 0 ≤ lf := by omega
  have d3 : lf ≤ 32 := by omega
  have HLF := Lib.hid (show 32 - min (max lf 0) 32 = 32 - lf by omega)
  have S3 := Lib.hid (fun (z : World) (hz : w.grownBy z none) kb g cap hK hD => ksign_is z (hR.grown hz (by simp)) kb g cap seed hs sd (arrV .u8 (rootC seed)) hsd hK hD i hi lf hlf d hd dd hdd)
  have S5 := Lib.hid (fun (z : World) g cap (hc : 32 ≤ cap) hD => rksign_is z seed hs sd hsd g cap hc hD i hi lf hlf d hd dd hdd)
  have S6 := Lib.hid (fun (z : World) (hz : w.grownBy z none) b p c1 c2 hS => verify_own z (hR.grown hz (by simp)) seed d hd dd hdd i hi lf hlf b p c1 c2 hS rt hrt)
  obtain ⟨sl, hsl⟩ : ∃ l, l = sd.toList := ⟨_, rfl⟩
  obtain ⟨dl, hdl⟩ : ∃ l, l = dd.toList := ⟨_, rfl⟩
  have HI := Lib.hid (show (Tryd.prog.info? 23).map (·.size) = some sl.length ∧ (Tryd.prog.info? 23).map (·.size) = some dl.length ∧ sl.toArray = sd ∧ dl.toArray = dd from ⟨by rw [hsl, Array.length_toList, HS.out.1]; exact info16, by rw [hdl, Array.length_toList, HS.out.2]; exact info16, by rw [hsl, Array.toArray_toList], by rw [hdl, Array.toArray_toList]⟩)
  have HL := Lib.hid (And.intro hsl hdl)
  clear hR he hs hd hsd hdd hrt hi hlf hsl hdl
  obtain ⟨w1, hw1⟩ : ∃ w1, w1 = (w.alloc (.cells sd 23)).alloc (.cells dd 23) := ⟨_, rfl⟩
  have H1 := Lib.hid (show Blk w1 w.heap.size 23 sd ∧ Blk w1 (w.heap.size + 1) 23 dd ∧ w.grownBy w1 none from by
    rw [hw1]
    have b2 := Blk.new (w.alloc (.cells sd 23)) 23 dd
    rw [World.size_alloc] at b2
    exact ⟨(Blk.new w 23 sd).alloc _, b2, grown_trans (World.grownBy_alloc w _ none) (World.grownBy_alloc _ _ none)⟩)
  have HW1 := Lib.hid hw1
  clear hw1
  go_enter Tryd.func3, Tryd.ntmps3
  go_wp2_with fail
  rw [← HW1.out]
  refine (HA.out w1 H1.out.2.2).mono ?_
  rintro e w2 ⟨rfl, hk2⟩
  have H2 := Lib.hid (show Blk w2 w.heap.size 23 sd ∧ Blk w2 (w.heap.size + 1) 23 dd ∧ w.grownBy w2 none from ⟨H1.out.1.grown hk2 (by simp), H1.out.2.1.grown hk2 (by simp), grown_trans H1.out.2.2 hk2⟩)
  clear hk2
  go_wp2_with (refine wpList_load_row rfl 23 _ rfl w.heap.size rfl 23 sd (0, 0) _ H2.out.1 Tryd.underlying23 rfl (by rw [HS.out.1]; exact info16) ?_)
  refine (S1.out w2 H2.out.2.2).mono ?_
  rintro e w3 ⟨kb, g, cap, rfl, _, _, _, hK, hDg, _, hk3⟩
  have H3 := Lib.hid (show Blk w3 w.heap.size 23 sd ∧ Blk w3 (w.heap.size + 1) 23 dd ∧ w.grownBy w3 none ∧ KeyAt w3 kb sd (.slice (some ⟨g, 0, none⟩) 32 cap) (arrV .u8 (rootC seed)) ∧ DigsAt w3 g 0 (leavesC seed) from ⟨H2.out.1.grown hk3 (by simp), H2.out.2.1.grown hk3 (by simp), grown_trans H2.out.2.2 hk3, hK, hDg⟩)
  clear hk3 hK hDg
  go_wp2_with (refine wpList_load_row rfl 23 _ rfl w.heap.size rfl 23 sd (0, 0) _ H3.out.1 Tryd.underlying23 rfl (by rw [HS.out.1]; exact info16) ?_)
  refine (S2.out w3).mono ?_
  rintro e w4 ⟨g2, cap2, rfl, hc2, _, hD2, hk4⟩
  have H4 := Lib.hid (show AtKey w w4 kb g cap g2 cap2 seed sd dd from ⟨H3.out.2.2.2.1.grown hk4, H3.out.2.2.2.2.grown hk4, hD2, hc2, H3.out.1.grown hk4 (by simp), H3.out.2.1.grown hk4 (by simp), grown_trans H3.out.2.2.1 hk4⟩)
  clear hk4 hc2 hD2
  go_wp2_with (refine wpList_load_row rfl 23 _ rfl (w.heap.size + 1) rfl 23 dd (0, 0) _ H4.out.digBox Tryd.underlying23 rfl (by rw [HS.out.2]; exact info16) ?_)
  refine (S3.out w4 H4.out.grow kb g cap H4.out.key H4.out.row).mono ?_
  rintro e w5 ⟨b, p, pc, rfl, _, _, _, hSg, hk5⟩
  have H5 := Lib.hid (And.intro (H4.out.grown hk5) hSg)
  clear hk5 hSg
  go_wp2_with (refine wpList_store_row rfl 30 _ _ rfl w5.heap.size (sigV lf (.slice (some ⟨b, 0, none⟩) 68 68) (.slice (some ⟨p, 0, none⟩) 5 pc)) rfl rfl 30 _ (heap_alloc_new w5 _) (by rw [sigV_size]; exact info3) (by rw [sigV_size]; rfl) (sigV_one _ _ _ _ _ _ _) ?_)
  obtain ⟨w6, hw6⟩ : ∃ w6, w6 = (w5.alloc (.cells sigZ 30)).setRow w5.heap.size (sigV lf (.slice (some ⟨b, 0, none⟩) 68 68) (.slice (some ⟨p, 0, none⟩) 5 pc)) := ⟨_, rfl⟩
  obtain ⟨qb, hqb⟩ : ∃ qb, qb = w5.heap.size := ⟨_, rfl⟩
  rw [← hw6, ← hqb]
  have H6 := Lib.hid (show AtKey w w6 kb g cap g2 cap2 seed sd dd ∧ Blk w6 qb 30 (sigV lf (.slice (some ⟨b, 0, none⟩) 68 68) (.slice (some ⟨p, 0, none⟩) 5 pc)) ∧ SigAt w6 seed lf i d b p from by
    rw [hw6, hqb]
    have g6 := grown_row (World.grownBy_alloc w5 (.cells sigZ 30) none) (.inl (Nat.le_refl _)) (sigV lf (.slice (some ⟨b, 0, none⟩) 68 68) (.slice (some ⟨p, 0, none⟩) 5 pc))
    exact ⟨H5.out.1.grown g6, (Blk.new w5 30 sigZ).row _, H5.out.2.grown g6⟩)
  clear hw6 hqb
  refine (SK.out w6 kb g cap H6.out.1.key).mono ?_
  rintro e w7 ⟨rfl, hk7⟩
  have HK7 := Lib.hid hk7
  clear hk7
  go_wp2_with fail
  refine (SR.out w7 g2 cap2 H6.out.1.cap (H6.out.1.row2.grown HK7.out)).mono ?_
  rintro e w8 ⟨rfl, hk8⟩
  have HK8 := Lib.hid (grown_trans HK7.out hk8)
  clear hk8
  go_wp2_with fail
  refine (left_is w8 lf _ rfl).mono ?_
  rintro e w9 ⟨rfl, hk9⟩
  rw [HLF.out]
  have HK9 := Lib.hid (grown_trans HK8.out hk9)
  clear hk9
  have HK9' := Lib.hid (H6.out.1.grown HK9.out)
  have HB9 := Lib.hid (And.intro (H6.out.2.1.grown HK9.out (by simp)) (H6.out.2.2.grown HK9.out))
  go_wp2_with fail
  have HG0 := Lib.hid (grown_drew (World.grownBy.refl w9 none))
  obtain ⟨gl, hgl⟩ : ∃ l, l = (sigV lf (.slice (some ⟨b, 0, none⟩) 68 68) (.slice (some ⟨p, 0, none⟩) 5 pc)).toList := ⟨_, rfl⟩
  have HGL := Lib.hid (show (Tryd.prog.info? 30).map (·.size) = some gl.length ∧ gl.toArray = (sigV lf (.slice (some ⟨b, 0, none⟩) 68 68) (.slice (some ⟨p, 0, none⟩) 5 pc)) from ⟨by rw [hgl]; exact info3, by rw [hgl]⟩)
  have SH := Lib.hid (show ∀ V, w9.grownBy V none → V.rangeAt w.heap.size 0 sl ∧ V.rangeAt (w.heap.size + 1) 0 dl ∧ V.rangeAt qb 0 gl from fun V hV => ⟨by rw [HL.out.1]; exact range_blk (HK9'.out.seedBox.grown hV (by simp)), by rw [HL.out.2]; exact range_blk (HK9'.out.digBox.grown hV (by simp)), by rw [hgl]; exact range_blk (HB9.out.1.grown hV (by simp))⟩)
  clear hgl
  refine wp_region_held_drew (S := fun V => V.rangeAt w.heap.size 0 sl ∧ V.rangeAt (w.heap.size + 1) 0 dl ∧ V.rangeAt qb 0 gl) (by kernel_rfl) (SH.out _ HG0.out) (fun hHeld => ?_)
  refine wpAnyH_take (i := 0) (oi := _) (v := ?v0g) rfl (by kernel_rfl) (by kernel_rfl) (by kernel_rfl) (fun _ _ _ h => h) (Or.inl ⟨by rfl, ?hy0g⟩) (by assumption) ?rest0g
  case hy0g => (intro V hSw; (try dsimp only at hSw); go_simp) <;> with_reducible rfl
  simp only [Act.put, List.getElem_toArray, List.getElem_cons_zero, List.setIfInBounds_toArray, List.set_cons_zero, List.set_cons_succ]
  refine wpAnyH_take (i := 1) (oi := _) (v := ?v1g) rfl (by kernel_rfl) (by kernel_rfl) (by kernel_rfl) (fun _ _ _ h => h) (Or.inl ⟨by rfl, ?hy1g⟩) (by assumption) ?rest1g
  case hy1g => (intro V hSw; (try dsimp only at hSw); go_simp) <;> with_reducible rfl
  simp only [Act.put, List.getElem_toArray, List.getElem_cons_succ, List.getElem_cons_zero, List.setIfInBounds_toArray, List.set_cons_zero, List.set_cons_succ]
  refine wpAnyH_take (i := 2) (oi := _) (v := ?v2g) rfl (by kernel_rfl) (by kernel_rfl) (by kernel_rfl) (fun _ _ _ h => h) (Or.inl ⟨by rfl, ?hy2g⟩) (by assumption) ?rest2g
  case hy2g => (intro V hSw; (try dsimp only at hSw); go_simp) <;> with_reducible rfl
  simp only [Act.put, List.getElem_toArray, List.getElem_cons_succ, List.getElem_cons_zero, List.setIfInBounds_toArray, List.set_cons_zero, List.set_cons_succ]
  refine wpAnyH_take (i := 3) (oi := _) (v := .agg gl.toArray) rfl (by kernel_rfl) (by kernel_rfl) (by kernel_rfl) (fun _ _ _ h => h) (yieldsIf_load_mid (by rfl) _ _ rfl qb 0 rfl gl _ (fun V hSw => hSw.2.2) Tryd.underlying30 rfl HGL.out.1) (by assumption) ?rest3g
  simp only [Act.put, List.getElem_toArray, List.getElem_cons_succ, List.getElem_cons_zero, List.setIfInBounds_toArray, List.set_cons_zero, List.set_cons_succ]
  refine wpAnyH_take (i := 4) (oi := _) (v := .agg sl.toArray) rfl (by kernel_rfl) (by kernel_rfl) (by kernel_rfl) (fun _ _ _ h => h) (yieldsIf_load_mid (by rfl) _ _ rfl w.heap.size 0 rfl sl _ (fun V hSw => hSw.1) Tryd.underlying23 rfl HI.out.1) (by assumption) ?rest4g
  simp only [Act.put, List.getElem_toArray, List.getElem_cons_succ, List.getElem_cons_zero, List.setIfInBounds_toArray, List.set_cons_zero, List.set_cons_succ]
  refine wpAnyH_take (i := 5) (oi := _) (v := ?v5g) rfl (by kernel_rfl) (by kernel_rfl) (by kernel_rfl) (fun _ _ _ h => h) (Or.inl ⟨by rfl, ?hy5g⟩) (by assumption) ?rest5g
  case hy5g => (intro V hSw; (try dsimp only at hSw); go_simp) <;> with_reducible rfl
  simp only [Act.put, List.getElem_toArray, List.getElem_cons_succ, List.getElem_cons_zero, List.setIfInBounds_toArray, List.set_cons_zero, List.set_cons_succ]
  refine wpAnyH_take (i := 6) (oi := _) (v := ?v6g) rfl (by kernel_rfl) (by kernel_rfl) (by kernel_rfl) (fun _ _ _ h => h) (Or.inl ⟨by rfl, ?hy6g⟩) (by assumption) ?rest6g
  case hy6g => (intro V hSw; (try dsimp only at hSw); go_simp) <;> with_reducible rfl
  simp only [Act.put, List.getElem_toArray, List.getElem_cons_succ, List.getElem_cons_zero, List.setIfInBounds_toArray, List.set_cons_zero, List.set_cons_succ]
  refine wpAnyH_take (i := 7) (oi := _) (v := .agg dl.toArray) rfl (by kernel_rfl) (by kernel_rfl) (by kernel_rfl) (fun _ _ _ h => h) (yieldsIf_load_mid (by rfl) _ _ rfl (w.heap.size + 1) 0 rfl dl _ (fun V hSw => hSw.2.1) Tryd.underlying23 rfl HI.out.2.1) (by assumption) ?rest7g
  simp only [Act.put, List.getElem_toArray, List.getElem_cons_succ, List.getElem_cons_zero, List.setIfInBounds_toArray, List.set_cons_zero, List.set_cons_succ]
  refine wpAnyH_ready (rs := [8]) (by kernel_rfl) (by simp) ?_
  refine AllReadyH.cons (o := _) rfl (fun K hK => ?_) AllReadyH.nil
  rw [HI.out.2.2.1, HI.out.2.2.2, HGL.out.2]
  go_simp
  refine (S5.out w9.drew g2 cap2 HK9'.out.cap (HK9'.out.row2.grown HG0.out)).mono ?_
  rintro e wA ⟨b2, bc2, p2, pc2, rfl, hb2, hp2, hkA⟩
  have HKA := Lib.hid (grown_trans HG0.out hkA)
  have HSA := Lib.hid (And.intro hb2 hp2)
  clear hkA hb2 hp2
  go_wp2_with fail
  refine hK.out _ _ (SH.out _ HKA.out) (fun hHeld => ?_)
  clear hK K
  try simp only [Act.put, List.setIfInBounds_toArray, List.set_cons_zero, List.set_cons_succ]
  refine wpAnyH_ready (rs := [9]) (by kernel_rfl) (by simp) ?_
  refine AllReadyH.cons (o := _) rfl (fun K hK => ?_) AllReadyH.nil
  go_simp
  refine (sigs_eq wA seed d lf i b p (HB9.out.2.grown HKA.out) b2 68 pc bc2 p2 pc2 HSA.out.1 HSA.out.2).mono ?_
  rintro e wB ⟨rfl, hkB⟩
  have HKB := Lib.hid (grown_trans HKA.out hkB)
  clear hkB
  go_wp2_with fail
  refine hK.out _ _ (SH.out _ HKB.out) (fun hHeld => ?_)
  clear hK K
  try simp only [Act.put, List.setIfInBounds_toArray, List.set_cons_zero, List.set_cons_succ]
  refine wpAnyH_take (i := 10) (oi := _) (v := ?v10g) rfl (by kernel_rfl) (by kernel_rfl) (by kernel_rfl) (fun _ _ _ h => h) (Or.inl ⟨by rfl, ?hy10g⟩) (by assumption) ?rest10g
  case hy10g => (intro V hSw; (try dsimp only at hSw); go_simp) <;> with_reducible rfl
  simp only [Act.put, List.getElem_toArray, List.getElem_cons_succ, List.getElem_cons_zero, List.setIfInBounds_toArray, List.set_cons_zero, List.set_cons_succ]
  refine wpAnyH_take (i := 11) (oi := _) (v := ?v11g) rfl (by kernel_rfl) (by kernel_rfl) (by kernel_rfl) (fun _ _ _ h => h) (Or.inl ⟨by rfl, ?hy11g⟩) (by assumption) ?rest11g
  case hy11g => (intro V hSw; (try dsimp only at hSw); go_simp) <;> with_reducible rfl
  simp only [Act.put, List.getElem_toArray, List.getElem_cons_succ, List.getElem_cons_zero, List.setIfInBounds_toArray, List.set_cons_zero, List.set_cons_succ]
  refine wpAnyH_take (i := 12) (oi := _) (v := ?v12g) rfl (by kernel_rfl) (by kernel_rfl) (by kernel_rfl) (fun _ _ _ h => h) (Or.inl ⟨by rfl, ?hy12g⟩) (by assumption) ?rest12g
  case hy12g => (intro V hSw; (try dsimp only at hSw); go_simp) <;> with_reducible rfl
  simp only [Act.put, List.getElem_toArray, List.getElem_cons_succ, List.getElem_cons_zero, List.setIfInBounds_toArray, List.set_cons_zero, List.set_cons_succ]
  refine wpAnyH_take (i := 14) (oi := _) (v := .agg dl.toArray) rfl (by kernel_rfl) (by kernel_rfl) (by kernel_rfl) (fun _ _ _ h => h) (yieldsIf_load_mid (by rfl) _ _ rfl (w.heap.size + 1) 0 rfl dl _ (fun V hSw => hSw.2.1) Tryd.underlying23 rfl HI.out.2.1) (by assumption) ?rest14g
  simp only [Act.put, List.getElem_toArray, List.getElem_cons_succ, List.getElem_cons_zero, List.setIfInBounds_toArray, List.set_cons_zero, List.set_cons_succ]
  refine wpAnyH_take (i := 15) (oi := _) (v := .agg gl.toArray) rfl (by kernel_rfl) (by kernel_rfl) (by kernel_rfl) (fun _ _ _ h => h) (yieldsIf_load_mid (by rfl) _ _ rfl qb 0 rfl gl _ (fun V hSw => hSw.2.2) Tryd.underlying30 rfl HGL.out.1) (by assumption) ?rest15g
  simp only [Act.put, List.getElem_toArray, List.getElem_cons_succ, List.getElem_cons_zero, List.setIfInBounds_toArray, List.set_cons_zero, List.set_cons_succ]
  refine wpAnyH_ready (rs := [13]) (by kernel_rfl) (by simp) ?_
  refine AllReadyH.cons (o := _) rfl (fun K hK => ?_) AllReadyH.nil
  go_simp
  refine (SK.out wB kb g cap (HK9'.out.key.grown HKB.out)).mono ?_
  rintro e wC ⟨rfl, hkC⟩
  have HKC := Lib.hid (grown_trans HKB.out hkC)
  clear hkC
  go_wp2_with fail
  refine hK.out _ _ (SH.out _ HKC.out) (fun hHeld => ?_)
  clear hK K
  try simp only [Act.put, List.setIfInBounds_toArray, List.set_cons_zero, List.set_cons_succ]
  refine wpAnyH_ready (rs := [16]) (by kernel_rfl) (by simp) ?_
  refine AllReadyH.cons (o := _) rfl (fun K hK => ?_) AllReadyH.nil
  rw [HI.out.2.2.2, HGL.out.2]
  go_simp
  refine (S6.out wC (grown_trans HK9'.out.grow HKC.out) b p 68 pc (HB9.out.2.grown HKC.out)).mono ?_
  rintro e wD ⟨rfl, hkD⟩
  have HKD := Lib.hid (grown_trans HKC.out hkD)
  clear hkD
  go_wp2_with fail
  refine hK.out _ _ (SH.out _ HKD.out) (fun hHeld => ?_)
  clear hK K
  try simp only [Act.put, List.setIfInBounds_toArray, List.set_cons_zero, List.set_cons_succ]
  refine wpAnyH_take (i := 17) (oi := _) (v := ?v17g) rfl (by kernel_rfl) (by kernel_rfl) (by kernel_rfl) (fun _ _ _ h => h) (Or.inl ⟨by rfl, ?hy17g⟩) (by assumption) ?rest17g
  case hy17g => (intro V hSw; (try dsimp only at hSw); go_simp) <;> with_reducible rfl
  simp only [Act.put, List.getElem_toArray, List.getElem_cons_succ, List.getElem_cons_zero, List.setIfInBounds_toArray, List.set_cons_zero, List.set_cons_succ]
  refine wpAnyH_take (i := 18) (oi := _) (v := ?v18g) rfl (by kernel_rfl) (by kernel_rfl) (by kernel_rfl) (fun _ _ _ h => h) (Or.inl ⟨by rfl, ?hy18g⟩) (by assumption) ?rest18g
  case hy18g => (intro V hSw; (try dsimp only at hSw); go_simp) <;> with_reducible rfl
  simp only [Act.put, List.getElem_toArray, List.getElem_cons_succ, List.getElem_cons_zero, List.setIfInBounds_toArray, List.set_cons_zero, List.set_cons_succ]
  refine wpAnyH_done (by kernel_rfl) ?_ _
  go_wp2_with fail
  go_ret
  exact ⟨rfl, grown_trans HK9'.out.grow HKD.out⟩
theorem signs_all (w : World) (hR : Rounds w) (B : Nat) (E : Nat → Addr) (he : ErrEnv w B E) (seed : List Int) (hs : isDig seed) (lf : Int) (d : List Int) (hd : isDig d) (sd dd : Array Value) (hsd : sd = arrV .u8 seed) (hdd : dd = arrV .u8 d) :
    Calls Tryd.prog 3 #[.agg sd, .int .i64 lf, .agg dd] w fun e w' => e = .returned (.bool true) ∧ w.grownBy w' none := by
  by_cases h0 : lf < 0
  · exact signs_neg w hR B E he seed hs lf h0 d hd sd dd hsd hdd
  · by_cases h1 : 32 ≤ lf
    · by_cases h2 : lf = 32
      · exact signs_just w hR B E he seed hs lf h2 d hd sd dd hsd hdd
      · exact signs_spent w hR B E he seed hs lf (by omega) d hd sd dd hsd hdd
    · exact signs_main w hR B E he seed hs lf lf.toNat (by omega) (by omega) d hd sd dd hsd hdd
end Go.Proofs.YtpldegdcachlmaaDoor
