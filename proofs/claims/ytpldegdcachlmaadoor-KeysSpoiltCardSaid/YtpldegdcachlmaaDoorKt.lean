/-
  KeysSpoilt, walked.
-/
import Derived.Test.YtpldegdcachlmaaDoorKm
import Derived.Test.YtpldegdcachlmaaDoorMid
import Derived.Deep.DeepCutAuto
namespace Go.Proofs.YtpldegdcachlmaaDoor
open Go.RowKit

/-- A Spoilt in memory. -/
def SpAt (w : World) (sb : Nat) (sd dd : Array Value) (lf at' bv : Int) (way : Bool) : Prop :=
  w.rangeAt sb 0 sd.toList ∧ w.rangeAt sb 16 dd.toList ∧ w.cell? ⟨sb, 32, none⟩ = some (.int .i64 lf) ∧ w.cell? ⟨sb, 33, none⟩ = some (.int .i64 at') ∧ w.cell? ⟨sb, 34, none⟩ = some (.int .u8 bv) ∧ w.cell? ⟨sb, 35, none⟩ = some (.bool way)
theorem SpAt.to {w w' : World} {sb : Nat} {sd dd : Array Value} {lf at' bv : Int} {way : Bool} {row : Option Nat} (h : SpAt w sb sd dd lf at' bv way) (hg : w.grownBy w' row) (hr : some sb ≠ row) : SpAt w' sb sd dd lf at' bv way :=
  ⟨range_to h.1 hg hr, range_to h.2.1 hg hr, hg.cell h.2.2.1 hr, hg.cell h.2.2.2.1 hr, hg.cell h.2.2.2.2.1 hr, hg.cell h.2.2.2.2.2 hr⟩
theorem SpAt.grown {w w' : World} {sb : Nat} {sd dd : Array Value} {lf at' bv : Int} {way : Bool} (h : SpAt w sb sd dd lf at' bv way) (hg : w.grownBy w' none) : SpAt w' sb sd dd lf at' bv way := h.to hg (by simp)
theorem spAt_of {w : World} {sb : Nat} {sd dd cs : Array Value} {lf at' bv : Int} {way : Bool} {t : TypeId} (h1 : sd.size = 16) (h2 : dd.size = 16) (hcs : cs = sd ++ (dd ++ #[.int .i64 lf, .int .i64 at', .int .u8 bv, .bool way])) (h : Blk w sb t cs) : SpAt w sb sd dd lf at' bv way := by
  have key : ∀ k, k < 4 → w.cell? ⟨sb, 32 + k, none⟩ = (#[Value.int .i64 lf, .int .i64 at', .int .u8 bv, .bool way] : Array Value)[k]? := fun k hk => by
    rw [h.cell, hcs, Array.getElem?_append_right (by omega), Array.getElem?_append_right (by omega), h1, h2, show 32 + k - 16 - 16 = k by omega]
  refine ⟨fun j v hv => ?_, fun j v hv => ?_, key 0 (by omega), key 1 (by omega), key 2 (by omega), key 3 (by omega)⟩
  · have hj : j < 16 := by have := (List.getElem?_eq_some_iff.1 hv).1; rwa [Array.length_toList, h1] at this
    rw [h.cell, Nat.zero_add, hcs, Array.getElem?_append_left (by omega), ← Array.getElem?_toList]
    exact hv
  · have hj : j < 16 := by have := (List.getElem?_eq_some_iff.1 hv).1; rwa [Array.length_toList, h2] at this
    rw [h.cell, hcs, Array.getElem?_append_right (by omega), h1, show 16 + j - 16 = j by omega, Array.getElem?_append_left (by omega), ← Array.getElem?_toList]
    exact hv
theorem u64_rem (x : Int) (n : Int) (hn : 0 < n ∧ n ≤ 100) : 0 ≤ IntKind.i64.wrap ((IntKind.u64.wrap x).tmod n) ∧ IntKind.i64.wrap ((IntKind.u64.wrap x).tmod n) < n := by
  have h : IntKind.u64.wrap x = x % 18446744073709551616 := by simp [IntKind.wrap, IntKind.bits, IntKind.signed]
  rw [h]
  have h2 : (x % 18446744073709551616).tmod n = (x % 18446744073709551616) % n := Int.tmod_eq_emod_of_nonneg (by omega)
  have h3 := Int.emod_nonneg (x % 18446744073709551616) (show n ≠ 0 by omega)
  have h4 := Int.emod_lt_of_pos (x % 18446744073709551616) (show 0 < n by omega)
  rw [h2, IntKind.wrap_i64]
  omega
/-- Whether chains and a way up are right. -/
def anyB (seed d : List Int) (J : Int) (cs ps : List (List Int)) : Bool := decide (climbC (recC J cs d) J ps 5 = rootC seed)
theorem any_v (w : World) (hR : Rounds w) (seed d : List Int) (hd : isDig d) (dd : Array Value) (hdd : dd = arrV .u8 d) (J : Int) (hJ : 0 ≤ J ∧ J < 32) (b p c1 c2 : Nat) (cs ps : List (List Int)) (hcl : cs.length = 68) (hcd : ∀ x ∈ cs, isDig x) (hpl : ps.length = 5) (hpd : ∀ x ∈ ps, isDig x) (hC : DigsAt w b 0 cs) (hP : DigsAt w p 0 ps) (rt : Array Value) (hrt : rt = arrV .u8 (rootC seed)) :
    Calls Tryd.prog 18 #[.agg rt, .agg dd, .agg (sigV J (.slice (some ⟨b, 0, none⟩) 68 c1) (.slice (some ⟨p, 0, none⟩) 5 c2))] w fun e w' => e = .returned (.bool (anyB seed d J cs ps)) ∧ w.grownBy w' none := by
  obtain ⟨xs, hxs⟩ : ∃ xs, xs = arrV .u8 (recC J cs d) := ⟨_, rfl⟩
  have hxd : isDig (recC J cs d) := by rw [recC]; exact pubC_dig _ _
  obtain ⟨ts, hts⟩ : ∃ ts, ts = arrV .u8 (climbC (recC J cs d) J ps 5) := ⟨_, rfl⟩
  have htd := climbC_dig hxd J ps 5
  exact verify_c w rt dd (by rw [hrt, arr_size]; exact (rootC_dig _).1) (by rw [hdd, arr_size, hd.1]) J _ _ 68 c1 5 c2 xs ts (by rw [hxs, arr_size, hxd.1]) (by rw [hxs]; exact arr_one _ _) (by rw [hts, arr_size, htd.1]) (by rw [hts]; exact arr_one _ _) _
    (fun V => by rw [hts, hrt, anyB]; exact eqD V _ _ htd.1 (rootC_dig _).1)
    (fun z hz => by rw [hdd]; exact recover_ok z (hR.grown hz (by simp)) J hJ b 0 c1 _ hcl hcd (hC.grown hz) d hd xs hxs)
    (fun z hz => climb_ok z (hR.grown hz (by simp)) _ hxd J hJ p 0 c2 _ hpl hpd (hP.grown hz) xs ts hxs hts)
theorem any_r (w : World) (seed d : List Int) (hd : isDig d) (dd : Array Value) (hdd : dd = arrV .u8 d) (J : Int) (hJ : 0 ≤ J ∧ J < 32) (b p c1 c2 : Nat) (cs ps : List (List Int)) (hcl : cs.length = 68) (hcd : ∀ x ∈ cs, isDig x) (hpl : ps.length = 5) (hpd : ∀ x ∈ ps, isDig x) (hC : DigsAt w b 0 cs) (hP : DigsAt w p 0 ps) (rt : Array Value) (hrt : rt = arrV .u8 (rootC seed)) :
    Calls Tryd.prog 19 #[.agg rt, .agg dd, .agg (sigV J (.slice (some ⟨b, 0, none⟩) 68 c1) (.slice (some ⟨p, 0, none⟩) 5 c2))] w fun e w' => e = .returned (.bool (anyB seed d J cs ps)) ∧ w.grownBy w' none := by
  obtain ⟨xs, hxs⟩ : ∃ xs, xs = arrV .u8 (recC J cs d) := ⟨_, rfl⟩
  have hxd : isDig (recC J cs d) := by rw [recC]; exact pubC_dig _ _
  obtain ⟨ts, hts⟩ : ∃ ts, ts = arrV .u8 (climbC (recC J cs d) J ps 5) := ⟨_, rfl⟩
  have htd := climbC_dig hxd J ps 5
  exact right_ok w rt dd (by rw [hrt, arr_size]; exact (rootC_dig _).1) (by rw [hdd, arr_size, hd.1]) J hJ _ _ c1 c2 xs ts _
    (fun V => by rw [hts, hrt, anyB]; exact eqD V _ _ htd.1 (rootC_dig _).1)
    (fun z hz => by rw [hdd]; exact rrecover_is z J b 0 c1 _ hcl hcd (hC.grown hz) d hd xs hxs)
    (fun z hz => rclimb_is z _ hxd J hJ p 0 c2 _ hpl hpd (hP.grown hz) xs ts hxs hts)
theorem anyB_own (seed d : List Int) (i : Nat) (hi : i < 32) (I : Int) (hI : I = (i : Int)) : anyB seed d I (sigsS seed I d) (upto (wayC (leavesC seed) i) 5) = true := by
  subst hI
  rw [anyB, recC_sigs]
  refine decide_eq_true ?_
  have := climb_root (ps := leavesC seed) hi
  rw [leavesC_get hi] at this
  exact this
theorem any_same (w : World) (I : Int) (b p c1 c2 g1 c3 g2 c4 : Nat) (cs ps cs' ps' : List (List Int)) (h1 : cs.length = 68) (h2 : cs'.length = 68) (h3 : ps.length = 5) (h4 : ps'.length = 5) (e1 : ∀ x ∈ cs, isDig x) (e2 : ∀ x ∈ cs', isDig x) (e3 : ∀ x ∈ ps, isDig x) (e4 : ∀ x ∈ ps', isDig x)
    (k1 : DigsAt w b 0 cs) (k2 : DigsAt w g1 0 cs') (k3 : DigsAt w p 0 ps) (k4 : DigsAt w g2 0 ps') (r : Bool) (hr : r = (decide (cs = cs') && decide (ps = ps'))) :
    Calls Tryd.prog 20 #[.agg (sigV I (.slice (some ⟨b, 0, none⟩) 68 c1) (.slice (some ⟨p, 0, none⟩) 5 c2)), .agg (sigV I (.slice (some ⟨g1, 0, none⟩) 68 c3) (.slice (some ⟨g2, 0, none⟩) 5 c4))] w fun e w' => e = .returned (.bool r) ∧ w.grownBy w' none := by
  have h := ksame_is w I I (some ⟨b, 0, none⟩) (some ⟨p, 0, none⟩) (some ⟨g1, 0, none⟩) (some ⟨g2, 0, none⟩) 68 c1 5 c2 68 c3 5 c4 _ _
    (fun z hz => eqs_same z b 0 c1 g1 0 c3 68 _ _ h1 h2 (by omega) e1 e2 (k1.grown hz) (k2.grown hz) _ rfl)
    (fun z hz => eqs_same z p 0 c2 g2 0 c4 5 _ _ h3 h4 (by omega) e3 e4 (k3.grown hz) (k4.grown hz) _ rfl)
  rw [hr]
  simpa using h

theorem digs_byte {w : World} {g : Nat} {ps : List (List Int)} (hps : ∀ p ∈ ps, isDig p) (h : DigsAt w g 0 ps) {j : Nat} (hj : j < ps.length) : w.cell? ⟨g, j * 16, none⟩ = some (.int .u8 ((ps.getD j zeroC).getD 0 0)) := by
  have hl := (getD_dig hps j).1
  have := h j hj 0 (.int .u8 ((ps.getD j zeroC).getD 0 0)) (by rw [Array.getElem?_toList]; exact arr_get (by omega))
  simpa using this
theorem first_byte {ps : List (List Int)} (hps : ∀ p ∈ ps, isDig p) (j : Nat) : 0 ≤ (ps.getD j zeroC).getD 0 0 ∧ (ps.getD j zeroC).getD 0 0 < 256 := by
  have h := getD_dig hps j
  generalize ps.getD j zeroC = p at h
  obtain ⟨h1, h2⟩ := h
  match p, h1, h2 with
  | x :: r, _, h2 => exact h2 x (by simp)
theorem spoil_b {ps : List (List Int)} (hps : ∀ p ∈ ps, isDig p) {j : Nat} (hj : j < ps.length) (bv : Int) (hbv : 0 ≤ bv ∧ bv < 256) : decide (ps = spoilL ps j (bits .xor .u8 ((ps.getD j zeroC).getD 0 0) bv)) = decide (bv = 0) := by
  rw [decide_eq_decide, eq_comm, spoilL_eq hps hj]
  exact (u8_xor _ _ (first_byte hps j) hbv).2.2
/-- Behind the change. -/
def Spoiled (w6 wx : World) (PS QS : List (List Int)) (bv : Int) (qt g1 g2 : Nat) (S : Array Value) : Prop :=
  ∃ cs' ps', cs'.length = 68 ∧ (∀ x ∈ cs', isDig x) ∧ ps'.length = 5 ∧ (∀ x ∈ ps', isDig x) ∧ DigsAt wx g1 0 cs' ∧ DigsAt wx g2 0 ps' ∧ (decide (PS = cs') && decide (QS = ps')) = decide (bv = 0) ∧ w6.grownBy wx none ∧ Blk wx qt 30 S
theorem Spoiled.way {w6 wc wx : World} {PS QS : List (List Int)} {bv : Int} {qt g1 g2 j : Nat} {S : Array Value} (hbv : 0 ≤ bv ∧ bv < 256) (l1 : PS.length = 68) (l2 : QS.length = 5) (e1 : ∀ x ∈ PS, isDig x) (e2 : ∀ x ∈ QS, isDig x) (hj : j < 5)
    (hB : Blk wc qt 30 S) (hD1 : DigsAt wc g1 0 PS) (hD2 : DigsAt wc g2 0 QS) (hT2 : wc.there g2 0 (5 * 16)) (hG : w6.grownBy wc none) (k2 : w6.heap.size ≤ g2) (n12 : g1 ≠ g2) (n23 : g2 ≠ qt)
    (hx : wx = (wc.setCell ⟨g2, j * 16, none⟩ (.int .u8 (bits .xor .u8 ((QS.getD j zeroC).getD 0 0) bv))).drew) : Spoiled w6 wx PS QS bv qt g1 g2 S := by
  have hg : wc.grownBy wx (some g2) := by rw [hx]; exact grown_drew (grown_setCells g2 [.int .u8 (bits .xor .u8 ((QS.getD j zeroC).getD 0 0) bv)] (j * 16) wc (World.grownBy.refl wc (some g2)))
  have hy := u8_xor _ bv (first_byte e2 j) hbv
  refine ⟨PS, spoilL QS j (bits .xor .u8 ((QS.getD j zeroC).getD 0 0) bv), l1, e1, by rw [spoilL_length, l2], spoilL_dig e2 j _ ⟨hy.1, hy.2.1⟩, fun k hk => range_to (hD1 k hk) hg (fun e => n12 (Option.some.inj e)), ?_, ?_, grown_fresh hG hg k2, hB.grown hg (fun e => n23 (Option.some.inj e).symm)⟩
  · rw [hx]
    exact (digs_spoil e2 (by omega) hD2 (by rw [l2]; exact hT2) _).grown (grown_drew (World.grownBy.refl _ none))
  · rw [spoil_b e2 (by omega) bv hbv]; simp
theorem Spoiled.chains {w6 wc wx : World} {PS QS : List (List Int)} {bv : Int} {qt g1 g2 j : Nat} {S : Array Value} (hbv : 0 ≤ bv ∧ bv < 256) (l1 : PS.length = 68) (l2 : QS.length = 5) (e1 : ∀ x ∈ PS, isDig x) (e2 : ∀ x ∈ QS, isDig x) (hj : j < 68)
    (hB : Blk wc qt 30 S) (hD1 : DigsAt wc g1 0 PS) (hT1 : wc.there g1 0 (68 * 16)) (hD2 : DigsAt wc g2 0 QS) (hG : w6.grownBy wc none) (k1 : w6.heap.size ≤ g1) (n12 : g1 ≠ g2) (n13 : g1 ≠ qt)
    (hx : wx = (wc.setCell ⟨g1, j * 16, none⟩ (.int .u8 (bits .xor .u8 ((PS.getD j zeroC).getD 0 0) bv))).drew) : Spoiled w6 wx PS QS bv qt g1 g2 S := by
  have hg : wc.grownBy wx (some g1) := by rw [hx]; exact grown_drew (grown_setCells g1 [.int .u8 (bits .xor .u8 ((PS.getD j zeroC).getD 0 0) bv)] (j * 16) wc (World.grownBy.refl wc (some g1)))
  have hy := u8_xor _ bv (first_byte e1 j) hbv
  refine ⟨spoilL PS j (bits .xor .u8 ((PS.getD j zeroC).getD 0 0) bv), QS, by rw [spoilL_length, l1], spoilL_dig e1 j _ ⟨hy.1, hy.2.1⟩, l2, e2, ?_, fun k hk => range_to (hD2 k hk) hg (fun e => n12 (Option.some.inj e).symm), ?_, grown_fresh hG hg k1, hB.grown hg (fun e => n13 (Option.some.inj e).symm)⟩
  · rw [hx]
    exact (digs_spoil e1 (by omega) hD1 (by rw [l1]; exact hT1) _).grown (grown_drew (World.grownBy.refl _ none))
  · rw [spoil_b e1 (by omega) bv hbv]; simp

set_option maxRecDepth 100000 in
set_option maxHeartbeats 16000000 in
theorem spoilt_main (w : World) (hR : Rounds w) (B : Nat) (E : Nat → Addr) (he : ErrEnv w B E) (seed : List Int) (hs : isDig seed) (d : List Int) (hd : isDig d) (sd dd : Array Value) (hsd : sd = arrV .u8 seed) (hdd : dd = arrV .u8 d) (lf at' bv : Int) (hbv : 0 ≤ bv ∧ bv < 256) (way : Bool) (cs : Array Value) (hcs : cs = sd ++ (dd ++ #[.int .i64 lf, .int .i64 at', .int .u8 bv, .bool way])) :
    Calls Tryd.prog 5 #[.agg cs] w fun e w' => e = .returned (.bool true) ∧ w.grownBy w' none := by
  have hz30 := sigz_run
  have HA := Lib.hid (fun (z : World) (hz : w.grownBy z none) => keys_alive z (hR.grown hz (by simp)) B E (he.grown hz (by simp)))
  have K1 := Lib.hid (fun (z : World) (hz : w.grownBy z none) => new_is z (hR.grown hz (by simp)) seed hs sd hsd)
  obtain ⟨rt, hrt⟩ : ∃ rt, rt = arrV .u8 (rootC seed) := ⟨_, rfl⟩
  have SK := Lib.hid (fun (z : World) kb g cap (hK : KeyAt z kb sd (.slice (some ⟨g, 0, none⟩) 32 cap) (arrV .u8 (rootC seed))) => kroot_is z kb sd rt _ (by rw [hrt]; exact hK) (by rw [hrt, arr_size]; exact (rootC_dig _).1) (by rw [hrt]; exact arr_one _ _))
  have SG := Lib.hid (fun (z : World) (hz : w.grownBy z none) kb g cap hK hD i hi (I : Int) (hI : I = ((i : Nat) : Int)) => ksign_is z (hR.grown hz (by simp)) kb g cap seed hs sd (arrV .u8 (rootC seed)) hsd hK hD i hi I hI d hd dd hdd)
  have SV := Lib.hid (fun (z : World) (hz : w.grownBy z none) J hJ b p c1 c2 cs ps h1 h2 h3 h4 h5 h6 => any_v z (hR.grown hz (by simp)) seed d hd dd hdd J hJ b p c1 c2 cs ps h1 h2 h3 h4 h5 h6 rt hrt)
  have SR := Lib.hid (fun (z : World) J hJ b p c1 c2 cs ps h1 h2 h3 h4 h5 h6 => any_r z seed d hd dd hdd J hJ b p c1 c2 cs ps h1 h2 h3 h4 h5 h6 rt hrt)
  have HS := Lib.hid (show sd.size = 16 ∧ dd.size = 16 from ⟨by rw [hsd, arr_size, hs.1], by rw [hdd, arr_size, hd.1]⟩)
  obtain ⟨sl, hsl⟩ : ∃ l, l = sd.toList := ⟨_, rfl⟩
  obtain ⟨dl, hdl⟩ : ∃ l, l = dd.toList := ⟨_, rfl⟩
  have HI := Lib.hid (show (Tryd.prog.info? 23).map (·.size) = some sl.length ∧ (Tryd.prog.info? 23).map (·.size) = some dl.length ∧ sl.toArray = sd ∧ dl.toArray = dd from ⟨by rw [hsl, Array.length_toList, HS.out.1]; exact info16, by rw [hdl, Array.length_toList, HS.out.2]; exact info16, by rw [hsl, Array.toArray_toList], by rw [hdl, Array.toArray_toList]⟩)
  have HSP := Lib.hid (show SpAt (w.alloc (.cells cs 44)) w.heap.size sd dd lf at' bv way from spAt_of HS.out.1 HS.out.2 hcs (Blk.new w 44 cs))
  have SPF := Lib.hid (show ∀ V, SpAt V w.heap.size sd dd lf at' bv way → V.rangeAt w.heap.size 0 sl ∧ V.rangeAt w.heap.size 16 dl from fun V h => ⟨by rw [hsl]; exact h.1, by rw [hdl]; exact h.2.1⟩)
  have SPF2 := Lib.hid (show ∀ (V : World) (bx : Int), SpAt V w.heap.size sd dd lf at' bx way → V.rangeAt w.heap.size 16 dl from fun V bx h => by rw [hdl]; exact h.2.1)
  obtain ⟨i, hi⟩ : ∃ i : Nat, (i : Int) = lf % 32 := ⟨(lf % 32).toNat, by omega⟩
  obtain ⟨hu, hu2⟩ := u64_rem32 lf
  have hi32 : i < 32 := by omega
  obtain ⟨I, hI⟩ : ∃ I : Int, I = lf % 32 := ⟨_, rfl⟩
  rw [← hI] at hu hu2
  have hIi : I = (i : Int) := by omega
  have HIX := Lib.hid (And.intro hi32 (And.intro hIi (show 0 ≤ I ∧ I < 32 by omega)))
  have HBV := Lib.hid hbv
  clear hR he hs hd hsd hdd hrt hsl hdl hcs hi hI hi32 hIi hbv
  go_enter Tryd.func5, Tryd.ntmps5
  go_wp2_with fail
  refine (HA.out _ (World.grownBy_alloc w _ none)).mono ?_
  rintro e w2 ⟨rfl, hk2⟩
  have H2 := Lib.hid (show SpAt w2 w.heap.size sd dd lf at' bv way ∧ w.grownBy w2 none from ⟨HSP.out.grown hk2, grown_trans (World.grownBy_alloc w _ none) hk2⟩)
  clear hk2
  go_wp2_with (refine wpList_load_mid rfl 23 _ rfl w.heap.size 0 rfl sl _ (SPF.out _ H2.out.1).1 Tryd.underlying23 rfl HI.out.1 ?_; rw [HI.out.2.2.1])
  refine (K1.out w2 H2.out.2).mono ?_
  rintro e w3 ⟨kb, g, cap, rfl, _, _, _, hK, hDg, _, hk3⟩
  have H3 := Lib.hid (show SpAt w3 w.heap.size sd dd lf at' bv way ∧ w.grownBy w3 none ∧ KeyAt w3 kb sd (.slice (some ⟨g, 0, none⟩) 32 cap) (arrV .u8 (rootC seed)) ∧ DigsAt w3 g 0 (leavesC seed) from ⟨H2.out.1.grown hk3, grown_trans H2.out.2 hk3, hK, hDg⟩)
  have c32 := H3.out.1.2.2.1
  clear hk3 hK hDg
  go_wp2_with (refine wpList_load_mid rfl 23 _ rfl w.heap.size 16 rfl dl _ (SPF.out _ H3.out.1).2 Tryd.underlying23 rfl HI.out.2.1 ?_; rw [HI.out.2.2.2])
  refine (SG.out w3 H3.out.2.1 kb g cap H3.out.2.2.1 H3.out.2.2.2 i HIX.out.1 I HIX.out.2.1).mono ?_
  rintro e w5 ⟨b, p, pc, rfl, _, _, _, hSg, hk5⟩
  have H5 := Lib.hid (And.intro hk5 hSg)
  clear hk5 hSg c32
  go_wp2_with (refine wpList_store_row rfl 30 _ _ rfl w5.heap.size (sigV I (.slice (some ⟨b, 0, none⟩) 68 68) (.slice (some ⟨p, 0, none⟩) 5 pc)) rfl rfl 30 _ (heap_alloc_new w5 _) (by rw [sigV_size]; exact info3) (by rw [sigV_size]; rfl) (sigV_one _ _ _ _ _ _ _) ?_
               obtain ⟨w6, hw6⟩ : ∃ w6, w6 = (w5.alloc (.cells sigZ 30)).setRow w5.heap.size (sigV I (.slice (some ⟨b, 0, none⟩) 68 68) (.slice (some ⟨p, 0, none⟩) 5 pc)) := ⟨_, rfl⟩
               obtain ⟨qb, hqb⟩ : ∃ qb, qb = w5.heap.size := ⟨_, rfl⟩
               rw [← hw6, ← hqb]
               have H6 := Lib.hid (show Blk w6 qb 30 (sigV I (.slice (some ⟨b, 0, none⟩) 68 68) (.slice (some ⟨p, 0, none⟩) 5 pc)) ∧ SigAt w6 seed I i d b p ∧ SpAt w6 w.heap.size sd dd lf at' bv way ∧ KeyAt w6 kb sd (.slice (some ⟨g, 0, none⟩) 32 cap) (arrV .u8 (rootC seed)) ∧ w.grownBy w6 none from by
                 have g6 : w5.grownBy w6 none := by rw [hw6]; exact grown_row (World.grownBy_alloc w5 (.cells sigZ 30) none) (.inl (Nat.le_refl _)) (sigV I (.slice (some ⟨b, 0, none⟩) 68 68) (.slice (some ⟨p, 0, none⟩) 5 pc))
                 have g36 := grown_trans H5.out.1 g6
                 refine ⟨?_, H5.out.2.grown g6, H3.out.1.grown g36, H3.out.2.2.1.grown g36, grown_trans H3.out.2.1 g36⟩
                 rw [hw6, hqb]; exact (Blk.new w5 30 sigZ).row _)
               clear hw6 hqb)
  go_cut [6] (fun v6 wx => Copied w6 wx 68 5 (sigsS seed I d) (upto (wayC (leavesC seed) i) 5) 30 (sigV I) v6)
  case first =>
    rename_i J9 K9 hJ9 hK9
    have HQ := Lib.hid (show ∀ V, w6.grownBy V none → V.cell? ⟨qb, 0, none⟩ = some (.int .i64 I) ∧ V.cell? ⟨qb, 1, none⟩ = some (.slice (some ⟨b, 0, none⟩) 68 68) ∧ V.cell? ⟨qb, 2, none⟩ = some (.slice (some ⟨p, 0, none⟩) 5 pc) from fun V hV => ⟨(H6.out.1.grown hV (by simp)).cell 0, (H6.out.1.grown hV (by simp)).cell 1, (H6.out.1.grown hV (by simp)).cell 2⟩)
    refine wp_region_held_drew (S := fun V => V.cell? ⟨qb, 0, none⟩ = some (.int .i64 I) ∧ V.cell? ⟨qb, 1, none⟩ = some (.slice (some ⟨b, 0, none⟩) 68 68) ∧ V.cell? ⟨qb, 2, none⟩ = some (.slice (some ⟨p, 0, none⟩) 5 pc)) (by kernel_rfl) (HQ.out _ (grown_drew (World.grownBy.refl w6 none))) (fun hHeld => ?_)
    obtain ⟨V0, hV0⟩ : ∃ V0, V0 = w6.drew := ⟨_, rfl⟩
    have M0 := Lib.hid (show Mid w6 V0 68 5 (sigsS seed I d) (upto (wayC (leavesC seed) i) 5) 30 sigZ 0 .nilIface 0 .nilIface 0 0 from by
      rw [hV0]
      exact ⟨grown_drew (World.grownBy.refl w6 none), ⟨fun h => by omega, fun h => by omega⟩, ⟨fun h => by omega, fun h => by omega⟩, fun h => by omega, by omega, by omega, fun h => absurd rfl h, fun h => absurd rfl h, fun h => absurd rfl h⟩)
    rw [← hV0] at hHeld ⊢
    clear hV0
    refine wpAnyH_take (i := 0) (oi := _) (v := ?v0c) rfl (by kernel_rfl) (by kernel_rfl) (by kernel_rfl) (fun _ _ _ h => h) (Or.inl ⟨by rfl, ?hy0c⟩) (by assumption) ?rest0c
    case hy0c => (intro V hSw; (try dsimp only at hSw); go_simp) <;> with_reducible rfl
    simp only [Act.put, List.getElem_toArray, List.getElem_cons_zero, List.setIfInBounds_toArray, List.set_cons_zero, List.set_cons_succ]
    refine wpAnyH_take (i := 1) (oi := _) (v := ?v1c) rfl (by kernel_rfl) (by kernel_rfl) (by kernel_rfl) (fun _ _ _ h => h) (Or.inl ⟨by rfl, ?hy1c⟩) (by assumption) ?rest1c
    case hy1c => (intro V hSw; (try dsimp only at hSw); go_simp) <;> with_reducible rfl
    simp only [Act.put, List.getElem_toArray, List.getElem_cons_succ, List.getElem_cons_zero, List.setIfInBounds_toArray, List.set_cons_zero, List.set_cons_succ]
    refine wpAnyH_take (i := 3) (oi := _) (v := ?v3c) rfl (by kernel_rfl) (by kernel_rfl) (by kernel_rfl) (fun _ _ _ h => h) (Or.inl ⟨by rfl, ?hy3c⟩) (by assumption) ?rest3c
    case hy3c => (intro V hSw; (try dsimp only at hSw); go_simp) <;> with_reducible rfl
    simp only [Act.put, List.getElem_toArray, List.getElem_cons_succ, List.getElem_cons_zero, List.setIfInBounds_toArray, List.set_cons_zero, List.set_cons_succ]
    refine wpAnyH_take (i := 4) (oi := _) (v := ?v4c) rfl (by kernel_rfl) (by kernel_rfl) (by kernel_rfl) (fun _ _ _ h => h) (Or.inl ⟨by rfl, ?hy4c⟩) (by assumption) ?rest4c
    case hy4c => (intro V hSw; (try dsimp only at hSw); go_simp) <;> with_reducible rfl
    simp only [Act.put, List.getElem_toArray, List.getElem_cons_succ, List.getElem_cons_zero, List.setIfInBounds_toArray, List.set_cons_zero, List.set_cons_succ]
    refine wpAnyH_take (i := 7) (oi := _) (v := ?v7c) rfl (by kernel_rfl) (by kernel_rfl) (by kernel_rfl) (fun _ _ _ h => h) (Or.inl ⟨by rfl, ?hy7c⟩) (by assumption) ?rest7c
    case hy7c => (intro V hSw; (try dsimp only at hSw); go_simp) <;> with_reducible rfl
    simp only [Act.put, List.getElem_toArray, List.getElem_cons_succ, List.getElem_cons_zero, List.setIfInBounds_toArray, List.set_cons_zero, List.set_cons_succ]
    refine wpAnyH_take (i := 8) (oi := _) (v := ?v8c) rfl (by kernel_rfl) (by kernel_rfl) (by kernel_rfl) (fun _ _ _ h => h) (Or.inl ⟨by rfl, ?hy8c⟩) (by assumption) ?rest8c
    case hy8c => (intro V hSw; (try dsimp only at hSw); go_simp) <;> with_reducible rfl
    simp only [Act.put, List.getElem_toArray, List.getElem_cons_succ, List.getElem_cons_zero, List.setIfInBounds_toArray, List.set_cons_zero, List.set_cons_succ]
    refine wpAnyH_ready (rs := [2, 6, 11]) (by kernel_rfl) (by simp) ?_
    refine AllReadyH.cons (o := _) rfl (fun K hK => ?_) (AllReadyH.cons (o := _) rfl (fun K hK => ?_) (AllReadyH.cons (o := _) rfl (fun K hK => ?_) AllReadyH.nil))
    · rw [if_pos (by rfl)]
      refine wp_bslice0 27 rfl _ (run_slice_none V0) ?_
      obtain ⟨V1, hV1⟩ : ∃ z, z = V0.alloc (.cells #[] 23) := ⟨_, rfl⟩
      have M1 := Lib.hid (M0.out.lit1)
      rw [← hV1] at M1 ⊢
      clear hV1
      refine hK.out _ _ (HQ.out _ M1.out.grow) (fun hHeld => ?_)
      clear hK K
      simp only [Act.put, List.getElem_toArray, List.getElem_cons_succ, List.getElem_cons_zero, List.setIfInBounds_toArray, List.set_cons_zero, List.set_cons_succ]
      refine wpAnyH_ready (rs := [5, 6, 11]) (by kernel_rfl) (by simp) ?_
      refine AllReadyH.cons (o := _) rfl (fun K hK => ?_) (AllReadyH.cons (o := _) rfl (fun K hK => ?_) (AllReadyH.cons (o := _) rfl (fun K hK => ?_) AllReadyH.nil))
      · rw [if_pos (by rfl)]
        have ho1 : V1.ownsRow w6.heap.size 23 16 (.slice (some ⟨V0.heap.size, 0, none⟩) 0 0) 0 [] := by
          obtain ⟨_, _, _, _, h⟩ := M1.out.one.1 rfl
          exact h
        refine wp_copy_digs _ _ rfl w6.heap.size (.slice (some ⟨V0.heap.size, 0, none⟩) 0 0) rfl ho1 b 0 68 68 rfl (sigsS seed I d) (sigsS_length seed I d) (by omega) (by omega) (sigsS_dig seed I d) (H6.out.2.1.chains.grown M1.out.grow) M1.out.grow.size ?_
        intro g1 c1 V2 hb1 hc1 ht1 hd1 hg1 ha1
        have M2 := Lib.hid (M1.out.app1 (by omega) (sigsS_dig seed I d) (sigsS_length seed I d) hb1 hc1 ht1 hd1 hg1 ha1)
        clear ho1 hb1 hc1 ht1 hd1 hg1 ha1
        refine hK.out _ _ (HQ.out _ M2.out.grow) (fun hHeld => ?_)
        clear hK K
        simp only [Act.put, List.getElem_toArray, List.getElem_cons_succ, List.getElem_cons_zero, List.setIfInBounds_toArray, List.set_cons_zero, List.set_cons_succ]
        refine wpAnyH_ready (rs := [6, 11]) (by kernel_rfl) (by simp) ?_
        refine AllReadyH.cons (o := _) rfl (fun K hK => ?_) (AllReadyH.cons (o := _) rfl (fun K hK => ?_) AllReadyH.nil)
        · rw [if_pos (by rfl)]
          refine wp_bslice0 27 rfl _ (run_slice_none V2) ?_
          obtain ⟨V3, hV3⟩ : ∃ z, z = V2.alloc (.cells #[] 23) := ⟨_, rfl⟩
          have M3 := Lib.hid (M2.out.lit2)
          rw [← hV3] at M3 ⊢
          clear hV3
          refine hK.out _ _ (HQ.out _ M3.out.grow) (fun hHeld => ?_)
          clear hK K
          simp only [Act.put, List.getElem_toArray, List.getElem_cons_succ, List.getElem_cons_zero, List.setIfInBounds_toArray, List.set_cons_zero, List.set_cons_succ]
          refine wpAnyH_ready (rs := [9, 11]) (by kernel_rfl) (by simp) ?_
          refine AllReadyH.cons (o := _) rfl (fun K hK => ?_) (AllReadyH.cons (o := _) rfl (fun K hK => ?_) AllReadyH.nil)
          · rw [if_pos (by rfl)]
            have ho3 : V3.ownsRow w6.heap.size 23 16 (.slice (some ⟨V2.heap.size, 0, none⟩) 0 0) 0 [] := by
              obtain ⟨_, _, _, _, h⟩ := M3.out.two.1 rfl
              exact h
            refine wp_copy_digs _ _ rfl w6.heap.size (.slice (some ⟨V2.heap.size, 0, none⟩) 0 0) rfl ho3 p 0 5 pc rfl (upto (wayC (leavesC seed) i) 5) (upto_length _ _) (by omega) (by omega) (way_dig (leavesC_dig seed) (fun k => k) i 5) (H6.out.2.1.path.grown M3.out.grow) M3.out.grow.size ?_
            intro g2 c2 V4 hb3 hc3 ht3 hd3 hg3 ha3
            have M4 := Lib.hid (M3.out.app2 (by omega) (way_dig (leavesC_dig seed) (fun k => k) i 5) (upto_length _ _) hb3 hc3 ht3 hd3 hg3 ha3)
            clear ho3 hb3 hc3 ht3 hd3 hg3 ha3
            refine hK.out _ _ (HQ.out _ M4.out.grow) (fun hHeld => ?_)
            clear hK K
            simp only [Act.put, List.getElem_toArray, List.getElem_cons_succ, List.getElem_cons_zero, List.setIfInBounds_toArray, List.set_cons_zero, List.set_cons_succ]
            refine wpAnyH_ready (rs := [10, 11]) (by kernel_rfl) (by simp) ?_
            refine AllReadyH.cons (o := _) rfl (fun K hK => ?_) (AllReadyH.cons (o := _) rfl (fun K hK => ?_) AllReadyH.nil)
            · rw [if_pos (by rfl)]
              obtain ⟨SS, hSS⟩ : ∃ SS, SS = (sigV I (.slice (some ⟨g1, 0, none⟩) 68 c1) (.slice (some ⟨g2, 0, none⟩) 5 c2)) := ⟨_, rfl⟩
              refine wp_build3_run 30 _ _ _ rfl (.int .i64 I) (.slice (some ⟨g1, 0, none⟩) 68 c1) (.slice (some ⟨g2, 0, none⟩) 5 c2) (.agg SS) rfl rfl rfl (by rw [hSS]; exact build_sig _ _ _ _ _ _ _ _) ?_
              refine hK.out _ _ (HQ.out _ M4.out.grow) (fun hHeld => ?_)
              clear hK K
              simp only [Act.put, List.getElem_toArray, List.getElem_cons_succ, List.getElem_cons_zero, List.setIfInBounds_toArray, List.set_cons_zero, List.set_cons_succ]
              refine wpAnyH_ready (rs := [11]) (by kernel_rfl) (by simp) ?_
              refine AllReadyH.cons (o := _) rfl (fun K hK => ?_) AllReadyH.nil
              rw [if_pos (by rfl)]
              refine wp_alloc_run 30 rfl sigZ (sigz_run V4) ?_
              obtain ⟨V5, hV5⟩ : ∃ z, z = V4.alloc (.cells sigZ 30) := ⟨_, rfl⟩
              have M5 := Lib.hid (M4.out.box1)
              rw [← hV5] at M5 ⊢
              clear hV5
              refine hK.out _ _ (HQ.out _ M5.out.grow) (fun hHeld => ?_)
              clear hK K
              simp only [Act.put, List.getElem_toArray, List.getElem_cons_succ, List.getElem_cons_zero, List.setIfInBounds_toArray, List.set_cons_zero, List.set_cons_succ]
              refine wpAnyH_ready (rs := [12]) (by kernel_rfl) (by simp) ?_
              refine AllReadyH.cons (o := _) rfl (fun K hK => ?_) AllReadyH.nil
              rw [if_pos (by rfl)]
              have hbx := (M5.out.box rfl).1
              have hdn := M5.out.done (sigV I)
              have hsz : SS.size = 3 := by rw [hSS]; rfl
              rw [← hSS] at hdn
              have hdn := Lib.hid hdn
              refine wp_store_row _ _ _ rfl (V4.heap.size) SS rfl rfl 30 _ hbx (by rw [hsz]; exact info3) (by rw [hsz]; rfl) (by rw [hSS]; exact sigV_one _ _ _ _ _ _ _) ?_
              have hS : (V5.setRow (V4.heap.size) SS).cell? ⟨qb, 0, none⟩ = some (.int .i64 I) ∧ (V5.setRow (V4.heap.size) SS).cell? ⟨qb, 1, none⟩ = some (.slice (some ⟨b, 0, none⟩) 68 68) ∧ (V5.setRow (V4.heap.size) SS).cell? ⟨qb, 2, none⟩ = some (.slice (some ⟨p, 0, none⟩) 5 pc) := by
                obtain ⟨_, _, _, _, _, _, _, _, _, _, _, hgr, _⟩ := hdn.out
                exact HQ.out _ hgr
              refine hK.out _ _ hS (fun _ => ?_)
              simp only [Act.put, List.getElem_toArray, List.getElem_cons_succ, List.getElem_cons_zero, List.setIfInBounds_toArray, List.set_cons_zero, List.set_cons_succ]
              refine wpAnyH_done (by kernel_rfl) ?_ _
              refine hK9 _ _ (Met.intro (hJ9 _ _ ?_))
              (repeat apply Exists.intro)
              exact ⟨hdn.out, rfl⟩
            · rw [if_pos (by rfl)]
              refine wp_alloc_run 30 rfl sigZ (sigz_run V4) ?_
              obtain ⟨V5, hV5⟩ : ∃ z, z = V4.alloc (.cells sigZ 30) := ⟨_, rfl⟩
              have M5 := Lib.hid (M4.out.box1)
              rw [← hV5] at M5 ⊢
              clear hV5
              refine hK.out _ _ (HQ.out _ M5.out.grow) (fun hHeld => ?_)
              clear hK K
              simp only [Act.put, List.getElem_toArray, List.getElem_cons_succ, List.getElem_cons_zero, List.setIfInBounds_toArray, List.set_cons_zero, List.set_cons_succ]
              refine wpAnyH_ready (rs := [10]) (by kernel_rfl) (by simp) ?_
              refine AllReadyH.cons (o := _) rfl (fun K hK => ?_) AllReadyH.nil
              rw [if_pos (by rfl)]
              obtain ⟨SS, hSS⟩ : ∃ SS, SS = (sigV I (.slice (some ⟨g1, 0, none⟩) 68 c1) (.slice (some ⟨g2, 0, none⟩) 5 c2)) := ⟨_, rfl⟩
              refine wp_build3_run 30 _ _ _ rfl (.int .i64 I) (.slice (some ⟨g1, 0, none⟩) 68 c1) (.slice (some ⟨g2, 0, none⟩) 5 c2) (.agg SS) rfl rfl rfl (by rw [hSS]; exact build_sig _ _ _ _ _ _ _ _) ?_
              refine hK.out _ _ (HQ.out _ M5.out.grow) (fun hHeld => ?_)
              clear hK K
              simp only [Act.put, List.getElem_toArray, List.getElem_cons_succ, List.getElem_cons_zero, List.setIfInBounds_toArray, List.set_cons_zero, List.set_cons_succ]
              refine wpAnyH_ready (rs := [12]) (by kernel_rfl) (by simp) ?_
              refine AllReadyH.cons (o := _) rfl (fun K hK => ?_) AllReadyH.nil
              rw [if_pos (by rfl)]
              have hbx := (M5.out.box rfl).1
              have hdn := M5.out.done (sigV I)
              have hsz : SS.size = 3 := by rw [hSS]; rfl
              rw [← hSS] at hdn
              have hdn := Lib.hid hdn
              refine wp_store_row _ _ _ rfl (V4.heap.size) SS rfl rfl 30 _ hbx (by rw [hsz]; exact info3) (by rw [hsz]; rfl) (by rw [hSS]; exact sigV_one _ _ _ _ _ _ _) ?_
              have hS : (V5.setRow (V4.heap.size) SS).cell? ⟨qb, 0, none⟩ = some (.int .i64 I) ∧ (V5.setRow (V4.heap.size) SS).cell? ⟨qb, 1, none⟩ = some (.slice (some ⟨b, 0, none⟩) 68 68) ∧ (V5.setRow (V4.heap.size) SS).cell? ⟨qb, 2, none⟩ = some (.slice (some ⟨p, 0, none⟩) 5 pc) := by
                obtain ⟨_, _, _, _, _, _, _, _, _, _, _, hgr, _⟩ := hdn.out
                exact HQ.out _ hgr
              refine hK.out _ _ hS (fun _ => ?_)
              simp only [Act.put, List.getElem_toArray, List.getElem_cons_succ, List.getElem_cons_zero, List.setIfInBounds_toArray, List.set_cons_zero, List.set_cons_succ]
              refine wpAnyH_done (by kernel_rfl) ?_ _
              refine hK9 _ _ (Met.intro (hJ9 _ _ ?_))
              (repeat apply Exists.intro)
              exact ⟨hdn.out, rfl⟩
          · rw [if_pos (by rfl)]
            refine wp_alloc_run 30 rfl sigZ (sigz_run V3) ?_
            obtain ⟨V4, hV4⟩ : ∃ z, z = V3.alloc (.cells sigZ 30) := ⟨_, rfl⟩
            have M4 := Lib.hid (M3.out.box1)
            rw [← hV4] at M4 ⊢
            clear hV4
            refine hK.out _ _ (HQ.out _ M4.out.grow) (fun hHeld => ?_)
            clear hK K
            simp only [Act.put, List.getElem_toArray, List.getElem_cons_succ, List.getElem_cons_zero, List.setIfInBounds_toArray, List.set_cons_zero, List.set_cons_succ]
            refine wpAnyH_ready (rs := [9]) (by kernel_rfl) (by simp) ?_
            refine AllReadyH.cons (o := _) rfl (fun K hK => ?_) AllReadyH.nil
            rw [if_pos (by rfl)]
            have ho4 : V4.ownsRow w6.heap.size 23 16 (.slice (some ⟨V2.heap.size, 0, none⟩) 0 0) 0 [] := by
              obtain ⟨_, _, _, _, h⟩ := M4.out.two.1 rfl
              exact h
            refine wp_copy_digs _ _ rfl w6.heap.size (.slice (some ⟨V2.heap.size, 0, none⟩) 0 0) rfl ho4 p 0 5 pc rfl (upto (wayC (leavesC seed) i) 5) (upto_length _ _) (by omega) (by omega) (way_dig (leavesC_dig seed) (fun k => k) i 5) (H6.out.2.1.path.grown M4.out.grow) M4.out.grow.size ?_
            intro g2 c2 V5 hb4 hc4 ht4 hd4 hg4 ha4
            have M5 := Lib.hid (M4.out.app2 (by omega) (way_dig (leavesC_dig seed) (fun k => k) i 5) (upto_length _ _) hb4 hc4 ht4 hd4 hg4 ha4)
            clear ho4 hb4 hc4 ht4 hd4 hg4 ha4
            refine hK.out _ _ (HQ.out _ M5.out.grow) (fun hHeld => ?_)
            clear hK K
            simp only [Act.put, List.getElem_toArray, List.getElem_cons_succ, List.getElem_cons_zero, List.setIfInBounds_toArray, List.set_cons_zero, List.set_cons_succ]
            refine wpAnyH_ready (rs := [10]) (by kernel_rfl) (by simp) ?_
            refine AllReadyH.cons (o := _) rfl (fun K hK => ?_) AllReadyH.nil
            rw [if_pos (by rfl)]
            obtain ⟨SS, hSS⟩ : ∃ SS, SS = (sigV I (.slice (some ⟨g1, 0, none⟩) 68 c1) (.slice (some ⟨g2, 0, none⟩) 5 c2)) := ⟨_, rfl⟩
            refine wp_build3_run 30 _ _ _ rfl (.int .i64 I) (.slice (some ⟨g1, 0, none⟩) 68 c1) (.slice (some ⟨g2, 0, none⟩) 5 c2) (.agg SS) rfl rfl rfl (by rw [hSS]; exact build_sig _ _ _ _ _ _ _ _) ?_
            refine hK.out _ _ (HQ.out _ M5.out.grow) (fun hHeld => ?_)
            clear hK K
            simp only [Act.put, List.getElem_toArray, List.getElem_cons_succ, List.getElem_cons_zero, List.setIfInBounds_toArray, List.set_cons_zero, List.set_cons_succ]
            refine wpAnyH_ready (rs := [12]) (by kernel_rfl) (by simp) ?_
            refine AllReadyH.cons (o := _) rfl (fun K hK => ?_) AllReadyH.nil
            rw [if_pos (by rfl)]
            have hbx := (M5.out.box rfl).1
            have hdn := M5.out.done (sigV I)
            have hsz : SS.size = 3 := by rw [hSS]; rfl
            rw [← hSS] at hdn
            have hdn := Lib.hid hdn
            refine wp_store_row _ _ _ rfl (V3.heap.size) SS rfl rfl 30 _ hbx (by rw [hsz]; exact info3) (by rw [hsz]; rfl) (by rw [hSS]; exact sigV_one _ _ _ _ _ _ _) ?_
            have hS : (V5.setRow (V3.heap.size) SS).cell? ⟨qb, 0, none⟩ = some (.int .i64 I) ∧ (V5.setRow (V3.heap.size) SS).cell? ⟨qb, 1, none⟩ = some (.slice (some ⟨b, 0, none⟩) 68 68) ∧ (V5.setRow (V3.heap.size) SS).cell? ⟨qb, 2, none⟩ = some (.slice (some ⟨p, 0, none⟩) 5 pc) := by
              obtain ⟨_, _, _, _, _, _, _, _, _, _, _, hgr, _⟩ := hdn.out
              exact HQ.out _ hgr
            refine hK.out _ _ hS (fun _ => ?_)
            simp only [Act.put, List.getElem_toArray, List.getElem_cons_succ, List.getElem_cons_zero, List.setIfInBounds_toArray, List.set_cons_zero, List.set_cons_succ]
            refine wpAnyH_done (by kernel_rfl) ?_ _
            refine hK9 _ _ (Met.intro (hJ9 _ _ ?_))
            (repeat apply Exists.intro)
            exact ⟨hdn.out, rfl⟩
        · rw [if_pos (by rfl)]
          refine wp_alloc_run 30 rfl sigZ (sigz_run V2) ?_
          obtain ⟨V3, hV3⟩ : ∃ z, z = V2.alloc (.cells sigZ 30) := ⟨_, rfl⟩
          have M3 := Lib.hid (M2.out.box1)
          rw [← hV3] at M3 ⊢
          clear hV3
          refine hK.out _ _ (HQ.out _ M3.out.grow) (fun hHeld => ?_)
          clear hK K
          simp only [Act.put, List.getElem_toArray, List.getElem_cons_succ, List.getElem_cons_zero, List.setIfInBounds_toArray, List.set_cons_zero, List.set_cons_succ]
          refine wpAnyH_ready (rs := [6]) (by kernel_rfl) (by simp) ?_
          refine AllReadyH.cons (o := _) rfl (fun K hK => ?_) AllReadyH.nil
          rw [if_pos (by rfl)]
          refine wp_bslice0 27 rfl _ (run_slice_none V3) ?_
          obtain ⟨V4, hV4⟩ : ∃ z, z = V3.alloc (.cells #[] 23) := ⟨_, rfl⟩
          have M4 := Lib.hid (M3.out.lit2)
          rw [← hV4] at M4 ⊢
          clear hV4
          refine hK.out _ _ (HQ.out _ M4.out.grow) (fun hHeld => ?_)
          clear hK K
          simp only [Act.put, List.getElem_toArray, List.getElem_cons_succ, List.getElem_cons_zero, List.setIfInBounds_toArray, List.set_cons_zero, List.set_cons_succ]
          refine wpAnyH_ready (rs := [9]) (by kernel_rfl) (by simp) ?_
          refine AllReadyH.cons (o := _) rfl (fun K hK => ?_) AllReadyH.nil
          rw [if_pos (by rfl)]
          have ho4 : V4.ownsRow w6.heap.size 23 16 (.slice (some ⟨V3.heap.size, 0, none⟩) 0 0) 0 [] := by
            obtain ⟨_, _, _, _, h⟩ := M4.out.two.1 rfl
            exact h
          refine wp_copy_digs _ _ rfl w6.heap.size (.slice (some ⟨V3.heap.size, 0, none⟩) 0 0) rfl ho4 p 0 5 pc rfl (upto (wayC (leavesC seed) i) 5) (upto_length _ _) (by omega) (by omega) (way_dig (leavesC_dig seed) (fun k => k) i 5) (H6.out.2.1.path.grown M4.out.grow) M4.out.grow.size ?_
          intro g2 c2 V5 hb4 hc4 ht4 hd4 hg4 ha4
          have M5 := Lib.hid (M4.out.app2 (by omega) (way_dig (leavesC_dig seed) (fun k => k) i 5) (upto_length _ _) hb4 hc4 ht4 hd4 hg4 ha4)
          clear ho4 hb4 hc4 ht4 hd4 hg4 ha4
          refine hK.out _ _ (HQ.out _ M5.out.grow) (fun hHeld => ?_)
          clear hK K
          simp only [Act.put, List.getElem_toArray, List.getElem_cons_succ, List.getElem_cons_zero, List.setIfInBounds_toArray, List.set_cons_zero, List.set_cons_succ]
          refine wpAnyH_ready (rs := [10]) (by kernel_rfl) (by simp) ?_
          refine AllReadyH.cons (o := _) rfl (fun K hK => ?_) AllReadyH.nil
          rw [if_pos (by rfl)]
          obtain ⟨SS, hSS⟩ : ∃ SS, SS = (sigV I (.slice (some ⟨g1, 0, none⟩) 68 c1) (.slice (some ⟨g2, 0, none⟩) 5 c2)) := ⟨_, rfl⟩
          refine wp_build3_run 30 _ _ _ rfl (.int .i64 I) (.slice (some ⟨g1, 0, none⟩) 68 c1) (.slice (some ⟨g2, 0, none⟩) 5 c2) (.agg SS) rfl rfl rfl (by rw [hSS]; exact build_sig _ _ _ _ _ _ _ _) ?_
          refine hK.out _ _ (HQ.out _ M5.out.grow) (fun hHeld => ?_)
          clear hK K
          simp only [Act.put, List.getElem_toArray, List.getElem_cons_succ, List.getElem_cons_zero, List.setIfInBounds_toArray, List.set_cons_zero, List.set_cons_succ]
          refine wpAnyH_ready (rs := [12]) (by kernel_rfl) (by simp) ?_
          refine AllReadyH.cons (o := _) rfl (fun K hK => ?_) AllReadyH.nil
          rw [if_pos (by rfl)]
          have hbx := (M5.out.box rfl).1
          have hdn := M5.out.done (sigV I)
          have hsz : SS.size = 3 := by rw [hSS]; rfl
          rw [← hSS] at hdn
          have hdn := Lib.hid hdn
          refine wp_store_row _ _ _ rfl (V2.heap.size) SS rfl rfl 30 _ hbx (by rw [hsz]; exact info3) (by rw [hsz]; rfl) (by rw [hSS]; exact sigV_one _ _ _ _ _ _ _) ?_
          have hS : (V5.setRow (V2.heap.size) SS).cell? ⟨qb, 0, none⟩ = some (.int .i64 I) ∧ (V5.setRow (V2.heap.size) SS).cell? ⟨qb, 1, none⟩ = some (.slice (some ⟨b, 0, none⟩) 68 68) ∧ (V5.setRow (V2.heap.size) SS).cell? ⟨qb, 2, none⟩ = some (.slice (some ⟨p, 0, none⟩) 5 pc) := by
            obtain ⟨_, _, _, _, _, _, _, _, _, _, _, hgr, _⟩ := hdn.out
            exact HQ.out _ hgr
          refine hK.out _ _ hS (fun _ => ?_)
          simp only [Act.put, List.getElem_toArray, List.getElem_cons_succ, List.getElem_cons_zero, List.setIfInBounds_toArray, List.set_cons_zero, List.set_cons_succ]
          refine wpAnyH_done (by kernel_rfl) ?_ _
          refine hK9 _ _ (Met.intro (hJ9 _ _ ?_))
          (repeat apply Exists.intro)
          exact ⟨hdn.out, rfl⟩
      · rw [if_pos (by rfl)]
        refine wp_bslice0 27 rfl _ (run_slice_none V1) ?_
        obtain ⟨V2, hV2⟩ : ∃ z, z = V1.alloc (.cells #[] 23) := ⟨_, rfl⟩
        have M2 := Lib.hid (M1.out.lit2)
        rw [← hV2] at M2 ⊢
        clear hV2
        refine hK.out _ _ (HQ.out _ M2.out.grow) (fun hHeld => ?_)
        clear hK K
        simp only [Act.put, List.getElem_toArray, List.getElem_cons_succ, List.getElem_cons_zero, List.setIfInBounds_toArray, List.set_cons_zero, List.set_cons_succ]
        refine wpAnyH_ready (rs := [5, 11]) (by kernel_rfl) (by simp) ?_
        refine AllReadyH.cons (o := _) rfl (fun K hK => ?_) (AllReadyH.cons (o := _) rfl (fun K hK => ?_) AllReadyH.nil)
        · rw [if_pos (by rfl)]
          have ho2 : V2.ownsRow w6.heap.size 23 16 (.slice (some ⟨V0.heap.size, 0, none⟩) 0 0) 0 [] := by
            obtain ⟨_, _, _, _, h⟩ := M2.out.one.1 rfl
            exact h
          refine wp_copy_digs _ _ rfl w6.heap.size (.slice (some ⟨V0.heap.size, 0, none⟩) 0 0) rfl ho2 b 0 68 68 rfl (sigsS seed I d) (sigsS_length seed I d) (by omega) (by omega) (sigsS_dig seed I d) (H6.out.2.1.chains.grown M2.out.grow) M2.out.grow.size ?_
          intro g1 c1 V3 hb2 hc2 ht2 hd2 hg2 ha2
          have M3 := Lib.hid (M2.out.app1 (by omega) (sigsS_dig seed I d) (sigsS_length seed I d) hb2 hc2 ht2 hd2 hg2 ha2)
          clear ho2 hb2 hc2 ht2 hd2 hg2 ha2
          refine hK.out _ _ (HQ.out _ M3.out.grow) (fun hHeld => ?_)
          clear hK K
          simp only [Act.put, List.getElem_toArray, List.getElem_cons_succ, List.getElem_cons_zero, List.setIfInBounds_toArray, List.set_cons_zero, List.set_cons_succ]
          refine wpAnyH_ready (rs := [9, 11]) (by kernel_rfl) (by simp) ?_
          refine AllReadyH.cons (o := _) rfl (fun K hK => ?_) (AllReadyH.cons (o := _) rfl (fun K hK => ?_) AllReadyH.nil)
          · rw [if_pos (by rfl)]
            have ho3 : V3.ownsRow w6.heap.size 23 16 (.slice (some ⟨V1.heap.size, 0, none⟩) 0 0) 0 [] := by
              obtain ⟨_, _, _, _, h⟩ := M3.out.two.1 rfl
              exact h
            refine wp_copy_digs _ _ rfl w6.heap.size (.slice (some ⟨V1.heap.size, 0, none⟩) 0 0) rfl ho3 p 0 5 pc rfl (upto (wayC (leavesC seed) i) 5) (upto_length _ _) (by omega) (by omega) (way_dig (leavesC_dig seed) (fun k => k) i 5) (H6.out.2.1.path.grown M3.out.grow) M3.out.grow.size ?_
            intro g2 c2 V4 hb3 hc3 ht3 hd3 hg3 ha3
            have M4 := Lib.hid (M3.out.app2 (by omega) (way_dig (leavesC_dig seed) (fun k => k) i 5) (upto_length _ _) hb3 hc3 ht3 hd3 hg3 ha3)
            clear ho3 hb3 hc3 ht3 hd3 hg3 ha3
            refine hK.out _ _ (HQ.out _ M4.out.grow) (fun hHeld => ?_)
            clear hK K
            simp only [Act.put, List.getElem_toArray, List.getElem_cons_succ, List.getElem_cons_zero, List.setIfInBounds_toArray, List.set_cons_zero, List.set_cons_succ]
            refine wpAnyH_ready (rs := [10, 11]) (by kernel_rfl) (by simp) ?_
            refine AllReadyH.cons (o := _) rfl (fun K hK => ?_) (AllReadyH.cons (o := _) rfl (fun K hK => ?_) AllReadyH.nil)
            · rw [if_pos (by rfl)]
              obtain ⟨SS, hSS⟩ : ∃ SS, SS = (sigV I (.slice (some ⟨g1, 0, none⟩) 68 c1) (.slice (some ⟨g2, 0, none⟩) 5 c2)) := ⟨_, rfl⟩
              refine wp_build3_run 30 _ _ _ rfl (.int .i64 I) (.slice (some ⟨g1, 0, none⟩) 68 c1) (.slice (some ⟨g2, 0, none⟩) 5 c2) (.agg SS) rfl rfl rfl (by rw [hSS]; exact build_sig _ _ _ _ _ _ _ _) ?_
              refine hK.out _ _ (HQ.out _ M4.out.grow) (fun hHeld => ?_)
              clear hK K
              simp only [Act.put, List.getElem_toArray, List.getElem_cons_succ, List.getElem_cons_zero, List.setIfInBounds_toArray, List.set_cons_zero, List.set_cons_succ]
              refine wpAnyH_ready (rs := [11]) (by kernel_rfl) (by simp) ?_
              refine AllReadyH.cons (o := _) rfl (fun K hK => ?_) AllReadyH.nil
              rw [if_pos (by rfl)]
              refine wp_alloc_run 30 rfl sigZ (sigz_run V4) ?_
              obtain ⟨V5, hV5⟩ : ∃ z, z = V4.alloc (.cells sigZ 30) := ⟨_, rfl⟩
              have M5 := Lib.hid (M4.out.box1)
              rw [← hV5] at M5 ⊢
              clear hV5
              refine hK.out _ _ (HQ.out _ M5.out.grow) (fun hHeld => ?_)
              clear hK K
              simp only [Act.put, List.getElem_toArray, List.getElem_cons_succ, List.getElem_cons_zero, List.setIfInBounds_toArray, List.set_cons_zero, List.set_cons_succ]
              refine wpAnyH_ready (rs := [12]) (by kernel_rfl) (by simp) ?_
              refine AllReadyH.cons (o := _) rfl (fun K hK => ?_) AllReadyH.nil
              rw [if_pos (by rfl)]
              have hbx := (M5.out.box rfl).1
              have hdn := M5.out.done (sigV I)
              have hsz : SS.size = 3 := by rw [hSS]; rfl
              rw [← hSS] at hdn
              have hdn := Lib.hid hdn
              refine wp_store_row _ _ _ rfl (V4.heap.size) SS rfl rfl 30 _ hbx (by rw [hsz]; exact info3) (by rw [hsz]; rfl) (by rw [hSS]; exact sigV_one _ _ _ _ _ _ _) ?_
              have hS : (V5.setRow (V4.heap.size) SS).cell? ⟨qb, 0, none⟩ = some (.int .i64 I) ∧ (V5.setRow (V4.heap.size) SS).cell? ⟨qb, 1, none⟩ = some (.slice (some ⟨b, 0, none⟩) 68 68) ∧ (V5.setRow (V4.heap.size) SS).cell? ⟨qb, 2, none⟩ = some (.slice (some ⟨p, 0, none⟩) 5 pc) := by
                obtain ⟨_, _, _, _, _, _, _, _, _, _, _, hgr, _⟩ := hdn.out
                exact HQ.out _ hgr
              refine hK.out _ _ hS (fun _ => ?_)
              simp only [Act.put, List.getElem_toArray, List.getElem_cons_succ, List.getElem_cons_zero, List.setIfInBounds_toArray, List.set_cons_zero, List.set_cons_succ]
              refine wpAnyH_done (by kernel_rfl) ?_ _
              refine hK9 _ _ (Met.intro (hJ9 _ _ ?_))
              (repeat apply Exists.intro)
              exact ⟨hdn.out, rfl⟩
            · rw [if_pos (by rfl)]
              refine wp_alloc_run 30 rfl sigZ (sigz_run V4) ?_
              obtain ⟨V5, hV5⟩ : ∃ z, z = V4.alloc (.cells sigZ 30) := ⟨_, rfl⟩
              have M5 := Lib.hid (M4.out.box1)
              rw [← hV5] at M5 ⊢
              clear hV5
              refine hK.out _ _ (HQ.out _ M5.out.grow) (fun hHeld => ?_)
              clear hK K
              simp only [Act.put, List.getElem_toArray, List.getElem_cons_succ, List.getElem_cons_zero, List.setIfInBounds_toArray, List.set_cons_zero, List.set_cons_succ]
              refine wpAnyH_ready (rs := [10]) (by kernel_rfl) (by simp) ?_
              refine AllReadyH.cons (o := _) rfl (fun K hK => ?_) AllReadyH.nil
              rw [if_pos (by rfl)]
              obtain ⟨SS, hSS⟩ : ∃ SS, SS = (sigV I (.slice (some ⟨g1, 0, none⟩) 68 c1) (.slice (some ⟨g2, 0, none⟩) 5 c2)) := ⟨_, rfl⟩
              refine wp_build3_run 30 _ _ _ rfl (.int .i64 I) (.slice (some ⟨g1, 0, none⟩) 68 c1) (.slice (some ⟨g2, 0, none⟩) 5 c2) (.agg SS) rfl rfl rfl (by rw [hSS]; exact build_sig _ _ _ _ _ _ _ _) ?_
              refine hK.out _ _ (HQ.out _ M5.out.grow) (fun hHeld => ?_)
              clear hK K
              simp only [Act.put, List.getElem_toArray, List.getElem_cons_succ, List.getElem_cons_zero, List.setIfInBounds_toArray, List.set_cons_zero, List.set_cons_succ]
              refine wpAnyH_ready (rs := [12]) (by kernel_rfl) (by simp) ?_
              refine AllReadyH.cons (o := _) rfl (fun K hK => ?_) AllReadyH.nil
              rw [if_pos (by rfl)]
              have hbx := (M5.out.box rfl).1
              have hdn := M5.out.done (sigV I)
              have hsz : SS.size = 3 := by rw [hSS]; rfl
              rw [← hSS] at hdn
              have hdn := Lib.hid hdn
              refine wp_store_row _ _ _ rfl (V4.heap.size) SS rfl rfl 30 _ hbx (by rw [hsz]; exact info3) (by rw [hsz]; rfl) (by rw [hSS]; exact sigV_one _ _ _ _ _ _ _) ?_
              have hS : (V5.setRow (V4.heap.size) SS).cell? ⟨qb, 0, none⟩ = some (.int .i64 I) ∧ (V5.setRow (V4.heap.size) SS).cell? ⟨qb, 1, none⟩ = some (.slice (some ⟨b, 0, none⟩) 68 68) ∧ (V5.setRow (V4.heap.size) SS).cell? ⟨qb, 2, none⟩ = some (.slice (some ⟨p, 0, none⟩) 5 pc) := by
                obtain ⟨_, _, _, _, _, _, _, _, _, _, _, hgr, _⟩ := hdn.out
                exact HQ.out _ hgr
              refine hK.out _ _ hS (fun _ => ?_)
              simp only [Act.put, List.getElem_toArray, List.getElem_cons_succ, List.getElem_cons_zero, List.setIfInBounds_toArray, List.set_cons_zero, List.set_cons_succ]
              refine wpAnyH_done (by kernel_rfl) ?_ _
              refine hK9 _ _ (Met.intro (hJ9 _ _ ?_))
              (repeat apply Exists.intro)
              exact ⟨hdn.out, rfl⟩
          · rw [if_pos (by rfl)]
            refine wp_alloc_run 30 rfl sigZ (sigz_run V3) ?_
            obtain ⟨V4, hV4⟩ : ∃ z, z = V3.alloc (.cells sigZ 30) := ⟨_, rfl⟩
            have M4 := Lib.hid (M3.out.box1)
            rw [← hV4] at M4 ⊢
            clear hV4
            refine hK.out _ _ (HQ.out _ M4.out.grow) (fun hHeld => ?_)
            clear hK K
            simp only [Act.put, List.getElem_toArray, List.getElem_cons_succ, List.getElem_cons_zero, List.setIfInBounds_toArray, List.set_cons_zero, List.set_cons_succ]
            refine wpAnyH_ready (rs := [9]) (by kernel_rfl) (by simp) ?_
            refine AllReadyH.cons (o := _) rfl (fun K hK => ?_) AllReadyH.nil
            rw [if_pos (by rfl)]
            have ho4 : V4.ownsRow w6.heap.size 23 16 (.slice (some ⟨V1.heap.size, 0, none⟩) 0 0) 0 [] := by
              obtain ⟨_, _, _, _, h⟩ := M4.out.two.1 rfl
              exact h
            refine wp_copy_digs _ _ rfl w6.heap.size (.slice (some ⟨V1.heap.size, 0, none⟩) 0 0) rfl ho4 p 0 5 pc rfl (upto (wayC (leavesC seed) i) 5) (upto_length _ _) (by omega) (by omega) (way_dig (leavesC_dig seed) (fun k => k) i 5) (H6.out.2.1.path.grown M4.out.grow) M4.out.grow.size ?_
            intro g2 c2 V5 hb4 hc4 ht4 hd4 hg4 ha4
            have M5 := Lib.hid (M4.out.app2 (by omega) (way_dig (leavesC_dig seed) (fun k => k) i 5) (upto_length _ _) hb4 hc4 ht4 hd4 hg4 ha4)
            clear ho4 hb4 hc4 ht4 hd4 hg4 ha4
            refine hK.out _ _ (HQ.out _ M5.out.grow) (fun hHeld => ?_)
            clear hK K
            simp only [Act.put, List.getElem_toArray, List.getElem_cons_succ, List.getElem_cons_zero, List.setIfInBounds_toArray, List.set_cons_zero, List.set_cons_succ]
            refine wpAnyH_ready (rs := [10]) (by kernel_rfl) (by simp) ?_
            refine AllReadyH.cons (o := _) rfl (fun K hK => ?_) AllReadyH.nil
            rw [if_pos (by rfl)]
            obtain ⟨SS, hSS⟩ : ∃ SS, SS = (sigV I (.slice (some ⟨g1, 0, none⟩) 68 c1) (.slice (some ⟨g2, 0, none⟩) 5 c2)) := ⟨_, rfl⟩
            refine wp_build3_run 30 _ _ _ rfl (.int .i64 I) (.slice (some ⟨g1, 0, none⟩) 68 c1) (.slice (some ⟨g2, 0, none⟩) 5 c2) (.agg SS) rfl rfl rfl (by rw [hSS]; exact build_sig _ _ _ _ _ _ _ _) ?_
            refine hK.out _ _ (HQ.out _ M5.out.grow) (fun hHeld => ?_)
            clear hK K
            simp only [Act.put, List.getElem_toArray, List.getElem_cons_succ, List.getElem_cons_zero, List.setIfInBounds_toArray, List.set_cons_zero, List.set_cons_succ]
            refine wpAnyH_ready (rs := [12]) (by kernel_rfl) (by simp) ?_
            refine AllReadyH.cons (o := _) rfl (fun K hK => ?_) AllReadyH.nil
            rw [if_pos (by rfl)]
            have hbx := (M5.out.box rfl).1
            have hdn := M5.out.done (sigV I)
            have hsz : SS.size = 3 := by rw [hSS]; rfl
            rw [← hSS] at hdn
            have hdn := Lib.hid hdn
            refine wp_store_row _ _ _ rfl (V3.heap.size) SS rfl rfl 30 _ hbx (by rw [hsz]; exact info3) (by rw [hsz]; rfl) (by rw [hSS]; exact sigV_one _ _ _ _ _ _ _) ?_
            have hS : (V5.setRow (V3.heap.size) SS).cell? ⟨qb, 0, none⟩ = some (.int .i64 I) ∧ (V5.setRow (V3.heap.size) SS).cell? ⟨qb, 1, none⟩ = some (.slice (some ⟨b, 0, none⟩) 68 68) ∧ (V5.setRow (V3.heap.size) SS).cell? ⟨qb, 2, none⟩ = some (.slice (some ⟨p, 0, none⟩) 5 pc) := by
              obtain ⟨_, _, _, _, _, _, _, _, _, _, _, hgr, _⟩ := hdn.out
              exact HQ.out _ hgr
            refine hK.out _ _ hS (fun _ => ?_)
            simp only [Act.put, List.getElem_toArray, List.getElem_cons_succ, List.getElem_cons_zero, List.setIfInBounds_toArray, List.set_cons_zero, List.set_cons_succ]
            refine wpAnyH_done (by kernel_rfl) ?_ _
            refine hK9 _ _ (Met.intro (hJ9 _ _ ?_))
            (repeat apply Exists.intro)
            exact ⟨hdn.out, rfl⟩
        · rw [if_pos (by rfl)]
          refine wp_alloc_run 30 rfl sigZ (sigz_run V2) ?_
          obtain ⟨V3, hV3⟩ : ∃ z, z = V2.alloc (.cells sigZ 30) := ⟨_, rfl⟩
          have M3 := Lib.hid (M2.out.box1)
          rw [← hV3] at M3 ⊢
          clear hV3
          refine hK.out _ _ (HQ.out _ M3.out.grow) (fun hHeld => ?_)
          clear hK K
          simp only [Act.put, List.getElem_toArray, List.getElem_cons_succ, List.getElem_cons_zero, List.setIfInBounds_toArray, List.set_cons_zero, List.set_cons_succ]
          refine wpAnyH_ready (rs := [5]) (by kernel_rfl) (by simp) ?_
          refine AllReadyH.cons (o := _) rfl (fun K hK => ?_) AllReadyH.nil
          rw [if_pos (by rfl)]
          have ho3 : V3.ownsRow w6.heap.size 23 16 (.slice (some ⟨V0.heap.size, 0, none⟩) 0 0) 0 [] := by
            obtain ⟨_, _, _, _, h⟩ := M3.out.one.1 rfl
            exact h
          refine wp_copy_digs _ _ rfl w6.heap.size (.slice (some ⟨V0.heap.size, 0, none⟩) 0 0) rfl ho3 b 0 68 68 rfl (sigsS seed I d) (sigsS_length seed I d) (by omega) (by omega) (sigsS_dig seed I d) (H6.out.2.1.chains.grown M3.out.grow) M3.out.grow.size ?_
          intro g1 c1 V4 hb3 hc3 ht3 hd3 hg3 ha3
          have M4 := Lib.hid (M3.out.app1 (by omega) (sigsS_dig seed I d) (sigsS_length seed I d) hb3 hc3 ht3 hd3 hg3 ha3)
          clear ho3 hb3 hc3 ht3 hd3 hg3 ha3
          refine hK.out _ _ (HQ.out _ M4.out.grow) (fun hHeld => ?_)
          clear hK K
          simp only [Act.put, List.getElem_toArray, List.getElem_cons_succ, List.getElem_cons_zero, List.setIfInBounds_toArray, List.set_cons_zero, List.set_cons_succ]
          refine wpAnyH_ready (rs := [9]) (by kernel_rfl) (by simp) ?_
          refine AllReadyH.cons (o := _) rfl (fun K hK => ?_) AllReadyH.nil
          rw [if_pos (by rfl)]
          have ho4 : V4.ownsRow w6.heap.size 23 16 (.slice (some ⟨V1.heap.size, 0, none⟩) 0 0) 0 [] := by
            obtain ⟨_, _, _, _, h⟩ := M4.out.two.1 rfl
            exact h
          refine wp_copy_digs _ _ rfl w6.heap.size (.slice (some ⟨V1.heap.size, 0, none⟩) 0 0) rfl ho4 p 0 5 pc rfl (upto (wayC (leavesC seed) i) 5) (upto_length _ _) (by omega) (by omega) (way_dig (leavesC_dig seed) (fun k => k) i 5) (H6.out.2.1.path.grown M4.out.grow) M4.out.grow.size ?_
          intro g2 c2 V5 hb4 hc4 ht4 hd4 hg4 ha4
          have M5 := Lib.hid (M4.out.app2 (by omega) (way_dig (leavesC_dig seed) (fun k => k) i 5) (upto_length _ _) hb4 hc4 ht4 hd4 hg4 ha4)
          clear ho4 hb4 hc4 ht4 hd4 hg4 ha4
          refine hK.out _ _ (HQ.out _ M5.out.grow) (fun hHeld => ?_)
          clear hK K
          simp only [Act.put, List.getElem_toArray, List.getElem_cons_succ, List.getElem_cons_zero, List.setIfInBounds_toArray, List.set_cons_zero, List.set_cons_succ]
          refine wpAnyH_ready (rs := [10]) (by kernel_rfl) (by simp) ?_
          refine AllReadyH.cons (o := _) rfl (fun K hK => ?_) AllReadyH.nil
          rw [if_pos (by rfl)]
          obtain ⟨SS, hSS⟩ : ∃ SS, SS = (sigV I (.slice (some ⟨g1, 0, none⟩) 68 c1) (.slice (some ⟨g2, 0, none⟩) 5 c2)) := ⟨_, rfl⟩
          refine wp_build3_run 30 _ _ _ rfl (.int .i64 I) (.slice (some ⟨g1, 0, none⟩) 68 c1) (.slice (some ⟨g2, 0, none⟩) 5 c2) (.agg SS) rfl rfl rfl (by rw [hSS]; exact build_sig _ _ _ _ _ _ _ _) ?_
          refine hK.out _ _ (HQ.out _ M5.out.grow) (fun hHeld => ?_)
          clear hK K
          simp only [Act.put, List.getElem_toArray, List.getElem_cons_succ, List.getElem_cons_zero, List.setIfInBounds_toArray, List.set_cons_zero, List.set_cons_succ]
          refine wpAnyH_ready (rs := [12]) (by kernel_rfl) (by simp) ?_
          refine AllReadyH.cons (o := _) rfl (fun K hK => ?_) AllReadyH.nil
          rw [if_pos (by rfl)]
          have hbx := (M5.out.box rfl).1
          have hdn := M5.out.done (sigV I)
          have hsz : SS.size = 3 := by rw [hSS]; rfl
          rw [← hSS] at hdn
          have hdn := Lib.hid hdn
          refine wp_store_row _ _ _ rfl (V2.heap.size) SS rfl rfl 30 _ hbx (by rw [hsz]; exact info3) (by rw [hsz]; rfl) (by rw [hSS]; exact sigV_one _ _ _ _ _ _ _) ?_
          have hS : (V5.setRow (V2.heap.size) SS).cell? ⟨qb, 0, none⟩ = some (.int .i64 I) ∧ (V5.setRow (V2.heap.size) SS).cell? ⟨qb, 1, none⟩ = some (.slice (some ⟨b, 0, none⟩) 68 68) ∧ (V5.setRow (V2.heap.size) SS).cell? ⟨qb, 2, none⟩ = some (.slice (some ⟨p, 0, none⟩) 5 pc) := by
            obtain ⟨_, _, _, _, _, _, _, _, _, _, _, hgr, _⟩ := hdn.out
            exact HQ.out _ hgr
          refine hK.out _ _ hS (fun _ => ?_)
          simp only [Act.put, List.getElem_toArray, List.getElem_cons_succ, List.getElem_cons_zero, List.setIfInBounds_toArray, List.set_cons_zero, List.set_cons_succ]
          refine wpAnyH_done (by kernel_rfl) ?_ _
          refine hK9 _ _ (Met.intro (hJ9 _ _ ?_))
          (repeat apply Exists.intro)
          exact ⟨hdn.out, rfl⟩
      · rw [if_pos (by rfl)]
        refine wp_alloc_run 30 rfl sigZ (sigz_run V1) ?_
        obtain ⟨V2, hV2⟩ : ∃ z, z = V1.alloc (.cells sigZ 30) := ⟨_, rfl⟩
        have M2 := Lib.hid (M1.out.box1)
        rw [← hV2] at M2 ⊢
        clear hV2
        refine hK.out _ _ (HQ.out _ M2.out.grow) (fun hHeld => ?_)
        clear hK K
        simp only [Act.put, List.getElem_toArray, List.getElem_cons_succ, List.getElem_cons_zero, List.setIfInBounds_toArray, List.set_cons_zero, List.set_cons_succ]
        refine wpAnyH_ready (rs := [5, 6]) (by kernel_rfl) (by simp) ?_
        refine AllReadyH.cons (o := _) rfl (fun K hK => ?_) (AllReadyH.cons (o := _) rfl (fun K hK => ?_) AllReadyH.nil)
        · rw [if_pos (by rfl)]
          have ho2 : V2.ownsRow w6.heap.size 23 16 (.slice (some ⟨V0.heap.size, 0, none⟩) 0 0) 0 [] := by
            obtain ⟨_, _, _, _, h⟩ := M2.out.one.1 rfl
            exact h
          refine wp_copy_digs _ _ rfl w6.heap.size (.slice (some ⟨V0.heap.size, 0, none⟩) 0 0) rfl ho2 b 0 68 68 rfl (sigsS seed I d) (sigsS_length seed I d) (by omega) (by omega) (sigsS_dig seed I d) (H6.out.2.1.chains.grown M2.out.grow) M2.out.grow.size ?_
          intro g1 c1 V3 hb2 hc2 ht2 hd2 hg2 ha2
          have M3 := Lib.hid (M2.out.app1 (by omega) (sigsS_dig seed I d) (sigsS_length seed I d) hb2 hc2 ht2 hd2 hg2 ha2)
          clear ho2 hb2 hc2 ht2 hd2 hg2 ha2
          refine hK.out _ _ (HQ.out _ M3.out.grow) (fun hHeld => ?_)
          clear hK K
          simp only [Act.put, List.getElem_toArray, List.getElem_cons_succ, List.getElem_cons_zero, List.setIfInBounds_toArray, List.set_cons_zero, List.set_cons_succ]
          refine wpAnyH_ready (rs := [6]) (by kernel_rfl) (by simp) ?_
          refine AllReadyH.cons (o := _) rfl (fun K hK => ?_) AllReadyH.nil
          rw [if_pos (by rfl)]
          refine wp_bslice0 27 rfl _ (run_slice_none V3) ?_
          obtain ⟨V4, hV4⟩ : ∃ z, z = V3.alloc (.cells #[] 23) := ⟨_, rfl⟩
          have M4 := Lib.hid (M3.out.lit2)
          rw [← hV4] at M4 ⊢
          clear hV4
          refine hK.out _ _ (HQ.out _ M4.out.grow) (fun hHeld => ?_)
          clear hK K
          simp only [Act.put, List.getElem_toArray, List.getElem_cons_succ, List.getElem_cons_zero, List.setIfInBounds_toArray, List.set_cons_zero, List.set_cons_succ]
          refine wpAnyH_ready (rs := [9]) (by kernel_rfl) (by simp) ?_
          refine AllReadyH.cons (o := _) rfl (fun K hK => ?_) AllReadyH.nil
          rw [if_pos (by rfl)]
          have ho4 : V4.ownsRow w6.heap.size 23 16 (.slice (some ⟨V3.heap.size, 0, none⟩) 0 0) 0 [] := by
            obtain ⟨_, _, _, _, h⟩ := M4.out.two.1 rfl
            exact h
          refine wp_copy_digs _ _ rfl w6.heap.size (.slice (some ⟨V3.heap.size, 0, none⟩) 0 0) rfl ho4 p 0 5 pc rfl (upto (wayC (leavesC seed) i) 5) (upto_length _ _) (by omega) (by omega) (way_dig (leavesC_dig seed) (fun k => k) i 5) (H6.out.2.1.path.grown M4.out.grow) M4.out.grow.size ?_
          intro g2 c2 V5 hb4 hc4 ht4 hd4 hg4 ha4
          have M5 := Lib.hid (M4.out.app2 (by omega) (way_dig (leavesC_dig seed) (fun k => k) i 5) (upto_length _ _) hb4 hc4 ht4 hd4 hg4 ha4)
          clear ho4 hb4 hc4 ht4 hd4 hg4 ha4
          refine hK.out _ _ (HQ.out _ M5.out.grow) (fun hHeld => ?_)
          clear hK K
          simp only [Act.put, List.getElem_toArray, List.getElem_cons_succ, List.getElem_cons_zero, List.setIfInBounds_toArray, List.set_cons_zero, List.set_cons_succ]
          refine wpAnyH_ready (rs := [10]) (by kernel_rfl) (by simp) ?_
          refine AllReadyH.cons (o := _) rfl (fun K hK => ?_) AllReadyH.nil
          rw [if_pos (by rfl)]
          obtain ⟨SS, hSS⟩ : ∃ SS, SS = (sigV I (.slice (some ⟨g1, 0, none⟩) 68 c1) (.slice (some ⟨g2, 0, none⟩) 5 c2)) := ⟨_, rfl⟩
          refine wp_build3_run 30 _ _ _ rfl (.int .i64 I) (.slice (some ⟨g1, 0, none⟩) 68 c1) (.slice (some ⟨g2, 0, none⟩) 5 c2) (.agg SS) rfl rfl rfl (by rw [hSS]; exact build_sig _ _ _ _ _ _ _ _) ?_
          refine hK.out _ _ (HQ.out _ M5.out.grow) (fun hHeld => ?_)
          clear hK K
          simp only [Act.put, List.getElem_toArray, List.getElem_cons_succ, List.getElem_cons_zero, List.setIfInBounds_toArray, List.set_cons_zero, List.set_cons_succ]
          refine wpAnyH_ready (rs := [12]) (by kernel_rfl) (by simp) ?_
          refine AllReadyH.cons (o := _) rfl (fun K hK => ?_) AllReadyH.nil
          rw [if_pos (by rfl)]
          have hbx := (M5.out.box rfl).1
          have hdn := M5.out.done (sigV I)
          have hsz : SS.size = 3 := by rw [hSS]; rfl
          rw [← hSS] at hdn
          have hdn := Lib.hid hdn
          refine wp_store_row _ _ _ rfl (V1.heap.size) SS rfl rfl 30 _ hbx (by rw [hsz]; exact info3) (by rw [hsz]; rfl) (by rw [hSS]; exact sigV_one _ _ _ _ _ _ _) ?_
          have hS : (V5.setRow (V1.heap.size) SS).cell? ⟨qb, 0, none⟩ = some (.int .i64 I) ∧ (V5.setRow (V1.heap.size) SS).cell? ⟨qb, 1, none⟩ = some (.slice (some ⟨b, 0, none⟩) 68 68) ∧ (V5.setRow (V1.heap.size) SS).cell? ⟨qb, 2, none⟩ = some (.slice (some ⟨p, 0, none⟩) 5 pc) := by
            obtain ⟨_, _, _, _, _, _, _, _, _, _, _, hgr, _⟩ := hdn.out
            exact HQ.out _ hgr
          refine hK.out _ _ hS (fun _ => ?_)
          simp only [Act.put, List.getElem_toArray, List.getElem_cons_succ, List.getElem_cons_zero, List.setIfInBounds_toArray, List.set_cons_zero, List.set_cons_succ]
          refine wpAnyH_done (by kernel_rfl) ?_ _
          refine hK9 _ _ (Met.intro (hJ9 _ _ ?_))
          (repeat apply Exists.intro)
          exact ⟨hdn.out, rfl⟩
        · rw [if_pos (by rfl)]
          refine wp_bslice0 27 rfl _ (run_slice_none V2) ?_
          obtain ⟨V3, hV3⟩ : ∃ z, z = V2.alloc (.cells #[] 23) := ⟨_, rfl⟩
          have M3 := Lib.hid (M2.out.lit2)
          rw [← hV3] at M3 ⊢
          clear hV3
          refine hK.out _ _ (HQ.out _ M3.out.grow) (fun hHeld => ?_)
          clear hK K
          simp only [Act.put, List.getElem_toArray, List.getElem_cons_succ, List.getElem_cons_zero, List.setIfInBounds_toArray, List.set_cons_zero, List.set_cons_succ]
          refine wpAnyH_ready (rs := [5]) (by kernel_rfl) (by simp) ?_
          refine AllReadyH.cons (o := _) rfl (fun K hK => ?_) AllReadyH.nil
          rw [if_pos (by rfl)]
          have ho3 : V3.ownsRow w6.heap.size 23 16 (.slice (some ⟨V0.heap.size, 0, none⟩) 0 0) 0 [] := by
            obtain ⟨_, _, _, _, h⟩ := M3.out.one.1 rfl
            exact h
          refine wp_copy_digs _ _ rfl w6.heap.size (.slice (some ⟨V0.heap.size, 0, none⟩) 0 0) rfl ho3 b 0 68 68 rfl (sigsS seed I d) (sigsS_length seed I d) (by omega) (by omega) (sigsS_dig seed I d) (H6.out.2.1.chains.grown M3.out.grow) M3.out.grow.size ?_
          intro g1 c1 V4 hb3 hc3 ht3 hd3 hg3 ha3
          have M4 := Lib.hid (M3.out.app1 (by omega) (sigsS_dig seed I d) (sigsS_length seed I d) hb3 hc3 ht3 hd3 hg3 ha3)
          clear ho3 hb3 hc3 ht3 hd3 hg3 ha3
          refine hK.out _ _ (HQ.out _ M4.out.grow) (fun hHeld => ?_)
          clear hK K
          simp only [Act.put, List.getElem_toArray, List.getElem_cons_succ, List.getElem_cons_zero, List.setIfInBounds_toArray, List.set_cons_zero, List.set_cons_succ]
          refine wpAnyH_ready (rs := [9]) (by kernel_rfl) (by simp) ?_
          refine AllReadyH.cons (o := _) rfl (fun K hK => ?_) AllReadyH.nil
          rw [if_pos (by rfl)]
          have ho4 : V4.ownsRow w6.heap.size 23 16 (.slice (some ⟨V2.heap.size, 0, none⟩) 0 0) 0 [] := by
            obtain ⟨_, _, _, _, h⟩ := M4.out.two.1 rfl
            exact h
          refine wp_copy_digs _ _ rfl w6.heap.size (.slice (some ⟨V2.heap.size, 0, none⟩) 0 0) rfl ho4 p 0 5 pc rfl (upto (wayC (leavesC seed) i) 5) (upto_length _ _) (by omega) (by omega) (way_dig (leavesC_dig seed) (fun k => k) i 5) (H6.out.2.1.path.grown M4.out.grow) M4.out.grow.size ?_
          intro g2 c2 V5 hb4 hc4 ht4 hd4 hg4 ha4
          have M5 := Lib.hid (M4.out.app2 (by omega) (way_dig (leavesC_dig seed) (fun k => k) i 5) (upto_length _ _) hb4 hc4 ht4 hd4 hg4 ha4)
          clear ho4 hb4 hc4 ht4 hd4 hg4 ha4
          refine hK.out _ _ (HQ.out _ M5.out.grow) (fun hHeld => ?_)
          clear hK K
          simp only [Act.put, List.getElem_toArray, List.getElem_cons_succ, List.getElem_cons_zero, List.setIfInBounds_toArray, List.set_cons_zero, List.set_cons_succ]
          refine wpAnyH_ready (rs := [10]) (by kernel_rfl) (by simp) ?_
          refine AllReadyH.cons (o := _) rfl (fun K hK => ?_) AllReadyH.nil
          rw [if_pos (by rfl)]
          obtain ⟨SS, hSS⟩ : ∃ SS, SS = (sigV I (.slice (some ⟨g1, 0, none⟩) 68 c1) (.slice (some ⟨g2, 0, none⟩) 5 c2)) := ⟨_, rfl⟩
          refine wp_build3_run 30 _ _ _ rfl (.int .i64 I) (.slice (some ⟨g1, 0, none⟩) 68 c1) (.slice (some ⟨g2, 0, none⟩) 5 c2) (.agg SS) rfl rfl rfl (by rw [hSS]; exact build_sig _ _ _ _ _ _ _ _) ?_
          refine hK.out _ _ (HQ.out _ M5.out.grow) (fun hHeld => ?_)
          clear hK K
          simp only [Act.put, List.getElem_toArray, List.getElem_cons_succ, List.getElem_cons_zero, List.setIfInBounds_toArray, List.set_cons_zero, List.set_cons_succ]
          refine wpAnyH_ready (rs := [12]) (by kernel_rfl) (by simp) ?_
          refine AllReadyH.cons (o := _) rfl (fun K hK => ?_) AllReadyH.nil
          rw [if_pos (by rfl)]
          have hbx := (M5.out.box rfl).1
          have hdn := M5.out.done (sigV I)
          have hsz : SS.size = 3 := by rw [hSS]; rfl
          rw [← hSS] at hdn
          have hdn := Lib.hid hdn
          refine wp_store_row _ _ _ rfl (V1.heap.size) SS rfl rfl 30 _ hbx (by rw [hsz]; exact info3) (by rw [hsz]; rfl) (by rw [hSS]; exact sigV_one _ _ _ _ _ _ _) ?_
          have hS : (V5.setRow (V1.heap.size) SS).cell? ⟨qb, 0, none⟩ = some (.int .i64 I) ∧ (V5.setRow (V1.heap.size) SS).cell? ⟨qb, 1, none⟩ = some (.slice (some ⟨b, 0, none⟩) 68 68) ∧ (V5.setRow (V1.heap.size) SS).cell? ⟨qb, 2, none⟩ = some (.slice (some ⟨p, 0, none⟩) 5 pc) := by
            obtain ⟨_, _, _, _, _, _, _, _, _, _, _, hgr, _⟩ := hdn.out
            exact HQ.out _ hgr
          refine hK.out _ _ hS (fun _ => ?_)
          simp only [Act.put, List.getElem_toArray, List.getElem_cons_succ, List.getElem_cons_zero, List.setIfInBounds_toArray, List.set_cons_zero, List.set_cons_succ]
          refine wpAnyH_done (by kernel_rfl) ?_ _
          refine hK9 _ _ (Met.intro (hJ9 _ _ ?_))
          (repeat apply Exists.intro)
          exact ⟨hdn.out, rfl⟩
    · rw [if_pos (by rfl)]
      refine wp_bslice0 27 rfl _ (run_slice_none V0) ?_
      obtain ⟨V1, hV1⟩ : ∃ z, z = V0.alloc (.cells #[] 23) := ⟨_, rfl⟩
      have M1 := Lib.hid (M0.out.lit2)
      rw [← hV1] at M1 ⊢
      clear hV1
      refine hK.out _ _ (HQ.out _ M1.out.grow) (fun hHeld => ?_)
      clear hK K
      simp only [Act.put, List.getElem_toArray, List.getElem_cons_succ, List.getElem_cons_zero, List.setIfInBounds_toArray, List.set_cons_zero, List.set_cons_succ]
      refine wpAnyH_ready (rs := [2, 11]) (by kernel_rfl) (by simp) ?_
      refine AllReadyH.cons (o := _) rfl (fun K hK => ?_) (AllReadyH.cons (o := _) rfl (fun K hK => ?_) AllReadyH.nil)
      · rw [if_pos (by rfl)]
        refine wp_bslice0 27 rfl _ (run_slice_none V1) ?_
        obtain ⟨V2, hV2⟩ : ∃ z, z = V1.alloc (.cells #[] 23) := ⟨_, rfl⟩
        have M2 := Lib.hid (M1.out.lit1)
        rw [← hV2] at M2 ⊢
        clear hV2
        refine hK.out _ _ (HQ.out _ M2.out.grow) (fun hHeld => ?_)
        clear hK K
        simp only [Act.put, List.getElem_toArray, List.getElem_cons_succ, List.getElem_cons_zero, List.setIfInBounds_toArray, List.set_cons_zero, List.set_cons_succ]
        refine wpAnyH_ready (rs := [5, 11]) (by kernel_rfl) (by simp) ?_
        refine AllReadyH.cons (o := _) rfl (fun K hK => ?_) (AllReadyH.cons (o := _) rfl (fun K hK => ?_) AllReadyH.nil)
        · rw [if_pos (by rfl)]
          have ho2 : V2.ownsRow w6.heap.size 23 16 (.slice (some ⟨V1.heap.size, 0, none⟩) 0 0) 0 [] := by
            obtain ⟨_, _, _, _, h⟩ := M2.out.one.1 rfl
            exact h
          refine wp_copy_digs _ _ rfl w6.heap.size (.slice (some ⟨V1.heap.size, 0, none⟩) 0 0) rfl ho2 b 0 68 68 rfl (sigsS seed I d) (sigsS_length seed I d) (by omega) (by omega) (sigsS_dig seed I d) (H6.out.2.1.chains.grown M2.out.grow) M2.out.grow.size ?_
          intro g1 c1 V3 hb2 hc2 ht2 hd2 hg2 ha2
          have M3 := Lib.hid (M2.out.app1 (by omega) (sigsS_dig seed I d) (sigsS_length seed I d) hb2 hc2 ht2 hd2 hg2 ha2)
          clear ho2 hb2 hc2 ht2 hd2 hg2 ha2
          refine hK.out _ _ (HQ.out _ M3.out.grow) (fun hHeld => ?_)
          clear hK K
          simp only [Act.put, List.getElem_toArray, List.getElem_cons_succ, List.getElem_cons_zero, List.setIfInBounds_toArray, List.set_cons_zero, List.set_cons_succ]
          refine wpAnyH_ready (rs := [9, 11]) (by kernel_rfl) (by simp) ?_
          refine AllReadyH.cons (o := _) rfl (fun K hK => ?_) (AllReadyH.cons (o := _) rfl (fun K hK => ?_) AllReadyH.nil)
          · rw [if_pos (by rfl)]
            have ho3 : V3.ownsRow w6.heap.size 23 16 (.slice (some ⟨V0.heap.size, 0, none⟩) 0 0) 0 [] := by
              obtain ⟨_, _, _, _, h⟩ := M3.out.two.1 rfl
              exact h
            refine wp_copy_digs _ _ rfl w6.heap.size (.slice (some ⟨V0.heap.size, 0, none⟩) 0 0) rfl ho3 p 0 5 pc rfl (upto (wayC (leavesC seed) i) 5) (upto_length _ _) (by omega) (by omega) (way_dig (leavesC_dig seed) (fun k => k) i 5) (H6.out.2.1.path.grown M3.out.grow) M3.out.grow.size ?_
            intro g2 c2 V4 hb3 hc3 ht3 hd3 hg3 ha3
            have M4 := Lib.hid (M3.out.app2 (by omega) (way_dig (leavesC_dig seed) (fun k => k) i 5) (upto_length _ _) hb3 hc3 ht3 hd3 hg3 ha3)
            clear ho3 hb3 hc3 ht3 hd3 hg3 ha3
            refine hK.out _ _ (HQ.out _ M4.out.grow) (fun hHeld => ?_)
            clear hK K
            simp only [Act.put, List.getElem_toArray, List.getElem_cons_succ, List.getElem_cons_zero, List.setIfInBounds_toArray, List.set_cons_zero, List.set_cons_succ]
            refine wpAnyH_ready (rs := [10, 11]) (by kernel_rfl) (by simp) ?_
            refine AllReadyH.cons (o := _) rfl (fun K hK => ?_) (AllReadyH.cons (o := _) rfl (fun K hK => ?_) AllReadyH.nil)
            · rw [if_pos (by rfl)]
              obtain ⟨SS, hSS⟩ : ∃ SS, SS = (sigV I (.slice (some ⟨g1, 0, none⟩) 68 c1) (.slice (some ⟨g2, 0, none⟩) 5 c2)) := ⟨_, rfl⟩
              refine wp_build3_run 30 _ _ _ rfl (.int .i64 I) (.slice (some ⟨g1, 0, none⟩) 68 c1) (.slice (some ⟨g2, 0, none⟩) 5 c2) (.agg SS) rfl rfl rfl (by rw [hSS]; exact build_sig _ _ _ _ _ _ _ _) ?_
              refine hK.out _ _ (HQ.out _ M4.out.grow) (fun hHeld => ?_)
              clear hK K
              simp only [Act.put, List.getElem_toArray, List.getElem_cons_succ, List.getElem_cons_zero, List.setIfInBounds_toArray, List.set_cons_zero, List.set_cons_succ]
              refine wpAnyH_ready (rs := [11]) (by kernel_rfl) (by simp) ?_
              refine AllReadyH.cons (o := _) rfl (fun K hK => ?_) AllReadyH.nil
              rw [if_pos (by rfl)]
              refine wp_alloc_run 30 rfl sigZ (sigz_run V4) ?_
              obtain ⟨V5, hV5⟩ : ∃ z, z = V4.alloc (.cells sigZ 30) := ⟨_, rfl⟩
              have M5 := Lib.hid (M4.out.box1)
              rw [← hV5] at M5 ⊢
              clear hV5
              refine hK.out _ _ (HQ.out _ M5.out.grow) (fun hHeld => ?_)
              clear hK K
              simp only [Act.put, List.getElem_toArray, List.getElem_cons_succ, List.getElem_cons_zero, List.setIfInBounds_toArray, List.set_cons_zero, List.set_cons_succ]
              refine wpAnyH_ready (rs := [12]) (by kernel_rfl) (by simp) ?_
              refine AllReadyH.cons (o := _) rfl (fun K hK => ?_) AllReadyH.nil
              rw [if_pos (by rfl)]
              have hbx := (M5.out.box rfl).1
              have hdn := M5.out.done (sigV I)
              have hsz : SS.size = 3 := by rw [hSS]; rfl
              rw [← hSS] at hdn
              have hdn := Lib.hid hdn
              refine wp_store_row _ _ _ rfl (V4.heap.size) SS rfl rfl 30 _ hbx (by rw [hsz]; exact info3) (by rw [hsz]; rfl) (by rw [hSS]; exact sigV_one _ _ _ _ _ _ _) ?_
              have hS : (V5.setRow (V4.heap.size) SS).cell? ⟨qb, 0, none⟩ = some (.int .i64 I) ∧ (V5.setRow (V4.heap.size) SS).cell? ⟨qb, 1, none⟩ = some (.slice (some ⟨b, 0, none⟩) 68 68) ∧ (V5.setRow (V4.heap.size) SS).cell? ⟨qb, 2, none⟩ = some (.slice (some ⟨p, 0, none⟩) 5 pc) := by
                obtain ⟨_, _, _, _, _, _, _, _, _, _, _, hgr, _⟩ := hdn.out
                exact HQ.out _ hgr
              refine hK.out _ _ hS (fun _ => ?_)
              simp only [Act.put, List.getElem_toArray, List.getElem_cons_succ, List.getElem_cons_zero, List.setIfInBounds_toArray, List.set_cons_zero, List.set_cons_succ]
              refine wpAnyH_done (by kernel_rfl) ?_ _
              refine hK9 _ _ (Met.intro (hJ9 _ _ ?_))
              (repeat apply Exists.intro)
              exact ⟨hdn.out, rfl⟩
            · rw [if_pos (by rfl)]
              refine wp_alloc_run 30 rfl sigZ (sigz_run V4) ?_
              obtain ⟨V5, hV5⟩ : ∃ z, z = V4.alloc (.cells sigZ 30) := ⟨_, rfl⟩
              have M5 := Lib.hid (M4.out.box1)
              rw [← hV5] at M5 ⊢
              clear hV5
              refine hK.out _ _ (HQ.out _ M5.out.grow) (fun hHeld => ?_)
              clear hK K
              simp only [Act.put, List.getElem_toArray, List.getElem_cons_succ, List.getElem_cons_zero, List.setIfInBounds_toArray, List.set_cons_zero, List.set_cons_succ]
              refine wpAnyH_ready (rs := [10]) (by kernel_rfl) (by simp) ?_
              refine AllReadyH.cons (o := _) rfl (fun K hK => ?_) AllReadyH.nil
              rw [if_pos (by rfl)]
              obtain ⟨SS, hSS⟩ : ∃ SS, SS = (sigV I (.slice (some ⟨g1, 0, none⟩) 68 c1) (.slice (some ⟨g2, 0, none⟩) 5 c2)) := ⟨_, rfl⟩
              refine wp_build3_run 30 _ _ _ rfl (.int .i64 I) (.slice (some ⟨g1, 0, none⟩) 68 c1) (.slice (some ⟨g2, 0, none⟩) 5 c2) (.agg SS) rfl rfl rfl (by rw [hSS]; exact build_sig _ _ _ _ _ _ _ _) ?_
              refine hK.out _ _ (HQ.out _ M5.out.grow) (fun hHeld => ?_)
              clear hK K
              simp only [Act.put, List.getElem_toArray, List.getElem_cons_succ, List.getElem_cons_zero, List.setIfInBounds_toArray, List.set_cons_zero, List.set_cons_succ]
              refine wpAnyH_ready (rs := [12]) (by kernel_rfl) (by simp) ?_
              refine AllReadyH.cons (o := _) rfl (fun K hK => ?_) AllReadyH.nil
              rw [if_pos (by rfl)]
              have hbx := (M5.out.box rfl).1
              have hdn := M5.out.done (sigV I)
              have hsz : SS.size = 3 := by rw [hSS]; rfl
              rw [← hSS] at hdn
              have hdn := Lib.hid hdn
              refine wp_store_row _ _ _ rfl (V4.heap.size) SS rfl rfl 30 _ hbx (by rw [hsz]; exact info3) (by rw [hsz]; rfl) (by rw [hSS]; exact sigV_one _ _ _ _ _ _ _) ?_
              have hS : (V5.setRow (V4.heap.size) SS).cell? ⟨qb, 0, none⟩ = some (.int .i64 I) ∧ (V5.setRow (V4.heap.size) SS).cell? ⟨qb, 1, none⟩ = some (.slice (some ⟨b, 0, none⟩) 68 68) ∧ (V5.setRow (V4.heap.size) SS).cell? ⟨qb, 2, none⟩ = some (.slice (some ⟨p, 0, none⟩) 5 pc) := by
                obtain ⟨_, _, _, _, _, _, _, _, _, _, _, hgr, _⟩ := hdn.out
                exact HQ.out _ hgr
              refine hK.out _ _ hS (fun _ => ?_)
              simp only [Act.put, List.getElem_toArray, List.getElem_cons_succ, List.getElem_cons_zero, List.setIfInBounds_toArray, List.set_cons_zero, List.set_cons_succ]
              refine wpAnyH_done (by kernel_rfl) ?_ _
              refine hK9 _ _ (Met.intro (hJ9 _ _ ?_))
              (repeat apply Exists.intro)
              exact ⟨hdn.out, rfl⟩
          · rw [if_pos (by rfl)]
            refine wp_alloc_run 30 rfl sigZ (sigz_run V3) ?_
            obtain ⟨V4, hV4⟩ : ∃ z, z = V3.alloc (.cells sigZ 30) := ⟨_, rfl⟩
            have M4 := Lib.hid (M3.out.box1)
            rw [← hV4] at M4 ⊢
            clear hV4
            refine hK.out _ _ (HQ.out _ M4.out.grow) (fun hHeld => ?_)
            clear hK K
            simp only [Act.put, List.getElem_toArray, List.getElem_cons_succ, List.getElem_cons_zero, List.setIfInBounds_toArray, List.set_cons_zero, List.set_cons_succ]
            refine wpAnyH_ready (rs := [9]) (by kernel_rfl) (by simp) ?_
            refine AllReadyH.cons (o := _) rfl (fun K hK => ?_) AllReadyH.nil
            rw [if_pos (by rfl)]
            have ho4 : V4.ownsRow w6.heap.size 23 16 (.slice (some ⟨V0.heap.size, 0, none⟩) 0 0) 0 [] := by
              obtain ⟨_, _, _, _, h⟩ := M4.out.two.1 rfl
              exact h
            refine wp_copy_digs _ _ rfl w6.heap.size (.slice (some ⟨V0.heap.size, 0, none⟩) 0 0) rfl ho4 p 0 5 pc rfl (upto (wayC (leavesC seed) i) 5) (upto_length _ _) (by omega) (by omega) (way_dig (leavesC_dig seed) (fun k => k) i 5) (H6.out.2.1.path.grown M4.out.grow) M4.out.grow.size ?_
            intro g2 c2 V5 hb4 hc4 ht4 hd4 hg4 ha4
            have M5 := Lib.hid (M4.out.app2 (by omega) (way_dig (leavesC_dig seed) (fun k => k) i 5) (upto_length _ _) hb4 hc4 ht4 hd4 hg4 ha4)
            clear ho4 hb4 hc4 ht4 hd4 hg4 ha4
            refine hK.out _ _ (HQ.out _ M5.out.grow) (fun hHeld => ?_)
            clear hK K
            simp only [Act.put, List.getElem_toArray, List.getElem_cons_succ, List.getElem_cons_zero, List.setIfInBounds_toArray, List.set_cons_zero, List.set_cons_succ]
            refine wpAnyH_ready (rs := [10]) (by kernel_rfl) (by simp) ?_
            refine AllReadyH.cons (o := _) rfl (fun K hK => ?_) AllReadyH.nil
            rw [if_pos (by rfl)]
            obtain ⟨SS, hSS⟩ : ∃ SS, SS = (sigV I (.slice (some ⟨g1, 0, none⟩) 68 c1) (.slice (some ⟨g2, 0, none⟩) 5 c2)) := ⟨_, rfl⟩
            refine wp_build3_run 30 _ _ _ rfl (.int .i64 I) (.slice (some ⟨g1, 0, none⟩) 68 c1) (.slice (some ⟨g2, 0, none⟩) 5 c2) (.agg SS) rfl rfl rfl (by rw [hSS]; exact build_sig _ _ _ _ _ _ _ _) ?_
            refine hK.out _ _ (HQ.out _ M5.out.grow) (fun hHeld => ?_)
            clear hK K
            simp only [Act.put, List.getElem_toArray, List.getElem_cons_succ, List.getElem_cons_zero, List.setIfInBounds_toArray, List.set_cons_zero, List.set_cons_succ]
            refine wpAnyH_ready (rs := [12]) (by kernel_rfl) (by simp) ?_
            refine AllReadyH.cons (o := _) rfl (fun K hK => ?_) AllReadyH.nil
            rw [if_pos (by rfl)]
            have hbx := (M5.out.box rfl).1
            have hdn := M5.out.done (sigV I)
            have hsz : SS.size = 3 := by rw [hSS]; rfl
            rw [← hSS] at hdn
            have hdn := Lib.hid hdn
            refine wp_store_row _ _ _ rfl (V3.heap.size) SS rfl rfl 30 _ hbx (by rw [hsz]; exact info3) (by rw [hsz]; rfl) (by rw [hSS]; exact sigV_one _ _ _ _ _ _ _) ?_
            have hS : (V5.setRow (V3.heap.size) SS).cell? ⟨qb, 0, none⟩ = some (.int .i64 I) ∧ (V5.setRow (V3.heap.size) SS).cell? ⟨qb, 1, none⟩ = some (.slice (some ⟨b, 0, none⟩) 68 68) ∧ (V5.setRow (V3.heap.size) SS).cell? ⟨qb, 2, none⟩ = some (.slice (some ⟨p, 0, none⟩) 5 pc) := by
              obtain ⟨_, _, _, _, _, _, _, _, _, _, _, hgr, _⟩ := hdn.out
              exact HQ.out _ hgr
            refine hK.out _ _ hS (fun _ => ?_)
            simp only [Act.put, List.getElem_toArray, List.getElem_cons_succ, List.getElem_cons_zero, List.setIfInBounds_toArray, List.set_cons_zero, List.set_cons_succ]
            refine wpAnyH_done (by kernel_rfl) ?_ _
            refine hK9 _ _ (Met.intro (hJ9 _ _ ?_))
            (repeat apply Exists.intro)
            exact ⟨hdn.out, rfl⟩
        · rw [if_pos (by rfl)]
          refine wp_alloc_run 30 rfl sigZ (sigz_run V2) ?_
          obtain ⟨V3, hV3⟩ : ∃ z, z = V2.alloc (.cells sigZ 30) := ⟨_, rfl⟩
          have M3 := Lib.hid (M2.out.box1)
          rw [← hV3] at M3 ⊢
          clear hV3
          refine hK.out _ _ (HQ.out _ M3.out.grow) (fun hHeld => ?_)
          clear hK K
          simp only [Act.put, List.getElem_toArray, List.getElem_cons_succ, List.getElem_cons_zero, List.setIfInBounds_toArray, List.set_cons_zero, List.set_cons_succ]
          refine wpAnyH_ready (rs := [5]) (by kernel_rfl) (by simp) ?_
          refine AllReadyH.cons (o := _) rfl (fun K hK => ?_) AllReadyH.nil
          rw [if_pos (by rfl)]
          have ho3 : V3.ownsRow w6.heap.size 23 16 (.slice (some ⟨V1.heap.size, 0, none⟩) 0 0) 0 [] := by
            obtain ⟨_, _, _, _, h⟩ := M3.out.one.1 rfl
            exact h
          refine wp_copy_digs _ _ rfl w6.heap.size (.slice (some ⟨V1.heap.size, 0, none⟩) 0 0) rfl ho3 b 0 68 68 rfl (sigsS seed I d) (sigsS_length seed I d) (by omega) (by omega) (sigsS_dig seed I d) (H6.out.2.1.chains.grown M3.out.grow) M3.out.grow.size ?_
          intro g1 c1 V4 hb3 hc3 ht3 hd3 hg3 ha3
          have M4 := Lib.hid (M3.out.app1 (by omega) (sigsS_dig seed I d) (sigsS_length seed I d) hb3 hc3 ht3 hd3 hg3 ha3)
          clear ho3 hb3 hc3 ht3 hd3 hg3 ha3
          refine hK.out _ _ (HQ.out _ M4.out.grow) (fun hHeld => ?_)
          clear hK K
          simp only [Act.put, List.getElem_toArray, List.getElem_cons_succ, List.getElem_cons_zero, List.setIfInBounds_toArray, List.set_cons_zero, List.set_cons_succ]
          refine wpAnyH_ready (rs := [9]) (by kernel_rfl) (by simp) ?_
          refine AllReadyH.cons (o := _) rfl (fun K hK => ?_) AllReadyH.nil
          rw [if_pos (by rfl)]
          have ho4 : V4.ownsRow w6.heap.size 23 16 (.slice (some ⟨V0.heap.size, 0, none⟩) 0 0) 0 [] := by
            obtain ⟨_, _, _, _, h⟩ := M4.out.two.1 rfl
            exact h
          refine wp_copy_digs _ _ rfl w6.heap.size (.slice (some ⟨V0.heap.size, 0, none⟩) 0 0) rfl ho4 p 0 5 pc rfl (upto (wayC (leavesC seed) i) 5) (upto_length _ _) (by omega) (by omega) (way_dig (leavesC_dig seed) (fun k => k) i 5) (H6.out.2.1.path.grown M4.out.grow) M4.out.grow.size ?_
          intro g2 c2 V5 hb4 hc4 ht4 hd4 hg4 ha4
          have M5 := Lib.hid (M4.out.app2 (by omega) (way_dig (leavesC_dig seed) (fun k => k) i 5) (upto_length _ _) hb4 hc4 ht4 hd4 hg4 ha4)
          clear ho4 hb4 hc4 ht4 hd4 hg4 ha4
          refine hK.out _ _ (HQ.out _ M5.out.grow) (fun hHeld => ?_)
          clear hK K
          simp only [Act.put, List.getElem_toArray, List.getElem_cons_succ, List.getElem_cons_zero, List.setIfInBounds_toArray, List.set_cons_zero, List.set_cons_succ]
          refine wpAnyH_ready (rs := [10]) (by kernel_rfl) (by simp) ?_
          refine AllReadyH.cons (o := _) rfl (fun K hK => ?_) AllReadyH.nil
          rw [if_pos (by rfl)]
          obtain ⟨SS, hSS⟩ : ∃ SS, SS = (sigV I (.slice (some ⟨g1, 0, none⟩) 68 c1) (.slice (some ⟨g2, 0, none⟩) 5 c2)) := ⟨_, rfl⟩
          refine wp_build3_run 30 _ _ _ rfl (.int .i64 I) (.slice (some ⟨g1, 0, none⟩) 68 c1) (.slice (some ⟨g2, 0, none⟩) 5 c2) (.agg SS) rfl rfl rfl (by rw [hSS]; exact build_sig _ _ _ _ _ _ _ _) ?_
          refine hK.out _ _ (HQ.out _ M5.out.grow) (fun hHeld => ?_)
          clear hK K
          simp only [Act.put, List.getElem_toArray, List.getElem_cons_succ, List.getElem_cons_zero, List.setIfInBounds_toArray, List.set_cons_zero, List.set_cons_succ]
          refine wpAnyH_ready (rs := [12]) (by kernel_rfl) (by simp) ?_
          refine AllReadyH.cons (o := _) rfl (fun K hK => ?_) AllReadyH.nil
          rw [if_pos (by rfl)]
          have hbx := (M5.out.box rfl).1
          have hdn := M5.out.done (sigV I)
          have hsz : SS.size = 3 := by rw [hSS]; rfl
          rw [← hSS] at hdn
          have hdn := Lib.hid hdn
          refine wp_store_row _ _ _ rfl (V2.heap.size) SS rfl rfl 30 _ hbx (by rw [hsz]; exact info3) (by rw [hsz]; rfl) (by rw [hSS]; exact sigV_one _ _ _ _ _ _ _) ?_
          have hS : (V5.setRow (V2.heap.size) SS).cell? ⟨qb, 0, none⟩ = some (.int .i64 I) ∧ (V5.setRow (V2.heap.size) SS).cell? ⟨qb, 1, none⟩ = some (.slice (some ⟨b, 0, none⟩) 68 68) ∧ (V5.setRow (V2.heap.size) SS).cell? ⟨qb, 2, none⟩ = some (.slice (some ⟨p, 0, none⟩) 5 pc) := by
            obtain ⟨_, _, _, _, _, _, _, _, _, _, _, hgr, _⟩ := hdn.out
            exact HQ.out _ hgr
          refine hK.out _ _ hS (fun _ => ?_)
          simp only [Act.put, List.getElem_toArray, List.getElem_cons_succ, List.getElem_cons_zero, List.setIfInBounds_toArray, List.set_cons_zero, List.set_cons_succ]
          refine wpAnyH_done (by kernel_rfl) ?_ _
          refine hK9 _ _ (Met.intro (hJ9 _ _ ?_))
          (repeat apply Exists.intro)
          exact ⟨hdn.out, rfl⟩
      · rw [if_pos (by rfl)]
        refine wp_alloc_run 30 rfl sigZ (sigz_run V1) ?_
        obtain ⟨V2, hV2⟩ : ∃ z, z = V1.alloc (.cells sigZ 30) := ⟨_, rfl⟩
        have M2 := Lib.hid (M1.out.box1)
        rw [← hV2] at M2 ⊢
        clear hV2
        refine hK.out _ _ (HQ.out _ M2.out.grow) (fun hHeld => ?_)
        clear hK K
        simp only [Act.put, List.getElem_toArray, List.getElem_cons_succ, List.getElem_cons_zero, List.setIfInBounds_toArray, List.set_cons_zero, List.set_cons_succ]
        refine wpAnyH_ready (rs := [2]) (by kernel_rfl) (by simp) ?_
        refine AllReadyH.cons (o := _) rfl (fun K hK => ?_) AllReadyH.nil
        rw [if_pos (by rfl)]
        refine wp_bslice0 27 rfl _ (run_slice_none V2) ?_
        obtain ⟨V3, hV3⟩ : ∃ z, z = V2.alloc (.cells #[] 23) := ⟨_, rfl⟩
        have M3 := Lib.hid (M2.out.lit1)
        rw [← hV3] at M3 ⊢
        clear hV3
        refine hK.out _ _ (HQ.out _ M3.out.grow) (fun hHeld => ?_)
        clear hK K
        simp only [Act.put, List.getElem_toArray, List.getElem_cons_succ, List.getElem_cons_zero, List.setIfInBounds_toArray, List.set_cons_zero, List.set_cons_succ]
        refine wpAnyH_ready (rs := [5]) (by kernel_rfl) (by simp) ?_
        refine AllReadyH.cons (o := _) rfl (fun K hK => ?_) AllReadyH.nil
        rw [if_pos (by rfl)]
        have ho3 : V3.ownsRow w6.heap.size 23 16 (.slice (some ⟨V2.heap.size, 0, none⟩) 0 0) 0 [] := by
          obtain ⟨_, _, _, _, h⟩ := M3.out.one.1 rfl
          exact h
        refine wp_copy_digs _ _ rfl w6.heap.size (.slice (some ⟨V2.heap.size, 0, none⟩) 0 0) rfl ho3 b 0 68 68 rfl (sigsS seed I d) (sigsS_length seed I d) (by omega) (by omega) (sigsS_dig seed I d) (H6.out.2.1.chains.grown M3.out.grow) M3.out.grow.size ?_
        intro g1 c1 V4 hb3 hc3 ht3 hd3 hg3 ha3
        have M4 := Lib.hid (M3.out.app1 (by omega) (sigsS_dig seed I d) (sigsS_length seed I d) hb3 hc3 ht3 hd3 hg3 ha3)
        clear ho3 hb3 hc3 ht3 hd3 hg3 ha3
        refine hK.out _ _ (HQ.out _ M4.out.grow) (fun hHeld => ?_)
        clear hK K
        simp only [Act.put, List.getElem_toArray, List.getElem_cons_succ, List.getElem_cons_zero, List.setIfInBounds_toArray, List.set_cons_zero, List.set_cons_succ]
        refine wpAnyH_ready (rs := [9]) (by kernel_rfl) (by simp) ?_
        refine AllReadyH.cons (o := _) rfl (fun K hK => ?_) AllReadyH.nil
        rw [if_pos (by rfl)]
        have ho4 : V4.ownsRow w6.heap.size 23 16 (.slice (some ⟨V0.heap.size, 0, none⟩) 0 0) 0 [] := by
          obtain ⟨_, _, _, _, h⟩ := M4.out.two.1 rfl
          exact h
        refine wp_copy_digs _ _ rfl w6.heap.size (.slice (some ⟨V0.heap.size, 0, none⟩) 0 0) rfl ho4 p 0 5 pc rfl (upto (wayC (leavesC seed) i) 5) (upto_length _ _) (by omega) (by omega) (way_dig (leavesC_dig seed) (fun k => k) i 5) (H6.out.2.1.path.grown M4.out.grow) M4.out.grow.size ?_
        intro g2 c2 V5 hb4 hc4 ht4 hd4 hg4 ha4
        have M5 := Lib.hid (M4.out.app2 (by omega) (way_dig (leavesC_dig seed) (fun k => k) i 5) (upto_length _ _) hb4 hc4 ht4 hd4 hg4 ha4)
        clear ho4 hb4 hc4 ht4 hd4 hg4 ha4
        refine hK.out _ _ (HQ.out _ M5.out.grow) (fun hHeld => ?_)
        clear hK K
        simp only [Act.put, List.getElem_toArray, List.getElem_cons_succ, List.getElem_cons_zero, List.setIfInBounds_toArray, List.set_cons_zero, List.set_cons_succ]
        refine wpAnyH_ready (rs := [10]) (by kernel_rfl) (by simp) ?_
        refine AllReadyH.cons (o := _) rfl (fun K hK => ?_) AllReadyH.nil
        rw [if_pos (by rfl)]
        obtain ⟨SS, hSS⟩ : ∃ SS, SS = (sigV I (.slice (some ⟨g1, 0, none⟩) 68 c1) (.slice (some ⟨g2, 0, none⟩) 5 c2)) := ⟨_, rfl⟩
        refine wp_build3_run 30 _ _ _ rfl (.int .i64 I) (.slice (some ⟨g1, 0, none⟩) 68 c1) (.slice (some ⟨g2, 0, none⟩) 5 c2) (.agg SS) rfl rfl rfl (by rw [hSS]; exact build_sig _ _ _ _ _ _ _ _) ?_
        refine hK.out _ _ (HQ.out _ M5.out.grow) (fun hHeld => ?_)
        clear hK K
        simp only [Act.put, List.getElem_toArray, List.getElem_cons_succ, List.getElem_cons_zero, List.setIfInBounds_toArray, List.set_cons_zero, List.set_cons_succ]
        refine wpAnyH_ready (rs := [12]) (by kernel_rfl) (by simp) ?_
        refine AllReadyH.cons (o := _) rfl (fun K hK => ?_) AllReadyH.nil
        rw [if_pos (by rfl)]
        have hbx := (M5.out.box rfl).1
        have hdn := M5.out.done (sigV I)
        have hsz : SS.size = 3 := by rw [hSS]; rfl
        rw [← hSS] at hdn
        have hdn := Lib.hid hdn
        refine wp_store_row _ _ _ rfl (V1.heap.size) SS rfl rfl 30 _ hbx (by rw [hsz]; exact info3) (by rw [hsz]; rfl) (by rw [hSS]; exact sigV_one _ _ _ _ _ _ _) ?_
        have hS : (V5.setRow (V1.heap.size) SS).cell? ⟨qb, 0, none⟩ = some (.int .i64 I) ∧ (V5.setRow (V1.heap.size) SS).cell? ⟨qb, 1, none⟩ = some (.slice (some ⟨b, 0, none⟩) 68 68) ∧ (V5.setRow (V1.heap.size) SS).cell? ⟨qb, 2, none⟩ = some (.slice (some ⟨p, 0, none⟩) 5 pc) := by
          obtain ⟨_, _, _, _, _, _, _, _, _, _, _, hgr, _⟩ := hdn.out
          exact HQ.out _ hgr
        refine hK.out _ _ hS (fun _ => ?_)
        simp only [Act.put, List.getElem_toArray, List.getElem_cons_succ, List.getElem_cons_zero, List.setIfInBounds_toArray, List.set_cons_zero, List.set_cons_succ]
        refine wpAnyH_done (by kernel_rfl) ?_ _
        refine hK9 _ _ (Met.intro (hJ9 _ _ ?_))
        (repeat apply Exists.intro)
        exact ⟨hdn.out, rfl⟩
    · rw [if_pos (by rfl)]
      refine wp_alloc_run 30 rfl sigZ (sigz_run V0) ?_
      obtain ⟨V1, hV1⟩ : ∃ z, z = V0.alloc (.cells sigZ 30) := ⟨_, rfl⟩
      have M1 := Lib.hid (M0.out.box1)
      rw [← hV1] at M1 ⊢
      clear hV1
      refine hK.out _ _ (HQ.out _ M1.out.grow) (fun hHeld => ?_)
      clear hK K
      simp only [Act.put, List.getElem_toArray, List.getElem_cons_succ, List.getElem_cons_zero, List.setIfInBounds_toArray, List.set_cons_zero, List.set_cons_succ]
      refine wpAnyH_ready (rs := [2, 6]) (by kernel_rfl) (by simp) ?_
      refine AllReadyH.cons (o := _) rfl (fun K hK => ?_) (AllReadyH.cons (o := _) rfl (fun K hK => ?_) AllReadyH.nil)
      · rw [if_pos (by rfl)]
        refine wp_bslice0 27 rfl _ (run_slice_none V1) ?_
        obtain ⟨V2, hV2⟩ : ∃ z, z = V1.alloc (.cells #[] 23) := ⟨_, rfl⟩
        have M2 := Lib.hid (M1.out.lit1)
        rw [← hV2] at M2 ⊢
        clear hV2
        refine hK.out _ _ (HQ.out _ M2.out.grow) (fun hHeld => ?_)
        clear hK K
        simp only [Act.put, List.getElem_toArray, List.getElem_cons_succ, List.getElem_cons_zero, List.setIfInBounds_toArray, List.set_cons_zero, List.set_cons_succ]
        refine wpAnyH_ready (rs := [5, 6]) (by kernel_rfl) (by simp) ?_
        refine AllReadyH.cons (o := _) rfl (fun K hK => ?_) (AllReadyH.cons (o := _) rfl (fun K hK => ?_) AllReadyH.nil)
        · rw [if_pos (by rfl)]
          have ho2 : V2.ownsRow w6.heap.size 23 16 (.slice (some ⟨V1.heap.size, 0, none⟩) 0 0) 0 [] := by
            obtain ⟨_, _, _, _, h⟩ := M2.out.one.1 rfl
            exact h
          refine wp_copy_digs _ _ rfl w6.heap.size (.slice (some ⟨V1.heap.size, 0, none⟩) 0 0) rfl ho2 b 0 68 68 rfl (sigsS seed I d) (sigsS_length seed I d) (by omega) (by omega) (sigsS_dig seed I d) (H6.out.2.1.chains.grown M2.out.grow) M2.out.grow.size ?_
          intro g1 c1 V3 hb2 hc2 ht2 hd2 hg2 ha2
          have M3 := Lib.hid (M2.out.app1 (by omega) (sigsS_dig seed I d) (sigsS_length seed I d) hb2 hc2 ht2 hd2 hg2 ha2)
          clear ho2 hb2 hc2 ht2 hd2 hg2 ha2
          refine hK.out _ _ (HQ.out _ M3.out.grow) (fun hHeld => ?_)
          clear hK K
          simp only [Act.put, List.getElem_toArray, List.getElem_cons_succ, List.getElem_cons_zero, List.setIfInBounds_toArray, List.set_cons_zero, List.set_cons_succ]
          refine wpAnyH_ready (rs := [6]) (by kernel_rfl) (by simp) ?_
          refine AllReadyH.cons (o := _) rfl (fun K hK => ?_) AllReadyH.nil
          rw [if_pos (by rfl)]
          refine wp_bslice0 27 rfl _ (run_slice_none V3) ?_
          obtain ⟨V4, hV4⟩ : ∃ z, z = V3.alloc (.cells #[] 23) := ⟨_, rfl⟩
          have M4 := Lib.hid (M3.out.lit2)
          rw [← hV4] at M4 ⊢
          clear hV4
          refine hK.out _ _ (HQ.out _ M4.out.grow) (fun hHeld => ?_)
          clear hK K
          simp only [Act.put, List.getElem_toArray, List.getElem_cons_succ, List.getElem_cons_zero, List.setIfInBounds_toArray, List.set_cons_zero, List.set_cons_succ]
          refine wpAnyH_ready (rs := [9]) (by kernel_rfl) (by simp) ?_
          refine AllReadyH.cons (o := _) rfl (fun K hK => ?_) AllReadyH.nil
          rw [if_pos (by rfl)]
          have ho4 : V4.ownsRow w6.heap.size 23 16 (.slice (some ⟨V3.heap.size, 0, none⟩) 0 0) 0 [] := by
            obtain ⟨_, _, _, _, h⟩ := M4.out.two.1 rfl
            exact h
          refine wp_copy_digs _ _ rfl w6.heap.size (.slice (some ⟨V3.heap.size, 0, none⟩) 0 0) rfl ho4 p 0 5 pc rfl (upto (wayC (leavesC seed) i) 5) (upto_length _ _) (by omega) (by omega) (way_dig (leavesC_dig seed) (fun k => k) i 5) (H6.out.2.1.path.grown M4.out.grow) M4.out.grow.size ?_
          intro g2 c2 V5 hb4 hc4 ht4 hd4 hg4 ha4
          have M5 := Lib.hid (M4.out.app2 (by omega) (way_dig (leavesC_dig seed) (fun k => k) i 5) (upto_length _ _) hb4 hc4 ht4 hd4 hg4 ha4)
          clear ho4 hb4 hc4 ht4 hd4 hg4 ha4
          refine hK.out _ _ (HQ.out _ M5.out.grow) (fun hHeld => ?_)
          clear hK K
          simp only [Act.put, List.getElem_toArray, List.getElem_cons_succ, List.getElem_cons_zero, List.setIfInBounds_toArray, List.set_cons_zero, List.set_cons_succ]
          refine wpAnyH_ready (rs := [10]) (by kernel_rfl) (by simp) ?_
          refine AllReadyH.cons (o := _) rfl (fun K hK => ?_) AllReadyH.nil
          rw [if_pos (by rfl)]
          obtain ⟨SS, hSS⟩ : ∃ SS, SS = (sigV I (.slice (some ⟨g1, 0, none⟩) 68 c1) (.slice (some ⟨g2, 0, none⟩) 5 c2)) := ⟨_, rfl⟩
          refine wp_build3_run 30 _ _ _ rfl (.int .i64 I) (.slice (some ⟨g1, 0, none⟩) 68 c1) (.slice (some ⟨g2, 0, none⟩) 5 c2) (.agg SS) rfl rfl rfl (by rw [hSS]; exact build_sig _ _ _ _ _ _ _ _) ?_
          refine hK.out _ _ (HQ.out _ M5.out.grow) (fun hHeld => ?_)
          clear hK K
          simp only [Act.put, List.getElem_toArray, List.getElem_cons_succ, List.getElem_cons_zero, List.setIfInBounds_toArray, List.set_cons_zero, List.set_cons_succ]
          refine wpAnyH_ready (rs := [12]) (by kernel_rfl) (by simp) ?_
          refine AllReadyH.cons (o := _) rfl (fun K hK => ?_) AllReadyH.nil
          rw [if_pos (by rfl)]
          have hbx := (M5.out.box rfl).1
          have hdn := M5.out.done (sigV I)
          have hsz : SS.size = 3 := by rw [hSS]; rfl
          rw [← hSS] at hdn
          have hdn := Lib.hid hdn
          refine wp_store_row _ _ _ rfl (V0.heap.size) SS rfl rfl 30 _ hbx (by rw [hsz]; exact info3) (by rw [hsz]; rfl) (by rw [hSS]; exact sigV_one _ _ _ _ _ _ _) ?_
          have hS : (V5.setRow (V0.heap.size) SS).cell? ⟨qb, 0, none⟩ = some (.int .i64 I) ∧ (V5.setRow (V0.heap.size) SS).cell? ⟨qb, 1, none⟩ = some (.slice (some ⟨b, 0, none⟩) 68 68) ∧ (V5.setRow (V0.heap.size) SS).cell? ⟨qb, 2, none⟩ = some (.slice (some ⟨p, 0, none⟩) 5 pc) := by
            obtain ⟨_, _, _, _, _, _, _, _, _, _, _, hgr, _⟩ := hdn.out
            exact HQ.out _ hgr
          refine hK.out _ _ hS (fun _ => ?_)
          simp only [Act.put, List.getElem_toArray, List.getElem_cons_succ, List.getElem_cons_zero, List.setIfInBounds_toArray, List.set_cons_zero, List.set_cons_succ]
          refine wpAnyH_done (by kernel_rfl) ?_ _
          refine hK9 _ _ (Met.intro (hJ9 _ _ ?_))
          (repeat apply Exists.intro)
          exact ⟨hdn.out, rfl⟩
        · rw [if_pos (by rfl)]
          refine wp_bslice0 27 rfl _ (run_slice_none V2) ?_
          obtain ⟨V3, hV3⟩ : ∃ z, z = V2.alloc (.cells #[] 23) := ⟨_, rfl⟩
          have M3 := Lib.hid (M2.out.lit2)
          rw [← hV3] at M3 ⊢
          clear hV3
          refine hK.out _ _ (HQ.out _ M3.out.grow) (fun hHeld => ?_)
          clear hK K
          simp only [Act.put, List.getElem_toArray, List.getElem_cons_succ, List.getElem_cons_zero, List.setIfInBounds_toArray, List.set_cons_zero, List.set_cons_succ]
          refine wpAnyH_ready (rs := [5]) (by kernel_rfl) (by simp) ?_
          refine AllReadyH.cons (o := _) rfl (fun K hK => ?_) AllReadyH.nil
          rw [if_pos (by rfl)]
          have ho3 : V3.ownsRow w6.heap.size 23 16 (.slice (some ⟨V1.heap.size, 0, none⟩) 0 0) 0 [] := by
            obtain ⟨_, _, _, _, h⟩ := M3.out.one.1 rfl
            exact h
          refine wp_copy_digs _ _ rfl w6.heap.size (.slice (some ⟨V1.heap.size, 0, none⟩) 0 0) rfl ho3 b 0 68 68 rfl (sigsS seed I d) (sigsS_length seed I d) (by omega) (by omega) (sigsS_dig seed I d) (H6.out.2.1.chains.grown M3.out.grow) M3.out.grow.size ?_
          intro g1 c1 V4 hb3 hc3 ht3 hd3 hg3 ha3
          have M4 := Lib.hid (M3.out.app1 (by omega) (sigsS_dig seed I d) (sigsS_length seed I d) hb3 hc3 ht3 hd3 hg3 ha3)
          clear ho3 hb3 hc3 ht3 hd3 hg3 ha3
          refine hK.out _ _ (HQ.out _ M4.out.grow) (fun hHeld => ?_)
          clear hK K
          simp only [Act.put, List.getElem_toArray, List.getElem_cons_succ, List.getElem_cons_zero, List.setIfInBounds_toArray, List.set_cons_zero, List.set_cons_succ]
          refine wpAnyH_ready (rs := [9]) (by kernel_rfl) (by simp) ?_
          refine AllReadyH.cons (o := _) rfl (fun K hK => ?_) AllReadyH.nil
          rw [if_pos (by rfl)]
          have ho4 : V4.ownsRow w6.heap.size 23 16 (.slice (some ⟨V2.heap.size, 0, none⟩) 0 0) 0 [] := by
            obtain ⟨_, _, _, _, h⟩ := M4.out.two.1 rfl
            exact h
          refine wp_copy_digs _ _ rfl w6.heap.size (.slice (some ⟨V2.heap.size, 0, none⟩) 0 0) rfl ho4 p 0 5 pc rfl (upto (wayC (leavesC seed) i) 5) (upto_length _ _) (by omega) (by omega) (way_dig (leavesC_dig seed) (fun k => k) i 5) (H6.out.2.1.path.grown M4.out.grow) M4.out.grow.size ?_
          intro g2 c2 V5 hb4 hc4 ht4 hd4 hg4 ha4
          have M5 := Lib.hid (M4.out.app2 (by omega) (way_dig (leavesC_dig seed) (fun k => k) i 5) (upto_length _ _) hb4 hc4 ht4 hd4 hg4 ha4)
          clear ho4 hb4 hc4 ht4 hd4 hg4 ha4
          refine hK.out _ _ (HQ.out _ M5.out.grow) (fun hHeld => ?_)
          clear hK K
          simp only [Act.put, List.getElem_toArray, List.getElem_cons_succ, List.getElem_cons_zero, List.setIfInBounds_toArray, List.set_cons_zero, List.set_cons_succ]
          refine wpAnyH_ready (rs := [10]) (by kernel_rfl) (by simp) ?_
          refine AllReadyH.cons (o := _) rfl (fun K hK => ?_) AllReadyH.nil
          rw [if_pos (by rfl)]
          obtain ⟨SS, hSS⟩ : ∃ SS, SS = (sigV I (.slice (some ⟨g1, 0, none⟩) 68 c1) (.slice (some ⟨g2, 0, none⟩) 5 c2)) := ⟨_, rfl⟩
          refine wp_build3_run 30 _ _ _ rfl (.int .i64 I) (.slice (some ⟨g1, 0, none⟩) 68 c1) (.slice (some ⟨g2, 0, none⟩) 5 c2) (.agg SS) rfl rfl rfl (by rw [hSS]; exact build_sig _ _ _ _ _ _ _ _) ?_
          refine hK.out _ _ (HQ.out _ M5.out.grow) (fun hHeld => ?_)
          clear hK K
          simp only [Act.put, List.getElem_toArray, List.getElem_cons_succ, List.getElem_cons_zero, List.setIfInBounds_toArray, List.set_cons_zero, List.set_cons_succ]
          refine wpAnyH_ready (rs := [12]) (by kernel_rfl) (by simp) ?_
          refine AllReadyH.cons (o := _) rfl (fun K hK => ?_) AllReadyH.nil
          rw [if_pos (by rfl)]
          have hbx := (M5.out.box rfl).1
          have hdn := M5.out.done (sigV I)
          have hsz : SS.size = 3 := by rw [hSS]; rfl
          rw [← hSS] at hdn
          have hdn := Lib.hid hdn
          refine wp_store_row _ _ _ rfl (V0.heap.size) SS rfl rfl 30 _ hbx (by rw [hsz]; exact info3) (by rw [hsz]; rfl) (by rw [hSS]; exact sigV_one _ _ _ _ _ _ _) ?_
          have hS : (V5.setRow (V0.heap.size) SS).cell? ⟨qb, 0, none⟩ = some (.int .i64 I) ∧ (V5.setRow (V0.heap.size) SS).cell? ⟨qb, 1, none⟩ = some (.slice (some ⟨b, 0, none⟩) 68 68) ∧ (V5.setRow (V0.heap.size) SS).cell? ⟨qb, 2, none⟩ = some (.slice (some ⟨p, 0, none⟩) 5 pc) := by
            obtain ⟨_, _, _, _, _, _, _, _, _, _, _, hgr, _⟩ := hdn.out
            exact HQ.out _ hgr
          refine hK.out _ _ hS (fun _ => ?_)
          simp only [Act.put, List.getElem_toArray, List.getElem_cons_succ, List.getElem_cons_zero, List.setIfInBounds_toArray, List.set_cons_zero, List.set_cons_succ]
          refine wpAnyH_done (by kernel_rfl) ?_ _
          refine hK9 _ _ (Met.intro (hJ9 _ _ ?_))
          (repeat apply Exists.intro)
          exact ⟨hdn.out, rfl⟩
      · rw [if_pos (by rfl)]
        refine wp_bslice0 27 rfl _ (run_slice_none V1) ?_
        obtain ⟨V2, hV2⟩ : ∃ z, z = V1.alloc (.cells #[] 23) := ⟨_, rfl⟩
        have M2 := Lib.hid (M1.out.lit2)
        rw [← hV2] at M2 ⊢
        clear hV2
        refine hK.out _ _ (HQ.out _ M2.out.grow) (fun hHeld => ?_)
        clear hK K
        simp only [Act.put, List.getElem_toArray, List.getElem_cons_succ, List.getElem_cons_zero, List.setIfInBounds_toArray, List.set_cons_zero, List.set_cons_succ]
        refine wpAnyH_ready (rs := [2]) (by kernel_rfl) (by simp) ?_
        refine AllReadyH.cons (o := _) rfl (fun K hK => ?_) AllReadyH.nil
        rw [if_pos (by rfl)]
        refine wp_bslice0 27 rfl _ (run_slice_none V2) ?_
        obtain ⟨V3, hV3⟩ : ∃ z, z = V2.alloc (.cells #[] 23) := ⟨_, rfl⟩
        have M3 := Lib.hid (M2.out.lit1)
        rw [← hV3] at M3 ⊢
        clear hV3
        refine hK.out _ _ (HQ.out _ M3.out.grow) (fun hHeld => ?_)
        clear hK K
        simp only [Act.put, List.getElem_toArray, List.getElem_cons_succ, List.getElem_cons_zero, List.setIfInBounds_toArray, List.set_cons_zero, List.set_cons_succ]
        refine wpAnyH_ready (rs := [5]) (by kernel_rfl) (by simp) ?_
        refine AllReadyH.cons (o := _) rfl (fun K hK => ?_) AllReadyH.nil
        rw [if_pos (by rfl)]
        have ho3 : V3.ownsRow w6.heap.size 23 16 (.slice (some ⟨V2.heap.size, 0, none⟩) 0 0) 0 [] := by
          obtain ⟨_, _, _, _, h⟩ := M3.out.one.1 rfl
          exact h
        refine wp_copy_digs _ _ rfl w6.heap.size (.slice (some ⟨V2.heap.size, 0, none⟩) 0 0) rfl ho3 b 0 68 68 rfl (sigsS seed I d) (sigsS_length seed I d) (by omega) (by omega) (sigsS_dig seed I d) (H6.out.2.1.chains.grown M3.out.grow) M3.out.grow.size ?_
        intro g1 c1 V4 hb3 hc3 ht3 hd3 hg3 ha3
        have M4 := Lib.hid (M3.out.app1 (by omega) (sigsS_dig seed I d) (sigsS_length seed I d) hb3 hc3 ht3 hd3 hg3 ha3)
        clear ho3 hb3 hc3 ht3 hd3 hg3 ha3
        refine hK.out _ _ (HQ.out _ M4.out.grow) (fun hHeld => ?_)
        clear hK K
        simp only [Act.put, List.getElem_toArray, List.getElem_cons_succ, List.getElem_cons_zero, List.setIfInBounds_toArray, List.set_cons_zero, List.set_cons_succ]
        refine wpAnyH_ready (rs := [9]) (by kernel_rfl) (by simp) ?_
        refine AllReadyH.cons (o := _) rfl (fun K hK => ?_) AllReadyH.nil
        rw [if_pos (by rfl)]
        have ho4 : V4.ownsRow w6.heap.size 23 16 (.slice (some ⟨V1.heap.size, 0, none⟩) 0 0) 0 [] := by
          obtain ⟨_, _, _, _, h⟩ := M4.out.two.1 rfl
          exact h
        refine wp_copy_digs _ _ rfl w6.heap.size (.slice (some ⟨V1.heap.size, 0, none⟩) 0 0) rfl ho4 p 0 5 pc rfl (upto (wayC (leavesC seed) i) 5) (upto_length _ _) (by omega) (by omega) (way_dig (leavesC_dig seed) (fun k => k) i 5) (H6.out.2.1.path.grown M4.out.grow) M4.out.grow.size ?_
        intro g2 c2 V5 hb4 hc4 ht4 hd4 hg4 ha4
        have M5 := Lib.hid (M4.out.app2 (by omega) (way_dig (leavesC_dig seed) (fun k => k) i 5) (upto_length _ _) hb4 hc4 ht4 hd4 hg4 ha4)
        clear ho4 hb4 hc4 ht4 hd4 hg4 ha4
        refine hK.out _ _ (HQ.out _ M5.out.grow) (fun hHeld => ?_)
        clear hK K
        simp only [Act.put, List.getElem_toArray, List.getElem_cons_succ, List.getElem_cons_zero, List.setIfInBounds_toArray, List.set_cons_zero, List.set_cons_succ]
        refine wpAnyH_ready (rs := [10]) (by kernel_rfl) (by simp) ?_
        refine AllReadyH.cons (o := _) rfl (fun K hK => ?_) AllReadyH.nil
        rw [if_pos (by rfl)]
        obtain ⟨SS, hSS⟩ : ∃ SS, SS = (sigV I (.slice (some ⟨g1, 0, none⟩) 68 c1) (.slice (some ⟨g2, 0, none⟩) 5 c2)) := ⟨_, rfl⟩
        refine wp_build3_run 30 _ _ _ rfl (.int .i64 I) (.slice (some ⟨g1, 0, none⟩) 68 c1) (.slice (some ⟨g2, 0, none⟩) 5 c2) (.agg SS) rfl rfl rfl (by rw [hSS]; exact build_sig _ _ _ _ _ _ _ _) ?_
        refine hK.out _ _ (HQ.out _ M5.out.grow) (fun hHeld => ?_)
        clear hK K
        simp only [Act.put, List.getElem_toArray, List.getElem_cons_succ, List.getElem_cons_zero, List.setIfInBounds_toArray, List.set_cons_zero, List.set_cons_succ]
        refine wpAnyH_ready (rs := [12]) (by kernel_rfl) (by simp) ?_
        refine AllReadyH.cons (o := _) rfl (fun K hK => ?_) AllReadyH.nil
        rw [if_pos (by rfl)]
        have hbx := (M5.out.box rfl).1
        have hdn := M5.out.done (sigV I)
        have hsz : SS.size = 3 := by rw [hSS]; rfl
        rw [← hSS] at hdn
        have hdn := Lib.hid hdn
        refine wp_store_row _ _ _ rfl (V0.heap.size) SS rfl rfl 30 _ hbx (by rw [hsz]; exact info3) (by rw [hsz]; rfl) (by rw [hSS]; exact sigV_one _ _ _ _ _ _ _) ?_
        have hS : (V5.setRow (V0.heap.size) SS).cell? ⟨qb, 0, none⟩ = some (.int .i64 I) ∧ (V5.setRow (V0.heap.size) SS).cell? ⟨qb, 1, none⟩ = some (.slice (some ⟨b, 0, none⟩) 68 68) ∧ (V5.setRow (V0.heap.size) SS).cell? ⟨qb, 2, none⟩ = some (.slice (some ⟨p, 0, none⟩) 5 pc) := by
          obtain ⟨_, _, _, _, _, _, _, _, _, _, _, hgr, _⟩ := hdn.out
          exact HQ.out _ hgr
        refine hK.out _ _ hS (fun _ => ?_)
        simp only [Act.put, List.getElem_toArray, List.getElem_cons_succ, List.getElem_cons_zero, List.setIfInBounds_toArray, List.set_cons_zero, List.set_cons_succ]
        refine wpAnyH_done (by kernel_rfl) ?_ _
        refine hK9 _ _ (Met.intro (hJ9 _ _ ?_))
        (repeat apply Exists.intro)
        exact ⟨hdn.out, rfl⟩
  case rest =>
    obtain ⟨qt, g1, c1, g2, c2, rfl, kB, kD1, kT1, kD2, kT2, kG, kq, k1, k2, n12, n13, n23⟩ := hcut
    have HC := Lib.hid (show Blk wc qt 30 (sigV I (.slice (some ⟨g1, 0, none⟩) 68 c1) (.slice (some ⟨g2, 0, none⟩) 5 c2)) ∧ DigsAt wc g1 0 (sigsS seed I d) ∧ wc.there g1 0 (68 * 16) ∧ DigsAt wc g2 0 (upto (wayC (leavesC seed) i) 5) ∧ wc.there g2 0 (5 * 16) ∧ w6.grownBy wc none from ⟨kB, kD1, kT1, kD2, kT2, kG⟩)
    have HN := Lib.hid (show w6.heap.size ≤ qt ∧ w6.heap.size ≤ g1 ∧ w6.heap.size ≤ g2 ∧ g1 ≠ g2 ∧ g1 ≠ qt ∧ g2 ≠ qt from ⟨kq, k1, k2, n12, n13, n23⟩)
    have HL := Lib.hid (show w.heap.size ≠ g1 ∧ w.heap.size ≠ g2 from by
      have h : w.heap.size < w6.heap.size := World.block_lt_of_cell? w6 _ H6.out.2.2.1.2.2.1
      omega)
    clear kB kD1 kT1 kD2 kT2 kG kq k1 k2 n12 n13 n23
    have c35 := (H6.out.2.2.1.grown HC.out.2.2.2.2.2).2.2.2.2.2
    go_upto_if 38 with fail
    clear c35
    go_cut [] (fun wx => Spoiled w6 wx (sigsS seed I d) (upto (wayC (leavesC seed) i) 5) bv qt g1 g2 (sigV I (.slice (some ⟨g1, 0, none⟩) 68 c1) (.slice (some ⟨g2, 0, none⟩) 5 c2)))
    case first =>
      rename_i J9 K9 hJ9 hK9
      cases way
      · skip
        obtain ⟨hj0, hj1⟩ := u64_rem at' 68 (by omega)
        obtain ⟨j, hj⟩ : ∃ j : Nat, (j : Int) = IntKind.i64.wrap ((IntKind.u64.wrap at').tmod 68) := ⟨(IntKind.i64.wrap ((IntKind.u64.wrap at').tmod 68)).toNat, by omega⟩
        rw [← hj] at hj0 hj1
        have hjn : j < 68 := by omega
        have hu9 := hj.symm
        clear hj
        obtain ⟨y, hy⟩ : ∃ y, y = ((sigsS seed I d).getD j zeroC).getD 0 0 := ⟨_, rfl⟩
        have hxu : wc.cell? ⟨g1, j * 16, none⟩ = some (.int .u8 y) := by rw [hy]; exact digs_byte (sigsS_dig seed I d) HC.out.2.1 (by rw [sigsS_length seed I d]; exact hjn)
        have HY := Lib.hid hy
        clear hy
        have hfu : wc.frozen? ⟨g1, j * 16, none⟩ = false := by have h := (HC.out.2.2.1 (j * 16) (by omega)).2; rwa [Nat.zero_add] at h
        have hcu : wc.cell? ⟨qt, 1, none⟩ = some (.slice (some ⟨g1, 0, none⟩) 68 c1) := HC.out.1.cell 1
        have h33 : wc.cell? ⟨w.heap.size, 33, none⟩ = some (.int .i64 at') := (H6.out.2.2.1.grown HC.out.2.2.2.2.2).2.2.2.1
        have h34 : wc.cell? ⟨w.heap.size, 34, none⟩ = some (.int .u8 bv) := (H6.out.2.2.1.grown HC.out.2.2.2.2.2).2.2.2.2.1
        go_wp2_with fail
        refine wp_region_held_drew (S := fun V => V.cell? ⟨qt, 1, none⟩ = some (.slice (some ⟨g1, 0, none⟩) 68 c1) ∧ V.cell? ⟨w.heap.size, 33, none⟩ = some (.int .i64 at') ∧ V.cell? ⟨w.heap.size, 34, none⟩ = some (.int .u8 bv)) (by kernel_rfl) (by rw [World.cell?_drew, World.cell?_drew, World.cell?_drew]; exact ⟨hcu, h33, h34⟩) (fun hHeld => ?_)
        refine wpAnyH_take (i := 0) (oi := _) (v := ?v0x) rfl (by kernel_rfl) (by kernel_rfl) (by kernel_rfl) (fun _ _ _ h => h) (Or.inl ⟨by rfl, ?hy0x⟩) (by assumption) ?rest0x
        case hy0x => (intro V hSw; (try dsimp only at hSw); go_simp) <;> with_reducible rfl
        simp only [Act.put, List.getElem_toArray, List.getElem_cons_zero, List.setIfInBounds_toArray, List.set_cons_zero, List.set_cons_succ]
        refine wpAnyH_take (i := 1) (oi := _) (v := ?v1x) rfl (by kernel_rfl) (by kernel_rfl) (by kernel_rfl) (fun _ _ _ h => h) (Or.inl ⟨by rfl, ?hy1x⟩) (by assumption) ?rest1x
        case hy1x => (intro V hSw; (try dsimp only at hSw); go_simp) <;> with_reducible rfl
        simp only [Act.put, List.getElem_toArray, List.getElem_cons_succ, List.getElem_cons_zero, List.setIfInBounds_toArray, List.set_cons_zero, List.set_cons_succ]
        refine wpAnyH_take (i := 2) (oi := _) (v := ?v2x) rfl (by kernel_rfl) (by kernel_rfl) (by kernel_rfl) (fun _ _ _ h => h) (Or.inl ⟨by rfl, ?hy2x⟩) (by assumption) ?rest2x
        case hy2x => (intro V hSw; (try dsimp only at hSw); go_simp) <;> with_reducible rfl
        simp only [Act.put, List.getElem_toArray, List.getElem_cons_succ, List.getElem_cons_zero, List.setIfInBounds_toArray, List.set_cons_zero, List.set_cons_succ]
        refine wpAnyH_take (i := 3) (oi := _) (v := ?v3x) rfl (by kernel_rfl) (by kernel_rfl) (by kernel_rfl) (fun _ _ _ h => h) (Or.inl ⟨by rfl, ?hy3x⟩) (by assumption) ?rest3x
        case hy3x => (intro V hSw; (try dsimp only at hSw); go_simp) <;> with_reducible rfl
        simp only [Act.put, List.getElem_toArray, List.getElem_cons_succ, List.getElem_cons_zero, List.setIfInBounds_toArray, List.set_cons_zero, List.set_cons_succ]
        refine wpAnyH_take (i := 4) (oi := _) (v := ?v4x) rfl (by kernel_rfl) (by kernel_rfl) (by kernel_rfl) (fun _ _ _ h => h) (Or.inl ⟨by rfl, ?hy4x⟩) (by assumption) ?rest4x
        case hy4x => (intro V hSw; (try dsimp only at hSw); go_simp) <;> with_reducible rfl
        simp only [Act.put, List.getElem_toArray, List.getElem_cons_succ, List.getElem_cons_zero, List.setIfInBounds_toArray, List.set_cons_zero, List.set_cons_succ]
        refine wpAnyH_take (i := 5) (oi := _) (v := ?v5x) rfl (by kernel_rfl) (by kernel_rfl) (by kernel_rfl) (fun _ _ _ h => h) (Or.inl ⟨by rfl, ?hy5x⟩) (by assumption) ?rest5x
        case hy5x => (intro V hSw; (try dsimp only at hSw); go_simp) <;> with_reducible rfl
        simp only [Act.put, List.getElem_toArray, List.getElem_cons_succ, List.getElem_cons_zero, List.setIfInBounds_toArray, List.set_cons_zero, List.set_cons_succ]
        refine wpAnyH_take (i := 6) (oi := _) (v := ?v6x) rfl (by kernel_rfl) (by kernel_rfl) (by kernel_rfl) (fun _ _ _ h => h) (Or.inl ⟨by rfl, ?hy6x⟩) (by assumption) ?rest6x
        case hy6x => (intro V hSw; (try dsimp only at hSw); go_simp) <;> with_reducible rfl
        simp only [Act.put, List.getElem_toArray, List.getElem_cons_succ, List.getElem_cons_zero, List.setIfInBounds_toArray, List.set_cons_zero, List.set_cons_succ]
        refine wpAnyH_take (i := 7) (oi := _) (v := ?v7x) rfl (by kernel_rfl) (by kernel_rfl) (by kernel_rfl) (fun _ _ _ h => h) (Or.inl ⟨by rfl, ?hy7x⟩) (by assumption) ?rest7x
        case hy7x => (intro V hSw; (try dsimp only at hSw); go_simp) <;> with_reducible rfl
        simp only [Act.put, List.getElem_toArray, List.getElem_cons_succ, List.getElem_cons_zero, List.setIfInBounds_toArray, List.set_cons_zero, List.set_cons_succ]
        refine wpAnyH_take (i := 8) (oi := _) (v := ?v8x) rfl (by kernel_rfl) (by kernel_rfl) (by kernel_rfl) (fun _ _ _ h => h) (Or.inl ⟨by rfl, ?hy8x⟩) (by assumption) ?rest8x
        case hy8x => (intro V hSw; (try dsimp only at hSw); go_simp) <;> with_reducible rfl
        simp only [Act.put, List.getElem_toArray, List.getElem_cons_succ, List.getElem_cons_zero, List.setIfInBounds_toArray, List.set_cons_zero, List.set_cons_succ]
        refine wpAnyH_take (i := 10) (oi := _) (v := ?v10x) rfl (by kernel_rfl) (by kernel_rfl) (by kernel_rfl) (fun _ _ _ h => h) (Or.inl ⟨by rfl, ?hy10x⟩) (by assumption) ?rest10x
        case hy10x => (intro V hSw; (try dsimp only at hSw); go_simp) <;> with_reducible rfl
        simp only [Act.put, List.getElem_toArray, List.getElem_cons_succ, List.getElem_cons_zero, List.setIfInBounds_toArray, List.set_cons_zero, List.set_cons_succ]
        refine wpAnyH_take (i := 11) (oi := _) (v := ?v11x) rfl (by kernel_rfl) (by kernel_rfl) (by kernel_rfl) (fun _ _ _ h => h) (Or.inl ⟨by rfl, ?hy11x⟩) (by assumption) ?rest11x
        case hy11x => (intro V hSw; (try dsimp only at hSw); go_simp) <;> with_reducible rfl
        simp only [Act.put, List.getElem_toArray, List.getElem_cons_succ, List.getElem_cons_zero, List.setIfInBounds_toArray, List.set_cons_zero, List.set_cons_succ]
        refine wpAnyH_take (i := 13) (oi := _) (v := ?v13x) rfl (by kernel_rfl) (by kernel_rfl) (by kernel_rfl) (fun _ _ _ h => h) (Or.inl ⟨by rfl, ?hy13x⟩) (by assumption) ?rest13x
        case hy13x => (intro V hSw; (try dsimp only at hSw); go_simp) <;> with_reducible rfl
        simp only [Act.put, List.getElem_toArray, List.getElem_cons_succ, List.getElem_cons_zero, List.setIfInBounds_toArray, List.set_cons_zero, List.set_cons_succ]
        refine wpAnyH_ready (rs := [9]) (by kernel_rfl) (by simp) ?_
        refine AllReadyH.cons (o := _) rfl (fun K hK => ?_) AllReadyH.nil
        go_simp
        refine hK.out _ _ (hHeld) (fun hHeld => ?_)
        clear hK K
        try simp only [Act.put, List.getElem_toArray, List.getElem_cons_succ, List.getElem_cons_zero, List.setIfInBounds_toArray, List.set_cons_zero, List.set_cons_succ]
        refine wpAnyH_take (i := 12) (oi := _) (v := ?v12x) rfl (by kernel_rfl) (by kernel_rfl) (by kernel_rfl) (fun _ _ _ h => h) (Or.inl ⟨by rfl, ?hy12x⟩) (by assumption) ?rest12x
        case hy12x => (intro V hSw; (try dsimp only at hSw); go_simp) <;> with_reducible rfl
        simp only [Act.put, List.getElem_toArray, List.getElem_cons_succ, List.getElem_cons_zero, List.setIfInBounds_toArray, List.set_cons_zero, List.set_cons_succ]
        refine wpAnyH_take (i := 14) (oi := _) (v := ?v14x) rfl (by kernel_rfl) (by kernel_rfl) (by kernel_rfl) (fun _ _ _ h => h) (Or.inl ⟨by rfl, ?hy14x⟩) (by assumption) ?rest14x
        case hy14x => (intro V hSw; (try dsimp only at hSw); go_simp) <;> with_reducible rfl
        simp only [Act.put, List.getElem_toArray, List.getElem_cons_succ, List.getElem_cons_zero, List.setIfInBounds_toArray, List.set_cons_zero, List.set_cons_succ]
        refine wpAnyH_ready (rs := [15]) (by kernel_rfl) (by simp) ?_
        refine AllReadyH.cons (o := _) rfl (fun K hK => ?_) AllReadyH.nil
        go_simp
        have hgu : wc.grownBy ((wc.setCell ⟨g1, j * 16, none⟩ (.int .u8 (bits .xor .u8 y bv))).drew) (some g1) := grown_drew (grown_setCells g1 [.int .u8 (bits .xor .u8 y bv)] (j * 16) wc (World.grownBy.refl wc (some g1)))
        refine hK.out _ _ ⟨hgu.cell hcu (fun e => HN.out.2.2.2.2.1 (Option.some.inj e).symm), hgu.cell h33 (fun e => HL.out.1 (Option.some.inj e)), hgu.cell h34 (fun e => HL.out.1 (Option.some.inj e))⟩ (fun _ => ?_)
        try simp only [Act.put, List.getElem_toArray, List.getElem_cons_succ, List.getElem_cons_zero, List.setIfInBounds_toArray, List.set_cons_zero, List.set_cons_succ]
        refine wpAnyH_done (by kernel_rfl) ?_ _
        refine hK9 _ _ (Met.intro (hJ9 _ _ ?_))
        (repeat apply Exists.intro)
        exact ⟨Spoiled.chains HBV.out (sigsS_length seed I d) (upto_length _ _) (sigsS_dig seed I d) (way_dig (leavesC_dig seed) (fun k => k) i 5) hjn HC.out.1 HC.out.2.1 HC.out.2.2.1 HC.out.2.2.2.1 HC.out.2.2.2.2.2 HN.out.2.1 HN.out.2.2.2.1 HN.out.2.2.2.2.1 (by rw [← HY.out]), rfl⟩
      · skip
        obtain ⟨hj0, hj1⟩ := u64_rem at' 5 (by omega)
        obtain ⟨j, hj⟩ : ∃ j : Nat, (j : Int) = IntKind.i64.wrap ((IntKind.u64.wrap at').tmod 5) := ⟨(IntKind.i64.wrap ((IntKind.u64.wrap at').tmod 5)).toNat, by omega⟩
        rw [← hj] at hj0 hj1
        have hjn : j < 5 := by omega
        have hu9 := hj.symm
        clear hj
        obtain ⟨y, hy⟩ : ∃ y, y = ((upto (wayC (leavesC seed) i) 5).getD j zeroC).getD 0 0 := ⟨_, rfl⟩
        have hxu : wc.cell? ⟨g2, j * 16, none⟩ = some (.int .u8 y) := by rw [hy]; exact digs_byte (way_dig (leavesC_dig seed) (fun k => k) i 5) HC.out.2.2.2.1 (by rw [upto_length _ _]; exact hjn)
        have HY := Lib.hid hy
        clear hy
        have hfu : wc.frozen? ⟨g2, j * 16, none⟩ = false := by have h := (HC.out.2.2.2.2.1 (j * 16) (by omega)).2; rwa [Nat.zero_add] at h
        have hcu : wc.cell? ⟨qt, 2, none⟩ = some (.slice (some ⟨g2, 0, none⟩) 5 c2) := HC.out.1.cell 2
        have h33 : wc.cell? ⟨w.heap.size, 33, none⟩ = some (.int .i64 at') := (H6.out.2.2.1.grown HC.out.2.2.2.2.2).2.2.2.1
        have h34 : wc.cell? ⟨w.heap.size, 34, none⟩ = some (.int .u8 bv) := (H6.out.2.2.1.grown HC.out.2.2.2.2.2).2.2.2.2.1
        go_wp2_with fail
        refine wp_region_held_drew (S := fun V => V.cell? ⟨qt, 2, none⟩ = some (.slice (some ⟨g2, 0, none⟩) 5 c2) ∧ V.cell? ⟨w.heap.size, 33, none⟩ = some (.int .i64 at') ∧ V.cell? ⟨w.heap.size, 34, none⟩ = some (.int .u8 bv)) (by kernel_rfl) (by rw [World.cell?_drew, World.cell?_drew, World.cell?_drew]; exact ⟨hcu, h33, h34⟩) (fun hHeld => ?_)
        refine wpAnyH_take (i := 0) (oi := _) (v := ?v0w) rfl (by kernel_rfl) (by kernel_rfl) (by kernel_rfl) (fun _ _ _ h => h) (Or.inl ⟨by rfl, ?hy0w⟩) (by assumption) ?rest0w
        case hy0w => (intro V hSw; (try dsimp only at hSw); go_simp) <;> with_reducible rfl
        simp only [Act.put, List.getElem_toArray, List.getElem_cons_zero, List.setIfInBounds_toArray, List.set_cons_zero, List.set_cons_succ]
        refine wpAnyH_take (i := 1) (oi := _) (v := ?v1w) rfl (by kernel_rfl) (by kernel_rfl) (by kernel_rfl) (fun _ _ _ h => h) (Or.inl ⟨by rfl, ?hy1w⟩) (by assumption) ?rest1w
        case hy1w => (intro V hSw; (try dsimp only at hSw); go_simp) <;> with_reducible rfl
        simp only [Act.put, List.getElem_toArray, List.getElem_cons_succ, List.getElem_cons_zero, List.setIfInBounds_toArray, List.set_cons_zero, List.set_cons_succ]
        refine wpAnyH_take (i := 2) (oi := _) (v := ?v2w) rfl (by kernel_rfl) (by kernel_rfl) (by kernel_rfl) (fun _ _ _ h => h) (Or.inl ⟨by rfl, ?hy2w⟩) (by assumption) ?rest2w
        case hy2w => (intro V hSw; (try dsimp only at hSw); go_simp) <;> with_reducible rfl
        simp only [Act.put, List.getElem_toArray, List.getElem_cons_succ, List.getElem_cons_zero, List.setIfInBounds_toArray, List.set_cons_zero, List.set_cons_succ]
        refine wpAnyH_take (i := 3) (oi := _) (v := ?v3w) rfl (by kernel_rfl) (by kernel_rfl) (by kernel_rfl) (fun _ _ _ h => h) (Or.inl ⟨by rfl, ?hy3w⟩) (by assumption) ?rest3w
        case hy3w => (intro V hSw; (try dsimp only at hSw); go_simp) <;> with_reducible rfl
        simp only [Act.put, List.getElem_toArray, List.getElem_cons_succ, List.getElem_cons_zero, List.setIfInBounds_toArray, List.set_cons_zero, List.set_cons_succ]
        refine wpAnyH_take (i := 4) (oi := _) (v := ?v4w) rfl (by kernel_rfl) (by kernel_rfl) (by kernel_rfl) (fun _ _ _ h => h) (Or.inl ⟨by rfl, ?hy4w⟩) (by assumption) ?rest4w
        case hy4w => (intro V hSw; (try dsimp only at hSw); go_simp) <;> with_reducible rfl
        simp only [Act.put, List.getElem_toArray, List.getElem_cons_succ, List.getElem_cons_zero, List.setIfInBounds_toArray, List.set_cons_zero, List.set_cons_succ]
        refine wpAnyH_take (i := 5) (oi := _) (v := ?v5w) rfl (by kernel_rfl) (by kernel_rfl) (by kernel_rfl) (fun _ _ _ h => h) (Or.inl ⟨by rfl, ?hy5w⟩) (by assumption) ?rest5w
        case hy5w => (intro V hSw; (try dsimp only at hSw); go_simp) <;> with_reducible rfl
        simp only [Act.put, List.getElem_toArray, List.getElem_cons_succ, List.getElem_cons_zero, List.setIfInBounds_toArray, List.set_cons_zero, List.set_cons_succ]
        refine wpAnyH_take (i := 6) (oi := _) (v := ?v6w) rfl (by kernel_rfl) (by kernel_rfl) (by kernel_rfl) (fun _ _ _ h => h) (Or.inl ⟨by rfl, ?hy6w⟩) (by assumption) ?rest6w
        case hy6w => (intro V hSw; (try dsimp only at hSw); go_simp) <;> with_reducible rfl
        simp only [Act.put, List.getElem_toArray, List.getElem_cons_succ, List.getElem_cons_zero, List.setIfInBounds_toArray, List.set_cons_zero, List.set_cons_succ]
        refine wpAnyH_take (i := 7) (oi := _) (v := ?v7w) rfl (by kernel_rfl) (by kernel_rfl) (by kernel_rfl) (fun _ _ _ h => h) (Or.inl ⟨by rfl, ?hy7w⟩) (by assumption) ?rest7w
        case hy7w => (intro V hSw; (try dsimp only at hSw); go_simp) <;> with_reducible rfl
        simp only [Act.put, List.getElem_toArray, List.getElem_cons_succ, List.getElem_cons_zero, List.setIfInBounds_toArray, List.set_cons_zero, List.set_cons_succ]
        refine wpAnyH_take (i := 8) (oi := _) (v := ?v8w) rfl (by kernel_rfl) (by kernel_rfl) (by kernel_rfl) (fun _ _ _ h => h) (Or.inl ⟨by rfl, ?hy8w⟩) (by assumption) ?rest8w
        case hy8w => (intro V hSw; (try dsimp only at hSw); go_simp) <;> with_reducible rfl
        simp only [Act.put, List.getElem_toArray, List.getElem_cons_succ, List.getElem_cons_zero, List.setIfInBounds_toArray, List.set_cons_zero, List.set_cons_succ]
        refine wpAnyH_take (i := 10) (oi := _) (v := ?v10w) rfl (by kernel_rfl) (by kernel_rfl) (by kernel_rfl) (fun _ _ _ h => h) (Or.inl ⟨by rfl, ?hy10w⟩) (by assumption) ?rest10w
        case hy10w => (intro V hSw; (try dsimp only at hSw); go_simp) <;> with_reducible rfl
        simp only [Act.put, List.getElem_toArray, List.getElem_cons_succ, List.getElem_cons_zero, List.setIfInBounds_toArray, List.set_cons_zero, List.set_cons_succ]
        refine wpAnyH_take (i := 11) (oi := _) (v := ?v11w) rfl (by kernel_rfl) (by kernel_rfl) (by kernel_rfl) (fun _ _ _ h => h) (Or.inl ⟨by rfl, ?hy11w⟩) (by assumption) ?rest11w
        case hy11w => (intro V hSw; (try dsimp only at hSw); go_simp) <;> with_reducible rfl
        simp only [Act.put, List.getElem_toArray, List.getElem_cons_succ, List.getElem_cons_zero, List.setIfInBounds_toArray, List.set_cons_zero, List.set_cons_succ]
        refine wpAnyH_take (i := 13) (oi := _) (v := ?v13w) rfl (by kernel_rfl) (by kernel_rfl) (by kernel_rfl) (fun _ _ _ h => h) (Or.inl ⟨by rfl, ?hy13w⟩) (by assumption) ?rest13w
        case hy13w => (intro V hSw; (try dsimp only at hSw); go_simp) <;> with_reducible rfl
        simp only [Act.put, List.getElem_toArray, List.getElem_cons_succ, List.getElem_cons_zero, List.setIfInBounds_toArray, List.set_cons_zero, List.set_cons_succ]
        refine wpAnyH_ready (rs := [9]) (by kernel_rfl) (by simp) ?_
        refine AllReadyH.cons (o := _) rfl (fun K hK => ?_) AllReadyH.nil
        go_simp
        refine hK.out _ _ (hHeld) (fun hHeld => ?_)
        clear hK K
        try simp only [Act.put, List.getElem_toArray, List.getElem_cons_succ, List.getElem_cons_zero, List.setIfInBounds_toArray, List.set_cons_zero, List.set_cons_succ]
        refine wpAnyH_take (i := 12) (oi := _) (v := ?v12w) rfl (by kernel_rfl) (by kernel_rfl) (by kernel_rfl) (fun _ _ _ h => h) (Or.inl ⟨by rfl, ?hy12w⟩) (by assumption) ?rest12w
        case hy12w => (intro V hSw; (try dsimp only at hSw); go_simp) <;> with_reducible rfl
        simp only [Act.put, List.getElem_toArray, List.getElem_cons_succ, List.getElem_cons_zero, List.setIfInBounds_toArray, List.set_cons_zero, List.set_cons_succ]
        refine wpAnyH_take (i := 14) (oi := _) (v := ?v14w) rfl (by kernel_rfl) (by kernel_rfl) (by kernel_rfl) (fun _ _ _ h => h) (Or.inl ⟨by rfl, ?hy14w⟩) (by assumption) ?rest14w
        case hy14w => (intro V hSw; (try dsimp only at hSw); go_simp) <;> with_reducible rfl
        simp only [Act.put, List.getElem_toArray, List.getElem_cons_succ, List.getElem_cons_zero, List.setIfInBounds_toArray, List.set_cons_zero, List.set_cons_succ]
        refine wpAnyH_ready (rs := [15]) (by kernel_rfl) (by simp) ?_
        refine AllReadyH.cons (o := _) rfl (fun K hK => ?_) AllReadyH.nil
        go_simp
        have hgu : wc.grownBy ((wc.setCell ⟨g2, j * 16, none⟩ (.int .u8 (bits .xor .u8 y bv))).drew) (some g2) := grown_drew (grown_setCells g2 [.int .u8 (bits .xor .u8 y bv)] (j * 16) wc (World.grownBy.refl wc (some g2)))
        refine hK.out _ _ ⟨hgu.cell hcu (fun e => HN.out.2.2.2.2.2 (Option.some.inj e).symm), hgu.cell h33 (fun e => HL.out.2 (Option.some.inj e)), hgu.cell h34 (fun e => HL.out.2 (Option.some.inj e))⟩ (fun _ => ?_)
        try simp only [Act.put, List.getElem_toArray, List.getElem_cons_succ, List.getElem_cons_zero, List.setIfInBounds_toArray, List.set_cons_zero, List.set_cons_succ]
        refine wpAnyH_done (by kernel_rfl) ?_ _
        refine hK9 _ _ (Met.intro (hJ9 _ _ ?_))
        (repeat apply Exists.intro)
        exact ⟨Spoiled.way HBV.out (sigsS_length seed I d) (upto_length _ _) (sigsS_dig seed I d) (way_dig (leavesC_dig seed) (fun k => k) i 5) hjn HC.out.1 HC.out.2.1 HC.out.2.2.2.1 HC.out.2.2.2.2.1 HC.out.2.2.2.2.2 HN.out.2.2.1 HN.out.2.2.2.1 HN.out.2.2.2.2.2 (by rw [← HY.out]), rfl⟩
    case rest =>
      obtain ⟨cs2, ps2, q1, q2, q3, q4, q5, q6, q7, q8, q9⟩ := hcut
      have HD := Lib.hid (show Blk wc qb 30 (sigV I (.slice (some ⟨b, 0, none⟩) 68 68) (.slice (some ⟨p, 0, none⟩) 5 pc)) ∧ Blk wc qt 30 (sigV I (.slice (some ⟨g1, 0, none⟩) 68 c1) (.slice (some ⟨g2, 0, none⟩) 5 c2)) ∧ DigsAt wc b 0 (sigsS seed I d) ∧ DigsAt wc p 0 (upto (wayC (leavesC seed) i) 5) ∧ DigsAt wc g1 0 cs2 ∧ DigsAt wc g2 0 ps2 ∧ SpAt wc w.heap.size sd dd lf at' bv way ∧ KeyAt wc kb sd (.slice (some ⟨g, 0, none⟩) 32 cap) (arrV .u8 (rootC seed)) ∧ w.grownBy wc none from ⟨H6.out.1.grown q8 (by simp), q9, H6.out.2.1.chains.grown q8, H6.out.2.1.path.grown q8, q5, q6, H6.out.2.2.1.grown q8, H6.out.2.2.2.1.grown q8, grown_trans H6.out.2.2.2.2 q8⟩)
      have HQ2 := Lib.hid (And.intro q1 (And.intro q2 (And.intro q3 q4)))
      clear q1 q2 q3 q4 q5 q6 q8 q9
      go_wp2_with fail
      have V1 := Lib.hid (show ∀ z : Gr wc, Sem.run Tryd.prog (Instr.loadAt 30 (.pointer (some ⟨qb, 0, none⟩))) z.1 = .ok (.agg (sigV I (.slice (some ⟨b, 0, none⟩) 68 68) (.slice (some ⟨p, 0, none⟩) 5 pc))) z.1 from fun z => sig_row _ _ rfl z.1 (HD.out.1.grown z.2 (by simp)))
      have V2 := Lib.hid (show ∀ z : Gr wc, Sem.run Tryd.prog (Instr.loadAt 30 (.pointer (some ⟨qt, 0, none⟩))) z.1 = .ok (.agg (sigV I (.slice (some ⟨g1, 0, none⟩) 68 c1) (.slice (some ⟨g2, 0, none⟩) 5 c2))) z.1 from fun z => sig_row _ _ rfl z.1 (HD.out.2.1.grown z.2 (by simp)))
      have T1 := Lib.hid (show ∀ z : Gr wc, ∀ r, r = decide (bv = 0) → Calls Tryd.prog 20 #[.agg (sigV I (.slice (some ⟨b, 0, none⟩) 68 68) (.slice (some ⟨p, 0, none⟩) 5 pc)), .agg (sigV I (.slice (some ⟨g1, 0, none⟩) 68 c1) (.slice (some ⟨g2, 0, none⟩) 5 c2))] z.1 fun e w' => e = .returned (.bool r) ∧ z.1.grownBy w' none from fun z r hr => any_same z.1 I b p 68 pc g1 c1 g2 c2 (sigsS seed I d) (upto (wayC (leavesC seed) i) 5) cs2 ps2 (sigsS_length seed I d) HQ2.out.1 (upto_length _ _) HQ2.out.2.2.1 (sigsS_dig seed I d) HQ2.out.2.1 (way_dig (leavesC_dig seed) (fun k => k) i 5) HQ2.out.2.2.2 (HD.out.2.2.1.grown z.2) (HD.out.2.2.2.2.1.grown z.2) (HD.out.2.2.2.1.grown z.2) (HD.out.2.2.2.2.2.1.grown z.2) r (by rw [hr, ← q7]))
      have T2 := Lib.hid (show ∀ z : Gr wc, ∀ r, r = decide (bv = 0) → Calls Tryd.prog 20 #[.agg (sigV I (.slice (some ⟨g1, 0, none⟩) 68 c1) (.slice (some ⟨g2, 0, none⟩) 5 c2)), .agg (sigV I (.slice (some ⟨b, 0, none⟩) 68 68) (.slice (some ⟨p, 0, none⟩) 5 pc))] z.1 fun e w' => e = .returned (.bool r) ∧ z.1.grownBy w' none from fun z r hr => any_same z.1 I g1 g2 c1 c2 b 68 p pc cs2 ps2 (sigsS seed I d) (upto (wayC (leavesC seed) i) 5) HQ2.out.1 (sigsS_length seed I d) HQ2.out.2.2.1 (upto_length _ _) HQ2.out.2.1 (sigsS_dig seed I d) HQ2.out.2.2.2 (way_dig (leavesC_dig seed) (fun k => k) i 5) (HD.out.2.2.2.2.1.grown z.2) (HD.out.2.2.1.grown z.2) (HD.out.2.2.2.2.2.1.grown z.2) (HD.out.2.2.2.1.grown z.2) r (by rw [hr, ← q7, show decide (cs2 = (sigsS seed I d)) = decide ((sigsS seed I d) = cs2) from by rw [decide_eq_decide, eq_comm], show decide (ps2 = (upto (wayC (leavesC seed) i) 5)) = decide ((upto (wayC (leavesC seed) i) 5) = ps2) from by rw [decide_eq_decide, eq_comm]]))
      have HA2 := Lib.hid (show bv = 0 → anyB seed d I cs2 ps2 = true from fun h => by
        rw [h] at q7
        have q : (sigsS seed I d) = cs2 ∧ (upto (wayC (leavesC seed) i) 5) = ps2 := by simpa using q7
        rw [← q.1, ← q.2]
        exact anyB_own seed d i HIX.out.1 I HIX.out.2.1)
      clear q7
      have g34 := Gr.cell (show wc.cell? ⟨w.heap.size, 34, none⟩ = some (.int .u8 bv) from HD.out.2.2.2.2.2.2.1.2.2.2.2.1)
      obtain ⟨av, hav⟩ : ∃ av, av = anyB seed d I cs2 ps2 := ⟨_, rfl⟩
      have HV := Lib.hid hav
      rw [← hav] at HA2
      clear hav
      by_cases hb0 : bv = 0
      · subst hb0
        have hav : av = true := HA2.out rfl
        subst hav
        have U1 := Lib.hid (fun z : Gr wc => T1.out z true (by simp))
        have U2 := Lib.hid (fun z : Gr wc => T2.out z true (by simp))
        refine wp_region_grown (by kernel_rfl) (by kernel_rfl) ?_
        repeat (first
          | go_big_quiet_skip
          | (refine wpQuiet_load_row 30 _ ⟨qb, 0, none⟩ (.agg (sigV I (.slice (some ⟨b, 0, none⟩) 68 68) (.slice (some ⟨p, 0, none⟩) 5 pc))) (by rfl) rfl rfl (by rintro _ ⟨z, rfl⟩; exact V1.out z) ?_; simp only [Act.put, List.setIfInBounds_toArray, List.set_cons_zero, List.set_cons_succ])
          | (refine wpQuiet_load_row 30 _ ⟨qt, 0, none⟩ (.agg (sigV I (.slice (some ⟨g1, 0, none⟩) 68 c1) (.slice (some ⟨g2, 0, none⟩) 5 c2))) (by rfl) rfl rfl (by rintro _ ⟨z, rfl⟩; exact V2.out z) ?_; simp only [Act.put, List.setIfInBounds_toArray, List.set_cons_zero, List.set_cons_succ])
          | go_big_quiet_step (first
          | (go_at_call 20; with_reducible exact Calls.grown _ (U1.out _))
          | (go_at_call 20; with_reducible exact Calls.grown _ (U2.out _))))
        refine wpQuiet_nil ?_
        rintro w7 ⟨⟨_, k7⟩, rfl⟩
        clear g34
        go_wp2_with fail
        have H7 := Lib.hid (show Blk w7 qt 30 (sigV I (.slice (some ⟨g1, 0, none⟩) 68 c1) (.slice (some ⟨g2, 0, none⟩) 5 c2)) ∧ DigsAt w7 g1 0 cs2 ∧ DigsAt w7 g2 0 ps2 ∧ SpAt w7 w.heap.size sd dd lf at' 0 way ∧ KeyAt w7 kb sd (.slice (some ⟨g, 0, none⟩) 32 cap) (arrV .u8 (rootC seed)) ∧ w.grownBy w7 none from ⟨HD.out.2.1.grown k7 (by simp), HD.out.2.2.2.2.1.grown k7, HD.out.2.2.2.2.2.1.grown k7, HD.out.2.2.2.2.2.2.1.grown k7, HD.out.2.2.2.2.2.2.2.1.grown k7, grown_trans HD.out.2.2.2.2.2.2.2.2 k7⟩)
        clear k7
        have W1 := Lib.hid (show ∀ z : Gr w7, Sem.run Tryd.prog (Instr.loadAt 30 (.pointer (some ⟨qt, 0, none⟩))) z.1 = .ok (.agg (sigV I (.slice (some ⟨g1, 0, none⟩) 68 c1) (.slice (some ⟨g2, 0, none⟩) 5 c2))) z.1 from fun z => sig_row _ _ rfl z.1 (H7.out.1.grown z.2 (by simp)))
        have W2 := Lib.hid (show ∀ z : Gr w7, Sem.run Tryd.prog (Instr.loadAt 23 (.pointer (some ⟨w.heap.size, 16, none⟩))) z.1 = .ok (.agg dd) z.1 from fun z => by
          have h := run_loadAt_mid (P := Tryd.prog) z.1 w.heap.size 16 23 dl _ (SPF2.out z.1 _ (H7.out.2.2.2.1.grown z.2)) Tryd.underlying23 rfl HI.out.2.1
          rwa [HI.out.2.2.2] at h)
        have X1 := Lib.hid (show ∀ z : Gr w7, Calls Tryd.prog 12 #[.pointer (some ⟨kb, 0, none⟩)] z.1 fun e w' => e = .returned (.agg rt) ∧ z.1.grownBy w' none from fun z => SK.out z.1 kb g cap (H7.out.2.2.2.2.1.grown z.2))
        have X2 := Lib.hid (show ∀ z : Gr w7, Calls Tryd.prog 18 #[.agg rt, .agg dd, .agg (sigV I (.slice (some ⟨g1, 0, none⟩) 68 c1) (.slice (some ⟨g2, 0, none⟩) 5 c2))] z.1 fun e w' => e = .returned (.bool true) ∧ z.1.grownBy w' none from fun z => by
          rw [HV.out]; exact SV.out z.1 (grown_trans H7.out.2.2.2.2.2 z.2) I HIX.out.2.2 g1 g2 c1 c2 cs2 ps2 HQ2.out.1 HQ2.out.2.1 HQ2.out.2.2.1 HQ2.out.2.2.2 (H7.out.2.1.grown z.2) (H7.out.2.2.1.grown z.2))
        have X3 := Lib.hid (show ∀ z : Gr w7, Calls Tryd.prog 19 #[.agg rt, .agg dd, .agg (sigV I (.slice (some ⟨g1, 0, none⟩) 68 c1) (.slice (some ⟨g2, 0, none⟩) 5 c2))] z.1 fun e w' => e = .returned (.bool true) ∧ z.1.grownBy w' none from fun z => by
          rw [HV.out]; exact SR.out z.1 I HIX.out.2.2 g1 g2 c1 c2 cs2 ps2 HQ2.out.1 HQ2.out.2.1 HQ2.out.2.2.1 HQ2.out.2.2.2 (H7.out.2.1.grown z.2) (H7.out.2.2.1.grown z.2))
        have g34 := Gr.cell (show w7.cell? ⟨w.heap.size, 34, none⟩ = some (.int .u8 0) from H7.out.2.2.2.1.2.2.2.2.1)
        refine wp_region_grown (by kernel_rfl) (by kernel_rfl) ?_
        repeat (first
          | go_big_quiet_skip
          | (refine wpQuiet_load_row 23 _ ⟨w.heap.size, 16, none⟩ (.agg dd) (by rfl) rfl rfl (by rintro _ ⟨z, rfl⟩; exact W2.out z) ?_; simp only [Act.put, List.setIfInBounds_toArray, List.set_cons_zero, List.set_cons_succ])
          | (refine wpQuiet_load_row 30 _ ⟨qt, 0, none⟩ (.agg (sigV I (.slice (some ⟨g1, 0, none⟩) 68 c1) (.slice (some ⟨g2, 0, none⟩) 5 c2))) (by rfl) rfl rfl (by rintro _ ⟨z, rfl⟩; exact W1.out z) ?_; simp only [Act.put, List.setIfInBounds_toArray, List.set_cons_zero, List.set_cons_succ])
          | go_big_quiet_step (first
          | (go_at_call 12; with_reducible exact Calls.grown _ (X1.out _))
          | (go_at_call 18; with_reducible exact Calls.grown _ (X2.out _))
          | (go_at_call 19; with_reducible exact Calls.grown _ (X3.out _))))
        refine wpQuiet_nil ?_
        rintro w8 ⟨⟨_, k8⟩, rfl⟩
        go_wp2_with fail
        go_ret
        exact ⟨rfl, grown_trans H7.out.2.2.2.2.2 k8⟩
      · have hbf : (bv == 0) = false := by simpa using hb0
        cases av
        · skip
          have U1 := Lib.hid (fun z : Gr wc => T1.out z false (by simp [hb0]))
          have U2 := Lib.hid (fun z : Gr wc => T2.out z false (by simp [hb0]))
          refine wp_region_grown (by kernel_rfl) (by kernel_rfl) ?_
          repeat (first
            | go_big_quiet_skip
            | (refine wpQuiet_load_row 30 _ ⟨qb, 0, none⟩ (.agg (sigV I (.slice (some ⟨b, 0, none⟩) 68 68) (.slice (some ⟨p, 0, none⟩) 5 pc))) (by rfl) rfl rfl (by rintro _ ⟨z, rfl⟩; exact V1.out z) ?_; simp only [Act.put, List.setIfInBounds_toArray, List.set_cons_zero, List.set_cons_succ])
            | (refine wpQuiet_load_row 30 _ ⟨qt, 0, none⟩ (.agg (sigV I (.slice (some ⟨g1, 0, none⟩) 68 c1) (.slice (some ⟨g2, 0, none⟩) 5 c2))) (by rfl) rfl rfl (by rintro _ ⟨z, rfl⟩; exact V2.out z) ?_; simp only [Act.put, List.setIfInBounds_toArray, List.set_cons_zero, List.set_cons_succ])
            | go_big_quiet_step (first
            | (go_at_call 20; with_reducible exact Calls.grown _ (U1.out _))
            | (go_at_call 20; with_reducible exact Calls.grown _ (U2.out _))))
          refine wpQuiet_nil ?_
          rintro w7 ⟨⟨_, k7⟩, rfl⟩
          clear g34
          go_wp2_with fail
          have H7 := Lib.hid (show Blk w7 qt 30 (sigV I (.slice (some ⟨g1, 0, none⟩) 68 c1) (.slice (some ⟨g2, 0, none⟩) 5 c2)) ∧ DigsAt w7 g1 0 cs2 ∧ DigsAt w7 g2 0 ps2 ∧ SpAt w7 w.heap.size sd dd lf at' bv way ∧ KeyAt w7 kb sd (.slice (some ⟨g, 0, none⟩) 32 cap) (arrV .u8 (rootC seed)) ∧ w.grownBy w7 none from ⟨HD.out.2.1.grown k7 (by simp), HD.out.2.2.2.2.1.grown k7, HD.out.2.2.2.2.2.1.grown k7, HD.out.2.2.2.2.2.2.1.grown k7, HD.out.2.2.2.2.2.2.2.1.grown k7, grown_trans HD.out.2.2.2.2.2.2.2.2 k7⟩)
          clear k7
          have W1 := Lib.hid (show ∀ z : Gr w7, Sem.run Tryd.prog (Instr.loadAt 30 (.pointer (some ⟨qt, 0, none⟩))) z.1 = .ok (.agg (sigV I (.slice (some ⟨g1, 0, none⟩) 68 c1) (.slice (some ⟨g2, 0, none⟩) 5 c2))) z.1 from fun z => sig_row _ _ rfl z.1 (H7.out.1.grown z.2 (by simp)))
          have W2 := Lib.hid (show ∀ z : Gr w7, Sem.run Tryd.prog (Instr.loadAt 23 (.pointer (some ⟨w.heap.size, 16, none⟩))) z.1 = .ok (.agg dd) z.1 from fun z => by
            have h := run_loadAt_mid (P := Tryd.prog) z.1 w.heap.size 16 23 dl _ (SPF2.out z.1 _ (H7.out.2.2.2.1.grown z.2)) Tryd.underlying23 rfl HI.out.2.1
            rwa [HI.out.2.2.2] at h)
          have X1 := Lib.hid (show ∀ z : Gr w7, Calls Tryd.prog 12 #[.pointer (some ⟨kb, 0, none⟩)] z.1 fun e w' => e = .returned (.agg rt) ∧ z.1.grownBy w' none from fun z => SK.out z.1 kb g cap (H7.out.2.2.2.2.1.grown z.2))
          have X2 := Lib.hid (show ∀ z : Gr w7, Calls Tryd.prog 18 #[.agg rt, .agg dd, .agg (sigV I (.slice (some ⟨g1, 0, none⟩) 68 c1) (.slice (some ⟨g2, 0, none⟩) 5 c2))] z.1 fun e w' => e = .returned (.bool false) ∧ z.1.grownBy w' none from fun z => by
            rw [HV.out]; exact SV.out z.1 (grown_trans H7.out.2.2.2.2.2 z.2) I HIX.out.2.2 g1 g2 c1 c2 cs2 ps2 HQ2.out.1 HQ2.out.2.1 HQ2.out.2.2.1 HQ2.out.2.2.2 (H7.out.2.1.grown z.2) (H7.out.2.2.1.grown z.2))
          have X3 := Lib.hid (show ∀ z : Gr w7, Calls Tryd.prog 19 #[.agg rt, .agg dd, .agg (sigV I (.slice (some ⟨g1, 0, none⟩) 68 c1) (.slice (some ⟨g2, 0, none⟩) 5 c2))] z.1 fun e w' => e = .returned (.bool false) ∧ z.1.grownBy w' none from fun z => by
            rw [HV.out]; exact SR.out z.1 I HIX.out.2.2 g1 g2 c1 c2 cs2 ps2 HQ2.out.1 HQ2.out.2.1 HQ2.out.2.2.1 HQ2.out.2.2.2 (H7.out.2.1.grown z.2) (H7.out.2.2.1.grown z.2))
          have g34 := Gr.cell (show w7.cell? ⟨w.heap.size, 34, none⟩ = some (.int .u8 bv) from H7.out.2.2.2.1.2.2.2.2.1)
          refine wp_region_grown (by kernel_rfl) (by kernel_rfl) ?_
          repeat (first
            | go_big_quiet_skip
            | (refine wpQuiet_load_row 23 _ ⟨w.heap.size, 16, none⟩ (.agg dd) (by rfl) rfl rfl (by rintro _ ⟨z, rfl⟩; exact W2.out z) ?_; simp only [Act.put, List.setIfInBounds_toArray, List.set_cons_zero, List.set_cons_succ])
            | (refine wpQuiet_load_row 30 _ ⟨qt, 0, none⟩ (.agg (sigV I (.slice (some ⟨g1, 0, none⟩) 68 c1) (.slice (some ⟨g2, 0, none⟩) 5 c2))) (by rfl) rfl rfl (by rintro _ ⟨z, rfl⟩; exact W1.out z) ?_; simp only [Act.put, List.setIfInBounds_toArray, List.set_cons_zero, List.set_cons_succ])
            | go_big_quiet_step (first
            | (go_at_call 12; with_reducible exact Calls.grown _ (X1.out _))
            | (go_at_call 18; with_reducible exact Calls.grown _ (X2.out _))
            | (go_at_call 19; with_reducible exact Calls.grown _ (X3.out _))))
          refine wpQuiet_nil ?_
          rintro w8 ⟨⟨_, k8⟩, rfl⟩
          go_wp2_with fail
          go_ret
          exact ⟨rfl, grown_trans H7.out.2.2.2.2.2 k8⟩
        · skip
          have U1 := Lib.hid (fun z : Gr wc => T1.out z false (by simp [hb0]))
          have U2 := Lib.hid (fun z : Gr wc => T2.out z false (by simp [hb0]))
          refine wp_region_grown (by kernel_rfl) (by kernel_rfl) ?_
          repeat (first
            | go_big_quiet_skip
            | (refine wpQuiet_load_row 30 _ ⟨qb, 0, none⟩ (.agg (sigV I (.slice (some ⟨b, 0, none⟩) 68 68) (.slice (some ⟨p, 0, none⟩) 5 pc))) (by rfl) rfl rfl (by rintro _ ⟨z, rfl⟩; exact V1.out z) ?_; simp only [Act.put, List.setIfInBounds_toArray, List.set_cons_zero, List.set_cons_succ])
            | (refine wpQuiet_load_row 30 _ ⟨qt, 0, none⟩ (.agg (sigV I (.slice (some ⟨g1, 0, none⟩) 68 c1) (.slice (some ⟨g2, 0, none⟩) 5 c2))) (by rfl) rfl rfl (by rintro _ ⟨z, rfl⟩; exact V2.out z) ?_; simp only [Act.put, List.setIfInBounds_toArray, List.set_cons_zero, List.set_cons_succ])
            | go_big_quiet_step (first
            | (go_at_call 20; with_reducible exact Calls.grown _ (U1.out _))
            | (go_at_call 20; with_reducible exact Calls.grown _ (U2.out _))))
          refine wpQuiet_nil ?_
          rintro w7 ⟨⟨_, k7⟩, rfl⟩
          clear g34
          go_wp2_with fail
          have H7 := Lib.hid (show Blk w7 qt 30 (sigV I (.slice (some ⟨g1, 0, none⟩) 68 c1) (.slice (some ⟨g2, 0, none⟩) 5 c2)) ∧ DigsAt w7 g1 0 cs2 ∧ DigsAt w7 g2 0 ps2 ∧ SpAt w7 w.heap.size sd dd lf at' bv way ∧ KeyAt w7 kb sd (.slice (some ⟨g, 0, none⟩) 32 cap) (arrV .u8 (rootC seed)) ∧ w.grownBy w7 none from ⟨HD.out.2.1.grown k7 (by simp), HD.out.2.2.2.2.1.grown k7, HD.out.2.2.2.2.2.1.grown k7, HD.out.2.2.2.2.2.2.1.grown k7, HD.out.2.2.2.2.2.2.2.1.grown k7, grown_trans HD.out.2.2.2.2.2.2.2.2 k7⟩)
          clear k7
          have W1 := Lib.hid (show ∀ z : Gr w7, Sem.run Tryd.prog (Instr.loadAt 30 (.pointer (some ⟨qt, 0, none⟩))) z.1 = .ok (.agg (sigV I (.slice (some ⟨g1, 0, none⟩) 68 c1) (.slice (some ⟨g2, 0, none⟩) 5 c2))) z.1 from fun z => sig_row _ _ rfl z.1 (H7.out.1.grown z.2 (by simp)))
          have W2 := Lib.hid (show ∀ z : Gr w7, Sem.run Tryd.prog (Instr.loadAt 23 (.pointer (some ⟨w.heap.size, 16, none⟩))) z.1 = .ok (.agg dd) z.1 from fun z => by
            have h := run_loadAt_mid (P := Tryd.prog) z.1 w.heap.size 16 23 dl _ (SPF2.out z.1 _ (H7.out.2.2.2.1.grown z.2)) Tryd.underlying23 rfl HI.out.2.1
            rwa [HI.out.2.2.2] at h)
          have X1 := Lib.hid (show ∀ z : Gr w7, Calls Tryd.prog 12 #[.pointer (some ⟨kb, 0, none⟩)] z.1 fun e w' => e = .returned (.agg rt) ∧ z.1.grownBy w' none from fun z => SK.out z.1 kb g cap (H7.out.2.2.2.2.1.grown z.2))
          have X2 := Lib.hid (show ∀ z : Gr w7, Calls Tryd.prog 18 #[.agg rt, .agg dd, .agg (sigV I (.slice (some ⟨g1, 0, none⟩) 68 c1) (.slice (some ⟨g2, 0, none⟩) 5 c2))] z.1 fun e w' => e = .returned (.bool true) ∧ z.1.grownBy w' none from fun z => by
            rw [HV.out]; exact SV.out z.1 (grown_trans H7.out.2.2.2.2.2 z.2) I HIX.out.2.2 g1 g2 c1 c2 cs2 ps2 HQ2.out.1 HQ2.out.2.1 HQ2.out.2.2.1 HQ2.out.2.2.2 (H7.out.2.1.grown z.2) (H7.out.2.2.1.grown z.2))
          have X3 := Lib.hid (show ∀ z : Gr w7, Calls Tryd.prog 19 #[.agg rt, .agg dd, .agg (sigV I (.slice (some ⟨g1, 0, none⟩) 68 c1) (.slice (some ⟨g2, 0, none⟩) 5 c2))] z.1 fun e w' => e = .returned (.bool true) ∧ z.1.grownBy w' none from fun z => by
            rw [HV.out]; exact SR.out z.1 I HIX.out.2.2 g1 g2 c1 c2 cs2 ps2 HQ2.out.1 HQ2.out.2.1 HQ2.out.2.2.1 HQ2.out.2.2.2 (H7.out.2.1.grown z.2) (H7.out.2.2.1.grown z.2))
          have g34 := Gr.cell (show w7.cell? ⟨w.heap.size, 34, none⟩ = some (.int .u8 bv) from H7.out.2.2.2.1.2.2.2.2.1)
          refine wp_region_grown (by kernel_rfl) (by kernel_rfl) ?_
          repeat (first
            | go_big_quiet_skip
            | (refine wpQuiet_load_row 23 _ ⟨w.heap.size, 16, none⟩ (.agg dd) (by rfl) rfl rfl (by rintro _ ⟨z, rfl⟩; exact W2.out z) ?_; simp only [Act.put, List.setIfInBounds_toArray, List.set_cons_zero, List.set_cons_succ])
            | (refine wpQuiet_load_row 30 _ ⟨qt, 0, none⟩ (.agg (sigV I (.slice (some ⟨g1, 0, none⟩) 68 c1) (.slice (some ⟨g2, 0, none⟩) 5 c2))) (by rfl) rfl rfl (by rintro _ ⟨z, rfl⟩; exact W1.out z) ?_; simp only [Act.put, List.setIfInBounds_toArray, List.set_cons_zero, List.set_cons_succ])
            | go_big_quiet_step (first
            | (go_at_call 12; with_reducible exact Calls.grown _ (X1.out _))
            | (go_at_call 18; with_reducible exact Calls.grown _ (X2.out _))
            | (go_at_call 19; with_reducible exact Calls.grown _ (X3.out _))))
          refine wpQuiet_nil ?_
          rintro w8 ⟨⟨_, k8⟩, rfl⟩
          go_wp2_with fail
          go_ret
          exact ⟨rfl, grown_trans H7.out.2.2.2.2.2 k8⟩
end Go.Proofs.YtpldegdcachlmaaDoor
