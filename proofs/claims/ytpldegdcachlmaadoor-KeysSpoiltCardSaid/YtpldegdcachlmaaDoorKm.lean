/-
  KeysMany, walked.
-/
import Derived.Test.YtpldegdcachlmaaDoorKap
import Derived.Test.YtpldegdcachlmaaDoorKy
import Derived.Test.YtpldegdcachlmaaDoorArgI
namespace Go.Proofs.YtpldegdcachlmaaDoor
open Go.RowKit

/-- Whether a signature is right by another leaf's number. -/
def otherB (seed d : List Int) (I : Int) (i : Nat) (J : Int) : Bool := decide (climbC (recC J (sigsS seed I d) d) J (upto (wayC (leavesC seed) i) 5) 5 = rootC seed)
theorem other_v (w : World) (hR : Rounds w) (seed d : List Int) (hd : isDig d) (dd : Array Value) (hdd : dd = arrV .u8 d) (i : Nat) (I J : Int) (hJ : 0 ≤ J ∧ J < 32) (b p c1 c2 : Nat) (hS : SigAt w seed I i d b p) (rt : Array Value) (hrt : rt = arrV .u8 (rootC seed)) :
    Calls Tryd.prog 18 #[.agg rt, .agg dd, .agg (sigV J (.slice (some ⟨b, 0, none⟩) 68 c1) (.slice (some ⟨p, 0, none⟩) 5 c2))] w fun e w' => e = .returned (.bool (otherB seed d I i J)) ∧ w.grownBy w' none := by
  obtain ⟨xs, hxs⟩ : ∃ xs, xs = arrV .u8 (recC J (sigsS seed I d) d) := ⟨_, rfl⟩
  have hxd : isDig (recC J (sigsS seed I d) d) := by rw [recC]; exact pubC_dig _ _
  obtain ⟨ts, hts⟩ : ∃ ts, ts = arrV .u8 (climbC (recC J (sigsS seed I d) d) J (upto (wayC (leavesC seed) i) 5) 5) := ⟨_, rfl⟩
  have htd := climbC_dig hxd J (upto (wayC (leavesC seed) i) 5) 5
  exact verify_c w rt dd (by rw [hrt, arr_size]; exact (rootC_dig _).1) (by rw [hdd, arr_size, hd.1]) J _ _ 68 c1 5 c2 xs ts (by rw [hxs, arr_size, hxd.1]) (by rw [hxs]; exact arr_one _ _) (by rw [hts, arr_size, htd.1]) (by rw [hts]; exact arr_one _ _) _
    (fun V => by rw [hts, hrt, otherB]; exact eqD V _ _ htd.1 (rootC_dig _).1)
    (fun z hz => by rw [hdd]; exact recover_ok z (hR.grown hz (by simp)) J hJ b 0 c1 _ (sigsS_length _ _ _) (sigsS_dig _ _ _) (hS.chains.grown hz) d hd xs hxs)
    (fun z hz => climb_ok z (hR.grown hz (by simp)) _ hxd J hJ p 0 c2 _ (upto_length _ _) (way_dig (leavesC_dig _) (fun k => k) i 5) (hS.path.grown hz) xs ts hxs hts)
theorem other_r (w : World) (seed d : List Int) (hd : isDig d) (dd : Array Value) (hdd : dd = arrV .u8 d) (i : Nat) (I J : Int) (hJ : 0 ≤ J ∧ J < 32) (b p c1 c2 : Nat) (hS : SigAt w seed I i d b p) (rt : Array Value) (hrt : rt = arrV .u8 (rootC seed)) :
    Calls Tryd.prog 19 #[.agg rt, .agg dd, .agg (sigV J (.slice (some ⟨b, 0, none⟩) 68 c1) (.slice (some ⟨p, 0, none⟩) 5 c2))] w fun e w' => e = .returned (.bool (otherB seed d I i J)) ∧ w.grownBy w' none := by
  obtain ⟨xs, hxs⟩ : ∃ xs, xs = arrV .u8 (recC J (sigsS seed I d) d) := ⟨_, rfl⟩
  have hxd : isDig (recC J (sigsS seed I d) d) := by rw [recC]; exact pubC_dig _ _
  obtain ⟨ts, hts⟩ : ∃ ts, ts = arrV .u8 (climbC (recC J (sigsS seed I d) d) J (upto (wayC (leavesC seed) i) 5) 5) := ⟨_, rfl⟩
  have htd := climbC_dig hxd J (upto (wayC (leavesC seed) i) 5) 5
  exact right_ok w rt dd (by rw [hrt, arr_size]; exact (rootC_dig _).1) (by rw [hdd, arr_size, hd.1]) J hJ _ _ c1 c2 xs ts _
    (fun V => by rw [hts, hrt, otherB]; exact eqD V _ _ htd.1 (rootC_dig _).1)
    (fun z hz => by rw [hdd]; exact rrecover_is z J b 0 c1 _ (sigsS_length _ _ _) (sigsS_dig _ _ _) (hS.chains.grown hz) d hd xs hxs)
    (fun z hz => rclimb_is z _ hxd J hJ p 0 c2 _ (upto_length _ _) (way_dig (leavesC_dig _) (fun k => k) i 5) (hS.path.grown hz) xs ts hxs hts)
theorem ksigs_ne (w : World) (seed d : List Int) (I J : Int) (hne : I ≠ J) (i b p c1 c2 : Nat) (hS : SigAt w seed I i d b p) :
    Calls Tryd.prog 20 #[.agg (sigV I (.slice (some ⟨b, 0, none⟩) 68 c1) (.slice (some ⟨p, 0, none⟩) 5 c2)), .agg (sigV J (.slice (some ⟨b, 0, none⟩) 68 c1) (.slice (some ⟨p, 0, none⟩) 5 c2))] w fun e w' => e = .returned (.bool false) ∧ w.grownBy w' none := by
  have h := ksame_is w I J (some ⟨b, 0, none⟩) (some ⟨p, 0, none⟩) (some ⟨b, 0, none⟩) (some ⟨p, 0, none⟩) 68 c1 5 c2 68 c1 5 c2 true true
    (fun z hz => eqs_same z b 0 c1 b 0 c1 68 _ _ (sigsS_length _ _ _) (sigsS_length _ _ _) (by omega) (sigsS_dig _ _ _) (sigsS_dig _ _ _) (hS.chains.grown hz) (hS.chains.grown hz) true (by simp))
    (fun z hz => eqs_same z p 0 c2 p 0 c2 5 _ _ (upto_length _ _) (upto_length _ _) (by omega) (way_dig (leavesC_dig _) (fun k => k) i 5) (way_dig (leavesC_dig _) (fun k => k) i 5) (hS.path.grown hz) (hS.path.grown hz) true (by simp))
  simpa [hne] using h

set_option maxRecDepth 100000 in
set_option maxHeartbeats 4000000 in
theorem many_long (w : World) (hR : Rounds w) (B : Nat) (E : Nat → Addr) (he : ErrEnv w B E) (sd dd : Array Value) (A : Option Addr) (n c : Nat) (hn : 12 < n) :
    Calls Tryd.prog 6 #[.agg sd, .agg dd, .slice A n c] w fun e w' => e = .returned (.bool true) ∧ w.grownBy w' none := by
  have hz30 := sigz_run
  have HA := Lib.hid (fun (z : World) (hz : w.grownBy z none) => keys_alive z (hR.grown hz (by simp)) B E (he.grown hz (by simp)))
  have d1 : 12 < (n : Int) := by omega
  obtain ⟨w1, hw1⟩ : ∃ w1, w1 = (w.alloc (.cells sd 23)).alloc (.cells dd 23) := ⟨_, rfl⟩
  have H1 := Lib.hid (show Blk w1 w.heap.size 23 sd ∧ Blk w1 (w.heap.size + 1) 23 dd ∧ w.grownBy w1 none from by
    rw [hw1]
    have b2 := Blk.new (w.alloc (.cells sd 23)) 23 dd
    rw [World.size_alloc] at b2
    exact ⟨(Blk.new w 23 sd).alloc _, b2, grown_trans (World.grownBy_alloc w _ none) (World.grownBy_alloc _ _ none)⟩)
  have HW1 := Lib.hid hw1
  clear hw1 hR he hn
  go_enter Tryd.func6, Tryd.ntmps6
  go_wp2_with fail
  rw [← HW1.out]
  refine (HA.out w1 H1.out.2.2).mono ?_
  rintro e w2 ⟨rfl, hk2⟩
  have HK2 := Lib.hid (grown_trans H1.out.2.2 hk2)
  clear hk2
  go_wp2_with fail
  go_ret
  exact ⟨rfl, HK2.out⟩
set_option maxRecDepth 100000 in
set_option maxHeartbeats 8000000 in
theorem many_main (w : World) (hR : Rounds w) (B : Nat) (E : Nat → Addr) (he : ErrEnv w B E) (seed : List Int) (hs : isDig seed) (d : List Int) (hd : isDig d) (sd dd : Array Value) (hsd : sd = arrV .u8 seed) (hdd : dd = arrV .u8 d) (bl ol n c : Nat) (hn : n ≤ 12) (l : List Int) (hl : l.length = n) (hcl : ∀ j (hj : j < l.length), w.cell? ⟨bl, ol + j, none⟩ = some (.int .i64 l[j])) :
    Calls Tryd.prog 6 #[.agg sd, .agg dd, .slice (some ⟨bl, ol, none⟩) n c] w fun e w' => e = .returned (.bool true) ∧ w.grownBy w' none := by
  have hz30 := sigz_run
  have HA := Lib.hid (fun (z : World) (hz : w.grownBy z none) => keys_alive z (hR.grown hz (by simp)) B E (he.grown hz (by simp)))
  have K1 := Lib.hid (fun (z : World) (hz : w.grownBy z none) => new_is z (hR.grown hz (by simp)) seed hs sd hsd)
  obtain ⟨rt, hrt⟩ : ∃ rt, rt = arrV .u8 (rootC seed) := ⟨_, rfl⟩
  have SK := Lib.hid (fun (z : World) kb g cap (hK : KeyAt z kb sd (.slice (some ⟨g, 0, none⟩) 32 cap) (arrV .u8 (rootC seed))) => kroot_is z kb sd rt _ (by rw [hrt]; exact hK) (by rw [hrt, arr_size]; exact (rootC_dig _).1) (by rw [hrt]; exact arr_one _ _))
  have SG := Lib.hid (fun (z : World) (hz : w.grownBy z none) kb g cap hK hD i hi (I : Int) (hI : I = ((i : Nat) : Int)) => ksign_is z (hR.grown hz (by simp)) kb g cap seed hs sd (arrV .u8 (rootC seed)) hsd hK hD i hi I hI d hd dd hdd)
  have SV := Lib.hid (fun (z : World) (hz : w.grownBy z none) i hi (I : Int) hI b p c1 c2 hS => verify_own z (hR.grown hz (by simp)) seed d hd dd hdd i hi I hI b p c1 c2 hS rt hrt)
  have SO := Lib.hid (fun (z : World) (hz : w.grownBy z none) i (I J : Int) hJ b p c1 c2 hS => other_v z (hR.grown hz (by simp)) seed d hd dd hdd i I J hJ b p c1 c2 hS rt hrt)
  have SR := Lib.hid (fun (z : World) i (I J : Int) hJ b p c1 c2 hS => other_r z seed d hd dd hdd i I J hJ b p c1 c2 hS rt hrt)
  have HS := Lib.hid (show sd.size = 16 ∧ dd.size = 16 from ⟨by rw [hsd, arr_size, hs.1], by rw [hdd, arr_size, hd.1]⟩)
  have d12 : ¬ 12 < (n : Int) := by omega
  have HN := Lib.hid (And.intro hn (And.intro hl hcl))
  obtain ⟨w1, hw1⟩ : ∃ w1, w1 = (w.alloc (.cells sd 23)).alloc (.cells dd 23) := ⟨_, rfl⟩
  have H1 := Lib.hid (show Blk w1 w.heap.size 23 sd ∧ Blk w1 (w.heap.size + 1) 23 dd ∧ w.grownBy w1 none from by
    rw [hw1]
    have b2 := Blk.new (w.alloc (.cells sd 23)) 23 dd
    rw [World.size_alloc] at b2
    exact ⟨(Blk.new w 23 sd).alloc _, b2, grown_trans (World.grownBy_alloc w _ none) (World.grownBy_alloc _ _ none)⟩)
  have HW1 := Lib.hid hw1
  clear hw1 hR he hs hd hsd hdd hrt hn hl hcl
  go_enter Tryd.func6, Tryd.ntmps6
  go_wp2_with fail
  rw [← HW1.out]
  refine (HA.out w1 H1.out.2.2).mono ?_
  rintro e w2 ⟨rfl, hk2⟩
  have H2 := Lib.hid (show Blk w2 w.heap.size 23 sd ∧ Blk w2 (w.heap.size + 1) 23 dd ∧ w.grownBy w2 none from ⟨H1.out.1.grown hk2 (by simp), H1.out.2.1.grown hk2 (by simp), grown_trans H1.out.2.2 hk2⟩)
  clear hk2
  go_wp2_with (refine wpList_load_row rfl 23 _ rfl w.heap.size rfl 23 sd (0, 0) _ H2.out.1 Tryd.underlying23 rfl (by rw [HS.out.1]; exact info16) ?_)
  refine (K1.out w2 H2.out.2.2).mono ?_
  rintro e w3 ⟨kb, g, cap, rfl, _, _, _, hK, hDg, _, hk3⟩
  have H3 := Lib.hid (show Blk w3 (w.heap.size + 1) 23 dd ∧ w.grownBy w3 none ∧ KeyAt w3 kb sd (.slice (some ⟨g, 0, none⟩) 32 cap) (arrV .u8 (rootC seed)) ∧ DigsAt w3 g 0 (leavesC seed) from ⟨H2.out.2.1.grown hk3 (by simp), grown_trans H2.out.2.2 hk3, hK, hDg⟩)
  clear hk3 hK hDg
  go_wp2_with fail
  go_loopw [22] (fun v wr => ∃ k : Nat, k ≤ n ∧ v = .int .i64 (k : Int) ∧ w3.grownBy wr none) (fun v _ => n - (intOf v).toNat)
  case atStart => exact ⟨0, by omega, rfl, World.grownBy.refl w3 none⟩
  case round =>
    obtain ⟨k, hk, hv, hG⟩ := hrel
    obtain ⟨V, hV⟩ : ∃ V : Int, V = (k : Int) := ⟨_, rfl⟩
    rw [← hV] at hv
    subst hv
    by_cases hlt : k < n
    · have dlt : decide (V < (n : Int)) = true := by simp; omega
      have hV0 : 0 ≤ V ∧ V < (n : Int) := by omega
      have hV12 : V ≤ 12 := by have := HN.out.1; omega
      obtain ⟨x, hx⟩ : ∃ x, x = l[k]'(by rw [HN.out.2.1]; exact hlt) := ⟨_, rfl⟩
      have kc : wr.cell? ⟨bl, ol + V.toNat, none⟩ = some (.int .i64 x) := by
        rw [hV, Int.toNat_natCast, hx]
        exact hG.cell (H3.out.2.1.cell (HN.out.2.2 k _) (by simp)) (by simp)
      obtain ⟨i, hi⟩ : ∃ i : Nat, (i : Int) = x % 32 := ⟨(x % 32).toNat, by omega⟩
      obtain ⟨hu, hu2⟩ := u64_rem32 x
      have hi32 : i < 32 := by omega
      obtain ⟨I, hI⟩ : ∃ I : Int, I = x % 32 := ⟨_, rfl⟩
      rw [← hI] at hu hu2
      have hIi : I = (i : Int) := by omega
      obtain ⟨J, hJ⟩ : ∃ J : Int, J = (I + 1) % 32 := ⟨_, rfl⟩
      have hJ1 : (I + 1).tmod 32 = J := by rw [hJ, Int.tmod_eq_emod_of_nonneg (by omega)]
      have hJ2 : (I + 1) % 32 = J := hJ.symm
      have hIJ : I ≠ J := by omega
      have hJb : 0 ≤ J ∧ J < 32 := by omega
      have hII : ¬ I ≠ I := by simp
      have HX := Lib.hid (And.intro hi32 (And.intro hIi (And.intro hIJ hJb)))
      have hIb : 0 ≤ I ∧ I < 32 := by omega
      have hw1' : wrap64 (I + 1) = I + 1 := w64 _ (by omega)
      have HK := Lib.hid (And.intro hV (And.intro hlt (And.intro hG (grown_trans H3.out.2.1 hG))))
      have HB0 := Lib.hid (H3.out.1.grown hG (by simp))
      clear hV hlt hG hx hi hI hi32 hIi hJ hIJ hJb hk
      go_wp2_with (refine wpList_load_row rfl 23 _ rfl (w.heap.size + 1) rfl 23 dd (0, 0) _ HB0.out Tryd.underlying23 rfl (by rw [HS.out.2]; exact info16) ?_)
      refine (SG.out wr HK.out.2.2.2 kb g cap (H3.out.2.2.1.grown HK.out.2.2.1) (H3.out.2.2.2.grown HK.out.2.2.1) i HX.out.1 I HX.out.2.1).mono ?_
      rintro e w5 ⟨b, p, pc, rfl, _, _, _, hSg, hk5⟩
      have H5 := Lib.hid (And.intro hk5 hSg)
      clear hk5 hSg
      go_wp2_with (refine wpList_store_row rfl 30 _ _ rfl w5.heap.size (sigV I (.slice (some ⟨b, 0, none⟩) 68 68) (.slice (some ⟨p, 0, none⟩) 5 pc)) rfl rfl 30 _ (heap_alloc_new w5 _) (by rw [sigV_size]; exact info3) (by rw [sigV_size]; rfl) (sigV_one _ _ _ _ _ _ _) ?_)
      obtain ⟨w6, hw6⟩ : ∃ w6, w6 = (w5.alloc (.cells sigZ 30)).setRow w5.heap.size (sigV I (.slice (some ⟨b, 0, none⟩) 68 68) (.slice (some ⟨p, 0, none⟩) 5 pc)) := ⟨_, rfl⟩
      obtain ⟨qb, hqb⟩ : ∃ qb, qb = w5.heap.size := ⟨_, rfl⟩
      rw [← hw6, ← hqb]
      have H6 := Lib.hid (show Blk w6 qb 30 (sigV I (.slice (some ⟨b, 0, none⟩) 68 68) (.slice (some ⟨p, 0, none⟩) 5 pc)) ∧ SigAt w6 seed I i d b p ∧ wr.grownBy w6 none ∧ Blk w6 (w.heap.size + 1) 23 dd ∧ KeyAt w6 kb sd (.slice (some ⟨g, 0, none⟩) 32 cap) (arrV .u8 (rootC seed)) ∧ w.grownBy w6 none from by
        have g6 : w5.grownBy w6 none := by rw [hw6]; exact grown_row (World.grownBy_alloc w5 (.cells sigZ 30) none) (.inl (Nat.le_refl _)) (sigV I (.slice (some ⟨b, 0, none⟩) 68 68) (.slice (some ⟨p, 0, none⟩) 5 pc))
        have gr6 := grown_trans H5.out.1 g6
        refine ⟨?_, H5.out.2.grown g6, gr6, HB0.out.grown gr6 (by simp), H3.out.2.2.1.grown (grown_trans HK.out.2.2.1 gr6), grown_trans HK.out.2.2.2 gr6⟩
        rw [hw6, hqb]; exact (Blk.new w5 30 sigZ).row _)
      clear hw6 hqb
      have V1 := Lib.hid (show ∀ z : Gr w6, Sem.run Tryd.prog (Instr.loadAt 30 (.pointer (some ⟨qb, 0, none⟩))) z.1 = .ok (.agg (sigV I (.slice (some ⟨b, 0, none⟩) 68 68) (.slice (some ⟨p, 0, none⟩) 5 pc))) z.1 from fun z => sig_row _ _ rfl z.1 (H6.out.1.grown z.2 (by simp)))
      have V2 := Lib.hid (show ∀ z : Gr w6, Sem.run Tryd.prog (Instr.loadAt 23 (.pointer (some ⟨w.heap.size + 1, 0, none⟩))) z.1 = .ok (.agg dd) z.1 from fun z => row_load _ dd HS.out.2 z.1 (H6.out.2.2.2.1.grown z.2 (by simp)))
      have T1 := Lib.hid (show ∀ z : Gr w6, Calls Tryd.prog 12 #[.pointer (some ⟨kb, 0, none⟩)] z.1 fun e w' => e = .returned (.agg rt) ∧ z.1.grownBy w' none from fun z => SK.out z.1 kb g cap (H6.out.2.2.2.2.1.grown z.2))
      have T2 := Lib.hid (show ∀ z : Gr w6, Calls Tryd.prog 18 #[.agg rt, .agg dd, .agg (sigV I (.slice (some ⟨b, 0, none⟩) 68 68) (.slice (some ⟨p, 0, none⟩) 5 pc))] z.1 fun e w' => e = .returned (.bool true) ∧ z.1.grownBy w' none from fun z => SV.out z.1 (grown_trans H6.out.2.2.2.2.2 z.2) i HX.out.1 I HX.out.2.1 b p 68 pc (H6.out.2.1.grown z.2))
      have g0 := Gr.cell (show w6.cell? ⟨qb, 0, none⟩ = some (.int .i64 I) from H6.out.1.cell 0)
      refine wp_region_grown (by kernel_rfl) (by kernel_rfl) ?_
      repeat (first
        | (refine wpQuiet_load_row 23 _ ⟨w.heap.size + 1, 0, none⟩ (.agg dd) (by rfl) rfl rfl (by rintro _ ⟨z, rfl⟩; exact V2.out z) ?_; simp only [Act.put, List.setIfInBounds_toArray, List.set_cons_zero, List.set_cons_succ])
        | (refine wpQuiet_load_row 30 _ ⟨qb, 0, none⟩ (.agg (sigV I (.slice (some ⟨b, 0, none⟩) 68 68) (.slice (some ⟨p, 0, none⟩) 5 pc))) (by rfl) rfl rfl (by rintro _ ⟨z, rfl⟩; exact V1.out z) ?_; simp only [Act.put, List.setIfInBounds_toArray, List.set_cons_zero, List.set_cons_succ])
        | go_big_quiet_step (first
        | (go_at_call 12; with_reducible exact Calls.grown _ (T1.out _))
        | (go_at_call 18; with_reducible exact Calls.grown _ (T2.out _))))
      refine wpQuiet_nil ?_
      rintro w7 ⟨⟨_, k7⟩, rfl⟩
      clear g0
      have H7 := Lib.hid (show Blk w7 qb 30 (sigV I (.slice (some ⟨b, 0, none⟩) 68 68) (.slice (some ⟨p, 0, none⟩) 5 pc)) ∧ SigAt w7 seed I i d b p ∧ Blk w7 (w.heap.size + 1) 23 dd ∧ KeyAt w7 kb sd (.slice (some ⟨g, 0, none⟩) 32 cap) (arrV .u8 (rootC seed)) ∧ wr.grownBy w7 none ∧ w.grownBy w7 none from
        ⟨H6.out.1.grown k7 (by simp), H6.out.2.1.grown k7, H6.out.2.2.2.1.grown k7 (by simp), H6.out.2.2.2.2.1.grown k7, grown_trans H6.out.2.2.1 k7, grown_trans H6.out.2.2.2.2.2 k7⟩)
      clear k7
      have c0' := H7.out.1.cell 0
      simp only [sigV, List.getElem?_toArray, List.getElem?_cons_zero] at c0'
      go_wp2_with (first
        | (refine wpList_load_row rfl 30 _ rfl qb rfl 30 (sigV I (.slice (some ⟨b, 0, none⟩) 68 68) (.slice (some ⟨p, 0, none⟩) 5 pc)) (0, 0) _ H7.out.1 Tryd.underlying30 rfl (by rw [sigV_size]; exact info3) ?_)
        | (refine wpList_store_row rfl 30 _ _ rfl w7.heap.size (sigV I (.slice (some ⟨b, 0, none⟩) 68 68) (.slice (some ⟨p, 0, none⟩) 5 pc)) rfl rfl 30 _ (heap_alloc_new w7 _) (by rw [sigV_size]; exact info3) (by rw [sigV_size]; rfl) (sigV_one _ _ _ _ _ _ _) ?_
           obtain ⟨w8, hw8⟩ : ∃ w8, w8 = (w7.alloc (.cells sigZ 30)).setRow w7.heap.size (sigV I (.slice (some ⟨b, 0, none⟩) 68 68) (.slice (some ⟨p, 0, none⟩) 5 pc)) := ⟨_, rfl⟩
           obtain ⟨qc, hqc⟩ : ∃ qc, qc = w7.heap.size := ⟨_, rfl⟩
           rw [← hw8, ← hqc]
           have H8 := Lib.hid (show Blk w8 qb 30 (sigV I (.slice (some ⟨b, 0, none⟩) 68 68) (.slice (some ⟨p, 0, none⟩) 5 pc)) ∧ Blk w8 qc 30 (sigV I (.slice (some ⟨b, 0, none⟩) 68 68) (.slice (some ⟨p, 0, none⟩) 5 pc)) ∧ w7.grownBy w8 none ∧ qb ≠ qc ∧ w7.heap.size ≤ qc from by
             have g8 : w7.grownBy w8 none := by rw [hw8]; exact grown_row (World.grownBy_alloc w7 (.cells sigZ 30) none) (.inl (Nat.le_refl _)) (sigV I (.slice (some ⟨b, 0, none⟩) 68 68) (.slice (some ⟨p, 0, none⟩) 5 pc))
             have hlt := H7.out.1.lt
             refine ⟨H7.out.1.grown g8 (by simp), ?_, g8, by omega, by omega⟩
             rw [hw8, hqc]; exact (Blk.new w7 30 sigZ).row _)
           clear c0' hw8 hqc
           have c0' := H8.out.1.cell 0
           have cq0 := H8.out.2.1.cell 0
           have fq0 := H8.out.2.1.frozen 0
           simp only [sigV, List.getElem?_toArray, List.getElem?_cons_zero] at c0' cq0))
      obtain ⟨w9, hw9⟩ : ∃ w9, w9 = w8.setCell ⟨qc, 0, none⟩ (.int .i64 J) := ⟨_, rfl⟩
      have H9 := Lib.hid (show Blk w9 qb 30 (sigV I (.slice (some ⟨b, 0, none⟩) 68 68) (.slice (some ⟨p, 0, none⟩) 5 pc)) ∧ Blk w9 qc 30 (sigV J (.slice (some ⟨b, 0, none⟩) 68 68) (.slice (some ⟨p, 0, none⟩) 5 pc)) ∧ SigAt w9 seed I i d b p ∧ Blk w9 (w.heap.size + 1) 23 dd ∧ KeyAt w9 kb sd (.slice (some ⟨g, 0, none⟩) 32 cap) (arrV .u8 (rootC seed)) ∧ wr.grownBy w9 none ∧ w.grownBy w9 none from by
        have g9 : w8.grownBy w9 (some qc) := by rw [hw9]; exact grownBy_setCell' w8 qc _
        have hq := H8.out.2.2.2.2
        have gr8 := grown_trans H7.out.2.2.2.2.1 H8.out.2.2.1
        have hb := (digs_block (sigsS_dig _ _ _) H7.out.2.1.chains (by rw [sigsS_length]; omega)).1
        have hp := (digs_block (way_dig (leavesC_dig _) (fun k => k) i 5) H7.out.2.1.path (by rw [upto_length]; omega)).1
        have hd := H7.out.2.2.1.lt
        have hk := H7.out.2.2.2.1.lt
        have e1 : ∀ q, q < w7.heap.size → some q ≠ some qc := fun q hlt e => by have := Option.some.inj e; omega
        refine ⟨H8.out.1.grown g9 (fun e => H8.out.2.2.2.1 (Option.some.inj e)), ?_, (H7.out.2.1.grown H8.out.2.2.1).to g9 (e1 _ hb) (e1 _ hp), (H7.out.2.2.1.grown H8.out.2.2.1 (by simp)).grown g9 (e1 _ hd), (H7.out.2.2.2.1.grown H8.out.2.2.1).to g9 (e1 _ hk), grown_fresh gr8 g9 (by have := H7.out.2.2.2.2.1.size; omega), grown_fresh (grown_trans H7.out.2.2.2.2.2 H8.out.2.2.1) g9 (by have := H7.out.2.2.2.2.2.size; omega)⟩
        rw [hw9]; exact H8.out.2.1.set 0 (.int .i64 J))
      rw [← hw9]
      clear hw9 c0' cq0 fq0
      obtain ⟨r, hr⟩ : ∃ r, r = otherB seed d I i J := ⟨_, rfl⟩
      have V1 := Lib.hid (show ∀ z : Gr w9, Sem.run Tryd.prog (Instr.loadAt 30 (.pointer (some ⟨qb, 0, none⟩))) z.1 = .ok (.agg (sigV I (.slice (some ⟨b, 0, none⟩) 68 68) (.slice (some ⟨p, 0, none⟩) 5 pc))) z.1 from fun z => sig_row _ _ rfl z.1 (H9.out.1.grown z.2 (by simp)))
      have V3 := Lib.hid (show ∀ z : Gr w9, Sem.run Tryd.prog (Instr.loadAt 30 (.pointer (some ⟨qc, 0, none⟩))) z.1 = .ok (.agg (sigV J (.slice (some ⟨b, 0, none⟩) 68 68) (.slice (some ⟨p, 0, none⟩) 5 pc))) z.1 from fun z => sig_row _ _ rfl z.1 (H9.out.2.1.grown z.2 (by simp)))
      have V2 := Lib.hid (show ∀ z : Gr w9, Sem.run Tryd.prog (Instr.loadAt 23 (.pointer (some ⟨w.heap.size + 1, 0, none⟩))) z.1 = .ok (.agg dd) z.1 from fun z => row_load _ dd HS.out.2 z.1 (H9.out.2.2.2.1.grown z.2 (by simp)))
      have T1 := Lib.hid (show ∀ z : Gr w9, Calls Tryd.prog 12 #[.pointer (some ⟨kb, 0, none⟩)] z.1 fun e w' => e = .returned (.agg rt) ∧ z.1.grownBy w' none from fun z => SK.out z.1 kb g cap (H9.out.2.2.2.2.1.grown z.2))
      have T2 := Lib.hid (show ∀ z : Gr w9, Calls Tryd.prog 18 #[.agg rt, .agg dd, .agg (sigV J (.slice (some ⟨b, 0, none⟩) 68 68) (.slice (some ⟨p, 0, none⟩) 5 pc))] z.1 fun e w' => e = .returned (.bool r) ∧ z.1.grownBy w' none from fun z => by rw [hr]; exact SO.out z.1 (grown_trans H9.out.2.2.2.2.2.2 z.2) i I J HX.out.2.2.2 b p 68 pc (H9.out.2.2.1.grown z.2))
      have T3 := Lib.hid (show ∀ z : Gr w9, Calls Tryd.prog 19 #[.agg rt, .agg dd, .agg (sigV J (.slice (some ⟨b, 0, none⟩) 68 68) (.slice (some ⟨p, 0, none⟩) 5 pc))] z.1 fun e w' => e = .returned (.bool r) ∧ z.1.grownBy w' none from fun z => by rw [hr]; exact SR.out z.1 i I J HX.out.2.2.2 b p 68 pc (H9.out.2.2.1.grown z.2))
      have T4 := Lib.hid (show ∀ z : Gr w9, Calls Tryd.prog 20 #[.agg (sigV I (.slice (some ⟨b, 0, none⟩) 68 68) (.slice (some ⟨p, 0, none⟩) 5 pc)), .agg (sigV J (.slice (some ⟨b, 0, none⟩) 68 68) (.slice (some ⟨p, 0, none⟩) 5 pc))] z.1 fun e w' => e = .returned (.bool false) ∧ z.1.grownBy w' none from fun z => ksigs_ne z.1 seed d I J HX.out.2.2.1 i b p 68 pc (H9.out.2.2.1.grown z.2))
      clear hr
      try simp only [Act.put, List.setIfInBounds_toArray, List.set_cons_zero, List.set_cons_succ]
      cases r
      all_goals
        refine wp_region_grown (by kernel_rfl) (by kernel_rfl) ?_
        repeat (first
          | (refine wpQuiet_load_row 23 _ ⟨w.heap.size + 1, 0, none⟩ (.agg dd) (by rfl) rfl rfl (by rintro _ ⟨z, rfl⟩; exact V2.out z) ?_; simp only [Act.put, List.setIfInBounds_toArray, List.set_cons_zero, List.set_cons_succ])
          | (refine wpQuiet_load_row 30 _ ⟨qb, 0, none⟩ (.agg (sigV I (.slice (some ⟨b, 0, none⟩) 68 68) (.slice (some ⟨p, 0, none⟩) 5 pc))) (by rfl) rfl rfl (by rintro _ ⟨z, rfl⟩; exact V1.out z) ?_; simp only [Act.put, List.setIfInBounds_toArray, List.set_cons_zero, List.set_cons_succ])
          | (refine wpQuiet_load_row 30 _ ⟨qc, 0, none⟩ (.agg (sigV J (.slice (some ⟨b, 0, none⟩) 68 68) (.slice (some ⟨p, 0, none⟩) 5 pc))) (by rfl) rfl rfl (by rintro _ ⟨z, rfl⟩; exact V3.out z) ?_; simp only [Act.put, List.setIfInBounds_toArray, List.set_cons_zero, List.set_cons_succ])
          | go_big_quiet_step (first
          | (go_at_call 12; with_reducible exact Calls.grown _ (T1.out _))
          | (go_at_call 18; with_reducible exact Calls.grown _ (T2.out _))
          | (go_at_call 19; with_reducible exact Calls.grown _ (T3.out _))
          | (go_at_call 20; with_reducible exact Calls.grown _ (T4.out _))))
        refine wpQuiet_nil ?_
        rintro wA ⟨⟨_, kA⟩, rfl⟩
        have HKA := Lib.hid kA
        clear kA
        go_wp2_with fail
        go_roundw
        case rel =>
          obtain ⟨hV, hlt, hG, _⟩ := HK.out
          exact ⟨k + 1, by omega, by rw [hV]; rfl, grown_trans hG (grown_trans H9.out.2.2.2.2.2.1 HKA.out)⟩
        case measure => obtain ⟨hV, hlt, _⟩ := HK.out; simp only [intOf]; omega
    · obtain rfl : k = n := by omega
      have d1 : decide (V < (k : Int)) = false := by simp; omega
      have HK := Lib.hid (grown_trans H3.out.2.1 hG)
      clear hG hlt hk hV
      go_wp2_with fail
      go_ret
      exact ⟨rfl, HK.out⟩

set_option maxRecDepth 100000 in
set_option maxHeartbeats 4000000 in
theorem many_none (w : World) (hR : Rounds w) (B : Nat) (E : Nat → Addr) (he : ErrEnv w B E) (seed : List Int) (hs : isDig seed) (sd dd : Array Value) (hsd : sd = arrV .u8 seed) (A : Option Addr) (c : Nat) :
    Calls Tryd.prog 6 #[.agg sd, .agg dd, .slice A 0 c] w fun e w' => e = .returned (.bool true) ∧ w.grownBy w' none := by
  have hz30 := sigz_run
  have HA := Lib.hid (fun (z : World) (hz : w.grownBy z none) => keys_alive z (hR.grown hz (by simp)) B E (he.grown hz (by simp)))
  have K1 := Lib.hid (fun (z : World) (hz : w.grownBy z none) => new_is z (hR.grown hz (by simp)) seed hs sd hsd)
  have HS := Lib.hid (show sd.size = 16 by rw [hsd, arr_size, hs.1])
  obtain ⟨w1, hw1⟩ : ∃ w1, w1 = (w.alloc (.cells sd 23)).alloc (.cells dd 23) := ⟨_, rfl⟩
  have H1 := Lib.hid (show Blk w1 w.heap.size 23 sd ∧ Blk w1 (w.heap.size + 1) 23 dd ∧ w.grownBy w1 none from by
    rw [hw1]
    have b2 := Blk.new (w.alloc (.cells sd 23)) 23 dd
    rw [World.size_alloc] at b2
    exact ⟨(Blk.new w 23 sd).alloc _, b2, grown_trans (World.grownBy_alloc w _ none) (World.grownBy_alloc _ _ none)⟩)
  have HW1 := Lib.hid hw1
  clear hw1 hR he hs hsd
  go_enter Tryd.func6, Tryd.ntmps6
  go_wp2_with fail
  rw [← HW1.out]
  refine (HA.out w1 H1.out.2.2).mono ?_
  rintro e w2 ⟨rfl, hk2⟩
  have H2 := Lib.hid (show Blk w2 w.heap.size 23 sd ∧ w.grownBy w2 none from ⟨H1.out.1.grown hk2 (by simp), grown_trans H1.out.2.2 hk2⟩)
  clear hk2
  go_wp2_with (refine wpList_load_row rfl 23 _ rfl w.heap.size rfl 23 sd (0, 0) _ H2.out.1 Tryd.underlying23 rfl (by rw [HS.out]; exact info16) ?_)
  refine (K1.out w2 H2.out.2).mono ?_
  rintro e w3 ⟨kb, g, cap, rfl, _, _, _, _, _, _, hk3⟩
  have H3 := Lib.hid (grown_trans H2.out.2 hk3)
  clear hk3
  go_wp2_with fail
  refine wp_loop_rounds 1 ?_
  rw [rounds_succ]
  go_wp2_with fail
  go_ret
  exact ⟨rfl, H3.out⟩
end Go.Proofs.YtpldegdcachlmaaDoor
