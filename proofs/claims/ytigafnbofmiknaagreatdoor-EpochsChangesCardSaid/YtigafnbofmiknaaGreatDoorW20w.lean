/- PfQ, RqA, GdR, GdS, Wire2 -/
import Derived.Test.YtigafnbofmiknaaGreatDoorPf9
import Derived.Test.YtigafnbofmiknaaGreatDoorW20r
import Derived.Deep.DeepCutAuto
import Derived.Test.YtigafnbofmiknaaGreatDoorW20q
import Derived.Test.YtigafnbofmiknaaGreatDoorW20s
import Derived.Test.YtigafnbofmiknaaGreatDoorW20v
import Derived.Test.YtigafnbofmiknaaGreatDoorW20f
import Derived.Test.YtigafnbofmiknaaGreatDoorW20g
import Derived.Test.YtigafnbofmiknaaGreatDoorW20e
namespace Go.Proofs.YtigafnbofmiknaaGreatDoor
set_option maxRecDepth 100000
set_option maxHeartbeats 10000000
open Go.RowKit
section
open Go.RowKit Go.Shelf
attribute [local go_sem] Oper.semAt_some
noncomputable def qcN (V : List Vd) (e qe r : Int) (Bl Gl : List Int) (L : List Sg) : Nat := if r = 0 then firstN V e qe Bl Gl L.length else if turnN V e qe r ≠ 0 then turnN V e qe r else holdN (ug V (fun _ => forV qe r Bl) id L)
section
variable {B : Nat} {E : Nat -> Addr} {e : Int} {A : Option Addr} {c : Nat} {V : List Vd} {Gl : List Int} {G : Array Value}
variable (w : World) (he : ErrEnv w B E) (hV : VdsAt w A V) (ok : keysOk V) (hl : V.length < 1000) (hG : G = arrV .u8 Gl) (hGl : Gl.length = 16) (gv : Array Value) (hgv : gv = grC e (.slice A V.length c) G)
include he hV ok hl hG hGl hgv
theorem qc_isB (hR : Rounds w) (hB4 : 4 <= w.heap.size) (hBw : B <= w.heap.size) (qe r : Int) (hqe : -9223372036854775808 <= qe /\ qe < 9223372036854775808) (hr : -9223372036854775808 <= r /\ r < 9223372036854775808) (Bl : List Int) (hBl : isDig Bl) (Bv : Array Value) (hB : Bv = arrV .u8 Bl) (A2 : Option Addr) (c2 : Nat) (L : List Sg) (hL9 : L.length < 9223372036854775808) (hL : L.length <= 100 \/ V.length <= 100) (hA : SgsAt w A2 L) (hok : SgsOk w L) (qv : Array Value) (hqv : qv = qcC qe r Bv (.slice A2 L.length c2)) :
    Calls Tryz.prog 38 #[.agg gv, .agg qv] w fun e' w' => e' = .returned (evOf E (qcN V e qe r Bl Gl L)) /\ w.grownBy w' none := by
 by_cases h0 : r = 0
 · subst h0
   rw [qcN, if_pos rfl]
   exact qc0_is w he hV ok hl hG hGl gv hgv qe Bl hBl.1 Bv hB A2 L.length c2 qv hqv
 rw [qcN, if_neg h0]
 obtain ⟨N, hN⟩ : ∃ N, N = (if turnN V e qe r ≠ 0 then turnN V e qe r else holdN (ug V (fun _ => forV qe r Bl) id L)) := ⟨_, rfl⟩
 rw [<- hN]
 obtain ⟨q, hq⟩ : ∃ q, w.heap.size = q := ⟨_, rfl⟩
 obtain ⟨w1, hw1⟩ : ∃ w1, (w.alloc (.cells gv 26)).alloc (.cells qv 29) = w1 := ⟨_, rfl⟩
 have g1 : w.grownBy w1 none := by rw [<- hw1]; exact za (gQ) (gQ)
 have b1 : Blk w1 q 26 gv := by rw [<- hw1, <- hq]; exact (Blk.new _ _ _).alloc _
 have b2 : Blk w1 (q + 1) 29 qv := by
  have h := Blk.new (w.alloc (.cells gv 26)) 29 qv
  rw [World.size_alloc, hq, hw1] at h
  exact h
 have hG16 : G.size = 16 := by rw [hG, zf, hGl]
 have hs : gv.size = 18 := by rw [hgv]; exact zci hG16
 have hB16 : Bv.size = 16 := by rw [hB, zf, hBl.1]
 have hs2 : qv.size = 19 := by rw [hqv]; exact zeb hB16
 have HC := hQ_ (turn_is w1 (he.grown g1 (fun _ e => by cases e)) (hV.grown g1) ok hl hG hGl gv hgv qe r)
 obtain ⟨x0, x1, _, _⟩ := zbs hB16 (hqv ▸ b2)
 have HX := hQ_ (aQ g1 (aQ b1 (aQ hs (aQ b2 hs2))))
 have HW := hQ_ (aQ hw1 hq)
 have HQ := hQ_ (show ∀ Y, w.grownBy Y none -> Calls Tryz.prog 55 #[.agg gv, .func (.func 77) #[] #[.pointer (some ⟨Y.heap.size, 0, none⟩)]] (Y.alloc (.cells qv 29)) fun e' w' => e' = .returned (evOf E (holdN (ug V (fun _ => forV qe r Bl) id L))) /\ (Y.alloc (.cells qv 29)).grownBy w' none from fun Y hY => by
  have g2 := za hY (World.grownBy_alloc Y (.cells qv 29) none)
  have bq := Blk.new Y 29 qv
  obtain ⟨Z, hZ⟩ : ∃ Z, Z = Y.alloc (.cells qv 29) := ⟨_, rfl⟩
  rw [<- hZ] at g2 bq ⊢
  refine pquorum_is (fun _ => forV qe r Bl) id (fun _ => zbb _ _) Z (hR.grown g2 (by simp)) (he.grown g2 (fun _ e => by cases e)) (Nat.le_trans hB4 g2.size) (Nat.le_trans hBw g2.size) (hV.grown g2) ok hl hG16 gv hgv 77 _ (enters_of Tryz.func77 (by kernel_rfl) rfl) L hL (by rw [List.map_id]; exact hok.grown g2) (fun z hz => ?_)
  exact votes_seq 5 Y.heap.size Z.heap.size qe r hqe hr Bl hBl Bv hB A2 c2 L hL9 (arrV .u8 (forV qe r Bl)) rfl (by omega) z (hqv ▸ bq.grown hz (by simp)) hz.size (hR.grown (za g2 hz) (by simp)) (hA.grown (za g2 hz)) (fun a ha hne => by
   obtain ⟨b, off, rfl, hc⟩ := hA hne
   cases ha
   have hpos : 0 < L.length := List.length_pos_iff.2 hne
   have hr0 := hc 0 hpos
   have := range_block (x := .int .i64 (L[0]).who) (l := (L[0]).sig.toList) (by simpa [Sg.cells] using hr0)
   exact Nat.lt_of_lt_of_le this g2.size))
 have d0 : (r == 0) = false := by simp [h0]
 clear he hV ok hl hG hGl hgv g1 b1 b2 hs hs2 hw1 hq hBl hB hqv hB16 hG16 hR hB4 hBw hqe hr hL9 hL hA hok
 go_enter Tryz.func38, Tryz.ntmps38
 go_upto_region 1 with (fail)
 rw [HW.out.1, HW.out.2]
 go_wp2_with (first
  | (refine wpList_load_row rfl 26 _ rfl q rfl 26 gv (0, 0) _ HX.out.2.1 Tryz.underlying26 rfl (by rw [HX.out.2.2.1]; exact info18) ?_))
 refine HC.out.mono ?_
 clear HC
 rintro e' w2 ⟨rfl, g2⟩
 have HG := hQ_ (za HX.out.1 g2)
 have r1 := yy (HX.out.2.1.grown g2 (by simp))
 have r2 := yy (HX.out.2.2.2.1.grown g2 (by simp))
 have HRR := hQ_ (aQ r1 r2)
 clear g2 x0 x1 r1 r2
 by_cases hb : turnN V e qe r = 0
 · have HN := hQ_ (show N = holdN (ug V (fun _ => forV qe r Bl) id L) by rw [hN, if_neg (by simp [hb])])
   rw [show evOf E (turnN V e qe r) = .nilIface by rw [hb]; rfl]
   clear hb hN
   go_wp2_with fail
   refine wp_region_held_drew (S := fun Y => Y.rangeAt q 0 gv.toList /\ Y.rangeAt (q + 1) 0 qv.toList) (by kernel_rfl) ⟨ze HRR.out.1 (zh (World.grownBy.refl w2 none)), ze HRR.out.2 (zh (World.grownBy.refl w2 none))⟩ (fun _ => ?_)
   refine wpAnyH_take (i := 0) (oi := _) (v := .agg gv.toList.toArray) rfl (by kernel_rfl) (by kernel_rfl) (by kernel_rfl) (fun _ _ _ h => h) (yieldsIf_load_mid (by rfl) _ _ rfl q 0 rfl gv.toList _ (fun V hSw => hSw.1) Tryz.underlying26 rfl (by rw [Array.length_toList, HX.out.2.2.1]; exact info18)) (by assumption) ?rest0
   simp only [Act.put, List.getElem_toArray, List.getElem_cons_zero, List.setIfInBounds_toArray, List.set_cons_zero, List.set_cons_succ]
   rw [Array.toArray_toList]
   refine wpAnyH_take (i := 1) (oi := _) (v := .agg qv.toList.toArray) rfl (by kernel_rfl) (by kernel_rfl) (by kernel_rfl) (fun _ _ _ h => h) (yieldsIf_load_mid (by rfl) _ _ rfl (q + 1) 0 rfl qv.toList _ (fun V hSw => hSw.2) Tryz.underlying29 rfl (by rw [Array.length_toList, HX.out.2.2.2.2]; exact info19)) (by assumption) ?rest1
   simp only [Act.put, List.getElem_toArray, List.getElem_cons_succ, List.getElem_cons_zero, List.setIfInBounds_toArray, List.set_cons_zero, List.set_cons_succ]
   rw [Array.toArray_toList]
   refine wpAnyH_ready (rs := [2]) (by kernel_rfl) (by simp) ?_
   refine AllReadyH.cons (o := _) rfl (fun K hK => ?_) AllReadyH.nil
   go_simp
   refine ((callsIn_wide (n := 5)).1 (votes_in _ 5 _ _ rfl)).mono ?_
   rintro e3 W3 ⟨rfl, rfl⟩
   have hd2 := zh (World.grownBy.refl w2 none)
   have ha2 := World.grownBy_alloc w2.drew (.cells qv 29) none
   refine hK.out _ _ ⟨ze HRR.out.1 (za hd2 ha2), ze HRR.out.2 (za hd2 ha2)⟩ (fun _ => ?_)
   clear hK K
   try simp only [Act.put, List.setIfInBounds_toArray, List.set_cons_zero, List.set_cons_succ]
   refine wpAnyH_ready (rs := [3]) (by kernel_rfl) (by simp) ?_
   refine AllReadyH.cons (o := _) rfl (fun K hK => ?_) AllReadyH.nil
   go_simp
   refine (HQ.out w2.drew (za HG.out hd2)).mono ?_
   rintro e4 W4 ⟨rfl, g4⟩
   have g24 := za (za hd2 ha2) g4
   refine hK.out _ _ ⟨ze HRR.out.1 g24, ze HRR.out.2 g24⟩ (fun _ => ?_)
   clear hK K
   try simp only [Act.put, List.setIfInBounds_toArray, List.set_cons_zero, List.set_cons_succ]
   refine wpAnyH_ready (rs := [4]) (by kernel_rfl) (by simp) ?_
   refine AllReadyH.cons (o := _) rfl (fun K hK => ?_) AllReadyH.nil
   go_simp
   refine hK.out _ _ ⟨ze HRR.out.1 g24, ze HRR.out.2 g24⟩ (fun _ => ?_)
   clear hK K
   try simp only [Act.put, List.setIfInBounds_toArray, List.set_cons_zero, List.set_cons_succ]
   refine wpAnyH_done (by kernel_rfl) ?_ _
   have HF := hQ_ (za HG.out g24)
   obtain ⟨R, hR⟩ : ∃ R, evOf E (holdN (ug V (fun _ => forV qe r Bl) id L)) = R := ⟨_, rfl⟩
   rw [hR]
   have HRE := hQ_ hR
   clear hd2 ha2 g4 g24 hR
   go_wp2_with fail
   go_ret
   exact ⟨by rw [HN.out, HRE.out]; rfl, HF.out⟩
 · obtain ⟨a, ha⟩ := zep E hb
   have HN := hQ_ (aQ (show N = turnN V e qe r by rw [hN, if_pos hb]) ha)
   rw [ha]
   clear hb ha hN
   go_wp2_with fail
   go_ret
   exact ⟨by rw [HN.out.1, HN.out.2]; rfl, HG.out⟩
end
end
section
attribute [local go_sem] Oper.semAt_some
theorem kright_any (w : World) (root d : List Int) (hroot : root.length = 16) (hd : isDig d) (rt dd : Array Value) (hrt : rt = arrV .u8 root) (hdd : dd = arrV .u8 d) (lf : Int) (A1 A2 : Option Addr) (n1 c1 n2 c2 : Nat) (cs ps : List (List Int)) (hC : DigRow w A1 n1 cs) (hP : DigRow w A2 n2 ps) :
    Calls Tryz.prog 57 #[.agg rt, .agg dd, .agg (sigV lf (.slice A1 n1 c1) (.slice A2 n2 c2))] w fun e w' => e = .returned (.bool (vfB root d lf n1 n2 cs ps)) /\ w.grownBy w' none := by
 have hr16 : rt.size = 16 := by rw [hrt, zf, hroot]
 have hd16 : dd.size = 16 := by rw [hdd, zf, hd.1]
 by_cases hneg : lf < 0
 · rw [zc3 (by omega)]
   exact right_neg w rt dd lf A1 A2 n1 c1 n2 c2 hneg
 by_cases hbig : 32 <= lf
 · rw [zc3 (by omega)]
   exact right_big w rt dd lf A1 A2 n1 c1 n2 c2 hbig
 have hlf : 0 <= lf /\ lf < 32 := by omega
 by_cases h68 : n1 = 68
 · subst h68
   by_cases h5 : n2 = 5
   · subst h5
     obtain ⟨cl, cd, c0 | ⟨b1, o1, rfl, hD1⟩⟩ := hC
     · omega
     obtain ⟨pl, pd, p0 | ⟨b2, o2, rfl, hD2⟩⟩ := hP
     · omega
     obtain ⟨xs, hxs⟩ : ∃ xs, xs = arrV .u8 (recC lf cs d) := ⟨_, rfl⟩
     have hxd : isDig (recC lf cs d) := by rw [recC]; exact zed _ _
     obtain ⟨ts, hts⟩ : ∃ ts, ts = arrV .u8 (climbC (recC lf cs d) lf ps 5) := ⟨_, rfl⟩
     have htd := zaj hxd lf ps 5
     have hq : ∀ V, Sem.run Tryz.prog (Op.equalIn 10000 24 (.agg ts) (.agg rt)) V = .ok (decide (climbC (recC lf cs d) lf ps 5 = root)) V := fun V => by
      rw [hts, hrt]; exact eqDK20 V _ _ htd.1 hroot
     rw [vfB_ok hlf]
     exact right_ok w rt dd hr16 hd16 lf hlf _ _ c1 c2 xs ts _ hq (fun y hy => by rw [hdd]; exact rrecover_is y lf b1 o1 c1 cs cl cd (hD1.grown hy) d hd xs hxs) (fun y hy => rclimb_is y _ hxd lf hlf b2 o2 c2 ps pl pd (hD2.grown hy) xs ts hxs hts)
   · rw [vfB_form2 h5]
     exact right_form2 w rt dd lf A1 A2 68 c1 n2 c2 hlf rfl h5
 · rw [vfB_form1 h68]
   exact right_form1 w rt dd lf A1 A2 n1 c1 n2 c2 hlf h68
theorem info18R : (Tryz.prog.info? 43).map (·.size) = some 18 := by kernel_rfl
section
variable {e : Int} {A : Option Addr} {c : Nat} {V : List Vd} {G : Array Value}
theorem rsigned_is (w : World) (hV : VdsAt w A V) (ok : keysOk V) (hG : G.size = 16) (gv : Array Value) (hgv : gv = grC e (.slice A V.length c) G)
    (who lf : Int) (d : List Int) (hd : isDig d) (D : Array Value) (hD : D = arrV .u8 d) (A1 A2 : Option Addr) (n1 c1 n2 c2 : Nat) (cs ps : List (List Int)) (hC : DigRow w A1 n1 cs) (hP : DigRow w A2 n2 ps) (sv : Array Value) (hsv : sv = sigV lf (.slice A1 n1 c1) (.slice A2 n2 c2)) :
    Calls Tryz.prog 40 #[.agg gv, .int .i64 who, .agg D, .agg sv] w fun e' w' => e' = .returned (.bool (holdsB V who d lf n1 n2 cs ps)) /\ w.grownBy w' none := by
 obtain ⟨q, hq⟩ : ∃ q, w.heap.size = q := ⟨_, rfl⟩
 obtain ⟨w1, hw1⟩ : ∃ w1, ((w.alloc (.cells gv 43)).alloc (.cells D 24)).alloc (.cells sv 87) = w1 := ⟨_, rfl⟩
 have g1 : w.grownBy w1 none := by rw [<- hw1]; exact za (za (gQ) (gQ)) (gQ)
 have hD16 : D.size = 16 := by rw [hD, zf, hd.1]
 have b1 : Blk w1 q 43 (grC e (.slice A V.length c) G) := by rw [<- hw1, <- hq, <- hgv]; exact ((Blk.new _ _ _).alloc _).alloc _
 have b2 : Blk w1 (q + 1) 24 D := by
  have h := (Blk.new (w.alloc (.cells gv 43)) 24 D).alloc (.cells sv 87)
  rw [World.size_alloc, hq, hw1] at h
  exact h
 have b3 : Blk w1 (q + 2) 87 sv := by
  have h := Blk.new ((w.alloc (.cells gv 43)).alloc (.cells D 24)) 87 sv
  rw [World.size_alloc, World.size_alloc, hq, hw1] at h
  exact h
 obtain ⟨x0, x1, _⟩ := y8 b1
 obtain ⟨n, hn⟩ : ∃ n, V.length = n := ⟨_, rfl⟩
 have HW := hQ_ (aQ hw1 (aQ hq g1))
 by_cases hin : 0 <= who /\ who < (n : Int)
 · have hlt : who.toNat < V.length := by omega
   have hne : V ≠ [] := fun e => by rw [e] at hlt; simp at hlt
   obtain ⟨b, off, rfl, hVc⟩ := hV hne
   have hk : keyOf V who = V[who.toNat].key := by rw [keyOf, List.getD_eq_getElem?_getD, List.getElem?_eq_getElem hlt]; rfl
   have hkl : (keyOf V who).length = 16 := by rw [hk]; exact ok _ (List.getElem_mem hlt)
   obtain ⟨K, hK⟩ : ∃ K, K = arrV .u8 (keyOf V who) := ⟨_, rfl⟩
   have hK16 : K.size = 16 := by rw [hK, zf, hkl]
   have r0 : w1.rangeAt b (off + who.toNat * 17) K.toList := by
    have := ze (zcd (hVc _ hlt)) g1
    rw [hK, hk, arrV]
    simpa using this
   have T1 := hQ_ (show ∀ z : Gr w1, Calls Tryz.prog 57 #[.agg K, .agg D, .agg sv] z.1 fun e w' => e = .returned (.bool (vfB (keyOf V who) d lf n1 n2 cs ps)) /\ z.1.grownBy w' none from fun z => by
    rw [hsv]
    exact kright_any z.1 _ d hkl hd K D hK hD lf A1 A2 n1 c1 n2 c2 cs ps (hC.grown (za g1 z.2)) (hP.grown (za g1 z.2)))
   have V1 := hQ_ (show ∀ z : Gr w1, Sem.run Tryz.prog (Instr.loadAt 24 (.pointer (some ⟨b, off + who.toNat * 17, none⟩))) z.1 = .ok (.agg K) z.1 from fun z => ya z.1 b _ 24 K _ (ze r0 z.2) Tryz.underlying24 rfl (by rw [hK16]; exact info16))
   have V2 := hQ_ (show ∀ z : Gr w1, Sem.run Tryz.prog (Instr.loadAt 24 (.pointer (some ⟨q + 1, 0, none⟩))) z.1 = .ok (.agg D) z.1 from fun z => zd9 _ D hD16 z.1 (b2.grown z.2 (by simp)))
   have V3 := hQ_ (show ∀ z : Gr w1, Sem.run Tryz.prog (Instr.loadAt 87 (.pointer (some ⟨q + 2, 0, none⟩))) z.1 = .ok (.agg sv) z.1 from fun z => ya z.1 (q + 2) 0 87 sv _ (ze (yy b3) z.2) Tryz.underlying87 rfl (by rw [hsv]; exact info3s))
   have k0 := Gr.cell x1
   obtain ⟨r, hr⟩ : ∃ r, r = vfB (keyOf V who) d lf n1 n2 cs ps := ⟨_, rfl⟩
   rw [<- hr] at T1
   have hres : holdsB V who d lf n1 n2 cs ps = r := by rw [holdsB, hn, decide_eq_true hin, <- hr]; rfl
   rw [hres]
   have d1 : decide (0 <= who) = true := by simp; omega
   have d2 : decide (who < (n : Int)) = true := by simp; omega
   have hin0 := hin.1
   have hin1 := hin.2
   rw [hn] at k0
   have HH := hQ_ (aQ hgv hsv)
   clear hV ok hG hgv hd hD hC hP hsv b1 b2 b3 x0 x1 hlt hne hVc hk hkl hK hK16 r0 hr hres g1 hw1 hq hin hn hD16
   go_enter Tryz.func40, Tryz.ntmps40
   go_upto_region 1 with (fail)
   rw [HW.out.1, HW.out.2.1]
   cases r
   all_goals
    refine zj (by kernel_rfl) (by kernel_rfl) ?_
    repeat (first
     | (refine zy 24 _ ⟨b, off + who.toNat * 17, none⟩ (.agg K) (by rfl) rfl rfl (by rintro _ ⟨z, rfl⟩; exact V1.out z) ?_; simp only [Act.put, List.setIfInBounds_toArray, List.set_cons_zero, List.set_cons_succ])
     | (refine zy 24 _ ⟨q + 1, 0, none⟩ (.agg D) (by rfl) rfl rfl (by rintro _ ⟨z, rfl⟩; exact V2.out z) ?_; simp only [Act.put, List.setIfInBounds_toArray, List.set_cons_zero, List.set_cons_succ])
     | (refine zy 87 _ ⟨q + 2, 0, none⟩ (.agg sv) (by rfl) rfl rfl (by rintro _ ⟨z, rfl⟩; exact V3.out z) ?_; simp only [Act.put, List.setIfInBounds_toArray, List.set_cons_zero, List.set_cons_succ])
     | go_big_quiet_step (first
     | (go_at_call 57; with_reducible exact Calls.grown _ (T1.out _))))
    refine wpQuiet_nil ?_
    rintro w7 ⟨⟨_, k7⟩, rfl⟩
    have HK := hQ_ (za HW.out.2.2 k7)
    clear k7 k0
    go_wp2_with fail
    go_ret
    exact ⟨rfl, HK.out⟩
 · have hres : holdsB V who d lf n1 n2 cs ps = false := by rw [holdsB, hn, decide_eq_false hin]; rfl
   rw [hres]
   have k0 := Gr.cell x1
   rw [hn] at k0
   have dd : decide (0 <= who) = false \/ (decide (0 <= who) = true /\ decide (who < (n : Int)) = false) := by simp; omega
   have HH := hQ_ (aQ hgv hsv)
   clear hV ok hG hgv hd hD hC hP hsv b1 b2 b3 x0 x1 hres g1 hw1 hq hin hn hD16
   rcases dd with d1 | ⟨d1, d2⟩
   all_goals
    go_enter Tryz.func40, Tryz.ntmps40
    go_upto_region 1 with (fail)
    rw [HW.out.1, HW.out.2.1]
    refine zj (by kernel_rfl) (by kernel_rfl) ?_
    repeat go_big_quiet_step (fail)
    refine wpQuiet_nil ?_
    rintro w7 ⟨⟨_, k7⟩, rfl⟩
    have HK := hQ_ (za HW.out.2.2 k7)
    clear k7 k0
    go_wp2_with fail
    go_ret
    exact ⟨rfl, HK.out⟩
def rbegN (V : List Vd) (e ep r least : Int) : Nat := if rightS V = false then 11 else if ep ≠ e then 18 else if r < least \/ 1099511627776 < r then 14 else 0
theorem rbegin_is (w : World) (hV : VdsAt w A V) (ok : keysOk V) (hl : V.length < 1000) (hc : V.length <= c) (hG : G.size = 16) (gv : Array Value) (hgv : gv = grC e (.slice A V.length c) G) (ep r least : Int) :
    Calls Tryz.prog 39 #[.agg gv, .int .i64 ep, .int .i64 r, .int .i64 least] w fun e' w' => e' = .returned (.int .i64 ((rbegN V e ep r least : Nat) : Int)) /\ w.grownBy w' none := by
 obtain ⟨q, hq⟩ : ∃ q, w.heap.size = q := ⟨_, rfl⟩
 obtain ⟨w1, hw1⟩ : ∃ w1, w.alloc (.cells gv 43) = w1 := ⟨_, rfl⟩
 have g1 : w.grownBy w1 none := by rw [<- hw1]; exact gQ
 have b1 : Blk w1 q 43 (grC e (.slice A V.length c) G) := by rw [<- hw1, <- hq, <- hgv]; exact Blk.new _ _ _
 obtain ⟨x0, x1, _⟩ := y8 b1
 have HR := hQ_ (zbm w1 A c V (hV.grown g1) ok hl hc)
 have HW := hQ_ (aQ hw1 (aQ hq (aQ g1 x0)))
 obtain ⟨N, hN⟩ : ∃ N, rbegN V e ep r least = N := ⟨_, rfl⟩
 rw [hN]
 have HN := hQ_ hN
 clear hV ok hl hc hG hgv g1 hw1 hq b1 x0 hN
 go_enter Tryz.func39, Tryz.ntmps39
 go_upto_region 1 with (fail)
 rw [HW.out.1, HW.out.2.1]
 go_wp2_with fail
 refine HR.out.mono ?_
 rintro e' w2 ⟨rfl, g2⟩
 have c0 := g2.cell HW.out.2.2.2 (by simp)
 have HK := hQ_ (za HW.out.2.2.1 g2)
 clear g2 x1
 by_cases hr : rightS V = false
 · have hn : N = 11 := by rw [<- HN.out, rbegN, if_pos hr]
   subst hn
   rw [hr]
   clear hr HR
   go_wp2_with fail
   go_ret
   exact ⟨rfl, HK.out⟩
 have hr2 : rightS V = true := by cases h : rightS V <;> simp_all
 by_cases he : ep = e
 rotate_left
 · have hn : N = 18 := by rw [<- HN.out, rbegN, if_neg hr, if_pos he]
   have d1 : (ep != e) = true := by simpa using he
   subst hn
   rw [hr2]
   clear hr HR he hr2
   go_wp2_with fail
   go_ret
   exact ⟨rfl, HK.out⟩
 have d1 : (ep != e) = false := by simpa using he
 by_cases h1 : r < least
 · have hn : N = 14 := by rw [<- HN.out, rbegN, if_neg hr, if_neg (fun h => h he), if_pos (.inl h1)]
   have d2 : decide (r < least) = true := by simpa using h1
   subst hn
   rw [hr2]
   clear hr HR he hr2 h1
   go_wp2_with fail
   go_ret
   exact ⟨rfl, HK.out⟩
 have d2 : decide (r < least) = false := by simpa using h1
 by_cases h2 : 1099511627776 < r
 · have hn : N = 14 := by rw [<- HN.out, rbegN, if_neg hr, if_neg (fun h => h he), if_pos (.inr h2)]
   have d3 : decide (1099511627776 < r) = true := by simpa using h2
   subst hn
   rw [hr2]
   clear hr HR he hr2 h1 h2
   go_wp2_with fail
   go_ret
   exact ⟨rfl, HK.out⟩
 have d3 : decide (1099511627776 < r) = false := by simpa using h2
 have hn : N = 0 := by rw [<- HN.out, rbegN, if_neg hr, if_neg (fun h => h he), if_neg (by omega)]
 subst hn
 rw [hr2]
 clear hr HR he hr2 h1 h2
 go_wp2_with fail
 go_ret
 exact ⟨rfl, HK.out⟩
end
end
section
theorem rwide_is (w : World) (n : Int) (hn : -9223372036854775808 <= n /\ n < 9223372036854775808) (s : ByteArray) (hs : xsOf s = b8 n) :
    Calls Tryz.prog 58 #[.int .i64 n] w fun e w' => e = .returned (.string s) /\ w.grownBy w' none := by
 obtain ⟨i0, hi0, hz0, hz1, hz2⟩ := info_parts u8i
 have HI0 := hQ_ (aQ hi0 (aQ hz0 (aQ hz1 hz2)))
 obtain ⟨U, hU⟩ : ∃ U : Int, U = n % 18446744073709551616 := ⟨_, rfl⟩
 have hwU : IntKind.u64.wrap n = U := by rw [IntKind.wrap_u64]; omega
 have hU0 : 0 <= U /\ U < 18446744073709551616 := by omega
 have hb : b8 n = [(U / 72057594037927936), (U / 281474976710656 % 256), (U / 1099511627776 % 256), (U / 4294967296 % 256), (U / 16777216 % 256), (U / 65536 % 256), (U / 256 % 256), (U % 256)] := by
  rw [b8, hU]
  have e1 : n / 72057594037927936 % 256 = n % 18446744073709551616 / 72057594037927936 := by omega
  have e2 : n / 281474976710656 % 256 = n % 18446744073709551616 / 281474976710656 % 256 := by omega
  have e3 : n / 1099511627776 % 256 = n % 18446744073709551616 / 1099511627776 % 256 := by omega
  have e4 : n / 4294967296 % 256 = n % 18446744073709551616 / 4294967296 % 256 := by omega
  have e5 : n / 16777216 % 256 = n % 18446744073709551616 / 16777216 % 256 := by omega
  have e6 : n / 65536 % 256 = n % 18446744073709551616 / 65536 % 256 := by omega
  have e7 : n / 256 % 256 = n % 18446744073709551616 / 256 % 256 := by omega
  have e8 : n % 256 = n % 18446744073709551616 % 256 := by omega
  rw [<- e1, <- e2, <- e3, <- e4, <- e5, <- e6, <- e7, <- e8]
 have HD := hQ_ (aQ hb hs)
 have HU := hQ_ hU
 obtain ⟨L, hL⟩ : ∃ L : List Int, L = [(U / 72057594037927936), (U / 281474976710656 % 256), (U / 1099511627776 % 256), (U / 4294967296 % 256), (U / 16777216 % 256), (U / 65536 % 256), (U / 256 % 256), (U % 256)] := ⟨_, rfl⟩
 have HL := hQ_ hL
 have HO1 := hQ_ (World.ownsRow_lit (base := w.heap.size) (e := 5) (size := 1) w #[] 0 (by simp) (by decide) rfl)
 have HG1 := hQ_ (World.grownBy_alloc w (.cells #[] 5) none)
 clear hi0 hz0 hz1 hz2 hU hb hs hL
 go_enter Tryz.func58, Tryz.ntmps58
 go_wp2_with fail
 go_loopw [3, 4] (fun v i wr => ∃ k : Nat, k <= 8 /\ i = .int .i64 (7 - (k : Int)) /\ wr.ownsRow w.heap.size 5 1 v k ((L.take k).map (Value.int .u8)) /\ w.grownBy wr none) (fun _ i _ => (intOf i + 1).toNat)
 case atStart => exact ⟨0, by omega, rfl, by simpa using HO1.out, HG1.out⟩
 case round =>
  obtain ⟨k, hk, hi, hown, hK⟩ := hrel
  have HO := hQ_ hown
  have HK := hQ_ hK
  clear hown hK
  have hk8 : k = 0 \/ k = 1 \/ k = 2 \/ k = 3 \/ k = 4 \/ k = 5 \/ k = 6 \/ k = 7 \/ k = 8 := by omega
  clear hk
  rcases hk8 with rfl | hk8
  · have hi' := hi.trans (show Value.int .i64 (7 - ((0 : Nat) : Int)) = Value.int .i64 7 from rfl)
    clear hi
    subst hi'
    go_wp2_with (at_builtin
                 refine vk rfl _ _ 81 rfl w.heap.size 5 5 i0 (.int .u8 0) 1 Tryz.underlying81 HI0.out.1 HI0.out.2.1 HI0.out.2.2.1 HI0.out.2.2.2 rfl _ _ _ rfl HO.out _ rfl rfl (by omega) (by omega) HK.out.size ?_
                 intro v' w3 hown3 hgrow
                 have HO3 := hQ_ hown3
                 have HK3 := hQ_ (yh HK.out hgrow HO.out (Nat.le_refl _))
                 clear hown3 hgrow)
    go_roundw
    case rel => exact ⟨1, by omega, rfl, by have := HO3.out; rw [HL.out] at this ⊢; exact this, HK3.out⟩
    case measure => simp [intOf]
  rcases hk8 with rfl | hk8
  · have hi' := hi.trans (show Value.int .i64 (7 - ((1 : Nat) : Int)) = Value.int .i64 6 from rfl)
    clear hi
    subst hi'
    go_wp2_with (at_builtin
                 refine vk rfl _ _ 81 rfl w.heap.size 5 5 i0 (.int .u8 0) 1 Tryz.underlying81 HI0.out.1 HI0.out.2.1 HI0.out.2.2.1 HI0.out.2.2.2 rfl _ _ _ rfl HO.out _ rfl rfl (by omega) (by omega) HK.out.size ?_
                 intro v' w3 hown3 hgrow
                 have HO3 := hQ_ hown3
                 have HK3 := hQ_ (yh HK.out hgrow HO.out (Nat.le_refl _))
                 clear hown3 hgrow)
    go_roundw
    case rel => exact ⟨2, by omega, rfl, by have := HO3.out; rw [HL.out] at this ⊢; exact this, HK3.out⟩
    case measure => simp [intOf]
  rcases hk8 with rfl | hk8
  · have hi' := hi.trans (show Value.int .i64 (7 - ((2 : Nat) : Int)) = Value.int .i64 5 from rfl)
    clear hi
    subst hi'
    go_wp2_with (at_builtin
                 refine vk rfl _ _ 81 rfl w.heap.size 5 5 i0 (.int .u8 0) 1 Tryz.underlying81 HI0.out.1 HI0.out.2.1 HI0.out.2.2.1 HI0.out.2.2.2 rfl _ _ _ rfl HO.out _ rfl rfl (by omega) (by omega) HK.out.size ?_
                 intro v' w3 hown3 hgrow
                 have HO3 := hQ_ hown3
                 have HK3 := hQ_ (yh HK.out hgrow HO.out (Nat.le_refl _))
                 clear hown3 hgrow)
    go_roundw
    case rel => exact ⟨3, by omega, rfl, by have := HO3.out; rw [HL.out] at this ⊢; exact this, HK3.out⟩
    case measure => simp [intOf]
  rcases hk8 with rfl | hk8
  · have hi' := hi.trans (show Value.int .i64 (7 - ((3 : Nat) : Int)) = Value.int .i64 4 from rfl)
    clear hi
    subst hi'
    go_wp2_with (at_builtin
                 refine vk rfl _ _ 81 rfl w.heap.size 5 5 i0 (.int .u8 0) 1 Tryz.underlying81 HI0.out.1 HI0.out.2.1 HI0.out.2.2.1 HI0.out.2.2.2 rfl _ _ _ rfl HO.out _ rfl rfl (by omega) (by omega) HK.out.size ?_
                 intro v' w3 hown3 hgrow
                 have HO3 := hQ_ hown3
                 have HK3 := hQ_ (yh HK.out hgrow HO.out (Nat.le_refl _))
                 clear hown3 hgrow)
    go_roundw
    case rel => exact ⟨4, by omega, rfl, by have := HO3.out; rw [HL.out] at this ⊢; exact this, HK3.out⟩
    case measure => simp [intOf]
  rcases hk8 with rfl | hk8
  · have hi' := hi.trans (show Value.int .i64 (7 - ((4 : Nat) : Int)) = Value.int .i64 3 from rfl)
    clear hi
    subst hi'
    go_wp2_with (at_builtin
                 refine vk rfl _ _ 81 rfl w.heap.size 5 5 i0 (.int .u8 0) 1 Tryz.underlying81 HI0.out.1 HI0.out.2.1 HI0.out.2.2.1 HI0.out.2.2.2 rfl _ _ _ rfl HO.out _ rfl rfl (by omega) (by omega) HK.out.size ?_
                 intro v' w3 hown3 hgrow
                 have HO3 := hQ_ hown3
                 have HK3 := hQ_ (yh HK.out hgrow HO.out (Nat.le_refl _))
                 clear hown3 hgrow)
    go_roundw
    case rel => exact ⟨5, by omega, rfl, by have := HO3.out; rw [HL.out] at this ⊢; exact this, HK3.out⟩
    case measure => simp [intOf]
  rcases hk8 with rfl | hk8
  · have hi' := hi.trans (show Value.int .i64 (7 - ((5 : Nat) : Int)) = Value.int .i64 2 from rfl)
    clear hi
    subst hi'
    go_wp2_with (at_builtin
                 refine vk rfl _ _ 81 rfl w.heap.size 5 5 i0 (.int .u8 0) 1 Tryz.underlying81 HI0.out.1 HI0.out.2.1 HI0.out.2.2.1 HI0.out.2.2.2 rfl _ _ _ rfl HO.out _ rfl rfl (by omega) (by omega) HK.out.size ?_
                 intro v' w3 hown3 hgrow
                 have HO3 := hQ_ hown3
                 have HK3 := hQ_ (yh HK.out hgrow HO.out (Nat.le_refl _))
                 clear hown3 hgrow)
    go_roundw
    case rel => exact ⟨6, by omega, rfl, by have := HO3.out; rw [HL.out] at this ⊢; exact this, HK3.out⟩
    case measure => simp [intOf]
  rcases hk8 with rfl | hk8
  · have hi' := hi.trans (show Value.int .i64 (7 - ((6 : Nat) : Int)) = Value.int .i64 1 from rfl)
    clear hi
    subst hi'
    go_wp2_with (at_builtin
                 refine vk rfl _ _ 81 rfl w.heap.size 5 5 i0 (.int .u8 0) 1 Tryz.underlying81 HI0.out.1 HI0.out.2.1 HI0.out.2.2.1 HI0.out.2.2.2 rfl _ _ _ rfl HO.out _ rfl rfl (by omega) (by omega) HK.out.size ?_
                 intro v' w3 hown3 hgrow
                 have HO3 := hQ_ hown3
                 have HK3 := hQ_ (yh HK.out hgrow HO.out (Nat.le_refl _))
                 clear hown3 hgrow)
    go_roundw
    case rel => exact ⟨7, by omega, rfl, by have := HO3.out; rw [HL.out] at this ⊢; exact this, HK3.out⟩
    case measure => simp [intOf]
  rcases hk8 with rfl | rfl
  · have hi' := hi.trans (show Value.int .i64 (7 - ((7 : Nat) : Int)) = Value.int .i64 0 from rfl)
    clear hi
    subst hi'
    go_wp2_with (at_builtin
                 refine vk rfl _ _ 81 rfl w.heap.size 5 5 i0 (.int .u8 0) 1 Tryz.underlying81 HI0.out.1 HI0.out.2.1 HI0.out.2.2.1 HI0.out.2.2.2 rfl _ _ _ rfl HO.out _ rfl rfl (by omega) (by omega) HK.out.size ?_
                 intro v' w3 hown3 hgrow
                 have HO3 := hQ_ hown3
                 have HK3 := hQ_ (yh HK.out hgrow HO.out (Nat.le_refl _))
                 clear hown3 hgrow)
    go_roundw
    case rel => exact ⟨8, by omega, rfl, by have := HO3.out; rw [HL.out] at this ⊢; exact this, HK3.out⟩
    case measure => simp [intOf]
  · have hi' := hi.trans (show Value.int .i64 (7 - ((8 : Nat) : Int)) = Value.int .i64 (-1) from rfl)
    clear hi
    subst hi'
    have hown := HO.out
    rw [List.take_of_length_le (by rw [HL.out]; exact Nat.le_refl _)] at hown
    obtain ⟨A', cap', rfl, hbb, _, _⟩ := ze4 hown
    have hcv := zb2 ‹World› A' 8 cap' s (by rw [<- z4, HD.out.2]; rfl) (by rw [HD.out.2, HD.out.1, <- HL.out]; exact hbb)
    clear hown hbb HO
    go_wp2_with fail
    go_ret
    exact ⟨rfl, HK.out⟩
end
section
theorem vw {w : World} {g : Nat} {t : TypeId} {cs : Array Value} (h : Blk w g t cs) : w.rangeAt g 0 cs.toList := fun j v hv => by
 rw [Nat.zero_add, h.cell, <- Array.getElem?_toList]; exact hv
theorem row_kept {w : World} {x : Nat} (sv : Array Value) : Kept (fun j => j = x) w (w.setRow x sv) := Kept.of_grown (zc (World.grownBy.refl w (some x)) (.inr rfl) _) (fun _ e => by injection e with e; exact e.symm)
theorem texts3 {w : World} {q : Nat} {a b c : ByteArray} (h : Blk w q 9 #[.string a, .string b, .string c]) : TextsI w (some ⟨q, 0, none⟩) [a, b, c] := fun j hj => by
 have hj3 : j = 0 \/ j = 1 \/ j = 2 := by have : j < 3 := hj; omega
 have e := h.cell j
 rw [show (⟨q, j, none⟩ : Addr) = (⟨q, 0, none⟩ : Addr).add j by rw [Go.WideShapes.add_plain, Nat.zero_add]] at e
 rcases hj3 with rfl | rfl | rfl
 · exact ⟨_, rfl, e⟩
 · exact ⟨_, rfl, e⟩
 · exact ⟨_, rfl, e⟩
theorem b8_range (n : Int) : ∀ z ∈ b8 n, 0 <= z /\ z < 256 := by
 intro z hz
 simp only [b8, List.mem_cons, List.not_mem_nil, or_false] at hz
 omega
theorem b8_str (n : Int) : ∃ s : ByteArray, xsOf s = b8 n /\ s.size = 8 := by
 obtain ⟨s, hs⟩ := zbd (b8 n) (b8_range n)
 exact ⟨s, hs, by rw [<- z4, hs]; rfl⟩
theorem dig_str16 (d : List Int) (h : isDig d) : ∃ s : ByteArray, xsOf s = d /\ s.size = 16 := by
 obtain ⟨s, hs⟩ := zbd d h.2
 exact ⟨s, hs, by rw [<- z4, hs, h.1]⟩
theorem frm_le (a0 : Int) (ts : List ByteArray) (h : ∀ t ∈ ts, t.size <= 16) (hl : ts.length <= 3) : (vz a0 (ts.map xsOf)).length <= 50000 := by
 have := uo a0 16 (ts.map xsOf) (fun q hq => by
  obtain ⟨t, ht, rfl⟩ := List.mem_map.1 hq
  rw [z4]; exact h t ht)
 rw [List.length_map] at this
 have h2 : ts.length * (16 + 4) <= 3 * 20 := Nat.mul_le_mul hl (by omega)
 omega
theorem rforV_is (w : World) (e r : Int) (he : -9223372036854775808 <= e /\ e < 9223372036854775808) (hr : -9223372036854775808 <= r /\ r < 9223372036854775808) (d : List Int) (hd : isDig d) (dd : Array Value) (hdd : dd = arrV .u8 d) :
    Calls Tryz.prog 41 #[.int .i64 e, .int .i64 r, .agg dd] w fun e' w' => e' = .returned (.agg (arrV .u8 (forV e r d))) /\ w.grownBy w' none := by
 obtain ⟨Z16, hZ16⟩ : ∃ Z, Z = arrV .u8 (List.replicate 16 0) := ⟨_, rfl⟩
 have hz16 : ∀ w, Sem.run Tryz.prog (zeroValue 24) w = .ok (.agg Z16) w := fun w => by rw [hZ16]; exact z16run w
 obtain ⟨q, hq⟩ : ∃ q, w.heap.size = q := ⟨_, rfl⟩
 obtain ⟨w1, hw1⟩ : ∃ w1, (w.alloc (.cells dd 24)).alloc (.cells Z16 24) = w1 := ⟨_, rfl⟩
 have b1 : Blk w1 q 24 dd := by rw [<- hw1, <- hq]; exact (Blk.new w _ _).alloc _
 have b2 : Blk w1 (q + 1) 24 Z16 := by
  have h := Blk.new (w.alloc (.cells dd 24)) 24 Z16
  rw [World.size_alloc, hw1, hq] at h
  exact h
 have g1 : w.grownBy w1 none := by rw [<- hw1]; exact za (gQ) (gQ)
 obtain ⟨V1, hV1⟩ : ∃ V1, w1.drew = V1 := ⟨_, rfl⟩
 have hb : Blk V1 (q + 1) 24 Z16 /\ w.grownBy V1 none /\ Blk V1 q 24 dd := by rw [<- hV1]; exact ⟨b2.drew, zh g1, b1.drew⟩
 have HB := hQ_ (aQ hb.1 (aQ hb.2.1 (aQ (show Z16.size = 16 by rw [hZ16]; rfl) (aQ hq (aQ hb.2.2 (show dd.size = 16 by rw [hdd, zf, hd.1]))))))
 have HW := hQ_ (aQ hw1 hV1)
 obtain ⟨s1, h1, z1⟩ := b8_str e
 obtain ⟨s2, h2, z2⟩ := b8_str r
 obtain ⟨s3, h3, z3⟩ := dig_str16 d hd
 have HS := hQ_ (aQ h1 (aQ z1 (aQ h2 (aQ z2 (aQ h3 z3)))))
 obtain ⟨F, hF⟩ : ∃ F, arrV .u8 (forV e r d) = F := ⟨_, rfl⟩
 have hFz : F.size = 16 := by rw [<- hF, zf]; exact zag _ _
 have hFo : (F.all fun v => v.oneCell') = true := by rw [<- hF]; exact zu _ _
 have HF := hQ_ (aQ hF (aQ hFz hFo))
 have HX := hQ_ (aQ he (aQ hr (aQ hd hdd)))
 clear hZ16 b1 b2 g1 hw1 hV1 hF hFz hFo he hr hd hdd hb h1 z1 h2 z2 h3 z3
 go_enter Tryz.func41, Tryz.ntmps41
 go_upto_region 1 with (fail)
 clear hz16
 rw [HW.out.1]
 refine wp_region_held_drew (S := fun V => V.rangeAt q 0 dd.toList) (by kernel_rfl) (by rw [HW.out.2]; exact vw HB.out.2.2.2.2.1) (fun hHeld => ?_)
 rw [HW.out.2] at hHeld ⊢
 refine wpAnyH_take (i := 0) (oi := _) (v := ?vv0) rfl (by kernel_rfl) (by kernel_rfl) (by kernel_rfl) (fun _ _ _ h => h) (Or.inl ⟨by rfl, ?hyv0⟩) (by assumption) ?restv0
 case hyv0 => (intro V hSw; (try dsimp only at hSw); go_simp) <;> with_reducible rfl
 try simp only [Act.put, List.getElem_toArray, List.getElem_cons_succ, List.getElem_cons_zero, List.setIfInBounds_toArray, List.set_cons_zero, List.set_cons_succ]
 refine wpAnyH_take (i := 2) (oi := _) (v := ?vv2) rfl (by kernel_rfl) (by kernel_rfl) (by kernel_rfl) (fun _ _ _ h => h) (Or.inl ⟨by rfl, ?hyv2⟩) (by assumption) ?restv2
 case hyv2 => (intro V hSw; (try dsimp only at hSw); go_simp) <;> with_reducible rfl
 try simp only [Act.put, List.getElem_toArray, List.getElem_cons_succ, List.getElem_cons_zero, List.setIfInBounds_toArray, List.set_cons_zero, List.set_cons_succ]
 refine wpAnyH_take (i := 4) (oi := _) (v := .agg dd) rfl (by kernel_rfl) (by kernel_rfl) (by kernel_rfl) (fun _ _ _ h => h) (yieldsIf_load_mid (by rfl) _ _ rfl q 0 rfl dd.toList _ (fun V hSw => hSw) Tryz.underlying24 rfl (by rw [Array.length_toList, HB.out.2.2.2.2.2]; exact info16)) (by assumption) ?restv4
 try simp only [Act.put, List.getElem_toArray, List.getElem_cons_succ, List.getElem_cons_zero, List.setIfInBounds_toArray, List.set_cons_zero, List.set_cons_succ]
 refine wpAnyH_ready (rs := [1]) (by kernel_rfl) (by simp) ?_
 refine (AllReadyH.cons (o := _) rfl (fun K9 hK => ?_) AllReadyH.nil)
 go_simp
 refine (rwide_is V1 e HX.out.1 s1 HS.out.1).mono ?_
 rintro e1 w2 ⟨rfl, g2⟩
 have H2 := hQ_ g2
 clear g2
 (try go_wp2_with fail)
 refine hK.out _ _ (vw (HB.out.2.2.2.2.1.grown H2.out (by simp))) (fun hHeld => ?_)
 clear hK K9
 try simp only [Act.put, List.getElem_toArray, List.getElem_cons_succ, List.getElem_cons_zero, List.setIfInBounds_toArray, List.set_cons_zero, List.set_cons_succ]
 refine wpAnyH_ready (rs := [3]) (by kernel_rfl) (by simp) ?_
 refine (AllReadyH.cons (o := _) rfl (fun K9 hK => ?_) AllReadyH.nil)
 go_simp
 refine (rwide_is w2 r HX.out.2.1 s2 HS.out.2.2.1).mono ?_
 rintro e1 w3 ⟨rfl, g3⟩
 have H3 := hQ_ g3
 clear g3
 (try go_wp2_with fail)
 refine hK.out _ _ (vw (HB.out.2.2.2.2.1.grown (za H2.out H3.out) (by simp))) (fun hHeld => ?_)
 clear hK K9
 try simp only [Act.put, List.getElem_toArray, List.getElem_cons_succ, List.getElem_cons_zero, List.setIfInBounds_toArray, List.set_cons_zero, List.set_cons_succ]
 refine wpAnyH_ready (rs := [5]) (by kernel_rfl) (by simp) ?_
 refine (AllReadyH.cons (o := _) rfl (fun K9 hK => ?_) AllReadyH.nil)
 go_simp
 rw [HX.out.2.2.2]
 refine (zd3 w3 d HX.out.2.2.1.1 s3 HS.out.2.2.2.2.1).mono ?_
 rintro e1 w4 ⟨rfl, g4⟩
 have H4 := hQ_ g4
 clear g4
 (try go_wp2_with fail)
 refine hK.out _ _ (vw (HB.out.2.2.2.2.1.grown (za H2.out (za H3.out H4.out)) (by simp))) (fun hHeld => ?_)
 clear hK K9
 try simp only [Act.put, List.getElem_toArray, List.getElem_cons_succ, List.getElem_cons_zero, List.setIfInBounds_toArray, List.set_cons_zero, List.set_cons_succ]
 refine wpAnyH_ready (rs := [6]) (by kernel_rfl) (by simp) ?_
 refine (AllReadyH.cons (o := _) rfl (fun K9 hK => ?_) AllReadyH.nil)
 go_simp
 have g5 := World.grownBy_alloc w4 (.cells #[.string s1, .string s2, .string s3] 9) none
 have b5 := Blk.new w4 9 #[.string s1, .string s2, .string s3]
 obtain ⟨w5, hw5⟩ : ∃ w5, w4.alloc (.cells #[.string s1, .string s2, .string s3] 9) = w5 := ⟨_, rfl⟩
 rw [hw5] at g5 b5 ⊢
 have g15 := za H2.out (za H3.out (za H4.out g5))
 have hts : ∀ t ∈ [s1, s2, s3], t.size <= 16 := fun t ht => by
  simp only [List.mem_cons, List.not_mem_nil, or_false] at ht
  obtain ⟨_, z1, _, z2, _, z3⟩ := HS.out
  rcases ht with rfl | rfl | rfl <;> omega
 have HO := hQ_ (rof_is w5 7 (some ⟨w4.heap.size, 0, none⟩) 3 3 [s1, s2, s3] rfl (texts3 b5) (by omega) (fun t ht => by have := hts t ht; omega) (frm_le _ _ hts (by simp)))
 have HG := hQ_ (aQ (HB.out.1.grown g15 (by simp)) (aQ (za HB.out.2.1 g15) (HB.out.2.2.2.2.1.grown g15 (by simp))))
 clear g5 b5 g15 hw5 hts
 refine hK.out _ _ (vw HG.out.2.2) (fun hHeld => ?_)
 clear hK K9
 try simp only [Act.put, List.getElem_toArray, List.getElem_cons_succ, List.getElem_cons_zero, List.setIfInBounds_toArray, List.set_cons_zero, List.set_cons_succ]
 refine wpAnyH_ready (rs := [7]) (by kernel_rfl) (by simp) ?_
 refine (AllReadyH.cons (o := _) rfl (fun K9 hK => ?_) AllReadyH.nil)
 go_simp
 refine HO.out.mono ?_
 rintro e1 w6 ⟨rfl, g6⟩
 rw [show arrV .u8 (ofS 7 ([s1, s2, s3].map xsOf)) = F by rw [<- HF.out.1, List.map_cons, List.map_cons, List.map_cons, List.map_nil, HS.out.1, HS.out.2.2.1, HS.out.2.2.2.2.1]; rfl]
 have HB3 := hQ_ (aQ (HG.out.1.grown g6 (by simp)) (aQ (za HG.out.2.1 g6) (HG.out.2.2.grown g6 (by simp))))
 clear g6
 (try go_wp2_with fail)
 refine hK.out _ _ (vw HB3.out.2.2) (fun hHeld => ?_)
 clear hK K9
 try simp only [Act.put, List.getElem_toArray, List.getElem_cons_succ, List.getElem_cons_zero, List.setIfInBounds_toArray, List.set_cons_zero, List.set_cons_succ]
 refine wpAnyH_ready (rs := [8]) (by kernel_rfl) (by simp) ?_
 refine (AllReadyH.cons (o := _) rfl (fun K9 hK => ?_) AllReadyH.nil)
 refine ready_store_mid (by rfl) 24 _ _ rfl (q + 1) 0 F rfl rfl (zw HB3.out.1 (by rw [HF.out.2.1, HB.out.2.2.1]; exact Nat.le_refl _)) (by rw [HF.out.2.1]; exact info16) HF.out.2.2 ?_
 rw [zi (P := Tryz.prog) (ty := 24) HB3.out.1 (by rw [HF.out.2.1]; exact info16) (by rw [HF.out.2.1, HB.out.2.2.1]) HF.out.2.2]
 refine hK.out _ _ (vw (HB3.out.2.2.kept (row_kept F) (show ¬ q = q + 1 by omega))) (fun hHeld => ?_)
 clear hK K9
 try simp only [Act.put, List.getElem_toArray, List.getElem_cons_succ, List.getElem_cons_zero, List.setIfInBounds_toArray, List.set_cons_zero, List.set_cons_succ]
 refine wpAnyH_done (by kernel_rfl) ?_ _
 go_wp2_with fail
 refine bodyPost_ret (z5 rfl _ _ _ ⟨q + 1, 0, none⟩ (.agg F) rfl (run_loadVar_row _ (q + 1) 24 24 _ (0, 0) _ (HB3.out.1.row _) Tryz.underlying24 rfl (by rw [HF.out.2.1]; exact info16))) rfl ?_
 exact ⟨by rw [HF.out.1], zc HB3.out.2.1 (.inl (by rw [HB.out.2.2.2.1]; omega)) _⟩
end
section
theorem zba {w : World} {base : Nat} {A : Option Addr} {n c : Nat} {l : List UInt8} (h : w.ownsRow base 5 1 (.slice A n c) n (Lib.byteCells l)) : zt w A l := fun hl => by
 have hn : l.length = n := by have := h.1; simpa [Lib.byteCells] using this
 obtain ⟨g, cap, hv⟩ := Joins.ownsRow_form h (by have := List.length_pos_iff.2 hl; omega)
 have hA : A = some ⟨g, 0, none⟩ := by injection hv
 refine ⟨_, hA, fun j hj => h.cells (g := g) (by rw [hv]; rfl) j _ ?_⟩
 simp [Lib.byteCells, List.getElem?_eq_getElem hj]
theorem clone_any (w : World) (A : Option Addr) (n c : Nat) (l : List UInt8) (hn : l.length = n) (hl : zt w A l) (hlen : n <= 140737488355328) :
    Calls Tryz.prog 105 #[.slice A n c] w fun e w' => ∃ A' c', e = .returned (.slice A' n c') /\ w'.ownsRow w.heap.size 5 1 (.slice A' n c') n (Lib.byteCells l) /\ w.grownBy w' none := by
 obtain ⟨i0, hi, hz0, hz1, hz2⟩ := info_parts zdg
 have Hlen := hQ_ hlen
 clear hlen
 have hq : ∀ (w : World) (a : Option Addr) (n c n' c' : Nat), (binOp .eql 81 (.slice a n c) (.slice none n' c')).run Tryz.prog w = .ok (.bool a.isNone) w := fun w a n c n' c' => Lib.run_eql_slice_nil w _ _ a n c n' c' Tryz.underlying81
 subst hn
 rcases A with _ | ad
 · have hl0 : l = [] := by
     rcases l with _ | ⟨x, r⟩
     · rfl
     · obtain ⟨_, h, _⟩ := hl (by simp)
       cases h
   subst hl0
   go_enter Tryz.func105, Tryz.ntmps105
   go_wp2
   go_ret
   exact ⟨none, 0, rfl, World.ownsRow_nil _ _ _ _, World.grownBy.refl _ _⟩
 · go_enter Tryz.func105, Tryz.ntmps105
   go_wp2_with (at_builtin; refine uk _ rfl _ _ 81 rfl w.heap.size 5 i0 (.int .u8 0) Tryz.underlying81 hi hz0 hz1 hz2 rfl _ _ _ rfl (World.ownsRow_made w #[] 0 (Nat.le_refl _) (Nat.zero_le _) rfl) (some ad) c l rfl (hl.alloc _) ?_ ?_ ?_)
   · simpa using Hlen.out
   · simp
   intro A' cap' w1 hown hgrow _
   go_wp2
   go_ret
   exact ⟨A', cap', rfl, hown, grown_new hgrow⟩
/-! ### Done -/
theorem done_ok (w : World) (F : Nat -> Prop) (g : Nat) (l : List UInt8) (hw : WrIs w F g .nilIface l) (hl : l.length <= 140737488355328) :
    Calls Tryz.prog 86 #[.pointer (some ⟨g, 0, none⟩)] w fun e w' => ∃ A c, e = .returned (.tuple #[.slice A l.length c, .nilIface]) /\ w'.ownsRow w.heap.size 5 1 (.slice A l.length c) l.length (Lib.byteCells l) /\ w.grownBy w' none := by
 obtain ⟨hBg, bA, bc, hb, hown, hF⟩ := hw
 have c0 := hb.cell 0
 have c1 := hb.cell 1
 simp at c0 c1
 go_enter Tryz.func86, Tryz.ntmps86
 go_wp2_with (go_at_call 105; refine (clone_any _ bA l.length bc l rfl (zba hown) hl).mono ?_; rintro e w1 ⟨A, c, rfl, hown1, hg1⟩)
 go_ret2
 exact ⟨A, c, rfl, hown1, hg1⟩
theorem done_err (w : World) (F : Nat -> Prop) (g : Nat) (t : TypeId) (v : Value) (l : List UInt8) (hw : WrIs w F g (.iface t v) l) :
    Calls Tryz.prog 86 #[.pointer (some ⟨g, 0, none⟩)] w fun e w' => e = .returned (.tuple #[.slice none 0 0, .iface t v]) /\ w.grownBy w' none := by
 obtain ⟨hBg, bA, bc, hb, hown, hF⟩ := hw
 have c0 := hb.cell 0
 simp at c0
 go_enter Tryz.func86, Tryz.ntmps86
 go_wp2
 go_quiet (fail)
 go_wp2
 go_ret2
 exact ⟨rfl, rfl, rfl, rfl, Nat.le_refl _, fun _ _ _ => rfl⟩
/-! ### NewWriter, Flag, Fixed, Bytes without an error -/
theorem new_ok (w : World) : Calls Tryz.prog 85 #[] w fun e w' => e = .returned (.pointer (some ⟨w.heap.size, 0, none⟩)) /\ w' = w.alloc (.cells #[.nilIface, .slice none 0 0] 198) := by
 go_enter Tryz.func85, Tryz.ntmps85
 go_wp2
 go_ret
 exact ⟨rfl, rfl⟩
theorem WrIs.new (w : World) {F : Nat -> Prop} (hF : F w.heap.size) : WrIs (w.alloc (.cells #[.nilIface, .slice none 0 0] 198)) F w.heap.size .nilIface [] :=
 ⟨hF, none, 0, Blk.new _ _ _, World.ownsRow_nil _ _ _ _, fun _ h => by cases h⟩
theorem fixed_ok (w : World) (F : Nat -> Prop) (g : Nat) (l : List UInt8) (A : Option Addr) (m c : Nat) (x : List UInt8) (hm : x.length = m) (hw : WrIs w F g .nilIface l) (hx : zt w A x)
    (hn : l.length + x.length <= 140737488355328) :
    Calls Tryz.prog 107 #[.pointer (some ⟨g, 0, none⟩), .slice A m c] w fun e w' => e = .returned (.tuple #[]) /\ WrIs w' (upTo F w.heap.size w'.heap.size) g .nilIface (l ++ x) /\ Kept F w w' := by
 go_enter Tryz.func107, Tryz.ntmps107
 go_wp2_with (go_at_call 126; refine (write_ok _ F g l A m c x hm hw hx hn).mono ?_; rintro e w1 ⟨rfl, hw1, hb1⟩)
 go_end0
 exact ⟨rfl, hw1, hb1⟩
theorem bytes_ok (w : World) (F : Nat -> Prop) (g : Nat) (l : List UInt8) (A : Option Addr) (m c : Nat) (most : Int) (x : List UInt8) (hm : x.length = m) (hw : WrIs w F g .nilIface l) (hx : zt w A x) (hA : ∀ ad, A = some ad -> x ≠ [] -> ¬ F ad.block)
    (hn : l.length <= 70368744177664) (h1 : (m : Int) <= most) (h2 : m <= 65535) :
    Calls Tryz.prog 112 #[.pointer (some ⟨g, 0, none⟩), .slice A m c, .int .i64 most] w fun e w' => e = .returned (.tuple #[]) /\ WrIs w' (upTo F w.heap.size w'.heap.size) g .nilIface (l ++ (be 2 m ++ x)) /\ Kept F w w' := by
 have a1 : decide (most < (m : Int)) = false := by simp; omega
 have a2 : decide ((65535 : Int) < (m : Int)) = false := by simp; omega
 have Hm := hQ_ hm
 clear hm
 go_enter Tryz.func112, Tryz.ntmps112
 go_wp2_with fail
 refine (number_ok _ F g l m 2 hw (by omega) (by omega) (by omega) hn).mono ?_
 rintro e w1 ⟨rfl, hw1, hb1⟩
 go_wp2_with fail
 refine (fixed_ok _ _ g _ A m _ x Hm.out hw1 (hx.kept' hb1 hA) ?_).mono ?_
 · have := Hm.out; simp [zau]; omega
 rintro e w2 ⟨rfl, hw2, hb2⟩
 go_wp2_with fail
 go_end0
 have s1 := hb1.size
 have s2 := hb2.size
 exact ⟨rfl, by simpa using hw2.mono fun k _ h => zez s1 s2 k h, hb1.trans hb2⟩
end
end Go.Proofs.YtigafnbofmiknaaGreatDoor
