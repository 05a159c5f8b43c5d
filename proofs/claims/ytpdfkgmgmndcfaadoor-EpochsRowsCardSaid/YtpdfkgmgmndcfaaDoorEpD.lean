/-
  EpochsApart, walked.
-/
import Derived.BigQuiet
import Derived.Deep.QuietTactic
import Derived.Test.YtpdfkgmgmndcfaaDoorEpC
namespace Go.Proofs.YtpdfkgmgmndcfaaDoor
open Go.RowKit

attribute [local go_sem] Oper.semAt_some

theorem own_vdsE {w : World} {base n c : Nat} {A : Option Addr} {V : List Vd} (ok : keysOk V) (h : w.ownsRow base 45 17 (.slice A n c) n (V.flatMap Vd.cells)) : VdsAt w A V := by
  obtain ⟨A5, c5, e5, _, hv, _⟩ := own_vds ok h
  injection e5 with e1
  rw [e1]; exact hv
theorem zgr_sz : zGr.size = 18 := grV_size (by rw [zD16, arr_size]; rfl)
set_option maxRecDepth 100000 in
set_option maxHeartbeats 4000000 in
theorem apart_any (w : World) (E : Nat → Addr) (hR : Rounds w) (he : ErrAt w w.heap.size 3 (E 0)) (es ee : Addr) (hes : ErrAt w w.heap.size 1 es) (hee : ErrAt w w.heap.size 0 ee)
    (A : Option Addr) (c n : Nat) (V : List Vd) (hn : V.length = n) (hV : VdsAt w A V) (ok : keysOk V) (la : List Int) (hla : isDig la) (lb : List Int) (hlb : isDig lb) (DA DB : Array Value) (hDA : DA = arrV .u8 la) (hDB : DB = arrV .u8 lb) :
    Calls Tryd.prog 3 #[.slice A n c, .agg DA, .agg DB] w fun e w' => e = .returned (.bool true) ∧ w.grownBy w' none := by
  obtain ⟨GZ, hGZ⟩ : ∃ Z, zGr = Z := ⟨_, rfl⟩
  have hgz : ∀ w, Sem.run Tryd.prog (zeroValue 27) w = .ok (.agg GZ) w := fun w => by rw [← hGZ]; exact zgr_run w
  obtain ⟨Z, hZ⟩ : ∃ Z, zD16 = Z := ⟨_, rfl⟩
  have hz : ∀ w, Sem.run Tryd.prog (zeroValue 24) w = .ok (.agg Z) w := fun w => by rw [← hZ]; exact z16run w
  have hZ16 : Z.size = 16 := by rw [← hZ, zD16, arr_size]; rfl
  have hGs : GZ.size = 18 := by rw [← hGZ]; exact zgr_sz
  have hG1 : (GZ.all fun v => v.oneCell') = true := by rw [← hGZ]; exact grV_one (arr_one _ _)
  obtain ⟨d0, hd0⟩ : ∃ dv, arrV .u8 (idD (genB 1 (List.replicate 16 0))) = dv := ⟨_, rfl⟩
  have hd0s : d0.size = 16 := by rw [← hd0, arr_size, idD_length]
  have hd01 : (d0.all fun v => v.oneCell') = true := by rw [← hd0]; exact arr_one _ _
  have hAs : DA.size = 16 := by rw [hDA, arr_size, hla.1]
  have hBs : DB.size = 16 := by rw [hDB, arr_size, hlb.1]
  obtain ⟨da, hda⟩ : ∃ dv, arrV .u8 (idD (genB 2 la)) = dv := ⟨_, rfl⟩
  obtain ⟨db, hdb⟩ : ∃ dv, arrV .u8 (idD (genB 2 lb)) = dv := ⟨_, rfl⟩
  have hdas : da.size = 16 := by rw [← hda, arr_size, idD_length]
  have hdbs : db.size = 16 := by rw [← hdb, arr_size, idD_length]
  have hda1 : (da.all fun v => v.oneCell') = true := by rw [← hda]; exact arr_one _ _
  have hdb1 : (db.all fun v => v.oneCell') = true := by rw [← hdb]; exact arr_one _ _
  obtain ⟨r, hr⟩ : ∃ r, decide (idD (genB 2 la) = idD (genB 2 lb)) = r := ⟨_, rfl⟩
  obtain ⟨s, hs⟩ : ∃ s, decide (la = lb) = s := ⟨_, rfl⟩
  have heq1 : ∀ V, Sem.run Tryd.prog (Op.equalIn 10000 24 (.agg da) (.agg db)) V = .ok r V := fun V => by rw [← hda, ← hdb, ← hr]; exact eqD V _ _ (idD_length _) (idD_length _)
  have heq2 : ∀ V, Sem.run Tryd.prog (Op.equalIn 10000 24 (.agg DA) (.agg DB)) V = .ok s V := fun V => by rw [hDA, hDB, ← hs]; exact eqD V _ _ hla.1 hlb.1
  have HRS := Lib.hid (show s = true → r = true from fun h => by rw [← hr]; rw [← hs] at h; simp only [decide_eq_true_eq] at h ⊢; rw [h])
  obtain ⟨ca, hca⟩ : ∃ cs, genV 2 DA = cs := ⟨_, rfl⟩
  obtain ⟨cb, hcb⟩ : ∃ cs, genV 2 DB = cs := ⟨_, rfl⟩
  obtain ⟨W1, hW1⟩ : ∃ W1, (w.alloc (.cells DA 24)).alloc (.cells DB 24) = W1 := ⟨_, rfl⟩
  have g1 : w.grownBy W1 none := by rw [← hW1]; exact grown_trans (World.grownBy_alloc _ _ none) (World.grownBy_alloc _ _ none)
  have ba : Blk W1 w.heap.size 24 DA := by rw [← hW1]; exact (Blk.new w _ _).alloc _
  have bb : Blk W1 (w.heap.size + 1) 24 DB := by
    have := Blk.new (w.alloc (.cells DA 24)) 24 DB
    rw [← hW1]; simpa using this
  have hat : ∀ W : World, w.grownBy W none → Rounds W ∧ ErrAt W W.heap.size 3 (E 0) ∧ ErrAt W W.heap.size 1 es ∧ ErrAt W W.heap.size 0 ee ∧ VdsAt W A V := fun W hW =>
    ⟨hR.grown hW (by simp), ⟨hW.cell he.1 (by simp), by have := he.2; have := hW.size; omega⟩, ⟨hW.cell hes.1 (by simp), by have := hes.2; have := hW.size; omega⟩, ⟨hW.cell hee.1 (by simp), by have := hee.2; have := hW.size; omega⟩, hV.grown hW⟩
  have HAL := Lib.hid (alive20 W1 E (hat W1 g1).1 (hat W1 g1).2.1 es (hat W1 g1).2.2.1)
  have HF := Lib.hid (fun (W : World) (hW : w.grownBy W none) (hl : n < 1000) => first_is W E (hat W hW).1 (hat W hW).2.1 es (hat W hW).2.2.1 A c n V hn (hat W hW).2.2.2.2 ok hl)
  have HNA := Lib.hid (fun (W : World) (hW : w.grownBy W none) (hl : n < 1000) (A9 : Value) (gs : Array Value) (hgs : gs = grV 1 A9 d0) => next_is W E (hat W hW).1 (hat W hW).2.1 es ee (hat W hW).2.2.1 (hat W hW).2.2.2.1 1 A9 d0 hd0s gs hgs la hla DA hDA A c n V hn (hat W hW).2.2.2.2 ok hl)
  have HNB := Lib.hid (fun (W : World) (hW : w.grownBy W none) (hl : n < 1000) (A9 : Value) (gs : Array Value) (hgs : gs = grV 1 A9 d0) => next_is W E (hat W hW).1 (hat W hW).2.1 es ee (hat W hW).2.2.1 (hat W hW).2.2.2.1 1 A9 d0 hd0s gs hgs lb hlb DB hDB A c n V hn (hat W hW).2.2.2.2 ok hl)
  have HGA := Lib.hid (fun W : World => genesis_is W 2 DA hAs (by rw [hDA]; exact arr_one _ _) ca hca.symm)
  have HGB := Lib.hid (fun W : World => genesis_is W 2 DB hBs (by rw [hDB]; exact arr_one _ _) cb hcb.symm)
  have HIA := Lib.hid (fun W : World => rid_gen W 2 (by omega) (by omega) la hla ca (by rw [← hca, hDA]) da hda.symm)
  have HIB := Lib.hid (fun W : World => rid_gen W 2 (by omega) (by omega) lb hlb cb (by rw [← hcb, hDB]) db hdb.symm)
  have szD : ∀ d : Array Value, d.size = 16 → (Tryd.prog.info? 24).map (·.size) = some d.size := fun d h => by rw [h]; exact sz_Dg
  have HS := Lib.hid (And.intro (szD DA hAs) (And.intro (szD DB hBs) (And.intro (szD da hdas) (And.intro (szD db hdbs) (And.intro (show Z.size = da.size by rw [hdas, hZ16]) (And.intro (show Z.size = db.size by rw [hdbs, hZ16]) (And.intro hda1 hdb1)))))))
  have HZ := Lib.hid (And.intro hGs (And.intro hG1 (And.intro (show (Tryd.prog.info? 27).map (·.size) = some GZ.size by rw [hGs]; exact sz_Gre) (And.intro hd0 (And.intro hd0s (And.intro hd01 (And.intro hGZ (And.intro hda (And.intro hdb (And.intro hdas hdbs))))))))))
  have HX := Lib.hid (And.intro g1 (And.intro (range_blk0 ba) (range_blk0 bb)))
  have HW := Lib.hid hW1
  clear hat hGZ hZ hZ16 hGs hG1 hd0 hd0s hd01 hAs hBs hda hdb hdas hdbs hda1 hdb1 hr hs hca hcb hW1 g1 ba bb szD hR he hes hee hV ok hn hla hlb hDA hDB
  go_enter Tryd.func3, Tryd.ntmps3
  go_upto_region 1 with (fail)
  rw [HW.out]
  go_wp2_with fail
  refine HAL.out.mono ?_
  rintro e w2 ⟨rfl, g2⟩
  have HGg2 := Lib.hid g2
  clear g2
  by_cases h7 : 7 < n
  · have a1 : decide ((7 : Int) < (n : Int)) = true := by simp; omega
    clear h7
    go_wp2_with fail
    go_ret
    exact ⟨rfl, grown_trans HX.out.1 HGg2.out⟩
  have a1 : decide ((7 : Int) < (n : Int)) = false := by simp; omega
  have hl : n < 1000 := by omega
  clear h7
  go_upto_region 5 with (fail)
  clear a1
  go_wp2_with fail
  refine (HF.out w2 (grown_trans HX.out.1 HGg2.out) hl).mono ?_
  rintro e w3 ⟨g3, ⟨hr1, A1, c1, rfl, _⟩ | ⟨hr1, rfl⟩⟩
  · obtain ⟨gv, hgv⟩ : ∃ gv, grV 1 (.slice A1 n c1) d0 = gv := ⟨_, rfl⟩
    rw [HZ.out.2.2.2.1, hgv]
    have hgs : gv.size = 18 := by rw [← hgv]; exact grV_size HZ.out.2.2.2.2.1
    have HV := Lib.hid (And.intro hgv (And.intro (show (Tryd.prog.info? 27).map (·.size) = some gv.size by rw [hgs]; exact sz_Gre) (And.intro (show GZ.size = gv.size by rw [hgs, HZ.out.1]) (And.intro (show (gv.all fun v => v.oneCell') = true by rw [← hgv]; exact grV_one HZ.out.2.2.2.2.2.1) hr1))))
    clear hgv hgs hr1
    have HGg3 := Lib.hid g3
    clear g3
    obtain ⟨q4, hq4⟩ : ∃ q, w3.heap.size = q := ⟨_, rfl⟩
    obtain ⟨W4, hW4⟩ : ∃ W, (w3.alloc (.cells GZ 27)).setRow q4 gv = W := ⟨_, rfl⟩
    have bn4 : Blk (w3.alloc (.cells GZ 27)) q4 27 GZ := by rw [← hq4]; exact Blk.new w3 27 GZ
    have b4 : Blk W4 q4 27 gv := by rw [← hW4]; exact bn4.row _
    have g4 : w3.grownBy W4 none := by rw [← hW4]; exact grown_row (World.grownBy_alloc _ _ none) (.inl (by rw [hq4]; exact Nat.le_refl _)) _
    have HP4 := Lib.hid (And.intro bn4 hW4)
    have HB4 := Lib.hid b4
    clear bn4 hW4 b4
    have HGg4 := Lib.hid g4
    clear g4
    go_upto_region 6 with (refine wpList_store_row rfl 27 _ _ rfl (q4) gv rfl rfl 27 _ HP4.out.1 (HV.out.2.1) (HV.out.2.2.1) HV.out.2.2.2.1 ?_)
    rw [HP4.out.2]
    clear hq4
    go_upto_region 8 with (fail)
    go_wp2_with (first
      | (refine wpList_load_mid rfl 27 _ rfl (q4) 0 rfl gv.toList _ (range_blk0 (HB4.out)) Tryd.underlying27 rfl (by rw [Array.length_toList]; exact HV.out.2.1) ?_; rw [Array.toArray_toList])
      | (refine wpList_load_mid rfl 24 _ rfl (w.heap.size) 0 rfl DA.toList _ (range_kept HX.out.2.1 (grown_trans (grown_trans HGg2.out HGg3.out) HGg4.out)) Tryd.underlying24 rfl (by rw [Array.length_toList]; exact HS.out.1) ?_; rw [Array.toArray_toList]))
    refine (HNA.out W4 (grown_trans HX.out.1 (grown_trans (grown_trans HGg2.out HGg3.out) HGg4.out)) hl _ gv HV.out.1.symm).mono ?_
    rintro e w5 ⟨g5, ⟨_, _, A5, c5, rfl, _⟩ | ⟨hr1, _⟩ | ⟨_, hr1, _⟩⟩
    rotate_left
    · rw [HV.out.2.2.2.2] at hr1; exact absurd hr1 (by simp)
    · exfalso; omega
    obtain ⟨x5, hx5⟩ : ∃ gv, grV 2 (.slice A5 n c5) da = gv := ⟨_, rfl⟩
    rw [show (1 : Int) + 1 = 2 from rfl, HZ.out.2.2.2.2.2.2.2.1, hx5]
    have hgs : x5.size = 18 := by rw [← hx5]; exact grV_size HZ.out.2.2.2.2.2.2.2.2.2.1
    have HV5 := Lib.hid (And.intro hx5 (And.intro (show (Tryd.prog.info? 27).map (·.size) = some x5.size by rw [hgs]; exact sz_Gre) (And.intro (show GZ.size = x5.size by rw [hgs, HZ.out.1]) (show (x5.all fun v => v.oneCell') = true by rw [← hx5]; exact grV_one HS.out.2.2.2.2.2.2.1))))
    clear hx5 hgs
    have HGg5 := Lib.hid g5
    clear g5
    obtain ⟨q6, hq6⟩ : ∃ q, w5.heap.size = q := ⟨_, rfl⟩
    obtain ⟨W6, hW6⟩ : ∃ W, (w5.alloc (.cells GZ 27)).setRow q6 x5 = W := ⟨_, rfl⟩
    have bn6 : Blk (w5.alloc (.cells GZ 27)) q6 27 GZ := by rw [← hq6]; exact Blk.new w5 27 GZ
    have b6 : Blk W6 q6 27 x5 := by rw [← hW6]; exact bn6.row _
    have g6 : w5.grownBy W6 none := by rw [← hW6]; exact grown_row (World.grownBy_alloc _ _ none) (.inl (by rw [hq6]; exact Nat.le_refl _)) _
    have HP6 := Lib.hid (And.intro bn6 hW6)
    have HB6 := Lib.hid b6
    clear bn6 hW6 b6
    have HGg6 := Lib.hid g6
    clear g6
    go_upto_region 9 with (refine wpList_store_row rfl 27 _ _ rfl (q6) x5 rfl rfl 27 _ HP6.out.1 (HV5.out.2.1) (HV5.out.2.2.1) HV5.out.2.2.2 ?_)
    rw [HP6.out.2]
    clear hq6
    go_wp2_with (first
      | (refine wpList_load_mid rfl 27 _ rfl (q4) 0 rfl gv.toList _ (range_blk0 (HB4.out.grown (grown_trans HGg5.out HGg6.out) (by simp))) Tryd.underlying27 rfl (by rw [Array.length_toList]; exact HV.out.2.1) ?_; rw [Array.toArray_toList])
      | (refine wpList_load_mid rfl 24 _ rfl (w.heap.size + 1) 0 rfl DB.toList _ (range_kept HX.out.2.2 (grown_trans (grown_trans (grown_trans (grown_trans HGg2.out HGg3.out) HGg4.out) HGg5.out) HGg6.out)) Tryd.underlying24 rfl (by rw [Array.length_toList]; exact HS.out.2.1) ?_; rw [Array.toArray_toList]))
    refine (HNB.out W6 (grown_trans HX.out.1 (grown_trans (grown_trans (grown_trans (grown_trans HGg2.out HGg3.out) HGg4.out) HGg5.out) HGg6.out)) hl _ gv HV.out.1.symm).mono ?_
    rintro e w7 ⟨g7, ⟨_, _, A7, c7, rfl, _⟩ | ⟨hr1, _⟩ | ⟨_, hr1, _⟩⟩
    rotate_left
    · rw [HV.out.2.2.2.2] at hr1; exact absurd hr1 (by simp)
    · exfalso; omega
    obtain ⟨x7, hx7⟩ : ∃ gv, grV 2 (.slice A7 n c7) db = gv := ⟨_, rfl⟩
    rw [show (1 : Int) + 1 = 2 from rfl, HZ.out.2.2.2.2.2.2.2.2.1, hx7]
    have hgs : x7.size = 18 := by rw [← hx7]; exact grV_size HZ.out.2.2.2.2.2.2.2.2.2.2
    have HV7 := Lib.hid (And.intro hx7 (And.intro (show (Tryd.prog.info? 27).map (·.size) = some x7.size by rw [hgs]; exact sz_Gre) (And.intro (show GZ.size = x7.size by rw [hgs, HZ.out.1]) (show (x7.all fun v => v.oneCell') = true by rw [← hx7]; exact grV_one HS.out.2.2.2.2.2.2.2))))
    clear hx7 hgs
    have HGg7 := Lib.hid g7
    clear g7
    obtain ⟨q8, hq8⟩ : ∃ q, w7.heap.size = q := ⟨_, rfl⟩
    obtain ⟨W8, hW8⟩ : ∃ W, (w7.alloc (.cells GZ 27)).setRow q8 x7 = W := ⟨_, rfl⟩
    have bn8 : Blk (w7.alloc (.cells GZ 27)) q8 27 GZ := by rw [← hq8]; exact Blk.new w7 27 GZ
    have b8 : Blk W8 q8 27 x7 := by rw [← hW8]; exact bn8.row _
    have g8 : w7.grownBy W8 none := by rw [← hW8]; exact grown_row (World.grownBy_alloc _ _ none) (.inl (by rw [hq8]; exact Nat.le_refl _)) _
    have HP8 := Lib.hid (And.intro bn8 hW8)
    have HB8 := Lib.hid b8
    clear bn8 hW8 b8
    have HGg8 := Lib.hid g8
    clear g8
    go_upto_region 10 with (refine wpList_store_row rfl 27 _ _ rfl (q8) x7 rfl rfl 27 _ HP8.out.1 (HV7.out.2.1) (HV7.out.2.2.1) HV7.out.2.2.2 ?_)
    rw [HP8.out.2]
    clear hq8
    have b6 : Blk W8 q6 27 (grV 2 (.slice A5 n c5) da) := by rw [HV5.out.1]; exact HB6.out.grown (grown_trans HGg7.out HGg8.out) (by simp)
    have b8 : Blk W8 q8 27 (grV 2 (.slice A7 n c7) db) := by rw [HV7.out.1]; exact HB8.out
    obtain ⟨k0, _, k2⟩ := gr_cells HZ.out.2.2.2.2.2.2.2.2.2.1 b6
    obtain ⟨m0, _, m2⟩ := gr_cells HZ.out.2.2.2.2.2.2.2.2.2.2 b8
    have HC := Lib.hid (And.intro k2 m2)
    clear b6 b8 k2 m2
    go_upto_region 12 with (fail)
    clear k0 m0
    go_wp2_with (refine wpList_load_mid rfl 24 _ rfl (w.heap.size) 0 rfl DA.toList _ (range_kept HX.out.2.1 (grown_trans (grown_trans (grown_trans (grown_trans (grown_trans (grown_trans HGg2.out HGg3.out) HGg4.out) HGg5.out) HGg6.out) HGg7.out) HGg8.out)) Tryd.underlying24 rfl (by rw [Array.length_toList]; exact HS.out.1) ?_; rw [Array.toArray_toList])
    refine (HGA.out W8).mono ?_
    rintro e w9 ⟨rfl, g9⟩
    have HGg9 := Lib.hid g9
    clear g9
    go_wp2_with fail
    refine (HIA.out w9).mono ?_
    rintro e w10 ⟨rfl, g10⟩
    have HGg10 := Lib.hid g10
    clear g10
    obtain ⟨q11, hq11⟩ : ∃ q, w10.heap.size = q := ⟨_, rfl⟩
    obtain ⟨W11, hW11⟩ : ∃ W, (w10.alloc (.cells Z 24)).setRow q11 da = W := ⟨_, rfl⟩
    have bn11 : Blk (w10.alloc (.cells Z 24)) q11 24 Z := by rw [← hq11]; exact Blk.new w10 24 Z
    have b11 : Blk W11 q11 24 da := by rw [← hW11]; exact bn11.row _
    have g11 : w10.grownBy W11 none := by rw [← hW11]; exact grown_row (World.grownBy_alloc _ _ none) (.inl (by rw [hq11]; exact Nat.le_refl _)) _
    have HP11 := Lib.hid (And.intro bn11 hW11)
    have HB11 := Lib.hid b11
    clear bn11 hW11 b11
    have HGg11 := Lib.hid g11
    clear g11
    go_upto_region 13 with (refine wpList_store_row rfl 24 _ _ rfl (q11) da rfl rfl 24 _ HP11.out.1 (HS.out.2.2.1) (HS.out.2.2.2.2.1) HS.out.2.2.2.2.2.2.1 ?_)
    rw [HP11.out.2]
    clear hq11
    go_wp2_with (refine wpList_load_mid rfl 24 _ rfl (w.heap.size + 1) 0 rfl DB.toList _ (range_kept HX.out.2.2 (grown_trans (grown_trans (grown_trans (grown_trans (grown_trans (grown_trans (grown_trans (grown_trans (grown_trans HGg2.out HGg3.out) HGg4.out) HGg5.out) HGg6.out) HGg7.out) HGg8.out) HGg9.out) HGg10.out) HGg11.out)) Tryd.underlying24 rfl (by rw [Array.length_toList]; exact HS.out.2.1) ?_; rw [Array.toArray_toList])
    refine (HGB.out W11).mono ?_
    rintro e w12 ⟨rfl, g12⟩
    have HGg12 := Lib.hid g12
    clear g12
    go_wp2_with fail
    refine (HIB.out w12).mono ?_
    rintro e w13 ⟨rfl, g13⟩
    have HGg13 := Lib.hid g13
    clear g13
    obtain ⟨q14, hq14⟩ : ∃ q, w13.heap.size = q := ⟨_, rfl⟩
    obtain ⟨W14, hW14⟩ : ∃ W, (w13.alloc (.cells Z 24)).setRow q14 db = W := ⟨_, rfl⟩
    have bn14 : Blk (w13.alloc (.cells Z 24)) q14 24 Z := by rw [← hq14]; exact Blk.new w13 24 Z
    have b14 : Blk W14 q14 24 db := by rw [← hW14]; exact bn14.row _
    have g14 : w13.grownBy W14 none := by rw [← hW14]; exact grown_row (World.grownBy_alloc _ _ none) (.inl (by rw [hq14]; exact Nat.le_refl _)) _
    have HP14 := Lib.hid (And.intro bn14 hW14)
    have HB14 := Lib.hid b14
    clear bn14 hW14 b14
    have HGg14 := Lib.hid g14
    clear g14
    go_upto_region 14 with (refine wpList_store_row rfl 24 _ _ rfl (q14) db rfl rfl 24 _ HP14.out.1 (HS.out.2.2.2.1) (HS.out.2.2.2.2.2.1) HS.out.2.2.2.2.2.2.2 ?_)
    rw [HP14.out.2]
    clear hq14
    have HL := Lib.hid (And.intro (range_kept HC.out.1 (grown_trans (grown_trans (grown_trans (grown_trans (grown_trans HGg9.out HGg10.out) HGg11.out) HGg12.out) HGg13.out) HGg14.out)) (And.intro (range_kept HC.out.2 (grown_trans (grown_trans (grown_trans (grown_trans (grown_trans HGg9.out HGg10.out) HGg11.out) HGg12.out) HGg13.out) HGg14.out)) (And.intro (range_kept (range_blk0 HB11.out) (grown_trans (grown_trans HGg12.out HGg13.out) HGg14.out)) (And.intro (range_blk0 HB14.out) (And.intro (range_kept HX.out.2.1 (grown_trans (grown_trans (grown_trans (grown_trans (grown_trans (grown_trans (grown_trans (grown_trans (grown_trans (grown_trans (grown_trans (grown_trans HGg2.out HGg3.out) HGg4.out) HGg5.out) HGg6.out) HGg7.out) HGg8.out) HGg9.out) HGg10.out) HGg11.out) HGg12.out) HGg13.out) HGg14.out)) (range_kept HX.out.2.2 (grown_trans (grown_trans (grown_trans (grown_trans (grown_trans (grown_trans (grown_trans (grown_trans (grown_trans (grown_trans (grown_trans (grown_trans HGg2.out HGg3.out) HGg4.out) HGg5.out) HGg6.out) HGg7.out) HGg8.out) HGg9.out) HGg10.out) HGg11.out) HGg12.out) HGg13.out) HGg14.out)))))))
    have HFIN := Lib.hid (grown_trans HX.out.1 (grown_trans (grown_trans (grown_trans (grown_trans (grown_trans (grown_trans (grown_trans (grown_trans (grown_trans (grown_trans (grown_trans (grown_trans HGg2.out HGg3.out) HGg4.out) HGg5.out) HGg6.out) HGg7.out) HGg8.out) HGg9.out) HGg10.out) HGg11.out) HGg12.out) HGg13.out) HGg14.out))
    have go : ¬ (s = true ∧ r = false) := fun h => by rw [HRS.out h.1] at h; exact absurd h.2 (by simp)
    cases r <;> cases s
    rotate_left
    · exact absurd ⟨rfl, rfl⟩ go
    all_goals
      clear go
      refine wp_region_quiet_lit (by kernel_rfl) (by kernel_rfl) ?_
      repeat (first
        | go_big_quiet_skip
        | (go_big_quiet_want; first
          | (refine quiet_load_mid 24 _ rfl (q6) 2 rfl da.toList _ (fun W hW => by obtain ⟨n9, rfl⟩ := hW; exact HL.out.1) Tryd.underlying24 rfl (by rw [Array.length_toList]; exact HS.out.2.2.1) ?_; try rw [Array.toArray_toList]; simp only [Act.put, List.setIfInBounds_toArray, List.set_cons_zero, List.set_cons_succ]; go_big_quiet_on)
          | (refine quiet_load_mid 24 _ rfl (q8) 2 rfl db.toList _ (fun W hW => by obtain ⟨n9, rfl⟩ := hW; exact HL.out.2.1) Tryd.underlying24 rfl (by rw [Array.length_toList]; exact HS.out.2.2.2.1) ?_; try rw [Array.toArray_toList]; simp only [Act.put, List.setIfInBounds_toArray, List.set_cons_zero, List.set_cons_succ]; go_big_quiet_on)
          | (refine quiet_load_mid 24 _ rfl (q11) 0 rfl da.toList _ (fun W hW => by obtain ⟨n9, rfl⟩ := hW; exact HL.out.2.2.1) Tryd.underlying24 rfl (by rw [Array.length_toList]; exact HS.out.2.2.1) ?_; try rw [Array.toArray_toList]; simp only [Act.put, List.setIfInBounds_toArray, List.set_cons_zero, List.set_cons_succ]; go_big_quiet_on)
          | (refine quiet_load_mid 24 _ rfl (q14) 0 rfl db.toList _ (fun W hW => by obtain ⟨n9, rfl⟩ := hW; exact HL.out.2.2.2.1) Tryd.underlying24 rfl (by rw [Array.length_toList]; exact HS.out.2.2.2.1) ?_; try rw [Array.toArray_toList]; simp only [Act.put, List.setIfInBounds_toArray, List.set_cons_zero, List.set_cons_succ]; go_big_quiet_on)
          | (refine quiet_load_mid 24 _ rfl (w.heap.size) 0 rfl DA.toList _ (fun W hW => by obtain ⟨n9, rfl⟩ := hW; exact HL.out.2.2.2.2.1) Tryd.underlying24 rfl (by rw [Array.length_toList]; exact HS.out.1) ?_; try rw [Array.toArray_toList]; simp only [Act.put, List.setIfInBounds_toArray, List.set_cons_zero, List.set_cons_succ]; go_big_quiet_on)
          | (refine quiet_load_mid 24 _ rfl (w.heap.size + 1) 0 rfl DB.toList _ (fun W hW => by obtain ⟨n9, rfl⟩ := hW; exact HL.out.2.2.2.2.2) Tryd.underlying24 rfl (by rw [Array.length_toList]; exact HS.out.2.1) ?_; try rw [Array.toArray_toList]; simp only [Act.put, List.setIfInBounds_toArray, List.set_cons_zero, List.set_cons_succ]; go_big_quiet_on)
          | (go_big_quiet_op; go_big_quiet_on)))
      refine wpQuiet_nil ?_
      intro W hW
      obtain ⟨n9, rfl⟩ := hW
      go_wp2_with fail
      go_ret
      have g9 := HFIN.out
      exact ⟨rfl, ⟨g9.os, g9.tape, g9.output, g9.size, g9.block⟩⟩
  · rw [HZ.out.2.2.2.2.2.2.1]
    have HGg3 := Lib.hid g3
    clear g3
    obtain ⟨q4, hq4⟩ : ∃ q, w3.heap.size = q := ⟨_, rfl⟩
    obtain ⟨W4, hW4⟩ : ∃ W, (w3.alloc (.cells GZ 27)).setRow q4 GZ = W := ⟨_, rfl⟩
    have bn4 : Blk (w3.alloc (.cells GZ 27)) q4 27 GZ := by rw [← hq4]; exact Blk.new w3 27 GZ
    have b4 : Blk W4 q4 27 GZ := by rw [← hW4]; exact bn4.row _
    have g4 : w3.grownBy W4 none := by rw [← hW4]; exact grown_row (World.grownBy_alloc _ _ none) (.inl (by rw [hq4]; exact Nat.le_refl _)) _
    have HP4 := Lib.hid (And.intro bn4 hW4)
    have HB4 := Lib.hid b4
    clear bn4 hW4 b4
    have HGg4 := Lib.hid g4
    clear g4
    go_upto_region 6 with (refine wpList_store_row rfl 27 _ _ rfl (q4) GZ rfl rfl 27 _ HP4.out.1 (HZ.out.2.2.1) (rfl) HZ.out.2.1 ?_)
    rw [HP4.out.2]
    clear hq4
    go_wp2_with fail
    go_ret
    exact ⟨rfl, grown_trans HX.out.1 (grown_trans (grown_trans HGg2.out HGg3.out) HGg4.out)⟩
end Go.Proofs.YtpdfkgmgmndcfaaDoor
