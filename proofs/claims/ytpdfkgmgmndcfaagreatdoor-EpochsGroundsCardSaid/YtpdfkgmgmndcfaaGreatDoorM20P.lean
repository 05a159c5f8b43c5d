/-
  Several texts in one: EpG, Sm.
-/
import Derived.Test.YtpdfkgmgmndcfaaGreatDoorM20O
import Derived.Test.YtpdfkgmgmndcfaaGreatDoorM20H
import Derived.Deep.MidRow
import Derived.Test.YtpdfkgmgmndcfaaGreatDoorM20r
import Derived.Test.YtpdfkgmgmndcfaaGreatDoorM20J
/-
  The document's grounds: First, Next, Same.
-/
namespace Go.Proofs.YtpdfkgmgmndcfaaGreatDoor
open Go.RowKit

theorem zrg_run (w : World) : Sem.run Tryz.prog (zeroValue 33) w = .ok (.agg zGr) w := zero_run3 w (by kernel_rfl)
theorem sz_Rge : (Tryz.prog.info? 33).map (·.size) = some 18 := by kernel_rfl
theorem zgr_szG : zGr.size = 18 := grV_size (by rw [zD16, arr_size]; rfl)
set_option maxRecDepth 100000 in
theorem ep_rg_build (w : World) (e : Int) (A : Option Addr) (n c : Nat) (D : Array Value) (h : D.size = 16) : Sem.run Tryz.prog (Instr.build 33 #[(0, .int .i64 e), (1, .slice A n c), (2, .agg D)]) w = .ok (.agg (grV e (.slice A n c) D)) w := by
  obtain ⟨a0, a1, a2, a3, a4, a5, a6, a7, a8, a9, a10, a11, a12, a13, a14, a15, rfl⟩ := arr16e D h
  refine run_build w 33 _ _ ?_
  kernel_rfl
set_option maxRecDepth 100000 in
set_option maxHeartbeats 4000000 in
theorem rnext_is (w : World) (ge : Int) (G0 : Value) (G : Array Value) (gs : Array Value) (hgs : gs = grV ge G0 G) (p : List Int) (hp : isDig p) (D : Array Value) (hD : D = arrV .u8 p) (A : Option Addr) (c n : Nat) (V : List Vd) (hn : V.length = n) (hV : VdsAt w A V) (ok : keysOk V) (hl : n < 1000) (hcap : n ≤ c) :
    Calls Tryz.prog 7 #[.agg gs, .agg D, .slice A n c] w fun e w' => w.grownBy w' none ∧
      ((rightS V = false ∧ e = .returned (.tuple #[.agg zGr, .int .i64 11])) ∨ (rightS V = true ∧ (ge < 0 ∨ 1073741824 ≤ ge) ∧ e = .returned (.tuple #[.agg zGr, .int .i64 18])) ∨
        (rightS V = true ∧ (0 ≤ ge ∧ ge < 1073741824) ∧ e = .returned (.tuple #[.agg (grV (ge + 1) (.slice A n c) (arrV .u8 (idD (genB (ge + 1) p)))), .int .i64 0]))) := by
  obtain ⟨GZ, hGZ⟩ : ∃ Z, zGr = Z := ⟨_, rfl⟩
  have hgz : ∀ w, Sem.run Tryz.prog (zeroValue 33) w = .ok (.agg GZ) w := fun w => by rw [← hGZ]; exact zrg_run w
  obtain ⟨Z, hZ⟩ : ∃ Z, zD16 = Z := ⟨_, rfl⟩
  have hz : ∀ w, Sem.run Tryz.prog (zeroValue 24) w = .ok (.agg Z) w := fun w => by rw [← hZ]; exact z16run w
  have hZ16 : Z.size = 16 := by rw [← hZ, zD16, arr_size]; rfl
  have hGs : GZ.size = 18 := by rw [← hGZ]; exact zgr_szG
  have hG1 : (GZ.all fun v => v.oneCell') = true := by rw [← hGZ]; exact grV_one (arr_one _ _)
  obtain ⟨dv, hdv⟩ : ∃ dv, arrV .u8 (idD (genB (ge + 1) p)) = dv := ⟨_, rfl⟩
  have hd16 : dv.size = 16 := by rw [← hdv, arr_size, idD_length]
  have hd1 : (dv.all fun v => v.oneCell') = true := by rw [← hdv]; exact arr_one _ _
  have hD16 : D.size = 16 := by rw [hD, arr_size, hp.1]
  obtain ⟨W1, hW1⟩ : ∃ W1, ((w.alloc (.cells gs 33)).alloc (.cells D 24)).alloc (.cells GZ 33) = W1 := ⟨_, rfl⟩
  have g1 : w.grownBy W1 none := by rw [← hW1]; exact grown_trans (grown_trans (World.grownBy_alloc _ _ none) (World.grownBy_alloc _ _ none)) (World.grownBy_alloc _ _ none)
  have bg : Blk W1 w.heap.size 33 gs := by rw [← hW1]; exact ((Blk.new w _ _).alloc _).alloc _
  have bd : Blk W1 (w.heap.size + 1) 24 D := by
    have := (Blk.new (w.alloc (.cells gs 33)) 24 D).alloc (.cells GZ 33)
    rw [← hW1]; simpa using this
  have bz : Blk W1 (w.heap.size + 2) 33 GZ := by
    have := Blk.new ((w.alloc (.cells gs 33)).alloc (.cells D 24)) 33 GZ
    rw [← hW1]; simpa using this
  have hc0 : W1.cell? ⟨w.heap.size, 0, none⟩ = some (.int .i64 ge) := by
    have := range_blk0 bg 0 (.int .i64 ge) (by rw [hgs]; simp [grV])
    simpa using this
  have HC := Lib.hid (fun (W : World) (hW : w.grownBy W none) => (show Calls Tryz.prog 13 #[.slice A n c] W fun e w' => e = .returned (.bool (rightS V)) ∧ W.grownBy w' none from by rw [← hn]; exact rright_is W A c V (hV.grown hW) ok (by omega) (by omega)))
  have HGE := Lib.hid (fun (W : World) (cs : Array Value) (hcs : cs = genV (ge + 1) D) => rgenesis_is W (ge + 1) D hD16 (by rw [hD]; exact arr_one _ _) cs hcs)
  have HRI := Lib.hid (fun (W : World) (h0 : 0 ≤ ge) (h2 : ge < 1073741824) (cs : Array Value) (hcs : cs = genV (ge + 1) D) => rid_gen W (ge + 1) (by omega) (by omega) p hp cs (by rw [hcs, hD]) dv hdv.symm)
  have HX := Lib.hid (And.intro g1 (And.intro bz (And.intro (range_blk0 bd) hc0)))
  have HS := Lib.hid (And.intro (show (Tryz.prog.info? 33).map (·.size) = some GZ.size by rw [hGs]; exact sz_Rge) (And.intro hG1 (And.intro hGs (And.intro hd16 (And.intro hd1 (And.intro hdv (And.intro hGZ (And.intro (show (Tryz.prog.info? 24).map (·.size) = some D.size by rw [hD16]; exact sz_Dg) (And.intro (show (Tryz.prog.info? 24).map (·.size) = some dv.size by rw [hd16]; exact sz_Dg) (show Z.size = dv.size by rw [hd16, hZ16]))))))))))
  have HW := Lib.hid hW1
  have HGB := Lib.hid (show ∀ w, Sem.run Tryz.prog (Instr.build 33 #[(0, .int .i64 (ge + 1)), (1, .slice A n c), (2, .agg dv)]) w = .ok (.agg (grV (ge + 1) (.slice A n c) dv)) w from fun w => ep_rg_build w (ge + 1) A n c dv hd16)
  clear hGZ hZ hZ16 hGs hG1 hdv hd16 hd1 hD16 hW1 g1 bg bd bz hc0 hgs hp hD hn hV ok
  go_enter Tryz.func7, Tryz.ntmps7
  go_upto_region 1 with (fail)
  rw [HW.out]
  obtain ⟨q2, hq2⟩ : ∃ q, W1.heap.size = q := ⟨_, rfl⟩
  obtain ⟨W2, hW2⟩ : ∃ W, (W1.alloc (.cells GZ 33)).setRow q2 GZ = W := ⟨_, rfl⟩
  have bn2 : Blk (W1.alloc (.cells GZ 33)) q2 33 GZ := by rw [← hq2]; exact Blk.new W1 33 GZ
  have b2 : Blk W2 q2 33 GZ := by rw [← hW2]; exact bn2.row _
  have g2 : W1.grownBy W2 none := by rw [← hW2]; exact grown_row (World.grownBy_alloc _ _ none) (.inl (by rw [hq2]; exact Nat.le_refl _)) _
  have HP2 := Lib.hid (And.intro bn2 hW2)
  have HB2 := Lib.hid b2
  clear bn2 hW2 b2
  have HGg2 := Lib.hid g2
  clear g2
  go_upto_region 2 with (refine wpList_store_row rfl 33 _ _ rfl (q2) GZ rfl rfl 33 _ HP2.out.1 (HS.out.1) (rfl) HS.out.2.1 ?_)
  rw [HP2.out.2]
  clear hq2
  go_wp2_with fail
  refine (HC.out W2 (grown_trans HX.out.1 HGg2.out)).mono ?_
  rintro e w3 ⟨rfl, g3⟩
  have HGg3 := Lib.hid g3
  clear g3
  cases hr : rightS V with
  | false =>
    have HR := Lib.hid hr
    clear hr
    go_wp2_with (first
      | (refine wpList_load_mid rfl 33 _ rfl (q2) 0 rfl GZ.toList _ (range_blk0 (HB2.out.grown HGg3.out (by simp))) Tryz.underlying33 rfl (by rw [Array.length_toList]; exact HS.out.1) ?_; rw [Array.toArray_toList])
      | (refine wpList_store_row rfl 33 _ _ rfl (w.heap.size + 2) GZ rfl rfl 33 _ (HX.out.2.1.grown (grown_trans HGg2.out HGg3.out) (by simp)) (HS.out.1) (rfl) HS.out.2.1 ?_))
    refine bodyPost_ret (results_cell_t rfl _ _ _ ⟨w.heap.size + 2, 0, none⟩ (.agg GZ) rfl (run_loadVar_row _ (w.heap.size + 2) 33 33 _ (0, 0) _ ((HX.out.2.1.grown (grown_trans HGg2.out HGg3.out) (by simp)).row _) Tryz.underlying33 rfl HS.out.1)) rfl ?_
    exact ⟨grown_row (grown_trans HX.out.1 (grown_trans HGg2.out HGg3.out)) (.inl (by omega)) _, .inl ⟨HR.out, by rw [HS.out.2.2.2.2.2.2.1]; rfl⟩⟩
  | true =>
    have HR := Lib.hid hr
    clear hr
    have c0 : w3.cell? ⟨w.heap.size, 0, none⟩ = some (.int .i64 ge) := (grown_trans HGg2.out HGg3.out).cell HX.out.2.2.2 (by simp)
    by_cases hb : ge < 0 ∨ 1073741824 ≤ ge
    · have HBD := Lib.hid hb
      by_cases h0 : ge < 0
      · have a1 : decide (ge < 0) = true := by simpa using h0
        clear hb h0
        go_wp2_with (first
          | (refine wpList_load_mid rfl 33 _ rfl (q2) 0 rfl GZ.toList _ (range_blk0 (HB2.out.grown HGg3.out (by simp))) Tryz.underlying33 rfl (by rw [Array.length_toList]; exact HS.out.1) ?_; rw [Array.toArray_toList])
          | (refine wpList_store_row rfl 33 _ _ rfl (w.heap.size + 2) GZ rfl rfl 33 _ (HX.out.2.1.grown (grown_trans HGg2.out HGg3.out) (by simp)) (HS.out.1) (rfl) HS.out.2.1 ?_))
        refine bodyPost_ret (results_cell_t rfl _ _ _ ⟨w.heap.size + 2, 0, none⟩ (.agg GZ) rfl (run_loadVar_row _ (w.heap.size + 2) 33 33 _ (0, 0) _ ((HX.out.2.1.grown (grown_trans HGg2.out HGg3.out) (by simp)).row _) Tryz.underlying33 rfl HS.out.1)) rfl ?_
        exact ⟨grown_row (grown_trans HX.out.1 (grown_trans HGg2.out HGg3.out)) (.inl (by omega)) _, .inr (.inl ⟨HR.out, HBD.out, by rw [HS.out.2.2.2.2.2.2.1]; rfl⟩)⟩
      · have a1 : decide (ge < 0) = false := by simpa using h0
        have h2 : 1073741824 ≤ ge := by omega
        have a2 : decide (1073741824 ≤ ge) = true := by simpa using h2
        clear hb h0 h2
        go_wp2_with (first
          | (refine wpList_load_mid rfl 33 _ rfl (q2) 0 rfl GZ.toList _ (range_blk0 (HB2.out.grown HGg3.out (by simp))) Tryz.underlying33 rfl (by rw [Array.length_toList]; exact HS.out.1) ?_; rw [Array.toArray_toList])
          | (refine wpList_store_row rfl 33 _ _ rfl (w.heap.size + 2) GZ rfl rfl 33 _ (HX.out.2.1.grown (grown_trans HGg2.out HGg3.out) (by simp)) (HS.out.1) (rfl) HS.out.2.1 ?_))
        refine bodyPost_ret (results_cell_t rfl _ _ _ ⟨w.heap.size + 2, 0, none⟩ (.agg GZ) rfl (run_loadVar_row _ (w.heap.size + 2) 33 33 _ (0, 0) _ ((HX.out.2.1.grown (grown_trans HGg2.out HGg3.out) (by simp)).row _) Tryz.underlying33 rfl HS.out.1)) rfl ?_
        exact ⟨grown_row (grown_trans HX.out.1 (grown_trans HGg2.out HGg3.out)) (.inl (by omega)) _, .inr (.inl ⟨HR.out, HBD.out, by rw [HS.out.2.2.2.2.2.2.1]; rfl⟩)⟩
    have hb0 : 0 ≤ ge := by omega
    have hb1 : ge < 1073741824 := by omega
    have a1 : decide (ge < 0) = false := by simp; omega
    have a2 : decide (1073741824 ≤ ge) = false := by simp; omega
    have HBB := Lib.hid (And.intro hb0 hb1)
    obtain ⟨cs, hcs⟩ : ∃ cs, genV (ge + 1) D = cs := ⟨_, rfl⟩
    have HG2 := Lib.hid (fun W : World => HGE.out W cs hcs.symm)
    have HR2 := Lib.hid (fun W : World => HRI.out W hb0 hb1 cs hcs.symm)
    clear hb hcs
    go_wp2_with (refine wpList_load_mid rfl 24 _ rfl (w.heap.size + 1) 0 rfl D.toList _ (range_kept HX.out.2.2.1 (grown_trans HGg2.out HGg3.out)) Tryz.underlying24 rfl (by rw [Array.length_toList]; exact HS.out.2.2.2.2.2.2.2.1) ?_; rw [Array.toArray_toList])
    refine (HG2.out w3).mono ?_
    rintro e w4 ⟨rfl, g4⟩
    have HGg4 := Lib.hid g4
    clear g4
    go_wp2_with fail
    refine (HR2.out w4).mono ?_
    rintro e w5 ⟨rfl, g5⟩
    have HGg5 := Lib.hid g5
    clear g5
    obtain ⟨q6, hq6⟩ : ∃ q, w5.heap.size = q := ⟨_, rfl⟩
    obtain ⟨W6, hW6⟩ : ∃ W, (w5.alloc (.cells Z 24)).setRow q6 dv = W := ⟨_, rfl⟩
    have bn6 : Blk (w5.alloc (.cells Z 24)) q6 24 Z := by rw [← hq6]; exact Blk.new w5 24 Z
    have b6 : Blk W6 q6 24 dv := by rw [← hW6]; exact bn6.row _
    have g6 : w5.grownBy W6 none := by rw [← hW6]; exact grown_row (World.grownBy_alloc _ _ none) (.inl (by rw [hq6]; exact Nat.le_refl _)) _
    have HP6 := Lib.hid (And.intro bn6 hW6)
    have HB6 := Lib.hid b6
    clear bn6 hW6 b6
    have HGg6 := Lib.hid g6
    clear g6
    go_upto_region 7 with (refine wpList_store_row rfl 24 _ _ rfl (q6) dv rfl rfl 24 _ HP6.out.1 (HS.out.2.2.2.2.2.2.2.2.1) (HS.out.2.2.2.2.2.2.2.2.2) HS.out.2.2.2.2.1 ?_)
    rw [HP6.out.2]
    clear hq6
    have c6 : W6.cell? ⟨w.heap.size, 0, none⟩ = some (.int .i64 ge) := (grown_trans (grown_trans (grown_trans (grown_trans HGg2.out HGg3.out) HGg4.out) HGg5.out) HGg6.out).cell HX.out.2.2.2 (by simp)
    clear c0
    obtain ⟨gv, hgv⟩ : ∃ gv, grV (ge + 1) (.slice A n c) dv = gv := ⟨_, rfl⟩
    have hgb := HGB.out
    rw [hgv] at hgb
    have HGB2 := Lib.hid hgb
    have hgs : gv.size = 18 := by rw [← hgv]; exact grV_size HS.out.2.2.2.1
    have HV := Lib.hid (And.intro hgv (And.intro (show (Tryz.prog.info? 33).map (·.size) = some gv.size by rw [hgs]; exact sz_Rge) (And.intro (show GZ.size = gv.size by rw [hgs, HS.out.2.2.1]) (show (gv.all fun v => v.oneCell') = true by rw [← hgv]; exact grV_one HS.out.2.2.2.2.1))))
    have hbb : Blk W6 (w.heap.size + 2) 33 GZ := HX.out.2.1.grown (grown_trans (grown_trans (grown_trans (grown_trans HGg2.out HGg3.out) HGg4.out) HGg5.out) HGg6.out) (by simp)
    have HB9 := Lib.hid hbb
    clear hgv hgb hgs hbb
    go_wp2_with (first
      | (refine wpList_load_mid rfl 24 _ rfl (q6) 0 rfl dv.toList _ (range_blk0 HB6.out) Tryz.underlying24 rfl (by rw [Array.length_toList]; exact HS.out.2.2.2.2.2.2.2.2.1) ?_; rw [Array.toArray_toList])
      | (refine wpList_build_at (by rfl) 33 #[(0, Operand.tmp 36), (1, Operand.tmp 37), (2, Operand.tmp 38)] rfl _ (by kernel_rfl) (.agg gv) (HGB2.out _) ?_)
      | (refine wpList_store_row rfl 33 _ _ rfl (w.heap.size + 2) gv rfl rfl 33 _ HB9.out (HV.out.2.1) (HV.out.2.2.1) HV.out.2.2.2 ?_))
    refine bodyPost_ret (results_cell_t rfl _ _ _ ⟨w.heap.size + 2, 0, none⟩ (.agg gv) rfl (run_loadVar_row _ (w.heap.size + 2) 33 33 _ (0, 0) _ (HB9.out.row _) Tryz.underlying33 rfl HV.out.2.1)) rfl ?_
    exact ⟨grown_row (grown_trans HX.out.1 (grown_trans (grown_trans (grown_trans (grown_trans HGg2.out HGg3.out) HGg4.out) HGg5.out) HGg6.out)) (.inl (by omega)) _, .inr (.inr ⟨HR.out, HBB.out, by rw [HS.out.2.2.2.2.2.1, HV.out.1]; rfl⟩)⟩
set_option maxRecDepth 100000 in
set_option maxHeartbeats 2000000 in
theorem rfirst_is (w : World) (A : Option Addr) (c n : Nat) :
    Calls Tryz.prog 14 #[.slice A n c] w fun e w' => e = .returned (.agg (grV 1 (.slice A n c) (arrV .u8 (idD (genB 1 (List.replicate 16 0)))))) ∧ w.grownBy w' none := by
  obtain ⟨GZ, hGZ⟩ : ∃ Z, zGr = Z := ⟨_, rfl⟩
  have hgz : ∀ w, Sem.run Tryz.prog (zeroValue 33) w = .ok (.agg GZ) w := fun w => by rw [← hGZ]; exact zrg_run w
  obtain ⟨Z, hZ⟩ : ∃ Z, zD16 = Z := ⟨_, rfl⟩
  have hz : ∀ w, Sem.run Tryz.prog (zeroValue 24) w = .ok (.agg Z) w := fun w => by rw [← hZ]; exact z16run w
  have hZ16 : Z.size = 16 := by rw [← hZ, zD16, arr_size]; rfl
  have hGs : GZ.size = 18 := by rw [← hGZ]; exact zgr_szG
  obtain ⟨dv, hdv⟩ : ∃ dv, arrV .u8 (idD (genB 1 (List.replicate 16 0))) = dv := ⟨_, rfl⟩
  have hd16 : dv.size = 16 := by rw [← hdv, arr_size, idD_length]
  have hd1 : (dv.all fun v => v.oneCell') = true := by rw [← hdv]; exact arr_one _ _
  obtain ⟨cs, hcs⟩ : ∃ cs, genV 1 Z = cs := ⟨_, rfl⟩
  obtain ⟨gv, hgv⟩ : ∃ gv, grV 1 (.slice A n c) dv = gv := ⟨_, rfl⟩
  have hgs : gv.size = 18 := by rw [← hgv]; exact grV_size hd16
  obtain ⟨W1, hW1⟩ : ∃ W1, w.alloc (.cells GZ 33) = W1 := ⟨_, rfl⟩
  have g1 : w.grownBy W1 none := by rw [← hW1]; exact World.grownBy_alloc _ _ none
  have bz : Blk W1 w.heap.size 33 GZ := by rw [← hW1]; exact Blk.new w _ _
  have HGE := Lib.hid (fun W : World => rgenesis_is W 1 Z hZ16 (by rw [← hZ]; exact arr_one _ _) cs hcs.symm)
  have HRI := Lib.hid (fun W : World => rid_gen W 1 (by omega) (by omega) (List.replicate 16 0) zD_dig cs (by rw [← hcs, ← hZ]; rfl) dv hdv.symm)
  have HX := Lib.hid (And.intro g1 bz)
  have HS := Lib.hid (And.intro (show (Tryz.prog.info? 33).map (·.size) = some gv.size by rw [hgs]; exact sz_Rge) (And.intro (show GZ.size = gv.size by rw [hgs, hGs]) (And.intro (show (gv.all fun v => v.oneCell') = true by rw [← hgv]; exact grV_one hd1) (And.intro (show (Tryz.prog.info? 24).map (·.size) = some dv.size by rw [hd16]; exact sz_Dg) (And.intro (show Z.size = dv.size by rw [hd16, hZ16]) (And.intro hd1 (And.intro hdv hgv)))))))
  have HGB := Lib.hid (show ∀ w, Sem.run Tryz.prog (Instr.build 33 #[(0, .int .i64 1), (1, .slice A n c), (2, .agg dv)]) w = .ok (.agg gv) w from fun w => by rw [← hgv]; exact ep_rg_build w 1 A n c dv hd16)
  have HW := Lib.hid hW1
  clear hGZ hZ hZ16 hGs hdv hd16 hd1 hcs hgv hgs g1 bz hW1
  go_enter Tryz.func14, Tryz.ntmps14
  go_upto_region 1 with (fail)
  rw [HW.out]
  go_wp2_with fail
  refine (HGE.out W1).mono ?_
  rintro e w2 ⟨rfl, g2⟩
  have HGg2 := Lib.hid g2
  clear g2
  go_wp2_with fail
  refine (HRI.out w2).mono ?_
  rintro e w3 ⟨rfl, g3⟩
  have HGg3 := Lib.hid g3
  clear g3
  obtain ⟨q4, hq4⟩ : ∃ q, w3.heap.size = q := ⟨_, rfl⟩
  obtain ⟨W4, hW4⟩ : ∃ W, (w3.alloc (.cells Z 24)).setRow q4 dv = W := ⟨_, rfl⟩
  have bn4 : Blk (w3.alloc (.cells Z 24)) q4 24 Z := by rw [← hq4]; exact Blk.new w3 24 Z
  have b4 : Blk W4 q4 24 dv := by rw [← hW4]; exact bn4.row _
  have g4 : w3.grownBy W4 none := by rw [← hW4]; exact grown_row (World.grownBy_alloc _ _ none) (.inl (by rw [hq4]; exact Nat.le_refl _)) _
  have HP4 := Lib.hid (And.intro bn4 hW4)
  have HB4 := Lib.hid b4
  clear bn4 hW4 b4
  have HGg4 := Lib.hid g4
  clear g4
  go_upto_region 2 with (refine wpList_store_row rfl 24 _ _ rfl (q4) dv rfl rfl 24 _ HP4.out.1 (HS.out.2.2.2.1) (HS.out.2.2.2.2.1) HS.out.2.2.2.2.2.1 ?_)
  rw [HP4.out.2]
  clear hq4
  have HB9 := Lib.hid (HX.out.2.grown (grown_trans (grown_trans HGg2.out HGg3.out) HGg4.out) (by simp))
  go_wp2_with (first
    | (refine wpList_load_mid rfl 24 _ rfl (q4) 0 rfl dv.toList _ (range_blk0 HB4.out) Tryz.underlying24 rfl (by rw [Array.length_toList]; exact HS.out.2.2.2.1) ?_; rw [Array.toArray_toList])
    | (refine wpList_build_at (by rfl) 33 #[(0, Operand.const (Value.int .i64 1)), (1, Operand.tmp 11), (2, Operand.tmp 12)] rfl _ (by kernel_rfl) (.agg gv) (HGB.out _) ?_)
    | (refine wpList_store_row rfl 33 _ _ rfl (w.heap.size) gv rfl rfl 33 _ HB9.out (HS.out.1) (HS.out.2.1) HS.out.2.2.1 ?_))
  refine bodyPost_ret (results_cell_e rfl _ _ _ ⟨w.heap.size, 0, none⟩ (.agg gv) rfl (run_loadVar_row _ (w.heap.size) 33 33 _ (0, 0) _ (HB9.out.row _) Tryz.underlying33 rfl HS.out.1)) rfl ?_
  exact ⟨by rw [HS.out.2.2.2.2.2.2.1, HS.out.2.2.2.2.2.2.2], grown_row (grown_trans HX.out.1 (grown_trans (grown_trans HGg2.out HGg3.out) HGg4.out)) (.inl (Nat.le_refl _)) _⟩
set_option maxRecDepth 100000 in
set_option maxHeartbeats 2000000 in
theorem rgsame_is (w : World) (e1 e2 : Int) (A1 A2 : Option Addr) (n1 c1 n2 c2 : Nat) (V1 V2 : List Vd) (hn1 : V1.length = n1) (hn2 : V2.length = n2) (hV1 : VdsAt w A1 V1) (hV2 : VdsAt w A2 V2) (ok1 : keysOk V1) (ok2 : keysOk V2) (hl : n1 < 1000) (G1 G2 : List Int) (h1 : G1.length = 16) (h2 : G2.length = 16)
    (x y : Array Value) (hx : x = grV e1 (.slice A1 n1 c1) (arrV .u8 G1)) (hy : y = grV e2 (.slice A2 n2 c2) (arrV .u8 G2)) :
    Calls Tryz.prog 8 #[.agg x, .agg y] w fun e w' => e = .returned (.bool (decide (e1 = e2) && (decide (G1 = G2) && sameS V1 V2))) ∧ w.grownBy w' none := by
  obtain ⟨D1, hD1⟩ : ∃ D, arrV .u8 G1 = D := ⟨_, rfl⟩
  obtain ⟨D2, hD2⟩ : ∃ D, arrV .u8 G2 = D := ⟨_, rfl⟩
  have s1 : D1.size = 16 := by rw [← hD1, arr_size, h1]
  have s2 : D2.size = 16 := by rw [← hD2, arr_size, h2]
  obtain ⟨d, hd⟩ : ∃ d, decide (G1 = G2) = d := ⟨_, rfl⟩
  have heq : ∀ V, Sem.run Tryz.prog (Op.equalIn 10000 24 (.agg D1) (.agg D2)) V = .ok d V := fun V => by rw [← hD1, ← hD2, ← hd]; exact eqD V _ _ h1 h2
  rw [hd]
  obtain ⟨W1, hW1⟩ : ∃ W1, (w.alloc (.cells x 33)).alloc (.cells y 33) = W1 := ⟨_, rfl⟩
  have g1 : w.grownBy W1 none := by rw [← hW1]; exact grown_trans (World.grownBy_alloc _ _ none) (World.grownBy_alloc _ _ none)
  have bx : Blk W1 w.heap.size 33 (grV e1 (.slice A1 n1 c1) D1) := by rw [← hW1, hx, hD1]; exact (Blk.new w _ _).alloc _
  have bY : Blk W1 (w.heap.size + 1) 33 (grV e2 (.slice A2 n2 c2) D2) := by
    have := Blk.new (w.alloc (.cells x 33)) 33 y
    rw [hW1, hy, hD2] at this; simpa using this
  obtain ⟨k0, k1, k2⟩ := gr_cells s1 bx
  obtain ⟨m0, m1, m2⟩ := gr_cells s2 bY
  have HS := Lib.hid (show Calls Tryz.prog 18 #[.slice A1 n1 c1, .slice A2 n2 c2] W1 fun e w' => e = .returned (.bool (sameS V1 V2)) ∧ W1.grownBy w' none from by rw [← hn1, ← hn2]; exact rsame_is W1 A1 A2 c1 c2 V1 V2 (hV1.grown g1) (hV2.grown g1) ok1 ok2 (by omega))
  have HL := Lib.hid (And.intro k2 (And.intro m2 (And.intro (show (Tryz.prog.info? 24).map (·.size) = some D1.size by rw [s1]; exact sz_Dg) (show (Tryz.prog.info? 24).map (·.size) = some D2.size by rw [s2]; exact sz_Dg))))
  have HW := Lib.hid hW1
  have HG := Lib.hid g1
  clear hD1 hD2 s1 s2 hd hW1 g1 bx bY k2 m2 hx hy hV1 hV2 ok1 ok2 h1 h2 hn1 hn2
  by_cases he : e1 = e2
  · subst he
    have q1 : (e1 == e1) = true := by simp
    have q2 : decide (e1 = e1) = true := by simp
    rw [q2, Bool.true_and]
    cases d
    · rw [Bool.false_and]
      go_enter Tryz.func8, Tryz.ntmps8
      go_upto_region 1 with (fail)
      rw [HW.out]
      go_wp2_with (first
        | (refine wpList_load_mid_want (by rfl) 24 _ rfl (w.heap.size) 2 rfl D1.toList _ HL.out.1 Tryz.underlying24 rfl (by rw [Array.length_toList]; exact HL.out.2.2.1) ?_; rw [Array.toArray_toList])
        | (refine wpList_load_mid_want (by rfl) 24 _ rfl (w.heap.size + 1) 2 rfl D2.toList _ HL.out.2.1 Tryz.underlying24 rfl (by rw [Array.length_toList]; exact HL.out.2.2.2) ?_; rw [Array.toArray_toList]))
      go_ret
      exact ⟨rfl, HG.out⟩
    · rw [Bool.true_and]
      go_enter Tryz.func8, Tryz.ntmps8
      go_upto_region 1 with (fail)
      rw [HW.out]
      go_wp2_with (first
        | (refine wpList_load_mid_want (by rfl) 24 _ rfl (w.heap.size) 2 rfl D1.toList _ HL.out.1 Tryz.underlying24 rfl (by rw [Array.length_toList]; exact HL.out.2.2.1) ?_; rw [Array.toArray_toList])
        | (refine wpList_load_mid_want (by rfl) 24 _ rfl (w.heap.size + 1) 2 rfl D2.toList _ HL.out.2.1 Tryz.underlying24 rfl (by rw [Array.length_toList]; exact HL.out.2.2.2) ?_; rw [Array.toArray_toList]))
      refine HS.out.mono ?_
      rintro e w2 ⟨rfl, g2⟩
      have H2 := Lib.hid g2
      clear g2
      go_wp2_with fail
      go_ret
      exact ⟨rfl, grown_trans HG.out H2.out⟩
  · have q1 : (e1 == e2) = false := by simpa using he
    have q2 : decide (e1 = e2) = false := by simpa using he
    rw [q2, Bool.false_and]
    clear he q2
    go_enter Tryz.func8, Tryz.ntmps8
    go_upto_region 1 with (fail)
    rw [HW.out]
    go_wp2_with fail
    go_ret
    exact ⟨rfl, HG.out⟩
end Go.Proofs.YtpdfkgmgmndcfaaGreatDoor
/-
  quorateref03.Same of rows of any length.
-/
namespace Go.Proofs.YtpdfkgmgmndcfaaGreatDoor
open Go.RowKit

theorem digs_len (w : World) (A1 A2 : Option Addr) (n1 n2 c1 c2 : Nat) (hn : n1 ≠ n2) :
    Calls Tryz.prog 51 #[.slice A1 n1 c1, .slice A2 n2 c2] w fun e w' => e = .returned (.bool false) ∧ w.grownBy w' none := by
  have hne : ¬ ((n1 : Int) = (n2 : Int)) := by omega
  go_enter Tryz.func51, Tryz.ntmps51
  go_wp2_with fail
  go_ret
  exact ⟨rfl, World.grownBy.refl w none⟩
theorem digs_none (w : World) (A1 A2 : Option Addr) (c1 c2 : Nat) :
    Calls Tryz.prog 51 #[.slice A1 0 c1, .slice A2 0 c2] w fun e w' => e = .returned (.bool true) ∧ w.grownBy w' none := by
  go_enter Tryz.func51, Tryz.ntmps51
  go_wp2_with fail
  refine wp_loop_rounds 1 ?_
  rw [rounds_succ]
  go_wp2_with fail
  go_ret
  exact ⟨rfl, World.grownBy.refl w none⟩
/-- As far as k they are the same. -/
def SameTo (k : Nat) (ps qs : List (List Int)) : Prop := ∀ j, j < k → ps.getD j zeroC = qs.getD j zeroC
theorem sameTo_all {ps qs : List (List Int)} {n : Nat} (h1 : ps.length = n) (h2 : qs.length = n) (h : SameTo n ps qs) : ps = qs := by
  refine List.ext_getElem (by omega) fun i i1 i2 => ?_
  have := h i (by omega)
  rw [List.getD, List.getD, List.getElem?_eq_getElem i1, List.getElem?_eq_getElem i2] at this
  exact this
set_option maxRecDepth 100000 in
set_option maxHeartbeats 4000000 in
theorem digs_same (w : World) (b1 o1 c1 b2 o2 c2 n : Nat) (ps qs : List (List Int)) (hl : ps.length = n) (hl2 : qs.length = n) (hn : n ≤ 1000) (hps : ∀ p ∈ ps, isDig p) (hqs : ∀ p ∈ qs, isDig p) (D1 : DigsAt w b1 o1 ps) (D2 : DigsAt w b2 o2 qs) (r : Bool) (hr : r = decide (ps = qs)) :
    Calls Tryz.prog 51 #[.slice (some ⟨b1, o1, none⟩) n c1, .slice (some ⟨b2, o2, none⟩) n c2] w fun e w' => e = .returned (.bool r) ∧ w.grownBy w' none := by
  have HN := Lib.hid (And.intro hl (And.intro hps (And.intro D1 (And.intro D2 (And.intro hl2 (And.intro hqs (And.intro hr hn)))))))
  clear hl hps D1 D2 hl2 hqs hr hn
  go_enter Tryz.func51, Tryz.ntmps51
  go_wp2_with fail
  go_loopw [13] (fun i wr => ∃ k : Nat, k ≤ n ∧ i = .int .i64 (k : Int) ∧ SameTo k ps qs ∧ w.grownBy wr none) (fun i _ => n - (intOf i).toNat)
  case atStart => exact ⟨0, by omega, rfl, fun j hj => absurd hj (by omega), World.grownBy.refl w none⟩
  case round =>
    obtain ⟨k, hk, hi, hST, hK⟩ := hrel
    obtain ⟨I, hI⟩ : ∃ I : Int, I = (k : Int) := ⟨_, rfl⟩
    rw [← hI] at hi
    subst hi
    by_cases hlt : k < n
    · have d1 : decide (I < (n : Int)) = true := by simp; omega
      have hI68 : 0 ≤ I ∧ I < (n : Int) := by omega
      have hI1 : I ≤ 1000 := by have := HN.out.2.2.2.2.2.2.2; omega
      have hkI : I.toNat = k := by omega
      have hpd := getD_dig HN.out.2.1 k
      have hqd := getD_dig HN.out.2.2.2.2.2.1 k
      obtain ⟨p, hp⟩ : ∃ p, p = ps.getD k zeroC := ⟨_, rfl⟩
      obtain ⟨q, hq⟩ : ∃ q, q = qs.getD k zeroC := ⟨_, rfl⟩
      rw [← hp] at hpd
      rw [← hq] at hqd
      obtain ⟨es, hes⟩ : ∃ es, es = arrV .u8 p := ⟨_, rfl⟩
      obtain ⟨fs, hfs⟩ : ∃ fs, fs = arrV .u8 q := ⟨_, rfl⟩
      have hu := Tryz.underlying24
      have he16 : es.size = 16 := by rw [hes, arr_size]; exact hpd.1
      have hf16 : fs.size = 16 := by rw [hfs, arr_size]; exact hqd.1
      have v1 : ∀ z : Gr wr, Sem.run Tryz.prog (Instr.loadAt 24 (.pointer (some ⟨b1, o1 + I.toNat * 16, none⟩))) z.1 = .ok (.agg es) z.1 := fun z => by
        have h1 := run_loadAt_mid (P := Tryz.prog) z.1 b1 (o1 + I.toNat * 16) 24 es.toList _ (by
          rw [hkI, hes, hp]
          exact range_grown (HN.out.2.2.1 k (by rw [HN.out.1]; exact hlt)) (grown_trans hK z.2)) hu rfl (by rw [Array.length_toList, he16]; exact info16)
        rwa [Array.toArray_toList] at h1
      have v2 : ∀ z : Gr wr, Sem.run Tryz.prog (Instr.loadAt 24 (.pointer (some ⟨b2, o2 + I.toNat * 16, none⟩))) z.1 = .ok (.agg fs) z.1 := fun z => by
        have h1 := run_loadAt_mid (P := Tryz.prog) z.1 b2 (o2 + I.toNat * 16) 24 fs.toList _ (by
          rw [hkI, hfs, hq]
          exact range_grown (HN.out.2.2.2.1 k (by rw [HN.out.2.2.2.2.1]; exact hlt)) (grown_trans hK z.2)) hu rfl (by rw [Array.length_toList, hf16]; exact info16)
        rwa [Array.toArray_toList] at h1
      have V1 := Lib.hid v1
      have V2 := Lib.hid v2
      have hqe : ∀ V, Sem.run Tryz.prog (Op.equalIn 10000 24 (.agg es) (.agg fs)) V = .ok (decide (p = q)) V := fun V => by
        rw [hes, hfs]; exact eqDK20 V p q hpd.1 hqd.1
      by_cases hpq : p = q
      · have hqr : ∀ V, Sem.run Tryz.prog (Op.equalIn 10000 24 (.agg es) (.agg fs)) V = .ok true V := fun V => by rw [hqe V, decide_eq_true hpq]
        have hnx : SameTo (k + 1) ps qs := fun j hj => by
          by_cases e : j = k
          · rw [e, ← hp, ← hq]; exact hpq
          · exact hST j (by omega)
        have HK := Lib.hid (And.intro hI (And.intro hlt (And.intro hK hnx)))
        clear hI hlt hkI hp hq hpd hqd hes hfs he16 hf16 hu hK hk v1 v2 hqe hpq hST hnx
        go_wp2_with fail
        refine wp_region_grown (by kernel_rfl) (by kernel_rfl) ?_
        repeat (first
          | (refine wpQuiet_load_row 24 _ ⟨b1, o1 + I.toNat * 16, none⟩ (.agg es) (by rfl) rfl rfl (by rintro _ ⟨z, rfl⟩; exact V1.out z) ?_; simp only [Act.put, List.setIfInBounds_toArray, List.set_cons_zero, List.set_cons_succ])
          | (refine wpQuiet_load_row 24 _ ⟨b2, o2 + I.toNat * 16, none⟩ (.agg fs) (by rfl) rfl rfl (by rintro _ ⟨z, rfl⟩; exact V2.out z) ?_; simp only [Act.put, List.setIfInBounds_toArray, List.set_cons_zero, List.set_cons_succ])
          | go_big_quiet_step (fail))
        refine wpQuiet_nil ?_
        rintro w7 ⟨⟨_, k7⟩, rfl⟩
        have HK7 := Lib.hid k7
        clear k7
        go_wp2_with fail
        go_roundw
        case rel =>
          obtain ⟨hI, hlt, hK, hnx⟩ := HK.out
          exact ⟨k + 1, by omega, by rw [hI]; rfl, hnx, grown_trans hK HK7.out⟩
        case measure => obtain ⟨hI, hlt, _⟩ := HK.out; simp only [intOf]; omega
      · have hqr : ∀ V, Sem.run Tryz.prog (Op.equalIn 10000 24 (.agg es) (.agg fs)) V = .ok false V := fun V => by rw [hqe V, decide_eq_false hpq]
        have hrf : r = false := by
          rw [HN.out.2.2.2.2.2.2.1]
          refine decide_eq_false fun e => hpq ?_
          rw [hp, hq, e]
        have HK := Lib.hid (And.intro hrf hK)
        clear hI hlt hkI hp hq hpd hqd hes hfs he16 hf16 hu hK hk v1 v2 hqe hpq hST hrf
        go_wp2_with fail
        refine wp_region_grown (by kernel_rfl) (by kernel_rfl) ?_
        repeat (first
          | (refine wpQuiet_load_row 24 _ ⟨b1, o1 + I.toNat * 16, none⟩ (.agg es) (by rfl) rfl rfl (by rintro _ ⟨z, rfl⟩; exact V1.out z) ?_; simp only [Act.put, List.setIfInBounds_toArray, List.set_cons_zero, List.set_cons_succ])
          | (refine wpQuiet_load_row 24 _ ⟨b2, o2 + I.toNat * 16, none⟩ (.agg fs) (by rfl) rfl rfl (by rintro _ ⟨z, rfl⟩; exact V2.out z) ?_; simp only [Act.put, List.setIfInBounds_toArray, List.set_cons_zero, List.set_cons_succ])
          | go_big_quiet_step (fail))
        refine wpQuiet_nil ?_
        rintro w7 ⟨⟨_, k7⟩, rfl⟩
        have HK7 := Lib.hid k7
        clear k7
        go_wp2_with fail
        go_ret
        exact ⟨by rw [HK.out.1]; rfl, grown_trans HK.out.2 HK7.out⟩
    · obtain rfl : k = n := by omega
      have d1 : decide (I < (k : Int)) = false := by simp; omega
      have hrt : r = true := by
        rw [HN.out.2.2.2.2.2.2.1]
        exact decide_eq_true (sameTo_all HN.out.1 HN.out.2.2.2.2.1 hST)
      have HK := Lib.hid (And.intro hrt hK)
      clear hK hI hlt hk hST hrt
      go_wp2_with fail
      go_ret
      exact ⟨by rw [HK.out.1]; rfl, HK.out.2⟩
end Go.Proofs.YtpdfkgmgmndcfaaGreatDoor
