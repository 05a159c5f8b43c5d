/-
  EpochsGrounds, walked.
-/
import Derived.Test.YtpdfkgmgmndcfaaGreatDoorM20P
import Derived.Test.YtpdfkgmgmndcfaaGreatDoorCdSb
import Derived.Test.YtpdfkgmgmndcfaaGreatDoorM20S
import Derived.Test.YtpdfkgmgmndcfaaGreatDoorM20J
namespace Go.Proofs.YtpdfkgmgmndcfaaGreatDoor
open Go.RowKit

attribute [local go_sem] Oper.semAt_some

theorem mid_load_e (T : TypeId) (b o : Nat) (cs : Array Value) (d : TypeDesc) (hu : Tryz.prog.underlying T = some d) (hd : d.isRow = true) (hi : (Tryz.prog.info? T).map (·.size) = some cs.size) (z : World) (h : z.rangeAt b o cs.toList) : Sem.run Tryz.prog (Instr.loadAt T (.pointer (some ⟨b, o, none⟩))) z = .ok (.agg cs) z := by
  have := run_loadAt_mid (P := Tryz.prog) z b o T cs.toList d h hu hd (by rw [Array.length_toList]; exact hi)
  rwa [Array.toArray_toList] at this
theorem own_vdsE {w : World} {base n c : Nat} {A : Option Addr} {V : List Vd} (ok : keysOk V) (h : w.ownsRow base 50 17 (.slice A n c) n (V.flatMap Vd.cells)) : VdsAt w A V := by
  obtain ⟨A5, c5, e5, _, hv, _⟩ := own_vds ok h
  injection e5 with e1
  rw [e1]; exact hv
theorem sameS_self (V : List Vd) : sameS V V = true := sameS_all rfl fun _ _ _ => ⟨rfl, rfl⟩
theorem num_evE (w : World) (B : Nat) (E : Nat → Addr) (he : ErrEnv w B E) (k : Nat) (hk : k ≤ 18) : Calls Tryz.prog 9 #[evOf E k] w fun en w' => en = .returned (.int .i64 (k : Int)) ∧ w.grownBy w' none := by
  rcases k with _ | k
  · refine (num_nil w).mono ?_
    rintro e w' ⟨rfl, rfl⟩
    exact ⟨rfl, World.grownBy.refl _ _⟩
  · refine (num_err w B E k (by omega) he).mono ?_
    rintro e w' ⟨rfl, g⟩
    exact ⟨rfl, g⟩
theorem gen_few (e : Int) (p : List Int) : (genB e p).few := ⟨by simp [genB], fun s hs => absurd hs List.not_mem_nil, by simp [genB], by simp [genB]⟩
theorem bkEq_gen (e : Int) (p : List Int) : bkEq (genB e p) (genB e p) = true := by
  have h1 : sgsEq [] [] = true := sgsEq_true ⟨rfl, fun j h => absurd h (Nat.not_lt_zero _)⟩
  have h2 : txsEq [] [] = true := txsEq_true ⟨rfl, fun j h => absurd h (Nat.not_lt_zero _)⟩
  unfold bkEq qcEq
  simp [genB, h1, h2, sameSK20]
set_option maxRecDepth 100000 in
set_option maxHeartbeats 4000000 in
theorem grounds_any (w : World) (E : Nat → Addr) (hR : Rounds w) (he : ErrEnv w w.heap.size E) (ge : Int) (Ag : Option Addr) (ng cg : Nat) (gl : List Int) (hgl : gl.length = 16) (gs : Array Value) (hgs : gs = grV ge (.slice Ag ng cg) (arrV .u8 gl))
    (la : List Int) (hla : isDig la) (DA : Array Value) (hDA : DA = arrV .u8 la) (A : Option Addr) (c n : Nat) (V : List Vd) (hn : V.length = n) (hV : VdsAt w A V) (ok : keysOk V) (hcap : n ≤ c) :
    Calls Tryz.prog 3 #[.agg gs, .agg DA, .slice A n c] w fun e w' => e = .returned (.bool true) ∧ w.grownBy w' none := by
  obtain ⟨GZ, hGZ⟩ : ∃ Z, zGr = Z := ⟨_, rfl⟩
  have hgz : ∀ w, Sem.run Tryz.prog (zeroValue 26) w = .ok (.agg GZ) w := fun w => by rw [← hGZ]; exact zgr_run w
  have hrz : ∀ w, Sem.run Tryz.prog (zeroValue 33) w = .ok (.agg GZ) w := fun w => by rw [← hGZ]; exact zrg_run w
  have hGs : GZ.size = 18 := by rw [← hGZ]; exact zgr_szG
  have hG1 : (GZ.all fun v => v.oneCell') = true := by rw [← hGZ]; exact grV_one (arr_one _ _)
  have hAs : DA.size = 16 := by rw [hDA, arr_size, hla.1]
  have hgss : gs.size = 18 := by rw [hgs]; exact grV_size (by rw [arr_size, hgl])
  obtain ⟨W1, hW1⟩ : ∃ W1, (w.alloc (.cells gs 26)).alloc (.cells DA 24) = W1 := ⟨_, rfl⟩
  have g1 : w.grownBy W1 none := by rw [← hW1]; exact grown_trans (World.grownBy_alloc _ _ none) (World.grownBy_alloc _ _ none)
  have bg : Blk W1 w.heap.size 26 gs := by rw [← hW1]; exact (Blk.new w _ _).alloc _
  have ba : Blk W1 (w.heap.size + 1) 24 DA := by
    have := Blk.new (w.alloc (.cells gs 26)) 24 DA
    rw [← hW1]; simpa using this
  obtain ⟨cg0, cg1, _⟩ := gr_cells (by rw [arr_size, hgl]) (hgs ▸ bg)
  have hat : ∀ W : World, w.grownBy W none → Rounds W ∧ ErrEnv W W.heap.size E ∧ VdsAt W A V := fun W hW =>
    ⟨hR.grown hW (by simp), ⟨fun i hi => ⟨hW.cell (he.var i hi).1 (by simp), by have := (he.var i hi).2; have := hW.size; omega⟩, fun i hi => ⟨by have := ((he.row i hi).1); have := hW.size; omega, by
      obtain ⟨c, t, hc⟩ := (he.row i hi).2
      exact ⟨c, t, (hW.block _ (Array.getElem?_eq_some_iff.1 hc).1 (by simp)).trans hc⟩⟩, he.inj⟩, hV.grown hW⟩
  have HAL := Lib.hid (alive20 W1 E (hat W1 g1).1 ((hat W1 g1).2.1.var 0 (by omega)) (E 10) ((hat W1 g1).2.1.var 10 (by omega)))
  have HF := Lib.hid (fun (W : World) (hW : w.grownBy W none) (hl : n < 1000) => first_is W E (hat W hW).1 ((hat W hW).2.1.var 0 (by omega)) (E 10) ((hat W hW).2.1.var 10 (by omega)) A c n V hn (hat W hW).2.2 ok hl)
  have HN := Lib.hid (fun (W : World) (hW : w.grownBy W none) (hl : n < 1000) => next_is W E (hat W hW).1 ((hat W hW).2.1.var 0 (by omega)) (E 10) (E 17) ((hat W hW).2.1.var 10 (by omega)) ((hat W hW).2.1.var 17 (by omega)) ge (.slice Ag ng cg) (arrV .u8 gl) (by rw [arr_size, hgl]) gs hgs la hla DA hDA A c n V hn (hat W hW).2.2 ok hl)
  have HRN := Lib.hid (fun (W : World) (hW : w.grownBy W none) (hl : n < 1000) => rnext_is W ge (.slice Ag ng cg) (arrV .u8 gl) gs hgs la hla DA hDA A c n V hn (hat W hW).2.2 ok hl hcap)
  have HNU := Lib.hid (fun (W : World) (hW : w.grownBy W none) (k : Nat) (hk : k ≤ 18) => num_evE W W.heap.size E (hat W hW).2.1 k hk)
  have HRT := Lib.hid (fun (W : World) (hW : w.grownBy W none) (hl : n < 1000) => (show Calls Tryz.prog 13 #[.slice A n c] W fun e w' => e = .returned (.bool (rightS V)) ∧ W.grownBy w' none from by rw [← hn]; exact rright_is W A c V (hat W hW).2.2 ok (by omega) (by omega)))
  have HVA := Lib.hid (fun (W : World) (hW : w.grownBy W none) => (hat W hW).2.2)
  obtain ⟨cb, hcb⟩ : ∃ cs, genV ge DA = cs := ⟨_, rfl⟩
  have HGA := Lib.hid (fun W : World => genesis_is W ge DA hAs (by rw [hDA]; exact arr_one _ _) cb hcb.symm)
  have HGR := Lib.hid (fun W : World => rgenesis_is W ge DA hAs (by rw [hDA]; exact arr_one _ _) cb hcb.symm)
  have HSB := Lib.hid (fun W : World => (show Calls Tryz.prog 10 #[.agg cb, .agg cb] W fun e w' => e = .returned (.bool true) ∧ W.grownBy w' none from by
    have hv : cb = (genB ge la).val := by rw [← hcb, hDA, genV_is]
    have := block_same W (genB ge la) (genB ge la) (genB_at W ge hla) (genB_at W ge hla) (gen_few ge la) cb cb hv hv
    rwa [bkEq_gen] at this))
  have HS := Lib.hid (And.intro (show (Tryz.prog.info? 26).map (·.size) = some gs.size by rw [hgss]; exact sz_Gre) (And.intro (show (Tryz.prog.info? 24).map (·.size) = some DA.size by rw [hAs]; exact sz_Dg) (And.intro hGs (And.intro hG1 hGZ))))
  have HK := Lib.hid (And.intro hn (And.intro ok trivial))
  have HX := Lib.hid (And.intro g1 (And.intro (range_blk0 bg) (And.intro (range_blk0 ba) (And.intro cg0 cg1))))
  have HW := Lib.hid hW1
  clear hat hGZ hGs hG1 hAs hgss hcb hW1 g1 bg ba hR he hV ok hn hla hDA hgs cg0 cg1 hcap hgl
  go_enter Tryz.func3, Tryz.ntmps3
  go_upto_region 1 with (fail)
  rw [HW.out]
  go_wp2_with fail
  refine HAL.out.mono ?_
  rintro e w2 ⟨rfl, g2⟩
  have HGg2 := Lib.hid g2
  clear g2
  have cg1 : w2.cell? ⟨w.heap.size, 1, none⟩ = some (.slice Ag ng cg) := HGg2.out.cell HX.out.2.2.2.2 (by simp)
  by_cases h20 : 20 < ng
  · have a1 : decide ((20 : Int) < (ng : Int)) = true := by simp; omega
    clear h20
    go_wp2_with fail
    go_ret
    exact ⟨rfl, grown_trans HX.out.1 HGg2.out⟩
  have a1 : decide ((20 : Int) < (ng : Int)) = false := by simp; omega
  by_cases h21 : 20 < n
  · have a2 : decide ((20 : Int) < (n : Int)) = true := by simp; omega
    clear h20 h21
    go_wp2_with fail
    go_ret
    exact ⟨rfl, grown_trans HX.out.1 HGg2.out⟩
  have a2 : decide ((20 : Int) < (n : Int)) = false := by simp; omega
  have hl : n < 1000 := by omega
  clear h20 h21
  go_upto_region 5 with (fail)
  clear a1 a2 cg1
  go_wp2_with fail
  refine (HF.out w2 (grown_trans HX.out.1 HGg2.out) hl).mono ?_
  rintro e w3 ⟨g3, hcase⟩
  obtain ⟨fv, v1, rfl, HFV⟩ : ∃ (fv : Array Value) (v1 : Value), e = .returned (.tuple #[.agg fv, v1]) ∧ Hid ((fv.size = 18 ∧ (fv.all fun v => v.oneCell') = true) ∧ ((rightS V = true ∧ v1 = .nilIface ∧ ∃ A1 c1, fv = grV 1 (.slice A1 n c1) (arrV .u8 (idD (genB 1 (List.replicate 16 0)))) ∧ VdsAt w3 A1 V) ∨ (rightS V = false ∧ v1 = errV (E 10) ∧ fv = zGr))) := by
    rcases hcase with ⟨hr, A1, c1, rfl, hown⟩ | ⟨hr, rfl⟩
    · exact ⟨_, _, rfl, ⟨grV_size (by rw [arr_size, idD_length]), grV_one (arr_one _ _)⟩, .inl ⟨hr, rfl, A1, c1, rfl, own_vdsE HK.out.2.1 hown⟩⟩
    · exact ⟨_, _, rfl, ⟨zgr_szG, grV_one (arr_one _ _)⟩, .inr ⟨hr, rfl, rfl⟩⟩
  clear hcase
  have HFS := Lib.hid (And.intro (show (Tryz.prog.info? 26).map (·.size) = some fv.size by rw [HFV.out.1.1]; exact sz_Gre) (And.intro (show GZ.size = fv.size by rw [HFV.out.1.1, HS.out.2.2.1]) HFV.out.1.2))
  have HGg3 := Lib.hid g3
  clear g3
  obtain ⟨q4, hq4⟩ : ∃ q, w3.heap.size = q := ⟨_, rfl⟩
  obtain ⟨W4, hW4⟩ : ∃ W, (w3.alloc (.cells GZ 26)).setRow q4 fv = W := ⟨_, rfl⟩
  have bn4 : Blk (w3.alloc (.cells GZ 26)) q4 26 GZ := by rw [← hq4]; exact Blk.new w3 26 GZ
  have b4 : Blk W4 q4 26 fv := by rw [← hW4]; exact bn4.row _
  have g4 : w3.grownBy W4 none := by rw [← hW4]; exact grown_row (World.grownBy_alloc _ _ none) (.inl (by rw [hq4]; exact Nat.le_refl _)) _
  have HP4 := Lib.hid (And.intro bn4 hW4)
  have HB4 := Lib.hid b4
  clear bn4 hW4 b4
  have HGg4 := Lib.hid g4
  clear g4
  go_upto_region 6 with (refine wpList_store_row rfl 26 _ _ rfl (q4) fv rfl rfl 26 _ HP4.out.1 (HFS.out.1) (HFS.out.2.1) HFS.out.2.2 ?_)
  rw [HP4.out.2]
  clear hq4
  go_wp2_with (first
    | (refine wpList_load_mid rfl 26 _ rfl (w.heap.size) 0 rfl gs.toList _ (range_kept HX.out.2.1 (grown_trans (grown_trans HGg2.out HGg3.out) HGg4.out)) Tryz.underlying26 rfl (by rw [Array.length_toList]; exact HS.out.1) ?_; rw [Array.toArray_toList])
    | (refine wpList_load_mid rfl 24 _ rfl (w.heap.size + 1) 0 rfl DA.toList _ (range_kept HX.out.2.2.1 (grown_trans (grown_trans HGg2.out HGg3.out) HGg4.out)) Tryz.underlying24 rfl (by rw [Array.length_toList]; exact HS.out.2.1) ?_; rw [Array.toArray_toList]))
  refine (HN.out W4 (grown_trans HX.out.1 (grown_trans (grown_trans HGg2.out HGg3.out) HGg4.out)) hl).mono ?_
  rintro e w5 ⟨g5, hcase⟩
  obtain ⟨nv, v2, rfl, HNV⟩ : ∃ (nv : Array Value) (v2 : Value), e = .returned (.tuple #[.agg nv, v2]) ∧ Hid ((nv.size = 18 ∧ (nv.all fun v => v.oneCell') = true) ∧ ((rightS V = true ∧ (0 ≤ ge ∧ ge < 1073741824) ∧ v2 = evOf E 0 ∧ ∃ A1 c1, nv = grV (ge + 1) (.slice A1 n c1) (arrV .u8 (idD (genB (ge + 1) la))) ∧ VdsAt w5 A1 V) ∨ (rightS V = false ∧ v2 = evOf E 11 ∧ nv = zGr) ∨ (rightS V = true ∧ (ge < 0 ∨ 1073741824 ≤ ge) ∧ v2 = evOf E 18 ∧ nv = zGr))) := by
    rcases hcase with ⟨hr, hb, A1, c1, rfl, hown⟩ | ⟨hr, rfl⟩ | ⟨hr, hb, rfl⟩
    · exact ⟨_, _, rfl, ⟨grV_size (by rw [arr_size, idD_length]), grV_one (arr_one _ _)⟩, .inl ⟨hr, hb, rfl, A1, c1, rfl, own_vdsE HK.out.2.1 hown⟩⟩
    · exact ⟨_, _, rfl, ⟨zgr_szG, grV_one (arr_one _ _)⟩, .inr (.inl ⟨hr, rfl, rfl⟩)⟩
    · exact ⟨_, _, rfl, ⟨zgr_szG, grV_one (arr_one _ _)⟩, .inr (.inr ⟨hr, hb, rfl, rfl⟩)⟩
  clear hcase
  have HNS := Lib.hid (And.intro (show (Tryz.prog.info? 26).map (·.size) = some nv.size by rw [HNV.out.1.1]; exact sz_Gre) (And.intro (show GZ.size = nv.size by rw [HNV.out.1.1, HS.out.2.2.1]) HNV.out.1.2))
  have HGg5 := Lib.hid g5
  clear g5
  obtain ⟨q6, hq6⟩ : ∃ q, w5.heap.size = q := ⟨_, rfl⟩
  obtain ⟨W6, hW6⟩ : ∃ W, (w5.alloc (.cells GZ 26)).setRow q6 nv = W := ⟨_, rfl⟩
  have bn6 : Blk (w5.alloc (.cells GZ 26)) q6 26 GZ := by rw [← hq6]; exact Blk.new w5 26 GZ
  have b6 : Blk W6 q6 26 nv := by rw [← hW6]; exact bn6.row _
  have g6 : w5.grownBy W6 none := by rw [← hW6]; exact grown_row (World.grownBy_alloc _ _ none) (.inl (by rw [hq6]; exact Nat.le_refl _)) _
  have HP6 := Lib.hid (And.intro bn6 hW6)
  have HB6 := Lib.hid b6
  clear bn6 hW6 b6
  have HGg6 := Lib.hid g6
  clear g6
  go_upto_region 7 with (refine wpList_store_row rfl 26 _ _ rfl (q6) nv rfl rfl 26 _ HP6.out.1 (HNS.out.1) (HNS.out.2.1) HNS.out.2.2 ?_)
  rw [HP6.out.2]
  clear hq6
  go_wp2_with (first
    | (refine wpList_load_mid rfl 26 _ rfl (w.heap.size) 0 rfl gs.toList _ (range_kept HX.out.2.1 (grown_trans (grown_trans (grown_trans (grown_trans HGg2.out HGg3.out) HGg4.out) HGg5.out) HGg6.out)) Tryz.underlying26 rfl (by rw [Array.length_toList]; exact HS.out.1) ?_; rw [Array.toArray_toList])
    | (refine wpList_load_mid rfl 24 _ rfl (w.heap.size + 1) 0 rfl DA.toList _ (range_kept HX.out.2.2.1 (grown_trans (grown_trans (grown_trans (grown_trans HGg2.out HGg3.out) HGg4.out) HGg5.out) HGg6.out)) Tryz.underlying24 rfl (by rw [Array.length_toList]; exact HS.out.2.1) ?_; rw [Array.toArray_toList]))
  refine (HRN.out W6 (grown_trans HX.out.1 (grown_trans (grown_trans (grown_trans (grown_trans HGg2.out HGg3.out) HGg4.out) HGg5.out) HGg6.out)) hl).mono ?_
  rintro e w7 ⟨g7, hcase⟩
  obtain ⟨wv, k, rfl, HWV⟩ : ∃ (wv : Array Value) (k : Nat), e = .returned (.tuple #[.agg wv, .int .i64 (k : Int)]) ∧ Hid ((wv.size = 18 ∧ (wv.all fun v => v.oneCell') = true) ∧ k ≤ 18 ∧ v2 = evOf E k ∧ ∀ W : World, w5.grownBy W none → Calls Tryz.prog 8 #[.agg nv, .agg wv] W fun e w' => e = .returned (.bool true) ∧ W.grownBy w' none) := by
    have hzz : ∀ W : World, Calls Tryz.prog 8 #[.agg zGr, .agg zGr] W fun e w' => e = .returned (.bool true) ∧ W.grownBy w' none := fun W => by
      have := rgsame_is W 0 0 none none 0 0 0 0 [] [] rfl rfl (fun h => absurd rfl h) (fun h => absurd rfl h) (fun _ h => absurd h List.not_mem_nil) (fun _ h => absurd h List.not_mem_nil) (by omega) (List.replicate 16 0) (List.replicate 16 0) rfl rfl zGr zGr rfl rfl
      rw [sameS_self] at this
      simpa using this
    rcases hcase with ⟨hr, rfl⟩ | ⟨hr, hb, rfl⟩ | ⟨hr, hb, rfl⟩
    · refine ⟨_, 11, rfl, ⟨zgr_szG, grV_one (arr_one _ _)⟩, by omega, ?_⟩
      rcases HNV.out.2 with ⟨h1, _⟩ | ⟨_, h2, h3⟩ | ⟨h1, _⟩
      · rw [hr] at h1; cases h1
      · exact ⟨h2, fun W _ => by rw [h3]; exact hzz W⟩
      · rw [hr] at h1; cases h1
    · refine ⟨_, 18, rfl, ⟨zgr_szG, grV_one (arr_one _ _)⟩, by omega, ?_⟩
      rcases HNV.out.2 with ⟨_, h1, _⟩ | ⟨h1, _⟩ | ⟨_, _, h2, h3⟩
      · exfalso; omega
      · rw [hr] at h1; cases h1
      · exact ⟨h2, fun W _ => by rw [h3]; exact hzz W⟩
    · refine ⟨_, 0, rfl, ⟨grV_size (by rw [arr_size, idD_length]), grV_one (arr_one _ _)⟩, by omega, ?_⟩
      rcases HNV.out.2 with ⟨_, _, h2, A1, c1, h3, h4⟩ | ⟨h1, _⟩ | ⟨_, h1, _⟩
      · refine ⟨h2, fun W hW => ?_⟩
        have hWw : w.grownBy W none := grown_trans HX.out.1 (grown_trans (grown_trans (grown_trans (grown_trans HGg2.out HGg3.out) HGg4.out) HGg5.out) hW)
        have := rgsame_is W (ge + 1) (ge + 1) A1 A n c1 n c V V HK.out.1 HK.out.1 (h4.grown hW) (HVA.out W hWw) HK.out.2.1 HK.out.2.1 hl (idD (genB (ge + 1) la)) (idD (genB (ge + 1) la)) (idD_length _) (idD_length _) nv _ h3 rfl
        rw [sameS_self] at this
        simpa using this
      · rw [hr] at h1; cases h1
      · exfalso; omega
  clear hcase
  have HWS := Lib.hid (And.intro (show (Tryz.prog.info? 33).map (·.size) = some wv.size by rw [HWV.out.1.1]; exact sz_Rge) (And.intro (show GZ.size = wv.size by rw [HWV.out.1.1, HS.out.2.2.1]) HWV.out.1.2))
  have HGg7 := Lib.hid g7
  clear g7
  obtain ⟨q8, hq8⟩ : ∃ q, w7.heap.size = q := ⟨_, rfl⟩
  obtain ⟨W8, hW8⟩ : ∃ W, (w7.alloc (.cells GZ 33)).setRow q8 wv = W := ⟨_, rfl⟩
  have bn8 : Blk (w7.alloc (.cells GZ 33)) q8 33 GZ := by rw [← hq8]; exact Blk.new w7 33 GZ
  have b8 : Blk W8 q8 33 wv := by rw [← hW8]; exact bn8.row _
  have g8 : w7.grownBy W8 none := by rw [← hW8]; exact grown_row (World.grownBy_alloc _ _ none) (.inl (by rw [hq8]; exact Nat.le_refl _)) _
  have HP8 := Lib.hid (And.intro bn8 hW8)
  have HB8 := Lib.hid b8
  clear bn8 hW8 b8
  have HGg8 := Lib.hid g8
  clear g8
  go_upto_region 8 with (refine wpList_store_row rfl 33 _ _ rfl (q8) wv rfl rfl 33 _ HP8.out.1 (HWS.out.1) (HWS.out.2.1) HWS.out.2.2 ?_)
  rw [HP8.out.2]
  clear hq8
  go_wp2_with (first
    | (refine wpList_load_mid rfl 26 _ rfl (q6) 0 rfl nv.toList _ (range_blk0 (HB6.out.grown (grown_trans HGg7.out HGg8.out) (by simp))) Tryz.underlying26 rfl (by rw [Array.length_toList]; exact HNS.out.1) ?_; rw [Array.toArray_toList])
    | (refine wpList_load_mid rfl 33 _ rfl (q8) 0 rfl wv.toList _ (range_blk0 HB8.out) Tryz.underlying33 rfl (by rw [Array.length_toList]; exact HWS.out.1) ?_; rw [Array.toArray_toList]))
  refine (HWV.out.2.2.2 W8 (grown_trans (grown_trans HGg6.out HGg7.out) HGg8.out)).mono ?_
  rintro e w9 ⟨rfl, g9⟩
  have HGg9 := Lib.hid g9
  clear g9
  go_wp2_with fail
  have HV2 := Lib.hid HWV.out.2.2.1
  rw [HV2.out]
  refine (HNU.out w9 (grown_trans HX.out.1 (grown_trans (grown_trans (grown_trans (grown_trans (grown_trans (grown_trans (grown_trans HGg2.out HGg3.out) HGg4.out) HGg5.out) HGg6.out) HGg7.out) HGg8.out) HGg9.out)) k HWV.out.2.1).mono ?_
  rintro e w10 ⟨rfl, g10⟩
  have HGg10 := Lib.hid g10
  clear g10
  have hkk : ((k : Int) != (k : Int)) = false := by simp
  go_upto_region 10 with (fail)
  clear hkk
  have k0 := Gr.cell (w := w10) (show w10.cell? ⟨w.heap.size, 0, none⟩ = some (.int .i64 ge) from (grown_trans (grown_trans (grown_trans (grown_trans (grown_trans (grown_trans (grown_trans (grown_trans HGg2.out HGg3.out) HGg4.out) HGg5.out) HGg6.out) HGg7.out) HGg8.out) HGg9.out) HGg10.out).cell HX.out.2.2.2.1 (by simp))
  have L1 := Lib.hid (fun z : Gr w10 => mid_load_e 24 (w.heap.size + 1) 0 DA _ Tryz.underlying24 rfl HS.out.2.1 z.1 (range_kept (range_kept HX.out.2.2.1 (grown_trans (grown_trans (grown_trans (grown_trans (grown_trans (grown_trans (grown_trans (grown_trans HGg2.out HGg3.out) HGg4.out) HGg5.out) HGg6.out) HGg7.out) HGg8.out) HGg9.out) HGg10.out)) z.2))
  have S1 := Lib.hid (fun z : Gr w10 => HGA.out z.1)
  have S2 := Lib.hid (fun z : Gr w10 => HGR.out z.1)
  have S3 := Lib.hid (fun z : Gr w10 => HSB.out z.1)
  refine wp_region_grown (by kernel_rfl) (by kernel_rfl) ?_
  repeat (first
    | go_big_quiet_skip
    | (refine wpQuiet_load_row 24 _ ⟨w.heap.size + 1, 0, none⟩ (.agg DA) (by rfl) rfl rfl (by rintro _ ⟨z, rfl⟩; exact L1.out z) ?_; simp only [Act.put, List.setIfInBounds_toArray, List.set_cons_zero, List.set_cons_succ])
    | go_big_quiet_step (first
    | (go_at_call 11; with_reducible exact Calls.grown _ (S1.out _))
    | (go_at_call 12; with_reducible exact Calls.grown _ (S2.out _))
    | (go_at_call 10; with_reducible exact Calls.grown _ (S3.out _))))
  refine wpQuiet_nil ?_
  rintro w11 ⟨⟨_, g11⟩, rfl⟩
  clear k0
  have HGg11 := Lib.hid g11
  clear g11
  go_wp2_with fail
  refine (HRT.out w11 (grown_trans HX.out.1 (grown_trans (grown_trans (grown_trans (grown_trans (grown_trans (grown_trans (grown_trans (grown_trans (grown_trans HGg2.out HGg3.out) HGg4.out) HGg5.out) HGg6.out) HGg7.out) HGg8.out) HGg9.out) HGg10.out) HGg11.out)) hl).mono ?_
  rintro e w12 ⟨rfl, g12⟩
  have HGg12 := Lib.hid g12
  clear g12
  rcases HFV.out.2 with ⟨hr, rfl, A1, c1, hfv, hv1⟩ | ⟨hr, rfl, hfv⟩
  · rw [hr]
    have HFF := Lib.hid (And.intro hfv hv1)
    have HRR := Lib.hid hr
    clear hfv hv1 hr
    go_upto_region 14 with (fail)
    obtain ⟨rv, hrv⟩ : ∃ v, grV 1 (.slice A n c) (arrV .u8 (idD (genB 1 (List.replicate 16 0)))) = v := ⟨_, rfl⟩
    have L2 := Lib.hid (fun z : Gr w12 => mid_load_e 26 q4 0 fv _ Tryz.underlying26 rfl HFS.out.1 z.1 (range_kept (range_blk0 (HB4.out.grown (grown_trans (grown_trans (grown_trans (grown_trans (grown_trans (grown_trans (grown_trans HGg5.out HGg6.out) HGg7.out) HGg8.out) HGg9.out) HGg10.out) HGg11.out) HGg12.out) (by simp))) z.2))
    have S4 := Lib.hid (fun z : Gr w12 => (show Calls Tryz.prog 14 #[.slice A n c] z.1 fun e w' => e = .returned (.agg rv) ∧ z.1.grownBy w' none from by rw [← hrv]; exact rfirst_is z.1 A c n))
    have S5 := Lib.hid (fun z : Gr w12 => (show Calls Tryz.prog 8 #[.agg fv, .agg rv] z.1 fun e w' => e = .returned (.bool true) ∧ z.1.grownBy w' none from by
      have hWw : w.grownBy z.1 none := grown_trans HX.out.1 (grown_trans (grown_trans (grown_trans (grown_trans (grown_trans (grown_trans (grown_trans (grown_trans (grown_trans (grown_trans (grown_trans HGg2.out HGg3.out) HGg4.out) HGg5.out) HGg6.out) HGg7.out) HGg8.out) HGg9.out) HGg10.out) HGg11.out) HGg12.out) z.2)
      have := rgsame_is z.1 1 1 A1 A n c1 n c V V HK.out.1 HK.out.1 (HFF.out.2.grown (grown_trans (grown_trans (grown_trans (grown_trans (grown_trans (grown_trans (grown_trans (grown_trans (grown_trans HGg4.out HGg5.out) HGg6.out) HGg7.out) HGg8.out) HGg9.out) HGg10.out) HGg11.out) HGg12.out) z.2)) (HVA.out z.1 hWw) HK.out.2.1 HK.out.2.1 hl (idD (genB 1 (List.replicate 16 0))) (idD (genB 1 (List.replicate 16 0))) (idD_length _) (idD_length _) fv rv HFF.out.1 hrv.symm
      rw [sameS_self] at this
      simpa using this))
    clear hrv
    refine wp_region_grown (by kernel_rfl) (by kernel_rfl) ?_
    repeat (first
      | go_big_quiet_skip
      | (refine wpQuiet_load_row 26 _ ⟨q4, 0, none⟩ (.agg fv) (by rfl) rfl rfl (by rintro _ ⟨z, rfl⟩; exact L2.out z) ?_; simp only [Act.put, List.setIfInBounds_toArray, List.set_cons_zero, List.set_cons_succ])
      | go_big_quiet_step (first
      | (go_at_call 14; with_reducible exact Calls.grown _ (S4.out _))
      | (go_at_call 8; with_reducible exact Calls.grown _ (S5.out _))))
    refine wpQuiet_nil ?_
    rintro w13 ⟨⟨_, g13⟩, rfl⟩
    have H13 := Lib.hid (grown_trans HX.out.1 (grown_trans (grown_trans (grown_trans (grown_trans (grown_trans (grown_trans (grown_trans (grown_trans (grown_trans (grown_trans (grown_trans HGg2.out HGg3.out) HGg4.out) HGg5.out) HGg6.out) HGg7.out) HGg8.out) HGg9.out) HGg10.out) HGg11.out) HGg12.out) g13))
    clear g13
    go_wp2_with fail
    go_ret
    exact ⟨rfl, H13.out⟩
  · rw [hr]
    have HFF := Lib.hid hfv
    clear hfv hr
    go_wp2_with (refine wpList_load_mid rfl 26 _ rfl (q4) 0 rfl fv.toList _ (range_blk0 (HB4.out.grown (grown_trans (grown_trans (grown_trans (grown_trans (grown_trans (grown_trans (grown_trans HGg5.out HGg6.out) HGg7.out) HGg8.out) HGg9.out) HGg10.out) HGg11.out) HGg12.out) (by simp))) Tryz.underlying26 rfl (by rw [Array.length_toList]; exact HFS.out.1) ?_; rw [Array.toArray_toList])
    have hzz : Calls Tryz.prog 8 #[.agg fv, .agg GZ] w12 fun e w' => e = .returned (.bool true) ∧ w12.grownBy w' none := by
      have := rgsame_is w12 0 0 none none 0 0 0 0 [] [] rfl rfl (fun h => absurd rfl h) (fun h => absurd rfl h) (fun _ h => absurd h List.not_mem_nil) (fun _ h => absurd h List.not_mem_nil) (by omega) (List.replicate 16 0) (List.replicate 16 0) rfl rfl fv GZ (by rw [HFF.out]; rfl) (by rw [← HS.out.2.2.2.2]; rfl)
      rw [sameS_self] at this
      simpa using this
    refine hzz.mono ?_
    rintro e w13 ⟨rfl, g13⟩
    clear hzz
    have H13 := Lib.hid (grown_trans (grown_trans (grown_trans (grown_trans (grown_trans (grown_trans (grown_trans (grown_trans (grown_trans (grown_trans (grown_trans HGg2.out HGg3.out) HGg4.out) HGg5.out) HGg6.out) HGg7.out) HGg8.out) HGg9.out) HGg10.out) HGg11.out) HGg12.out) g13)
    clear g13
    go_wp2_with fail
    refine (HNU.out w13 (grown_trans HX.out.1 H13.out) 11 (by omega)).mono ?_
    rintro e w14 ⟨rfl, g14⟩
    have H14 := Lib.hid (grown_trans H13.out g14)
    clear g14
    go_wp2_with fail
    go_ret
    exact ⟨rfl, grown_trans HX.out.1 H14.out⟩
end Go.Proofs.YtpdfkgmgmndcfaaGreatDoor
