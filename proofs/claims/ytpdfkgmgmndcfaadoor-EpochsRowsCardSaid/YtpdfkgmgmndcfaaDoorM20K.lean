/-
  Several texts in one: EpB, Ou.
-/
import Derived.Test.YtpdfkgmgmndcfaaDoorM20J
import Derived.Deep.DeepCutAuto
import Derived.Deep.RegionWith
import Derived.Deep.RegionHeld3
import Derived.Test.YtpdfkgmgmndcfaaDoorM20A
import Derived.Test.YtpdfkgmgmndcfaaDoorM20b
import Derived.Test.YtpdfkgmgmndcfaaDoorM20o
/-
  Epochs: the first ground, the ground behind a ground (First, Next).
-/

namespace Go.Proofs.YtpdfkgmgmndcfaaDoor
open Go.RowKit

/-- What First and Next leave: a ground of the validators V behind the block p, or an error. -/
def GrOut (w w' : World) (a : Int) (n : Nat) (V : List Vd) (p : List Int) (e : Ending) : Prop :=
  ∃ A' c', e = .returned (.tuple #[.agg (grV a (.slice A' n c') (arrV .u8 (idD (genB a p)))), .nilIface]) ∧ w'.ownsRow w.heap.size 45 17 (.slice A' n c') n (V.flatMap Vd.cells)
def GrNo (e : Ending) (er : Addr) : Prop := e = .returned (.tuple #[.agg zGr, errV er])
theorem zD_dig : isDig (List.replicate 16 0) := zeroC_dig
set_option maxRecDepth 100000 in
set_option maxHeartbeats 2000000 in
theorem first_is (w : World) (E : Nat → Addr) (hR : Rounds w) (he : ErrAt w w.heap.size 3 (E 0)) (es : Addr) (hes : ErrAt w w.heap.size 1 es) (A : Option Addr) (c n : Nat) (V : List Vd) (hn : V.length = n) (hV : VdsAt w A V) (ok : keysOk V) (hl : n < 1000) :
    Calls Tryd.prog 6 #[.slice A n c] w fun e w' => w.grownBy w' none ∧ ((rightS V = true ∧ GrOut w w' 1 n V (List.replicate 16 0) e) ∨ (rightS V = false ∧ GrNo e es)) := by
  obtain ⟨GZ, hGZ⟩ : ∃ Z, zGr = Z := ⟨_, rfl⟩
  have hgz : ∀ w, Sem.run Tryd.prog (zeroValue 27) w = .ok (.agg GZ) w := fun w => by rw [← hGZ]; exact zgr_run w
  have hgb : ∀ w, Sem.run Tryd.prog (Instr.build 27 #[]) w = .ok (.agg GZ) w := fun w => by rw [← hGZ]; exact zgr_build w
  obtain ⟨D, hD⟩ : ∃ Z, zD16 = Z := ⟨_, rfl⟩
  have HL := Lib.hid (show Value.agg #[.int .u8 0, .int .u8 0, .int .u8 0, .int .u8 0, .int .u8 0, .int .u8 0, .int .u8 0, .int .u8 0, .int .u8 0, .int .u8 0, .int .u8 0, .int .u8 0, .int .u8 0, .int .u8 0, .int .u8 0, .int .u8 0] = Value.agg D by rw [← hD]; kernel_rfl)
  obtain ⟨dv, hdv⟩ : ∃ dv, arrV .u8 (idD (genB 1 (List.replicate 16 0))) = dv := ⟨_, rfl⟩
  have hd16 : dv.size = 16 := by rw [← hdv, arr_size, idD_length]
  have hd1 : (dv.all fun v => v.oneCell') = true := by rw [← hdv]; exact arr_one _ _
  have hGs : GZ.size = 18 := by rw [← hGZ]; exact grV_size (by rw [zD16, arr_size]; rfl)
  have hG1 : (GZ.all fun v => v.oneCell') = true := by rw [← hGZ]; exact grV_one (arr_one _ _)
  obtain ⟨W1, hW1⟩ : ∃ W1, w.alloc (.cells GZ 27) = W1 := ⟨_, rfl⟩
  have g1 : w.grownBy W1 none := by rw [← hW1]; exact World.grownBy_alloc _ _ none
  have bz : Blk W1 w.heap.size 27 GZ := by rw [← hW1]; exact Blk.new w _ _
  have hck := check_is W1 A c W1.heap.size V es (hV.grown g1) ok (by omega) ⟨g1.cell hes.1 (by simp), by have := hes.2; have := g1.size; omega⟩
  rw [hn] at hck
  have HC := Lib.hid hck
  have HGD := Lib.hid (fun (W : World) (hW : w.grownBy W none) (h1 : 1 ≤ n) => ground_is W E (hR.grown hW (by simp)) ⟨hW.cell he.1 (by simp), by have := he.2; have := hW.size; omega⟩ 1 (by omega) (by omega) A c n V hn (hV.grown hW) ok h1 hl (List.replicate 16 0) zD_dig D hD.symm dv hdv.symm)
  have HR := Lib.hid (show rightS V = true → 1 ≤ n from fun h => by have := (rightS_iff V).1 h; omega)
  have HX := Lib.hid (And.intro g1 bz)
  have HS := Lib.hid (And.intro (show (Tryd.prog.info? 27).map (·.size) = some GZ.size by rw [hGs]; exact sz_Gre) (And.intro hG1 (And.intro hGs (And.intro hd16 (And.intro hd1 (And.intro hdv hGZ))))))
  have HW := Lib.hid hW1
  clear hck hGZ hD hdv hd16 hd1 hGs hG1 g1 bz hW1 hV ok hl he hes hR hn
  go_enter Tryd.func6, Tryd.ntmps6
  go_upto_region 1 with (fail)
  rw [HW.out]
  go_wp2_with fail
  refine HC.out.mono ?_
  rintro e w2 ⟨g2, ⟨hr, rfl⟩ | ⟨hr, rfl⟩⟩
  · have H2 := Lib.hid (And.intro (grown_trans HX.out.1 g2) (And.intro (HX.out.2.grown g2 (by simp)) hr))
    clear g2 hr
    go_wp2_with fail
    rw [HL.out]
    refine (HGD.out w2 H2.out.1 (HR.out H2.out.2.2)).mono ?_
    rintro e w3 ⟨g3, A', c', rfl, hown⟩
    obtain ⟨gv, hgv⟩ : ∃ gv, grV 1 (.slice A' n c') dv = gv := ⟨_, rfl⟩
    rw [hgv]
    have hgs : gv.size = 18 := by rw [← hgv]; exact grV_size HS.out.2.2.2.1
    have H3 := Lib.hid (And.intro (grown_trans H2.out.1 g3) (And.intro (H2.out.2.1.grown g3 (by simp)) (And.intro hown (And.intro hgv (And.intro (show (Tryd.prog.info? 27).map (·.size) = some gv.size by rw [hgs]; exact sz_Gre) (And.intro (show GZ.size = gv.size by rw [hgs, HS.out.2.2.1]) (show (gv.all fun v => v.oneCell') = true by rw [← hgv]; exact grV_one HS.out.2.2.2.2.1)))))))
    clear g3 hown hgv hgs
    go_wp2_with (refine wpList_store_row rfl 27 _ _ rfl (w.heap.size) gv rfl rfl 27 _ H3.out.2.1 (H3.out.2.2.2.2.1) (H3.out.2.2.2.2.2.1) H3.out.2.2.2.2.2.2 ?_)
    refine bodyPost_ret (results_cell_t rfl _ _ _ ⟨w.heap.size, 0, none⟩ (.agg gv) rfl (run_loadVar_row _ (w.heap.size) 27 27 _ (0, 0) _ (H3.out.2.1.row _) Tryd.underlying27 rfl H3.out.2.2.2.2.1)) rfl ?_
    refine ⟨grown_row H3.out.1 (.inl (Nat.le_refl _)) _, .inl ⟨H2.out.2.2, A', c', by rw [HS.out.2.2.2.2.2.1, H3.out.2.2.2.1]; rfl, own_kept (H3.out.2.2.1.mono (base' := w.heap.size) H2.out.1.size) (row_kept_e gv) fun k hk hkq => ?_⟩⟩
    have h9 := (H3.out.2.2.1.lt k hk).1
    have h10 := H2.out.2.1.lt
    omega
  · have H2 := Lib.hid (And.intro (grown_trans HX.out.1 g2) (And.intro (HX.out.2.grown g2 (by simp)) hr))
    clear g2 hr
    go_wp2_with (refine wpList_store_row rfl 27 _ _ rfl (w.heap.size) GZ rfl rfl 27 _ H2.out.2.1 (HS.out.1) (rfl) HS.out.2.1 ?_)
    refine bodyPost_ret (results_cell_t rfl _ _ _ ⟨w.heap.size, 0, none⟩ (.agg GZ) rfl (run_loadVar_row _ (w.heap.size) 27 27 _ (0, 0) _ (H2.out.2.1.row _) Tryd.underlying27 rfl HS.out.1)) rfl ?_
    exact ⟨grown_row H2.out.1 (.inl (Nat.le_refl _)) _, .inr ⟨H2.out.2.2, by rw [GrNo, HS.out.2.2.2.2.2.2]; rfl⟩⟩
set_option maxRecDepth 100000 in
set_option maxHeartbeats 2000000 in
theorem next_is (w : World) (E : Nat → Addr) (hR : Rounds w) (he : ErrAt w w.heap.size 3 (E 0)) (es ee : Addr) (hes : ErrAt w w.heap.size 1 es) (hee : ErrAt w w.heap.size 0 ee)
    (ge : Int) (G0 : Value) (G : Array Value) (hG : G.size = 16) (gs : Array Value) (hgs : gs = grV ge G0 G) (p : List Int) (hp : isDig p) (D : Array Value) (hD : D = arrV .u8 p) (A : Option Addr) (c n : Nat) (V : List Vd) (hn : V.length = n) (hV : VdsAt w A V) (ok : keysOk V) (hl : n < 1000) :
    Calls Tryd.prog 7 #[.agg gs, .agg D, .slice A n c] w fun e w' => w.grownBy w' none ∧
      ((rightS V = true ∧ (0 ≤ ge ∧ ge < 1073741824) ∧ GrOut w w' (ge + 1) n V p e) ∨ (rightS V = false ∧ GrNo e es) ∨ (rightS V = true ∧ (ge < 0 ∨ 1073741824 ≤ ge) ∧ GrNo e ee)) := by
  obtain ⟨GZ, hGZ⟩ : ∃ Z, zGr = Z := ⟨_, rfl⟩
  have hgz : ∀ w, Sem.run Tryd.prog (zeroValue 27) w = .ok (.agg GZ) w := fun w => by rw [← hGZ]; exact zgr_run w
  have hgb : ∀ w, Sem.run Tryd.prog (Instr.build 27 #[]) w = .ok (.agg GZ) w := fun w => by rw [← hGZ]; exact zgr_build w
  obtain ⟨dv, hdv⟩ : ∃ dv, arrV .u8 (idD (genB (ge + 1) p)) = dv := ⟨_, rfl⟩
  have hd16 : dv.size = 16 := by rw [← hdv, arr_size, idD_length]
  have hd1 : (dv.all fun v => v.oneCell') = true := by rw [← hdv]; exact arr_one _ _
  have hGs : GZ.size = 18 := by rw [← hGZ]; exact grV_size (by rw [zD16, arr_size]; rfl)
  have hG1 : (GZ.all fun v => v.oneCell') = true := by rw [← hGZ]; exact grV_one (arr_one _ _)
  obtain ⟨W1, hW1⟩ : ∃ W1, ((w.alloc (.cells gs 27)).alloc (.cells D 24)).alloc (.cells GZ 27) = W1 := ⟨_, rfl⟩
  have g1 : w.grownBy W1 none := by rw [← hW1]; exact grown_trans (grown_trans (World.grownBy_alloc _ _ none) (World.grownBy_alloc _ _ none)) (World.grownBy_alloc _ _ none)
  have bg : Blk W1 w.heap.size 27 gs := by rw [← hW1]; exact ((Blk.new w _ _).alloc _).alloc _
  have bd : Blk W1 (w.heap.size + 1) 24 D := by
    have := (Blk.new (w.alloc (.cells gs 27)) 24 D).alloc (.cells GZ 27)
    rw [← hW1]; simpa using this
  have bz : Blk W1 (w.heap.size + 2) 27 GZ := by
    have := Blk.new ((w.alloc (.cells gs 27)).alloc (.cells D 24)) 27 GZ
    rw [← hW1]; simpa using this
  have hck := check_is W1 A c W1.heap.size V es (hV.grown g1) ok (by omega) ⟨g1.cell hes.1 (by simp), by have := hes.2; have := g1.size; omega⟩
  rw [hn] at hck
  have HC := Lib.hid hck
  have HGD := Lib.hid (fun (W : World) (hW : w.grownBy W none) (h1 : 1 ≤ n) (h0 : 0 ≤ ge) (h2 : ge < 1073741824) => ground_is W E (hR.grown hW (by simp)) ⟨hW.cell he.1 (by simp), by have := he.2; have := hW.size; omega⟩ (ge + 1) (by omega) (by omega) A c n V hn (hV.grown hW) ok h1 hl p hp D hD dv hdv.symm)
  have HR := Lib.hid (show rightS V = true → 1 ≤ n from fun h => by have := (rightS_iff V).1 h; omega)
  have hc0 : W1.cell? ⟨w.heap.size, 0, none⟩ = some (.int .i64 ge) := by
    have := range_blk0 bg 0 (.int .i64 ge) (by rw [hgs]; simp [grV])
    simpa using this
  have HX := Lib.hid (And.intro g1 (And.intro bz (And.intro (range_blk0 bd) hc0)))
  have HS := Lib.hid (And.intro (show (Tryd.prog.info? 27).map (·.size) = some GZ.size by rw [hGs]; exact sz_Gre) (And.intro hG1 (And.intro hGs (And.intro hd16 (And.intro hd1 (And.intro hdv (And.intro hGZ (show (Tryd.prog.info? 24).map (·.size) = some D.size by rw [hD, arr_size, hp.1]; exact sz_Dg))))))))
  have HW := Lib.hid hW1
  have HEE := Lib.hid hee
  clear hck hGZ hD hdv hd16 hd1 hGs hG1 g1 bz hW1 hV ok hl he hes hR hn bg bd hc0 hgs hG hp hee
  go_enter Tryd.func7, Tryd.ntmps7
  go_upto_region 1 with (fail)
  rw [HW.out]
  go_wp2_with fail
  refine HC.out.mono ?_
  rintro e w2 ⟨g2, ⟨hr, rfl⟩ | ⟨hr, rfl⟩⟩
  · have H2 := Lib.hid (And.intro (grown_trans HX.out.1 g2) (And.intro (HX.out.2.1.grown g2 (by simp)) (And.intro hr (range_kept HX.out.2.2.1 g2))))
    have c0 : w2.cell? ⟨w.heap.size, 0, none⟩ = some (.int .i64 ge) := g2.cell HX.out.2.2.2 (by simp)
    have ce : w2.cell? ⟨0, 0, none⟩ = some (errV ee) := H2.out.1.cell HEE.out.1 (by simp)
    clear g2 hr
    by_cases hb : ge < 0 ∨ 1073741824 ≤ ge
    · have HBD := Lib.hid hb
      have fin : ∀ W : World, W = w2.drew → Blk W (w.heap.size + 2) 27 GZ ∧ w.grownBy W none := fun W hW => by
        rw [hW]; exact ⟨H2.out.2.1, grown_drew H2.out.1⟩
      have HF := Lib.hid (fin _ rfl)
      have ced : w2.drew.cell? ⟨0, 0, none⟩ = some (errV ee) := ce
      clear fin
      by_cases h0 : ge < 0
      · have a1 : decide (ge < 0) = true := by simpa using h0
        clear hb h0
        go_upto_region 5 with (fail)
        refine wp_region_held_drew (S := fun V => V.cell? ⟨0, 0, none⟩ = some (errV ee)) (by kernel_rfl) ced (fun hHeld => ?_)
        refine wpAnyH_take (i := 0) (oi := _) (v := ?vx0) rfl (by kernel_rfl) (by kernel_rfl) (by kernel_rfl) (fun _ _ _ h => h) (Or.inl ⟨by rfl, ?hyx0⟩) (by assumption) ?restx0
        case hyx0 => (intro V hSw; (try dsimp only at hSw); go_simp) <;> with_reducible rfl
        try simp only [Act.put, List.getElem_toArray, List.getElem_cons_succ, List.getElem_cons_zero, List.setIfInBounds_toArray, List.set_cons_zero, List.set_cons_succ]
        refine wpAnyH_take (i := 1) (oi := _) (v := ?vx1) rfl (by kernel_rfl) (by kernel_rfl) (by kernel_rfl) (fun _ _ _ h => h) (Or.inl ⟨by rfl, ?hyx1⟩) (by assumption) ?restx1
        case hyx1 => (intro V hSw; (try dsimp only at hSw); go_simp) <;> with_reducible rfl
        try simp only [Act.put, List.getElem_toArray, List.getElem_cons_succ, List.getElem_cons_zero, List.setIfInBounds_toArray, List.set_cons_zero, List.set_cons_succ]
        refine wpAnyH_ready (rs := [2]) (by kernel_rfl) (by simp) ?_
        refine (AllReadyH.cons (o := _) rfl (fun K9 hK => ?_) AllReadyH.nil)
        refine ready_store_e (by rfl) 27 _ _ rfl (w.heap.size + 2) 0 GZ rfl rfl (there_blk HF.out.1 (Nat.le_refl _)) HS.out.1 HS.out.2.1 ?_
        rw [setCells_row (P := Tryd.prog) (ty := 27) HF.out.1 HS.out.1 rfl HS.out.2.1]
        refine hK.out _ _ ((row_kept_e GZ).cell ced (show ¬ (0 : Nat) = w.heap.size + 2 by have h8 : (0 : Nat) < w.heap.size := World.block_lt_of_cell? w _ HEE.out.1; omega)) (fun hHeld => ?_)
        clear hK K9
        try simp only [Act.put, List.getElem_toArray, List.getElem_cons_succ, List.getElem_cons_zero, List.setIfInBounds_toArray, List.set_cons_zero, List.set_cons_succ]
        refine wpAnyH_take (i := 3) (oi := _) (v := ?vx3) rfl (by kernel_rfl) (by kernel_rfl) (by kernel_rfl) (fun _ _ _ h => h) (Or.inl ⟨by rfl, ?hyx3⟩) (by assumption) ?restx3
        case hyx3 => (intro V hSw; (try dsimp only at hSw); go_simp) <;> with_reducible rfl
        try simp only [Act.put, List.getElem_toArray, List.getElem_cons_succ, List.getElem_cons_zero, List.setIfInBounds_toArray, List.set_cons_zero, List.set_cons_succ]
        refine wpAnyH_done (by kernel_rfl) ?_ _
        go_wp2_with fail
        refine bodyPost_ret (results_cell_t rfl _ _ _ ⟨w.heap.size + 2, 0, none⟩ (.agg GZ) rfl (run_loadVar_row _ (w.heap.size + 2) 27 27 _ (0, 0) _ (HF.out.1.row _) Tryd.underlying27 rfl HS.out.1)) rfl ?_
        exact ⟨grown_row HF.out.2 (.inl (by omega)) _, .inr (.inr ⟨H2.out.2.2.1, HBD.out, by rw [GrNo, HS.out.2.2.2.2.2.2.1]; rfl⟩)⟩
      · have a1 : decide (ge < 0) = false := by simpa using h0
        have h2 : 1073741824 ≤ ge := by omega
        have a2 : decide (1073741824 ≤ ge) = true := by simpa using h2
        clear hb h0 h2
        go_upto_region 5 with (fail)
        refine wp_region_held_drew (S := fun V => V.cell? ⟨0, 0, none⟩ = some (errV ee)) (by kernel_rfl) ced (fun hHeld => ?_)
        refine wpAnyH_take (i := 0) (oi := _) (v := ?vy0) rfl (by kernel_rfl) (by kernel_rfl) (by kernel_rfl) (fun _ _ _ h => h) (Or.inl ⟨by rfl, ?hyy0⟩) (by assumption) ?resty0
        case hyy0 => (intro V hSw; (try dsimp only at hSw); go_simp) <;> with_reducible rfl
        try simp only [Act.put, List.getElem_toArray, List.getElem_cons_succ, List.getElem_cons_zero, List.setIfInBounds_toArray, List.set_cons_zero, List.set_cons_succ]
        refine wpAnyH_take (i := 1) (oi := _) (v := ?vy1) rfl (by kernel_rfl) (by kernel_rfl) (by kernel_rfl) (fun _ _ _ h => h) (Or.inl ⟨by rfl, ?hyy1⟩) (by assumption) ?resty1
        case hyy1 => (intro V hSw; (try dsimp only at hSw); go_simp) <;> with_reducible rfl
        try simp only [Act.put, List.getElem_toArray, List.getElem_cons_succ, List.getElem_cons_zero, List.setIfInBounds_toArray, List.set_cons_zero, List.set_cons_succ]
        refine wpAnyH_ready (rs := [2]) (by kernel_rfl) (by simp) ?_
        refine (AllReadyH.cons (o := _) rfl (fun K9 hK => ?_) AllReadyH.nil)
        refine ready_store_e (by rfl) 27 _ _ rfl (w.heap.size + 2) 0 GZ rfl rfl (there_blk HF.out.1 (Nat.le_refl _)) HS.out.1 HS.out.2.1 ?_
        rw [setCells_row (P := Tryd.prog) (ty := 27) HF.out.1 HS.out.1 rfl HS.out.2.1]
        refine hK.out _ _ ((row_kept_e GZ).cell ced (show ¬ (0 : Nat) = w.heap.size + 2 by have h8 : (0 : Nat) < w.heap.size := World.block_lt_of_cell? w _ HEE.out.1; omega)) (fun hHeld => ?_)
        clear hK K9
        try simp only [Act.put, List.getElem_toArray, List.getElem_cons_succ, List.getElem_cons_zero, List.setIfInBounds_toArray, List.set_cons_zero, List.set_cons_succ]
        refine wpAnyH_take (i := 3) (oi := _) (v := ?vy3) rfl (by kernel_rfl) (by kernel_rfl) (by kernel_rfl) (fun _ _ _ h => h) (Or.inl ⟨by rfl, ?hyy3⟩) (by assumption) ?resty3
        case hyy3 => (intro V hSw; (try dsimp only at hSw); go_simp) <;> with_reducible rfl
        try simp only [Act.put, List.getElem_toArray, List.getElem_cons_succ, List.getElem_cons_zero, List.setIfInBounds_toArray, List.set_cons_zero, List.set_cons_succ]
        refine wpAnyH_done (by kernel_rfl) ?_ _
        go_wp2_with fail
        refine bodyPost_ret (results_cell_t rfl _ _ _ ⟨w.heap.size + 2, 0, none⟩ (.agg GZ) rfl (run_loadVar_row _ (w.heap.size + 2) 27 27 _ (0, 0) _ (HF.out.1.row _) Tryd.underlying27 rfl HS.out.1)) rfl ?_
        exact ⟨grown_row HF.out.2 (.inl (by omega)) _, .inr (.inr ⟨H2.out.2.2.1, HBD.out, by rw [GrNo, HS.out.2.2.2.2.2.2.1]; rfl⟩)⟩
    · have hb0 : 0 ≤ ge := by omega
      have hb1 : ge < 1073741824 := by omega
      have a1 : decide (ge < 0) = false := by simp; omega
      have a2 : decide (1073741824 ≤ ge) = false := by simp; omega
      have hw := w64 (ge + 1) ⟨by omega, by omega⟩
      have HBB := Lib.hid (And.intro hb0 hb1)
      have HGD2 := Lib.hid (HGD.out w2 H2.out.1 (HR.out H2.out.2.2.1) hb0 hb1)
      clear hb hb0 hb1
      go_wp2_with (refine wpList_load_mid rfl 24 _ rfl (w.heap.size + 1) 0 rfl D.toList _ H2.out.2.2.2 Tryd.underlying24 rfl (by rw [Array.length_toList]; exact HS.out.2.2.2.2.2.2.2) ?_; rw [Array.toArray_toList])
      refine HGD2.out.mono ?_
      rintro e w3 ⟨g3, A', c', rfl, hown⟩
      obtain ⟨gv, hgv⟩ : ∃ gv, grV (ge + 1) (.slice A' n c') dv = gv := ⟨_, rfl⟩
      rw [hgv]
      have hgs : gv.size = 18 := by rw [← hgv]; exact grV_size HS.out.2.2.2.1
      have H3 := Lib.hid (And.intro (grown_trans H2.out.1 g3) (And.intro (H2.out.2.1.grown g3 (by simp)) (And.intro hown (And.intro hgv (And.intro (show (Tryd.prog.info? 27).map (·.size) = some gv.size by rw [hgs]; exact sz_Gre) (And.intro (show GZ.size = gv.size by rw [hgs, HS.out.2.2.1]) (show (gv.all fun v => v.oneCell') = true by rw [← hgv]; exact grV_one HS.out.2.2.2.2.1)))))))
      clear g3 hown hgv hgs c0 ce
      go_wp2_with (refine wpList_store_row rfl 27 _ _ rfl (w.heap.size + 2) gv rfl rfl 27 _ H3.out.2.1 (H3.out.2.2.2.2.1) (H3.out.2.2.2.2.2.1) H3.out.2.2.2.2.2.2 ?_)
      refine bodyPost_ret (results_cell_t rfl _ _ _ ⟨w.heap.size + 2, 0, none⟩ (.agg gv) rfl (run_loadVar_row _ (w.heap.size + 2) 27 27 _ (0, 0) _ (H3.out.2.1.row _) Tryd.underlying27 rfl H3.out.2.2.2.2.1)) rfl ?_
      refine ⟨grown_row H3.out.1 (.inl (by omega)) _, .inl ⟨H2.out.2.2.1, HBB.out, A', c', by rw [HS.out.2.2.2.2.2.1, H3.out.2.2.2.1]; rfl, own_kept (H3.out.2.2.1.mono (base' := w.heap.size) H2.out.1.size) (row_kept_e gv) fun k hk hkq => ?_⟩⟩
      have h9 := (H3.out.2.2.1.lt k hk).1
      have h10 := H2.out.2.1.lt
      omega
  · have H2 := Lib.hid (And.intro (grown_trans HX.out.1 g2) (And.intro (HX.out.2.1.grown g2 (by simp)) hr))
    clear g2 hr
    go_wp2_with (refine wpList_store_row rfl 27 _ _ rfl (w.heap.size + 2) GZ rfl rfl 27 _ H2.out.2.1 (HS.out.1) (rfl) HS.out.2.1 ?_)
    refine bodyPost_ret (results_cell_t rfl _ _ _ ⟨w.heap.size + 2, 0, none⟩ (.agg GZ) rfl (run_loadVar_row _ (w.heap.size + 2) 27 27 _ (0, 0) _ (H2.out.2.1.row _) Tryd.underlying27 rfl HS.out.1)) rfl ?_
    exact ⟨grown_row H2.out.1 (.inl (by omega)) _, .inr (.inl ⟨H2.out.2.2, by rw [GrNo, HS.out.2.2.2.2.2.2.1]; rfl⟩)⟩
end Go.Proofs.YtpdfkgmgmndcfaaDoor
/-
  The document's Out (layer 9): its block and the bytes that it owns; what each call leaves.
-/
namespace Go.Proofs.YtpdfkgmgmndcfaaDoor
open Go.RowKit

theorem Kept.follow_ou {F G : Nat → Prop} {a b c : World} (h : Kept F a b) (k : Kept G b c) (hF : ∀ k, k < a.heap.size → G k → F k) : Kept F a c :=
  ⟨k.os.trans h.os, k.tape.trans h.tape, k.output.trans h.output, Nat.le_trans h.size k.size, fun i hi hn => (k.block i (Nat.lt_of_lt_of_le hi h.size) (fun hg => hn (hF i hi hg))).trans (h.block i hi hn)⟩
/-- The Out at block g holds the error's number and the bytes s; it, and the row of the bytes, lie among the blocks F. -/
def OutIs (w : World) (F : Nat → Prop) (g : Nat) (s : WSt) : Prop :=
  F g ∧ ∃ bA bc, Blk w g 59 #[.slice bA s.2.length bc, .int .i64 (s.1 : Int)] ∧ w.ownsRow 0 5 1 (.slice bA s.2.length bc) s.2.length (Lib.byteCells s.2) ∧ ∀ ad, bA = some ad → F ad.block
theorem OutIs.mono {w : World} {F G : Nat → Prop} {g : Nat} {s : WSt} (h : OutIs w F g s) (hF : ∀ k, k < w.heap.size → F k → G k) : OutIs w G g s := by
  obtain ⟨hg, bA, bc, hb, hown, hA⟩ := h
  exact ⟨hF g hb.lt hg, bA, bc, hb, hown, by rintro ad rfl; exact hF _ (hown.lt ad.block rfl).2 (hA ad rfl)⟩
theorem OutIs.upTo {w : World} {F : Nat → Prop} {g : Nat} {s : WSt} (h : OutIs w F g s) (a b : Nat) : OutIs w (upTo F a b) g s := h.mono fun _ _ h => .inl h
theorem OutIs.grown {w w' : World} {F : Nat → Prop} {g : Nat} {s : WSt} (h : OutIs w F g s) (hg : w.grownBy w' none) : OutIs w' F g s := by
  obtain ⟨hBg, bA, bc, hb, hown, hF⟩ := h
  exact ⟨hBg, bA, bc, hb.grown hg (by simp), hown.kept hg (by cases hv : (Value.slice bA s.2.length bc).ownBlock <;> simp), hF⟩
/-- The Out at g, in the blocks F; nothing that was there in w0 has turned. -/
structure OI (w0 : World) (g : Nat) (F : Nat → Prop) (s : WSt) (w : World) : Prop where
  wr : OutIs w F g s
  low : ∀ k, F k → w0.heap.size ≤ k
  kept : Kept (fun k => w0.heap.size ≤ k) w0 w
/-- What a call leaves that writes. -/
structure OP (w0 : World) (g : Nat) (F : Nat → Prop) (s : WSt) (w w' : World) : Prop where
  wi : OI w0 g (upTo F w.heap.size w'.heap.size) s w'
  fine : Kept F w w'
section
variable {w0 w w' w'' : World} {g : Nat} {F : Nat → Prop} {s s' : WSt}
theorem OI.size (h : OI w0 g F s w) : w0.heap.size ≤ w.heap.size := h.kept.size
theorem OI.next (h : OI w0 g F s w) (k : Kept F w w') : Kept (fun k => w0.heap.size ≤ k) w0 w' := h.kept.follow_ou k fun j _ hj => h.low j hj
theorem OI.step (h : OI w0 g F s w) (k : Kept F w w') (hw : OutIs w' (upTo F w.heap.size w'.heap.size) g s') : OP w0 g F s' w w' :=
  ⟨⟨hw, fun j hj => by
    rcases hj with h1 | ⟨h1, _⟩
    · exact h.low j h1
    · exact Nat.le_trans h.size h1, h.next k⟩, k⟩
theorem OI.grown (h : OI w0 g F s w) (hg : w.grownBy w' none) : OP w0 g F s w w' := h.step (Kept.of_grown hg fun _ e => by cases e) ((h.wr.grown hg).upTo _ _)
theorem OI.drew (h : OI w0 g F s w) : OI w0 g F s w.drew := ⟨h.wr, h.low, h.kept.drew⟩
theorem OP.drew (h : OP w0 g F s w w') : OP w0 g F s w w'.drew := ⟨⟨h.wi.wr, h.wi.low, h.wi.kept.drew⟩, h.fine.drew⟩
theorem OI.same (h : OI w0 g F s w) : OP w0 g F s w w := h.grown (World.grownBy.refl _ _)
theorem OP.trans (h : OP w0 g F s w w') (k : OP w0 g (upTo F w.heap.size w'.heap.size) s' w' w'') : OP w0 g F s' w w'' := by
  have z1 := h.fine.size
  have z2 := k.fine.size
  refine ⟨⟨k.wi.wr.mono fun j _ hj => upTo_le z1 z2 j hj, fun j hj => ?_, k.wi.kept⟩, h.fine.trans k.fine⟩
  rcases hj with h1 | ⟨h1, h2⟩
  · exact h.wi.low j (.inl h1)
  · by_cases h3 : j < w'.heap.size
    · exact h.wi.low j (.inr ⟨h1, h3⟩)
    · exact k.wi.low j (.inr ⟨by omega, h2⟩)
/-- Blocks of one's own, laid ahead of what writes: they stay. -/
theorem OI.opened (h : OI w0 g F s w) (hg : w.grownBy w' none) : OI w0 g (fun k => F k ∧ k < w.heap.size) s w' :=
  ⟨(h.wr.mono (G := fun k => F k ∧ k < w.heap.size) fun j hj hf => ⟨hf, hj⟩).grown hg, fun j hj => h.low j hj.1, (h.grown hg).wi.kept⟩
theorem OP.closed (hi : OI w0 g F s' w) (hg : w.grownBy w' none) (k : OP w0 g (fun k => F k ∧ k < w.heap.size) s w' w'') : OP w0 g F s w w'' := by
  have z1 := hg.size
  have z2 := k.fine.size
  refine ⟨⟨k.wi.wr.mono fun j _ hj => ?_, fun j hj => ?_, k.wi.kept⟩, (Kept.of_grown (F := F) hg fun _ e => by cases e).follow_ou k.fine fun _ _ hj => hj.1⟩
  · rcases hj with ⟨h1, _⟩ | ⟨h1, h2⟩
    · exact .inl h1
    · exact .inr ⟨by omega, h2⟩
  · rcases hj with h1 | ⟨h1, h2⟩
    · by_cases h3 : j < w.heap.size
      · exact k.wi.low j (.inl ⟨h1, h3⟩)
      · exact Nat.le_trans hi.size (by omega)
    · exact Nat.le_trans hi.size h1
/-- Bytes that are pushed. -/
theorem OutIs.pushed {w1 : World} {l : List UInt8} {bA : Option Addr} {bc : Nat} {A' : Option Addr} {cap' : Nat} {x : List UInt8} (hBg : F g) (hb : Blk w g 59 #[.slice bA l.length bc, .int .i64 0]) (hown : w.ownsRow 0 5 1 (.slice bA l.length bc) l.length (Lib.byteCells l)) (hF : ∀ ad, bA = some ad → F ad.block)
    (hown1 : w1.ownsRow 0 5 1 (.slice A' (l.length + x.length) cap') (l.length + x.length) (Lib.byteCells l ++ Lib.byteCells x)) (hgrow : w.grownBy w1 (Value.slice bA l.length bc).ownBlock)
    (hat : (Value.slice A' (l.length + x.length) cap').ownBlock = (Value.slice bA l.length bc).ownBlock ∨ (Value.slice A' (l.length + x.length) cap').ownBlock = some w.heap.size) :
    OutIs (w1.setCell ⟨g, 0, none⟩ (.slice A' (l.length + x.length) cap')) (Proofs.YtpdfkgmgmndcfaaDoor.upTo F w.heap.size w1.heap.size) g (0, l ++ x) ∧ Kept F w (w1.setCell ⟨g, 0, none⟩ (.slice A' (l.length + x.length) cap')) := by
  have hb1 : Blk w1 g 59 #[.slice bA l.length bc, .int .i64 0] := hb.grown hgrow (own_ne hown hb (by decide)).symm
  refine ⟨⟨.inl hBg, A', cap', ?_, ?_, ?_⟩, (Kept.of_grown hgrow fun k hk => own_in hF hk).set (.inl hBg) _⟩
  · have := hb1.set 0 (.slice A' (l.length + x.length) cap')
    simpa [List.length_append] using this
  · have := own_far hown1 hb1 (by decide) 0 (.slice A' (l.length + x.length) cap')
    rw [Lib.byteCells_append, List.length_append]
    exact this
  · rintro ad rfl
    have hlt := (hown1.lt ad.block rfl).2
    rcases hat with h | h
    · exact .inl (own_in hF h.symm)
    · have : ad.block = w.heap.size := by simpa [Value.ownBlock] using h
      exact .inr ⟨by omega, hlt⟩
set_option maxRecDepth 100000 in
set_option maxHeartbeats 1000000 in
theorem onum_st (h : OI w0 g F s w) (hs : s.2.length ≤ 70368744177664) (n : Int) (hmax : n ≤ 9223372036854775807) (k : Nat) (h1 : 1 ≤ k) (h8 : k ≤ 8) :
    Calls Tryd.prog 26 #[.pointer (some ⟨g, 0, none⟩), .int .i64 n, .int .i64 (k : Int)] w fun e w' => e = .returned (.tuple #[]) ∧ OP w0 g F (sNum n (k : Int) s) w w' := by
  obtain ⟨e0, l⟩ := s
  obtain ⟨i0, hi, hz0, hz1, hz2⟩ := info_parts u8_info
  obtain ⟨hBg, bA, bc, hb, hown, hF⟩ := h.wr
  have c0 := hb.cell 0
  have c1 := hb.cell 1
  simp at c0 c1
  simp only at hs
  rcases e0 with _ | e0
  · by_cases hbad : badNum n (k : Int) = true
    · have hr : sNum n (k : Int) (0, l) = (1, l) := by unfold sNum sFail; rw [if_pos hbad]; rfl
      have hf := fits_any w n (k : Int) hmax
      rw [hbad] at hf
      have HF := Lib.hid hf
      have f1 := hb.frozen 1
      have HR := Lib.hid (show OP w0 g F (1, l) w (w.setCell ⟨g, 1, none⟩ (.int .i64 1)) from h.step ((Kept.refl F w).set (.inl hBg) _) ⟨.inl hBg, bA, bc, by simpa using hb.set 1 (.int .i64 1), own_far hown hb (by decide) 1 _, fun ad e => .inl (hF ad e)⟩)
      have d1 : (w.setCell ⟨g, 1, none⟩ (.int .i64 1)).cell? ⟨g, 1, none⟩ = some (.int .i64 1) := by
        have := (hb.set 1 (.int .i64 1)).cell 1
        simpa using this
      rw [hr]
      clear hf hr hbad
      go_enter Tryd.func26, Tryd.ntmps26
      go_wp2_with fail
      refine HF.out.mono ?_
      rintro e w1 ⟨rfl, rfl⟩
      go_wp2_with fail
      go_end0
      exact ⟨rfl, HR.out⟩
    · have hbad : badNum n (k : Int) = false := by simpa using hbad
      obtain ⟨m, rfl⟩ : ∃ m : Nat, n = (m : Int) := by
        refine Int.eq_ofNat_of_zero_le ?_
        by_cases h0 : 0 ≤ n
        · exact h0
        · exfalso
          unfold badNum at hbad
          have : decide (n < 0) = true := by simp; omega
          simp [this] at hbad
      have hr : sNum (m : Int) (k : Int) (0, l) = (0, l ++ be k m) := by unfold sNum sFix; rw [if_neg (by rw [hbad]; simp)]; simp
      have hf := fits_any w (m : Int) (k : Int) hmax
      rw [hbad] at hf
      have HF := Lib.hid hf
      have HI := Lib.hid (And.intro hi (And.intro hz0 (And.intro hz1 hz2)))
      have HH := Lib.hid h
      have HB := Lib.hid (And.intro hBg (And.intro hb (And.intro hown hF)))
      obtain ⟨x, hx⟩ : ∃ x, be k m = x := ⟨_, rfl⟩
      have hxl : x.length = k := by rw [← hx, be_length]
      rw [hr, hx]
      clear hf hr hbad hi hz0 hz1 hz2 h hBg hb hown hF
      go_enter Tryd.func26, Tryd.ntmps26
      go_wp2_with fail
      refine HF.out.mono ?_
      rintro e w1 ⟨rfl, rfl⟩
      go_upto_region 3 with (fail)
      have HN2 := Lib.hid (show Calls Tryd.prog 39 #[.int .i64 (m : Int), .int .i64 (k : Int)] w.drew fun e w' => e = .returned (.slice (some ⟨w.drew.heap.size, 0, none⟩) x.length x.length) ∧ Blk w' w.drew.heap.size 5 (Lib.byteCells x).toArray ∧ w.drew.grownBy w' none by rw [hxl, ← hx]; exact refNumber_any w.drew m k hmax h1 h8)
      have c0d : w.drew.cell? ⟨g, 0, none⟩ = some (.slice bA l.length bc) := c0
      have HX := Lib.hid (fun (w1 : World) (hbn : Blk w1 w.drew.heap.size 5 (Lib.byteCells x).toArray) (gn : w.drew.grownBy w1 none) =>
        And.intro (own_bytesAt (own_of_blk hbn rfl (by omega))) (And.intro (World.ownsRow.kept (show w.drew.ownsRow 0 5 1 (.slice bA l.length bc) l.length (Lib.byteCells l) from HB.out.2.2.1) gn (by cases hv : (Value.slice bA l.length bc).ownBlock <;> simp)) (Blk.grown (show Blk w.drew g 59 #[.slice bA l.length bc, .int .i64 0] from HB.out.2.1) gn (by simp))))
      have HXL := Lib.hid (And.intro hxl h8)
      clear hx hxl
      refine wp_region_held_drew (S := fun _ => True) (by kernel_rfl) trivial (fun hHeld => ?_)
      refine wpAnyH_take (i := 0) (oi := _) (v := ?vn0) rfl (by kernel_rfl) (by kernel_rfl) (by kernel_rfl) (fun _ _ _ h => h) (Or.inl ⟨by rfl, ?hyn0⟩) (by assumption) ?restn0
      case hyn0 => (intro V hSw; (try dsimp only at hSw); go_simp) <;> with_reducible rfl
      try simp only [Act.put, List.getElem_toArray, List.getElem_cons_succ, List.getElem_cons_zero, List.setIfInBounds_toArray, List.set_cons_zero, List.set_cons_succ]
      refine wpAnyH_take (i := 1) (oi := _) (v := ?vn1) rfl (by kernel_rfl) (by kernel_rfl) (by kernel_rfl) (fun _ _ _ h => h) (Or.inl ⟨by rfl, ?hyn1⟩) (by assumption) ?restn1
      case hyn1 => (intro V hSw; (try dsimp only at hSw); go_simp) <;> with_reducible rfl
      try simp only [Act.put, List.getElem_toArray, List.getElem_cons_succ, List.getElem_cons_zero, List.setIfInBounds_toArray, List.set_cons_zero, List.set_cons_succ]
      refine wpAnyH_take (i := 2) (oi := _) (v := ?vn2) rfl (by kernel_rfl) (by kernel_rfl) (by kernel_rfl) (fun _ _ _ h => h) (Or.inl ⟨by rfl, ?hyn2⟩) (by assumption) ?restn2
      case hyn2 => (intro V hSw; (try dsimp only at hSw); go_simp) <;> with_reducible rfl
      try simp only [Act.put, List.getElem_toArray, List.getElem_cons_succ, List.getElem_cons_zero, List.setIfInBounds_toArray, List.set_cons_zero, List.set_cons_succ]
      refine wpAnyH_take (i := 3) (oi := _) (v := ?vn3) rfl (by kernel_rfl) (by kernel_rfl) (by kernel_rfl) (fun _ _ _ h => h) (Or.inl ⟨by rfl, ?hyn3⟩) (by assumption) ?restn3
      case hyn3 => (intro V hSw; (try dsimp only at hSw); go_simp) <;> with_reducible rfl
      try simp only [Act.put, List.getElem_toArray, List.getElem_cons_succ, List.getElem_cons_zero, List.setIfInBounds_toArray, List.set_cons_zero, List.set_cons_succ]
      refine wpAnyH_take (i := 5) (oi := _) (v := ?vn5) rfl (by kernel_rfl) (by kernel_rfl) (by kernel_rfl) (fun _ _ _ h => h) (Or.inl ⟨by rfl, ?hyn5⟩) (by assumption) ?restn5
      case hyn5 => (intro V hSw; (try dsimp only at hSw); go_simp) <;> with_reducible rfl
      try simp only [Act.put, List.getElem_toArray, List.getElem_cons_succ, List.getElem_cons_zero, List.setIfInBounds_toArray, List.set_cons_zero, List.set_cons_succ]
      refine wpAnyH_take (i := 6) (oi := _) (v := ?vn6) rfl (by kernel_rfl) (by kernel_rfl) (by kernel_rfl) (fun _ _ _ h => h) (Or.inl ⟨by rfl, ?hyn6⟩) (by assumption) ?restn6
      case hyn6 => (intro V hSw; (try dsimp only at hSw); go_simp) <;> with_reducible rfl
      try simp only [Act.put, List.getElem_toArray, List.getElem_cons_succ, List.getElem_cons_zero, List.setIfInBounds_toArray, List.set_cons_zero, List.set_cons_succ]
      refine wpAnyH_ready (rs := [4, 7]) (by kernel_rfl) (by simp) ?_
      refine (AllReadyH.cons (o := _) rfl (fun K9 hK => ?_) (AllReadyH.cons (o := _) rfl (fun K9 hK => ?_) AllReadyH.nil))
      · go_simp
        refine hK.out _ _ trivial (fun hHeld => ?_)
        clear hK K9
        try simp only [Act.put, List.getElem_toArray, List.getElem_cons_succ, List.getElem_cons_zero, List.setIfInBounds_toArray, List.set_cons_zero, List.set_cons_succ]
        refine wpAnyH_ready (rs := [7]) (by kernel_rfl) (by simp) ?_
        refine (AllReadyH.cons (o := _) rfl (fun K9 hK => ?_) AllReadyH.nil)
        go_simp
        refine HN2.out.mono ?_
        rintro e w1 ⟨rfl, hbn, gn⟩
        have d0 := gn.cell c0d (by simp)
        have HG := Lib.hid gn
        have HY := Lib.hid (HX.out w1 hbn gn)
        clear hbn gn
        (try go_wp2_with fail)
        refine hK.out _ _ trivial (fun hHeld => ?_)
        clear hK K9
        try simp only [Act.put, List.getElem_toArray, List.getElem_cons_succ, List.getElem_cons_zero, List.setIfInBounds_toArray, List.set_cons_zero, List.set_cons_succ]
        refine wpAnyH_ready (rs := [8]) (by kernel_rfl) (by simp) ?_
        refine (AllReadyH.cons (o := _) rfl (fun K9 hK => ?_) AllReadyH.nil)
        refine step_append_bytes _ (by rfl) _ _ _ (by rfl) 0 5 i0 _ Tryd.underlying49 HI.out.1 HI.out.2.1 HI.out.2.2.1 HI.out.2.2.2 rfl (.slice bA l.length bc) l.length (Lib.byteCells l) (by rfl) HY.out.2.1 (some ⟨w.drew.heap.size, 0, none⟩) _ x (by rfl) HY.out.1 (by have := HXL.out; omega) (Nat.zero_le _) ?_
        intro A' cap' w3 hown1 hgrow hat
        have hb3 := HY.out.2.2.grown hgrow (own_ne HY.out.2.1 HY.out.2.2 (by decide)).symm
        have f0 := hb3.frozen 0
        have d3 : w3.cell? ⟨g, 0, none⟩ = some (.slice bA l.length bc) := hb3.cell 0
        clear hb3
        have HP := Lib.hid (OutIs.pushed (F := F) HB.out.1 HY.out.2.2 HY.out.2.1 HB.out.2.2.2 hown1 hgrow hat)
        clear hown1 hgrow hat
        refine hK.out _ _ trivial (fun hHeld => ?_)
        clear hK K9
        try simp only [Act.put, List.getElem_toArray, List.getElem_cons_succ, List.getElem_cons_zero, List.setIfInBounds_toArray, List.set_cons_zero, List.set_cons_succ]
        refine wpAnyH_take (i := 9) (oi := _) (v := ?va9) rfl (by kernel_rfl) (by kernel_rfl) (by kernel_rfl) (fun _ _ _ h => h) (Or.inl ⟨by rfl, ?hya9⟩) (by assumption) ?resta9
        case hya9 => (intro V hSw; (try dsimp only at hSw); go_simp) <;> with_reducible rfl
        try simp only [Act.put, List.getElem_toArray, List.getElem_cons_succ, List.getElem_cons_zero, List.setIfInBounds_toArray, List.set_cons_zero, List.set_cons_succ]
        refine wpAnyH_take (i := 10) (oi := _) (v := ?va10) rfl (by kernel_rfl) (by kernel_rfl) (by kernel_rfl) (fun _ _ _ h => h) (Or.inl ⟨by rfl, ?hya10⟩) (by assumption) ?resta10
        case hya10 => (intro V hSw; (try dsimp only at hSw); go_simp) <;> with_reducible rfl
        try simp only [Act.put, List.getElem_toArray, List.getElem_cons_succ, List.getElem_cons_zero, List.setIfInBounds_toArray, List.set_cons_zero, List.set_cons_succ]
        refine wpAnyH_ready (rs := [11]) (by kernel_rfl) (by simp) ?_
        refine (AllReadyH.cons (o := _) rfl (fun K9 hK => ?_) AllReadyH.nil)
        go_simp
        refine hK.out _ _ trivial (fun hHeld => ?_)
        clear hK K9
        try simp only [Act.put, List.getElem_toArray, List.getElem_cons_succ, List.getElem_cons_zero, List.setIfInBounds_toArray, List.set_cons_zero, List.set_cons_succ]
        refine wpAnyH_done (by kernel_rfl) ?_ _
        go_wp2
        go_end0
        refine ⟨rfl, (HH.out.same.drew).trans (OI.step HH.out.same.drew.wi ?_ ?_)⟩
        · exact (Kept.of_grown HG.out fun _ e => by cases e).follow_ou HP.out.2 fun j _ hj => .inl hj
        · refine HP.out.1.mono fun j _ hj => ?_
          have := HG.out.size
          rcases hj with h1 | ⟨h1, h2⟩
          · exact .inl (.inl h1)
          · exact .inr ⟨by omega, by simpa [World.setCell] using h2⟩
      · go_simp
        refine HN2.out.mono ?_
        rintro e w1 ⟨rfl, hbn, gn⟩
        have d0 := gn.cell c0d (by simp)
        have HG := Lib.hid gn
        have HY := Lib.hid (HX.out w1 hbn gn)
        clear hbn gn
        (try go_wp2_with fail)
        refine hK.out _ _ trivial (fun hHeld => ?_)
        clear hK K9
        try simp only [Act.put, List.getElem_toArray, List.getElem_cons_succ, List.getElem_cons_zero, List.setIfInBounds_toArray, List.set_cons_zero, List.set_cons_succ]
        refine wpAnyH_ready (rs := [4]) (by kernel_rfl) (by simp) ?_
        refine (AllReadyH.cons (o := _) rfl (fun K9 hK => ?_) AllReadyH.nil)
        go_simp
        refine hK.out _ _ trivial (fun hHeld => ?_)
        clear hK K9
        try simp only [Act.put, List.getElem_toArray, List.getElem_cons_succ, List.getElem_cons_zero, List.setIfInBounds_toArray, List.set_cons_zero, List.set_cons_succ]
        refine wpAnyH_ready (rs := [8]) (by kernel_rfl) (by simp) ?_
        refine (AllReadyH.cons (o := _) rfl (fun K9 hK => ?_) AllReadyH.nil)
        refine step_append_bytes _ (by rfl) _ _ _ (by rfl) 0 5 i0 _ Tryd.underlying49 HI.out.1 HI.out.2.1 HI.out.2.2.1 HI.out.2.2.2 rfl (.slice bA l.length bc) l.length (Lib.byteCells l) (by rfl) HY.out.2.1 (some ⟨w.drew.heap.size, 0, none⟩) _ x (by rfl) HY.out.1 (by have := HXL.out; omega) (Nat.zero_le _) ?_
        intro A' cap' w3 hown1 hgrow hat
        have hb3 := HY.out.2.2.grown hgrow (own_ne HY.out.2.1 HY.out.2.2 (by decide)).symm
        have f0 := hb3.frozen 0
        have d3 : w3.cell? ⟨g, 0, none⟩ = some (.slice bA l.length bc) := hb3.cell 0
        clear hb3
        have HP := Lib.hid (OutIs.pushed (F := F) HB.out.1 HY.out.2.2 HY.out.2.1 HB.out.2.2.2 hown1 hgrow hat)
        clear hown1 hgrow hat
        refine hK.out _ _ trivial (fun hHeld => ?_)
        clear hK K9
        try simp only [Act.put, List.getElem_toArray, List.getElem_cons_succ, List.getElem_cons_zero, List.setIfInBounds_toArray, List.set_cons_zero, List.set_cons_succ]
        refine wpAnyH_take (i := 9) (oi := _) (v := ?vb9) rfl (by kernel_rfl) (by kernel_rfl) (by kernel_rfl) (fun _ _ _ h => h) (Or.inl ⟨by rfl, ?hyb9⟩) (by assumption) ?restb9
        case hyb9 => (intro V hSw; (try dsimp only at hSw); go_simp) <;> with_reducible rfl
        try simp only [Act.put, List.getElem_toArray, List.getElem_cons_succ, List.getElem_cons_zero, List.setIfInBounds_toArray, List.set_cons_zero, List.set_cons_succ]
        refine wpAnyH_take (i := 10) (oi := _) (v := ?vb10) rfl (by kernel_rfl) (by kernel_rfl) (by kernel_rfl) (fun _ _ _ h => h) (Or.inl ⟨by rfl, ?hyb10⟩) (by assumption) ?restb10
        case hyb10 => (intro V hSw; (try dsimp only at hSw); go_simp) <;> with_reducible rfl
        try simp only [Act.put, List.getElem_toArray, List.getElem_cons_succ, List.getElem_cons_zero, List.setIfInBounds_toArray, List.set_cons_zero, List.set_cons_succ]
        refine wpAnyH_ready (rs := [11]) (by kernel_rfl) (by simp) ?_
        refine (AllReadyH.cons (o := _) rfl (fun K9 hK => ?_) AllReadyH.nil)
        go_simp
        refine hK.out _ _ trivial (fun hHeld => ?_)
        clear hK K9
        try simp only [Act.put, List.getElem_toArray, List.getElem_cons_succ, List.getElem_cons_zero, List.setIfInBounds_toArray, List.set_cons_zero, List.set_cons_succ]
        refine wpAnyH_done (by kernel_rfl) ?_ _
        go_wp2
        go_end0
        refine ⟨rfl, (HH.out.same.drew).trans (OI.step HH.out.same.drew.wi ?_ ?_)⟩
        · exact (Kept.of_grown HG.out fun _ e => by cases e).follow_ou HP.out.2 fun j _ hj => .inl hj
        · refine HP.out.1.mono fun j _ hj => ?_
          have := HG.out.size
          rcases hj with h1 | ⟨h1, h2⟩
          · exact .inl (.inl h1)
          · exact .inr ⟨by omega, by simpa [World.setCell] using h2⟩
  · have hr : sNum n (k : Int) (e0 + 1, l) = (e0 + 1, l) := by unfold sNum; split <;> rfl
    have hne : (((e0 + 1 : Nat) : Int) == 0) = false := by simp; omega
    have HP := Lib.hid h.same
    rw [hr]
    clear hr h
    go_enter Tryd.func26, Tryd.ntmps26
    go_wp2_with fail
    go_end0
    exact ⟨rfl, HP.out⟩
end
end Go.Proofs.YtpdfkgmgmndcfaaDoor
