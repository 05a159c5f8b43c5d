/-
  Several texts in one: Vc, EpA, EpB, Ou.
-/
import Derived.Test.YtmoebkdbnldbdaaGreatDoorM20pr
import Derived.Deep.DeepCutAuto
import Derived.Deep.RegionHeld3
import Derived.Test.YtmoebkdbnldbdaaGreatDoorM20po
import Derived.Test.YtmoebkdbnldbdaaGreatDoorM20pn
import Derived.Deep.RegionWith
import Derived.Test.YtmoebkdbnldbdaaGreatDoorM20pa
import Derived.Test.YtmoebkdbnldbdaaGreatDoorM20ph
/-
  slices.Clone over validators.
-/
namespace Go.Proofs.YtmoebkdbnldbdaaGreatDoor
open Go.RowKit

theorem VdsAt.kept {w w' : World} {F : Nat → Prop} {A : Option Addr} {V : List Vd} (h : VdsAt w A V) (hk : Kept F w w') (hF : ∀ a, A = some a → ¬ F a.block) : VdsAt w' A V := fun hne => by
  obtain ⟨b, off, e, hc⟩ := h hne
  exact ⟨b, off, e, fun k hl j v hj => hk.cell (hc k hl j v hj) (hF ⟨b, off, none⟩ e)⟩
theorem flat_cells_at {w : World} {b : Nat} : ∀ (V : List Vd) (off : Nat) (_ : keysOk V), (∀ k (h : k < V.length), w.rangeAt b (off + k * 17) V[k].cells) → ∀ j u, (V.flatMap Vd.cells)[j]? = some u → w.cell? ⟨b, off + j, none⟩ = some u
  | [], _, _, _, j, u, h => by simp at h
  | x :: V, off, ok, hR, j, u, h => by
    have hx := Vd.cells_length (ok x (by simp))
    rw [List.flatMap_cons] at h
    by_cases hj : j < 17
    · rw [List.getElem?_append_left (by omega)] at h
      have := hR 0 (by simp) j u (by simpa using h)
      simpa using this
    · rw [List.getElem?_append_right (by omega), hx] at h
      have := flat_cells_at V (off + 17) (fun y hy => ok y (by simp [hy])) (fun k hk => by
        have := hR (k + 1) (by simpa using hk)
        rw [show off + 17 + k * 17 = off + (k + 1) * 17 by omega]
        simpa using this) (j - 17) u h
      rwa [show off + 17 + (j - 17) = off + j by omega] at this
theorem flat_len {V : List Vd} (ok : keysOk V) : (V.flatMap Vd.cells).length = V.length * 17 := by
  induction V with
  | nil => rfl
  | cons x V ih =>
    rw [List.flatMap_cons, List.length_append, Vd.cells_length (ok x (by simp)), ih (fun y hy => ok y (by simp [hy])), List.length_cons]
    omega
theorem flat_one {V : List Vd} : ∀ u ∈ V.flatMap Vd.cells, u.oneCell' = true := fun u hu => by
  obtain ⟨x, _, hu⟩ := List.mem_flatMap.1 hu
  rw [Vd.cells] at hu
  rcases List.mem_append.1 hu with h | h
  · obtain ⟨z, _, rfl⟩ := List.mem_map.1 h; rfl
  · rw [List.mem_singleton.1 h]; rfl
theorem own_vds {w : World} {base : Nat} {e : TypeId} {v : Value} {n : Nat} {V : List Vd} (ok : keysOk V) (h : w.ownsRow base e 17 v n (V.flatMap Vd.cells)) :
    ∃ A cap, v = .slice A V.length cap ∧ V.length ≤ cap ∧ VdsAt w A V ∧ ∀ a, A = some a → base ≤ a.block := by
  have hl : V.length = n := by have := h.1; rw [flat_len ok] at this; omega
  subst hl
  rcases h.2 with ⟨hv, h0⟩ | ⟨g, cap, cur, rfl, hb, hg, hnc, _, hsz, ht⟩
  · exact ⟨none, 0, by rw [hv, h0], by omega, fun hne => absurd (List.length_eq_zero_iff.1 h0) hne, fun _ e => by cases e⟩
  · refine ⟨_, cap, rfl, hnc, fun _ => ⟨g, 0, rfl, fun k hk j u hu => ?_⟩, fun a e => by cases e; exact hb⟩
    have hB : Blk w g e cur := hg
    have hj : j < 17 := by have := (List.getElem?_eq_some_iff.1 hu).1; rwa [Vd.cells_length (ok _ (List.getElem_mem hk))] at this
    have hlt : k * 17 + j < V.length * 17 := by omega
    rw [Nat.zero_add, hB.cell, ← Array.getElem?_toList]
    have e1 : (cur.toList.take (V.length * 17))[k * 17 + j]? = cur.toList[k * 17 + j]? := by rw [List.getElem?_take, if_pos hlt]
    rw [← e1, ht]
    exact flat_get ok hk hu
theorem vd_info : (Tryz.prog.info? 41).map (fun i => (i.zero, i.size, i.bytes)) = some (some (.agg (List.replicate 16 (Value.int .u8 0) ++ [Value.int .i64 0]).toArray), 17, 24) := by kernel_rfl

set_option maxRecDepth 100000 in
set_option maxHeartbeats 1000000 in
theorem vclone_is (w : World) (A : Option Addr) (c : Nat) (V : List Vd) (hV : VdsAt w A V) (ok : keysOk V) (h0 : 1 ≤ V.length) (hl : V.length < 1000) :
    Calls Tryz.prog 11 #[.slice A V.length c] w fun e w' => ∃ (A' : Option Addr) (c' : Nat), e = .returned (.slice A' V.length c') ∧ VdsAt w' A' V ∧ V.length ≤ c' ∧ (∀ a, A' = some a → w.heap.size ≤ a.block) ∧ w.grownBy w' none := by
  obtain ⟨i0, hi, hz0, hz1, hz2⟩ := info_parts vd_info
  have hq : ∀ (w : World) (a : Option Addr) (n c n' c' : Nat), (binOp .eql 22 (.slice a n c) (.slice none n' c')).run Tryz.prog w = .ok (.bool a.isNone) w := fun w a n c n' c' => Lib.run_eql_slice_nil w _ _ a n c n' c' Tryz.underlying22
  obtain ⟨b, off, rfl, hat⟩ := hV (by rintro rfl; simp at h0)
  obtain ⟨n, hn⟩ : ∃ n, V.length = n := ⟨_, rfl⟩
  obtain ⟨L, hL⟩ : ∃ L, L = V.flatMap Vd.cells := ⟨_, rfl⟩
  have hg := World.grownBy_alloc w (.cells #[] 41) none
  have hcells : ∀ j u, L[j]? = some u → (w.alloc (.cells #[] 41)).cell? ((⟨b, off, none⟩ : Addr).add j) = some u := fun j u hu => by
    rw [Go.WideShapes.add_plain]
    rw [hL] at hu
    exact hg.cell (flat_cells_at V off ok hat j u hu) (by simp)
  have HC := Lib.hid (And.intro hcells (And.intro (show ∀ u ∈ L, u.oneCell' = true by rw [hL]; exact flat_one) (And.intro (show L.length = n * 17 by rw [hL, flat_len ok, hn]) (And.intro hL (And.intro hn ok)))))
  rw [hn] at h0 hl ⊢
  clear hcells hL hat hV ok hn
  go_enter Tryz.func11, Tryz.ntmps11
  go_wp2_with (at_builtin; refine wpList_append_own _ rfl _ _ 22 rfl w.heap.size 41 i0 _ 17 24 Tryz.underlying22 hi hz0 hz1 hz2 rfl (by omega) _ _ _ rfl (World.ownsRow_made w #[] 0 (Nat.le_refl _) (Nat.zero_le _) rfl) ⟨b, off, none⟩ n c L rfl HC.out.2.2.1 HC.out.1 HC.out.2.1 (by simp only [maxLen]; omega) (by omega) (by simp) ?_; intro v' w1 hown hgrow _; obtain ⟨A', cap', rfl⟩ := own_slice w1 hown)
  rw [Nat.zero_add, List.nil_append] at hown
  have HO := Lib.hid (And.intro hown hgrow)
  clear hown hgrow
  go_wp2
  go_ret
  obtain ⟨_, _, _, hL, hn, ok⟩ := HC.out
  have h1 := HO.out.1
  rw [hL] at h1
  obtain ⟨A5, c5, e5, hc5, hv5, hb5⟩ := own_vds ok h1
  injection e5 with e1 e2 e3
  subst e1 e3
  exact ⟨A', cap', rfl, hv5, by omega, hb5, grown_new HO.out.2⟩
end Go.Proofs.YtmoebkdbnldbdaaGreatDoor
/-
  Epochs: the first block, the ground behind a block (Genesis, ground, First, Next).
-/
namespace Go.Proofs.YtmoebkdbnldbdaaGreatDoor
open Go.RowKit

/-- The cells of a ground. -/
def grV (e : Int) (vs : Value) (G : Array Value) : Array Value := #[.int .i64 e, vs] ++ G
theorem grV_size {e : Int} {vs : Value} {G : Array Value} (h : G.size = 16) : (grV e vs G).size = 18 := by simp [grV, h]
theorem arr16e (sd : Array Value) (h : sd.size = 16) : ∃ a0 a1 a2 a3 a4 a5 a6 a7 a8 a9 a10 a11 a12 a13 a14 a15 : Value, sd = #[a0, a1, a2, a3, a4, a5, a6, a7, a8, a9, a10, a11, a12, a13, a14, a15] := by
  obtain ⟨l⟩ := sd
  have h : l.length = 16 := h
  match l, h with
  | [a0, a1, a2, a3, a4, a5, a6, a7, a8, a9, a10, a11, a12, a13, a14, a15], _ => exact ⟨a0, a1, a2, a3, a4, a5, a6, a7, a8, a9, a10, a11, a12, a13, a14, a15, rfl⟩
set_option maxRecDepth 100000 in
theorem ep_bk_build (w : World) (e : Int) (D : Array Value) (h : D.size = 16) : Sem.run Tryz.prog (Instr.build 49 #[(0, .int .i64 e), (2, .agg D)]) w = .ok (.agg (genV e D)) w := by
  obtain ⟨a0, a1, a2, a3, a4, a5, a6, a7, a8, a9, a10, a11, a12, a13, a14, a15, rfl⟩ := arr16e D h
  refine run_build w 49 _ _ ?_
  kernel_rfl
set_option maxRecDepth 100000 in
theorem ep_gr_build (w : World) (e : Int) (A : Option Addr) (n c : Nat) (D : Array Value) (h : D.size = 16) : Sem.run Tryz.prog (Instr.build 26 #[(0, .int .i64 e), (1, .slice A n c), (2, .agg D)]) w = .ok (.agg (grV e (.slice A n c) D)) w := by
  obtain ⟨a0, a1, a2, a3, a4, a5, a6, a7, a8, a9, a10, a11, a12, a13, a14, a15, rfl⟩ := arr16e D h
  refine run_build w 26 _ _ ?_
  kernel_rfl
theorem genV_one {e : Int} {D : Array Value} (h : (D.all fun v => v.oneCell') = true) : ((genV e D).all fun v => v.oneCell') = true := by
  have h1 : ((arrV .u8 (List.replicate 16 0)).all fun v => v.oneCell') = true := arr_one _ _
  simp only [genV, Array.all_append, h, h1, Bool.true_and]
  simp [Value.oneCell']
theorem genV_size' (e : Int) {D : Array Value} (h : D.size = 16) : (genV e D).size = 39 := by simp [genV, h]
theorem grV_one {e : Int} {A : Option Addr} {n c : Nat} {D : Array Value} (h : (D.all fun v => v.oneCell') = true) : ((grV e (.slice A n c) D).all fun v => v.oneCell') = true := by
  simp only [grV, Array.all_append, h, Bool.and_true]
  simp [Value.oneCell']
def zD16 : Array Value := arrV .u8 (List.replicate 16 0)
def zGr : Array Value := grV 0 (.slice none 0 0) zD16
def zBk : Array Value := genV 0 zD16
theorem zgr_run (w : World) : Sem.run Tryz.prog (zeroValue 26) w = .ok (.agg zGr) w := zero_run3 w (by kernel_rfl)
theorem zbk_run (w : World) : Sem.run Tryz.prog (zeroValue 49) w = .ok (.agg zBk) w := zero_run3 w (by kernel_rfl)
theorem zgr_build (w : World) : Sem.run Tryz.prog (Instr.build 26 #[]) w = .ok (.agg zGr) w := by
  refine run_build w _ _ _ ?_
  kernel_rfl
theorem zdg_build (w : World) : Sem.run Tryz.prog (Instr.build 24 #[]) w = .ok (.agg zD16) w := by
  refine run_build w _ _ _ ?_
  kernel_rfl
theorem sz_Bke : (Tryz.prog.info? 49).map (·.size) = some 39 := by kernel_rfl
theorem sz_Gre : (Tryz.prog.info? 26).map (·.size) = some 18 := by kernel_rfl
theorem row_kept_e {w : World} {x : Nat} (sv : Array Value) : Kept (fun j => j = x) w (w.setRow x sv) := Kept.of_grown (grown_row (World.grownBy.refl w (some x)) (.inr rfl) _) (fun _ e => by injection e with e; exact e.symm)
theorem yieldsIf_build {P : Program} {ops : Array Oper} {S : World → Prop} {o : Oper} {a : Act} (hw : Region.wanted o (yielded ops a.tmps) = true) (t : TypeId) (parts : Array (Nat × Operand)) (ho : o.op = .build t parts) (ps : Array (Nat × Value)) (hp : (parts.map fun (i, x) => (i, a.eval x)) = ps) (V : Value)
    (hr : ∀ w, Sem.run P (Instr.build t ps) w = .ok V w) : YieldsIf P ops S o V a := .inl ⟨hw, fun w _ => by
  unfold execOp
  simp only [ho, hp, Sem.run_bind, hr, Result.andThen_ok, Sem.run_pure]⟩
theorem results_cell_e {fn : Func} {s : Tmp} {t : TypeId} (h : fn.results = #[.cell s t]) (tmps : Array Value) (P : Program) (w : World) (p : Addr) (v : Value)
    (hp : tmps.getD s undef = .pointer (some p)) (hl : (loadVar t p).run P w = .ok v w) : (results fn tmps).run P w = .ok v w := by
  have hq : tmps[s]?.getD undef = .pointer (some p) := by simpa using hp
  simp [results, h, hq, asAddr, hl]
theorem ready_store_e {P : Program} {ops : Array Oper} {o : Oper} {a : Act} {w : World} {K : Act → World → Prop} {Q : Exit → Act → World → Prop} (hw : Region.wanted o (yielded ops a.tmps) = true) (ty : TypeId) (x y : Operand) (ho : o.op = .store ty x y)
    (b off : Nat) (cells : Array Value) (hx : a.eval x = .pointer (some ⟨b, off, none⟩)) (hy : a.eval y = .agg cells)
    (ht : w.there b off cells.size) (hi : (P.info? ty).map (·.size) = some cells.size) (h1 : cells.all (·.oneCell') = true)
    (h : K (a.put o.dst undef) (w.setCells b off cells.toList)) : if Region.wanted o (yielded ops a.tmps) = true then Oper.wp P o a w K Q else K (a.put o.dst undef) w := by
  rw [if_pos hw]
  unfold Oper.wp execOp
  simp only [ho, hx, hy, Sem.run_bind, Sem.run_pure, Result.andThen_ok, run_storeAt_mid w b off ty cells ht hi h1]
  exact h
set_option maxRecDepth 100000 in
set_option maxHeartbeats 1000000 in
theorem genesis_is (w : World) (a : Int) (D : Array Value) (hD : D.size = 16) (h1 : (D.all fun v => v.oneCell') = true) (cs : Array Value) (hcs : cs = genV a D) :
    Calls Tryz.prog 25 #[.int .i64 a, .agg D] w fun e w' => e = .returned (.agg cs) ∧ w.grownBy w' none := by
  obtain ⟨Z, hZ⟩ : ∃ Z, zBk = Z := ⟨_, rfl⟩
  have hz : ∀ w, Sem.run Tryz.prog (zeroValue 49) w = .ok (.agg Z) w := fun w => by rw [← hZ]; exact zbk_run w
  have HBB := Lib.hid (show ∀ w, Sem.run Tryz.prog (Instr.build 49 #[(0, .int .i64 a), (2, .agg D)]) w = .ok (.agg cs) w from fun w => by rw [hcs]; exact ep_bk_build w a D hD)
  have hcz : cs.size = 39 := by rw [hcs]; exact genV_size' a hD
  have hc1 : (cs.all fun v => v.oneCell') = true := by rw [hcs]; exact genV_one h1
  have hZz : Z.size = 39 := by rw [← hZ]; exact genV_size' 0 (by rw [zD16, arr_size]; rfl)
  obtain ⟨W1, hW1⟩ : ∃ W1, (w.alloc (.cells D 24)).alloc (.cells Z 49) = W1 := ⟨_, rfl⟩
  have g1 : w.grownBy W1 none := by rw [← hW1]; exact grown_trans (World.grownBy_alloc _ _ none) (World.grownBy_alloc _ _ none)
  have bd : Blk W1 w.heap.size 24 D := by rw [← hW1]; exact (Blk.new w _ _).alloc _
  have bz : Blk W1 (w.heap.size + 1) 49 Z := by
    have := Blk.new (w.alloc (.cells D 24)) 49 Z
    rw [← hW1]; simpa using this
  have HX := Lib.hid (And.intro (range_blk0 bd) (And.intro bz g1))
  have HS := Lib.hid (And.intro (show (Tryz.prog.info? 24).map (·.size) = some D.size by rw [hD]; exact sz_Dg) (And.intro (show (Tryz.prog.info? 49).map (·.size) = some cs.size by rw [hcz]; exact sz_Bke) (And.intro (show Z.size = cs.size by rw [hcz, hZz]) hc1)))
  have HW := Lib.hid hW1
  clear hcs hcz hc1 hZz hZ g1 bd bz hW1 hD h1
  go_enter Tryz.func25, Tryz.ntmps25
  go_upto_region 1 with (fail)
  rw [HW.out]
  go_wp2_with (first
    | (refine wpList_build_at (by rfl) 49 #[(0, Operand.tmp 5), (2, Operand.tmp 6)] rfl _ (by kernel_rfl) (.agg cs) (HBB.out _) ?_)
    | (refine wpList_load_mid rfl 24 _ rfl (w.heap.size) 0 rfl D.toList _ HX.out.1 Tryz.underlying24 rfl (by rw [Array.length_toList]; exact HS.out.1) ?_; rw [Array.toArray_toList])
    | (refine wpList_store_row rfl 49 _ _ rfl (w.heap.size + 1) cs rfl rfl 49 _ HX.out.2.1 (HS.out.2.1) (HS.out.2.2.1) HS.out.2.2.2 ?_))
  refine bodyPost_ret (results_cell_e rfl _ _ _ ⟨w.heap.size + 1, 0, none⟩ (.agg cs) rfl (run_loadVar_row _ (w.heap.size + 1) 49 49 _ (0, 0) _ (HX.out.2.1.row _) Tryz.underlying49 rfl HS.out.2.1)) rfl ?_
  exact ⟨rfl, grown_row HX.out.2.2 (.inl (by omega)) _⟩
set_option maxRecDepth 100000 in
set_option maxHeartbeats 1000000 in
/-- slices.Clone of validators: the row is one's own. -/
theorem vclone_own (w : World) (A : Option Addr) (c n : Nat) (V : List Vd) (hn : V.length = n) (hV : VdsAt w A V) (ok : keysOk V) (h0 : 1 ≤ n) (hl : n < 1000) :
    Calls Tryz.prog 11 #[.slice A n c] w fun e w' => ∃ (A' : Option Addr) (c' : Nat), e = .returned (.slice A' n c') ∧ w'.ownsRow w.heap.size 41 17 (.slice A' n c') n (V.flatMap Vd.cells) ∧ w.grownBy w' none := by
  obtain ⟨i0, hi, hz0, hz1, hz2⟩ := info_parts vd_info
  have hq : ∀ (w : World) (a : Option Addr) (n c n' c' : Nat), (binOp .eql 22 (.slice a n c) (.slice none n' c')).run Tryz.prog w = .ok (.bool a.isNone) w := fun w a n c n' c' => Lib.run_eql_slice_nil w _ _ a n c n' c' Tryz.underlying22
  obtain ⟨b, off, rfl, hat⟩ := hV (by rintro rfl; simp at hn; omega)
  obtain ⟨L, hL⟩ : ∃ L, L = V.flatMap Vd.cells := ⟨_, rfl⟩
  have hg := World.grownBy_alloc w (.cells #[] 41) none
  have hcells : ∀ j u, L[j]? = some u → (w.alloc (.cells #[] 41)).cell? ((⟨b, off, none⟩ : Addr).add j) = some u := fun j u hu => by
    rw [Go.WideShapes.add_plain]
    rw [hL] at hu
    exact hg.cell (flat_cells_at V off ok hat j u hu) (by simp)
  have HC := Lib.hid (And.intro hcells (And.intro (show ∀ u ∈ L, u.oneCell' = true by rw [hL]; exact flat_one) (show L.length = n * 17 by rw [hL, flat_len ok, hn])))
  rw [← hL]
  clear hcells hL hat hV ok hn
  go_enter Tryz.func11, Tryz.ntmps11
  go_wp2_with (at_builtin; refine wpList_append_own _ rfl _ _ 22 rfl w.heap.size 41 i0 _ 17 24 Tryz.underlying22 hi hz0 hz1 hz2 rfl (by omega) _ _ _ rfl (World.ownsRow_made w #[] 0 (Nat.le_refl _) (Nat.zero_le _) rfl) ⟨b, off, none⟩ n c L rfl HC.out.2.2 HC.out.1 HC.out.2.1 (by simp only [maxLen]; omega) (by omega) (by simp) ?_; intro v' w1 hown hgrow _; obtain ⟨A', cap', rfl⟩ := own_slice w1 hown)
  rw [Nat.zero_add, List.nil_append] at hown
  have HO := Lib.hid (And.intro hown hgrow)
  clear hown hgrow
  go_wp2
  go_ret
  exact ⟨A', cap', rfl, HO.out.1, grown_new HO.out.2⟩
theorem range_row_e {w : World} {b q : Nat} {cs : List Value} (h : w.rangeAt b 0 cs) (hne : b ≠ q) (v : Array Value) : (w.setRow q v).rangeAt b 0 cs := fun j u hu => (row_kept_e v).cell (h j u hu) hne
set_option maxRecDepth 100000 in
set_option maxHeartbeats 2000000 in
theorem ground_is (w : World) (E : Nat → Addr) (hR : Rounds w) (he : ErrAt w w.heap.size 1 (E 0)) (a : Int) (h0 : 0 ≤ a) (ha : a < 4294967296) (A : Option Addr) (c n : Nat) (V : List Vd) (hn : V.length = n) (hV : VdsAt w A V) (ok : keysOk V) (h1 : 1 ≤ n) (hl : n < 1000)
    (p : List Int) (hp : isDig p) (D : Array Value) (hD : D = arrV .u8 p) (dv : Array Value) (hdv : dv = arrV .u8 (idD (genB a p))) :
    Calls Tryz.prog 16 #[.int .i64 a, .slice A n c, .agg D] w fun e w' => w.grownBy w' none ∧ ∃ A' c', e = .returned (.agg (grV a (.slice A' n c') dv)) ∧ w'.ownsRow w.heap.size 41 17 (.slice A' n c') n (V.flatMap Vd.cells) := by
  obtain ⟨GZ, hGZ⟩ : ∃ Z, zGr = Z := ⟨_, rfl⟩
  have hgz : ∀ w, Sem.run Tryz.prog (zeroValue 26) w = .ok (.agg GZ) w := fun w => by rw [← hGZ]; exact zgr_run w
  obtain ⟨Z, hZ⟩ : ∃ Z, zD16 = Z := ⟨_, rfl⟩
  have hz : ∀ w, Sem.run Tryz.prog (zeroValue 24) w = .ok (.agg Z) w := fun w => by rw [← hZ]; exact z16run w
  obtain ⟨cs, hcs⟩ : ∃ cs, genV a D = cs := ⟨_, rfl⟩
  have hD16 : D.size = 16 := by rw [hD, arr_size, hp.1]
  have hD1 : (D.all fun v => v.oneCell') = true := by rw [hD]; exact arr_one _ _
  have hd16 : dv.size = 16 := by rw [hdv, arr_size, idD_length]
  have hd1 : (dv.all fun v => v.oneCell') = true := by rw [hdv]; exact arr_one _ _
  have hGs : GZ.size = 18 := by rw [← hGZ]; exact grV_size (by rw [zD16, arr_size]; rfl)
  have hZs : Z.size = 16 := by rw [← hZ, zD16, arr_size]; rfl
  obtain ⟨W1, hW1⟩ : ∃ W1, (w.alloc (.cells D 24)).alloc (.cells GZ 26) = W1 := ⟨_, rfl⟩
  have g1 : w.grownBy W1 none := by rw [← hW1]; exact grown_trans (World.grownBy_alloc _ _ none) (World.grownBy_alloc _ _ none)
  have bd : Blk W1 w.heap.size 24 D := by rw [← hW1]; exact (Blk.new w _ _).alloc _
  have bz : Blk W1 (w.heap.size + 1) 26 GZ := by
    have := Blk.new (w.alloc (.cells D 24)) 26 GZ
    rw [← hW1]; simpa using this
  have z1 : W1.heap.size = w.heap.size + 2 := by rw [← hW1]; simp
  have HGE := Lib.hid (genesis_is W1 a D hD16 hD1 cs hcs.symm)
  have HID := Lib.hid (show ∀ W : World, w.grownBy W none → Calls Tryz.prog 20 #[.agg cs] W fun e w' => e = .returned (.tuple #[.agg dv, .nilIface]) ∧ W.grownBy w' none from fun W hW => by
    have := id_is W (hR.grown hW (by simp)) (E := E) ⟨hW.cell he.1 (by simp), by have := he.2; have := hW.size; omega⟩ (genB a p) (genB_at W a hp) cs (by rw [← hcs, hD, genV_is]) dv hdv
    rw [(gen_ok hp.1 h0 ha).1] at this
    exact this)
  have HX := Lib.hid (And.intro (range_blk0 bd) (And.intro bz (And.intro g1 z1)))
  have HS := Lib.hid (And.intro (show (Tryz.prog.info? 24).map (·.size) = some D.size by rw [hD16]; exact sz_Dg) (And.intro (show (Tryz.prog.info? 24).map (·.size) = some dv.size by rw [hd16]; exact sz_Dg) (And.intro hd16 (And.intro hd1 (And.intro hGs (show Z.size = dv.size by rw [hd16, hZs]))))))
  have HV := Lib.hid (And.intro hn (And.intro ok (And.intro h1 hl)))
  have HVV := Lib.hid hV
  have HW := Lib.hid hW1
  clear hcs hD16 hD1 hd16 hd1 hGs hZs hGZ hZ g1 bd bz z1 hW1 hD hdv hn hV ok h1 hl he hR h0 ha
  go_enter Tryz.func16, Tryz.ntmps16
  go_upto_region 1 with (fail)
  rw [HW.out]
  go_wp2_with (refine wpList_load_mid rfl 24 _ rfl (w.heap.size) 0 rfl D.toList _ HX.out.1 Tryz.underlying24 rfl (by rw [Array.length_toList]; exact HS.out.1) ?_; rw [Array.toArray_toList])
  refine HGE.out.mono ?_
  rintro e w2 ⟨rfl, g2⟩
  have H2 := Lib.hid (grown_trans HX.out.2.2.1 g2)
  have H2b := Lib.hid g2
  clear g2
  go_wp2_with fail
  refine (HID.out w2 H2.out).mono ?_
  rintro e w3 ⟨rfl, g3⟩
  obtain ⟨q2, hq2⟩ : ∃ q, w3.heap.size = q := ⟨_, rfl⟩
  have bn : Blk (w3.alloc (.cells Z 24)) q2 24 Z := by rw [← hq2]; exact Blk.new w3 24 Z
  obtain ⟨W4, hW4⟩ : ∃ W4, (w3.alloc (.cells Z 24)).setRow q2 dv = W4 := ⟨_, rfl⟩
  have g4 : w3.grownBy W4 none := by rw [← hW4]; exact grown_row (World.grownBy_alloc _ _ none) (.inl (by rw [hq2]; exact Nat.le_refl _)) _
  have b4 : Blk W4 q2 24 dv := by rw [← hW4]; exact bn.row _
  have g34 := grown_trans (grown_trans H2b.out g3) g4
  have H4 := Lib.hid (And.intro (show W4.drew.rangeAt q2 0 dv.toList from range_blk0 b4) (And.intro (HVV.out.grown (grown_drew (grown_trans HX.out.2.2.1 g34))) (And.intro (HX.out.2.1.grown (grown_drew g34) (by simp)) (And.intro (grown_drew (grown_trans HX.out.2.2.1 g34)) (show q2 ≠ w.heap.size + 1 by have := (grown_trans H2b.out g3).size; have := HX.out.2.2.2; omega)))))
  have HQ := Lib.hid (And.intro hq2 (And.intro hW4 bn))
  clear g3 g4 b4 g34 hW4 bn
  go_upto_region 2 with (refine wpList_store_row rfl 24 _ _ rfl (q2) dv rfl rfl 24 _ HQ.out.2.2 (HS.out.2.1) (HS.out.2.2.2.2.2) HS.out.2.2.2.1 ?_)
  rw [HQ.out.2.1]
  clear hq2
  refine wp_region_held_drew (S := fun V => V.rangeAt q2 0 dv.toList) (by kernel_rfl) H4.out.1 (fun hHeld => ?_)
  refine wpAnyH_take (i := 0) (oi := _) (v := ?vg0) rfl (by kernel_rfl) (by kernel_rfl) (by kernel_rfl) (fun _ _ _ h => h) (Or.inl ⟨by rfl, ?hyg0⟩) (by assumption) ?restg0
  case hyg0 => (intro V hSw; (try dsimp only at hSw); go_simp) <;> with_reducible rfl
  try simp only [Act.put, List.getElem_toArray, List.getElem_cons_succ, List.getElem_cons_zero, List.setIfInBounds_toArray, List.set_cons_zero, List.set_cons_succ]
  refine wpAnyH_take (i := 1) (oi := _) (v := ?vg1) rfl (by kernel_rfl) (by kernel_rfl) (by kernel_rfl) (fun _ _ _ h => h) (Or.inl ⟨by rfl, ?hyg1⟩) (by assumption) ?restg1
  case hyg1 => (intro V hSw; (try dsimp only at hSw); go_simp) <;> with_reducible rfl
  try simp only [Act.put, List.getElem_toArray, List.getElem_cons_succ, List.getElem_cons_zero, List.setIfInBounds_toArray, List.set_cons_zero, List.set_cons_succ]
  refine wpAnyH_take (i := 3) (oi := _) (v := .agg dv) rfl (by kernel_rfl) (by kernel_rfl) (by kernel_rfl) (fun _ _ _ h => h) (yieldsIf_load_mid (by rfl) _ _ rfl q2 0 rfl dv.toList _ (fun V hSw => hSw) Tryz.underlying24 rfl (by rw [Array.length_toList]; exact HS.out.2.1)) (by assumption) ?restg3
  try simp only [Act.put, List.getElem_toArray, List.getElem_cons_succ, List.getElem_cons_zero, List.setIfInBounds_toArray, List.set_cons_zero, List.set_cons_succ]
  refine wpAnyH_ready (rs := [2]) (by kernel_rfl) (by simp) ?_
  refine (AllReadyH.cons (o := _) rfl (fun K9 hK => ?_) AllReadyH.nil)
  go_simp
  refine (vclone_own W4.drew A c n V HV.out.1 H4.out.2.1 HV.out.2.1 HV.out.2.2.1 HV.out.2.2.2).mono ?_
  rintro e w5 ⟨A', c', rfl, hown, g5⟩
  obtain ⟨gv, hgv⟩ : ∃ gv, grV a (.slice A' n c') dv = gv := ⟨_, rfl⟩
  have HGB := Lib.hid (show ∀ w, Sem.run Tryz.prog (Instr.build 26 #[(0, .int .i64 a), (1, .slice A' n c'), (2, .agg dv)]) w = .ok (.agg gv) w from fun w => by rw [← hgv]; exact ep_gr_build w a A' n c' dv HS.out.2.2.1)
  have H5 := Lib.hid (And.intro hown (And.intro g5 (And.intro (Blk.grown (show Blk W4.drew (w.heap.size + 1) 26 GZ from H4.out.2.2.1) g5 (by simp)) hgv)))
  have HG5 := Lib.hid (And.intro (show gv.size = 18 by rw [← hgv]; exact grV_size HS.out.2.2.1) (show (gv.all fun v => v.oneCell') = true by rw [← hgv]; exact grV_one HS.out.2.2.2.1))
  clear hown g5 hgv
  (try go_wp2_with fail)
  refine hK.out _ _ (range_kept H4.out.1 H5.out.2.1) (fun hHeld => ?_)
  clear hK K9
  try simp only [Act.put, List.getElem_toArray, List.getElem_cons_succ, List.getElem_cons_zero, List.setIfInBounds_toArray, List.set_cons_zero, List.set_cons_succ]
  refine wpAnyH_take (i := 4) (oi := _) (v := .agg gv) rfl (by kernel_rfl) (by kernel_rfl) (by kernel_rfl) (fun _ _ _ h => h) (yieldsIf_build (by rfl) 26 #[(0, Operand.tmp 16), (1, Operand.tmp 18), (2, Operand.tmp 19)] rfl _ (by kernel_rfl) (.agg gv) HGB.out) (by assumption) ?restg4
  try simp only [Act.put, List.getElem_toArray, List.getElem_cons_succ, List.getElem_cons_zero, List.setIfInBounds_toArray, List.set_cons_zero, List.set_cons_succ]
  refine wpAnyH_ready (rs := [5]) (by kernel_rfl) (by simp) ?_
  refine (AllReadyH.cons (o := _) rfl (fun K9 hK => ?_) AllReadyH.nil)
  refine ready_store_e (by rfl) 26 _ _ rfl (w.heap.size + 1) 0 gv rfl rfl (there_blk H5.out.2.2.1 (by rw [HG5.out.1, HS.out.2.2.2.2.1]; exact Nat.le_refl _)) (by rw [HG5.out.1]; exact sz_Gre) HG5.out.2 ?_
  rw [setCells_row (P := Tryz.prog) (ty := 26) H5.out.2.2.1 (by rw [HG5.out.1]; exact sz_Gre) (by rw [HG5.out.1, HS.out.2.2.2.2.1]) HG5.out.2]
  refine hK.out _ _ (range_row_e (range_kept H4.out.1 H5.out.2.1) H4.out.2.2.2.2 gv) (fun hHeld => ?_)
  clear hK K9
  try simp only [Act.put, List.getElem_toArray, List.getElem_cons_succ, List.getElem_cons_zero, List.setIfInBounds_toArray, List.set_cons_zero, List.set_cons_succ]
  refine wpAnyH_done (by kernel_rfl) ?_ _
  go_wp2_with fail
  refine bodyPost_ret (results_cell_e rfl _ _ _ ⟨w.heap.size + 1, 0, none⟩ (.agg gv) rfl (run_loadVar_row _ (w.heap.size + 1) 26 26 _ (0, 0) _ (H5.out.2.2.1.row _) Tryz.underlying26 rfl (by rw [HG5.out.1]; exact sz_Gre))) rfl ?_
  refine ⟨grown_row (grown_trans H4.out.2.2.2.1 H5.out.2.1) (.inl (by omega)) _, A', c', by rw [H5.out.2.2.2], own_kept (H5.out.1.mono (base' := w.heap.size) H4.out.2.2.2.1.size) (row_kept_e gv) fun k hk hkq => ?_⟩
  have h9 := (H5.out.1.lt k hk).1
  have h10 := H4.out.2.2.1.lt
  have h11 : W4.drew.heap.size = W4.heap.size := rfl
  omega
end Go.Proofs.YtmoebkdbnldbdaaGreatDoor
/-
  Epochs: the first ground, the ground behind a ground (First, Next).
-/

namespace Go.Proofs.YtmoebkdbnldbdaaGreatDoor
open Go.RowKit

/-- What First and Next leave: a ground of the validators V behind the block p, or an error. -/
def GrOut (w w' : World) (a : Int) (n : Nat) (V : List Vd) (p : List Int) (e : Ending) : Prop :=
  ∃ A' c', e = .returned (.tuple #[.agg (grV a (.slice A' n c') (arrV .u8 (idD (genB a p)))), .nilIface]) ∧ w'.ownsRow w.heap.size 41 17 (.slice A' n c') n (V.flatMap Vd.cells)
def GrNo (e : Ending) (er : Addr) : Prop := e = .returned (.tuple #[.agg zGr, errV er])
theorem zD_dig : isDig (List.replicate 16 0) := zeroC_dig
set_option maxRecDepth 100000 in
set_option maxHeartbeats 2000000 in
theorem first_is (w : World) (E : Nat → Addr) (hR : Rounds w) (he : ErrAt w w.heap.size 1 (E 0)) (es : Addr) (hes : ErrAt w w.heap.size 10 es) (A : Option Addr) (c n : Nat) (V : List Vd) (hn : V.length = n) (hV : VdsAt w A V) (ok : keysOk V) (hl : n < 1000) :
    Calls Tryz.prog 8 #[.slice A n c] w fun e w' => w.grownBy w' none ∧ ((rightS V = true ∧ GrOut w w' 1 n V (List.replicate 16 0) e) ∨ (rightS V = false ∧ GrNo e es)) := by
  obtain ⟨GZ, hGZ⟩ : ∃ Z, zGr = Z := ⟨_, rfl⟩
  have hgz : ∀ w, Sem.run Tryz.prog (zeroValue 26) w = .ok (.agg GZ) w := fun w => by rw [← hGZ]; exact zgr_run w
  have hgb : ∀ w, Sem.run Tryz.prog (Instr.build 26 #[]) w = .ok (.agg GZ) w := fun w => by rw [← hGZ]; exact zgr_build w
  obtain ⟨D, hD⟩ : ∃ Z, zD16 = Z := ⟨_, rfl⟩
  have HL := Lib.hid (show Value.agg #[.int .u8 0, .int .u8 0, .int .u8 0, .int .u8 0, .int .u8 0, .int .u8 0, .int .u8 0, .int .u8 0, .int .u8 0, .int .u8 0, .int .u8 0, .int .u8 0, .int .u8 0, .int .u8 0, .int .u8 0, .int .u8 0] = Value.agg D by rw [← hD]; kernel_rfl)
  obtain ⟨dv, hdv⟩ : ∃ dv, arrV .u8 (idD (genB 1 (List.replicate 16 0))) = dv := ⟨_, rfl⟩
  have hd16 : dv.size = 16 := by rw [← hdv, arr_size, idD_length]
  have hd1 : (dv.all fun v => v.oneCell') = true := by rw [← hdv]; exact arr_one _ _
  have hGs : GZ.size = 18 := by rw [← hGZ]; exact grV_size (by rw [zD16, arr_size]; rfl)
  have hG1 : (GZ.all fun v => v.oneCell') = true := by rw [← hGZ]; exact grV_one (arr_one _ _)
  obtain ⟨W1, hW1⟩ : ∃ W1, w.alloc (.cells GZ 26) = W1 := ⟨_, rfl⟩
  have g1 : w.grownBy W1 none := by rw [← hW1]; exact World.grownBy_alloc _ _ none
  have bz : Blk W1 w.heap.size 26 GZ := by rw [← hW1]; exact Blk.new w _ _
  have hck := check_is W1 A c W1.heap.size V es (hV.grown g1) ok (by omega) ⟨g1.cell hes.1 (by simp), by have := hes.2; have := g1.size; omega⟩
  rw [hn] at hck
  have HC := Lib.hid hck
  have HGD := Lib.hid (fun (W : World) (hW : w.grownBy W none) (h1 : 1 ≤ n) => ground_is W E (hR.grown hW (by simp)) ⟨hW.cell he.1 (by simp), by have := he.2; have := hW.size; omega⟩ 1 (by omega) (by omega) A c n V hn (hV.grown hW) ok h1 hl (List.replicate 16 0) zD_dig D hD.symm dv hdv.symm)
  have HR := Lib.hid (show rightS V = true → 1 ≤ n from fun h => by have := (rightS_iff V).1 h; omega)
  have HX := Lib.hid (And.intro g1 bz)
  have HS := Lib.hid (And.intro (show (Tryz.prog.info? 26).map (·.size) = some GZ.size by rw [hGs]; exact sz_Gre) (And.intro hG1 (And.intro hGs (And.intro hd16 (And.intro hd1 (And.intro hdv hGZ))))))
  have HW := Lib.hid hW1
  clear hck hGZ hD hdv hd16 hd1 hGs hG1 g1 bz hW1 hV ok hl he hes hR hn
  go_enter Tryz.func8, Tryz.ntmps8
  go_upto_region 1 with (fail)
  rw [HW.out]
  go_wp2_with fail
  refine HC.out.mono ?_
  rintro e w2 ⟨g2, ⟨hr, rfl⟩ | ⟨hr, rfl⟩⟩
  · have H2 := Lib.hid (And.intro (grown_trans HX.out.1 g2) (And.intro (HX.out.2.grown g2 (by simp)) hr))
    clear g2 hr
    go_wp2_with fail
    rw [HL.out]
    refine (HGD.out w2 H2.out.1 (HR.out H2.out.2.2)).mono ?_
    rintro e w3 ⟨g3, A', c', rfl, hown⟩
    obtain ⟨gv, hgv⟩ : ∃ gv, grV 1 (.slice A' n c') dv = gv := ⟨_, rfl⟩
    rw [hgv]
    have hgs : gv.size = 18 := by rw [← hgv]; exact grV_size HS.out.2.2.2.1
    have H3 := Lib.hid (And.intro (grown_trans H2.out.1 g3) (And.intro (H2.out.2.1.grown g3 (by simp)) (And.intro hown (And.intro hgv (And.intro (show (Tryz.prog.info? 26).map (·.size) = some gv.size by rw [hgs]; exact sz_Gre) (And.intro (show GZ.size = gv.size by rw [hgs, HS.out.2.2.1]) (show (gv.all fun v => v.oneCell') = true by rw [← hgv]; exact grV_one HS.out.2.2.2.2.1)))))))
    clear g3 hown hgv hgs
    go_wp2_with (refine wpList_store_row rfl 26 _ _ rfl (w.heap.size) gv rfl rfl 26 _ H3.out.2.1 (H3.out.2.2.2.2.1) (H3.out.2.2.2.2.2.1) H3.out.2.2.2.2.2.2 ?_)
    refine bodyPost_ret (results_cell_t rfl _ _ _ ⟨w.heap.size, 0, none⟩ (.agg gv) rfl (run_loadVar_row _ (w.heap.size) 26 26 _ (0, 0) _ (H3.out.2.1.row _) Tryz.underlying26 rfl H3.out.2.2.2.2.1)) rfl ?_
    refine ⟨grown_row H3.out.1 (.inl (Nat.le_refl _)) _, .inl ⟨H2.out.2.2, A', c', by rw [HS.out.2.2.2.2.2.1, H3.out.2.2.2.1]; rfl, own_kept (H3.out.2.2.1.mono (base' := w.heap.size) H2.out.1.size) (row_kept_e gv) fun k hk hkq => ?_⟩⟩
    have h9 := (H3.out.2.2.1.lt k hk).1
    have h10 := H2.out.2.1.lt
    omega
  · have H2 := Lib.hid (And.intro (grown_trans HX.out.1 g2) (And.intro (HX.out.2.grown g2 (by simp)) hr))
    clear g2 hr
    go_wp2_with (refine wpList_store_row rfl 26 _ _ rfl (w.heap.size) GZ rfl rfl 26 _ H2.out.2.1 (HS.out.1) (rfl) HS.out.2.1 ?_)
    refine bodyPost_ret (results_cell_t rfl _ _ _ ⟨w.heap.size, 0, none⟩ (.agg GZ) rfl (run_loadVar_row _ (w.heap.size) 26 26 _ (0, 0) _ (H2.out.2.1.row _) Tryz.underlying26 rfl HS.out.1)) rfl ?_
    exact ⟨grown_row H2.out.1 (.inl (Nat.le_refl _)) _, .inr ⟨H2.out.2.2, by rw [GrNo, HS.out.2.2.2.2.2.2]; rfl⟩⟩
set_option maxRecDepth 100000 in
set_option maxHeartbeats 2000000 in
theorem next_is (w : World) (E : Nat → Addr) (hR : Rounds w) (he : ErrAt w w.heap.size 1 (E 0)) (es ee : Addr) (hes : ErrAt w w.heap.size 10 es) (hee : ErrAt w w.heap.size 17 ee)
    (ge : Int) (G0 : Value) (G : Array Value) (hG : G.size = 16) (gs : Array Value) (hgs : gs = grV ge G0 G) (p : List Int) (hp : isDig p) (D : Array Value) (hD : D = arrV .u8 p) (A : Option Addr) (c n : Nat) (V : List Vd) (hn : V.length = n) (hV : VdsAt w A V) (ok : keysOk V) (hl : n < 1000) :
    Calls Tryz.prog 21 #[.agg gs, .agg D, .slice A n c] w fun e w' => w.grownBy w' none ∧
      ((rightS V = true ∧ (0 ≤ ge ∧ ge < 1073741824) ∧ GrOut w w' (ge + 1) n V p e) ∨ (rightS V = false ∧ GrNo e es) ∨ (rightS V = true ∧ (ge < 0 ∨ 1073741824 ≤ ge) ∧ GrNo e ee)) := by
  obtain ⟨GZ, hGZ⟩ : ∃ Z, zGr = Z := ⟨_, rfl⟩
  have hgz : ∀ w, Sem.run Tryz.prog (zeroValue 26) w = .ok (.agg GZ) w := fun w => by rw [← hGZ]; exact zgr_run w
  have hgb : ∀ w, Sem.run Tryz.prog (Instr.build 26 #[]) w = .ok (.agg GZ) w := fun w => by rw [← hGZ]; exact zgr_build w
  obtain ⟨dv, hdv⟩ : ∃ dv, arrV .u8 (idD (genB (ge + 1) p)) = dv := ⟨_, rfl⟩
  have hd16 : dv.size = 16 := by rw [← hdv, arr_size, idD_length]
  have hd1 : (dv.all fun v => v.oneCell') = true := by rw [← hdv]; exact arr_one _ _
  have hGs : GZ.size = 18 := by rw [← hGZ]; exact grV_size (by rw [zD16, arr_size]; rfl)
  have hG1 : (GZ.all fun v => v.oneCell') = true := by rw [← hGZ]; exact grV_one (arr_one _ _)
  obtain ⟨W1, hW1⟩ : ∃ W1, ((w.alloc (.cells gs 26)).alloc (.cells D 24)).alloc (.cells GZ 26) = W1 := ⟨_, rfl⟩
  have g1 : w.grownBy W1 none := by rw [← hW1]; exact grown_trans (grown_trans (World.grownBy_alloc _ _ none) (World.grownBy_alloc _ _ none)) (World.grownBy_alloc _ _ none)
  have bg : Blk W1 w.heap.size 26 gs := by rw [← hW1]; exact ((Blk.new w _ _).alloc _).alloc _
  have bd : Blk W1 (w.heap.size + 1) 24 D := by
    have := (Blk.new (w.alloc (.cells gs 26)) 24 D).alloc (.cells GZ 26)
    rw [← hW1]; simpa using this
  have bz : Blk W1 (w.heap.size + 2) 26 GZ := by
    have := Blk.new ((w.alloc (.cells gs 26)).alloc (.cells D 24)) 26 GZ
    rw [← hW1]; simpa using this
  have hck := check_is W1 A c W1.heap.size V es (hV.grown g1) ok (by omega) ⟨g1.cell hes.1 (by simp), by have := hes.2; have := g1.size; omega⟩
  rw [hn] at hck
  have HC := Lib.hid hck
  have HGD := Lib.hid (fun (W : World) (hW : w.grownBy W none) (h1 : 1 ≤ n) (h0 : 0 ≤ ge) (h2 : ge < 1073741824) => ground_is W E (hR.grown hW (by simp)) ⟨hW.cell he.1 (by simp), by have := he.2; have := hW.size; omega⟩ (ge + 1) (by omega) (by omega) A c n V hn (hV.grown hW) ok h1 hl p hp D hD dv hdv.symm)
  have HR := Lib.hid (show rightS V = true → 1 ≤ n from fun h => by have := (rightS_iff V).1 h; omega)
  have hc0 : W1.cell? ⟨w.heap.size, 0, none⟩ = some (.int .i64 ge) := by
    have := range_blk0 bg 0 (.int .i64 ge) (by rw [hgs]; simp [grV])
    simpa using this
  have HX := Lib.hid (And.intro g1 (And.intro bz (And.intro (range_blk0 bd) hc0)))
  have HS := Lib.hid (And.intro (show (Tryz.prog.info? 26).map (·.size) = some GZ.size by rw [hGs]; exact sz_Gre) (And.intro hG1 (And.intro hGs (And.intro hd16 (And.intro hd1 (And.intro hdv (And.intro hGZ (show (Tryz.prog.info? 24).map (·.size) = some D.size by rw [hD, arr_size, hp.1]; exact sz_Dg))))))))
  have HW := Lib.hid hW1
  have HEE := Lib.hid hee
  clear hck hGZ hD hdv hd16 hd1 hGs hG1 g1 bz hW1 hV ok hl he hes hR hn bg bd hc0 hgs hG hp hee
  go_enter Tryz.func21, Tryz.ntmps21
  go_upto_region 1 with (fail)
  rw [HW.out]
  go_wp2_with fail
  refine HC.out.mono ?_
  rintro e w2 ⟨g2, ⟨hr, rfl⟩ | ⟨hr, rfl⟩⟩
  · have H2 := Lib.hid (And.intro (grown_trans HX.out.1 g2) (And.intro (HX.out.2.1.grown g2 (by simp)) (And.intro hr (range_kept HX.out.2.2.1 g2))))
    have c0 : w2.cell? ⟨w.heap.size, 0, none⟩ = some (.int .i64 ge) := g2.cell HX.out.2.2.2 (by simp)
    have ce : w2.cell? ⟨17, 0, none⟩ = some (errV ee) := H2.out.1.cell HEE.out.1 (by simp)
    clear g2 hr
    by_cases hb : ge < 0 ∨ 1073741824 ≤ ge
    · have HBD := Lib.hid hb
      have fin : ∀ W : World, W = w2.drew → Blk W (w.heap.size + 2) 26 GZ ∧ w.grownBy W none := fun W hW => by
        rw [hW]; exact ⟨H2.out.2.1, grown_drew H2.out.1⟩
      have HF := Lib.hid (fin _ rfl)
      have ced : w2.drew.cell? ⟨17, 0, none⟩ = some (errV ee) := ce
      clear fin
      by_cases h0 : ge < 0
      · have a1 : decide (ge < 0) = true := by simpa using h0
        clear hb h0
        go_upto_region 5 with (fail)
        refine wp_region_held_drew (S := fun V => V.cell? ⟨17, 0, none⟩ = some (errV ee)) (by kernel_rfl) ced (fun hHeld => ?_)
        refine wpAnyH_take (i := 0) (oi := _) (v := ?vx0) rfl (by kernel_rfl) (by kernel_rfl) (by kernel_rfl) (fun _ _ _ h => h) (Or.inl ⟨by rfl, ?hyx0⟩) (by assumption) ?restx0
        case hyx0 => (intro V hSw; (try dsimp only at hSw); go_simp) <;> with_reducible rfl
        try simp only [Act.put, List.getElem_toArray, List.getElem_cons_succ, List.getElem_cons_zero, List.setIfInBounds_toArray, List.set_cons_zero, List.set_cons_succ]
        refine wpAnyH_take (i := 1) (oi := _) (v := ?vx1) rfl (by kernel_rfl) (by kernel_rfl) (by kernel_rfl) (fun _ _ _ h => h) (Or.inl ⟨by rfl, ?hyx1⟩) (by assumption) ?restx1
        case hyx1 => (intro V hSw; (try dsimp only at hSw); go_simp) <;> with_reducible rfl
        try simp only [Act.put, List.getElem_toArray, List.getElem_cons_succ, List.getElem_cons_zero, List.setIfInBounds_toArray, List.set_cons_zero, List.set_cons_succ]
        refine wpAnyH_ready (rs := [2]) (by kernel_rfl) (by simp) ?_
        refine (AllReadyH.cons (o := _) rfl (fun K9 hK => ?_) AllReadyH.nil)
        refine ready_store_e (by rfl) 26 _ _ rfl (w.heap.size + 2) 0 GZ rfl rfl (there_blk HF.out.1 (Nat.le_refl _)) HS.out.1 HS.out.2.1 ?_
        rw [setCells_row (P := Tryz.prog) (ty := 26) HF.out.1 HS.out.1 rfl HS.out.2.1]
        refine hK.out _ _ ((row_kept_e GZ).cell ced (show ¬ (17 : Nat) = w.heap.size + 2 by have h8 : (17 : Nat) < w.heap.size := World.block_lt_of_cell? w _ HEE.out.1; omega)) (fun hHeld => ?_)
        clear hK K9
        try simp only [Act.put, List.getElem_toArray, List.getElem_cons_succ, List.getElem_cons_zero, List.setIfInBounds_toArray, List.set_cons_zero, List.set_cons_succ]
        refine wpAnyH_take (i := 3) (oi := _) (v := ?vx3) rfl (by kernel_rfl) (by kernel_rfl) (by kernel_rfl) (fun _ _ _ h => h) (Or.inl ⟨by rfl, ?hyx3⟩) (by assumption) ?restx3
        case hyx3 => (intro V hSw; (try dsimp only at hSw); go_simp) <;> with_reducible rfl
        try simp only [Act.put, List.getElem_toArray, List.getElem_cons_succ, List.getElem_cons_zero, List.setIfInBounds_toArray, List.set_cons_zero, List.set_cons_succ]
        refine wpAnyH_done (by kernel_rfl) ?_ _
        go_wp2_with fail
        refine bodyPost_ret (results_cell_t rfl _ _ _ ⟨w.heap.size + 2, 0, none⟩ (.agg GZ) rfl (run_loadVar_row _ (w.heap.size + 2) 26 26 _ (0, 0) _ (HF.out.1.row _) Tryz.underlying26 rfl HS.out.1)) rfl ?_
        exact ⟨grown_row HF.out.2 (.inl (by omega)) _, .inr (.inr ⟨H2.out.2.2.1, HBD.out, by rw [GrNo, HS.out.2.2.2.2.2.2.1]; rfl⟩)⟩
      · have a1 : decide (ge < 0) = false := by simpa using h0
        have h2 : 1073741824 ≤ ge := by omega
        have a2 : decide (1073741824 ≤ ge) = true := by simpa using h2
        clear hb h0 h2
        go_upto_region 5 with (fail)
        refine wp_region_held_drew (S := fun V => V.cell? ⟨17, 0, none⟩ = some (errV ee)) (by kernel_rfl) ced (fun hHeld => ?_)
        refine wpAnyH_take (i := 0) (oi := _) (v := ?vy0) rfl (by kernel_rfl) (by kernel_rfl) (by kernel_rfl) (fun _ _ _ h => h) (Or.inl ⟨by rfl, ?hyy0⟩) (by assumption) ?resty0
        case hyy0 => (intro V hSw; (try dsimp only at hSw); go_simp) <;> with_reducible rfl
        try simp only [Act.put, List.getElem_toArray, List.getElem_cons_succ, List.getElem_cons_zero, List.setIfInBounds_toArray, List.set_cons_zero, List.set_cons_succ]
        refine wpAnyH_take (i := 1) (oi := _) (v := ?vy1) rfl (by kernel_rfl) (by kernel_rfl) (by kernel_rfl) (fun _ _ _ h => h) (Or.inl ⟨by rfl, ?hyy1⟩) (by assumption) ?resty1
        case hyy1 => (intro V hSw; (try dsimp only at hSw); go_simp) <;> with_reducible rfl
        try simp only [Act.put, List.getElem_toArray, List.getElem_cons_succ, List.getElem_cons_zero, List.setIfInBounds_toArray, List.set_cons_zero, List.set_cons_succ]
        refine wpAnyH_ready (rs := [2]) (by kernel_rfl) (by simp) ?_
        refine (AllReadyH.cons (o := _) rfl (fun K9 hK => ?_) AllReadyH.nil)
        refine ready_store_e (by rfl) 26 _ _ rfl (w.heap.size + 2) 0 GZ rfl rfl (there_blk HF.out.1 (Nat.le_refl _)) HS.out.1 HS.out.2.1 ?_
        rw [setCells_row (P := Tryz.prog) (ty := 26) HF.out.1 HS.out.1 rfl HS.out.2.1]
        refine hK.out _ _ ((row_kept_e GZ).cell ced (show ¬ (17 : Nat) = w.heap.size + 2 by have h8 : (17 : Nat) < w.heap.size := World.block_lt_of_cell? w _ HEE.out.1; omega)) (fun hHeld => ?_)
        clear hK K9
        try simp only [Act.put, List.getElem_toArray, List.getElem_cons_succ, List.getElem_cons_zero, List.setIfInBounds_toArray, List.set_cons_zero, List.set_cons_succ]
        refine wpAnyH_take (i := 3) (oi := _) (v := ?vy3) rfl (by kernel_rfl) (by kernel_rfl) (by kernel_rfl) (fun _ _ _ h => h) (Or.inl ⟨by rfl, ?hyy3⟩) (by assumption) ?resty3
        case hyy3 => (intro V hSw; (try dsimp only at hSw); go_simp) <;> with_reducible rfl
        try simp only [Act.put, List.getElem_toArray, List.getElem_cons_succ, List.getElem_cons_zero, List.setIfInBounds_toArray, List.set_cons_zero, List.set_cons_succ]
        refine wpAnyH_done (by kernel_rfl) ?_ _
        go_wp2_with fail
        refine bodyPost_ret (results_cell_t rfl _ _ _ ⟨w.heap.size + 2, 0, none⟩ (.agg GZ) rfl (run_loadVar_row _ (w.heap.size + 2) 26 26 _ (0, 0) _ (HF.out.1.row _) Tryz.underlying26 rfl HS.out.1)) rfl ?_
        exact ⟨grown_row HF.out.2 (.inl (by omega)) _, .inr (.inr ⟨H2.out.2.2.1, HBD.out, by rw [GrNo, HS.out.2.2.2.2.2.2.1]; rfl⟩)⟩
    · have hb0 : 0 ≤ ge := by omega
      have hb1 : ge < 1073741824 := by omega
      have a1 : decide (ge < 0) = false := by simp; omega
      have a2 : decide (1073741824 ≤ ge) = false := by simp; omega
      have hw := w64 (ge + 1) ⟨by omega, by omega⟩
      have HBB := Lib.hid (And.intro hb0 hb1)
      have HGD2 := Lib.hid (HGD.out w2 H2.out.1 (HR.out H2.out.2.2.1) hb0 hb1)
      clear hb hb0 hb1
      go_wp2_with (refine wpList_load_mid rfl 24 _ rfl (w.heap.size + 1) 0 rfl D.toList _ H2.out.2.2.2 Tryz.underlying24 rfl (by rw [Array.length_toList]; exact HS.out.2.2.2.2.2.2.2) ?_; rw [Array.toArray_toList])
      refine HGD2.out.mono ?_
      rintro e w3 ⟨g3, A', c', rfl, hown⟩
      obtain ⟨gv, hgv⟩ : ∃ gv, grV (ge + 1) (.slice A' n c') dv = gv := ⟨_, rfl⟩
      rw [hgv]
      have hgs : gv.size = 18 := by rw [← hgv]; exact grV_size HS.out.2.2.2.1
      have H3 := Lib.hid (And.intro (grown_trans H2.out.1 g3) (And.intro (H2.out.2.1.grown g3 (by simp)) (And.intro hown (And.intro hgv (And.intro (show (Tryz.prog.info? 26).map (·.size) = some gv.size by rw [hgs]; exact sz_Gre) (And.intro (show GZ.size = gv.size by rw [hgs, HS.out.2.2.1]) (show (gv.all fun v => v.oneCell') = true by rw [← hgv]; exact grV_one HS.out.2.2.2.2.1)))))))
      clear g3 hown hgv hgs c0 ce
      go_wp2_with (refine wpList_store_row rfl 26 _ _ rfl (w.heap.size + 2) gv rfl rfl 26 _ H3.out.2.1 (H3.out.2.2.2.2.1) (H3.out.2.2.2.2.2.1) H3.out.2.2.2.2.2.2 ?_)
      refine bodyPost_ret (results_cell_t rfl _ _ _ ⟨w.heap.size + 2, 0, none⟩ (.agg gv) rfl (run_loadVar_row _ (w.heap.size + 2) 26 26 _ (0, 0) _ (H3.out.2.1.row _) Tryz.underlying26 rfl H3.out.2.2.2.2.1)) rfl ?_
      refine ⟨grown_row H3.out.1 (.inl (by omega)) _, .inl ⟨H2.out.2.2.1, HBB.out, A', c', by rw [HS.out.2.2.2.2.2.1, H3.out.2.2.2.1]; rfl, own_kept (H3.out.2.2.1.mono (base' := w.heap.size) H2.out.1.size) (row_kept_e gv) fun k hk hkq => ?_⟩⟩
      have h9 := (H3.out.2.2.1.lt k hk).1
      have h10 := H2.out.2.1.lt
      omega
  · have H2 := Lib.hid (And.intro (grown_trans HX.out.1 g2) (And.intro (HX.out.2.1.grown g2 (by simp)) hr))
    clear g2 hr
    go_wp2_with (refine wpList_store_row rfl 26 _ _ rfl (w.heap.size + 2) GZ rfl rfl 26 _ H2.out.2.1 (HS.out.1) (rfl) HS.out.2.1 ?_)
    refine bodyPost_ret (results_cell_t rfl _ _ _ ⟨w.heap.size + 2, 0, none⟩ (.agg GZ) rfl (run_loadVar_row _ (w.heap.size + 2) 26 26 _ (0, 0) _ (H2.out.2.1.row _) Tryz.underlying26 rfl HS.out.1)) rfl ?_
    exact ⟨grown_row H2.out.1 (.inl (by omega)) _, .inr (.inl ⟨H2.out.2.2, by rw [GrNo, HS.out.2.2.2.2.2.2.1]; rfl⟩)⟩
end Go.Proofs.YtmoebkdbnldbdaaGreatDoor
/-
  The document's Out (layer 9): its block and the bytes that it owns; what each call leaves.
-/
namespace Go.Proofs.YtmoebkdbnldbdaaGreatDoor
open Go.RowKit

theorem Kept.follow_ou {F G : Nat → Prop} {a b c : World} (h : Kept F a b) (k : Kept G b c) (hF : ∀ k, k < a.heap.size → G k → F k) : Kept F a c :=
  ⟨k.os.trans h.os, k.tape.trans h.tape, k.output.trans h.output, Nat.le_trans h.size k.size, fun i hi hn => (k.block i (Nat.lt_of_lt_of_le hi h.size) (fun hg => hn (hF i hi hg))).trans (h.block i hi hn)⟩
/-- The Out at block g holds the error's number and the bytes s; it, and the row of the bytes, lie among the blocks F. -/
def OutIs (w : World) (F : Nat → Prop) (g : Nat) (s : WSt) : Prop :=
  F g ∧ ∃ bA bc, Blk w g 76 #[.slice bA s.2.length bc, .int .i64 (s.1 : Int)] ∧ w.ownsRow 0 5 1 (.slice bA s.2.length bc) s.2.length (Lib.byteCells s.2) ∧ ∀ ad, bA = some ad → F ad.block
theorem OutIs.mono {w : World} {F G : Nat → Prop} {g : Nat} {s : WSt} (h : OutIs w F g s) (hF : ∀ k, k < w.heap.size → F k → G k) : OutIs w G g s := by
  obtain ⟨hg, bA, bc, hb, hown, hA⟩ := h
  exact ⟨hF g hb.lt hg, bA, bc, hb, hown, by rintro ad rfl; exact hF _ (hown.lt ad.block rfl).2 (hA ad rfl)⟩
theorem OutIs.upTo {w : World} {F : Nat → Prop} {g : Nat} {s : WSt} (h : OutIs w F g s) (a b : Nat) : OutIs w (upTo F a b) g s := h.mono fun _ _ h => .inl h
theorem OutIs.grown {w w' : World} {F : Nat → Prop} {g : Nat} {s : WSt} (h : OutIs w F g s) (hg : w.grownBy w' none) : OutIs w' F g s := by
  obtain ⟨hBg, bA, bc, hb, hown, hF⟩ := h
  exact ⟨hBg, bA, bc, hb.grown hg (by simp), hown.kept hg (by cases hv : (Value.slice bA s.2.length bc).ownBlock <;> simp), hF⟩
/-- The Out at g, in the blocks F; nothing that was there in w0 has turned. -/
structure OI (w0 : World) (g : Nat) (F : Nat → Prop) (s : WSt) (w : World) : Prop where
  wr : OutIs w F g s
  low : ∀ k, F k → w0.heap.size ≤ k
  kept : Kept (fun k => w0.heap.size ≤ k) w0 w
/-- What a call leaves that writes. -/
structure OP (w0 : World) (g : Nat) (F : Nat → Prop) (s : WSt) (w w' : World) : Prop where
  wi : OI w0 g (upTo F w.heap.size w'.heap.size) s w'
  fine : Kept F w w'
section
variable {w0 w w' w'' : World} {g : Nat} {F : Nat → Prop} {s s' : WSt}
theorem OI.size (h : OI w0 g F s w) : w0.heap.size ≤ w.heap.size := h.kept.size
theorem OI.next (h : OI w0 g F s w) (k : Kept F w w') : Kept (fun k => w0.heap.size ≤ k) w0 w' := h.kept.follow_ou k fun j _ hj => h.low j hj
theorem OI.step (h : OI w0 g F s w) (k : Kept F w w') (hw : OutIs w' (upTo F w.heap.size w'.heap.size) g s') : OP w0 g F s' w w' :=
  ⟨⟨hw, fun j hj => by
    rcases hj with h1 | ⟨h1, _⟩
    · exact h.low j h1
    · exact Nat.le_trans h.size h1, h.next k⟩, k⟩
theorem OI.grown (h : OI w0 g F s w) (hg : w.grownBy w' none) : OP w0 g F s w w' := h.step (Kept.of_grown hg fun _ e => by cases e) ((h.wr.grown hg).upTo _ _)
theorem OI.drew (h : OI w0 g F s w) : OI w0 g F s w.drew := ⟨h.wr, h.low, h.kept.drew⟩
theorem OP.drew (h : OP w0 g F s w w') : OP w0 g F s w w'.drew := ⟨⟨h.wi.wr, h.wi.low, h.wi.kept.drew⟩, h.fine.drew⟩
theorem OI.same (h : OI w0 g F s w) : OP w0 g F s w w := h.grown (World.grownBy.refl _ _)
theorem OP.trans (h : OP w0 g F s w w') (k : OP w0 g (upTo F w.heap.size w'.heap.size) s' w' w'') : OP w0 g F s' w w'' := by
  have z1 := h.fine.size
  have z2 := k.fine.size
  refine ⟨⟨k.wi.wr.mono fun j _ hj => upTo_le z1 z2 j hj, fun j hj => ?_, k.wi.kept⟩, h.fine.trans k.fine⟩
  rcases hj with h1 | ⟨h1, h2⟩
  · exact h.wi.low j (.inl h1)
  · by_cases h3 : j < w'.heap.size
    · exact h.wi.low j (.inr ⟨h1, h3⟩)
    · exact k.wi.low j (.inr ⟨by omega, h2⟩)
/-- Blocks of one's own, laid ahead of what writes: they stay. -/
theorem OI.opened (h : OI w0 g F s w) (hg : w.grownBy w' none) : OI w0 g (fun k => F k ∧ k < w.heap.size) s w' :=
  ⟨(h.wr.mono (G := fun k => F k ∧ k < w.heap.size) fun j hj hf => ⟨hf, hj⟩).grown hg, fun j hj => h.low j hj.1, (h.grown hg).wi.kept⟩
theorem OP.closed (hi : OI w0 g F s' w) (hg : w.grownBy w' none) (k : OP w0 g (fun k => F k ∧ k < w.heap.size) s w' w'') : OP w0 g F s w w'' := by
  have z1 := hg.size
  have z2 := k.fine.size
  refine ⟨⟨k.wi.wr.mono fun j _ hj => ?_, fun j hj => ?_, k.wi.kept⟩, (Kept.of_grown (F := F) hg fun _ e => by cases e).follow_ou k.fine fun _ _ hj => hj.1⟩
  · rcases hj with ⟨h1, _⟩ | ⟨h1, h2⟩
    · exact .inl h1
    · exact .inr ⟨by omega, h2⟩
  · rcases hj with h1 | ⟨h1, h2⟩
    · by_cases h3 : j < w.heap.size
      · exact k.wi.low j (.inl ⟨h1, h3⟩)
      · exact Nat.le_trans hi.size (by omega)
    · exact Nat.le_trans hi.size h1
/-- Bytes that are pushed. -/
theorem OutIs.pushed {w1 : World} {l : List UInt8} {bA : Option Addr} {bc : Nat} {A' : Option Addr} {cap' : Nat} {x : List UInt8} (hBg : F g) (hb : Blk w g 76 #[.slice bA l.length bc, .int .i64 0]) (hown : w.ownsRow 0 5 1 (.slice bA l.length bc) l.length (Lib.byteCells l)) (hF : ∀ ad, bA = some ad → F ad.block)
    (hown1 : w1.ownsRow 0 5 1 (.slice A' (l.length + x.length) cap') (l.length + x.length) (Lib.byteCells l ++ Lib.byteCells x)) (hgrow : w.grownBy w1 (Value.slice bA l.length bc).ownBlock)
    (hat : (Value.slice A' (l.length + x.length) cap').ownBlock = (Value.slice bA l.length bc).ownBlock ∨ (Value.slice A' (l.length + x.length) cap').ownBlock = some w.heap.size) :
    OutIs (w1.setCell ⟨g, 0, none⟩ (.slice A' (l.length + x.length) cap')) (Proofs.YtmoebkdbnldbdaaGreatDoor.upTo F w.heap.size w1.heap.size) g (0, l ++ x) ∧ Kept F w (w1.setCell ⟨g, 0, none⟩ (.slice A' (l.length + x.length) cap')) := by
  have hb1 : Blk w1 g 76 #[.slice bA l.length bc, .int .i64 0] := hb.grown hgrow (own_ne hown hb (by decide)).symm
  refine ⟨⟨.inl hBg, A', cap', ?_, ?_, ?_⟩, (Kept.of_grown hgrow fun k hk => own_in hF hk).set (.inl hBg) _⟩
  · have := hb1.set 0 (.slice A' (l.length + x.length) cap')
    simpa [List.length_append] using this
  · have := own_far hown1 hb1 (by decide) 0 (.slice A' (l.length + x.length) cap')
    rw [Lib.byteCells_append, List.length_append]
    exact this
  · rintro ad rfl
    have hlt := (hown1.lt ad.block rfl).2
    rcases hat with h | h
    · exact .inl (own_in hF h.symm)
    · have : ad.block = w.heap.size := by simpa [Value.ownBlock] using h
      exact .inr ⟨by omega, hlt⟩
set_option maxRecDepth 100000 in
set_option maxHeartbeats 1000000 in
theorem onum_st (h : OI w0 g F s w) (hs : s.2.length ≤ 70368744177664) (n : Int) (hmax : n ≤ 9223372036854775807) (k : Nat) (h1 : 1 ≤ k) (h8 : k ≤ 8) :
    Calls Tryz.prog 36 #[.pointer (some ⟨g, 0, none⟩), .int .i64 n, .int .i64 (k : Int)] w fun e w' => e = .returned (.tuple #[]) ∧ OP w0 g F (sNum n (k : Int) s) w w' := by
  obtain ⟨e0, l⟩ := s
  obtain ⟨i0, hi, hz0, hz1, hz2⟩ := info_parts u8_info
  obtain ⟨hBg, bA, bc, hb, hown, hF⟩ := h.wr
  have c0 := hb.cell 0
  have c1 := hb.cell 1
  simp at c0 c1
  simp only at hs
  rcases e0 with _ | e0
  · by_cases hbad : badNum n (k : Int) = true
    · have hr : sNum n (k : Int) (0, l) = (1, l) := by unfold sNum sFail; rw [if_pos hbad]; rfl
      have hf := fits_any w n (k : Int) hmax
      rw [hbad] at hf
      have HF := Lib.hid hf
      have f1 := hb.frozen 1
      have HR := Lib.hid (show OP w0 g F (1, l) w (w.setCell ⟨g, 1, none⟩ (.int .i64 1)) from h.step ((Kept.refl F w).set (.inl hBg) _) ⟨.inl hBg, bA, bc, by simpa using hb.set 1 (.int .i64 1), own_far hown hb (by decide) 1 _, fun ad e => .inl (hF ad e)⟩)
      have d1 : (w.setCell ⟨g, 1, none⟩ (.int .i64 1)).cell? ⟨g, 1, none⟩ = some (.int .i64 1) := by
        have := (hb.set 1 (.int .i64 1)).cell 1
        simpa using this
      rw [hr]
      clear hf hr hbad
      go_enter Tryz.func36, Tryz.ntmps36
      go_wp2_with fail
      refine HF.out.mono ?_
      rintro e w1 ⟨rfl, rfl⟩
      go_wp2_with fail
      go_end0
      exact ⟨rfl, HR.out⟩
    · have hbad : badNum n (k : Int) = false := by simpa using hbad
      obtain ⟨m, rfl⟩ : ∃ m : Nat, n = (m : Int) := by
        refine Int.eq_ofNat_of_zero_le ?_
        by_cases h0 : 0 ≤ n
        · exact h0
        · exfalso
          unfold badNum at hbad
          have : decide (n < 0) = true := by simp; omega
          simp [this] at hbad
      have hr : sNum (m : Int) (k : Int) (0, l) = (0, l ++ be k m) := by unfold sNum sFix; rw [if_neg (by rw [hbad]; simp)]; simp
      have hf := fits_any w (m : Int) (k : Int) hmax
      rw [hbad] at hf
      have HF := Lib.hid hf
      have HI := Lib.hid (And.intro hi (And.intro hz0 (And.intro hz1 hz2)))
      have HH := Lib.hid h
      have HB := Lib.hid (And.intro hBg (And.intro hb (And.intro hown hF)))
      obtain ⟨x, hx⟩ : ∃ x, be k m = x := ⟨_, rfl⟩
      have hxl : x.length = k := by rw [← hx, be_length]
      rw [hr, hx]
      clear hf hr hbad hi hz0 hz1 hz2 h hBg hb hown hF
      go_enter Tryz.func36, Tryz.ntmps36
      go_wp2_with fail
      refine HF.out.mono ?_
      rintro e w1 ⟨rfl, rfl⟩
      go_upto_region 3 with (fail)
      have HN2 := Lib.hid (show Calls Tryz.prog 51 #[.int .i64 (m : Int), .int .i64 (k : Int)] w.drew fun e w' => e = .returned (.slice (some ⟨w.drew.heap.size, 0, none⟩) x.length x.length) ∧ Blk w' w.drew.heap.size 5 (Lib.byteCells x).toArray ∧ w.drew.grownBy w' none by rw [hxl, ← hx]; exact refNumber_any w.drew m k hmax h1 h8)
      have c0d : w.drew.cell? ⟨g, 0, none⟩ = some (.slice bA l.length bc) := c0
      have HX := Lib.hid (fun (w1 : World) (hbn : Blk w1 w.drew.heap.size 5 (Lib.byteCells x).toArray) (gn : w.drew.grownBy w1 none) =>
        And.intro (own_bytesAt (own_of_blk hbn rfl (by omega))) (And.intro (World.ownsRow.kept (show w.drew.ownsRow 0 5 1 (.slice bA l.length bc) l.length (Lib.byteCells l) from HB.out.2.2.1) gn (by cases hv : (Value.slice bA l.length bc).ownBlock <;> simp)) (Blk.grown (show Blk w.drew g 76 #[.slice bA l.length bc, .int .i64 0] from HB.out.2.1) gn (by simp))))
      have HXL := Lib.hid (And.intro hxl h8)
      clear hx hxl
      refine wp_region_held_drew (S := fun _ => True) (by kernel_rfl) trivial (fun hHeld => ?_)
      refine wpAnyH_take (i := 0) (oi := _) (v := ?vn0) rfl (by kernel_rfl) (by kernel_rfl) (by kernel_rfl) (fun _ _ _ h => h) (Or.inl ⟨by rfl, ?hyn0⟩) (by assumption) ?restn0
      case hyn0 => (intro V hSw; (try dsimp only at hSw); go_simp) <;> with_reducible rfl
      try simp only [Act.put, List.getElem_toArray, List.getElem_cons_succ, List.getElem_cons_zero, List.setIfInBounds_toArray, List.set_cons_zero, List.set_cons_succ]
      refine wpAnyH_take (i := 1) (oi := _) (v := ?vn1) rfl (by kernel_rfl) (by kernel_rfl) (by kernel_rfl) (fun _ _ _ h => h) (Or.inl ⟨by rfl, ?hyn1⟩) (by assumption) ?restn1
      case hyn1 => (intro V hSw; (try dsimp only at hSw); go_simp) <;> with_reducible rfl
      try simp only [Act.put, List.getElem_toArray, List.getElem_cons_succ, List.getElem_cons_zero, List.setIfInBounds_toArray, List.set_cons_zero, List.set_cons_succ]
      refine wpAnyH_take (i := 2) (oi := _) (v := ?vn2) rfl (by kernel_rfl) (by kernel_rfl) (by kernel_rfl) (fun _ _ _ h => h) (Or.inl ⟨by rfl, ?hyn2⟩) (by assumption) ?restn2
      case hyn2 => (intro V hSw; (try dsimp only at hSw); go_simp) <;> with_reducible rfl
      try simp only [Act.put, List.getElem_toArray, List.getElem_cons_succ, List.getElem_cons_zero, List.setIfInBounds_toArray, List.set_cons_zero, List.set_cons_succ]
      refine wpAnyH_take (i := 3) (oi := _) (v := ?vn3) rfl (by kernel_rfl) (by kernel_rfl) (by kernel_rfl) (fun _ _ _ h => h) (Or.inl ⟨by rfl, ?hyn3⟩) (by assumption) ?restn3
      case hyn3 => (intro V hSw; (try dsimp only at hSw); go_simp) <;> with_reducible rfl
      try simp only [Act.put, List.getElem_toArray, List.getElem_cons_succ, List.getElem_cons_zero, List.setIfInBounds_toArray, List.set_cons_zero, List.set_cons_succ]
      refine wpAnyH_take (i := 5) (oi := _) (v := ?vn5) rfl (by kernel_rfl) (by kernel_rfl) (by kernel_rfl) (fun _ _ _ h => h) (Or.inl ⟨by rfl, ?hyn5⟩) (by assumption) ?restn5
      case hyn5 => (intro V hSw; (try dsimp only at hSw); go_simp) <;> with_reducible rfl
      try simp only [Act.put, List.getElem_toArray, List.getElem_cons_succ, List.getElem_cons_zero, List.setIfInBounds_toArray, List.set_cons_zero, List.set_cons_succ]
      refine wpAnyH_take (i := 6) (oi := _) (v := ?vn6) rfl (by kernel_rfl) (by kernel_rfl) (by kernel_rfl) (fun _ _ _ h => h) (Or.inl ⟨by rfl, ?hyn6⟩) (by assumption) ?restn6
      case hyn6 => (intro V hSw; (try dsimp only at hSw); go_simp) <;> with_reducible rfl
      try simp only [Act.put, List.getElem_toArray, List.getElem_cons_succ, List.getElem_cons_zero, List.setIfInBounds_toArray, List.set_cons_zero, List.set_cons_succ]
      refine wpAnyH_ready (rs := [4, 7]) (by kernel_rfl) (by simp) ?_
      refine (AllReadyH.cons (o := _) rfl (fun K9 hK => ?_) (AllReadyH.cons (o := _) rfl (fun K9 hK => ?_) AllReadyH.nil))
      · go_simp
        refine hK.out _ _ trivial (fun hHeld => ?_)
        clear hK K9
        try simp only [Act.put, List.getElem_toArray, List.getElem_cons_succ, List.getElem_cons_zero, List.setIfInBounds_toArray, List.set_cons_zero, List.set_cons_succ]
        refine wpAnyH_ready (rs := [7]) (by kernel_rfl) (by simp) ?_
        refine (AllReadyH.cons (o := _) rfl (fun K9 hK => ?_) AllReadyH.nil)
        go_simp
        refine HN2.out.mono ?_
        rintro e w1 ⟨rfl, hbn, gn⟩
        have d0 := gn.cell c0d (by simp)
        have HG := Lib.hid gn
        have HY := Lib.hid (HX.out w1 hbn gn)
        clear hbn gn
        (try go_wp2_with fail)
        refine hK.out _ _ trivial (fun hHeld => ?_)
        clear hK K9
        try simp only [Act.put, List.getElem_toArray, List.getElem_cons_succ, List.getElem_cons_zero, List.setIfInBounds_toArray, List.set_cons_zero, List.set_cons_succ]
        refine wpAnyH_ready (rs := [8]) (by kernel_rfl) (by simp) ?_
        refine (AllReadyH.cons (o := _) rfl (fun K9 hK => ?_) AllReadyH.nil)
        refine step_append_bytes _ (by rfl) _ _ _ (by rfl) 0 5 i0 _ Tryz.underlying61 HI.out.1 HI.out.2.1 HI.out.2.2.1 HI.out.2.2.2 rfl (.slice bA l.length bc) l.length (Lib.byteCells l) (by rfl) HY.out.2.1 (some ⟨w.drew.heap.size, 0, none⟩) _ x (by rfl) HY.out.1 (by have := HXL.out; omega) (Nat.zero_le _) ?_
        intro A' cap' w3 hown1 hgrow hat
        have hb3 := HY.out.2.2.grown hgrow (own_ne HY.out.2.1 HY.out.2.2 (by decide)).symm
        have f0 := hb3.frozen 0
        have d3 : w3.cell? ⟨g, 0, none⟩ = some (.slice bA l.length bc) := hb3.cell 0
        clear hb3
        have HP := Lib.hid (OutIs.pushed (F := F) HB.out.1 HY.out.2.2 HY.out.2.1 HB.out.2.2.2 hown1 hgrow hat)
        clear hown1 hgrow hat
        refine hK.out _ _ trivial (fun hHeld => ?_)
        clear hK K9
        try simp only [Act.put, List.getElem_toArray, List.getElem_cons_succ, List.getElem_cons_zero, List.setIfInBounds_toArray, List.set_cons_zero, List.set_cons_succ]
        refine wpAnyH_take (i := 9) (oi := _) (v := ?va9) rfl (by kernel_rfl) (by kernel_rfl) (by kernel_rfl) (fun _ _ _ h => h) (Or.inl ⟨by rfl, ?hya9⟩) (by assumption) ?resta9
        case hya9 => (intro V hSw; (try dsimp only at hSw); go_simp) <;> with_reducible rfl
        try simp only [Act.put, List.getElem_toArray, List.getElem_cons_succ, List.getElem_cons_zero, List.setIfInBounds_toArray, List.set_cons_zero, List.set_cons_succ]
        refine wpAnyH_take (i := 10) (oi := _) (v := ?va10) rfl (by kernel_rfl) (by kernel_rfl) (by kernel_rfl) (fun _ _ _ h => h) (Or.inl ⟨by rfl, ?hya10⟩) (by assumption) ?resta10
        case hya10 => (intro V hSw; (try dsimp only at hSw); go_simp) <;> with_reducible rfl
        try simp only [Act.put, List.getElem_toArray, List.getElem_cons_succ, List.getElem_cons_zero, List.setIfInBounds_toArray, List.set_cons_zero, List.set_cons_succ]
        refine wpAnyH_ready (rs := [11]) (by kernel_rfl) (by simp) ?_
        refine (AllReadyH.cons (o := _) rfl (fun K9 hK => ?_) AllReadyH.nil)
        go_simp
        refine hK.out _ _ trivial (fun hHeld => ?_)
        clear hK K9
        try simp only [Act.put, List.getElem_toArray, List.getElem_cons_succ, List.getElem_cons_zero, List.setIfInBounds_toArray, List.set_cons_zero, List.set_cons_succ]
        refine wpAnyH_done (by kernel_rfl) ?_ _
        go_wp2
        go_end0
        refine ⟨rfl, (HH.out.same.drew).trans (OI.step HH.out.same.drew.wi ?_ ?_)⟩
        · exact (Kept.of_grown HG.out fun _ e => by cases e).follow_ou HP.out.2 fun j _ hj => .inl hj
        · refine HP.out.1.mono fun j _ hj => ?_
          have := HG.out.size
          rcases hj with h1 | ⟨h1, h2⟩
          · exact .inl (.inl h1)
          · exact .inr ⟨by omega, by simpa [World.setCell] using h2⟩
      · go_simp
        refine HN2.out.mono ?_
        rintro e w1 ⟨rfl, hbn, gn⟩
        have d0 := gn.cell c0d (by simp)
        have HG := Lib.hid gn
        have HY := Lib.hid (HX.out w1 hbn gn)
        clear hbn gn
        (try go_wp2_with fail)
        refine hK.out _ _ trivial (fun hHeld => ?_)
        clear hK K9
        try simp only [Act.put, List.getElem_toArray, List.getElem_cons_succ, List.getElem_cons_zero, List.setIfInBounds_toArray, List.set_cons_zero, List.set_cons_succ]
        refine wpAnyH_ready (rs := [4]) (by kernel_rfl) (by simp) ?_
        refine (AllReadyH.cons (o := _) rfl (fun K9 hK => ?_) AllReadyH.nil)
        go_simp
        refine hK.out _ _ trivial (fun hHeld => ?_)
        clear hK K9
        try simp only [Act.put, List.getElem_toArray, List.getElem_cons_succ, List.getElem_cons_zero, List.setIfInBounds_toArray, List.set_cons_zero, List.set_cons_succ]
        refine wpAnyH_ready (rs := [8]) (by kernel_rfl) (by simp) ?_
        refine (AllReadyH.cons (o := _) rfl (fun K9 hK => ?_) AllReadyH.nil)
        refine step_append_bytes _ (by rfl) _ _ _ (by rfl) 0 5 i0 _ Tryz.underlying61 HI.out.1 HI.out.2.1 HI.out.2.2.1 HI.out.2.2.2 rfl (.slice bA l.length bc) l.length (Lib.byteCells l) (by rfl) HY.out.2.1 (some ⟨w.drew.heap.size, 0, none⟩) _ x (by rfl) HY.out.1 (by have := HXL.out; omega) (Nat.zero_le _) ?_
        intro A' cap' w3 hown1 hgrow hat
        have hb3 := HY.out.2.2.grown hgrow (own_ne HY.out.2.1 HY.out.2.2 (by decide)).symm
        have f0 := hb3.frozen 0
        have d3 : w3.cell? ⟨g, 0, none⟩ = some (.slice bA l.length bc) := hb3.cell 0
        clear hb3
        have HP := Lib.hid (OutIs.pushed (F := F) HB.out.1 HY.out.2.2 HY.out.2.1 HB.out.2.2.2 hown1 hgrow hat)
        clear hown1 hgrow hat
        refine hK.out _ _ trivial (fun hHeld => ?_)
        clear hK K9
        try simp only [Act.put, List.getElem_toArray, List.getElem_cons_succ, List.getElem_cons_zero, List.setIfInBounds_toArray, List.set_cons_zero, List.set_cons_succ]
        refine wpAnyH_take (i := 9) (oi := _) (v := ?vb9) rfl (by kernel_rfl) (by kernel_rfl) (by kernel_rfl) (fun _ _ _ h => h) (Or.inl ⟨by rfl, ?hyb9⟩) (by assumption) ?restb9
        case hyb9 => (intro V hSw; (try dsimp only at hSw); go_simp) <;> with_reducible rfl
        try simp only [Act.put, List.getElem_toArray, List.getElem_cons_succ, List.getElem_cons_zero, List.setIfInBounds_toArray, List.set_cons_zero, List.set_cons_succ]
        refine wpAnyH_take (i := 10) (oi := _) (v := ?vb10) rfl (by kernel_rfl) (by kernel_rfl) (by kernel_rfl) (fun _ _ _ h => h) (Or.inl ⟨by rfl, ?hyb10⟩) (by assumption) ?restb10
        case hyb10 => (intro V hSw; (try dsimp only at hSw); go_simp) <;> with_reducible rfl
        try simp only [Act.put, List.getElem_toArray, List.getElem_cons_succ, List.getElem_cons_zero, List.setIfInBounds_toArray, List.set_cons_zero, List.set_cons_succ]
        refine wpAnyH_ready (rs := [11]) (by kernel_rfl) (by simp) ?_
        refine (AllReadyH.cons (o := _) rfl (fun K9 hK => ?_) AllReadyH.nil)
        go_simp
        refine hK.out _ _ trivial (fun hHeld => ?_)
        clear hK K9
        try simp only [Act.put, List.getElem_toArray, List.getElem_cons_succ, List.getElem_cons_zero, List.setIfInBounds_toArray, List.set_cons_zero, List.set_cons_succ]
        refine wpAnyH_done (by kernel_rfl) ?_ _
        go_wp2
        go_end0
        refine ⟨rfl, (HH.out.same.drew).trans (OI.step HH.out.same.drew.wi ?_ ?_)⟩
        · exact (Kept.of_grown HG.out fun _ e => by cases e).follow_ou HP.out.2 fun j _ hj => .inl hj
        · refine HP.out.1.mono fun j _ hj => ?_
          have := HG.out.size
          rcases hj with h1 | ⟨h1, h2⟩
          · exact .inl (.inl h1)
          · exact .inr ⟨by omega, by simpa [World.setCell] using h2⟩
  · have hr : sNum n (k : Int) (e0 + 1, l) = (e0 + 1, l) := by unfold sNum; split <;> rfl
    have hne : (((e0 + 1 : Nat) : Int) == 0) = false := by simp; omega
    have HP := Lib.hid h.same
    rw [hr]
    clear hr h
    go_enter Tryz.func36, Tryz.ntmps36
    go_wp2_with fail
    go_end0
    exact ⟨rfl, HP.out⟩
end
end Go.Proofs.YtmoebkdbnldbdaaGreatDoor
