/- EpA, EpB, EpC -/
import Derived.Deep.DeepCutAuto
import Derived.Deep.RegionHeld3
import Derived.Test.YtigafnbofmiknaaGreatDoorW20B
import Derived.Test.YtigafnbofmiknaaGreatDoorW20C
import Derived.Test.YtigafnbofmiknaaGreatDoorW20q
import Derived.Test.YtigafnbofmiknaaGreatDoorW20x
namespace Go.Proofs.YtigafnbofmiknaaGreatDoor
set_option maxRecDepth 100000
set_option maxHeartbeats 10000000
open Go.RowKit
section
def grV (e : Int) (vs : Value) (G : Array Value) : Array Value := #[.int .i64 e, vs] ++ G
theorem uy {e : Int} {vs : Value} {G : Array Value} (h : G.size = 16) : (grV e vs G).size = 18 := by simp [grV, h]
theorem arr16e (sd : Array Value) (h : sd.size = 16) : ∃ a0 a1 a2 a3 a4 a5 a6 a7 a8 a9 a10 a11 a12 a13 a14 a15 : Value, sd = #[a0, a1, a2, a3, a4, a5, a6, a7, a8, a9, a10, a11, a12, a13, a14, a15] := by
 obtain ⟨l⟩ := sd
 have h : l.length = 16 := h
 match l, h with
 | [a0, a1, a2, a3, a4, a5, a6, a7, a8, a9, a10, a11, a12, a13, a14, a15], _ => exact ⟨a0, a1, a2, a3, a4, a5, a6, a7, a8, a9, a10, a11, a12, a13, a14, a15, rfl⟩
theorem ep_bk_build (w : World) (e : Int) (D : Array Value) (h : D.size = 16) : Sem.run Tryz.prog (Instr.build 32 #[(0, .int .i64 e), (2, .agg D)]) w = .ok (.agg (genV e D)) w := by
 obtain ⟨a0, a1, a2, a3, a4, a5, a6, a7, a8, a9, a10, a11, a12, a13, a14, a15, rfl⟩ := arr16e D h
 refine run_build w 32 _ _ ?_
 kernel_rfl
theorem ep_gr_build (w : World) (e : Int) (A : Option Addr) (n c : Nat) (D : Array Value) (h : D.size = 16) : Sem.run Tryz.prog (Instr.build 26 #[(0, .int .i64 e), (1, .slice A n c), (2, .agg D)]) w = .ok (.agg (grV e (.slice A n c) D)) w := by
 obtain ⟨a0, a1, a2, a3, a4, a5, a6, a7, a8, a9, a10, a11, a12, a13, a14, a15, rfl⟩ := arr16e D h
 refine run_build w 26 _ _ ?_
 kernel_rfl
theorem genV_one {e : Int} {D : Array Value} (h : (D.all fun v => v.oneCell') = true) : ((genV e D).all fun v => v.oneCell') = true := by
 have h1 : ((arrV .u8 (List.replicate 16 0)).all fun v => v.oneCell') = true := zu _ _
 simp only [genV, Array.all_append, h, h1, Bool.true_and]
 simp [Value.oneCell']
theorem za5 (e : Int) {D : Array Value} (h : D.size = 16) : (genV e D).size = 39 := by simp [genV, h]
theorem zdt {e : Int} {A : Option Addr} {n c : Nat} {D : Array Value} (h : (D.all fun v => v.oneCell') = true) : ((grV e (.slice A n c) D).all fun v => v.oneCell') = true := by
 simp only [grV, Array.all_append, h, Bool.and_true]
 simp [Value.oneCell']
def zD16 : Array Value := arrV .u8 (List.replicate 16 0)
def zGr : Array Value := grV 0 (.slice none 0 0) zD16
def zBk : Array Value := genV 0 zD16
theorem zew (w : World) : Sem.run Tryz.prog (zeroValue 26) w = .ok (.agg zGr) w := vu w (by kernel_rfl)
theorem zex (w : World) : Sem.run Tryz.prog (zeroValue 32) w = .ok (.agg zBk) w := vu w (by kernel_rfl)
theorem zgr_build (w : World) : Sem.run Tryz.prog (Instr.build 26 #[]) w = .ok (.agg zGr) w := by
 refine run_build w _ _ _ ?_
 kernel_rfl
theorem sz_Bke : (Tryz.prog.info? 32).map (·.size) = some 39 := by kernel_rfl
theorem sz_Gre : (Tryz.prog.info? 26).map (·.size) = some 18 := by kernel_rfl
theorem yb {w : World} {x : Nat} (sv : Array Value) : Kept (fun j => j = x) w (w.setRow x sv) := Kept.of_grown (zc (World.grownBy.refl w (some x)) (.inr rfl) _) (fun _ e => by injection e with e; exact e.symm)
theorem yieldsIf_build {P : Program} {ops : Array Oper} {S : World -> Prop} {o : Oper} {a : Act} (hw : Region.wanted o (yielded ops a.tmps) = true) (t : TypeId) (parts : Array (Nat × Operand)) (ho : o.op = .build t parts) (ps : Array (Nat × Value)) (hp : (parts.map fun (i, x) => (i, a.eval x)) = ps) (V : Value)
    (hr : ∀ w, Sem.run P (Instr.build t ps) w = .ok V w) : YieldsIf P ops S o V a := .inl ⟨hw, fun w _ => by
 unfold execOp
 simp only [ho, hp, Sem.run_bind, hr, Result.andThen_ok, Sem.run_pure]⟩
theorem zay {fn : Func} {s : Tmp} {t : TypeId} (h : fn.results = #[.cell s t]) (tmps : Array Value) (P : Program) (w : World) (p : Addr) (v : Value)
    (hp : tmps.getD s undef = .pointer (some p)) (hl : (loadVar t p).run P w = .ok v w) : (results fn tmps).run P w = .ok v w := by
 have hq : tmps[s]?.getD undef = .pointer (some p) := by simpa using hp
 simp [results, h, hq, asAddr, hl]
theorem zk {P : Program} {ops : Array Oper} {o : Oper} {a : Act} {w : World} {K : Act -> World -> Prop} {Q : Exit -> Act -> World -> Prop} (hw : Region.wanted o (yielded ops a.tmps) = true) (ty : TypeId) (x y : Operand) (ho : o.op = .store ty x y)
    (b off : Nat) (cells : Array Value) (hx : a.eval x = .pointer (some ⟨b, off, none⟩)) (hy : a.eval y = .agg cells)
    (ht : w.there b off cells.size) (hi : (P.info? ty).map (·.size) = some cells.size) (h1 : cells.all (·.oneCell') = true)
    (h : K (a.put o.dst undef) (w.setCells b off cells.toList)) : if Region.wanted o (yielded ops a.tmps) = true then Oper.wp P o a w K Q else K (a.put o.dst undef) w := by
 rw [if_pos hw]
 unfold Oper.wp execOp
 simp only [ho, hx, hy, Sem.run_bind, Sem.run_pure, Result.andThen_ok, run_storeAt_mid w b off ty cells ht hi h1]
 exact h
theorem genesis_is (w : World) (a : Int) (D : Array Value) (hD : D.size = 16) (h1 : (D.all fun v => v.oneCell') = true) (cs : Array Value) (hcs : cs = genV a D) :
    Calls Tryz.prog 44 #[.int .i64 a, .agg D] w fun e w' => e = .returned (.agg cs) /\ w.grownBy w' none := by
 obtain ⟨Z, hZ⟩ : ∃ Z, zBk = Z := ⟨_, rfl⟩
 have hz : ∀ w, Sem.run Tryz.prog (zeroValue 32) w = .ok (.agg Z) w := fun w => by rw [<- hZ]; exact zex w
 have HBB := hQ_ (show ∀ w, Sem.run Tryz.prog (Instr.build 32 #[(0, .int .i64 a), (2, .agg D)]) w = .ok (.agg cs) w from fun w => by rw [hcs]; exact ep_bk_build w a D hD)
 have hcz : cs.size = 39 := by rw [hcs]; exact za5 a hD
 have hc1 : (cs.all fun v => v.oneCell') = true := by rw [hcs]; exact genV_one h1
 have hZz : Z.size = 39 := by rw [<- hZ]; exact za5 0 (by rw [zD16, zf]; rfl)
 obtain ⟨W1, hW1⟩ : ∃ W1, (w.alloc (.cells D 24)).alloc (.cells Z 32) = W1 := ⟨_, rfl⟩
 have g1 : w.grownBy W1 none := by rw [<- hW1]; exact za (gQ) (gQ)
 have bd : Blk W1 w.heap.size 24 D := by rw [<- hW1]; exact (Blk.new w _ _).alloc _
 have bz : Blk W1 (w.heap.size + 1) 32 Z := by
  have := Blk.new (w.alloc (.cells D 24)) 32 Z
  rw [<- hW1]; simpa using this
 have HX := hQ_ (aQ (zd bd) (aQ bz g1))
 have HS := hQ_ (aQ (show (Tryz.prog.info? 24).map (·.size) = some D.size by rw [hD]; exact sz_Dg) (aQ (show (Tryz.prog.info? 32).map (·.size) = some cs.size by rw [hcz]; exact sz_Bke) (aQ (show Z.size = cs.size by rw [hcz, hZz]) hc1)))
 have HW := hQ_ hW1
 clear hcs hcz hc1 hZz hZ g1 bd bz hW1 hD h1
 go_enter Tryz.func44, Tryz.ntmps44
 go_upto_region 1 with (fail)
 rw [HW.out]
 go_wp2_with (first
  | (refine yg (by rfl) 32 #[(0, Operand.tmp 5), (2, Operand.tmp 6)] rfl _ (by kernel_rfl) (.agg cs) (HBB.out _) ?_)
  | (refine wpList_load_mid rfl 24 _ rfl (w.heap.size) 0 rfl D.toList _ HX.out.1 Tryz.underlying24 rfl (by rw [Array.length_toList]; exact HS.out.1) ?_; rw [Array.toArray_toList])
  | (refine wpList_store_row rfl 32 _ _ rfl (w.heap.size + 1) cs rfl rfl 32 _ HX.out.2.1 (HS.out.2.1) (HS.out.2.2.1) HS.out.2.2.2 ?_))
 refine bodyPost_ret (zay rfl _ _ _ ⟨w.heap.size + 1, 0, none⟩ (.agg cs) rfl (run_loadVar_row _ (w.heap.size + 1) 32 32 _ (0, 0) _ (HX.out.2.1.row _) Tryz.underlying32 rfl HS.out.2.1)) rfl ?_
 exact ⟨rfl, zc HX.out.2.2 (.inl (by omega)) _⟩
theorem vclone_own (w : World) (A : Option Addr) (c n : Nat) (V : List Vd) (hn : V.length = n) (hV : VdsAt w A V) (ok : keysOk V) (h0 : 1 <= n) (hl : n < 1000) :
    Calls Tryz.prog 25 #[.slice A n c] w fun e w' => ∃ (A' : Option Addr) (c' : Nat), e = .returned (.slice A' n c') /\ w'.ownsRow w.heap.size 55 17 (.slice A' n c') n (V.flatMap Vd.cells) /\ w.grownBy w' none := by
 obtain ⟨i0, hi, hz0, hz1, hz2⟩ := info_parts vd_info
 have hq : ∀ (w : World) (a : Option Addr) (n c n' c' : Nat), (binOp .eql 22 (.slice a n c) (.slice none n' c')).run Tryz.prog w = .ok (.bool a.isNone) w := fun w a n c n' c' => Lib.run_eql_slice_nil w _ _ a n c n' c' Tryz.underlying22
 obtain ⟨b, off, rfl, hat⟩ := hV (by rintro rfl; simp at hn; omega)
 obtain ⟨L, hL⟩ : ∃ L, L = V.flatMap Vd.cells := ⟨_, rfl⟩
 have hg := World.grownBy_alloc w (.cells #[] 55) none
 have hcells : ∀ j u, L[j]? = some u -> (w.alloc (.cells #[] 55)).cell? ((⟨b, off, none⟩ : Addr).add j) = some u := fun j u hu => by
  rw [Go.WideShapes.add_plain]
  rw [hL] at hu
  exact hg.cell (flat_cells_at V off ok hat j u hu) (by simp)
 have HC := hQ_ (aQ hcells (aQ (show ∀ u ∈ L, u.oneCell' = true by rw [hL]; exact flat_one) (show L.length = n * 17 by rw [hL, flat_len ok, hn])))
 rw [<- hL]
 clear hcells hL hat hV ok hn
 go_enter Tryz.func25, Tryz.ntmps25
 go_wp2_with (at_builtin; refine wpList_append_own _ rfl _ _ 22 rfl w.heap.size 55 i0 _ 17 24 Tryz.underlying22 hi hz0 hz1 hz2 rfl (by omega) _ _ _ rfl (World.ownsRow_made w #[] 0 (Nat.le_refl _) (Nat.zero_le _) rfl) ⟨b, off, none⟩ n c L rfl HC.out.2.2 HC.out.1 HC.out.2.1 (by simp only [maxLen]; omega) (by omega) (by simp) ?_; intro v' w1 hown hgrow _; obtain ⟨A', cap', rfl⟩ := zch w1 hown)
 rw [Nat.zero_add, List.nil_append] at hown
 have HO := hQ_ (aQ hown hgrow)
 clear hown hgrow
 go_wp2
 go_ret
 exact ⟨A', cap', rfl, HO.out.1, grown_new HO.out.2⟩
theorem range_row_e {w : World} {b q : Nat} {cs : List Value} (h : w.rangeAt b 0 cs) (hne : b ≠ q) (v : Array Value) : (w.setRow q v).rangeAt b 0 cs := fun j u hu => (yb v).cell (h j u hu) hne
theorem ground_is (w : World) (E : Nat -> Addr) (hR : Rounds w) (he : ErrAt w w.heap.size 0 (E 0)) (a : Int) (h0 : 0 <= a) (ha : a < 4294967296) (A : Option Addr) (c n : Nat) (V : List Vd) (hn : V.length = n) (hV : VdsAt w A V) (ok : keysOk V) (h1 : 1 <= n) (hl : n < 1000)
    (p : List Int) (hp : isDig p) (D : Array Value) (hD : D = arrV .u8 p) (dv : Array Value) (hdv : dv = arrV .u8 (idD (genB a p))) :
    Calls Tryz.prog 29 #[.int .i64 a, .slice A n c, .agg D] w fun e w' => w.grownBy w' none /\ ∃ A' c', e = .returned (.agg (grV a (.slice A' n c') dv)) /\ w'.ownsRow w.heap.size 55 17 (.slice A' n c') n (V.flatMap Vd.cells) := by
 obtain ⟨GZ, hGZ⟩ : ∃ Z, zGr = Z := ⟨_, rfl⟩
 have hgz : ∀ w, Sem.run Tryz.prog (zeroValue 26) w = .ok (.agg GZ) w := fun w => by rw [<- hGZ]; exact zew w
 obtain ⟨Z, hZ⟩ : ∃ Z, zD16 = Z := ⟨_, rfl⟩
 have hz : ∀ w, Sem.run Tryz.prog (zeroValue 24) w = .ok (.agg Z) w := fun w => by rw [<- hZ]; exact z16run w
 obtain ⟨cs, hcs⟩ : ∃ cs, genV a D = cs := ⟨_, rfl⟩
 have hD16 : D.size = 16 := by rw [hD, zf, hp.1]
 have hD1 : (D.all fun v => v.oneCell') = true := by rw [hD]; exact zu _ _
 have hd16 : dv.size = 16 := by rw [hdv, zf, z7]
 have hd1 : (dv.all fun v => v.oneCell') = true := by rw [hdv]; exact zu _ _
 have hGs : GZ.size = 18 := by rw [<- hGZ]; exact uy (by rw [zD16, zf]; rfl)
 have hZs : Z.size = 16 := by rw [<- hZ, zD16, zf]; rfl
 obtain ⟨W1, hW1⟩ : ∃ W1, (w.alloc (.cells D 24)).alloc (.cells GZ 26) = W1 := ⟨_, rfl⟩
 have g1 : w.grownBy W1 none := by rw [<- hW1]; exact za (gQ) (gQ)
 have bd : Blk W1 w.heap.size 24 D := by rw [<- hW1]; exact (Blk.new w _ _).alloc _
 have bz : Blk W1 (w.heap.size + 1) 26 GZ := by
  have := Blk.new (w.alloc (.cells D 24)) 26 GZ
  rw [<- hW1]; simpa using this
 have z1 : W1.heap.size = w.heap.size + 2 := by rw [<- hW1]; simp
 have HGE := hQ_ (genesis_is W1 a D hD16 hD1 cs hcs.symm)
 have HID := hQ_ (show ∀ W : World, w.grownBy W none -> Calls Tryz.prog 36 #[.agg cs] W fun e w' => e = .returned (.tuple #[.agg dv, .nilIface]) /\ W.grownBy w' none from fun W hW => by
  have := id_is W (hR.grown hW (by simp)) (E := E) ⟨hW.cell he.1 (by simp), by have := he.2; have := hW.size; omega⟩ (genB a p) (genB_at W a hp) cs (by rw [<- hcs, hD, genV_is]) dv hdv
  rw [(gen_ok hp.1 h0 ha).1] at this
  exact this)
 have HX := hQ_ (aQ (zd bd) (aQ bz (aQ g1 z1)))
 have HS := hQ_ (aQ (show (Tryz.prog.info? 24).map (·.size) = some D.size by rw [hD16]; exact sz_Dg) (aQ (show (Tryz.prog.info? 24).map (·.size) = some dv.size by rw [hd16]; exact sz_Dg) (aQ hd16 (aQ hd1 (aQ hGs (show Z.size = dv.size by rw [hd16, hZs]))))))
 have HV := hQ_ (aQ hn (aQ ok (aQ h1 hl)))
 have HVV := hQ_ hV
 have HW := hQ_ hW1
 clear hcs hD16 hD1 hd16 hd1 hGs hZs hGZ hZ g1 bd bz z1 hW1 hD hdv hn hV ok h1 hl he hR h0 ha
 go_enter Tryz.func29, Tryz.ntmps29
 go_upto_region 1 with (fail)
 rw [HW.out]
 go_wp2_with (refine wpList_load_mid rfl 24 _ rfl (w.heap.size) 0 rfl D.toList _ HX.out.1 Tryz.underlying24 rfl (by rw [Array.length_toList]; exact HS.out.1) ?_; rw [Array.toArray_toList])
 refine HGE.out.mono ?_
 rintro e w2 ⟨rfl, g2⟩
 have H2 := hQ_ (za HX.out.2.2.1 g2)
 have H2b := hQ_ g2
 clear g2
 go_wp2_with fail
 refine (HID.out w2 H2.out).mono ?_
 rintro e w3 ⟨rfl, g3⟩
 obtain ⟨q2, hq2⟩ : ∃ q, w3.heap.size = q := ⟨_, rfl⟩
 have bn : Blk (w3.alloc (.cells Z 24)) q2 24 Z := by rw [<- hq2]; exact Blk.new w3 24 Z
 obtain ⟨W4, hW4⟩ : ∃ W4, (w3.alloc (.cells Z 24)).setRow q2 dv = W4 := ⟨_, rfl⟩
 have g4 : w3.grownBy W4 none := by rw [<- hW4]; exact zc (gQ) (.inl (by rw [hq2]; exact Nat.le_refl _)) _
 have b4 : Blk W4 q2 24 dv := by rw [<- hW4]; exact bn.row _
 have g34 := za (za H2b.out g3) g4
 have H4 := hQ_ (aQ (show W4.drew.rangeAt q2 0 dv.toList from zd b4) (aQ (HVV.out.grown (zh (za HX.out.2.2.1 g34))) (aQ (HX.out.2.1.grown (zh g34) (by simp)) (aQ (zh (za HX.out.2.2.1 g34)) (show q2 ≠ w.heap.size + 1 by have := (za H2b.out g3).size; have := HX.out.2.2.2; omega)))))
 have HQ := hQ_ (aQ hq2 (aQ hW4 bn))
 clear g3 g4 b4 g34 hW4 bn
 go_upto_region 2 with (refine wpList_store_row rfl 24 _ _ rfl (q2) dv rfl rfl 24 _ HQ.out.2.2 (HS.out.2.1) (HS.out.2.2.2.2.2) HS.out.2.2.2.1 ?_)
 rw [HQ.out.2.1]
 clear hq2
 refine wp_region_held_drew (S := fun V => V.rangeAt q2 0 dv.toList) (by kernel_rfl) H4.out.1 (fun hHeld => ?_)
 refine wpAnyH_take (i := 0) (oi := _) (v := ?vg0) rfl (by kernel_rfl) (by kernel_rfl) (by kernel_rfl) (fun _ _ _ h => h) (Or.inl ⟨by rfl, ?hyg0⟩) (by assumption) ?restg0
 case hyg0 => (intro V hSw; (try dsimp only at hSw); go_simp) <;> with_reducible rfl
 try simp only [Act.put, List.getElem_toArray, List.getElem_cons_succ, List.getElem_cons_zero, List.setIfInBounds_toArray, List.set_cons_zero, List.set_cons_succ]
 refine wpAnyH_take (i := 1) (oi := _) (v := ?vg1) rfl (by kernel_rfl) (by kernel_rfl) (by kernel_rfl) (fun _ _ _ h => h) (Or.inl ⟨by rfl, ?hyg1⟩) (by assumption) ?restg1
 case hyg1 => (intro V hSw; (try dsimp only at hSw); go_simp) <;> with_reducible rfl
 try simp only [Act.put, List.getElem_toArray, List.getElem_cons_succ, List.getElem_cons_zero, List.setIfInBounds_toArray, List.set_cons_zero, List.set_cons_succ]
 refine wpAnyH_take (i := 3) (oi := _) (v := .agg dv) rfl (by kernel_rfl) (by kernel_rfl) (by kernel_rfl) (fun _ _ _ h => h) (yieldsIf_load_mid (by rfl) _ _ rfl q2 0 rfl dv.toList _ (fun V hSw => hSw) Tryz.underlying24 rfl (by rw [Array.length_toList]; exact HS.out.2.1)) (by assumption) ?restg3
 try simp only [Act.put, List.getElem_toArray, List.getElem_cons_succ, List.getElem_cons_zero, List.setIfInBounds_toArray, List.set_cons_zero, List.set_cons_succ]
 refine wpAnyH_ready (rs := [2]) (by kernel_rfl) (by simp) ?_
 refine (AllReadyH.cons (o := _) rfl (fun K9 hK => ?_) AllReadyH.nil)
 go_simp
 refine (vclone_own W4.drew A c n V HV.out.1 H4.out.2.1 HV.out.2.1 HV.out.2.2.1 HV.out.2.2.2).mono ?_
 rintro e w5 ⟨A', c', rfl, hown, g5⟩
 obtain ⟨gv, hgv⟩ : ∃ gv, grV a (.slice A' n c') dv = gv := ⟨_, rfl⟩
 have HGB := hQ_ (show ∀ w, Sem.run Tryz.prog (Instr.build 26 #[(0, .int .i64 a), (1, .slice A' n c'), (2, .agg dv)]) w = .ok (.agg gv) w from fun w => by rw [<- hgv]; exact ep_gr_build w a A' n c' dv HS.out.2.2.1)
 have H5 := hQ_ (aQ hown (aQ g5 (aQ (Blk.grown (show Blk W4.drew (w.heap.size + 1) 26 GZ from H4.out.2.2.1) g5 (by simp)) hgv)))
 have HG5 := hQ_ (aQ (show gv.size = 18 by rw [<- hgv]; exact uy HS.out.2.2.1) (show (gv.all fun v => v.oneCell') = true by rw [<- hgv]; exact zdt HS.out.2.2.2.1))
 clear hown g5 hgv
 (try go_wp2_with fail)
 refine hK.out _ _ (ze H4.out.1 H5.out.2.1) (fun hHeld => ?_)
 clear hK K9
 try simp only [Act.put, List.getElem_toArray, List.getElem_cons_succ, List.getElem_cons_zero, List.setIfInBounds_toArray, List.set_cons_zero, List.set_cons_succ]
 refine wpAnyH_take (i := 4) (oi := _) (v := .agg gv) rfl (by kernel_rfl) (by kernel_rfl) (by kernel_rfl) (fun _ _ _ h => h) (yieldsIf_build (by rfl) 26 #[(0, Operand.tmp 16), (1, Operand.tmp 18), (2, Operand.tmp 19)] rfl _ (by kernel_rfl) (.agg gv) HGB.out) (by assumption) ?restg4
 try simp only [Act.put, List.getElem_toArray, List.getElem_cons_succ, List.getElem_cons_zero, List.setIfInBounds_toArray, List.set_cons_zero, List.set_cons_succ]
 refine wpAnyH_ready (rs := [5]) (by kernel_rfl) (by simp) ?_
 refine (AllReadyH.cons (o := _) rfl (fun K9 hK => ?_) AllReadyH.nil)
 refine zk (by rfl) 26 _ _ rfl (w.heap.size + 1) 0 gv rfl rfl (zw H5.out.2.2.1 (by rw [HG5.out.1, HS.out.2.2.2.2.1]; exact Nat.le_refl _)) (by rw [HG5.out.1]; exact sz_Gre) HG5.out.2 ?_
 rw [zi (P := Tryz.prog) (ty := 26) H5.out.2.2.1 (by rw [HG5.out.1]; exact sz_Gre) (by rw [HG5.out.1, HS.out.2.2.2.2.1]) HG5.out.2]
 refine hK.out _ _ (range_row_e (ze H4.out.1 H5.out.2.1) H4.out.2.2.2.2 gv) (fun hHeld => ?_)
 clear hK K9
 try simp only [Act.put, List.getElem_toArray, List.getElem_cons_succ, List.getElem_cons_zero, List.setIfInBounds_toArray, List.set_cons_zero, List.set_cons_succ]
 refine wpAnyH_done (by kernel_rfl) ?_ _
 go_wp2_with fail
 refine bodyPost_ret (zay rfl _ _ _ ⟨w.heap.size + 1, 0, none⟩ (.agg gv) rfl (run_loadVar_row _ (w.heap.size + 1) 26 26 _ (0, 0) _ (H5.out.2.2.1.row _) Tryz.underlying26 rfl (by rw [HG5.out.1]; exact sz_Gre))) rfl ?_
 refine ⟨zc (za H4.out.2.2.2.1 H5.out.2.1) (.inl (by omega)) _, A', c', by rw [H5.out.2.2.2], zee (H5.out.1.mono (base' := w.heap.size) H4.out.2.2.2.1.size) (yb gv) fun k hk hkq => ?_⟩
 have h9 := (H5.out.1.lt k hk).1
 have h10 := H4.out.2.2.1.lt
 have h11 : W4.drew.heap.size = W4.heap.size := rfl
 omega
end
section
def GrOut (w w' : World) (a : Int) (n : Nat) (V : List Vd) (p : List Int) (e : Ending) : Prop :=
 ∃ A' c', e = .returned (.tuple #[.agg (grV a (.slice A' n c') (arrV .u8 (idD (genB a p)))), .nilIface]) /\ w'.ownsRow w.heap.size 55 17 (.slice A' n c') n (V.flatMap Vd.cells)
def GrNo (e : Ending) (er : Addr) : Prop := e = .returned (.tuple #[.agg zGr, errV er])
theorem zD_dig : isDig (List.replicate 16 0) := zcc
theorem first_is (w : World) (E : Nat -> Addr) (hR : Rounds w) (he : ErrAt w w.heap.size 0 (E 0)) (es : Addr) (hes : ErrAt w w.heap.size 10 es) (A : Option Addr) (c n : Nat) (V : List Vd) (hn : V.length = n) (hV : VdsAt w A V) (ok : keysOk V) (hl : n < 1000) :
    Calls Tryz.prog 13 #[.slice A n c] w fun e w' => w.grownBy w' none /\ ((rightS V = true /\ GrOut w w' 1 n V (List.replicate 16 0) e) \/ (rightS V = false /\ GrNo e es)) := by
 obtain ⟨GZ, hGZ⟩ : ∃ Z, zGr = Z := ⟨_, rfl⟩
 have hgz : ∀ w, Sem.run Tryz.prog (zeroValue 26) w = .ok (.agg GZ) w := fun w => by rw [<- hGZ]; exact zew w
 have hgb : ∀ w, Sem.run Tryz.prog (Instr.build 26 #[]) w = .ok (.agg GZ) w := fun w => by rw [<- hGZ]; exact zgr_build w
 obtain ⟨D, hD⟩ : ∃ Z, zD16 = Z := ⟨_, rfl⟩
 have HL := hQ_ (show Value.agg #[.int .u8 0, .int .u8 0, .int .u8 0, .int .u8 0, .int .u8 0, .int .u8 0, .int .u8 0, .int .u8 0, .int .u8 0, .int .u8 0, .int .u8 0, .int .u8 0, .int .u8 0, .int .u8 0, .int .u8 0, .int .u8 0] = Value.agg D by rw [<- hD]; kernel_rfl)
 obtain ⟨dv, hdv⟩ : ∃ dv, arrV .u8 (idD (genB 1 (List.replicate 16 0))) = dv := ⟨_, rfl⟩
 have hd16 : dv.size = 16 := by rw [<- hdv, zf, z7]
 have hd1 : (dv.all fun v => v.oneCell') = true := by rw [<- hdv]; exact zu _ _
 have hGs : GZ.size = 18 := by rw [<- hGZ]; exact uy (by rw [zD16, zf]; rfl)
 have hG1 : (GZ.all fun v => v.oneCell') = true := by rw [<- hGZ]; exact zdt (zu _ _)
 obtain ⟨W1, hW1⟩ : ∃ W1, w.alloc (.cells GZ 26) = W1 := ⟨_, rfl⟩
 have g1 : w.grownBy W1 none := by rw [<- hW1]; exact gQ
 have bz : Blk W1 w.heap.size 26 GZ := by rw [<- hW1]; exact Blk.new w _ _
 have hck := u6 W1 A c W1.heap.size V es (hV.grown g1) ok (by omega) ⟨g1.cell hes.1 (by simp), by have := hes.2; have := g1.size; omega⟩
 rw [hn] at hck
 have HC := hQ_ hck
 have HGD := hQ_ (fun (W : World) (hW : w.grownBy W none) (h1 : 1 <= n) => ground_is W E (hR.grown hW (by simp)) ⟨hW.cell he.1 (by simp), by have := he.2; have := hW.size; omega⟩ 1 (by omega) (by omega) A c n V hn (hV.grown hW) ok h1 hl (List.replicate 16 0) zD_dig D hD.symm dv hdv.symm)
 have HR := hQ_ (show rightS V = true -> 1 <= n from fun h => by have := (ud V).1 h; omega)
 have HX := hQ_ (aQ g1 bz)
 have HS := hQ_ (aQ (show (Tryz.prog.info? 26).map (·.size) = some GZ.size by rw [hGs]; exact sz_Gre) (aQ hG1 (aQ hGs (aQ hd16 (aQ hd1 (aQ hdv hGZ))))))
 have HW := hQ_ hW1
 clear hck hGZ hD hdv hd16 hd1 hGs hG1 g1 bz hW1 hV ok hl he hes hR hn
 go_enter Tryz.func13, Tryz.ntmps13
 go_upto_region 1 with (fail)
 rw [HW.out]
 go_wp2_with fail
 refine HC.out.mono ?_
 rintro e w2 ⟨g2, ⟨hr, rfl⟩ | ⟨hr, rfl⟩⟩
 · have H2 := hQ_ (aQ (za HX.out.1 g2) (aQ (HX.out.2.grown g2 (by simp)) hr))
   clear g2 hr
   go_wp2_with fail
   rw [HL.out]
   refine (HGD.out w2 H2.out.1 (HR.out H2.out.2.2)).mono ?_
   rintro e w3 ⟨g3, A', c', rfl, hown⟩
   obtain ⟨gv, hgv⟩ : ∃ gv, grV 1 (.slice A' n c') dv = gv := ⟨_, rfl⟩
   rw [hgv]
   have hgs : gv.size = 18 := by rw [<- hgv]; exact uy HS.out.2.2.2.1
   have H3 := hQ_ (aQ (za H2.out.1 g3) (aQ (H2.out.2.1.grown g3 (by simp)) (aQ hown (aQ hgv (aQ (show (Tryz.prog.info? 26).map (·.size) = some gv.size by rw [hgs]; exact sz_Gre) (aQ (show GZ.size = gv.size by rw [hgs, HS.out.2.2.1]) (show (gv.all fun v => v.oneCell') = true by rw [<- hgv]; exact zdt HS.out.2.2.2.2.1)))))))
   clear g3 hown hgv hgs
   go_wp2_with (refine wpList_store_row rfl 26 _ _ rfl (w.heap.size) gv rfl rfl 26 _ H3.out.2.1 (H3.out.2.2.2.2.1) (H3.out.2.2.2.2.2.1) H3.out.2.2.2.2.2.2 ?_)
   refine bodyPost_ret (zr rfl _ _ _ ⟨w.heap.size, 0, none⟩ (.agg gv) rfl (run_loadVar_row _ (w.heap.size) 26 26 _ (0, 0) _ (H3.out.2.1.row _) Tryz.underlying26 rfl H3.out.2.2.2.2.1)) rfl ?_
   refine ⟨zc H3.out.1 (.inl (Nat.le_refl _)) _, .inl ⟨H2.out.2.2, A', c', by rw [HS.out.2.2.2.2.2.1, H3.out.2.2.2.1]; rfl, zee (H3.out.2.2.1.mono (base' := w.heap.size) H2.out.1.size) (yb gv) fun k hk hkq => ?_⟩⟩
   have h9 := (H3.out.2.2.1.lt k hk).1
   have h10 := H2.out.2.1.lt
   omega
 · have H2 := hQ_ (aQ (za HX.out.1 g2) (aQ (HX.out.2.grown g2 (by simp)) hr))
   clear g2 hr
   go_wp2_with (refine wpList_store_row rfl 26 _ _ rfl (w.heap.size) GZ rfl rfl 26 _ H2.out.2.1 (HS.out.1) (rfl) HS.out.2.1 ?_)
   refine bodyPost_ret (zr rfl _ _ _ ⟨w.heap.size, 0, none⟩ (.agg GZ) rfl (run_loadVar_row _ (w.heap.size) 26 26 _ (0, 0) _ (H2.out.2.1.row _) Tryz.underlying26 rfl HS.out.1)) rfl ?_
   exact ⟨zc H2.out.1 (.inl (Nat.le_refl _)) _, .inr ⟨H2.out.2.2, by rw [GrNo, HS.out.2.2.2.2.2.2]; rfl⟩⟩
end
section
def v1e : List Vd := [⟨key4 1, 1⟩]
theorem v1e_ok : keysOk v1e := by intro x hx; simp [v1e] at hx; rcases hx with rfl; rfl
theorem v1e_right : rightS v1e = true := by kernel_rfl
theorem v1e_row (w : World) : Sem.run Tryz.prog (Instr.buildSlice 22 1 #[(0, .agg (Vd.cells ⟨key4 1, 1⟩).toArray)]) w = .ok (.slice (some ⟨w.heap.size, 0, none⟩) 1 1) (w.alloc (.cells (v1e.flatMap Vd.cells).toArray 55)) := by kernel_rfl
theorem zej {w : World} {b : Nat} {e : Int} {vs : Value} {G : Array Value} (hG : G.size = 16) {t : TypeId} (h : Blk w b t (grV e vs G)) : w.cell? ⟨b, 0, none⟩ = some (.int .i64 e) /\ w.cell? ⟨b, 1, none⟩ = some vs /\ w.rangeAt b 2 G.toList := by
 have r := zd h
 have e1 : (grV e vs G).toList = [.int .i64 e, vs] ++ (G.toList ++ []) := by simp [grV]
 rw [e1] at r
 refine ⟨by have := r 0 (.int .i64 e) rfl; simpa using this, by have := r 1 vs rfl; simpa using this, ?_⟩
 have := zx r
 simpa using this
theorem rgenesis_is (w : World) (a : Int) (D : Array Value) (hD : D.size = 16) (h1 : (D.all fun v => v.oneCell') = true) (cs : Array Value) (hcs : cs = genV a D) :
    Calls Tryz.prog 15 #[.int .i64 a, .agg D] w fun e w' => e = .returned (.agg cs) /\ w.grownBy w' none := by
 obtain ⟨Z, hZ⟩ : ∃ Z, zBk = Z := ⟨_, rfl⟩
 have hz : ∀ w, Sem.run Tryz.prog (zeroValue 32) w = .ok (.agg Z) w := fun w => by rw [<- hZ]; exact zex w
 have HBB := hQ_ (show ∀ w, Sem.run Tryz.prog (Instr.build 32 #[(0, .int .i64 a), (2, .agg D)]) w = .ok (.agg cs) w from fun w => by rw [hcs]; exact ep_bk_build w a D hD)
 have hcz : cs.size = 39 := by rw [hcs]; exact za5 a hD
 have hc1 : (cs.all fun v => v.oneCell') = true := by rw [hcs]; exact genV_one h1
 have hZz : Z.size = 39 := by rw [<- hZ]; exact za5 0 (by rw [zD16, zf]; rfl)
 obtain ⟨W1, hW1⟩ : ∃ W1, (w.alloc (.cells D 24)).alloc (.cells Z 32) = W1 := ⟨_, rfl⟩
 have g1 : w.grownBy W1 none := by rw [<- hW1]; exact za (gQ) (gQ)
 have bd : Blk W1 w.heap.size 24 D := by rw [<- hW1]; exact (Blk.new w _ _).alloc _
 have bz : Blk W1 (w.heap.size + 1) 32 Z := by
  have := Blk.new (w.alloc (.cells D 24)) 32 Z
  rw [<- hW1]; simpa using this
 have HX := hQ_ (aQ (zd bd) (aQ bz g1))
 have HS := hQ_ (aQ (show (Tryz.prog.info? 24).map (·.size) = some D.size by rw [hD]; exact sz_Dg) (aQ (show (Tryz.prog.info? 32).map (·.size) = some cs.size by rw [hcz]; exact sz_Bke) (aQ (show Z.size = cs.size by rw [hcz, hZz]) hc1)))
 have HW := hQ_ hW1
 clear hcs hcz hc1 hZz hZ g1 bd bz hW1 hD h1
 go_enter Tryz.func15, Tryz.ntmps15
 go_upto_region 1 with (fail)
 rw [HW.out]
 go_wp2_with (first
  | (refine yg (by rfl) 32 #[(0, Operand.tmp 5), (2, Operand.tmp 6)] rfl _ (by kernel_rfl) (.agg cs) (HBB.out _) ?_)
  | (refine wpList_load_mid rfl 24 _ rfl (w.heap.size) 0 rfl D.toList _ HX.out.1 Tryz.underlying24 rfl (by rw [Array.length_toList]; exact HS.out.1) ?_; rw [Array.toArray_toList])
  | (refine wpList_store_row rfl 32 _ _ rfl (w.heap.size + 1) cs rfl rfl 32 _ HX.out.2.1 (HS.out.2.1) (HS.out.2.2.1) HS.out.2.2.2 ?_))
 refine bodyPost_ret (zay rfl _ _ _ ⟨w.heap.size + 1, 0, none⟩ (.agg cs) rfl (run_loadVar_row _ (w.heap.size + 1) 32 32 _ (0, 0) _ (HX.out.2.1.row _) Tryz.underlying32 rfl HS.out.2.1)) rfl ?_
 exact ⟨rfl, zc HX.out.2.2 (.inl (by omega)) _⟩
theorem alive20 (w : World) (E : Nat -> Addr) (hR : Rounds w) (he : ErrAt w w.heap.size 0 (E 0)) (es : Addr) (hes : ErrAt w w.heap.size 10 es) :
    Calls Tryz.prog 5 #[] w fun e w' => e = .returned (.bool true) /\ w.grownBy w' none := by
 obtain ⟨GZ, hGZ⟩ : ∃ Z, zGr = Z := ⟨_, rfl⟩
 have hgz : ∀ w, Sem.run Tryz.prog (zeroValue 26) w = .ok (.agg GZ) w := fun w => by rw [<- hGZ]; exact zew w
 obtain ⟨D, hD⟩ : ∃ Z, zD16 = Z := ⟨_, rfl⟩
 have hz : ∀ w, Sem.run Tryz.prog (zeroValue 24) w = .ok (.agg D) w := fun w => by rw [<- hD]; exact z16run w
 have hD16 : D.size = 16 := by rw [<- hD, zD16, zf]; rfl
 have hD1 : (D.all fun v => v.oneCell') = true := by rw [<- hD]; exact zu _ _
 obtain ⟨dv, hdv⟩ : ∃ dv, arrV .u8 (idD (genB 1 (List.replicate 16 0))) = dv := ⟨_, rfl⟩
 have hd16 : dv.size = 16 := by rw [<- hdv, zf, z7]
 have hd1 : (dv.all fun v => v.oneCell') = true := by rw [<- hdv]; exact zu _ _
 have heq : ∀ V, Sem.run Tryz.prog (Op.equalIn 10000 24 (.agg dv) (.agg dv)) V = .ok true V := fun V => by
  rw [<- hdv, eqD V _ _ (z7 _) (z7 _)]; simp
 have hGs : GZ.size = 18 := by rw [<- hGZ]; exact uy (by rw [zD16, zf]; rfl)
 obtain ⟨cs, hcs⟩ : ∃ cs, genV 1 D = cs := ⟨_, rfl⟩
 obtain ⟨X1, hX1⟩ : ∃ X, X = arrV .u8 (key4 1) := ⟨_, rfl⟩
 obtain ⟨Y1, hY1⟩ : ∃ Y, Y = (Vd.cells ⟨key4 1, 1⟩).toArray := ⟨_, rfl⟩
 obtain ⟨p, hp⟩ : ∃ p, w.heap.size = p := ⟨_, rfl⟩
 obtain ⟨W1, hW1⟩ : ∃ W1, w.alloc (.cells (v1e.flatMap Vd.cells).toArray 55) = W1 := ⟨_, rfl⟩
 have HB1 := hQ_ (show ∀ w, Sem.run Tryz.prog (Instr.build 24 #[(0, .int .u8 1)]) w = .ok (.agg X1) w from fun w => by rw [hX1]; exact key_run w 1)
 have HBV := hQ_ (show ∀ w, Sem.run Tryz.prog (Instr.build 55 #[(0, .agg X1), (1, .int .i64 1)]) w = .ok (.agg Y1) w from fun w => by rw [hX1, hY1]; exact vd_run w 1 1)
 have HBR := hQ_ (show Sem.run Tryz.prog (Instr.buildSlice 22 1 #[(0, .agg Y1)]) w = .ok (.slice (some ⟨p, 0, none⟩) 1 1) W1 by rw [hY1, <- hW1, <- hp]; exact v1e_row w)
 have g1 : w.grownBy W1 none := by rw [<- hW1]; exact gQ
 have hV1 : VdsAt W1 (some ⟨p, 0, none⟩) v1e := by rw [<- hW1, <- hp]; exact vds_new w v1e v1e_ok _
 have HF := hQ_ (first_is W1 E (hR.grown g1 (by simp)) ⟨g1.cell he.1 (by simp), by have := he.2; have := g1.size; omega⟩ es ⟨g1.cell hes.1 (by simp), by have := hes.2; have := g1.size; omega⟩ (some ⟨p, 0, none⟩) 1 1 v1e rfl hV1 v1e_ok (by omega))
 have HRG := hQ_ (fun W : World => rgenesis_is W 1 D hD16 hD1 cs hcs.symm)
 have HRI := hQ_ (fun W : World => rid_gen W 1 (by omega) (by omega) (List.replicate 16 0) zD_dig cs (by rw [<- hcs, <- hD]; rfl) dv hdv.symm)
 have HX := hQ_ g1
 have HS := hQ_ (aQ (show (Tryz.prog.info? 24).map (·.size) = some dv.size by rw [hd16]; exact sz_Dg) (aQ (show D.size = dv.size by rw [hd16, hD16]) (aQ hd1 (aQ hd16 (aQ hdv hGs)))))
 clear he hes hR hGZ hD hD16 hD1 hd16 hd1 hdv hGs hcs hX1 hY1 hW1 hV1 g1 hp
 go_enter Tryz.func5, Tryz.ntmps5
 go_wp2_with (first
  | (refine yg (by rfl) 24 #[(0, Operand.const (Value.int .u8 1))] rfl _ (by kernel_rfl) (.agg X1) (HB1.out _) ?_)
  | (refine yg (by rfl) 55 #[(0, Operand.tmp 6), (1, Operand.const (Value.int .i64 1))] rfl _ (by kernel_rfl) (.agg Y1) (HBV.out _) ?_)
  | (refine wpList_row_at (by rfl) 22 1 #[(0, Operand.tmp 7)] rfl _ (by kernel_rfl) _ _ HBR.out ?_))
 refine HF.out.mono ?_
 rintro e w2 ⟨g2, ⟨_, A', c', rfl, hown⟩ | ⟨hr, _⟩⟩
 · obtain ⟨gv, hgv⟩ : ∃ gv, grV 1 (.slice A' 1 c') dv = gv := ⟨_, rfl⟩
   rw [HS.out.2.2.2.2.1, hgv]
   have hgs : gv.size = 18 := by rw [<- hgv]; exact uy HS.out.2.2.2.1
   obtain ⟨q, hq⟩ : ∃ q, w2.heap.size = q := ⟨_, rfl⟩
   obtain ⟨W3, hW3⟩ : ∃ W3, (w2.alloc (.cells GZ 26)).setRow q gv = W3 := ⟨_, rfl⟩
   have bn : Blk (w2.alloc (.cells GZ 26)) q 26 GZ := by rw [<- hq]; exact Blk.new w2 26 GZ
   have b3 : Blk W3 q 26 gv := by rw [<- hW3]; exact bn.row _
   have g3 : w2.grownBy W3 none := by rw [<- hW3]; exact zc (gQ) (.inl (by rw [hq]; exact Nat.le_refl _)) _
   have H3 := hQ_ (aQ bn (aQ hW3 (aQ b3 (aQ (za HX.out (za g2 g3)) (aQ hgv (aQ (show (Tryz.prog.info? 26).map (·.size) = some gv.size by rw [hgs]; exact sz_Gre) (aQ (show GZ.size = gv.size by rw [hgs, HS.out.2.2.2.2.2]) (show (gv.all fun v => v.oneCell') = true by rw [<- hgv]; exact zdt HS.out.2.2.1))))))))
   clear bn hW3 b3 g3 g2 hgv hgs hown
   go_upto_region 2 with (refine wpList_store_row rfl 26 _ _ rfl (q) gv rfl rfl 26 _ H3.out.1 (H3.out.2.2.2.2.2.1) (H3.out.2.2.2.2.2.2.1) H3.out.2.2.2.2.2.2.2 ?_)
   rw [H3.out.2.1]
   clear hq
   go_wp2_with fail
   refine (HRG.out W3).mono ?_
   rintro e w4 ⟨rfl, g4⟩
   have H4 := hQ_ g4
   clear g4
   go_wp2_with fail
   refine (HRI.out w4).mono ?_
   rintro e w5 ⟨rfl, g5⟩
   obtain ⟨q5, hq5⟩ : ∃ q, w5.heap.size = q := ⟨_, rfl⟩
   obtain ⟨W6, hW6⟩ : ∃ W6, (w5.alloc (.cells D 24)).setRow q5 dv = W6 := ⟨_, rfl⟩
   have bn : Blk (w5.alloc (.cells D 24)) q5 24 D := by rw [<- hq5]; exact Blk.new w5 24 D
   have b6 : Blk W6 q5 24 dv := by rw [<- hW6]; exact bn.row _
   have g6 : w5.grownBy W6 none := by rw [<- hW6]; exact zc (gQ) (.inl (by rw [hq5]; exact Nat.le_refl _)) _
   have g36 := za H4.out (za g5 g6)
   have bg : Blk W6 q 26 (grV 1 (.slice A' 1 c') dv) := by rw [H3.out.2.2.2.2.1]; exact H3.out.2.2.1.grown g36 (by simp)
   obtain ⟨k0, k1, k2⟩ := zej HS.out.2.2.2.1 bg
   have H6 := hQ_ (aQ bn (aQ hW6 (aQ k2 (aQ (zd b6) (za H3.out.2.2.2.1 g36)))))
   clear bn hW6 b6 g6 g36 g5 bg k2
   go_upto_region 3 with (refine wpList_store_row rfl 24 _ _ rfl (q5) dv rfl rfl 24 _ H6.out.1 (HS.out.1) (HS.out.2.1) HS.out.2.2.1 ?_)
   rw [H6.out.2.1]
   clear hq5
   go_wp2_with (first
    | (refine uf (by rfl) 24 _ rfl (q) 2 rfl dv.toList _ H6.out.2.2.1 Tryz.underlying24 rfl (by rw [Array.length_toList]; exact HS.out.1) ?_; rw [Array.toArray_toList])
    | (refine uf (by rfl) 24 _ rfl (q5) 0 rfl dv.toList _ H6.out.2.2.2.1 Tryz.underlying24 rfl (by rw [Array.length_toList]; exact HS.out.1) ?_; rw [Array.toArray_toList]))
   go_ret
   exact ⟨rfl, H6.out.2.2.2.2⟩
 · rw [v1e_right] at hr
   exact absurd hr (by simp)
end
end Go.Proofs.YtigafnbofmiknaaGreatDoor
