/-
  Several texts in one: EpS, EpT, EpU, Pf1.
-/
import Derived.Test.YtmoebkdbnldbdaaGreatDoorEpQ
import Derived.Test.YtmoebkdbnldbdaaGreatDoorNum
import Derived.Test.YtmoebkdbnldbdaaGreatDoorM20po
import Derived.Test.YtmoebkdbnldbdaaGreatDoorM20pu
import Derived.Test.YtmoebkdbnldbdaaGreatDoorM20pr
import Derived.Deep.DeepCutAuto
/-
  epochs.Check: a Change, asked of a ground.
-/
namespace Go.Proofs.YtmoebkdbnldbdaaGreatDoor
open Go.RowKit

attribute [local go_sem] Oper.semAt_some

/-- The error's number of a Change. -/
def chkN (qf : Qc → Nat) (e : Int) (V : List Vd) (x y z : Bk) (q : Qc) : Nat :=
  if rightS V = false then 11 else if x.e ≠ e then 18 else if y.e ≠ e then 18 else if z.e ≠ e then 18
  else if rowN x y z ≠ 0 then rowN x y z else if certN qf x y z q ≠ 0 then certN qf x y z q else if rightS x.V = false then 11 else 0
theorem rowN_first {x y z : Bk} (h : rowN x y z = 0) : (bkS x).1 = 0 := by
  by_cases h1 : (bkS x).1 = 0
  · exact h1
  · unfold rowN at h
    rw [if_pos h1] at h
    exact absurd h (by decide)
theorem sFail_bad (s : WSt) : (sFail 1 s).1 ≠ 0 := by
  unfold sFail
  split
  · exact Nat.one_ne_zero
  · assumption
theorem sPut_bad {n : Nat} {most : Int} {f : WSt → WSt} {s : WSt} (h : most < (n : Int)) : (sPut n most f s).1 ≠ 0 := by
  unfold sPut
  rw [if_pos (Or.inl h)]
  exact sFail_bad s
theorem bkS_few {x : Bk} (h : (bkS x).1 = 0) : x.V.length ≤ 7 := by
  by_cases h7 : x.V.length ≤ 7
  · exact h7
  · exact absurd h (sPut_bad (n := x.V.length) (most := 7) (by omega))
theorem zb3_run : ∃ Z : Array Value, Z.size = 48 ∧ ∀ w : World, Sem.run Tryz.prog (zeroValue 83) w = .ok (.agg Z) w := ⟨arrV .u8 z48, rfl, z48run⟩
theorem env_grown {w W : World} {E : Nat → Addr} (he : ErrEnv w w.heap.size E) (hW : w.grownBy W none) : ErrEnv W W.heap.size E :=
  ⟨fun i hi => ⟨hW.cell (he.var i hi).1 (by simp), by have := (he.var i hi).2; have := hW.size; omega⟩, fun i hi => ⟨by have := ((he.row i hi).1); have := hW.size; omega, by
    obtain ⟨c, t, hc⟩ := (he.row i hi).2
    exact ⟨c, t, (hW.block _ (Array.getElem?_eq_some_iff.1 hc).1 (by simp)).trans hc⟩⟩, he.inj⟩
set_option maxRecDepth 100000 in
set_option maxHeartbeats 2000000 in
theorem chk_is (w : World) (E : Nat → Addr) (hR : Rounds w) (he : ErrEnv w w.heap.size E) (e : Int) (A : Option Addr) (c n : Nat) (V : List Vd) (hn : V.length = n) (hV : VdsAt w A V) (ok : keysOk V) (hl : n < 1000) (G : Array Value) (hGs : G.size = 16) (gv : Array Value) (hgv : gv = grV e (.slice A n c) G) (qf : Qc → Nat)
    (PQ : Qc → Prop) (HQC : ∀ (W : World), w.grownBy W none → ∀ (p : Qc), PQ p → p.At W → ∀ pv : Array Value, pv = p.val → Calls Tryz.prog 43 #[.agg gv, .agg pv] W fun e w' => e = .returned (evOf E (qf p)) ∧ W.grownBy w' none)
    (x y z : Bk) (q : Qc) (hPQ : PQ y.q ∧ PQ z.q ∧ PQ q) (hx : x.At w) (hy : y.At w) (hzz : z.At w) (hq : q.At w) (cv : Array Value) (hcv : cgV x y z q = cv) :
    Calls Tryz.prog 19 #[.agg gv, .agg cv] w fun e' w' => e' = .returned (evOf E (chkN qf e V x y z q)) ∧ w.grownBy w' none := by
  obtain ⟨ZB, hZBs, hzb⟩ := zb_run
  obtain ⟨Z3, hZ3s, hz3⟩ := zb3_run
  have sx := bk_sizeE hx
  have sy := bk_sizeE hy
  have szz := bk_sizeE hzz
  have ox := bk_oneE hx
  have oy := bk_oneE hy
  have oz := bk_oneE hzz
  obtain ⟨W1, hW1⟩ : ∃ W1, (w.alloc (.cells gv 26)).alloc (.cells cv 54) = W1 := ⟨_, rfl⟩
  have g1 : w.grownBy W1 none := by rw [← hW1]; exact grown_trans (World.grownBy_alloc _ _ none) (World.grownBy_alloc _ _ none)
  have bg : Blk W1 w.heap.size 26 gv := by rw [← hW1]; exact (Blk.new w _ _).alloc _
  have bc : Blk W1 (w.heap.size + 1) 54 (cgV x y z q) := by
    have := Blk.new (w.alloc (.cells gv 26)) 54 cv
    rw [hcv, ← hW1]; simpa using this
  obtain ⟨kg0, kg1, _⟩ := gr_cells hGs (hgv ▸ bg)
  obtain ⟨rx, ry, rz, rq⟩ := cg_parts sx sy szz bc
  obtain ⟨ce0, _⟩ := bk_turn rx
  have hrv : W1.rangeAt (w.heap.size + 1) 0 (x.val ++ (y.val ++ z.val)).toList := by
    have r := range_blk0 bc
    have e1 : (cgV x y z q).toList = [] ++ ((x.val ++ (y.val ++ z.val)).toList ++ q.val.toList) := by simp [cgV]
    rw [e1] at r
    have := range_seg r
    simpa using this
  have cV : W1.cell? ⟨w.heap.size + 1, 38, none⟩ = some (.slice x.A2 x.V.length x.c2) := by
    have e1 : x.val.toList[38]? = some (.slice x.A2 x.V.length x.c2) := by
      have hp : (arrV .u8 x.P).toList.length = 16 := by simp [arrV, hx.1.1]
      have hq2 : x.q.val.toList.length = 19 := by rw [Array.length_toList]; exact qc_sizeQ hx.2.1
      have e2 : x.val.toList = ([.int .i64 x.e, .int .i64 x.r] ++ ((arrV .u8 x.P).toList ++ (x.q.val.toList ++ [.slice x.A x.T.length x.c]))) ++ [.slice x.A2 x.V.length x.c2] := by simp [Bk.val]
      rw [e2, List.getElem?_append_right (by simp only [List.length_append, hp, hq2, List.length_cons, List.length_nil]; omega)]
      simp only [List.length_append, hp, hq2, List.length_cons, List.length_nil]
      rfl
    have := rx 38 _ e1
    simpa using this
  obtain ⟨xv, hxv⟩ : ∃ v, x.val = v := ⟨_, rfl⟩
  obtain ⟨yv, hyv⟩ : ∃ v, y.val = v := ⟨_, rfl⟩
  obtain ⟨zv, hzv⟩ : ∃ v, z.val = v := ⟨_, rfl⟩
  obtain ⟨rv, hrw⟩ : ∃ v, x.val ++ (y.val ++ z.val) = v := ⟨_, rfl⟩
  rw [hrw] at hrv
  rw [hxv] at sx ox
  rw [hyv] at sy oy
  rw [hzv] at szz oz
  have hrw2 : rv = xv ++ (yv ++ zv) := by rw [← hrw, hxv, hyv, hzv]
  have srv : rv.size = 117 := by rw [hrw2]; simp [sx, sy, szz]
  have ix0 : ∀ V, Sem.run Tryz.prog (Instr.index 52 (.agg rv) (.int .i64 0)) V = .ok (.agg xv) V := fun V => index_e V Tryz.underlying52 Tryz.underlying49 sz_Bke rv xv 0 0 rfl (by omega) (by rw [hrw2]; simp [sx])
  have ix1 : ∀ V, Sem.run Tryz.prog (Instr.index 52 (.agg rv) (.int .i64 1)) V = .ok (.agg yv) V := fun V => index_e V Tryz.underlying52 Tryz.underlying49 sz_Bke rv yv 1 1 rfl (by omega) (by rw [hrw2]; simp [sx, sy, List.drop_append, List.take_append])
  have ix2 : ∀ V, Sem.run Tryz.prog (Instr.index 52 (.agg rv) (.int .i64 2)) V = .ok (.agg zv) V := fun V => index_e V Tryz.underlying52 Tryz.underlying49 sz_Bke rv zv 2 2 rfl (by omega) (by
    have e1 : xv.toList.drop 78 = [] := List.drop_eq_nil_of_le (by simp [sx])
    have e2 : zv.toList.take 39 = zv.toList := List.take_of_length_le (by simp [szz])
    rw [hrw2]; simp [sx, sy, List.drop_append, e1, e2])
  have hat : ∀ W : World, w.grownBy W none → Rounds W ∧ ErrEnv W W.heap.size E ∧ VdsAt W A V ∧ x.At W ∧ y.At W ∧ z.At W ∧ q.At W := fun W hW =>
    ⟨hR.grown hW (by simp), env_grown he hW, hV.grown hW, hx.grown hW, hy.grown hW, hzz.grown hW, hq.grown hW⟩
  have HCK := Lib.hid (fun (W : World) (hW : w.grownBy W none) => (show Calls Tryz.prog 15 #[.slice A n c] W fun e w' => W.grownBy w' none ∧ ((rightS V = true ∧ e = .returned .nilIface) ∨ (rightS V = false ∧ e = .returned (errV (E 10)))) from by
    have := check_is W A c W.heap.size V (E 10) (hat W hW).2.2.1 ok (by omega) ((hat W hW).2.1.var 10 (by omega))
    rwa [hn] at this))
  have HCX := Lib.hid (fun (W : World) (hW : w.grownBy W none) (h7 : x.V.length ≤ 7) => check_is W x.A2 x.c2 W.heap.size x.V (E 10) (hat W hW).2.2.2.1.2.2.2.1 (fun v hv => (hx.2.2.2.2 v hv).1) (by omega) ((hat W hW).2.1.var 10 (by omega)))
  have HRO := Lib.hid (fun (W : World) (hW : w.grownBy W none) => row_is W E (hat W hW).1 ((hat W hW).2.1.var 0 (by omega)) (E 15) (E 13) ((hat W hW).2.1.var 15 (by omega)) ((hat W hW).2.1.var 13 (by omega)) x y z (hat W hW).2.2.2.1 (hat W hW).2.2.2.2.1 (hat W hW).2.2.2.2.2.1 rv hrw.symm)
  have HCE := Lib.hid (fun (W : World) (hW : w.grownBy W none) (ids : Array Value) (hids : arrV .u8 (idD x ++ (idD y ++ idD z)) = ids) => certified_is W E ((hat W hW).2.1.var 11 (by omega)) gv (by rw [hgv]; exact grV_size hGs) qf PQ (fun W2 hW2 => HQC W2 (grown_trans hW hW2)) x y z q hPQ (hat W hW).2.2.2.1 (hat W hW).2.2.2.2.1 (hat W hW).2.2.2.2.2.1 (hat W hW).2.2.2.2.2.2 cv hcv ids hids)
  have HEE := Lib.hid (fun (W : World) (hW : w.grownBy W none) => show W.cell? ⟨17, 0, none⟩ = some (errV (E 17)) from hW.cell (he.var 17 (by omega)).1 (by simp))
  obtain ⟨ex, hex⟩ : ∃ v, x.e = v := ⟨_, rfl⟩
  obtain ⟨ey, hey⟩ : ∃ v, y.e = v := ⟨_, rfl⟩
  obtain ⟨ez, hez⟩ : ∃ v, z.e = v := ⟨_, rfl⟩
  have HEX := Lib.hid (And.intro hex (And.intro hey hez))
  have HXV := Lib.hid (And.intro hxv (And.intro hyv hzv))
  have szb : ∀ v : Array Value, v.size = 39 → (Tryz.prog.info? 49).map (·.size) = some v.size := fun v h => by rw [h]; exact sz_Bke
  have HSB := Lib.hid (And.intro (szb xv sx) (And.intro (szb yv sy) (And.intro (szb zv szz) (And.intro ox (And.intro oy (And.intro oz (And.intro (show ZB.size = xv.size by rw [sx, hZBs]) (And.intro (show ZB.size = yv.size by rw [sy, hZBs]) (show ZB.size = zv.size by rw [szz, hZBs])))))))))
  have HSO := Lib.hid (And.intro (show (Tryz.prog.info? 52).map (·.size) = some rv.size by rw [srv]; exact sz_B3) (And.intro (show (Tryz.prog.info? 26).map (·.size) = some gv.size by rw [hgv, grV_size hGs]; exact sz_Gre) (And.intro (show (Tryz.prog.info? 54).map (·.size) = some cv.size by rw [← hcv]; simp only [cgV, Array.size_append, hxv, hyv, hzv, sx, sy, szz, qc_sizeQ hq]; exact sz_CGq) hZ3s)))
  have HX := Lib.hid (And.intro g1 (And.intro (range_blk0 bg) (And.intro (show W1.rangeAt (w.heap.size + 1) 0 cv.toList by rw [← hcv]; exact range_blk0 bc) (And.intro hrv (And.intro kg0 (And.intro kg1 cV))))))
  obtain ⟨N, hN⟩ : ∃ m, chkN qf e V x y z q = m := ⟨_, rfl⟩
  rw [hN]
  have HN := Lib.hid hN
  have HW := Lib.hid hW1
  clear hat hN hZBs hZ3s sx sy szz ox oy oz hW1 g1 bg bc kg0 kg1 rx ry rz rq ce0 hrv cV hxv hyv hzv hrw hrw2 srv hex hey hez szb hR he hx hy hzz hq hV ok hn hgv hGs hcv HQC hPQ
  go_enter Tryz.func19, Tryz.ntmps19
  go_upto_region 1 with (fail)
  rw [HW.out]
  have k1 := HX.out.2.2.2.2.2.1
  go_wp2_with fail
  refine (HCK.out W1 HX.out.1).mono ?_
  rintro e' w2 ⟨g2, ⟨hr, rfl⟩ | ⟨hr, rfl⟩⟩
  rotate_left
  · have hnn : N = 11 := by rw [← HN.out]; unfold chkN; simp [hr]
    subst hnn
    clear k1 hr
    have HG := Lib.hid (grown_trans HX.out.1 g2)
    clear g2
    go_wp2_with fail
    go_ret
    exact ⟨rfl, HG.out⟩
  have HRV := Lib.hid hr
  clear k1 hr
  have HGg2 := Lib.hid g2
  clear g2
  go_wp2_with (refine wpList_load_mid rfl 52 _ rfl (w.heap.size + 1) 0 rfl rv.toList _ (range_kept HX.out.2.2.2.1 HGg2.out) Tryz.underlying52 rfl (by rw [Array.length_toList]; exact HSO.out.1) ?_; rw [Array.toArray_toList])
  refine wp_loop_rounds 4 ?_
  rw [rounds_succ]
  obtain ⟨q10, hq10⟩ : ∃ q, w2.heap.size = q := ⟨_, rfl⟩
  obtain ⟨W10, hW10⟩ : ∃ W, (w2.alloc (.cells ZB 49)).setRow q10 xv = W := ⟨_, rfl⟩
  have bn10 : Blk (w2.alloc (.cells ZB 49)) q10 49 ZB := by rw [← hq10]; exact Blk.new w2 49 ZB
  have b10 : Blk W10 q10 49 xv := by rw [← hW10]; exact bn10.row _
  have g10 : w2.grownBy W10 none := by rw [← hW10]; exact grown_row (World.grownBy_alloc _ _ none) (.inl (by rw [hq10]; exact Nat.le_refl _)) _
  have HP10 := Lib.hid (And.intro bn10 hW10)
  have HB10 := Lib.hid b10
  clear bn10 hW10 b10
  have HGg10 := Lib.hid g10
  clear g10
  go_upto_region 7 with (refine wpList_store_row rfl 49 _ _ rfl (q10) xv rfl rfl 49 _ HP10.out.1 (HSB.out.1) (HSB.out.2.2.2.2.2.2.1) HSB.out.2.2.2.1 ?_)
  rw [HP10.out.2]
  clear hq10
  have ce : W10.cell? ⟨q10, 0, none⟩ = some (.int .i64 ex) := by
    have r := range_blk0 HB10.out
    rw [← HXV.out.1] at r
    have := (bk_turn r).1
    rwa [HEX.out.1] at this
  have cg : W10.cell? ⟨w.heap.size, 0, none⟩ = some (.int .i64 e) := (grown_trans HGg2.out HGg10.out).cell HX.out.2.2.2.2.1 (by simp)
  by_cases he : ex = e
  rotate_left
  · have d1 : (ex != e) = true := by simpa using he
    have hnn : N = 18 := by rw [← HN.out]; unfold chkN; simp [HRV.out, HEX.out.1, he]
    subst hnn
    have cee := HEE.out W10 (grown_trans HX.out.1 (grown_trans HGg2.out HGg10.out))
    clear he
    go_wp2_with fail
    go_ret
    exact ⟨rfl, (grown_trans HX.out.1 (grown_trans HGg2.out HGg10.out))⟩
  have d1 : (ex != e) = false := by simpa using he
  have HEQ0 := Lib.hid (show x.e = e from HEX.out.1.trans he)
  clear he
  go_wp2_with fail
  clear ce cg d1
  rw [rounds_succ]
  obtain ⟨q20, hq20⟩ : ∃ q, W10.heap.size = q := ⟨_, rfl⟩
  obtain ⟨W20, hW20⟩ : ∃ W, (W10.alloc (.cells ZB 49)).setRow q20 yv = W := ⟨_, rfl⟩
  have bn20 : Blk (W10.alloc (.cells ZB 49)) q20 49 ZB := by rw [← hq20]; exact Blk.new W10 49 ZB
  have b20 : Blk W20 q20 49 yv := by rw [← hW20]; exact bn20.row _
  have g20 : W10.grownBy W20 none := by rw [← hW20]; exact grown_row (World.grownBy_alloc _ _ none) (.inl (by rw [hq20]; exact Nat.le_refl _)) _
  have HP20 := Lib.hid (And.intro bn20 hW20)
  have HB20 := Lib.hid b20
  clear bn20 hW20 b20
  have HGg20 := Lib.hid g20
  clear g20
  go_upto_region 7 with (refine wpList_store_row rfl 49 _ _ rfl (q20) yv rfl rfl 49 _ HP20.out.1 (HSB.out.2.1) (HSB.out.2.2.2.2.2.2.2.1) HSB.out.2.2.2.2.1 ?_)
  rw [HP20.out.2]
  clear hq20
  have ce : W20.cell? ⟨q20, 0, none⟩ = some (.int .i64 ey) := by
    have r := range_blk0 HB20.out
    rw [← HXV.out.2.1] at r
    have := (bk_turn r).1
    rwa [HEX.out.2.1] at this
  have cg : W20.cell? ⟨w.heap.size, 0, none⟩ = some (.int .i64 e) := (grown_trans (grown_trans HGg2.out HGg10.out) HGg20.out).cell HX.out.2.2.2.2.1 (by simp)
  by_cases he : ey = e
  rotate_left
  · have d1 : (ey != e) = true := by simpa using he
    have hnn : N = 18 := by rw [← HN.out]; unfold chkN; simp [HRV.out, HEQ0.out, HEX.out.2.1, he]
    subst hnn
    have cee := HEE.out W20 (grown_trans HX.out.1 (grown_trans (grown_trans HGg2.out HGg10.out) HGg20.out))
    clear he
    go_wp2_with fail
    go_ret
    exact ⟨rfl, (grown_trans HX.out.1 (grown_trans (grown_trans HGg2.out HGg10.out) HGg20.out))⟩
  have d1 : (ey != e) = false := by simpa using he
  have HEQ1 := Lib.hid (show y.e = e from HEX.out.2.1.trans he)
  clear he
  go_wp2_with fail
  clear ce cg d1
  rw [rounds_succ]
  obtain ⟨q30, hq30⟩ : ∃ q, W20.heap.size = q := ⟨_, rfl⟩
  obtain ⟨W30, hW30⟩ : ∃ W, (W20.alloc (.cells ZB 49)).setRow q30 zv = W := ⟨_, rfl⟩
  have bn30 : Blk (W20.alloc (.cells ZB 49)) q30 49 ZB := by rw [← hq30]; exact Blk.new W20 49 ZB
  have b30 : Blk W30 q30 49 zv := by rw [← hW30]; exact bn30.row _
  have g30 : W20.grownBy W30 none := by rw [← hW30]; exact grown_row (World.grownBy_alloc _ _ none) (.inl (by rw [hq30]; exact Nat.le_refl _)) _
  have HP30 := Lib.hid (And.intro bn30 hW30)
  have HB30 := Lib.hid b30
  clear bn30 hW30 b30
  have HGg30 := Lib.hid g30
  clear g30
  go_upto_region 7 with (refine wpList_store_row rfl 49 _ _ rfl (q30) zv rfl rfl 49 _ HP30.out.1 (HSB.out.2.2.1) (HSB.out.2.2.2.2.2.2.2.2) HSB.out.2.2.2.2.2.1 ?_)
  rw [HP30.out.2]
  clear hq30
  have ce : W30.cell? ⟨q30, 0, none⟩ = some (.int .i64 ez) := by
    have r := range_blk0 HB30.out
    rw [← HXV.out.2.2] at r
    have := (bk_turn r).1
    rwa [HEX.out.2.2] at this
  have cg : W30.cell? ⟨w.heap.size, 0, none⟩ = some (.int .i64 e) := (grown_trans (grown_trans (grown_trans HGg2.out HGg10.out) HGg20.out) HGg30.out).cell HX.out.2.2.2.2.1 (by simp)
  by_cases he : ez = e
  rotate_left
  · have d1 : (ez != e) = true := by simpa using he
    have hnn : N = 18 := by rw [← HN.out]; unfold chkN; simp [HRV.out, HEQ0.out, HEQ1.out, HEX.out.2.2, he]
    subst hnn
    have cee := HEE.out W30 (grown_trans HX.out.1 (grown_trans (grown_trans (grown_trans HGg2.out HGg10.out) HGg20.out) HGg30.out))
    clear he
    go_wp2_with fail
    go_ret
    exact ⟨rfl, (grown_trans HX.out.1 (grown_trans (grown_trans (grown_trans HGg2.out HGg10.out) HGg20.out) HGg30.out))⟩
  have d1 : (ez != e) = false := by simpa using he
  have HEQ2 := Lib.hid (show z.e = e from HEX.out.2.2.trans he)
  clear he
  go_wp2_with fail
  clear ce cg d1
  rw [rounds_succ]
  go_wp2_with (refine wpList_load_mid rfl 52 _ rfl (w.heap.size + 1) 0 rfl rv.toList _ (range_kept HX.out.2.2.2.1 (grown_trans (grown_trans (grown_trans HGg2.out HGg10.out) HGg20.out) HGg30.out)) Tryz.underlying52 rfl (by rw [Array.length_toList]; exact HSO.out.1) ?_; rw [Array.toArray_toList])
  refine (HRO.out W30 (grown_trans HX.out.1 (grown_trans (grown_trans (grown_trans HGg2.out HGg10.out) HGg20.out) HGg30.out))).mono ?_
  rintro e' w41 ⟨g41, ids, hs48, ho48, hcase⟩
  obtain ⟨v2, rfl, HRW⟩ : ∃ v2 : Value, e' = .returned (.tuple #[.agg ids, v2]) ∧ Hid ((rowN x y z = 0 ∧ v2 = .nilIface ∧ arrV .u8 (idD x ++ (idD y ++ idD z)) = ids) ∨ (∃ m, rowN x y z = m + 1 ∧ v2 = errV (E m))) := by
    rcases hcase with ⟨h1, h2, rfl⟩ | ⟨h1, rfl⟩ | ⟨h1, rfl⟩
    · exact ⟨_, rfl, .inl ⟨h1, rfl, h2.symm⟩⟩
    · exact ⟨_, rfl, .inr ⟨15, h1, rfl⟩⟩
    · exact ⟨_, rfl, .inr ⟨13, h1, rfl⟩⟩
  clear hcase
  have HSI := Lib.hid (And.intro (show (Tryz.prog.info? 83).map (·.size) = some ids.size by rw [hs48]; exact sz_D3) (And.intro (show Z3.size = ids.size by rw [hs48, HSO.out.2.2.2]) (show (ids.all fun v => v.oneCell') = true by first | exact ho48 | simpa using ho48)))
  clear hs48 ho48
  have HGg41 := Lib.hid g41
  clear g41
  obtain ⟨q42, hq42⟩ : ∃ q, w41.heap.size = q := ⟨_, rfl⟩
  obtain ⟨W42, hW42⟩ : ∃ W, (w41.alloc (.cells Z3 83)).setRow q42 ids = W := ⟨_, rfl⟩
  have bn42 : Blk (w41.alloc (.cells Z3 83)) q42 83 Z3 := by rw [← hq42]; exact Blk.new w41 83 Z3
  have b42 : Blk W42 q42 83 ids := by rw [← hW42]; exact bn42.row _
  have g42 : w41.grownBy W42 none := by rw [← hW42]; exact grown_row (World.grownBy_alloc _ _ none) (.inl (by rw [hq42]; exact Nat.le_refl _)) _
  have HP42 := Lib.hid (And.intro bn42 hW42)
  have HB42 := Lib.hid b42
  clear bn42 hW42 b42
  have HGg42 := Lib.hid g42
  clear g42
  go_upto_region 11 with (refine wpList_store_row rfl 83 _ _ rfl (q42) ids rfl rfl 83 _ HP42.out.1 (HSI.out.1) (HSI.out.2.1) HSI.out.2.2 ?_)
  rw [HP42.out.2]
  clear hq42
  rcases HRW.out with ⟨h1, rfl, hids⟩ | ⟨m, h1, rfl⟩
  rotate_left
  · have hnn : N = m + 1 := by rw [← HN.out]; unfold chkN; simp [HRV.out, HEQ0.out, HEQ1.out, HEQ2.out, h1]
    subst hnn
    clear h1
    go_wp2_with fail
    go_ret
    exact ⟨rfl, (grown_trans HX.out.1 (grown_trans (grown_trans (grown_trans (grown_trans (grown_trans HGg2.out HGg10.out) HGg20.out) HGg30.out) HGg41.out) HGg42.out))⟩
  have HR0 := Lib.hid h1
  have HID := Lib.hid hids
  clear h1 hids
  go_wp2_with (first
    | (refine wpList_load_mid rfl 26 _ rfl (w.heap.size) 0 rfl gv.toList _ (range_kept HX.out.2.1 (grown_trans (grown_trans (grown_trans (grown_trans (grown_trans HGg2.out HGg10.out) HGg20.out) HGg30.out) HGg41.out) HGg42.out)) Tryz.underlying26 rfl (by rw [Array.length_toList]; exact HSO.out.2.1) ?_; rw [Array.toArray_toList])
    | (refine wpList_load_mid rfl 54 _ rfl (w.heap.size + 1) 0 rfl cv.toList _ (range_kept HX.out.2.2.1 (grown_trans (grown_trans (grown_trans (grown_trans (grown_trans HGg2.out HGg10.out) HGg20.out) HGg30.out) HGg41.out) HGg42.out)) Tryz.underlying54 rfl (by rw [Array.length_toList]; exact HSO.out.2.2.1) ?_; rw [Array.toArray_toList])
    | (refine wpList_load_mid rfl 83 _ rfl (q42) 0 rfl ids.toList _ (range_blk0 HB42.out) Tryz.underlying83 rfl (by rw [Array.length_toList]; exact HSI.out.1) ?_; rw [Array.toArray_toList]))
  refine (HCE.out W42 (grown_trans HX.out.1 (grown_trans (grown_trans (grown_trans (grown_trans (grown_trans HGg2.out HGg10.out) HGg20.out) HGg30.out) HGg41.out) HGg42.out)) ids HID.out).mono ?_
  rintro e' w51 ⟨rfl, g51⟩
  have HGg51 := Lib.hid g51
  clear g51
  cases hc : certN qf x y z q with
  | succ m =>
    have hnn : N = m + 1 := by rw [← HN.out]; unfold chkN; simp [HRV.out, HEQ0.out, HEQ1.out, HEQ2.out, HR0.out, hc]
    subst hnn
    clear hc
    have hev : evOf E (m + 1) = errV (E m) := rfl
    rw [hev]
    go_wp2_with fail
    go_ret
    exact ⟨rfl, (grown_trans HX.out.1 (grown_trans (grown_trans (grown_trans (grown_trans (grown_trans (grown_trans HGg2.out HGg10.out) HGg20.out) HGg30.out) HGg41.out) HGg42.out) HGg51.out))⟩
  | zero =>
    have HC0 := Lib.hid hc
    clear hc
    have hev : evOf E 0 = .nilIface := rfl
    rw [hev]
    clear hev
    have cv38 : w51.cell? ⟨w.heap.size + 1, 38, none⟩ = some (.slice x.A2 x.V.length x.c2) := (grown_trans (grown_trans (grown_trans (grown_trans (grown_trans (grown_trans HGg2.out HGg10.out) HGg20.out) HGg30.out) HGg41.out) HGg42.out) HGg51.out).cell HX.out.2.2.2.2.2.2 (by simp)
    go_wp2_with fail
    refine (HCX.out w51 (grown_trans HX.out.1 (grown_trans (grown_trans (grown_trans (grown_trans (grown_trans (grown_trans HGg2.out HGg10.out) HGg20.out) HGg30.out) HGg41.out) HGg42.out) HGg51.out)) (bkS_few (rowN_first HR0.out))).mono ?_
    rintro e' w52 ⟨g52, ⟨hr, rfl⟩ | ⟨hr, rfl⟩⟩
    · have hnn : N = 0 := by rw [← HN.out]; unfold chkN; simp [HRV.out, HEQ0.out, HEQ1.out, HEQ2.out, HR0.out, HC0.out, hr]
      subst hnn
      have HG := Lib.hid (grown_trans (grown_trans HX.out.1 (grown_trans (grown_trans (grown_trans (grown_trans (grown_trans (grown_trans HGg2.out HGg10.out) HGg20.out) HGg30.out) HGg41.out) HGg42.out) HGg51.out)) g52)
      clear g52 hr cv38
      go_wp2_with fail
      go_ret
      exact ⟨rfl, HG.out⟩
    · have hnn : N = 11 := by rw [← HN.out]; unfold chkN; simp [HRV.out, HEQ0.out, HEQ1.out, HEQ2.out, HR0.out, HC0.out, hr]
      subst hnn
      have HG := Lib.hid (grown_trans (grown_trans HX.out.1 (grown_trans (grown_trans (grown_trans (grown_trans (grown_trans (grown_trans HGg2.out HGg10.out) HGg20.out) HGg30.out) HGg41.out) HGg42.out) HGg51.out)) g52)
      clear g52 hr cv38
      go_wp2_with fail
      go_ret
      exact ⟨rfl, HG.out⟩
end Go.Proofs.YtmoebkdbnldbdaaGreatDoor
/-
  epochs.over: from a ground over a Change.
-/

namespace Go.Proofs.YtmoebkdbnldbdaaGreatDoor
open Go.RowKit

attribute [local go_sem] Oper.semAt_some

theorem chkN_row {qf : Qc → Nat} {e : Int} {V : List Vd} {x y z : Bk} {q : Qc} (h : chkN qf e V x y z q = 0) : rowN x y z = 0 ∧ rightS x.V = true := by
  unfold chkN at h
  by_cases h1 : rightS V = false
  · rw [if_pos h1] at h; exact absurd h (by decide)
  rw [if_neg h1] at h
  by_cases h2 : x.e ≠ e
  · rw [if_pos h2] at h; exact absurd h (by decide)
  rw [if_neg h2] at h
  by_cases h3 : y.e ≠ e
  · rw [if_pos h3] at h; exact absurd h (by decide)
  rw [if_neg h3] at h
  by_cases h4 : z.e ≠ e
  · rw [if_pos h4] at h; exact absurd h (by decide)
  rw [if_neg h4] at h
  by_cases h5 : rowN x y z ≠ 0
  · rw [if_pos h5] at h; exact absurd h h5
  rw [if_neg h5] at h
  by_cases h6 : certN qf x y z q ≠ 0
  · rw [if_pos h6] at h; exact absurd h h6
  rw [if_neg h6] at h
  by_cases h7 : rightS x.V = false
  · rw [if_pos h7] at h; exact absurd h (by decide)
  refine ⟨?_, by simpa using h7⟩
  exact Classical.not_not.1 h5
theorem idD_dig (b : Bk) : isDig (idD b) := by
  by_cases h : (bkS b).1 = 0
  · rw [idD_ok h]; exact ofS_dig 6 _
  · rw [idD_no h]; exact zeroC_dig
theorem zgr_sz : zGr.size = 18 := grV_size (by rw [zD16, arr_size]; rfl)
set_option maxRecDepth 100000 in
set_option maxHeartbeats 2000000 in
theorem over_is (w : World) (E : Nat → Addr) (hR : Rounds w) (he : ErrEnv w w.heap.size E) (e : Int) (A : Option Addr) (c n : Nat) (V : List Vd) (hn : V.length = n) (hV : VdsAt w A V) (ok : keysOk V) (hl : n < 1000) (G : Array Value) (hGs : G.size = 16) (gv : Array Value) (hgv : gv = grV e (.slice A n c) G) (qf : Qc → Nat)
    (PQ : Qc → Prop) (HQC : ∀ (W : World), w.grownBy W none → ∀ (p : Qc), PQ p → p.At W → ∀ pv : Array Value, pv = p.val → Calls Tryz.prog 43 #[.agg gv, .agg pv] W fun e w' => e = .returned (evOf E (qf p)) ∧ W.grownBy w' none)
    (x y z : Bk) (q : Qc) (hPQ : PQ y.q ∧ PQ z.q ∧ PQ q) (hx : x.At w) (hy : y.At w) (hzz : z.At w) (hq : q.At w) (cv : Array Value) (hcv : cgV x y z q = cv) :
    Calls Tryz.prog 12 #[.agg gv, .agg cv] w fun e' w' => w.grownBy w' none ∧
      ((∃ m, chkN qf e V x y z q = m + 1 ∧ e' = .returned (.tuple #[.agg zGr, errV (E m)])) ∨ (chkN qf e V x y z q = 0 ∧ (e < 0 ∨ 1073741824 ≤ e) ∧ e' = .returned (.tuple #[.agg zGr, errV (E 17)])) ∨
        (chkN qf e V x y z q = 0 ∧ (0 ≤ e ∧ e < 1073741824) ∧ GrOut w w' (e + 1) x.V.length x.V (idD x) e')) := by
  obtain ⟨GZ, hGZ⟩ : ∃ Z, zGr = Z := ⟨_, rfl⟩
  have hgz : ∀ w, Sem.run Tryz.prog (zeroValue 26) w = .ok (.agg GZ) w := fun w => by rw [← hGZ]; exact zgr_run w
  have hgb : ∀ w, Sem.run Tryz.prog (Instr.build 26 #[]) w = .ok (.agg GZ) w := fun w => by rw [← hGZ]; exact zgr_build w
  obtain ⟨Z, hZ⟩ : ∃ Z, zD16 = Z := ⟨_, rfl⟩
  have hz : ∀ w, Sem.run Tryz.prog (zeroValue 24) w = .ok (.agg Z) w := fun w => by rw [← hZ]; exact z16run w
  have hZ16 : Z.size = 16 := by rw [← hZ, zD16, arr_size]; rfl
  have hGzs : GZ.size = 18 := by rw [← hGZ]; exact zgr_sz
  have hG1 : (GZ.all fun v => v.oneCell') = true := by rw [← hGZ]; exact grV_one (arr_one _ _)
  have sx := bk_sizeE hx
  have sy := bk_sizeE hy
  have szz := bk_sizeE hzz
  obtain ⟨W1, hW1⟩ : ∃ W1, ((w.alloc (.cells gv 26)).alloc (.cells cv 54)).alloc (.cells GZ 26) = W1 := ⟨_, rfl⟩
  have g1 : w.grownBy W1 none := by rw [← hW1]; exact grown_trans (grown_trans (World.grownBy_alloc _ _ none) (World.grownBy_alloc _ _ none)) (World.grownBy_alloc _ _ none)
  have bg : Blk W1 w.heap.size 26 gv := by rw [← hW1]; exact ((Blk.new w _ _).alloc _).alloc _
  have bc : Blk W1 (w.heap.size + 1) 54 (cgV x y z q) := by
    have := (Blk.new (w.alloc (.cells gv 26)) 54 cv).alloc (.cells GZ 26)
    rw [hcv, ← hW1]; simpa using this
  have bz : Blk W1 (w.heap.size + 2) 26 GZ := by
    have := Blk.new ((w.alloc (.cells gv 26)).alloc (.cells cv 54)) 26 GZ
    rw [← hW1]; simpa using this
  obtain ⟨rx, _, _, _⟩ := cg_parts sx sy szz bc
  have cV : W1.cell? ⟨w.heap.size + 1, 38, none⟩ = some (.slice x.A2 x.V.length x.c2) := by
    have e1 : x.val.toList[38]? = some (.slice x.A2 x.V.length x.c2) := by
      have hp : (arrV .u8 x.P).toList.length = 16 := by simp [hx.1.1]
      have hq2 : x.q.val.toList.length = 19 := by rw [Array.length_toList]; exact qc_sizeQ hx.2.1
      have e2 : x.val.toList = ([.int .i64 x.e, .int .i64 x.r] ++ ((arrV .u8 x.P).toList ++ (x.q.val.toList ++ [.slice x.A x.T.length x.c]))) ++ [.slice x.A2 x.V.length x.c2] := by simp [Bk.val]
      rw [e2, List.getElem?_append_right (by simp only [List.length_append, hp, hq2, List.length_cons, List.length_nil]; omega)]
      simp only [List.length_append, hp, hq2, List.length_cons, List.length_nil]
      rfl
    have := rx 38 _ e1
    simpa using this
  obtain ⟨xv, hxv⟩ : ∃ v, x.val = v := ⟨_, rfl⟩
  rw [hxv] at rx sx
  obtain ⟨da, hda⟩ : ∃ v, arrV .u8 (idD x) = v := ⟨_, rfl⟩
  have hda16 : da.size = 16 := by rw [← hda, arr_size, idD_length]
  have hda1 : (da.all fun v => v.oneCell') = true := by rw [← hda]; exact arr_one _ _
  have hat : ∀ W : World, w.grownBy W none → Rounds W ∧ ErrEnv W W.heap.size E ∧ VdsAt W A V ∧ x.At W ∧ y.At W ∧ z.At W ∧ q.At W := fun W hW =>
    ⟨hR.grown hW (by simp), env_grown he hW, hV.grown hW, hx.grown hW, hy.grown hW, hzz.grown hW, hq.grown hW⟩
  have HCH := Lib.hid (fun (W : World) (hW : w.grownBy W none) => chk_is W E (hat W hW).1 (hat W hW).2.1 e A c n V hn (hat W hW).2.2.1 ok hl G hGs gv hgv qf PQ (fun W2 hW2 => HQC W2 (grown_trans hW hW2)) x y z q hPQ (hat W hW).2.2.2.1 (hat W hW).2.2.2.2.1 (hat W hW).2.2.2.2.2.1 (hat W hW).2.2.2.2.2.2 cv hcv)
  have HID := Lib.hid (fun (W : World) (hW : w.grownBy W none) (h0 : (bkS x).1 = 0) => (show Calls Tryz.prog 20 #[.agg xv] W fun e w' => e = .returned (.tuple #[.agg da, .nilIface]) ∧ W.grownBy w' none from by
    have := id_is W (hat W hW).1 ((hat W hW).2.1.var 0 (by omega)) x (hat W hW).2.2.2.1 xv hxv.symm da hda.symm
    rwa [h0] at this))
  have HNX := Lib.hid (fun (W : World) (hW : w.grownBy W none) (h7 : x.V.length ≤ 7) => next_is W E (hat W hW).1 ((hat W hW).2.1.var 0 (by omega)) (E 10) (E 17) ((hat W hW).2.1.var 10 (by omega)) ((hat W hW).2.1.var 17 (by omega)) e (.slice A n c) G hGs gv hgv (idD x) (idD_dig x) da hda.symm x.A2 x.c2 x.V.length x.V rfl (hat W hW).2.2.2.1.2.2.2.1 (fun v hv => (hx.2.2.2.2 v hv).1) (by omega))
  have HSO := Lib.hid (And.intro (show (Tryz.prog.info? 26).map (·.size) = some gv.size by rw [hgv, grV_size hGs]; exact sz_Gre) (And.intro (show (Tryz.prog.info? 54).map (·.size) = some cv.size by rw [← hcv]; simp only [cgV, Array.size_append, hxv, sx, sy, szz, qc_sizeQ hq]; exact sz_CGq) (And.intro (show (Tryz.prog.info? 26).map (·.size) = some GZ.size by rw [hGzs]; exact sz_Gre) (And.intro hG1 (And.intro hGZ (And.intro (show (Tryz.prog.info? 24).map (·.size) = some da.size by rw [hda16]; exact sz_Dg) (And.intro (show Z.size = da.size by rw [hda16, hZ16]) (And.intro hda1 (And.intro (show (Tryz.prog.info? 49).map (·.size) = some xv.size by rw [sx]; exact sz_Bke) hGzs)))))))))
  have HX := Lib.hid (And.intro g1 (And.intro (range_blk0 bg) (And.intro (show W1.rangeAt (w.heap.size + 1) 0 cv.toList by rw [← hcv]; exact range_blk0 bc) (And.intro rx (And.intro cV bz)))))
  have HW := Lib.hid hW1
  clear hat hGZ hZ hZ16 hGzs hG1 sx sy szz hW1 g1 bg bc bz rx cV hxv hda hda16 hda1 hR he hx hy hzz hq hV ok hn hgv hGs hcv HQC hPQ hl
  go_enter Tryz.func12, Tryz.ntmps12
  go_upto_region 1 with (fail)
  rw [HW.out]
  go_wp2_with (first
    | (refine wpList_load_mid rfl 26 _ rfl (w.heap.size) 0 rfl gv.toList _ HX.out.2.1 Tryz.underlying26 rfl (by rw [Array.length_toList]; exact HSO.out.1) ?_; rw [Array.toArray_toList])
    | (refine wpList_load_mid rfl 54 _ rfl (w.heap.size + 1) 0 rfl cv.toList _ HX.out.2.2.1 Tryz.underlying54 rfl (by rw [Array.length_toList]; exact HSO.out.2.1) ?_; rw [Array.toArray_toList]))
  refine (HCH.out W1 HX.out.1).mono ?_
  rintro e' w2 ⟨rfl, g2⟩
  have HGg2 := Lib.hid g2
  clear g2
  cases hc : chkN qf e V x y z q with
  | succ m =>
    have HC := Lib.hid hc
    clear hc
    have hev : evOf E (m + 1) = errV (E m) := rfl
    rw [hev]
    clear hev
    go_wp2_with (refine wpList_store_row rfl 26 _ _ rfl (w.heap.size + 2) GZ rfl rfl 26 _ (HX.out.2.2.2.2.2.grown HGg2.out (by simp)) (HSO.out.2.2.1) (rfl) HSO.out.2.2.2.1 ?_)
    refine bodyPost_ret (results_cell_t rfl _ _ _ ⟨w.heap.size + 2, 0, none⟩ (.agg GZ) rfl (run_loadVar_row _ (w.heap.size + 2) 26 26 _ (0, 0) _ ((HX.out.2.2.2.2.2.grown HGg2.out (by simp)).row _) Tryz.underlying26 rfl HSO.out.2.2.1)) rfl ?_
    exact ⟨grown_row (grown_trans HX.out.1 HGg2.out) (.inl (by omega)) _, .inl ⟨m, HC.out, by rw [HSO.out.2.2.2.2.1]; rfl⟩⟩
  | zero =>
    obtain ⟨hr0, hrV⟩ := chkN_row hc
    have HC := Lib.hid (And.intro hc (And.intro (rowN_first hr0) (And.intro hrV (bkS_few (rowN_first hr0)))))
    clear hc hr0 hrV
    have hev : evOf E 0 = .nilIface := rfl
    rw [hev]
    clear hev
    go_wp2_with (refine wpList_load_mid rfl 49 _ rfl (w.heap.size + 1) 0 rfl xv.toList _ (range_kept HX.out.2.2.2.1 HGg2.out) Tryz.underlying49 rfl (by rw [Array.length_toList]; exact HSO.out.2.2.2.2.2.2.2.2.1) ?_; rw [Array.toArray_toList])
    refine (HID.out w2 (grown_trans HX.out.1 HGg2.out) HC.out.2.1).mono ?_
    rintro e' w3 ⟨rfl, g3⟩
    have HGg3 := Lib.hid g3
    clear g3
    obtain ⟨q4, hq4⟩ : ∃ q, w3.heap.size = q := ⟨_, rfl⟩
    obtain ⟨W4, hW4⟩ : ∃ W, (w3.alloc (.cells Z 24)).setRow q4 da = W := ⟨_, rfl⟩
    have bn4 : Blk (w3.alloc (.cells Z 24)) q4 24 Z := by rw [← hq4]; exact Blk.new w3 24 Z
    have b4 : Blk W4 q4 24 da := by rw [← hW4]; exact bn4.row _
    have g4 : w3.grownBy W4 none := by rw [← hW4]; exact grown_row (World.grownBy_alloc _ _ none) (.inl (by rw [hq4]; exact Nat.le_refl _)) _
    have HP4 := Lib.hid (And.intro bn4 hW4)
    have HB4 := Lib.hid b4
    clear bn4 hW4 b4
    have HGg4 := Lib.hid g4
    clear g4
    go_upto_region 5 with (refine wpList_store_row rfl 24 _ _ rfl (q4) da rfl rfl 24 _ HP4.out.1 (HSO.out.2.2.2.2.2.1) (HSO.out.2.2.2.2.2.2.1) HSO.out.2.2.2.2.2.2.2.1 ?_)
    rw [HP4.out.2]
    clear hq4
    have cv38 : W4.cell? ⟨w.heap.size + 1, 38, none⟩ = some (.slice x.A2 x.V.length x.c2) := (grown_trans (grown_trans HGg2.out HGg3.out) HGg4.out).cell HX.out.2.2.2.2.1 (by simp)
    go_wp2_with (first
      | (refine wpList_load_mid rfl 26 _ rfl (w.heap.size) 0 rfl gv.toList _ (range_kept HX.out.2.1 (grown_trans (grown_trans HGg2.out HGg3.out) HGg4.out)) Tryz.underlying26 rfl (by rw [Array.length_toList]; exact HSO.out.1) ?_; rw [Array.toArray_toList])
      | (refine wpList_load_mid rfl 24 _ rfl (q4) 0 rfl da.toList _ (range_blk0 HB4.out) Tryz.underlying24 rfl (by rw [Array.length_toList]; exact HSO.out.2.2.2.2.2.1) ?_; rw [Array.toArray_toList]))
    refine (HNX.out W4 (grown_trans HX.out.1 (grown_trans (grown_trans HGg2.out HGg3.out) HGg4.out)) HC.out.2.2.2).mono ?_
    rintro e' w5 ⟨g5, hcase⟩
    clear cv38
    have HGg5 := Lib.hid g5
    clear g5
    rcases hcase with ⟨_, hb, A', c', rfl, hown⟩ | ⟨hr, _⟩ | ⟨_, hb, rfl⟩
    · obtain ⟨nv, hnv⟩ : ∃ v, grV (e + 1) (.slice A' x.V.length c') (arrV .u8 (idD (genB (e + 1) (idD x)))) = v := ⟨_, rfl⟩
      rw [hnv]
      have hns : nv.size = 18 := by rw [← hnv]; exact grV_size (by rw [arr_size, idD_length])
      have HNV := Lib.hid (And.intro hnv (And.intro (show (Tryz.prog.info? 26).map (·.size) = some nv.size by rw [hns]; exact sz_Gre) (And.intro (show GZ.size = nv.size by rw [hns, HSO.out.2.2.2.2.2.2.2.2.2]) (And.intro (show (nv.all fun v => v.oneCell') = true by rw [← hnv]; exact grV_one (arr_one _ _)) (And.intro hown hb)))))
      clear hnv hns hown hb
      go_wp2_with (refine wpList_store_row rfl 26 _ _ rfl (w.heap.size + 2) nv rfl rfl 26 _ (HX.out.2.2.2.2.2.grown (grown_trans (grown_trans (grown_trans HGg2.out HGg3.out) HGg4.out) HGg5.out) (by simp)) (HNV.out.2.1) (HNV.out.2.2.1) HNV.out.2.2.2.1 ?_)
      refine bodyPost_ret (results_cell_t rfl _ _ _ ⟨w.heap.size + 2, 0, none⟩ (.agg nv) rfl (run_loadVar_row _ (w.heap.size + 2) 26 26 _ (0, 0) _ ((HX.out.2.2.2.2.2.grown (grown_trans (grown_trans (grown_trans HGg2.out HGg3.out) HGg4.out) HGg5.out) (by simp)).row _) Tryz.underlying26 rfl HNV.out.2.1)) rfl ?_
      refine ⟨grown_row (grown_trans HX.out.1 (grown_trans (grown_trans (grown_trans HGg2.out HGg3.out) HGg4.out) HGg5.out)) (.inl (by omega)) _, .inr (.inr ⟨HC.out.1, HNV.out.2.2.2.2.2, A', c', by rw [HNV.out.1]; rfl, own_kept (HNV.out.2.2.2.2.1.mono (base' := w.heap.size) (grown_trans HX.out.1 (grown_trans (grown_trans HGg2.out HGg3.out) HGg4.out)).size) (row_kept_e nv) fun k hk hkq => ?_⟩)⟩
      have h9 := (HNV.out.2.2.2.2.1.lt k hk).1
      have h10 := (HX.out.2.2.2.2.2.grown (grown_trans (grown_trans HGg2.out HGg3.out) HGg4.out) (by simp)).lt
      omega
    · rw [HC.out.2.2.1] at hr
      exact absurd hr (by simp)
    · have HBD := Lib.hid hb
      clear hb
      go_wp2_with (refine wpList_store_row rfl 26 _ _ rfl (w.heap.size + 2) zGr rfl rfl 26 _ (HX.out.2.2.2.2.2.grown (grown_trans (grown_trans (grown_trans HGg2.out HGg3.out) HGg4.out) HGg5.out) (by simp)) ((show (Tryz.prog.info? 26).map (·.size) = some zGr.size by rw [zgr_sz]; exact sz_Gre)) ((by rw [zgr_sz]; exact HSO.out.2.2.2.2.2.2.2.2.2)) (grV_one (arr_one _ _)) ?_)
      refine bodyPost_ret (results_cell_t rfl _ _ _ ⟨w.heap.size + 2, 0, none⟩ (.agg zGr) rfl (run_loadVar_row _ (w.heap.size + 2) 26 26 _ (0, 0) _ ((HX.out.2.2.2.2.2.grown (grown_trans (grown_trans (grown_trans HGg2.out HGg3.out) HGg4.out) HGg5.out) (by simp)).row _) Tryz.underlying26 rfl (show (Tryz.prog.info? 26).map (·.size) = some zGr.size by rw [zgr_sz]; exact sz_Gre))) rfl ?_
      exact ⟨grown_row (grown_trans HX.out.1 (grown_trans (grown_trans (grown_trans HGg2.out HGg3.out) HGg4.out) HGg5.out)) (.inl (by omega)) _, .inr (.inl ⟨HC.out.1, HBD.out, rfl⟩)⟩
end Go.Proofs.YtmoebkdbnldbdaaGreatDoor
/-
  epochs.Walk: from a ground over a row of Changes.
-/

namespace Go.Proofs.YtmoebkdbnldbdaaGreatDoor
open Go.RowKit

attribute [local go_sem] Oper.semAt_some

structure Ch where
  x : Bk
  y : Bk
  z : Bk
  q : Qc
def Ch.val (c : Ch) : Array Value := cgV c.x c.y c.z c.q
def Ch.At (w : World) (c : Ch) : Prop := c.x.At w ∧ c.y.At w ∧ c.z.At w ∧ c.q.At w
theorem Ch.At.grown {w w' : World} {c : Ch} (h : c.At w) (g : w.grownBy w' none) : c.At w' := ⟨h.1.grown g, h.2.1.grown g, h.2.2.1.grown g, h.2.2.2.grown g⟩
theorem Ch.size {w : World} {c : Ch} (h : c.At w) : c.val.size = 136 := by
  simp only [Ch.val, cgV, Array.size_append, bk_sizeE h.1, bk_sizeE h.2.1, bk_sizeE h.2.2.1, qc_sizeQ h.2.2.2]
theorem Ch.one {w : World} {c : Ch} (h : c.At w) : (c.val.all fun v => v.oneCell') = true := by
  simp only [Ch.val, cgV, Array.all_append, bk_oneE h.1, bk_oneE h.2.1, bk_oneE h.2.2.1, qc_oneQ, Bool.and_self]
/-- A row of Changes in memory. -/
def ChsAt (w : World) (A : Option Addr) (L : List Ch) : Prop := (L ≠ [] → ∃ b off, A = some ⟨b, off, none⟩ ∧ ∀ k (h : k < L.length), w.rangeAt b (off + k * 136) L[k].val.toList) ∧ ∀ c ∈ L, c.At w
/-- A ground's parts. -/
structure Gd where
  e : Int
  V : List Vd
  g : List Int
def Gd.ok (g : Gd) : Prop := keysOk g.V ∧ g.V.length ≤ 7 ∧ g.g.length = 16
def Gd.val (g : Gd) (A : Option Addr) (c : Nat) : Array Value := grV g.e (.slice A g.V.length c) (arrV .u8 g.g)
theorem Gd.size {g : Gd} (h : g.ok) (A : Option Addr) (c : Nat) : (g.val A c).size = 18 := grV_size (by rw [arr_size]; exact h.2.2)
theorem Gd.one (g : Gd) (A : Option Addr) (c : Nat) : ((g.val A c).all fun v => v.oneCell') = true := grV_one (arr_one _ _)
/-- A step: the error's number, and the ground behind it. -/
def stepG (QF : Gd → Qc → Nat) (g : Gd) (c : Ch) : Nat × Gd :=
  if chkN (QF g) g.e g.V c.x c.y c.z c.q ≠ 0 then (chkN (QF g) g.e g.V c.x c.y c.z c.q, g)
  else if g.e < 0 ∨ 1073741824 ≤ g.e then (18, g) else (0, ⟨g.e + 1, c.x.V, idD (genB (g.e + 1) (idD c.x))⟩)
/-- A walk: the ground where it ends, how many Changes it went over, the error's number. -/
def walkG (QF : Gd → Qc → Nat) : Nat → Gd → List Ch → Gd × Nat × Nat
  | k, g, [] => (g, k, 0)
  | k, g, c :: cs => if (stepG QF g c).1 ≠ 0 then (g, k, (stepG QF g c).1) else walkG QF (k + 1) (stepG QF g c).2 cs
def walkF (QF : Gd → Qc → Nat) (g : Gd) (L : List Ch) : Gd × Nat × Nat := if 8 < L.length then (g, 0, 8) else walkG QF 0 g L
theorem stepG_ok {QF : Gd → Qc → Nat} {g : Gd} {c : Ch} {w : World} (hc : c.At w) (h : (stepG QF g c).1 = 0) : (stepG QF g c).2.ok := by
  unfold stepG at h ⊢
  by_cases h1 : chkN (QF g) g.e g.V c.x c.y c.z c.q ≠ 0
  · rw [if_pos h1] at h; exact absurd h h1
  rw [if_neg h1] at h ⊢
  by_cases h2 : g.e < 0 ∨ 1073741824 ≤ g.e
  · rw [if_pos h2] at h; exact absurd h (Nat.succ_ne_zero 17)
  rw [if_neg h2]
  have h7 := bkS_few (rowN_first (chkN_row (Classical.not_not.1 h1)).1)
  exact ⟨fun v hv => (hc.1.2.2.2.2 v hv).1, h7, idD_length _⟩
theorem zcg_run : ∃ Z : Array Value, Z.size = 136 ∧ ∀ w : World, Sem.run Tryz.prog (zeroValue 54) w = .ok (.agg Z) w :=
  ⟨zBk ++ (zBk ++ (zBk ++ (#[.int .i64 0, .int .i64 0] ++ (arrV .u8 (List.replicate 16 0) ++ #[.slice none 0 0])))), by simp [arrV, zBk, genV, zD16], fun w => zero_run3 w (by kernel_rfl)⟩
/-- Validators that lie behind a place. -/
def FarV (base : Nat) (A : Option Addr) (V : List Vd) : Prop := V ≠ [] → ∀ a, A = some a → base ≤ a.block
theorem VdsAt.farRow {w : World} {A : Option Addr} {V : List Vd} {q base : Nat} (h : VdsAt w A V) (hf : FarV base A V) (hq : q < base) (v : Array Value) : VdsAt (w.setRow q v) A V := fun hne => by
  obtain ⟨b, off, rfl, hc⟩ := h hne
  refine ⟨b, off, rfl, fun k hk => range_row_far (hc k hk) (fun e => ?_) v⟩
  have h1 : base ≤ b := hf hne _ rfl
  omega
theorem VdsAt.farSet {w : World} {A : Option Addr} {V : List Vd} {q i base : Nat} (h : VdsAt w A V) (hf : FarV base A V) (hq : q < base) (v : Value) : VdsAt (w.setCell ⟨q, i, none⟩ v) A V := fun hne => by
  obtain ⟨b, off, rfl, hc⟩ := h hne
  refine ⟨b, off, rfl, fun k hk j u hu => ?_⟩
  have h1 : base ≤ b := hf hne _ rfl
  rw [World.cell?_setCell_far _ _ _ _ (by simp; omega)]
  exact hc k hk j u hu
/-- A copy of validators, of none too. -/
theorem vclone_vds (w : World) (A : Option Addr) (c n : Nat) (V : List Vd) (hn : V.length = n) (hV : VdsAt w A V) (ok : keysOk V) (hl : n < 1000) :
    Calls Tryz.prog 11 #[.slice A n c] w fun e w' => ∃ (A' : Option Addr) (c' : Nat), e = .returned (.slice A' n c') ∧ VdsAt w' A' V ∧ FarV w.heap.size A' V ∧ w.grownBy w' none := by
  by_cases h0 : 1 ≤ n
  · refine (vclone_own w A c n V hn hV ok h0 hl).mono ?_
    rintro e w' ⟨A', c', rfl, hown, g⟩
    obtain ⟨A5, c5, e5, _, hv, hf⟩ := own_vds ok hown
    injection e5 with e1
    rw [e1]; exact ⟨A5, c', rfl, hv, fun _ => hf, g⟩
  · obtain rfl : n = 0 := by omega
    obtain rfl : V = [] := List.length_eq_zero_iff.1 hn
    obtain ⟨i0, hi, hz0, hz1, hz2⟩ := info_parts vd_info
    have hq : ∀ (w : World) (a : Option Addr) (n c n' c' : Nat), (binOp .eql 22 (.slice a n c) (.slice none n' c')).run Tryz.prog w = .ok (.bool a.isNone) w := fun w a n c n' c' => Lib.run_eql_slice_nil w _ _ a n c n' c' Tryz.underlying22
    clear hV ok hn
    rcases A with _ | ad
    · go_enter Tryz.func11, Tryz.ntmps11
      go_wp2_with fail
      go_ret
      first | exact ⟨none, 0, rfl, fun h => absurd rfl h, fun h => absurd rfl h, World.grownBy.refl _ _⟩ | exact ⟨none, ⟨0, rfl⟩, fun h => absurd rfl h, fun h => absurd rfl h, World.grownBy.refl _ _⟩
    · go_enter Tryz.func11, Tryz.ntmps11
      go_wp2_with (at_builtin; refine wpList_append_own _ rfl _ _ 22 rfl w.heap.size 41 i0 _ 17 24 Tryz.underlying22 hi hz0 hz1 hz2 rfl (by omega) _ _ _ rfl (World.ownsRow_made w #[] 0 (Nat.le_refl _) (Nat.zero_le _) rfl) ad 0 c [] rfl rfl (by simp) (by simp) (by simp only [maxLen]; omega) (by omega) (by simp) ?_; intro v' w1 hown hgrow _; obtain ⟨A', cap', rfl⟩ := own_slice w1 hown)
      have HO := Lib.hid hgrow
      clear hown hgrow
      go_wp2
      go_ret
      first | exact ⟨A', cap', rfl, fun h => absurd rfl h, fun h => absurd rfl h, grown_new HO.out⟩ | exact ⟨A', ⟨cap', rfl⟩, fun h => absurd rfl h, fun h => absurd rfl h, grown_new HO.out⟩
theorem results_cell_tt {fn : Func} {s u v : Tmp} {t : TypeId} (h : fn.results = #[.cell s t, .tmp u, .tmp v]) (tmps : Array Value) (P : Program) (w : World) (p : Addr) (x : Value)
    (hp : tmps.getD s undef = .pointer (some p)) (hl : (loadVar t p).run P w = .ok x w) : (results fn tmps).run P w = .ok (.tuple #[x, tmps.getD u undef, tmps.getD v undef]) w := by
  have hq : tmps[s]?.getD undef = .pointer (some p) := by simpa using hp
  simp [results, h, hq, asAddr, hl]
theorem grown_setc {w w1 : World} (h : w.grownBy w1 none) {b i : Nat} (hb : w.heap.size ≤ b) (v : Value) : w.grownBy (w1.setCell ⟨b, i, none⟩ v) none := grown_far h (.inl hb) v
/-- A step, as a call of over. -/
theorem over_st (w : World) (E : Nat → Addr) (hR : Rounds w) (he : ErrEnv w w.heap.size E) (QF : Gd → Qc → Nat) (PQ : Qc → Prop)
    (HQC : ∀ (W : World), w.grownBy W none → ∀ (g : Gd) (A : Option Addr) (c : Nat), g.ok → VdsAt W A g.V → ∀ gv : Array Value, gv = g.val A c → ∀ (p : Qc), PQ p → p.At W → ∀ pv : Array Value, pv = p.val → Calls Tryz.prog 43 #[.agg gv, .agg pv] W fun e w' => e = .returned (evOf E (QF g p)) ∧ W.grownBy w' none)
    (g : Gd) (A : Option Addr) (c : Nat) (hg : g.ok) (hV : VdsAt w A g.V) (gv : Array Value) (hgv : g.val A c = gv) (ch : Ch) (hch : ch.At w) (hPQ : PQ ch.y.q ∧ PQ ch.z.q ∧ PQ ch.q) (cv : Array Value) (hcv : ch.val = cv) :
    Calls Tryz.prog 12 #[.agg gv, .agg cv] w fun e' w' => w.grownBy w' none ∧
      ((∃ m, (stepG QF g ch).1 = m + 1 ∧ e' = .returned (.tuple #[.agg zGr, errV (E m)])) ∨
        ((stepG QF g ch).1 = 0 ∧ ∃ A' c', e' = .returned (.tuple #[.agg ((stepG QF g ch).2.val A' c'), .nilIface]) ∧ VdsAt w' A' (stepG QF g ch).2.V ∧ FarV w.heap.size A' (stepG QF g ch).2.V)) := by
  have hgs : (arrV .u8 g.g).size = 16 := by rw [arr_size]; exact hg.2.2
  refine (over_is w E hR he g.e A c g.V.length g.V rfl hV hg.1 (by have := hg.2.1; omega) (arrV .u8 g.g) hgs gv hgv.symm (QF g) PQ (fun W hW p hp hpW pv hpv => HQC W hW g A c hg (hV.grown hW) gv hgv.symm p hp hpW pv hpv) ch.x ch.y ch.z ch.q hPQ hch.1 hch.2.1 hch.2.2.1 hch.2.2.2 cv hcv).mono ?_
  rintro e' w' ⟨gr, ⟨m, h, he'⟩ | ⟨h, hb, he'⟩ | ⟨h, hb, A', c', he', hown⟩⟩
  · refine ⟨gr, .inl ⟨m, ?_, he'⟩⟩
    unfold stepG
    rw [if_pos (by rw [h]; exact Nat.succ_ne_zero m)]
    exact h
  · refine ⟨gr, .inl ⟨17, ?_, he'⟩⟩
    unfold stepG
    rw [if_neg (by rw [h]; simp), if_pos hb]
  · have e1 : stepG QF g ch = (0, ⟨g.e + 1, ch.x.V, idD (genB (g.e + 1) (idD ch.x))⟩) := by
      unfold stepG
      rw [if_neg (by rw [h]; simp), if_neg (by omega)]
    rw [e1]
    refine ⟨gr, .inr ⟨rfl, A', c', he', ?_⟩⟩
    obtain ⟨A5, c5, e5, _, hv, hf⟩ := own_vds (fun v hv => (hch.1.2.2.2.2 v hv).1) hown
    injection e5 with e6
    rw [e6]; exact ⟨hv, fun _ => hf⟩
set_option maxRecDepth 100000 in
set_option maxHeartbeats 2000000 in
theorem walk_is (w : World) (E : Nat → Addr) (hR : Rounds w) (he : ErrEnv w w.heap.size E) (QF : Gd → Qc → Nat) (PQ : Qc → Prop)
    (HQC : ∀ (W : World), w.grownBy W none → ∀ (g : Gd) (A : Option Addr) (c : Nat), g.ok → VdsAt W A g.V → ∀ gv : Array Value, gv = g.val A c → ∀ (p : Qc), PQ p → p.At W → ∀ pv : Array Value, pv = p.val → Calls Tryz.prog 43 #[.agg gv, .agg pv] W fun e w' => e = .returned (evOf E (QF g p)) ∧ W.grownBy w' none)
    (g : Gd) (A : Option Addr) (c : Nat) (hg : g.ok) (hV : VdsAt w A g.V) (gv : Array Value) (hgv : g.val A c = gv) (L : List Ch) (A2 : Option Addr) (c2 : Nat) (hL : ChsAt w A2 L) (hPQ : ∀ ch ∈ L, PQ ch.y.q ∧ PQ ch.z.q ∧ PQ ch.q) :
    Calls Tryz.prog 5 #[.agg gv, .slice A2 L.length c2] w fun e' w' => w.grownBy w' none ∧ ∃ A' c', e' = .returned (.tuple #[.agg ((walkF QF g L).1.val A' c'), .int .i64 ((walkF QF g L).2.1 : Nat), evOf E (walkF QF g L).2.2]) ∧ VdsAt w' A' (walkF QF g L).1.V ∧ FarV w.heap.size A' (walkF QF g L).1.V := by
  obtain ⟨GZ, hGZ⟩ : ∃ Z, zGr = Z := ⟨_, rfl⟩
  have hgz : ∀ w, Sem.run Tryz.prog (zeroValue 26) w = .ok (.agg GZ) w := fun w => by rw [← hGZ]; exact zgr_run w
  obtain ⟨ZC, hZCs, hzc⟩ := zcg_run
  have hGzs : GZ.size = 18 := by rw [← hGZ]; exact zgr_sz
  have hG1 : (GZ.all fun v => v.oneCell') = true := by rw [← hGZ]; exact grV_one (arr_one _ _)
  have hgs : gv.size = 18 := by rw [← hgv]; exact Gd.size hg A c
  obtain ⟨N, hN⟩ : ∃ N, L.length = N := ⟨_, rfl⟩
  obtain ⟨n, hn⟩ : ∃ n, g.V.length = n := ⟨_, rfl⟩
  rw [hN]
  obtain ⟨W1, hW1⟩ : ∃ W1, (w.alloc (.cells gv 26)).alloc (.cells GZ 26) = W1 := ⟨_, rfl⟩
  have g1 : w.grownBy W1 none := by rw [← hW1]; exact grown_trans (World.grownBy_alloc _ _ none) (World.grownBy_alloc _ _ none)
  have bg : Blk W1 w.heap.size 26 (g.val A c) := by rw [← hW1, hgv]; exact (Blk.new w _ _).alloc _
  have bz : Blk W1 (w.heap.size + 1) 26 GZ := by
    have := Blk.new (w.alloc (.cells gv 26)) 26 GZ
    rw [← hW1]; simpa using this
  obtain ⟨_, k1, _⟩ := gr_cells (by rw [arr_size]; exact hg.2.2) bg
  rw [hn] at k1
  have hat : ∀ W : World, w.grownBy W none → Rounds W ∧ ErrEnv W W.heap.size E ∧ VdsAt W A g.V := fun W hW =>
    ⟨hR.grown hW (by simp), env_grown he hW, hV.grown hW⟩
  have HCL := Lib.hid (fun (W : World) (hW : w.grownBy W none) => vclone_vds W A c n g.V hn (hat W hW).2.2 hg.1 (by rw [← hn]; have := hg.2.1; omega))
  have HOV := Lib.hid (fun (W : World) (hW : w.grownBy W none) (g' : Gd) (A' : Option Addr) (c' : Nat) (hg' : g'.ok) (hV' : VdsAt W A' g'.V) (gv' : Array Value) (hgv' : g'.val A' c' = gv') (ch : Ch) (hch : ch ∈ L) (cv : Array Value) (hcv : ch.val = cv) => over_st W E (hat W hW).1 (hat W hW).2.1 QF PQ (fun W2 hW2 => HQC W2 (grown_trans hW hW2)) g' A' c' hg' hV' gv' hgv' ch ((hL.2 ch hch).grown hW) (hPQ ch hch) cv hcv)
  have HER := Lib.hid (fun (W : World) (hW : w.grownBy W none) => (hat W hW).2.1.var 7 (by omega))
  have HL := Lib.hid (And.intro hL hN)
  have HGD := Lib.hid (And.intro hg (And.intro hn hgv))
  have HS := Lib.hid (And.intro (show (Tryz.prog.info? 26).map (·.size) = some GZ.size by rw [hGzs]; exact sz_Gre) (And.intro hG1 (And.intro hGzs (And.intro hGZ hZCs))))
  have HX := Lib.hid (And.intro g1 (And.intro bg (And.intro bz k1)))
  have HW := Lib.hid hW1
  clear hat hGZ hZCs hGzs hG1 hgs hN hn hW1 g1 bg bz k1 hgv hR he hL hPQ hV HQC hg
  go_enter Tryz.func5, Tryz.ntmps5
  go_upto_region 1 with (fail)
  rw [HW.out]
  have k1 := HX.out.2.2.2
  go_wp2_with fail
  refine (HCL.out W1 HX.out.1).mono ?_
  rintro e' w2 ⟨A1, c1, rfl, hV1, hF1, g2⟩
  clear k1
  have HGg2 := Lib.hid g2
  clear g2
  have b2 : Blk w2 w.heap.size 26 (g.val A c) := HX.out.2.1.grown HGg2.out (by simp)
  obtain ⟨_, k2, _⟩ := gr_cells (by rw [arr_size]; exact HGD.out.1.2.2) b2
  have fz := b2.frozen 1
  obtain ⟨W3, hW3⟩ : ∃ W, w2.setCell ⟨w.heap.size, 1, none⟩ (.slice A1 n c1) = W := ⟨_, rfl⟩
  have g3 : w.grownBy W3 none := by rw [← hW3]; exact grown_setc (grown_trans HX.out.1 HGg2.out) (Nat.le_refl _) _
  have b3 : Blk W3 w.heap.size 26 (g.val A1 c1) := by
    have := b2.set 1 (.slice A1 n c1)
    rw [hW3] at this
    rw [Gd.val, HGD.out.2.1]
    rw [Gd.val] at this
    simpa [grV] using this
  have bz3 : Blk W3 (w.heap.size + 1) 26 GZ := by rw [← hW3]; exact (HX.out.2.2.1.grown HGg2.out (by simp)).far (by simp) _
  have hf3 : FarV (w.heap.size + 2) A1 g.V := fun hne a ha => by
    have h1 := hF1 hne a ha
    have h2 := HX.out.2.2.1.lt
    omega
  have v3 : VdsAt W3 A1 g.V := by
    rw [← hW3]
    exact hV1.farSet hf3 (by omega) _
  have H3 := Lib.hid (And.intro hW3 (And.intro g3 (And.intro b3 (And.intro bz3 (And.intro v3 hf3)))))
  clear g3 b3 bz3 v3 hV1 hF1 hf3 b2 hW3
  go_upto_region 2 with (fail)
  rw [H3.out.1]
  clear k2 fz
  by_cases h8 : 8 < N
  · have a1 : decide ((8 : Int) < (N : Int)) = true := by simp; omega
    have HF := Lib.hid (show walkF QF g L = (g, 0, 8) by rw [walkF, HL.out.2, if_pos h8])
    have hec : W3.drew.cell? ⟨0, 0, none⟩ = some (errV (E 7)) := (HER.out W3 H3.out.2.1).1
    have heb : (0 : Nat) < w.heap.size := by
      have := (HER.out w (World.grownBy.refl _ _)).2
      exact World.block_lt_of_cell? w _ (HER.out w (World.grownBy.refl _ _)).1
    obtain ⟨g9, hg9⟩ : ∃ v, g.val A1 c1 = v := ⟨_, rfl⟩
    have bg3 : Blk W3.drew w.heap.size 26 g9 := by rw [← hg9]; exact H3.out.2.2.1
    have HG9 := Lib.hid (And.intro hg9 (And.intro bg3 (And.intro (show (Tryz.prog.info? 26).map (·.size) = some g9.size by rw [← hg9, Gd.size HGD.out.1]; exact sz_Gre) (And.intro (show GZ.size = g9.size by rw [← hg9, Gd.size HGD.out.1, HS.out.2.2.1]) (And.intro (show (g9.all fun v => v.oneCell') = true by rw [← hg9]; exact Gd.one _ _ _) (show Blk W3.drew (w.heap.size + 1) 26 GZ from H3.out.2.2.2.1))))))
    clear hg9 bg3 h8
    go_upto_region 3 with (fail)
    refine wp_region_held_drew (S := fun V => V.cell? ⟨0, 0, none⟩ = some (errV (E 7)) ∧ V.rangeAt w.heap.size 0 g9.toList) (by kernel_rfl) ⟨hec, range_blk0 HG9.out.2.1⟩ (fun hHeld => ?_)
    refine wpAnyH_take (i := 0) (oi := _) (v := .agg g9) rfl (by kernel_rfl) (by kernel_rfl) (by kernel_rfl) (fun _ _ _ h => h) (yieldsIf_load_mid (by rfl) _ _ rfl w.heap.size 0 rfl g9.toList _ (fun V hSw => hSw.2) Tryz.underlying26 rfl (by rw [Array.length_toList]; exact HG9.out.2.2.1)) (by assumption) ?restu0
    try simp only [Act.put, List.getElem_toArray, List.getElem_cons_succ, List.getElem_cons_zero, List.setIfInBounds_toArray, List.set_cons_zero, List.set_cons_succ]
    refine wpAnyH_take (i := 1) (oi := _) (v := ?vu1) rfl (by kernel_rfl) (by kernel_rfl) (by kernel_rfl) (fun _ _ _ h => h) (Or.inl ⟨by rfl, ?hyu1⟩) (by assumption) ?restu1
    case hyu1 => (intro V hSw; obtain ⟨hSw1, hSw2⟩ := hSw; go_simp) <;> with_reducible rfl
    try simp only [Act.put, List.getElem_toArray, List.getElem_cons_succ, List.getElem_cons_zero, List.setIfInBounds_toArray, List.set_cons_zero, List.set_cons_succ]

    refine wpAnyH_ready (rs := [2]) (by kernel_rfl) (by simp) ?_
    refine (AllReadyH.cons (o := _) rfl (fun K9 hK => ?_) AllReadyH.nil)
    refine ready_store_e (by rfl) 26 _ _ rfl (w.heap.size + 1) 0 g9 rfl rfl (there_blk HG9.out.2.2.2.2.2 (by have h1 := HG9.out.2.2.2.1; omega)) HG9.out.2.2.1 HG9.out.2.2.2.2.1 ?_
    rw [setCells_row (P := Tryz.prog) (ty := 26) HG9.out.2.2.2.2.2 HG9.out.2.2.1 HG9.out.2.2.2.1 HG9.out.2.2.2.2.1]
    refine hK.out _ _ ⟨(row_kept_e g9).cell hec (show ¬ (0 : Nat) = w.heap.size + 1 by omega), range_row_far (range_blk0 HG9.out.2.1) (by omega) _⟩ (fun hHeld => ?_)
    clear hK K9
    try simp only [Act.put, List.getElem_toArray, List.getElem_cons_succ, List.getElem_cons_zero, List.setIfInBounds_toArray, List.set_cons_zero, List.set_cons_succ]
    refine wpAnyH_take (i := 3) (oi := _) (v := ?vu3) rfl (by kernel_rfl) (by kernel_rfl) (by kernel_rfl) (fun _ _ _ h => h) (Or.inl ⟨by rfl, ?hyu3⟩) (by assumption) ?restu3
    case hyu3 => (intro V hSw; obtain ⟨hSw1, hSw2⟩ := hSw; go_simp) <;> with_reducible rfl
    try simp only [Act.put, List.getElem_toArray, List.getElem_cons_succ, List.getElem_cons_zero, List.setIfInBounds_toArray, List.set_cons_zero, List.set_cons_succ]
    refine wpAnyH_take (i := 4) (oi := _) (v := ?vu4) rfl (by kernel_rfl) (by kernel_rfl) (by kernel_rfl) (fun _ _ _ h => h) (Or.inl ⟨by rfl, ?hyu4⟩) (by assumption) ?restu4
    case hyu4 => (intro V hSw; obtain ⟨hSw1, hSw2⟩ := hSw; go_simp) <;> with_reducible rfl
    try simp only [Act.put, List.getElem_toArray, List.getElem_cons_succ, List.getElem_cons_zero, List.setIfInBounds_toArray, List.set_cons_zero, List.set_cons_succ]
    refine wpAnyH_done (by kernel_rfl) ?_ _
    go_wp2_with fail
    refine bodyPost_ret (results_cell_tt rfl _ _ _ ⟨w.heap.size + 1, 0, none⟩ (.agg g9) rfl (run_loadVar_row _ (w.heap.size + 1) 26 26 _ (0, 0) _ (HG9.out.2.2.2.2.2.row _) Tryz.underlying26 rfl HG9.out.2.2.1)) rfl ?_
    rw [HF.out]
    refine ⟨grown_row (show w.grownBy W3.drew none from grown_drew H3.out.2.1) (.inl (by omega)) _, A1, c1, by rw [HG9.out.1]; rfl, VdsAt.farRow (show VdsAt W3.drew A1 g.V from H3.out.2.2.2.2.1) H3.out.2.2.2.2.2 (by omega) _, fun hne a ha => by have := H3.out.2.2.2.2.2 hne a ha; omega⟩
  have a1 : decide ((8 : Int) < (N : Int)) = false := by simp; omega
  have hN8 : N ≤ 8 := by omega
  have HF := Lib.hid (show walkF QF g L = walkG QF 0 g L by rw [walkF, HL.out.2, if_neg h8])
  clear h8
  go_wp2_with fail
  clear a1
  go_loopw [22] (fun i wr => ∃ (k : Nat) (g' : Gd) (Ak : Option Addr) (ck : Nat), k ≤ N ∧ i = .int .i64 (k : Int) ∧ Hid (Blk wr w.heap.size 26 (g'.val Ak ck) ∧ g'.ok ∧ VdsAt wr Ak g'.V ∧ FarV (w.heap.size + 2) Ak g'.V ∧ w.grownBy wr none ∧ Blk wr (w.heap.size + 1) 26 GZ ∧ walkG QF 0 g L = walkG QF k g' (L.drop k))) (fun i _ => N - (intOf i).toNat)
  case atStart => exact ⟨0, g, A1, c1, Nat.zero_le _, rfl, Lib.hid ⟨H3.out.2.2.1, HGD.out.1, H3.out.2.2.2.2.1, H3.out.2.2.2.2.2, H3.out.2.1, H3.out.2.2.2.1, rfl⟩⟩
  case round =>
    obtain ⟨k, g', Ak, ck, hk, hi, HH⟩ := hrel
    obtain ⟨I, hI⟩ : ∃ I : Int, I = (k : Int) := ⟨_, rfl⟩
    rw [← hI] at hi
    subst hi
    by_cases hlt : k < N
    · have d1 : decide (I < (N : Int)) = true := by simp; omega
      have hIV : I < (N : Int) := by omega
      have hI0 : 0 ≤ I ∧ I < 1000 := by omega
      have hkI : I.toNat = k := by omega
      have hLne : L ≠ [] := by rintro rfl; have := HL.out.2; simp at this; omega
      obtain ⟨b, off, hA2, hD2⟩ := HL.out.1.1 hLne
      subst hA2
      have hkl : k < L.length := by rw [HL.out.2]; exact hlt
      obtain ⟨ch, hch⟩ : ∃ ch, L[k] = ch := ⟨_, rfl⟩
      have hmem : ch ∈ L := by rw [← hch]; exact List.getElem_mem hkl
      obtain ⟨cv, hcv⟩ : ∃ cv, ch.val = cv := ⟨_, rfl⟩
      have hr : wr.rangeAt b (off + I.toNat * 136) cv.toList := by
        have := hD2 k hkl
        rw [hch, hcv] at this
        rw [hkI]
        exact range_kept this HH.out.2.2.2.2.1
      have hcs : cv.size = 136 := by rw [← hcv]; exact Ch.size (HL.out.1.2 ch hmem)
      have hco : (cv.all fun v => v.oneCell') = true := by rw [← hcv]; exact Ch.one (HL.out.1.2 ch hmem)
      have hdr : L.drop k = ch :: L.drop (k + 1) := by rw [← hch]; exact List.drop_eq_getElem_cons hkl
      have HA := Lib.hid (And.intro hr (And.intro (show (Tryz.prog.info? 54).map (·.size) = some cv.size by rw [hcs]; exact sz_CGq) (And.intro (show ZC.size = cv.size by rw [hcs, HS.out.2.2.2.2]) (And.intro hco (And.intro hcv (And.intro hmem (And.intro hdr (And.intro hI hlt))))))))
      clear hr hcs hch hcv hI hkl hD2 hkI hlt hLne hmem hco hdr
      go_upto_region 6 with (fail)
      obtain ⟨q9, hq9⟩ : ∃ q, wr.heap.size = q := ⟨_, rfl⟩
      obtain ⟨W9, hW9⟩ : ∃ W, (wr.alloc (.cells ZC 54)).setRow q9 cv = W := ⟨_, rfl⟩
      have bn9 : Blk (wr.alloc (.cells ZC 54)) q9 54 ZC := by rw [← hq9]; exact Blk.new wr 54 ZC
      have b9 : Blk W9 q9 54 cv := by rw [← hW9]; exact bn9.row _
      have g9 : wr.grownBy W9 none := by rw [← hW9]; exact grown_row (World.grownBy_alloc _ _ none) (.inl (by rw [hq9]; exact Nat.le_refl _)) _
      have H9 := Lib.hid (And.intro bn9 (And.intro hW9 (And.intro b9 g9)))
      clear bn9 hW9 b9 g9
      go_upto_region 7 with (first
        | (refine wpList_load_mid rfl 54 _ rfl (b) (off + I.toNat * 136) rfl cv.toList _ HA.out.1 Tryz.underlying54 rfl (by rw [Array.length_toList]; exact HA.out.2.1) ?_; rw [Array.toArray_toList])
        | (refine wpList_store_row rfl 54 _ _ rfl (q9) cv rfl rfl 54 _ H9.out.1 (HA.out.2.1) (HA.out.2.2.1) HA.out.2.2.2.1 ?_))
      rw [H9.out.2.1]
      clear hq9
      obtain ⟨gk, hgk⟩ : ∃ gv, g'.val Ak ck = gv := ⟨_, rfl⟩
      have hgks : gk.size = 18 := by rw [← hgk]; exact Gd.size HH.out.2.1 _ _
      have HK := Lib.hid (And.intro hgk (And.intro (show (Tryz.prog.info? 26).map (·.size) = some gk.size by rw [hgks]; exact sz_Gre) (And.intro hgks (And.intro (show Blk W9 w.heap.size 26 gk by rw [← hgk]; exact HH.out.1.grown H9.out.2.2.2 (by simp)) (show (gk.all fun v => v.oneCell') = true by rw [← hgk]; exact Gd.one _ _ _)))))
      clear hgk hgks
      go_wp2_with (first
        | (refine wpList_load_mid rfl 26 _ rfl (w.heap.size) 0 rfl gk.toList _ (range_blk0 HK.out.2.2.2.1) Tryz.underlying26 rfl (by rw [Array.length_toList]; exact HK.out.2.1) ?_; rw [Array.toArray_toList])
        | (refine wpList_load_mid rfl 54 _ rfl (q9) 0 rfl cv.toList _ (range_blk0 H9.out.2.2.1) Tryz.underlying54 rfl (by rw [Array.length_toList]; exact HA.out.2.1) ?_; rw [Array.toArray_toList]))
      refine (HOV.out W9 (grown_trans HH.out.2.2.2.2.1 H9.out.2.2.2) g' Ak ck HH.out.2.1 (HH.out.2.2.1.grown H9.out.2.2.2) gk HK.out.1 ch HA.out.2.2.2.2.2.1 cv HA.out.2.2.2.2.1).mono ?_
      rintro e' w10 ⟨g10, ⟨m, hst, rfl⟩ | ⟨hst, A10, c10, rfl, hV10, hF10⟩⟩
      · have HST := Lib.hid hst
        clear hst
        rw [HS.out.2.2.2.1]
        have HGg10 := Lib.hid g10
        clear g10
        obtain ⟨q11, hq11⟩ : ∃ q, w10.heap.size = q := ⟨_, rfl⟩
        obtain ⟨W11, hW11⟩ : ∃ W, (w10.alloc (.cells GZ 26)).setRow q11 GZ = W := ⟨_, rfl⟩
        have bn11 : Blk (w10.alloc (.cells GZ 26)) q11 26 GZ := by rw [← hq11]; exact Blk.new w10 26 GZ
        have b11 : Blk W11 q11 26 GZ := by rw [← hW11]; exact bn11.row _
        have g11 : w10.grownBy W11 none := by rw [← hW11]; exact grown_row (World.grownBy_alloc _ _ none) (.inl (by rw [hq11]; exact Nat.le_refl _)) _
        have HP11 := Lib.hid (And.intro bn11 hW11)
        have HB11 := Lib.hid b11
        clear bn11 hW11 b11
        have HGg11 := Lib.hid g11
        clear g11
        go_upto_region 8 with (refine wpList_store_row rfl 26 _ _ rfl (q11) GZ rfl rfl 26 _ HP11.out.1 (HS.out.1) (rfl) HS.out.2.1 ?_)
        rw [HP11.out.2]
        clear hq11
        have HB := Lib.hid (And.intro (HK.out.2.2.2.1.grown (grown_trans HGg10.out HGg11.out) (by simp)) (show Blk W11 (w.heap.size + 1) 26 GZ from HH.out.2.2.2.2.2.1.grown (grown_trans H9.out.2.2.2 (grown_trans HGg10.out HGg11.out)) (by simp)))
        go_wp2_with (first
          | (refine wpList_load_mid rfl 26 _ rfl (w.heap.size) 0 rfl gk.toList _ (range_blk0 HB.out.1) Tryz.underlying26 rfl (by rw [Array.length_toList]; exact HK.out.2.1) ?_; rw [Array.toArray_toList])
          | (refine wpList_store_row rfl 26 _ _ rfl (w.heap.size + 1) gk rfl rfl 26 _ HB.out.2 (HK.out.2.1) ((by rw [HS.out.2.2.1, HK.out.2.2.1])) HK.out.2.2.2.2 ?_))
        refine bodyPost_ret (results_cell_tt rfl _ _ _ ⟨w.heap.size + 1, 0, none⟩ (.agg gk) rfl (run_loadVar_row _ (w.heap.size + 1) 26 26 _ (0, 0) _ (HB.out.2.row _) Tryz.underlying26 rfl HK.out.2.1)) rfl ?_
        have hw : walkF QF g L = (g', k, m + 1) := by
          rw [HF.out, HH.out.2.2.2.2.2.2, HA.out.2.2.2.2.2.2.1, walkG, if_pos (by rw [HST.out]; exact Nat.succ_ne_zero m), HST.out]
        rw [hw]
        have gr : wr.grownBy W11 none := grown_trans H9.out.2.2.2 (grown_trans HGg10.out HGg11.out)
        refine ⟨grown_row (grown_trans HH.out.2.2.2.2.1 gr) (.inl (by omega)) _, Ak, ck, by rw [HK.out.1, ← HA.out.2.2.2.2.2.2.2.1]; rfl, (HH.out.2.2.1.grown gr).farRow HH.out.2.2.2.1 (by omega) _, fun hne a ha => by have := HH.out.2.2.2.1 hne a ha; omega⟩
      obtain ⟨g2', hg2'⟩ : ∃ g2, (stepG QF g' ch).2 = g2 := ⟨_, rfl⟩
      have ok2 : g2'.ok := by rw [← hg2']; exact stepG_ok (HL.out.1.2 ch HA.out.2.2.2.2.2.1) hst
      have hwk : walkG QF 0 g L = walkG QF (k + 1) g2' (L.drop (k + 1)) := by
        rw [HH.out.2.2.2.2.2.2, HA.out.2.2.2.2.2.2.1, walkG, if_neg (by rw [hst]; simp), hg2']
      rw [hg2'] at hV10 hF10 ⊢
      obtain ⟨g11v, hg11v⟩ : ∃ v, g2'.val A10 c10 = v := ⟨_, rfl⟩
      rw [hg11v]
      have hs11 : g11v.size = 18 := by rw [← hg11v]; exact Gd.size ok2 _ _
      have HN := Lib.hid (And.intro ok2 (And.intro hwk (And.intro hg11v (And.intro (show (Tryz.prog.info? 26).map (·.size) = some g11v.size by rw [hs11]; exact sz_Gre) (And.intro (show GZ.size = g11v.size by rw [hs11, HS.out.2.2.1]) (And.intro (show (g11v.all fun v => v.oneCell') = true by rw [← hg11v]; exact Gd.one _ _ _) (And.intro (show gk.size = g11v.size by rw [hs11, HK.out.2.2.1]) (And.intro hV10 hF10))))))))
      clear ok2 hwk hg11v hs11 hV10 hF10 hg2' hst
      have HGg10 := Lib.hid g10
      clear g10
      obtain ⟨q11, hq11⟩ : ∃ q, w10.heap.size = q := ⟨_, rfl⟩
      obtain ⟨W11, hW11⟩ : ∃ W, (w10.alloc (.cells GZ 26)).setRow q11 g11v = W := ⟨_, rfl⟩
      have bn11 : Blk (w10.alloc (.cells GZ 26)) q11 26 GZ := by rw [← hq11]; exact Blk.new w10 26 GZ
      have b11 : Blk W11 q11 26 g11v := by rw [← hW11]; exact bn11.row _
      have g11 : w10.grownBy W11 none := by rw [← hW11]; exact grown_row (World.grownBy_alloc _ _ none) (.inl (by rw [hq11]; exact Nat.le_refl _)) _
      have HP11 := Lib.hid (And.intro bn11 hW11)
      have HB11 := Lib.hid b11
      clear bn11 hW11 b11
      have HGg11 := Lib.hid g11
      clear g11
      go_upto_region 8 with (refine wpList_store_row rfl 26 _ _ rfl (q11) g11v rfl rfl 26 _ HP11.out.1 (HN.out.2.2.2.1) (HN.out.2.2.2.2.1) HN.out.2.2.2.2.2.1 ?_)
      rw [HP11.out.2]
      clear hq11
      have hb11 : Blk W11 w.heap.size 26 gk := HK.out.2.2.2.1.grown (grown_trans HGg10.out HGg11.out) (by simp)
      have gr : wr.grownBy W11 none := grown_trans H9.out.2.2.2 (grown_trans HGg10.out HGg11.out)
      have hf : FarV (w.heap.size + 2) A10 g2'.V := fun hne a ha => by
        have h1 := HN.out.2.2.2.2.2.2.2.2 hne a ha
        have h2 := (HH.out.2.2.2.2.2.1.grown H9.out.2.2.2 (by simp)).lt
        omega
      obtain ⟨W12, hW12⟩ : ∃ W, W11.setRow w.heap.size g11v = W := ⟨_, rfl⟩
      have b12 : Blk W12 w.heap.size 26 (g2'.val A10 c10) := by rw [HN.out.2.2.1, ← hW12]; exact hb11.row _
      have g12 : w.grownBy W12 none := by rw [← hW12]; exact grown_row (grown_trans HH.out.2.2.2.2.1 gr) (.inl (Nat.le_refl _)) _
      have v12 : VdsAt W12 A10 g2'.V := by rw [← hW12]; exact (HN.out.2.2.2.2.2.2.2.1.grown HGg11.out).farRow hf (by omega) _
      have z12 : Blk W12 (w.heap.size + 1) 26 GZ := by rw [← hW12]; exact (HH.out.2.2.2.2.2.1.grown gr (by simp)).farRow (by omega) _
      have hw1 := w64 (I + 1) ⟨by omega, by omega⟩
      have H12 := Lib.hid (And.intro hb11 (And.intro hW12 (And.intro b12 (And.intro HN.out.1 (And.intro v12 (And.intro hf (And.intro g12 (And.intro z12 HN.out.2.1))))))))
      clear hb11 gr hf hW12 b12 g12 v12 z12
      go_upto_region 11 with (first
        | (refine wpList_load_mid rfl 26 _ rfl (q11) 0 rfl g11v.toList _ (range_blk0 HB11.out) Tryz.underlying26 rfl (by rw [Array.length_toList]; exact HN.out.2.2.2.1) ?_; rw [Array.toArray_toList])
        | (refine wpList_store_row rfl 26 _ _ rfl (w.heap.size) g11v rfl rfl 26 _ H12.out.1 (HN.out.2.2.2.1) (HN.out.2.2.2.2.2.2.1) HN.out.2.2.2.2.2.1 ?_))
      rw [H12.out.2.1]
      go_wp2_with fail
      go_roundw
      case rel =>
        have h1 := HA.out.2.2.2.2.2.2.2
        have h3 : ((k + 1 : Nat) : Int) = I + 1 := by have := h1.1; omega
        exact ⟨k + 1, g2', A10, c10, by omega, by rw [h3], Lib.hid H12.out.2.2⟩
      case measure =>
        have h1 := HA.out.2.2.2.2.2.2.2
        simp only [intOf]
        omega
    · have d1 : decide (I < (N : Int)) = false := by simp; omega
      have hkN : k = N := by omega
      have hw : walkF QF g L = (g', N, 0) := by
        rw [HF.out, HH.out.2.2.2.2.2.2, hkN, List.drop_eq_nil_of_le (by rw [HL.out.2]; exact Nat.le_refl _), walkG]
      obtain ⟨gk, hgk⟩ : ∃ gv, g'.val Ak ck = gv := ⟨_, rfl⟩
      have hgks : gk.size = 18 := by rw [← hgk]; exact Gd.size HH.out.2.1 _ _
      have HK := Lib.hid (And.intro hgk (And.intro (show (Tryz.prog.info? 26).map (·.size) = some gk.size by rw [hgks]; exact sz_Gre) (And.intro hgks (And.intro (show Blk wr w.heap.size 26 gk by rw [← hgk]; exact HH.out.1) (And.intro (show (gk.all fun v => v.oneCell') = true by rw [← hgk]; exact Gd.one _ _ _) hw)))))
      clear hgk hgks hw hkN hI
      go_wp2_with (first
        | (refine wpList_load_mid rfl 26 _ rfl (w.heap.size) 0 rfl gk.toList _ (range_blk0 HK.out.2.2.2.1) Tryz.underlying26 rfl (by rw [Array.length_toList]; exact HK.out.2.1) ?_; rw [Array.toArray_toList])
        | (refine wpList_store_row rfl 26 _ _ rfl (w.heap.size + 1) gk rfl rfl 26 _ HH.out.2.2.2.2.2.1 (HK.out.2.1) ((by rw [HS.out.2.2.1, HK.out.2.2.1])) HK.out.2.2.2.2.1 ?_))
      refine bodyPost_ret (results_cell_tt rfl _ _ _ ⟨w.heap.size + 1, 0, none⟩ (.agg gk) rfl (run_loadVar_row _ (w.heap.size + 1) 26 26 _ (0, 0) _ (HH.out.2.2.2.2.2.1.row _) Tryz.underlying26 rfl HK.out.2.1)) rfl ?_
      rw [HK.out.2.2.2.2.2]
      refine ⟨grown_row HH.out.2.2.2.2.1 (.inl (by omega)) _, Ak, ck, by rw [HK.out.1]; rfl, HH.out.2.2.1.farRow HH.out.2.2.2.1 (by omega) _, fun hne a ha => by have := HH.out.2.2.2.1 hne a ha; omega⟩
end Go.Proofs.YtmoebkdbnldbdaaGreatDoor
/-
  Proofs: a ground and what is asked of it, as far as no signature is asked.
-/
namespace Go.Proofs.YtmoebkdbnldbdaaGreatDoor
open Go.RowKit

def grC (e : Int) (vs : Value) (G : Array Value) : Array Value := #[.int .i64 e, vs] ++ G
def qcC (e r : Int) (B : Array Value) (vs : Value) : Array Value := #[.int .i64 e, .int .i64 r] ++ (B ++ #[vs])
def tcC (e r : Int) (vs : Value) : Array Value := #[.int .i64 e, .int .i64 r, vs]
theorem grC_size {e : Int} {vs : Value} {G : Array Value} (h : G.size = 16) : (grC e vs G).size = 18 := by simp [grC, h]
theorem qcC_size {e r : Int} {vs : Value} {B : Array Value} (h : B.size = 16) : (qcC e r B vs).size = 19 := by simp [qcC, h]
theorem info18 : (Tryz.prog.info? 26).map (·.size) = some 18 := by kernel_rfl
theorem info19 : (Tryz.prog.info? 46).map (·.size) = some 19 := by kernel_rfl
theorem info16g : (Tryz.prog.info? 24).map (·.size) = some 16 := by kernel_rfl
theorem range_blkK21 {w : World} {g : Nat} {t : TypeId} {cs : Array Value} (h : Blk w g t cs) : w.rangeAt g 0 cs.toList := fun j v hv => by
  rw [Nat.zero_add, h.cell, ← Array.getElem?_toList]; exact hv
theorem range_part {w : World} {g o : Nat} {a b c : List Value} (h : w.rangeAt g o (a ++ (b ++ c))) : w.rangeAt g (o + a.length) b := fun j v hv => by
  have hj := (List.getElem?_eq_some_iff.1 hv).1
  have := h (a.length + j) v (by rw [List.getElem?_append_right (by omega), Nat.add_sub_cancel_left, List.getElem?_append_left hj]; exact hv)
  rwa [← Nat.add_assoc] at this
theorem gr_cellsK21 {w : World} {q : Nat} {t : TypeId} {e : Int} {vs : Value} {G : Array Value} (h : Blk w q t (grC e vs G)) :
    w.cell? ⟨q, 0, none⟩ = some (.int .i64 e) ∧ w.cell? ⟨q, 1, none⟩ = some vs ∧ w.rangeAt q 2 G.toList := by
  have r := range_blkK21 h
  rw [show (grC e vs G).toList = [.int .i64 e, vs] ++ (G.toList ++ []) by simp [grC]] at r
  refine ⟨by have := r 0 _ rfl; simpa using this, by have := r 1 _ rfl; simpa using this, ?_⟩
  have := range_part r
  rwa [Nat.zero_add] at this
theorem qc_cells {w : World} {q : Nat} {t : TypeId} {e r : Int} {vs : Value} {B : Array Value} (hB : B.size = 16) (h : Blk w q t (qcC e r B vs)) :
    w.cell? ⟨q, 0, none⟩ = some (.int .i64 e) ∧ w.cell? ⟨q, 1, none⟩ = some (.int .i64 r) ∧ w.rangeAt q 2 B.toList ∧ w.cell? ⟨q, 18, none⟩ = some vs := by
  have r0 := range_blkK21 h
  have e1 : (qcC e r B vs).toList = [.int .i64 e, .int .i64 r] ++ (B.toList ++ [vs]) := by simp [qcC]
  rw [e1] at r0
  refine ⟨by have := r0 0 _ rfl; simpa using this, by have := r0 1 _ rfl; simpa using this, ?_, ?_⟩
  · have := range_part r0
    rwa [Nat.zero_add] at this
  · have := r0 18 vs (by rw [List.getElem?_append_right (by simp), List.getElem?_append_right (by simp [hB])]; simp [hB])
    rwa [Nat.zero_add] at this
/-- The errors' numbers. -/
def beginN (V : List Vd) (e ep : Int) : Nat := if rightS V = false then 11 else if ep = e then 0 else 18
def turnN (V : List Vd) (e ep r : Int) : Nat := if beginN V e ep ≠ 0 then beginN V e ep else if r < 1 ∨ 1099511627776 < r then 14 else 0
def firstN (V : List Vd) (e qe : Int) (Bl Gl : List Int) (n2 : Nat) : Nat := if beginN V e qe ≠ 0 then beginN V e qe else if Bl = Gl ∧ n2 = 0 then 0 else 12
theorem evOf_pos (E : Nat → Addr) {k : Nat} (h : k ≠ 0) : ∃ a, evOf E k = errV a := by
  cases k with
  | zero => exact absurd rfl h
  | succ k => exact ⟨E k, rfl⟩
section
variable {B : Nat} {E : Nat → Addr} {e : Int} {A : Option Addr} {c : Nat} {V : List Vd} {Gl : List Int} {G : Array Value}
variable (w : World) (he : ErrEnv w B E) (hV : VdsAt w A V) (ok : keysOk V) (hl : V.length < 1000) (hG : G = arrV .u8 Gl) (hGl : Gl.length = 16) (gv : Array Value) (hgv : gv = grC e (.slice A V.length c) G)
include he hV ok hl hG hGl hgv
set_option maxRecDepth 100000 in
set_option maxHeartbeats 1000000 in
theorem begin_is (ep : Int) : Calls Tryz.prog 70 #[.agg gv, .int .i64 ep] w fun e' w' => e' = .returned (evOf E (beginN V e ep)) ∧ w.grownBy w' none := by
  obtain ⟨q, hq⟩ : ∃ q, w.heap.size = q := ⟨_, rfl⟩
  obtain ⟨w1, hw1⟩ : ∃ w1, w.alloc (.cells gv 26) = w1 := ⟨_, rfl⟩
  have g1 : w.grownBy w1 none := by rw [← hw1]; exact World.grownBy_alloc _ _ none
  have b1 : Blk w1 q 26 (grC e (.slice A V.length c) G) := by rw [← hw1, ← hq, ← hgv]; exact Blk.new _ _ _
  obtain ⟨x0, x1, _⟩ := gr_cellsK21 b1
  have HC := Lib.hid (check_is w1 A c B V (E 10) (fun hne => by
    obtain ⟨b, off, eA, hc⟩ := hV hne
    exact ⟨b, off, eA, fun k hk => range_kept (hc k hk) g1⟩) ok hl ((he.grown g1 (fun _ e => by cases e)).var 10 (by omega)))
  have HX := Lib.hid (And.intro he (And.intro g1 b1))
  have HW := Lib.hid (And.intro hw1 hq)
  obtain ⟨n, hn⟩ : ∃ n, V.length = n := ⟨_, rfl⟩
  rw [hn] at HC x1
  have hG2 := And.intro hG hGl
  clear hG2
  clear he hV ok hl hG hGl hgv g1 b1 hw1 hq hn
  go_enter Tryz.func70, Tryz.ntmps70
  go_upto_region 1 with (fail)
  rw [HW.out.1, HW.out.2]
  go_wp2_with fail
  refine HC.out.mono ?_
  clear HC
  rintro e' w2 ⟨g2, ⟨hr, rfl⟩ | ⟨hr, rfl⟩⟩
  · have g12 := grown_trans HX.out.2.1 g2
    obtain ⟨y0, y1, _⟩ := gr_cellsK21 (HX.out.2.2.grown g2 (by simp))
    by_cases hep : ep = e
    · have HN := Lib.hid (And.intro g12 (show beginN V e ep = 0 by rw [beginN, if_neg (by simp [hr]), if_pos hep]))
      have d1 : (ep == e) = true := by simp [hep]
      clear hep g2 g12 hr x0 x1
      go_wp2_with fail
      go_ret
      exact ⟨by rw [HN.out.2]; rfl, HN.out.1⟩
    · have HN := Lib.hid (And.intro g12 (show beginN V e ep = 18 by rw [beginN, if_neg (by simp [hr]), if_neg hep]))
      have d1 : (ep == e) = false := by simp [hep]
      have ve : w2.cell? ⟨17, 0, none⟩ = some (errV (E 17)) := ((HX.out.1.grown g12 (fun _ e => by cases e)).var 17 (by omega)).1
      clear hep g2 g12 hr x0 x1
      go_wp2_with fail
      go_ret
      exact ⟨by rw [HN.out.2]; rfl, HN.out.1⟩
  · have HN := Lib.hid (And.intro (grown_trans HX.out.2.1 g2) (show beginN V e ep = 11 by rw [beginN, if_pos hr]))
    clear g2 hr x0 x1
    go_wp2_with fail
    go_ret
    exact ⟨by rw [HN.out.2]; rfl, HN.out.1⟩
set_option maxRecDepth 100000 in
set_option maxHeartbeats 1000000 in
theorem turn_is (ep r : Int) : Calls Tryz.prog 55 #[.agg gv, .int .i64 ep, .int .i64 r] w fun e' w' => e' = .returned (evOf E (turnN V e ep r)) ∧ w.grownBy w' none := by
  obtain ⟨q, hq⟩ : ∃ q, w.heap.size = q := ⟨_, rfl⟩
  obtain ⟨w1, hw1⟩ : ∃ w1, w.alloc (.cells gv 26) = w1 := ⟨_, rfl⟩
  have g1 : w.grownBy w1 none := by rw [← hw1]; exact World.grownBy_alloc _ _ none
  have b1 : Blk w1 q 26 gv := by rw [← hw1, ← hq]; exact Blk.new _ _ _
  have hs : gv.size = 18 := by rw [hgv]; exact grC_size (by rw [hG, arr_size, hGl])
  have HC := Lib.hid (begin_is w1 (he.grown g1 (fun _ e => by cases e)) (fun hne => by
    obtain ⟨b, off, eA, hc⟩ := hV hne
    exact ⟨b, off, eA, fun k hk => range_kept (hc k hk) g1⟩) ok hl hG hGl gv hgv ep)
  have HX := Lib.hid (And.intro he (And.intro g1 (And.intro b1 hs)))
  have HW := Lib.hid (And.intro hw1 hq)
  clear he hV ok hl hG hGl hgv g1 b1 hs hw1 hq
  go_enter Tryz.func55, Tryz.ntmps55
  go_upto_region 1 with (fail)
  rw [HW.out.1, HW.out.2]
  go_wp2_with (first
    | (refine wpList_load_row rfl 26 _ rfl q rfl 26 gv (0, 0) _ HX.out.2.2.1 Tryz.underlying26 rfl (by rw [HX.out.2.2.2]; exact info18) ?_))
  refine HC.out.mono ?_
  clear HC
  rintro e' w2 ⟨rfl, g2⟩
  have HG := Lib.hid (grown_trans HX.out.2.1 g2)
  clear g2
  by_cases hb : beginN V e ep = 0
  · have hE : evOf E (beginN V e ep) = .nilIface := by rw [hb]; rfl
    rw [hE]
    by_cases hr : r < 1 ∨ 1099511627776 < r
    · have HN := Lib.hid (show turnN V e ep r = 14 by rw [turnN, if_neg (by simp [hb]), if_pos hr])
      have ve : w2.cell? ⟨13, 0, none⟩ = some (errV (E 13)) := ((HX.out.1.grown HG.out (fun _ e => by cases e)).var 13 (by omega)).1
      have dd : decide (r < 1) = true ∨ (decide (r < 1) = false ∧ decide (1099511627776 < r) = true) := by simp; omega
      clear hb hE hr
      rcases dd with d1 | ⟨d1, d2⟩
      · go_wp2_with fail
        go_ret
        exact ⟨by rw [HN.out]; rfl, HG.out⟩
      · go_wp2_with fail
        go_ret
        exact ⟨by rw [HN.out]; rfl, HG.out⟩
    · have HN := Lib.hid (show turnN V e ep r = 0 by rw [turnN, if_neg (by simp [hb]), if_neg hr])
      have d1 : decide (r < 1) = false := by simp; omega
      have d2 : decide (1099511627776 < r) = false := by simp; omega
      clear hb hE hr
      go_wp2_with fail
      go_ret
      exact ⟨by rw [HN.out]; rfl, HG.out⟩
  · obtain ⟨a, ha⟩ := evOf_pos E hb
    have HN := Lib.hid (And.intro (show turnN V e ep r = beginN V e ep by rw [turnN, if_pos hb]) ha)
    rw [ha]
    clear hb ha
    go_wp2_with fail
    go_ret
    exact ⟨by rw [HN.out.1, HN.out.2]; rfl, HG.out⟩
set_option maxRecDepth 100000 in
set_option maxHeartbeats 1000000 in
theorem first_isK21 (qe qr : Int) (Bl : List Int) (hBl : Bl.length = 16) (Bv : Array Value) (hB : Bv = arrV .u8 Bl) (A2 : Option Addr) (n2 c2 : Nat) (qv : Array Value) (hqv : qv = qcC qe qr Bv (.slice A2 n2 c2)) :
    Calls Tryz.prog 54 #[.agg gv, .agg qv] w fun e' w' => e' = .returned (evOf E (firstN V e qe Bl Gl n2)) ∧ w.grownBy w' none := by
  obtain ⟨q, hq⟩ : ∃ q, w.heap.size = q := ⟨_, rfl⟩
  obtain ⟨w1, hw1⟩ : ∃ w1, (w.alloc (.cells gv 26)).alloc (.cells qv 46) = w1 := ⟨_, rfl⟩
  have g1 : w.grownBy w1 none := by rw [← hw1]; exact grown_trans (World.grownBy_alloc _ _ none) (World.grownBy_alloc _ _ none)
  have b1 : Blk w1 q 26 gv := by rw [← hw1, ← hq]; exact (Blk.new _ _ _).alloc _
  have b2 : Blk w1 (q + 1) 46 qv := by
    have h := Blk.new (w.alloc (.cells gv 26)) 46 qv
    rw [World.size_alloc, hq, hw1] at h
    exact h
  have hG16 : G.size = 16 := by rw [hG, arr_size, hGl]
  have hB16 : Bv.size = 16 := by rw [hB, arr_size, hBl]
  have hs : gv.size = 18 := by rw [hgv]; exact grC_size hG16
  have HC := Lib.hid (begin_is w1 (he.grown g1 (fun _ e => by cases e)) (fun hne => by
    obtain ⟨b, off, eA, hc⟩ := hV hne
    exact ⟨b, off, eA, fun k hk => range_kept (hc k hk) g1⟩) ok hl hG hGl gv hgv qe)
  have heq : ∀ V, Sem.run Tryz.prog (Op.equalIn 10000 24 (.agg Bv) (.agg G)) V = .ok (decide (Bl = Gl)) V := fun V => by
    rw [hB, hG]
    exact eq_arr V 9998 Tryz.underlying24 (by kernel_rfl) Tryz.underlying5 (by kernel_rfl) (by kernel_rfl) Bl Gl hBl hGl
  obtain ⟨x0, _, _, _⟩ := qc_cells hB16 (hqv ▸ b2)
  have HX := Lib.hid (And.intro he (And.intro g1 (And.intro b1 (And.intro hs (And.intro (show Blk w1 q 26 (grC e (.slice A V.length c) G) by rw [← hgv]; exact b1) (And.intro (show Blk w1 (q + 1) 46 (qcC qe qr Bv (.slice A2 n2 c2)) by rw [← hqv]; exact b2) (And.intro hG16 hB16)))))))
  have HQ := Lib.hid heq
  have HW := Lib.hid (And.intro hw1 hq)
  clear he hV ok hl hG hGl hgv g1 b1 b2 hs hw1 hq hBl hB hqv hG16 hB16 heq
  go_enter Tryz.func54, Tryz.ntmps54
  go_upto_region 1 with (fail)
  rw [HW.out.1, HW.out.2]
  go_wp2_with (first
    | (refine wpList_load_row rfl 26 _ rfl q rfl 26 gv (0, 0) _ HX.out.2.2.1 Tryz.underlying26 rfl (by rw [HX.out.2.2.2.1]; exact info18) ?_))
  refine HC.out.mono ?_
  clear HC x0
  rintro e' w2 ⟨rfl, g2⟩
  obtain ⟨_, _, rG⟩ := gr_cellsK21 (HX.out.2.2.2.2.1.grown g2 (by simp))
  obtain ⟨_, _, rB, y18⟩ := qc_cells HX.out.2.2.2.2.2.2.2 (HX.out.2.2.2.2.2.1.grown g2 (by simp))
  have HG := Lib.hid (And.intro (grown_trans HX.out.2.1 g2) (And.intro rG rB))
  clear g2 rG rB
  by_cases hb : beginN V e qe = 0
  · have hE : evOf E (beginN V e qe) = .nilIface := by rw [hb]; rfl
    rw [hE]
    have ve : w2.cell? ⟨11, 0, none⟩ = some (errV (E 11)) := ((HX.out.1.grown HG.out.1 (fun _ e => by cases e)).var 11 (by omega)).1
    have hq2 := HQ.out
    obtain ⟨r, hr⟩ : ∃ r, decide (Bl = Gl) = r := ⟨_, rfl⟩
    rw [hr] at hq2
    have HR := Lib.hid (And.intro hb hr)
    clear hb hE hr
    cases r with
    | false =>
      have HN := Lib.hid (show firstN V e qe Bl Gl n2 = 12 by
        have := HR.out.2
        rw [decide_eq_false_iff_not] at this
        rw [firstN, if_neg (by simp [HR.out.1]), if_neg (fun h => this h.1)])
      go_wp2_with (first
        | (refine wpList_load_mid rfl 24 _ rfl (q + 1) 2 rfl Bv.toList _ HG.out.2.2 Tryz.underlying24 rfl (by rw [Array.length_toList, HX.out.2.2.2.2.2.2.2]; exact info16g) ?_)
        | (refine wpList_load_mid rfl 24 _ rfl q 2 rfl G.toList _ HG.out.2.1 Tryz.underlying24 rfl (by rw [Array.length_toList, HX.out.2.2.2.2.2.2.1]; exact info16g) ?_))
      go_ret
      exact ⟨by rw [HN.out]; rfl, HG.out.1⟩
    | true =>
      by_cases hn2 : n2 = 0
      · have HN := Lib.hid (show firstN V e qe Bl Gl n2 = 0 by rw [firstN, if_neg (by simp [HR.out.1]), if_pos ⟨of_decide_eq_true HR.out.2, hn2⟩])
        have d1 : decide ((0 : Int) < (n2 : Int)) = false := by simp; omega
        have d2 : decide (0 < n2) = false := by simp; omega
        go_wp2_with (first
          | (refine wpList_load_mid rfl 24 _ rfl (q + 1) 2 rfl Bv.toList _ HG.out.2.2 Tryz.underlying24 rfl (by rw [Array.length_toList, HX.out.2.2.2.2.2.2.2]; exact info16g) ?_)
          | (refine wpList_load_mid rfl 24 _ rfl q 2 rfl G.toList _ HG.out.2.1 Tryz.underlying24 rfl (by rw [Array.length_toList, HX.out.2.2.2.2.2.2.1]; exact info16g) ?_))
        go_ret
        exact ⟨by rw [HN.out]; rfl, HG.out.1⟩
      · have HN := Lib.hid (show firstN V e qe Bl Gl n2 = 12 by rw [firstN, if_neg (by simp [HR.out.1]), if_neg (fun h => hn2 h.2)])
        have d1 : decide ((0 : Int) < (n2 : Int)) = true := by simp; omega
        have d2 : decide (0 < n2) = true := by simp; omega
        go_wp2_with (first
          | (refine wpList_load_mid rfl 24 _ rfl (q + 1) 2 rfl Bv.toList _ HG.out.2.2 Tryz.underlying24 rfl (by rw [Array.length_toList, HX.out.2.2.2.2.2.2.2]; exact info16g) ?_)
          | (refine wpList_load_mid rfl 24 _ rfl q 2 rfl G.toList _ HG.out.2.1 Tryz.underlying24 rfl (by rw [Array.length_toList, HX.out.2.2.2.2.2.2.1]; exact info16g) ?_))
        go_ret
        exact ⟨by rw [HN.out]; rfl, HG.out.1⟩
  · obtain ⟨a, ha⟩ := evOf_pos E hb
    have HN := Lib.hid (And.intro (show firstN V e qe Bl Gl n2 = beginN V e qe by rw [firstN, if_pos hb]) ha)
    rw [ha]
    clear hb ha
    go_wp2_with fail
    go_ret
    exact ⟨by rw [HN.out.1, HN.out.2]; rfl, HG.out.1⟩
end
end Go.Proofs.YtmoebkdbnldbdaaGreatDoor
