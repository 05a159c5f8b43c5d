/- EpS, RqC, EpT, EpU, EpV -/
import Derived.Test.YtigafnbofmiknaaGreatDoorEpQ
import Derived.Test.YtigafnbofmiknaaGreatDoorW20p
import Derived.Test.YtigafnbofmiknaaGreatDoorW20C
import Derived.Great.FillDense
import Derived.Test.YtigafnbofmiknaaGreatDoorW20w
namespace Go.Proofs.YtigafnbofmiknaaGreatDoor
set_option maxRecDepth 100000
set_option maxHeartbeats 10000000
open Go.RowKit
section
attribute [local go_sem] Oper.semAt_some
def chkN (qf : Qc -> Nat) (e : Int) (V : List Vd) (x y z : Bk) (q : Qc) : Nat :=
 if rightS V = false then 11 else if x.e ≠ e then 18 else if y.e ≠ e then 18 else if z.e ≠ e then 18
 else if rowN x y z ≠ 0 then rowN x y z else if certN qf x y z q ≠ 0 then certN qf x y z q else if rightS x.V = false then 11 else 0
theorem rowN_first {x y z : Bk} (h : rowN x y z = 0) : (bkS x).1 = 0 := by
 by_cases h1 : (bkS x).1 = 0
 · exact h1
 · unfold rowN at h
   rw [if_pos h1] at h
   exact absurd h (by decide)
theorem sFail_bad (s : WSt) : (sFail 1 s).1 ≠ 0 := by
 unfold sFail
 split
 · exact Nat.one_ne_zero
 · assumption
theorem sPut_bad {n : Nat} {most : Int} {f : WSt -> WSt} {s : WSt} (h : most < (n : Int)) : (sPut n most f s).1 ≠ 0 := by
 unfold sPut
 rw [if_pos (Or.inl h)]
 exact sFail_bad s
theorem bkS_few {x : Bk} (h : (bkS x).1 = 0) : x.V.length <= 7 := by
 by_cases h7 : x.V.length <= 7
 · exact h7
 · exact absurd h (sPut_bad (n := x.V.length) (most := 7) (by omega))
theorem zb3_run : ∃ Z : Array Value, Z.size = 48 /\ ∀ w : World, Sem.run Tryz.prog (zeroValue 64) w = .ok (.agg Z) w := ⟨arrV .u8 z48, rfl, z48run⟩
theorem zdu {w W : World} {E : Nat -> Addr} (he : ErrEnv w w.heap.size E) (hW : w.grownBy W none) : ErrEnv W W.heap.size E :=
 ⟨fun i hi => ⟨hW.cell (he.var i hi).1 (by simp), by have := (he.var i hi).2; have := hW.size; omega⟩, fun i hi => ⟨by have := ((he.row i hi).1); have := hW.size; omega, by
  obtain ⟨c, t, hc⟩ := (he.row i hi).2
  exact ⟨c, t, (hW.block _ (Array.getElem?_eq_some_iff.1 hc).1 (by simp)).trans hc⟩⟩, he.inj⟩
theorem chk_is (w : World) (E : Nat -> Addr) (hR : Rounds w) (he : ErrEnv w w.heap.size E) (e : Int) (A : Option Addr) (c n : Nat) (V : List Vd) (hn : V.length = n) (hV : VdsAt w A V) (ok : keysOk V) (hl : n < 1000) (G : Array Value) (hGs : G.size = 16) (gv : Array Value) (hgv : gv = grV e (.slice A n c) G) (qf : Qc -> Nat)
    (PQ : Qc -> Prop) (HQC : ∀ (W : World), w.grownBy W none -> ∀ (p : Qc), PQ p -> p.At W -> ∀ pv : Array Value, pv = p.val -> Calls Tryz.prog 38 #[.agg gv, .agg pv] W fun e w' => e = .returned (evOf E (qf p)) /\ W.grownBy w' none)
    (x y z : Bk) (q : Qc) (hPQ : PQ y.q /\ PQ z.q /\ PQ q) (hx : x.At w) (hy : y.At w) (hzz : z.At w) (hq : q.At w) (cv : Array Value) (hcv : cgV x y z q = cv) :
    Calls Tryz.prog 8 #[.agg gv, .agg cv] w fun e' w' => e' = .returned (evOf E (chkN qf e V x y z q)) /\ w.grownBy w' none := by
 obtain ⟨ZB, hZBs, hzb⟩ := zb_run
 obtain ⟨Z3, hZ3s, hz3⟩ := zb3_run
 have sx := vn hx
 have sy := vn hy
 have szz := vn hzz
 have ox := zae hx
 have oy := zae hy
 have oz := zae hzz
 obtain ⟨W1, hW1⟩ : ∃ W1, (w.alloc (.cells gv 26)).alloc (.cells cv 35) = W1 := ⟨_, rfl⟩
 have g1 : w.grownBy W1 none := by rw [<- hW1]; exact za (gQ) (gQ)
 have bg : Blk W1 w.heap.size 26 gv := by rw [<- hW1]; exact (Blk.new w _ _).alloc _
 have bc : Blk W1 (w.heap.size + 1) 35 (cgV x y z q) := by
  have := Blk.new (w.alloc (.cells gv 26)) 35 cv
  rw [hcv, <- hW1]; simpa using this
 obtain ⟨kg0, kg1, _⟩ := zej hGs (hgv ▸ bg)
 obtain ⟨rx, ry, rz, rq⟩ := zes sx sy szz bc
 obtain ⟨ce0, _⟩ := zbh rx
 have hrv : W1.rangeAt (w.heap.size + 1) 0 (x.val ++ (y.val ++ z.val)).toList := by
  have r := zd bc
  have e1 : (cgV x y z q).toList = [] ++ ((x.val ++ (y.val ++ z.val)).toList ++ q.val.toList) := by simp [cgV]
  rw [e1] at r
  have := zx r
  simpa using this
 have cV : W1.cell? ⟨w.heap.size + 1, 38, none⟩ = some (.slice x.A2 x.V.length x.c2) := by
  have e1 : x.val.toList[38]? = some (.slice x.A2 x.V.length x.c2) := by
   have hp : (arrV .u8 x.P).toList.length = 16 := by simp [arrV, hx.1.1]
   have hq2 : x.q.val.toList.length = 19 := by rw [Array.length_toList]; exact u5 hx.2.1
   have e2 : x.val.toList = ([.int .i64 x.e, .int .i64 x.r] ++ ((arrV .u8 x.P).toList ++ (x.q.val.toList ++ [.slice x.A x.T.length x.c]))) ++ [.slice x.A2 x.V.length x.c2] := by simp [Bk.val]
   rw [e2, List.getElem?_append_right (by simp only [List.length_append, hp, hq2, List.length_cons, List.length_nil]; omega)]
   simp only [List.length_append, hp, hq2, List.length_cons, List.length_nil]
   rfl
  have := rx 38 _ e1
  simpa using this
 obtain ⟨xv, hxv⟩ : ∃ v, x.val = v := ⟨_, rfl⟩
 obtain ⟨yv, hyv⟩ : ∃ v, y.val = v := ⟨_, rfl⟩
 obtain ⟨zv, hzv⟩ : ∃ v, z.val = v := ⟨_, rfl⟩
 obtain ⟨rv, hrw⟩ : ∃ v, x.val ++ (y.val ++ z.val) = v := ⟨_, rfl⟩
 rw [hrw] at hrv
 rw [hxv] at sx ox
 rw [hyv] at sy oy
 rw [hzv] at szz oz
 have hrw2 : rv = xv ++ (yv ++ zv) := by rw [<- hrw, hxv, hyv, hzv]
 have srv : rv.size = 117 := by rw [hrw2]; simp [sx, sy, szz]
 have ix0 : ∀ V, Sem.run Tryz.prog (Instr.index 33 (.agg rv) (.int .i64 0)) V = .ok (.agg xv) V := fun V => zad V Tryz.underlying33 Tryz.underlying32 sz_Bke rv xv 0 0 rfl (by omega) (by rw [hrw2]; simp [sx])
 have ix1 : ∀ V, Sem.run Tryz.prog (Instr.index 33 (.agg rv) (.int .i64 1)) V = .ok (.agg yv) V := fun V => zad V Tryz.underlying33 Tryz.underlying32 sz_Bke rv yv 1 1 rfl (by omega) (by rw [hrw2]; simp [sx, sy, List.drop_append, List.take_append])
 have ix2 : ∀ V, Sem.run Tryz.prog (Instr.index 33 (.agg rv) (.int .i64 2)) V = .ok (.agg zv) V := fun V => zad V Tryz.underlying33 Tryz.underlying32 sz_Bke rv zv 2 2 rfl (by omega) (by
  have e1 : xv.toList.drop 78 = [] := List.drop_eq_nil_of_le (by simp [sx])
  have e2 : zv.toList.take 39 = zv.toList := List.take_of_length_le (by simp [szz])
  rw [hrw2]; simp [sx, sy, List.drop_append, e1, e2])
 have hat : ∀ W : World, w.grownBy W none -> Rounds W /\ ErrEnv W W.heap.size E /\ VdsAt W A V /\ x.At W /\ y.At W /\ z.At W /\ q.At W := fun W hW =>
  ⟨hR.grown hW (by simp), zdu he hW, hV.grown hW, hx.grown hW, hy.grown hW, hzz.grown hW, hq.grown hW⟩
 have HCK := hQ_ (fun (W : World) (hW : w.grownBy W none) => (show Calls Tryz.prog 19 #[.slice A n c] W fun e w' => W.grownBy w' none /\ ((rightS V = true /\ e = .returned .nilIface) \/ (rightS V = false /\ e = .returned (errV (E 10)))) from by
  have := u6 W A c W.heap.size V (E 10) (hat W hW).2.2.1 ok (by omega) ((hat W hW).2.1.var 10 (by omega))
  rwa [hn] at this))
 have HCX := hQ_ (fun (W : World) (hW : w.grownBy W none) (h7 : x.V.length <= 7) => u6 W x.A2 x.c2 W.heap.size x.V (E 10) (hat W hW).2.2.2.1.2.2.2.1 (fun v hv => (hx.2.2.2.2 v hv).1) (by omega) ((hat W hW).2.1.var 10 (by omega)))
 have HRO := hQ_ (fun (W : World) (hW : w.grownBy W none) => row_is W E (hat W hW).1 ((hat W hW).2.1.var 0 (by omega)) (E 15) (E 13) ((hat W hW).2.1.var 15 (by omega)) ((hat W hW).2.1.var 13 (by omega)) x y z (hat W hW).2.2.2.1 (hat W hW).2.2.2.2.1 (hat W hW).2.2.2.2.2.1 rv hrw.symm)
 have HCE := hQ_ (fun (W : World) (hW : w.grownBy W none) (ids : Array Value) (hids : arrV .u8 (idD x ++ (idD y ++ idD z)) = ids) => certified_is W E ((hat W hW).2.1.var 11 (by omega)) gv (by rw [hgv]; exact uy hGs) qf PQ (fun W2 hW2 => HQC W2 (za hW hW2)) x y z q hPQ (hat W hW).2.2.2.1 (hat W hW).2.2.2.2.1 (hat W hW).2.2.2.2.2.1 (hat W hW).2.2.2.2.2.2 cv hcv ids hids)
 have HEE := hQ_ (fun (W : World) (hW : w.grownBy W none) => show W.cell? ⟨17, 0, none⟩ = some (errV (E 17)) from hW.cell (he.var 17 (by omega)).1 (by simp))
 obtain ⟨ex, hex⟩ : ∃ v, x.e = v := ⟨_, rfl⟩
 obtain ⟨ey, hey⟩ : ∃ v, y.e = v := ⟨_, rfl⟩
 obtain ⟨ez, hez⟩ : ∃ v, z.e = v := ⟨_, rfl⟩
 have HEX := hQ_ (aQ hex (aQ hey hez))
 have HXV := hQ_ (aQ hxv (aQ hyv hzv))
 have szb : ∀ v : Array Value, v.size = 39 -> (Tryz.prog.info? 32).map (·.size) = some v.size := fun v h => by rw [h]; exact sz_Bke
 have HSB := hQ_ (aQ (szb xv sx) (aQ (szb yv sy) (aQ (szb zv szz) (aQ ox (aQ oy (aQ oz (aQ (show ZB.size = xv.size by rw [sx, hZBs]) (aQ (show ZB.size = yv.size by rw [sy, hZBs]) (show ZB.size = zv.size by rw [szz, hZBs])))))))))
 have HSO := hQ_ (aQ (show (Tryz.prog.info? 33).map (·.size) = some rv.size by rw [srv]; exact sz_B3) (aQ (show (Tryz.prog.info? 26).map (·.size) = some gv.size by rw [hgv, uy hGs]; exact sz_Gre) (aQ (show (Tryz.prog.info? 35).map (·.size) = some cv.size by rw [<- hcv]; simp only [cgV, Array.size_append, hxv, hyv, hzv, sx, sy, szz, u5 hq]; exact sz_CGq) hZ3s)))
 have HX := hQ_ (aQ g1 (aQ (zd bg) (aQ (show W1.rangeAt (w.heap.size + 1) 0 cv.toList by rw [<- hcv]; exact zd bc) (aQ hrv (aQ kg0 (aQ kg1 cV))))))
 obtain ⟨N, hN⟩ : ∃ m, chkN qf e V x y z q = m := ⟨_, rfl⟩
 rw [hN]
 have HN := hQ_ hN
 have HW := hQ_ hW1
 clear hat hN hZBs hZ3s sx sy szz ox oy oz hW1 g1 bg bc kg0 kg1 rx ry rz rq ce0 hrv cV hxv hyv hzv hrw hrw2 srv hex hey hez szb hR he hx hy hzz hq hV ok hn hgv hGs hcv HQC hPQ
 go_enter Tryz.func8, Tryz.ntmps8
 go_upto_region 1 with (fail)
 rw [HW.out]
 have k1 := HX.out.2.2.2.2.2.1
 go_wp2_with fail
 refine (HCK.out W1 HX.out.1).mono ?_
 rintro e' w2 ⟨g2, ⟨hr, rfl⟩ | ⟨hr, rfl⟩⟩
 rotate_left
 · have hnn : N = 11 := by rw [<- HN.out]; unfold chkN; simp [hr]
   subst hnn
   clear k1 hr
   have HG := hQ_ (za HX.out.1 g2)
   clear g2
   go_wp2_with fail
   go_ret
   exact ⟨rfl, HG.out⟩
 have HRV := hQ_ hr
 clear k1 hr
 have HGg2 := hQ_ g2
 clear g2
 go_wp2_with (refine wpList_load_mid rfl 33 _ rfl (w.heap.size + 1) 0 rfl rv.toList _ (ze HX.out.2.2.2.1 HGg2.out) Tryz.underlying33 rfl (by rw [Array.length_toList]; exact HSO.out.1) ?_; rw [Array.toArray_toList])
 refine wp_loop_rounds 4 ?_
 rw [rounds_succ]
 obtain ⟨q10, hq10⟩ : ∃ q, w2.heap.size = q := ⟨_, rfl⟩
 obtain ⟨W10, hW10⟩ : ∃ W, (w2.alloc (.cells ZB 32)).setRow q10 xv = W := ⟨_, rfl⟩
 have bn10 : Blk (w2.alloc (.cells ZB 32)) q10 32 ZB := by rw [<- hq10]; exact Blk.new w2 32 ZB
 have b10 : Blk W10 q10 32 xv := by rw [<- hW10]; exact bn10.row _
 have g10 : w2.grownBy W10 none := by rw [<- hW10]; exact zc (gQ) (.inl (by rw [hq10]; exact Nat.le_refl _)) _
 have HP10 := hQ_ (aQ bn10 hW10)
 have HB10 := hQ_ b10
 clear bn10 hW10 b10
 have HGg10 := hQ_ g10
 clear g10
 go_upto_region 7 with (refine wpList_store_row rfl 32 _ _ rfl (q10) xv rfl rfl 32 _ HP10.out.1 (HSB.out.1) (HSB.out.2.2.2.2.2.2.1) HSB.out.2.2.2.1 ?_)
 rw [HP10.out.2]
 clear hq10
 have ce : W10.cell? ⟨q10, 0, none⟩ = some (.int .i64 ex) := by
  have r := zd HB10.out
  rw [<- HXV.out.1] at r
  have := (zbh r).1
  rwa [HEX.out.1] at this
 have cg : W10.cell? ⟨w.heap.size, 0, none⟩ = some (.int .i64 e) := (za HGg2.out HGg10.out).cell HX.out.2.2.2.2.1 (by simp)
 by_cases he : ex = e
 rotate_left
 · have d1 : (ex != e) = true := by simpa using he
   have hnn : N = 18 := by rw [<- HN.out]; unfold chkN; simp [HRV.out, HEX.out.1, he]
   subst hnn
   have cee := HEE.out W10 (za HX.out.1 (za HGg2.out HGg10.out))
   clear he
   go_wp2_with fail
   go_ret
   exact ⟨rfl, (za HX.out.1 (za HGg2.out HGg10.out))⟩
 have d1 : (ex != e) = false := by simpa using he
 have HEQ0 := hQ_ (show x.e = e from HEX.out.1.trans he)
 clear he
 go_wp2_with fail
 clear ce cg d1
 rw [rounds_succ]
 obtain ⟨q20, hq20⟩ : ∃ q, W10.heap.size = q := ⟨_, rfl⟩
 obtain ⟨W20, hW20⟩ : ∃ W, (W10.alloc (.cells ZB 32)).setRow q20 yv = W := ⟨_, rfl⟩
 have bn20 : Blk (W10.alloc (.cells ZB 32)) q20 32 ZB := by rw [<- hq20]; exact Blk.new W10 32 ZB
 have b20 : Blk W20 q20 32 yv := by rw [<- hW20]; exact bn20.row _
 have g20 : W10.grownBy W20 none := by rw [<- hW20]; exact zc (gQ) (.inl (by rw [hq20]; exact Nat.le_refl _)) _
 have HP20 := hQ_ (aQ bn20 hW20)
 have HB20 := hQ_ b20
 clear bn20 hW20 b20
 have HGg20 := hQ_ g20
 clear g20
 go_upto_region 7 with (refine wpList_store_row rfl 32 _ _ rfl (q20) yv rfl rfl 32 _ HP20.out.1 (HSB.out.2.1) (HSB.out.2.2.2.2.2.2.2.1) HSB.out.2.2.2.2.1 ?_)
 rw [HP20.out.2]
 clear hq20
 have ce : W20.cell? ⟨q20, 0, none⟩ = some (.int .i64 ey) := by
  have r := zd HB20.out
  rw [<- HXV.out.2.1] at r
  have := (zbh r).1
  rwa [HEX.out.2.1] at this
 have cg : W20.cell? ⟨w.heap.size, 0, none⟩ = some (.int .i64 e) := (za (za HGg2.out HGg10.out) HGg20.out).cell HX.out.2.2.2.2.1 (by simp)
 by_cases he : ey = e
 rotate_left
 · have d1 : (ey != e) = true := by simpa using he
   have hnn : N = 18 := by rw [<- HN.out]; unfold chkN; simp [HRV.out, HEQ0.out, HEX.out.2.1, he]
   subst hnn
   have cee := HEE.out W20 (za HX.out.1 (za (za HGg2.out HGg10.out) HGg20.out))
   clear he
   go_wp2_with fail
   go_ret
   exact ⟨rfl, (za HX.out.1 (za (za HGg2.out HGg10.out) HGg20.out))⟩
 have d1 : (ey != e) = false := by simpa using he
 have HEQ1 := hQ_ (show y.e = e from HEX.out.2.1.trans he)
 clear he
 go_wp2_with fail
 clear ce cg d1
 rw [rounds_succ]
 obtain ⟨q30, hq30⟩ : ∃ q, W20.heap.size = q := ⟨_, rfl⟩
 obtain ⟨W30, hW30⟩ : ∃ W, (W20.alloc (.cells ZB 32)).setRow q30 zv = W := ⟨_, rfl⟩
 have bn30 : Blk (W20.alloc (.cells ZB 32)) q30 32 ZB := by rw [<- hq30]; exact Blk.new W20 32 ZB
 have b30 : Blk W30 q30 32 zv := by rw [<- hW30]; exact bn30.row _
 have g30 : W20.grownBy W30 none := by rw [<- hW30]; exact zc (gQ) (.inl (by rw [hq30]; exact Nat.le_refl _)) _
 have HP30 := hQ_ (aQ bn30 hW30)
 have HB30 := hQ_ b30
 clear bn30 hW30 b30
 have HGg30 := hQ_ g30
 clear g30
 go_upto_region 7 with (refine wpList_store_row rfl 32 _ _ rfl (q30) zv rfl rfl 32 _ HP30.out.1 (HSB.out.2.2.1) (HSB.out.2.2.2.2.2.2.2.2) HSB.out.2.2.2.2.2.1 ?_)
 rw [HP30.out.2]
 clear hq30
 have ce : W30.cell? ⟨q30, 0, none⟩ = some (.int .i64 ez) := by
  have r := zd HB30.out
  rw [<- HXV.out.2.2] at r
  have := (zbh r).1
  rwa [HEX.out.2.2] at this
 have cg : W30.cell? ⟨w.heap.size, 0, none⟩ = some (.int .i64 e) := (za (za (za HGg2.out HGg10.out) HGg20.out) HGg30.out).cell HX.out.2.2.2.2.1 (by simp)
 by_cases he : ez = e
 rotate_left
 · have d1 : (ez != e) = true := by simpa using he
   have hnn : N = 18 := by rw [<- HN.out]; unfold chkN; simp [HRV.out, HEQ0.out, HEQ1.out, HEX.out.2.2, he]
   subst hnn
   have cee := HEE.out W30 (za HX.out.1 (za (za (za HGg2.out HGg10.out) HGg20.out) HGg30.out))
   clear he
   go_wp2_with fail
   go_ret
   exact ⟨rfl, (za HX.out.1 (za (za (za HGg2.out HGg10.out) HGg20.out) HGg30.out))⟩
 have d1 : (ez != e) = false := by simpa using he
 have HEQ2 := hQ_ (show z.e = e from HEX.out.2.2.trans he)
 clear he
 go_wp2_with fail
 clear ce cg d1
 rw [rounds_succ]
 go_wp2_with (refine wpList_load_mid rfl 33 _ rfl (w.heap.size + 1) 0 rfl rv.toList _ (ze HX.out.2.2.2.1 (za (za (za HGg2.out HGg10.out) HGg20.out) HGg30.out)) Tryz.underlying33 rfl (by rw [Array.length_toList]; exact HSO.out.1) ?_; rw [Array.toArray_toList])
 refine (HRO.out W30 (za HX.out.1 (za (za (za HGg2.out HGg10.out) HGg20.out) HGg30.out))).mono ?_
 rintro e' w41 ⟨g41, ids, hs48, ho48, hcase⟩
 obtain ⟨v2, rfl, HRW⟩ : ∃ v2 : Value, e' = .returned (.tuple #[.agg ids, v2]) /\ Hid ((rowN x y z = 0 /\ v2 = .nilIface /\ arrV .u8 (idD x ++ (idD y ++ idD z)) = ids) \/ (∃ m, rowN x y z = m + 1 /\ v2 = errV (E m))) := by
  rcases hcase with ⟨h1, h2, rfl⟩ | ⟨h1, rfl⟩ | ⟨h1, rfl⟩
  · exact ⟨_, rfl, .inl ⟨h1, rfl, h2.symm⟩⟩
  · exact ⟨_, rfl, .inr ⟨15, h1, rfl⟩⟩
  · exact ⟨_, rfl, .inr ⟨13, h1, rfl⟩⟩
 clear hcase
 have HSI := hQ_ (aQ (show (Tryz.prog.info? 64).map (·.size) = some ids.size by rw [hs48]; exact sz_D3) (aQ (show Z3.size = ids.size by rw [hs48, HSO.out.2.2.2]) (show (ids.all fun v => v.oneCell') = true by first | exact ho48 | simpa using ho48)))
 clear hs48 ho48
 have HGg41 := hQ_ g41
 clear g41
 obtain ⟨q42, hq42⟩ : ∃ q, w41.heap.size = q := ⟨_, rfl⟩
 obtain ⟨W42, hW42⟩ : ∃ W, (w41.alloc (.cells Z3 64)).setRow q42 ids = W := ⟨_, rfl⟩
 have bn42 : Blk (w41.alloc (.cells Z3 64)) q42 64 Z3 := by rw [<- hq42]; exact Blk.new w41 64 Z3
 have b42 : Blk W42 q42 64 ids := by rw [<- hW42]; exact bn42.row _
 have g42 : w41.grownBy W42 none := by rw [<- hW42]; exact zc (gQ) (.inl (by rw [hq42]; exact Nat.le_refl _)) _
 have HP42 := hQ_ (aQ bn42 hW42)
 have HB42 := hQ_ b42
 clear bn42 hW42 b42
 have HGg42 := hQ_ g42
 clear g42
 go_upto_region 11 with (refine wpList_store_row rfl 64 _ _ rfl (q42) ids rfl rfl 64 _ HP42.out.1 (HSI.out.1) (HSI.out.2.1) HSI.out.2.2 ?_)
 rw [HP42.out.2]
 clear hq42
 rcases HRW.out with ⟨h1, rfl, hids⟩ | ⟨m, h1, rfl⟩
 rotate_left
 · have hnn : N = m + 1 := by rw [<- HN.out]; unfold chkN; simp [HRV.out, HEQ0.out, HEQ1.out, HEQ2.out, h1]
   subst hnn
   clear h1
   go_wp2_with fail
   go_ret
   exact ⟨rfl, (za HX.out.1 (za (za (za (za (za HGg2.out HGg10.out) HGg20.out) HGg30.out) HGg41.out) HGg42.out))⟩
 have HR0 := hQ_ h1
 have HID := hQ_ hids
 clear h1 hids
 go_wp2_with (first
  | (refine wpList_load_mid rfl 26 _ rfl (w.heap.size) 0 rfl gv.toList _ (ze HX.out.2.1 (za (za (za (za (za HGg2.out HGg10.out) HGg20.out) HGg30.out) HGg41.out) HGg42.out)) Tryz.underlying26 rfl (by rw [Array.length_toList]; exact HSO.out.2.1) ?_; rw [Array.toArray_toList])
  | (refine wpList_load_mid rfl 35 _ rfl (w.heap.size + 1) 0 rfl cv.toList _ (ze HX.out.2.2.1 (za (za (za (za (za HGg2.out HGg10.out) HGg20.out) HGg30.out) HGg41.out) HGg42.out)) Tryz.underlying35 rfl (by rw [Array.length_toList]; exact HSO.out.2.2.1) ?_; rw [Array.toArray_toList])
  | (refine wpList_load_mid rfl 64 _ rfl (q42) 0 rfl ids.toList _ (zd HB42.out) Tryz.underlying64 rfl (by rw [Array.length_toList]; exact HSI.out.1) ?_; rw [Array.toArray_toList]))
 refine (HCE.out W42 (za HX.out.1 (za (za (za (za (za HGg2.out HGg10.out) HGg20.out) HGg30.out) HGg41.out) HGg42.out)) ids HID.out).mono ?_
 rintro e' w51 ⟨rfl, g51⟩
 have HGg51 := hQ_ g51
 clear g51
 cases hc : certN qf x y z q with
 | succ m =>
  have hnn : N = m + 1 := by rw [<- HN.out]; unfold chkN; simp [HRV.out, HEQ0.out, HEQ1.out, HEQ2.out, HR0.out, hc]
  subst hnn
  clear hc
  have hev : evOf E (m + 1) = errV (E m) := rfl
  rw [hev]
  go_wp2_with fail
  go_ret
  exact ⟨rfl, (za HX.out.1 (za (za (za (za (za (za HGg2.out HGg10.out) HGg20.out) HGg30.out) HGg41.out) HGg42.out) HGg51.out))⟩
 | zero =>
  have HC0 := hQ_ hc
  clear hc
  have hev : evOf E 0 = .nilIface := rfl
  rw [hev]
  clear hev
  have cv38 : w51.cell? ⟨w.heap.size + 1, 38, none⟩ = some (.slice x.A2 x.V.length x.c2) := (za (za (za (za (za (za HGg2.out HGg10.out) HGg20.out) HGg30.out) HGg41.out) HGg42.out) HGg51.out).cell HX.out.2.2.2.2.2.2 (by simp)
  go_wp2_with fail
  refine (HCX.out w51 (za HX.out.1 (za (za (za (za (za (za HGg2.out HGg10.out) HGg20.out) HGg30.out) HGg41.out) HGg42.out) HGg51.out)) (bkS_few (rowN_first HR0.out))).mono ?_
  rintro e' w52 ⟨g52, ⟨hr, rfl⟩ | ⟨hr, rfl⟩⟩
  · have hnn : N = 0 := by rw [<- HN.out]; unfold chkN; simp [HRV.out, HEQ0.out, HEQ1.out, HEQ2.out, HR0.out, HC0.out, hr]
    subst hnn
    have HG := hQ_ (za (za HX.out.1 (za (za (za (za (za (za HGg2.out HGg10.out) HGg20.out) HGg30.out) HGg41.out) HGg42.out) HGg51.out)) g52)
    clear g52 hr cv38
    go_wp2_with fail
    go_ret
    exact ⟨rfl, HG.out⟩
  · have hnn : N = 11 := by rw [<- HN.out]; unfold chkN; simp [HRV.out, HEQ0.out, HEQ1.out, HEQ2.out, HR0.out, HC0.out, hr]
    subst hnn
    have HG := hQ_ (za (za HX.out.1 (za (za (za (za (za (za HGg2.out HGg10.out) HGg20.out) HGg30.out) HGg41.out) HGg42.out) HGg51.out)) g52)
    clear g52 hr cv38
    go_wp2_with fail
    go_ret
    exact ⟨rfl, HG.out⟩
end
section
attribute [local go_sem] Oper.semAt_some
def nodeV (d : Array Value) (b : Bk) : Array Value := d ++ b.val
theorem sz_Nd : (Tryz.prog.info? 71).map (·.size) = some 55 := by kernel_rfl
theorem nd_info : (Tryz.prog.info? 71).map (fun i => (i.zero.map (·.cells.size), i.size, i.bytes)) = some (some 55, 55, 152) := by kernel_rfl
theorem qc_info3 : (Tryz.prog.info? 29).map (fun i => (i.zero.map (·.cells.size), i.size)) = some (some 19, 19) := by kernel_rfl
theorem fill_two (places : Nat -> Option (Nat × Nat)) (cs d v : Array Value) (h0 : places 0 = some (0, 16)) (h1 : places 1 = some (16, 39)) (hd : d.size = 16) (hv : v.size = 39) (hcs : cs.size = 55) :
    Instr.fill places cs [(0, .agg d), (1, .agg v)] = some (d ++ v) := by
 have hcd : (Value.agg d).cells = d := rfl
 have hcv : (Value.agg v).cells = v := rfl
 obtain ⟨g1, g2⟩ := Go.Great.foldl_set 0 d.toList 0 cs
 obtain ⟨C, hC⟩ : ∃ C, (d.toList.zipIdx 0).foldl (fun (cs : Array Value) (x : Value × Nat) => cs.setIfInBounds (0 + x.2) x.1) cs = C := ⟨_, rfl⟩
 rw [hC] at g1 g2
 obtain ⟨g3, g4⟩ := Go.Great.foldl_set 16 v.toList 0 C
 simp only [Instr.fill, h0, h1, hcd, hcv, hd, hv]
 rw [if_neg (by simp; omega), <- Array.foldl_toList, Array.toList_zipIdx, hC, if_neg (by simp; omega), <- Array.foldl_toList, Array.toList_zipIdx]
 congr 1
 apply Array.ext_getElem?
 intro k
 rw [g4 k, g2 k]
 simp only [Nat.zero_add, Nat.add_zero, Nat.sub_zero, Nat.zero_le, true_and, Array.length_toList, hd, hv, g1, hcs]
 by_cases k1 : k < 16
 · rw [if_neg (by omega), if_pos (by omega), Array.getElem?_append_left (by omega), Array.getElem?_toList]
 · by_cases k2 : k < 55
   · rw [if_pos (by omega), Array.getElem?_append_right (by omega), hd, Array.getElem?_toList]
   · rw [if_neg (by omega), if_neg (by omega), Array.getElem?_eq_none (by omega), Array.getElem?_eq_none (by simp [hd, hv]; omega)]
theorem nd_built (parts : List (Nat × Value)) : Tryz.prog.built 71 parts = Instr.fill ([((0 : Nat), (16 : Nat)), (16, 39)].toArray[·]?) (arrV .u8 (List.replicate 16 0) ++ (genV 0 (arrV .u8 (List.replicate 16 0)))) parts := by kernel_rfl
theorem zcx (w : World) (d v : Array Value) (hd : d.size = 16) (hv : v.size = 39) : Sem.run Tryz.prog (Instr.build 71 #[(0, .agg d), (1, .agg v)]) w = .ok (.agg (d ++ v)) w := by
 refine run_build w 71 _ _ ?_
 rw [show (#[((0 : Nat), Value.agg d), (1, Value.agg v)] : Array (Nat × Value)).toList = [(0, .agg d), (1, .agg v)] from rfl, nd_built]
 exact fill_two _ _ d v rfl rfl hd hv rfl
theorem zef {w : World} {base size n : Nat} {e : TypeId} {v : Value} {xs : List Value} (hn : 0 < n) (h : w.ownsRow base e size v n xs) : ∃ g cap, v = .slice (some ⟨g, 0, none⟩) n cap /\ w.rangeAt g 0 xs /\ base <= g := by
 rcases h.2 with ⟨rfl, h0⟩ | ⟨g, cap, cur, rfl, hb, hg, hnc, _, hsz, ht⟩
 · omega
 · refine ⟨g, cap, rfl, fun j u hu => ?_, hb⟩
   have hB : Blk w g e cur := hg
   rw [Nat.zero_add, hB.cell, <- Array.getElem?_toList]
   rw [<- ht] at hu
   rw [List.getElem?_take] at hu
   split at hu
   · exact hu
   · cases hu
theorem run_slice3 (w : World) (t : TypeId) (hu : Tryz.prog.underlying t = some (.slice 29)) (a b c : Array Value) (ha : a.size = 19) (hb : b.size = 19) (hc : c.size = 19) :
    ∃ r : Array Value, Sem.run Tryz.prog (Instr.buildSlice t 3 #[(0, .agg a), (1, .agg b), (2, .agg c)]) w = .ok (.slice (some ⟨w.heap.size, 0, none⟩) 3 3) (w.alloc (.cells r 29)) /\ r = a ++ (b ++ c) := by
 cases hq : Tryz.prog.info? 29 with
 | none => have := qc_info3; simp [hq] at this
 | some i =>
  have h1 := qc_info3
  rw [hq] at h1
  simp only [Option.map_some, Option.some.injEq, Prod.mk.injEq] at h1
  obtain ⟨hz, hs⟩ := h1
  cases hz0 : i.zero with
  | none => rw [hz0] at hz; cases hz
  | some z =>
   obtain ⟨r, hr, hrs, hrk⟩ := Go.Great.fill_dense (s := 19) (by omega) [.agg a, .agg b, .agg c] 0 ((Array.range (3 * 19)).map (z.cells[· % z.cells.size]!)) (by
    intro v hv
    simp only [List.mem_cons, List.not_mem_nil, or_false] at hv
    rcases hv with rfl | rfl | rfl
    · exact ha
    · exact hb
    · exact hc) (by simp)
   refine ⟨r, run_buildSlice w t 29 3 _ r i z hu hq hz0 (by rw [hs]; omega) (by rw [hs]; omega) (by rw [hs]; exact hr), ?_⟩
   apply Array.ext_getElem?
   intro k
   rw [hrk k]
   simp only [List.length_cons, List.length_nil, Nat.zero_mul, Nat.zero_le, true_and, Nat.zero_add, Nat.sub_zero, Array.size_map, Array.size_range] at hrs ⊢
   by_cases hk : k < 3 * 19
   · rw [if_pos hk]
     by_cases k1 : k < 19
     · have e1 : k / 19 = 0 := by omega
       have e2 : k % 19 = k := by omega
       rw [e1, e2, Array.getElem?_append_left (by omega)]
       rfl
     · by_cases k2 : k < 38
       · have e1 : k / 19 = 1 := by omega
         have e2 : k % 19 = k - 19 := by omega
         rw [e1, e2, Array.getElem?_append_right (by omega), ha, Array.getElem?_append_left (by omega)]
         rfl
       · have e1 : k / 19 = 2 := by omega
         have e2 : k % 19 = k - 19 - 19 := by omega
         rw [e1, e2, Array.getElem?_append_right (by omega), ha, Array.getElem?_append_right (by omega), hb]
         rfl
   · rw [if_neg hk, Array.getElem?_eq_none (by simp; omega), Array.getElem?_eq_none (by simp [ha, hb, hc]; omega)]
theorem wpList_bslice3 {P : Program} {ops : Array Oper} {rest : List Oper} {o : Oper} {a : Act} {w w' : World} {Q : Exit -> Act -> World -> Prop} (hgd : o.guard = none) (t : TypeId) (len : Nat) (x y z : Operand) (ho : o.op = .buildSlice t len #[(0, x), (1, y), (2, z)]) (u v s V : Value) (hx : a.eval x = u) (hy : a.eval y = v) (hz : a.eval z = s)
    (hr : Sem.run P (Instr.buildSlice t len #[(0, u), (1, v), (2, s)]) w = .ok V w') (h : wpList P ops Q rest (a.put o.dst V) w') : wpList P ops Q (o :: rest) a w :=
 wpList_plain hgd fun K hK => by
  have hm : (#[(0, x), (1, y), (2, z)] : Array (Nat × Operand)).map (fun (i, x) => (i, a.eval x)) = #[(0, u), (1, v), (2, s)] := by simp [hx, hy, hz]
  unfold Oper.wp execOp
  simp only [ho, Sem.run_bind, hm, hr, Result.andThen_ok]
  exact hK _ _ h
theorem zeu {b : Bk} (h : (bkS b).1 = 0) : 0 <= b.r /\ b.r < 281474976710656 := by
 have hb : badNum b.r 6 = false := by
  cases hb : badNum b.r 6 with
  | false => rfl
  | true =>
   exfalso
   obtain ⟨k, l, hk⟩ : ∃ k l, sNum b.r 6 (sNum b.e 4 (0, [])) = (k + 1, l) := by
    have e : sNum b.r 6 (sNum b.e 4 (0, [])) = sFail 1 (sNum b.e 4 (0, [])) := by
     show (if badNum b.r 6 = true then sFail 1 (sNum b.e 4 (0, [])) else _) = _
     exact if_pos hb
    rw [e]
    have := sFail_bad (sNum b.e 4 (0, []))
    obtain ⟨t, ht⟩ : ∃ t, sFail 1 (sNum b.e 4 (0, [])) = t := ⟨_, rfl⟩
    rw [ht] at this ⊢
    obtain ⟨a, l⟩ := t
    cases a with
    | zero => exact absurd rfl this
    | succ k => exact ⟨k, l, rfl⟩
   have e : bkS b = sPut b.V.length ((7 : Nat) : Int) (sAll sVd b.V) (sPut b.T.length ((4 : Nat) : Int) (sAll sTx b.T) (sPut b.q.L.length ((7 : Nat) : Int) (sAll sSg b.q.L) (sDig b.q.Bl (sNum b.q.r 6 (sNum b.q.e 4 (sDig b.P (sNum b.r 6 (sNum b.e 4 (0, []))))))))) := rfl
   rw [e, hk, zan, sNum_errO, sNum_errO, zan, zbl (fun k l => zao zd6 _ k l), zbl (fun k l => zao zd5 _ k l), zbl (fun k l => zao sVd_errO _ k l)] at h
   exact absurd h (Nat.succ_ne_zero k)
 unfold badNum at hb
 have e2 : (2 : Int) ^ (8 * (6 : Int).toNat) = 281474976710656 := by decide
 rw [e2] at hb
 simp only [Bool.or_eq_false_iff, decide_eq_false_iff_not, bne_eq_false_iff_eq] at hb
 omega
theorem rowN_rnd {x y z : Bk} (h0 : (bkS x).1 = 0) (h1 : (bkS y).1 = 0) (h2 : y.P = idD x) (h3 : (bkS z).1 = 0) (h4 : z.P = idD y) :
    rowN x y z = if x.r < 1 \/ 1099511627776 < z.r \/ y.r ≠ x.r + 1 \/ z.r ≠ y.r + 1 then 14 else 0 := by
 unfold rowN
 rw [if_neg (by simp [h0]), if_neg (by simp [h1]), if_neg (by simp [h2]), if_neg (by simp [h3]), if_neg (by simp [h4])]
 unfold rndN
 by_cases hb : x.r < 1 \/ 1099511627776 < z.r \/ y.r ≠ x.r + 1 \/ z.r ≠ y.r + 1
 · rw [if_pos hb]
   by_cases e1 : (decide (x.r < 1) || (decide (1099511627776 < x.r) || (decide ((0:Nat) < 0) && decide (x.r - 1 ≠ 0)))) = true
   · rw [if_pos e1]
   · rw [if_neg e1]
     by_cases e2 : (decide (y.r < 1) || (decide (1099511627776 < y.r) || (decide ((0:Nat) < 1) && decide (y.r - 1 ≠ x.r)))) = true
     · rw [if_pos e2]
     · rw [if_neg e2, if_pos]
       simp only [Bool.or_eq_true, Bool.and_eq_true, decide_eq_true_eq] at e1 e2 ⊢
       omega
 · rw [if_neg hb, if_neg, if_neg, if_neg]
   all_goals
    simp only [Bool.or_eq_true, Bool.and_eq_true, decide_eq_true_eq]
    omega
theorem zea (w : World) (q : Qc) (hq : isDig q.Bl) (qv : Array Value) (hqv : qv = q.val) (id : List Int) (hid : id.length = 16) (dv : Array Value) (hdv : dv = arrV .u8 id) (b : Bk) (nv : Array Value) (hnv : nv = nodeV dv b) :
    Calls Tryz.prog 23 #[.agg qv, .agg nv] w fun e w' => e = .returned (.bool (fitsB q id b)) /\ w.grownBy w' none := by
 have hd16 : dv.size = 16 := by rw [hdv, zf, hid]
 obtain ⟨W1, hW1⟩ : ∃ W1, (w.alloc (.cells qv 29)).alloc (.cells nv 71) = W1 := ⟨_, rfl⟩
 have g1 : w.grownBy W1 none := by rw [<- hW1]; exact za (gQ) (gQ)
 have b1 : Blk W1 w.heap.size 29 q.val := by rw [<- hW1, <- hqv]; exact (Blk.new w _ _).alloc _
 have b2 : Blk W1 (w.heap.size + 1) 71 (nodeV dv b) := by
  have := Blk.new (w.alloc (.cells qv 29)) 71 nv
  rw [<- hW1, <- hnv]; simpa using this
 obtain ⟨k0, k1, k2⟩ := qc_parts hq.1 (zd b1)
 have rn := zd b2
 have rd : W1.rangeAt (w.heap.size + 1) 0 dv.toList := fun j v hv => rn j v (by rw [nodeV, Array.toList_append, List.getElem?_append_left (List.getElem?_eq_some_iff.1 hv).1]; exact hv)
 have rb : W1.rangeAt (w.heap.size + 1) 16 b.val.toList := by
  have e : (nodeV dv b).toList = dv.toList ++ (b.val.toList ++ []) := by simp [nodeV]
  rw [e] at rn
  have := zx rn
  simpa [hd16] using this
 obtain ⟨m0, m1⟩ := zbh rb
 rw [Nat.zero_add] at k1 k2
 obtain ⟨qd, hqd⟩ : ∃ v, arrV .u8 q.Bl = v := ⟨_, rfl⟩
 have heq : ∀ V, Sem.run Tryz.prog (Op.equalIn 10000 24 (.agg qd) (.agg dv)) V = .ok (decide (q.Bl = id)) V := fun V => by rw [<- hqd, hdv]; exact eqDK20 V _ _ hq.1 hid
 rw [hqd] at k2
 obtain ⟨d, hd⟩ : ∃ d, decide (q.Bl = id) = d := ⟨_, rfl⟩
 rw [hd] at heq
 obtain ⟨e1, he1⟩ : ∃ v, q.e = v := ⟨_, rfl⟩
 obtain ⟨e2, he2⟩ : ∃ v, b.e = v := ⟨_, rfl⟩
 obtain ⟨r1, hr1⟩ : ∃ v, q.r = v := ⟨_, rfl⟩
 obtain ⟨r2, hr2⟩ : ∃ v, b.r = v := ⟨_, rfl⟩
 unfold fitsB
 rw [hd, he1, he2, hr1, hr2]
 rw [he1] at k0
 rw [hr1] at k1
 rw [he2] at m0
 rw [hr2] at m1
 have HL := hQ_ (aQ k2 (aQ rd (aQ (show (Tryz.prog.info? 24).map (·.size) = some qd.size by rw [<- hqd, zf, hq.1]; exact sz_Dg) (show (Tryz.prog.info? 24).map (·.size) = some dv.size by rw [hd16]; exact sz_Dg))))
 have HW := hQ_ hW1
 have HG := hQ_ g1
 clear k2 hqd hd he1 he2 hr1 hr2 g1 b1 b2 hW1 hq hqv hid hdv hnv rn rd rb hd16
 obtain ⟨t1, ht1⟩ : ∃ t, (e1 == e2) = t := ⟨_, rfl⟩
 obtain ⟨t2, ht2⟩ : ∃ t, (r1 == r2) = t := ⟨_, rfl⟩
 have q2 : decide (e1 = e2) = t1 := by rw [<- ht1]; rfl
 have q4 : decide (r1 = r2) = t2 := by rw [<- ht2]; rfl
 rw [q2, q4]
 clear q2 q4
 cases d <;> cases t1 <;> cases t2
 all_goals
  go_enter Tryz.func23, Tryz.ntmps23
  go_upto_region 1 with (fail)
  rw [HW.out]
  go_wp2_with (first
   | (refine wpList_load_mid rfl 24 _ rfl (w.heap.size) 2 rfl qd.toList _ HL.out.1 Tryz.underlying24 rfl (by rw [Array.length_toList]; exact HL.out.2.2.1) ?_; rw [Array.toArray_toList])
   | (refine wpList_load_mid rfl 24 _ rfl (w.heap.size + 1) 0 rfl dv.toList _ HL.out.2.1 Tryz.underlying24 rfl (by rw [Array.length_toList]; exact HL.out.2.2.2) ?_; rw [Array.toArray_toList]))
  go_ret
  exact ⟨rfl, HG.out⟩
end
section
attribute [local go_sem] Oper.semAt_some
end
section
attribute [local go_sem] Oper.semAt_some
structure Ch where
 x : Bk
 y : Bk
 z : Bk
 q : Qc
def Ch.val (c : Ch) : Array Value := cgV c.x c.y c.z c.q
def Ch.At (w : World) (c : Ch) : Prop := c.x.At w /\ c.y.At w /\ c.z.At w /\ c.q.At w
theorem Ch.At.grown {w w' : World} {c : Ch} (h : c.At w) (g : w.grownBy w' none) : c.At w' := ⟨h.1.grown g, h.2.1.grown g, h.2.2.1.grown g, h.2.2.2.grown g⟩
theorem Ch.size {w : World} {c : Ch} (h : c.At w) : c.val.size = 136 := by
 simp only [Ch.val, cgV, Array.size_append, vn h.1, vn h.2.1, vn h.2.2.1, u5 h.2.2.2]
theorem Ch.one {w : World} {c : Ch} (h : c.At w) : (c.val.all fun v => v.oneCell') = true := by
 simp only [Ch.val, cgV, Array.all_append, zae h.1, zae h.2.1, zae h.2.2.1, zb3, Bool.and_self]
structure Gd where
 e : Int
 V : List Vd
 g : List Int
def Gd.ok (g : Gd) : Prop := keysOk g.V /\ g.V.length <= 100 /\ g.g.length = 16
def Gd.val (g : Gd) (A : Option Addr) (c : Nat) : Array Value := grV g.e (.slice A g.V.length c) (arrV .u8 g.g)
theorem Gd.size {g : Gd} (h : g.ok) (A : Option Addr) (c : Nat) : (g.val A c).size = 18 := uy (by rw [zf]; exact h.2.2)
theorem Gd.one (g : Gd) (A : Option Addr) (c : Nat) : ((g.val A c).all fun v => v.oneCell') = true := zdt (zu _ _)
def FarV (base : Nat) (A : Option Addr) (V : List Vd) : Prop := V ≠ [] -> ∀ a, A = some a -> base <= a.block
theorem VdsAt.farRow {w : World} {A : Option Addr} {V : List Vd} {q base : Nat} (h : VdsAt w A V) (hf : FarV base A V) (hq : q < base) (v : Array Value) : VdsAt (w.setRow q v) A V := fun hne => by
 obtain ⟨b, off, rfl, hc⟩ := h hne
 refine ⟨b, off, rfl, fun k hk => z6 (hc k hk) (fun e => ?_) v⟩
 have h1 : base <= b := hf hne _ rfl
 omega
end
section
theorem rowN_le (x y z : Bk) : rowN x y z <= 18 := by
 unfold rowN
 repeat' split
 all_goals omega
theorem certN_le {qf : Qc -> Nat} (h : ∀ p, qf p <= 18) (x y z : Bk) (q : Qc) : certN qf x y z q <= 18 := by
 unfold certN
 repeat' split
 all_goals first | omega | exact h _
theorem chkN_le {qf : Qc -> Nat} (h : ∀ p, qf p <= 18) (e : Int) (V : List Vd) (x y z : Bk) (q : Qc) : chkN qf e V x y z q <= 18 := by
 unfold chkN
 repeat' split
 all_goals first | omega | exact rowN_le x y z | exact certN_le h x y z q
noncomputable def QFn (g : Gd) (p : Qc) : Nat := qcN g.V g.e p.e p.r p.Bl g.g p.L
theorem beginN_le (V : List Vd) (e ep : Int) : beginN V e ep <= 18 := by
 unfold beginN
 repeat' split
 all_goals omega
theorem QFn_le (g : Gd) (p : Qc) : QFn g p <= 18 := by
 unfold QFn qcN firstN turnN holdN
 have := beginN_le g.V g.e p.e
 repeat' split
 all_goals omega
def PQn (p : Qc) : Prop := (-9223372036854775808 <= p.e /\ p.e < 9223372036854775808) /\ (-9223372036854775808 <= p.r /\ p.r < 9223372036854775808) /\ p.L.length < 9223372036854775808
theorem ground_qc (w : World) (E : Nat -> Addr) (hR : Rounds w) (he : ErrEnv w w.heap.size E) (W : World) (hW : w.grownBy W none) (g : Gd) (A : Option Addr) (c : Nat) (hg : g.ok) (hV : VdsAt W A g.V) (gv : Array Value) (hgv : gv = g.val A c) (p : Qc) (hp : PQn p) (hpW : p.At W) (pv : Array Value) (hpv : pv = p.val) :
    Calls Tryz.prog 38 #[.agg gv, .agg pv] W fun e w' => e = .returned (evOf E (QFn g p)) /\ W.grownBy w' none := by
 have he2 := zdu he hW
 have h4 : 4 <= W.heap.size := by
  have hb := fun i hi => World.block_lt_of_cell? W _ (he2.var i hi).1
  have h0 := hb 0 (by omega); have h1 := hb 1 (by omega); have h2 := hb 2 (by omega); have h3 := hb 3 (by omega); have h5 := hb 4 (by omega); have h6 := hb 5 (by omega); have h7 := hb 6 (by omega)
  simp only [gix, List.getD_cons_zero, List.getD_cons_succ] at h0 h1 h2 h3 h5 h6 h7
  omega
 exact qc_isB W he2 hV hg.1 (by have := hg.2.1; omega) rfl hg.2.2 gv hgv (hR.grown hW (by simp)) h4 (Nat.le_refl _) p.e p.r hp.1 hp.2.1 p.Bl hpW.1 _ rfl p.A p.c p.L hp.2.2 (.inr (by have := hg.2.1; omega)) hpW.2.1 hpW.2.2 pv hpv
end
end Go.Proofs.YtigafnbofmiknaaGreatDoor
