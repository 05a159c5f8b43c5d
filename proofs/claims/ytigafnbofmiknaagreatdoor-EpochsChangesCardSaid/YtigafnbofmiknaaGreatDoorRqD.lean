/-
 The document's own Check of a Change.
-/
import Derived.Deep.DeepCutAuto
import Derived.Test.YtigafnbofmiknaaGreatDoorW20E
import Derived.Test.YtigafnbofmiknaaGreatDoorW20h
namespace Go.Proofs.YtigafnbofmiknaaGreatDoor
set_option maxRecDepth 100000
set_option maxHeartbeats 10000000
open Go.RowKit

attribute [local go_sem] Oper.semAt_some

theorem nd_parts : ∃ (i : TypeInfo) (z : Value), Tryz.prog.info? 71 = some i /\ i.zero = some z /\ i.size = 55 /\ i.bytes = 152 /\ z.cells.size = 55 := by
 cases hq : Tryz.prog.info? 71 with
 | none => have := nd_info; simp [hq] at this
 | some i =>
  have h1 := nd_info
  rw [hq] at h1
  simp only [Option.map_some, Option.some.injEq, Prod.mk.injEq] at h1
  obtain ⟨hz, hs, hb⟩ := h1
  cases hz0 : i.zero with
  | none => rw [hz0] at hz; cases hz
  | some z =>
   rw [hz0] at hz
   exact ⟨i, z, rfl, hz0, hs, hb, by simpa using hz⟩
theorem zQCo : ∃ Z : Array Value, Z.size = 19 /\ ∀ w : World, Sem.run Tryz.prog (zeroValue 29) w = .ok (.agg Z) w := ⟨#[.int .i64 0, .int .i64 0] ++ (arrV .u8 (List.replicate 16 0) ++ #[.slice none 0 0]), rfl, fun w => vu w (by kernel_rfl)⟩
def QcD (w : World) (q : Qc) : Prop := q.At w /\ PQn q /\ q.L.length <= 100
def BkD (w : World) (b : Bk) : Prop := BkFit w b /\ b.At w /\ QcD w b.q /\ b.V.length <= b.c2
theorem QcD.grown {w w' : World} {q : Qc} (h : QcD w q) (k : w.grownBy w' none) : QcD w' q := ⟨h.1.grown k, h.2⟩
theorem BkD.grown {w w' : World} {b : Bk} (h : BkD w b) (k : w.grownBy w' none) : BkD w' b := ⟨h.1.grown k, h.2.1.grown k, h.2.2.1.grown k, h.2.2.2⟩
theorem bk_qcD {w : World} {b : Bk} (h : b.At w) {g : Nat} (r : w.rangeAt g 0 b.val.toList) : w.rangeAt g 18 b.q.val.toList /\ w.rangeAt g 2 (arrV .u8 b.P).toList /\ w.cell? ⟨g, 38, none⟩ = some (.slice b.A2 b.V.length b.c2) := by
 have e1 : b.val.toList = [.int .i64 b.e, .int .i64 b.r] ++ ((arrV .u8 b.P).toList ++ (b.q.val.toList ++ [.slice b.A b.T.length b.c, .slice b.A2 b.V.length b.c2])) := by simp [Bk.val]
 have e2 : b.val.toList = ([.int .i64 b.e, .int .i64 b.r] ++ (arrV .u8 b.P).toList) ++ (b.q.val.toList ++ [.slice b.A b.T.length b.c, .slice b.A2 b.V.length b.c2]) := by rw [e1]; simp
 have hp : (arrV .u8 b.P).toList.length = 16 := by simp [arrV, h.1.1]
 have hq2 : b.q.val.toList.length = 19 := by rw [Array.length_toList]; exact u5 h.2.1
 refine ⟨?_, ?_, ?_⟩
 · rw [e2] at r
   have := zx r
   rwa [show 0 + ([Value.int .i64 b.e, .int .i64 b.r] ++ (arrV .u8 b.P).toList).length = 18 by rw [List.length_append, hp]; rfl] at this
 · rw [e1] at r
   have := zx r
   simpa using this
 · have := r 38 (.slice b.A2 b.V.length b.c2) (by
     rw [e2, List.getElem?_append_right (by rw [List.length_append, hp]; simp), List.getElem?_append_right (by rw [List.length_append, hp, hq2]; simp)]
     rw [List.length_append, hp, hq2]
     rfl)
   simpa using this
def Cut3 (W wx : World) (xv yv zv : Array Value) (v1 v2 v3 : Value) : Prop := ∃ p1 p2 p3, v1 = .pointer (some ⟨p1, 0, none⟩) /\ v2 = .pointer (some ⟨p2, 0, none⟩) /\ v3 = .pointer (some ⟨p3, 0, none⟩) /\ W.grownBy wx none /\ Blk wx p1 32 xv /\ Blk wx p2 32 yv /\ Blk wx p3 32 zv
theorem zai {W wx : World} {xv yv zv : Array Value} {p1 p2 p3 : Nat} (g : W.grownBy wx none) (a : Blk wx p1 32 xv) (b : Blk wx p2 32 yv) (c : Blk wx p3 32 zv) : Cut3 W wx xv yv zv (.pointer (some ⟨p1, 0, none⟩)) (.pointer (some ⟨p2, 0, none⟩)) (.pointer (some ⟨p3, 0, none⟩)) := ⟨p1, p2, p3, rfl, rfl, rfl, g, a, b, c⟩
theorem rcheck_is (w : World) (e : Int) (A : Option Addr) (c n : Nat) (V : List Vd) (hn : V.length = n) (hV : VdsAt w A V) (ok : keysOk V) (hl : n < 1000) (hcap : n <= c) (Gl : List Int) (hGl : Gl.length = 16) (gv : Array Value) (hgv : gv = grV e (.slice A n c) (arrV .u8 Gl))
    (x y z : Bk) (q : Qc) (hx : BkD w x) (hy : BkD w y) (hzz : BkD w z) (hq : QcD w q) (cv : Array Value) (hcv : cgV x y z q = cv) :
    Calls Tryz.prog 9 #[.agg gv, .agg cv] w fun e' w' => e' = .returned (.int .i64 ((chkN (fun p => qcN V e p.e p.r p.Bl Gl p.L) e V x y z q : Nat) : Int)) /\ w.grownBy w' none := by
 obtain ⟨ZB, hZBs, hzb⟩ := zb_run
 obtain ⟨ZD, hZDs, hzd⟩ := z16O
 obtain ⟨ZQ, hZQs, hzq⟩ := zQCo
 obtain ⟨i1, z1, hi1, hzi1, hsi1, hbi1, hzs1⟩ := nd_parts
 have sx := vn hx.2.1
 have sy := vn hy.2.1
 have szz := vn hzz.2.1
 have ox := zae hx.2.1
 have oy := zae hy.2.1
 have oz := zae hzz.2.1
 have hgs : gv.size = 18 := by rw [hgv]; exact uy (by rw [zf]; exact hGl)
 obtain ⟨W1, hW1⟩ : ∃ W1, (w.alloc (.cells gv 43)).alloc (.cells cv 35) = W1 := ⟨_, rfl⟩
 have g1 : w.grownBy W1 none := by rw [<- hW1]; exact za (gQ) (gQ)
 have bg : Blk W1 w.heap.size 43 gv := by rw [<- hW1]; exact (Blk.new w _ _).alloc _
 have bc : Blk W1 (w.heap.size + 1) 35 (cgV x y z q) := by
  have := Blk.new (w.alloc (.cells gv 43)) 35 cv
  rw [hcv, <- hW1]; simpa using this
 obtain ⟨kg0, kg1, _⟩ := y8 (show Blk W1 w.heap.size 43 (grC e (.slice A n c) (arrV .u8 Gl)) from by have h := bg; rw [hgv] at h; exact h)
 obtain ⟨rx, ry, rz, rq⟩ := zes sx sy szz bc
 have hrv : W1.rangeAt (w.heap.size + 1) 0 (x.val ++ (y.val ++ z.val)).toList := by
  have r := zd bc
  have e1 : (cgV x y z q).toList = [] ++ ((x.val ++ (y.val ++ z.val)).toList ++ q.val.toList) := by simp [cgV]
  rw [e1] at r
  have := zx r
  simpa using this
 obtain ⟨xv, hxv⟩ : ∃ v, x.val = v := ⟨_, rfl⟩
 obtain ⟨yv, hyv⟩ : ∃ v, y.val = v := ⟨_, rfl⟩
 obtain ⟨zv, hzv⟩ : ∃ v, z.val = v := ⟨_, rfl⟩
 obtain ⟨qv, hqv⟩ : ∃ v, q.val = v := ⟨_, rfl⟩
 obtain ⟨yq, hyq⟩ : ∃ v, y.q.val = v := ⟨_, rfl⟩
 obtain ⟨zq, hzq9⟩ : ∃ v, z.q.val = v := ⟨_, rfl⟩
 obtain ⟨yp, hyp⟩ : ∃ v, arrV .u8 y.P = v := ⟨_, rfl⟩
 obtain ⟨zp, hzp⟩ : ∃ v, arrV .u8 z.P = v := ⟨_, rfl⟩
 obtain ⟨dx, hdx⟩ : ∃ v, arrV .u8 (idD x) = v := ⟨_, rfl⟩
 obtain ⟨dy, hdy⟩ : ∃ v, arrV .u8 (idD y) = v := ⟨_, rfl⟩
 obtain ⟨dz, hdz⟩ : ∃ v, arrV .u8 (idD z) = v := ⟨_, rfl⟩
 obtain ⟨rv, hrw⟩ : ∃ v, x.val ++ (y.val ++ z.val) = v := ⟨_, rfl⟩
 rw [hrw] at hrv
 rw [hxv] at sx ox rx
 rw [hyv] at sy oy ry
 rw [hzv] at szz oz rz
 rw [hqv] at rq
 have sq : qv.size = 19 := by rw [<- hqv]; exact u5 hq.1
 have syq : yq.size = 19 := by rw [<- hyq]; exact u5 hy.2.2.1.1
 have szq : zq.size = 19 := by rw [<- hzq9]; exact u5 hzz.2.2.1.1
 have oq : (qv.all fun v => v.oneCell') = true := by rw [<- hqv]; exact zb3 _
 have oyq : (yq.all fun v => v.oneCell') = true := by rw [<- hyq]; exact zb3 _
 have ozq : (zq.all fun v => v.oneCell') = true := by rw [<- hzq9]; exact zb3 _
 have sdx : dx.size = 16 := by rw [<- hdx, zf, z7]
 have sdy : dy.size = 16 := by rw [<- hdy, zf, z7]
 have sdz : dz.size = 16 := by rw [<- hdz, zf, z7]
 have odx : (dx.all fun v => v.oneCell') = true := by rw [<- hdx]; exact zu _ _
 have ody : (dy.all fun v => v.oneCell') = true := by rw [<- hdy]; exact zu _ _
 have odz : (dz.all fun v => v.oneCell') = true := by rw [<- hdz]; exact zu _ _
 have syp : yp.size = 16 := by rw [<- hyp, zf, hy.2.1.1.1]
 have szp : zp.size = 16 := by rw [<- hzp, zf, hzz.2.1.1.1]
 obtain ⟨nx, hnx⟩ : ∃ v, dx ++ xv = v := ⟨_, rfl⟩
 obtain ⟨ny, hny⟩ : ∃ v, dy ++ yv = v := ⟨_, rfl⟩
 obtain ⟨nz, hnz⟩ : ∃ v, dz ++ zv = v := ⟨_, rfl⟩
 have snx : nx.size = 55 := by rw [<- hnx, Array.size_append, sdx, sx]
 have sny : ny.size = 55 := by rw [<- hny, Array.size_append, sdy, sy]
 have snz : nz.size = 55 := by rw [<- hnz, Array.size_append, sdz, szz]
 have onx : nx.all (·.oneCell') = true := by rw [<- hnx, Array.all_append, odx, ox]; rfl
 have ony : ny.all (·.oneCell') = true := by rw [<- hny, Array.all_append, ody, oy]; rfl
 have onz : nz.all (·.oneCell') = true := by rw [<- hnz, Array.all_append, odz, oz]; rfl
 have hbx : ∀ W, Sem.run Tryz.prog (Instr.build 71 #[(0, .agg dx), (1, .agg xv)]) W = .ok (.agg nx) W := fun W => by rw [<- hnx]; exact zcx W dx xv sdx sx
 have hby : ∀ W, Sem.run Tryz.prog (Instr.build 71 #[(0, .agg dy), (1, .agg yv)]) W = .ok (.agg ny) W := fun W => by rw [<- hny]; exact zcx W dy yv sdy sy
 have hbz : ∀ W, Sem.run Tryz.prog (Instr.build 71 #[(0, .agg dz), (1, .agg zv)]) W = .ok (.agg nz) W := fun W => by rw [<- hnz]; exact zcx W dz zv sdz szz
 have hrw2 : rv = xv ++ (yv ++ zv) := by rw [<- hrw, hxv, hyv, hzv]
 have srv : rv.size = 117 := by rw [hrw2]; simp [sx, sy, szz]
 have ix0 : ∀ V, Sem.run Tryz.prog (Instr.index 33 (.agg rv) (.int .i64 0)) V = .ok (.agg xv) V := fun V => zad V Tryz.underlying33 Tryz.underlying32 sz_Bke rv xv 0 0 rfl (by omega) (by rw [hrw2]; simp [sx])
 have ix1 : ∀ V, Sem.run Tryz.prog (Instr.index 33 (.agg rv) (.int .i64 1)) V = .ok (.agg yv) V := fun V => zad V Tryz.underlying33 Tryz.underlying32 sz_Bke rv yv 1 1 rfl (by omega) (by rw [hrw2]; simp [sx, sy, List.drop_append, List.take_append])
 have ix2 : ∀ V, Sem.run Tryz.prog (Instr.index 33 (.agg rv) (.int .i64 2)) V = .ok (.agg zv) V := fun V => zad V Tryz.underlying33 Tryz.underlying32 sz_Bke rv zv 2 2 rfl (by omega) (by
  have e1 : xv.toList.drop 78 = [] := List.drop_eq_nil_of_le (by simp [sx])
  have e2 : zv.toList.take 39 = zv.toList := List.take_of_length_le (by simp [szz])
  rw [hrw2]; simp [sx, sy, List.drop_append, e1, e2])
 obtain ⟨r1, hr1⟩ : ∃ r, decide (y.P = idD x) = r := ⟨_, rfl⟩
 obtain ⟨r2, hr2⟩ : ∃ r, decide (z.P = idD y) = r := ⟨_, rfl⟩
 have heq1 : ∀ V, Sem.run Tryz.prog (Op.equalIn 10000 24 (.agg yp) (.agg dx)) V = .ok r1 V := fun V => by rw [<- hyp, <- hdx, <- hr1]; exact eqDK20 V _ _ hy.2.1.1.1 (z7 _)
 have heq2 : ∀ V, Sem.run Tryz.prog (Op.equalIn 10000 24 (.agg zp) (.agg dy)) V = .ok r2 V := fun V => by rw [<- hzp, <- hdy, <- hr2]; exact eqDK20 V _ _ hzz.2.1.1.1 (z7 _)
 have HRI := hQ_ (fun (W : World) (hW : w.grownBy W none) => (show Calls Tryz.prog 22 #[.slice A n c] W fun e w' => e = .returned (.bool (rightS V)) /\ W.grownBy w' none from by
  rw [<- hn]; exact zbm W A c V (hV.grown hW) ok (by omega) (by omega)))
 have HRX := hQ_ (fun (W : World) (hW : w.grownBy W none) (h7 : x.V.length <= 7) => zbm W x.A2 x.c2 x.V (hx.2.1.2.2.2.1.grown hW) (fun v hv => (hx.2.1.2.2.2.2 v hv).1) (by omega) hx.2.2.2)
 have HIX := hQ_ (fun (W : World) (hW : w.grownBy W none) => ze1 W x (hx.1.grown hW) xv hxv.symm dx hdx.symm)
 have HIY := hQ_ (fun (W : World) (hW : w.grownBy W none) => ze1 W y (hy.1.grown hW) yv hyv.symm dy hdy.symm)
 have HIZ := hQ_ (fun (W : World) (hW : w.grownBy W none) => ze1 W z (hzz.1.grown hW) zv hzv.symm dz hdz.symm)
 have HF1 := hQ_ (fun W : World => zea W y.q hy.2.1.2.1.1 yq hyq.symm (idD x) (z7 x) dx hdx.symm x nx (by rw [<- hnx, nodeV, hxv]))
 have HF2 := hQ_ (fun W : World => zea W z.q hzz.2.1.2.1.1 zq hzq9.symm (idD y) (z7 y) dy hdy.symm y ny (by rw [<- hny, nodeV, hyv]))
 have HF3 := hQ_ (fun W : World => zea W q hq.1.1 qv hqv.symm (idD z) (z7 z) dz hdz.symm z nz (by rw [<- hnz, nodeV, hzv]))
 have hqc : ∀ (W : World), w.grownBy W none -> ∀ p : Qc, QcD w p -> ∀ pv : Array Value, p.val = pv -> Calls Tryz.prog 24 #[.agg gv, .agg pv] W fun e' w' => e' = .returned (.int .i64 ((qcN V e p.e p.r p.Bl Gl p.L : Nat) : Int)) /\ W.grownBy w' none := fun W hW p hp pv hpv =>
  rqc_is (c := c) W (hV.grown hW) ok (by omega) (by omega) rfl hGl gv (by rw [hgv, hn]; rfl) hp.2.1.1 hp.2.1.2.1 hp.1.1 _ rfl p.A p.c hp.2.2 (hp.1.2.1.grown hW) ((hp.1.grown hW).2.2) pv hpv.symm
 have HQY := hQ_ (fun (W : World) (hW : w.grownBy W none) => hqc W hW y.q hy.2.2.1 yq hyq)
 have HQZ := hQ_ (fun (W : World) (hW : w.grownBy W none) => hqc W hW z.q hzz.2.2.1 zq hzq9)
 have HQQ := hQ_ (fun (W : World) (hW : w.grownBy W none) => hqc W hW q hq qv hqv)
 have HPX := hQ_ (fun (W : World) (b : Nat) (h : Blk W b 32 xv) (hW : w.grownBy W none) => (show W.cell? ⟨b, 0, none⟩ = some (.int .i64 x.e) /\ W.cell? ⟨b, 1, none⟩ = some (.int .i64 x.r) /\ W.cell? ⟨b, 38, none⟩ = some (.slice x.A2 x.V.length x.c2) from by
  have r := zd h
  rw [<- hxv] at r
  have t := zbh r
  simp only [Nat.zero_add] at t
  exact ⟨t.1, t.2, (bk_qcD (hx.2.1.grown hW) r).2.2⟩))
 have HPY := hQ_ (fun (W : World) (b : Nat) (h : Blk W b 32 yv) (hW : w.grownBy W none) => (show W.cell? ⟨b, 0, none⟩ = some (.int .i64 y.e) /\ W.cell? ⟨b, 1, none⟩ = some (.int .i64 y.r) /\ W.rangeAt b 18 yq.toList /\ W.rangeAt b 2 yp.toList from by
  have r := zd h
  rw [<- hyv] at r
  have t := zbh r
  simp only [Nat.zero_add] at t
  rw [<- hyq, <- hyp]
  exact ⟨t.1, t.2, (bk_qcD (hy.2.1.grown hW) r).1, (bk_qcD (hy.2.1.grown hW) r).2.1⟩))
 have HPZ := hQ_ (fun (W : World) (b : Nat) (h : Blk W b 32 zv) (hW : w.grownBy W none) => (show W.cell? ⟨b, 0, none⟩ = some (.int .i64 z.e) /\ W.cell? ⟨b, 1, none⟩ = some (.int .i64 z.r) /\ W.rangeAt b 18 zq.toList /\ W.rangeAt b 2 zp.toList from by
  have r := zd h
  rw [<- hzv] at r
  have t := zbh r
  simp only [Nat.zero_add] at t
  rw [<- hzq9, <- hzp]
  exact ⟨t.1, t.2, (bk_qcD (hzz.2.1.grown hW) r).1, (bk_qcD (hzz.2.1.grown hW) r).2.1⟩))
 obtain ⟨ex, hex⟩ : ∃ v, x.e = v := ⟨_, rfl⟩
 obtain ⟨ey, hey⟩ : ∃ v, y.e = v := ⟨_, rfl⟩
 obtain ⟨ez, hez⟩ : ∃ v, z.e = v := ⟨_, rfl⟩
 have HEX := hQ_ (aQ hex (aQ hey hez))
 have szb : ∀ v : Array Value, v.size = 39 -> (Tryz.prog.info? 32).map (·.size) = some v.size := fun v h => by rw [h]; exact sz_Bke
 have szd : ∀ v : Array Value, v.size = 16 -> (Tryz.prog.info? 24).map (·.size) = some v.size := fun v h => by rw [h]; exact sz_Dg
 have szc : ∀ v : Array Value, v.size = 19 -> (Tryz.prog.info? 29).map (·.size) = some v.size := fun v h => by rw [h]; exact sz_QCo
 have szn : ∀ v : Array Value, v.size = 55 -> (Tryz.prog.info? 71).map (·.size) = some v.size := fun v h => by rw [h]; exact sz_Nd
 have HSB := hQ_ (aQ (szb xv sx) (aQ (szb yv sy) (szb zv szz)))
 have HOB := hQ_ (aQ ox (aQ oy oz))
 have HLB := hQ_ (aQ (show ZB.size = xv.size by rw [sx, hZBs]) (aQ (show ZB.size = yv.size by rw [sy, hZBs]) (show ZB.size = zv.size by rw [szz, hZBs])))
 have HSD := hQ_ (aQ (szd dx sdx) (aQ (szd dy sdy) (szd dz sdz)))
 have HOD := hQ_ (aQ odx (aQ ody odz))
 have HLD := hQ_ (aQ (show ZD.size = dx.size by rw [sdx, hZDs]) (aQ (show ZD.size = dy.size by rw [sdy, hZDs]) (show ZD.size = dz.size by rw [sdz, hZDs])))
 have HSQ := hQ_ (aQ (szc yq syq) (aQ (szc zq szq) (szc qv sq)))
 have HOQ := hQ_ (aQ oyq (aQ ozq oq))
 have HLQ := hQ_ (aQ (show ZQ.size = yq.size by rw [syq, hZQs]) (aQ (show ZQ.size = zq.size by rw [szq, hZQs]) (show ZQ.size = qv.size by rw [sq, hZQs])))
 have HSP := hQ_ (aQ (szd yp syp) (szd zp szp))
 have HSN := hQ_ (aQ (szn nx snx) (aQ (szn ny sny) (szn nz snz)))
 have HON := hQ_ (aQ onx (aQ ony onz))
 have HLN := hQ_ (aQ snx (aQ sny snz))
 have HND := hQ_ (aQ hnx (aQ hny (aQ hnz (aQ sdx (aQ sdy (aQ sdz (aQ syq (aQ szq sq))))))))
 have HI1 := hQ_ (aQ hi1 (aQ hzi1 (aQ hsi1 (aQ hbi1 hzs1))))
 have HSO := hQ_ (aQ (show (Tryz.prog.info? 33).map (·.size) = some rv.size by rw [srv]; exact sz_B3) (show (Tryz.prog.info? 43).map (·.size) = some gv.size by rw [hgs]; exact info18R))
 have HX := hQ_ (aQ g1 (aQ (zd bg) (aQ hrv (aQ rq (aQ kg0 kg1)))))
 have HR12 := hQ_ (aQ hr1 hr2)
 have HXYZ := hQ_ (fun (W : World) (h : W.rangeAt (w.heap.size + 1) 0 rv.toList) => (show W.rangeAt (w.heap.size + 1) 0 xv.toList /\ W.rangeAt (w.heap.size + 1) 39 yv.toList /\ W.rangeAt (w.heap.size + 1) 78 zv.toList from by
  rw [hrw2] at h
  have e0 : (xv ++ (yv ++ zv)).toList = [] ++ (xv.toList ++ (yv.toList ++ zv.toList)) := by simp
  have e1 : (xv ++ (yv ++ zv)).toList = xv.toList ++ (yv.toList ++ zv.toList) := by simp
  have e2 : (xv ++ (yv ++ zv)).toList = (xv.toList ++ yv.toList) ++ (zv.toList ++ []) := by simp
  have h0 := h
  have h1 := h
  have h2 := h
  rw [e0] at h0
  rw [e1] at h1
  rw [e2] at h2
  have r0 := zx h0
  have r1 := zx h1
  have r2 := zx h2
  rw [Array.length_toList, sx, Nat.zero_add] at r1
  rw [List.length_append, Array.length_toList, Array.length_toList, sx, sy, Nat.zero_add] at r2
  exact ⟨by simpa using r0, r1, r2⟩))
 obtain ⟨kx, hkx⟩ : ∃ k, (bkS x).1 = k := ⟨_, rfl⟩
 obtain ⟨ky, hky⟩ : ∃ k, (bkS y).1 = k := ⟨_, rfl⟩
 obtain ⟨kz, hkz⟩ : ∃ k, (bkS z).1 = k := ⟨_, rfl⟩
 rw [hkx] at HIX
 rw [hky] at HIY
 rw [hkz] at HIZ
 have HKK := hQ_ (aQ hkx (aQ hky hkz))
 obtain ⟨N, hN⟩ : ∃ m, chkN (fun p => qcN V e p.e p.r p.Bl Gl p.L) e V x y z q = m := ⟨_, rfl⟩
 rw [hN]
 have HN := hQ_ hN
 have HW := hQ_ hW1
 clear hN hZBs hZDs hZQs sx sy szz ox oy oz hW1 g1 bg bc kg0 kg1 rx ry rz rq hrv hxv hyv hzv hqv hyq hzq9 hyp hzp hdx hdy hdz hrw hrw2 srv hex hey hez szb szd szc szn hx hy hzz hq hV ok hn hgv hgs hcv sq syq szq oq oyq ozq sdx sdy sdz odx ody odz syp szp hnx hny hnz snx sny snz onx ony onz hr1 hr2 hi1 hzi1 hsi1 hbi1 hzs1 hkx hky hkz hqc
 go_enter Tryz.func9, Tryz.ntmps9
 go_upto_region 1 with (fail)
 rw [HW.out]
 have k1 := HX.out.2.2.2.2.2
 go_wp2_with fail
 refine (HRI.out W1 HX.out.1).mono ?_
 rintro e' w2 ⟨rfl, g2⟩
 have k0 := g2.cell HX.out.2.2.2.2.1 (by simp)
 have HX2 := hQ_ (aQ (za HX.out.1 g2) (aQ (ze HX.out.2.1 g2) (aQ (ze HX.out.2.2.1 g2) (aQ (ze HX.out.2.2.2.1 g2) k0))))
 have HZ2 := hQ_ (show w.heap.size + 1 < w2.heap.size from by have h1 := g2.size; have h2 : W1.heap.size = w.heap.size + 2 := (by rw [<- HW.out]; simp); omega)
 clear g2 k0 k1
 cases hr : rightS V with
 | false =>
  have hnn : N = 11 := by rw [<- HN.out]; unfold chkN; simp [hr]
  subst hnn
  clear hr
  go_wp2_with fail
  go_ret
  exact ⟨rfl, HX2.out.1⟩
 | true =>
  have HRV := hQ_ hr
  clear hr
  go_upto_region 4 with (fail)
  obtain ⟨D0, hD0⟩ : ∃ D0, w2.heap.size = D0 := ⟨_, rfl⟩
  obtain ⟨W3, hW3⟩ : ∃ W3, w2.alloc (.cells #[] 71) = W3 := ⟨_, rfl⟩
  have g3 : w2.grownBy W3 none := by rw [<- hW3]; exact gQ
  have HO3 := hQ_ (show W3.ownsRow D0 71 55 (.slice (some ⟨D0, 0, none⟩) 0 0) 0 [] from by rw [<- hW3, <- hD0]; exact World.ownsRow_made w2 #[] 0 (Nat.le_refl _) (Nat.zero_le _) rfl)
  have HD0 := hQ_ (show w2.heap.size <= D0 from by rw [hD0]; exact Nat.le_refl _)
  have HW3 := hQ_ (aQ hD0 hW3)
  clear hD0 hW3
  try rw [HW3.out.2]
  try rw [HW3.out.1]
  have HG1 := hQ_ (show w2.grownBy W3 none from za (World.grownBy.refl w2 none) g3)
  clear g3
  go_wp2_with (refine wpList_load_mid rfl 33 _ rfl (w.heap.size + 1) 0 rfl rv.toList _ (ze HX2.out.2.2.1 HG1.out) Tryz.underlying33 rfl (by rw [Array.length_toList]; exact HSO.out.1) ?_; rw [Array.toArray_toList])
  refine wp_loop_rounds 4 ?_
  rw [rounds_succ]
  obtain ⟨q10, hq10⟩ : ∃ q, W3.heap.size = q := ⟨_, rfl⟩
  obtain ⟨W10, hW10⟩ : ∃ W, (W3.alloc (.cells ZB 32)).setRow q10 xv = W := ⟨_, rfl⟩
  have bn10 : Blk (W3.alloc (.cells ZB 32)) q10 32 ZB := by rw [<- hq10]; exact Blk.new W3 32 ZB
  have b10 : Blk W10 q10 32 xv := by rw [<- hW10]; exact bn10.row _
  have g10 : W3.grownBy W10 none := by rw [<- hW10]; exact zc (gQ) (.inl (by rw [hq10]; exact Nat.le_refl _)) _
  have HP10 := hQ_ (aQ bn10 hW10)
  have HB10 := hQ_ b10
  have HL10 := hQ_ g10
  clear bn10 hW10 b10
  have HG2 := hQ_ (show w2.grownBy W10 none from za HG1.out g10)
  clear g10
  go_upto_region 7 with (first
   | (refine wpList_store_row rfl 32 _ _ rfl (q10) xv rfl rfl 32 _ HP10.out.1 (HSB.out.1) (HLB.out.1) HOB.out.1 ?_))
  rw [HP10.out.2]
  clear hq10
  have ce : W10.cell? ⟨q10, 0, none⟩ = some (.int .i64 ex) := by have := (HPX.out _ _ HB10.out (za HX2.out.1 HG2.out)).1; rwa [HEX.out.1] at this
  have cg : W10.cell? ⟨w.heap.size, 0, none⟩ = some (.int .i64 e) := HG2.out.cell HX2.out.2.2.2.2 (by simp)
  by_cases he : ex = e
  rotate_left
  · have d1 : (ex != e) = true := by simpa using he
    have hnn : N = 18 := by rw [<- HN.out]; unfold chkN; simp [HRV.out, HEX.out.1, he]
    subst hnn
    clear he
    go_wp2_with fail
    go_ret
    exact ⟨rfl, (za HX2.out.1 HG2.out)⟩
  have d1 : (ex != e) = false := by simpa using he
  have HEQ0 := hQ_ (show x.e = e from HEX.out.1.trans he)
  clear he
  go_wp2_with fail
  clear ce cg d1
  rw [rounds_succ]
  obtain ⟨q20, hq20⟩ : ∃ q, W10.heap.size = q := ⟨_, rfl⟩
  obtain ⟨W20, hW20⟩ : ∃ W, (W10.alloc (.cells ZB 32)).setRow q20 yv = W := ⟨_, rfl⟩
  have bn20 : Blk (W10.alloc (.cells ZB 32)) q20 32 ZB := by rw [<- hq20]; exact Blk.new W10 32 ZB
  have b20 : Blk W20 q20 32 yv := by rw [<- hW20]; exact bn20.row _
  have g20 : W10.grownBy W20 none := by rw [<- hW20]; exact zc (gQ) (.inl (by rw [hq20]; exact Nat.le_refl _)) _
  have HP20 := hQ_ (aQ bn20 hW20)
  have HB20 := hQ_ b20
  have HL20 := hQ_ g20
  clear bn20 hW20 b20
  have HG3 := hQ_ (show w2.grownBy W20 none from za HG2.out g20)
  clear g20
  go_upto_region 7 with (first
   | (refine wpList_store_row rfl 32 _ _ rfl (q20) yv rfl rfl 32 _ HP20.out.1 (HSB.out.2.1) (HLB.out.2.1) HOB.out.2.1 ?_))
  rw [HP20.out.2]
  clear hq20
  have ce : W20.cell? ⟨q20, 0, none⟩ = some (.int .i64 ey) := by have := (HPY.out _ _ HB20.out (za HX2.out.1 HG3.out)).1; rwa [HEX.out.2.1] at this
  have cg : W20.cell? ⟨w.heap.size, 0, none⟩ = some (.int .i64 e) := HG3.out.cell HX2.out.2.2.2.2 (by simp)
  by_cases he : ey = e
  rotate_left
  · have d1 : (ey != e) = true := by simpa using he
    have hnn : N = 18 := by rw [<- HN.out]; unfold chkN; simp [HRV.out, HEQ0.out, HEX.out.2.1, he]
    subst hnn
    clear he
    go_wp2_with fail
    go_ret
    exact ⟨rfl, (za HX2.out.1 HG3.out)⟩
  have d1 : (ey != e) = false := by simpa using he
  have HEQ1 := hQ_ (show y.e = e from HEX.out.2.1.trans he)
  clear he
  go_wp2_with fail
  clear ce cg d1
  rw [rounds_succ]
  obtain ⟨q30, hq30⟩ : ∃ q, W20.heap.size = q := ⟨_, rfl⟩
  obtain ⟨W30, hW30⟩ : ∃ W, (W20.alloc (.cells ZB 32)).setRow q30 zv = W := ⟨_, rfl⟩
  have bn30 : Blk (W20.alloc (.cells ZB 32)) q30 32 ZB := by rw [<- hq30]; exact Blk.new W20 32 ZB
  have b30 : Blk W30 q30 32 zv := by rw [<- hW30]; exact bn30.row _
  have g30 : W20.grownBy W30 none := by rw [<- hW30]; exact zc (gQ) (.inl (by rw [hq30]; exact Nat.le_refl _)) _
  have HP30 := hQ_ (aQ bn30 hW30)
  have HB30 := hQ_ b30
  have HL30 := hQ_ g30
  clear bn30 hW30 b30
  have HG4 := hQ_ (show w2.grownBy W30 none from za HG3.out g30)
  clear g30
  go_upto_region 7 with (first
   | (refine wpList_store_row rfl 32 _ _ rfl (q30) zv rfl rfl 32 _ HP30.out.1 (HSB.out.2.2) (HLB.out.2.2) HOB.out.2.2 ?_))
  rw [HP30.out.2]
  clear hq30
  have ce : W30.cell? ⟨q30, 0, none⟩ = some (.int .i64 ez) := by have := (HPZ.out _ _ HB30.out (za HX2.out.1 HG4.out)).1; rwa [HEX.out.2.2] at this
  have cg : W30.cell? ⟨w.heap.size, 0, none⟩ = some (.int .i64 e) := HG4.out.cell HX2.out.2.2.2.2 (by simp)
  by_cases he : ez = e
  rotate_left
  · have d1 : (ez != e) = true := by simpa using he
    have hnn : N = 18 := by rw [<- HN.out]; unfold chkN; simp [HRV.out, HEQ0.out, HEQ1.out, HEX.out.2.2, he]
    subst hnn
    clear he
    go_wp2_with fail
    go_ret
    exact ⟨rfl, (za HX2.out.1 HG4.out)⟩
  have d1 : (ez != e) = false := by simpa using he
  have HEQ2 := hQ_ (show z.e = e from HEX.out.2.2.trans he)
  clear he
  go_wp2_with fail
  clear ce cg d1
  rw [rounds_succ]
  go_wp2_with (refine wpList_load_mid rfl 33 _ rfl (w.heap.size + 1) 0 rfl rv.toList _ (ze HX2.out.2.2.1 HG4.out) Tryz.underlying33 rfl (by rw [Array.length_toList]; exact HSO.out.1) ?_; rw [Array.toArray_toList])
  refine wp_loop_rounds 4 ?_
  rw [rounds_succ]
  have HOW := hQ_ (show W30.ownsRow D0 71 55 (.slice (some ⟨D0, 0, none⟩) 0 0) 0 [] from vt HO3.out (by
   have h1 := HL10.out
   have h2 := HL20.out
   have h3 := HL30.out
   exact za h1 (za h2 h3)))
  obtain ⟨q60, hq60⟩ : ∃ q, W30.heap.size = q := ⟨_, rfl⟩
  obtain ⟨W60, hW60⟩ : ∃ W, (W30.alloc (.cells ZB 32)).setRow q60 xv = W := ⟨_, rfl⟩
  have bn60 : Blk (W30.alloc (.cells ZB 32)) q60 32 ZB := by rw [<- hq60]; exact Blk.new W30 32 ZB
  have b60 : Blk W60 q60 32 xv := by rw [<- hW60]; exact bn60.row _
  have g60 : W30.grownBy W60 none := by rw [<- hW60]; exact zc (gQ) (.inl (by rw [hq60]; exact Nat.le_refl _)) _
  have HP60 := hQ_ (aQ bn60 hW60)
  have HB60 := hQ_ b60
  have HL60 := hQ_ g60
  clear bn60 hW60 b60
  have HG5 := hQ_ (show w2.grownBy W60 none from za HG4.out g60)
  clear g60
  go_upto_region 13 with (first
   | (refine wpList_store_row rfl 32 _ _ rfl (q60) xv rfl rfl 32 _ HP60.out.1 (HSB.out.1) (HLB.out.1) HOB.out.1 ?_))
  rw [HP60.out.2]
  clear hq60
  go_wp2_with (refine wpList_load_mid rfl 32 _ rfl (q60) 0 rfl xv.toList _ (zd HB60.out) Tryz.underlying32 rfl (by rw [Array.length_toList]; exact HSB.out.1) ?_; rw [Array.toArray_toList])
  refine (HIX.out W60 (za HX2.out.1 HG5.out)).mono ?_
  rintro e' w60 ⟨rfl, g60⟩
  have HI60 := hQ_ g60
  have HG6 := hQ_ (show w2.grownBy w60 none from za HG5.out g60)
  clear g60
  obtain ⟨q61, hq61⟩ : ∃ q, w60.heap.size = q := ⟨_, rfl⟩
  obtain ⟨W61, hW61⟩ : ∃ W, (w60.alloc (.cells ZD 24)).setRow q61 dx = W := ⟨_, rfl⟩
  have bn61 : Blk (w60.alloc (.cells ZD 24)) q61 24 ZD := by rw [<- hq61]; exact Blk.new w60 24 ZD
  have b61 : Blk W61 q61 24 dx := by rw [<- hW61]; exact bn61.row _
  have g61 : w60.grownBy W61 none := by rw [<- hW61]; exact zc (gQ) (.inl (by rw [hq61]; exact Nat.le_refl _)) _
  have HP61 := hQ_ (aQ bn61 hW61)
  have HB61 := hQ_ b61
  have HL61 := hQ_ g61
  clear bn61 hW61 b61
  have HG7 := hQ_ (show w2.grownBy W61 none from za HG6.out g61)
  clear g61
  go_upto_region 14 with (first
   | (refine wpList_store_row rfl 24 _ _ rfl (q61) dx rfl rfl 24 _ HP61.out.1 (HSD.out.1) (HLD.out.1) HOD.out.1 ?_))
  rw [HP61.out.2]
  clear hq61
  by_cases h0 : kx = 0
  rotate_left
  · have d1 : ((kx : Int) != 0) = true := by simp; omega
    have hnn : N = 16 := by rw [<- HN.out]; unfold chkN rowN; simp [HRV.out, HEQ0.out, HEQ1.out, HEQ2.out, HKK.out.1, h0]
    subst hnn
    clear h0
    refine zj (by kernel_rfl) (by kernel_rfl) ?_
    repeat (first
     | go_big_quiet_skip
     | (go_big_quiet_want; first
      | (go_big_quiet_op; first | go_big_quiet_on)))
    refine wpQuiet_nil ?_
    rintro w7 ⟨⟨_, k7⟩, rfl⟩
    have HZ := hQ_ (za (za HX2.out.1 HG7.out) k7)
    clear k7
    go_wp2_with fail
    go_ret
    exact ⟨rfl, HZ.out⟩
  have d1 : ((kx : Int) != 0) = false := by simp; omega
  have HK0 := hQ_ (show (bkS x).1 = 0 from by rw [HKK.out.1, h0])
  clear h0
  refine zj (by kernel_rfl) (by kernel_rfl) ?_
  repeat (first
   | go_big_quiet_skip
   | (go_big_quiet_want; first
    | (go_big_quiet_op; first | go_big_quiet_on)))
  refine wpQuiet_nil ?_
  rintro w7 ⟨⟨_, k7⟩, rfl⟩
  have HI607 := hQ_ k7
  have HG8 := hQ_ (show w2.grownBy w7 none from za HG7.out k7)
  clear d1 k7


  have HOW0 := hQ_ (vt HOW.out (za (za HL60.out (za HI60.out HL61.out)) HI607.out))
  have HSL0 := hQ_ (za9 (P := Tryz.prog) w7 69 71 nx Tryz.underlying69 (by rw [HLN.out.1]; exact sz_Nd) (by rw [HLN.out.1, HI1.out.1, Option.bind_some, HI1.out.2.1, Option.map_some, HI1.out.2.2.2.2]) (by rw [HLN.out.1]; omega) (by rw [HLN.out.1]; omega))
  go_upto_region 17 with (first
   | (refine wpList_load_mid rfl 24 _ rfl (q61) 0 rfl dx.toList _ (zd (HB61.out.grown HI607.out (by simp))) Tryz.underlying24 rfl (by rw [Array.length_toList]; exact HSD.out.1) ?_; rw [Array.toArray_toList])
   | (refine wpList_load_mid rfl 32 _ rfl (q60) 0 rfl xv.toList _ (zd (HB60.out.grown (za (za HI60.out HL61.out) HI607.out) (by simp))) Tryz.underlying32 rfl (by rw [Array.length_toList]; exact HSB.out.1) ?_; rw [Array.toArray_toList])
   | (refine yg (by rfl) 71 #[(0, Operand.tmp 63), (1, Operand.tmp 64)] rfl #[(0, .agg dx), (1, .agg xv)] (by kernel_rfl) (.agg nx) (hbx _) ?_)
   | (refine uz rfl 69 1 0 _ rfl (.agg nx) _ rfl HSL0.out ?_)
   | (at_builtin; refine zak rfl _ _ 69 rfl D0 71 71 i1 z1 55 152 Tryz.underlying69 HI1.out.1 HI1.out.2.1 HI1.out.2.2.1 HI1.out.2.2.2.1 HI1.out.2.2.2.2 (by decide) _ 0 _ rfl HOW0.out nx HON.out.1 HLN.out.1 rfl (by omega) (by decide) (by have := HG8.out.size; have := HW3.out.1; omega) ?_; intro v0 wv0 ho0 hg0 _; have HOV0 := hQ_ ho0; have HGV0 := hQ_ hg0; clear ho0 hg0))

  have HNG0 := hQ_ (show w2.grownBy wv0 none from ul HG8.out HGV0.out HOW0.out HD0.out)
  obtain ⟨gn0, cn0, hv0, hr0, hb0⟩ := zef (by omega) HOV0.out
  subst hv0
  have HRR0 := hQ_ hr0
  clear hr0 hb0 HOW
  have HOW := hQ_ HOV0.out
  have HG108 := hQ_ (show w2.grownBy wv0 none from HNG0.out)
  have HRN0 := hQ_ (fun (W : World) (hW : wv0.grownBy W none) => (show W.rangeAt gn0 0 dx.toList from by
   have r := ze HRR0.out hW
   have e1 : [] ++ nx.toList = [] ++ (dx.toList ++ xv.toList) := by rw [<- HND.out.1]; simp
   rw [e1] at r
   have := zx r
   simpa [HLN.out.1] using this))
  go_wp2_with fail
  rw [rounds_succ]
  obtain ⟨q70, hq70⟩ : ∃ q, wv0.heap.size = q := ⟨_, rfl⟩
  obtain ⟨W70, hW70⟩ : ∃ W, (wv0.alloc (.cells ZB 32)).setRow q70 yv = W := ⟨_, rfl⟩
  have bn70 : Blk (wv0.alloc (.cells ZB 32)) q70 32 ZB := by rw [<- hq70]; exact Blk.new wv0 32 ZB
  have b70 : Blk W70 q70 32 yv := by rw [<- hW70]; exact bn70.row _
  have g70 : wv0.grownBy W70 none := by rw [<- hW70]; exact zc (gQ) (.inl (by rw [hq70]; exact Nat.le_refl _)) _
  have HP70 := hQ_ (aQ bn70 hW70)
  have HB70 := hQ_ b70
  have HL70 := hQ_ g70
  clear bn70 hW70 b70
  have HG10 := hQ_ (show w2.grownBy W70 none from za HG108.out g70)
  clear g70
  go_upto_region 13 with (first
   | (refine wpList_store_row rfl 32 _ _ rfl (q70) yv rfl rfl 32 _ HP70.out.1 (HSB.out.2.1) (HLB.out.2.1) HOB.out.2.1 ?_))
  rw [HP70.out.2]
  clear hq70
  go_wp2_with (refine wpList_load_mid rfl 32 _ rfl (q70) 0 rfl yv.toList _ (zd HB70.out) Tryz.underlying32 rfl (by rw [Array.length_toList]; exact HSB.out.2.1) ?_; rw [Array.toArray_toList])
  refine (HIY.out W70 (za HX2.out.1 HG10.out)).mono ?_
  rintro e' w70 ⟨rfl, g70⟩
  have HI70 := hQ_ g70
  have HG11 := hQ_ (show w2.grownBy w70 none from za HG10.out g70)
  clear g70
  obtain ⟨q71, hq71⟩ : ∃ q, w70.heap.size = q := ⟨_, rfl⟩
  obtain ⟨W71, hW71⟩ : ∃ W, (w70.alloc (.cells ZD 24)).setRow q71 dy = W := ⟨_, rfl⟩
  have bn71 : Blk (w70.alloc (.cells ZD 24)) q71 24 ZD := by rw [<- hq71]; exact Blk.new w70 24 ZD
  have b71 : Blk W71 q71 24 dy := by rw [<- hW71]; exact bn71.row _
  have g71 : w70.grownBy W71 none := by rw [<- hW71]; exact zc (gQ) (.inl (by rw [hq71]; exact Nat.le_refl _)) _
  have HP71 := hQ_ (aQ bn71 hW71)
  have HB71 := hQ_ b71
  have HL71 := hQ_ g71
  clear bn71 hW71 b71
  have HG12 := hQ_ (show w2.grownBy W71 none from za HG11.out g71)
  clear g71
  go_upto_region 14 with (first
   | (refine wpList_store_row rfl 24 _ _ rfl (q71) dy rfl rfl 24 _ HP71.out.1 (HSD.out.2.1) (HLD.out.2.1) HOD.out.2.1 ?_))
  rw [HP71.out.2]
  clear hq71
  by_cases h0 : ky = 0
  rotate_left
  · have d1 : ((ky : Int) != 0) = true := by simp; omega
    have hnn : N = 16 := by rw [<- HN.out]; unfold chkN rowN; simp [HRV.out, HEQ0.out, HEQ1.out, HEQ2.out, HK0.out, HKK.out.2.1, h0]
    subst hnn
    clear h0
    refine zj (by kernel_rfl) (by kernel_rfl) ?_
    repeat (first
     | go_big_quiet_skip
     | (go_big_quiet_want; first
      | (go_big_quiet_op; first | go_big_quiet_on)))
    refine wpQuiet_nil ?_
    rintro w7 ⟨⟨_, k7⟩, rfl⟩
    have HZ := hQ_ (za (za HX2.out.1 HG12.out) k7)
    clear k7
    go_wp2_with fail
    go_ret
    exact ⟨rfl, HZ.out⟩
  have d1 : ((ky : Int) != 0) = false := by simp; omega
  have HK1 := hQ_ (show (bkS y).1 = 0 from by rw [HKK.out.2.1, h0])
  clear h0
  have V1 := hQ_ (show ∀ zz : Gr W71, Sem.run Tryz.prog (Instr.loadAt 24 (.pointer (some ⟨q70, 2, none⟩))) zz.1 = .ok (.agg yp) zz.1 from fun zz => ya zz.1 q70 2 24 yp _ (ze (HPY.out _ _ (HB70.out.grown (za HI70.out HL71.out) (by simp)) (za HX2.out.1 HG12.out)).2.2.2 zz.2) Tryz.underlying24 rfl HSP.out.1)
  have V2 := hQ_ (show ∀ zz : Gr W71, Sem.run Tryz.prog (Instr.loadAt 24 (.pointer (some ⟨gn0, 0, none⟩))) zz.1 = .ok (.agg dx) zz.1 from fun zz => ya zz.1 gn0 0 24 dx _ (ze (HRN0.out _ (za HL70.out (za HI70.out HL71.out))) zz.2) Tryz.underlying24 rfl HSD.out.1)
  cases r1 with
  | false =>
   have hne : ¬ y.P = idD x := of_decide_eq_false HR12.out.1
   have hnn : N = 16 := by rw [<- HN.out]; unfold chkN rowN; simp [HRV.out, HEQ0.out, HEQ1.out, HEQ2.out, HK0.out, HK1.out, hne]
   subst hnn
   clear hne
   refine zj (by kernel_rfl) (by kernel_rfl) ?_
   repeat (first
    | go_big_quiet_skip
    | (go_big_quiet_want; first
     | (refine zg 24 _ ⟨q70, 2, none⟩ (.agg yp) rfl rfl (by rintro _ ⟨z, rfl⟩; exact V1.out z) ?_; simp only [Act.put, List.setIfInBounds_toArray, List.set_cons_zero, List.set_cons_succ]; go_big_quiet_on)
     | (refine zg 24 _ ⟨gn0, 0, none⟩ (.agg dx) rfl rfl (by rintro _ ⟨z, rfl⟩; exact V2.out z) ?_; simp only [Act.put, List.setIfInBounds_toArray, List.set_cons_zero, List.set_cons_succ]; go_big_quiet_on)
     | (go_big_quiet_op; first | go_big_quiet_on)))
   refine wpQuiet_nil ?_
   rintro w7 ⟨⟨_, k7⟩, rfl⟩
   have HZ := hQ_ (za (za HX2.out.1 HG12.out) k7)
   clear k7
   go_wp2_with fail
   go_ret
   exact ⟨rfl, HZ.out⟩
  | true =>
  have HPP1 := hQ_ (show y.P = idD x from of_decide_eq_true HR12.out.1)
  refine zj (by kernel_rfl) (by kernel_rfl) ?_
  repeat (first
   | go_big_quiet_skip
   | (go_big_quiet_want; first
    | (refine zg 24 _ ⟨q70, 2, none⟩ (.agg yp) rfl rfl (by rintro _ ⟨z, rfl⟩; exact V1.out z) ?_; simp only [Act.put, List.setIfInBounds_toArray, List.set_cons_zero, List.set_cons_succ]; go_big_quiet_on)
    | (refine zg 24 _ ⟨gn0, 0, none⟩ (.agg dx) rfl rfl (by rintro _ ⟨z, rfl⟩; exact V2.out z) ?_; simp only [Act.put, List.setIfInBounds_toArray, List.set_cons_zero, List.set_cons_succ]; go_big_quiet_on)
    | (go_big_quiet_op; first | go_big_quiet_on)))
  refine wpQuiet_nil ?_
  rintro w7 ⟨⟨_, k7⟩, rfl⟩
  have HI707 := hQ_ k7
  clear V1 V2
  have HG13 := hQ_ (show w2.grownBy w7 none from za HG12.out k7)
  clear d1 k7


  have HOW1 := hQ_ (vt HOW.out (za (za HL70.out (za HI70.out HL71.out)) HI707.out))
  have HSL1 := hQ_ (za9 (P := Tryz.prog) w7 69 71 ny Tryz.underlying69 (by rw [HLN.out.2.1]; exact sz_Nd) (by rw [HLN.out.2.1, HI1.out.1, Option.bind_some, HI1.out.2.1, Option.map_some, HI1.out.2.2.2.2]) (by rw [HLN.out.2.1]; omega) (by rw [HLN.out.2.1]; omega))
  go_upto_region 17 with (first
   | (refine wpList_load_mid rfl 24 _ rfl (q71) 0 rfl dy.toList _ (zd (HB71.out.grown HI707.out (by simp))) Tryz.underlying24 rfl (by rw [Array.length_toList]; exact HSD.out.2.1) ?_; rw [Array.toArray_toList])
   | (refine wpList_load_mid rfl 32 _ rfl (q70) 0 rfl yv.toList _ (zd (HB70.out.grown (za (za HI70.out HL71.out) HI707.out) (by simp))) Tryz.underlying32 rfl (by rw [Array.length_toList]; exact HSB.out.2.1) ?_; rw [Array.toArray_toList])
   | (refine yg (by rfl) 71 #[(0, Operand.tmp 63), (1, Operand.tmp 64)] rfl #[(0, .agg dy), (1, .agg yv)] (by kernel_rfl) (.agg ny) (hby _) ?_)
   | (refine uz rfl 69 1 0 _ rfl (.agg ny) _ rfl HSL1.out ?_)
   | (at_builtin; refine zak rfl _ _ 69 rfl D0 71 71 i1 z1 55 152 Tryz.underlying69 HI1.out.1 HI1.out.2.1 HI1.out.2.2.1 HI1.out.2.2.2.1 HI1.out.2.2.2.2 (by decide) _ 1 _ rfl HOW1.out ny HON.out.2.1 HLN.out.2.1 rfl (by omega) (by decide) (by have := HG13.out.size; have := HW3.out.1; omega) ?_; intro v1 wv1 ho1 hg1 _; have HOV1 := hQ_ ho1; have HGV1 := hQ_ hg1; clear ho1 hg1))

  have HNG1 := hQ_ (show w2.grownBy wv1 none from ul HG13.out HGV1.out HOW1.out HD0.out)
  obtain ⟨gn1, cn1, hv1, hr1, hb1⟩ := zef (by omega) HOV1.out
  subst hv1
  have HRR1 := hQ_ hr1
  clear hr1 hb1 HOW
  have HOW := hQ_ HOV1.out
  have HG113 := hQ_ (show w2.grownBy wv1 none from HNG1.out)
  have HRN1 := hQ_ (fun (W : World) (hW : wv1.grownBy W none) => (show W.rangeAt gn1 55 dy.toList from by
   have r := ze HRR1.out hW
   have e1 : ([] ++ nx.toList) ++ ny.toList = nx.toList ++ (dy.toList ++ yv.toList) := by rw [<- HND.out.2.1]; simp
   rw [e1] at r
   have := zx r
   simpa [HLN.out.1] using this))
  go_wp2_with fail
  rw [rounds_succ]
  obtain ⟨q80, hq80⟩ : ∃ q, wv1.heap.size = q := ⟨_, rfl⟩
  obtain ⟨W80, hW80⟩ : ∃ W, (wv1.alloc (.cells ZB 32)).setRow q80 zv = W := ⟨_, rfl⟩
  have bn80 : Blk (wv1.alloc (.cells ZB 32)) q80 32 ZB := by rw [<- hq80]; exact Blk.new wv1 32 ZB
  have b80 : Blk W80 q80 32 zv := by rw [<- hW80]; exact bn80.row _
  have g80 : wv1.grownBy W80 none := by rw [<- hW80]; exact zc (gQ) (.inl (by rw [hq80]; exact Nat.le_refl _)) _
  have HP80 := hQ_ (aQ bn80 hW80)
  have HB80 := hQ_ b80
  have HL80 := hQ_ g80
  clear bn80 hW80 b80
  have HG15 := hQ_ (show w2.grownBy W80 none from za HG113.out g80)
  clear g80
  go_upto_region 13 with (first
   | (refine wpList_store_row rfl 32 _ _ rfl (q80) zv rfl rfl 32 _ HP80.out.1 (HSB.out.2.2) (HLB.out.2.2) HOB.out.2.2 ?_))
  rw [HP80.out.2]
  clear hq80
  go_wp2_with (refine wpList_load_mid rfl 32 _ rfl (q80) 0 rfl zv.toList _ (zd HB80.out) Tryz.underlying32 rfl (by rw [Array.length_toList]; exact HSB.out.2.2) ?_; rw [Array.toArray_toList])
  refine (HIZ.out W80 (za HX2.out.1 HG15.out)).mono ?_
  rintro e' w80 ⟨rfl, g80⟩
  have HI80 := hQ_ g80
  have HG16 := hQ_ (show w2.grownBy w80 none from za HG15.out g80)
  clear g80
  obtain ⟨q81, hq81⟩ : ∃ q, w80.heap.size = q := ⟨_, rfl⟩
  obtain ⟨W81, hW81⟩ : ∃ W, (w80.alloc (.cells ZD 24)).setRow q81 dz = W := ⟨_, rfl⟩
  have bn81 : Blk (w80.alloc (.cells ZD 24)) q81 24 ZD := by rw [<- hq81]; exact Blk.new w80 24 ZD
  have b81 : Blk W81 q81 24 dz := by rw [<- hW81]; exact bn81.row _
  have g81 : w80.grownBy W81 none := by rw [<- hW81]; exact zc (gQ) (.inl (by rw [hq81]; exact Nat.le_refl _)) _
  have HP81 := hQ_ (aQ bn81 hW81)
  have HB81 := hQ_ b81
  have HL81 := hQ_ g81
  clear bn81 hW81 b81
  have HG17 := hQ_ (show w2.grownBy W81 none from za HG16.out g81)
  clear g81
  go_upto_region 14 with (first
   | (refine wpList_store_row rfl 24 _ _ rfl (q81) dz rfl rfl 24 _ HP81.out.1 (HSD.out.2.2) (HLD.out.2.2) HOD.out.2.2 ?_))
  rw [HP81.out.2]
  clear hq81
  by_cases h0 : kz = 0
  rotate_left
  · have d1 : ((kz : Int) != 0) = true := by simp; omega
    have hnn : N = 16 := by rw [<- HN.out]; unfold chkN rowN; simp [HRV.out, HEQ0.out, HEQ1.out, HEQ2.out, HK0.out, HK1.out, HPP1.out, HKK.out.2.2, h0]
    subst hnn
    clear h0
    refine zj (by kernel_rfl) (by kernel_rfl) ?_
    repeat (first
     | go_big_quiet_skip
     | (go_big_quiet_want; first
      | (go_big_quiet_op; first | go_big_quiet_on)))
    refine wpQuiet_nil ?_
    rintro w7 ⟨⟨_, k7⟩, rfl⟩
    have HZ := hQ_ (za (za HX2.out.1 HG17.out) k7)
    clear k7
    go_wp2_with fail
    go_ret
    exact ⟨rfl, HZ.out⟩
  have d1 : ((kz : Int) != 0) = false := by simp; omega
  have HK2 := hQ_ (show (bkS z).1 = 0 from by rw [HKK.out.2.2, h0])
  clear h0
  have V1 := hQ_ (show ∀ zz : Gr W81, Sem.run Tryz.prog (Instr.loadAt 24 (.pointer (some ⟨q80, 2, none⟩))) zz.1 = .ok (.agg zp) zz.1 from fun zz => ya zz.1 q80 2 24 zp _ (ze (HPZ.out _ _ (HB80.out.grown (za HI80.out HL81.out) (by simp)) (za HX2.out.1 HG17.out)).2.2.2 zz.2) Tryz.underlying24 rfl HSP.out.2)
  have V2 := hQ_ (show ∀ zz : Gr W81, Sem.run Tryz.prog (Instr.loadAt 24 (.pointer (some ⟨gn1, 55, none⟩))) zz.1 = .ok (.agg dy) zz.1 from fun zz => ya zz.1 gn1 55 24 dy _ (ze (HRN1.out _ (za HL80.out (za HI80.out HL81.out))) zz.2) Tryz.underlying24 rfl HSD.out.2.1)
  cases r2 with
  | false =>
   have hne : ¬ z.P = idD y := of_decide_eq_false HR12.out.2
   have hnn : N = 16 := by rw [<- HN.out]; unfold chkN rowN; simp [HRV.out, HEQ0.out, HEQ1.out, HEQ2.out, HK0.out, HK1.out, HPP1.out, HK2.out, hne]
   subst hnn
   clear hne
   refine zj (by kernel_rfl) (by kernel_rfl) ?_
   repeat (first
    | go_big_quiet_skip
    | (go_big_quiet_want; first
     | (refine zg 24 _ ⟨q80, 2, none⟩ (.agg zp) rfl rfl (by rintro _ ⟨z, rfl⟩; exact V1.out z) ?_; simp only [Act.put, List.setIfInBounds_toArray, List.set_cons_zero, List.set_cons_succ]; go_big_quiet_on)
     | (refine zg 24 _ ⟨gn1, 55, none⟩ (.agg dy) rfl rfl (by rintro _ ⟨z, rfl⟩; exact V2.out z) ?_; simp only [Act.put, List.setIfInBounds_toArray, List.set_cons_zero, List.set_cons_succ]; go_big_quiet_on)
     | (go_big_quiet_op; first | go_big_quiet_on)))
   refine wpQuiet_nil ?_
   rintro w7 ⟨⟨_, k7⟩, rfl⟩
   have HZ := hQ_ (za (za HX2.out.1 HG17.out) k7)
   clear k7
   go_wp2_with fail
   go_ret
   exact ⟨rfl, HZ.out⟩
  | true =>
  have HPP2 := hQ_ (show z.P = idD y from of_decide_eq_true HR12.out.2)
  refine zj (by kernel_rfl) (by kernel_rfl) ?_
  repeat (first
   | go_big_quiet_skip
   | (go_big_quiet_want; first
    | (refine zg 24 _ ⟨q80, 2, none⟩ (.agg zp) rfl rfl (by rintro _ ⟨z, rfl⟩; exact V1.out z) ?_; simp only [Act.put, List.setIfInBounds_toArray, List.set_cons_zero, List.set_cons_succ]; go_big_quiet_on)
    | (refine zg 24 _ ⟨gn1, 55, none⟩ (.agg dy) rfl rfl (by rintro _ ⟨z, rfl⟩; exact V2.out z) ?_; simp only [Act.put, List.setIfInBounds_toArray, List.set_cons_zero, List.set_cons_succ]; go_big_quiet_on)
    | (go_big_quiet_op; first | go_big_quiet_on)))
  refine wpQuiet_nil ?_
  rintro w7 ⟨⟨_, k7⟩, rfl⟩
  have HI807 := hQ_ k7
  clear V1 V2
  have HG18 := hQ_ (show w2.grownBy w7 none from za HG17.out k7)
  clear d1 k7


  have HOW2 := hQ_ (vt HOW.out (za (za HL80.out (za HI80.out HL81.out)) HI807.out))
  have HSL2 := hQ_ (za9 (P := Tryz.prog) w7 69 71 nz Tryz.underlying69 (by rw [HLN.out.2.2]; exact sz_Nd) (by rw [HLN.out.2.2, HI1.out.1, Option.bind_some, HI1.out.2.1, Option.map_some, HI1.out.2.2.2.2]) (by rw [HLN.out.2.2]; omega) (by rw [HLN.out.2.2]; omega))
  go_upto_region 17 with (first
   | (refine wpList_load_mid rfl 24 _ rfl (q81) 0 rfl dz.toList _ (zd (HB81.out.grown HI807.out (by simp))) Tryz.underlying24 rfl (by rw [Array.length_toList]; exact HSD.out.2.2) ?_; rw [Array.toArray_toList])
   | (refine wpList_load_mid rfl 32 _ rfl (q80) 0 rfl zv.toList _ (zd (HB80.out.grown (za (za HI80.out HL81.out) HI807.out) (by simp))) Tryz.underlying32 rfl (by rw [Array.length_toList]; exact HSB.out.2.2) ?_; rw [Array.toArray_toList])
   | (refine yg (by rfl) 71 #[(0, Operand.tmp 63), (1, Operand.tmp 64)] rfl #[(0, .agg dz), (1, .agg zv)] (by kernel_rfl) (.agg nz) (hbz _) ?_)
   | (refine uz rfl 69 1 0 _ rfl (.agg nz) _ rfl HSL2.out ?_)
   | (at_builtin; refine zak rfl _ _ 69 rfl D0 71 71 i1 z1 55 152 Tryz.underlying69 HI1.out.1 HI1.out.2.1 HI1.out.2.2.1 HI1.out.2.2.2.1 HI1.out.2.2.2.2 (by decide) _ 2 _ rfl HOW2.out nz HON.out.2.2 HLN.out.2.2 rfl (by omega) (by decide) (by have := HG18.out.size; have := HW3.out.1; omega) ?_; intro v2 wv2 ho2 hg2 _; have HOV2 := hQ_ ho2; have HGV2 := hQ_ hg2; clear ho2 hg2))

  have HNG2 := hQ_ (show w2.grownBy wv2 none from ul HG18.out HGV2.out HOW2.out HD0.out)
  obtain ⟨gn2, cn2, hv2, hr2, hb2⟩ := zef (by omega) HOV2.out
  subst hv2
  have HRR2 := hQ_ hr2
  clear hr2 hb2 HOW
  have HOW := hQ_ HOV2.out
  have HG118 := hQ_ (show w2.grownBy wv2 none from HNG2.out)
  go_wp2_with fail
  rw [rounds_succ]
  have HSK := hQ_ (fun (V V' : World) (h : V.rangeAt (w.heap.size + 1) 0 xv.toList /\ V.rangeAt (w.heap.size + 1) 39 yv.toList /\ V.rangeAt (w.heap.size + 1) 78 zv.toList) (g : V.grownBy V' none) => (show V'.rangeAt (w.heap.size + 1) 0 xv.toList /\ V'.rangeAt (w.heap.size + 1) 39 yv.toList /\ V'.rangeAt (w.heap.size + 1) 78 zv.toList from ⟨ze h.1 g, ze h.2.1 g, ze h.2.2 g⟩))
  have HSK2 := hQ_ (fun (V : World) (pp : Nat) (vv : Array Value) (h : V.rangeAt (w.heap.size + 1) 0 xv.toList /\ V.rangeAt (w.heap.size + 1) 39 yv.toList /\ V.rangeAt (w.heap.size + 1) 78 zv.toList) (hne : w.heap.size + 1 ≠ pp) => (show (V.setRow pp vv).rangeAt (w.heap.size + 1) 0 xv.toList /\ (V.setRow pp vv).rangeAt (w.heap.size + 1) 39 yv.toList /\ (V.setRow pp vv).rangeAt (w.heap.size + 1) 78 zv.toList from ⟨z6 h.1 hne _, z6 h.2.1 hne _, z6 h.2.2 hne _⟩))
  have HB1Z := hQ_ (show w.heap.size + 1 < wv2.heap.size from by
   have h1 := HG118.out.size
   have h2 := HZ2.out
   omega)
  go_upto_region 18 with (fail)
  go_cut [12, 13, 14] (fun v1 v2 v3 wx => Cut3 wv2 wx xv yv zv v1 v2 v3)
  case first =>
   rename_i J8 K8 hJ8 hK8
   refine wp_region_held_drew (S := fun V => V.rangeAt (w.heap.size + 1) 0 xv.toList /\ V.rangeAt (w.heap.size + 1) 39 yv.toList /\ V.rangeAt (w.heap.size + 1) 78 zv.toList) (by kernel_rfl) (HSK.out _ _ (HXYZ.out _ (ze HX2.out.2.2.1 HG118.out)) (zh (World.grownBy.refl wv2 none))) (fun hHeld => ?_)
   obtain ⟨V0, hV0⟩ : ∃ V0, V0 = wv2.drew := ⟨_, rfl⟩
   rw [<- hV0] at hHeld ⊢
   have HV0 := hQ_ (show V0.heap.size = wv2.heap.size by rw [hV0]; rfl)
   have HV0G := hQ_ (show wv2.grownBy V0 none by rw [hV0]; exact zh (World.grownBy.refl wv2 none))
   clear hV0
   refine wpAnyH_take (i := 0) (oi := _) (v := ?vt18x0) rfl (by kernel_rfl) (by kernel_rfl) (by kernel_rfl) (fun _ _ _ h => h) (Or.inl ⟨by rfl, ?hyt18x0⟩) (by assumption) ?restt18x0
   case hyt18x0 => (intro V hSw; (try dsimp only at hSw); go_simp) <;> with_reducible rfl
   try simp only [Act.put, List.getElem_toArray, List.getElem_cons_succ, List.getElem_cons_zero, List.setIfInBounds_toArray, List.set_cons_zero, List.set_cons_succ]
   refine wpAnyH_take (i := 1) (oi := _) (v := ?vt18x1) rfl (by kernel_rfl) (by kernel_rfl) (by kernel_rfl) (fun _ _ _ h => h) (Or.inl ⟨by rfl, ?hyt18x1⟩) (by assumption) ?restt18x1
   case hyt18x1 => (intro V hSw; (try dsimp only at hSw); go_simp) <;> with_reducible rfl
   try simp only [Act.put, List.getElem_toArray, List.getElem_cons_succ, List.getElem_cons_zero, List.setIfInBounds_toArray, List.set_cons_zero, List.set_cons_succ]
   refine wpAnyH_take (i := 2) (oi := _) (v := .agg xv) rfl (by kernel_rfl) (by kernel_rfl) (by kernel_rfl) (fun _ _ _ h => h) (yieldsIf_load_mid (by rfl) _ _ rfl (w.heap.size + 1) 0 rfl xv.toList _ (fun V hSw => hSw.1) Tryz.underlying32 rfl (by rw [Array.length_toList]; exact HSB.out.1)) (by assumption) ?rl2
   try simp only [Act.put, List.getElem_toArray, List.getElem_cons_succ, List.getElem_cons_zero, List.setIfInBounds_toArray, List.set_cons_zero, List.set_cons_succ]
   refine wpAnyH_take (i := 3) (oi := _) (v := ?vt18x3) rfl (by kernel_rfl) (by kernel_rfl) (by kernel_rfl) (fun _ _ _ h => h) (Or.inl ⟨by rfl, ?hyt18x3⟩) (by assumption) ?restt18x3
   case hyt18x3 => (intro V hSw; (try dsimp only at hSw); go_simp) <;> with_reducible rfl
   try simp only [Act.put, List.getElem_toArray, List.getElem_cons_succ, List.getElem_cons_zero, List.setIfInBounds_toArray, List.set_cons_zero, List.set_cons_succ]
   refine wpAnyH_take (i := 4) (oi := _) (v := ?vt18x4) rfl (by kernel_rfl) (by kernel_rfl) (by kernel_rfl) (fun _ _ _ h => h) (Or.inl ⟨by rfl, ?hyt18x4⟩) (by assumption) ?restt18x4
   case hyt18x4 => (intro V hSw; (try dsimp only at hSw); go_simp) <;> with_reducible rfl
   try simp only [Act.put, List.getElem_toArray, List.getElem_cons_succ, List.getElem_cons_zero, List.setIfInBounds_toArray, List.set_cons_zero, List.set_cons_succ]
   refine wpAnyH_take (i := 5) (oi := _) (v := .agg yv) rfl (by kernel_rfl) (by kernel_rfl) (by kernel_rfl) (fun _ _ _ h => h) (yieldsIf_load_mid (by rfl) _ _ rfl (w.heap.size + 1) 39 rfl yv.toList _ (fun V hSw => hSw.2.1) Tryz.underlying32 rfl (by rw [Array.length_toList]; exact HSB.out.2.1)) (by assumption) ?rl5
   try simp only [Act.put, List.getElem_toArray, List.getElem_cons_succ, List.getElem_cons_zero, List.setIfInBounds_toArray, List.set_cons_zero, List.set_cons_succ]
   refine wpAnyH_take (i := 6) (oi := _) (v := ?vt18x6) rfl (by kernel_rfl) (by kernel_rfl) (by kernel_rfl) (fun _ _ _ h => h) (Or.inl ⟨by rfl, ?hyt18x6⟩) (by assumption) ?restt18x6
   case hyt18x6 => (intro V hSw; (try dsimp only at hSw); go_simp) <;> with_reducible rfl
   try simp only [Act.put, List.getElem_toArray, List.getElem_cons_succ, List.getElem_cons_zero, List.setIfInBounds_toArray, List.set_cons_zero, List.set_cons_succ]
   refine wpAnyH_take (i := 7) (oi := _) (v := ?vt18x7) rfl (by kernel_rfl) (by kernel_rfl) (by kernel_rfl) (fun _ _ _ h => h) (Or.inl ⟨by rfl, ?hyt18x7⟩) (by assumption) ?restt18x7
   case hyt18x7 => (intro V hSw; (try dsimp only at hSw); go_simp) <;> with_reducible rfl
   try simp only [Act.put, List.getElem_toArray, List.getElem_cons_succ, List.getElem_cons_zero, List.setIfInBounds_toArray, List.set_cons_zero, List.set_cons_succ]
   refine wpAnyH_take (i := 8) (oi := _) (v := .agg zv) rfl (by kernel_rfl) (by kernel_rfl) (by kernel_rfl) (fun _ _ _ h => h) (yieldsIf_load_mid (by rfl) _ _ rfl (w.heap.size + 1) 78 rfl zv.toList _ (fun V hSw => hSw.2.2) Tryz.underlying32 rfl (by rw [Array.length_toList]; exact HSB.out.2.2)) (by assumption) ?rl8
   try simp only [Act.put, List.getElem_toArray, List.getElem_cons_succ, List.getElem_cons_zero, List.setIfInBounds_toArray, List.set_cons_zero, List.set_cons_succ]
   refine wpAnyH_ready (rs := [9, 10, 11]) (by kernel_rfl) (by simp) ?_
   refine (AllReadyH.cons (o := _) rfl (fun K9 hK => ?_) (AllReadyH.cons (o := _) rfl (fun K9 hK => ?_) (AllReadyH.cons (o := _) rfl (fun K9 hK => ?_) AllReadyH.nil)))
   · go_simp
     refine hK.out _ _ (HSK.out _ _ hHeld (gQ)) (fun hHeld => ?_)
     clear hK K9
     try simp only [Act.put, List.getElem_toArray, List.getElem_cons_succ, List.getElem_cons_zero, List.setIfInBounds_toArray, List.set_cons_zero, List.set_cons_succ]
     obtain ⟨p1, hp1⟩ : ∃ p, V0.heap.size = p := ⟨_, rfl⟩
     obtain ⟨V1, hV1⟩ : ∃ V, V0.alloc (.cells ZB 32) = V := ⟨_, rfl⟩
     have b0 : Blk V1 p1 32 ZB := by rw [<- hV1, <- hp1]; exact Blk.new _ _ _
     have g1 : V0.grownBy V1 none := by rw [<- hV1]; exact gQ
     have z1 : V1.heap.size = V0.heap.size + 1 := by rw [<- hV1]; simp
     rw [hV1] at hHeld
     rw [hV1]
     try rw [hp1]
     have HA1 := hQ_ (aQ b0 (aQ g1 (aQ z1 hp1)))
     clear b0 g1 z1 hp1 hV1
     refine wpAnyH_ready (rs := [10, 11]) (by kernel_rfl) (by simp) ?_
     refine (AllReadyH.cons (o := _) rfl (fun K9 hK => ?_) (AllReadyH.cons (o := _) rfl (fun K9 hK => ?_) AllReadyH.nil))
     · go_simp
       refine hK.out _ _ (HSK.out _ _ hHeld (gQ)) (fun hHeld => ?_)
       clear hK K9
       try simp only [Act.put, List.getElem_toArray, List.getElem_cons_succ, List.getElem_cons_zero, List.setIfInBounds_toArray, List.set_cons_zero, List.set_cons_succ]
       obtain ⟨p2, hp2⟩ : ∃ p, V1.heap.size = p := ⟨_, rfl⟩
       obtain ⟨V2, hV2⟩ : ∃ V, V1.alloc (.cells ZB 32) = V := ⟨_, rfl⟩
       have b1 : Blk V2 p2 32 ZB := by rw [<- hV2, <- hp2]; exact Blk.new _ _ _
       have g2 : V1.grownBy V2 none := by rw [<- hV2]; exact gQ
       have z2 : V2.heap.size = V1.heap.size + 1 := by rw [<- hV2]; simp
       rw [hV2] at hHeld
       rw [hV2]
       try rw [hp2]
       have HA2 := hQ_ (aQ b1 (aQ g2 (aQ z2 hp2)))
       clear b1 g2 z2 hp2 hV2
       refine wpAnyH_ready (rs := [11]) (by kernel_rfl) (by simp) ?_
       refine (AllReadyH.cons (o := _) rfl (fun K9 hK => ?_) AllReadyH.nil)
       · go_simp
         refine hK.out _ _ (HSK.out _ _ hHeld (gQ)) (fun hHeld => ?_)
         clear hK K9
         try simp only [Act.put, List.getElem_toArray, List.getElem_cons_succ, List.getElem_cons_zero, List.setIfInBounds_toArray, List.set_cons_zero, List.set_cons_succ]
         obtain ⟨p3, hp3⟩ : ∃ p, V2.heap.size = p := ⟨_, rfl⟩
         obtain ⟨V3, hV3⟩ : ∃ V, V2.alloc (.cells ZB 32) = V := ⟨_, rfl⟩
         have b2 : Blk V3 p3 32 ZB := by rw [<- hV3, <- hp3]; exact Blk.new _ _ _
         have g3 : V2.grownBy V3 none := by rw [<- hV3]; exact gQ
         have z3 : V3.heap.size = V2.heap.size + 1 := by rw [<- hV3]; simp
         rw [hV3] at hHeld
         rw [hV3]
         try rw [hp3]
         have HA3 := hQ_ (aQ b2 (aQ g3 (aQ z3 hp3)))
         clear b2 g3 z3 hp3 hV3
         have c1 : Blk V3 p1 32 ZB := HA1.out.1.grown (za HA2.out.2.1 HA3.out.2.1) (by simp)
         have c2 : Blk V3 p2 32 ZB := HA2.out.1.grown HA3.out.2.1 (by simp)
         have c3 : Blk V3 p3 32 ZB := HA3.out.1
         have hpd : p1 ≠ p2 /\ p1 ≠ p3 /\ p2 ≠ p3 /\ wv2.heap.size <= p1 /\ wv2.heap.size <= p2 /\ wv2.heap.size <= p3 := by have h1 := HA1.out.2.2; have h2 := HA2.out.2.2; have h3 := HA3.out.2.2; have h0 := HV0.out; omega
         have gv3 : wv2.grownBy V3 none := za HV0G.out (za HA1.out.2.1 (za HA2.out.2.1 HA3.out.2.1))
         have HPD := hQ_ hpd
         clear hpd
         refine wpAnyH_ready (rs := [12]) (by kernel_rfl) (by simp) ?_
         refine (AllReadyH.cons (o := _) rfl (fun K9 hK => ?_) AllReadyH.nil)
         refine zk (by rfl) 32 _ _ rfl p1 0 xv rfl rfl (zw c1 (by rw [HLB.out.1]; exact Nat.le_refl _)) HSB.out.1 HOB.out.1 ?_
         rw [zi (P := Tryz.prog) (ty := 32) c1 HSB.out.1 HLB.out.1 HOB.out.1]
         refine hK.out _ _ (HSK2.out _ _ _ hHeld (by have := HPD.out; have := HB1Z.out; omega)) (fun hHeld => ?_)
         clear hK K9
         try simp only [Act.put, List.getElem_toArray, List.getElem_cons_succ, List.getElem_cons_zero, List.setIfInBounds_toArray, List.set_cons_zero, List.set_cons_succ]
         obtain ⟨V4, hV4⟩ : ∃ W, V3.setRow p1 xv = W := ⟨_, rfl⟩
         rw [hV4] at hHeld
         rw [hV4]
         have d1 : Blk V4 p1 32 xv := by rw [<- hV4]; exact c1.row _
         replace c2 : Blk V4 p2 32 ZB := by rw [<- hV4]; exact c2.farRow (by have := HPD.out; omega) _
         replace c3 : Blk V4 p3 32 ZB := by rw [<- hV4]; exact c3.farRow (by have := HPD.out; omega) _
         have gv4 : wv2.grownBy V4 none := by rw [<- hV4]; exact zc gv3 (.inl (by have := HPD.out; omega)) _
         clear hV4 gv3 c1
         refine wpAnyH_ready (rs := [13]) (by kernel_rfl) (by simp) ?_
         refine (AllReadyH.cons (o := _) rfl (fun K9 hK => ?_) AllReadyH.nil)
         refine zk (by rfl) 32 _ _ rfl p2 0 yv rfl rfl (zw c2 (by rw [HLB.out.2.1]; exact Nat.le_refl _)) HSB.out.2.1 HOB.out.2.1 ?_
         rw [zi (P := Tryz.prog) (ty := 32) c2 HSB.out.2.1 HLB.out.2.1 HOB.out.2.1]
         refine hK.out _ _ (HSK2.out _ _ _ hHeld (by have := HPD.out; have := HB1Z.out; omega)) (fun hHeld => ?_)
         clear hK K9
         try simp only [Act.put, List.getElem_toArray, List.getElem_cons_succ, List.getElem_cons_zero, List.setIfInBounds_toArray, List.set_cons_zero, List.set_cons_succ]
         obtain ⟨V5, hV5⟩ : ∃ W, V4.setRow p2 yv = W := ⟨_, rfl⟩
         rw [hV5] at hHeld
         rw [hV5]
         have d2 : Blk V5 p2 32 yv := by rw [<- hV5]; exact c2.row _
         replace d1 : Blk V5 p1 32 xv := by rw [<- hV5]; exact d1.farRow (by have := HPD.out; omega) _
         replace c3 : Blk V5 p3 32 ZB := by rw [<- hV5]; exact c3.farRow (by have := HPD.out; omega) _
         have gv5 : wv2.grownBy V5 none := by rw [<- hV5]; exact zc gv4 (.inl (by have := HPD.out; omega)) _
         clear hV5 gv4 c2
         refine wpAnyH_ready (rs := [14]) (by kernel_rfl) (by simp) ?_
         refine (AllReadyH.cons (o := _) rfl (fun K9 hK => ?_) AllReadyH.nil)
         refine zk (by rfl) 32 _ _ rfl p3 0 zv rfl rfl (zw c3 (by rw [HLB.out.2.2]; exact Nat.le_refl _)) HSB.out.2.2 HOB.out.2.2 ?_
         rw [zi (P := Tryz.prog) (ty := 32) c3 HSB.out.2.2 HLB.out.2.2 HOB.out.2.2]
         refine hK.out _ _ (HSK2.out _ _ _ hHeld (by have := HPD.out; have := HB1Z.out; omega)) (fun hHeld => ?_)
         clear hK K9
         try simp only [Act.put, List.getElem_toArray, List.getElem_cons_succ, List.getElem_cons_zero, List.setIfInBounds_toArray, List.set_cons_zero, List.set_cons_succ]
         obtain ⟨V6, hV6⟩ : ∃ W, V5.setRow p3 zv = W := ⟨_, rfl⟩
         rw [hV6] at hHeld
         rw [hV6]
         have d3 : Blk V6 p3 32 zv := by rw [<- hV6]; exact c3.row _
         replace d1 : Blk V6 p1 32 xv := by rw [<- hV6]; exact d1.farRow (by have := HPD.out; omega) _
         replace d2 : Blk V6 p2 32 yv := by rw [<- hV6]; exact d2.farRow (by have := HPD.out; omega) _
         have gv6 : wv2.grownBy V6 none := by rw [<- hV6]; exact zc gv5 (.inl (by have := HPD.out; omega)) _
         clear hV6 gv5 c3
         refine wpAnyH_done (by kernel_rfl) ?_ _
         refine hK8 _ _ (Met.intro (hJ8 _ _ ?_))
         (repeat apply Exists.intro)
         exact ⟨zai gv6 d1 d2 d3, rfl⟩
     · go_simp
       refine hK.out _ _ (HSK.out _ _ hHeld (gQ)) (fun hHeld => ?_)
       clear hK K9
       try simp only [Act.put, List.getElem_toArray, List.getElem_cons_succ, List.getElem_cons_zero, List.setIfInBounds_toArray, List.set_cons_zero, List.set_cons_succ]
       obtain ⟨p3, hp3⟩ : ∃ p, V1.heap.size = p := ⟨_, rfl⟩
       obtain ⟨V2, hV2⟩ : ∃ V, V1.alloc (.cells ZB 32) = V := ⟨_, rfl⟩
       have b2 : Blk V2 p3 32 ZB := by rw [<- hV2, <- hp3]; exact Blk.new _ _ _
       have g2 : V1.grownBy V2 none := by rw [<- hV2]; exact gQ
       have z2 : V2.heap.size = V1.heap.size + 1 := by rw [<- hV2]; simp
       rw [hV2] at hHeld
       rw [hV2]
       try rw [hp3]
       have HA2 := hQ_ (aQ b2 (aQ g2 (aQ z2 hp3)))
       clear b2 g2 z2 hp3 hV2
       refine wpAnyH_ready (rs := [10]) (by kernel_rfl) (by simp) ?_
       refine (AllReadyH.cons (o := _) rfl (fun K9 hK => ?_) AllReadyH.nil)
       · go_simp
         refine hK.out _ _ (HSK.out _ _ hHeld (gQ)) (fun hHeld => ?_)
         clear hK K9
         try simp only [Act.put, List.getElem_toArray, List.getElem_cons_succ, List.getElem_cons_zero, List.setIfInBounds_toArray, List.set_cons_zero, List.set_cons_succ]
         obtain ⟨p2, hp2⟩ : ∃ p, V2.heap.size = p := ⟨_, rfl⟩
         obtain ⟨V3, hV3⟩ : ∃ V, V2.alloc (.cells ZB 32) = V := ⟨_, rfl⟩
         have b1 : Blk V3 p2 32 ZB := by rw [<- hV3, <- hp2]; exact Blk.new _ _ _
         have g3 : V2.grownBy V3 none := by rw [<- hV3]; exact gQ
         have z3 : V3.heap.size = V2.heap.size + 1 := by rw [<- hV3]; simp
         rw [hV3] at hHeld
         rw [hV3]
         try rw [hp2]
         have HA3 := hQ_ (aQ b1 (aQ g3 (aQ z3 hp2)))
         clear b1 g3 z3 hp2 hV3
         have c1 : Blk V3 p1 32 ZB := HA1.out.1.grown (za HA2.out.2.1 HA3.out.2.1) (by simp)
         have c2 : Blk V3 p2 32 ZB := HA3.out.1
         have c3 : Blk V3 p3 32 ZB := HA2.out.1.grown HA3.out.2.1 (by simp)
         have hpd : p1 ≠ p2 /\ p1 ≠ p3 /\ p2 ≠ p3 /\ wv2.heap.size <= p1 /\ wv2.heap.size <= p2 /\ wv2.heap.size <= p3 := by have h1 := HA1.out.2.2; have h2 := HA2.out.2.2; have h3 := HA3.out.2.2; have h0 := HV0.out; omega
         have gv3 : wv2.grownBy V3 none := za HV0G.out (za HA1.out.2.1 (za HA2.out.2.1 HA3.out.2.1))
         have HPD := hQ_ hpd
         clear hpd
         refine wpAnyH_ready (rs := [12]) (by kernel_rfl) (by simp) ?_
         refine (AllReadyH.cons (o := _) rfl (fun K9 hK => ?_) AllReadyH.nil)
         refine zk (by rfl) 32 _ _ rfl p1 0 xv rfl rfl (zw c1 (by rw [HLB.out.1]; exact Nat.le_refl _)) HSB.out.1 HOB.out.1 ?_
         rw [zi (P := Tryz.prog) (ty := 32) c1 HSB.out.1 HLB.out.1 HOB.out.1]
         refine hK.out _ _ (HSK2.out _ _ _ hHeld (by have := HPD.out; have := HB1Z.out; omega)) (fun hHeld => ?_)
         clear hK K9
         try simp only [Act.put, List.getElem_toArray, List.getElem_cons_succ, List.getElem_cons_zero, List.setIfInBounds_toArray, List.set_cons_zero, List.set_cons_succ]
         obtain ⟨V4, hV4⟩ : ∃ W, V3.setRow p1 xv = W := ⟨_, rfl⟩
         rw [hV4] at hHeld
         rw [hV4]
         have d1 : Blk V4 p1 32 xv := by rw [<- hV4]; exact c1.row _
         replace c2 : Blk V4 p2 32 ZB := by rw [<- hV4]; exact c2.farRow (by have := HPD.out; omega) _
         replace c3 : Blk V4 p3 32 ZB := by rw [<- hV4]; exact c3.farRow (by have := HPD.out; omega) _
         have gv4 : wv2.grownBy V4 none := by rw [<- hV4]; exact zc gv3 (.inl (by have := HPD.out; omega)) _
         clear hV4 gv3 c1
         refine wpAnyH_ready (rs := [13]) (by kernel_rfl) (by simp) ?_
         refine (AllReadyH.cons (o := _) rfl (fun K9 hK => ?_) AllReadyH.nil)
         refine zk (by rfl) 32 _ _ rfl p2 0 yv rfl rfl (zw c2 (by rw [HLB.out.2.1]; exact Nat.le_refl _)) HSB.out.2.1 HOB.out.2.1 ?_
         rw [zi (P := Tryz.prog) (ty := 32) c2 HSB.out.2.1 HLB.out.2.1 HOB.out.2.1]
         refine hK.out _ _ (HSK2.out _ _ _ hHeld (by have := HPD.out; have := HB1Z.out; omega)) (fun hHeld => ?_)
         clear hK K9
         try simp only [Act.put, List.getElem_toArray, List.getElem_cons_succ, List.getElem_cons_zero, List.setIfInBounds_toArray, List.set_cons_zero, List.set_cons_succ]
         obtain ⟨V5, hV5⟩ : ∃ W, V4.setRow p2 yv = W := ⟨_, rfl⟩
         rw [hV5] at hHeld
         rw [hV5]
         have d2 : Blk V5 p2 32 yv := by rw [<- hV5]; exact c2.row _
         replace d1 : Blk V5 p1 32 xv := by rw [<- hV5]; exact d1.farRow (by have := HPD.out; omega) _
         replace c3 : Blk V5 p3 32 ZB := by rw [<- hV5]; exact c3.farRow (by have := HPD.out; omega) _
         have gv5 : wv2.grownBy V5 none := by rw [<- hV5]; exact zc gv4 (.inl (by have := HPD.out; omega)) _
         clear hV5 gv4 c2
         refine wpAnyH_ready (rs := [14]) (by kernel_rfl) (by simp) ?_
         refine (AllReadyH.cons (o := _) rfl (fun K9 hK => ?_) AllReadyH.nil)
         refine zk (by rfl) 32 _ _ rfl p3 0 zv rfl rfl (zw c3 (by rw [HLB.out.2.2]; exact Nat.le_refl _)) HSB.out.2.2 HOB.out.2.2 ?_
         rw [zi (P := Tryz.prog) (ty := 32) c3 HSB.out.2.2 HLB.out.2.2 HOB.out.2.2]
         refine hK.out _ _ (HSK2.out _ _ _ hHeld (by have := HPD.out; have := HB1Z.out; omega)) (fun hHeld => ?_)
         clear hK K9
         try simp only [Act.put, List.getElem_toArray, List.getElem_cons_succ, List.getElem_cons_zero, List.setIfInBounds_toArray, List.set_cons_zero, List.set_cons_succ]
         obtain ⟨V6, hV6⟩ : ∃ W, V5.setRow p3 zv = W := ⟨_, rfl⟩
         rw [hV6] at hHeld
         rw [hV6]
         have d3 : Blk V6 p3 32 zv := by rw [<- hV6]; exact c3.row _
         replace d1 : Blk V6 p1 32 xv := by rw [<- hV6]; exact d1.farRow (by have := HPD.out; omega) _
         replace d2 : Blk V6 p2 32 yv := by rw [<- hV6]; exact d2.farRow (by have := HPD.out; omega) _
         have gv6 : wv2.grownBy V6 none := by rw [<- hV6]; exact zc gv5 (.inl (by have := HPD.out; omega)) _
         clear hV6 gv5 c3
         refine wpAnyH_done (by kernel_rfl) ?_ _
         refine hK8 _ _ (Met.intro (hJ8 _ _ ?_))
         (repeat apply Exists.intro)
         exact ⟨zai gv6 d1 d2 d3, rfl⟩
   · go_simp
     refine hK.out _ _ (HSK.out _ _ hHeld (gQ)) (fun hHeld => ?_)
     clear hK K9
     try simp only [Act.put, List.getElem_toArray, List.getElem_cons_succ, List.getElem_cons_zero, List.setIfInBounds_toArray, List.set_cons_zero, List.set_cons_succ]
     obtain ⟨p2, hp2⟩ : ∃ p, V0.heap.size = p := ⟨_, rfl⟩
     obtain ⟨V1, hV1⟩ : ∃ V, V0.alloc (.cells ZB 32) = V := ⟨_, rfl⟩
     have b1 : Blk V1 p2 32 ZB := by rw [<- hV1, <- hp2]; exact Blk.new _ _ _
     have g1 : V0.grownBy V1 none := by rw [<- hV1]; exact gQ
     have z1 : V1.heap.size = V0.heap.size + 1 := by rw [<- hV1]; simp
     rw [hV1] at hHeld
     rw [hV1]
     try rw [hp2]
     have HA1 := hQ_ (aQ b1 (aQ g1 (aQ z1 hp2)))
     clear b1 g1 z1 hp2 hV1
     refine wpAnyH_ready (rs := [9, 11]) (by kernel_rfl) (by simp) ?_
     refine (AllReadyH.cons (o := _) rfl (fun K9 hK => ?_) (AllReadyH.cons (o := _) rfl (fun K9 hK => ?_) AllReadyH.nil))
     · go_simp
       refine hK.out _ _ (HSK.out _ _ hHeld (gQ)) (fun hHeld => ?_)
       clear hK K9
       try simp only [Act.put, List.getElem_toArray, List.getElem_cons_succ, List.getElem_cons_zero, List.setIfInBounds_toArray, List.set_cons_zero, List.set_cons_succ]
       obtain ⟨p1, hp1⟩ : ∃ p, V1.heap.size = p := ⟨_, rfl⟩
       obtain ⟨V2, hV2⟩ : ∃ V, V1.alloc (.cells ZB 32) = V := ⟨_, rfl⟩
       have b0 : Blk V2 p1 32 ZB := by rw [<- hV2, <- hp1]; exact Blk.new _ _ _
       have g2 : V1.grownBy V2 none := by rw [<- hV2]; exact gQ
       have z2 : V2.heap.size = V1.heap.size + 1 := by rw [<- hV2]; simp
       rw [hV2] at hHeld
       rw [hV2]
       try rw [hp1]
       have HA2 := hQ_ (aQ b0 (aQ g2 (aQ z2 hp1)))
       clear b0 g2 z2 hp1 hV2
       refine wpAnyH_ready (rs := [11]) (by kernel_rfl) (by simp) ?_
       refine (AllReadyH.cons (o := _) rfl (fun K9 hK => ?_) AllReadyH.nil)
       · go_simp
         refine hK.out _ _ (HSK.out _ _ hHeld (gQ)) (fun hHeld => ?_)
         clear hK K9
         try simp only [Act.put, List.getElem_toArray, List.getElem_cons_succ, List.getElem_cons_zero, List.setIfInBounds_toArray, List.set_cons_zero, List.set_cons_succ]
         obtain ⟨p3, hp3⟩ : ∃ p, V2.heap.size = p := ⟨_, rfl⟩
         obtain ⟨V3, hV3⟩ : ∃ V, V2.alloc (.cells ZB 32) = V := ⟨_, rfl⟩
         have b2 : Blk V3 p3 32 ZB := by rw [<- hV3, <- hp3]; exact Blk.new _ _ _
         have g3 : V2.grownBy V3 none := by rw [<- hV3]; exact gQ
         have z3 : V3.heap.size = V2.heap.size + 1 := by rw [<- hV3]; simp
         rw [hV3] at hHeld
         rw [hV3]
         try rw [hp3]
         have HA3 := hQ_ (aQ b2 (aQ g3 (aQ z3 hp3)))
         clear b2 g3 z3 hp3 hV3
         have c1 : Blk V3 p1 32 ZB := HA2.out.1.grown HA3.out.2.1 (by simp)
         have c2 : Blk V3 p2 32 ZB := HA1.out.1.grown (za HA2.out.2.1 HA3.out.2.1) (by simp)
         have c3 : Blk V3 p3 32 ZB := HA3.out.1
         have hpd : p1 ≠ p2 /\ p1 ≠ p3 /\ p2 ≠ p3 /\ wv2.heap.size <= p1 /\ wv2.heap.size <= p2 /\ wv2.heap.size <= p3 := by have h1 := HA1.out.2.2; have h2 := HA2.out.2.2; have h3 := HA3.out.2.2; have h0 := HV0.out; omega
         have gv3 : wv2.grownBy V3 none := za HV0G.out (za HA1.out.2.1 (za HA2.out.2.1 HA3.out.2.1))
         have HPD := hQ_ hpd
         clear hpd
         refine wpAnyH_ready (rs := [12]) (by kernel_rfl) (by simp) ?_
         refine (AllReadyH.cons (o := _) rfl (fun K9 hK => ?_) AllReadyH.nil)
         refine zk (by rfl) 32 _ _ rfl p1 0 xv rfl rfl (zw c1 (by rw [HLB.out.1]; exact Nat.le_refl _)) HSB.out.1 HOB.out.1 ?_
         rw [zi (P := Tryz.prog) (ty := 32) c1 HSB.out.1 HLB.out.1 HOB.out.1]
         refine hK.out _ _ (HSK2.out _ _ _ hHeld (by have := HPD.out; have := HB1Z.out; omega)) (fun hHeld => ?_)
         clear hK K9
         try simp only [Act.put, List.getElem_toArray, List.getElem_cons_succ, List.getElem_cons_zero, List.setIfInBounds_toArray, List.set_cons_zero, List.set_cons_succ]
         obtain ⟨V4, hV4⟩ : ∃ W, V3.setRow p1 xv = W := ⟨_, rfl⟩
         rw [hV4] at hHeld
         rw [hV4]
         have d1 : Blk V4 p1 32 xv := by rw [<- hV4]; exact c1.row _
         replace c2 : Blk V4 p2 32 ZB := by rw [<- hV4]; exact c2.farRow (by have := HPD.out; omega) _
         replace c3 : Blk V4 p3 32 ZB := by rw [<- hV4]; exact c3.farRow (by have := HPD.out; omega) _
         have gv4 : wv2.grownBy V4 none := by rw [<- hV4]; exact zc gv3 (.inl (by have := HPD.out; omega)) _
         clear hV4 gv3 c1
         refine wpAnyH_ready (rs := [13]) (by kernel_rfl) (by simp) ?_
         refine (AllReadyH.cons (o := _) rfl (fun K9 hK => ?_) AllReadyH.nil)
         refine zk (by rfl) 32 _ _ rfl p2 0 yv rfl rfl (zw c2 (by rw [HLB.out.2.1]; exact Nat.le_refl _)) HSB.out.2.1 HOB.out.2.1 ?_
         rw [zi (P := Tryz.prog) (ty := 32) c2 HSB.out.2.1 HLB.out.2.1 HOB.out.2.1]
         refine hK.out _ _ (HSK2.out _ _ _ hHeld (by have := HPD.out; have := HB1Z.out; omega)) (fun hHeld => ?_)
         clear hK K9
         try simp only [Act.put, List.getElem_toArray, List.getElem_cons_succ, List.getElem_cons_zero, List.setIfInBounds_toArray, List.set_cons_zero, List.set_cons_succ]
         obtain ⟨V5, hV5⟩ : ∃ W, V4.setRow p2 yv = W := ⟨_, rfl⟩
         rw [hV5] at hHeld
         rw [hV5]
         have d2 : Blk V5 p2 32 yv := by rw [<- hV5]; exact c2.row _
         replace d1 : Blk V5 p1 32 xv := by rw [<- hV5]; exact d1.farRow (by have := HPD.out; omega) _
         replace c3 : Blk V5 p3 32 ZB := by rw [<- hV5]; exact c3.farRow (by have := HPD.out; omega) _
         have gv5 : wv2.grownBy V5 none := by rw [<- hV5]; exact zc gv4 (.inl (by have := HPD.out; omega)) _
         clear hV5 gv4 c2
         refine wpAnyH_ready (rs := [14]) (by kernel_rfl) (by simp) ?_
         refine (AllReadyH.cons (o := _) rfl (fun K9 hK => ?_) AllReadyH.nil)
         refine zk (by rfl) 32 _ _ rfl p3 0 zv rfl rfl (zw c3 (by rw [HLB.out.2.2]; exact Nat.le_refl _)) HSB.out.2.2 HOB.out.2.2 ?_
         rw [zi (P := Tryz.prog) (ty := 32) c3 HSB.out.2.2 HLB.out.2.2 HOB.out.2.2]
         refine hK.out _ _ (HSK2.out _ _ _ hHeld (by have := HPD.out; have := HB1Z.out; omega)) (fun hHeld => ?_)
         clear hK K9
         try simp only [Act.put, List.getElem_toArray, List.getElem_cons_succ, List.getElem_cons_zero, List.setIfInBounds_toArray, List.set_cons_zero, List.set_cons_succ]
         obtain ⟨V6, hV6⟩ : ∃ W, V5.setRow p3 zv = W := ⟨_, rfl⟩
         rw [hV6] at hHeld
         rw [hV6]
         have d3 : Blk V6 p3 32 zv := by rw [<- hV6]; exact c3.row _
         replace d1 : Blk V6 p1 32 xv := by rw [<- hV6]; exact d1.farRow (by have := HPD.out; omega) _
         replace d2 : Blk V6 p2 32 yv := by rw [<- hV6]; exact d2.farRow (by have := HPD.out; omega) _
         have gv6 : wv2.grownBy V6 none := by rw [<- hV6]; exact zc gv5 (.inl (by have := HPD.out; omega)) _
         clear hV6 gv5 c3
         refine wpAnyH_done (by kernel_rfl) ?_ _
         refine hK8 _ _ (Met.intro (hJ8 _ _ ?_))
         (repeat apply Exists.intro)
         exact ⟨zai gv6 d1 d2 d3, rfl⟩
     · go_simp
       refine hK.out _ _ (HSK.out _ _ hHeld (gQ)) (fun hHeld => ?_)
       clear hK K9
       try simp only [Act.put, List.getElem_toArray, List.getElem_cons_succ, List.getElem_cons_zero, List.setIfInBounds_toArray, List.set_cons_zero, List.set_cons_succ]
       obtain ⟨p3, hp3⟩ : ∃ p, V1.heap.size = p := ⟨_, rfl⟩
       obtain ⟨V2, hV2⟩ : ∃ V, V1.alloc (.cells ZB 32) = V := ⟨_, rfl⟩
       have b2 : Blk V2 p3 32 ZB := by rw [<- hV2, <- hp3]; exact Blk.new _ _ _
       have g2 : V1.grownBy V2 none := by rw [<- hV2]; exact gQ
       have z2 : V2.heap.size = V1.heap.size + 1 := by rw [<- hV2]; simp
       rw [hV2] at hHeld
       rw [hV2]
       try rw [hp3]
       have HA2 := hQ_ (aQ b2 (aQ g2 (aQ z2 hp3)))
       clear b2 g2 z2 hp3 hV2
       refine wpAnyH_ready (rs := [9]) (by kernel_rfl) (by simp) ?_
       refine (AllReadyH.cons (o := _) rfl (fun K9 hK => ?_) AllReadyH.nil)
       · go_simp
         refine hK.out _ _ (HSK.out _ _ hHeld (gQ)) (fun hHeld => ?_)
         clear hK K9
         try simp only [Act.put, List.getElem_toArray, List.getElem_cons_succ, List.getElem_cons_zero, List.setIfInBounds_toArray, List.set_cons_zero, List.set_cons_succ]
         obtain ⟨p1, hp1⟩ : ∃ p, V2.heap.size = p := ⟨_, rfl⟩
         obtain ⟨V3, hV3⟩ : ∃ V, V2.alloc (.cells ZB 32) = V := ⟨_, rfl⟩
         have b0 : Blk V3 p1 32 ZB := by rw [<- hV3, <- hp1]; exact Blk.new _ _ _
         have g3 : V2.grownBy V3 none := by rw [<- hV3]; exact gQ
         have z3 : V3.heap.size = V2.heap.size + 1 := by rw [<- hV3]; simp
         rw [hV3] at hHeld
         rw [hV3]
         try rw [hp1]
         have HA3 := hQ_ (aQ b0 (aQ g3 (aQ z3 hp1)))
         clear b0 g3 z3 hp1 hV3
         have c1 : Blk V3 p1 32 ZB := HA3.out.1
         have c2 : Blk V3 p2 32 ZB := HA1.out.1.grown (za HA2.out.2.1 HA3.out.2.1) (by simp)
         have c3 : Blk V3 p3 32 ZB := HA2.out.1.grown HA3.out.2.1 (by simp)
         have hpd : p1 ≠ p2 /\ p1 ≠ p3 /\ p2 ≠ p3 /\ wv2.heap.size <= p1 /\ wv2.heap.size <= p2 /\ wv2.heap.size <= p3 := by have h1 := HA1.out.2.2; have h2 := HA2.out.2.2; have h3 := HA3.out.2.2; have h0 := HV0.out; omega
         have gv3 : wv2.grownBy V3 none := za HV0G.out (za HA1.out.2.1 (za HA2.out.2.1 HA3.out.2.1))
         have HPD := hQ_ hpd
         clear hpd
         refine wpAnyH_ready (rs := [12]) (by kernel_rfl) (by simp) ?_
         refine (AllReadyH.cons (o := _) rfl (fun K9 hK => ?_) AllReadyH.nil)
         refine zk (by rfl) 32 _ _ rfl p1 0 xv rfl rfl (zw c1 (by rw [HLB.out.1]; exact Nat.le_refl _)) HSB.out.1 HOB.out.1 ?_
         rw [zi (P := Tryz.prog) (ty := 32) c1 HSB.out.1 HLB.out.1 HOB.out.1]
         refine hK.out _ _ (HSK2.out _ _ _ hHeld (by have := HPD.out; have := HB1Z.out; omega)) (fun hHeld => ?_)
         clear hK K9
         try simp only [Act.put, List.getElem_toArray, List.getElem_cons_succ, List.getElem_cons_zero, List.setIfInBounds_toArray, List.set_cons_zero, List.set_cons_succ]
         obtain ⟨V4, hV4⟩ : ∃ W, V3.setRow p1 xv = W := ⟨_, rfl⟩
         rw [hV4] at hHeld
         rw [hV4]
         have d1 : Blk V4 p1 32 xv := by rw [<- hV4]; exact c1.row _
         replace c2 : Blk V4 p2 32 ZB := by rw [<- hV4]; exact c2.farRow (by have := HPD.out; omega) _
         replace c3 : Blk V4 p3 32 ZB := by rw [<- hV4]; exact c3.farRow (by have := HPD.out; omega) _
         have gv4 : wv2.grownBy V4 none := by rw [<- hV4]; exact zc gv3 (.inl (by have := HPD.out; omega)) _
         clear hV4 gv3 c1
         refine wpAnyH_ready (rs := [13]) (by kernel_rfl) (by simp) ?_
         refine (AllReadyH.cons (o := _) rfl (fun K9 hK => ?_) AllReadyH.nil)
         refine zk (by rfl) 32 _ _ rfl p2 0 yv rfl rfl (zw c2 (by rw [HLB.out.2.1]; exact Nat.le_refl _)) HSB.out.2.1 HOB.out.2.1 ?_
         rw [zi (P := Tryz.prog) (ty := 32) c2 HSB.out.2.1 HLB.out.2.1 HOB.out.2.1]
         refine hK.out _ _ (HSK2.out _ _ _ hHeld (by have := HPD.out; have := HB1Z.out; omega)) (fun hHeld => ?_)
         clear hK K9
         try simp only [Act.put, List.getElem_toArray, List.getElem_cons_succ, List.getElem_cons_zero, List.setIfInBounds_toArray, List.set_cons_zero, List.set_cons_succ]
         obtain ⟨V5, hV5⟩ : ∃ W, V4.setRow p2 yv = W := ⟨_, rfl⟩
         rw [hV5] at hHeld
         rw [hV5]
         have d2 : Blk V5 p2 32 yv := by rw [<- hV5]; exact c2.row _
         replace d1 : Blk V5 p1 32 xv := by rw [<- hV5]; exact d1.farRow (by have := HPD.out; omega) _
         replace c3 : Blk V5 p3 32 ZB := by rw [<- hV5]; exact c3.farRow (by have := HPD.out; omega) _
         have gv5 : wv2.grownBy V5 none := by rw [<- hV5]; exact zc gv4 (.inl (by have := HPD.out; omega)) _
         clear hV5 gv4 c2
         refine wpAnyH_ready (rs := [14]) (by kernel_rfl) (by simp) ?_
         refine (AllReadyH.cons (o := _) rfl (fun K9 hK => ?_) AllReadyH.nil)
         refine zk (by rfl) 32 _ _ rfl p3 0 zv rfl rfl (zw c3 (by rw [HLB.out.2.2]; exact Nat.le_refl _)) HSB.out.2.2 HOB.out.2.2 ?_
         rw [zi (P := Tryz.prog) (ty := 32) c3 HSB.out.2.2 HLB.out.2.2 HOB.out.2.2]
         refine hK.out _ _ (HSK2.out _ _ _ hHeld (by have := HPD.out; have := HB1Z.out; omega)) (fun hHeld => ?_)
         clear hK K9
         try simp only [Act.put, List.getElem_toArray, List.getElem_cons_succ, List.getElem_cons_zero, List.setIfInBounds_toArray, List.set_cons_zero, List.set_cons_succ]
         obtain ⟨V6, hV6⟩ : ∃ W, V5.setRow p3 zv = W := ⟨_, rfl⟩
         rw [hV6] at hHeld
         rw [hV6]
         have d3 : Blk V6 p3 32 zv := by rw [<- hV6]; exact c3.row _
         replace d1 : Blk V6 p1 32 xv := by rw [<- hV6]; exact d1.farRow (by have := HPD.out; omega) _
         replace d2 : Blk V6 p2 32 yv := by rw [<- hV6]; exact d2.farRow (by have := HPD.out; omega) _
         have gv6 : wv2.grownBy V6 none := by rw [<- hV6]; exact zc gv5 (.inl (by have := HPD.out; omega)) _
         clear hV6 gv5 c3
         refine wpAnyH_done (by kernel_rfl) ?_ _
         refine hK8 _ _ (Met.intro (hJ8 _ _ ?_))
         (repeat apply Exists.intro)
         exact ⟨zai gv6 d1 d2 d3, rfl⟩
   · go_simp
     refine hK.out _ _ (HSK.out _ _ hHeld (gQ)) (fun hHeld => ?_)
     clear hK K9
     try simp only [Act.put, List.getElem_toArray, List.getElem_cons_succ, List.getElem_cons_zero, List.setIfInBounds_toArray, List.set_cons_zero, List.set_cons_succ]
     obtain ⟨p3, hp3⟩ : ∃ p, V0.heap.size = p := ⟨_, rfl⟩
     obtain ⟨V1, hV1⟩ : ∃ V, V0.alloc (.cells ZB 32) = V := ⟨_, rfl⟩
     have b2 : Blk V1 p3 32 ZB := by rw [<- hV1, <- hp3]; exact Blk.new _ _ _
     have g1 : V0.grownBy V1 none := by rw [<- hV1]; exact gQ
     have z1 : V1.heap.size = V0.heap.size + 1 := by rw [<- hV1]; simp
     rw [hV1] at hHeld
     rw [hV1]
     try rw [hp3]
     have HA1 := hQ_ (aQ b2 (aQ g1 (aQ z1 hp3)))
     clear b2 g1 z1 hp3 hV1
     refine wpAnyH_ready (rs := [9, 10]) (by kernel_rfl) (by simp) ?_
     refine (AllReadyH.cons (o := _) rfl (fun K9 hK => ?_) (AllReadyH.cons (o := _) rfl (fun K9 hK => ?_) AllReadyH.nil))
     · go_simp
       refine hK.out _ _ (HSK.out _ _ hHeld (gQ)) (fun hHeld => ?_)
       clear hK K9
       try simp only [Act.put, List.getElem_toArray, List.getElem_cons_succ, List.getElem_cons_zero, List.setIfInBounds_toArray, List.set_cons_zero, List.set_cons_succ]
       obtain ⟨p1, hp1⟩ : ∃ p, V1.heap.size = p := ⟨_, rfl⟩
       obtain ⟨V2, hV2⟩ : ∃ V, V1.alloc (.cells ZB 32) = V := ⟨_, rfl⟩
       have b0 : Blk V2 p1 32 ZB := by rw [<- hV2, <- hp1]; exact Blk.new _ _ _
       have g2 : V1.grownBy V2 none := by rw [<- hV2]; exact gQ
       have z2 : V2.heap.size = V1.heap.size + 1 := by rw [<- hV2]; simp
       rw [hV2] at hHeld
       rw [hV2]
       try rw [hp1]
       have HA2 := hQ_ (aQ b0 (aQ g2 (aQ z2 hp1)))
       clear b0 g2 z2 hp1 hV2
       refine wpAnyH_ready (rs := [10]) (by kernel_rfl) (by simp) ?_
       refine (AllReadyH.cons (o := _) rfl (fun K9 hK => ?_) AllReadyH.nil)
       · go_simp
         refine hK.out _ _ (HSK.out _ _ hHeld (gQ)) (fun hHeld => ?_)
         clear hK K9
         try simp only [Act.put, List.getElem_toArray, List.getElem_cons_succ, List.getElem_cons_zero, List.setIfInBounds_toArray, List.set_cons_zero, List.set_cons_succ]
         obtain ⟨p2, hp2⟩ : ∃ p, V2.heap.size = p := ⟨_, rfl⟩
         obtain ⟨V3, hV3⟩ : ∃ V, V2.alloc (.cells ZB 32) = V := ⟨_, rfl⟩
         have b1 : Blk V3 p2 32 ZB := by rw [<- hV3, <- hp2]; exact Blk.new _ _ _
         have g3 : V2.grownBy V3 none := by rw [<- hV3]; exact gQ
         have z3 : V3.heap.size = V2.heap.size + 1 := by rw [<- hV3]; simp
         rw [hV3] at hHeld
         rw [hV3]
         try rw [hp2]
         have HA3 := hQ_ (aQ b1 (aQ g3 (aQ z3 hp2)))
         clear b1 g3 z3 hp2 hV3
         have c1 : Blk V3 p1 32 ZB := HA2.out.1.grown HA3.out.2.1 (by simp)
         have c2 : Blk V3 p2 32 ZB := HA3.out.1
         have c3 : Blk V3 p3 32 ZB := HA1.out.1.grown (za HA2.out.2.1 HA3.out.2.1) (by simp)
         have hpd : p1 ≠ p2 /\ p1 ≠ p3 /\ p2 ≠ p3 /\ wv2.heap.size <= p1 /\ wv2.heap.size <= p2 /\ wv2.heap.size <= p3 := by have h1 := HA1.out.2.2; have h2 := HA2.out.2.2; have h3 := HA3.out.2.2; have h0 := HV0.out; omega
         have gv3 : wv2.grownBy V3 none := za HV0G.out (za HA1.out.2.1 (za HA2.out.2.1 HA3.out.2.1))
         have HPD := hQ_ hpd
         clear hpd
         refine wpAnyH_ready (rs := [12]) (by kernel_rfl) (by simp) ?_
         refine (AllReadyH.cons (o := _) rfl (fun K9 hK => ?_) AllReadyH.nil)
         refine zk (by rfl) 32 _ _ rfl p1 0 xv rfl rfl (zw c1 (by rw [HLB.out.1]; exact Nat.le_refl _)) HSB.out.1 HOB.out.1 ?_
         rw [zi (P := Tryz.prog) (ty := 32) c1 HSB.out.1 HLB.out.1 HOB.out.1]
         refine hK.out _ _ (HSK2.out _ _ _ hHeld (by have := HPD.out; have := HB1Z.out; omega)) (fun hHeld => ?_)
         clear hK K9
         try simp only [Act.put, List.getElem_toArray, List.getElem_cons_succ, List.getElem_cons_zero, List.setIfInBounds_toArray, List.set_cons_zero, List.set_cons_succ]
         obtain ⟨V4, hV4⟩ : ∃ W, V3.setRow p1 xv = W := ⟨_, rfl⟩
         rw [hV4] at hHeld
         rw [hV4]
         have d1 : Blk V4 p1 32 xv := by rw [<- hV4]; exact c1.row _
         replace c2 : Blk V4 p2 32 ZB := by rw [<- hV4]; exact c2.farRow (by have := HPD.out; omega) _
         replace c3 : Blk V4 p3 32 ZB := by rw [<- hV4]; exact c3.farRow (by have := HPD.out; omega) _
         have gv4 : wv2.grownBy V4 none := by rw [<- hV4]; exact zc gv3 (.inl (by have := HPD.out; omega)) _
         clear hV4 gv3 c1
         refine wpAnyH_ready (rs := [13]) (by kernel_rfl) (by simp) ?_
         refine (AllReadyH.cons (o := _) rfl (fun K9 hK => ?_) AllReadyH.nil)
         refine zk (by rfl) 32 _ _ rfl p2 0 yv rfl rfl (zw c2 (by rw [HLB.out.2.1]; exact Nat.le_refl _)) HSB.out.2.1 HOB.out.2.1 ?_
         rw [zi (P := Tryz.prog) (ty := 32) c2 HSB.out.2.1 HLB.out.2.1 HOB.out.2.1]
         refine hK.out _ _ (HSK2.out _ _ _ hHeld (by have := HPD.out; have := HB1Z.out; omega)) (fun hHeld => ?_)
         clear hK K9
         try simp only [Act.put, List.getElem_toArray, List.getElem_cons_succ, List.getElem_cons_zero, List.setIfInBounds_toArray, List.set_cons_zero, List.set_cons_succ]
         obtain ⟨V5, hV5⟩ : ∃ W, V4.setRow p2 yv = W := ⟨_, rfl⟩
         rw [hV5] at hHeld
         rw [hV5]
         have d2 : Blk V5 p2 32 yv := by rw [<- hV5]; exact c2.row _
         replace d1 : Blk V5 p1 32 xv := by rw [<- hV5]; exact d1.farRow (by have := HPD.out; omega) _
         replace c3 : Blk V5 p3 32 ZB := by rw [<- hV5]; exact c3.farRow (by have := HPD.out; omega) _
         have gv5 : wv2.grownBy V5 none := by rw [<- hV5]; exact zc gv4 (.inl (by have := HPD.out; omega)) _
         clear hV5 gv4 c2
         refine wpAnyH_ready (rs := [14]) (by kernel_rfl) (by simp) ?_
         refine (AllReadyH.cons (o := _) rfl (fun K9 hK => ?_) AllReadyH.nil)
         refine zk (by rfl) 32 _ _ rfl p3 0 zv rfl rfl (zw c3 (by rw [HLB.out.2.2]; exact Nat.le_refl _)) HSB.out.2.2 HOB.out.2.2 ?_
         rw [zi (P := Tryz.prog) (ty := 32) c3 HSB.out.2.2 HLB.out.2.2 HOB.out.2.2]
         refine hK.out _ _ (HSK2.out _ _ _ hHeld (by have := HPD.out; have := HB1Z.out; omega)) (fun hHeld => ?_)
         clear hK K9
         try simp only [Act.put, List.getElem_toArray, List.getElem_cons_succ, List.getElem_cons_zero, List.setIfInBounds_toArray, List.set_cons_zero, List.set_cons_succ]
         obtain ⟨V6, hV6⟩ : ∃ W, V5.setRow p3 zv = W := ⟨_, rfl⟩
         rw [hV6] at hHeld
         rw [hV6]
         have d3 : Blk V6 p3 32 zv := by rw [<- hV6]; exact c3.row _
         replace d1 : Blk V6 p1 32 xv := by rw [<- hV6]; exact d1.farRow (by have := HPD.out; omega) _
         replace d2 : Blk V6 p2 32 yv := by rw [<- hV6]; exact d2.farRow (by have := HPD.out; omega) _
         have gv6 : wv2.grownBy V6 none := by rw [<- hV6]; exact zc gv5 (.inl (by have := HPD.out; omega)) _
         clear hV6 gv5 c3
         refine wpAnyH_done (by kernel_rfl) ?_ _
         refine hK8 _ _ (Met.intro (hJ8 _ _ ?_))
         (repeat apply Exists.intro)
         exact ⟨zai gv6 d1 d2 d3, rfl⟩
     · go_simp
       refine hK.out _ _ (HSK.out _ _ hHeld (gQ)) (fun hHeld => ?_)
       clear hK K9
       try simp only [Act.put, List.getElem_toArray, List.getElem_cons_succ, List.getElem_cons_zero, List.setIfInBounds_toArray, List.set_cons_zero, List.set_cons_succ]
       obtain ⟨p2, hp2⟩ : ∃ p, V1.heap.size = p := ⟨_, rfl⟩
       obtain ⟨V2, hV2⟩ : ∃ V, V1.alloc (.cells ZB 32) = V := ⟨_, rfl⟩
       have b1 : Blk V2 p2 32 ZB := by rw [<- hV2, <- hp2]; exact Blk.new _ _ _
       have g2 : V1.grownBy V2 none := by rw [<- hV2]; exact gQ
       have z2 : V2.heap.size = V1.heap.size + 1 := by rw [<- hV2]; simp
       rw [hV2] at hHeld
       rw [hV2]
       try rw [hp2]
       have HA2 := hQ_ (aQ b1 (aQ g2 (aQ z2 hp2)))
       clear b1 g2 z2 hp2 hV2
       refine wpAnyH_ready (rs := [9]) (by kernel_rfl) (by simp) ?_
       refine (AllReadyH.cons (o := _) rfl (fun K9 hK => ?_) AllReadyH.nil)
       · go_simp
         refine hK.out _ _ (HSK.out _ _ hHeld (gQ)) (fun hHeld => ?_)
         clear hK K9
         try simp only [Act.put, List.getElem_toArray, List.getElem_cons_succ, List.getElem_cons_zero, List.setIfInBounds_toArray, List.set_cons_zero, List.set_cons_succ]
         obtain ⟨p1, hp1⟩ : ∃ p, V2.heap.size = p := ⟨_, rfl⟩
         obtain ⟨V3, hV3⟩ : ∃ V, V2.alloc (.cells ZB 32) = V := ⟨_, rfl⟩
         have b0 : Blk V3 p1 32 ZB := by rw [<- hV3, <- hp1]; exact Blk.new _ _ _
         have g3 : V2.grownBy V3 none := by rw [<- hV3]; exact gQ
         have z3 : V3.heap.size = V2.heap.size + 1 := by rw [<- hV3]; simp
         rw [hV3] at hHeld
         rw [hV3]
         try rw [hp1]
         have HA3 := hQ_ (aQ b0 (aQ g3 (aQ z3 hp1)))
         clear b0 g3 z3 hp1 hV3
         have c1 : Blk V3 p1 32 ZB := HA3.out.1
         have c2 : Blk V3 p2 32 ZB := HA2.out.1.grown HA3.out.2.1 (by simp)
         have c3 : Blk V3 p3 32 ZB := HA1.out.1.grown (za HA2.out.2.1 HA3.out.2.1) (by simp)
         have hpd : p1 ≠ p2 /\ p1 ≠ p3 /\ p2 ≠ p3 /\ wv2.heap.size <= p1 /\ wv2.heap.size <= p2 /\ wv2.heap.size <= p3 := by have h1 := HA1.out.2.2; have h2 := HA2.out.2.2; have h3 := HA3.out.2.2; have h0 := HV0.out; omega
         have gv3 : wv2.grownBy V3 none := za HV0G.out (za HA1.out.2.1 (za HA2.out.2.1 HA3.out.2.1))
         have HPD := hQ_ hpd
         clear hpd
         refine wpAnyH_ready (rs := [12]) (by kernel_rfl) (by simp) ?_
         refine (AllReadyH.cons (o := _) rfl (fun K9 hK => ?_) AllReadyH.nil)
         refine zk (by rfl) 32 _ _ rfl p1 0 xv rfl rfl (zw c1 (by rw [HLB.out.1]; exact Nat.le_refl _)) HSB.out.1 HOB.out.1 ?_
         rw [zi (P := Tryz.prog) (ty := 32) c1 HSB.out.1 HLB.out.1 HOB.out.1]
         refine hK.out _ _ (HSK2.out _ _ _ hHeld (by have := HPD.out; have := HB1Z.out; omega)) (fun hHeld => ?_)
         clear hK K9
         try simp only [Act.put, List.getElem_toArray, List.getElem_cons_succ, List.getElem_cons_zero, List.setIfInBounds_toArray, List.set_cons_zero, List.set_cons_succ]
         obtain ⟨V4, hV4⟩ : ∃ W, V3.setRow p1 xv = W := ⟨_, rfl⟩
         rw [hV4] at hHeld
         rw [hV4]
         have d1 : Blk V4 p1 32 xv := by rw [<- hV4]; exact c1.row _
         replace c2 : Blk V4 p2 32 ZB := by rw [<- hV4]; exact c2.farRow (by have := HPD.out; omega) _
         replace c3 : Blk V4 p3 32 ZB := by rw [<- hV4]; exact c3.farRow (by have := HPD.out; omega) _
         have gv4 : wv2.grownBy V4 none := by rw [<- hV4]; exact zc gv3 (.inl (by have := HPD.out; omega)) _
         clear hV4 gv3 c1
         refine wpAnyH_ready (rs := [13]) (by kernel_rfl) (by simp) ?_
         refine (AllReadyH.cons (o := _) rfl (fun K9 hK => ?_) AllReadyH.nil)
         refine zk (by rfl) 32 _ _ rfl p2 0 yv rfl rfl (zw c2 (by rw [HLB.out.2.1]; exact Nat.le_refl _)) HSB.out.2.1 HOB.out.2.1 ?_
         rw [zi (P := Tryz.prog) (ty := 32) c2 HSB.out.2.1 HLB.out.2.1 HOB.out.2.1]
         refine hK.out _ _ (HSK2.out _ _ _ hHeld (by have := HPD.out; have := HB1Z.out; omega)) (fun hHeld => ?_)
         clear hK K9
         try simp only [Act.put, List.getElem_toArray, List.getElem_cons_succ, List.getElem_cons_zero, List.setIfInBounds_toArray, List.set_cons_zero, List.set_cons_succ]
         obtain ⟨V5, hV5⟩ : ∃ W, V4.setRow p2 yv = W := ⟨_, rfl⟩
         rw [hV5] at hHeld
         rw [hV5]
         have d2 : Blk V5 p2 32 yv := by rw [<- hV5]; exact c2.row _
         replace d1 : Blk V5 p1 32 xv := by rw [<- hV5]; exact d1.farRow (by have := HPD.out; omega) _
         replace c3 : Blk V5 p3 32 ZB := by rw [<- hV5]; exact c3.farRow (by have := HPD.out; omega) _
         have gv5 : wv2.grownBy V5 none := by rw [<- hV5]; exact zc gv4 (.inl (by have := HPD.out; omega)) _
         clear hV5 gv4 c2
         refine wpAnyH_ready (rs := [14]) (by kernel_rfl) (by simp) ?_
         refine (AllReadyH.cons (o := _) rfl (fun K9 hK => ?_) AllReadyH.nil)
         refine zk (by rfl) 32 _ _ rfl p3 0 zv rfl rfl (zw c3 (by rw [HLB.out.2.2]; exact Nat.le_refl _)) HSB.out.2.2 HOB.out.2.2 ?_
         rw [zi (P := Tryz.prog) (ty := 32) c3 HSB.out.2.2 HLB.out.2.2 HOB.out.2.2]
         refine hK.out _ _ (HSK2.out _ _ _ hHeld (by have := HPD.out; have := HB1Z.out; omega)) (fun hHeld => ?_)
         clear hK K9
         try simp only [Act.put, List.getElem_toArray, List.getElem_cons_succ, List.getElem_cons_zero, List.setIfInBounds_toArray, List.set_cons_zero, List.set_cons_succ]
         obtain ⟨V6, hV6⟩ : ∃ W, V5.setRow p3 zv = W := ⟨_, rfl⟩
         rw [hV6] at hHeld
         rw [hV6]
         have d3 : Blk V6 p3 32 zv := by rw [<- hV6]; exact c3.row _
         replace d1 : Blk V6 p1 32 xv := by rw [<- hV6]; exact d1.farRow (by have := HPD.out; omega) _
         replace d2 : Blk V6 p2 32 yv := by rw [<- hV6]; exact d2.farRow (by have := HPD.out; omega) _
         have gv6 : wv2.grownBy V6 none := by rw [<- hV6]; exact zc gv5 (.inl (by have := HPD.out; omega)) _
         clear hV6 gv5 c3
         refine wpAnyH_done (by kernel_rfl) ?_ _
         refine hK8 _ _ (Met.intro (hJ8 _ _ ?_))
         (repeat apply Exists.intro)
         exact ⟨zai gv6 d1 d2 d3, rfl⟩
  case rest =>
   obtain ⟨p1, p2, p3, rfl, rfl, rfl, gx, e1, e2, e3⟩ := hcut
   have HGC := hQ_ (show w2.grownBy wc none from za HG118.out gx)
   have HE1 := hQ_ e1
   have HE2 := hQ_ e2
   have HE3 := hQ_ e3
   have HGX := hQ_ gx
   clear gx e1 e2 e3 HSK HSK2
   obtain ⟨_, c1, _⟩ := HPX.out wc p1 HE1.out (za HX2.out.1 HGC.out)
   obtain ⟨_, c2, _, _⟩ := HPY.out wc p2 HE2.out (za HX2.out.1 HGC.out)
   obtain ⟨_, c3, _, _⟩ := HPZ.out wc p3 HE3.out (za HX2.out.1 HGC.out)
   have hrn := rowN_rnd HK0.out HK1.out HPP1.out HK2.out HPP2.out
   have b1 := zeu HK0.out
   have b2 := zeu HK1.out
   have b3 := zeu HK2.out
   obtain ⟨ra, hra⟩ : ∃ v, x.r = v := ⟨_, rfl⟩
   obtain ⟨rb, hrb⟩ : ∃ v, y.r = v := ⟨_, rfl⟩
   obtain ⟨rc, hrc⟩ : ∃ v, z.r = v := ⟨_, rfl⟩
   rw [hra, hrb, hrc] at hrn
   rw [hra] at c1 b1
   rw [hrb] at c2 b2
   rw [hrc] at c3 b3
   have hw1 := w64 (ra + 1) ⟨by omega, by omega⟩
   have hw2 := w64 (rb + 1) ⟨by omega, by omega⟩
   have HR9 := hQ_ hrn
   clear hrn hra hrb hrc b1 b2 b3
   by_cases h1 : ra < 1
   · have d1 : decide (ra < 1) = true := by simpa using h1
     have hrow : rowN x y z = 14 := by rw [HR9.out, if_pos (.inl h1)]
     have hnn : N = 14 := by rw [<- HN.out]; unfold chkN; simp [HRV.out, HEQ0.out, HEQ1.out, HEQ2.out, hrow]
     subst hnn
     clear h1 hrow
     go_wp2_with fail
     go_ret
     exact ⟨rfl, (za HX2.out.1 HGC.out)⟩
   have d1 : decide (ra < 1) = false := by simpa using h1
   by_cases h2 : 1099511627776 < rc
   · have d2 : decide (1099511627776 < rc) = true := by simpa using h2
     have hrow : rowN x y z = 14 := by rw [HR9.out, if_pos (.inr (.inl h2))]
     have hnn : N = 14 := by rw [<- HN.out]; unfold chkN; simp [HRV.out, HEQ0.out, HEQ1.out, HEQ2.out, hrow]
     subst hnn
     clear h1 h2 hrow
     go_wp2_with fail
     go_ret
     exact ⟨rfl, (za HX2.out.1 HGC.out)⟩
   have d2 : decide (1099511627776 < rc) = false := by simpa using h2
   by_cases h3 : rb = ra + 1
   rotate_left
   · have d3 : (rb != ra + 1) = true := by simpa using h3
     have hrow : rowN x y z = 14 := by rw [HR9.out, if_pos (.inr (.inr (.inl h3)))]
     have hnn : N = 14 := by rw [<- HN.out]; unfold chkN; simp [HRV.out, HEQ0.out, HEQ1.out, HEQ2.out, hrow]
     subst hnn
     clear h1 h2 h3 hrow
     go_wp2_with fail
     go_ret
     exact ⟨rfl, (za HX2.out.1 HGC.out)⟩
   have d3 : (rb != ra + 1) = false := by simpa using h3
   by_cases h4 : rc = rb + 1
   rotate_left
   · have d4 : (rc != rb + 1) = true := by simpa using h4
     have hrow : rowN x y z = 14 := by rw [HR9.out, if_pos (.inr (.inr (.inr h4)))]
     have hnn : N = 14 := by rw [<- HN.out]; unfold chkN; simp [HRV.out, HEQ0.out, HEQ1.out, HEQ2.out, hrow]
     subst hnn
     clear h1 h2 h3 h4 hrow
     go_wp2_with fail
     go_ret
     exact ⟨rfl, (za HX2.out.1 HGC.out)⟩
   have d4 : (rc != rb + 1) = false := by simpa using h4
   have HROW := hQ_ (show rowN x y z = 0 from by rw [HR9.out, if_neg (by omega)])
   clear h1 h2 h3 h4
   go_upto_region 21 with (fail)
   clear c1 c2 c3 d1 d2 d3 d4 hw1 hw2
   have HNR := hQ_ (show wc.rangeAt gn2 0 nx.toList /\ wc.rangeAt gn2 55 ny.toList /\ wc.rangeAt gn2 110 nz.toList from by
    have r := ze HRR2.out HGX.out
    have e0 : ([] ++ nx.toList ++ ny.toList ++ nz.toList) = [] ++ (nx.toList ++ (ny.toList ++ nz.toList)) := by simp
    have e1 : ([] ++ nx.toList ++ ny.toList ++ nz.toList) = nx.toList ++ (ny.toList ++ nz.toList) := by simp
    have e2 : ([] ++ nx.toList ++ ny.toList ++ nz.toList) = (nx.toList ++ ny.toList) ++ (nz.toList ++ []) := by simp
    have h0 := r
    have h1 := r
    have h2 := r
    rw [e0] at h0
    rw [e1] at h1
    rw [e2] at h2
    have r0 := zx h0
    have r1 := zx h1
    have r2 := zx h2
    rw [Array.length_toList, HLN.out.1, Nat.zero_add] at r1
    rw [List.length_append, Array.length_toList, Array.length_toList, HLN.out.1, HLN.out.2.1, Nat.zero_add] at r2
    exact ⟨by simpa using r0, r1, r2⟩)
   obtain ⟨t1, ht1⟩ : ∃ t, fitsB y.q (idD x) x = t := ⟨_, rfl⟩
   obtain ⟨t2, ht2⟩ : ∃ t, fitsB z.q (idD y) y = t := ⟨_, rfl⟩
   obtain ⟨t3, ht3⟩ : ∃ t, fitsB q (idD z) z = t := ⟨_, rfl⟩
   have T1 := hQ_ (show ∀ zz : Gr wc, Calls Tryz.prog 23 #[.agg yq, .agg nx] zz.1 fun e w' => e = .returned (.bool t1) /\ zz.1.grownBy w' none from fun zz => by rw [<- ht1]; exact HF1.out zz.1)
   have T2 := hQ_ (show ∀ zz : Gr wc, Calls Tryz.prog 23 #[.agg zq, .agg ny] zz.1 fun e w' => e = .returned (.bool t2) /\ zz.1.grownBy w' none from fun zz => by rw [<- ht2]; exact HF2.out zz.1)
   have T3 := hQ_ (show ∀ zz : Gr wc, Calls Tryz.prog 23 #[.agg qv, .agg nz] zz.1 fun e w' => e = .returned (.bool t3) /\ zz.1.grownBy w' none from fun zz => by rw [<- ht3]; exact HF3.out zz.1)
   have V1 := hQ_ (show ∀ zz : Gr wc, Sem.run Tryz.prog (Instr.loadAt 29 (.pointer (some ⟨p2, 18, none⟩))) zz.1 = .ok (.agg yq) zz.1 from fun zz => ya zz.1 p2 18 29 yq _ (ze (HPY.out wc p2 HE2.out (za HX2.out.1 HGC.out)).2.2.1 zz.2) Tryz.underlying29 rfl HSQ.out.1)
   have V2 := hQ_ (show ∀ zz : Gr wc, Sem.run Tryz.prog (Instr.loadAt 29 (.pointer (some ⟨p3, 18, none⟩))) zz.1 = .ok (.agg zq) zz.1 from fun zz => ya zz.1 p3 18 29 zq _ (ze (HPZ.out wc p3 HE3.out (za HX2.out.1 HGC.out)).2.2.1 zz.2) Tryz.underlying29 rfl HSQ.out.2.1)
   have V3 := hQ_ (show ∀ zz : Gr wc, Sem.run Tryz.prog (Instr.loadAt 29 (.pointer (some ⟨w.heap.size + 1, 117, none⟩))) zz.1 = .ok (.agg qv) zz.1 from fun zz => ya zz.1 (w.heap.size + 1) 117 29 qv _ (ze (ze HX2.out.2.2.2.1 HGC.out) zz.2) Tryz.underlying29 rfl HSQ.out.2.2)
   have V4 := hQ_ (show ∀ zz : Gr wc, Sem.run Tryz.prog (Instr.loadAt 71 (.pointer (some ⟨gn2, 0, none⟩))) zz.1 = .ok (.agg nx) zz.1 from fun zz => ya zz.1 gn2 0 71 nx _ (ze HNR.out.1 zz.2) Tryz.underlying71 rfl HSN.out.1)
   have V5 := hQ_ (show ∀ zz : Gr wc, Sem.run Tryz.prog (Instr.loadAt 71 (.pointer (some ⟨gn2, 55, none⟩))) zz.1 = .ok (.agg ny) zz.1 from fun zz => ya zz.1 gn2 55 71 ny _ (ze HNR.out.2.1 zz.2) Tryz.underlying71 rfl HSN.out.2.1)
   have V6 := hQ_ (show ∀ zz : Gr wc, Sem.run Tryz.prog (Instr.loadAt 71 (.pointer (some ⟨gn2, 110, none⟩))) zz.1 = .ok (.agg nz) zz.1 from fun zz => ya zz.1 gn2 110 71 nz _ (ze HNR.out.2.2 zz.2) Tryz.underlying71 rfl HSN.out.2.2)
   have HT1 := hQ_ ht1
   have HT2 := hQ_ ht2
   have HT3 := hQ_ ht3
   clear ht1 ht2 ht3
   cases t1 with
   | false =>
    have hnn : N = 12 := by rw [<- HN.out]; unfold chkN certN; simp [HRV.out, HEQ0.out, HEQ1.out, HEQ2.out, HROW.out, HT1.out]
    subst hnn
    refine zj (by kernel_rfl) (by kernel_rfl) ?_
    repeat (first
     | go_big_quiet_skip
     | (go_big_quiet_want; first
      | (refine zg 29 _ ⟨p2, 18, none⟩ (.agg yq) rfl rfl (by rintro _ ⟨z, rfl⟩; exact V1.out z) ?_; simp only [Act.put, List.setIfInBounds_toArray, List.set_cons_zero, List.set_cons_succ]; go_big_quiet_on)
      | (refine zg 29 _ ⟨p3, 18, none⟩ (.agg zq) rfl rfl (by rintro _ ⟨z, rfl⟩; exact V2.out z) ?_; simp only [Act.put, List.setIfInBounds_toArray, List.set_cons_zero, List.set_cons_succ]; go_big_quiet_on)
      | (refine zg 29 _ ⟨w.heap.size + 1, 117, none⟩ (.agg qv) rfl rfl (by rintro _ ⟨z, rfl⟩; exact V3.out z) ?_; simp only [Act.put, List.setIfInBounds_toArray, List.set_cons_zero, List.set_cons_succ]; go_big_quiet_on)
      | (refine zg 71 _ ⟨gn2, 0, none⟩ (.agg nx) rfl rfl (by rintro _ ⟨z, rfl⟩; exact V4.out z) ?_; simp only [Act.put, List.setIfInBounds_toArray, List.set_cons_zero, List.set_cons_succ]; go_big_quiet_on)
      | (refine zg 71 _ ⟨gn2, 55, none⟩ (.agg ny) rfl rfl (by rintro _ ⟨z, rfl⟩; exact V5.out z) ?_; simp only [Act.put, List.setIfInBounds_toArray, List.set_cons_zero, List.set_cons_succ]; go_big_quiet_on)
      | (refine zg 71 _ ⟨gn2, 110, none⟩ (.agg nz) rfl rfl (by rintro _ ⟨z, rfl⟩; exact V6.out z) ?_; simp only [Act.put, List.setIfInBounds_toArray, List.set_cons_zero, List.set_cons_succ]; go_big_quiet_on)
      | (go_big_quiet_op; first | go_big_quiet_on | go_big_quiet_call (first | (go_at_call 23; with_reducible exact Calls.grown _ (T1.out _)) | (go_at_call 23; with_reducible exact Calls.grown _ (T2.out _)) | (go_at_call 23; with_reducible exact Calls.grown _ (T3.out _))))))
    refine wpQuiet_nil ?_
    rintro w7 ⟨⟨_, k7⟩, rfl⟩
    have HZ := hQ_ (za (za HX2.out.1 HGC.out) k7)
    clear k7
    go_wp2_with fail
    go_ret
    exact ⟨rfl, HZ.out⟩
   | true =>
   cases t2 with
   | false =>
    have hnn : N = 12 := by rw [<- HN.out]; unfold chkN certN; simp [HRV.out, HEQ0.out, HEQ1.out, HEQ2.out, HROW.out, HT1.out, HT2.out]
    subst hnn
    refine zj (by kernel_rfl) (by kernel_rfl) ?_
    repeat (first
     | go_big_quiet_skip
     | (go_big_quiet_want; first
      | (refine zg 29 _ ⟨p2, 18, none⟩ (.agg yq) rfl rfl (by rintro _ ⟨z, rfl⟩; exact V1.out z) ?_; simp only [Act.put, List.setIfInBounds_toArray, List.set_cons_zero, List.set_cons_succ]; go_big_quiet_on)
      | (refine zg 29 _ ⟨p3, 18, none⟩ (.agg zq) rfl rfl (by rintro _ ⟨z, rfl⟩; exact V2.out z) ?_; simp only [Act.put, List.setIfInBounds_toArray, List.set_cons_zero, List.set_cons_succ]; go_big_quiet_on)
      | (refine zg 29 _ ⟨w.heap.size + 1, 117, none⟩ (.agg qv) rfl rfl (by rintro _ ⟨z, rfl⟩; exact V3.out z) ?_; simp only [Act.put, List.setIfInBounds_toArray, List.set_cons_zero, List.set_cons_succ]; go_big_quiet_on)
      | (refine zg 71 _ ⟨gn2, 0, none⟩ (.agg nx) rfl rfl (by rintro _ ⟨z, rfl⟩; exact V4.out z) ?_; simp only [Act.put, List.setIfInBounds_toArray, List.set_cons_zero, List.set_cons_succ]; go_big_quiet_on)
      | (refine zg 71 _ ⟨gn2, 55, none⟩ (.agg ny) rfl rfl (by rintro _ ⟨z, rfl⟩; exact V5.out z) ?_; simp only [Act.put, List.setIfInBounds_toArray, List.set_cons_zero, List.set_cons_succ]; go_big_quiet_on)
      | (refine zg 71 _ ⟨gn2, 110, none⟩ (.agg nz) rfl rfl (by rintro _ ⟨z, rfl⟩; exact V6.out z) ?_; simp only [Act.put, List.setIfInBounds_toArray, List.set_cons_zero, List.set_cons_succ]; go_big_quiet_on)
      | (go_big_quiet_op; first | go_big_quiet_on | go_big_quiet_call (first | (go_at_call 23; with_reducible exact Calls.grown _ (T1.out _)) | (go_at_call 23; with_reducible exact Calls.grown _ (T2.out _)) | (go_at_call 23; with_reducible exact Calls.grown _ (T3.out _))))))
    refine wpQuiet_nil ?_
    rintro w7 ⟨⟨_, k7⟩, rfl⟩
    have HZ := hQ_ (za (za HX2.out.1 HGC.out) k7)
    clear k7
    go_wp2_with fail
    go_ret
    exact ⟨rfl, HZ.out⟩
   | true =>
   cases t3 with
   | false =>
    have hnn : N = 12 := by rw [<- HN.out]; unfold chkN certN; simp [HRV.out, HEQ0.out, HEQ1.out, HEQ2.out, HROW.out, HT1.out, HT2.out, HT3.out]
    subst hnn
    refine zj (by kernel_rfl) (by kernel_rfl) ?_
    repeat (first
     | go_big_quiet_skip
     | (go_big_quiet_want; first
      | (refine zg 29 _ ⟨p2, 18, none⟩ (.agg yq) rfl rfl (by rintro _ ⟨z, rfl⟩; exact V1.out z) ?_; simp only [Act.put, List.setIfInBounds_toArray, List.set_cons_zero, List.set_cons_succ]; go_big_quiet_on)
      | (refine zg 29 _ ⟨p3, 18, none⟩ (.agg zq) rfl rfl (by rintro _ ⟨z, rfl⟩; exact V2.out z) ?_; simp only [Act.put, List.setIfInBounds_toArray, List.set_cons_zero, List.set_cons_succ]; go_big_quiet_on)
      | (refine zg 29 _ ⟨w.heap.size + 1, 117, none⟩ (.agg qv) rfl rfl (by rintro _ ⟨z, rfl⟩; exact V3.out z) ?_; simp only [Act.put, List.setIfInBounds_toArray, List.set_cons_zero, List.set_cons_succ]; go_big_quiet_on)
      | (refine zg 71 _ ⟨gn2, 0, none⟩ (.agg nx) rfl rfl (by rintro _ ⟨z, rfl⟩; exact V4.out z) ?_; simp only [Act.put, List.setIfInBounds_toArray, List.set_cons_zero, List.set_cons_succ]; go_big_quiet_on)
      | (refine zg 71 _ ⟨gn2, 55, none⟩ (.agg ny) rfl rfl (by rintro _ ⟨z, rfl⟩; exact V5.out z) ?_; simp only [Act.put, List.setIfInBounds_toArray, List.set_cons_zero, List.set_cons_succ]; go_big_quiet_on)
      | (refine zg 71 _ ⟨gn2, 110, none⟩ (.agg nz) rfl rfl (by rintro _ ⟨z, rfl⟩; exact V6.out z) ?_; simp only [Act.put, List.setIfInBounds_toArray, List.set_cons_zero, List.set_cons_succ]; go_big_quiet_on)
      | (go_big_quiet_op; first | go_big_quiet_on | go_big_quiet_call (first | (go_at_call 23; with_reducible exact Calls.grown _ (T1.out _)) | (go_at_call 23; with_reducible exact Calls.grown _ (T2.out _)) | (go_at_call 23; with_reducible exact Calls.grown _ (T3.out _))))))
    refine wpQuiet_nil ?_
    rintro w7 ⟨⟨_, k7⟩, rfl⟩
    have HZ := hQ_ (za (za HX2.out.1 HGC.out) k7)
    clear k7
    go_wp2_with fail
    go_ret
    exact ⟨rfl, HZ.out⟩
   | true =>
   refine zj (by kernel_rfl) (by kernel_rfl) ?_
   repeat (first
    | go_big_quiet_skip
    | (go_big_quiet_want; first
     | (refine zg 29 _ ⟨p2, 18, none⟩ (.agg yq) rfl rfl (by rintro _ ⟨z, rfl⟩; exact V1.out z) ?_; simp only [Act.put, List.setIfInBounds_toArray, List.set_cons_zero, List.set_cons_succ]; go_big_quiet_on)
     | (refine zg 29 _ ⟨p3, 18, none⟩ (.agg zq) rfl rfl (by rintro _ ⟨z, rfl⟩; exact V2.out z) ?_; simp only [Act.put, List.setIfInBounds_toArray, List.set_cons_zero, List.set_cons_succ]; go_big_quiet_on)
     | (refine zg 29 _ ⟨w.heap.size + 1, 117, none⟩ (.agg qv) rfl rfl (by rintro _ ⟨z, rfl⟩; exact V3.out z) ?_; simp only [Act.put, List.setIfInBounds_toArray, List.set_cons_zero, List.set_cons_succ]; go_big_quiet_on)
     | (refine zg 71 _ ⟨gn2, 0, none⟩ (.agg nx) rfl rfl (by rintro _ ⟨z, rfl⟩; exact V4.out z) ?_; simp only [Act.put, List.setIfInBounds_toArray, List.set_cons_zero, List.set_cons_succ]; go_big_quiet_on)
     | (refine zg 71 _ ⟨gn2, 55, none⟩ (.agg ny) rfl rfl (by rintro _ ⟨z, rfl⟩; exact V5.out z) ?_; simp only [Act.put, List.setIfInBounds_toArray, List.set_cons_zero, List.set_cons_succ]; go_big_quiet_on)
     | (refine zg 71 _ ⟨gn2, 110, none⟩ (.agg nz) rfl rfl (by rintro _ ⟨z, rfl⟩; exact V6.out z) ?_; simp only [Act.put, List.setIfInBounds_toArray, List.set_cons_zero, List.set_cons_succ]; go_big_quiet_on)
     | (go_big_quiet_op; first | go_big_quiet_on | go_big_quiet_call (first | (go_at_call 23; with_reducible exact Calls.grown _ (T1.out _)) | (go_at_call 23; with_reducible exact Calls.grown _ (T2.out _)) | (go_at_call 23; with_reducible exact Calls.grown _ (T3.out _))))))
   refine wpQuiet_nil ?_
   rintro w7 ⟨⟨_, k7⟩, rfl⟩
   have HK7 := hQ_ k7
   have HG501 := hQ_ (show w2.grownBy w7 none from za HGC.out k7)
   have HG501_wc := hQ_ (show wc.grownBy w7 none from za (World.grownBy.refl wc none) k7)
   clear k7 V1 V2 V3 V4 V5 V6 T1 T2 T3
   obtain ⟨mY, hm0⟩ : ∃ m, qcN V e y.q.e y.q.r y.q.Bl Gl y.q.L = m := ⟨_, rfl⟩
   rw [hm0] at HQY
   have HM0 := hQ_ hm0
   clear hm0
   obtain ⟨mZ, hm1⟩ : ∃ m, qcN V e z.q.e z.q.r z.q.Bl Gl z.q.L = m := ⟨_, rfl⟩
   rw [hm1] at HQZ
   have HM1 := hQ_ hm1
   clear hm1
   obtain ⟨mQ, hm2⟩ : ∃ m, qcN V e q.e q.r q.Bl Gl q.L = m := ⟨_, rfl⟩
   rw [hm2] at HQQ
   have HM2 := hQ_ hm2
   clear hm2
   obtain ⟨rq3, hr3, hre⟩ := run_slice3 w7 73 Tryz.underlying73 yq zq qv HND.out.2.2.2.2.2.2.1 HND.out.2.2.2.2.2.2.2.1 HND.out.2.2.2.2.2.2.2.2
   have HS3 := hQ_ hr3
   have HRE := hQ_ hre
   clear hr3 hre
   go_wp2_with (first
    | (refine wpList_load_mid rfl 29 _ rfl (p2) 18 rfl yq.toList _ (ze (HPY.out wc p2 HE2.out (za HX2.out.1 HGC.out)).2.2.1 HK7.out) Tryz.underlying29 rfl (by rw [Array.length_toList]; exact HSQ.out.1) ?_; rw [Array.toArray_toList])
    | (refine wpList_load_mid rfl 29 _ rfl (p3) 18 rfl zq.toList _ (ze (HPZ.out wc p3 HE3.out (za HX2.out.1 HGC.out)).2.2.1 HK7.out) Tryz.underlying29 rfl (by rw [Array.length_toList]; exact HSQ.out.2.1) ?_; rw [Array.toArray_toList])
    | (refine wpList_load_mid rfl 29 _ rfl (w.heap.size + 1) 117 rfl qv.toList _ (ze HX2.out.2.2.2.1 HG501.out) Tryz.underlying29 rfl (by rw [Array.length_toList]; exact HSQ.out.2.2) ?_; rw [Array.toArray_toList])
    | (refine wpList_bslice3 rfl 73 3 _ _ _ rfl (.agg yq) (.agg zq) (.agg qv) _ rfl rfl rfl HS3.out ?_))
   obtain ⟨gq, hgq⟩ : ∃ g, w7.heap.size = g := ⟨_, rfl⟩
   obtain ⟨W8, hW8⟩ : ∃ W, w7.alloc (.cells rq3 29) = W := ⟨_, rfl⟩
   have g8 : w7.grownBy W8 none := by rw [<- hW8]; exact gQ
   have b8 : Blk W8 gq 29 rq3 := by rw [<- hW8, <- hgq]; exact Blk.new _ _ _
   rw [hW8]
   try rw [hgq]
   have HQ3 := hQ_ (show W8.rangeAt gq 0 yq.toList /\ W8.rangeAt gq 19 zq.toList /\ W8.rangeAt gq 38 qv.toList from by
    have r := zd b8
    rw [HRE.out] at r
    have e0 : (yq ++ (zq ++ qv)).toList = [] ++ (yq.toList ++ (zq.toList ++ qv.toList)) := by simp
    have e1 : (yq ++ (zq ++ qv)).toList = yq.toList ++ (zq.toList ++ qv.toList) := by simp
    have e2 : (yq ++ (zq ++ qv)).toList = (yq.toList ++ zq.toList) ++ (qv.toList ++ []) := by simp
    have h0 := r
    have h1 := r
    have h2 := r
    rw [e0] at h0
    rw [e1] at h1
    rw [e2] at h2
    have r0 := zx h0
    have r1 := zx h1
    have r2 := zx h2
    rw [Array.length_toList, HND.out.2.2.2.2.2.2.1, Nat.zero_add] at r1
    rw [List.length_append, Array.length_toList, Array.length_toList, HND.out.2.2.2.2.2.2.1, HND.out.2.2.2.2.2.2.2.1, Nat.zero_add] at r2
    exact ⟨by simpa using r0, r1, r2⟩)
   clear b8 hW8 hgq
   have HG502 := hQ_ (show w2.grownBy W8 none from za HG501.out g8)
   have HG502_wc := hQ_ (show wc.grownBy W8 none from za HG501_wc.out g8)
   clear g8
   refine wp_loop_rounds 4 ?_
   rw [rounds_succ]
   obtain ⟨q200, hq200⟩ : ∃ q, W8.heap.size = q := ⟨_, rfl⟩
   obtain ⟨W200, hW200⟩ : ∃ W, (W8.alloc (.cells ZQ 29)).setRow q200 yq = W := ⟨_, rfl⟩
   have bn200 : Blk (W8.alloc (.cells ZQ 29)) q200 29 ZQ := by rw [<- hq200]; exact Blk.new W8 29 ZQ
   have b200 : Blk W200 q200 29 yq := by rw [<- hW200]; exact bn200.row _
   have g200 : W8.grownBy W200 none := by rw [<- hW200]; exact zc (gQ) (.inl (by rw [hq200]; exact Nat.le_refl _)) _
   have HP200 := hQ_ (aQ bn200 hW200)
   have HB200 := hQ_ b200
   have HL200 := hQ_ g200
   clear bn200 hW200 b200
   have HG503 := hQ_ (show w2.grownBy W200 none from za HG502.out g200)
   have HG503_wc := hQ_ (show wc.grownBy W200 none from za HG502_wc.out g200)
   have HG503_W8 := hQ_ (show W8.grownBy W200 none from za (World.grownBy.refl W8 none) g200)
   clear g200
   go_upto_region 26 with (first
    | (refine wpList_store_row rfl 29 _ _ rfl (q200) yq rfl rfl 29 _ HP200.out.1 (HSQ.out.1) (HLQ.out.1) HOQ.out.1 ?_)
    | (refine wpList_load_mid rfl 29 _ rfl (gq) 0 rfl yq.toList _ (ze HQ3.out.1 (World.grownBy.refl W8 none)) Tryz.underlying29 rfl (by rw [Array.length_toList]; exact HSQ.out.1) ?_; rw [Array.toArray_toList]))
   rw [HP200.out.2]
   clear hq200
   go_wp2_with (first
    | (refine wpList_load_mid rfl 43 _ rfl (w.heap.size) 0 rfl gv.toList _ (ze HX2.out.2.1 HG503.out) Tryz.underlying43 rfl (by rw [Array.length_toList]; exact HSO.out.2) ?_; rw [Array.toArray_toList])
    | (refine wpList_load_mid rfl 29 _ rfl (q200) 0 rfl yq.toList _ (zd HB200.out) Tryz.underlying29 rfl (by rw [Array.length_toList]; exact HSQ.out.1) ?_; rw [Array.toArray_toList]))
   refine (HQY.out W200 (za HX2.out.1 HG503.out)).mono ?_
   rintro e' w200 ⟨rfl, g200⟩
   have HG504 := hQ_ (show w2.grownBy w200 none from za HG503.out g200)
   have HG504_wc := hQ_ (show wc.grownBy w200 none from za HG503_wc.out g200)
   have HG504_W8 := hQ_ (show W8.grownBy w200 none from za HG503_W8.out g200)
   clear g200
   by_cases h0 : mY = 0
   rotate_left
   · have d1 : ((mY : Int) != 0) = true := by simp; omega
     have hnn : N = mY := by rw [<- HN.out]; unfold chkN certN; simp [HRV.out, HEQ0.out, HEQ1.out, HEQ2.out, HROW.out, HT1.out, HT2.out, HT3.out, HM0.out, h0]
     subst hnn
     clear h0
     go_wp2_with fail
     go_ret
     exact ⟨rfl, (za HX2.out.1 HG504.out)⟩
   have d1 : ((mY : Int) != 0) = false := by simp; omega
   have HM00 := hQ_ (HM0.out.trans h0)
   clear h0
   go_wp2_with fail
   clear d1
   rw [rounds_succ]
   obtain ⟨q210, hq210⟩ : ∃ q, w200.heap.size = q := ⟨_, rfl⟩
   obtain ⟨W210, hW210⟩ : ∃ W, (w200.alloc (.cells ZQ 29)).setRow q210 zq = W := ⟨_, rfl⟩
   have bn210 : Blk (w200.alloc (.cells ZQ 29)) q210 29 ZQ := by rw [<- hq210]; exact Blk.new w200 29 ZQ
   have b210 : Blk W210 q210 29 zq := by rw [<- hW210]; exact bn210.row _
   have g210 : w200.grownBy W210 none := by rw [<- hW210]; exact zc (gQ) (.inl (by rw [hq210]; exact Nat.le_refl _)) _
   have HP210 := hQ_ (aQ bn210 hW210)
   have HB210 := hQ_ b210
   have HL210 := hQ_ g210
   clear bn210 hW210 b210
   have HG505 := hQ_ (show w2.grownBy W210 none from za HG504.out g210)
   have HG505_wc := hQ_ (show wc.grownBy W210 none from za HG504_wc.out g210)
   have HG505_W8 := hQ_ (show W8.grownBy W210 none from za HG504_W8.out g210)
   clear g210
   go_upto_region 26 with (first
    | (refine wpList_store_row rfl 29 _ _ rfl (q210) zq rfl rfl 29 _ HP210.out.1 (HSQ.out.2.1) (HLQ.out.2.1) HOQ.out.2.1 ?_)
    | (refine wpList_load_mid rfl 29 _ rfl (gq) 19 rfl zq.toList _ (ze HQ3.out.2.1 HG504_W8.out) Tryz.underlying29 rfl (by rw [Array.length_toList]; exact HSQ.out.2.1) ?_; rw [Array.toArray_toList]))
   rw [HP210.out.2]
   clear hq210
   go_wp2_with (first
    | (refine wpList_load_mid rfl 43 _ rfl (w.heap.size) 0 rfl gv.toList _ (ze HX2.out.2.1 HG505.out) Tryz.underlying43 rfl (by rw [Array.length_toList]; exact HSO.out.2) ?_; rw [Array.toArray_toList])
    | (refine wpList_load_mid rfl 29 _ rfl (q210) 0 rfl zq.toList _ (zd HB210.out) Tryz.underlying29 rfl (by rw [Array.length_toList]; exact HSQ.out.2.1) ?_; rw [Array.toArray_toList]))
   refine (HQZ.out W210 (za HX2.out.1 HG505.out)).mono ?_
   rintro e' w210 ⟨rfl, g210⟩
   have HG506 := hQ_ (show w2.grownBy w210 none from za HG505.out g210)
   have HG506_wc := hQ_ (show wc.grownBy w210 none from za HG505_wc.out g210)
   have HG506_W8 := hQ_ (show W8.grownBy w210 none from za HG505_W8.out g210)
   clear g210
   by_cases h0 : mZ = 0
   rotate_left
   · have d1 : ((mZ : Int) != 0) = true := by simp; omega
     have hnn : N = mZ := by rw [<- HN.out]; unfold chkN certN; simp [HRV.out, HEQ0.out, HEQ1.out, HEQ2.out, HROW.out, HT1.out, HT2.out, HT3.out, HM00.out, HM1.out, h0]
     subst hnn
     clear h0
     go_wp2_with fail
     go_ret
     exact ⟨rfl, (za HX2.out.1 HG506.out)⟩
   have d1 : ((mZ : Int) != 0) = false := by simp; omega
   have HM10 := hQ_ (HM1.out.trans h0)
   clear h0
   go_wp2_with fail
   clear d1
   rw [rounds_succ]
   obtain ⟨q220, hq220⟩ : ∃ q, w210.heap.size = q := ⟨_, rfl⟩
   obtain ⟨W220, hW220⟩ : ∃ W, (w210.alloc (.cells ZQ 29)).setRow q220 qv = W := ⟨_, rfl⟩
   have bn220 : Blk (w210.alloc (.cells ZQ 29)) q220 29 ZQ := by rw [<- hq220]; exact Blk.new w210 29 ZQ
   have b220 : Blk W220 q220 29 qv := by rw [<- hW220]; exact bn220.row _
   have g220 : w210.grownBy W220 none := by rw [<- hW220]; exact zc (gQ) (.inl (by rw [hq220]; exact Nat.le_refl _)) _
   have HP220 := hQ_ (aQ bn220 hW220)
   have HB220 := hQ_ b220
   have HL220 := hQ_ g220
   clear bn220 hW220 b220
   have HG507 := hQ_ (show w2.grownBy W220 none from za HG506.out g220)
   have HG507_wc := hQ_ (show wc.grownBy W220 none from za HG506_wc.out g220)
   have HG507_W8 := hQ_ (show W8.grownBy W220 none from za HG506_W8.out g220)
   clear g220
   go_upto_region 26 with (first
    | (refine wpList_store_row rfl 29 _ _ rfl (q220) qv rfl rfl 29 _ HP220.out.1 (HSQ.out.2.2) (HLQ.out.2.2) HOQ.out.2.2 ?_)
    | (refine wpList_load_mid rfl 29 _ rfl (gq) 38 rfl qv.toList _ (ze HQ3.out.2.2 HG506_W8.out) Tryz.underlying29 rfl (by rw [Array.length_toList]; exact HSQ.out.2.2) ?_; rw [Array.toArray_toList]))
   rw [HP220.out.2]
   clear hq220
   go_wp2_with (first
    | (refine wpList_load_mid rfl 43 _ rfl (w.heap.size) 0 rfl gv.toList _ (ze HX2.out.2.1 HG507.out) Tryz.underlying43 rfl (by rw [Array.length_toList]; exact HSO.out.2) ?_; rw [Array.toArray_toList])
    | (refine wpList_load_mid rfl 29 _ rfl (q220) 0 rfl qv.toList _ (zd HB220.out) Tryz.underlying29 rfl (by rw [Array.length_toList]; exact HSQ.out.2.2) ?_; rw [Array.toArray_toList]))
   refine (HQQ.out W220 (za HX2.out.1 HG507.out)).mono ?_
   rintro e' w220 ⟨rfl, g220⟩
   have HG508 := hQ_ (show w2.grownBy w220 none from za HG507.out g220)
   have HG508_wc := hQ_ (show wc.grownBy w220 none from za HG507_wc.out g220)
   have HG508_W8 := hQ_ (show W8.grownBy w220 none from za HG507_W8.out g220)
   clear g220
   by_cases h0 : mQ = 0
   rotate_left
   · have d1 : ((mQ : Int) != 0) = true := by simp; omega
     have hnn : N = mQ := by rw [<- HN.out]; unfold chkN certN; simp [HRV.out, HEQ0.out, HEQ1.out, HEQ2.out, HROW.out, HT1.out, HT2.out, HT3.out, HM00.out, HM10.out, HM2.out, h0]
     subst hnn
     clear h0
     go_wp2_with fail
     go_ret
     exact ⟨rfl, (za HX2.out.1 HG508.out)⟩
   have d1 : ((mQ : Int) != 0) = false := by simp; omega
   have HM20 := hQ_ (HM2.out.trans h0)
   clear h0
   go_wp2_with fail
   clear d1
   rw [rounds_succ]
   have c38 := (HG508_wc.out).cell (HPX.out wc p1 HE1.out (za HX2.out.1 HGC.out)).2.2 (by simp)
   go_wp2_with fail
   refine (HRX.out w220 (za HX2.out.1 HG508.out) (bkS_few HK0.out)).mono ?_
   rintro e' w9 ⟨rfl, g9⟩
   have HZ9 := hQ_ (za (za HX2.out.1 HG508.out) g9)
   clear g9 c38
   cases hr : rightS x.V with
   | false =>
    have hnn : N = 11 := by rw [<- HN.out]; unfold chkN certN; simp [HRV.out, HEQ0.out, HEQ1.out, HEQ2.out, HROW.out, HT1.out, HT2.out, HT3.out, HM00.out, HM10.out, HM20.out, hr]
    subst hnn
    clear hr
    go_wp2_with fail
    go_ret
    exact ⟨rfl, HZ9.out⟩
   | true =>
    have hnn : N = 0 := by rw [<- HN.out]; unfold chkN certN; simp [HRV.out, HEQ0.out, HEQ1.out, HEQ2.out, HROW.out, HT1.out, HT2.out, HT3.out, HM00.out, HM10.out, HM20.out, hr]
    subst hnn
    clear hr
    go_wp2_with fail
    go_ret
    exact ⟨rfl, HZ9.out⟩
end Go.Proofs.YtigafnbofmiknaaGreatDoor
