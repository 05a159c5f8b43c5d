/-
 epochs.row: the ids of three blocks, each the next one's parent, in rounds one behind the other.
-/
import Derived.BigQuiet
import Derived.Deep.QuietTactic
import Derived.Test.YtigafnbofmiknaaGreatDoorW20D
namespace Go.Proofs.YtigafnbofmiknaaGreatDoor
set_option maxRecDepth 100000
set_option maxHeartbeats 10000000
open Go.RowKit

attribute [local go_sem] Oper.semAt_some

theorem zam (w : World) (b o : Nat) (v : Value) (r : List Value) : w.setCells b o (v :: r) = (w.setCell ⟨b, o, none⟩ v).setCells b (o + 1) r := rfl
theorem lay_cons {α : Type} (cs : List α) (o : Nat) (v : α) (vs : List α) (h : o + (v :: vs).length <= cs.length) : (cs.set o v).take (o + 1) ++ vs ++ (cs.set o v).drop (o + 1 + vs.length) = cs.take o ++ (v :: vs) ++ cs.drop (o + (v :: vs).length) := by
 rw [List.length_cons] at h ⊢
 have e1 : (cs.set o v).take (o + 1) = cs.take o ++ [v] := by
  rw [List.take_add_one, List.take_set_of_le (Nat.le_refl _), List.getElem?_set_self (by omega)]; rfl
 rw [e1, List.drop_set_of_lt (by omega), show o + 1 + vs.length = o + (vs.length + 1) by omega]
 simp
theorem blk_setCells_e (b : Nat) (t : TypeId) : ∀ (vs : List Value) (o : Nat) (w : World) (cs : List Value), Blk w b t cs.toArray -> o + vs.length <= cs.length -> Blk (w.setCells b o vs) b t (cs.take o ++ vs ++ cs.drop (o + vs.length)).toArray
 | [], o, w, cs, h, hl => by simpa [World.setCells] using h
 | v :: vs, o, w, cs, h, hl => by
  rw [zam, <- lay_cons cs o v vs hl]
  refine blk_setCells_e b t vs (o + 1) _ _ ?_ (by rw [List.length_set]; rw [List.length_cons] at hl; omega)
  simpa using h.set o v
theorem grown_cells_e {w : World} (b : Nat) : ∀ (vs : List Value) (o : Nat) (w1 : World), w.grownBy w1 (some b) -> w.grownBy (w1.setCells b o vs) (some b)
 | [], _, _, h => h
 | v :: r, o, w1, h => by
  rw [zam]
  exact grown_cells_e b r (o + 1) _ (ye h (.inr rfl) v)
theorem zad {P : Program} (w : World) {t e : TypeId} {m n : Nat} {fs : Array Field} (ht : P.underlying t = some (.array n e)) (he : P.underlying e = some (.struct fs)) (hs : (P.info? e).map (·.size) = some m) (cs vs : Array Value) (I : Int) (k : Nat) (hI : I = (k : Int)) (hk : k < n) (hv : (cs.toList.drop (k * m)).take m = vs.toList) :
    Sem.run P (Instr.index t (.agg cs) (.int .i64 I)) w = .ok (.agg vs) w := by
 cases hq : P.info? e with
 | none => simp [hq] at hs
 | some i =>
  have hi : i.size = m := by simpa [hq] using hs
  have hb : 0 <= I /\ I < (n : Int) := by omega
  have hn : I.toNat = k := by omega
  have hv' : cs.extract (k * m) (k * m + m) = vs := by
   apply Array.toList_inj.1
   rw [<- hv, Array.toList_extract, List.extract_eq_take_drop, Nat.add_sub_cancel_left]
  simp [Instr.index, run_underlying ht, asIntOf, hb, hn, sizeOf, typeInfo, hq, hi, part, isAgg, run_underlying he, hv']
def rndN (i : Nat) (p r : Int) : Bool := decide (r < 1) || (decide (1099511627776 < r) || (decide (0 < i) && decide (r - 1 ≠ p)))
def rowN (x y z : Bk) : Nat :=
 if (bkS x).1 ≠ 0 then 16 else if (bkS y).1 ≠ 0 then 16 else if y.P ≠ idD x then 16 else if (bkS z).1 ≠ 0 then 16 else if z.P ≠ idD y then 16
 else if rndN 0 0 x.r = true then 14 else if rndN 1 x.r y.r = true then 14 else if rndN 2 y.r z.r = true then 14 else 0
def z48 : List Int := List.replicate 48 0
theorem z48run (w : World) : Sem.run Tryz.prog (zeroValue 64) w = .ok (.agg (arrV .u8 z48)) w := vu w (by kernel_rfl)
theorem sz_D3 : (Tryz.prog.info? 64).map (·.size) = some 48 := by kernel_rfl
theorem sz_B3 : (Tryz.prog.info? 33).map (·.size) = some 117 := by kernel_rfl
theorem zb_run : ∃ Z : Array Value, Z.size = 39 /\ ∀ w : World, Sem.run Tryz.prog (zeroValue 32) w = .ok (.agg Z) w := ⟨zBk, za5 0 (by rw [zD16, zf]; rfl), zex⟩
theorem vn {w : World} {b : Bk} (h : b.At w) : b.val.size = 39 := Bk.val_size h
theorem zae {w : World} {b : Bk} (h : b.At w) : (b.val.all fun v => v.oneCell') = true := by
 have h1 : ((arrV .u8 b.P).all fun v => v.oneCell') = true := zu _ _
 have h2 : ((arrV .u8 b.q.Bl).all fun v => v.oneCell') = true := zu _ _
 simp only [Bk.val, Qc.val, Array.all_append, h1, h2, Bool.true_and]
 simp [Value.oneCell']
theorem zbx {w : World} {b : Bk} {g : Nat} {t : TypeId} (hP : b.P.length = 16) (h : Blk w g t b.val) : w.cell? ⟨g, 1, none⟩ = some (.int .i64 b.r) /\ w.rangeAt g 2 (arrV .u8 b.P).toList := by
 have r := zd h
 have e1 : b.val.toList = [.int .i64 b.e, .int .i64 b.r] ++ ((arrV .u8 b.P).toList ++ (b.q.val.toList ++ [.slice b.A b.T.length b.c, .slice b.A2 b.V.length b.c2])) := by simp [Bk.val]
 rw [e1] at r
 exact ⟨by have := r 1 (.int .i64 b.r) rfl; simpa using this, by have := zx r; simpa using this⟩
theorem ze2 (a b d : List Int) {o : Nat} (ha : a.length = o) (hd : d.length = 16) (hb : 16 <= b.length) {w : World} {q : Nat} {t : TypeId} (h : Blk w q t (arrV .u8 (a ++ b))) : Blk (w.setCells q o (arrV .u8 d).toList) q t (arrV .u8 (a ++ (d ++ b.drop 16))) := by
 have h1 : Blk w q t (arrV .u8 (a ++ b)).toList.toArray := by rw [Array.toArray_toList]; exact h
 have := blk_setCells_e q t (arrV .u8 d).toList o w _ h1 (by simp [arrV]; omega)
 have e : (arrV .u8 (a ++ b)).toList.take o ++ (arrV .u8 d).toList ++ (arrV .u8 (a ++ b)).toList.drop (o + (arrV .u8 d).toList.length) = (arrV .u8 (a ++ (d ++ b.drop 16))).toList := by
  subst ha
  simp [arrV, hd, List.drop_append]
 rw [e, Array.toArray_toList] at this
 exact this
theorem zc0 (a b d : List Int) {o : Nat} (ha : a.length = o) {w : World} {q : Nat} {t : TypeId} (h : Blk w q t (arrV .u8 (a ++ (d ++ b)))) : w.rangeAt q o (arrV .u8 d).toList := by
 have r := zd h
 have e1 : (arrV .u8 (a ++ (d ++ b))).toList = (arrV .u8 a).toList ++ ((arrV .u8 d).toList ++ (arrV .u8 b).toList) := by simp [arrV]
 rw [e1] at r
 have := zx r
 subst ha
 simpa [arrV] using this
theorem z6 {w : World} {b q o : Nat} {cs : List Value} (h : w.rangeAt b o cs) (hne : b ≠ q) (v : Array Value) : (w.setRow q v).rangeAt b o cs := fun j u hu => (yb v).cell (h j u hu) hne
theorem ux {w : World} (b : Nat) (hb : w.heap.size <= b) : ∀ (vs : List Value) (o : Nat) (w1 : World), w.grownBy w1 none -> w.grownBy (w1.setCells b o vs) none
 | [], _, _, h => h
 | v :: r, o, w1, h => by
  rw [zam]
  exact ux b hb r (o + 1) _ (ye h (.inl hb) v)
theorem un {w : World} (b o : Nat) (vs : List Value) : Kept (fun j => j = b) w (w.setCells b o vs) := Kept.of_grown (grown_cells_e b vs o w (World.grownBy.refl w (some b))) (fun _ e => by injection e with e; exact e.symm)
theorem ze0 {i : Nat} {p r : Int} (h1 : ¬ r < 1) (h2 : ¬ 1099511627776 < r) (h3 : i = 0 \/ r - 1 = p) : rndN i p r = false := by
 have a1 : decide (r < 1) = false := by simpa using h1
 have a2 : decide (1099511627776 < r) = false := by simpa using h2
 unfold rndN
 rw [a1, a2]
 rcases h3 with rfl | h3
 · simp
 · simp [h3]
theorem zaw {i : Nat} {p r : Int} (h : r < 1 \/ 1099511627776 < r \/ (0 < i /\ r - 1 ≠ p)) : rndN i p r = true := by
 unfold rndN
 rcases h with h | h | ⟨h1, h2⟩
 · simp [h]
 · simp [h]
 · simp [h1, h2]
theorem zb0 {w : World} {g : Nat} {t : TypeId} {cs : Array Value} (h : Blk w g t cs) {o n : Nat} (hn : o + n <= cs.size) : w.there g o n := fun j hj => ⟨by
 rw [h.cell, Array.getElem?_eq_getElem (by omega)]
 rfl, h.frozen _⟩
theorem row_is (w : World) (E : Nat -> Addr) (hR : Rounds w) (he : ErrAt w w.heap.size 0 (E 0)) (ep er : Addr) (hep : ErrAt w w.heap.size 15 ep) (her : ErrAt w w.heap.size 13 er)
    (x y z : Bk) (hx : x.At w) (hy : y.At w) (hzz : z.At w) (rv : Array Value) (hrv : rv = x.val ++ (y.val ++ z.val)) :
    Calls Tryz.prog 20 #[.agg rv] w fun e w' => w.grownBy w' none /\ ∃ ids : Array Value, ids.size = 48 /\ (ids.all fun v => v.oneCell') = true /\ ((rowN x y z = 0 /\ ids = arrV .u8 (idD x ++ (idD y ++ idD z)) /\ e = .returned (.tuple #[.agg ids, .nilIface])) \/ (rowN x y z = 16 /\ e = .returned (.tuple #[.agg ids, errV ep])) \/ (rowN x y z = 14 /\ e = .returned (.tuple #[.agg ids, errV er]))) := by
 obtain ⟨ZB, hZBs, hzb⟩ := zb_run
 obtain ⟨Z, hZ⟩ : ∃ Z, zD16 = Z := ⟨_, rfl⟩
 have hz : ∀ w, Sem.run Tryz.prog (zeroValue 24) w = .ok (.agg Z) w := fun w => by rw [<- hZ]; exact z16run w
 have hZ16 : Z.size = 16 := by rw [<- hZ, zD16, zf]; rfl
 obtain ⟨c0, hc0⟩ : ∃ c, (arrV .u8 z48) = c := ⟨_, rfl⟩
 have h48 : ∀ w, Sem.run Tryz.prog (zeroValue 64) w = .ok (.agg c0) w := fun w => by rw [<- hc0]; exact z48run w
 obtain ⟨ia, hia⟩ : ∃ l, idD x = l := ⟨_, rfl⟩
 obtain ⟨ib, hib⟩ : ∃ l, idD y = l := ⟨_, rfl⟩
 obtain ⟨ic, hic⟩ : ∃ l, idD z = l := ⟨_, rfl⟩
 have la : ia.length = 16 := by rw [<- hia]; exact z7 x
 have lb : ib.length = 16 := by rw [<- hib]; exact z7 y
 have lc : ic.length = 16 := by rw [<- hic]; exact z7 z
 obtain ⟨c1, hc1⟩ : ∃ c, (arrV .u8 (ia ++ List.replicate 32 0)) = c := ⟨_, rfl⟩
 obtain ⟨c2, hc2⟩ : ∃ c, (arrV .u8 (ia ++ (ib ++ List.replicate 16 0))) = c := ⟨_, rfl⟩
 obtain ⟨c3, hc3⟩ : ∃ c, (arrV .u8 (ia ++ (ib ++ ic))) = c := ⟨_, rfl⟩
 obtain ⟨da, hda⟩ : ∃ c, arrV .u8 ia = c := ⟨_, rfl⟩
 obtain ⟨db, hdb⟩ : ∃ c, arrV .u8 ib = c := ⟨_, rfl⟩
 obtain ⟨dc, hdc⟩ : ∃ c, arrV .u8 ic = c := ⟨_, rfl⟩
 have s0 : c0.size = 48 := by rw [<- hc0, zf]; rfl
 have s1 : c1.size = 48 := by rw [<- hc1, zf]; simp [la]
 have s2 : c2.size = 48 := by rw [<- hc2, zf]; simp [la, lb]
 have s3 : c3.size = 48 := by rw [<- hc3, zf]; simp [la, lb, lc]
 have o0 : (c0.all fun v => v.oneCell') = true := by rw [<- hc0]; exact zu _ _
 have o1 : (c1.all fun v => v.oneCell') = true := by rw [<- hc1]; exact zu _ _
 have o2 : (c2.all fun v => v.oneCell') = true := by rw [<- hc2]; exact zu _ _
 have o3 : (c3.all fun v => v.oneCell') = true := by rw [<- hc3]; exact zu _ _
 have hda16 : da.size = 16 := by rw [<- hda, zf, la]
 have hdb16 : db.size = 16 := by rw [<- hdb, zf, lb]
 have hdc16 : dc.size = 16 := by rw [<- hdc, zf, lc]
 have hda1 : (da.all fun v => v.oneCell') = true := by rw [<- hda]; exact zu _ _
 have hdb1 : (db.all fun v => v.oneCell') = true := by rw [<- hdb]; exact zu _ _
 have hdc1 : (dc.all fun v => v.oneCell') = true := by rw [<- hdc]; exact zu _ _
 have P0 : ∀ (V : World) (q : Nat), Blk V q 64 c0 -> Blk (V.setCells q 0 da.toList) q 64 c1 /\ (V.setCells q 0 da.toList).rangeAt q 0 da.toList := fun V q h => by
  have h1 := ze2 [] z48 ia (o := 0) rfl la (by decide) (show Blk V q 64 (arrV .u8 ([] ++ z48)) by rw [List.nil_append, hc0]; exact h)
  rw [hda] at h1
  have e : arrV .u8 ([] ++ (ia ++ z48.drop 16)) = c1 := by rw [<- hc1]; rfl
  have h2 := zc0 [] (z48.drop 16) ia (o := 0) rfl h1
  rw [hda] at h2
  rw [e] at h1
  exact ⟨h1, h2⟩
 have P1 : ∀ (V : World) (q : Nat), Blk V q 64 c1 -> Blk (V.setCells q 16 db.toList) q 64 c2 /\ (V.setCells q 16 db.toList).rangeAt q 16 db.toList := fun V q h => by
  have h1 := ze2 ia (List.replicate 32 0) ib (o := 16) la lb (by decide) (by rw [hc1]; exact h)
  rw [hdb] at h1
  have e : arrV .u8 (ia ++ (ib ++ (List.replicate 32 (0 : Int)).drop 16)) = c2 := by rw [<- hc2]; rfl
  have h2 := zc0 ia ((List.replicate 32 (0 : Int)).drop 16) ib (o := 16) la h1
  rw [hdb] at h2
  rw [e] at h1
  exact ⟨h1, h2⟩
 have P2 : ∀ (V : World) (q : Nat), Blk V q 64 c2 -> Blk (V.setCells q 32 dc.toList) q 64 c3 /\ (V.setCells q 32 dc.toList).rangeAt q 32 dc.toList := fun V q h => by
  have h1 := ze2 (ia ++ ib) (List.replicate 16 0) ic (o := 32) (by simp [la, lb]) lc (by decide) (by rw [List.append_assoc, hc2]; exact h)
  rw [hdc] at h1
  have e : arrV .u8 ((ia ++ ib) ++ (ic ++ (List.replicate 16 (0 : Int)).drop 16)) = c3 := by rw [<- hc3, List.append_assoc]; simp
  have h2 := zc0 (ia ++ ib) ((List.replicate 16 (0 : Int)).drop 16) ic (o := 32) (by simp [la, lb]) h1
  rw [hdc] at h2
  rw [e] at h1
  exact ⟨h1, h2⟩
 obtain ⟨xv, hxv⟩ : ∃ v, x.val = v := ⟨_, rfl⟩
 obtain ⟨yv, hyv⟩ : ∃ v, y.val = v := ⟨_, rfl⟩
 obtain ⟨zv, hzv⟩ : ∃ v, z.val = v := ⟨_, rfl⟩
 have sx : xv.size = 39 := by rw [<- hxv]; exact vn hx
 have sy : yv.size = 39 := by rw [<- hyv]; exact vn hy
 have sz : zv.size = 39 := by rw [<- hzv]; exact vn hzz
 have ox : (xv.all fun v => v.oneCell') = true := by rw [<- hxv]; exact zae hx
 have oy : (yv.all fun v => v.oneCell') = true := by rw [<- hyv]; exact zae hy
 have oz : (zv.all fun v => v.oneCell') = true := by rw [<- hzv]; exact zae hzz
 rw [hxv, hyv, hzv] at hrv
 have srv : rv.size = 117 := by rw [hrv]; simp [sx, sy, sz]
 have ix0 : ∀ V, Sem.run Tryz.prog (Instr.index 33 (.agg rv) (.int .i64 0)) V = .ok (.agg xv) V := fun V => zad V Tryz.underlying33 Tryz.underlying32 sz_Bke rv xv 0 0 rfl (by omega) (by rw [hrv]; simp [sx])
 have ix1 : ∀ V, Sem.run Tryz.prog (Instr.index 33 (.agg rv) (.int .i64 1)) V = .ok (.agg yv) V := fun V => zad V Tryz.underlying33 Tryz.underlying32 sz_Bke rv yv 1 1 rfl (by omega) (by rw [hrv]; simp [sx, sy, List.drop_append, List.take_append])
 have ix2 : ∀ V, Sem.run Tryz.prog (Instr.index 33 (.agg rv) (.int .i64 2)) V = .ok (.agg zv) V := fun V => zad V Tryz.underlying33 Tryz.underlying32 sz_Bke rv zv 2 2 rfl (by omega) (by
  have e1 : xv.toList.drop 78 = [] := List.drop_eq_nil_of_le (by simp [sx])
  have e2 : zv.toList.take 39 = zv.toList := List.take_of_length_le (by simp [sz])
  rw [hrv]; simp [sx, sy, List.drop_append, e1, e2])
 obtain ⟨W1, hW1⟩ : ∃ W1, ((w.alloc (.cells rv 33)).alloc (.cells c0 64)).alloc (.cells c0 64) = W1 := ⟨_, rfl⟩
 have g1 : w.grownBy W1 none := by rw [<- hW1]; exact za (za (gQ) (gQ)) (gQ)
 have br : Blk W1 w.heap.size 33 rv := by rw [<- hW1]; exact ((Blk.new w _ _).alloc _).alloc _
 have b2 : Blk W1 (w.heap.size + 1) 64 c0 := by
  have := (Blk.new (w.alloc (.cells rv 33)) 64 c0).alloc (.cells c0 64)
  rw [<- hW1]; simpa using this
 have b4 : Blk W1 (w.heap.size + 2) 64 c0 := by
  have := Blk.new ((w.alloc (.cells rv 33)).alloc (.cells c0 64)) 64 c0
  rw [<- hW1]; simpa using this
 have hat : ∀ W : World, w.grownBy W none -> Rounds W /\ ErrAt W W.heap.size 0 (E 0) /\ x.At W /\ y.At W /\ z.At W := fun W hW =>
  ⟨hR.grown hW (by simp), ⟨hW.cell he.1 (by simp), by have := he.2; have := hW.size; omega⟩, hx.grown hW, hy.grown hW, hzz.grown hW⟩
 have I0 := hQ_ (fun (W : World) (hW : w.grownBy W none) => id_is W (hat W hW).1 (hat W hW).2.1 x (hat W hW).2.2.1 xv hxv.symm da (by rw [hia, hda]))
 have I1 := hQ_ (fun (W : World) (hW : w.grownBy W none) => id_is W (hat W hW).1 (hat W hW).2.1 y (hat W hW).2.2.2.1 yv hyv.symm db (by rw [hib, hdb]))
 have I2 := hQ_ (fun (W : World) (hW : w.grownBy W none) => id_is W (hat W hW).1 (hat W hW).2.1 z (hat W hW).2.2.2.2 zv hzv.symm dc (by rw [hic, hdc]))
 have szb : ∀ v : Array Value, v.size = 39 -> (Tryz.prog.info? 32).map (·.size) = some v.size := fun v h => by rw [h]; exact sz_Bke
 have szd : ∀ v : Array Value, v.size = 16 -> (Tryz.prog.info? 24).map (·.size) = some v.size := fun v h => by rw [h]; exact sz_Dg
 have sz3 : ∀ v : Array Value, v.size = 48 -> (Tryz.prog.info? 64).map (·.size) = some v.size := fun v h => by rw [h]; exact sz_D3
 have HSX := hQ_ (aQ (szb xv sx) (aQ (szb yv sy) (aQ (szb zv sz) (aQ ox (aQ oy (aQ oz (aQ (show ZB.size = xv.size by rw [sx, hZBs]) (aQ (show ZB.size = yv.size by rw [sy, hZBs]) (show ZB.size = zv.size by rw [sz, hZBs])))))))))
 have HSD := hQ_ (aQ (szd da hda16) (aQ (szd db hdb16) (aQ (szd dc hdc16) (aQ hda1 (aQ hdb1 (aQ hdc1 (aQ (show Z.size = da.size by rw [hda16, hZ16]) (aQ (show Z.size = db.size by rw [hdb16, hZ16]) (aQ (show Z.size = dc.size by rw [hdc16, hZ16]) (aQ hda16 (aQ hdb16 hdc16)))))))))))
 have HSC := hQ_ (aQ (aQ s0 (aQ s1 (aQ s2 s3))) (aQ (aQ o0 (aQ o1 (aQ o2 o3))) (aQ (sz3 c0 s0) (aQ (sz3 c1 s1) (aQ (sz3 c2 s2) (sz3 c3 s3))))))
 have HP := hQ_ (aQ P0 (aQ P1 P2))
 have HSX39 := hQ_ sx
 have HBL := hQ_ (aQ hxv (aQ hyv hzv))
 have HDG := hQ_ (aQ hx.1 (aQ hy.1 hzz.1))
 have HIDS := hQ_ (aQ hia (aQ hib (aQ hic (aQ la (aQ lb hc3)))))
 have HX := hQ_ (aQ g1 (aQ (zd br) (aQ b2 (aQ b4 br))))
 have HZR := hQ_ (show (Tryz.prog.info? 33).map (·.size) = some rv.size by rw [srv]; exact sz_B3)
 have HEP := hQ_ (fun (W : World) (hW : w.grownBy W none) => show W.cell? ⟨15, 0, none⟩ = some (errV ep) from hW.cell hep.1 (by simp))
 have HER := hQ_ (fun (W : World) (hW : w.grownBy W none) => show W.cell? ⟨13, 0, none⟩ = some (errV er) from hW.cell her.1 (by simp))
 have HGL := hQ_ (show (15 : Nat) < w.heap.size /\ (13 : Nat) < w.heap.size from ⟨World.block_lt_of_cell? w _ hep.1, World.block_lt_of_cell? w _ her.1⟩)
 have heq1 : ∀ V, Sem.run Tryz.prog (Op.equalIn 10000 24 (.agg (arrV .u8 y.P)) (.agg da)) V = .ok (decide (y.P = ia)) V := fun V => by rw [<- hda]; exact eqD V _ _ hy.1.1 la
 have heq2 : ∀ V, Sem.run Tryz.prog (Op.equalIn 10000 24 (.agg (arrV .u8 z.P)) (.agg db)) V = .ok (decide (z.P = ib)) V := fun V => by rw [<- hdb]; exact eqD V _ _ hzz.1.1 lb
 obtain ⟨py, hpy⟩ : ∃ v, arrV .u8 y.P = v := ⟨_, rfl⟩
 obtain ⟨pz, hpz⟩ : ∃ v, arrV .u8 z.P = v := ⟨_, rfl⟩
 rw [hpy] at heq1
 rw [hpz] at heq2
 obtain ⟨m1, hm1⟩ : ∃ b, decide (y.P = ia) = b := ⟨_, rfl⟩
 obtain ⟨m2, hm2⟩ : ∃ b, decide (z.P = ib) = b := ⟨_, rfl⟩
 rw [hm1] at heq1
 rw [hm2] at heq2
 have HPP := hQ_ (aQ hpy (aQ hpz (aQ (szd py (by rw [<- hpy, zf, hy.1.1])) (szd pz (by rw [<- hpz, zf, hzz.1.1])))))
 have HMM := hQ_ (aQ hm1 hm2)
 obtain ⟨rx, hrx⟩ : ∃ v, x.r = v := ⟨_, rfl⟩
 obtain ⟨ry, hry⟩ : ∃ v, y.r = v := ⟨_, rfl⟩
 obtain ⟨rz, hrz⟩ : ∃ v, z.r = v := ⟨_, rfl⟩
 have HRR := hQ_ (aQ hrx (aQ hry hrz))
 have HRN := hQ_ hrv
 have HW := hQ_ hW1
 clear hZBs hZ hZ16 hc0 hia hib hic la lb lc hc1 hc2 hc3 hda hdb hdc s0 s1 s2 s3 o0 o1 o2 o3 hda16 hdb16 hdc16 hda1 hdb1 hdc1 P0 P1 P2 hxv hyv hzv sx sy sz ox oy oz srv g1 br b2 b4 hat szb szd sz3 hm1 hm2 hpy hpz hrx hry hrz hrv hW1 hx hy hzz hR he hep her
 go_enter Tryz.func20, Tryz.ntmps20
 go_upto_region 2 with (fail)
 rw [HW.out]
 go_wp2_with (refine wpList_load_mid rfl 33 _ rfl (w.heap.size) 0 rfl rv.toList _ HX.out.2.1 Tryz.underlying33 rfl (by rw [Array.length_toList]; exact HZR.out) ?_; rw [Array.toArray_toList])
 refine wp_loop_rounds 4 ?_
 rw [rounds_succ]
 have HBS0 := hQ_ (show w.grownBy W1 none /\ Blk W1 w.heap.size 33 rv /\ Blk W1 (w.heap.size + 1) 64 c0 /\ Blk W1 (w.heap.size + 2) 64 c0 from ⟨HX.out.1, HX.out.2.2.2.2, HX.out.2.2.1, HX.out.2.2.2.1⟩)
 obtain ⟨q10, hq10⟩ : ∃ q, W1.heap.size = q := ⟨_, rfl⟩
 obtain ⟨W10, hW10⟩ : ∃ W, (W1.alloc (.cells ZB 32)).setRow q10 xv = W := ⟨_, rfl⟩
 have bn10 : Blk (W1.alloc (.cells ZB 32)) q10 32 ZB := by rw [<- hq10]; exact Blk.new W1 32 ZB
 have b10 : Blk W10 q10 32 xv := by rw [<- hW10]; exact bn10.row _
 have g10 : W1.grownBy W10 none := by rw [<- hW10]; exact zc (gQ) (.inl (by rw [hq10]; exact Nat.le_refl _)) _
 have HP10 := hQ_ (aQ bn10 hW10)
 have HB10 := hQ_ b10
 clear bn10 hW10 b10
 have HGg10 := hQ_ g10
 clear g10
 go_upto_region 5 with (refine wpList_store_row rfl 32 _ _ rfl (q10) xv rfl rfl 32 _ HP10.out.1 (HSX.out.1) (HSX.out.2.2.2.2.2.2.1) HSX.out.2.2.2.1 ?_)
 rw [HP10.out.2]
 clear hq10
 go_wp2_with (refine wpList_load_mid rfl 32 _ rfl (q10) 0 rfl xv.toList _ (zd HB10.out) Tryz.underlying32 rfl (by rw [Array.length_toList]; exact HSX.out.1) ?_; rw [Array.toArray_toList])
 refine (I0.out W10 (za HBS0.out.1 HGg10.out)).mono ?_
 rintro e w11 ⟨rfl, g11⟩
 have HGg11 := hQ_ g11
 clear g11
 obtain ⟨v0, hv0⟩ : ∃ v, evOf E (bkS x).1 = v := ⟨_, rfl⟩
 rw [hv0]
 have HV0 := hQ_ hv0
 clear hv0
 obtain ⟨q12, hq12⟩ : ∃ q, w11.heap.size = q := ⟨_, rfl⟩
 obtain ⟨W12, hW12⟩ : ∃ W, (w11.alloc (.cells Z 24)).setRow q12 da = W := ⟨_, rfl⟩
 have bn12 : Blk (w11.alloc (.cells Z 24)) q12 24 Z := by rw [<- hq12]; exact Blk.new w11 24 Z
 have b12 : Blk W12 q12 24 da := by rw [<- hW12]; exact bn12.row _
 have g12 : w11.grownBy W12 none := by rw [<- hW12]; exact zc (gQ) (.inl (by rw [hq12]; exact Nat.le_refl _)) _
 have HP12 := hQ_ (aQ bn12 hW12)
 have HB12 := hQ_ b12
 clear bn12 hW12 b12
 have HGg12 := hQ_ g12
 clear g12
 go_upto_region 6 with (refine wpList_store_row rfl 24 _ _ rfl (q12) da rfl rfl 24 _ HP12.out.1 (HSD.out.1) (HSD.out.2.2.2.2.2.2.1) HSD.out.2.2.2.1 ?_)
 rw [HP12.out.2]
 clear hq12
 have HPB := hQ_ (zbx (HDG.out.1).1 (show Blk W12 q10 32 x.val by rw [HBL.out.1]; exact HB10.out.grown (za HGg11.out HGg12.out) (by simp)))
 cases hb0 : (bkS x).1 with
 | succ kk =>
  obtain rfl : v0 = errV (E kk) := by rw [<- HV0.out, hb0]; rfl
  have HNE := hQ_ (show (bkS x).1 ≠ 0 by rw [hb0]; exact Nat.succ_ne_zero kk)
  clear hb0
  refine wp_region_quiet_lit (by kernel_rfl) (by kernel_rfl) ?_
  repeat (first
   | go_big_quiet_skip
   | (go_big_quiet_want; first
    | (go_big_quiet_op; go_big_quiet_on)))
  refine wpQuiet_nil ?_
  intro V9 hV9
  obtain ⟨n9, rfl⟩ := hV9
  obtain ⟨V, hV⟩ : ∃ V, W12.drewN n9 = V := ⟨_, rfl⟩
  have gV : W12.grownBy V none := by
   rw [<- hV]
   have g9 := World.grownBy.refl W12 none
   exact ⟨g9.os, g9.tape, g9.output, g9.size, g9.block⟩
  rw [hV]
  have HGV := hQ_ gV
  clear hV gV
  have HVF := hQ_ (aQ (HEP.out V (za HBS0.out.1 (za (za (za HGg10.out HGg11.out) HGg12.out) HGV.out))) (aQ (HBS0.out.2.2.1.grown (za (za (za HGg10.out HGg11.out) HGg12.out) HGV.out) (by simp)) (aQ (HBS0.out.2.2.2.grown (za (za (za HGg10.out HGg11.out) HGg12.out) HGV.out) (by simp)) (za HBS0.out.1 (za (za (za HGg10.out HGg11.out) HGg12.out) HGV.out)))))
  go_upto_region 7 with (fail)
  refine wp_region_held_drew (S := fun V => V.cell? ⟨15, 0, none⟩ = some (errV ep) /\ V.rangeAt (w.heap.size + 2) 0 c0.toList) (by kernel_rfl) ⟨HVF.out.1, zd HVF.out.2.2.1⟩ (fun hHeld => ?_)
  refine wpAnyH_take (i := 0) (oi := _) (v := .agg c0) rfl (by kernel_rfl) (by kernel_rfl) (by kernel_rfl) (fun _ _ _ h => h) (yieldsIf_load_mid (by rfl) _ _ rfl (w.heap.size + 2) 0 rfl c0.toList _ (fun V hSw => hSw.2) Tryz.underlying64 rfl (by rw [Array.length_toList]; exact HSC.out.2.2.1)) (by assumption) ?restz1_0
  try simp only [Act.put, List.getElem_toArray, List.getElem_cons_succ, List.getElem_cons_zero, List.setIfInBounds_toArray, List.set_cons_zero, List.set_cons_succ]
  refine wpAnyH_take (i := 1) (oi := _) (v := ?vz1_1) rfl (by kernel_rfl) (by kernel_rfl) (by kernel_rfl) (fun _ _ _ h => h) (Or.inl ⟨by rfl, ?hyz1_1⟩) (by assumption) ?restz1_1
  case hyz1_1 => (intro V hSw; obtain ⟨hSw1, hSw2⟩ := hSw; go_simp) <;> with_reducible rfl
  try simp only [Act.put, List.getElem_toArray, List.getElem_cons_succ, List.getElem_cons_zero, List.setIfInBounds_toArray, List.set_cons_zero, List.set_cons_succ]
  refine wpAnyH_ready (rs := [2]) (by kernel_rfl) (by simp) ?_
  refine (AllReadyH.cons (o := _) rfl (fun K9 hK => ?_) AllReadyH.nil)
  refine zk (by rfl) 64 _ _ rfl (w.heap.size + 1) 0 c0 rfl rfl (zw (show Blk V.drew (w.heap.size + 1) 64 c0 from HVF.out.2.1) (by have h1 := HSC.out.1.1; have h2 := HSC.out.1.1; omega)) HSC.out.2.2.1 HSC.out.2.1.1 ?_
  rw [zi (P := Tryz.prog) (ty := 64) (show Blk V.drew (w.heap.size + 1) 64 c0 from HVF.out.2.1) HSC.out.2.2.1 (by have h1 := HSC.out.1.1; have h2 := HSC.out.1.1; omega) HSC.out.2.1.1]
  refine hK.out _ _ ⟨(yb c0).cell (show V.drew.cell? ⟨15, 0, none⟩ = some (errV ep) from HVF.out.1) (show ¬ (15 : Nat) = w.heap.size + 1 by have := HGL.out.1; omega), z6 (show V.drew.rangeAt (w.heap.size + 2) 0 c0.toList from zd HVF.out.2.2.1) (by omega) _⟩ (fun hHeld => ?_)
  clear hK K9
  try simp only [Act.put, List.getElem_toArray, List.getElem_cons_succ, List.getElem_cons_zero, List.setIfInBounds_toArray, List.set_cons_zero, List.set_cons_succ]
  refine wpAnyH_take (i := 3) (oi := _) (v := ?vz1_3) rfl (by kernel_rfl) (by kernel_rfl) (by kernel_rfl) (fun _ _ _ h => h) (Or.inl ⟨by rfl, ?hyz1_3⟩) (by assumption) ?restz1_3
  case hyz1_3 => (intro V hSw; obtain ⟨hSw1, hSw2⟩ := hSw; go_simp) <;> with_reducible rfl
  try simp only [Act.put, List.getElem_toArray, List.getElem_cons_succ, List.getElem_cons_zero, List.setIfInBounds_toArray, List.set_cons_zero, List.set_cons_succ]
  refine wpAnyH_done (by kernel_rfl) ?_ _
  go_wp2_with fail
  refine bodyPost_ret (zr rfl _ _ _ ⟨w.heap.size + 1, 0, none⟩ (.agg c0) rfl (run_loadVar_row _ (w.heap.size + 1) 64 64 _ (0, 0) _ ((show Blk V.drew (w.heap.size + 1) 64 c0 from HVF.out.2.1).row _) Tryz.underlying64 rfl HSC.out.2.2.1)) rfl ?_
  exact ⟨zc (show w.grownBy V.drew none from zh HVF.out.2.2.2) (.inl (by omega)) _, c0, HSC.out.1.1, (by first | exact HSC.out.2.1.1 | simpa using HSC.out.2.1.1), .inr (.inl ⟨by unfold rowN; simp [HNE.out], rfl⟩)⟩
 | zero =>
  obtain rfl : v0 = .nilIface := by rw [<- HV0.out, hb0]; rfl
  have HN0 := hQ_ hb0
  clear hb0
  refine wp_region_quiet_lit (by kernel_rfl) (by kernel_rfl) ?_
  repeat (first
   | go_big_quiet_skip
   | (go_big_quiet_want; first
    | (go_big_quiet_op; go_big_quiet_on)))
  refine wpQuiet_nil ?_
  intro V9 hV9
  obtain ⟨n9, rfl⟩ := hV9
  obtain ⟨V, hV⟩ : ∃ V, W12.drewN n9 = V := ⟨_, rfl⟩
  have gV : W12.grownBy V none := by
   rw [<- hV]
   have g9 := World.grownBy.refl W12 none
   exact ⟨g9.os, g9.tape, g9.output, g9.size, g9.block⟩
  rw [hV]
  have HGV := hQ_ gV
  clear hV gV
  have HV4 := hQ_ (aQ (HBS0.out.2.2.2.grown (za (za (za HGg10.out HGg11.out) HGg12.out) HGV.out) (by simp)) (aQ (za HBS0.out.1 (za (za (za HGg10.out HGg11.out) HGg12.out) HGV.out)) (aQ (HBS0.out.2.1.grown (za (za (za HGg10.out HGg11.out) HGg12.out) HGV.out) (by simp)) (HBS0.out.2.2.1.grown (za (za (za HGg10.out HGg11.out) HGg12.out) HGV.out) (by simp)))))
  obtain ⟨B1, hB1⟩ : ∃ B, V.setCells (w.heap.size + 2) 0 da.toList = B := ⟨_, rfl⟩
  have HW8 := hQ_ hB1
  have HBS1 := hQ_ (show w.grownBy B1 none /\ Blk B1 w.heap.size 33 rv /\ Blk B1 (w.heap.size + 1) 64 c0 /\ Blk B1 (w.heap.size + 2) 64 c1 by
   rw [<- hB1]
   exact ⟨ux _ (by omega) _ _ _ HV4.out.2.1, HV4.out.2.2.1.kept (un _ _ _) (show ¬ w.heap.size = w.heap.size + 2 by omega), HV4.out.2.2.2.kept (un _ _ _) (show ¬ w.heap.size + 1 = w.heap.size + 2 by omega), (HP.out.1 V _ HV4.out.1).1⟩)
  have HRD1 := hQ_ (show B1.rangeAt (w.heap.size + 2) 0 da.toList by rw [<- hB1]; exact (HP.out.1 V _ HV4.out.1).2)
  clear hB1
  go_upto_region 9 with (first
   | (refine wpList_load_mid rfl 24 _ rfl (q12) 0 rfl da.toList _ (zd (HB12.out.grown HGV.out (by simp))) Tryz.underlying24 rfl (by rw [Array.length_toList]; exact HSD.out.1) ?_; rw [Array.toArray_toList])
   | (refine wpList_store_mid rfl 24 _ _ rfl (w.heap.size + 2) 0 da rfl rfl (zb0 HV4.out.1 (by rw [HSC.out.1.1, HSD.out.2.2.2.2.2.2.2.2.2.1]; omega)) HSD.out.1 HSD.out.2.2.2.1 ?_))
  rw [HW8.out]
  go_wp2_with fail
  rw [rounds_succ]
  obtain ⟨q20, hq20⟩ : ∃ q, B1.heap.size = q := ⟨_, rfl⟩
  obtain ⟨W20, hW20⟩ : ∃ W, (B1.alloc (.cells ZB 32)).setRow q20 yv = W := ⟨_, rfl⟩
  have bn20 : Blk (B1.alloc (.cells ZB 32)) q20 32 ZB := by rw [<- hq20]; exact Blk.new B1 32 ZB
  have b20 : Blk W20 q20 32 yv := by rw [<- hW20]; exact bn20.row _
  have g20 : B1.grownBy W20 none := by rw [<- hW20]; exact zc (gQ) (.inl (by rw [hq20]; exact Nat.le_refl _)) _
  have HP20 := hQ_ (aQ bn20 hW20)
  have HB20 := hQ_ b20
  clear bn20 hW20 b20
  have HGg20 := hQ_ g20
  clear g20
  go_upto_region 5 with (refine wpList_store_row rfl 32 _ _ rfl (q20) yv rfl rfl 32 _ HP20.out.1 (HSX.out.2.1) (HSX.out.2.2.2.2.2.2.2.1) HSX.out.2.2.2.2.1 ?_)
  rw [HP20.out.2]
  clear hq20
  go_wp2_with (refine wpList_load_mid rfl 32 _ rfl (q20) 0 rfl yv.toList _ (zd HB20.out) Tryz.underlying32 rfl (by rw [Array.length_toList]; exact HSX.out.2.1) ?_; rw [Array.toArray_toList])
  refine (I1.out W20 (za HBS1.out.1 HGg20.out)).mono ?_
  rintro e w21 ⟨rfl, g21⟩
  have HGg21 := hQ_ g21
  clear g21
  obtain ⟨v1, hv1⟩ : ∃ v, evOf E (bkS y).1 = v := ⟨_, rfl⟩
  rw [hv1]
  have HV1 := hQ_ hv1
  clear hv1
  obtain ⟨q22, hq22⟩ : ∃ q, w21.heap.size = q := ⟨_, rfl⟩
  obtain ⟨W22, hW22⟩ : ∃ W, (w21.alloc (.cells Z 24)).setRow q22 db = W := ⟨_, rfl⟩
  have bn22 : Blk (w21.alloc (.cells Z 24)) q22 24 Z := by rw [<- hq22]; exact Blk.new w21 24 Z
  have b22 : Blk W22 q22 24 db := by rw [<- hW22]; exact bn22.row _
  have g22 : w21.grownBy W22 none := by rw [<- hW22]; exact zc (gQ) (.inl (by rw [hq22]; exact Nat.le_refl _)) _
  have HP22 := hQ_ (aQ bn22 hW22)
  have HB22 := hQ_ b22
  clear bn22 hW22 b22
  have HGg22 := hQ_ g22
  clear g22
  go_upto_region 6 with (refine wpList_store_row rfl 24 _ _ rfl (q22) db rfl rfl 24 _ HP22.out.1 (HSD.out.2.1) (HSD.out.2.2.2.2.2.2.2.1) HSD.out.2.2.2.2.1 ?_)
  rw [HP22.out.2]
  clear hq22
  have HPB := hQ_ (zbx (HDG.out.2.1).1 (show Blk W22 q20 32 y.val by rw [HBL.out.2.1]; exact HB20.out.grown (za HGg21.out HGg22.out) (by simp)))
  cases hb1 : (bkS y).1 with
  | succ kk =>
   obtain rfl : v1 = errV (E kk) := by rw [<- HV1.out, hb1]; rfl
   have HNE := hQ_ (show (bkS y).1 ≠ 0 by rw [hb1]; exact Nat.succ_ne_zero kk)
   clear hb1
   refine wp_region_quiet_lit (by kernel_rfl) (by kernel_rfl) ?_
   repeat (first
    | go_big_quiet_skip
    | (go_big_quiet_want; first
     | (go_big_quiet_op; go_big_quiet_on)))
   refine wpQuiet_nil ?_
   intro V9 hV9
   obtain ⟨n9, rfl⟩ := hV9
   obtain ⟨V, hV⟩ : ∃ V, W22.drewN n9 = V := ⟨_, rfl⟩
   have gV : W22.grownBy V none := by
    rw [<- hV]
    have g9 := World.grownBy.refl W22 none
    exact ⟨g9.os, g9.tape, g9.output, g9.size, g9.block⟩
   rw [hV]
   have HGV := hQ_ gV
   clear hV gV
   have HVF := hQ_ (aQ (HEP.out V (za HBS1.out.1 (za (za (za HGg20.out HGg21.out) HGg22.out) HGV.out))) (aQ (HBS1.out.2.2.1.grown (za (za (za HGg20.out HGg21.out) HGg22.out) HGV.out) (by simp)) (aQ (HBS1.out.2.2.2.grown (za (za (za HGg20.out HGg21.out) HGg22.out) HGV.out) (by simp)) (za HBS1.out.1 (za (za (za HGg20.out HGg21.out) HGg22.out) HGV.out)))))
   go_upto_region 7 with (fail)
   refine wp_region_held_drew (S := fun V => V.cell? ⟨15, 0, none⟩ = some (errV ep) /\ V.rangeAt (w.heap.size + 2) 0 c1.toList) (by kernel_rfl) ⟨HVF.out.1, zd HVF.out.2.2.1⟩ (fun hHeld => ?_)
   refine wpAnyH_take (i := 0) (oi := _) (v := .agg c1) rfl (by kernel_rfl) (by kernel_rfl) (by kernel_rfl) (fun _ _ _ h => h) (yieldsIf_load_mid (by rfl) _ _ rfl (w.heap.size + 2) 0 rfl c1.toList _ (fun V hSw => hSw.2) Tryz.underlying64 rfl (by rw [Array.length_toList]; exact HSC.out.2.2.2.1)) (by assumption) ?restz2_0
   try simp only [Act.put, List.getElem_toArray, List.getElem_cons_succ, List.getElem_cons_zero, List.setIfInBounds_toArray, List.set_cons_zero, List.set_cons_succ]
   refine wpAnyH_take (i := 1) (oi := _) (v := ?vz2_1) rfl (by kernel_rfl) (by kernel_rfl) (by kernel_rfl) (fun _ _ _ h => h) (Or.inl ⟨by rfl, ?hyz2_1⟩) (by assumption) ?restz2_1
   case hyz2_1 => (intro V hSw; obtain ⟨hSw1, hSw2⟩ := hSw; go_simp) <;> with_reducible rfl
   try simp only [Act.put, List.getElem_toArray, List.getElem_cons_succ, List.getElem_cons_zero, List.setIfInBounds_toArray, List.set_cons_zero, List.set_cons_succ]
   refine wpAnyH_ready (rs := [2]) (by kernel_rfl) (by simp) ?_
   refine (AllReadyH.cons (o := _) rfl (fun K9 hK => ?_) AllReadyH.nil)
   refine zk (by rfl) 64 _ _ rfl (w.heap.size + 1) 0 c1 rfl rfl (zw (show Blk V.drew (w.heap.size + 1) 64 c0 from HVF.out.2.1) (by have h1 := HSC.out.1.2.1; have h2 := HSC.out.1.1; omega)) HSC.out.2.2.2.1 HSC.out.2.1.2.1 ?_
   rw [zi (P := Tryz.prog) (ty := 64) (show Blk V.drew (w.heap.size + 1) 64 c0 from HVF.out.2.1) HSC.out.2.2.2.1 (by have h1 := HSC.out.1.2.1; have h2 := HSC.out.1.1; omega) HSC.out.2.1.2.1]
   refine hK.out _ _ ⟨(yb c1).cell (show V.drew.cell? ⟨15, 0, none⟩ = some (errV ep) from HVF.out.1) (show ¬ (15 : Nat) = w.heap.size + 1 by have := HGL.out.1; omega), z6 (show V.drew.rangeAt (w.heap.size + 2) 0 c1.toList from zd HVF.out.2.2.1) (by omega) _⟩ (fun hHeld => ?_)
   clear hK K9
   try simp only [Act.put, List.getElem_toArray, List.getElem_cons_succ, List.getElem_cons_zero, List.setIfInBounds_toArray, List.set_cons_zero, List.set_cons_succ]
   refine wpAnyH_take (i := 3) (oi := _) (v := ?vz2_3) rfl (by kernel_rfl) (by kernel_rfl) (by kernel_rfl) (fun _ _ _ h => h) (Or.inl ⟨by rfl, ?hyz2_3⟩) (by assumption) ?restz2_3
   case hyz2_3 => (intro V hSw; obtain ⟨hSw1, hSw2⟩ := hSw; go_simp) <;> with_reducible rfl
   try simp only [Act.put, List.getElem_toArray, List.getElem_cons_succ, List.getElem_cons_zero, List.setIfInBounds_toArray, List.set_cons_zero, List.set_cons_succ]
   refine wpAnyH_done (by kernel_rfl) ?_ _
   go_wp2_with fail
   refine bodyPost_ret (zr rfl _ _ _ ⟨w.heap.size + 1, 0, none⟩ (.agg c1) rfl (run_loadVar_row _ (w.heap.size + 1) 64 64 _ (0, 0) _ ((show Blk V.drew (w.heap.size + 1) 64 c0 from HVF.out.2.1).row _) Tryz.underlying64 rfl HSC.out.2.2.2.1)) rfl ?_
   exact ⟨zc (show w.grownBy V.drew none from zh HVF.out.2.2.2) (.inl (by omega)) _, c1, HSC.out.1.2.1, (by first | exact HSC.out.2.1.2.1 | simpa using HSC.out.2.1.2.1), .inr (.inl ⟨by unfold rowN; simp [HN0.out, HNE.out], rfl⟩)⟩
  | zero =>
   obtain rfl : v1 = .nilIface := by rw [<- HV1.out, hb1]; rfl
   have HN1 := hQ_ hb1
   clear hb1
   have HRP := hQ_ (aQ (show W22.rangeAt q20 2 py.toList by rw [<- HPP.out.1]; exact HPB.out.2) (ze HRD1.out (za (za HGg20.out HGg21.out) HGg22.out)))
   cases m1 with
   | false =>
    have HM := hQ_ (show y.P ≠ idD x from by rw [HIDS.out.1]; exact of_decide_eq_false HMM.out.1)
    refine wp_region_quiet_lit (by kernel_rfl) (by kernel_rfl) ?_
    repeat (first
     | go_big_quiet_skip
     | (go_big_quiet_want; first
      | (refine yn 24 _ rfl (q20) 2 rfl py.toList _ (fun W hW => by obtain ⟨n9, rfl⟩ := hW; exact HRP.out.1) Tryz.underlying24 rfl (by rw [Array.length_toList]; exact HPP.out.2.2.1) ?_; try rw [Array.toArray_toList]; simp only [Act.put, List.setIfInBounds_toArray, List.set_cons_zero, List.set_cons_succ]; go_big_quiet_on)
      | (refine yn 24 _ rfl (w.heap.size + 2) 0 rfl da.toList _ (fun W hW => by obtain ⟨n9, rfl⟩ := hW; exact HRP.out.2) Tryz.underlying24 rfl (by rw [Array.length_toList]; exact HSD.out.1) ?_; try rw [Array.toArray_toList]; simp only [Act.put, List.setIfInBounds_toArray, List.set_cons_zero, List.set_cons_succ]; go_big_quiet_on)
      | (go_big_quiet_op; go_big_quiet_on)))
    refine wpQuiet_nil ?_
    intro V9 hV9
    obtain ⟨n9, rfl⟩ := hV9
    obtain ⟨V, hV⟩ : ∃ V, W22.drewN n9 = V := ⟨_, rfl⟩
    have gV : W22.grownBy V none := by
     rw [<- hV]
     have g9 := World.grownBy.refl W22 none
     exact ⟨g9.os, g9.tape, g9.output, g9.size, g9.block⟩
    rw [hV]
    have HGV := hQ_ gV
    clear hV gV
    have HVF := hQ_ (aQ (HEP.out V (za HBS1.out.1 (za (za (za HGg20.out HGg21.out) HGg22.out) HGV.out))) (aQ (HBS1.out.2.2.1.grown (za (za (za HGg20.out HGg21.out) HGg22.out) HGV.out) (by simp)) (aQ (HBS1.out.2.2.2.grown (za (za (za HGg20.out HGg21.out) HGg22.out) HGV.out) (by simp)) (za HBS1.out.1 (za (za (za HGg20.out HGg21.out) HGg22.out) HGV.out)))))
    go_upto_region 7 with (fail)
    refine wp_region_held_drew (S := fun V => V.cell? ⟨15, 0, none⟩ = some (errV ep) /\ V.rangeAt (w.heap.size + 2) 0 c1.toList) (by kernel_rfl) ⟨HVF.out.1, zd HVF.out.2.2.1⟩ (fun hHeld => ?_)
    refine wpAnyH_take (i := 0) (oi := _) (v := .agg c1) rfl (by kernel_rfl) (by kernel_rfl) (by kernel_rfl) (fun _ _ _ h => h) (yieldsIf_load_mid (by rfl) _ _ rfl (w.heap.size + 2) 0 rfl c1.toList _ (fun V hSw => hSw.2) Tryz.underlying64 rfl (by rw [Array.length_toList]; exact HSC.out.2.2.2.1)) (by assumption) ?restz3_0
    try simp only [Act.put, List.getElem_toArray, List.getElem_cons_succ, List.getElem_cons_zero, List.setIfInBounds_toArray, List.set_cons_zero, List.set_cons_succ]
    refine wpAnyH_take (i := 1) (oi := _) (v := ?vz3_1) rfl (by kernel_rfl) (by kernel_rfl) (by kernel_rfl) (fun _ _ _ h => h) (Or.inl ⟨by rfl, ?hyz3_1⟩) (by assumption) ?restz3_1
    case hyz3_1 => (intro V hSw; obtain ⟨hSw1, hSw2⟩ := hSw; go_simp) <;> with_reducible rfl
    try simp only [Act.put, List.getElem_toArray, List.getElem_cons_succ, List.getElem_cons_zero, List.setIfInBounds_toArray, List.set_cons_zero, List.set_cons_succ]
    refine wpAnyH_ready (rs := [2]) (by kernel_rfl) (by simp) ?_
    refine (AllReadyH.cons (o := _) rfl (fun K9 hK => ?_) AllReadyH.nil)
    refine zk (by rfl) 64 _ _ rfl (w.heap.size + 1) 0 c1 rfl rfl (zw (show Blk V.drew (w.heap.size + 1) 64 c0 from HVF.out.2.1) (by have h1 := HSC.out.1.2.1; have h2 := HSC.out.1.1; omega)) HSC.out.2.2.2.1 HSC.out.2.1.2.1 ?_
    rw [zi (P := Tryz.prog) (ty := 64) (show Blk V.drew (w.heap.size + 1) 64 c0 from HVF.out.2.1) HSC.out.2.2.2.1 (by have h1 := HSC.out.1.2.1; have h2 := HSC.out.1.1; omega) HSC.out.2.1.2.1]
    refine hK.out _ _ ⟨(yb c1).cell (show V.drew.cell? ⟨15, 0, none⟩ = some (errV ep) from HVF.out.1) (show ¬ (15 : Nat) = w.heap.size + 1 by have := HGL.out.1; omega), z6 (show V.drew.rangeAt (w.heap.size + 2) 0 c1.toList from zd HVF.out.2.2.1) (by omega) _⟩ (fun hHeld => ?_)
    clear hK K9
    try simp only [Act.put, List.getElem_toArray, List.getElem_cons_succ, List.getElem_cons_zero, List.setIfInBounds_toArray, List.set_cons_zero, List.set_cons_succ]
    refine wpAnyH_take (i := 3) (oi := _) (v := ?vz3_3) rfl (by kernel_rfl) (by kernel_rfl) (by kernel_rfl) (fun _ _ _ h => h) (Or.inl ⟨by rfl, ?hyz3_3⟩) (by assumption) ?restz3_3
    case hyz3_3 => (intro V hSw; obtain ⟨hSw1, hSw2⟩ := hSw; go_simp) <;> with_reducible rfl
    try simp only [Act.put, List.getElem_toArray, List.getElem_cons_succ, List.getElem_cons_zero, List.setIfInBounds_toArray, List.set_cons_zero, List.set_cons_succ]
    refine wpAnyH_done (by kernel_rfl) ?_ _
    go_wp2_with fail
    refine bodyPost_ret (zr rfl _ _ _ ⟨w.heap.size + 1, 0, none⟩ (.agg c1) rfl (run_loadVar_row _ (w.heap.size + 1) 64 64 _ (0, 0) _ ((show Blk V.drew (w.heap.size + 1) 64 c0 from HVF.out.2.1).row _) Tryz.underlying64 rfl HSC.out.2.2.2.1)) rfl ?_
    exact ⟨zc (show w.grownBy V.drew none from zh HVF.out.2.2.2) (.inl (by omega)) _, c1, HSC.out.1.2.1, (by first | exact HSC.out.2.1.2.1 | simpa using HSC.out.2.1.2.1), .inr (.inl ⟨by unfold rowN; simp [HN0.out, HN1.out, HM.out], rfl⟩)⟩
   | true =>
    have HT1 := hQ_ (show y.P = idD x from by rw [HIDS.out.1]; exact of_decide_eq_true HMM.out.1)
    refine wp_region_quiet_lit (by kernel_rfl) (by kernel_rfl) ?_
    repeat (first
     | go_big_quiet_skip
     | (go_big_quiet_want; first
      | (refine yn 24 _ rfl (q20) 2 rfl py.toList _ (fun W hW => by obtain ⟨n9, rfl⟩ := hW; exact HRP.out.1) Tryz.underlying24 rfl (by rw [Array.length_toList]; exact HPP.out.2.2.1) ?_; try rw [Array.toArray_toList]; simp only [Act.put, List.setIfInBounds_toArray, List.set_cons_zero, List.set_cons_succ]; go_big_quiet_on)
      | (refine yn 24 _ rfl (w.heap.size + 2) 0 rfl da.toList _ (fun W hW => by obtain ⟨n9, rfl⟩ := hW; exact HRP.out.2) Tryz.underlying24 rfl (by rw [Array.length_toList]; exact HSD.out.1) ?_; try rw [Array.toArray_toList]; simp only [Act.put, List.setIfInBounds_toArray, List.set_cons_zero, List.set_cons_succ]; go_big_quiet_on)
      | (go_big_quiet_op; go_big_quiet_on)))
    refine wpQuiet_nil ?_
    intro V9 hV9
    obtain ⟨n9, rfl⟩ := hV9
    obtain ⟨V, hV⟩ : ∃ V, W22.drewN n9 = V := ⟨_, rfl⟩
    have gV : W22.grownBy V none := by
     rw [<- hV]
     have g9 := World.grownBy.refl W22 none
     exact ⟨g9.os, g9.tape, g9.output, g9.size, g9.block⟩
    rw [hV]
    have HGV := hQ_ gV
    clear hV gV
    have HV4 := hQ_ (aQ (HBS1.out.2.2.2.grown (za (za (za HGg20.out HGg21.out) HGg22.out) HGV.out) (by simp)) (aQ (za HBS1.out.1 (za (za (za HGg20.out HGg21.out) HGg22.out) HGV.out)) (aQ (HBS1.out.2.1.grown (za (za (za HGg20.out HGg21.out) HGg22.out) HGV.out) (by simp)) (HBS1.out.2.2.1.grown (za (za (za HGg20.out HGg21.out) HGg22.out) HGV.out) (by simp)))))
    obtain ⟨B2, hB2⟩ : ∃ B, V.setCells (w.heap.size + 2) 16 db.toList = B := ⟨_, rfl⟩
    have HW8 := hQ_ hB2
    have HBS2 := hQ_ (show w.grownBy B2 none /\ Blk B2 w.heap.size 33 rv /\ Blk B2 (w.heap.size + 1) 64 c0 /\ Blk B2 (w.heap.size + 2) 64 c2 by
     rw [<- hB2]
     exact ⟨ux _ (by omega) _ _ _ HV4.out.2.1, HV4.out.2.2.1.kept (un _ _ _) (show ¬ w.heap.size = w.heap.size + 2 by omega), HV4.out.2.2.2.kept (un _ _ _) (show ¬ w.heap.size + 1 = w.heap.size + 2 by omega), (HP.out.2.1 V _ HV4.out.1).1⟩)
    have HRD2 := hQ_ (show B2.rangeAt (w.heap.size + 2) 16 db.toList by rw [<- hB2]; exact (HP.out.2.1 V _ HV4.out.1).2)
    clear hB2
    go_upto_region 9 with (first
     | (refine wpList_load_mid rfl 24 _ rfl (q22) 0 rfl db.toList _ (zd (HB22.out.grown HGV.out (by simp))) Tryz.underlying24 rfl (by rw [Array.length_toList]; exact HSD.out.2.1) ?_; rw [Array.toArray_toList])
     | (refine wpList_store_mid rfl 24 _ _ rfl (w.heap.size + 2) 16 db rfl rfl (zb0 HV4.out.1 (by rw [HSC.out.1.2.1, HSD.out.2.2.2.2.2.2.2.2.2.2.1]; omega)) HSD.out.2.1 HSD.out.2.2.2.2.1 ?_))
    rw [HW8.out]
    go_wp2_with fail
    rw [rounds_succ]
    obtain ⟨q30, hq30⟩ : ∃ q, B2.heap.size = q := ⟨_, rfl⟩
    obtain ⟨W30, hW30⟩ : ∃ W, (B2.alloc (.cells ZB 32)).setRow q30 zv = W := ⟨_, rfl⟩
    have bn30 : Blk (B2.alloc (.cells ZB 32)) q30 32 ZB := by rw [<- hq30]; exact Blk.new B2 32 ZB
    have b30 : Blk W30 q30 32 zv := by rw [<- hW30]; exact bn30.row _
    have g30 : B2.grownBy W30 none := by rw [<- hW30]; exact zc (gQ) (.inl (by rw [hq30]; exact Nat.le_refl _)) _
    have HP30 := hQ_ (aQ bn30 hW30)
    have HB30 := hQ_ b30
    clear bn30 hW30 b30
    have HGg30 := hQ_ g30
    clear g30
    go_upto_region 5 with (refine wpList_store_row rfl 32 _ _ rfl (q30) zv rfl rfl 32 _ HP30.out.1 (HSX.out.2.2.1) (HSX.out.2.2.2.2.2.2.2.2) HSX.out.2.2.2.2.2.1 ?_)
    rw [HP30.out.2]
    clear hq30
    go_wp2_with (refine wpList_load_mid rfl 32 _ rfl (q30) 0 rfl zv.toList _ (zd HB30.out) Tryz.underlying32 rfl (by rw [Array.length_toList]; exact HSX.out.2.2.1) ?_; rw [Array.toArray_toList])
    refine (I2.out W30 (za HBS2.out.1 HGg30.out)).mono ?_
    rintro e w31 ⟨rfl, g31⟩
    have HGg31 := hQ_ g31
    clear g31
    obtain ⟨v2, hv2⟩ : ∃ v, evOf E (bkS z).1 = v := ⟨_, rfl⟩
    rw [hv2]
    have HV2 := hQ_ hv2
    clear hv2
    obtain ⟨q32, hq32⟩ : ∃ q, w31.heap.size = q := ⟨_, rfl⟩
    obtain ⟨W32, hW32⟩ : ∃ W, (w31.alloc (.cells Z 24)).setRow q32 dc = W := ⟨_, rfl⟩
    have bn32 : Blk (w31.alloc (.cells Z 24)) q32 24 Z := by rw [<- hq32]; exact Blk.new w31 24 Z
    have b32 : Blk W32 q32 24 dc := by rw [<- hW32]; exact bn32.row _
    have g32 : w31.grownBy W32 none := by rw [<- hW32]; exact zc (gQ) (.inl (by rw [hq32]; exact Nat.le_refl _)) _
    have HP32 := hQ_ (aQ bn32 hW32)
    have HB32 := hQ_ b32
    clear bn32 hW32 b32
    have HGg32 := hQ_ g32
    clear g32
    go_upto_region 6 with (refine wpList_store_row rfl 24 _ _ rfl (q32) dc rfl rfl 24 _ HP32.out.1 (HSD.out.2.2.1) (HSD.out.2.2.2.2.2.2.2.2.1) HSD.out.2.2.2.2.2.1 ?_)
    rw [HP32.out.2]
    clear hq32
    have HPB := hQ_ (zbx (HDG.out.2.2).1 (show Blk W32 q30 32 z.val by rw [HBL.out.2.2]; exact HB30.out.grown (za HGg31.out HGg32.out) (by simp)))
    cases hb2 : (bkS z).1 with
    | succ kk =>
     obtain rfl : v2 = errV (E kk) := by rw [<- HV2.out, hb2]; rfl
     have HNE := hQ_ (show (bkS z).1 ≠ 0 by rw [hb2]; exact Nat.succ_ne_zero kk)
     clear hb2
     refine wp_region_quiet_lit (by kernel_rfl) (by kernel_rfl) ?_
     repeat (first
      | go_big_quiet_skip
      | (go_big_quiet_want; first
       | (go_big_quiet_op; go_big_quiet_on)))
     refine wpQuiet_nil ?_
     intro V9 hV9
     obtain ⟨n9, rfl⟩ := hV9
     obtain ⟨V, hV⟩ : ∃ V, W32.drewN n9 = V := ⟨_, rfl⟩
     have gV : W32.grownBy V none := by
      rw [<- hV]
      have g9 := World.grownBy.refl W32 none
      exact ⟨g9.os, g9.tape, g9.output, g9.size, g9.block⟩
     rw [hV]
     have HGV := hQ_ gV
     clear hV gV
     have HVF := hQ_ (aQ (HEP.out V (za HBS2.out.1 (za (za (za HGg30.out HGg31.out) HGg32.out) HGV.out))) (aQ (HBS2.out.2.2.1.grown (za (za (za HGg30.out HGg31.out) HGg32.out) HGV.out) (by simp)) (aQ (HBS2.out.2.2.2.grown (za (za (za HGg30.out HGg31.out) HGg32.out) HGV.out) (by simp)) (za HBS2.out.1 (za (za (za HGg30.out HGg31.out) HGg32.out) HGV.out)))))
     go_upto_region 7 with (fail)
     refine wp_region_held_drew (S := fun V => V.cell? ⟨15, 0, none⟩ = some (errV ep) /\ V.rangeAt (w.heap.size + 2) 0 c2.toList) (by kernel_rfl) ⟨HVF.out.1, zd HVF.out.2.2.1⟩ (fun hHeld => ?_)
     refine wpAnyH_take (i := 0) (oi := _) (v := .agg c2) rfl (by kernel_rfl) (by kernel_rfl) (by kernel_rfl) (fun _ _ _ h => h) (yieldsIf_load_mid (by rfl) _ _ rfl (w.heap.size + 2) 0 rfl c2.toList _ (fun V hSw => hSw.2) Tryz.underlying64 rfl (by rw [Array.length_toList]; exact HSC.out.2.2.2.2.1)) (by assumption) ?restz4_0
     try simp only [Act.put, List.getElem_toArray, List.getElem_cons_succ, List.getElem_cons_zero, List.setIfInBounds_toArray, List.set_cons_zero, List.set_cons_succ]
     refine wpAnyH_take (i := 1) (oi := _) (v := ?vz4_1) rfl (by kernel_rfl) (by kernel_rfl) (by kernel_rfl) (fun _ _ _ h => h) (Or.inl ⟨by rfl, ?hyz4_1⟩) (by assumption) ?restz4_1
     case hyz4_1 => (intro V hSw; obtain ⟨hSw1, hSw2⟩ := hSw; go_simp) <;> with_reducible rfl
     try simp only [Act.put, List.getElem_toArray, List.getElem_cons_succ, List.getElem_cons_zero, List.setIfInBounds_toArray, List.set_cons_zero, List.set_cons_succ]
     refine wpAnyH_ready (rs := [2]) (by kernel_rfl) (by simp) ?_
     refine (AllReadyH.cons (o := _) rfl (fun K9 hK => ?_) AllReadyH.nil)
     refine zk (by rfl) 64 _ _ rfl (w.heap.size + 1) 0 c2 rfl rfl (zw (show Blk V.drew (w.heap.size + 1) 64 c0 from HVF.out.2.1) (by have h1 := HSC.out.1.2.2.1; have h2 := HSC.out.1.1; omega)) HSC.out.2.2.2.2.1 HSC.out.2.1.2.2.1 ?_
     rw [zi (P := Tryz.prog) (ty := 64) (show Blk V.drew (w.heap.size + 1) 64 c0 from HVF.out.2.1) HSC.out.2.2.2.2.1 (by have h1 := HSC.out.1.2.2.1; have h2 := HSC.out.1.1; omega) HSC.out.2.1.2.2.1]
     refine hK.out _ _ ⟨(yb c2).cell (show V.drew.cell? ⟨15, 0, none⟩ = some (errV ep) from HVF.out.1) (show ¬ (15 : Nat) = w.heap.size + 1 by have := HGL.out.1; omega), z6 (show V.drew.rangeAt (w.heap.size + 2) 0 c2.toList from zd HVF.out.2.2.1) (by omega) _⟩ (fun hHeld => ?_)
     clear hK K9
     try simp only [Act.put, List.getElem_toArray, List.getElem_cons_succ, List.getElem_cons_zero, List.setIfInBounds_toArray, List.set_cons_zero, List.set_cons_succ]
     refine wpAnyH_take (i := 3) (oi := _) (v := ?vz4_3) rfl (by kernel_rfl) (by kernel_rfl) (by kernel_rfl) (fun _ _ _ h => h) (Or.inl ⟨by rfl, ?hyz4_3⟩) (by assumption) ?restz4_3
     case hyz4_3 => (intro V hSw; obtain ⟨hSw1, hSw2⟩ := hSw; go_simp) <;> with_reducible rfl
     try simp only [Act.put, List.getElem_toArray, List.getElem_cons_succ, List.getElem_cons_zero, List.setIfInBounds_toArray, List.set_cons_zero, List.set_cons_succ]
     refine wpAnyH_done (by kernel_rfl) ?_ _
     go_wp2_with fail
     refine bodyPost_ret (zr rfl _ _ _ ⟨w.heap.size + 1, 0, none⟩ (.agg c2) rfl (run_loadVar_row _ (w.heap.size + 1) 64 64 _ (0, 0) _ ((show Blk V.drew (w.heap.size + 1) 64 c0 from HVF.out.2.1).row _) Tryz.underlying64 rfl HSC.out.2.2.2.2.1)) rfl ?_
     exact ⟨zc (show w.grownBy V.drew none from zh HVF.out.2.2.2) (.inl (by omega)) _, c2, HSC.out.1.2.2.1, (by first | exact HSC.out.2.1.2.2.1 | simpa using HSC.out.2.1.2.2.1), .inr (.inl ⟨by unfold rowN; simp [HN0.out, HN1.out, HT1.out, HNE.out], rfl⟩)⟩
    | zero =>
     obtain rfl : v2 = .nilIface := by rw [<- HV2.out, hb2]; rfl
     have HN2 := hQ_ hb2
     clear hb2
     have HRP := hQ_ (aQ (show W32.rangeAt q30 2 pz.toList by rw [<- HPP.out.2.1]; exact HPB.out.2) (ze HRD2.out (za (za HGg30.out HGg31.out) HGg32.out)))
     cases m2 with
     | false =>
      have HM := hQ_ (show z.P ≠ idD y from by rw [HIDS.out.2.1]; exact of_decide_eq_false HMM.out.2)
      refine wp_region_quiet_lit (by kernel_rfl) (by kernel_rfl) ?_
      repeat (first
       | go_big_quiet_skip
       | (go_big_quiet_want; first
        | (refine yn 24 _ rfl (q30) 2 rfl pz.toList _ (fun W hW => by obtain ⟨n9, rfl⟩ := hW; exact HRP.out.1) Tryz.underlying24 rfl (by rw [Array.length_toList]; exact HPP.out.2.2.2) ?_; try rw [Array.toArray_toList]; simp only [Act.put, List.setIfInBounds_toArray, List.set_cons_zero, List.set_cons_succ]; go_big_quiet_on)
        | (refine yn 24 _ rfl (w.heap.size + 2) 16 rfl db.toList _ (fun W hW => by obtain ⟨n9, rfl⟩ := hW; exact HRP.out.2) Tryz.underlying24 rfl (by rw [Array.length_toList]; exact HSD.out.2.1) ?_; try rw [Array.toArray_toList]; simp only [Act.put, List.setIfInBounds_toArray, List.set_cons_zero, List.set_cons_succ]; go_big_quiet_on)
        | (go_big_quiet_op; go_big_quiet_on)))
      refine wpQuiet_nil ?_
      intro V9 hV9
      obtain ⟨n9, rfl⟩ := hV9
      obtain ⟨V, hV⟩ : ∃ V, W32.drewN n9 = V := ⟨_, rfl⟩
      have gV : W32.grownBy V none := by
       rw [<- hV]
       have g9 := World.grownBy.refl W32 none
       exact ⟨g9.os, g9.tape, g9.output, g9.size, g9.block⟩
      rw [hV]
      have HGV := hQ_ gV
      clear hV gV
      have HVF := hQ_ (aQ (HEP.out V (za HBS2.out.1 (za (za (za HGg30.out HGg31.out) HGg32.out) HGV.out))) (aQ (HBS2.out.2.2.1.grown (za (za (za HGg30.out HGg31.out) HGg32.out) HGV.out) (by simp)) (aQ (HBS2.out.2.2.2.grown (za (za (za HGg30.out HGg31.out) HGg32.out) HGV.out) (by simp)) (za HBS2.out.1 (za (za (za HGg30.out HGg31.out) HGg32.out) HGV.out)))))
      go_upto_region 7 with (fail)
      refine wp_region_held_drew (S := fun V => V.cell? ⟨15, 0, none⟩ = some (errV ep) /\ V.rangeAt (w.heap.size + 2) 0 c2.toList) (by kernel_rfl) ⟨HVF.out.1, zd HVF.out.2.2.1⟩ (fun hHeld => ?_)
      refine wpAnyH_take (i := 0) (oi := _) (v := .agg c2) rfl (by kernel_rfl) (by kernel_rfl) (by kernel_rfl) (fun _ _ _ h => h) (yieldsIf_load_mid (by rfl) _ _ rfl (w.heap.size + 2) 0 rfl c2.toList _ (fun V hSw => hSw.2) Tryz.underlying64 rfl (by rw [Array.length_toList]; exact HSC.out.2.2.2.2.1)) (by assumption) ?restz5_0
      try simp only [Act.put, List.getElem_toArray, List.getElem_cons_succ, List.getElem_cons_zero, List.setIfInBounds_toArray, List.set_cons_zero, List.set_cons_succ]
      refine wpAnyH_take (i := 1) (oi := _) (v := ?vz5_1) rfl (by kernel_rfl) (by kernel_rfl) (by kernel_rfl) (fun _ _ _ h => h) (Or.inl ⟨by rfl, ?hyz5_1⟩) (by assumption) ?restz5_1
      case hyz5_1 => (intro V hSw; obtain ⟨hSw1, hSw2⟩ := hSw; go_simp) <;> with_reducible rfl
      try simp only [Act.put, List.getElem_toArray, List.getElem_cons_succ, List.getElem_cons_zero, List.setIfInBounds_toArray, List.set_cons_zero, List.set_cons_succ]
      refine wpAnyH_ready (rs := [2]) (by kernel_rfl) (by simp) ?_
      refine (AllReadyH.cons (o := _) rfl (fun K9 hK => ?_) AllReadyH.nil)
      refine zk (by rfl) 64 _ _ rfl (w.heap.size + 1) 0 c2 rfl rfl (zw (show Blk V.drew (w.heap.size + 1) 64 c0 from HVF.out.2.1) (by have h1 := HSC.out.1.2.2.1; have h2 := HSC.out.1.1; omega)) HSC.out.2.2.2.2.1 HSC.out.2.1.2.2.1 ?_
      rw [zi (P := Tryz.prog) (ty := 64) (show Blk V.drew (w.heap.size + 1) 64 c0 from HVF.out.2.1) HSC.out.2.2.2.2.1 (by have h1 := HSC.out.1.2.2.1; have h2 := HSC.out.1.1; omega) HSC.out.2.1.2.2.1]
      refine hK.out _ _ ⟨(yb c2).cell (show V.drew.cell? ⟨15, 0, none⟩ = some (errV ep) from HVF.out.1) (show ¬ (15 : Nat) = w.heap.size + 1 by have := HGL.out.1; omega), z6 (show V.drew.rangeAt (w.heap.size + 2) 0 c2.toList from zd HVF.out.2.2.1) (by omega) _⟩ (fun hHeld => ?_)
      clear hK K9
      try simp only [Act.put, List.getElem_toArray, List.getElem_cons_succ, List.getElem_cons_zero, List.setIfInBounds_toArray, List.set_cons_zero, List.set_cons_succ]
      refine wpAnyH_take (i := 3) (oi := _) (v := ?vz5_3) rfl (by kernel_rfl) (by kernel_rfl) (by kernel_rfl) (fun _ _ _ h => h) (Or.inl ⟨by rfl, ?hyz5_3⟩) (by assumption) ?restz5_3
      case hyz5_3 => (intro V hSw; obtain ⟨hSw1, hSw2⟩ := hSw; go_simp) <;> with_reducible rfl
      try simp only [Act.put, List.getElem_toArray, List.getElem_cons_succ, List.getElem_cons_zero, List.setIfInBounds_toArray, List.set_cons_zero, List.set_cons_succ]
      refine wpAnyH_done (by kernel_rfl) ?_ _
      go_wp2_with fail
      refine bodyPost_ret (zr rfl _ _ _ ⟨w.heap.size + 1, 0, none⟩ (.agg c2) rfl (run_loadVar_row _ (w.heap.size + 1) 64 64 _ (0, 0) _ ((show Blk V.drew (w.heap.size + 1) 64 c0 from HVF.out.2.1).row _) Tryz.underlying64 rfl HSC.out.2.2.2.2.1)) rfl ?_
      exact ⟨zc (show w.grownBy V.drew none from zh HVF.out.2.2.2) (.inl (by omega)) _, c2, HSC.out.1.2.2.1, (by first | exact HSC.out.2.1.2.2.1 | simpa using HSC.out.2.1.2.2.1), .inr (.inl ⟨by unfold rowN; simp [HN0.out, HN1.out, HT1.out, HN2.out, HM.out], rfl⟩)⟩
     | true =>
      have HT2 := hQ_ (show z.P = idD y from by rw [HIDS.out.2.1]; exact of_decide_eq_true HMM.out.2)
      refine wp_region_quiet_lit (by kernel_rfl) (by kernel_rfl) ?_
      repeat (first
       | go_big_quiet_skip
       | (go_big_quiet_want; first
        | (refine yn 24 _ rfl (q30) 2 rfl pz.toList _ (fun W hW => by obtain ⟨n9, rfl⟩ := hW; exact HRP.out.1) Tryz.underlying24 rfl (by rw [Array.length_toList]; exact HPP.out.2.2.2) ?_; try rw [Array.toArray_toList]; simp only [Act.put, List.setIfInBounds_toArray, List.set_cons_zero, List.set_cons_succ]; go_big_quiet_on)
        | (refine yn 24 _ rfl (w.heap.size + 2) 16 rfl db.toList _ (fun W hW => by obtain ⟨n9, rfl⟩ := hW; exact HRP.out.2) Tryz.underlying24 rfl (by rw [Array.length_toList]; exact HSD.out.2.1) ?_; try rw [Array.toArray_toList]; simp only [Act.put, List.setIfInBounds_toArray, List.set_cons_zero, List.set_cons_succ]; go_big_quiet_on)
        | (go_big_quiet_op; go_big_quiet_on)))
      refine wpQuiet_nil ?_
      intro V9 hV9
      obtain ⟨n9, rfl⟩ := hV9
      obtain ⟨V, hV⟩ : ∃ V, W32.drewN n9 = V := ⟨_, rfl⟩
      have gV : W32.grownBy V none := by
       rw [<- hV]
       have g9 := World.grownBy.refl W32 none
       exact ⟨g9.os, g9.tape, g9.output, g9.size, g9.block⟩
      rw [hV]
      have HGV := hQ_ gV
      clear hV gV
      have HV4 := hQ_ (aQ (HBS2.out.2.2.2.grown (za (za (za HGg30.out HGg31.out) HGg32.out) HGV.out) (by simp)) (aQ (za HBS2.out.1 (za (za (za HGg30.out HGg31.out) HGg32.out) HGV.out)) (aQ (HBS2.out.2.1.grown (za (za (za HGg30.out HGg31.out) HGg32.out) HGV.out) (by simp)) (HBS2.out.2.2.1.grown (za (za (za HGg30.out HGg31.out) HGg32.out) HGV.out) (by simp)))))
      obtain ⟨B3, hB3⟩ : ∃ B, V.setCells (w.heap.size + 2) 32 dc.toList = B := ⟨_, rfl⟩
      have HW8 := hQ_ hB3
      have HBS3 := hQ_ (show w.grownBy B3 none /\ Blk B3 w.heap.size 33 rv /\ Blk B3 (w.heap.size + 1) 64 c0 /\ Blk B3 (w.heap.size + 2) 64 c3 by
       rw [<- hB3]
       exact ⟨ux _ (by omega) _ _ _ HV4.out.2.1, HV4.out.2.2.1.kept (un _ _ _) (show ¬ w.heap.size = w.heap.size + 2 by omega), HV4.out.2.2.2.kept (un _ _ _) (show ¬ w.heap.size + 1 = w.heap.size + 2 by omega), (HP.out.2.2 V _ HV4.out.1).1⟩)
      have HRD3 := hQ_ (show B3.rangeAt (w.heap.size + 2) 32 dc.toList by rw [<- hB3]; exact (HP.out.2.2 V _ HV4.out.1).2)
      clear hB3
      go_upto_region 9 with (first
       | (refine wpList_load_mid rfl 24 _ rfl (q32) 0 rfl dc.toList _ (zd (HB32.out.grown HGV.out (by simp))) Tryz.underlying24 rfl (by rw [Array.length_toList]; exact HSD.out.2.2.1) ?_; rw [Array.toArray_toList])
       | (refine wpList_store_mid rfl 24 _ _ rfl (w.heap.size + 2) 32 dc rfl rfl (zb0 HV4.out.1 (by rw [HSC.out.1.2.2.1, HSD.out.2.2.2.2.2.2.2.2.2.2.2]; omega)) HSD.out.2.2.1 HSD.out.2.2.2.2.2.1 ?_))
      rw [HW8.out]
      go_wp2_with fail
      rw [rounds_succ]
      go_wp2_with (refine wpList_load_mid rfl 33 _ rfl (w.heap.size) 0 rfl rv.toList _ (zd HBS3.out.2.1) Tryz.underlying33 rfl (by rw [Array.length_toList]; exact HZR.out) ?_; rw [Array.toArray_toList])
      refine wp_loop_rounds 4 ?_
      rw [rounds_succ]
      have PRV0 : rv.toList[1]? = some (.int .i64 rx) := by
       rw [HRN.out, <- HBL.out.1, <- HRR.out.1]
       simp [Bk.val]
      have PRV1 : rv.toList[40]? = some (.int .i64 ry) := by
       have h39 : xv.size = 39 := HSX39.out
       have e : rv.toList = xv.toList ++ (y.val.toList ++ zv.toList) := by rw [HRN.out, <- HBL.out.2.1]; simp
       rw [e, List.getElem?_append_right (by simp [h39]), <- HRR.out.2.1]
       simp [h39, Bk.val]
      obtain ⟨q40, hq40⟩ : ∃ q, B3.heap.size = q := ⟨_, rfl⟩
      obtain ⟨W40, hW40⟩ : ∃ W, (B3.alloc (.cells ZB 32)).setRow q40 xv = W := ⟨_, rfl⟩
      have bn40 : Blk (B3.alloc (.cells ZB 32)) q40 32 ZB := by rw [<- hq40]; exact Blk.new B3 32 ZB
      have b40 : Blk W40 q40 32 xv := by rw [<- hW40]; exact bn40.row _
      have g40 : B3.grownBy W40 none := by rw [<- hW40]; exact zc (gQ) (.inl (by rw [hq40]; exact Nat.le_refl _)) _
      have HP40 := hQ_ (aQ bn40 hW40)
      have HB40 := hQ_ b40
      clear bn40 hW40 b40
      have HGg40 := hQ_ g40
      clear g40
      go_upto_region 13 with (refine wpList_store_row rfl 32 _ _ rfl (q40) xv rfl rfl 32 _ HP40.out.1 (HSX.out.1) (HSX.out.2.2.2.2.2.2.1) HSX.out.2.2.2.1 ?_)
      rw [HP40.out.2]
      clear hq40
      try simp only [Act.put, List.getElem_toArray, List.getElem_cons_succ, List.getElem_cons_zero, List.setIfInBounds_toArray, List.set_cons_zero, List.set_cons_succ]
      have cr : W40.cell? ⟨q40, 1, none⟩ = some (.int .i64 rx) := by
       have := (zbx (HDG.out.1).1 (show Blk W40 q40 32 x.val by rw [HBL.out.1]; exact HB40.out)).1
       rwa [HRR.out.1] at this
      by_cases h1 : rx < 1
      · have a1 : decide (rx < 1) = true := by simpa using h1
        have HZ0 := hQ_ (show rndN 0 0 x.r = true from zaw (.inl (by rw [HRR.out.1]; exact h1)))
        refine wp_region_quiet_lit (by kernel_rfl) (by kernel_rfl) ?_
        repeat (first
         | go_big_quiet_skip
         | (go_big_quiet_want; first
          | (go_big_quiet_op; go_big_quiet_on)))
        refine wpQuiet_nil ?_
        intro V9 hV9
        obtain ⟨n9, rfl⟩ := hV9
        obtain ⟨V, hV⟩ : ∃ V, W40.drewN n9 = V := ⟨_, rfl⟩
        have gV : W40.grownBy V none := by
         rw [<- hV]
         have g9 := World.grownBy.refl W40 none
         exact ⟨g9.os, g9.tape, g9.output, g9.size, g9.block⟩
        rw [hV]
        have HGV := hQ_ gV
        clear hV gV
        have HVF := hQ_ (aQ (HER.out V (za HBS3.out.1 (za HGg40.out HGV.out))) (aQ (HBS3.out.2.2.1.grown (za HGg40.out HGV.out) (by simp)) (aQ (HBS3.out.2.2.2.grown (za HGg40.out HGV.out) (by simp)) (za HBS3.out.1 (za HGg40.out HGV.out)))))
        go_upto_region 14 with (fail)
        refine wp_region_held_drew (S := fun V => V.cell? ⟨13, 0, none⟩ = some (errV er) /\ V.rangeAt (w.heap.size + 2) 0 c3.toList) (by kernel_rfl) ⟨HVF.out.1, zd HVF.out.2.2.1⟩ (fun hHeld => ?_)
        refine wpAnyH_take (i := 0) (oi := _) (v := .agg c3) rfl (by kernel_rfl) (by kernel_rfl) (by kernel_rfl) (fun _ _ _ h => h) (yieldsIf_load_mid (by rfl) _ _ rfl (w.heap.size + 2) 0 rfl c3.toList _ (fun V hSw => hSw.2) Tryz.underlying64 rfl (by rw [Array.length_toList]; exact HSC.out.2.2.2.2.2)) (by assumption) ?restz6_0
        try simp only [Act.put, List.getElem_toArray, List.getElem_cons_succ, List.getElem_cons_zero, List.setIfInBounds_toArray, List.set_cons_zero, List.set_cons_succ]
        refine wpAnyH_take (i := 1) (oi := _) (v := ?vz6_1) rfl (by kernel_rfl) (by kernel_rfl) (by kernel_rfl) (fun _ _ _ h => h) (Or.inl ⟨by rfl, ?hyz6_1⟩) (by assumption) ?restz6_1
        case hyz6_1 => (intro V hSw; obtain ⟨hSw1, hSw2⟩ := hSw; go_simp) <;> with_reducible rfl
        try simp only [Act.put, List.getElem_toArray, List.getElem_cons_succ, List.getElem_cons_zero, List.setIfInBounds_toArray, List.set_cons_zero, List.set_cons_succ]
        refine wpAnyH_ready (rs := [2]) (by kernel_rfl) (by simp) ?_
        refine (AllReadyH.cons (o := _) rfl (fun K9 hK => ?_) AllReadyH.nil)
        refine zk (by rfl) 64 _ _ rfl (w.heap.size + 1) 0 c3 rfl rfl (zw (show Blk V.drew (w.heap.size + 1) 64 c0 from HVF.out.2.1) (by have h1 := HSC.out.1.2.2.2; have h2 := HSC.out.1.1; omega)) HSC.out.2.2.2.2.2 HSC.out.2.1.2.2.2 ?_
        rw [zi (P := Tryz.prog) (ty := 64) (show Blk V.drew (w.heap.size + 1) 64 c0 from HVF.out.2.1) HSC.out.2.2.2.2.2 (by have h1 := HSC.out.1.2.2.2; have h2 := HSC.out.1.1; omega) HSC.out.2.1.2.2.2]
        refine hK.out _ _ ⟨(yb c3).cell (show V.drew.cell? ⟨13, 0, none⟩ = some (errV er) from HVF.out.1) (show ¬ (13 : Nat) = w.heap.size + 1 by have := HGL.out.2; omega), z6 (show V.drew.rangeAt (w.heap.size + 2) 0 c3.toList from zd HVF.out.2.2.1) (by omega) _⟩ (fun hHeld => ?_)
        clear hK K9
        try simp only [Act.put, List.getElem_toArray, List.getElem_cons_succ, List.getElem_cons_zero, List.setIfInBounds_toArray, List.set_cons_zero, List.set_cons_succ]
        refine wpAnyH_take (i := 3) (oi := _) (v := ?vz6_3) rfl (by kernel_rfl) (by kernel_rfl) (by kernel_rfl) (fun _ _ _ h => h) (Or.inl ⟨by rfl, ?hyz6_3⟩) (by assumption) ?restz6_3
        case hyz6_3 => (intro V hSw; obtain ⟨hSw1, hSw2⟩ := hSw; go_simp) <;> with_reducible rfl
        try simp only [Act.put, List.getElem_toArray, List.getElem_cons_succ, List.getElem_cons_zero, List.setIfInBounds_toArray, List.set_cons_zero, List.set_cons_succ]
        refine wpAnyH_done (by kernel_rfl) ?_ _
        go_wp2_with fail
        refine bodyPost_ret (zr rfl _ _ _ ⟨w.heap.size + 1, 0, none⟩ (.agg c3) rfl (run_loadVar_row _ (w.heap.size + 1) 64 64 _ (0, 0) _ ((show Blk V.drew (w.heap.size + 1) 64 c0 from HVF.out.2.1).row _) Tryz.underlying64 rfl HSC.out.2.2.2.2.2)) rfl ?_
        exact ⟨zc (show w.grownBy V.drew none from zh HVF.out.2.2.2) (.inl (by omega)) _, c3, HSC.out.1.2.2.2, (by first | exact HSC.out.2.1.2.2.2 | simpa using HSC.out.2.1.2.2.2), .inr (.inr ⟨by unfold rowN; simp [HN0.out, HN1.out, HT1.out, HN2.out, HT2.out, HZ0.out], rfl⟩)⟩
      have a1 : decide (rx < 1) = false := by simpa using h1
      by_cases h2 : 1099511627776 < rx
      · have a2 : decide (1099511627776 < rx) = true := by simpa using h2
        have HZ0 := hQ_ (show rndN 0 0 x.r = true from zaw (.inr (.inl (by rw [HRR.out.1]; exact h2))))
        refine wp_region_quiet_lit (by kernel_rfl) (by kernel_rfl) ?_
        repeat (first
         | go_big_quiet_skip
         | (go_big_quiet_want; first
          | (go_big_quiet_op; go_big_quiet_on)))
        refine wpQuiet_nil ?_
        intro V9 hV9
        obtain ⟨n9, rfl⟩ := hV9
        obtain ⟨V, hV⟩ : ∃ V, W40.drewN n9 = V := ⟨_, rfl⟩
        have gV : W40.grownBy V none := by
         rw [<- hV]
         have g9 := World.grownBy.refl W40 none
         exact ⟨g9.os, g9.tape, g9.output, g9.size, g9.block⟩
        rw [hV]
        have HGV := hQ_ gV
        clear hV gV
        have HVF := hQ_ (aQ (HER.out V (za HBS3.out.1 (za HGg40.out HGV.out))) (aQ (HBS3.out.2.2.1.grown (za HGg40.out HGV.out) (by simp)) (aQ (HBS3.out.2.2.2.grown (za HGg40.out HGV.out) (by simp)) (za HBS3.out.1 (za HGg40.out HGV.out)))))
        go_upto_region 14 with (fail)
        refine wp_region_held_drew (S := fun V => V.cell? ⟨13, 0, none⟩ = some (errV er) /\ V.rangeAt (w.heap.size + 2) 0 c3.toList) (by kernel_rfl) ⟨HVF.out.1, zd HVF.out.2.2.1⟩ (fun hHeld => ?_)
        refine wpAnyH_take (i := 0) (oi := _) (v := .agg c3) rfl (by kernel_rfl) (by kernel_rfl) (by kernel_rfl) (fun _ _ _ h => h) (yieldsIf_load_mid (by rfl) _ _ rfl (w.heap.size + 2) 0 rfl c3.toList _ (fun V hSw => hSw.2) Tryz.underlying64 rfl (by rw [Array.length_toList]; exact HSC.out.2.2.2.2.2)) (by assumption) ?restz7_0
        try simp only [Act.put, List.getElem_toArray, List.getElem_cons_succ, List.getElem_cons_zero, List.setIfInBounds_toArray, List.set_cons_zero, List.set_cons_succ]
        refine wpAnyH_take (i := 1) (oi := _) (v := ?vz7_1) rfl (by kernel_rfl) (by kernel_rfl) (by kernel_rfl) (fun _ _ _ h => h) (Or.inl ⟨by rfl, ?hyz7_1⟩) (by assumption) ?restz7_1
        case hyz7_1 => (intro V hSw; obtain ⟨hSw1, hSw2⟩ := hSw; go_simp) <;> with_reducible rfl
        try simp only [Act.put, List.getElem_toArray, List.getElem_cons_succ, List.getElem_cons_zero, List.setIfInBounds_toArray, List.set_cons_zero, List.set_cons_succ]
        refine wpAnyH_ready (rs := [2]) (by kernel_rfl) (by simp) ?_
        refine (AllReadyH.cons (o := _) rfl (fun K9 hK => ?_) AllReadyH.nil)
        refine zk (by rfl) 64 _ _ rfl (w.heap.size + 1) 0 c3 rfl rfl (zw (show Blk V.drew (w.heap.size + 1) 64 c0 from HVF.out.2.1) (by have h1 := HSC.out.1.2.2.2; have h2 := HSC.out.1.1; omega)) HSC.out.2.2.2.2.2 HSC.out.2.1.2.2.2 ?_
        rw [zi (P := Tryz.prog) (ty := 64) (show Blk V.drew (w.heap.size + 1) 64 c0 from HVF.out.2.1) HSC.out.2.2.2.2.2 (by have h1 := HSC.out.1.2.2.2; have h2 := HSC.out.1.1; omega) HSC.out.2.1.2.2.2]
        refine hK.out _ _ ⟨(yb c3).cell (show V.drew.cell? ⟨13, 0, none⟩ = some (errV er) from HVF.out.1) (show ¬ (13 : Nat) = w.heap.size + 1 by have := HGL.out.2; omega), z6 (show V.drew.rangeAt (w.heap.size + 2) 0 c3.toList from zd HVF.out.2.2.1) (by omega) _⟩ (fun hHeld => ?_)
        clear hK K9
        try simp only [Act.put, List.getElem_toArray, List.getElem_cons_succ, List.getElem_cons_zero, List.setIfInBounds_toArray, List.set_cons_zero, List.set_cons_succ]
        refine wpAnyH_take (i := 3) (oi := _) (v := ?vz7_3) rfl (by kernel_rfl) (by kernel_rfl) (by kernel_rfl) (fun _ _ _ h => h) (Or.inl ⟨by rfl, ?hyz7_3⟩) (by assumption) ?restz7_3
        case hyz7_3 => (intro V hSw; obtain ⟨hSw1, hSw2⟩ := hSw; go_simp) <;> with_reducible rfl
        try simp only [Act.put, List.getElem_toArray, List.getElem_cons_succ, List.getElem_cons_zero, List.setIfInBounds_toArray, List.set_cons_zero, List.set_cons_succ]
        refine wpAnyH_done (by kernel_rfl) ?_ _
        go_wp2_with fail
        refine bodyPost_ret (zr rfl _ _ _ ⟨w.heap.size + 1, 0, none⟩ (.agg c3) rfl (run_loadVar_row _ (w.heap.size + 1) 64 64 _ (0, 0) _ ((show Blk V.drew (w.heap.size + 1) 64 c0 from HVF.out.2.1).row _) Tryz.underlying64 rfl HSC.out.2.2.2.2.2)) rfl ?_
        exact ⟨zc (show w.grownBy V.drew none from zh HVF.out.2.2.2) (.inl (by omega)) _, c3, HSC.out.1.2.2.2, (by first | exact HSC.out.2.1.2.2.2 | simpa using HSC.out.2.1.2.2.2), .inr (.inr ⟨by unfold rowN; simp [HN0.out, HN1.out, HT1.out, HN2.out, HT2.out, HZ0.out], rfl⟩)⟩
      have a2 : decide (1099511627776 < rx) = false := by simpa using h2
      have HY0 := hQ_ (show rndN 0 0 x.r = false from ze0 (by rw [HRR.out.1]; exact h1) (by rw [HRR.out.1]; exact h2) (.inl rfl))
      clear h1 h2
      refine wp_region_quiet_lit (by kernel_rfl) (by kernel_rfl) ?_
      repeat (first
       | go_big_quiet_skip
       | (go_big_quiet_want; first
        | (go_big_quiet_op; go_big_quiet_on)))
      refine wpQuiet_nil ?_
      intro V9 hV9
      obtain ⟨n9, rfl⟩ := hV9
      obtain ⟨X0, hV⟩ : ∃ X0, W40.drewN n9 = X0 := ⟨_, rfl⟩
      have gV : W40.grownBy X0 none := by
       rw [<- hV]
       have g9 := World.grownBy.refl W40 none
       exact ⟨g9.os, g9.tape, g9.output, g9.size, g9.block⟩
      rw [hV]
      have HGX0 := hQ_ gV
      clear hV gV
      clear a1 a2 cr
      go_wp2_with fail
      rw [rounds_succ]
      obtain ⟨q50, hq50⟩ : ∃ q, X0.heap.size = q := ⟨_, rfl⟩
      obtain ⟨W50, hW50⟩ : ∃ W, (X0.alloc (.cells ZB 32)).setRow q50 yv = W := ⟨_, rfl⟩
      have bn50 : Blk (X0.alloc (.cells ZB 32)) q50 32 ZB := by rw [<- hq50]; exact Blk.new X0 32 ZB
      have b50 : Blk W50 q50 32 yv := by rw [<- hW50]; exact bn50.row _
      have g50 : X0.grownBy W50 none := by rw [<- hW50]; exact zc (gQ) (.inl (by rw [hq50]; exact Nat.le_refl _)) _
      have HP50 := hQ_ (aQ bn50 hW50)
      have HB50 := hQ_ b50
      clear bn50 hW50 b50
      have HGg50 := hQ_ g50
      clear g50
      go_upto_region 13 with (refine wpList_store_row rfl 32 _ _ rfl (q50) yv rfl rfl 32 _ HP50.out.1 (HSX.out.2.1) (HSX.out.2.2.2.2.2.2.2.1) HSX.out.2.2.2.2.1 ?_)
      rw [HP50.out.2]
      clear hq50
      try simp only [Act.put, List.getElem_toArray, List.getElem_cons_succ, List.getElem_cons_zero, List.setIfInBounds_toArray, List.set_cons_zero, List.set_cons_succ]
      have cr : W50.cell? ⟨q50, 1, none⟩ = some (.int .i64 ry) := by
       have := (zbx (HDG.out.2.1).1 (show Blk W50 q50 32 y.val by rw [HBL.out.2.1]; exact HB50.out)).1
       rwa [HRR.out.2.1] at this
      have cp : W50.cell? ⟨w.heap.size, 1, none⟩ = some (.int .i64 rx) := by
       have r := zd (HBS3.out.2.1.grown (za (za HGg40.out HGX0.out) HGg50.out) (by simp))
       have := r 1 (.int .i64 rx) PRV0
       simpa using this
      by_cases h1 : ry < 1
      · have a1 : decide (ry < 1) = true := by simpa using h1
        have HZ1 := hQ_ (show rndN 1 x.r y.r = true from zaw (.inl (by rw [HRR.out.2.1]; exact h1)))
        refine wp_region_quiet_lit (by kernel_rfl) (by kernel_rfl) ?_
        repeat (first
         | go_big_quiet_skip
         | (go_big_quiet_want; first
          | (go_big_quiet_op; go_big_quiet_on)))
        refine wpQuiet_nil ?_
        intro V9 hV9
        obtain ⟨n9, rfl⟩ := hV9
        obtain ⟨V, hV⟩ : ∃ V, W50.drewN n9 = V := ⟨_, rfl⟩
        have gV : W50.grownBy V none := by
         rw [<- hV]
         have g9 := World.grownBy.refl W50 none
         exact ⟨g9.os, g9.tape, g9.output, g9.size, g9.block⟩
        rw [hV]
        have HGV := hQ_ gV
        clear hV gV
        have HVF := hQ_ (aQ (HER.out V (za HBS3.out.1 (za (za (za HGg40.out HGX0.out) HGg50.out) HGV.out))) (aQ (HBS3.out.2.2.1.grown (za (za (za HGg40.out HGX0.out) HGg50.out) HGV.out) (by simp)) (aQ (HBS3.out.2.2.2.grown (za (za (za HGg40.out HGX0.out) HGg50.out) HGV.out) (by simp)) (za HBS3.out.1 (za (za (za HGg40.out HGX0.out) HGg50.out) HGV.out)))))
        go_upto_region 14 with (fail)
        refine wp_region_held_drew (S := fun V => V.cell? ⟨13, 0, none⟩ = some (errV er) /\ V.rangeAt (w.heap.size + 2) 0 c3.toList) (by kernel_rfl) ⟨HVF.out.1, zd HVF.out.2.2.1⟩ (fun hHeld => ?_)
        refine wpAnyH_take (i := 0) (oi := _) (v := .agg c3) rfl (by kernel_rfl) (by kernel_rfl) (by kernel_rfl) (fun _ _ _ h => h) (yieldsIf_load_mid (by rfl) _ _ rfl (w.heap.size + 2) 0 rfl c3.toList _ (fun V hSw => hSw.2) Tryz.underlying64 rfl (by rw [Array.length_toList]; exact HSC.out.2.2.2.2.2)) (by assumption) ?restz8_0
        try simp only [Act.put, List.getElem_toArray, List.getElem_cons_succ, List.getElem_cons_zero, List.setIfInBounds_toArray, List.set_cons_zero, List.set_cons_succ]
        refine wpAnyH_take (i := 1) (oi := _) (v := ?vz8_1) rfl (by kernel_rfl) (by kernel_rfl) (by kernel_rfl) (fun _ _ _ h => h) (Or.inl ⟨by rfl, ?hyz8_1⟩) (by assumption) ?restz8_1
        case hyz8_1 => (intro V hSw; obtain ⟨hSw1, hSw2⟩ := hSw; go_simp) <;> with_reducible rfl
        try simp only [Act.put, List.getElem_toArray, List.getElem_cons_succ, List.getElem_cons_zero, List.setIfInBounds_toArray, List.set_cons_zero, List.set_cons_succ]
        refine wpAnyH_ready (rs := [2]) (by kernel_rfl) (by simp) ?_
        refine (AllReadyH.cons (o := _) rfl (fun K9 hK => ?_) AllReadyH.nil)
        refine zk (by rfl) 64 _ _ rfl (w.heap.size + 1) 0 c3 rfl rfl (zw (show Blk V.drew (w.heap.size + 1) 64 c0 from HVF.out.2.1) (by have h1 := HSC.out.1.2.2.2; have h2 := HSC.out.1.1; omega)) HSC.out.2.2.2.2.2 HSC.out.2.1.2.2.2 ?_
        rw [zi (P := Tryz.prog) (ty := 64) (show Blk V.drew (w.heap.size + 1) 64 c0 from HVF.out.2.1) HSC.out.2.2.2.2.2 (by have h1 := HSC.out.1.2.2.2; have h2 := HSC.out.1.1; omega) HSC.out.2.1.2.2.2]
        refine hK.out _ _ ⟨(yb c3).cell (show V.drew.cell? ⟨13, 0, none⟩ = some (errV er) from HVF.out.1) (show ¬ (13 : Nat) = w.heap.size + 1 by have := HGL.out.2; omega), z6 (show V.drew.rangeAt (w.heap.size + 2) 0 c3.toList from zd HVF.out.2.2.1) (by omega) _⟩ (fun hHeld => ?_)
        clear hK K9
        try simp only [Act.put, List.getElem_toArray, List.getElem_cons_succ, List.getElem_cons_zero, List.setIfInBounds_toArray, List.set_cons_zero, List.set_cons_succ]
        refine wpAnyH_take (i := 3) (oi := _) (v := ?vz8_3) rfl (by kernel_rfl) (by kernel_rfl) (by kernel_rfl) (fun _ _ _ h => h) (Or.inl ⟨by rfl, ?hyz8_3⟩) (by assumption) ?restz8_3
        case hyz8_3 => (intro V hSw; obtain ⟨hSw1, hSw2⟩ := hSw; go_simp) <;> with_reducible rfl
        try simp only [Act.put, List.getElem_toArray, List.getElem_cons_succ, List.getElem_cons_zero, List.setIfInBounds_toArray, List.set_cons_zero, List.set_cons_succ]
        refine wpAnyH_done (by kernel_rfl) ?_ _
        go_wp2_with fail
        refine bodyPost_ret (zr rfl _ _ _ ⟨w.heap.size + 1, 0, none⟩ (.agg c3) rfl (run_loadVar_row _ (w.heap.size + 1) 64 64 _ (0, 0) _ ((show Blk V.drew (w.heap.size + 1) 64 c0 from HVF.out.2.1).row _) Tryz.underlying64 rfl HSC.out.2.2.2.2.2)) rfl ?_
        exact ⟨zc (show w.grownBy V.drew none from zh HVF.out.2.2.2) (.inl (by omega)) _, c3, HSC.out.1.2.2.2, (by first | exact HSC.out.2.1.2.2.2 | simpa using HSC.out.2.1.2.2.2), .inr (.inr ⟨by unfold rowN; simp [HN0.out, HN1.out, HT1.out, HN2.out, HT2.out, HY0.out, HZ1.out], rfl⟩)⟩
      have a1 : decide (ry < 1) = false := by simpa using h1
      by_cases h2 : 1099511627776 < ry
      · have a2 : decide (1099511627776 < ry) = true := by simpa using h2
        have HZ1 := hQ_ (show rndN 1 x.r y.r = true from zaw (.inr (.inl (by rw [HRR.out.2.1]; exact h2))))
        refine wp_region_quiet_lit (by kernel_rfl) (by kernel_rfl) ?_
        repeat (first
         | go_big_quiet_skip
         | (go_big_quiet_want; first
          | (go_big_quiet_op; go_big_quiet_on)))
        refine wpQuiet_nil ?_
        intro V9 hV9
        obtain ⟨n9, rfl⟩ := hV9
        obtain ⟨V, hV⟩ : ∃ V, W50.drewN n9 = V := ⟨_, rfl⟩
        have gV : W50.grownBy V none := by
         rw [<- hV]
         have g9 := World.grownBy.refl W50 none
         exact ⟨g9.os, g9.tape, g9.output, g9.size, g9.block⟩
        rw [hV]
        have HGV := hQ_ gV
        clear hV gV
        have HVF := hQ_ (aQ (HER.out V (za HBS3.out.1 (za (za (za HGg40.out HGX0.out) HGg50.out) HGV.out))) (aQ (HBS3.out.2.2.1.grown (za (za (za HGg40.out HGX0.out) HGg50.out) HGV.out) (by simp)) (aQ (HBS3.out.2.2.2.grown (za (za (za HGg40.out HGX0.out) HGg50.out) HGV.out) (by simp)) (za HBS3.out.1 (za (za (za HGg40.out HGX0.out) HGg50.out) HGV.out)))))
        go_upto_region 14 with (fail)
        refine wp_region_held_drew (S := fun V => V.cell? ⟨13, 0, none⟩ = some (errV er) /\ V.rangeAt (w.heap.size + 2) 0 c3.toList) (by kernel_rfl) ⟨HVF.out.1, zd HVF.out.2.2.1⟩ (fun hHeld => ?_)
        refine wpAnyH_take (i := 0) (oi := _) (v := .agg c3) rfl (by kernel_rfl) (by kernel_rfl) (by kernel_rfl) (fun _ _ _ h => h) (yieldsIf_load_mid (by rfl) _ _ rfl (w.heap.size + 2) 0 rfl c3.toList _ (fun V hSw => hSw.2) Tryz.underlying64 rfl (by rw [Array.length_toList]; exact HSC.out.2.2.2.2.2)) (by assumption) ?restz9_0
        try simp only [Act.put, List.getElem_toArray, List.getElem_cons_succ, List.getElem_cons_zero, List.setIfInBounds_toArray, List.set_cons_zero, List.set_cons_succ]
        refine wpAnyH_take (i := 1) (oi := _) (v := ?vz9_1) rfl (by kernel_rfl) (by kernel_rfl) (by kernel_rfl) (fun _ _ _ h => h) (Or.inl ⟨by rfl, ?hyz9_1⟩) (by assumption) ?restz9_1
        case hyz9_1 => (intro V hSw; obtain ⟨hSw1, hSw2⟩ := hSw; go_simp) <;> with_reducible rfl
        try simp only [Act.put, List.getElem_toArray, List.getElem_cons_succ, List.getElem_cons_zero, List.setIfInBounds_toArray, List.set_cons_zero, List.set_cons_succ]
        refine wpAnyH_ready (rs := [2]) (by kernel_rfl) (by simp) ?_
        refine (AllReadyH.cons (o := _) rfl (fun K9 hK => ?_) AllReadyH.nil)
        refine zk (by rfl) 64 _ _ rfl (w.heap.size + 1) 0 c3 rfl rfl (zw (show Blk V.drew (w.heap.size + 1) 64 c0 from HVF.out.2.1) (by have h1 := HSC.out.1.2.2.2; have h2 := HSC.out.1.1; omega)) HSC.out.2.2.2.2.2 HSC.out.2.1.2.2.2 ?_
        rw [zi (P := Tryz.prog) (ty := 64) (show Blk V.drew (w.heap.size + 1) 64 c0 from HVF.out.2.1) HSC.out.2.2.2.2.2 (by have h1 := HSC.out.1.2.2.2; have h2 := HSC.out.1.1; omega) HSC.out.2.1.2.2.2]
        refine hK.out _ _ ⟨(yb c3).cell (show V.drew.cell? ⟨13, 0, none⟩ = some (errV er) from HVF.out.1) (show ¬ (13 : Nat) = w.heap.size + 1 by have := HGL.out.2; omega), z6 (show V.drew.rangeAt (w.heap.size + 2) 0 c3.toList from zd HVF.out.2.2.1) (by omega) _⟩ (fun hHeld => ?_)
        clear hK K9
        try simp only [Act.put, List.getElem_toArray, List.getElem_cons_succ, List.getElem_cons_zero, List.setIfInBounds_toArray, List.set_cons_zero, List.set_cons_succ]
        refine wpAnyH_take (i := 3) (oi := _) (v := ?vz9_3) rfl (by kernel_rfl) (by kernel_rfl) (by kernel_rfl) (fun _ _ _ h => h) (Or.inl ⟨by rfl, ?hyz9_3⟩) (by assumption) ?restz9_3
        case hyz9_3 => (intro V hSw; obtain ⟨hSw1, hSw2⟩ := hSw; go_simp) <;> with_reducible rfl
        try simp only [Act.put, List.getElem_toArray, List.getElem_cons_succ, List.getElem_cons_zero, List.setIfInBounds_toArray, List.set_cons_zero, List.set_cons_succ]
        refine wpAnyH_done (by kernel_rfl) ?_ _
        go_wp2_with fail
        refine bodyPost_ret (zr rfl _ _ _ ⟨w.heap.size + 1, 0, none⟩ (.agg c3) rfl (run_loadVar_row _ (w.heap.size + 1) 64 64 _ (0, 0) _ ((show Blk V.drew (w.heap.size + 1) 64 c0 from HVF.out.2.1).row _) Tryz.underlying64 rfl HSC.out.2.2.2.2.2)) rfl ?_
        exact ⟨zc (show w.grownBy V.drew none from zh HVF.out.2.2.2) (.inl (by omega)) _, c3, HSC.out.1.2.2.2, (by first | exact HSC.out.2.1.2.2.2 | simpa using HSC.out.2.1.2.2.2), .inr (.inr ⟨by unfold rowN; simp [HN0.out, HN1.out, HT1.out, HN2.out, HT2.out, HY0.out, HZ1.out], rfl⟩)⟩
      have a2 : decide (1099511627776 < ry) = false := by simpa using h2
      have hw := w64 (ry - 1) ⟨by omega, by omega⟩
      by_cases h3 : ry - 1 = rx
      rotate_left
      · have a3 : (ry - 1 != rx) = true := by simpa using h3
        have HZ1 := hQ_ (show rndN 1 x.r y.r = true from zaw (.inr (.inr ⟨by omega, by rw [HRR.out.2.1, HRR.out.1]; exact h3⟩)))
        refine wp_region_quiet_lit (by kernel_rfl) (by kernel_rfl) ?_
        repeat (first
         | go_big_quiet_skip
         | (go_big_quiet_want; first
          | (go_big_quiet_op; go_big_quiet_on)))
        refine wpQuiet_nil ?_
        intro V9 hV9
        obtain ⟨n9, rfl⟩ := hV9
        obtain ⟨V, hV⟩ : ∃ V, W50.drewN n9 = V := ⟨_, rfl⟩
        have gV : W50.grownBy V none := by
         rw [<- hV]
         have g9 := World.grownBy.refl W50 none
         exact ⟨g9.os, g9.tape, g9.output, g9.size, g9.block⟩
        rw [hV]
        have HGV := hQ_ gV
        clear hV gV
        have HVF := hQ_ (aQ (HER.out V (za HBS3.out.1 (za (za (za HGg40.out HGX0.out) HGg50.out) HGV.out))) (aQ (HBS3.out.2.2.1.grown (za (za (za HGg40.out HGX0.out) HGg50.out) HGV.out) (by simp)) (aQ (HBS3.out.2.2.2.grown (za (za (za HGg40.out HGX0.out) HGg50.out) HGV.out) (by simp)) (za HBS3.out.1 (za (za (za HGg40.out HGX0.out) HGg50.out) HGV.out)))))
        go_upto_region 14 with (fail)
        refine wp_region_held_drew (S := fun V => V.cell? ⟨13, 0, none⟩ = some (errV er) /\ V.rangeAt (w.heap.size + 2) 0 c3.toList) (by kernel_rfl) ⟨HVF.out.1, zd HVF.out.2.2.1⟩ (fun hHeld => ?_)
        refine wpAnyH_take (i := 0) (oi := _) (v := .agg c3) rfl (by kernel_rfl) (by kernel_rfl) (by kernel_rfl) (fun _ _ _ h => h) (yieldsIf_load_mid (by rfl) _ _ rfl (w.heap.size + 2) 0 rfl c3.toList _ (fun V hSw => hSw.2) Tryz.underlying64 rfl (by rw [Array.length_toList]; exact HSC.out.2.2.2.2.2)) (by assumption) ?restz10_0
        try simp only [Act.put, List.getElem_toArray, List.getElem_cons_succ, List.getElem_cons_zero, List.setIfInBounds_toArray, List.set_cons_zero, List.set_cons_succ]
        refine wpAnyH_take (i := 1) (oi := _) (v := ?vz10_1) rfl (by kernel_rfl) (by kernel_rfl) (by kernel_rfl) (fun _ _ _ h => h) (Or.inl ⟨by rfl, ?hyz10_1⟩) (by assumption) ?restz10_1
        case hyz10_1 => (intro V hSw; obtain ⟨hSw1, hSw2⟩ := hSw; go_simp) <;> with_reducible rfl
        try simp only [Act.put, List.getElem_toArray, List.getElem_cons_succ, List.getElem_cons_zero, List.setIfInBounds_toArray, List.set_cons_zero, List.set_cons_succ]
        refine wpAnyH_ready (rs := [2]) (by kernel_rfl) (by simp) ?_
        refine (AllReadyH.cons (o := _) rfl (fun K9 hK => ?_) AllReadyH.nil)
        refine zk (by rfl) 64 _ _ rfl (w.heap.size + 1) 0 c3 rfl rfl (zw (show Blk V.drew (w.heap.size + 1) 64 c0 from HVF.out.2.1) (by have h1 := HSC.out.1.2.2.2; have h2 := HSC.out.1.1; omega)) HSC.out.2.2.2.2.2 HSC.out.2.1.2.2.2 ?_
        rw [zi (P := Tryz.prog) (ty := 64) (show Blk V.drew (w.heap.size + 1) 64 c0 from HVF.out.2.1) HSC.out.2.2.2.2.2 (by have h1 := HSC.out.1.2.2.2; have h2 := HSC.out.1.1; omega) HSC.out.2.1.2.2.2]
        refine hK.out _ _ ⟨(yb c3).cell (show V.drew.cell? ⟨13, 0, none⟩ = some (errV er) from HVF.out.1) (show ¬ (13 : Nat) = w.heap.size + 1 by have := HGL.out.2; omega), z6 (show V.drew.rangeAt (w.heap.size + 2) 0 c3.toList from zd HVF.out.2.2.1) (by omega) _⟩ (fun hHeld => ?_)
        clear hK K9
        try simp only [Act.put, List.getElem_toArray, List.getElem_cons_succ, List.getElem_cons_zero, List.setIfInBounds_toArray, List.set_cons_zero, List.set_cons_succ]
        refine wpAnyH_take (i := 3) (oi := _) (v := ?vz10_3) rfl (by kernel_rfl) (by kernel_rfl) (by kernel_rfl) (fun _ _ _ h => h) (Or.inl ⟨by rfl, ?hyz10_3⟩) (by assumption) ?restz10_3
        case hyz10_3 => (intro V hSw; obtain ⟨hSw1, hSw2⟩ := hSw; go_simp) <;> with_reducible rfl
        try simp only [Act.put, List.getElem_toArray, List.getElem_cons_succ, List.getElem_cons_zero, List.setIfInBounds_toArray, List.set_cons_zero, List.set_cons_succ]
        refine wpAnyH_done (by kernel_rfl) ?_ _
        go_wp2_with fail
        refine bodyPost_ret (zr rfl _ _ _ ⟨w.heap.size + 1, 0, none⟩ (.agg c3) rfl (run_loadVar_row _ (w.heap.size + 1) 64 64 _ (0, 0) _ ((show Blk V.drew (w.heap.size + 1) 64 c0 from HVF.out.2.1).row _) Tryz.underlying64 rfl HSC.out.2.2.2.2.2)) rfl ?_
        exact ⟨zc (show w.grownBy V.drew none from zh HVF.out.2.2.2) (.inl (by omega)) _, c3, HSC.out.1.2.2.2, (by first | exact HSC.out.2.1.2.2.2 | simpa using HSC.out.2.1.2.2.2), .inr (.inr ⟨by unfold rowN; simp [HN0.out, HN1.out, HT1.out, HN2.out, HT2.out, HY0.out, HZ1.out], rfl⟩)⟩
      have a3 : (ry - 1 != rx) = false := by simpa using h3
      have HY1 := hQ_ (show rndN 1 x.r y.r = false from ze0 (by rw [HRR.out.2.1]; exact h1) (by rw [HRR.out.2.1]; exact h2) (.inr (by rw [HRR.out.2.1, HRR.out.1]; exact h3)))
      clear h1 h2 h3
      refine wp_region_quiet_lit (by kernel_rfl) (by kernel_rfl) ?_
      repeat (first
       | go_big_quiet_skip
       | (go_big_quiet_want; first
        | (go_big_quiet_op; go_big_quiet_on)))
      refine wpQuiet_nil ?_
      intro V9 hV9
      obtain ⟨n9, rfl⟩ := hV9
      obtain ⟨X1, hV⟩ : ∃ X1, W50.drewN n9 = X1 := ⟨_, rfl⟩
      have gV : W50.grownBy X1 none := by
       rw [<- hV]
       have g9 := World.grownBy.refl W50 none
       exact ⟨g9.os, g9.tape, g9.output, g9.size, g9.block⟩
      rw [hV]
      have HGX1 := hQ_ gV
      clear hV gV
      clear a1 a2 a3 cp hw cr
      go_wp2_with fail
      rw [rounds_succ]
      obtain ⟨q60, hq60⟩ : ∃ q, X1.heap.size = q := ⟨_, rfl⟩
      obtain ⟨W60, hW60⟩ : ∃ W, (X1.alloc (.cells ZB 32)).setRow q60 zv = W := ⟨_, rfl⟩
      have bn60 : Blk (X1.alloc (.cells ZB 32)) q60 32 ZB := by rw [<- hq60]; exact Blk.new X1 32 ZB
      have b60 : Blk W60 q60 32 zv := by rw [<- hW60]; exact bn60.row _
      have g60 : X1.grownBy W60 none := by rw [<- hW60]; exact zc (gQ) (.inl (by rw [hq60]; exact Nat.le_refl _)) _
      have HP60 := hQ_ (aQ bn60 hW60)
      have HB60 := hQ_ b60
      clear bn60 hW60 b60
      have HGg60 := hQ_ g60
      clear g60
      go_upto_region 13 with (refine wpList_store_row rfl 32 _ _ rfl (q60) zv rfl rfl 32 _ HP60.out.1 (HSX.out.2.2.1) (HSX.out.2.2.2.2.2.2.2.2) HSX.out.2.2.2.2.2.1 ?_)
      rw [HP60.out.2]
      clear hq60
      try simp only [Act.put, List.getElem_toArray, List.getElem_cons_succ, List.getElem_cons_zero, List.setIfInBounds_toArray, List.set_cons_zero, List.set_cons_succ]
      have cr : W60.cell? ⟨q60, 1, none⟩ = some (.int .i64 rz) := by
       have := (zbx (HDG.out.2.2).1 (show Blk W60 q60 32 z.val by rw [HBL.out.2.2]; exact HB60.out)).1
       rwa [HRR.out.2.2] at this
      have cp : W60.cell? ⟨w.heap.size, 40, none⟩ = some (.int .i64 ry) := by
       have r := zd (HBS3.out.2.1.grown (za (za (za (za HGg40.out HGX0.out) HGg50.out) HGX1.out) HGg60.out) (by simp))
       have := r 40 (.int .i64 ry) PRV1
       simpa using this
      by_cases h1 : rz < 1
      · have a1 : decide (rz < 1) = true := by simpa using h1
        have HZ2 := hQ_ (show rndN 2 y.r z.r = true from zaw (.inl (by rw [HRR.out.2.2]; exact h1)))
        refine wp_region_quiet_lit (by kernel_rfl) (by kernel_rfl) ?_
        repeat (first
         | go_big_quiet_skip
         | (go_big_quiet_want; first
          | (go_big_quiet_op; go_big_quiet_on)))
        refine wpQuiet_nil ?_
        intro V9 hV9
        obtain ⟨n9, rfl⟩ := hV9
        obtain ⟨V, hV⟩ : ∃ V, W60.drewN n9 = V := ⟨_, rfl⟩
        have gV : W60.grownBy V none := by
         rw [<- hV]
         have g9 := World.grownBy.refl W60 none
         exact ⟨g9.os, g9.tape, g9.output, g9.size, g9.block⟩
        rw [hV]
        have HGV := hQ_ gV
        clear hV gV
        have HVF := hQ_ (aQ (HER.out V (za HBS3.out.1 (za (za (za (za (za HGg40.out HGX0.out) HGg50.out) HGX1.out) HGg60.out) HGV.out))) (aQ (HBS3.out.2.2.1.grown (za (za (za (za (za HGg40.out HGX0.out) HGg50.out) HGX1.out) HGg60.out) HGV.out) (by simp)) (aQ (HBS3.out.2.2.2.grown (za (za (za (za (za HGg40.out HGX0.out) HGg50.out) HGX1.out) HGg60.out) HGV.out) (by simp)) (za HBS3.out.1 (za (za (za (za (za HGg40.out HGX0.out) HGg50.out) HGX1.out) HGg60.out) HGV.out)))))
        go_upto_region 14 with (fail)
        refine wp_region_held_drew (S := fun V => V.cell? ⟨13, 0, none⟩ = some (errV er) /\ V.rangeAt (w.heap.size + 2) 0 c3.toList) (by kernel_rfl) ⟨HVF.out.1, zd HVF.out.2.2.1⟩ (fun hHeld => ?_)
        refine wpAnyH_take (i := 0) (oi := _) (v := .agg c3) rfl (by kernel_rfl) (by kernel_rfl) (by kernel_rfl) (fun _ _ _ h => h) (yieldsIf_load_mid (by rfl) _ _ rfl (w.heap.size + 2) 0 rfl c3.toList _ (fun V hSw => hSw.2) Tryz.underlying64 rfl (by rw [Array.length_toList]; exact HSC.out.2.2.2.2.2)) (by assumption) ?restz11_0
        try simp only [Act.put, List.getElem_toArray, List.getElem_cons_succ, List.getElem_cons_zero, List.setIfInBounds_toArray, List.set_cons_zero, List.set_cons_succ]
        refine wpAnyH_take (i := 1) (oi := _) (v := ?vz11_1) rfl (by kernel_rfl) (by kernel_rfl) (by kernel_rfl) (fun _ _ _ h => h) (Or.inl ⟨by rfl, ?hyz11_1⟩) (by assumption) ?restz11_1
        case hyz11_1 => (intro V hSw; obtain ⟨hSw1, hSw2⟩ := hSw; go_simp) <;> with_reducible rfl
        try simp only [Act.put, List.getElem_toArray, List.getElem_cons_succ, List.getElem_cons_zero, List.setIfInBounds_toArray, List.set_cons_zero, List.set_cons_succ]
        refine wpAnyH_ready (rs := [2]) (by kernel_rfl) (by simp) ?_
        refine (AllReadyH.cons (o := _) rfl (fun K9 hK => ?_) AllReadyH.nil)
        refine zk (by rfl) 64 _ _ rfl (w.heap.size + 1) 0 c3 rfl rfl (zw (show Blk V.drew (w.heap.size + 1) 64 c0 from HVF.out.2.1) (by have h1 := HSC.out.1.2.2.2; have h2 := HSC.out.1.1; omega)) HSC.out.2.2.2.2.2 HSC.out.2.1.2.2.2 ?_
        rw [zi (P := Tryz.prog) (ty := 64) (show Blk V.drew (w.heap.size + 1) 64 c0 from HVF.out.2.1) HSC.out.2.2.2.2.2 (by have h1 := HSC.out.1.2.2.2; have h2 := HSC.out.1.1; omega) HSC.out.2.1.2.2.2]
        refine hK.out _ _ ⟨(yb c3).cell (show V.drew.cell? ⟨13, 0, none⟩ = some (errV er) from HVF.out.1) (show ¬ (13 : Nat) = w.heap.size + 1 by have := HGL.out.2; omega), z6 (show V.drew.rangeAt (w.heap.size + 2) 0 c3.toList from zd HVF.out.2.2.1) (by omega) _⟩ (fun hHeld => ?_)
        clear hK K9
        try simp only [Act.put, List.getElem_toArray, List.getElem_cons_succ, List.getElem_cons_zero, List.setIfInBounds_toArray, List.set_cons_zero, List.set_cons_succ]
        refine wpAnyH_take (i := 3) (oi := _) (v := ?vz11_3) rfl (by kernel_rfl) (by kernel_rfl) (by kernel_rfl) (fun _ _ _ h => h) (Or.inl ⟨by rfl, ?hyz11_3⟩) (by assumption) ?restz11_3
        case hyz11_3 => (intro V hSw; obtain ⟨hSw1, hSw2⟩ := hSw; go_simp) <;> with_reducible rfl
        try simp only [Act.put, List.getElem_toArray, List.getElem_cons_succ, List.getElem_cons_zero, List.setIfInBounds_toArray, List.set_cons_zero, List.set_cons_succ]
        refine wpAnyH_done (by kernel_rfl) ?_ _
        go_wp2_with fail
        refine bodyPost_ret (zr rfl _ _ _ ⟨w.heap.size + 1, 0, none⟩ (.agg c3) rfl (run_loadVar_row _ (w.heap.size + 1) 64 64 _ (0, 0) _ ((show Blk V.drew (w.heap.size + 1) 64 c0 from HVF.out.2.1).row _) Tryz.underlying64 rfl HSC.out.2.2.2.2.2)) rfl ?_
        exact ⟨zc (show w.grownBy V.drew none from zh HVF.out.2.2.2) (.inl (by omega)) _, c3, HSC.out.1.2.2.2, (by first | exact HSC.out.2.1.2.2.2 | simpa using HSC.out.2.1.2.2.2), .inr (.inr ⟨by unfold rowN; simp [HN0.out, HN1.out, HT1.out, HN2.out, HT2.out, HY0.out, HY1.out, HZ2.out], rfl⟩)⟩
      have a1 : decide (rz < 1) = false := by simpa using h1
      by_cases h2 : 1099511627776 < rz
      · have a2 : decide (1099511627776 < rz) = true := by simpa using h2
        have HZ2 := hQ_ (show rndN 2 y.r z.r = true from zaw (.inr (.inl (by rw [HRR.out.2.2]; exact h2))))
        refine wp_region_quiet_lit (by kernel_rfl) (by kernel_rfl) ?_
        repeat (first
         | go_big_quiet_skip
         | (go_big_quiet_want; first
          | (go_big_quiet_op; go_big_quiet_on)))
        refine wpQuiet_nil ?_
        intro V9 hV9
        obtain ⟨n9, rfl⟩ := hV9
        obtain ⟨V, hV⟩ : ∃ V, W60.drewN n9 = V := ⟨_, rfl⟩
        have gV : W60.grownBy V none := by
         rw [<- hV]
         have g9 := World.grownBy.refl W60 none
         exact ⟨g9.os, g9.tape, g9.output, g9.size, g9.block⟩
        rw [hV]
        have HGV := hQ_ gV
        clear hV gV
        have HVF := hQ_ (aQ (HER.out V (za HBS3.out.1 (za (za (za (za (za HGg40.out HGX0.out) HGg50.out) HGX1.out) HGg60.out) HGV.out))) (aQ (HBS3.out.2.2.1.grown (za (za (za (za (za HGg40.out HGX0.out) HGg50.out) HGX1.out) HGg60.out) HGV.out) (by simp)) (aQ (HBS3.out.2.2.2.grown (za (za (za (za (za HGg40.out HGX0.out) HGg50.out) HGX1.out) HGg60.out) HGV.out) (by simp)) (za HBS3.out.1 (za (za (za (za (za HGg40.out HGX0.out) HGg50.out) HGX1.out) HGg60.out) HGV.out)))))
        go_upto_region 14 with (fail)
        refine wp_region_held_drew (S := fun V => V.cell? ⟨13, 0, none⟩ = some (errV er) /\ V.rangeAt (w.heap.size + 2) 0 c3.toList) (by kernel_rfl) ⟨HVF.out.1, zd HVF.out.2.2.1⟩ (fun hHeld => ?_)
        refine wpAnyH_take (i := 0) (oi := _) (v := .agg c3) rfl (by kernel_rfl) (by kernel_rfl) (by kernel_rfl) (fun _ _ _ h => h) (yieldsIf_load_mid (by rfl) _ _ rfl (w.heap.size + 2) 0 rfl c3.toList _ (fun V hSw => hSw.2) Tryz.underlying64 rfl (by rw [Array.length_toList]; exact HSC.out.2.2.2.2.2)) (by assumption) ?restz12_0
        try simp only [Act.put, List.getElem_toArray, List.getElem_cons_succ, List.getElem_cons_zero, List.setIfInBounds_toArray, List.set_cons_zero, List.set_cons_succ]
        refine wpAnyH_take (i := 1) (oi := _) (v := ?vz12_1) rfl (by kernel_rfl) (by kernel_rfl) (by kernel_rfl) (fun _ _ _ h => h) (Or.inl ⟨by rfl, ?hyz12_1⟩) (by assumption) ?restz12_1
        case hyz12_1 => (intro V hSw; obtain ⟨hSw1, hSw2⟩ := hSw; go_simp) <;> with_reducible rfl
        try simp only [Act.put, List.getElem_toArray, List.getElem_cons_succ, List.getElem_cons_zero, List.setIfInBounds_toArray, List.set_cons_zero, List.set_cons_succ]
        refine wpAnyH_ready (rs := [2]) (by kernel_rfl) (by simp) ?_
        refine (AllReadyH.cons (o := _) rfl (fun K9 hK => ?_) AllReadyH.nil)
        refine zk (by rfl) 64 _ _ rfl (w.heap.size + 1) 0 c3 rfl rfl (zw (show Blk V.drew (w.heap.size + 1) 64 c0 from HVF.out.2.1) (by have h1 := HSC.out.1.2.2.2; have h2 := HSC.out.1.1; omega)) HSC.out.2.2.2.2.2 HSC.out.2.1.2.2.2 ?_
        rw [zi (P := Tryz.prog) (ty := 64) (show Blk V.drew (w.heap.size + 1) 64 c0 from HVF.out.2.1) HSC.out.2.2.2.2.2 (by have h1 := HSC.out.1.2.2.2; have h2 := HSC.out.1.1; omega) HSC.out.2.1.2.2.2]
        refine hK.out _ _ ⟨(yb c3).cell (show V.drew.cell? ⟨13, 0, none⟩ = some (errV er) from HVF.out.1) (show ¬ (13 : Nat) = w.heap.size + 1 by have := HGL.out.2; omega), z6 (show V.drew.rangeAt (w.heap.size + 2) 0 c3.toList from zd HVF.out.2.2.1) (by omega) _⟩ (fun hHeld => ?_)
        clear hK K9
        try simp only [Act.put, List.getElem_toArray, List.getElem_cons_succ, List.getElem_cons_zero, List.setIfInBounds_toArray, List.set_cons_zero, List.set_cons_succ]
        refine wpAnyH_take (i := 3) (oi := _) (v := ?vz12_3) rfl (by kernel_rfl) (by kernel_rfl) (by kernel_rfl) (fun _ _ _ h => h) (Or.inl ⟨by rfl, ?hyz12_3⟩) (by assumption) ?restz12_3
        case hyz12_3 => (intro V hSw; obtain ⟨hSw1, hSw2⟩ := hSw; go_simp) <;> with_reducible rfl
        try simp only [Act.put, List.getElem_toArray, List.getElem_cons_succ, List.getElem_cons_zero, List.setIfInBounds_toArray, List.set_cons_zero, List.set_cons_succ]
        refine wpAnyH_done (by kernel_rfl) ?_ _
        go_wp2_with fail
        refine bodyPost_ret (zr rfl _ _ _ ⟨w.heap.size + 1, 0, none⟩ (.agg c3) rfl (run_loadVar_row _ (w.heap.size + 1) 64 64 _ (0, 0) _ ((show Blk V.drew (w.heap.size + 1) 64 c0 from HVF.out.2.1).row _) Tryz.underlying64 rfl HSC.out.2.2.2.2.2)) rfl ?_
        exact ⟨zc (show w.grownBy V.drew none from zh HVF.out.2.2.2) (.inl (by omega)) _, c3, HSC.out.1.2.2.2, (by first | exact HSC.out.2.1.2.2.2 | simpa using HSC.out.2.1.2.2.2), .inr (.inr ⟨by unfold rowN; simp [HN0.out, HN1.out, HT1.out, HN2.out, HT2.out, HY0.out, HY1.out, HZ2.out], rfl⟩)⟩
      have a2 : decide (1099511627776 < rz) = false := by simpa using h2
      have hw := w64 (rz - 1) ⟨by omega, by omega⟩
      by_cases h3 : rz - 1 = ry
      rotate_left
      · have a3 : (rz - 1 != ry) = true := by simpa using h3
        have HZ2 := hQ_ (show rndN 2 y.r z.r = true from zaw (.inr (.inr ⟨by omega, by rw [HRR.out.2.2, HRR.out.2.1]; exact h3⟩)))
        refine wp_region_quiet_lit (by kernel_rfl) (by kernel_rfl) ?_
        repeat (first
         | go_big_quiet_skip
         | (go_big_quiet_want; first
          | (go_big_quiet_op; go_big_quiet_on)))
        refine wpQuiet_nil ?_
        intro V9 hV9
        obtain ⟨n9, rfl⟩ := hV9
        obtain ⟨V, hV⟩ : ∃ V, W60.drewN n9 = V := ⟨_, rfl⟩
        have gV : W60.grownBy V none := by
         rw [<- hV]
         have g9 := World.grownBy.refl W60 none
         exact ⟨g9.os, g9.tape, g9.output, g9.size, g9.block⟩
        rw [hV]
        have HGV := hQ_ gV
        clear hV gV
        have HVF := hQ_ (aQ (HER.out V (za HBS3.out.1 (za (za (za (za (za HGg40.out HGX0.out) HGg50.out) HGX1.out) HGg60.out) HGV.out))) (aQ (HBS3.out.2.2.1.grown (za (za (za (za (za HGg40.out HGX0.out) HGg50.out) HGX1.out) HGg60.out) HGV.out) (by simp)) (aQ (HBS3.out.2.2.2.grown (za (za (za (za (za HGg40.out HGX0.out) HGg50.out) HGX1.out) HGg60.out) HGV.out) (by simp)) (za HBS3.out.1 (za (za (za (za (za HGg40.out HGX0.out) HGg50.out) HGX1.out) HGg60.out) HGV.out)))))
        go_upto_region 14 with (fail)
        refine wp_region_held_drew (S := fun V => V.cell? ⟨13, 0, none⟩ = some (errV er) /\ V.rangeAt (w.heap.size + 2) 0 c3.toList) (by kernel_rfl) ⟨HVF.out.1, zd HVF.out.2.2.1⟩ (fun hHeld => ?_)
        refine wpAnyH_take (i := 0) (oi := _) (v := .agg c3) rfl (by kernel_rfl) (by kernel_rfl) (by kernel_rfl) (fun _ _ _ h => h) (yieldsIf_load_mid (by rfl) _ _ rfl (w.heap.size + 2) 0 rfl c3.toList _ (fun V hSw => hSw.2) Tryz.underlying64 rfl (by rw [Array.length_toList]; exact HSC.out.2.2.2.2.2)) (by assumption) ?restz13_0
        try simp only [Act.put, List.getElem_toArray, List.getElem_cons_succ, List.getElem_cons_zero, List.setIfInBounds_toArray, List.set_cons_zero, List.set_cons_succ]
        refine wpAnyH_take (i := 1) (oi := _) (v := ?vz13_1) rfl (by kernel_rfl) (by kernel_rfl) (by kernel_rfl) (fun _ _ _ h => h) (Or.inl ⟨by rfl, ?hyz13_1⟩) (by assumption) ?restz13_1
        case hyz13_1 => (intro V hSw; obtain ⟨hSw1, hSw2⟩ := hSw; go_simp) <;> with_reducible rfl
        try simp only [Act.put, List.getElem_toArray, List.getElem_cons_succ, List.getElem_cons_zero, List.setIfInBounds_toArray, List.set_cons_zero, List.set_cons_succ]
        refine wpAnyH_ready (rs := [2]) (by kernel_rfl) (by simp) ?_
        refine (AllReadyH.cons (o := _) rfl (fun K9 hK => ?_) AllReadyH.nil)
        refine zk (by rfl) 64 _ _ rfl (w.heap.size + 1) 0 c3 rfl rfl (zw (show Blk V.drew (w.heap.size + 1) 64 c0 from HVF.out.2.1) (by have h1 := HSC.out.1.2.2.2; have h2 := HSC.out.1.1; omega)) HSC.out.2.2.2.2.2 HSC.out.2.1.2.2.2 ?_
        rw [zi (P := Tryz.prog) (ty := 64) (show Blk V.drew (w.heap.size + 1) 64 c0 from HVF.out.2.1) HSC.out.2.2.2.2.2 (by have h1 := HSC.out.1.2.2.2; have h2 := HSC.out.1.1; omega) HSC.out.2.1.2.2.2]
        refine hK.out _ _ ⟨(yb c3).cell (show V.drew.cell? ⟨13, 0, none⟩ = some (errV er) from HVF.out.1) (show ¬ (13 : Nat) = w.heap.size + 1 by have := HGL.out.2; omega), z6 (show V.drew.rangeAt (w.heap.size + 2) 0 c3.toList from zd HVF.out.2.2.1) (by omega) _⟩ (fun hHeld => ?_)
        clear hK K9
        try simp only [Act.put, List.getElem_toArray, List.getElem_cons_succ, List.getElem_cons_zero, List.setIfInBounds_toArray, List.set_cons_zero, List.set_cons_succ]
        refine wpAnyH_take (i := 3) (oi := _) (v := ?vz13_3) rfl (by kernel_rfl) (by kernel_rfl) (by kernel_rfl) (fun _ _ _ h => h) (Or.inl ⟨by rfl, ?hyz13_3⟩) (by assumption) ?restz13_3
        case hyz13_3 => (intro V hSw; obtain ⟨hSw1, hSw2⟩ := hSw; go_simp) <;> with_reducible rfl
        try simp only [Act.put, List.getElem_toArray, List.getElem_cons_succ, List.getElem_cons_zero, List.setIfInBounds_toArray, List.set_cons_zero, List.set_cons_succ]
        refine wpAnyH_done (by kernel_rfl) ?_ _
        go_wp2_with fail
        refine bodyPost_ret (zr rfl _ _ _ ⟨w.heap.size + 1, 0, none⟩ (.agg c3) rfl (run_loadVar_row _ (w.heap.size + 1) 64 64 _ (0, 0) _ ((show Blk V.drew (w.heap.size + 1) 64 c0 from HVF.out.2.1).row _) Tryz.underlying64 rfl HSC.out.2.2.2.2.2)) rfl ?_
        exact ⟨zc (show w.grownBy V.drew none from zh HVF.out.2.2.2) (.inl (by omega)) _, c3, HSC.out.1.2.2.2, (by first | exact HSC.out.2.1.2.2.2 | simpa using HSC.out.2.1.2.2.2), .inr (.inr ⟨by unfold rowN; simp [HN0.out, HN1.out, HT1.out, HN2.out, HT2.out, HY0.out, HY1.out, HZ2.out], rfl⟩)⟩
      have a3 : (rz - 1 != ry) = false := by simpa using h3
      have HY2 := hQ_ (show rndN 2 y.r z.r = false from ze0 (by rw [HRR.out.2.2]; exact h1) (by rw [HRR.out.2.2]; exact h2) (.inr (by rw [HRR.out.2.2, HRR.out.2.1]; exact h3)))
      clear h1 h2 h3
      refine wp_region_quiet_lit (by kernel_rfl) (by kernel_rfl) ?_
      repeat (first
       | go_big_quiet_skip
       | (go_big_quiet_want; first
        | (go_big_quiet_op; go_big_quiet_on)))
      refine wpQuiet_nil ?_
      intro V9 hV9
      obtain ⟨n9, rfl⟩ := hV9
      obtain ⟨X2, hV⟩ : ∃ X2, W60.drewN n9 = X2 := ⟨_, rfl⟩
      have gV : W60.grownBy X2 none := by
       rw [<- hV]
       have g9 := World.grownBy.refl W60 none
       exact ⟨g9.os, g9.tape, g9.output, g9.size, g9.block⟩
      rw [hV]
      have HGX2 := hQ_ gV
      clear hV gV
      clear a1 a2 a3 cp hw cr
      go_wp2_with fail
      rw [rounds_succ]
      have HVE := hQ_ (aQ (za HBS3.out.1 (za (za (za (za (za HGg40.out HGX0.out) HGg50.out) HGX1.out) HGg60.out) HGX2.out)) (aQ (HBS3.out.2.2.1.grown (za (za (za (za (za HGg40.out HGX0.out) HGg50.out) HGX1.out) HGg60.out) HGX2.out) (by simp)) (HBS3.out.2.2.2.grown (za (za (za (za (za HGg40.out HGX0.out) HGg50.out) HGX1.out) HGg60.out) HGX2.out) (by simp))))
      go_wp2_with (first
       | (refine wpList_load_mid rfl 64 _ rfl (w.heap.size + 2) 0 rfl c3.toList _ (zd HVE.out.2.2) Tryz.underlying64 rfl (by rw [Array.length_toList]; exact HSC.out.2.2.2.2.2) ?_; rw [Array.toArray_toList])
       | (refine wpList_store_row rfl 64 _ _ rfl (w.heap.size + 1) c3 rfl rfl 64 _ HVE.out.2.1 (HSC.out.2.2.2.2.2) ((by have h1 := HSC.out.1.2.2.2; have h2 := HSC.out.1.1; omega)) HSC.out.2.1.2.2.2 ?_))
      refine bodyPost_ret (zr rfl _ _ _ ⟨w.heap.size + 1, 0, none⟩ (.agg c3) rfl (run_loadVar_row _ (w.heap.size + 1) 64 64 _ (0, 0) _ (HVE.out.2.1.row _) Tryz.underlying64 rfl HSC.out.2.2.2.2.2)) rfl ?_
      exact ⟨zc HVE.out.1 (.inl (by omega)) _, c3, HSC.out.1.2.2.2, (by first | exact HSC.out.2.1.2.2.2 | simpa using HSC.out.2.1.2.2.2), .inl ⟨by unfold rowN; simp [HN0.out, HN1.out, HT1.out, HN2.out, HT2.out, HY0.out, HY1.out, HY2.out], by rw [HIDS.out.1, HIDS.out.2.1, HIDS.out.2.2.1, HIDS.out.2.2.2.2.2], rfl⟩⟩
end Go.Proofs.YtigafnbofmiknaaGreatDoor
