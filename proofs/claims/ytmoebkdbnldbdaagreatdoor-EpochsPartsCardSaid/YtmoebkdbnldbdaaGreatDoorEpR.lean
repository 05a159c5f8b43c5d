/-
  epochs.row: the ids of three blocks, each the next one's parent, in rounds one behind the other.
-/
import Derived.BigQuiet
import Derived.Deep.QuietTactic
import Derived.Test.YtmoebkdbnldbdaaGreatDoorM20pu
namespace Go.Proofs.YtmoebkdbnldbdaaGreatDoor
open Go.RowKit

attribute [local go_sem] Oper.semAt_some

theorem setCells_cons_e (w : World) (b o : Nat) (v : Value) (r : List Value) : w.setCells b o (v :: r) = (w.setCell ⟨b, o, none⟩ v).setCells b (o + 1) r := rfl
theorem lay_cons {α : Type} (cs : List α) (o : Nat) (v : α) (vs : List α) (h : o + (v :: vs).length ≤ cs.length) : (cs.set o v).take (o + 1) ++ vs ++ (cs.set o v).drop (o + 1 + vs.length) = cs.take o ++ (v :: vs) ++ cs.drop (o + (v :: vs).length) := by
  rw [List.length_cons] at h ⊢
  have e1 : (cs.set o v).take (o + 1) = cs.take o ++ [v] := by
    rw [List.take_add_one, List.take_set_of_le (Nat.le_refl _), List.getElem?_set_self (by omega)]; rfl
  rw [e1, List.drop_set_of_lt (by omega), show o + 1 + vs.length = o + (vs.length + 1) by omega]
  simp
theorem blk_setCells_e (b : Nat) (t : TypeId) : ∀ (vs : List Value) (o : Nat) (w : World) (cs : List Value), Blk w b t cs.toArray → o + vs.length ≤ cs.length → Blk (w.setCells b o vs) b t (cs.take o ++ vs ++ cs.drop (o + vs.length)).toArray
  | [], o, w, cs, h, hl => by simpa [World.setCells] using h
  | v :: vs, o, w, cs, h, hl => by
    rw [setCells_cons_e, ← lay_cons cs o v vs hl]
    refine blk_setCells_e b t vs (o + 1) _ _ ?_ (by rw [List.length_set]; rw [List.length_cons] at hl; omega)
    simpa using h.set o v
theorem grown_cells_e {w : World} (b : Nat) : ∀ (vs : List Value) (o : Nat) (w1 : World), w.grownBy w1 (some b) → w.grownBy (w1.setCells b o vs) (some b)
  | [], _, _, h => h
  | v :: r, o, w1, h => by
    rw [setCells_cons_e]
    exact grown_cells_e b r (o + 1) _ (grown_far h (.inr rfl) v)
theorem index_e {P : Program} (w : World) {t e : TypeId} {m n : Nat} {fs : Array Field} (ht : P.underlying t = some (.array n e)) (he : P.underlying e = some (.struct fs)) (hs : (P.info? e).map (·.size) = some m) (cs vs : Array Value) (I : Int) (k : Nat) (hI : I = (k : Int)) (hk : k < n) (hv : (cs.toList.drop (k * m)).take m = vs.toList) :
    Sem.run P (Instr.index t (.agg cs) (.int .i64 I)) w = .ok (.agg vs) w := by
  cases hq : P.info? e with
  | none => simp [hq] at hs
  | some i =>
    have hi : i.size = m := by simpa [hq] using hs
    have hb : 0 ≤ I ∧ I < (n : Int) := by omega
    have hn : I.toNat = k := by omega
    have hv' : cs.extract (k * m) (k * m + m) = vs := by
      apply Array.toList_inj.1
      rw [← hv, Array.toList_extract, List.extract_eq_take_drop, Nat.add_sub_cancel_left]
    simp [Instr.index, run_underlying ht, asIntOf, hb, hn, sizeOf, typeInfo, hq, hi, part, isAgg, run_underlying he, hv']
/-- The error's number. -/
def rndN (i : Nat) (p r : Int) : Bool := decide (r < 1) || (decide (1099511627776 < r) || (decide (0 < i) && decide (r - 1 ≠ p)))
def rowN (x y z : Bk) : Nat :=
  if (bkS x).1 ≠ 0 then 16 else if (bkS y).1 ≠ 0 then 16 else if y.P ≠ idD x then 16 else if (bkS z).1 ≠ 0 then 16 else if z.P ≠ idD y then 16
  else if rndN 0 0 x.r = true then 14 else if rndN 1 x.r y.r = true then 14 else if rndN 2 y.r z.r = true then 14 else 0
def z48 : List Int := List.replicate 48 0
theorem z48run (w : World) : Sem.run Tryz.prog (zeroValue 83) w = .ok (.agg (arrV .u8 z48)) w := zero_run3 w (by kernel_rfl)
theorem sz_D3 : (Tryz.prog.info? 83).map (·.size) = some 48 := by kernel_rfl
theorem sz_B3 : (Tryz.prog.info? 52).map (·.size) = some 117 := by kernel_rfl
theorem zb_run : ∃ Z : Array Value, Z.size = 39 ∧ ∀ w : World, Sem.run Tryz.prog (zeroValue 49) w = .ok (.agg Z) w := ⟨zBk, genV_size' 0 (by rw [zD16, arr_size]; rfl), zbk_run⟩
theorem bk_sizeE {w : World} {b : Bk} (h : b.At w) : b.val.size = 39 := Bk.val_size h
theorem bk_oneE {w : World} {b : Bk} (h : b.At w) : (b.val.all fun v => v.oneCell') = true := by
  have h1 : ((arrV .u8 b.P).all fun v => v.oneCell') = true := arr_one _ _
  have h2 : ((arrV .u8 b.q.Bl).all fun v => v.oneCell') = true := arr_one _ _
  simp only [Bk.val, Qc.val, Array.all_append, h1, h2, Bool.true_and]
  simp [Value.oneCell']
/-- A block's parts in memory. -/
theorem bk_parts {w : World} {b : Bk} {g : Nat} {t : TypeId} (hP : b.P.length = 16) (h : Blk w g t b.val) : w.cell? ⟨g, 1, none⟩ = some (.int .i64 b.r) ∧ w.rangeAt g 2 (arrV .u8 b.P).toList := by
  have r := range_blk0 h
  have e1 : b.val.toList = [.int .i64 b.e, .int .i64 b.r] ++ ((arrV .u8 b.P).toList ++ (b.q.val.toList ++ [.slice b.A b.T.length b.c, .slice b.A2 b.V.length b.c2])) := by simp [Bk.val]
  rw [e1] at r
  exact ⟨by have := r 1 (.int .i64 b.r) rfl; simpa using this, by have := range_seg r; simpa using this⟩
theorem put_ids (a b d : List Int) {o : Nat} (ha : a.length = o) (hd : d.length = 16) (hb : 16 ≤ b.length) {w : World} {q : Nat} {t : TypeId} (h : Blk w q t (arrV .u8 (a ++ b))) : Blk (w.setCells q o (arrV .u8 d).toList) q t (arrV .u8 (a ++ (d ++ b.drop 16))) := by
  have h1 : Blk w q t (arrV .u8 (a ++ b)).toList.toArray := by rw [Array.toArray_toList]; exact h
  have := blk_setCells_e q t (arrV .u8 d).toList o w _ h1 (by simp [arrV]; omega)
  have e : (arrV .u8 (a ++ b)).toList.take o ++ (arrV .u8 d).toList ++ (arrV .u8 (a ++ b)).toList.drop (o + (arrV .u8 d).toList.length) = (arrV .u8 (a ++ (d ++ b.drop 16))).toList := by
    subst ha
    simp [arrV, hd, List.drop_append]
  rw [e, Array.toArray_toList] at this
  exact this
theorem get_ids (a b d : List Int) {o : Nat} (ha : a.length = o) {w : World} {q : Nat} {t : TypeId} (h : Blk w q t (arrV .u8 (a ++ (d ++ b)))) : w.rangeAt q o (arrV .u8 d).toList := by
  have r := range_blk0 h
  have e1 : (arrV .u8 (a ++ (d ++ b))).toList = (arrV .u8 a).toList ++ ((arrV .u8 d).toList ++ (arrV .u8 b).toList) := by simp [arrV]
  rw [e1] at r
  have := range_seg r
  subst ha
  simpa [arrV] using this
theorem range_row_far {w : World} {b q o : Nat} {cs : List Value} (h : w.rangeAt b o cs) (hne : b ≠ q) (v : Array Value) : (w.setRow q v).rangeAt b o cs := fun j u hu => (row_kept_e v).cell (h j u hu) hne
theorem grown_far_cells {w : World} (b : Nat) (hb : w.heap.size ≤ b) : ∀ (vs : List Value) (o : Nat) (w1 : World), w.grownBy w1 none → w.grownBy (w1.setCells b o vs) none
  | [], _, _, h => h
  | v :: r, o, w1, h => by
    rw [setCells_cons_e]
    exact grown_far_cells b hb r (o + 1) _ (grown_far h (.inl hb) v)
theorem kept_cells_e {w : World} (b o : Nat) (vs : List Value) : Kept (fun j => j = b) w (w.setCells b o vs) := Kept.of_grown (grown_cells_e b vs o w (World.grownBy.refl w (some b))) (fun _ e => by injection e with e; exact e.symm)
theorem rndN_no {i : Nat} {p r : Int} (h1 : ¬ r < 1) (h2 : ¬ 1099511627776 < r) (h3 : i = 0 ∨ r - 1 = p) : rndN i p r = false := by
  have a1 : decide (r < 1) = false := by simpa using h1
  have a2 : decide (1099511627776 < r) = false := by simpa using h2
  unfold rndN
  rw [a1, a2]
  rcases h3 with rfl | h3
  · simp
  · simp [h3]
theorem rndN_yes {i : Nat} {p r : Int} (h : r < 1 ∨ 1099511627776 < r ∨ (0 < i ∧ r - 1 ≠ p)) : rndN i p r = true := by
  unfold rndN
  rcases h with h | h | ⟨h1, h2⟩
  · simp [h]
  · simp [h]
  · simp [h1, h2]
theorem there_mid_e {w : World} {g : Nat} {t : TypeId} {cs : Array Value} (h : Blk w g t cs) {o n : Nat} (hn : o + n ≤ cs.size) : w.there g o n := fun j hj => ⟨by
  rw [h.cell, Array.getElem?_eq_getElem (by omega)]
  rfl, h.frozen _⟩
set_option maxRecDepth 100000 in
set_option maxHeartbeats 2000000 in
theorem row_is (w : World) (E : Nat → Addr) (hR : Rounds w) (he : ErrAt w w.heap.size 1 (E 0)) (ep er : Addr) (hep : ErrAt w w.heap.size 15 ep) (her : ErrAt w w.heap.size 13 er)
    (x y z : Bk) (hx : x.At w) (hy : y.At w) (hzz : z.At w) (rv : Array Value) (hrv : rv = x.val ++ (y.val ++ z.val)) :
    Calls Tryz.prog 30 #[.agg rv] w fun e w' => w.grownBy w' none ∧ ∃ ids : Array Value, ids.size = 48 ∧ (ids.all fun v => v.oneCell') = true ∧ ((rowN x y z = 0 ∧ ids = arrV .u8 (idD x ++ (idD y ++ idD z)) ∧ e = .returned (.tuple #[.agg ids, .nilIface])) ∨ (rowN x y z = 16 ∧ e = .returned (.tuple #[.agg ids, errV ep])) ∨ (rowN x y z = 14 ∧ e = .returned (.tuple #[.agg ids, errV er]))) := by
  obtain ⟨ZB, hZBs, hzb⟩ := zb_run
  obtain ⟨Z, hZ⟩ : ∃ Z, zD16 = Z := ⟨_, rfl⟩
  have hz : ∀ w, Sem.run Tryz.prog (zeroValue 24) w = .ok (.agg Z) w := fun w => by rw [← hZ]; exact z16run w
  have hZ16 : Z.size = 16 := by rw [← hZ, zD16, arr_size]; rfl
  obtain ⟨c0, hc0⟩ : ∃ c, (arrV .u8 z48) = c := ⟨_, rfl⟩
  have h48 : ∀ w, Sem.run Tryz.prog (zeroValue 83) w = .ok (.agg c0) w := fun w => by rw [← hc0]; exact z48run w
  obtain ⟨ia, hia⟩ : ∃ l, idD x = l := ⟨_, rfl⟩
  obtain ⟨ib, hib⟩ : ∃ l, idD y = l := ⟨_, rfl⟩
  obtain ⟨ic, hic⟩ : ∃ l, idD z = l := ⟨_, rfl⟩
  have la : ia.length = 16 := by rw [← hia]; exact idD_length x
  have lb : ib.length = 16 := by rw [← hib]; exact idD_length y
  have lc : ic.length = 16 := by rw [← hic]; exact idD_length z
  obtain ⟨c1, hc1⟩ : ∃ c, (arrV .u8 (ia ++ List.replicate 32 0)) = c := ⟨_, rfl⟩
  obtain ⟨c2, hc2⟩ : ∃ c, (arrV .u8 (ia ++ (ib ++ List.replicate 16 0))) = c := ⟨_, rfl⟩
  obtain ⟨c3, hc3⟩ : ∃ c, (arrV .u8 (ia ++ (ib ++ ic))) = c := ⟨_, rfl⟩
  obtain ⟨da, hda⟩ : ∃ c, arrV .u8 ia = c := ⟨_, rfl⟩
  obtain ⟨db, hdb⟩ : ∃ c, arrV .u8 ib = c := ⟨_, rfl⟩
  obtain ⟨dc, hdc⟩ : ∃ c, arrV .u8 ic = c := ⟨_, rfl⟩
  have s0 : c0.size = 48 := by rw [← hc0, arr_size]; rfl
  have s1 : c1.size = 48 := by rw [← hc1, arr_size]; simp [la]
  have s2 : c2.size = 48 := by rw [← hc2, arr_size]; simp [la, lb]
  have s3 : c3.size = 48 := by rw [← hc3, arr_size]; simp [la, lb, lc]
  have o0 : (c0.all fun v => v.oneCell') = true := by rw [← hc0]; exact arr_one _ _
  have o1 : (c1.all fun v => v.oneCell') = true := by rw [← hc1]; exact arr_one _ _
  have o2 : (c2.all fun v => v.oneCell') = true := by rw [← hc2]; exact arr_one _ _
  have o3 : (c3.all fun v => v.oneCell') = true := by rw [← hc3]; exact arr_one _ _
  have hda16 : da.size = 16 := by rw [← hda, arr_size, la]
  have hdb16 : db.size = 16 := by rw [← hdb, arr_size, lb]
  have hdc16 : dc.size = 16 := by rw [← hdc, arr_size, lc]
  have hda1 : (da.all fun v => v.oneCell') = true := by rw [← hda]; exact arr_one _ _
  have hdb1 : (db.all fun v => v.oneCell') = true := by rw [← hdb]; exact arr_one _ _
  have hdc1 : (dc.all fun v => v.oneCell') = true := by rw [← hdc]; exact arr_one _ _
  have P0 : ∀ (V : World) (q : Nat), Blk V q 83 c0 → Blk (V.setCells q 0 da.toList) q 83 c1 ∧ (V.setCells q 0 da.toList).rangeAt q 0 da.toList := fun V q h => by
    have h1 := put_ids [] z48 ia (o := 0) rfl la (by decide) (show Blk V q 83 (arrV .u8 ([] ++ z48)) by rw [List.nil_append, hc0]; exact h)
    rw [hda] at h1
    have e : arrV .u8 ([] ++ (ia ++ z48.drop 16)) = c1 := by rw [← hc1]; rfl
    have h2 := get_ids [] (z48.drop 16) ia (o := 0) rfl h1
    rw [hda] at h2
    rw [e] at h1
    exact ⟨h1, h2⟩
  have P1 : ∀ (V : World) (q : Nat), Blk V q 83 c1 → Blk (V.setCells q 16 db.toList) q 83 c2 ∧ (V.setCells q 16 db.toList).rangeAt q 16 db.toList := fun V q h => by
    have h1 := put_ids ia (List.replicate 32 0) ib (o := 16) la lb (by decide) (by rw [hc1]; exact h)
    rw [hdb] at h1
    have e : arrV .u8 (ia ++ (ib ++ (List.replicate 32 (0 : Int)).drop 16)) = c2 := by rw [← hc2]; rfl
    have h2 := get_ids ia ((List.replicate 32 (0 : Int)).drop 16) ib (o := 16) la h1
    rw [hdb] at h2
    rw [e] at h1
    exact ⟨h1, h2⟩
  have P2 : ∀ (V : World) (q : Nat), Blk V q 83 c2 → Blk (V.setCells q 32 dc.toList) q 83 c3 ∧ (V.setCells q 32 dc.toList).rangeAt q 32 dc.toList := fun V q h => by
    have h1 := put_ids (ia ++ ib) (List.replicate 16 0) ic (o := 32) (by simp [la, lb]) lc (by decide) (by rw [List.append_assoc, hc2]; exact h)
    rw [hdc] at h1
    have e : arrV .u8 ((ia ++ ib) ++ (ic ++ (List.replicate 16 (0 : Int)).drop 16)) = c3 := by rw [← hc3, List.append_assoc]; simp
    have h2 := get_ids (ia ++ ib) ((List.replicate 16 (0 : Int)).drop 16) ic (o := 32) (by simp [la, lb]) h1
    rw [hdc] at h2
    rw [e] at h1
    exact ⟨h1, h2⟩
  obtain ⟨xv, hxv⟩ : ∃ v, x.val = v := ⟨_, rfl⟩
  obtain ⟨yv, hyv⟩ : ∃ v, y.val = v := ⟨_, rfl⟩
  obtain ⟨zv, hzv⟩ : ∃ v, z.val = v := ⟨_, rfl⟩
  have sx : xv.size = 39 := by rw [← hxv]; exact bk_sizeE hx
  have sy : yv.size = 39 := by rw [← hyv]; exact bk_sizeE hy
  have sz : zv.size = 39 := by rw [← hzv]; exact bk_sizeE hzz
  have ox : (xv.all fun v => v.oneCell') = true := by rw [← hxv]; exact bk_oneE hx
  have oy : (yv.all fun v => v.oneCell') = true := by rw [← hyv]; exact bk_oneE hy
  have oz : (zv.all fun v => v.oneCell') = true := by rw [← hzv]; exact bk_oneE hzz
  rw [hxv, hyv, hzv] at hrv
  have srv : rv.size = 117 := by rw [hrv]; simp [sx, sy, sz]
  have ix0 : ∀ V, Sem.run Tryz.prog (Instr.index 52 (.agg rv) (.int .i64 0)) V = .ok (.agg xv) V := fun V => index_e V Tryz.underlying52 Tryz.underlying49 sz_Bke rv xv 0 0 rfl (by omega) (by rw [hrv]; simp [sx])
  have ix1 : ∀ V, Sem.run Tryz.prog (Instr.index 52 (.agg rv) (.int .i64 1)) V = .ok (.agg yv) V := fun V => index_e V Tryz.underlying52 Tryz.underlying49 sz_Bke rv yv 1 1 rfl (by omega) (by rw [hrv]; simp [sx, sy, List.drop_append, List.take_append])
  have ix2 : ∀ V, Sem.run Tryz.prog (Instr.index 52 (.agg rv) (.int .i64 2)) V = .ok (.agg zv) V := fun V => index_e V Tryz.underlying52 Tryz.underlying49 sz_Bke rv zv 2 2 rfl (by omega) (by
    have e1 : xv.toList.drop 78 = [] := List.drop_eq_nil_of_le (by simp [sx])
    have e2 : zv.toList.take 39 = zv.toList := List.take_of_length_le (by simp [sz])
    rw [hrv]; simp [sx, sy, List.drop_append, e1, e2])
  obtain ⟨W1, hW1⟩ : ∃ W1, ((w.alloc (.cells rv 52)).alloc (.cells c0 83)).alloc (.cells c0 83) = W1 := ⟨_, rfl⟩
  have g1 : w.grownBy W1 none := by rw [← hW1]; exact grown_trans (grown_trans (World.grownBy_alloc _ _ none) (World.grownBy_alloc _ _ none)) (World.grownBy_alloc _ _ none)
  have br : Blk W1 w.heap.size 52 rv := by rw [← hW1]; exact ((Blk.new w _ _).alloc _).alloc _
  have b2 : Blk W1 (w.heap.size + 1) 83 c0 := by
    have := (Blk.new (w.alloc (.cells rv 52)) 83 c0).alloc (.cells c0 83)
    rw [← hW1]; simpa using this
  have b4 : Blk W1 (w.heap.size + 2) 83 c0 := by
    have := Blk.new ((w.alloc (.cells rv 52)).alloc (.cells c0 83)) 83 c0
    rw [← hW1]; simpa using this
  have hat : ∀ W : World, w.grownBy W none → Rounds W ∧ ErrAt W W.heap.size 1 (E 0) ∧ x.At W ∧ y.At W ∧ z.At W := fun W hW =>
    ⟨hR.grown hW (by simp), ⟨hW.cell he.1 (by simp), by have := he.2; have := hW.size; omega⟩, hx.grown hW, hy.grown hW, hzz.grown hW⟩
  have I0 := Lib.hid (fun (W : World) (hW : w.grownBy W none) => id_is W (hat W hW).1 (hat W hW).2.1 x (hat W hW).2.2.1 xv hxv.symm da (by rw [hia, hda]))
  have I1 := Lib.hid (fun (W : World) (hW : w.grownBy W none) => id_is W (hat W hW).1 (hat W hW).2.1 y (hat W hW).2.2.2.1 yv hyv.symm db (by rw [hib, hdb]))
  have I2 := Lib.hid (fun (W : World) (hW : w.grownBy W none) => id_is W (hat W hW).1 (hat W hW).2.1 z (hat W hW).2.2.2.2 zv hzv.symm dc (by rw [hic, hdc]))
  have szb : ∀ v : Array Value, v.size = 39 → (Tryz.prog.info? 49).map (·.size) = some v.size := fun v h => by rw [h]; exact sz_Bke
  have szd : ∀ v : Array Value, v.size = 16 → (Tryz.prog.info? 24).map (·.size) = some v.size := fun v h => by rw [h]; exact sz_Dg
  have sz3 : ∀ v : Array Value, v.size = 48 → (Tryz.prog.info? 83).map (·.size) = some v.size := fun v h => by rw [h]; exact sz_D3
  have HSX := Lib.hid (And.intro (szb xv sx) (And.intro (szb yv sy) (And.intro (szb zv sz) (And.intro ox (And.intro oy (And.intro oz (And.intro (show ZB.size = xv.size by rw [sx, hZBs]) (And.intro (show ZB.size = yv.size by rw [sy, hZBs]) (show ZB.size = zv.size by rw [sz, hZBs])))))))))
  have HSD := Lib.hid (And.intro (szd da hda16) (And.intro (szd db hdb16) (And.intro (szd dc hdc16) (And.intro hda1 (And.intro hdb1 (And.intro hdc1 (And.intro (show Z.size = da.size by rw [hda16, hZ16]) (And.intro (show Z.size = db.size by rw [hdb16, hZ16]) (And.intro (show Z.size = dc.size by rw [hdc16, hZ16]) (And.intro hda16 (And.intro hdb16 hdc16)))))))))))
  have HSC := Lib.hid (And.intro (And.intro s0 (And.intro s1 (And.intro s2 s3))) (And.intro (And.intro o0 (And.intro o1 (And.intro o2 o3))) (And.intro (sz3 c0 s0) (And.intro (sz3 c1 s1) (And.intro (sz3 c2 s2) (sz3 c3 s3))))))
  have HP := Lib.hid (And.intro P0 (And.intro P1 P2))
  have HSX39 := Lib.hid sx
  have HBL := Lib.hid (And.intro hxv (And.intro hyv hzv))
  have HDG := Lib.hid (And.intro hx.1 (And.intro hy.1 hzz.1))
  have HIDS := Lib.hid (And.intro hia (And.intro hib (And.intro hic (And.intro la (And.intro lb hc3)))))
  have HX := Lib.hid (And.intro g1 (And.intro (range_blk0 br) (And.intro b2 (And.intro b4 br))))
  have HZR := Lib.hid (show (Tryz.prog.info? 52).map (·.size) = some rv.size by rw [srv]; exact sz_B3)
  have HEP := Lib.hid (fun (W : World) (hW : w.grownBy W none) => show W.cell? ⟨15, 0, none⟩ = some (errV ep) from hW.cell hep.1 (by simp))
  have HER := Lib.hid (fun (W : World) (hW : w.grownBy W none) => show W.cell? ⟨13, 0, none⟩ = some (errV er) from hW.cell her.1 (by simp))
  have HGL := Lib.hid (show (15 : Nat) < w.heap.size ∧ (13 : Nat) < w.heap.size from ⟨World.block_lt_of_cell? w _ hep.1, World.block_lt_of_cell? w _ her.1⟩)
  have heq1 : ∀ V, Sem.run Tryz.prog (Op.equalIn 10000 24 (.agg (arrV .u8 y.P)) (.agg da)) V = .ok (decide (y.P = ia)) V := fun V => by rw [← hda]; exact eqD V _ _ hy.1.1 la
  have heq2 : ∀ V, Sem.run Tryz.prog (Op.equalIn 10000 24 (.agg (arrV .u8 z.P)) (.agg db)) V = .ok (decide (z.P = ib)) V := fun V => by rw [← hdb]; exact eqD V _ _ hzz.1.1 lb
  obtain ⟨py, hpy⟩ : ∃ v, arrV .u8 y.P = v := ⟨_, rfl⟩
  obtain ⟨pz, hpz⟩ : ∃ v, arrV .u8 z.P = v := ⟨_, rfl⟩
  rw [hpy] at heq1
  rw [hpz] at heq2
  obtain ⟨m1, hm1⟩ : ∃ b, decide (y.P = ia) = b := ⟨_, rfl⟩
  obtain ⟨m2, hm2⟩ : ∃ b, decide (z.P = ib) = b := ⟨_, rfl⟩
  rw [hm1] at heq1
  rw [hm2] at heq2
  have HPP := Lib.hid (And.intro hpy (And.intro hpz (And.intro (szd py (by rw [← hpy, arr_size, hy.1.1])) (szd pz (by rw [← hpz, arr_size, hzz.1.1])))))
  have HMM := Lib.hid (And.intro hm1 hm2)
  obtain ⟨rx, hrx⟩ : ∃ v, x.r = v := ⟨_, rfl⟩
  obtain ⟨ry, hry⟩ : ∃ v, y.r = v := ⟨_, rfl⟩
  obtain ⟨rz, hrz⟩ : ∃ v, z.r = v := ⟨_, rfl⟩
  have HRR := Lib.hid (And.intro hrx (And.intro hry hrz))
  have HRN := Lib.hid hrv
  have HW := Lib.hid hW1
  clear hZBs hZ hZ16 hc0 hia hib hic la lb lc hc1 hc2 hc3 hda hdb hdc s0 s1 s2 s3 o0 o1 o2 o3 hda16 hdb16 hdc16 hda1 hdb1 hdc1 P0 P1 P2 hxv hyv hzv sx sy sz ox oy oz srv g1 br b2 b4 hat szb szd sz3 hm1 hm2 hpy hpz hrx hry hrz hrv hW1 hx hy hzz hR he hep her
  go_enter Tryz.func30, Tryz.ntmps30
  go_upto_region 2 with (fail)
  rw [HW.out]
  go_wp2_with (refine wpList_load_mid rfl 52 _ rfl (w.heap.size) 0 rfl rv.toList _ HX.out.2.1 Tryz.underlying52 rfl (by rw [Array.length_toList]; exact HZR.out) ?_; rw [Array.toArray_toList])
  refine wp_loop_rounds 4 ?_
  rw [rounds_succ]
  have HBS0 := Lib.hid (show w.grownBy W1 none ∧ Blk W1 w.heap.size 52 rv ∧ Blk W1 (w.heap.size + 1) 83 c0 ∧ Blk W1 (w.heap.size + 2) 83 c0 from ⟨HX.out.1, HX.out.2.2.2.2, HX.out.2.2.1, HX.out.2.2.2.1⟩)
  obtain ⟨q10, hq10⟩ : ∃ q, W1.heap.size = q := ⟨_, rfl⟩
  obtain ⟨W10, hW10⟩ : ∃ W, (W1.alloc (.cells ZB 49)).setRow q10 xv = W := ⟨_, rfl⟩
  have bn10 : Blk (W1.alloc (.cells ZB 49)) q10 49 ZB := by rw [← hq10]; exact Blk.new W1 49 ZB
  have b10 : Blk W10 q10 49 xv := by rw [← hW10]; exact bn10.row _
  have g10 : W1.grownBy W10 none := by rw [← hW10]; exact grown_row (World.grownBy_alloc _ _ none) (.inl (by rw [hq10]; exact Nat.le_refl _)) _
  have HP10 := Lib.hid (And.intro bn10 hW10)
  have HB10 := Lib.hid b10
  clear bn10 hW10 b10
  have HGg10 := Lib.hid g10
  clear g10
  go_upto_region 5 with (refine wpList_store_row rfl 49 _ _ rfl (q10) xv rfl rfl 49 _ HP10.out.1 (HSX.out.1) (HSX.out.2.2.2.2.2.2.1) HSX.out.2.2.2.1 ?_)
  rw [HP10.out.2]
  clear hq10
  go_wp2_with (refine wpList_load_mid rfl 49 _ rfl (q10) 0 rfl xv.toList _ (range_blk0 HB10.out) Tryz.underlying49 rfl (by rw [Array.length_toList]; exact HSX.out.1) ?_; rw [Array.toArray_toList])
  refine (I0.out W10 (grown_trans HBS0.out.1 HGg10.out)).mono ?_
  rintro e w11 ⟨rfl, g11⟩
  have HGg11 := Lib.hid g11
  clear g11
  obtain ⟨v0, hv0⟩ : ∃ v, evOf E (bkS x).1 = v := ⟨_, rfl⟩
  rw [hv0]
  have HV0 := Lib.hid hv0
  clear hv0
  obtain ⟨q12, hq12⟩ : ∃ q, w11.heap.size = q := ⟨_, rfl⟩
  obtain ⟨W12, hW12⟩ : ∃ W, (w11.alloc (.cells Z 24)).setRow q12 da = W := ⟨_, rfl⟩
  have bn12 : Blk (w11.alloc (.cells Z 24)) q12 24 Z := by rw [← hq12]; exact Blk.new w11 24 Z
  have b12 : Blk W12 q12 24 da := by rw [← hW12]; exact bn12.row _
  have g12 : w11.grownBy W12 none := by rw [← hW12]; exact grown_row (World.grownBy_alloc _ _ none) (.inl (by rw [hq12]; exact Nat.le_refl _)) _
  have HP12 := Lib.hid (And.intro bn12 hW12)
  have HB12 := Lib.hid b12
  clear bn12 hW12 b12
  have HGg12 := Lib.hid g12
  clear g12
  go_upto_region 6 with (refine wpList_store_row rfl 24 _ _ rfl (q12) da rfl rfl 24 _ HP12.out.1 (HSD.out.1) (HSD.out.2.2.2.2.2.2.1) HSD.out.2.2.2.1 ?_)
  rw [HP12.out.2]
  clear hq12
  have HPB := Lib.hid (bk_parts (HDG.out.1).1 (show Blk W12 q10 49 x.val by rw [HBL.out.1]; exact HB10.out.grown (grown_trans HGg11.out HGg12.out) (by simp)))
  cases hb0 : (bkS x).1 with
  | succ kk =>
    obtain rfl : v0 = errV (E kk) := by rw [← HV0.out, hb0]; rfl
    have HNE := Lib.hid (show (bkS x).1 ≠ 0 by rw [hb0]; exact Nat.succ_ne_zero kk)
    clear hb0
    refine wp_region_quiet_lit (by kernel_rfl) (by kernel_rfl) ?_
    repeat (first
      | go_big_quiet_skip
      | (go_big_quiet_want; first
        | (go_big_quiet_op; go_big_quiet_on)))
    refine wpQuiet_nil ?_
    intro V9 hV9
    obtain ⟨n9, rfl⟩ := hV9
    obtain ⟨V, hV⟩ : ∃ V, W12.drewN n9 = V := ⟨_, rfl⟩
    have gV : W12.grownBy V none := by
      rw [← hV]
      have g9 := World.grownBy.refl W12 none
      exact ⟨g9.os, g9.tape, g9.output, g9.size, g9.block⟩
    rw [hV]
    have HGV := Lib.hid gV
    clear hV gV
    have HVF := Lib.hid (And.intro (HEP.out V (grown_trans HBS0.out.1 (grown_trans (grown_trans (grown_trans HGg10.out HGg11.out) HGg12.out) HGV.out))) (And.intro (HBS0.out.2.2.1.grown (grown_trans (grown_trans (grown_trans HGg10.out HGg11.out) HGg12.out) HGV.out) (by simp)) (And.intro (HBS0.out.2.2.2.grown (grown_trans (grown_trans (grown_trans HGg10.out HGg11.out) HGg12.out) HGV.out) (by simp)) (grown_trans HBS0.out.1 (grown_trans (grown_trans (grown_trans HGg10.out HGg11.out) HGg12.out) HGV.out)))))
    go_upto_region 7 with (fail)
    refine wp_region_held_drew (S := fun V => V.cell? ⟨15, 0, none⟩ = some (errV ep) ∧ V.rangeAt (w.heap.size + 2) 0 c0.toList) (by kernel_rfl) ⟨HVF.out.1, range_blk0 HVF.out.2.2.1⟩ (fun hHeld => ?_)
    refine wpAnyH_take (i := 0) (oi := _) (v := .agg c0) rfl (by kernel_rfl) (by kernel_rfl) (by kernel_rfl) (fun _ _ _ h => h) (yieldsIf_load_mid (by rfl) _ _ rfl (w.heap.size + 2) 0 rfl c0.toList _ (fun V hSw => hSw.2) Tryz.underlying83 rfl (by rw [Array.length_toList]; exact HSC.out.2.2.1)) (by assumption) ?restz1_0
    try simp only [Act.put, List.getElem_toArray, List.getElem_cons_succ, List.getElem_cons_zero, List.setIfInBounds_toArray, List.set_cons_zero, List.set_cons_succ]
    refine wpAnyH_take (i := 1) (oi := _) (v := ?vz1_1) rfl (by kernel_rfl) (by kernel_rfl) (by kernel_rfl) (fun _ _ _ h => h) (Or.inl ⟨by rfl, ?hyz1_1⟩) (by assumption) ?restz1_1
    case hyz1_1 => (intro V hSw; obtain ⟨hSw1, hSw2⟩ := hSw; go_simp) <;> with_reducible rfl
    try simp only [Act.put, List.getElem_toArray, List.getElem_cons_succ, List.getElem_cons_zero, List.setIfInBounds_toArray, List.set_cons_zero, List.set_cons_succ]
    refine wpAnyH_ready (rs := [2]) (by kernel_rfl) (by simp) ?_
    refine (AllReadyH.cons (o := _) rfl (fun K9 hK => ?_) AllReadyH.nil)
    refine ready_store_e (by rfl) 83 _ _ rfl (w.heap.size + 1) 0 c0 rfl rfl (there_blk (show Blk V.drew (w.heap.size + 1) 83 c0 from HVF.out.2.1) (by have h1 := HSC.out.1.1; have h2 := HSC.out.1.1; omega)) HSC.out.2.2.1 HSC.out.2.1.1 ?_
    rw [setCells_row (P := Tryz.prog) (ty := 83) (show Blk V.drew (w.heap.size + 1) 83 c0 from HVF.out.2.1) HSC.out.2.2.1 (by have h1 := HSC.out.1.1; have h2 := HSC.out.1.1; omega) HSC.out.2.1.1]
    refine hK.out _ _ ⟨(row_kept_e c0).cell (show V.drew.cell? ⟨15, 0, none⟩ = some (errV ep) from HVF.out.1) (show ¬ (15 : Nat) = w.heap.size + 1 by have := HGL.out.1; omega), range_row_far (show V.drew.rangeAt (w.heap.size + 2) 0 c0.toList from range_blk0 HVF.out.2.2.1) (by omega) _⟩ (fun hHeld => ?_)
    clear hK K9
    try simp only [Act.put, List.getElem_toArray, List.getElem_cons_succ, List.getElem_cons_zero, List.setIfInBounds_toArray, List.set_cons_zero, List.set_cons_succ]
    refine wpAnyH_take (i := 3) (oi := _) (v := ?vz1_3) rfl (by kernel_rfl) (by kernel_rfl) (by kernel_rfl) (fun _ _ _ h => h) (Or.inl ⟨by rfl, ?hyz1_3⟩) (by assumption) ?restz1_3
    case hyz1_3 => (intro V hSw; obtain ⟨hSw1, hSw2⟩ := hSw; go_simp) <;> with_reducible rfl
    try simp only [Act.put, List.getElem_toArray, List.getElem_cons_succ, List.getElem_cons_zero, List.setIfInBounds_toArray, List.set_cons_zero, List.set_cons_succ]
    refine wpAnyH_done (by kernel_rfl) ?_ _
    go_wp2_with fail
    refine bodyPost_ret (results_cell_t rfl _ _ _ ⟨w.heap.size + 1, 0, none⟩ (.agg c0) rfl (run_loadVar_row _ (w.heap.size + 1) 83 83 _ (0, 0) _ ((show Blk V.drew (w.heap.size + 1) 83 c0 from HVF.out.2.1).row _) Tryz.underlying83 rfl HSC.out.2.2.1)) rfl ?_
    exact ⟨grown_row (show w.grownBy V.drew none from grown_drew HVF.out.2.2.2) (.inl (by omega)) _, c0, HSC.out.1.1, (by first | exact HSC.out.2.1.1 | simpa using HSC.out.2.1.1), .inr (.inl ⟨by unfold rowN; simp [HNE.out], rfl⟩)⟩
  | zero =>
    obtain rfl : v0 = .nilIface := by rw [← HV0.out, hb0]; rfl
    have HN0 := Lib.hid hb0
    clear hb0
    refine wp_region_quiet_lit (by kernel_rfl) (by kernel_rfl) ?_
    repeat (first
      | go_big_quiet_skip
      | (go_big_quiet_want; first
        | (go_big_quiet_op; go_big_quiet_on)))
    refine wpQuiet_nil ?_
    intro V9 hV9
    obtain ⟨n9, rfl⟩ := hV9
    obtain ⟨V, hV⟩ : ∃ V, W12.drewN n9 = V := ⟨_, rfl⟩
    have gV : W12.grownBy V none := by
      rw [← hV]
      have g9 := World.grownBy.refl W12 none
      exact ⟨g9.os, g9.tape, g9.output, g9.size, g9.block⟩
    rw [hV]
    have HGV := Lib.hid gV
    clear hV gV
    have HV4 := Lib.hid (And.intro (HBS0.out.2.2.2.grown (grown_trans (grown_trans (grown_trans HGg10.out HGg11.out) HGg12.out) HGV.out) (by simp)) (And.intro (grown_trans HBS0.out.1 (grown_trans (grown_trans (grown_trans HGg10.out HGg11.out) HGg12.out) HGV.out)) (And.intro (HBS0.out.2.1.grown (grown_trans (grown_trans (grown_trans HGg10.out HGg11.out) HGg12.out) HGV.out) (by simp)) (HBS0.out.2.2.1.grown (grown_trans (grown_trans (grown_trans HGg10.out HGg11.out) HGg12.out) HGV.out) (by simp)))))
    obtain ⟨B1, hB1⟩ : ∃ B, V.setCells (w.heap.size + 2) 0 da.toList = B := ⟨_, rfl⟩
    have HW8 := Lib.hid hB1
    have HBS1 := Lib.hid (show w.grownBy B1 none ∧ Blk B1 w.heap.size 52 rv ∧ Blk B1 (w.heap.size + 1) 83 c0 ∧ Blk B1 (w.heap.size + 2) 83 c1 by
      rw [← hB1]
      exact ⟨grown_far_cells _ (by omega) _ _ _ HV4.out.2.1, HV4.out.2.2.1.kept (kept_cells_e _ _ _) (show ¬ w.heap.size = w.heap.size + 2 by omega), HV4.out.2.2.2.kept (kept_cells_e _ _ _) (show ¬ w.heap.size + 1 = w.heap.size + 2 by omega), (HP.out.1 V _ HV4.out.1).1⟩)
    have HRD1 := Lib.hid (show B1.rangeAt (w.heap.size + 2) 0 da.toList by rw [← hB1]; exact (HP.out.1 V _ HV4.out.1).2)
    clear hB1
    go_upto_region 9 with (first
      | (refine wpList_load_mid rfl 24 _ rfl (q12) 0 rfl da.toList _ (range_blk0 (HB12.out.grown HGV.out (by simp))) Tryz.underlying24 rfl (by rw [Array.length_toList]; exact HSD.out.1) ?_; rw [Array.toArray_toList])
      | (refine wpList_store_mid rfl 24 _ _ rfl (w.heap.size + 2) 0 da rfl rfl (there_mid_e HV4.out.1 (by rw [HSC.out.1.1, HSD.out.2.2.2.2.2.2.2.2.2.1]; omega)) HSD.out.1 HSD.out.2.2.2.1 ?_))
    rw [HW8.out]
    go_wp2_with fail
    rw [rounds_succ]
    obtain ⟨q20, hq20⟩ : ∃ q, B1.heap.size = q := ⟨_, rfl⟩
    obtain ⟨W20, hW20⟩ : ∃ W, (B1.alloc (.cells ZB 49)).setRow q20 yv = W := ⟨_, rfl⟩
    have bn20 : Blk (B1.alloc (.cells ZB 49)) q20 49 ZB := by rw [← hq20]; exact Blk.new B1 49 ZB
    have b20 : Blk W20 q20 49 yv := by rw [← hW20]; exact bn20.row _
    have g20 : B1.grownBy W20 none := by rw [← hW20]; exact grown_row (World.grownBy_alloc _ _ none) (.inl (by rw [hq20]; exact Nat.le_refl _)) _
    have HP20 := Lib.hid (And.intro bn20 hW20)
    have HB20 := Lib.hid b20
    clear bn20 hW20 b20
    have HGg20 := Lib.hid g20
    clear g20
    go_upto_region 5 with (refine wpList_store_row rfl 49 _ _ rfl (q20) yv rfl rfl 49 _ HP20.out.1 (HSX.out.2.1) (HSX.out.2.2.2.2.2.2.2.1) HSX.out.2.2.2.2.1 ?_)
    rw [HP20.out.2]
    clear hq20
    go_wp2_with (refine wpList_load_mid rfl 49 _ rfl (q20) 0 rfl yv.toList _ (range_blk0 HB20.out) Tryz.underlying49 rfl (by rw [Array.length_toList]; exact HSX.out.2.1) ?_; rw [Array.toArray_toList])
    refine (I1.out W20 (grown_trans HBS1.out.1 HGg20.out)).mono ?_
    rintro e w21 ⟨rfl, g21⟩
    have HGg21 := Lib.hid g21
    clear g21
    obtain ⟨v1, hv1⟩ : ∃ v, evOf E (bkS y).1 = v := ⟨_, rfl⟩
    rw [hv1]
    have HV1 := Lib.hid hv1
    clear hv1
    obtain ⟨q22, hq22⟩ : ∃ q, w21.heap.size = q := ⟨_, rfl⟩
    obtain ⟨W22, hW22⟩ : ∃ W, (w21.alloc (.cells Z 24)).setRow q22 db = W := ⟨_, rfl⟩
    have bn22 : Blk (w21.alloc (.cells Z 24)) q22 24 Z := by rw [← hq22]; exact Blk.new w21 24 Z
    have b22 : Blk W22 q22 24 db := by rw [← hW22]; exact bn22.row _
    have g22 : w21.grownBy W22 none := by rw [← hW22]; exact grown_row (World.grownBy_alloc _ _ none) (.inl (by rw [hq22]; exact Nat.le_refl _)) _
    have HP22 := Lib.hid (And.intro bn22 hW22)
    have HB22 := Lib.hid b22
    clear bn22 hW22 b22
    have HGg22 := Lib.hid g22
    clear g22
    go_upto_region 6 with (refine wpList_store_row rfl 24 _ _ rfl (q22) db rfl rfl 24 _ HP22.out.1 (HSD.out.2.1) (HSD.out.2.2.2.2.2.2.2.1) HSD.out.2.2.2.2.1 ?_)
    rw [HP22.out.2]
    clear hq22
    have HPB := Lib.hid (bk_parts (HDG.out.2.1).1 (show Blk W22 q20 49 y.val by rw [HBL.out.2.1]; exact HB20.out.grown (grown_trans HGg21.out HGg22.out) (by simp)))
    cases hb1 : (bkS y).1 with
    | succ kk =>
      obtain rfl : v1 = errV (E kk) := by rw [← HV1.out, hb1]; rfl
      have HNE := Lib.hid (show (bkS y).1 ≠ 0 by rw [hb1]; exact Nat.succ_ne_zero kk)
      clear hb1
      refine wp_region_quiet_lit (by kernel_rfl) (by kernel_rfl) ?_
      repeat (first
        | go_big_quiet_skip
        | (go_big_quiet_want; first
          | (go_big_quiet_op; go_big_quiet_on)))
      refine wpQuiet_nil ?_
      intro V9 hV9
      obtain ⟨n9, rfl⟩ := hV9
      obtain ⟨V, hV⟩ : ∃ V, W22.drewN n9 = V := ⟨_, rfl⟩
      have gV : W22.grownBy V none := by
        rw [← hV]
        have g9 := World.grownBy.refl W22 none
        exact ⟨g9.os, g9.tape, g9.output, g9.size, g9.block⟩
      rw [hV]
      have HGV := Lib.hid gV
      clear hV gV
      have HVF := Lib.hid (And.intro (HEP.out V (grown_trans HBS1.out.1 (grown_trans (grown_trans (grown_trans HGg20.out HGg21.out) HGg22.out) HGV.out))) (And.intro (HBS1.out.2.2.1.grown (grown_trans (grown_trans (grown_trans HGg20.out HGg21.out) HGg22.out) HGV.out) (by simp)) (And.intro (HBS1.out.2.2.2.grown (grown_trans (grown_trans (grown_trans HGg20.out HGg21.out) HGg22.out) HGV.out) (by simp)) (grown_trans HBS1.out.1 (grown_trans (grown_trans (grown_trans HGg20.out HGg21.out) HGg22.out) HGV.out)))))
      go_upto_region 7 with (fail)
      refine wp_region_held_drew (S := fun V => V.cell? ⟨15, 0, none⟩ = some (errV ep) ∧ V.rangeAt (w.heap.size + 2) 0 c1.toList) (by kernel_rfl) ⟨HVF.out.1, range_blk0 HVF.out.2.2.1⟩ (fun hHeld => ?_)
      refine wpAnyH_take (i := 0) (oi := _) (v := .agg c1) rfl (by kernel_rfl) (by kernel_rfl) (by kernel_rfl) (fun _ _ _ h => h) (yieldsIf_load_mid (by rfl) _ _ rfl (w.heap.size + 2) 0 rfl c1.toList _ (fun V hSw => hSw.2) Tryz.underlying83 rfl (by rw [Array.length_toList]; exact HSC.out.2.2.2.1)) (by assumption) ?restz2_0
      try simp only [Act.put, List.getElem_toArray, List.getElem_cons_succ, List.getElem_cons_zero, List.setIfInBounds_toArray, List.set_cons_zero, List.set_cons_succ]
      refine wpAnyH_take (i := 1) (oi := _) (v := ?vz2_1) rfl (by kernel_rfl) (by kernel_rfl) (by kernel_rfl) (fun _ _ _ h => h) (Or.inl ⟨by rfl, ?hyz2_1⟩) (by assumption) ?restz2_1
      case hyz2_1 => (intro V hSw; obtain ⟨hSw1, hSw2⟩ := hSw; go_simp) <;> with_reducible rfl
      try simp only [Act.put, List.getElem_toArray, List.getElem_cons_succ, List.getElem_cons_zero, List.setIfInBounds_toArray, List.set_cons_zero, List.set_cons_succ]
      refine wpAnyH_ready (rs := [2]) (by kernel_rfl) (by simp) ?_
      refine (AllReadyH.cons (o := _) rfl (fun K9 hK => ?_) AllReadyH.nil)
      refine ready_store_e (by rfl) 83 _ _ rfl (w.heap.size + 1) 0 c1 rfl rfl (there_blk (show Blk V.drew (w.heap.size + 1) 83 c0 from HVF.out.2.1) (by have h1 := HSC.out.1.2.1; have h2 := HSC.out.1.1; omega)) HSC.out.2.2.2.1 HSC.out.2.1.2.1 ?_
      rw [setCells_row (P := Tryz.prog) (ty := 83) (show Blk V.drew (w.heap.size + 1) 83 c0 from HVF.out.2.1) HSC.out.2.2.2.1 (by have h1 := HSC.out.1.2.1; have h2 := HSC.out.1.1; omega) HSC.out.2.1.2.1]
      refine hK.out _ _ ⟨(row_kept_e c1).cell (show V.drew.cell? ⟨15, 0, none⟩ = some (errV ep) from HVF.out.1) (show ¬ (15 : Nat) = w.heap.size + 1 by have := HGL.out.1; omega), range_row_far (show V.drew.rangeAt (w.heap.size + 2) 0 c1.toList from range_blk0 HVF.out.2.2.1) (by omega) _⟩ (fun hHeld => ?_)
      clear hK K9
      try simp only [Act.put, List.getElem_toArray, List.getElem_cons_succ, List.getElem_cons_zero, List.setIfInBounds_toArray, List.set_cons_zero, List.set_cons_succ]
      refine wpAnyH_take (i := 3) (oi := _) (v := ?vz2_3) rfl (by kernel_rfl) (by kernel_rfl) (by kernel_rfl) (fun _ _ _ h => h) (Or.inl ⟨by rfl, ?hyz2_3⟩) (by assumption) ?restz2_3
      case hyz2_3 => (intro V hSw; obtain ⟨hSw1, hSw2⟩ := hSw; go_simp) <;> with_reducible rfl
      try simp only [Act.put, List.getElem_toArray, List.getElem_cons_succ, List.getElem_cons_zero, List.setIfInBounds_toArray, List.set_cons_zero, List.set_cons_succ]
      refine wpAnyH_done (by kernel_rfl) ?_ _
      go_wp2_with fail
      refine bodyPost_ret (results_cell_t rfl _ _ _ ⟨w.heap.size + 1, 0, none⟩ (.agg c1) rfl (run_loadVar_row _ (w.heap.size + 1) 83 83 _ (0, 0) _ ((show Blk V.drew (w.heap.size + 1) 83 c0 from HVF.out.2.1).row _) Tryz.underlying83 rfl HSC.out.2.2.2.1)) rfl ?_
      exact ⟨grown_row (show w.grownBy V.drew none from grown_drew HVF.out.2.2.2) (.inl (by omega)) _, c1, HSC.out.1.2.1, (by first | exact HSC.out.2.1.2.1 | simpa using HSC.out.2.1.2.1), .inr (.inl ⟨by unfold rowN; simp [HN0.out, HNE.out], rfl⟩)⟩
    | zero =>
      obtain rfl : v1 = .nilIface := by rw [← HV1.out, hb1]; rfl
      have HN1 := Lib.hid hb1
      clear hb1
      have HRP := Lib.hid (And.intro (show W22.rangeAt q20 2 py.toList by rw [← HPP.out.1]; exact HPB.out.2) (range_kept HRD1.out (grown_trans (grown_trans HGg20.out HGg21.out) HGg22.out)))
      cases m1 with
      | false =>
        have HM := Lib.hid (show y.P ≠ idD x from by rw [HIDS.out.1]; exact of_decide_eq_false HMM.out.1)
        refine wp_region_quiet_lit (by kernel_rfl) (by kernel_rfl) ?_
        repeat (first
          | go_big_quiet_skip
          | (go_big_quiet_want; first
            | (refine quiet_load_mid 24 _ rfl (q20) 2 rfl py.toList _ (fun W hW => by obtain ⟨n9, rfl⟩ := hW; exact HRP.out.1) Tryz.underlying24 rfl (by rw [Array.length_toList]; exact HPP.out.2.2.1) ?_; try rw [Array.toArray_toList]; simp only [Act.put, List.setIfInBounds_toArray, List.set_cons_zero, List.set_cons_succ]; go_big_quiet_on)
            | (refine quiet_load_mid 24 _ rfl (w.heap.size + 2) 0 rfl da.toList _ (fun W hW => by obtain ⟨n9, rfl⟩ := hW; exact HRP.out.2) Tryz.underlying24 rfl (by rw [Array.length_toList]; exact HSD.out.1) ?_; try rw [Array.toArray_toList]; simp only [Act.put, List.setIfInBounds_toArray, List.set_cons_zero, List.set_cons_succ]; go_big_quiet_on)
            | (go_big_quiet_op; go_big_quiet_on)))
        refine wpQuiet_nil ?_
        intro V9 hV9
        obtain ⟨n9, rfl⟩ := hV9
        obtain ⟨V, hV⟩ : ∃ V, W22.drewN n9 = V := ⟨_, rfl⟩
        have gV : W22.grownBy V none := by
          rw [← hV]
          have g9 := World.grownBy.refl W22 none
          exact ⟨g9.os, g9.tape, g9.output, g9.size, g9.block⟩
        rw [hV]
        have HGV := Lib.hid gV
        clear hV gV
        have HVF := Lib.hid (And.intro (HEP.out V (grown_trans HBS1.out.1 (grown_trans (grown_trans (grown_trans HGg20.out HGg21.out) HGg22.out) HGV.out))) (And.intro (HBS1.out.2.2.1.grown (grown_trans (grown_trans (grown_trans HGg20.out HGg21.out) HGg22.out) HGV.out) (by simp)) (And.intro (HBS1.out.2.2.2.grown (grown_trans (grown_trans (grown_trans HGg20.out HGg21.out) HGg22.out) HGV.out) (by simp)) (grown_trans HBS1.out.1 (grown_trans (grown_trans (grown_trans HGg20.out HGg21.out) HGg22.out) HGV.out)))))
        go_upto_region 7 with (fail)
        refine wp_region_held_drew (S := fun V => V.cell? ⟨15, 0, none⟩ = some (errV ep) ∧ V.rangeAt (w.heap.size + 2) 0 c1.toList) (by kernel_rfl) ⟨HVF.out.1, range_blk0 HVF.out.2.2.1⟩ (fun hHeld => ?_)
        refine wpAnyH_take (i := 0) (oi := _) (v := .agg c1) rfl (by kernel_rfl) (by kernel_rfl) (by kernel_rfl) (fun _ _ _ h => h) (yieldsIf_load_mid (by rfl) _ _ rfl (w.heap.size + 2) 0 rfl c1.toList _ (fun V hSw => hSw.2) Tryz.underlying83 rfl (by rw [Array.length_toList]; exact HSC.out.2.2.2.1)) (by assumption) ?restz3_0
        try simp only [Act.put, List.getElem_toArray, List.getElem_cons_succ, List.getElem_cons_zero, List.setIfInBounds_toArray, List.set_cons_zero, List.set_cons_succ]
        refine wpAnyH_take (i := 1) (oi := _) (v := ?vz3_1) rfl (by kernel_rfl) (by kernel_rfl) (by kernel_rfl) (fun _ _ _ h => h) (Or.inl ⟨by rfl, ?hyz3_1⟩) (by assumption) ?restz3_1
        case hyz3_1 => (intro V hSw; obtain ⟨hSw1, hSw2⟩ := hSw; go_simp) <;> with_reducible rfl
        try simp only [Act.put, List.getElem_toArray, List.getElem_cons_succ, List.getElem_cons_zero, List.setIfInBounds_toArray, List.set_cons_zero, List.set_cons_succ]
        refine wpAnyH_ready (rs := [2]) (by kernel_rfl) (by simp) ?_
        refine (AllReadyH.cons (o := _) rfl (fun K9 hK => ?_) AllReadyH.nil)
        refine ready_store_e (by rfl) 83 _ _ rfl (w.heap.size + 1) 0 c1 rfl rfl (there_blk (show Blk V.drew (w.heap.size + 1) 83 c0 from HVF.out.2.1) (by have h1 := HSC.out.1.2.1; have h2 := HSC.out.1.1; omega)) HSC.out.2.2.2.1 HSC.out.2.1.2.1 ?_
        rw [setCells_row (P := Tryz.prog) (ty := 83) (show Blk V.drew (w.heap.size + 1) 83 c0 from HVF.out.2.1) HSC.out.2.2.2.1 (by have h1 := HSC.out.1.2.1; have h2 := HSC.out.1.1; omega) HSC.out.2.1.2.1]
        refine hK.out _ _ ⟨(row_kept_e c1).cell (show V.drew.cell? ⟨15, 0, none⟩ = some (errV ep) from HVF.out.1) (show ¬ (15 : Nat) = w.heap.size + 1 by have := HGL.out.1; omega), range_row_far (show V.drew.rangeAt (w.heap.size + 2) 0 c1.toList from range_blk0 HVF.out.2.2.1) (by omega) _⟩ (fun hHeld => ?_)
        clear hK K9
        try simp only [Act.put, List.getElem_toArray, List.getElem_cons_succ, List.getElem_cons_zero, List.setIfInBounds_toArray, List.set_cons_zero, List.set_cons_succ]
        refine wpAnyH_take (i := 3) (oi := _) (v := ?vz3_3) rfl (by kernel_rfl) (by kernel_rfl) (by kernel_rfl) (fun _ _ _ h => h) (Or.inl ⟨by rfl, ?hyz3_3⟩) (by assumption) ?restz3_3
        case hyz3_3 => (intro V hSw; obtain ⟨hSw1, hSw2⟩ := hSw; go_simp) <;> with_reducible rfl
        try simp only [Act.put, List.getElem_toArray, List.getElem_cons_succ, List.getElem_cons_zero, List.setIfInBounds_toArray, List.set_cons_zero, List.set_cons_succ]
        refine wpAnyH_done (by kernel_rfl) ?_ _
        go_wp2_with fail
        refine bodyPost_ret (results_cell_t rfl _ _ _ ⟨w.heap.size + 1, 0, none⟩ (.agg c1) rfl (run_loadVar_row _ (w.heap.size + 1) 83 83 _ (0, 0) _ ((show Blk V.drew (w.heap.size + 1) 83 c0 from HVF.out.2.1).row _) Tryz.underlying83 rfl HSC.out.2.2.2.1)) rfl ?_
        exact ⟨grown_row (show w.grownBy V.drew none from grown_drew HVF.out.2.2.2) (.inl (by omega)) _, c1, HSC.out.1.2.1, (by first | exact HSC.out.2.1.2.1 | simpa using HSC.out.2.1.2.1), .inr (.inl ⟨by unfold rowN; simp [HN0.out, HN1.out, HM.out], rfl⟩)⟩
      | true =>
        have HT1 := Lib.hid (show y.P = idD x from by rw [HIDS.out.1]; exact of_decide_eq_true HMM.out.1)
        refine wp_region_quiet_lit (by kernel_rfl) (by kernel_rfl) ?_
        repeat (first
          | go_big_quiet_skip
          | (go_big_quiet_want; first
            | (refine quiet_load_mid 24 _ rfl (q20) 2 rfl py.toList _ (fun W hW => by obtain ⟨n9, rfl⟩ := hW; exact HRP.out.1) Tryz.underlying24 rfl (by rw [Array.length_toList]; exact HPP.out.2.2.1) ?_; try rw [Array.toArray_toList]; simp only [Act.put, List.setIfInBounds_toArray, List.set_cons_zero, List.set_cons_succ]; go_big_quiet_on)
            | (refine quiet_load_mid 24 _ rfl (w.heap.size + 2) 0 rfl da.toList _ (fun W hW => by obtain ⟨n9, rfl⟩ := hW; exact HRP.out.2) Tryz.underlying24 rfl (by rw [Array.length_toList]; exact HSD.out.1) ?_; try rw [Array.toArray_toList]; simp only [Act.put, List.setIfInBounds_toArray, List.set_cons_zero, List.set_cons_succ]; go_big_quiet_on)
            | (go_big_quiet_op; go_big_quiet_on)))
        refine wpQuiet_nil ?_
        intro V9 hV9
        obtain ⟨n9, rfl⟩ := hV9
        obtain ⟨V, hV⟩ : ∃ V, W22.drewN n9 = V := ⟨_, rfl⟩
        have gV : W22.grownBy V none := by
          rw [← hV]
          have g9 := World.grownBy.refl W22 none
          exact ⟨g9.os, g9.tape, g9.output, g9.size, g9.block⟩
        rw [hV]
        have HGV := Lib.hid gV
        clear hV gV
        have HV4 := Lib.hid (And.intro (HBS1.out.2.2.2.grown (grown_trans (grown_trans (grown_trans HGg20.out HGg21.out) HGg22.out) HGV.out) (by simp)) (And.intro (grown_trans HBS1.out.1 (grown_trans (grown_trans (grown_trans HGg20.out HGg21.out) HGg22.out) HGV.out)) (And.intro (HBS1.out.2.1.grown (grown_trans (grown_trans (grown_trans HGg20.out HGg21.out) HGg22.out) HGV.out) (by simp)) (HBS1.out.2.2.1.grown (grown_trans (grown_trans (grown_trans HGg20.out HGg21.out) HGg22.out) HGV.out) (by simp)))))
        obtain ⟨B2, hB2⟩ : ∃ B, V.setCells (w.heap.size + 2) 16 db.toList = B := ⟨_, rfl⟩
        have HW8 := Lib.hid hB2
        have HBS2 := Lib.hid (show w.grownBy B2 none ∧ Blk B2 w.heap.size 52 rv ∧ Blk B2 (w.heap.size + 1) 83 c0 ∧ Blk B2 (w.heap.size + 2) 83 c2 by
          rw [← hB2]
          exact ⟨grown_far_cells _ (by omega) _ _ _ HV4.out.2.1, HV4.out.2.2.1.kept (kept_cells_e _ _ _) (show ¬ w.heap.size = w.heap.size + 2 by omega), HV4.out.2.2.2.kept (kept_cells_e _ _ _) (show ¬ w.heap.size + 1 = w.heap.size + 2 by omega), (HP.out.2.1 V _ HV4.out.1).1⟩)
        have HRD2 := Lib.hid (show B2.rangeAt (w.heap.size + 2) 16 db.toList by rw [← hB2]; exact (HP.out.2.1 V _ HV4.out.1).2)
        clear hB2
        go_upto_region 9 with (first
          | (refine wpList_load_mid rfl 24 _ rfl (q22) 0 rfl db.toList _ (range_blk0 (HB22.out.grown HGV.out (by simp))) Tryz.underlying24 rfl (by rw [Array.length_toList]; exact HSD.out.2.1) ?_; rw [Array.toArray_toList])
          | (refine wpList_store_mid rfl 24 _ _ rfl (w.heap.size + 2) 16 db rfl rfl (there_mid_e HV4.out.1 (by rw [HSC.out.1.2.1, HSD.out.2.2.2.2.2.2.2.2.2.2.1]; omega)) HSD.out.2.1 HSD.out.2.2.2.2.1 ?_))
        rw [HW8.out]
        go_wp2_with fail
        rw [rounds_succ]
        obtain ⟨q30, hq30⟩ : ∃ q, B2.heap.size = q := ⟨_, rfl⟩
        obtain ⟨W30, hW30⟩ : ∃ W, (B2.alloc (.cells ZB 49)).setRow q30 zv = W := ⟨_, rfl⟩
        have bn30 : Blk (B2.alloc (.cells ZB 49)) q30 49 ZB := by rw [← hq30]; exact Blk.new B2 49 ZB
        have b30 : Blk W30 q30 49 zv := by rw [← hW30]; exact bn30.row _
        have g30 : B2.grownBy W30 none := by rw [← hW30]; exact grown_row (World.grownBy_alloc _ _ none) (.inl (by rw [hq30]; exact Nat.le_refl _)) _
        have HP30 := Lib.hid (And.intro bn30 hW30)
        have HB30 := Lib.hid b30
        clear bn30 hW30 b30
        have HGg30 := Lib.hid g30
        clear g30
        go_upto_region 5 with (refine wpList_store_row rfl 49 _ _ rfl (q30) zv rfl rfl 49 _ HP30.out.1 (HSX.out.2.2.1) (HSX.out.2.2.2.2.2.2.2.2) HSX.out.2.2.2.2.2.1 ?_)
        rw [HP30.out.2]
        clear hq30
        go_wp2_with (refine wpList_load_mid rfl 49 _ rfl (q30) 0 rfl zv.toList _ (range_blk0 HB30.out) Tryz.underlying49 rfl (by rw [Array.length_toList]; exact HSX.out.2.2.1) ?_; rw [Array.toArray_toList])
        refine (I2.out W30 (grown_trans HBS2.out.1 HGg30.out)).mono ?_
        rintro e w31 ⟨rfl, g31⟩
        have HGg31 := Lib.hid g31
        clear g31
        obtain ⟨v2, hv2⟩ : ∃ v, evOf E (bkS z).1 = v := ⟨_, rfl⟩
        rw [hv2]
        have HV2 := Lib.hid hv2
        clear hv2
        obtain ⟨q32, hq32⟩ : ∃ q, w31.heap.size = q := ⟨_, rfl⟩
        obtain ⟨W32, hW32⟩ : ∃ W, (w31.alloc (.cells Z 24)).setRow q32 dc = W := ⟨_, rfl⟩
        have bn32 : Blk (w31.alloc (.cells Z 24)) q32 24 Z := by rw [← hq32]; exact Blk.new w31 24 Z
        have b32 : Blk W32 q32 24 dc := by rw [← hW32]; exact bn32.row _
        have g32 : w31.grownBy W32 none := by rw [← hW32]; exact grown_row (World.grownBy_alloc _ _ none) (.inl (by rw [hq32]; exact Nat.le_refl _)) _
        have HP32 := Lib.hid (And.intro bn32 hW32)
        have HB32 := Lib.hid b32
        clear bn32 hW32 b32
        have HGg32 := Lib.hid g32
        clear g32
        go_upto_region 6 with (refine wpList_store_row rfl 24 _ _ rfl (q32) dc rfl rfl 24 _ HP32.out.1 (HSD.out.2.2.1) (HSD.out.2.2.2.2.2.2.2.2.1) HSD.out.2.2.2.2.2.1 ?_)
        rw [HP32.out.2]
        clear hq32
        have HPB := Lib.hid (bk_parts (HDG.out.2.2).1 (show Blk W32 q30 49 z.val by rw [HBL.out.2.2]; exact HB30.out.grown (grown_trans HGg31.out HGg32.out) (by simp)))
        cases hb2 : (bkS z).1 with
        | succ kk =>
          obtain rfl : v2 = errV (E kk) := by rw [← HV2.out, hb2]; rfl
          have HNE := Lib.hid (show (bkS z).1 ≠ 0 by rw [hb2]; exact Nat.succ_ne_zero kk)
          clear hb2
          refine wp_region_quiet_lit (by kernel_rfl) (by kernel_rfl) ?_
          repeat (first
            | go_big_quiet_skip
            | (go_big_quiet_want; first
              | (go_big_quiet_op; go_big_quiet_on)))
          refine wpQuiet_nil ?_
          intro V9 hV9
          obtain ⟨n9, rfl⟩ := hV9
          obtain ⟨V, hV⟩ : ∃ V, W32.drewN n9 = V := ⟨_, rfl⟩
          have gV : W32.grownBy V none := by
            rw [← hV]
            have g9 := World.grownBy.refl W32 none
            exact ⟨g9.os, g9.tape, g9.output, g9.size, g9.block⟩
          rw [hV]
          have HGV := Lib.hid gV
          clear hV gV
          have HVF := Lib.hid (And.intro (HEP.out V (grown_trans HBS2.out.1 (grown_trans (grown_trans (grown_trans HGg30.out HGg31.out) HGg32.out) HGV.out))) (And.intro (HBS2.out.2.2.1.grown (grown_trans (grown_trans (grown_trans HGg30.out HGg31.out) HGg32.out) HGV.out) (by simp)) (And.intro (HBS2.out.2.2.2.grown (grown_trans (grown_trans (grown_trans HGg30.out HGg31.out) HGg32.out) HGV.out) (by simp)) (grown_trans HBS2.out.1 (grown_trans (grown_trans (grown_trans HGg30.out HGg31.out) HGg32.out) HGV.out)))))
          go_upto_region 7 with (fail)
          refine wp_region_held_drew (S := fun V => V.cell? ⟨15, 0, none⟩ = some (errV ep) ∧ V.rangeAt (w.heap.size + 2) 0 c2.toList) (by kernel_rfl) ⟨HVF.out.1, range_blk0 HVF.out.2.2.1⟩ (fun hHeld => ?_)
          refine wpAnyH_take (i := 0) (oi := _) (v := .agg c2) rfl (by kernel_rfl) (by kernel_rfl) (by kernel_rfl) (fun _ _ _ h => h) (yieldsIf_load_mid (by rfl) _ _ rfl (w.heap.size + 2) 0 rfl c2.toList _ (fun V hSw => hSw.2) Tryz.underlying83 rfl (by rw [Array.length_toList]; exact HSC.out.2.2.2.2.1)) (by assumption) ?restz4_0
          try simp only [Act.put, List.getElem_toArray, List.getElem_cons_succ, List.getElem_cons_zero, List.setIfInBounds_toArray, List.set_cons_zero, List.set_cons_succ]
          refine wpAnyH_take (i := 1) (oi := _) (v := ?vz4_1) rfl (by kernel_rfl) (by kernel_rfl) (by kernel_rfl) (fun _ _ _ h => h) (Or.inl ⟨by rfl, ?hyz4_1⟩) (by assumption) ?restz4_1
          case hyz4_1 => (intro V hSw; obtain ⟨hSw1, hSw2⟩ := hSw; go_simp) <;> with_reducible rfl
          try simp only [Act.put, List.getElem_toArray, List.getElem_cons_succ, List.getElem_cons_zero, List.setIfInBounds_toArray, List.set_cons_zero, List.set_cons_succ]
          refine wpAnyH_ready (rs := [2]) (by kernel_rfl) (by simp) ?_
          refine (AllReadyH.cons (o := _) rfl (fun K9 hK => ?_) AllReadyH.nil)
          refine ready_store_e (by rfl) 83 _ _ rfl (w.heap.size + 1) 0 c2 rfl rfl (there_blk (show Blk V.drew (w.heap.size + 1) 83 c0 from HVF.out.2.1) (by have h1 := HSC.out.1.2.2.1; have h2 := HSC.out.1.1; omega)) HSC.out.2.2.2.2.1 HSC.out.2.1.2.2.1 ?_
          rw [setCells_row (P := Tryz.prog) (ty := 83) (show Blk V.drew (w.heap.size + 1) 83 c0 from HVF.out.2.1) HSC.out.2.2.2.2.1 (by have h1 := HSC.out.1.2.2.1; have h2 := HSC.out.1.1; omega) HSC.out.2.1.2.2.1]
          refine hK.out _ _ ⟨(row_kept_e c2).cell (show V.drew.cell? ⟨15, 0, none⟩ = some (errV ep) from HVF.out.1) (show ¬ (15 : Nat) = w.heap.size + 1 by have := HGL.out.1; omega), range_row_far (show V.drew.rangeAt (w.heap.size + 2) 0 c2.toList from range_blk0 HVF.out.2.2.1) (by omega) _⟩ (fun hHeld => ?_)
          clear hK K9
          try simp only [Act.put, List.getElem_toArray, List.getElem_cons_succ, List.getElem_cons_zero, List.setIfInBounds_toArray, List.set_cons_zero, List.set_cons_succ]
          refine wpAnyH_take (i := 3) (oi := _) (v := ?vz4_3) rfl (by kernel_rfl) (by kernel_rfl) (by kernel_rfl) (fun _ _ _ h => h) (Or.inl ⟨by rfl, ?hyz4_3⟩) (by assumption) ?restz4_3
          case hyz4_3 => (intro V hSw; obtain ⟨hSw1, hSw2⟩ := hSw; go_simp) <;> with_reducible rfl
          try simp only [Act.put, List.getElem_toArray, List.getElem_cons_succ, List.getElem_cons_zero, List.setIfInBounds_toArray, List.set_cons_zero, List.set_cons_succ]
          refine wpAnyH_done (by kernel_rfl) ?_ _
          go_wp2_with fail
          refine bodyPost_ret (results_cell_t rfl _ _ _ ⟨w.heap.size + 1, 0, none⟩ (.agg c2) rfl (run_loadVar_row _ (w.heap.size + 1) 83 83 _ (0, 0) _ ((show Blk V.drew (w.heap.size + 1) 83 c0 from HVF.out.2.1).row _) Tryz.underlying83 rfl HSC.out.2.2.2.2.1)) rfl ?_
          exact ⟨grown_row (show w.grownBy V.drew none from grown_drew HVF.out.2.2.2) (.inl (by omega)) _, c2, HSC.out.1.2.2.1, (by first | exact HSC.out.2.1.2.2.1 | simpa using HSC.out.2.1.2.2.1), .inr (.inl ⟨by unfold rowN; simp [HN0.out, HN1.out, HT1.out, HNE.out], rfl⟩)⟩
        | zero =>
          obtain rfl : v2 = .nilIface := by rw [← HV2.out, hb2]; rfl
          have HN2 := Lib.hid hb2
          clear hb2
          have HRP := Lib.hid (And.intro (show W32.rangeAt q30 2 pz.toList by rw [← HPP.out.2.1]; exact HPB.out.2) (range_kept HRD2.out (grown_trans (grown_trans HGg30.out HGg31.out) HGg32.out)))
          cases m2 with
          | false =>
            have HM := Lib.hid (show z.P ≠ idD y from by rw [HIDS.out.2.1]; exact of_decide_eq_false HMM.out.2)
            refine wp_region_quiet_lit (by kernel_rfl) (by kernel_rfl) ?_
            repeat (first
              | go_big_quiet_skip
              | (go_big_quiet_want; first
                | (refine quiet_load_mid 24 _ rfl (q30) 2 rfl pz.toList _ (fun W hW => by obtain ⟨n9, rfl⟩ := hW; exact HRP.out.1) Tryz.underlying24 rfl (by rw [Array.length_toList]; exact HPP.out.2.2.2) ?_; try rw [Array.toArray_toList]; simp only [Act.put, List.setIfInBounds_toArray, List.set_cons_zero, List.set_cons_succ]; go_big_quiet_on)
                | (refine quiet_load_mid 24 _ rfl (w.heap.size + 2) 16 rfl db.toList _ (fun W hW => by obtain ⟨n9, rfl⟩ := hW; exact HRP.out.2) Tryz.underlying24 rfl (by rw [Array.length_toList]; exact HSD.out.2.1) ?_; try rw [Array.toArray_toList]; simp only [Act.put, List.setIfInBounds_toArray, List.set_cons_zero, List.set_cons_succ]; go_big_quiet_on)
                | (go_big_quiet_op; go_big_quiet_on)))
            refine wpQuiet_nil ?_
            intro V9 hV9
            obtain ⟨n9, rfl⟩ := hV9
            obtain ⟨V, hV⟩ : ∃ V, W32.drewN n9 = V := ⟨_, rfl⟩
            have gV : W32.grownBy V none := by
              rw [← hV]
              have g9 := World.grownBy.refl W32 none
              exact ⟨g9.os, g9.tape, g9.output, g9.size, g9.block⟩
            rw [hV]
            have HGV := Lib.hid gV
            clear hV gV
            have HVF := Lib.hid (And.intro (HEP.out V (grown_trans HBS2.out.1 (grown_trans (grown_trans (grown_trans HGg30.out HGg31.out) HGg32.out) HGV.out))) (And.intro (HBS2.out.2.2.1.grown (grown_trans (grown_trans (grown_trans HGg30.out HGg31.out) HGg32.out) HGV.out) (by simp)) (And.intro (HBS2.out.2.2.2.grown (grown_trans (grown_trans (grown_trans HGg30.out HGg31.out) HGg32.out) HGV.out) (by simp)) (grown_trans HBS2.out.1 (grown_trans (grown_trans (grown_trans HGg30.out HGg31.out) HGg32.out) HGV.out)))))
            go_upto_region 7 with (fail)
            refine wp_region_held_drew (S := fun V => V.cell? ⟨15, 0, none⟩ = some (errV ep) ∧ V.rangeAt (w.heap.size + 2) 0 c2.toList) (by kernel_rfl) ⟨HVF.out.1, range_blk0 HVF.out.2.2.1⟩ (fun hHeld => ?_)
            refine wpAnyH_take (i := 0) (oi := _) (v := .agg c2) rfl (by kernel_rfl) (by kernel_rfl) (by kernel_rfl) (fun _ _ _ h => h) (yieldsIf_load_mid (by rfl) _ _ rfl (w.heap.size + 2) 0 rfl c2.toList _ (fun V hSw => hSw.2) Tryz.underlying83 rfl (by rw [Array.length_toList]; exact HSC.out.2.2.2.2.1)) (by assumption) ?restz5_0
            try simp only [Act.put, List.getElem_toArray, List.getElem_cons_succ, List.getElem_cons_zero, List.setIfInBounds_toArray, List.set_cons_zero, List.set_cons_succ]
            refine wpAnyH_take (i := 1) (oi := _) (v := ?vz5_1) rfl (by kernel_rfl) (by kernel_rfl) (by kernel_rfl) (fun _ _ _ h => h) (Or.inl ⟨by rfl, ?hyz5_1⟩) (by assumption) ?restz5_1
            case hyz5_1 => (intro V hSw; obtain ⟨hSw1, hSw2⟩ := hSw; go_simp) <;> with_reducible rfl
            try simp only [Act.put, List.getElem_toArray, List.getElem_cons_succ, List.getElem_cons_zero, List.setIfInBounds_toArray, List.set_cons_zero, List.set_cons_succ]
            refine wpAnyH_ready (rs := [2]) (by kernel_rfl) (by simp) ?_
            refine (AllReadyH.cons (o := _) rfl (fun K9 hK => ?_) AllReadyH.nil)
            refine ready_store_e (by rfl) 83 _ _ rfl (w.heap.size + 1) 0 c2 rfl rfl (there_blk (show Blk V.drew (w.heap.size + 1) 83 c0 from HVF.out.2.1) (by have h1 := HSC.out.1.2.2.1; have h2 := HSC.out.1.1; omega)) HSC.out.2.2.2.2.1 HSC.out.2.1.2.2.1 ?_
            rw [setCells_row (P := Tryz.prog) (ty := 83) (show Blk V.drew (w.heap.size + 1) 83 c0 from HVF.out.2.1) HSC.out.2.2.2.2.1 (by have h1 := HSC.out.1.2.2.1; have h2 := HSC.out.1.1; omega) HSC.out.2.1.2.2.1]
            refine hK.out _ _ ⟨(row_kept_e c2).cell (show V.drew.cell? ⟨15, 0, none⟩ = some (errV ep) from HVF.out.1) (show ¬ (15 : Nat) = w.heap.size + 1 by have := HGL.out.1; omega), range_row_far (show V.drew.rangeAt (w.heap.size + 2) 0 c2.toList from range_blk0 HVF.out.2.2.1) (by omega) _⟩ (fun hHeld => ?_)
            clear hK K9
            try simp only [Act.put, List.getElem_toArray, List.getElem_cons_succ, List.getElem_cons_zero, List.setIfInBounds_toArray, List.set_cons_zero, List.set_cons_succ]
            refine wpAnyH_take (i := 3) (oi := _) (v := ?vz5_3) rfl (by kernel_rfl) (by kernel_rfl) (by kernel_rfl) (fun _ _ _ h => h) (Or.inl ⟨by rfl, ?hyz5_3⟩) (by assumption) ?restz5_3
            case hyz5_3 => (intro V hSw; obtain ⟨hSw1, hSw2⟩ := hSw; go_simp) <;> with_reducible rfl
            try simp only [Act.put, List.getElem_toArray, List.getElem_cons_succ, List.getElem_cons_zero, List.setIfInBounds_toArray, List.set_cons_zero, List.set_cons_succ]
            refine wpAnyH_done (by kernel_rfl) ?_ _
            go_wp2_with fail
            refine bodyPost_ret (results_cell_t rfl _ _ _ ⟨w.heap.size + 1, 0, none⟩ (.agg c2) rfl (run_loadVar_row _ (w.heap.size + 1) 83 83 _ (0, 0) _ ((show Blk V.drew (w.heap.size + 1) 83 c0 from HVF.out.2.1).row _) Tryz.underlying83 rfl HSC.out.2.2.2.2.1)) rfl ?_
            exact ⟨grown_row (show w.grownBy V.drew none from grown_drew HVF.out.2.2.2) (.inl (by omega)) _, c2, HSC.out.1.2.2.1, (by first | exact HSC.out.2.1.2.2.1 | simpa using HSC.out.2.1.2.2.1), .inr (.inl ⟨by unfold rowN; simp [HN0.out, HN1.out, HT1.out, HN2.out, HM.out], rfl⟩)⟩
          | true =>
            have HT2 := Lib.hid (show z.P = idD y from by rw [HIDS.out.2.1]; exact of_decide_eq_true HMM.out.2)
            refine wp_region_quiet_lit (by kernel_rfl) (by kernel_rfl) ?_
            repeat (first
              | go_big_quiet_skip
              | (go_big_quiet_want; first
                | (refine quiet_load_mid 24 _ rfl (q30) 2 rfl pz.toList _ (fun W hW => by obtain ⟨n9, rfl⟩ := hW; exact HRP.out.1) Tryz.underlying24 rfl (by rw [Array.length_toList]; exact HPP.out.2.2.2) ?_; try rw [Array.toArray_toList]; simp only [Act.put, List.setIfInBounds_toArray, List.set_cons_zero, List.set_cons_succ]; go_big_quiet_on)
                | (refine quiet_load_mid 24 _ rfl (w.heap.size + 2) 16 rfl db.toList _ (fun W hW => by obtain ⟨n9, rfl⟩ := hW; exact HRP.out.2) Tryz.underlying24 rfl (by rw [Array.length_toList]; exact HSD.out.2.1) ?_; try rw [Array.toArray_toList]; simp only [Act.put, List.setIfInBounds_toArray, List.set_cons_zero, List.set_cons_succ]; go_big_quiet_on)
                | (go_big_quiet_op; go_big_quiet_on)))
            refine wpQuiet_nil ?_
            intro V9 hV9
            obtain ⟨n9, rfl⟩ := hV9
            obtain ⟨V, hV⟩ : ∃ V, W32.drewN n9 = V := ⟨_, rfl⟩
            have gV : W32.grownBy V none := by
              rw [← hV]
              have g9 := World.grownBy.refl W32 none
              exact ⟨g9.os, g9.tape, g9.output, g9.size, g9.block⟩
            rw [hV]
            have HGV := Lib.hid gV
            clear hV gV
            have HV4 := Lib.hid (And.intro (HBS2.out.2.2.2.grown (grown_trans (grown_trans (grown_trans HGg30.out HGg31.out) HGg32.out) HGV.out) (by simp)) (And.intro (grown_trans HBS2.out.1 (grown_trans (grown_trans (grown_trans HGg30.out HGg31.out) HGg32.out) HGV.out)) (And.intro (HBS2.out.2.1.grown (grown_trans (grown_trans (grown_trans HGg30.out HGg31.out) HGg32.out) HGV.out) (by simp)) (HBS2.out.2.2.1.grown (grown_trans (grown_trans (grown_trans HGg30.out HGg31.out) HGg32.out) HGV.out) (by simp)))))
            obtain ⟨B3, hB3⟩ : ∃ B, V.setCells (w.heap.size + 2) 32 dc.toList = B := ⟨_, rfl⟩
            have HW8 := Lib.hid hB3
            have HBS3 := Lib.hid (show w.grownBy B3 none ∧ Blk B3 w.heap.size 52 rv ∧ Blk B3 (w.heap.size + 1) 83 c0 ∧ Blk B3 (w.heap.size + 2) 83 c3 by
              rw [← hB3]
              exact ⟨grown_far_cells _ (by omega) _ _ _ HV4.out.2.1, HV4.out.2.2.1.kept (kept_cells_e _ _ _) (show ¬ w.heap.size = w.heap.size + 2 by omega), HV4.out.2.2.2.kept (kept_cells_e _ _ _) (show ¬ w.heap.size + 1 = w.heap.size + 2 by omega), (HP.out.2.2 V _ HV4.out.1).1⟩)
            have HRD3 := Lib.hid (show B3.rangeAt (w.heap.size + 2) 32 dc.toList by rw [← hB3]; exact (HP.out.2.2 V _ HV4.out.1).2)
            clear hB3
            go_upto_region 9 with (first
              | (refine wpList_load_mid rfl 24 _ rfl (q32) 0 rfl dc.toList _ (range_blk0 (HB32.out.grown HGV.out (by simp))) Tryz.underlying24 rfl (by rw [Array.length_toList]; exact HSD.out.2.2.1) ?_; rw [Array.toArray_toList])
              | (refine wpList_store_mid rfl 24 _ _ rfl (w.heap.size + 2) 32 dc rfl rfl (there_mid_e HV4.out.1 (by rw [HSC.out.1.2.2.1, HSD.out.2.2.2.2.2.2.2.2.2.2.2]; omega)) HSD.out.2.2.1 HSD.out.2.2.2.2.2.1 ?_))
            rw [HW8.out]
            go_wp2_with fail
            rw [rounds_succ]
            go_wp2_with (refine wpList_load_mid rfl 52 _ rfl (w.heap.size) 0 rfl rv.toList _ (range_blk0 HBS3.out.2.1) Tryz.underlying52 rfl (by rw [Array.length_toList]; exact HZR.out) ?_; rw [Array.toArray_toList])
            refine wp_loop_rounds 4 ?_
            rw [rounds_succ]
            have PRV0 : rv.toList[1]? = some (.int .i64 rx) := by
              rw [HRN.out, ← HBL.out.1, ← HRR.out.1]
              simp [Bk.val]
            have PRV1 : rv.toList[40]? = some (.int .i64 ry) := by
              have h39 : xv.size = 39 := HSX39.out
              have e : rv.toList = xv.toList ++ (y.val.toList ++ zv.toList) := by rw [HRN.out, ← HBL.out.2.1]; simp
              rw [e, List.getElem?_append_right (by simp [h39]), ← HRR.out.2.1]
              simp [h39, Bk.val]
            obtain ⟨q40, hq40⟩ : ∃ q, B3.heap.size = q := ⟨_, rfl⟩
            obtain ⟨W40, hW40⟩ : ∃ W, (B3.alloc (.cells ZB 49)).setRow q40 xv = W := ⟨_, rfl⟩
            have bn40 : Blk (B3.alloc (.cells ZB 49)) q40 49 ZB := by rw [← hq40]; exact Blk.new B3 49 ZB
            have b40 : Blk W40 q40 49 xv := by rw [← hW40]; exact bn40.row _
            have g40 : B3.grownBy W40 none := by rw [← hW40]; exact grown_row (World.grownBy_alloc _ _ none) (.inl (by rw [hq40]; exact Nat.le_refl _)) _
            have HP40 := Lib.hid (And.intro bn40 hW40)
            have HB40 := Lib.hid b40
            clear bn40 hW40 b40
            have HGg40 := Lib.hid g40
            clear g40
            go_upto_region 13 with (refine wpList_store_row rfl 49 _ _ rfl (q40) xv rfl rfl 49 _ HP40.out.1 (HSX.out.1) (HSX.out.2.2.2.2.2.2.1) HSX.out.2.2.2.1 ?_)
            rw [HP40.out.2]
            clear hq40
            try simp only [Act.put, List.getElem_toArray, List.getElem_cons_succ, List.getElem_cons_zero, List.setIfInBounds_toArray, List.set_cons_zero, List.set_cons_succ]
            have cr : W40.cell? ⟨q40, 1, none⟩ = some (.int .i64 rx) := by
              have := (bk_parts (HDG.out.1).1 (show Blk W40 q40 49 x.val by rw [HBL.out.1]; exact HB40.out)).1
              rwa [HRR.out.1] at this
            by_cases h1 : rx < 1
            · have a1 : decide (rx < 1) = true := by simpa using h1
              have HZ0 := Lib.hid (show rndN 0 0 x.r = true from rndN_yes (.inl (by rw [HRR.out.1]; exact h1)))
              refine wp_region_quiet_lit (by kernel_rfl) (by kernel_rfl) ?_
              repeat (first
                | go_big_quiet_skip
                | (go_big_quiet_want; first
                  | (go_big_quiet_op; go_big_quiet_on)))
              refine wpQuiet_nil ?_
              intro V9 hV9
              obtain ⟨n9, rfl⟩ := hV9
              obtain ⟨V, hV⟩ : ∃ V, W40.drewN n9 = V := ⟨_, rfl⟩
              have gV : W40.grownBy V none := by
                rw [← hV]
                have g9 := World.grownBy.refl W40 none
                exact ⟨g9.os, g9.tape, g9.output, g9.size, g9.block⟩
              rw [hV]
              have HGV := Lib.hid gV
              clear hV gV
              have HVF := Lib.hid (And.intro (HER.out V (grown_trans HBS3.out.1 (grown_trans HGg40.out HGV.out))) (And.intro (HBS3.out.2.2.1.grown (grown_trans HGg40.out HGV.out) (by simp)) (And.intro (HBS3.out.2.2.2.grown (grown_trans HGg40.out HGV.out) (by simp)) (grown_trans HBS3.out.1 (grown_trans HGg40.out HGV.out)))))
              go_upto_region 14 with (fail)
              refine wp_region_held_drew (S := fun V => V.cell? ⟨13, 0, none⟩ = some (errV er) ∧ V.rangeAt (w.heap.size + 2) 0 c3.toList) (by kernel_rfl) ⟨HVF.out.1, range_blk0 HVF.out.2.2.1⟩ (fun hHeld => ?_)
              refine wpAnyH_take (i := 0) (oi := _) (v := .agg c3) rfl (by kernel_rfl) (by kernel_rfl) (by kernel_rfl) (fun _ _ _ h => h) (yieldsIf_load_mid (by rfl) _ _ rfl (w.heap.size + 2) 0 rfl c3.toList _ (fun V hSw => hSw.2) Tryz.underlying83 rfl (by rw [Array.length_toList]; exact HSC.out.2.2.2.2.2)) (by assumption) ?restz6_0
              try simp only [Act.put, List.getElem_toArray, List.getElem_cons_succ, List.getElem_cons_zero, List.setIfInBounds_toArray, List.set_cons_zero, List.set_cons_succ]
              refine wpAnyH_take (i := 1) (oi := _) (v := ?vz6_1) rfl (by kernel_rfl) (by kernel_rfl) (by kernel_rfl) (fun _ _ _ h => h) (Or.inl ⟨by rfl, ?hyz6_1⟩) (by assumption) ?restz6_1
              case hyz6_1 => (intro V hSw; obtain ⟨hSw1, hSw2⟩ := hSw; go_simp) <;> with_reducible rfl
              try simp only [Act.put, List.getElem_toArray, List.getElem_cons_succ, List.getElem_cons_zero, List.setIfInBounds_toArray, List.set_cons_zero, List.set_cons_succ]
              refine wpAnyH_ready (rs := [2]) (by kernel_rfl) (by simp) ?_
              refine (AllReadyH.cons (o := _) rfl (fun K9 hK => ?_) AllReadyH.nil)
              refine ready_store_e (by rfl) 83 _ _ rfl (w.heap.size + 1) 0 c3 rfl rfl (there_blk (show Blk V.drew (w.heap.size + 1) 83 c0 from HVF.out.2.1) (by have h1 := HSC.out.1.2.2.2; have h2 := HSC.out.1.1; omega)) HSC.out.2.2.2.2.2 HSC.out.2.1.2.2.2 ?_
              rw [setCells_row (P := Tryz.prog) (ty := 83) (show Blk V.drew (w.heap.size + 1) 83 c0 from HVF.out.2.1) HSC.out.2.2.2.2.2 (by have h1 := HSC.out.1.2.2.2; have h2 := HSC.out.1.1; omega) HSC.out.2.1.2.2.2]
              refine hK.out _ _ ⟨(row_kept_e c3).cell (show V.drew.cell? ⟨13, 0, none⟩ = some (errV er) from HVF.out.1) (show ¬ (13 : Nat) = w.heap.size + 1 by have := HGL.out.2; omega), range_row_far (show V.drew.rangeAt (w.heap.size + 2) 0 c3.toList from range_blk0 HVF.out.2.2.1) (by omega) _⟩ (fun hHeld => ?_)
              clear hK K9
              try simp only [Act.put, List.getElem_toArray, List.getElem_cons_succ, List.getElem_cons_zero, List.setIfInBounds_toArray, List.set_cons_zero, List.set_cons_succ]
              refine wpAnyH_take (i := 3) (oi := _) (v := ?vz6_3) rfl (by kernel_rfl) (by kernel_rfl) (by kernel_rfl) (fun _ _ _ h => h) (Or.inl ⟨by rfl, ?hyz6_3⟩) (by assumption) ?restz6_3
              case hyz6_3 => (intro V hSw; obtain ⟨hSw1, hSw2⟩ := hSw; go_simp) <;> with_reducible rfl
              try simp only [Act.put, List.getElem_toArray, List.getElem_cons_succ, List.getElem_cons_zero, List.setIfInBounds_toArray, List.set_cons_zero, List.set_cons_succ]
              refine wpAnyH_done (by kernel_rfl) ?_ _
              go_wp2_with fail
              refine bodyPost_ret (results_cell_t rfl _ _ _ ⟨w.heap.size + 1, 0, none⟩ (.agg c3) rfl (run_loadVar_row _ (w.heap.size + 1) 83 83 _ (0, 0) _ ((show Blk V.drew (w.heap.size + 1) 83 c0 from HVF.out.2.1).row _) Tryz.underlying83 rfl HSC.out.2.2.2.2.2)) rfl ?_
              exact ⟨grown_row (show w.grownBy V.drew none from grown_drew HVF.out.2.2.2) (.inl (by omega)) _, c3, HSC.out.1.2.2.2, (by first | exact HSC.out.2.1.2.2.2 | simpa using HSC.out.2.1.2.2.2), .inr (.inr ⟨by unfold rowN; simp [HN0.out, HN1.out, HT1.out, HN2.out, HT2.out, HZ0.out], rfl⟩)⟩
            have a1 : decide (rx < 1) = false := by simpa using h1
            by_cases h2 : 1099511627776 < rx
            · have a2 : decide (1099511627776 < rx) = true := by simpa using h2
              have HZ0 := Lib.hid (show rndN 0 0 x.r = true from rndN_yes (.inr (.inl (by rw [HRR.out.1]; exact h2))))
              refine wp_region_quiet_lit (by kernel_rfl) (by kernel_rfl) ?_
              repeat (first
                | go_big_quiet_skip
                | (go_big_quiet_want; first
                  | (go_big_quiet_op; go_big_quiet_on)))
              refine wpQuiet_nil ?_
              intro V9 hV9
              obtain ⟨n9, rfl⟩ := hV9
              obtain ⟨V, hV⟩ : ∃ V, W40.drewN n9 = V := ⟨_, rfl⟩
              have gV : W40.grownBy V none := by
                rw [← hV]
                have g9 := World.grownBy.refl W40 none
                exact ⟨g9.os, g9.tape, g9.output, g9.size, g9.block⟩
              rw [hV]
              have HGV := Lib.hid gV
              clear hV gV
              have HVF := Lib.hid (And.intro (HER.out V (grown_trans HBS3.out.1 (grown_trans HGg40.out HGV.out))) (And.intro (HBS3.out.2.2.1.grown (grown_trans HGg40.out HGV.out) (by simp)) (And.intro (HBS3.out.2.2.2.grown (grown_trans HGg40.out HGV.out) (by simp)) (grown_trans HBS3.out.1 (grown_trans HGg40.out HGV.out)))))
              go_upto_region 14 with (fail)
              refine wp_region_held_drew (S := fun V => V.cell? ⟨13, 0, none⟩ = some (errV er) ∧ V.rangeAt (w.heap.size + 2) 0 c3.toList) (by kernel_rfl) ⟨HVF.out.1, range_blk0 HVF.out.2.2.1⟩ (fun hHeld => ?_)
              refine wpAnyH_take (i := 0) (oi := _) (v := .agg c3) rfl (by kernel_rfl) (by kernel_rfl) (by kernel_rfl) (fun _ _ _ h => h) (yieldsIf_load_mid (by rfl) _ _ rfl (w.heap.size + 2) 0 rfl c3.toList _ (fun V hSw => hSw.2) Tryz.underlying83 rfl (by rw [Array.length_toList]; exact HSC.out.2.2.2.2.2)) (by assumption) ?restz7_0
              try simp only [Act.put, List.getElem_toArray, List.getElem_cons_succ, List.getElem_cons_zero, List.setIfInBounds_toArray, List.set_cons_zero, List.set_cons_succ]
              refine wpAnyH_take (i := 1) (oi := _) (v := ?vz7_1) rfl (by kernel_rfl) (by kernel_rfl) (by kernel_rfl) (fun _ _ _ h => h) (Or.inl ⟨by rfl, ?hyz7_1⟩) (by assumption) ?restz7_1
              case hyz7_1 => (intro V hSw; obtain ⟨hSw1, hSw2⟩ := hSw; go_simp) <;> with_reducible rfl
              try simp only [Act.put, List.getElem_toArray, List.getElem_cons_succ, List.getElem_cons_zero, List.setIfInBounds_toArray, List.set_cons_zero, List.set_cons_succ]
              refine wpAnyH_ready (rs := [2]) (by kernel_rfl) (by simp) ?_
              refine (AllReadyH.cons (o := _) rfl (fun K9 hK => ?_) AllReadyH.nil)
              refine ready_store_e (by rfl) 83 _ _ rfl (w.heap.size + 1) 0 c3 rfl rfl (there_blk (show Blk V.drew (w.heap.size + 1) 83 c0 from HVF.out.2.1) (by have h1 := HSC.out.1.2.2.2; have h2 := HSC.out.1.1; omega)) HSC.out.2.2.2.2.2 HSC.out.2.1.2.2.2 ?_
              rw [setCells_row (P := Tryz.prog) (ty := 83) (show Blk V.drew (w.heap.size + 1) 83 c0 from HVF.out.2.1) HSC.out.2.2.2.2.2 (by have h1 := HSC.out.1.2.2.2; have h2 := HSC.out.1.1; omega) HSC.out.2.1.2.2.2]
              refine hK.out _ _ ⟨(row_kept_e c3).cell (show V.drew.cell? ⟨13, 0, none⟩ = some (errV er) from HVF.out.1) (show ¬ (13 : Nat) = w.heap.size + 1 by have := HGL.out.2; omega), range_row_far (show V.drew.rangeAt (w.heap.size + 2) 0 c3.toList from range_blk0 HVF.out.2.2.1) (by omega) _⟩ (fun hHeld => ?_)
              clear hK K9
              try simp only [Act.put, List.getElem_toArray, List.getElem_cons_succ, List.getElem_cons_zero, List.setIfInBounds_toArray, List.set_cons_zero, List.set_cons_succ]
              refine wpAnyH_take (i := 3) (oi := _) (v := ?vz7_3) rfl (by kernel_rfl) (by kernel_rfl) (by kernel_rfl) (fun _ _ _ h => h) (Or.inl ⟨by rfl, ?hyz7_3⟩) (by assumption) ?restz7_3
              case hyz7_3 => (intro V hSw; obtain ⟨hSw1, hSw2⟩ := hSw; go_simp) <;> with_reducible rfl
              try simp only [Act.put, List.getElem_toArray, List.getElem_cons_succ, List.getElem_cons_zero, List.setIfInBounds_toArray, List.set_cons_zero, List.set_cons_succ]
              refine wpAnyH_done (by kernel_rfl) ?_ _
              go_wp2_with fail
              refine bodyPost_ret (results_cell_t rfl _ _ _ ⟨w.heap.size + 1, 0, none⟩ (.agg c3) rfl (run_loadVar_row _ (w.heap.size + 1) 83 83 _ (0, 0) _ ((show Blk V.drew (w.heap.size + 1) 83 c0 from HVF.out.2.1).row _) Tryz.underlying83 rfl HSC.out.2.2.2.2.2)) rfl ?_
              exact ⟨grown_row (show w.grownBy V.drew none from grown_drew HVF.out.2.2.2) (.inl (by omega)) _, c3, HSC.out.1.2.2.2, (by first | exact HSC.out.2.1.2.2.2 | simpa using HSC.out.2.1.2.2.2), .inr (.inr ⟨by unfold rowN; simp [HN0.out, HN1.out, HT1.out, HN2.out, HT2.out, HZ0.out], rfl⟩)⟩
            have a2 : decide (1099511627776 < rx) = false := by simpa using h2
            have HY0 := Lib.hid (show rndN 0 0 x.r = false from rndN_no (by rw [HRR.out.1]; exact h1) (by rw [HRR.out.1]; exact h2) (.inl rfl))
            clear h1 h2
            refine wp_region_quiet_lit (by kernel_rfl) (by kernel_rfl) ?_
            repeat (first
              | go_big_quiet_skip
              | (go_big_quiet_want; first
                | (go_big_quiet_op; go_big_quiet_on)))
            refine wpQuiet_nil ?_
            intro V9 hV9
            obtain ⟨n9, rfl⟩ := hV9
            obtain ⟨X0, hV⟩ : ∃ X0, W40.drewN n9 = X0 := ⟨_, rfl⟩
            have gV : W40.grownBy X0 none := by
              rw [← hV]
              have g9 := World.grownBy.refl W40 none
              exact ⟨g9.os, g9.tape, g9.output, g9.size, g9.block⟩
            rw [hV]
            have HGX0 := Lib.hid gV
            clear hV gV
            clear a1 a2 cr
            go_wp2_with fail
            rw [rounds_succ]
            obtain ⟨q50, hq50⟩ : ∃ q, X0.heap.size = q := ⟨_, rfl⟩
            obtain ⟨W50, hW50⟩ : ∃ W, (X0.alloc (.cells ZB 49)).setRow q50 yv = W := ⟨_, rfl⟩
            have bn50 : Blk (X0.alloc (.cells ZB 49)) q50 49 ZB := by rw [← hq50]; exact Blk.new X0 49 ZB
            have b50 : Blk W50 q50 49 yv := by rw [← hW50]; exact bn50.row _
            have g50 : X0.grownBy W50 none := by rw [← hW50]; exact grown_row (World.grownBy_alloc _ _ none) (.inl (by rw [hq50]; exact Nat.le_refl _)) _
            have HP50 := Lib.hid (And.intro bn50 hW50)
            have HB50 := Lib.hid b50
            clear bn50 hW50 b50
            have HGg50 := Lib.hid g50
            clear g50
            go_upto_region 13 with (refine wpList_store_row rfl 49 _ _ rfl (q50) yv rfl rfl 49 _ HP50.out.1 (HSX.out.2.1) (HSX.out.2.2.2.2.2.2.2.1) HSX.out.2.2.2.2.1 ?_)
            rw [HP50.out.2]
            clear hq50
            try simp only [Act.put, List.getElem_toArray, List.getElem_cons_succ, List.getElem_cons_zero, List.setIfInBounds_toArray, List.set_cons_zero, List.set_cons_succ]
            have cr : W50.cell? ⟨q50, 1, none⟩ = some (.int .i64 ry) := by
              have := (bk_parts (HDG.out.2.1).1 (show Blk W50 q50 49 y.val by rw [HBL.out.2.1]; exact HB50.out)).1
              rwa [HRR.out.2.1] at this
            have cp : W50.cell? ⟨w.heap.size, 1, none⟩ = some (.int .i64 rx) := by
              have r := range_blk0 (HBS3.out.2.1.grown (grown_trans (grown_trans HGg40.out HGX0.out) HGg50.out) (by simp))
              have := r 1 (.int .i64 rx) PRV0
              simpa using this
            by_cases h1 : ry < 1
            · have a1 : decide (ry < 1) = true := by simpa using h1
              have HZ1 := Lib.hid (show rndN 1 x.r y.r = true from rndN_yes (.inl (by rw [HRR.out.2.1]; exact h1)))
              refine wp_region_quiet_lit (by kernel_rfl) (by kernel_rfl) ?_
              repeat (first
                | go_big_quiet_skip
                | (go_big_quiet_want; first
                  | (go_big_quiet_op; go_big_quiet_on)))
              refine wpQuiet_nil ?_
              intro V9 hV9
              obtain ⟨n9, rfl⟩ := hV9
              obtain ⟨V, hV⟩ : ∃ V, W50.drewN n9 = V := ⟨_, rfl⟩
              have gV : W50.grownBy V none := by
                rw [← hV]
                have g9 := World.grownBy.refl W50 none
                exact ⟨g9.os, g9.tape, g9.output, g9.size, g9.block⟩
              rw [hV]
              have HGV := Lib.hid gV
              clear hV gV
              have HVF := Lib.hid (And.intro (HER.out V (grown_trans HBS3.out.1 (grown_trans (grown_trans (grown_trans HGg40.out HGX0.out) HGg50.out) HGV.out))) (And.intro (HBS3.out.2.2.1.grown (grown_trans (grown_trans (grown_trans HGg40.out HGX0.out) HGg50.out) HGV.out) (by simp)) (And.intro (HBS3.out.2.2.2.grown (grown_trans (grown_trans (grown_trans HGg40.out HGX0.out) HGg50.out) HGV.out) (by simp)) (grown_trans HBS3.out.1 (grown_trans (grown_trans (grown_trans HGg40.out HGX0.out) HGg50.out) HGV.out)))))
              go_upto_region 14 with (fail)
              refine wp_region_held_drew (S := fun V => V.cell? ⟨13, 0, none⟩ = some (errV er) ∧ V.rangeAt (w.heap.size + 2) 0 c3.toList) (by kernel_rfl) ⟨HVF.out.1, range_blk0 HVF.out.2.2.1⟩ (fun hHeld => ?_)
              refine wpAnyH_take (i := 0) (oi := _) (v := .agg c3) rfl (by kernel_rfl) (by kernel_rfl) (by kernel_rfl) (fun _ _ _ h => h) (yieldsIf_load_mid (by rfl) _ _ rfl (w.heap.size + 2) 0 rfl c3.toList _ (fun V hSw => hSw.2) Tryz.underlying83 rfl (by rw [Array.length_toList]; exact HSC.out.2.2.2.2.2)) (by assumption) ?restz8_0
              try simp only [Act.put, List.getElem_toArray, List.getElem_cons_succ, List.getElem_cons_zero, List.setIfInBounds_toArray, List.set_cons_zero, List.set_cons_succ]
              refine wpAnyH_take (i := 1) (oi := _) (v := ?vz8_1) rfl (by kernel_rfl) (by kernel_rfl) (by kernel_rfl) (fun _ _ _ h => h) (Or.inl ⟨by rfl, ?hyz8_1⟩) (by assumption) ?restz8_1
              case hyz8_1 => (intro V hSw; obtain ⟨hSw1, hSw2⟩ := hSw; go_simp) <;> with_reducible rfl
              try simp only [Act.put, List.getElem_toArray, List.getElem_cons_succ, List.getElem_cons_zero, List.setIfInBounds_toArray, List.set_cons_zero, List.set_cons_succ]
              refine wpAnyH_ready (rs := [2]) (by kernel_rfl) (by simp) ?_
              refine (AllReadyH.cons (o := _) rfl (fun K9 hK => ?_) AllReadyH.nil)
              refine ready_store_e (by rfl) 83 _ _ rfl (w.heap.size + 1) 0 c3 rfl rfl (there_blk (show Blk V.drew (w.heap.size + 1) 83 c0 from HVF.out.2.1) (by have h1 := HSC.out.1.2.2.2; have h2 := HSC.out.1.1; omega)) HSC.out.2.2.2.2.2 HSC.out.2.1.2.2.2 ?_
              rw [setCells_row (P := Tryz.prog) (ty := 83) (show Blk V.drew (w.heap.size + 1) 83 c0 from HVF.out.2.1) HSC.out.2.2.2.2.2 (by have h1 := HSC.out.1.2.2.2; have h2 := HSC.out.1.1; omega) HSC.out.2.1.2.2.2]
              refine hK.out _ _ ⟨(row_kept_e c3).cell (show V.drew.cell? ⟨13, 0, none⟩ = some (errV er) from HVF.out.1) (show ¬ (13 : Nat) = w.heap.size + 1 by have := HGL.out.2; omega), range_row_far (show V.drew.rangeAt (w.heap.size + 2) 0 c3.toList from range_blk0 HVF.out.2.2.1) (by omega) _⟩ (fun hHeld => ?_)
              clear hK K9
              try simp only [Act.put, List.getElem_toArray, List.getElem_cons_succ, List.getElem_cons_zero, List.setIfInBounds_toArray, List.set_cons_zero, List.set_cons_succ]
              refine wpAnyH_take (i := 3) (oi := _) (v := ?vz8_3) rfl (by kernel_rfl) (by kernel_rfl) (by kernel_rfl) (fun _ _ _ h => h) (Or.inl ⟨by rfl, ?hyz8_3⟩) (by assumption) ?restz8_3
              case hyz8_3 => (intro V hSw; obtain ⟨hSw1, hSw2⟩ := hSw; go_simp) <;> with_reducible rfl
              try simp only [Act.put, List.getElem_toArray, List.getElem_cons_succ, List.getElem_cons_zero, List.setIfInBounds_toArray, List.set_cons_zero, List.set_cons_succ]
              refine wpAnyH_done (by kernel_rfl) ?_ _
              go_wp2_with fail
              refine bodyPost_ret (results_cell_t rfl _ _ _ ⟨w.heap.size + 1, 0, none⟩ (.agg c3) rfl (run_loadVar_row _ (w.heap.size + 1) 83 83 _ (0, 0) _ ((show Blk V.drew (w.heap.size + 1) 83 c0 from HVF.out.2.1).row _) Tryz.underlying83 rfl HSC.out.2.2.2.2.2)) rfl ?_
              exact ⟨grown_row (show w.grownBy V.drew none from grown_drew HVF.out.2.2.2) (.inl (by omega)) _, c3, HSC.out.1.2.2.2, (by first | exact HSC.out.2.1.2.2.2 | simpa using HSC.out.2.1.2.2.2), .inr (.inr ⟨by unfold rowN; simp [HN0.out, HN1.out, HT1.out, HN2.out, HT2.out, HY0.out, HZ1.out], rfl⟩)⟩
            have a1 : decide (ry < 1) = false := by simpa using h1
            by_cases h2 : 1099511627776 < ry
            · have a2 : decide (1099511627776 < ry) = true := by simpa using h2
              have HZ1 := Lib.hid (show rndN 1 x.r y.r = true from rndN_yes (.inr (.inl (by rw [HRR.out.2.1]; exact h2))))
              refine wp_region_quiet_lit (by kernel_rfl) (by kernel_rfl) ?_
              repeat (first
                | go_big_quiet_skip
                | (go_big_quiet_want; first
                  | (go_big_quiet_op; go_big_quiet_on)))
              refine wpQuiet_nil ?_
              intro V9 hV9
              obtain ⟨n9, rfl⟩ := hV9
              obtain ⟨V, hV⟩ : ∃ V, W50.drewN n9 = V := ⟨_, rfl⟩
              have gV : W50.grownBy V none := by
                rw [← hV]
                have g9 := World.grownBy.refl W50 none
                exact ⟨g9.os, g9.tape, g9.output, g9.size, g9.block⟩
              rw [hV]
              have HGV := Lib.hid gV
              clear hV gV
              have HVF := Lib.hid (And.intro (HER.out V (grown_trans HBS3.out.1 (grown_trans (grown_trans (grown_trans HGg40.out HGX0.out) HGg50.out) HGV.out))) (And.intro (HBS3.out.2.2.1.grown (grown_trans (grown_trans (grown_trans HGg40.out HGX0.out) HGg50.out) HGV.out) (by simp)) (And.intro (HBS3.out.2.2.2.grown (grown_trans (grown_trans (grown_trans HGg40.out HGX0.out) HGg50.out) HGV.out) (by simp)) (grown_trans HBS3.out.1 (grown_trans (grown_trans (grown_trans HGg40.out HGX0.out) HGg50.out) HGV.out)))))
              go_upto_region 14 with (fail)
              refine wp_region_held_drew (S := fun V => V.cell? ⟨13, 0, none⟩ = some (errV er) ∧ V.rangeAt (w.heap.size + 2) 0 c3.toList) (by kernel_rfl) ⟨HVF.out.1, range_blk0 HVF.out.2.2.1⟩ (fun hHeld => ?_)
              refine wpAnyH_take (i := 0) (oi := _) (v := .agg c3) rfl (by kernel_rfl) (by kernel_rfl) (by kernel_rfl) (fun _ _ _ h => h) (yieldsIf_load_mid (by rfl) _ _ rfl (w.heap.size + 2) 0 rfl c3.toList _ (fun V hSw => hSw.2) Tryz.underlying83 rfl (by rw [Array.length_toList]; exact HSC.out.2.2.2.2.2)) (by assumption) ?restz9_0
              try simp only [Act.put, List.getElem_toArray, List.getElem_cons_succ, List.getElem_cons_zero, List.setIfInBounds_toArray, List.set_cons_zero, List.set_cons_succ]
              refine wpAnyH_take (i := 1) (oi := _) (v := ?vz9_1) rfl (by kernel_rfl) (by kernel_rfl) (by kernel_rfl) (fun _ _ _ h => h) (Or.inl ⟨by rfl, ?hyz9_1⟩) (by assumption) ?restz9_1
              case hyz9_1 => (intro V hSw; obtain ⟨hSw1, hSw2⟩ := hSw; go_simp) <;> with_reducible rfl
              try simp only [Act.put, List.getElem_toArray, List.getElem_cons_succ, List.getElem_cons_zero, List.setIfInBounds_toArray, List.set_cons_zero, List.set_cons_succ]
              refine wpAnyH_ready (rs := [2]) (by kernel_rfl) (by simp) ?_
              refine (AllReadyH.cons (o := _) rfl (fun K9 hK => ?_) AllReadyH.nil)
              refine ready_store_e (by rfl) 83 _ _ rfl (w.heap.size + 1) 0 c3 rfl rfl (there_blk (show Blk V.drew (w.heap.size + 1) 83 c0 from HVF.out.2.1) (by have h1 := HSC.out.1.2.2.2; have h2 := HSC.out.1.1; omega)) HSC.out.2.2.2.2.2 HSC.out.2.1.2.2.2 ?_
              rw [setCells_row (P := Tryz.prog) (ty := 83) (show Blk V.drew (w.heap.size + 1) 83 c0 from HVF.out.2.1) HSC.out.2.2.2.2.2 (by have h1 := HSC.out.1.2.2.2; have h2 := HSC.out.1.1; omega) HSC.out.2.1.2.2.2]
              refine hK.out _ _ ⟨(row_kept_e c3).cell (show V.drew.cell? ⟨13, 0, none⟩ = some (errV er) from HVF.out.1) (show ¬ (13 : Nat) = w.heap.size + 1 by have := HGL.out.2; omega), range_row_far (show V.drew.rangeAt (w.heap.size + 2) 0 c3.toList from range_blk0 HVF.out.2.2.1) (by omega) _⟩ (fun hHeld => ?_)
              clear hK K9
              try simp only [Act.put, List.getElem_toArray, List.getElem_cons_succ, List.getElem_cons_zero, List.setIfInBounds_toArray, List.set_cons_zero, List.set_cons_succ]
              refine wpAnyH_take (i := 3) (oi := _) (v := ?vz9_3) rfl (by kernel_rfl) (by kernel_rfl) (by kernel_rfl) (fun _ _ _ h => h) (Or.inl ⟨by rfl, ?hyz9_3⟩) (by assumption) ?restz9_3
              case hyz9_3 => (intro V hSw; obtain ⟨hSw1, hSw2⟩ := hSw; go_simp) <;> with_reducible rfl
              try simp only [Act.put, List.getElem_toArray, List.getElem_cons_succ, List.getElem_cons_zero, List.setIfInBounds_toArray, List.set_cons_zero, List.set_cons_succ]
              refine wpAnyH_done (by kernel_rfl) ?_ _
              go_wp2_with fail
              refine bodyPost_ret (results_cell_t rfl _ _ _ ⟨w.heap.size + 1, 0, none⟩ (.agg c3) rfl (run_loadVar_row _ (w.heap.size + 1) 83 83 _ (0, 0) _ ((show Blk V.drew (w.heap.size + 1) 83 c0 from HVF.out.2.1).row _) Tryz.underlying83 rfl HSC.out.2.2.2.2.2)) rfl ?_
              exact ⟨grown_row (show w.grownBy V.drew none from grown_drew HVF.out.2.2.2) (.inl (by omega)) _, c3, HSC.out.1.2.2.2, (by first | exact HSC.out.2.1.2.2.2 | simpa using HSC.out.2.1.2.2.2), .inr (.inr ⟨by unfold rowN; simp [HN0.out, HN1.out, HT1.out, HN2.out, HT2.out, HY0.out, HZ1.out], rfl⟩)⟩
            have a2 : decide (1099511627776 < ry) = false := by simpa using h2
            have hw := w64 (ry - 1) ⟨by omega, by omega⟩
            by_cases h3 : ry - 1 = rx
            rotate_left
            · have a3 : (ry - 1 != rx) = true := by simpa using h3
              have HZ1 := Lib.hid (show rndN 1 x.r y.r = true from rndN_yes (.inr (.inr ⟨by omega, by rw [HRR.out.2.1, HRR.out.1]; exact h3⟩)))
              refine wp_region_quiet_lit (by kernel_rfl) (by kernel_rfl) ?_
              repeat (first
                | go_big_quiet_skip
                | (go_big_quiet_want; first
                  | (go_big_quiet_op; go_big_quiet_on)))
              refine wpQuiet_nil ?_
              intro V9 hV9
              obtain ⟨n9, rfl⟩ := hV9
              obtain ⟨V, hV⟩ : ∃ V, W50.drewN n9 = V := ⟨_, rfl⟩
              have gV : W50.grownBy V none := by
                rw [← hV]
                have g9 := World.grownBy.refl W50 none
                exact ⟨g9.os, g9.tape, g9.output, g9.size, g9.block⟩
              rw [hV]
              have HGV := Lib.hid gV
              clear hV gV
              have HVF := Lib.hid (And.intro (HER.out V (grown_trans HBS3.out.1 (grown_trans (grown_trans (grown_trans HGg40.out HGX0.out) HGg50.out) HGV.out))) (And.intro (HBS3.out.2.2.1.grown (grown_trans (grown_trans (grown_trans HGg40.out HGX0.out) HGg50.out) HGV.out) (by simp)) (And.intro (HBS3.out.2.2.2.grown (grown_trans (grown_trans (grown_trans HGg40.out HGX0.out) HGg50.out) HGV.out) (by simp)) (grown_trans HBS3.out.1 (grown_trans (grown_trans (grown_trans HGg40.out HGX0.out) HGg50.out) HGV.out)))))
              go_upto_region 14 with (fail)
              refine wp_region_held_drew (S := fun V => V.cell? ⟨13, 0, none⟩ = some (errV er) ∧ V.rangeAt (w.heap.size + 2) 0 c3.toList) (by kernel_rfl) ⟨HVF.out.1, range_blk0 HVF.out.2.2.1⟩ (fun hHeld => ?_)
              refine wpAnyH_take (i := 0) (oi := _) (v := .agg c3) rfl (by kernel_rfl) (by kernel_rfl) (by kernel_rfl) (fun _ _ _ h => h) (yieldsIf_load_mid (by rfl) _ _ rfl (w.heap.size + 2) 0 rfl c3.toList _ (fun V hSw => hSw.2) Tryz.underlying83 rfl (by rw [Array.length_toList]; exact HSC.out.2.2.2.2.2)) (by assumption) ?restz10_0
              try simp only [Act.put, List.getElem_toArray, List.getElem_cons_succ, List.getElem_cons_zero, List.setIfInBounds_toArray, List.set_cons_zero, List.set_cons_succ]
              refine wpAnyH_take (i := 1) (oi := _) (v := ?vz10_1) rfl (by kernel_rfl) (by kernel_rfl) (by kernel_rfl) (fun _ _ _ h => h) (Or.inl ⟨by rfl, ?hyz10_1⟩) (by assumption) ?restz10_1
              case hyz10_1 => (intro V hSw; obtain ⟨hSw1, hSw2⟩ := hSw; go_simp) <;> with_reducible rfl
              try simp only [Act.put, List.getElem_toArray, List.getElem_cons_succ, List.getElem_cons_zero, List.setIfInBounds_toArray, List.set_cons_zero, List.set_cons_succ]
              refine wpAnyH_ready (rs := [2]) (by kernel_rfl) (by simp) ?_
              refine (AllReadyH.cons (o := _) rfl (fun K9 hK => ?_) AllReadyH.nil)
              refine ready_store_e (by rfl) 83 _ _ rfl (w.heap.size + 1) 0 c3 rfl rfl (there_blk (show Blk V.drew (w.heap.size + 1) 83 c0 from HVF.out.2.1) (by have h1 := HSC.out.1.2.2.2; have h2 := HSC.out.1.1; omega)) HSC.out.2.2.2.2.2 HSC.out.2.1.2.2.2 ?_
              rw [setCells_row (P := Tryz.prog) (ty := 83) (show Blk V.drew (w.heap.size + 1) 83 c0 from HVF.out.2.1) HSC.out.2.2.2.2.2 (by have h1 := HSC.out.1.2.2.2; have h2 := HSC.out.1.1; omega) HSC.out.2.1.2.2.2]
              refine hK.out _ _ ⟨(row_kept_e c3).cell (show V.drew.cell? ⟨13, 0, none⟩ = some (errV er) from HVF.out.1) (show ¬ (13 : Nat) = w.heap.size + 1 by have := HGL.out.2; omega), range_row_far (show V.drew.rangeAt (w.heap.size + 2) 0 c3.toList from range_blk0 HVF.out.2.2.1) (by omega) _⟩ (fun hHeld => ?_)
              clear hK K9
              try simp only [Act.put, List.getElem_toArray, List.getElem_cons_succ, List.getElem_cons_zero, List.setIfInBounds_toArray, List.set_cons_zero, List.set_cons_succ]
              refine wpAnyH_take (i := 3) (oi := _) (v := ?vz10_3) rfl (by kernel_rfl) (by kernel_rfl) (by kernel_rfl) (fun _ _ _ h => h) (Or.inl ⟨by rfl, ?hyz10_3⟩) (by assumption) ?restz10_3
              case hyz10_3 => (intro V hSw; obtain ⟨hSw1, hSw2⟩ := hSw; go_simp) <;> with_reducible rfl
              try simp only [Act.put, List.getElem_toArray, List.getElem_cons_succ, List.getElem_cons_zero, List.setIfInBounds_toArray, List.set_cons_zero, List.set_cons_succ]
              refine wpAnyH_done (by kernel_rfl) ?_ _
              go_wp2_with fail
              refine bodyPost_ret (results_cell_t rfl _ _ _ ⟨w.heap.size + 1, 0, none⟩ (.agg c3) rfl (run_loadVar_row _ (w.heap.size + 1) 83 83 _ (0, 0) _ ((show Blk V.drew (w.heap.size + 1) 83 c0 from HVF.out.2.1).row _) Tryz.underlying83 rfl HSC.out.2.2.2.2.2)) rfl ?_
              exact ⟨grown_row (show w.grownBy V.drew none from grown_drew HVF.out.2.2.2) (.inl (by omega)) _, c3, HSC.out.1.2.2.2, (by first | exact HSC.out.2.1.2.2.2 | simpa using HSC.out.2.1.2.2.2), .inr (.inr ⟨by unfold rowN; simp [HN0.out, HN1.out, HT1.out, HN2.out, HT2.out, HY0.out, HZ1.out], rfl⟩)⟩
            have a3 : (ry - 1 != rx) = false := by simpa using h3
            have HY1 := Lib.hid (show rndN 1 x.r y.r = false from rndN_no (by rw [HRR.out.2.1]; exact h1) (by rw [HRR.out.2.1]; exact h2) (.inr (by rw [HRR.out.2.1, HRR.out.1]; exact h3)))
            clear h1 h2 h3
            refine wp_region_quiet_lit (by kernel_rfl) (by kernel_rfl) ?_
            repeat (first
              | go_big_quiet_skip
              | (go_big_quiet_want; first
                | (go_big_quiet_op; go_big_quiet_on)))
            refine wpQuiet_nil ?_
            intro V9 hV9
            obtain ⟨n9, rfl⟩ := hV9
            obtain ⟨X1, hV⟩ : ∃ X1, W50.drewN n9 = X1 := ⟨_, rfl⟩
            have gV : W50.grownBy X1 none := by
              rw [← hV]
              have g9 := World.grownBy.refl W50 none
              exact ⟨g9.os, g9.tape, g9.output, g9.size, g9.block⟩
            rw [hV]
            have HGX1 := Lib.hid gV
            clear hV gV
            clear a1 a2 a3 cp hw cr
            go_wp2_with fail
            rw [rounds_succ]
            obtain ⟨q60, hq60⟩ : ∃ q, X1.heap.size = q := ⟨_, rfl⟩
            obtain ⟨W60, hW60⟩ : ∃ W, (X1.alloc (.cells ZB 49)).setRow q60 zv = W := ⟨_, rfl⟩
            have bn60 : Blk (X1.alloc (.cells ZB 49)) q60 49 ZB := by rw [← hq60]; exact Blk.new X1 49 ZB
            have b60 : Blk W60 q60 49 zv := by rw [← hW60]; exact bn60.row _
            have g60 : X1.grownBy W60 none := by rw [← hW60]; exact grown_row (World.grownBy_alloc _ _ none) (.inl (by rw [hq60]; exact Nat.le_refl _)) _
            have HP60 := Lib.hid (And.intro bn60 hW60)
            have HB60 := Lib.hid b60
            clear bn60 hW60 b60
            have HGg60 := Lib.hid g60
            clear g60
            go_upto_region 13 with (refine wpList_store_row rfl 49 _ _ rfl (q60) zv rfl rfl 49 _ HP60.out.1 (HSX.out.2.2.1) (HSX.out.2.2.2.2.2.2.2.2) HSX.out.2.2.2.2.2.1 ?_)
            rw [HP60.out.2]
            clear hq60
            try simp only [Act.put, List.getElem_toArray, List.getElem_cons_succ, List.getElem_cons_zero, List.setIfInBounds_toArray, List.set_cons_zero, List.set_cons_succ]
            have cr : W60.cell? ⟨q60, 1, none⟩ = some (.int .i64 rz) := by
              have := (bk_parts (HDG.out.2.2).1 (show Blk W60 q60 49 z.val by rw [HBL.out.2.2]; exact HB60.out)).1
              rwa [HRR.out.2.2] at this
            have cp : W60.cell? ⟨w.heap.size, 40, none⟩ = some (.int .i64 ry) := by
              have r := range_blk0 (HBS3.out.2.1.grown (grown_trans (grown_trans (grown_trans (grown_trans HGg40.out HGX0.out) HGg50.out) HGX1.out) HGg60.out) (by simp))
              have := r 40 (.int .i64 ry) PRV1
              simpa using this
            by_cases h1 : rz < 1
            · have a1 : decide (rz < 1) = true := by simpa using h1
              have HZ2 := Lib.hid (show rndN 2 y.r z.r = true from rndN_yes (.inl (by rw [HRR.out.2.2]; exact h1)))
              refine wp_region_quiet_lit (by kernel_rfl) (by kernel_rfl) ?_
              repeat (first
                | go_big_quiet_skip
                | (go_big_quiet_want; first
                  | (go_big_quiet_op; go_big_quiet_on)))
              refine wpQuiet_nil ?_
              intro V9 hV9
              obtain ⟨n9, rfl⟩ := hV9
              obtain ⟨V, hV⟩ : ∃ V, W60.drewN n9 = V := ⟨_, rfl⟩
              have gV : W60.grownBy V none := by
                rw [← hV]
                have g9 := World.grownBy.refl W60 none
                exact ⟨g9.os, g9.tape, g9.output, g9.size, g9.block⟩
              rw [hV]
              have HGV := Lib.hid gV
              clear hV gV
              have HVF := Lib.hid (And.intro (HER.out V (grown_trans HBS3.out.1 (grown_trans (grown_trans (grown_trans (grown_trans (grown_trans HGg40.out HGX0.out) HGg50.out) HGX1.out) HGg60.out) HGV.out))) (And.intro (HBS3.out.2.2.1.grown (grown_trans (grown_trans (grown_trans (grown_trans (grown_trans HGg40.out HGX0.out) HGg50.out) HGX1.out) HGg60.out) HGV.out) (by simp)) (And.intro (HBS3.out.2.2.2.grown (grown_trans (grown_trans (grown_trans (grown_trans (grown_trans HGg40.out HGX0.out) HGg50.out) HGX1.out) HGg60.out) HGV.out) (by simp)) (grown_trans HBS3.out.1 (grown_trans (grown_trans (grown_trans (grown_trans (grown_trans HGg40.out HGX0.out) HGg50.out) HGX1.out) HGg60.out) HGV.out)))))
              go_upto_region 14 with (fail)
              refine wp_region_held_drew (S := fun V => V.cell? ⟨13, 0, none⟩ = some (errV er) ∧ V.rangeAt (w.heap.size + 2) 0 c3.toList) (by kernel_rfl) ⟨HVF.out.1, range_blk0 HVF.out.2.2.1⟩ (fun hHeld => ?_)
              refine wpAnyH_take (i := 0) (oi := _) (v := .agg c3) rfl (by kernel_rfl) (by kernel_rfl) (by kernel_rfl) (fun _ _ _ h => h) (yieldsIf_load_mid (by rfl) _ _ rfl (w.heap.size + 2) 0 rfl c3.toList _ (fun V hSw => hSw.2) Tryz.underlying83 rfl (by rw [Array.length_toList]; exact HSC.out.2.2.2.2.2)) (by assumption) ?restz11_0
              try simp only [Act.put, List.getElem_toArray, List.getElem_cons_succ, List.getElem_cons_zero, List.setIfInBounds_toArray, List.set_cons_zero, List.set_cons_succ]
              refine wpAnyH_take (i := 1) (oi := _) (v := ?vz11_1) rfl (by kernel_rfl) (by kernel_rfl) (by kernel_rfl) (fun _ _ _ h => h) (Or.inl ⟨by rfl, ?hyz11_1⟩) (by assumption) ?restz11_1
              case hyz11_1 => (intro V hSw; obtain ⟨hSw1, hSw2⟩ := hSw; go_simp) <;> with_reducible rfl
              try simp only [Act.put, List.getElem_toArray, List.getElem_cons_succ, List.getElem_cons_zero, List.setIfInBounds_toArray, List.set_cons_zero, List.set_cons_succ]
              refine wpAnyH_ready (rs := [2]) (by kernel_rfl) (by simp) ?_
              refine (AllReadyH.cons (o := _) rfl (fun K9 hK => ?_) AllReadyH.nil)
              refine ready_store_e (by rfl) 83 _ _ rfl (w.heap.size + 1) 0 c3 rfl rfl (there_blk (show Blk V.drew (w.heap.size + 1) 83 c0 from HVF.out.2.1) (by have h1 := HSC.out.1.2.2.2; have h2 := HSC.out.1.1; omega)) HSC.out.2.2.2.2.2 HSC.out.2.1.2.2.2 ?_
              rw [setCells_row (P := Tryz.prog) (ty := 83) (show Blk V.drew (w.heap.size + 1) 83 c0 from HVF.out.2.1) HSC.out.2.2.2.2.2 (by have h1 := HSC.out.1.2.2.2; have h2 := HSC.out.1.1; omega) HSC.out.2.1.2.2.2]
              refine hK.out _ _ ⟨(row_kept_e c3).cell (show V.drew.cell? ⟨13, 0, none⟩ = some (errV er) from HVF.out.1) (show ¬ (13 : Nat) = w.heap.size + 1 by have := HGL.out.2; omega), range_row_far (show V.drew.rangeAt (w.heap.size + 2) 0 c3.toList from range_blk0 HVF.out.2.2.1) (by omega) _⟩ (fun hHeld => ?_)
              clear hK K9
              try simp only [Act.put, List.getElem_toArray, List.getElem_cons_succ, List.getElem_cons_zero, List.setIfInBounds_toArray, List.set_cons_zero, List.set_cons_succ]
              refine wpAnyH_take (i := 3) (oi := _) (v := ?vz11_3) rfl (by kernel_rfl) (by kernel_rfl) (by kernel_rfl) (fun _ _ _ h => h) (Or.inl ⟨by rfl, ?hyz11_3⟩) (by assumption) ?restz11_3
              case hyz11_3 => (intro V hSw; obtain ⟨hSw1, hSw2⟩ := hSw; go_simp) <;> with_reducible rfl
              try simp only [Act.put, List.getElem_toArray, List.getElem_cons_succ, List.getElem_cons_zero, List.setIfInBounds_toArray, List.set_cons_zero, List.set_cons_succ]
              refine wpAnyH_done (by kernel_rfl) ?_ _
              go_wp2_with fail
              refine bodyPost_ret (results_cell_t rfl _ _ _ ⟨w.heap.size + 1, 0, none⟩ (.agg c3) rfl (run_loadVar_row _ (w.heap.size + 1) 83 83 _ (0, 0) _ ((show Blk V.drew (w.heap.size + 1) 83 c0 from HVF.out.2.1).row _) Tryz.underlying83 rfl HSC.out.2.2.2.2.2)) rfl ?_
              exact ⟨grown_row (show w.grownBy V.drew none from grown_drew HVF.out.2.2.2) (.inl (by omega)) _, c3, HSC.out.1.2.2.2, (by first | exact HSC.out.2.1.2.2.2 | simpa using HSC.out.2.1.2.2.2), .inr (.inr ⟨by unfold rowN; simp [HN0.out, HN1.out, HT1.out, HN2.out, HT2.out, HY0.out, HY1.out, HZ2.out], rfl⟩)⟩
            have a1 : decide (rz < 1) = false := by simpa using h1
            by_cases h2 : 1099511627776 < rz
            · have a2 : decide (1099511627776 < rz) = true := by simpa using h2
              have HZ2 := Lib.hid (show rndN 2 y.r z.r = true from rndN_yes (.inr (.inl (by rw [HRR.out.2.2]; exact h2))))
              refine wp_region_quiet_lit (by kernel_rfl) (by kernel_rfl) ?_
              repeat (first
                | go_big_quiet_skip
                | (go_big_quiet_want; first
                  | (go_big_quiet_op; go_big_quiet_on)))
              refine wpQuiet_nil ?_
              intro V9 hV9
              obtain ⟨n9, rfl⟩ := hV9
              obtain ⟨V, hV⟩ : ∃ V, W60.drewN n9 = V := ⟨_, rfl⟩
              have gV : W60.grownBy V none := by
                rw [← hV]
                have g9 := World.grownBy.refl W60 none
                exact ⟨g9.os, g9.tape, g9.output, g9.size, g9.block⟩
              rw [hV]
              have HGV := Lib.hid gV
              clear hV gV
              have HVF := Lib.hid (And.intro (HER.out V (grown_trans HBS3.out.1 (grown_trans (grown_trans (grown_trans (grown_trans (grown_trans HGg40.out HGX0.out) HGg50.out) HGX1.out) HGg60.out) HGV.out))) (And.intro (HBS3.out.2.2.1.grown (grown_trans (grown_trans (grown_trans (grown_trans (grown_trans HGg40.out HGX0.out) HGg50.out) HGX1.out) HGg60.out) HGV.out) (by simp)) (And.intro (HBS3.out.2.2.2.grown (grown_trans (grown_trans (grown_trans (grown_trans (grown_trans HGg40.out HGX0.out) HGg50.out) HGX1.out) HGg60.out) HGV.out) (by simp)) (grown_trans HBS3.out.1 (grown_trans (grown_trans (grown_trans (grown_trans (grown_trans HGg40.out HGX0.out) HGg50.out) HGX1.out) HGg60.out) HGV.out)))))
              go_upto_region 14 with (fail)
              refine wp_region_held_drew (S := fun V => V.cell? ⟨13, 0, none⟩ = some (errV er) ∧ V.rangeAt (w.heap.size + 2) 0 c3.toList) (by kernel_rfl) ⟨HVF.out.1, range_blk0 HVF.out.2.2.1⟩ (fun hHeld => ?_)
              refine wpAnyH_take (i := 0) (oi := _) (v := .agg c3) rfl (by kernel_rfl) (by kernel_rfl) (by kernel_rfl) (fun _ _ _ h => h) (yieldsIf_load_mid (by rfl) _ _ rfl (w.heap.size + 2) 0 rfl c3.toList _ (fun V hSw => hSw.2) Tryz.underlying83 rfl (by rw [Array.length_toList]; exact HSC.out.2.2.2.2.2)) (by assumption) ?restz12_0
              try simp only [Act.put, List.getElem_toArray, List.getElem_cons_succ, List.getElem_cons_zero, List.setIfInBounds_toArray, List.set_cons_zero, List.set_cons_succ]
              refine wpAnyH_take (i := 1) (oi := _) (v := ?vz12_1) rfl (by kernel_rfl) (by kernel_rfl) (by kernel_rfl) (fun _ _ _ h => h) (Or.inl ⟨by rfl, ?hyz12_1⟩) (by assumption) ?restz12_1
              case hyz12_1 => (intro V hSw; obtain ⟨hSw1, hSw2⟩ := hSw; go_simp) <;> with_reducible rfl
              try simp only [Act.put, List.getElem_toArray, List.getElem_cons_succ, List.getElem_cons_zero, List.setIfInBounds_toArray, List.set_cons_zero, List.set_cons_succ]
              refine wpAnyH_ready (rs := [2]) (by kernel_rfl) (by simp) ?_
              refine (AllReadyH.cons (o := _) rfl (fun K9 hK => ?_) AllReadyH.nil)
              refine ready_store_e (by rfl) 83 _ _ rfl (w.heap.size + 1) 0 c3 rfl rfl (there_blk (show Blk V.drew (w.heap.size + 1) 83 c0 from HVF.out.2.1) (by have h1 := HSC.out.1.2.2.2; have h2 := HSC.out.1.1; omega)) HSC.out.2.2.2.2.2 HSC.out.2.1.2.2.2 ?_
              rw [setCells_row (P := Tryz.prog) (ty := 83) (show Blk V.drew (w.heap.size + 1) 83 c0 from HVF.out.2.1) HSC.out.2.2.2.2.2 (by have h1 := HSC.out.1.2.2.2; have h2 := HSC.out.1.1; omega) HSC.out.2.1.2.2.2]
              refine hK.out _ _ ⟨(row_kept_e c3).cell (show V.drew.cell? ⟨13, 0, none⟩ = some (errV er) from HVF.out.1) (show ¬ (13 : Nat) = w.heap.size + 1 by have := HGL.out.2; omega), range_row_far (show V.drew.rangeAt (w.heap.size + 2) 0 c3.toList from range_blk0 HVF.out.2.2.1) (by omega) _⟩ (fun hHeld => ?_)
              clear hK K9
              try simp only [Act.put, List.getElem_toArray, List.getElem_cons_succ, List.getElem_cons_zero, List.setIfInBounds_toArray, List.set_cons_zero, List.set_cons_succ]
              refine wpAnyH_take (i := 3) (oi := _) (v := ?vz12_3) rfl (by kernel_rfl) (by kernel_rfl) (by kernel_rfl) (fun _ _ _ h => h) (Or.inl ⟨by rfl, ?hyz12_3⟩) (by assumption) ?restz12_3
              case hyz12_3 => (intro V hSw; obtain ⟨hSw1, hSw2⟩ := hSw; go_simp) <;> with_reducible rfl
              try simp only [Act.put, List.getElem_toArray, List.getElem_cons_succ, List.getElem_cons_zero, List.setIfInBounds_toArray, List.set_cons_zero, List.set_cons_succ]
              refine wpAnyH_done (by kernel_rfl) ?_ _
              go_wp2_with fail
              refine bodyPost_ret (results_cell_t rfl _ _ _ ⟨w.heap.size + 1, 0, none⟩ (.agg c3) rfl (run_loadVar_row _ (w.heap.size + 1) 83 83 _ (0, 0) _ ((show Blk V.drew (w.heap.size + 1) 83 c0 from HVF.out.2.1).row _) Tryz.underlying83 rfl HSC.out.2.2.2.2.2)) rfl ?_
              exact ⟨grown_row (show w.grownBy V.drew none from grown_drew HVF.out.2.2.2) (.inl (by omega)) _, c3, HSC.out.1.2.2.2, (by first | exact HSC.out.2.1.2.2.2 | simpa using HSC.out.2.1.2.2.2), .inr (.inr ⟨by unfold rowN; simp [HN0.out, HN1.out, HT1.out, HN2.out, HT2.out, HY0.out, HY1.out, HZ2.out], rfl⟩)⟩
            have a2 : decide (1099511627776 < rz) = false := by simpa using h2
            have hw := w64 (rz - 1) ⟨by omega, by omega⟩
            by_cases h3 : rz - 1 = ry
            rotate_left
            · have a3 : (rz - 1 != ry) = true := by simpa using h3
              have HZ2 := Lib.hid (show rndN 2 y.r z.r = true from rndN_yes (.inr (.inr ⟨by omega, by rw [HRR.out.2.2, HRR.out.2.1]; exact h3⟩)))
              refine wp_region_quiet_lit (by kernel_rfl) (by kernel_rfl) ?_
              repeat (first
                | go_big_quiet_skip
                | (go_big_quiet_want; first
                  | (go_big_quiet_op; go_big_quiet_on)))
              refine wpQuiet_nil ?_
              intro V9 hV9
              obtain ⟨n9, rfl⟩ := hV9
              obtain ⟨V, hV⟩ : ∃ V, W60.drewN n9 = V := ⟨_, rfl⟩
              have gV : W60.grownBy V none := by
                rw [← hV]
                have g9 := World.grownBy.refl W60 none
                exact ⟨g9.os, g9.tape, g9.output, g9.size, g9.block⟩
              rw [hV]
              have HGV := Lib.hid gV
              clear hV gV
              have HVF := Lib.hid (And.intro (HER.out V (grown_trans HBS3.out.1 (grown_trans (grown_trans (grown_trans (grown_trans (grown_trans HGg40.out HGX0.out) HGg50.out) HGX1.out) HGg60.out) HGV.out))) (And.intro (HBS3.out.2.2.1.grown (grown_trans (grown_trans (grown_trans (grown_trans (grown_trans HGg40.out HGX0.out) HGg50.out) HGX1.out) HGg60.out) HGV.out) (by simp)) (And.intro (HBS3.out.2.2.2.grown (grown_trans (grown_trans (grown_trans (grown_trans (grown_trans HGg40.out HGX0.out) HGg50.out) HGX1.out) HGg60.out) HGV.out) (by simp)) (grown_trans HBS3.out.1 (grown_trans (grown_trans (grown_trans (grown_trans (grown_trans HGg40.out HGX0.out) HGg50.out) HGX1.out) HGg60.out) HGV.out)))))
              go_upto_region 14 with (fail)
              refine wp_region_held_drew (S := fun V => V.cell? ⟨13, 0, none⟩ = some (errV er) ∧ V.rangeAt (w.heap.size + 2) 0 c3.toList) (by kernel_rfl) ⟨HVF.out.1, range_blk0 HVF.out.2.2.1⟩ (fun hHeld => ?_)
              refine wpAnyH_take (i := 0) (oi := _) (v := .agg c3) rfl (by kernel_rfl) (by kernel_rfl) (by kernel_rfl) (fun _ _ _ h => h) (yieldsIf_load_mid (by rfl) _ _ rfl (w.heap.size + 2) 0 rfl c3.toList _ (fun V hSw => hSw.2) Tryz.underlying83 rfl (by rw [Array.length_toList]; exact HSC.out.2.2.2.2.2)) (by assumption) ?restz13_0
              try simp only [Act.put, List.getElem_toArray, List.getElem_cons_succ, List.getElem_cons_zero, List.setIfInBounds_toArray, List.set_cons_zero, List.set_cons_succ]
              refine wpAnyH_take (i := 1) (oi := _) (v := ?vz13_1) rfl (by kernel_rfl) (by kernel_rfl) (by kernel_rfl) (fun _ _ _ h => h) (Or.inl ⟨by rfl, ?hyz13_1⟩) (by assumption) ?restz13_1
              case hyz13_1 => (intro V hSw; obtain ⟨hSw1, hSw2⟩ := hSw; go_simp) <;> with_reducible rfl
              try simp only [Act.put, List.getElem_toArray, List.getElem_cons_succ, List.getElem_cons_zero, List.setIfInBounds_toArray, List.set_cons_zero, List.set_cons_succ]
              refine wpAnyH_ready (rs := [2]) (by kernel_rfl) (by simp) ?_
              refine (AllReadyH.cons (o := _) rfl (fun K9 hK => ?_) AllReadyH.nil)
              refine ready_store_e (by rfl) 83 _ _ rfl (w.heap.size + 1) 0 c3 rfl rfl (there_blk (show Blk V.drew (w.heap.size + 1) 83 c0 from HVF.out.2.1) (by have h1 := HSC.out.1.2.2.2; have h2 := HSC.out.1.1; omega)) HSC.out.2.2.2.2.2 HSC.out.2.1.2.2.2 ?_
              rw [setCells_row (P := Tryz.prog) (ty := 83) (show Blk V.drew (w.heap.size + 1) 83 c0 from HVF.out.2.1) HSC.out.2.2.2.2.2 (by have h1 := HSC.out.1.2.2.2; have h2 := HSC.out.1.1; omega) HSC.out.2.1.2.2.2]
              refine hK.out _ _ ⟨(row_kept_e c3).cell (show V.drew.cell? ⟨13, 0, none⟩ = some (errV er) from HVF.out.1) (show ¬ (13 : Nat) = w.heap.size + 1 by have := HGL.out.2; omega), range_row_far (show V.drew.rangeAt (w.heap.size + 2) 0 c3.toList from range_blk0 HVF.out.2.2.1) (by omega) _⟩ (fun hHeld => ?_)
              clear hK K9
              try simp only [Act.put, List.getElem_toArray, List.getElem_cons_succ, List.getElem_cons_zero, List.setIfInBounds_toArray, List.set_cons_zero, List.set_cons_succ]
              refine wpAnyH_take (i := 3) (oi := _) (v := ?vz13_3) rfl (by kernel_rfl) (by kernel_rfl) (by kernel_rfl) (fun _ _ _ h => h) (Or.inl ⟨by rfl, ?hyz13_3⟩) (by assumption) ?restz13_3
              case hyz13_3 => (intro V hSw; obtain ⟨hSw1, hSw2⟩ := hSw; go_simp) <;> with_reducible rfl
              try simp only [Act.put, List.getElem_toArray, List.getElem_cons_succ, List.getElem_cons_zero, List.setIfInBounds_toArray, List.set_cons_zero, List.set_cons_succ]
              refine wpAnyH_done (by kernel_rfl) ?_ _
              go_wp2_with fail
              refine bodyPost_ret (results_cell_t rfl _ _ _ ⟨w.heap.size + 1, 0, none⟩ (.agg c3) rfl (run_loadVar_row _ (w.heap.size + 1) 83 83 _ (0, 0) _ ((show Blk V.drew (w.heap.size + 1) 83 c0 from HVF.out.2.1).row _) Tryz.underlying83 rfl HSC.out.2.2.2.2.2)) rfl ?_
              exact ⟨grown_row (show w.grownBy V.drew none from grown_drew HVF.out.2.2.2) (.inl (by omega)) _, c3, HSC.out.1.2.2.2, (by first | exact HSC.out.2.1.2.2.2 | simpa using HSC.out.2.1.2.2.2), .inr (.inr ⟨by unfold rowN; simp [HN0.out, HN1.out, HT1.out, HN2.out, HT2.out, HY0.out, HY1.out, HZ2.out], rfl⟩)⟩
            have a3 : (rz - 1 != ry) = false := by simpa using h3
            have HY2 := Lib.hid (show rndN 2 y.r z.r = false from rndN_no (by rw [HRR.out.2.2]; exact h1) (by rw [HRR.out.2.2]; exact h2) (.inr (by rw [HRR.out.2.2, HRR.out.2.1]; exact h3)))
            clear h1 h2 h3
            refine wp_region_quiet_lit (by kernel_rfl) (by kernel_rfl) ?_
            repeat (first
              | go_big_quiet_skip
              | (go_big_quiet_want; first
                | (go_big_quiet_op; go_big_quiet_on)))
            refine wpQuiet_nil ?_
            intro V9 hV9
            obtain ⟨n9, rfl⟩ := hV9
            obtain ⟨X2, hV⟩ : ∃ X2, W60.drewN n9 = X2 := ⟨_, rfl⟩
            have gV : W60.grownBy X2 none := by
              rw [← hV]
              have g9 := World.grownBy.refl W60 none
              exact ⟨g9.os, g9.tape, g9.output, g9.size, g9.block⟩
            rw [hV]
            have HGX2 := Lib.hid gV
            clear hV gV
            clear a1 a2 a3 cp hw cr
            go_wp2_with fail
            rw [rounds_succ]
            have HVE := Lib.hid (And.intro (grown_trans HBS3.out.1 (grown_trans (grown_trans (grown_trans (grown_trans (grown_trans HGg40.out HGX0.out) HGg50.out) HGX1.out) HGg60.out) HGX2.out)) (And.intro (HBS3.out.2.2.1.grown (grown_trans (grown_trans (grown_trans (grown_trans (grown_trans HGg40.out HGX0.out) HGg50.out) HGX1.out) HGg60.out) HGX2.out) (by simp)) (HBS3.out.2.2.2.grown (grown_trans (grown_trans (grown_trans (grown_trans (grown_trans HGg40.out HGX0.out) HGg50.out) HGX1.out) HGg60.out) HGX2.out) (by simp))))
            go_wp2_with (first
              | (refine wpList_load_mid rfl 83 _ rfl (w.heap.size + 2) 0 rfl c3.toList _ (range_blk0 HVE.out.2.2) Tryz.underlying83 rfl (by rw [Array.length_toList]; exact HSC.out.2.2.2.2.2) ?_; rw [Array.toArray_toList])
              | (refine wpList_store_row rfl 83 _ _ rfl (w.heap.size + 1) c3 rfl rfl 83 _ HVE.out.2.1 (HSC.out.2.2.2.2.2) ((by have h1 := HSC.out.1.2.2.2; have h2 := HSC.out.1.1; omega)) HSC.out.2.1.2.2.2 ?_))
            refine bodyPost_ret (results_cell_t rfl _ _ _ ⟨w.heap.size + 1, 0, none⟩ (.agg c3) rfl (run_loadVar_row _ (w.heap.size + 1) 83 83 _ (0, 0) _ (HVE.out.2.1.row _) Tryz.underlying83 rfl HSC.out.2.2.2.2.2)) rfl ?_
            exact ⟨grown_row HVE.out.1 (.inl (by omega)) _, c3, HSC.out.1.2.2.2, (by first | exact HSC.out.2.1.2.2.2 | simpa using HSC.out.2.1.2.2.2), .inl ⟨by unfold rowN; simp [HN0.out, HN1.out, HT1.out, HN2.out, HT2.out, HY0.out, HY1.out, HY2.out], by rw [HIDS.out.1, HIDS.out.2.1, HIDS.out.2.2.1, HIDS.out.2.2.2.2.2], rfl⟩⟩
end Go.Proofs.YtmoebkdbnldbdaaGreatDoor
