/-
  CodecIds, walked.
-/
import Derived.Test.YtebnebajedlhlaaDoorM9iC
import Derived.Test.YtebnebajedlhlaaDoorM9iF
import Derived.Test.YtebnebajedlhlaaDoorM9iJ
namespace Go.Proofs.YtebnebajedlhlaaDoor
open Go.RowKit

attribute [local go_sem] Oper.semAt_some

theorem wpList_load_mid_gJ {P : Program} {ops : Array Oper} {rest : List Oper} {op : Oper} {a : Act} {w : World} {Q : Exit → Act → World → Prop} (hw : Region.wanted op (yielded ops a.tmps) = true) (ty : TypeId) (x : Operand) (ho : op.op = .load ty x)
    (b o : Nat) (hx : a.eval x = .pointer (some ⟨b, o, none⟩)) (cs : List Value) (d : TypeDesc) (hc : w.rangeAt b o cs)
    (hu : P.underlying ty = some d) (hd : d.isRow = true) (hi : (P.info? ty).map (·.size) = some cs.length)
    (h : wpList P ops Q rest (a.put op.dst (.agg cs.toArray)) w) : wpList P ops Q (op :: rest) a w :=
  BigFrame.wpList_want hw fun _ hK => wp_load_mid ty x ho b o hx cs d hc hu hd hi (hK _ _ h)
theorem sz_BkJ : (Tryd.prog.info? 30).map (·.size) = some 39 := by kernel_rfl
theorem few_big {b : Bk} (h : bigBk b = false) : b.few := by
  unfold bigBk bigQc at h
  simp only [Bool.or_eq_false_iff, decide_eq_false_iff_not, List.any_eq_false] at h
  obtain ⟨h1, h2, _, h4, h5⟩ := h
  refine ⟨by omega, fun s hs => ?_, by omega, by omega⟩
  have := h5 s hs
  unfold bigSg bigN at this
  simp only [Bool.not_eq_true, Bool.or_eq_false_iff, decide_eq_false_iff_not] at this
  omega
theorem ofS_eqJ {p q : Bk} (h : bkEq p q = true) : idD p = idD q := by
  unfold idD
  rw [alike_bk h]
theorem arr_beqJ (a b : List UInt8) : (a == b) = decide (a = b) := by
  by_cases h : a = b
  · subst h; simp
  · simp [h]
def zJ : Array Value := arrV .u8 (List.replicate 16 0)
theorem eqDJ (w : World) (l1 l2 : List Int) (h1 : l1.length = 16) (h2 : l2.length = 16) : Sem.run Tryd.prog (Op.equalIn 10000 23 (.agg (arrV .u8 l1)) (.agg (arrV .u8 l2))) w = .ok (decide (l1 = l2)) w :=
  eq_arr w 9998 Tryd.underlying23 (by kernel_rfl) Tryd.underlying5 (by kernel_rfl) (by kernel_rfl) l1 l2 h1 h2
set_option maxRecDepth 100000 in
set_option maxHeartbeats 4000000 in
theorem ids_any (w : World) (hR : Rounds w) (E : Nat → Addr) (he : ErrAt w w.heap.size 1 (E 0)) (hf : ErrAt w w.heap.size 0 (E 3)) (x y : Bk) (hx : x.At w) (hy : y.At w) (xv yv : Array Value) (hxv : xv = x.val) (hyv : yv = y.val) :
    Calls Tryd.prog 3 #[.agg xv, .agg yv] w fun e' w' => e' = .returned (.bool true) ∧ w.grownBy w' none := by
  obtain ⟨Z, hZ⟩ : ∃ Z, zJ = Z := ⟨_, rfl⟩
  have hz : ∀ w, Sem.run Tryd.prog (zeroValue 23) w = .ok (.agg Z) w := fun w => by rw [← hZ]; exact z16run w
  have hZ16 : Z.size = 16 := by rw [← hZ, zJ, arr_size]; rfl
  have hxs : xv.size = 39 := by rw [hxv]; exact Bk.val_size hx
  have hys : yv.size = 39 := by rw [hyv]; exact Bk.val_size hy
  obtain ⟨W1, hW1⟩ : ∃ W1, (w.alloc (.cells xv 30)).alloc (.cells yv 30) = W1 := ⟨_, rfl⟩
  have g1 : w.grownBy W1 none := by rw [← hW1]; exact grown_trans (World.grownBy_alloc _ _ none) (World.grownBy_alloc _ _ none)
  have bx : Blk W1 w.heap.size 30 xv := by rw [← hW1]; exact (Blk.new w _ _).alloc _
  have bY : Blk W1 (w.heap.size + 1) 30 yv := by
    have := Blk.new (w.alloc (.cells xv 30)) 30 yv
    rw [← hW1]; simpa using this
  have hat : ∀ W : World, w.grownBy W none → Rounds W ∧ ErrAt W W.heap.size 1 (E 0) ∧ ErrAt W W.heap.size 0 (E 3) ∧ x.At W ∧ y.At W := fun W hW =>
    ⟨hR.grown hW (by simp), ⟨hW.cell he.1 (by simp), by have := he.2; have := hW.size; omega⟩, ⟨hW.cell hf.1 (by simp), by have := hf.2; have := hW.size; omega⟩, hx.grown hW, hy.grown hW⟩
  obtain ⟨da, hda⟩ : ∃ dv, arrV .u8 (idD x) = dv := ⟨_, rfl⟩
  obtain ⟨db, hdb⟩ : ∃ dv, arrV .u8 (idD y) = dv := ⟨_, rfl⟩
  have hdas : da.size = 16 := by rw [← hda, arr_size, idD_length]
  have hdbs : db.size = 16 := by rw [← hdb, arr_size, idD_length]
  have hda1 : (da.all fun v => v.oneCell') = true := by rw [← hda]; exact arr_one _ _
  have hdb1 : (db.all fun v => v.oneCell') = true := by rw [← hdb]; exact arr_one _ _
  obtain ⟨q, hq⟩ : ∃ q, decide (idD x = idD y) = q := ⟨_, rfl⟩
  have heq1 : ∀ V, Sem.run Tryd.prog (Op.equalIn 10000 23 (.agg da) (.agg db)) V = .ok q V := fun V => by rw [← hda, ← hdb, ← hq]; exact eqDJ V _ _ (idD_length _) (idD_length _)
  have HAL := Lib.hid (alive9 W1 E (hat W1 g1).2.1 (hat W1 g1).2.2.1)
  have HBX := Lib.hid (fun (W : World) (hW : w.grownBy W none) => rbigB_is W x (hat W hW).2.2.2.1 xv hxv)
  have HBY := Lib.hid (fun (W : World) (hW : w.grownBy W none) => rbigB_is W y (hat W hW).2.2.2.2 yv hyv)
  have HCX := Lib.hid (fun (W : World) (hW : w.grownBy W none) => cbytes_is W (hat W hW).2.1 x (hat W hW).2.2.2.1 xv hxv)
  have HCY := Lib.hid (fun (W : World) (hW : w.grownBy W none) => cbytes_is W (hat W hW).2.1 y (hat W hW).2.2.2.2 yv hyv)
  have HIX := Lib.hid (fun (W : World) (hW : w.grownBy W none) => id_is W (hat W hW).1 (hat W hW).2.1 x (hat W hW).2.2.2.1 xv hxv da hda.symm)
  have HIY := Lib.hid (fun (W : World) (hW : w.grownBy W none) => id_is W (hat W hW).1 (hat W hW).2.1 y (hat W hW).2.2.2.2 yv hyv db hdb.symm)
  have HSB := Lib.hid (fun (W : World) (hW : w.grownBy W none) (hb : bigBk x = false) => block_same W x y (hat W hW).2.2.2.1 (hat W hW).2.2.2.2 (few_big hb) xv yv hxv hyv)
  have HF := Lib.hid (And.intro hx.fit hy.fit)
  have HQ := Lib.hid (show bkEq x y = true → q = true from fun h => by rw [← hq]; exact decide_eq_true (ofS_eqJ h))
  have szD : ∀ d : Array Value, d.size = 16 → (Tryd.prog.info? 23).map (·.size) = some d.size := fun d h => by rw [h]; exact sz_Dg
  have HS := Lib.hid (And.intro (show (Tryd.prog.info? 30).map (·.size) = some xv.size by rw [hxs]; exact sz_BkJ) (And.intro (show (Tryd.prog.info? 30).map (·.size) = some yv.size by rw [hys]; exact sz_BkJ) (And.intro (szD da hdas) (And.intro (szD db hdbs) (And.intro (show Z.size = da.size by rw [hdas, hZ16]) (And.intro (show Z.size = db.size by rw [hdbs, hZ16]) (And.intro hda1 hdb1)))))))
  have HX := Lib.hid (And.intro g1 (And.intro (range_blk0 bx) (range_blk0 bY)))
  have HW := Lib.hid hW1
  clear hat hZ hZ16 hxs hys hW1 g1 bx bY hda hdb hdas hdbs hda1 hdb1 hq szD hx hy hxv hyv hR he hf
  go_enter Tryd.func3, Tryd.ntmps3
  go_upto_region 1 with (fail)
  rw [HW.out]
  go_wp2_with fail
  refine HAL.out.mono ?_
  rintro e w2 ⟨rfl, g2⟩
  have HGg2 := Lib.hid g2
  clear g2
  go_wp2_with (refine wpList_load_mid rfl 30 _ rfl (w.heap.size) 0 rfl xv.toList _ (range_kept HX.out.2.1 HGg2.out) Tryd.underlying30 rfl (by rw [Array.length_toList]; exact HS.out.1) ?_; rw [Array.toArray_toList])
  refine (HBX.out w2 (grown_trans HX.out.1 HGg2.out)).mono ?_
  rintro e w3 ⟨rfl, g3⟩
  have HGg3 := Lib.hid g3
  clear g3
  cases hbx : bigBk x
  rotate_left
  · clear hbx
    go_wp2_with fail
    go_ret
    exact ⟨rfl, (grown_trans HX.out.1 (grown_trans HGg2.out HGg3.out))⟩
  have HBX2 := Lib.hid hbx
  clear hbx
  go_wp2_with (refine wpList_load_mid_gJ (by rfl) 30 _ rfl (w.heap.size + 1) 0 rfl yv.toList _ (range_kept HX.out.2.2 (grown_trans HGg2.out HGg3.out)) Tryd.underlying30 rfl (by rw [Array.length_toList]; exact HS.out.2.1) ?_; rw [Array.toArray_toList])
  refine (HBY.out w3 (grown_trans HX.out.1 (grown_trans HGg2.out HGg3.out))).mono ?_
  rintro e w4 ⟨rfl, g4⟩
  have HGg4 := Lib.hid g4
  clear g4
  cases hby : bigBk y
  rotate_left
  · clear hby
    go_wp2_with fail
    go_ret
    exact ⟨rfl, (grown_trans HX.out.1 (grown_trans (grown_trans HGg2.out HGg3.out) HGg4.out))⟩
  clear hby
  go_wp2_with (refine wpList_load_mid rfl 30 _ rfl (w.heap.size) 0 rfl xv.toList _ (range_kept HX.out.2.1 (grown_trans (grown_trans HGg2.out HGg3.out) HGg4.out)) Tryd.underlying30 rfl (by rw [Array.length_toList]; exact HS.out.1) ?_; rw [Array.toArray_toList])
  refine (HCX.out w4 (grown_trans HX.out.1 (grown_trans (grown_trans HGg2.out HGg3.out) HGg4.out))).mono ?_
  rintro e w5 ⟨g5, hcx⟩
  have HGg5 := Lib.hid g5
  clear g5
  obtain ⟨Ax, nx, cx, v1, rfl, HVX⟩ : ∃ (Ax : Option Addr) (nx cx : Nat) (v1 : Value), e = .returned (.tuple #[.slice Ax nx cx, v1]) ∧ Hid (v1 = evOf E (bkS x).1 ∧ ((bkS x).1 = 0 → nx = (bkS x).2.length ∧ BytesAt w5 Ax (bkS x).2)) := by
    rcases hcx with ⟨h0, A, c, rfl, hown⟩ | ⟨h0, rfl⟩
    · exact ⟨A, _, c, _, rfl, by rw [h0]; rfl, fun _ => ⟨rfl, own_bytesAt hown⟩⟩
    · exact ⟨none, 0, 0, _, rfl, rfl, fun h => absurd h h0⟩
  clear hcx
  go_wp2_with (refine wpList_load_mid rfl 30 _ rfl (w.heap.size + 1) 0 rfl yv.toList _ (range_kept HX.out.2.2 (grown_trans (grown_trans (grown_trans HGg2.out HGg3.out) HGg4.out) HGg5.out)) Tryd.underlying30 rfl (by rw [Array.length_toList]; exact HS.out.2.1) ?_; rw [Array.toArray_toList])
  refine (HCY.out w5 (grown_trans HX.out.1 (grown_trans (grown_trans (grown_trans HGg2.out HGg3.out) HGg4.out) HGg5.out))).mono ?_
  rintro e w6 ⟨g6, hcy⟩
  have HGg6 := Lib.hid g6
  clear g6
  obtain ⟨Ay, ny, cy, v2, rfl, HVY⟩ : ∃ (Ay : Option Addr) (ny cy : Nat) (v2 : Value), e = .returned (.tuple #[.slice Ay ny cy, v2]) ∧ Hid (v2 = evOf E (bkS y).1 ∧ ((bkS y).1 = 0 → ny = (bkS y).2.length ∧ BytesAt w6 Ay (bkS y).2)) := by
    rcases hcy with ⟨h0, A, c, rfl, hown⟩ | ⟨h0, rfl⟩
    · exact ⟨A, _, c, _, rfl, by rw [h0]; rfl, fun _ => ⟨rfl, own_bytesAt hown⟩⟩
    · exact ⟨none, 0, 0, _, rfl, rfl, fun h => absurd h h0⟩
  clear hcy
  go_wp2_with (refine wpList_load_mid rfl 30 _ rfl (w.heap.size) 0 rfl xv.toList _ (range_kept HX.out.2.1 (grown_trans (grown_trans (grown_trans (grown_trans HGg2.out HGg3.out) HGg4.out) HGg5.out) HGg6.out)) Tryd.underlying30 rfl (by rw [Array.length_toList]; exact HS.out.1) ?_; rw [Array.toArray_toList])
  refine (HIX.out w6 (grown_trans HX.out.1 (grown_trans (grown_trans (grown_trans (grown_trans HGg2.out HGg3.out) HGg4.out) HGg5.out) HGg6.out))).mono ?_
  rintro e w7 ⟨rfl, g7⟩
  have HGg7 := Lib.hid g7
  clear g7
  obtain ⟨v3, hv3⟩ : ∃ v, evOf E (bkS x).1 = v := ⟨_, rfl⟩
  rw [hv3]
  have HV3 := Lib.hid hv3
  clear hv3
  obtain ⟨q8, hq8⟩ : ∃ q, w7.heap.size = q := ⟨_, rfl⟩
  obtain ⟨W8, hW8⟩ : ∃ W, (w7.alloc (.cells Z 23)).setRow q8 da = W := ⟨_, rfl⟩
  have bn8 : Blk (w7.alloc (.cells Z 23)) q8 23 Z := by rw [← hq8]; exact Blk.new w7 23 Z
  have b8 : Blk W8 q8 23 da := by rw [← hW8]; exact bn8.row _
  have g8 : w7.grownBy W8 none := by rw [← hW8]; exact grown_row (World.grownBy_alloc _ _ none) (.inl (by rw [hq8]; exact Nat.le_refl _)) _
  have HP8 := Lib.hid (And.intro bn8 hW8)
  have HB8 := Lib.hid b8
  clear bn8 hW8 b8
  have HGg8 := Lib.hid g8
  clear g8
  go_upto_region 8 with (refine wpList_store_row rfl 23 _ _ rfl (q8) da rfl rfl 23 _ HP8.out.1 (HS.out.2.2.1) (HS.out.2.2.2.2.1) HS.out.2.2.2.2.2.2.1 ?_)
  rw [HP8.out.2]
  clear hq8
  go_wp2_with (refine wpList_load_mid rfl 30 _ rfl (w.heap.size + 1) 0 rfl yv.toList _ (range_kept HX.out.2.2 (grown_trans (grown_trans (grown_trans (grown_trans (grown_trans (grown_trans HGg2.out HGg3.out) HGg4.out) HGg5.out) HGg6.out) HGg7.out) HGg8.out)) Tryd.underlying30 rfl (by rw [Array.length_toList]; exact HS.out.2.1) ?_; rw [Array.toArray_toList])
  refine (HIY.out W8 (grown_trans HX.out.1 (grown_trans (grown_trans (grown_trans (grown_trans (grown_trans (grown_trans HGg2.out HGg3.out) HGg4.out) HGg5.out) HGg6.out) HGg7.out) HGg8.out))).mono ?_
  rintro e w9 ⟨rfl, g9⟩
  have HGg9 := Lib.hid g9
  clear g9
  obtain ⟨v4, hv4⟩ : ∃ v, evOf E (bkS y).1 = v := ⟨_, rfl⟩
  rw [hv4]
  have HV4 := Lib.hid hv4
  clear hv4
  obtain ⟨q10, hq10⟩ : ∃ q, w9.heap.size = q := ⟨_, rfl⟩
  obtain ⟨W10, hW10⟩ : ∃ W, (w9.alloc (.cells Z 23)).setRow q10 db = W := ⟨_, rfl⟩
  have bn10 : Blk (w9.alloc (.cells Z 23)) q10 23 Z := by rw [← hq10]; exact Blk.new w9 23 Z
  have b10 : Blk W10 q10 23 db := by rw [← hW10]; exact bn10.row _
  have g10 : w9.grownBy W10 none := by rw [← hW10]; exact grown_row (World.grownBy_alloc _ _ none) (.inl (by rw [hq10]; exact Nat.le_refl _)) _
  have HP10 := Lib.hid (And.intro bn10 hW10)
  have HB10 := Lib.hid b10
  clear bn10 hW10 b10
  have HGg10 := Lib.hid g10
  clear g10
  go_upto_region 9 with (refine wpList_store_row rfl 23 _ _ rfl (q10) db rfl rfl 23 _ HP10.out.1 (HS.out.2.2.2.1) (HS.out.2.2.2.2.2.1) HS.out.2.2.2.2.2.2.2 ?_)
  rw [HP10.out.2]
  clear hq10
  have HE := Lib.hid (grown_trans HX.out.1 (grown_trans (grown_trans (grown_trans (grown_trans (grown_trans (grown_trans (grown_trans (grown_trans HGg2.out HGg3.out) HGg4.out) HGg5.out) HGg6.out) HGg7.out) HGg8.out) HGg9.out) HGg10.out))
  have HV1 := Lib.hid HVX.out.1
  have HV2 := Lib.hid HVY.out.1
  cases hx0 : (bkS x).1 with
  | succ kx =>
    obtain rfl : v1 = errV (E kx) := by rw [HV1.out, hx0]; rfl
    obtain rfl : v3 = errV (E kx) := by rw [← HV3.out, hx0]; rfl
    clear hx0
    go_wp2_with fail
    go_ret
    exact ⟨rfl, HE.out⟩
  | zero =>
    obtain rfl : v1 = .nilIface := by rw [HV1.out, hx0]; rfl
    obtain rfl : v3 = .nilIface := by rw [← HV3.out, hx0]; rfl
    have HX0 := Lib.hid hx0
    clear hx0
    cases hy0 : (bkS y).1 with
    | succ ky =>
      obtain rfl : v2 = errV (E ky) := by rw [HV2.out, hy0]; rfl
      clear hy0
      go_wp2_with fail
      go_ret
      exact ⟨rfl, HE.out⟩
    | zero =>
      obtain rfl : v2 = .nilIface := by rw [HV2.out, hy0]; rfl
      obtain rfl : v4 = .nilIface := by rw [← HV4.out, hy0]; rfl
      have HY0 := Lib.hid hy0
      clear hy0
      go_wp2_with (first
        | (refine wpList_load_mid rfl 30 _ rfl (w.heap.size) 0 rfl xv.toList _ (range_kept HX.out.2.1 (grown_trans (grown_trans (grown_trans (grown_trans (grown_trans (grown_trans (grown_trans (grown_trans HGg2.out HGg3.out) HGg4.out) HGg5.out) HGg6.out) HGg7.out) HGg8.out) HGg9.out) HGg10.out)) Tryd.underlying30 rfl (by rw [Array.length_toList]; exact HS.out.1) ?_; rw [Array.toArray_toList])
        | (refine wpList_load_mid rfl 30 _ rfl (w.heap.size + 1) 0 rfl yv.toList _ (range_kept HX.out.2.2 (grown_trans (grown_trans (grown_trans (grown_trans (grown_trans (grown_trans (grown_trans (grown_trans HGg2.out HGg3.out) HGg4.out) HGg5.out) HGg6.out) HGg7.out) HGg8.out) HGg9.out) HGg10.out)) Tryd.underlying30 rfl (by rw [Array.length_toList]; exact HS.out.2.1) ?_; rw [Array.toArray_toList]))
      refine (HSB.out W10 HE.out HBX2.out).mono ?_
      rintro e w11 ⟨rfl, g11⟩
      obtain ⟨r, hr⟩ : ∃ r, bkEq x y = r := ⟨_, rfl⟩
      have HR := Lib.hid hr
      rw [hr]
      clear hr
      obtain ⟨sx, hsx⟩ : ∃ s : ByteArray, s = ⟨(bkS x).2.toArray⟩ := ⟨_, rfl⟩
      obtain ⟨sy, hsy⟩ : ∃ s : ByteArray, s = ⟨(bkS y).2.toArray⟩ := ⟨_, rfl⟩
      have c1 : (convert 33 9 (.slice Ax nx cx)).run Tryd.prog w11 = .ok (.string sx) w11 := by
        rw [hsx]; exact str_tx ((HVX.out.2 HX0.out).2.grown (grown_trans (grown_trans (grown_trans (grown_trans (grown_trans HGg6.out HGg7.out) HGg8.out) HGg9.out) HGg10.out) g11) (by simp)) (HVX.out.2 HX0.out).1.symm
      have c2 : (convert 33 9 (.slice Ay ny cy)).run Tryd.prog w11 = .ok (.string sy) w11 := by
        rw [hsy]; exact str_tx ((HVY.out.2 HY0.out).2.grown (grown_trans (grown_trans (grown_trans (grown_trans HGg7.out HGg8.out) HGg9.out) HGg10.out) g11) (by simp)) (HVY.out.2 HY0.out).1.symm
      have hs : (sx.toList == sy.toList) = r := by
        have h1 := bytes_same HF.out.1 HF.out.2 HX0.out HY0.out
        rw [HR.out] at h1
        rw [h1, hsx, hsy, ByteArray.toList_mk, ByteArray.toList_mk]
        exact arr_beqJ _ _
      have L1 : w11.rangeAt q8 0 da.toList := range_kept (range_blk0 (HB8.out.grown (grown_trans HGg9.out HGg10.out) (by simp))) g11
      have L2 : w11.rangeAt q10 0 db.toList := range_kept (range_blk0 HB10.out) g11
      have HL := Lib.hid (And.intro L1 (And.intro L2 (grown_trans HE.out g11)))
      have HQ2 := Lib.hid (show r = true → q = true from fun h => HQ.out (by rw [HR.out, h]))
      clear L1 L2 g11 hsx hsy
      cases r
      · go_wp2_with fail
        go_ret
        exact ⟨rfl, HL.out.2.2⟩
      · obtain rfl := HQ2.out rfl
        go_wp2_with (first
          | (refine wpList_load_mid_gJ (by rfl) 23 _ rfl (q8) 0 rfl da.toList _ HL.out.1 Tryd.underlying23 rfl (by rw [Array.length_toList]; exact HS.out.2.2.1) ?_; rw [Array.toArray_toList])
          | (refine wpList_load_mid_gJ (by rfl) 23 _ rfl (q10) 0 rfl db.toList _ HL.out.2.1 Tryd.underlying23 rfl (by rw [Array.length_toList]; exact HS.out.2.2.2.1) ?_; rw [Array.toArray_toList]))
        go_ret
        exact ⟨rfl, HL.out.2.2⟩
end Go.Proofs.YtebnebajedlhlaaDoor
