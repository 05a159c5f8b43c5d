/-
  Several texts in one: CdDv, CdSq.
-/
import Derived.Deep.DeepCutAuto
import Derived.Test.YtebnebajedlhlaaDoorM9ix
import Derived.Test.YtebnebajedlhlaaDoorM9iw
import Derived.Test.YtebnebajedlhlaaDoorM9iz
/-
  A validator, a transaction, a turn that is written.
-/
namespace Go.Proofs.YtebnebajedlhlaaDoor
open Go.RowKit

theorem range_seg {w : World} {g o : Nat} {a b c : List Value} (h : w.rangeAt g o (a ++ (b ++ c))) : w.rangeAt g (o + a.length) b := fun j v hv => by
  have hj := (List.getElem?_eq_some_iff.1 hv).1
  have := h (a.length + j) v (by rw [List.getElem?_append_right (by omega), Nat.add_sub_cancel_left, List.getElem?_append_left hj]; exact hv)
  rwa [← Nat.add_assoc] at this
theorem BytesAt.lt0 {w : World} {A : Option Addr} {l : List UInt8} (h : BytesAt w A l) : ∀ ad, A = some ad → l ≠ [] → ad.block < w.heap.size := by
  intro ad e hne
  obtain ⟨ad', e', hc⟩ := h hne
  rw [e] at e'
  injection e' with e'
  subst e'
  have := World.block_lt_of_cell? w _ (hc 0 (List.length_pos_iff.2 hne))
  rwa [block_add] at this
theorem bytes_low {w0 w : World} {A : Option Addr} {l : List UInt8} (k : Kept (newF w0) w0 w) (h : BytesAt w0 A l) : BytesAt w A l := h.kept' k fun ad e hne hf => absurd (h.lt0 ad e hne) (by simpa using hf)
section
variable {w0 : World} {E : Nat → Addr} {g : Nat} (he : ErrAt w0 w0.heap.size 1 (E 0))
include he
set_option maxRecDepth 100000 in
set_option maxHeartbeats 1000000 in
theorem el_Vd (w : World) (F : Nat → Prop) (s : WSt) (h : WI w0 E g F s w) (hs : s.2.length ≤ 2000000) (x : Vd) (hx : isDig x.key) (cs : Array Value) (hcs : cs = x.cells.toArray) :
    Calls Tryd.prog 28 #[.agg #[.pointer (some ⟨g, 0, none⟩)], .agg cs] w fun e w' => e = .returned (.tuple #[]) ∧ WP w0 E g F (sVd x s) w w' := by
  have hc0 : cs = x.cells.toArray := hcs
  obtain ⟨kd, hkd⟩ : ∃ kd, kd = arrV .u8 x.key := ⟨_, rfl⟩
  have hks : kd.size = 16 := by rw [hkd, arr_size, hx.1]
  have hcl : cs.toList = [] ++ (kd.toList ++ [.int .i64 x.p]) := by rw [hcs, hkd]; simp [Vd.cells, arrV]
  have H3 := Lib.hid (And.intro hks hkd)
  obtain ⟨W1, hW1⟩ : ∃ W1, ((w.alloc (.cells #[.pointer (some ⟨g, 0, none⟩)] 71)).alloc (.cells cs 90)) = W1 := ⟨_, rfl⟩
  have g1 : w.grownBy W1 none := by rw [← hW1]; exact grown_trans (World.grownBy_alloc _ _ none) (World.grownBy_alloc _ _ none)
  have bw : Blk W1 w.heap.size 71 #[.pointer (some ⟨g, 0, none⟩)] := by rw [← hW1]; exact (Blk.new w _ _).alloc _
  have bx : Blk W1 (w.heap.size + 1) 90 cs := by
    have := Blk.new (w.alloc (.cells #[.pointer (some ⟨g, 0, none⟩)] 71)) 90 cs
    rw [← hW1]; simpa using this
  have hi := h.opened g1
  have HCl := Lib.hid (fun (w2 : World) (s2 : WSt) (P : WP w0 E g (fun k => F k ∧ k < w.heap.size) s2 W1 w2) => WP.closed (F := F) h g1 P)
  have HB := Lib.hid (fun (V : World) (s' : WSt) (P : WP w0 E g (fun k => F k ∧ k < w.heap.size) s' W1 V) => (show V.cell? ⟨w.heap.size, 0, none⟩ = some (.pointer (some ⟨g, 0, none⟩)) ∧ V.rangeAt (w.heap.size + 1) 0 kd.toList ∧ V.cell? ⟨w.heap.size + 1, 16, none⟩ = some (.int .i64 x.p) from
    by
      have kw : Blk V w.heap.size 71 #[.pointer (some ⟨g, 0, none⟩)] := bw.kept P.fine (fun h => absurd h.2 (by omega))
      have bx : Blk V (w.heap.size + 1) 90 cs := bx.kept P.fine (fun h => absurd h.2 (by omega))
      exact ⟨by simpa using kw.cell 0, by have r := range_blk0 bx; rw [hcl] at r; have := range_seg r; simpa using this, by have r := range_blk0 bx; have := r 16 (.int .i64 x.p) (by rw [hcl, List.nil_append, List.getElem?_append_right (by rw [Array.length_toList, hks]; exact Nat.le_refl _), Array.length_toList, hks]; rfl); simpa using this⟩))
  have HP0 := Lib.hid hi.same
  have HE := Lib.hid he
  have HS := Lib.hid hs
  have HW := Lib.hid hW1
  clear h hi bw bx g1 hW1 hs he hcs hc0 hks hkd hcl
  go_enter Tryd.func28, Tryd.ntmps28
  go_upto_region 1 with (fail)
  rw [HW.out]
  obtain ⟨k0, k1, k2⟩ := HB.out _ _ HP0.out
  clear k2
  have HR := Lib.hid k1
  clear k1
  go_wp2_with (refine wpList_load_mid rfl 23 _ rfl (w.heap.size + 1) 0 rfl (kd.toList) _ HR.out Tryd.underlying23 rfl (by rw [Array.length_toList, H3.out.1]; exact sz_Dg) ?_; rw [Array.toArray_toList])
  refine (digest_st HP0.out.wi (Nat.le_trans HS.out (by omega)) x.key hx kd H3.out.2).mono ?_
  rintro e V1 ⟨rfl, q0⟩
  have HP1 := Lib.hid (HP0.out.trans q0)
  clear q0 k0
  have HS1 := Lib.hid (show (sDig x.key s).2.length ≤ 2100000 from by have h1 := adds_dig hx.1 s; have h2 := HS.out; omega)
  obtain ⟨k0, k1, k2⟩ := HB.out _ _ HP1.out
  clear k1
  go_wp2_with fail
  refine (number_st HE.out HP1.out.wi (Nat.le_trans HS1.out (by omega)) x.p 6).mono ?_
  rintro e V2 ⟨rfl, q1⟩
  have HP2 := Lib.hid (HP1.out.trans q1)
  clear q1 k0 k2
  go_wp2_with fail
  go_end0
  exact ⟨rfl, HCl.out _ _ HP2.out⟩

set_option maxRecDepth 100000 in
set_option maxHeartbeats 1000000 in
theorem el_Tx (w : World) (F : Nat → Prop) (s : WSt) (h : WI w0 E g F s w) (hs : s.2.length ≤ 2000000) (x : Tx) (hx : BytesAt w0 x.B x.l) :
    Calls Tryd.prog 26 #[.agg #[.pointer (some ⟨g, 0, none⟩)], .slice x.B x.l.length x.c] w fun e w' => e = .returned (.tuple #[]) ∧ WP w0 E g F (sTx x s) w w' := by
  obtain ⟨W1, hW1⟩ : ∃ W1, (w.alloc (.cells #[.pointer (some ⟨g, 0, none⟩)] 71)) = W1 := ⟨_, rfl⟩
  have g1 : w.grownBy W1 none := by rw [← hW1]; exact World.grownBy_alloc _ _ none
  have bw : Blk W1 w.heap.size 71 #[.pointer (some ⟨g, 0, none⟩)] := by rw [← hW1]; exact Blk.new w _ _
  have hi := h.opened g1
  have HCl := Lib.hid (fun (w2 : World) (s2 : WSt) (P : WP w0 E g (fun k => F k ∧ k < w.heap.size) s2 W1 w2) => WP.closed (F := F) h g1 P)
  have HB := Lib.hid (fun (V : World) (s' : WSt) (P : WP w0 E g (fun k => F k ∧ k < w.heap.size) s' W1 V) => (show V.cell? ⟨w.heap.size, 0, none⟩ = some (.pointer (some ⟨g, 0, none⟩)) from
    by
      have kw : Blk V w.heap.size 71 #[.pointer (some ⟨g, 0, none⟩)] := bw.kept P.fine (fun h => absurd h.2 (by omega))
      simpa using kw.cell 0))
  have HP0 := Lib.hid hi.same
  have HE := Lib.hid he
  have HS := Lib.hid hs
  have HW := Lib.hid hW1
  clear h hi bw g1 hW1 hs he
  go_enter Tryd.func26, Tryd.ntmps26
  go_upto_region 1 with (fail)
  rw [HW.out]
  have k0 := HB.out _ _ HP0.out
  go_wp2_with fail
  refine (bytes_st HE.out HP0.out.wi (Nat.le_trans HS.out (by omega)) x.B x.l.length x.c x.l rfl (bytes_low (HP0.out.wi.kept) hx) (fun ad e hne => hx.lt0 ad e hne) 16).mono ?_
  rintro e V1 ⟨rfl, q0⟩
  have HP1 := Lib.hid (HP0.out.trans q0)
  clear q0 k0
  go_wp2_with fail
  go_end0
  exact ⟨rfl, HCl.out _ _ HP1.out⟩

set_option maxRecDepth 100000 in
set_option maxHeartbeats 1000000 in
theorem turn_st (w : World) (F : Nat → Prop) (s : WSt) (h : WI w0 E g F s w) (hs : s.2.length ≤ 2000000) (ep r : Int) :
    Calls Tryd.prog 22 #[.agg #[.pointer (some ⟨g, 0, none⟩)], .int .i64 ep, .int .i64 r] w fun e w' => e = .returned (.tuple #[]) ∧ WP w0 E g F (sTurn ep r s) w w' := by
  obtain ⟨W1, hW1⟩ : ∃ W1, (w.alloc (.cells #[.pointer (some ⟨g, 0, none⟩)] 71)) = W1 := ⟨_, rfl⟩
  have g1 : w.grownBy W1 none := by rw [← hW1]; exact World.grownBy_alloc _ _ none
  have bw : Blk W1 w.heap.size 71 #[.pointer (some ⟨g, 0, none⟩)] := by rw [← hW1]; exact Blk.new w _ _
  have hi := h.opened g1
  have HCl := Lib.hid (fun (w2 : World) (s2 : WSt) (P : WP w0 E g (fun k => F k ∧ k < w.heap.size) s2 W1 w2) => WP.closed (F := F) h g1 P)
  have HB := Lib.hid (fun (V : World) (s' : WSt) (P : WP w0 E g (fun k => F k ∧ k < w.heap.size) s' W1 V) => (show V.cell? ⟨w.heap.size, 0, none⟩ = some (.pointer (some ⟨g, 0, none⟩)) from
    by
      have kw : Blk V w.heap.size 71 #[.pointer (some ⟨g, 0, none⟩)] := bw.kept P.fine (fun h => absurd h.2 (by omega))
      simpa using kw.cell 0))
  have HP0 := Lib.hid hi.same
  have HE := Lib.hid he
  have HS := Lib.hid hs
  have HW := Lib.hid hW1
  clear h hi bw g1 hW1 hs he
  go_enter Tryd.func22, Tryd.ntmps22
  go_upto_region 1 with (fail)
  rw [HW.out]
  have k0 := HB.out _ _ HP0.out
  go_wp2_with fail
  refine (number_st HE.out HP0.out.wi (Nat.le_trans HS.out (by omega)) ep 4).mono ?_
  rintro e V1 ⟨rfl, q0⟩
  have HP1 := Lib.hid (HP0.out.trans q0)
  clear q0 k0
  have HS1 := Lib.hid (show (sNum ep 4 s).2.length ≤ 2100000 from by have h1 := adds_num ep 4 s; have h2 := HS.out; have h3 : sNum ep 4 s = sNum ep ((4 : Nat) : Int) s := rfl; rw [h3]; omega)
  have k0 := HB.out _ _ HP1.out
  go_wp2_with fail
  refine (number_st HE.out HP1.out.wi (Nat.le_trans HS1.out (by omega)) r 6).mono ?_
  rintro e V2 ⟨rfl, q1⟩
  have HP2 := Lib.hid (HP1.out.trans q1)
  clear q1 k0
  go_wp2_with fail
  go_end0
  exact ⟨rfl, HCl.out _ _ HP2.out⟩

end
end Go.Proofs.YtebnebajedlhlaaDoor
/-
  The document's SameQC.
-/
namespace Go.Proofs.YtebnebajedlhlaaDoor
open Go.RowKit

attribute [local go_sem] Oper.semAt_some

theorem wpList_load_mid_g {P : Program} {ops : Array Oper} {rest : List Oper} {op : Oper} {a : Act} {w : World} {Q : Exit → Act → World → Prop} (hw : Region.wanted op (yielded ops a.tmps) = true) (ty : TypeId) (x : Operand) (ho : op.op = .load ty x)
    (b o : Nat) (hx : a.eval x = .pointer (some ⟨b, o, none⟩)) (cs : List Value) (d : TypeDesc) (hc : w.rangeAt b o cs)
    (hu : P.underlying ty = some d) (hd : d.isRow = true) (hi : (P.info? ty).map (·.size) = some cs.length)
    (h : wpList P ops Q rest (a.put op.dst (.agg cs.toArray)) w) : wpList P ops Q (op :: rest) a w :=
  wpList_step fun K hK => by
    rw [if_pos hw]
    exact wp_load_mid ty x ho b o hx cs d hc hu hd hi (hK _ _ h)
noncomputable def qcEq (x y : Qc) : Bool := decide (x.e = y.e) && (decide (x.r = y.r) && (decide (x.Bl = y.Bl) && sgsEq x.L y.L))
set_option maxRecDepth 100000 in
set_option maxHeartbeats 2000000 in
theorem qc_same (w : World) (x y : Qc) (hx : x.At w) (hy : y.At w) (hl : x.L.length ≤ 1000) (hb : ∀ s ∈ x.L, s.n1 ≤ 1000 ∧ s.n2 ≤ 1000) (xv yv : Array Value) (hxv : xv = x.val) (hyv : yv = y.val) :
    Calls Tryd.prog 14 #[.agg xv, .agg yv] w fun e w' => e = .returned (.bool (qcEq x y)) ∧ w.grownBy w' none := by
  obtain ⟨w1, hw1⟩ : ∃ w1, (w.alloc (.cells xv 26)).alloc (.cells yv 26) = w1 := ⟨_, rfl⟩
  obtain ⟨q, hq⟩ : ∃ q, w.heap.size = q := ⟨_, rfl⟩
  have g1 : w.grownBy w1 none := by rw [← hw1]; exact grown_trans (World.grownBy_alloc _ _ none) (World.grownBy_alloc _ _ none)
  have b1 : Blk w1 q 26 xv := by rw [← hw1, ← hq]; exact (Blk.new _ _ _).alloc _
  have b2 : Blk w1 (q + 1) 26 yv := by
    have h := Blk.new (w.alloc (.cells xv 26)) 26 yv
    rw [World.size_alloc, hw1, hq] at h
    exact h
  obtain ⟨xb, hxb⟩ : ∃ z, z = arrV .u8 x.Bl := ⟨_, rfl⟩
  obtain ⟨yb, hyb⟩ : ∃ z, z = arrV .u8 y.Bl := ⟨_, rfl⟩
  have sx : xb.size = 16 := by rw [hxb, arr_size, hx.1.1]
  have sy : yb.size = 16 := by rw [hyb, arr_size, hy.1.1]
  have hclx : xv.toList = [Value.int .i64 x.e, .int .i64 x.r] ++ (xb.toList ++ [.slice x.A x.L.length x.c]) := by rw [hxv, hxb]; simp [Qc.val]
  have hcly : yv.toList = [Value.int .i64 y.e, .int .i64 y.r] ++ (yb.toList ++ [.slice y.A y.L.length y.c]) := by rw [hyv, hyb]; simp [Qc.val]
  have r1 := range_blk0 b1
  have r2 := range_blk0 b2
  rw [hclx] at r1
  rw [hcly] at r2
  have k0 : w1.cell? ⟨q, 0, none⟩ = some (.int .i64 x.e) := by have := r1 0 _ rfl; simpa using this
  have k1 : w1.cell? ⟨q, 1, none⟩ = some (.int .i64 x.r) := by have := r1 1 _ rfl; simpa using this
  have k2 : w1.rangeAt q 2 xb.toList := by have := range_seg r1; simpa only [List.length_cons, List.length_nil, Nat.zero_add, Nat.reduceAdd] using this
  have k3 : w1.cell? ⟨q, 18, none⟩ = some (.slice x.A x.L.length x.c) := by have := range_tail (range_tail r1) 0 _ rfl; simpa only [Array.length_toList, sx, List.length_cons, List.length_nil, Nat.zero_add, Nat.reduceAdd, Nat.add_zero] using this
  have m0 : w1.cell? ⟨q + 1, 0, none⟩ = some (.int .i64 y.e) := by have := r2 0 _ rfl; simpa using this
  have m1 : w1.cell? ⟨q + 1, 1, none⟩ = some (.int .i64 y.r) := by have := r2 1 _ rfl; simpa using this
  have m2 : w1.rangeAt (q + 1) 2 yb.toList := by have := range_seg r2; simpa only [List.length_cons, List.length_nil, Nat.zero_add, Nat.reduceAdd] using this
  have m3 : w1.cell? ⟨q + 1, 18, none⟩ = some (.slice y.A y.L.length y.c) := by have := range_tail (range_tail r2) 0 _ rfl; simpa only [Array.length_toList, sy, List.length_cons, List.length_nil, Nat.zero_add, Nat.reduceAdd, Nat.add_zero] using this
  have heq : ∀ V, Sem.run Tryd.prog (Op.equalIn 10000 23 (.agg xb) (.agg yb)) V = .ok (decide (x.Bl = y.Bl)) V := fun V => by rw [hxb, hyb]; exact eqD V x.Bl y.Bl hx.1.1 hy.1.1
  have HS := Lib.hid (signed_same w1 x.A y.A x.c y.c x.L y.L (hx.2.1.grown g1) (hy.2.1.grown g1) (hx.2.2.grown g1) (hy.2.2.grown g1) hl hb)
  have HR := Lib.hid (And.intro k2 (And.intro m2 (And.intro sx sy)))
  have HG := Lib.hid g1
  have HW := Lib.hid (And.intro hw1 hq)
  obtain ⟨R, hR⟩ : ∃ R, R = qcEq x y := ⟨_, rfl⟩
  rw [← hR]
  have HRR := Lib.hid hR
  obtain ⟨xe, hxe⟩ : ∃ z, z = x.e := ⟨_, rfl⟩
  obtain ⟨ye, hye⟩ : ∃ z, z = y.e := ⟨_, rfl⟩
  obtain ⟨xr, hxr⟩ : ∃ z, z = x.r := ⟨_, rfl⟩
  obtain ⟨yr, hyr⟩ : ∃ z, z = y.r := ⟨_, rfl⟩
  rw [← hxe] at k0
  rw [← hye] at m0
  rw [← hxr] at k1
  rw [← hyr] at m1
  obtain ⟨d, hd⟩ : ∃ d, d = decide (x.Bl = y.Bl) := ⟨_, rfl⟩
  rw [← hd] at heq
  have HE := Lib.hid (And.intro hxe (And.intro hye (And.intro hxr (And.intro hyr hd))))
  clear k2 m2 sx sy g1 hw1 hq hR b1 b2 r1 r2 hclx hcly hxb hyb hxv hyv hx hy hl hb hxe hye hxr hyr hd
  by_cases h1 : xe = ye
  · subst h1
    have e1 : (xe == xe) = true := by simp
    by_cases h2 : xr = yr
    · subst h2
      have e2 : (xr == xr) = true := by simp
      cases d
      · have HF := Lib.hid (show R = false by rw [HRR.out, qcEq, ← HE.out.2.2.2.2]; simp)
        go_enter Tryd.func14, Tryd.ntmps14
        go_upto_region 1 with (fail)
        rw [HW.out.1, HW.out.2]
        go_wp2_with (first
          | (refine wpList_load_mid_g (by rfl) 23 _ rfl q 2 rfl xb.toList _ HR.out.1 Tryd.underlying23 rfl (by rw [Array.length_toList, HR.out.2.2.1]; exact sz_Dg) ?_; rw [Array.toArray_toList])
          | (refine wpList_load_mid_g (by rfl) 23 _ rfl (q + 1) 2 rfl yb.toList _ HR.out.2.1 Tryd.underlying23 rfl (by rw [Array.length_toList, HR.out.2.2.2]; exact sz_Dg) ?_; rw [Array.toArray_toList]))
        go_ret
        exact ⟨by rw [HF.out]; rfl, HG.out⟩
      · have HF := Lib.hid (show R = sgsEq x.L y.L by rw [HRR.out, qcEq, ← HE.out.2.2.2.2, ← HE.out.1, ← HE.out.2.1, ← HE.out.2.2.1, ← HE.out.2.2.2.1]; simp)
        go_enter Tryd.func14, Tryd.ntmps14
        go_upto_region 1 with (fail)
        rw [HW.out.1, HW.out.2]
        go_wp2_with (first
          | (refine wpList_load_mid_g (by rfl) 23 _ rfl q 2 rfl xb.toList _ HR.out.1 Tryd.underlying23 rfl (by rw [Array.length_toList, HR.out.2.2.1]; exact sz_Dg) ?_; rw [Array.toArray_toList])
          | (refine wpList_load_mid_g (by rfl) 23 _ rfl (q + 1) 2 rfl yb.toList _ HR.out.2.1 Tryd.underlying23 rfl (by rw [Array.length_toList, HR.out.2.2.2]; exact sz_Dg) ?_; rw [Array.toArray_toList]))
        refine HS.out.mono ?_
        rintro e w3 ⟨rfl, g3⟩
        obtain ⟨b, hb⟩ : ∃ b, b = sgsEq x.L y.L := ⟨_, rfl⟩
        rw [← hb]
        have HB := Lib.hid (show R = b by rw [HF.out, hb])
        have HG3 := Lib.hid (grown_trans HG.out g3)
        clear hb g3
        go_wp2_with fail
        go_ret
        exact ⟨by rw [HB.out]; rfl, HG3.out⟩
    · have e2 : (xr == yr) = false := by simp [h2]
      have HF := Lib.hid (show R = false by rw [HRR.out, qcEq, ← HE.out.2.2.1, ← HE.out.2.2.2.1, decide_eq_false h2]; simp)
      clear h2
      go_enter Tryd.func14, Tryd.ntmps14
      go_upto_region 1 with (fail)
      rw [HW.out.1, HW.out.2]
      go_wp2_with fail
      go_ret
      exact ⟨by rw [HF.out]; rfl, HG.out⟩
  · have e1 : (xe == ye) = false := by simp [h1]
    have HF := Lib.hid (show R = false by rw [HRR.out, qcEq, ← HE.out.1, ← HE.out.2.1, decide_eq_false h1]; simp)
    clear h1
    go_enter Tryd.func14, Tryd.ntmps14
    go_upto_region 1 with (fail)
    rw [HW.out.1, HW.out.2]
    go_wp2_with fail
    go_ret
    exact ⟨by rw [HF.out]; rfl, HG.out⟩
end Go.Proofs.YtebnebajedlhlaaDoor
