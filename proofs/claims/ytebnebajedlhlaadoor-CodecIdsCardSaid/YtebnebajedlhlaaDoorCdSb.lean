/-
  The document's SameBlock.
-/
import Derived.Test.YtebnebajedlhlaaDoorM9iA
import Derived.Test.YtebnebajedlhlaaDoorM9iB
namespace Go.Proofs.YtebnebajedlhlaaDoor
open Go.RowKit

attribute [local go_sem] Oper.semAt_some

theorem sz_QCs : (Tryd.prog.info? 26).map (·.size) = some 19 := by kernel_rfl
noncomputable def bkEq (x y : Bk) : Bool := decide (x.e = y.e) && (decide (x.r = y.r) && (decide (x.P = y.P) && (qcEq x.q y.q && (txsEq x.T y.T && sameS x.V y.V))))
/-- It has no more than so many of each. -/
def Bk.few (x : Bk) : Prop := x.q.L.length ≤ 1000 ∧ (∀ s ∈ x.q.L, s.n1 ≤ 1000 ∧ s.n2 ≤ 1000) ∧ x.T.length ≤ 1000 ∧ x.V.length < 1000
set_option maxRecDepth 100000 in
set_option maxHeartbeats 2000000 in
theorem block_same (w : World) (x y : Bk) (hx : x.At w) (hy : y.At w) (hf : x.few) (xv yv : Array Value) (hxv : xv = x.val) (hyv : yv = y.val) :
    Calls Tryd.prog 8 #[.agg xv, .agg yv] w fun e w' => e = .returned (.bool (bkEq x y)) ∧ w.grownBy w' none := by
  obtain ⟨w1, hw1⟩ : ∃ w1, (w.alloc (.cells xv 30)).alloc (.cells yv 30) = w1 := ⟨_, rfl⟩
  obtain ⟨q, hq⟩ : ∃ q, w.heap.size = q := ⟨_, rfl⟩
  have g1 : w.grownBy w1 none := by rw [← hw1]; exact grown_trans (World.grownBy_alloc _ _ none) (World.grownBy_alloc _ _ none)
  have b1 : Blk w1 q 30 xv := by rw [← hw1, ← hq]; exact (Blk.new _ _ _).alloc _
  have b2 : Blk w1 (q + 1) 30 yv := by
    have h := Blk.new (w.alloc (.cells xv 30)) 30 yv
    rw [World.size_alloc, hw1, hq] at h
    exact h
  obtain ⟨xb, hxb⟩ : ∃ z, z = arrV .u8 x.P := ⟨_, rfl⟩
  obtain ⟨xq, hxq⟩ : ∃ z, z = x.q.val := ⟨_, rfl⟩
  have sxb : xb.size = 16 := by rw [hxb, arr_size, hx.1.1]
  have sxq : xq.size = 19 := by rw [hxq]; exact Qc.size hx.2.1
  have hclx : xv.toList = [Value.int .i64 x.e, .int .i64 x.r] ++ (xb.toList ++ (xq.toList ++ [.slice x.A x.T.length x.c, .slice x.A2 x.V.length x.c2])) := by rw [hxv, hxb, hxq]; simp [Bk.val]
  have HBx := Lib.hid (fun (Y : World) (hY : w1.grownBy Y none) => (show Y.cell? ⟨q, 0, none⟩ = some (.int .i64 x.e) ∧ Y.cell? ⟨q, 1, none⟩ = some (.int .i64 x.r) ∧ Y.rangeAt q 2 xb.toList ∧ Y.rangeAt q 18 xq.toList ∧ Y.cell? ⟨q, 37, none⟩ = some (.slice x.A x.T.length x.c) ∧ Y.cell? ⟨q, 38, none⟩ = some (.slice x.A2 x.V.length x.c2) from by
    have r := range_blk0 (b1.grown hY (by simp))
    rw [hclx] at r
    refine ⟨by have := r 0 _ rfl; simpa using this, by have := r 1 _ rfl; simpa using this, ?_, ?_, ?_, ?_⟩
    · have := range_head (range_tail r); simpa only [List.length_cons, List.length_nil, Nat.zero_add, Nat.reduceAdd] using this
    · have := range_head (range_tail (range_tail r)); simpa only [Array.length_toList, sxb, List.length_cons, List.length_nil, Nat.zero_add, Nat.reduceAdd] using this
    · have := range_tail (range_tail (range_tail r)) 0 _ rfl; simpa only [Array.length_toList, sxb, sxq, List.length_cons, List.length_nil, Nat.zero_add, Nat.reduceAdd, Nat.add_zero] using this
    · have := range_tail (range_tail (range_tail r)) 1 _ rfl; simpa only [Array.length_toList, sxb, sxq, List.length_cons, List.length_nil, Nat.zero_add, Nat.reduceAdd] using this))
  obtain ⟨yb, hyb⟩ : ∃ z, z = arrV .u8 y.P := ⟨_, rfl⟩
  obtain ⟨yq, hyq⟩ : ∃ z, z = y.q.val := ⟨_, rfl⟩
  have syb : yb.size = 16 := by rw [hyb, arr_size, hy.1.1]
  have syq : yq.size = 19 := by rw [hyq]; exact Qc.size hy.2.1
  have hcly : yv.toList = [Value.int .i64 y.e, .int .i64 y.r] ++ (yb.toList ++ (yq.toList ++ [.slice y.A y.T.length y.c, .slice y.A2 y.V.length y.c2])) := by rw [hyv, hyb, hyq]; simp [Bk.val]
  have HBy := Lib.hid (fun (Y : World) (hY : w1.grownBy Y none) => (show Y.cell? ⟨(q + 1), 0, none⟩ = some (.int .i64 y.e) ∧ Y.cell? ⟨(q + 1), 1, none⟩ = some (.int .i64 y.r) ∧ Y.rangeAt (q + 1) 2 yb.toList ∧ Y.rangeAt (q + 1) 18 yq.toList ∧ Y.cell? ⟨(q + 1), 37, none⟩ = some (.slice y.A y.T.length y.c) ∧ Y.cell? ⟨(q + 1), 38, none⟩ = some (.slice y.A2 y.V.length y.c2) from by
    have r := range_blk0 (b2.grown hY (by simp))
    rw [hcly] at r
    refine ⟨by have := r 0 _ rfl; simpa using this, by have := r 1 _ rfl; simpa using this, ?_, ?_, ?_, ?_⟩
    · have := range_head (range_tail r); simpa only [List.length_cons, List.length_nil, Nat.zero_add, Nat.reduceAdd] using this
    · have := range_head (range_tail (range_tail r)); simpa only [Array.length_toList, syb, List.length_cons, List.length_nil, Nat.zero_add, Nat.reduceAdd] using this
    · have := range_tail (range_tail (range_tail r)) 0 _ rfl; simpa only [Array.length_toList, syb, syq, List.length_cons, List.length_nil, Nat.zero_add, Nat.reduceAdd, Nat.add_zero] using this
    · have := range_tail (range_tail (range_tail r)) 1 _ rfl; simpa only [Array.length_toList, syb, syq, List.length_cons, List.length_nil, Nat.zero_add, Nat.reduceAdd] using this))
  have heq : ∀ V, Sem.run Tryd.prog (Op.equalIn 10000 23 (.agg xb) (.agg yb)) V = .ok (decide (x.P = y.P)) V := fun V => by rw [hxb, hyb]; exact eqD V x.P y.P hx.1.1 hy.1.1
  have C1 := Lib.hid (fun (Y : World) (hY : w1.grownBy Y none) => qc_same Y x.q y.q (hx.2.1.grown (grown_trans g1 hY)) (hy.2.1.grown (grown_trans g1 hY)) hf.1 hf.2.1 xq yq hxq hyq)
  have C2 := Lib.hid (fun (Y : World) (hY : w1.grownBy Y none) => lists_same Y x.A y.A x.c y.c x.T y.T (hx.2.2.1.1.grown (grown_trans g1 hY)) (hy.2.2.1.1.grown (grown_trans g1 hY)) (fun t ht => (hx.2.2.1.2 t ht).grown (grown_trans g1 hY) fun _ _ => by simp) (fun t ht => (hy.2.2.1.2 t ht).grown (grown_trans g1 hY) fun _ _ => by simp) hf.2.2.1)
  have C3 := Lib.hid (fun (Y : World) (hY : w1.grownBy Y none) => rsame8_is Y x.A2 y.A2 x.c2 y.c2 x.V y.V (hx.2.2.2.1.grown (grown_trans g1 hY)) (hy.2.2.2.1.grown (grown_trans g1 hY)) (fun v hv => (hx.2.2.2.2 v hv).1) (fun v hv => (hy.2.2.2.2 v hv).1) hf.2.2.2)
  have HS := Lib.hid (And.intro sxb (And.intro syb (And.intro sxq syq)))
  have HG := Lib.hid g1
  have HW := Lib.hid (And.intro hw1 hq)
  obtain ⟨R, hR⟩ : ∃ R, R = bkEq x y := ⟨_, rfl⟩
  rw [← hR]
  have HRR := Lib.hid hR
  obtain ⟨k0, k1, k2, k3, _, _⟩ := HBx.out w1 (World.grownBy.refl _ _)
  obtain ⟨m0, m1, m2, m3, _, _⟩ := HBy.out w1 (World.grownBy.refl _ _)
  have HL0 := Lib.hid (And.intro (And.intro k2 k3) (And.intro m2 m3))
  obtain ⟨xe, hxe⟩ : ∃ z, z = x.e := ⟨_, rfl⟩
  obtain ⟨ye, hye⟩ : ∃ z, z = y.e := ⟨_, rfl⟩
  obtain ⟨xr, hxr⟩ : ∃ z, z = x.r := ⟨_, rfl⟩
  obtain ⟨yr, hyr⟩ : ∃ z, z = y.r := ⟨_, rfl⟩
  rw [← hxe] at k0
  rw [← hye] at m0
  rw [← hxr] at k1
  rw [← hyr] at m1
  obtain ⟨d, hd⟩ : ∃ d, d = decide (x.P = y.P) := ⟨_, rfl⟩
  rw [← hd] at heq
  have HE := Lib.hid (And.intro hxe (And.intro hye (And.intro hxr (And.intro hyr hd))))
  clear k2 k3 m2 m3 sxb syb sxq syq g1 hw1 hq hR b1 b2 hclx hcly hxb hyb hxq hyq hxv hyv hx hy hf hxe hye hxr hyr hd
  by_cases h1 : xe = ye
  · subst h1
    have e1 : (xe == xe) = true := by simp
    by_cases h2 : xr = yr
    · subst h2
      have e2 : (xr == xr) = true := by simp
      cases d
      · have HF := Lib.hid (show R = false by rw [HRR.out, bkEq, ← HE.out.2.2.2.2]; simp)
        go_enter Tryd.func8, Tryd.ntmps8
        go_upto_region 1 with (fail)
        rw [HW.out.1, HW.out.2]
        go_wp2_with (first
          | (refine wpList_load_mid_g (by rfl) 23 _ rfl q 2 rfl xb.toList _ HL0.out.1.1 Tryd.underlying23 rfl (by rw [Array.length_toList, HS.out.1]; exact sz_Dg) ?_; rw [Array.toArray_toList])
          | (refine wpList_load_mid_g (by rfl) 23 _ rfl (q + 1) 2 rfl yb.toList _ HL0.out.2.1 Tryd.underlying23 rfl (by rw [Array.length_toList, HS.out.2.1]; exact sz_Dg) ?_; rw [Array.toArray_toList])
          | (refine wpList_load_mid_g (by rfl) 26 _ rfl q 18 rfl xq.toList _ HL0.out.1.2 Tryd.underlying26 rfl (by rw [Array.length_toList, HS.out.2.2.1]; exact sz_QCs) ?_; rw [Array.toArray_toList])
          | (refine wpList_load_mid_g (by rfl) 26 _ rfl (q + 1) 18 rfl yq.toList _ HL0.out.2.2 Tryd.underlying26 rfl (by rw [Array.length_toList, HS.out.2.2.2]; exact sz_QCs) ?_; rw [Array.toArray_toList]))
        go_ret
        exact ⟨by rw [HF.out]; rfl, HG.out⟩
      · have HQ := Lib.hid (show R = (qcEq x.q y.q && (txsEq x.T y.T && sameS x.V y.V)) by rw [HRR.out, bkEq, ← HE.out.2.2.2.2, ← HE.out.1, ← HE.out.2.1, ← HE.out.2.2.1, ← HE.out.2.2.2.1]; simp)
        go_enter Tryd.func8, Tryd.ntmps8
        go_upto_region 1 with (fail)
        rw [HW.out.1, HW.out.2]
        go_wp2_with (first
          | (refine wpList_load_mid_g (by rfl) 23 _ rfl q 2 rfl xb.toList _ HL0.out.1.1 Tryd.underlying23 rfl (by rw [Array.length_toList, HS.out.1]; exact sz_Dg) ?_; rw [Array.toArray_toList])
          | (refine wpList_load_mid_g (by rfl) 23 _ rfl (q + 1) 2 rfl yb.toList _ HL0.out.2.1 Tryd.underlying23 rfl (by rw [Array.length_toList, HS.out.2.1]; exact sz_Dg) ?_; rw [Array.toArray_toList])
          | (refine wpList_load_mid_g (by rfl) 26 _ rfl q 18 rfl xq.toList _ HL0.out.1.2 Tryd.underlying26 rfl (by rw [Array.length_toList, HS.out.2.2.1]; exact sz_QCs) ?_; rw [Array.toArray_toList])
          | (refine wpList_load_mid_g (by rfl) 26 _ rfl (q + 1) 18 rfl yq.toList _ HL0.out.2.2 Tryd.underlying26 rfl (by rw [Array.length_toList, HS.out.2.2.2]; exact sz_QCs) ?_; rw [Array.toArray_toList]))
        refine (C1.out w1 (World.grownBy.refl _ _)).mono ?_
        rintro e w3 ⟨rfl, g3⟩
        obtain ⟨_, _, _, _, x4, _⟩ := HBx.out w3 g3
        obtain ⟨_, _, _, _, y4, _⟩ := HBy.out w3 g3
        obtain ⟨z1, hz1⟩ : ∃ z, z = qcEq x.q y.q := ⟨_, rfl⟩
        rw [← hz1]
        have HZ1 := Lib.hid hz1
        have G3 := Lib.hid g3
        clear hz1 g3 k0 k1 m0 m1
        cases z1
        · have HF := Lib.hid (show R = false by rw [HQ.out, ← HZ1.out]; simp)
          go_wp2_with fail
          go_ret
          exact ⟨by rw [HF.out]; rfl, grown_trans HG.out G3.out⟩
        go_wp2_with fail
        refine (C2.out w3 G3.out).mono ?_
        rintro e w4 ⟨rfl, g4⟩
        have g4' := grown_trans G3.out g4
        obtain ⟨_, _, _, _, _, x5⟩ := HBx.out w4 g4'
        obtain ⟨_, _, _, _, _, y5⟩ := HBy.out w4 g4'
        obtain ⟨z2, hz2⟩ : ∃ z, z = txsEq x.T y.T := ⟨_, rfl⟩
        rw [← hz2]
        have HZ2 := Lib.hid hz2
        have G4 := Lib.hid g4'
        clear hz2 g4 g4' x4 y4
        cases z2
        · have HF := Lib.hid (show R = false by rw [HQ.out, ← HZ2.out]; simp)
          go_wp2_with fail
          go_ret
          exact ⟨by rw [HF.out]; rfl, grown_trans HG.out G4.out⟩
        go_wp2_with fail
        refine (C3.out w4 G4.out).mono ?_
        rintro e w5 ⟨rfl, g5⟩
        obtain ⟨z3, hz3⟩ : ∃ z, z = sameS x.V y.V := ⟨_, rfl⟩
        rw [← hz3]
        have HF := Lib.hid (show R = z3 by rw [HQ.out, ← HZ1.out, ← HZ2.out, ← hz3]; simp)
        have G5 := Lib.hid (grown_trans G4.out g5)
        clear hz3 g5 x5 y5
        go_wp2_with fail
        go_ret
        exact ⟨by rw [HF.out]; rfl, grown_trans HG.out G5.out⟩
    · have e2 : (xr == yr) = false := by simp [h2]
      have HF := Lib.hid (show R = false by rw [HRR.out, bkEq, ← HE.out.2.2.1, ← HE.out.2.2.2.1, decide_eq_false h2]; simp)
      clear h2
      go_enter Tryd.func8, Tryd.ntmps8
      go_upto_region 1 with (fail)
      rw [HW.out.1, HW.out.2]
      go_wp2_with fail
      go_ret
      exact ⟨by rw [HF.out]; rfl, HG.out⟩
  · have e1 : (xe == ye) = false := by simp [h1]
    have HF := Lib.hid (show R = false by rw [HRR.out, bkEq, ← HE.out.1, ← HE.out.2.1, decide_eq_false h1]; simp)
    clear h1
    go_enter Tryd.func8, Tryd.ntmps8
    go_upto_region 1 with (fail)
    rw [HW.out.1, HW.out.2]
    go_wp2_with fail
    go_ret
    exact ⟨by rw [HF.out]; rfl, HG.out⟩
end Go.Proofs.YtebnebajedlhlaaDoor
