/-
  Several texts in one: CdT, CdMs.
-/
import Derived.Test.YtebnebajedlhlaaDoorM9iG
import Derived.Test.YtebnebajedlhlaaDoorM9iA
import Derived.Test.YtebnebajedlhlaaDoorM9iE
import Derived.Test.YtebnebajedlhlaaDoorM9ix
/-
  A TC that is written.
-/
namespace Go.Proofs.YtebnebajedlhlaaDoor
open Go.RowKit

section
variable {w0 : World} {E : Nat → Addr} {g : Nat} (he : ErrAt w0 w0.heap.size 1 (E 0))
include he
set_option maxRecDepth 100000 in
set_option maxHeartbeats 1000000 in
theorem tc_st (w : World) (F : Nat → Prop) (s : WSt) (h : WI w0 E g F s w) (hs : s.2.length ≤ 800000) (t : Tc) (ht : t.At w0) :
    Calls Tryd.prog 54 #[.agg #[.pointer (some ⟨g, 0, none⟩)], .agg t.val] w fun e w' => e = .returned (.tuple #[]) ∧ WP w0 E g F (sTc t s) w w' := by
  unfold Tc.val
  have HQ := Lib.hid ht
  obtain ⟨W1, hW1⟩ : ∃ W1, ((w.alloc (.cells #[.pointer (some ⟨g, 0, none⟩)] 71)).alloc (.cells #[.int .i64 t.e, .int .i64 t.r, .slice t.A t.L.length t.c] 53)) = W1 := ⟨_, rfl⟩
  have g1 : w.grownBy W1 none := by rw [← hW1]; exact grown_trans (World.grownBy_alloc _ _ none) (World.grownBy_alloc _ _ none)
  have bw : Blk W1 w.heap.size 71 #[.pointer (some ⟨g, 0, none⟩)] := by rw [← hW1]; exact (Blk.new w _ _).alloc _
  have bx : Blk W1 (w.heap.size + 1) 53 #[.int .i64 t.e, .int .i64 t.r, .slice t.A t.L.length t.c] := by
    have := Blk.new (w.alloc (.cells #[.pointer (some ⟨g, 0, none⟩)] 71)) 53 #[.int .i64 t.e, .int .i64 t.r, .slice t.A t.L.length t.c]
    rw [← hW1]; simpa using this
  have hi := h.opened g1
  have HCl := Lib.hid (fun (w2 : World) (s2 : WSt) (P : WP w0 E g (fun k => F k ∧ k < w.heap.size) s2 W1 w2) => WP.closed (F := F) h g1 P)
  have HB := Lib.hid (fun (V : World) (s' : WSt) (P : WP w0 E g (fun k => F k ∧ k < w.heap.size) s' W1 V) => (show V.cell? ⟨w.heap.size, 0, none⟩ = some (.pointer (some ⟨g, 0, none⟩)) ∧ V.cell? ⟨w.heap.size + 1, 0, none⟩ = some (.int .i64 t.e) ∧ V.cell? ⟨w.heap.size + 1, 1, none⟩ = some (.int .i64 t.r) ∧ V.cell? ⟨w.heap.size + 1, 2, none⟩ = some (.slice t.A t.L.length t.c) from
    by
      have kw : Blk V w.heap.size 71 #[.pointer (some ⟨g, 0, none⟩)] := bw.kept P.fine (fun h => absurd h.2 (by omega))
      have bx : Blk V (w.heap.size + 1) 53 #[.int .i64 t.e, .int .i64 t.r, .slice t.A t.L.length t.c] := bx.kept P.fine (fun h => absurd h.2 (by omega))
      exact ⟨by simpa using kw.cell 0, by have := bx.cell 0; simpa using this, by have := bx.cell 1; simpa using this, by have := bx.cell 2; simpa using this⟩))
  have HP0 := Lib.hid hi.same
  have HE := Lib.hid he
  have HS := Lib.hid hs
  have HW := Lib.hid hW1
  clear h hi bw bx g1 hW1 hs he ht
  go_enter Tryd.func54, Tryd.ntmps54
  go_upto_region 1 with (fail)
  rw [HW.out]
  obtain ⟨k0, k1, k2, k3⟩ := HB.out _ _ HP0.out
  clear k3
  go_wp2_with fail
  refine (turn_st HE.out _ _ _ HP0.out.wi (Nat.le_trans HS.out (by omega)) t.e t.r).mono ?_
  rintro e V1 ⟨rfl, q0⟩
  have HP1 := Lib.hid (HP0.out.trans q0)
  clear q0 k0 k1 k2
  have HS1 := Lib.hid (show (sTurn t.e t.r s).2.length ≤ 810000 from by have h1 := adds_turn t.e t.r s; have h2 := HS.out; omega)
  obtain ⟨k0, k1, k2, k3⟩ := HB.out _ _ HP1.out
  clear k1 k2
  go_wp2_with fail
  refine (put_Lt HE.out _ _ _ HP1.out.wi (Nat.le_trans HS1.out (by omega)) t.A t.L.length t.c t.L rfl HQ.out.1 HQ.out.2 (fun x hx => (adds_lt ⟨(HQ.out.2 x hx).1.sixteen, (HQ.out.2 x hx).2.sixteen⟩).mono (by omega)) 7).mono ?_
  rintro e V2 ⟨rfl, q1⟩
  have HP2 := Lib.hid (HP1.out.trans q1)
  clear q1 k0 k3
  go_wp2_with fail
  go_end0
  exact ⟨rfl, HCl.out _ _ HP2.out⟩

end
end Go.Proofs.YtebnebajedlhlaaDoor
/-
  Messages that are written, kind by kind.
-/
namespace Go.Proofs.YtebnebajedlhlaaDoor
open Go.RowKit

section
variable {w0 : World} {E : Nat → Addr} {g : Nat} (he : ErrAt w0 w0.heap.size 1 (E 0))
include he
set_option maxRecDepth 100000 in
set_option maxHeartbeats 1000000 in
theorem vote_st (w : World) (F : Nat → Prop) (s : WSt) (h : WI w0 E g F s w) (hs : s.2.length ≤ 600000) (x : Vt) (hx : x.At w0) (cs : Array Value) (hcs : cs = x.val) :
    Calls Tryd.prog 35 #[.agg #[.pointer (some ⟨g, 0, none⟩)], .agg cs] w fun e w' => e = .returned (.tuple #[]) ∧ WP w0 E g F (sVt x s) w w' := by
  obtain ⟨kd, hkd⟩ : ∃ z, z = arrV .u8 x.Bl := ⟨_, rfl⟩
  have skd : kd.size = 16 := by rw [hkd]; exact by rw [arr_size, hx.1.1]
  obtain ⟨sg, hsg⟩ : ∃ z, z = x.s.cells := ⟨_, rfl⟩
  have ssg : sg.size = 4 := by rw [hsg]; exact rfl
  have hcl : cs.toList = [.int .i64 x.e, .int .i64 x.r] ++ (kd.toList ++ (sg.toList)) := by rw [hcs, hkd, hsg]; simp [Vt.val]
  have H3 := Lib.hid (And.intro skd (And.intro hkd (And.intro ssg hsg)))
  have HQ := Lib.hid hx
  obtain ⟨W1, hW1⟩ : ∃ W1, ((w.alloc (.cells #[.pointer (some ⟨g, 0, none⟩)] 71)).alloc (.cells cs 50)) = W1 := ⟨_, rfl⟩
  have g1 : w.grownBy W1 none := by rw [← hW1]; exact grown_trans (World.grownBy_alloc _ _ none) (World.grownBy_alloc _ _ none)
  have bw : Blk W1 w.heap.size 71 #[.pointer (some ⟨g, 0, none⟩)] := by rw [← hW1]; exact (Blk.new w _ _).alloc _
  have bx : Blk W1 (w.heap.size + 1) 50 cs := by
    have := Blk.new (w.alloc (.cells #[.pointer (some ⟨g, 0, none⟩)] 71)) 50 cs
    rw [← hW1]; simpa using this
  have hi := h.opened g1
  have HCl := Lib.hid (fun (w2 : World) (s2 : WSt) (P : WP w0 E g (fun k => F k ∧ k < w.heap.size) s2 W1 w2) => WP.closed (F := F) h g1 P)
  have HB := Lib.hid (fun (V : World) (s' : WSt) (P : WP w0 E g (fun k => F k ∧ k < w.heap.size) s' W1 V) => (show V.cell? ⟨w.heap.size, 0, none⟩ = some (.pointer (some ⟨g, 0, none⟩)) ∧ V.cell? ⟨w.heap.size + 1, 0, none⟩ = some (.int .i64 x.e) ∧ V.cell? ⟨w.heap.size + 1, 1, none⟩ = some (.int .i64 x.r) ∧ V.rangeAt (w.heap.size + 1) 2 kd.toList ∧ V.rangeAt (w.heap.size + 1) 18 sg.toList from
    by
      have kw : Blk V w.heap.size 71 #[.pointer (some ⟨g, 0, none⟩)] := bw.kept P.fine (fun h => absurd h.2 (by omega))
      have bx : Blk V (w.heap.size + 1) 50 cs := bx.kept P.fine (fun h => absurd h.2 (by omega))
      exact ⟨by simpa using kw.cell 0, by have r := range_blk0 bx; have := r 0 (.int .i64 x.e) (by rw [hcl]; rfl); simpa using this, by have r := range_blk0 bx; have := r 1 (.int .i64 x.r) (by rw [hcl]; rfl); simpa using this, by have r := range_blk0 bx; rw [hcl] at r; have := (range_head (range_tail r)); simpa only [Array.length_toList, List.length_cons, List.length_nil, Nat.zero_add, Nat.reduceAdd, skd, ssg] using this, by have r := range_blk0 bx; rw [hcl] at r; have := (range_tail (range_tail r)); simpa only [Array.length_toList, List.length_cons, List.length_nil, Nat.zero_add, Nat.reduceAdd, skd, ssg] using this⟩))
  have HP0 := Lib.hid hi.same
  have HE := Lib.hid he
  have HS := Lib.hid hs
  have HW := Lib.hid hW1
  clear h hi bw bx g1 hW1 hs he hcs hcl hx skd hkd ssg hsg
  go_enter Tryd.func35, Tryd.ntmps35
  go_upto_region 1 with (fail)
  rw [HW.out]
  obtain ⟨k0, k1, k2, k3, k4⟩ := HB.out _ _ HP0.out
  clear k3 k4
  go_wp2_with fail
  refine (turn_st HE.out _ _ _ HP0.out.wi (Nat.le_trans HS.out (by omega)) x.e x.r).mono ?_
  rintro e V1 ⟨rfl, q0⟩
  have HP1 := Lib.hid (HP0.out.trans q0)
  clear q0 k0 k1 k2
  have HS1 := Lib.hid (show (sTurn x.e x.r s).2.length ≤ 610000 from by have h1 := adds_turn x.e x.r s; have h2 := HS.out; omega)
  obtain ⟨k0, k1, k2, k3, k4⟩ := HB.out _ _ HP1.out
  clear k1 k2 k4
  have HR := Lib.hid k3
  clear k3
  go_wp2_with (refine wpList_load_mid rfl 23 _ rfl (w.heap.size + 1) 2 rfl (kd.toList) _ HR.out Tryd.underlying23 rfl (by rw [Array.length_toList, H3.out.1]; exact sz_Dg) ?_; rw [Array.toArray_toList])
  refine (digest_st HP1.out.wi (Nat.le_trans HS1.out (by omega)) x.Bl HQ.out.1 kd H3.out.2.1).mono ?_
  rintro e V2 ⟨rfl, q1⟩
  have HP2 := Lib.hid (HP1.out.trans q1)
  clear q1 k0
  have HS2 := Lib.hid (show (sDig x.Bl (sTurn x.e x.r s)).2.length ≤ 620000 from by have h1 := adds_dig HQ.out.1.1 (sTurn x.e x.r s); have h2 := HS1.out; omega)
  obtain ⟨k0, k1, k2, k3, k4⟩ := HB.out _ _ HP2.out
  clear k1 k2 k3
  have HR := Lib.hid k4
  clear k4
  go_wp2_with (refine wpList_load_mid rfl 48 _ rfl (w.heap.size + 1) 18 rfl (sg.toList) _ HR.out Tryd.underlying48 rfl (by rw [Array.length_toList, H3.out.2.2.1]; exact sz_Sg) ?_; rw [Array.toArray_toList])
  refine (el_Sg HE.out _ _ _ HP2.out.wi (Nat.le_trans HS2.out (by omega)) x.s HQ.out.2 sg (by rw [Array.toArray_toList]; exact H3.out.2.2.2)).mono ?_
  rintro e V3 ⟨rfl, q2⟩
  have HP3 := Lib.hid (HP2.out.trans q2)
  clear q2 k0
  go_wp2_with fail
  go_end0
  exact ⟨rfl, HCl.out _ _ HP3.out⟩

set_option maxRecDepth 100000 in
set_option maxHeartbeats 1000000 in
theorem timeout_st (w : World) (F : Nat → Prop) (s : WSt) (h : WI w0 E g F s w) (hs : s.2.length ≤ 600000) (x : To) (hx : x.At w0) (cs : Array Value) (hcs : cs = x.val) :
    Calls Tryd.prog 36 #[.agg #[.pointer (some ⟨g, 0, none⟩)], .agg cs] w fun e w' => e = .returned (.tuple #[]) ∧ WP w0 E g F (sTo x s) w w' := by
  obtain ⟨qv, hqv⟩ : ∃ z, z = x.h.val := ⟨_, rfl⟩
  have sqv : qv.size = 19 := by rw [hqv]; exact Qc.size hx.1
  obtain ⟨tv, htv⟩ : ∃ z, z = x.l.val := ⟨_, rfl⟩
  have stv : tv.size = 3 := by rw [htv]; exact rfl
  obtain ⟨sg, hsg⟩ : ∃ z, z = x.s.cells := ⟨_, rfl⟩
  have ssg : sg.size = 4 := by rw [hsg]; exact rfl
  have hcl : cs.toList = [.int .i64 x.e, .int .i64 x.r] ++ (qv.toList ++ (tv.toList ++ (sg.toList))) := by rw [hcs, hqv, htv, hsg]; simp [To.val]
  have H3 := Lib.hid (And.intro (And.intro sqv hqv) (And.intro (And.intro stv htv) (And.intro ssg hsg)))
  have HQ := Lib.hid hx
  obtain ⟨W1, hW1⟩ : ∃ W1, ((w.alloc (.cells #[.pointer (some ⟨g, 0, none⟩)] 71)).alloc (.cells cs 55)) = W1 := ⟨_, rfl⟩
  have g1 : w.grownBy W1 none := by rw [← hW1]; exact grown_trans (World.grownBy_alloc _ _ none) (World.grownBy_alloc _ _ none)
  have bw : Blk W1 w.heap.size 71 #[.pointer (some ⟨g, 0, none⟩)] := by rw [← hW1]; exact (Blk.new w _ _).alloc _
  have bx : Blk W1 (w.heap.size + 1) 55 cs := by
    have := Blk.new (w.alloc (.cells #[.pointer (some ⟨g, 0, none⟩)] 71)) 55 cs
    rw [← hW1]; simpa using this
  have hi := h.opened g1
  have HCl := Lib.hid (fun (w2 : World) (s2 : WSt) (P : WP w0 E g (fun k => F k ∧ k < w.heap.size) s2 W1 w2) => WP.closed (F := F) h g1 P)
  have HB := Lib.hid (fun (V : World) (s' : WSt) (P : WP w0 E g (fun k => F k ∧ k < w.heap.size) s' W1 V) => (show V.cell? ⟨w.heap.size, 0, none⟩ = some (.pointer (some ⟨g, 0, none⟩)) ∧ V.cell? ⟨w.heap.size + 1, 0, none⟩ = some (.int .i64 x.e) ∧ V.cell? ⟨w.heap.size + 1, 1, none⟩ = some (.int .i64 x.r) ∧ V.rangeAt (w.heap.size + 1) 2 qv.toList ∧ V.rangeAt (w.heap.size + 1) 21 tv.toList ∧ V.rangeAt (w.heap.size + 1) 24 sg.toList from
    by
      have kw : Blk V w.heap.size 71 #[.pointer (some ⟨g, 0, none⟩)] := bw.kept P.fine (fun h => absurd h.2 (by omega))
      have bx : Blk V (w.heap.size + 1) 55 cs := bx.kept P.fine (fun h => absurd h.2 (by omega))
      exact ⟨by simpa using kw.cell 0, by have r := range_blk0 bx; have := r 0 (.int .i64 x.e) (by rw [hcl]; rfl); simpa using this, by have r := range_blk0 bx; have := r 1 (.int .i64 x.r) (by rw [hcl]; rfl); simpa using this, by have r := range_blk0 bx; rw [hcl] at r; have := (range_head (range_tail r)); simpa only [Array.length_toList, List.length_cons, List.length_nil, Nat.zero_add, Nat.reduceAdd, sqv, stv, ssg] using this, by have r := range_blk0 bx; rw [hcl] at r; have := (range_head (range_tail (range_tail r))); simpa only [Array.length_toList, List.length_cons, List.length_nil, Nat.zero_add, Nat.reduceAdd, sqv, stv, ssg] using this, by have r := range_blk0 bx; rw [hcl] at r; have := (range_tail (range_tail (range_tail r))); simpa only [Array.length_toList, List.length_cons, List.length_nil, Nat.zero_add, Nat.reduceAdd, sqv, stv, ssg] using this⟩))
  have HP0 := Lib.hid hi.same
  have HE := Lib.hid he
  have HS := Lib.hid hs
  have HW := Lib.hid hW1
  clear h hi bw bx g1 hW1 hs he hcs hcl hx sqv hqv stv htv ssg hsg
  go_enter Tryd.func36, Tryd.ntmps36
  go_upto_region 1 with (fail)
  rw [HW.out]
  obtain ⟨k0, k1, k2, k3, k4, k5⟩ := HB.out _ _ HP0.out
  clear k3 k4 k5
  go_wp2_with fail
  refine (turn_st HE.out _ _ _ HP0.out.wi (Nat.le_trans HS.out (by omega)) x.e x.r).mono ?_
  rintro e V1 ⟨rfl, q0⟩
  have HP1 := Lib.hid (HP0.out.trans q0)
  clear q0 k0 k1 k2
  have HS1 := Lib.hid (show (sTurn x.e x.r s).2.length ≤ 610000 from by have h1 := adds_turn x.e x.r s; have h2 := HS.out; omega)
  obtain ⟨k0, k1, k2, k3, k4, k5⟩ := HB.out _ _ HP1.out
  clear k1 k2 k4 k5
  have HR := Lib.hid k3
  clear k3
  go_wp2_with (refine wpList_load_mid rfl 26 _ rfl (w.heap.size + 1) 2 rfl (qv.toList) _ HR.out Tryd.underlying26 rfl (by rw [Array.length_toList, H3.out.1.1]; exact sz_QC) ?_; rw [Array.toArray_toList])
  refine (qc_st HE.out _ _ _ HP1.out.wi (Nat.le_trans HS1.out (by omega)) x.h HQ.out.1 qv H3.out.1.2).mono ?_
  rintro e V2 ⟨rfl, q1⟩
  have HP2 := Lib.hid (HP1.out.trans q1)
  clear q1 k0
  have HS2 := Lib.hid (show (sQc x.h (sTurn x.e x.r s)).2.length ≤ 620000 from by have h1 := HQ.out.1.adds (sTurn x.e x.r s); have h2 := HS1.out; omega)
  obtain ⟨k0, k1, k2, k3, k4, k5⟩ := HB.out _ _ HP2.out
  clear k1 k2 k3 k5
  have HR := Lib.hid k4
  clear k4
  go_wp2_with (refine wpList_load_mid rfl 53 _ rfl (w.heap.size + 1) 21 rfl (tv.toList) _ HR.out Tryd.underlying53 rfl (by rw [Array.length_toList, H3.out.2.1.1]; exact sz_TC) ?_; rw [Array.toArray_toList, H3.out.2.1.2])
  refine (tc_st HE.out _ _ _ HP2.out.wi (Nat.le_trans HS2.out (by omega)) x.l HQ.out.2.1).mono ?_
  rintro e V3 ⟨rfl, q2⟩
  have HP3 := Lib.hid (HP2.out.trans q2)
  clear q2 k0
  have HS3 := Lib.hid (show (sTc x.l (sQc x.h (sTurn x.e x.r s))).2.length ≤ 630000 from by have h1 := HQ.out.2.1.adds (sQc x.h (sTurn x.e x.r s)); have h2 := HS2.out; omega)
  obtain ⟨k0, k1, k2, k3, k4, k5⟩ := HB.out _ _ HP3.out
  clear k1 k2 k3 k4
  have HR := Lib.hid k5
  clear k5
  go_wp2_with (refine wpList_load_mid rfl 48 _ rfl (w.heap.size + 1) 24 rfl (sg.toList) _ HR.out Tryd.underlying48 rfl (by rw [Array.length_toList, H3.out.2.2.1]; exact sz_Sg) ?_; rw [Array.toArray_toList])
  refine (el_Sg HE.out _ _ _ HP3.out.wi (Nat.le_trans HS3.out (by omega)) x.s HQ.out.2.2 sg (by rw [Array.toArray_toList]; exact H3.out.2.2.2)).mono ?_
  rintro e V4 ⟨rfl, q3⟩
  have HP4 := Lib.hid (HP3.out.trans q3)
  clear q3 k0
  go_wp2_with fail
  go_end0
  exact ⟨rfl, HCl.out _ _ HP4.out⟩

set_option maxRecDepth 100000 in
set_option maxHeartbeats 1000000 in
theorem proposal_st (w : World) (F : Nat → Prop) (s : WSt) (h : WI w0 E g F s w) (hs : s.2.length ≤ 600000) (x : Pp) (hx : x.At w0) (cs : Array Value) (hcs : cs = x.val) :
    Calls Tryd.prog 37 #[.agg #[.pointer (some ⟨g, 0, none⟩)], .agg cs] w fun e w' => e = .returned (.tuple #[]) ∧ WP w0 E g F (sPp x s) w w' := by
  obtain ⟨bv, hbv⟩ : ∃ z, z = x.b.val := ⟨_, rfl⟩
  have sbv : bv.size = 39 := by rw [hbv]; exact Bk.size hx.1
  obtain ⟨tv, htv⟩ : ∃ z, z = x.l.val := ⟨_, rfl⟩
  have stv : tv.size = 3 := by rw [htv]; exact rfl
  obtain ⟨sg, hsg⟩ : ∃ z, z = x.s.cells := ⟨_, rfl⟩
  have ssg : sg.size = 4 := by rw [hsg]; exact rfl
  have hcl : cs.toList = bv.toList ++ (tv.toList ++ (sg.toList)) := by rw [hcs, hbv, htv, hsg]; simp [Pp.val]
  have H3 := Lib.hid (And.intro (And.intro sbv hbv) (And.intro (And.intro stv htv) (And.intro ssg hsg)))
  have HQ := Lib.hid hx
  obtain ⟨W1, hW1⟩ : ∃ W1, ((w.alloc (.cells #[.pointer (some ⟨g, 0, none⟩)] 71)).alloc (.cells cs 57)) = W1 := ⟨_, rfl⟩
  have g1 : w.grownBy W1 none := by rw [← hW1]; exact grown_trans (World.grownBy_alloc _ _ none) (World.grownBy_alloc _ _ none)
  have bw : Blk W1 w.heap.size 71 #[.pointer (some ⟨g, 0, none⟩)] := by rw [← hW1]; exact (Blk.new w _ _).alloc _
  have bx : Blk W1 (w.heap.size + 1) 57 cs := by
    have := Blk.new (w.alloc (.cells #[.pointer (some ⟨g, 0, none⟩)] 71)) 57 cs
    rw [← hW1]; simpa using this
  have hi := h.opened g1
  have HCl := Lib.hid (fun (w2 : World) (s2 : WSt) (P : WP w0 E g (fun k => F k ∧ k < w.heap.size) s2 W1 w2) => WP.closed (F := F) h g1 P)
  have HB := Lib.hid (fun (V : World) (s' : WSt) (P : WP w0 E g (fun k => F k ∧ k < w.heap.size) s' W1 V) => (show V.cell? ⟨w.heap.size, 0, none⟩ = some (.pointer (some ⟨g, 0, none⟩)) ∧ V.rangeAt (w.heap.size + 1) 0 bv.toList ∧ V.rangeAt (w.heap.size + 1) 39 tv.toList ∧ V.rangeAt (w.heap.size + 1) 42 sg.toList from
    by
      have kw : Blk V w.heap.size 71 #[.pointer (some ⟨g, 0, none⟩)] := bw.kept P.fine (fun h => absurd h.2 (by omega))
      have bx : Blk V (w.heap.size + 1) 57 cs := bx.kept P.fine (fun h => absurd h.2 (by omega))
      exact ⟨by simpa using kw.cell 0, by have r := range_blk0 bx; rw [hcl] at r; have := (range_head r); simpa only [Array.length_toList, List.length_cons, List.length_nil, Nat.zero_add, Nat.reduceAdd, sbv, stv, ssg] using this, by have r := range_blk0 bx; rw [hcl] at r; have := (range_head (range_tail r)); simpa only [Array.length_toList, List.length_cons, List.length_nil, Nat.zero_add, Nat.reduceAdd, sbv, stv, ssg] using this, by have r := range_blk0 bx; rw [hcl] at r; have := (range_tail (range_tail r)); simpa only [Array.length_toList, List.length_cons, List.length_nil, Nat.zero_add, Nat.reduceAdd, sbv, stv, ssg] using this⟩))
  have HP0 := Lib.hid hi.same
  have HE := Lib.hid he
  have HS := Lib.hid hs
  have HW := Lib.hid hW1
  clear h hi bw bx g1 hW1 hs he hcs hcl hx sbv hbv stv htv ssg hsg
  go_enter Tryd.func37, Tryd.ntmps37
  go_upto_region 1 with (fail)
  rw [HW.out]
  obtain ⟨k0, k3, k4, k5⟩ := HB.out _ _ HP0.out
  clear k4 k5
  have HR := Lib.hid k3
  clear k3
  go_wp2_with (refine wpList_load_mid rfl 30 _ rfl (w.heap.size + 1) 0 rfl (bv.toList) _ HR.out Tryd.underlying30 rfl (by rw [Array.length_toList, H3.out.1.1]; exact sz_Bk) ?_; rw [Array.toArray_toList])
  refine (block_st HE.out _ _ _ HP0.out.wi (Nat.le_trans HS.out (by omega)) x.b HQ.out.1 bv H3.out.1.2).mono ?_
  rintro e V1 ⟨rfl, q0⟩
  have HP1 := Lib.hid (HP0.out.trans q0)
  clear q0 k0
  have HS1 := Lib.hid (show (sBk x.b s).2.length ≤ 620000 from by have h1 := HQ.out.1.adds s; have h2 := HS.out; omega)
  obtain ⟨k0, k3, k4, k5⟩ := HB.out _ _ HP1.out
  clear k3 k5
  have HR := Lib.hid k4
  clear k4
  go_wp2_with (refine wpList_load_mid rfl 53 _ rfl (w.heap.size + 1) 39 rfl (tv.toList) _ HR.out Tryd.underlying53 rfl (by rw [Array.length_toList, H3.out.2.1.1]; exact sz_TC) ?_; rw [Array.toArray_toList, H3.out.2.1.2])
  refine (tc_st HE.out _ _ _ HP1.out.wi (Nat.le_trans HS1.out (by omega)) x.l HQ.out.2.1).mono ?_
  rintro e V2 ⟨rfl, q1⟩
  have HP2 := Lib.hid (HP1.out.trans q1)
  clear q1 k0
  have HS2 := Lib.hid (show (sTc x.l (sBk x.b s)).2.length ≤ 630000 from by have h1 := HQ.out.2.1.adds (sBk x.b s); have h2 := HS1.out; omega)
  obtain ⟨k0, k3, k4, k5⟩ := HB.out _ _ HP2.out
  clear k3 k4
  have HR := Lib.hid k5
  clear k5
  go_wp2_with (refine wpList_load_mid rfl 48 _ rfl (w.heap.size + 1) 42 rfl (sg.toList) _ HR.out Tryd.underlying48 rfl (by rw [Array.length_toList, H3.out.2.2.1]; exact sz_Sg) ?_; rw [Array.toArray_toList])
  refine (el_Sg HE.out _ _ _ HP2.out.wi (Nat.le_trans HS2.out (by omega)) x.s HQ.out.2.2 sg (by rw [Array.toArray_toList]; exact H3.out.2.2.2)).mono ?_
  rintro e V3 ⟨rfl, q2⟩
  have HP3 := Lib.hid (HP2.out.trans q2)
  clear q2 k0
  go_wp2_with fail
  go_end0
  exact ⟨rfl, HCl.out _ _ HP3.out⟩

set_option maxRecDepth 100000 in
set_option maxHeartbeats 1000000 in
theorem want_st (w : World) (F : Nat → Prop) (s : WSt) (h : WI w0 E g F s w) (hs : s.2.length ≤ 600000) (x : Wt) (hx : x.At) (cs : Array Value) (hcs : cs = x.val) :
    Calls Tryd.prog 38 #[.agg #[.pointer (some ⟨g, 0, none⟩)], .agg cs] w fun e w' => e = .returned (.tuple #[]) ∧ WP w0 E g F (sWt x s) w w' := by
  obtain ⟨fv, hfv⟩ : ∃ z, z = arrV .u8 x.f := ⟨_, rfl⟩
  have sfv : fv.size = 16 := by rw [hfv]; exact by rw [arr_size, hx.1.1]
  obtain ⟨gv, hgv⟩ : ∃ z, z = arrV .u8 x.b := ⟨_, rfl⟩
  have sgv : gv.size = 16 := by rw [hgv]; exact by rw [arr_size, hx.2.1]
  have hcl : cs.toList = fv.toList ++ (gv.toList) := by rw [hcs, hfv, hgv]; simp [Wt.val]
  have H3 := Lib.hid (And.intro (And.intro sfv hfv) (And.intro sgv hgv))
  have HQ := Lib.hid hx
  obtain ⟨W1, hW1⟩ : ∃ W1, ((w.alloc (.cells #[.pointer (some ⟨g, 0, none⟩)] 71)).alloc (.cells cs 43)) = W1 := ⟨_, rfl⟩
  have g1 : w.grownBy W1 none := by rw [← hW1]; exact grown_trans (World.grownBy_alloc _ _ none) (World.grownBy_alloc _ _ none)
  have bw : Blk W1 w.heap.size 71 #[.pointer (some ⟨g, 0, none⟩)] := by rw [← hW1]; exact (Blk.new w _ _).alloc _
  have bx : Blk W1 (w.heap.size + 1) 43 cs := by
    have := Blk.new (w.alloc (.cells #[.pointer (some ⟨g, 0, none⟩)] 71)) 43 cs
    rw [← hW1]; simpa using this
  have hi := h.opened g1
  have HCl := Lib.hid (fun (w2 : World) (s2 : WSt) (P : WP w0 E g (fun k => F k ∧ k < w.heap.size) s2 W1 w2) => WP.closed (F := F) h g1 P)
  have HB := Lib.hid (fun (V : World) (s' : WSt) (P : WP w0 E g (fun k => F k ∧ k < w.heap.size) s' W1 V) => (show V.cell? ⟨w.heap.size, 0, none⟩ = some (.pointer (some ⟨g, 0, none⟩)) ∧ V.rangeAt (w.heap.size + 1) 0 fv.toList ∧ V.rangeAt (w.heap.size + 1) 16 gv.toList from
    by
      have kw : Blk V w.heap.size 71 #[.pointer (some ⟨g, 0, none⟩)] := bw.kept P.fine (fun h => absurd h.2 (by omega))
      have bx : Blk V (w.heap.size + 1) 43 cs := bx.kept P.fine (fun h => absurd h.2 (by omega))
      exact ⟨by simpa using kw.cell 0, by have r := range_blk0 bx; rw [hcl] at r; have := (range_head r); simpa only [Array.length_toList, List.length_cons, List.length_nil, Nat.zero_add, Nat.reduceAdd, sfv, sgv] using this, by have r := range_blk0 bx; rw [hcl] at r; have := (range_tail r); simpa only [Array.length_toList, List.length_cons, List.length_nil, Nat.zero_add, Nat.reduceAdd, sfv, sgv] using this⟩))
  have HP0 := Lib.hid hi.same
  have HE := Lib.hid he
  have HS := Lib.hid hs
  have HW := Lib.hid hW1
  clear h hi bw bx g1 hW1 hs he hcs hcl hx sfv hfv sgv hgv
  go_enter Tryd.func38, Tryd.ntmps38
  go_upto_region 1 with (fail)
  rw [HW.out]
  obtain ⟨k0, k3, k4⟩ := HB.out _ _ HP0.out
  clear k4
  have HR := Lib.hid k3
  clear k3
  go_wp2_with (refine wpList_load_mid rfl 23 _ rfl (w.heap.size + 1) 0 rfl (fv.toList) _ HR.out Tryd.underlying23 rfl (by rw [Array.length_toList, H3.out.1.1]; exact sz_Dg) ?_; rw [Array.toArray_toList])
  refine (digest_st HP0.out.wi (Nat.le_trans HS.out (by omega)) x.f HQ.out.1 fv H3.out.1.2).mono ?_
  rintro e V1 ⟨rfl, q0⟩
  have HP1 := Lib.hid (HP0.out.trans q0)
  clear q0 k0
  have HS1 := Lib.hid (show (sDig x.f s).2.length ≤ 610000 from by have h1 := adds_dig HQ.out.1.1 s; have h2 := HS.out; omega)
  obtain ⟨k0, k3, k4⟩ := HB.out _ _ HP1.out
  clear k3
  have HR := Lib.hid k4
  clear k4
  go_wp2_with (refine wpList_load_mid rfl 23 _ rfl (w.heap.size + 1) 16 rfl (gv.toList) _ HR.out Tryd.underlying23 rfl (by rw [Array.length_toList, H3.out.2.1]; exact sz_Dg) ?_; rw [Array.toArray_toList])
  refine (digest_st HP1.out.wi (Nat.le_trans HS1.out (by omega)) x.b HQ.out.2 gv H3.out.2.2).mono ?_
  rintro e V2 ⟨rfl, q1⟩
  have HP2 := Lib.hid (HP1.out.trans q1)
  clear q1 k0
  go_wp2_with fail
  go_end0
  exact ⟨rfl, HCl.out _ _ HP2.out⟩

end
end Go.Proofs.YtebnebajedlhlaaDoor
