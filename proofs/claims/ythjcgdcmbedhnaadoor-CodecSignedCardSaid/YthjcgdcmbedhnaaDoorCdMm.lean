/-
  A message that is written.
-/
import Derived.Test.YthjcgdcmbedhnaaDoorCdMc
namespace Go.Proofs.YthjcgdcmbedhnaaDoor
open Go.RowKit

section
variable {w0 : World} {E : Nat → Addr} {g : Nat} (he : ErrAt w0 w0.heap.size 1 (E 0))
include he
set_option maxRecDepth 100000 in
set_option maxHeartbeats 1000000 in
theorem msg1_st (w : World) (F : Nat → Prop) (s : WSt) (h : WI w0 E g F s w) (hs : s.2.length ≤ 500000) (m : Msg) (hm : m.At w0) (hk : m.kind = 1) (cs : Array Value) (hcs : cs = m.val) :
    Calls Tryd.prog 29 #[.agg #[.pointer (some ⟨g, 0, none⟩)], .agg cs] w fun e w' => e = .returned (.tuple #[]) ∧ WP w0 E g F (sMsg m s) w w' := by
  obtain ⟨vv, hvv⟩ : ∃ z, z = m.v.val := ⟨_, rfl⟩
  have svv : vv.size = 22 := by rw [hvv]; exact Vt.size hm.1
  obtain ⟨tv, htv⟩ : ∃ z, z = m.t.val := ⟨_, rfl⟩
  have stv : tv.size = 28 := by rw [htv]; exact To.size hm.2.1
  obtain ⟨pv, hpv⟩ : ∃ z, z = m.p.val := ⟨_, rfl⟩
  have spv : pv.size = 46 := by rw [hpv]; exact Pp.size hm.2.2.1
  obtain ⟨wv, hwv⟩ : ∃ z, z = m.w.val := ⟨_, rfl⟩
  have swv : wv.size = 32 := by rw [hwv]; exact Wt.size hm.2.2.2.1
  obtain ⟨rv, hrv⟩ : ∃ z, z = m.rb.val := ⟨_, rfl⟩
  have srv : rv.size = 39 := by rw [hrv]; exact Bk.size hm.2.2.2.2.1
  obtain ⟨cv, hcv⟩ : ∃ z, z = m.c.val := ⟨_, rfl⟩
  have scv : cv.size = 136 := by rw [hcv]; exact Cg.size hm.2.2.2.2.2
  have hcl : cs.toList = [.int .i64 m.kind] ++ (vv.toList ++ (tv.toList ++ (pv.toList ++ (wv.toList ++ (rv.toList ++ (cv.toList)))))) := by rw [hcs, hvv, htv, hpv, hwv, hrv, hcv]; simp [Msg.val]
  rw [hk] at hcl
  have HQ := Lib.hid hm
  have hst : sMsg m s = sVt m.v (sNum 1 1 s) := by rw [sMsg, sKind, hk]; simp
  rw [hst]
  have H3 := Lib.hid (And.intro svv hvv)
  obtain ⟨W1, hW1⟩ : ∃ W1, ((w.alloc (.cells #[.pointer (some ⟨g, 0, none⟩)] 80)).alloc (.cells cs 68)) = W1 := ⟨_, rfl⟩
  have g1 : w.grownBy W1 none := by rw [← hW1]; exact grown_trans (World.grownBy_alloc _ _ none) (World.grownBy_alloc _ _ none)
  have bw : Blk W1 w.heap.size 80 #[.pointer (some ⟨g, 0, none⟩)] := by rw [← hW1]; exact (Blk.new w _ _).alloc _
  have bx : Blk W1 (w.heap.size + 1) 68 cs := by
    have := Blk.new (w.alloc (.cells #[.pointer (some ⟨g, 0, none⟩)] 80)) 68 cs
    rw [← hW1]; simpa using this
  have hi := h.opened g1
  have HCl := Lib.hid (fun (w2 : World) (s2 : WSt) (P : WP w0 E g (fun k => F k ∧ k < w.heap.size) s2 W1 w2) => WP.closed (F := F) h g1 P)
  have HB := Lib.hid (fun (V : World) (s' : WSt) (P : WP w0 E g (fun k => F k ∧ k < w.heap.size) s' W1 V) => (show V.cell? ⟨w.heap.size, 0, none⟩ = some (.pointer (some ⟨g, 0, none⟩)) ∧ V.cell? ⟨w.heap.size + 1, 0, none⟩ = some (.int .i64 1) ∧ V.rangeAt (w.heap.size + 1) 1 vv.toList from
    by
      have kw : Blk V w.heap.size 80 #[.pointer (some ⟨g, 0, none⟩)] := bw.kept P.fine (fun h => absurd h.2 (by omega))
      have bx : Blk V (w.heap.size + 1) 68 cs := bx.kept P.fine (fun h => absurd h.2 (by omega))
      exact ⟨by simpa using kw.cell 0, by have r := range_blk0 bx; have := r 0 (.int .i64 1) (by rw [hcl]; rfl); simpa using this, by have r := range_blk0 bx; rw [hcl] at r; have := (range_head (range_tail r)); simpa only [Array.length_toList, List.length_cons, List.length_nil, Nat.zero_add, Nat.reduceAdd, svv, stv, spv, swv, srv, scv] using this⟩))
  have HP0 := Lib.hid hi.same
  have HE := Lib.hid he
  have HS := Lib.hid hs
  have HW := Lib.hid hW1
  clear h hi bw bx g1 hW1 hs he hcs hcl hm hk svv hvv stv htv spv hpv swv hwv srv hrv scv hcv hst
  go_enter Tryd.func29, Tryd.ntmps29
  go_upto_region 1 with (fail)
  rw [HW.out]
  obtain ⟨k0, k1, k2⟩ := HB.out _ _ HP0.out
  clear k2
  go_wp2_with fail
  refine (number_st HE.out HP0.out.wi (Nat.le_trans HS.out (by omega)) 1 1).mono ?_
  rintro e V1 ⟨rfl, q0⟩
  have HP1 := Lib.hid (HP0.out.trans q0)
  clear q0 k0 k1
  have HS1 := Lib.hid (show (sNum 1 1 s).2.length ≤ 600000 from by have h1 := adds_num 1 1 s; have h2 := HS.out; have h3 : sNum 1 1 s = sNum 1 ((1 : Nat) : Int) s := rfl; rw [h3]; omega)
  obtain ⟨k0, k1, k2⟩ := HB.out _ _ HP1.out
  have HR := Lib.hid k2
  clear k2
  go_wp2_with (refine wpList_load_mid rfl 54 _ rfl (w.heap.size + 1) 1 rfl (vv.toList) _ HR.out Tryd.underlying54 rfl (by rw [Array.length_toList, H3.out.1]; exact sz_Vt) ?_; rw [Array.toArray_toList])
  refine (vote_st HE.out _ _ _ HP1.out.wi (Nat.le_trans HS1.out (by omega)) m.v HQ.out.1 vv H3.out.2).mono ?_
  rintro e V2 ⟨rfl, q1⟩
  have HP2 := Lib.hid (HP1.out.trans q1)
  clear q1 k0 k1
  go_wp2_with fail
  go_end0
  exact ⟨rfl, HCl.out _ _ HP2.out⟩

set_option maxRecDepth 100000 in
set_option maxHeartbeats 1000000 in
theorem msg2_st (w : World) (F : Nat → Prop) (s : WSt) (h : WI w0 E g F s w) (hs : s.2.length ≤ 500000) (m : Msg) (hm : m.At w0) (hk : m.kind = 2) (cs : Array Value) (hcs : cs = m.val) :
    Calls Tryd.prog 29 #[.agg #[.pointer (some ⟨g, 0, none⟩)], .agg cs] w fun e w' => e = .returned (.tuple #[]) ∧ WP w0 E g F (sMsg m s) w w' := by
  obtain ⟨vv, hvv⟩ : ∃ z, z = m.v.val := ⟨_, rfl⟩
  have svv : vv.size = 22 := by rw [hvv]; exact Vt.size hm.1
  obtain ⟨tv, htv⟩ : ∃ z, z = m.t.val := ⟨_, rfl⟩
  have stv : tv.size = 28 := by rw [htv]; exact To.size hm.2.1
  obtain ⟨pv, hpv⟩ : ∃ z, z = m.p.val := ⟨_, rfl⟩
  have spv : pv.size = 46 := by rw [hpv]; exact Pp.size hm.2.2.1
  obtain ⟨wv, hwv⟩ : ∃ z, z = m.w.val := ⟨_, rfl⟩
  have swv : wv.size = 32 := by rw [hwv]; exact Wt.size hm.2.2.2.1
  obtain ⟨rv, hrv⟩ : ∃ z, z = m.rb.val := ⟨_, rfl⟩
  have srv : rv.size = 39 := by rw [hrv]; exact Bk.size hm.2.2.2.2.1
  obtain ⟨cv, hcv⟩ : ∃ z, z = m.c.val := ⟨_, rfl⟩
  have scv : cv.size = 136 := by rw [hcv]; exact Cg.size hm.2.2.2.2.2
  have hcl : cs.toList = [.int .i64 m.kind] ++ (vv.toList ++ (tv.toList ++ (pv.toList ++ (wv.toList ++ (rv.toList ++ (cv.toList)))))) := by rw [hcs, hvv, htv, hpv, hwv, hrv, hcv]; simp [Msg.val]
  rw [hk] at hcl
  have HQ := Lib.hid hm
  have hst : sMsg m s = sTo m.t (sNum 2 1 s) := by rw [sMsg, sKind, hk]; simp
  rw [hst]
  have H3 := Lib.hid (And.intro stv htv)
  obtain ⟨W1, hW1⟩ : ∃ W1, ((w.alloc (.cells #[.pointer (some ⟨g, 0, none⟩)] 80)).alloc (.cells cs 68)) = W1 := ⟨_, rfl⟩
  have g1 : w.grownBy W1 none := by rw [← hW1]; exact grown_trans (World.grownBy_alloc _ _ none) (World.grownBy_alloc _ _ none)
  have bw : Blk W1 w.heap.size 80 #[.pointer (some ⟨g, 0, none⟩)] := by rw [← hW1]; exact (Blk.new w _ _).alloc _
  have bx : Blk W1 (w.heap.size + 1) 68 cs := by
    have := Blk.new (w.alloc (.cells #[.pointer (some ⟨g, 0, none⟩)] 80)) 68 cs
    rw [← hW1]; simpa using this
  have hi := h.opened g1
  have HCl := Lib.hid (fun (w2 : World) (s2 : WSt) (P : WP w0 E g (fun k => F k ∧ k < w.heap.size) s2 W1 w2) => WP.closed (F := F) h g1 P)
  have HB := Lib.hid (fun (V : World) (s' : WSt) (P : WP w0 E g (fun k => F k ∧ k < w.heap.size) s' W1 V) => (show V.cell? ⟨w.heap.size, 0, none⟩ = some (.pointer (some ⟨g, 0, none⟩)) ∧ V.cell? ⟨w.heap.size + 1, 0, none⟩ = some (.int .i64 2) ∧ V.rangeAt (w.heap.size + 1) 23 tv.toList from
    by
      have kw : Blk V w.heap.size 80 #[.pointer (some ⟨g, 0, none⟩)] := bw.kept P.fine (fun h => absurd h.2 (by omega))
      have bx : Blk V (w.heap.size + 1) 68 cs := bx.kept P.fine (fun h => absurd h.2 (by omega))
      exact ⟨by simpa using kw.cell 0, by have r := range_blk0 bx; have := r 0 (.int .i64 2) (by rw [hcl]; rfl); simpa using this, by have r := range_blk0 bx; rw [hcl] at r; have := (range_head (range_tail (range_tail r))); simpa only [Array.length_toList, List.length_cons, List.length_nil, Nat.zero_add, Nat.reduceAdd, svv, stv, spv, swv, srv, scv] using this⟩))
  have HP0 := Lib.hid hi.same
  have HE := Lib.hid he
  have HS := Lib.hid hs
  have HW := Lib.hid hW1
  clear h hi bw bx g1 hW1 hs he hcs hcl hm hk svv hvv stv htv spv hpv swv hwv srv hrv scv hcv hst
  go_enter Tryd.func29, Tryd.ntmps29
  go_upto_region 1 with (fail)
  rw [HW.out]
  obtain ⟨k0, k1, k2⟩ := HB.out _ _ HP0.out
  clear k2
  go_wp2_with fail
  refine (number_st HE.out HP0.out.wi (Nat.le_trans HS.out (by omega)) 2 1).mono ?_
  rintro e V1 ⟨rfl, q0⟩
  have HP1 := Lib.hid (HP0.out.trans q0)
  clear q0 k0 k1
  have HS1 := Lib.hid (show (sNum 2 1 s).2.length ≤ 600000 from by have h1 := adds_num 2 1 s; have h2 := HS.out; have h3 : sNum 2 1 s = sNum 2 ((1 : Nat) : Int) s := rfl; rw [h3]; omega)
  obtain ⟨k0, k1, k2⟩ := HB.out _ _ HP1.out
  have HR := Lib.hid k2
  clear k2
  go_wp2_with (refine wpList_load_mid rfl 59 _ rfl (w.heap.size + 1) 23 rfl (tv.toList) _ HR.out Tryd.underlying59 rfl (by rw [Array.length_toList, H3.out.1]; exact sz_To) ?_; rw [Array.toArray_toList])
  refine (timeout_st HE.out _ _ _ HP1.out.wi (Nat.le_trans HS1.out (by omega)) m.t HQ.out.2.1 tv H3.out.2).mono ?_
  rintro e V2 ⟨rfl, q1⟩
  have HP2 := Lib.hid (HP1.out.trans q1)
  clear q1 k0 k1
  go_wp2_with fail
  go_end0
  exact ⟨rfl, HCl.out _ _ HP2.out⟩

set_option maxRecDepth 100000 in
set_option maxHeartbeats 1000000 in
theorem msg3_st (w : World) (F : Nat → Prop) (s : WSt) (h : WI w0 E g F s w) (hs : s.2.length ≤ 500000) (m : Msg) (hm : m.At w0) (hk : m.kind = 3) (cs : Array Value) (hcs : cs = m.val) :
    Calls Tryd.prog 29 #[.agg #[.pointer (some ⟨g, 0, none⟩)], .agg cs] w fun e w' => e = .returned (.tuple #[]) ∧ WP w0 E g F (sMsg m s) w w' := by
  obtain ⟨vv, hvv⟩ : ∃ z, z = m.v.val := ⟨_, rfl⟩
  have svv : vv.size = 22 := by rw [hvv]; exact Vt.size hm.1
  obtain ⟨tv, htv⟩ : ∃ z, z = m.t.val := ⟨_, rfl⟩
  have stv : tv.size = 28 := by rw [htv]; exact To.size hm.2.1
  obtain ⟨pv, hpv⟩ : ∃ z, z = m.p.val := ⟨_, rfl⟩
  have spv : pv.size = 46 := by rw [hpv]; exact Pp.size hm.2.2.1
  obtain ⟨wv, hwv⟩ : ∃ z, z = m.w.val := ⟨_, rfl⟩
  have swv : wv.size = 32 := by rw [hwv]; exact Wt.size hm.2.2.2.1
  obtain ⟨rv, hrv⟩ : ∃ z, z = m.rb.val := ⟨_, rfl⟩
  have srv : rv.size = 39 := by rw [hrv]; exact Bk.size hm.2.2.2.2.1
  obtain ⟨cv, hcv⟩ : ∃ z, z = m.c.val := ⟨_, rfl⟩
  have scv : cv.size = 136 := by rw [hcv]; exact Cg.size hm.2.2.2.2.2
  have hcl : cs.toList = [.int .i64 m.kind] ++ (vv.toList ++ (tv.toList ++ (pv.toList ++ (wv.toList ++ (rv.toList ++ (cv.toList)))))) := by rw [hcs, hvv, htv, hpv, hwv, hrv, hcv]; simp [Msg.val]
  rw [hk] at hcl
  have HQ := Lib.hid hm
  have hst : sMsg m s = sPp m.p (sNum 3 1 s) := by rw [sMsg, sKind, hk]; simp
  rw [hst]
  have H3 := Lib.hid (And.intro spv hpv)
  obtain ⟨W1, hW1⟩ : ∃ W1, ((w.alloc (.cells #[.pointer (some ⟨g, 0, none⟩)] 80)).alloc (.cells cs 68)) = W1 := ⟨_, rfl⟩
  have g1 : w.grownBy W1 none := by rw [← hW1]; exact grown_trans (World.grownBy_alloc _ _ none) (World.grownBy_alloc _ _ none)
  have bw : Blk W1 w.heap.size 80 #[.pointer (some ⟨g, 0, none⟩)] := by rw [← hW1]; exact (Blk.new w _ _).alloc _
  have bx : Blk W1 (w.heap.size + 1) 68 cs := by
    have := Blk.new (w.alloc (.cells #[.pointer (some ⟨g, 0, none⟩)] 80)) 68 cs
    rw [← hW1]; simpa using this
  have hi := h.opened g1
  have HCl := Lib.hid (fun (w2 : World) (s2 : WSt) (P : WP w0 E g (fun k => F k ∧ k < w.heap.size) s2 W1 w2) => WP.closed (F := F) h g1 P)
  have HB := Lib.hid (fun (V : World) (s' : WSt) (P : WP w0 E g (fun k => F k ∧ k < w.heap.size) s' W1 V) => (show V.cell? ⟨w.heap.size, 0, none⟩ = some (.pointer (some ⟨g, 0, none⟩)) ∧ V.cell? ⟨w.heap.size + 1, 0, none⟩ = some (.int .i64 3) ∧ V.rangeAt (w.heap.size + 1) 51 pv.toList from
    by
      have kw : Blk V w.heap.size 80 #[.pointer (some ⟨g, 0, none⟩)] := bw.kept P.fine (fun h => absurd h.2 (by omega))
      have bx : Blk V (w.heap.size + 1) 68 cs := bx.kept P.fine (fun h => absurd h.2 (by omega))
      exact ⟨by simpa using kw.cell 0, by have r := range_blk0 bx; have := r 0 (.int .i64 3) (by rw [hcl]; rfl); simpa using this, by have r := range_blk0 bx; rw [hcl] at r; have := (range_head (range_tail (range_tail (range_tail r)))); simpa only [Array.length_toList, List.length_cons, List.length_nil, Nat.zero_add, Nat.reduceAdd, svv, stv, spv, swv, srv, scv] using this⟩))
  have HP0 := Lib.hid hi.same
  have HE := Lib.hid he
  have HS := Lib.hid hs
  have HW := Lib.hid hW1
  clear h hi bw bx g1 hW1 hs he hcs hcl hm hk svv hvv stv htv spv hpv swv hwv srv hrv scv hcv hst
  go_enter Tryd.func29, Tryd.ntmps29
  go_upto_region 1 with (fail)
  rw [HW.out]
  obtain ⟨k0, k1, k2⟩ := HB.out _ _ HP0.out
  clear k2
  go_wp2_with fail
  refine (number_st HE.out HP0.out.wi (Nat.le_trans HS.out (by omega)) 3 1).mono ?_
  rintro e V1 ⟨rfl, q0⟩
  have HP1 := Lib.hid (HP0.out.trans q0)
  clear q0 k0 k1
  have HS1 := Lib.hid (show (sNum 3 1 s).2.length ≤ 600000 from by have h1 := adds_num 3 1 s; have h2 := HS.out; have h3 : sNum 3 1 s = sNum 3 ((1 : Nat) : Int) s := rfl; rw [h3]; omega)
  obtain ⟨k0, k1, k2⟩ := HB.out _ _ HP1.out
  have HR := Lib.hid k2
  clear k2
  go_wp2_with (refine wpList_load_mid rfl 61 _ rfl (w.heap.size + 1) 51 rfl (pv.toList) _ HR.out Tryd.underlying61 rfl (by rw [Array.length_toList, H3.out.1]; exact sz_Pp) ?_; rw [Array.toArray_toList])
  refine (proposal_st HE.out _ _ _ HP1.out.wi (Nat.le_trans HS1.out (by omega)) m.p HQ.out.2.2.1 pv H3.out.2).mono ?_
  rintro e V2 ⟨rfl, q1⟩
  have HP2 := Lib.hid (HP1.out.trans q1)
  clear q1 k0 k1
  go_wp2_with fail
  go_end0
  exact ⟨rfl, HCl.out _ _ HP2.out⟩

set_option maxRecDepth 100000 in
set_option maxHeartbeats 1000000 in
theorem msg4_st (w : World) (F : Nat → Prop) (s : WSt) (h : WI w0 E g F s w) (hs : s.2.length ≤ 500000) (m : Msg) (hm : m.At w0) (hk : m.kind = 4) (cs : Array Value) (hcs : cs = m.val) :
    Calls Tryd.prog 29 #[.agg #[.pointer (some ⟨g, 0, none⟩)], .agg cs] w fun e w' => e = .returned (.tuple #[]) ∧ WP w0 E g F (sMsg m s) w w' := by
  obtain ⟨vv, hvv⟩ : ∃ z, z = m.v.val := ⟨_, rfl⟩
  have svv : vv.size = 22 := by rw [hvv]; exact Vt.size hm.1
  obtain ⟨tv, htv⟩ : ∃ z, z = m.t.val := ⟨_, rfl⟩
  have stv : tv.size = 28 := by rw [htv]; exact To.size hm.2.1
  obtain ⟨pv, hpv⟩ : ∃ z, z = m.p.val := ⟨_, rfl⟩
  have spv : pv.size = 46 := by rw [hpv]; exact Pp.size hm.2.2.1
  obtain ⟨wv, hwv⟩ : ∃ z, z = m.w.val := ⟨_, rfl⟩
  have swv : wv.size = 32 := by rw [hwv]; exact Wt.size hm.2.2.2.1
  obtain ⟨rv, hrv⟩ : ∃ z, z = m.rb.val := ⟨_, rfl⟩
  have srv : rv.size = 39 := by rw [hrv]; exact Bk.size hm.2.2.2.2.1
  obtain ⟨cv, hcv⟩ : ∃ z, z = m.c.val := ⟨_, rfl⟩
  have scv : cv.size = 136 := by rw [hcv]; exact Cg.size hm.2.2.2.2.2
  have hcl : cs.toList = [.int .i64 m.kind] ++ (vv.toList ++ (tv.toList ++ (pv.toList ++ (wv.toList ++ (rv.toList ++ (cv.toList)))))) := by rw [hcs, hvv, htv, hpv, hwv, hrv, hcv]; simp [Msg.val]
  rw [hk] at hcl
  have HQ := Lib.hid hm
  have hst : sMsg m s = sWt m.w (sNum 4 1 s) := by rw [sMsg, sKind, hk]; simp
  rw [hst]
  have H3 := Lib.hid (And.intro swv hwv)
  obtain ⟨W1, hW1⟩ : ∃ W1, ((w.alloc (.cells #[.pointer (some ⟨g, 0, none⟩)] 80)).alloc (.cells cs 68)) = W1 := ⟨_, rfl⟩
  have g1 : w.grownBy W1 none := by rw [← hW1]; exact grown_trans (World.grownBy_alloc _ _ none) (World.grownBy_alloc _ _ none)
  have bw : Blk W1 w.heap.size 80 #[.pointer (some ⟨g, 0, none⟩)] := by rw [← hW1]; exact (Blk.new w _ _).alloc _
  have bx : Blk W1 (w.heap.size + 1) 68 cs := by
    have := Blk.new (w.alloc (.cells #[.pointer (some ⟨g, 0, none⟩)] 80)) 68 cs
    rw [← hW1]; simpa using this
  have hi := h.opened g1
  have HCl := Lib.hid (fun (w2 : World) (s2 : WSt) (P : WP w0 E g (fun k => F k ∧ k < w.heap.size) s2 W1 w2) => WP.closed (F := F) h g1 P)
  have HB := Lib.hid (fun (V : World) (s' : WSt) (P : WP w0 E g (fun k => F k ∧ k < w.heap.size) s' W1 V) => (show V.cell? ⟨w.heap.size, 0, none⟩ = some (.pointer (some ⟨g, 0, none⟩)) ∧ V.cell? ⟨w.heap.size + 1, 0, none⟩ = some (.int .i64 4) ∧ V.rangeAt (w.heap.size + 1) 97 wv.toList from
    by
      have kw : Blk V w.heap.size 80 #[.pointer (some ⟨g, 0, none⟩)] := bw.kept P.fine (fun h => absurd h.2 (by omega))
      have bx : Blk V (w.heap.size + 1) 68 cs := bx.kept P.fine (fun h => absurd h.2 (by omega))
      exact ⟨by simpa using kw.cell 0, by have r := range_blk0 bx; have := r 0 (.int .i64 4) (by rw [hcl]; rfl); simpa using this, by have r := range_blk0 bx; rw [hcl] at r; have := (range_head (range_tail (range_tail (range_tail (range_tail r))))); simpa only [Array.length_toList, List.length_cons, List.length_nil, Nat.zero_add, Nat.reduceAdd, svv, stv, spv, swv, srv, scv] using this⟩))
  have HP0 := Lib.hid hi.same
  have HE := Lib.hid he
  have HS := Lib.hid hs
  have HW := Lib.hid hW1
  clear h hi bw bx g1 hW1 hs he hcs hcl hm hk svv hvv stv htv spv hpv swv hwv srv hrv scv hcv hst
  go_enter Tryd.func29, Tryd.ntmps29
  go_upto_region 1 with (fail)
  rw [HW.out]
  obtain ⟨k0, k1, k2⟩ := HB.out _ _ HP0.out
  clear k2
  go_wp2_with fail
  refine (number_st HE.out HP0.out.wi (Nat.le_trans HS.out (by omega)) 4 1).mono ?_
  rintro e V1 ⟨rfl, q0⟩
  have HP1 := Lib.hid (HP0.out.trans q0)
  clear q0 k0 k1
  have HS1 := Lib.hid (show (sNum 4 1 s).2.length ≤ 600000 from by have h1 := adds_num 4 1 s; have h2 := HS.out; have h3 : sNum 4 1 s = sNum 4 ((1 : Nat) : Int) s := rfl; rw [h3]; omega)
  obtain ⟨k0, k1, k2⟩ := HB.out _ _ HP1.out
  have HR := Lib.hid k2
  clear k2
  go_wp2_with (refine wpList_load_mid rfl 47 _ rfl (w.heap.size + 1) 97 rfl (wv.toList) _ HR.out Tryd.underlying47 rfl (by rw [Array.length_toList, H3.out.1]; exact sz_Wt) ?_; rw [Array.toArray_toList])
  refine (want_st HE.out _ _ _ HP1.out.wi (Nat.le_trans HS1.out (by omega)) m.w HQ.out.2.2.2.1 wv H3.out.2).mono ?_
  rintro e V2 ⟨rfl, q1⟩
  have HP2 := Lib.hid (HP1.out.trans q1)
  clear q1 k0 k1
  go_wp2_with fail
  go_end0
  exact ⟨rfl, HCl.out _ _ HP2.out⟩

set_option maxRecDepth 100000 in
set_option maxHeartbeats 1000000 in
theorem msg5_st (w : World) (F : Nat → Prop) (s : WSt) (h : WI w0 E g F s w) (hs : s.2.length ≤ 500000) (m : Msg) (hm : m.At w0) (hk : m.kind = 5) (cs : Array Value) (hcs : cs = m.val) :
    Calls Tryd.prog 29 #[.agg #[.pointer (some ⟨g, 0, none⟩)], .agg cs] w fun e w' => e = .returned (.tuple #[]) ∧ WP w0 E g F (sMsg m s) w w' := by
  obtain ⟨vv, hvv⟩ : ∃ z, z = m.v.val := ⟨_, rfl⟩
  have svv : vv.size = 22 := by rw [hvv]; exact Vt.size hm.1
  obtain ⟨tv, htv⟩ : ∃ z, z = m.t.val := ⟨_, rfl⟩
  have stv : tv.size = 28 := by rw [htv]; exact To.size hm.2.1
  obtain ⟨pv, hpv⟩ : ∃ z, z = m.p.val := ⟨_, rfl⟩
  have spv : pv.size = 46 := by rw [hpv]; exact Pp.size hm.2.2.1
  obtain ⟨wv, hwv⟩ : ∃ z, z = m.w.val := ⟨_, rfl⟩
  have swv : wv.size = 32 := by rw [hwv]; exact Wt.size hm.2.2.2.1
  obtain ⟨rv, hrv⟩ : ∃ z, z = m.rb.val := ⟨_, rfl⟩
  have srv : rv.size = 39 := by rw [hrv]; exact Bk.size hm.2.2.2.2.1
  obtain ⟨cv, hcv⟩ : ∃ z, z = m.c.val := ⟨_, rfl⟩
  have scv : cv.size = 136 := by rw [hcv]; exact Cg.size hm.2.2.2.2.2
  have hcl : cs.toList = [.int .i64 m.kind] ++ (vv.toList ++ (tv.toList ++ (pv.toList ++ (wv.toList ++ (rv.toList ++ (cv.toList)))))) := by rw [hcs, hvv, htv, hpv, hwv, hrv, hcv]; simp [Msg.val]
  rw [hk] at hcl
  have HQ := Lib.hid hm
  have hst : sMsg m s = sBk m.rb (sNum 5 1 s) := by rw [sMsg, sKind, hk]; simp
  rw [hst]
  have H3 := Lib.hid (And.intro srv hrv)
  obtain ⟨W1, hW1⟩ : ∃ W1, ((w.alloc (.cells #[.pointer (some ⟨g, 0, none⟩)] 80)).alloc (.cells cs 68)) = W1 := ⟨_, rfl⟩
  have g1 : w.grownBy W1 none := by rw [← hW1]; exact grown_trans (World.grownBy_alloc _ _ none) (World.grownBy_alloc _ _ none)
  have bw : Blk W1 w.heap.size 80 #[.pointer (some ⟨g, 0, none⟩)] := by rw [← hW1]; exact (Blk.new w _ _).alloc _
  have bx : Blk W1 (w.heap.size + 1) 68 cs := by
    have := Blk.new (w.alloc (.cells #[.pointer (some ⟨g, 0, none⟩)] 80)) 68 cs
    rw [← hW1]; simpa using this
  have hi := h.opened g1
  have HCl := Lib.hid (fun (w2 : World) (s2 : WSt) (P : WP w0 E g (fun k => F k ∧ k < w.heap.size) s2 W1 w2) => WP.closed (F := F) h g1 P)
  have HB := Lib.hid (fun (V : World) (s' : WSt) (P : WP w0 E g (fun k => F k ∧ k < w.heap.size) s' W1 V) => (show V.cell? ⟨w.heap.size, 0, none⟩ = some (.pointer (some ⟨g, 0, none⟩)) ∧ V.cell? ⟨w.heap.size + 1, 0, none⟩ = some (.int .i64 5) ∧ V.rangeAt (w.heap.size + 1) 129 rv.toList from
    by
      have kw : Blk V w.heap.size 80 #[.pointer (some ⟨g, 0, none⟩)] := bw.kept P.fine (fun h => absurd h.2 (by omega))
      have bx : Blk V (w.heap.size + 1) 68 cs := bx.kept P.fine (fun h => absurd h.2 (by omega))
      exact ⟨by simpa using kw.cell 0, by have r := range_blk0 bx; have := r 0 (.int .i64 5) (by rw [hcl]; rfl); simpa using this, by have r := range_blk0 bx; rw [hcl] at r; have := (range_head (range_tail (range_tail (range_tail (range_tail (range_tail r)))))); simpa only [Array.length_toList, List.length_cons, List.length_nil, Nat.zero_add, Nat.reduceAdd, svv, stv, spv, swv, srv, scv] using this⟩))
  have HP0 := Lib.hid hi.same
  have HE := Lib.hid he
  have HS := Lib.hid hs
  have HW := Lib.hid hW1
  clear h hi bw bx g1 hW1 hs he hcs hcl hm hk svv hvv stv htv spv hpv swv hwv srv hrv scv hcv hst
  go_enter Tryd.func29, Tryd.ntmps29
  go_upto_region 1 with (fail)
  rw [HW.out]
  obtain ⟨k0, k1, k2⟩ := HB.out _ _ HP0.out
  clear k2
  go_wp2_with fail
  refine (number_st HE.out HP0.out.wi (Nat.le_trans HS.out (by omega)) 5 1).mono ?_
  rintro e V1 ⟨rfl, q0⟩
  have HP1 := Lib.hid (HP0.out.trans q0)
  clear q0 k0 k1
  have HS1 := Lib.hid (show (sNum 5 1 s).2.length ≤ 600000 from by have h1 := adds_num 5 1 s; have h2 := HS.out; have h3 : sNum 5 1 s = sNum 5 ((1 : Nat) : Int) s := rfl; rw [h3]; omega)
  obtain ⟨k0, k1, k2⟩ := HB.out _ _ HP1.out
  have HR := Lib.hid k2
  clear k2
  go_wp2_with (refine wpList_load_mid rfl 35 _ rfl (w.heap.size + 1) 129 rfl (rv.toList) _ HR.out Tryd.underlying35 rfl (by rw [Array.length_toList, H3.out.1]; exact sz_Bk) ?_; rw [Array.toArray_toList])
  refine (block_st HE.out _ _ _ HP1.out.wi (Nat.le_trans HS1.out (by omega)) m.rb HQ.out.2.2.2.2.1 rv H3.out.2).mono ?_
  rintro e V2 ⟨rfl, q1⟩
  have HP2 := Lib.hid (HP1.out.trans q1)
  clear q1 k0 k1
  go_wp2_with fail
  go_end0
  exact ⟨rfl, HCl.out _ _ HP2.out⟩

set_option maxRecDepth 100000 in
set_option maxHeartbeats 1000000 in
theorem msg6_st (w : World) (F : Nat → Prop) (s : WSt) (h : WI w0 E g F s w) (hs : s.2.length ≤ 500000) (m : Msg) (hm : m.At w0) (hk : m.kind = 6) (cs : Array Value) (hcs : cs = m.val) :
    Calls Tryd.prog 29 #[.agg #[.pointer (some ⟨g, 0, none⟩)], .agg cs] w fun e w' => e = .returned (.tuple #[]) ∧ WP w0 E g F (sMsg m s) w w' := by
  obtain ⟨vv, hvv⟩ : ∃ z, z = m.v.val := ⟨_, rfl⟩
  have svv : vv.size = 22 := by rw [hvv]; exact Vt.size hm.1
  obtain ⟨tv, htv⟩ : ∃ z, z = m.t.val := ⟨_, rfl⟩
  have stv : tv.size = 28 := by rw [htv]; exact To.size hm.2.1
  obtain ⟨pv, hpv⟩ : ∃ z, z = m.p.val := ⟨_, rfl⟩
  have spv : pv.size = 46 := by rw [hpv]; exact Pp.size hm.2.2.1
  obtain ⟨wv, hwv⟩ : ∃ z, z = m.w.val := ⟨_, rfl⟩
  have swv : wv.size = 32 := by rw [hwv]; exact Wt.size hm.2.2.2.1
  obtain ⟨rv, hrv⟩ : ∃ z, z = m.rb.val := ⟨_, rfl⟩
  have srv : rv.size = 39 := by rw [hrv]; exact Bk.size hm.2.2.2.2.1
  obtain ⟨cv, hcv⟩ : ∃ z, z = m.c.val := ⟨_, rfl⟩
  have scv : cv.size = 136 := by rw [hcv]; exact Cg.size hm.2.2.2.2.2
  have hcl : cs.toList = [.int .i64 m.kind] ++ (vv.toList ++ (tv.toList ++ (pv.toList ++ (wv.toList ++ (rv.toList ++ (cv.toList)))))) := by rw [hcs, hvv, htv, hpv, hwv, hrv, hcv]; simp [Msg.val]
  rw [hk] at hcl
  have HQ := Lib.hid hm
  have hst : sMsg m s = sCg m.c (sNum 6 1 s) := by rw [sMsg, sKind, hk]; simp
  rw [hst]
  have H3 := Lib.hid (And.intro scv hcv)
  obtain ⟨W1, hW1⟩ : ∃ W1, ((w.alloc (.cells #[.pointer (some ⟨g, 0, none⟩)] 80)).alloc (.cells cs 68)) = W1 := ⟨_, rfl⟩
  have g1 : w.grownBy W1 none := by rw [← hW1]; exact grown_trans (World.grownBy_alloc _ _ none) (World.grownBy_alloc _ _ none)
  have bw : Blk W1 w.heap.size 80 #[.pointer (some ⟨g, 0, none⟩)] := by rw [← hW1]; exact (Blk.new w _ _).alloc _
  have bx : Blk W1 (w.heap.size + 1) 68 cs := by
    have := Blk.new (w.alloc (.cells #[.pointer (some ⟨g, 0, none⟩)] 80)) 68 cs
    rw [← hW1]; simpa using this
  have hi := h.opened g1
  have HCl := Lib.hid (fun (w2 : World) (s2 : WSt) (P : WP w0 E g (fun k => F k ∧ k < w.heap.size) s2 W1 w2) => WP.closed (F := F) h g1 P)
  have HB := Lib.hid (fun (V : World) (s' : WSt) (P : WP w0 E g (fun k => F k ∧ k < w.heap.size) s' W1 V) => (show V.cell? ⟨w.heap.size, 0, none⟩ = some (.pointer (some ⟨g, 0, none⟩)) ∧ V.cell? ⟨w.heap.size + 1, 0, none⟩ = some (.int .i64 6) ∧ V.rangeAt (w.heap.size + 1) 168 cv.toList from
    by
      have kw : Blk V w.heap.size 80 #[.pointer (some ⟨g, 0, none⟩)] := bw.kept P.fine (fun h => absurd h.2 (by omega))
      have bx : Blk V (w.heap.size + 1) 68 cs := bx.kept P.fine (fun h => absurd h.2 (by omega))
      exact ⟨by simpa using kw.cell 0, by have r := range_blk0 bx; have := r 0 (.int .i64 6) (by rw [hcl]; rfl); simpa using this, by have r := range_blk0 bx; rw [hcl] at r; have := (range_tail (range_tail (range_tail (range_tail (range_tail (range_tail r)))))); simpa only [Array.length_toList, List.length_cons, List.length_nil, Nat.zero_add, Nat.reduceAdd, svv, stv, spv, swv, srv, scv] using this⟩))
  have HP0 := Lib.hid hi.same
  have HE := Lib.hid he
  have HS := Lib.hid hs
  have HW := Lib.hid hW1
  clear h hi bw bx g1 hW1 hs he hcs hcl hm hk svv hvv stv htv spv hpv swv hwv srv hrv scv hcv hst
  go_enter Tryd.func29, Tryd.ntmps29
  go_upto_region 1 with (fail)
  rw [HW.out]
  obtain ⟨k0, k1, k2⟩ := HB.out _ _ HP0.out
  clear k2
  go_wp2_with fail
  refine (number_st HE.out HP0.out.wi (Nat.le_trans HS.out (by omega)) 6 1).mono ?_
  rintro e V1 ⟨rfl, q0⟩
  have HP1 := Lib.hid (HP0.out.trans q0)
  clear q0 k0 k1
  have HS1 := Lib.hid (show (sNum 6 1 s).2.length ≤ 600000 from by have h1 := adds_num 6 1 s; have h2 := HS.out; have h3 : sNum 6 1 s = sNum 6 ((1 : Nat) : Int) s := rfl; rw [h3]; omega)
  obtain ⟨k0, k1, k2⟩ := HB.out _ _ HP1.out
  have HR := Lib.hid k2
  clear k2
  go_wp2_with (refine wpList_load_mid rfl 66 _ rfl (w.heap.size + 1) 168 rfl (cv.toList) _ HR.out Tryd.underlying66 rfl (by rw [Array.length_toList, H3.out.1]; exact sz_Cg) ?_; rw [Array.toArray_toList])
  refine (change_st HE.out _ _ _ HP1.out.wi (Nat.le_trans HS1.out (by omega)) m.c HQ.out.2.2.2.2.2 cv H3.out.2).mono ?_
  rintro e V2 ⟨rfl, q1⟩
  have HP2 := Lib.hid (HP1.out.trans q1)
  clear q1 k0 k1
  go_wp2_with fail
  go_end0
  exact ⟨rfl, HCl.out _ _ HP2.out⟩

end
end Go.Proofs.YthjcgdcmbedhnaaDoor
