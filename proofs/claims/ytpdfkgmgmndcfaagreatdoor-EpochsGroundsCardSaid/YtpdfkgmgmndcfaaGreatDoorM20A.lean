/-
  Several texts in one: CdB, CdI0.
-/
import Derived.Deep.DeepCutAuto
import Derived.Test.YtpdfkgmgmndcfaaGreatDoorM20y
import Derived.Test.YtpdfkgmgmndcfaaGreatDoorM20z
import Derived.Test.YtpdfkgmgmndcfaaGreatDoorM20u
import Derived.Test.YtpdfkgmgmndcfaaGreatDoorM20r
/-
  A certificate, a block that is written.
-/
namespace Go.Proofs.YtpdfkgmgmndcfaaGreatDoor
open Go.RowKit

theorem sz_QC : (Tryz.prog.info? 41).map (·.size) = some 19 := by kernel_rfl
section
variable {w0 : World} {E : Nat → Addr} {g : Nat} (he : ErrAt w0 w0.heap.size 1 (E 0))
include he
set_option maxRecDepth 100000 in
set_option maxHeartbeats 1000000 in
theorem qc_st (w : World) (F : Nat → Prop) (s : WSt) (h : WI w0 E g F s w) (hs : s.2.length ≤ 800000) (q : Qc) (hq : q.At w0) (cs : Array Value) (hcs : cs = q.val) :
    Calls Tryz.prog 60 #[.agg #[.pointer (some ⟨g, 0, none⟩)], .agg cs] w fun e w' => e = .returned (.tuple #[]) ∧ WP w0 E g F (sQc q s) w w' := by
  obtain ⟨kd, hkd⟩ : ∃ kd, kd = arrV .u8 q.Bl := ⟨_, rfl⟩
  have hks : kd.size = 16 := by rw [hkd, arr_size, hq.1.1]
  have hcl : cs.toList = [.int .i64 q.e, .int .i64 q.r] ++ (kd.toList ++ [.slice q.A q.L.length q.c]) := by rw [hcs, hkd]; simp [Qc.val]
  have H3 := Lib.hid (And.intro hks hkd)
  have HQ := Lib.hid hq
  obtain ⟨W1, hW1⟩ : ∃ W1, ((w.alloc (.cells #[.pointer (some ⟨g, 0, none⟩)] 117)).alloc (.cells cs 41)) = W1 := ⟨_, rfl⟩
  have g1 : w.grownBy W1 none := by rw [← hW1]; exact grown_trans (World.grownBy_alloc _ _ none) (World.grownBy_alloc _ _ none)
  have bw : Blk W1 w.heap.size 117 #[.pointer (some ⟨g, 0, none⟩)] := by rw [← hW1]; exact (Blk.new w _ _).alloc _
  have bx : Blk W1 (w.heap.size + 1) 41 cs := by
    have := Blk.new (w.alloc (.cells #[.pointer (some ⟨g, 0, none⟩)] 117)) 41 cs
    rw [← hW1]; simpa using this
  have hi := h.opened g1
  have HCl := Lib.hid (fun (w2 : World) (s2 : WSt) (P : WP w0 E g (fun k => F k ∧ k < w.heap.size) s2 W1 w2) => WP.closed (F := F) h g1 P)
  have HB := Lib.hid (fun (V : World) (s' : WSt) (P : WP w0 E g (fun k => F k ∧ k < w.heap.size) s' W1 V) => (show V.cell? ⟨w.heap.size, 0, none⟩ = some (.pointer (some ⟨g, 0, none⟩)) ∧ V.cell? ⟨w.heap.size + 1, 0, none⟩ = some (.int .i64 q.e) ∧ V.cell? ⟨w.heap.size + 1, 1, none⟩ = some (.int .i64 q.r) ∧ V.rangeAt (w.heap.size + 1) 2 kd.toList ∧ V.cell? ⟨w.heap.size + 1, 18, none⟩ = some (.slice q.A q.L.length q.c) from
    by
      have kw : Blk V w.heap.size 117 #[.pointer (some ⟨g, 0, none⟩)] := bw.kept P.fine (fun h => absurd h.2 (by omega))
      have bx : Blk V (w.heap.size + 1) 41 cs := bx.kept P.fine (fun h => absurd h.2 (by omega))
      exact ⟨by simpa using kw.cell 0, by have r := range_blk0 bx; have := r 0 (.int .i64 q.e) (by rw [hcl]; rfl); simpa using this, by have r := range_blk0 bx; have := r 1 (.int .i64 q.r) (by rw [hcl]; rfl); simpa using this, by have r := range_blk0 bx; rw [hcl] at r; have := range_seg r; simpa using this, by have r := range_blk0 bx; have := r 18 (.slice q.A q.L.length q.c) (by rw [hcl, List.getElem?_append_right (by simp), List.getElem?_append_right (by simp [hks])]; simp [hks]); simpa using this⟩))
  have HP0 := Lib.hid hi.same
  have HE := Lib.hid he
  have HS := Lib.hid hs
  have HW := Lib.hid hW1
  clear h hi bw bx g1 hW1 hs he hcs hks hkd hcl hq
  go_enter Tryz.func60, Tryz.ntmps60
  go_upto_region 1 with (fail)
  rw [HW.out]
  obtain ⟨k0, k1, k2, k3, k4⟩ := HB.out _ _ HP0.out
  clear k3 k4
  go_wp2_with fail
  refine (turn_st HE.out _ _ _ HP0.out.wi (Nat.le_trans HS.out (by omega)) q.e q.r).mono ?_
  rintro e V1 ⟨rfl, q0⟩
  have HP1 := Lib.hid (HP0.out.trans q0)
  clear q0 k0 k1 k2
  have HS1 := Lib.hid (show (sTurn q.e q.r s).2.length ≤ 810000 from by have h1 := adds_turn q.e q.r s; have h2 := HS.out; omega)
  obtain ⟨k0, k1, k2, k3, k4⟩ := HB.out _ _ HP1.out
  clear k1 k2 k4
  have HR := Lib.hid k3
  clear k3
  go_wp2_with (refine wpList_load_mid rfl 24 _ rfl (w.heap.size + 1) 2 rfl (kd.toList) _ HR.out Tryz.underlying24 rfl (by rw [Array.length_toList, H3.out.1]; exact sz_Dg) ?_; rw [Array.toArray_toList])
  refine (digest_st HP1.out.wi (Nat.le_trans HS1.out (by omega)) q.Bl HQ.out.1 kd H3.out.2).mono ?_
  rintro e V2 ⟨rfl, q1⟩
  have HP2 := Lib.hid (HP1.out.trans q1)
  clear q1 k0
  have HS2 := Lib.hid (show (sDig q.Bl (sTurn q.e q.r s)).2.length ≤ 820000 from by have h1 := adds_dig HQ.out.1.1 (sTurn q.e q.r s); have h2 := HS1.out; omega)
  obtain ⟨k0, k1, k2, k3, k4⟩ := HB.out _ _ HP2.out
  clear k1 k2 k3
  go_wp2_with fail
  refine (put_Sg HE.out _ _ _ HP2.out.wi (Nat.le_trans HS2.out (by omega)) q.A q.L.length q.c q.L rfl HQ.out.2.1 HQ.out.2.2 (fun x hx => (adds_sg (HQ.out.2.2.dig x hx)).mono (by omega)) 7).mono ?_
  rintro e V3 ⟨rfl, q2⟩
  have HP3 := Lib.hid (HP2.out.trans q2)
  clear q2 k0 k4
  go_wp2_with fail
  go_end0
  exact ⟨rfl, HCl.out _ _ HP3.out⟩

set_option maxRecDepth 100000 in
set_option maxHeartbeats 1000000 in
theorem block_st (w : World) (F : Nat → Prop) (s : WSt) (h : WI w0 E g F s w) (hs : s.2.length ≤ 700000) (b : Bk) (hb : b.At w0) (cs : Array Value) (hcs : cs = b.val) :
    Calls Tryz.prog 46 #[.agg #[.pointer (some ⟨g, 0, none⟩)], .agg cs] w fun e w' => e = .returned (.tuple #[]) ∧ WP w0 E g F (sBk b s) w w' := by
  obtain ⟨kd, hkd⟩ : ∃ kd, kd = arrV .u8 b.P := ⟨_, rfl⟩
  obtain ⟨qv, hqv⟩ : ∃ qv, qv = b.q.val := ⟨_, rfl⟩
  have hks : kd.size = 16 := by rw [hkd, arr_size, hb.1.1]
  have hqs : qv.size = 19 := by rw [hqv, Qc.val]; simp [arr_size, hb.2.1.1.1]
  have hcl : cs.toList = [.int .i64 b.e, .int .i64 b.r] ++ (kd.toList ++ (qv.toList ++ [.slice b.A b.T.length b.c, .slice b.A2 b.V.length b.c2])) := by rw [hcs, hkd, hqv]; simp [Bk.val]
  have hcl2 : cs.toList = ([.int .i64 b.e, .int .i64 b.r] ++ kd.toList) ++ (qv.toList ++ [.slice b.A b.T.length b.c, .slice b.A2 b.V.length b.c2]) := by rw [hcl]; simp
  have hl18 : ([Value.int .i64 b.e, Value.int .i64 b.r] ++ kd.toList).length = 18 := by simp [hks]
  have H3 := Lib.hid (And.intro hks (And.intro hkd (And.intro hqs hqv)))
  have HQ := Lib.hid hb
  obtain ⟨W1, hW1⟩ : ∃ W1, ((w.alloc (.cells #[.pointer (some ⟨g, 0, none⟩)] 117)).alloc (.cells cs 44)) = W1 := ⟨_, rfl⟩
  have g1 : w.grownBy W1 none := by rw [← hW1]; exact grown_trans (World.grownBy_alloc _ _ none) (World.grownBy_alloc _ _ none)
  have bw : Blk W1 w.heap.size 117 #[.pointer (some ⟨g, 0, none⟩)] := by rw [← hW1]; exact (Blk.new w _ _).alloc _
  have bx : Blk W1 (w.heap.size + 1) 44 cs := by
    have := Blk.new (w.alloc (.cells #[.pointer (some ⟨g, 0, none⟩)] 117)) 44 cs
    rw [← hW1]; simpa using this
  have hi := h.opened g1
  have HCl := Lib.hid (fun (w2 : World) (s2 : WSt) (P : WP w0 E g (fun k => F k ∧ k < w.heap.size) s2 W1 w2) => WP.closed (F := F) h g1 P)
  have HB := Lib.hid (fun (V : World) (s' : WSt) (P : WP w0 E g (fun k => F k ∧ k < w.heap.size) s' W1 V) => (show V.cell? ⟨w.heap.size, 0, none⟩ = some (.pointer (some ⟨g, 0, none⟩)) ∧ V.cell? ⟨w.heap.size + 1, 0, none⟩ = some (.int .i64 b.e) ∧ V.cell? ⟨w.heap.size + 1, 1, none⟩ = some (.int .i64 b.r) ∧ V.rangeAt (w.heap.size + 1) 2 kd.toList ∧ V.rangeAt (w.heap.size + 1) 18 qv.toList ∧ V.cell? ⟨w.heap.size + 1, 37, none⟩ = some (.slice b.A b.T.length b.c) ∧ V.cell? ⟨w.heap.size + 1, 38, none⟩ = some (.slice b.A2 b.V.length b.c2) from
    by
      have kw : Blk V w.heap.size 117 #[.pointer (some ⟨g, 0, none⟩)] := bw.kept P.fine (fun h => absurd h.2 (by omega))
      have bx : Blk V (w.heap.size + 1) 44 cs := bx.kept P.fine (fun h => absurd h.2 (by omega))
      exact ⟨by simpa using kw.cell 0, by have r := range_blk0 bx; have := r 0 (.int .i64 b.e) (by rw [hcl]; rfl); simpa using this, by have r := range_blk0 bx; have := r 1 (.int .i64 b.r) (by rw [hcl]; rfl); simpa using this, by have r := range_blk0 bx; rw [hcl] at r; have := range_seg r; simpa using this, by have r := range_blk0 bx; rw [hcl2] at r; have := range_seg r; rw [hl18] at this; simpa using this, by have r := range_blk0 bx; have := r 37 (.slice b.A b.T.length b.c) (by rw [hcl2, List.getElem?_append_right (by rw [hl18]; omega), hl18, List.getElem?_append_right (by simp [hqs])]; simp [hqs]); simpa using this, by have r := range_blk0 bx; have := r 38 (.slice b.A2 b.V.length b.c2) (by rw [hcl2, List.getElem?_append_right (by rw [hl18]; omega), hl18, List.getElem?_append_right (by simp [hqs])]; simp [hqs]); simpa using this⟩))
  have HP0 := Lib.hid hi.same
  have HE := Lib.hid he
  have HS := Lib.hid hs
  have HW := Lib.hid hW1
  clear h hi bw bx g1 hW1 hs he hcs hks hkd hcl hcl2 hqs hqv hl18 hb
  go_enter Tryz.func46, Tryz.ntmps46
  go_upto_region 1 with (fail)
  rw [HW.out]
  obtain ⟨k0, k1, k2, k3, k4, k5, k6⟩ := HB.out _ _ HP0.out
  clear k3 k4 k5 k6
  go_wp2_with fail
  refine (turn_st HE.out _ _ _ HP0.out.wi (Nat.le_trans HS.out (by omega)) b.e b.r).mono ?_
  rintro e V1 ⟨rfl, q0⟩
  have HP1 := Lib.hid (HP0.out.trans q0)
  clear q0 k0 k1 k2
  have HS1 := Lib.hid (show (sTurn b.e b.r s).2.length ≤ 710000 from by have h1 := adds_turn b.e b.r s; have h2 := HS.out; omega)
  obtain ⟨k0, k1, k2, k3, k4, k5, k6⟩ := HB.out _ _ HP1.out
  clear k1 k2 k4 k5 k6
  have HR := Lib.hid k3
  clear k3
  go_wp2_with (refine wpList_load_mid rfl 24 _ rfl (w.heap.size + 1) 2 rfl (kd.toList) _ HR.out Tryz.underlying24 rfl (by rw [Array.length_toList, H3.out.1]; exact sz_Dg) ?_; rw [Array.toArray_toList])
  refine (digest_st HP1.out.wi (Nat.le_trans HS1.out (by omega)) b.P HQ.out.1 kd H3.out.2.1).mono ?_
  rintro e V2 ⟨rfl, q1⟩
  have HP2 := Lib.hid (HP1.out.trans q1)
  clear q1 k0
  have HS2 := Lib.hid (show (sDig b.P (sTurn b.e b.r s)).2.length ≤ 720000 from by have h1 := adds_dig HQ.out.1.1 (sTurn b.e b.r s); have h2 := HS1.out; omega)
  obtain ⟨k0, k1, k2, k3, k4, k5, k6⟩ := HB.out _ _ HP2.out
  clear k1 k2 k3 k5 k6
  have HR := Lib.hid k4
  clear k4
  go_wp2_with (refine wpList_load_mid rfl 41 _ rfl (w.heap.size + 1) 18 rfl (qv.toList) _ HR.out Tryz.underlying41 rfl (by rw [Array.length_toList, H3.out.2.2.1]; exact sz_QC) ?_; rw [Array.toArray_toList])
  refine (qc_st HE.out _ _ _ HP2.out.wi (Nat.le_trans HS2.out (by omega)) b.q HQ.out.2.1 qv H3.out.2.2.2).mono ?_
  rintro e V3 ⟨rfl, q2⟩
  have HP3 := Lib.hid (HP2.out.trans q2)
  clear q2 k0
  have HS3 := Lib.hid (show (sQc b.q (sDig b.P (sTurn b.e b.r s))).2.length ≤ 740000 from by have h1 := HQ.out.2.1.adds (sDig b.P (sTurn b.e b.r s)); have h2 := HS2.out; omega)
  obtain ⟨k0, k1, k2, k3, k4, k5, k6⟩ := HB.out _ _ HP3.out
  clear k1 k2 k3 k4 k6
  go_wp2_with fail
  refine (put_Tx HE.out _ _ _ HP3.out.wi (Nat.le_trans HS3.out (by omega)) b.A b.T.length b.c b.T rfl HQ.out.2.2.1.1 HQ.out.2.2.1.2 (fun x hx => (adds_tx x).mono (by omega)) 4).mono ?_
  rintro e V4 ⟨rfl, q3⟩
  have HP4 := Lib.hid (HP3.out.trans q3)
  clear q3 k0 k5
  have HS4 := Lib.hid (show (sPut b.T.length 4 (sAll sTx b.T) (sQc b.q (sDig b.P (sTurn b.e b.r s)))).2.length ≤ 750000 from by have h1 : (sPut b.T.length 4 (sAll sTx b.T) (sQc b.q (sDig b.P (sTurn b.e b.r s)))).2.length ≤ (sQc b.q (sDig b.P (sTurn b.e b.r s))).2.length + (1 + 4 * 18) := adds_put (m := 4) rfl (fun _ => adds_all b.T fun x _ => adds_tx x) _; have h2 := HS3.out; omega)
  obtain ⟨k0, k1, k2, k3, k4, k5, k6⟩ := HB.out _ _ HP4.out
  clear k1 k2 k3 k4 k5
  go_wp2_with fail
  refine (put_Vd HE.out _ _ _ HP4.out.wi (Nat.le_trans HS4.out (by omega)) b.A2 b.V.length b.c2 b.V rfl HQ.out.2.2.2.1 HQ.out.2.2.2.2 (fun x hx => (adds_vd (HQ.out.2.2.2.2 x hx).1).mono (by omega)) 7).mono ?_
  rintro e V5 ⟨rfl, q4⟩
  have HP5 := Lib.hid (HP4.out.trans q4)
  clear q4 k0 k6
  go_wp2_with fail
  go_end0
  exact ⟨rfl, HCl.out _ _ HP5.out⟩

end
end Go.Proofs.YtpdfkgmgmndcfaaGreatDoor
/-
  What codec.write leaves.
-/
namespace Go.Proofs.YtpdfkgmgmndcfaaGreatDoor
open Go.RowKit

/-- What a call leaves that answers bytes or an error. -/
def WOut (w w' : World) (E : Nat → Addr) (s : WSt) (e : Ending) : Prop :=
  w.grownBy w' none ∧ ((s.1 = 0 ∧ ∃ A c, e = .returned (.tuple #[.slice A s.2.length c, .nilIface]) ∧ w'.ownsRow w.heap.size 5 1 (.slice A s.2.length c) s.2.length (Lib.byteCells s.2)) ∨
    (s.1 ≠ 0 ∧ e = .returned (.tuple #[.slice none 0 0, evOf E s.1])))
theorem wr_build (w : World) (g : Nat) : Sem.run Tryz.prog (Instr.build 117 #[(0, .pointer (some ⟨g, 0, none⟩))]) w = .ok (.agg #[.pointer (some ⟨g, 0, none⟩)]) w := by
  refine run_build w 117 _ _ ?_
  kernel_rfl
theorem wr_zero (w : World) : Sem.run Tryz.prog (zeroValue 117) w = .ok (.agg #[.pointer none]) w := zero_run3 w (by kernel_rfl)
end Go.Proofs.YtpdfkgmgmndcfaaGreatDoor
