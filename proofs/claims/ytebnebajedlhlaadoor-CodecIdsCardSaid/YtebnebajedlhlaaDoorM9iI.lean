/-
  Several texts in one: CdMc, CdMm.
-/
import Derived.Test.YtebnebajedlhlaaDoorM9iH
/-
  A Change that is written.
-/

namespace Go.Proofs.YtebnebajedlhlaaDoor
open Go.RowKit

section
variable {w0 : World} {E : Nat → Addr} {g : Nat} (he : ErrAt w0 w0.heap.size 1 (E 0))
include he
set_option maxRecDepth 100000 in
set_option maxHeartbeats 1000000 in
theorem change_st (w : World) (F : Nat → Prop) (s : WSt) (h : WI w0 E g F s w) (hs : s.2.length ≤ 600000) (x : Cg) (hx : x.At w0) (cs : Array Value) (hcs : cs = x.val) :
    Calls Tryd.prog 39 #[.agg #[.pointer (some ⟨g, 0, none⟩)], .agg cs] w fun e w' => e = .returned (.tuple #[]) ∧ WP w0 E g F (sCg x s) w w' := by
  obtain ⟨ZZ, hZs, hzz⟩ := zBk_run
  have HZ := Lib.hid hZs
  clear hZs
  obtain ⟨bl, hbl⟩ : ∃ z, z = x.b1.val ++ (x.b2.val ++ x.b3.val) := ⟨_, rfl⟩
  obtain ⟨qv, hqv⟩ : ∃ z, z = x.q.val := ⟨_, rfl⟩
  have sbl : bl.size = 117 := by rw [hbl]; simp [Bk.size hx.1, Bk.size hx.2.1, Bk.size hx.2.2.1]
  have sqv : qv.size = 19 := by rw [hqv]; exact Qc.size hx.2.2.2
  have hcl : cs.toList = bl.toList ++ qv.toList := by rw [hcs, hbl, hqv]; simp [Cg.val]
  have hix : ∀ k : Nat, k < 3 → ∀ (I : Int) (V : World), I = (k : Int) → Sem.run Tryd.prog (Instr.index 60 (.agg bl) (.int .i64 I)) V = .ok (.agg (x.row.getD k x.b1).val) V := fun k hk I V hI =>
    index_st V Tryd.underlying60 Tryd.underlying30 sz_Bk bl _ I k hI hk (Cg.drop hx k hk bl hbl)
  have hrow : ∀ k : Nat, k < 3 → (x.row.getD k x.b1).At w0 := fun k hk => by
    have hk3 : k = 0 ∨ k = 1 ∨ k = 2 := by omega
    rcases hk3 with rfl | rfl | rfl
    · exact hx.1
    · exact hx.2.1
    · exact hx.2.2.1
  have htk : ∀ k : Nat, k < 3 → x.row.take (k + 1) = x.row.take k ++ [x.row.getD k x.b1] := fun k hk => by
    have hk3 : k = 0 ∨ k = 1 ∨ k = 2 := by omega
    rcases hk3 with rfl | rfl | rfl <;> rfl
  have hlen : ∀ k : Nat, k ≤ 3 → (sAll sBk (x.row.take k) s).2.length ≤ 700000 := fun k hk => by
    have h1 := adds_all (f := sBk) (c := 8486) (x.row.take k) (fun y hy => by
      have : y ∈ x.row := List.mem_of_mem_take hy
      simp only [Cg.row, List.mem_cons, List.not_mem_nil, or_false] at this
      rcases this with rfl | rfl | rfl
      · exact hx.1.adds
      · exact hx.2.1.adds
      · exact hx.2.2.1.adds) s
    have h3 : (x.row.take k).length * 8486 ≤ 3 * 8486 := Nat.mul_le_mul_right _ (by rw [List.length_take]; omega)
    omega
  obtain ⟨W1, hW1⟩ : ∃ W1, (w.alloc (.cells #[.pointer (some ⟨g, 0, none⟩)] 71)).alloc (.cells cs 62) = W1 := ⟨_, rfl⟩
  have g1 : w.grownBy W1 none := by rw [← hW1]; exact grown_trans (World.grownBy_alloc _ _ none) (World.grownBy_alloc _ _ none)
  have bw : Blk W1 w.heap.size 71 #[.pointer (some ⟨g, 0, none⟩)] := by rw [← hW1]; exact (Blk.new w _ _).alloc _
  have bx : Blk W1 (w.heap.size + 1) 62 cs := by
    have := Blk.new (w.alloc (.cells #[.pointer (some ⟨g, 0, none⟩)] 71)) 62 cs
    rw [← hW1]; simpa using this
  have hi := h.opened g1
  have HCl := Lib.hid (fun (w2 : World) (s2 : WSt) (P : WP w0 E g (fun k => F k ∧ k < w.heap.size) s2 W1 w2) => WP.closed (F := F) h g1 P)
  have HB := Lib.hid (fun (V : World) (s' : WSt) (P : WP w0 E g (fun k => F k ∧ k < w.heap.size) s' W1 V) => (show V.cell? ⟨w.heap.size, 0, none⟩ = some (.pointer (some ⟨g, 0, none⟩)) ∧ V.rangeAt (w.heap.size + 1) 0 bl.toList ∧ V.rangeAt (w.heap.size + 1) 117 qv.toList from by
      have kw : Blk V w.heap.size 71 #[.pointer (some ⟨g, 0, none⟩)] := bw.kept P.fine (fun h => absurd h.2 (by omega))
      have bx : Blk V (w.heap.size + 1) 62 cs := bx.kept P.fine (fun h => absurd h.2 (by omega))
      have r := range_blk0 bx
      rw [hcl] at r
      exact ⟨by simpa using kw.cell 0, range_head r, by have := range_tail r; simpa only [Array.length_toList, sbl, Nat.zero_add] using this⟩))
  have HP0 := Lib.hid hi.same
  have HE := Lib.hid he
  have HW := Lib.hid hW1
  have HX := Lib.hid (And.intro hix (And.intro hrow (And.intro htk (And.intro hlen (And.intro sbl (And.intro sqv (And.intro hqv hx)))))))
  clear h hi bw bx g1 hW1 he hs hix hrow htk hlen sbl sqv hqv hbl hcl hx hcs
  go_enter Tryd.func39, Tryd.ntmps39
  go_upto_region 1 with (fail)
  rw [HW.out]
  go_wp2_with (refine wpList_load_mid rfl 60 _ rfl (w.heap.size + 1) 0 rfl bl.toList _ (HB.out _ _ HP0.out).2.1 Tryd.underlying60 rfl (by rw [Array.length_toList, HX.out.2.2.2.2.1]; exact sz_arr3) ?_; rw [Array.toArray_toList])
  go_loopw [8] (fun i wr => ∃ k : Nat, k ≤ 3 ∧ i = .int .i64 (k : Int) ∧ WP w0 E g (fun k => F k ∧ k < w.heap.size) (sAll sBk (x.row.take k) s) W1 wr) (fun i _ => 3 - (intOf i).toNat)
  case atStart => exact ⟨0, Nat.zero_le _, rfl, by simpa [sAll] using HP0.out⟩
  case round =>
    obtain ⟨k, hk, hi, hP⟩ := hrel
    obtain ⟨I, hI⟩ : ∃ I : Int, I = (k : Int) := ⟨_, rfl⟩
    rw [← hI] at hi
    subst hi
    rename World => wr
    by_cases hlt : k < 3
    · have d2 : decide (I < (3 : Int)) = true := by simp; omega
      have hIV : I < (3 : Int) := by omega
      have hI0 : 0 ≤ I ∧ I < 1000 := by omega
      have c0 := (HB.out _ _ hP).1
      obtain ⟨bk, hbk⟩ : ∃ bk, bk = x.row.getD k x.b1 := ⟨_, rfl⟩
      obtain ⟨cv, hcv⟩ : ∃ cv, cv = bk.val := ⟨_, rfl⟩
      have hat : bk.At w0 := by rw [hbk]; exact HX.out.2.1 k hlt
      have hcz : cv.size = 39 := by rw [hcv]; exact Bk.size hat
      have hc1 : (cv.all fun v => v.oneCell') = true := by rw [hcv]; exact bk.one
      have hix : ∀ V : World, Sem.run Tryd.prog (Instr.index 60 (.agg bl) (.int .i64 I)) V = .ok (.agg cv) V := fun V => by rw [hcv, hbk]; exact HX.out.1 k hlt I V hI
      obtain ⟨W0, hW0⟩ : ∃ W0, W0 = (wr.alloc (.cells ZZ 30)).setRow wr.heap.size cv := ⟨_, rfl⟩
      have hG0 : wr.grownBy W0 none := by rw [hW0]; exact grown_row (World.grownBy_alloc wr _ none) (.inl (Nat.le_refl _)) cv
      have bS : Blk W0 wr.heap.size 30 cv := by rw [hW0]; exact (Blk.new wr 30 ZZ).row cv
      have e0 := hG0.cell c0 (by simp)
      have P0 := hP.wi.grown hG0
      have HS := Lib.hid (block_st HE.out W0 _ _ P0.wi (HX.out.2.2.2.1 k hk) bk hat cv hcv)
      have HP := Lib.hid (And.intro hP (And.intro P0 (And.intro (show sAll sBk (x.row.take (k + 1)) s = sBk bk (sAll sBk (x.row.take k) s) by rw [HX.out.2.2.1 k hlt, ← hbk, sAll_snoc]) hI)))
      have HY := Lib.hid (And.intro hcz (And.intro hc1 (range_blk0 bS)))
      have HW0 := Lib.hid hW0
      clear hP P0 hcz hc1 hW0 hG0 bS hcv hbk hat c0 hI
      go_wp2_with (first
        | (refine wpList_store_row rfl 30 _ _ rfl wr.heap.size cv rfl rfl 30 _ (heap_alloc_new wr _) (by rw [HY.out.1]; exact sz_Bk) (by rw [HY.out.1]; first | exact HZ.out | exact HZ.out.symm) HY.out.2.1 ?_
           rw [← HW0.out])
        | (refine wpList_load_mid rfl 30 _ rfl wr.heap.size 0 rfl cv.toList _ HY.out.2.2 Tryd.underlying30 rfl (by rw [Array.length_toList, HY.out.1]; exact sz_Bk) ?_; rw [Array.toArray_toList]))
      refine HS.out.mono ?_
      rintro e3 W3 ⟨rfl, h3⟩
      have H3 := Lib.hid h3
      clear h3
      go_wp2_with fail
      go_roundw
      case rel => exact ⟨k + 1, by omega, by rw [HP.out.2.2.2]; rfl, by rw [HP.out.2.2.1]; exact HP.out.1.trans (HP.out.2.1.trans H3.out)⟩
      case measure => have := HP.out.2.2.2; simp [intOf]; omega
    · have d2 : decide (I < (3 : Int)) = false := by simp; omega
      obtain rfl : k = 3 := by omega
      obtain ⟨c0, _, r2⟩ := HB.out _ _ hP
      have HR := Lib.hid r2
      have HQ := Lib.hid (qc_st HE.out _ _ _ hP.wi (Nat.le_trans (HX.out.2.2.2.1 3 hk) (by omega)) x.q HX.out.2.2.2.2.2.2.2.2.2.2 qv HX.out.2.2.2.2.2.2.1)
      have HP := Lib.hid hP
      clear hP hlt hI hk r2
      go_wp2_with (refine wpList_load_mid rfl 26 _ rfl (w.heap.size + 1) 117 rfl qv.toList _ HR.out Tryd.underlying26 rfl (by rw [Array.length_toList, HX.out.2.2.2.2.2.1]; exact sz_QC) ?_; rw [Array.toArray_toList])
      refine HQ.out.mono ?_
      rintro e3 W3 ⟨rfl, h3⟩
      have H3 := Lib.hid h3
      clear h3
      go_wp2_with fail
      go_end0
      exact ⟨rfl, HCl.out _ _ (HP.out.trans H3.out)⟩
end
end Go.Proofs.YtebnebajedlhlaaDoor
/-
  A message that is written.
-/

namespace Go.Proofs.YtebnebajedlhlaaDoor
open Go.RowKit

section
variable {w0 : World} {E : Nat → Addr} {g : Nat} (he : ErrAt w0 w0.heap.size 1 (E 0))
include he
set_option maxRecDepth 100000 in
set_option maxHeartbeats 1000000 in
theorem msg1_st (w : World) (F : Nat → Prop) (s : WSt) (h : WI w0 E g F s w) (hs : s.2.length ≤ 500000) (m : Msg) (hm : m.At w0) (hk : m.kind = 1) (cs : Array Value) (hcs : cs = m.val) :
    Calls Tryd.prog 18 #[.agg #[.pointer (some ⟨g, 0, none⟩)], .agg cs] w fun e w' => e = .returned (.tuple #[]) ∧ WP w0 E g F (sMsg m s) w w' := by
  obtain ⟨vv, hvv⟩ : ∃ z, z = m.v.val := ⟨_, rfl⟩
  have svv : vv.size = 22 := by rw [hvv]; exact Vt.size hm.1
  obtain ⟨tv, htv⟩ : ∃ z, z = m.t.val := ⟨_, rfl⟩
  have stv : tv.size = 28 := by rw [htv]; exact To.size hm.2.1
  obtain ⟨pv, hpv⟩ : ∃ z, z = m.p.val := ⟨_, rfl⟩
  have spv : pv.size = 46 := by rw [hpv]; exact Pp.size hm.2.2.1
  obtain ⟨wv, hwv⟩ : ∃ z, z = m.w.val := ⟨_, rfl⟩
  have swv : wv.size = 32 := by rw [hwv]; exact Wt.size hm.2.2.2.1
  obtain ⟨rv, hrv⟩ : ∃ z, z = m.rb.val := ⟨_, rfl⟩
  have srv : rv.size = 39 := by rw [hrv]; exact Bk.size hm.2.2.2.2.1
  obtain ⟨cv, hcv⟩ : ∃ z, z = m.c.val := ⟨_, rfl⟩
  have scv : cv.size = 136 := by rw [hcv]; exact Cg.size hm.2.2.2.2.2
  have hcl : cs.toList = [.int .i64 m.kind] ++ (vv.toList ++ (tv.toList ++ (pv.toList ++ (wv.toList ++ (rv.toList ++ (cv.toList)))))) := by rw [hcs, hvv, htv, hpv, hwv, hrv, hcv]; simp [Msg.val]
  rw [hk] at hcl
  have HQ := Lib.hid hm
  have hst : sMsg m s = sVt m.v (sNum 1 1 s) := by rw [sMsg, sKind, hk]; simp
  rw [hst]
  have H3 := Lib.hid (And.intro svv hvv)
  obtain ⟨W1, hW1⟩ : ∃ W1, ((w.alloc (.cells #[.pointer (some ⟨g, 0, none⟩)] 71)).alloc (.cells cs 64)) = W1 := ⟨_, rfl⟩
  have g1 : w.grownBy W1 none := by rw [← hW1]; exact grown_trans (World.grownBy_alloc _ _ none) (World.grownBy_alloc _ _ none)
  have bw : Blk W1 w.heap.size 71 #[.pointer (some ⟨g, 0, none⟩)] := by rw [← hW1]; exact (Blk.new w _ _).alloc _
  have bx : Blk W1 (w.heap.size + 1) 64 cs := by
    have := Blk.new (w.alloc (.cells #[.pointer (some ⟨g, 0, none⟩)] 71)) 64 cs
    rw [← hW1]; simpa using this
  have hi := h.opened g1
  have HCl := Lib.hid (fun (w2 : World) (s2 : WSt) (P : WP w0 E g (fun k => F k ∧ k < w.heap.size) s2 W1 w2) => WP.closed (F := F) h g1 P)
  have HB := Lib.hid (fun (V : World) (s' : WSt) (P : WP w0 E g (fun k => F k ∧ k < w.heap.size) s' W1 V) => (show V.cell? ⟨w.heap.size, 0, none⟩ = some (.pointer (some ⟨g, 0, none⟩)) ∧ V.cell? ⟨w.heap.size + 1, 0, none⟩ = some (.int .i64 1) ∧ V.rangeAt (w.heap.size + 1) 1 vv.toList from
    by
      have kw : Blk V w.heap.size 71 #[.pointer (some ⟨g, 0, none⟩)] := bw.kept P.fine (fun h => absurd h.2 (by omega))
      have bx : Blk V (w.heap.size + 1) 64 cs := bx.kept P.fine (fun h => absurd h.2 (by omega))
      exact ⟨by simpa using kw.cell 0, by have r := range_blk0 bx; have := r 0 (.int .i64 1) (by rw [hcl]; rfl); simpa using this, by have r := range_blk0 bx; rw [hcl] at r; have := (range_head (range_tail r)); simpa only [Array.length_toList, List.length_cons, List.length_nil, Nat.zero_add, Nat.reduceAdd, svv, stv, spv, swv, srv, scv] using this⟩))
  have HP0 := Lib.hid hi.same
  have HE := Lib.hid he
  have HS := Lib.hid hs
  have HW := Lib.hid hW1
  clear h hi bw bx g1 hW1 hs he hcs hcl hm hk svv hvv stv htv spv hpv swv hwv srv hrv scv hcv hst
  go_enter Tryd.func18, Tryd.ntmps18
  go_upto_region 1 with (fail)
  rw [HW.out]
  obtain ⟨k0, k1, k2⟩ := HB.out _ _ HP0.out
  clear k2
  go_wp2_with fail
  refine (number_st HE.out HP0.out.wi (Nat.le_trans HS.out (by omega)) 1 1).mono ?_
  rintro e V1 ⟨rfl, q0⟩
  have HP1 := Lib.hid (HP0.out.trans q0)
  clear q0 k0 k1
  have HS1 := Lib.hid (show (sNum 1 1 s).2.length ≤ 600000 from by have h1 := adds_num 1 1 s; have h2 := HS.out; have h3 : sNum 1 1 s = sNum 1 ((1 : Nat) : Int) s := rfl; rw [h3]; omega)
  obtain ⟨k0, k1, k2⟩ := HB.out _ _ HP1.out
  have HR := Lib.hid k2
  clear k2
  go_wp2_with (refine wpList_load_mid rfl 50 _ rfl (w.heap.size + 1) 1 rfl (vv.toList) _ HR.out Tryd.underlying50 rfl (by rw [Array.length_toList, H3.out.1]; exact sz_Vt) ?_; rw [Array.toArray_toList])
  refine (vote_st HE.out _ _ _ HP1.out.wi (Nat.le_trans HS1.out (by omega)) m.v HQ.out.1 vv H3.out.2).mono ?_
  rintro e V2 ⟨rfl, q1⟩
  have HP2 := Lib.hid (HP1.out.trans q1)
  clear q1 k0 k1
  go_wp2_with fail
  go_end0
  exact ⟨rfl, HCl.out _ _ HP2.out⟩

set_option maxRecDepth 100000 in
set_option maxHeartbeats 1000000 in
theorem msg2_st (w : World) (F : Nat → Prop) (s : WSt) (h : WI w0 E g F s w) (hs : s.2.length ≤ 500000) (m : Msg) (hm : m.At w0) (hk : m.kind = 2) (cs : Array Value) (hcs : cs = m.val) :
    Calls Tryd.prog 18 #[.agg #[.pointer (some ⟨g, 0, none⟩)], .agg cs] w fun e w' => e = .returned (.tuple #[]) ∧ WP w0 E g F (sMsg m s) w w' := by
  obtain ⟨vv, hvv⟩ : ∃ z, z = m.v.val := ⟨_, rfl⟩
  have svv : vv.size = 22 := by rw [hvv]; exact Vt.size hm.1
  obtain ⟨tv, htv⟩ : ∃ z, z = m.t.val := ⟨_, rfl⟩
  have stv : tv.size = 28 := by rw [htv]; exact To.size hm.2.1
  obtain ⟨pv, hpv⟩ : ∃ z, z = m.p.val := ⟨_, rfl⟩
  have spv : pv.size = 46 := by rw [hpv]; exact Pp.size hm.2.2.1
  obtain ⟨wv, hwv⟩ : ∃ z, z = m.w.val := ⟨_, rfl⟩
  have swv : wv.size = 32 := by rw [hwv]; exact Wt.size hm.2.2.2.1
  obtain ⟨rv, hrv⟩ : ∃ z, z = m.rb.val := ⟨_, rfl⟩
  have srv : rv.size = 39 := by rw [hrv]; exact Bk.size hm.2.2.2.2.1
  obtain ⟨cv, hcv⟩ : ∃ z, z = m.c.val := ⟨_, rfl⟩
  have scv : cv.size = 136 := by rw [hcv]; exact Cg.size hm.2.2.2.2.2
  have hcl : cs.toList = [.int .i64 m.kind] ++ (vv.toList ++ (tv.toList ++ (pv.toList ++ (wv.toList ++ (rv.toList ++ (cv.toList)))))) := by rw [hcs, hvv, htv, hpv, hwv, hrv, hcv]; simp [Msg.val]
  rw [hk] at hcl
  have HQ := Lib.hid hm
  have hst : sMsg m s = sTo m.t (sNum 2 1 s) := by rw [sMsg, sKind, hk]; simp
  rw [hst]
  have H3 := Lib.hid (And.intro stv htv)
  obtain ⟨W1, hW1⟩ : ∃ W1, ((w.alloc (.cells #[.pointer (some ⟨g, 0, none⟩)] 71)).alloc (.cells cs 64)) = W1 := ⟨_, rfl⟩
  have g1 : w.grownBy W1 none := by rw [← hW1]; exact grown_trans (World.grownBy_alloc _ _ none) (World.grownBy_alloc _ _ none)
  have bw : Blk W1 w.heap.size 71 #[.pointer (some ⟨g, 0, none⟩)] := by rw [← hW1]; exact (Blk.new w _ _).alloc _
  have bx : Blk W1 (w.heap.size + 1) 64 cs := by
    have := Blk.new (w.alloc (.cells #[.pointer (some ⟨g, 0, none⟩)] 71)) 64 cs
    rw [← hW1]; simpa using this
  have hi := h.opened g1
  have HCl := Lib.hid (fun (w2 : World) (s2 : WSt) (P : WP w0 E g (fun k => F k ∧ k < w.heap.size) s2 W1 w2) => WP.closed (F := F) h g1 P)
  have HB := Lib.hid (fun (V : World) (s' : WSt) (P : WP w0 E g (fun k => F k ∧ k < w.heap.size) s' W1 V) => (show V.cell? ⟨w.heap.size, 0, none⟩ = some (.pointer (some ⟨g, 0, none⟩)) ∧ V.cell? ⟨w.heap.size + 1, 0, none⟩ = some (.int .i64 2) ∧ V.rangeAt (w.heap.size + 1) 23 tv.toList from
    by
      have kw : Blk V w.heap.size 71 #[.pointer (some ⟨g, 0, none⟩)] := bw.kept P.fine (fun h => absurd h.2 (by omega))
      have bx : Blk V (w.heap.size + 1) 64 cs := bx.kept P.fine (fun h => absurd h.2 (by omega))
      exact ⟨by simpa using kw.cell 0, by have r := range_blk0 bx; have := r 0 (.int .i64 2) (by rw [hcl]; rfl); simpa using this, by have r := range_blk0 bx; rw [hcl] at r; have := (range_head (range_tail (range_tail r))); simpa only [Array.length_toList, List.length_cons, List.length_nil, Nat.zero_add, Nat.reduceAdd, svv, stv, spv, swv, srv, scv] using this⟩))
  have HP0 := Lib.hid hi.same
  have HE := Lib.hid he
  have HS := Lib.hid hs
  have HW := Lib.hid hW1
  clear h hi bw bx g1 hW1 hs he hcs hcl hm hk svv hvv stv htv spv hpv swv hwv srv hrv scv hcv hst
  go_enter Tryd.func18, Tryd.ntmps18
  go_upto_region 1 with (fail)
  rw [HW.out]
  obtain ⟨k0, k1, k2⟩ := HB.out _ _ HP0.out
  clear k2
  go_wp2_with fail
  refine (number_st HE.out HP0.out.wi (Nat.le_trans HS.out (by omega)) 2 1).mono ?_
  rintro e V1 ⟨rfl, q0⟩
  have HP1 := Lib.hid (HP0.out.trans q0)
  clear q0 k0 k1
  have HS1 := Lib.hid (show (sNum 2 1 s).2.length ≤ 600000 from by have h1 := adds_num 2 1 s; have h2 := HS.out; have h3 : sNum 2 1 s = sNum 2 ((1 : Nat) : Int) s := rfl; rw [h3]; omega)
  obtain ⟨k0, k1, k2⟩ := HB.out _ _ HP1.out
  have HR := Lib.hid k2
  clear k2
  go_wp2_with (refine wpList_load_mid rfl 55 _ rfl (w.heap.size + 1) 23 rfl (tv.toList) _ HR.out Tryd.underlying55 rfl (by rw [Array.length_toList, H3.out.1]; exact sz_To) ?_; rw [Array.toArray_toList])
  refine (timeout_st HE.out _ _ _ HP1.out.wi (Nat.le_trans HS1.out (by omega)) m.t HQ.out.2.1 tv H3.out.2).mono ?_
  rintro e V2 ⟨rfl, q1⟩
  have HP2 := Lib.hid (HP1.out.trans q1)
  clear q1 k0 k1
  go_wp2_with fail
  go_end0
  exact ⟨rfl, HCl.out _ _ HP2.out⟩

set_option maxRecDepth 100000 in
set_option maxHeartbeats 1000000 in
theorem msg3_st (w : World) (F : Nat → Prop) (s : WSt) (h : WI w0 E g F s w) (hs : s.2.length ≤ 500000) (m : Msg) (hm : m.At w0) (hk : m.kind = 3) (cs : Array Value) (hcs : cs = m.val) :
    Calls Tryd.prog 18 #[.agg #[.pointer (some ⟨g, 0, none⟩)], .agg cs] w fun e w' => e = .returned (.tuple #[]) ∧ WP w0 E g F (sMsg m s) w w' := by
  obtain ⟨vv, hvv⟩ : ∃ z, z = m.v.val := ⟨_, rfl⟩
  have svv : vv.size = 22 := by rw [hvv]; exact Vt.size hm.1
  obtain ⟨tv, htv⟩ : ∃ z, z = m.t.val := ⟨_, rfl⟩
  have stv : tv.size = 28 := by rw [htv]; exact To.size hm.2.1
  obtain ⟨pv, hpv⟩ : ∃ z, z = m.p.val := ⟨_, rfl⟩
  have spv : pv.size = 46 := by rw [hpv]; exact Pp.size hm.2.2.1
  obtain ⟨wv, hwv⟩ : ∃ z, z = m.w.val := ⟨_, rfl⟩
  have swv : wv.size = 32 := by rw [hwv]; exact Wt.size hm.2.2.2.1
  obtain ⟨rv, hrv⟩ : ∃ z, z = m.rb.val := ⟨_, rfl⟩
  have srv : rv.size = 39 := by rw [hrv]; exact Bk.size hm.2.2.2.2.1
  obtain ⟨cv, hcv⟩ : ∃ z, z = m.c.val := ⟨_, rfl⟩
  have scv : cv.size = 136 := by rw [hcv]; exact Cg.size hm.2.2.2.2.2
  have hcl : cs.toList = [.int .i64 m.kind] ++ (vv.toList ++ (tv.toList ++ (pv.toList ++ (wv.toList ++ (rv.toList ++ (cv.toList)))))) := by rw [hcs, hvv, htv, hpv, hwv, hrv, hcv]; simp [Msg.val]
  rw [hk] at hcl
  have HQ := Lib.hid hm
  have hst : sMsg m s = sPp m.p (sNum 3 1 s) := by rw [sMsg, sKind, hk]; simp
  rw [hst]
  have H3 := Lib.hid (And.intro spv hpv)
  obtain ⟨W1, hW1⟩ : ∃ W1, ((w.alloc (.cells #[.pointer (some ⟨g, 0, none⟩)] 71)).alloc (.cells cs 64)) = W1 := ⟨_, rfl⟩
  have g1 : w.grownBy W1 none := by rw [← hW1]; exact grown_trans (World.grownBy_alloc _ _ none) (World.grownBy_alloc _ _ none)
  have bw : Blk W1 w.heap.size 71 #[.pointer (some ⟨g, 0, none⟩)] := by rw [← hW1]; exact (Blk.new w _ _).alloc _
  have bx : Blk W1 (w.heap.size + 1) 64 cs := by
    have := Blk.new (w.alloc (.cells #[.pointer (some ⟨g, 0, none⟩)] 71)) 64 cs
    rw [← hW1]; simpa using this
  have hi := h.opened g1
  have HCl := Lib.hid (fun (w2 : World) (s2 : WSt) (P : WP w0 E g (fun k => F k ∧ k < w.heap.size) s2 W1 w2) => WP.closed (F := F) h g1 P)
  have HB := Lib.hid (fun (V : World) (s' : WSt) (P : WP w0 E g (fun k => F k ∧ k < w.heap.size) s' W1 V) => (show V.cell? ⟨w.heap.size, 0, none⟩ = some (.pointer (some ⟨g, 0, none⟩)) ∧ V.cell? ⟨w.heap.size + 1, 0, none⟩ = some (.int .i64 3) ∧ V.rangeAt (w.heap.size + 1) 51 pv.toList from
    by
      have kw : Blk V w.heap.size 71 #[.pointer (some ⟨g, 0, none⟩)] := bw.kept P.fine (fun h => absurd h.2 (by omega))
      have bx : Blk V (w.heap.size + 1) 64 cs := bx.kept P.fine (fun h => absurd h.2 (by omega))
      exact ⟨by simpa using kw.cell 0, by have r := range_blk0 bx; have := r 0 (.int .i64 3) (by rw [hcl]; rfl); simpa using this, by have r := range_blk0 bx; rw [hcl] at r; have := (range_head (range_tail (range_tail (range_tail r)))); simpa only [Array.length_toList, List.length_cons, List.length_nil, Nat.zero_add, Nat.reduceAdd, svv, stv, spv, swv, srv, scv] using this⟩))
  have HP0 := Lib.hid hi.same
  have HE := Lib.hid he
  have HS := Lib.hid hs
  have HW := Lib.hid hW1
  clear h hi bw bx g1 hW1 hs he hcs hcl hm hk svv hvv stv htv spv hpv swv hwv srv hrv scv hcv hst
  go_enter Tryd.func18, Tryd.ntmps18
  go_upto_region 1 with (fail)
  rw [HW.out]
  obtain ⟨k0, k1, k2⟩ := HB.out _ _ HP0.out
  clear k2
  go_wp2_with fail
  refine (number_st HE.out HP0.out.wi (Nat.le_trans HS.out (by omega)) 3 1).mono ?_
  rintro e V1 ⟨rfl, q0⟩
  have HP1 := Lib.hid (HP0.out.trans q0)
  clear q0 k0 k1
  have HS1 := Lib.hid (show (sNum 3 1 s).2.length ≤ 600000 from by have h1 := adds_num 3 1 s; have h2 := HS.out; have h3 : sNum 3 1 s = sNum 3 ((1 : Nat) : Int) s := rfl; rw [h3]; omega)
  obtain ⟨k0, k1, k2⟩ := HB.out _ _ HP1.out
  have HR := Lib.hid k2
  clear k2
  go_wp2_with (refine wpList_load_mid rfl 57 _ rfl (w.heap.size + 1) 51 rfl (pv.toList) _ HR.out Tryd.underlying57 rfl (by rw [Array.length_toList, H3.out.1]; exact sz_Pp) ?_; rw [Array.toArray_toList])
  refine (proposal_st HE.out _ _ _ HP1.out.wi (Nat.le_trans HS1.out (by omega)) m.p HQ.out.2.2.1 pv H3.out.2).mono ?_
  rintro e V2 ⟨rfl, q1⟩
  have HP2 := Lib.hid (HP1.out.trans q1)
  clear q1 k0 k1
  go_wp2_with fail
  go_end0
  exact ⟨rfl, HCl.out _ _ HP2.out⟩

set_option maxRecDepth 100000 in
set_option maxHeartbeats 1000000 in
theorem msg4_st (w : World) (F : Nat → Prop) (s : WSt) (h : WI w0 E g F s w) (hs : s.2.length ≤ 500000) (m : Msg) (hm : m.At w0) (hk : m.kind = 4) (cs : Array Value) (hcs : cs = m.val) :
    Calls Tryd.prog 18 #[.agg #[.pointer (some ⟨g, 0, none⟩)], .agg cs] w fun e w' => e = .returned (.tuple #[]) ∧ WP w0 E g F (sMsg m s) w w' := by
  obtain ⟨vv, hvv⟩ : ∃ z, z = m.v.val := ⟨_, rfl⟩
  have svv : vv.size = 22 := by rw [hvv]; exact Vt.size hm.1
  obtain ⟨tv, htv⟩ : ∃ z, z = m.t.val := ⟨_, rfl⟩
  have stv : tv.size = 28 := by rw [htv]; exact To.size hm.2.1
  obtain ⟨pv, hpv⟩ : ∃ z, z = m.p.val := ⟨_, rfl⟩
  have spv : pv.size = 46 := by rw [hpv]; exact Pp.size hm.2.2.1
  obtain ⟨wv, hwv⟩ : ∃ z, z = m.w.val := ⟨_, rfl⟩
  have swv : wv.size = 32 := by rw [hwv]; exact Wt.size hm.2.2.2.1
  obtain ⟨rv, hrv⟩ : ∃ z, z = m.rb.val := ⟨_, rfl⟩
  have srv : rv.size = 39 := by rw [hrv]; exact Bk.size hm.2.2.2.2.1
  obtain ⟨cv, hcv⟩ : ∃ z, z = m.c.val := ⟨_, rfl⟩
  have scv : cv.size = 136 := by rw [hcv]; exact Cg.size hm.2.2.2.2.2
  have hcl : cs.toList = [.int .i64 m.kind] ++ (vv.toList ++ (tv.toList ++ (pv.toList ++ (wv.toList ++ (rv.toList ++ (cv.toList)))))) := by rw [hcs, hvv, htv, hpv, hwv, hrv, hcv]; simp [Msg.val]
  rw [hk] at hcl
  have HQ := Lib.hid hm
  have hst : sMsg m s = sWt m.w (sNum 4 1 s) := by rw [sMsg, sKind, hk]; simp
  rw [hst]
  have H3 := Lib.hid (And.intro swv hwv)
  obtain ⟨W1, hW1⟩ : ∃ W1, ((w.alloc (.cells #[.pointer (some ⟨g, 0, none⟩)] 71)).alloc (.cells cs 64)) = W1 := ⟨_, rfl⟩
  have g1 : w.grownBy W1 none := by rw [← hW1]; exact grown_trans (World.grownBy_alloc _ _ none) (World.grownBy_alloc _ _ none)
  have bw : Blk W1 w.heap.size 71 #[.pointer (some ⟨g, 0, none⟩)] := by rw [← hW1]; exact (Blk.new w _ _).alloc _
  have bx : Blk W1 (w.heap.size + 1) 64 cs := by
    have := Blk.new (w.alloc (.cells #[.pointer (some ⟨g, 0, none⟩)] 71)) 64 cs
    rw [← hW1]; simpa using this
  have hi := h.opened g1
  have HCl := Lib.hid (fun (w2 : World) (s2 : WSt) (P : WP w0 E g (fun k => F k ∧ k < w.heap.size) s2 W1 w2) => WP.closed (F := F) h g1 P)
  have HB := Lib.hid (fun (V : World) (s' : WSt) (P : WP w0 E g (fun k => F k ∧ k < w.heap.size) s' W1 V) => (show V.cell? ⟨w.heap.size, 0, none⟩ = some (.pointer (some ⟨g, 0, none⟩)) ∧ V.cell? ⟨w.heap.size + 1, 0, none⟩ = some (.int .i64 4) ∧ V.rangeAt (w.heap.size + 1) 97 wv.toList from
    by
      have kw : Blk V w.heap.size 71 #[.pointer (some ⟨g, 0, none⟩)] := bw.kept P.fine (fun h => absurd h.2 (by omega))
      have bx : Blk V (w.heap.size + 1) 64 cs := bx.kept P.fine (fun h => absurd h.2 (by omega))
      exact ⟨by simpa using kw.cell 0, by have r := range_blk0 bx; have := r 0 (.int .i64 4) (by rw [hcl]; rfl); simpa using this, by have r := range_blk0 bx; rw [hcl] at r; have := (range_head (range_tail (range_tail (range_tail (range_tail r))))); simpa only [Array.length_toList, List.length_cons, List.length_nil, Nat.zero_add, Nat.reduceAdd, svv, stv, spv, swv, srv, scv] using this⟩))
  have HP0 := Lib.hid hi.same
  have HE := Lib.hid he
  have HS := Lib.hid hs
  have HW := Lib.hid hW1
  clear h hi bw bx g1 hW1 hs he hcs hcl hm hk svv hvv stv htv spv hpv swv hwv srv hrv scv hcv hst
  go_enter Tryd.func18, Tryd.ntmps18
  go_upto_region 1 with (fail)
  rw [HW.out]
  obtain ⟨k0, k1, k2⟩ := HB.out _ _ HP0.out
  clear k2
  go_wp2_with fail
  refine (number_st HE.out HP0.out.wi (Nat.le_trans HS.out (by omega)) 4 1).mono ?_
  rintro e V1 ⟨rfl, q0⟩
  have HP1 := Lib.hid (HP0.out.trans q0)
  clear q0 k0 k1
  have HS1 := Lib.hid (show (sNum 4 1 s).2.length ≤ 600000 from by have h1 := adds_num 4 1 s; have h2 := HS.out; have h3 : sNum 4 1 s = sNum 4 ((1 : Nat) : Int) s := rfl; rw [h3]; omega)
  obtain ⟨k0, k1, k2⟩ := HB.out _ _ HP1.out
  have HR := Lib.hid k2
  clear k2
  go_wp2_with (refine wpList_load_mid rfl 43 _ rfl (w.heap.size + 1) 97 rfl (wv.toList) _ HR.out Tryd.underlying43 rfl (by rw [Array.length_toList, H3.out.1]; exact sz_Wt) ?_; rw [Array.toArray_toList])
  refine (want_st HE.out _ _ _ HP1.out.wi (Nat.le_trans HS1.out (by omega)) m.w HQ.out.2.2.2.1 wv H3.out.2).mono ?_
  rintro e V2 ⟨rfl, q1⟩
  have HP2 := Lib.hid (HP1.out.trans q1)
  clear q1 k0 k1
  go_wp2_with fail
  go_end0
  exact ⟨rfl, HCl.out _ _ HP2.out⟩

set_option maxRecDepth 100000 in
set_option maxHeartbeats 1000000 in
theorem msg5_st (w : World) (F : Nat → Prop) (s : WSt) (h : WI w0 E g F s w) (hs : s.2.length ≤ 500000) (m : Msg) (hm : m.At w0) (hk : m.kind = 5) (cs : Array Value) (hcs : cs = m.val) :
    Calls Tryd.prog 18 #[.agg #[.pointer (some ⟨g, 0, none⟩)], .agg cs] w fun e w' => e = .returned (.tuple #[]) ∧ WP w0 E g F (sMsg m s) w w' := by
  obtain ⟨vv, hvv⟩ : ∃ z, z = m.v.val := ⟨_, rfl⟩
  have svv : vv.size = 22 := by rw [hvv]; exact Vt.size hm.1
  obtain ⟨tv, htv⟩ : ∃ z, z = m.t.val := ⟨_, rfl⟩
  have stv : tv.size = 28 := by rw [htv]; exact To.size hm.2.1
  obtain ⟨pv, hpv⟩ : ∃ z, z = m.p.val := ⟨_, rfl⟩
  have spv : pv.size = 46 := by rw [hpv]; exact Pp.size hm.2.2.1
  obtain ⟨wv, hwv⟩ : ∃ z, z = m.w.val := ⟨_, rfl⟩
  have swv : wv.size = 32 := by rw [hwv]; exact Wt.size hm.2.2.2.1
  obtain ⟨rv, hrv⟩ : ∃ z, z = m.rb.val := ⟨_, rfl⟩
  have srv : rv.size = 39 := by rw [hrv]; exact Bk.size hm.2.2.2.2.1
  obtain ⟨cv, hcv⟩ : ∃ z, z = m.c.val := ⟨_, rfl⟩
  have scv : cv.size = 136 := by rw [hcv]; exact Cg.size hm.2.2.2.2.2
  have hcl : cs.toList = [.int .i64 m.kind] ++ (vv.toList ++ (tv.toList ++ (pv.toList ++ (wv.toList ++ (rv.toList ++ (cv.toList)))))) := by rw [hcs, hvv, htv, hpv, hwv, hrv, hcv]; simp [Msg.val]
  rw [hk] at hcl
  have HQ := Lib.hid hm
  have hst : sMsg m s = sBk m.rb (sNum 5 1 s) := by rw [sMsg, sKind, hk]; simp
  rw [hst]
  have H3 := Lib.hid (And.intro srv hrv)
  obtain ⟨W1, hW1⟩ : ∃ W1, ((w.alloc (.cells #[.pointer (some ⟨g, 0, none⟩)] 71)).alloc (.cells cs 64)) = W1 := ⟨_, rfl⟩
  have g1 : w.grownBy W1 none := by rw [← hW1]; exact grown_trans (World.grownBy_alloc _ _ none) (World.grownBy_alloc _ _ none)
  have bw : Blk W1 w.heap.size 71 #[.pointer (some ⟨g, 0, none⟩)] := by rw [← hW1]; exact (Blk.new w _ _).alloc _
  have bx : Blk W1 (w.heap.size + 1) 64 cs := by
    have := Blk.new (w.alloc (.cells #[.pointer (some ⟨g, 0, none⟩)] 71)) 64 cs
    rw [← hW1]; simpa using this
  have hi := h.opened g1
  have HCl := Lib.hid (fun (w2 : World) (s2 : WSt) (P : WP w0 E g (fun k => F k ∧ k < w.heap.size) s2 W1 w2) => WP.closed (F := F) h g1 P)
  have HB := Lib.hid (fun (V : World) (s' : WSt) (P : WP w0 E g (fun k => F k ∧ k < w.heap.size) s' W1 V) => (show V.cell? ⟨w.heap.size, 0, none⟩ = some (.pointer (some ⟨g, 0, none⟩)) ∧ V.cell? ⟨w.heap.size + 1, 0, none⟩ = some (.int .i64 5) ∧ V.rangeAt (w.heap.size + 1) 129 rv.toList from
    by
      have kw : Blk V w.heap.size 71 #[.pointer (some ⟨g, 0, none⟩)] := bw.kept P.fine (fun h => absurd h.2 (by omega))
      have bx : Blk V (w.heap.size + 1) 64 cs := bx.kept P.fine (fun h => absurd h.2 (by omega))
      exact ⟨by simpa using kw.cell 0, by have r := range_blk0 bx; have := r 0 (.int .i64 5) (by rw [hcl]; rfl); simpa using this, by have r := range_blk0 bx; rw [hcl] at r; have := (range_head (range_tail (range_tail (range_tail (range_tail (range_tail r)))))); simpa only [Array.length_toList, List.length_cons, List.length_nil, Nat.zero_add, Nat.reduceAdd, svv, stv, spv, swv, srv, scv] using this⟩))
  have HP0 := Lib.hid hi.same
  have HE := Lib.hid he
  have HS := Lib.hid hs
  have HW := Lib.hid hW1
  clear h hi bw bx g1 hW1 hs he hcs hcl hm hk svv hvv stv htv spv hpv swv hwv srv hrv scv hcv hst
  go_enter Tryd.func18, Tryd.ntmps18
  go_upto_region 1 with (fail)
  rw [HW.out]
  obtain ⟨k0, k1, k2⟩ := HB.out _ _ HP0.out
  clear k2
  go_wp2_with fail
  refine (number_st HE.out HP0.out.wi (Nat.le_trans HS.out (by omega)) 5 1).mono ?_
  rintro e V1 ⟨rfl, q0⟩
  have HP1 := Lib.hid (HP0.out.trans q0)
  clear q0 k0 k1
  have HS1 := Lib.hid (show (sNum 5 1 s).2.length ≤ 600000 from by have h1 := adds_num 5 1 s; have h2 := HS.out; have h3 : sNum 5 1 s = sNum 5 ((1 : Nat) : Int) s := rfl; rw [h3]; omega)
  obtain ⟨k0, k1, k2⟩ := HB.out _ _ HP1.out
  have HR := Lib.hid k2
  clear k2
  go_wp2_with (refine wpList_load_mid rfl 30 _ rfl (w.heap.size + 1) 129 rfl (rv.toList) _ HR.out Tryd.underlying30 rfl (by rw [Array.length_toList, H3.out.1]; exact sz_Bk) ?_; rw [Array.toArray_toList])
  refine (block_st HE.out _ _ _ HP1.out.wi (Nat.le_trans HS1.out (by omega)) m.rb HQ.out.2.2.2.2.1 rv H3.out.2).mono ?_
  rintro e V2 ⟨rfl, q1⟩
  have HP2 := Lib.hid (HP1.out.trans q1)
  clear q1 k0 k1
  go_wp2_with fail
  go_end0
  exact ⟨rfl, HCl.out _ _ HP2.out⟩

set_option maxRecDepth 100000 in
set_option maxHeartbeats 1000000 in
theorem msg6_st (w : World) (F : Nat → Prop) (s : WSt) (h : WI w0 E g F s w) (hs : s.2.length ≤ 500000) (m : Msg) (hm : m.At w0) (hk : m.kind = 6) (cs : Array Value) (hcs : cs = m.val) :
    Calls Tryd.prog 18 #[.agg #[.pointer (some ⟨g, 0, none⟩)], .agg cs] w fun e w' => e = .returned (.tuple #[]) ∧ WP w0 E g F (sMsg m s) w w' := by
  obtain ⟨vv, hvv⟩ : ∃ z, z = m.v.val := ⟨_, rfl⟩
  have svv : vv.size = 22 := by rw [hvv]; exact Vt.size hm.1
  obtain ⟨tv, htv⟩ : ∃ z, z = m.t.val := ⟨_, rfl⟩
  have stv : tv.size = 28 := by rw [htv]; exact To.size hm.2.1
  obtain ⟨pv, hpv⟩ : ∃ z, z = m.p.val := ⟨_, rfl⟩
  have spv : pv.size = 46 := by rw [hpv]; exact Pp.size hm.2.2.1
  obtain ⟨wv, hwv⟩ : ∃ z, z = m.w.val := ⟨_, rfl⟩
  have swv : wv.size = 32 := by rw [hwv]; exact Wt.size hm.2.2.2.1
  obtain ⟨rv, hrv⟩ : ∃ z, z = m.rb.val := ⟨_, rfl⟩
  have srv : rv.size = 39 := by rw [hrv]; exact Bk.size hm.2.2.2.2.1
  obtain ⟨cv, hcv⟩ : ∃ z, z = m.c.val := ⟨_, rfl⟩
  have scv : cv.size = 136 := by rw [hcv]; exact Cg.size hm.2.2.2.2.2
  have hcl : cs.toList = [.int .i64 m.kind] ++ (vv.toList ++ (tv.toList ++ (pv.toList ++ (wv.toList ++ (rv.toList ++ (cv.toList)))))) := by rw [hcs, hvv, htv, hpv, hwv, hrv, hcv]; simp [Msg.val]
  rw [hk] at hcl
  have HQ := Lib.hid hm
  have hst : sMsg m s = sCg m.c (sNum 6 1 s) := by rw [sMsg, sKind, hk]; simp
  rw [hst]
  have H3 := Lib.hid (And.intro scv hcv)
  obtain ⟨W1, hW1⟩ : ∃ W1, ((w.alloc (.cells #[.pointer (some ⟨g, 0, none⟩)] 71)).alloc (.cells cs 64)) = W1 := ⟨_, rfl⟩
  have g1 : w.grownBy W1 none := by rw [← hW1]; exact grown_trans (World.grownBy_alloc _ _ none) (World.grownBy_alloc _ _ none)
  have bw : Blk W1 w.heap.size 71 #[.pointer (some ⟨g, 0, none⟩)] := by rw [← hW1]; exact (Blk.new w _ _).alloc _
  have bx : Blk W1 (w.heap.size + 1) 64 cs := by
    have := Blk.new (w.alloc (.cells #[.pointer (some ⟨g, 0, none⟩)] 71)) 64 cs
    rw [← hW1]; simpa using this
  have hi := h.opened g1
  have HCl := Lib.hid (fun (w2 : World) (s2 : WSt) (P : WP w0 E g (fun k => F k ∧ k < w.heap.size) s2 W1 w2) => WP.closed (F := F) h g1 P)
  have HB := Lib.hid (fun (V : World) (s' : WSt) (P : WP w0 E g (fun k => F k ∧ k < w.heap.size) s' W1 V) => (show V.cell? ⟨w.heap.size, 0, none⟩ = some (.pointer (some ⟨g, 0, none⟩)) ∧ V.cell? ⟨w.heap.size + 1, 0, none⟩ = some (.int .i64 6) ∧ V.rangeAt (w.heap.size + 1) 168 cv.toList from
    by
      have kw : Blk V w.heap.size 71 #[.pointer (some ⟨g, 0, none⟩)] := bw.kept P.fine (fun h => absurd h.2 (by omega))
      have bx : Blk V (w.heap.size + 1) 64 cs := bx.kept P.fine (fun h => absurd h.2 (by omega))
      exact ⟨by simpa using kw.cell 0, by have r := range_blk0 bx; have := r 0 (.int .i64 6) (by rw [hcl]; rfl); simpa using this, by have r := range_blk0 bx; rw [hcl] at r; have := (range_tail (range_tail (range_tail (range_tail (range_tail (range_tail r)))))); simpa only [Array.length_toList, List.length_cons, List.length_nil, Nat.zero_add, Nat.reduceAdd, svv, stv, spv, swv, srv, scv] using this⟩))
  have HP0 := Lib.hid hi.same
  have HE := Lib.hid he
  have HS := Lib.hid hs
  have HW := Lib.hid hW1
  clear h hi bw bx g1 hW1 hs he hcs hcl hm hk svv hvv stv htv spv hpv swv hwv srv hrv scv hcv hst
  go_enter Tryd.func18, Tryd.ntmps18
  go_upto_region 1 with (fail)
  rw [HW.out]
  obtain ⟨k0, k1, k2⟩ := HB.out _ _ HP0.out
  clear k2
  go_wp2_with fail
  refine (number_st HE.out HP0.out.wi (Nat.le_trans HS.out (by omega)) 6 1).mono ?_
  rintro e V1 ⟨rfl, q0⟩
  have HP1 := Lib.hid (HP0.out.trans q0)
  clear q0 k0 k1
  have HS1 := Lib.hid (show (sNum 6 1 s).2.length ≤ 600000 from by have h1 := adds_num 6 1 s; have h2 := HS.out; have h3 : sNum 6 1 s = sNum 6 ((1 : Nat) : Int) s := rfl; rw [h3]; omega)
  obtain ⟨k0, k1, k2⟩ := HB.out _ _ HP1.out
  have HR := Lib.hid k2
  clear k2
  go_wp2_with (refine wpList_load_mid rfl 62 _ rfl (w.heap.size + 1) 168 rfl (cv.toList) _ HR.out Tryd.underlying62 rfl (by rw [Array.length_toList, H3.out.1]; exact sz_Cg) ?_; rw [Array.toArray_toList])
  refine (change_st HE.out _ _ _ HP1.out.wi (Nat.le_trans HS1.out (by omega)) m.c HQ.out.2.2.2.2.2 cv H3.out.2).mono ?_
  rintro e V2 ⟨rfl, q1⟩
  have HP2 := Lib.hid (HP1.out.trans q1)
  clear q1 k0 k1
  go_wp2_with fail
  go_end0
  exact ⟨rfl, HCl.out _ _ HP2.out⟩

end
end Go.Proofs.YtebnebajedlhlaaDoor
