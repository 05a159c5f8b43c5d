/-
  Several texts in one: CdI0, CdI.
-/
import Derived.Test.YtebnebajedlhlaaDoorM9iw
import Derived.Test.YtebnebajedlhlaaDoorM9ir
import Derived.Test.YtebnebajedlhlaaDoorM9ix
import Derived.Test.YtebnebajedlhlaaDoorM9iE
import Derived.Test.YtebnebajedlhlaaDoorM9iu
/-
  What codec.write leaves.
-/
namespace Go.Proofs.YtebnebajedlhlaaDoor
open Go.RowKit

/-- What a call leaves that answers bytes or an error. -/
def WOut (w w' : World) (E : Nat → Addr) (s : WSt) (e : Ending) : Prop :=
  w.grownBy w' none ∧ ((s.1 = 0 ∧ ∃ A c, e = .returned (.tuple #[.slice A s.2.length c, .nilIface]) ∧ w'.ownsRow w.heap.size 5 1 (.slice A s.2.length c) s.2.length (Lib.byteCells s.2)) ∨
    (s.1 ≠ 0 ∧ e = .returned (.tuple #[.slice none 0 0, evOf E s.1])))
theorem wr_build (w : World) (g : Nat) : Sem.run Tryd.prog (Instr.build 71 #[(0, .pointer (some ⟨g, 0, none⟩))]) w = .ok (.agg #[.pointer (some ⟨g, 0, none⟩)]) w := by
  refine run_build w 71 _ _ ?_
  kernel_rfl
theorem wr_zero (w : World) : Sem.run Tryd.prog (zeroValue 71) w = .ok (.agg #[.pointer none]) w := zero_run3 w (by kernel_rfl)
end Go.Proofs.YtebnebajedlhlaaDoor
/-
  codec.write, Bytes, ID of a block.
-/
namespace Go.Proofs.YtebnebajedlhlaaDoor
open Go.RowKit

theorem RowAt.kept0 {α : Type} {w w' : World} {A : Option Addr} {cel : α → List Value} {size : Nat} {L : List α} (h : RowAt w A cel size L) (hk : w.grownBy w' none) : RowAt w' A cel size L := h.grown hk
theorem Bk.val_size {w : World} {b : Bk} (h : b.At w) : b.val.size = 39 := by simp [Bk.val, Qc.val, h.1.1, h.2.1.1.1]
theorem enter_block (args : Array Value) (w : World) : (callFunc 12 args).run Tryd.prog w = .ok (.enter 12 args) w := by kernel_rfl
theorem parts1' {w : World} {q : Nat} {A : Option Addr} {n1 c1 : Nat} {x : List Int} (h : Blk w q 33 #[.slice A n1 c1]) (h1 : x.length = n1) (l1 : n1 ≤ c1) (b1 : BytesI w A x) : PartsI w (some ⟨q, 0, none⟩) [x] := fun j hj => by
  obtain rfl : j = 0 := by simpa using hj
  exact ⟨_, A, n1, c1, rfl, by rw [addr_zero_add, h.cell]; rfl, h1, l1, b1⟩
section
variable {E : Nat → Addr}
set_option maxRecDepth 100000 in
set_option maxHeartbeats 1000000 in
theorem cwrite_is (w : World) (he : ErrAt w w.heap.size 1 (E 0)) (b : Bk) (hb : b.At w) (cs : Array Value) (hcs : cs = b.val) :
    Calls Tryd.prog 11 #[.agg cs, .func (.func 12) #[] #[]] w fun e w' => WOut w w' E (bkS b) e := by
  have hzz := wr_zero
  have hbb := wr_build
  obtain ⟨W1, hW1⟩ : ∃ W1, w.alloc (.cells cs 30) = W1 := ⟨_, rfl⟩
  have g1 : w.grownBy W1 none := by rw [← hW1]; exact World.grownBy_alloc _ _ none
  have bx : Blk W1 w.heap.size 30 cs := by rw [← hW1]; exact Blk.new w _ _
  have z1 : W1.heap.size = w.heap.size + 1 := by rw [← hW1]; simp
  have hsz : cs.size = 39 := by rw [hcs]; exact b.val_size hb
  have he1 : ErrAt W1 W1.heap.size 1 (E 0) := ⟨g1.cell he.1 (by simp), by have := he.2; omega⟩
  have hb1 := hb.grown g1
  have HX := Lib.hid (And.intro he1 (And.intro hb1 (And.intro hsz (And.intro bx (And.intro g1 (And.intro z1 hcs))))))
  have HW := Lib.hid hW1
  clear he hb hW1 g1 bx z1 hsz he1 hb1 hcs
  go_enter Tryd.func11, Tryd.ntmps11
  go_upto_region 1 with (fail)
  rw [HW.out]
  go_wp2_with fail
  refine (new_st W1 E).mono ?_
  rintro e W2 ⟨rfl, hi2⟩
  have HI2 := Lib.hid hi2
  clear hi2
  go_upto_region 2 with (fail)
  obtain ⟨W3, hW3⟩ : ∃ W3, W2.alloc (.cells #[.pointer (some ⟨W1.heap.size, 0, none⟩)] 71) = W3 := ⟨_, rfl⟩
  have g3 : W2.grownBy W3 none := by
    rw [← hW3]; exact World.grownBy_alloc _ _ none
  have bw : Blk W3 W2.heap.size 71 #[.pointer (some ⟨W1.heap.size, 0, none⟩)] := by
    rw [← hW3]; exact Blk.new _ _ _
  have hi3 := HI2.out.opened g3
  have bx3 : Blk W3 w.heap.size 30 cs := (HX.out.2.2.2.1.kept HI2.out.kept (fun h => by have := HX.out.2.2.2.2.2.1; simp only [newF] at h; omega)).grown g3 (by simp)
  have c0 : W3.cell? ⟨W2.heap.size, 0, none⟩ = some (.pointer (some ⟨W1.heap.size, 0, none⟩)) := by simpa using bw.cell 0
  have HB := Lib.hid (range_blk0 bx3)
  have HR := Lib.hid (block_st HX.out.1 W3 _ _ hi3 (by simp) b HX.out.2.1 cs HX.out.2.2.2.2.2.2)
  have HC := Lib.hid (fun (w2 : World) (s2 : WSt) (P : WP W1 E W1.heap.size (fun k => newF W1 k ∧ k < W2.heap.size) s2 W3 w2) => And.intro (P.fine.cell c0 (fun h => absurd h.2 (by simp))) (WP.closed (F := newF W1) HI2.out g3 P))
  have HG := Lib.hid hW3
  clear hi3 bx3 bw g3 hW3
  rw [HG.out]
  go_wp2_with (refine wpList_load_mid rfl 30 _ rfl w.heap.size 0 rfl cs.toList _ HB.out Tryd.underlying30 rfl (by rw [Array.length_toList, HX.out.2.2.1]; exact sz_Bk) ?_; rw [Array.toArray_toList])
  refine HR.out.mono ?_
  rintro e W4 ⟨rfl, h4⟩
  obtain ⟨c4, P4⟩ := HC.out _ _ h4
  have HD := Lib.hid (done_st P4.wi (by have := HX.out.2.1.adds (0, []); exact Nat.le_trans this (by simp)))
  clear c0 h4 P4
  go_wp2_with fail
  refine HD.out.mono ?_
  rintro e W5 ⟨g5, hcase⟩
  have hg : w.grownBy W5 none := grown_trans HX.out.2.2.2.2.1 g5
  rcases hcase with ⟨h0, A, c, rfl, hown⟩ | ⟨h0, rfl⟩
  · have HO := Lib.hid (And.intro hg (And.intro h0 (hown.mono (base' := w.heap.size) (by have := HX.out.2.2.2.2.2.1; omega))))
    clear hg h0 hown g5
    go_wp2_with fail
    go_ret2
    exact ⟨HO.out.1, .inl ⟨HO.out.2.1, A, c, rfl, HO.out.2.2⟩⟩
  · have HO := Lib.hid (And.intro hg h0)
    clear hg h0 g5
    go_wp2_with fail
    go_ret2
    exact ⟨HO.out.1, .inr ⟨HO.out.2, rfl⟩⟩
set_option maxRecDepth 100000 in
set_option maxHeartbeats 1000000 in
theorem cbytes_is (w : World) (he : ErrAt w w.heap.size 1 (E 0)) (b : Bk) (hb : b.At w) (cs : Array Value) (hcs : cs = b.val) :
    Calls Tryd.prog 6 #[.agg cs] w fun e w' => WOut w w' E (bkS b) e := by
  obtain ⟨W1, hW1⟩ : ∃ W1, w.alloc (.cells cs 30) = W1 := ⟨_, rfl⟩
  have g1 : w.grownBy W1 none := by rw [← hW1]; exact World.grownBy_alloc _ _ none
  have bx : Blk W1 w.heap.size 30 cs := by rw [← hW1]; exact Blk.new w _ _
  have hsz : cs.size = 39 := by rw [hcs]; exact b.val_size hb
  have z1 := g1.size
  have HR := Lib.hid (cwrite_is W1 (E := E) ⟨g1.cell he.1 (by simp), by have := he.2; omega⟩ b (hb.grown g1) cs hcs)
  have HX := Lib.hid (And.intro hsz (And.intro (range_blk0 bx) (And.intro g1 z1)))
  have HW := Lib.hid hW1
  clear he hb hW1 g1 bx hsz hcs z1
  go_enter Tryd.func6, Tryd.ntmps6
  go_upto_region 1 with (fail)
  rw [HW.out]
  go_wp2_with (refine wpList_load_mid rfl 30 _ rfl w.heap.size 0 rfl cs.toList _ HX.out.2.1 Tryd.underlying30 rfl (by rw [Array.length_toList, HX.out.1]; exact sz_Bk) ?_; rw [Array.toArray_toList])
  refine HR.out.mono ?_
  rintro e W5 ⟨g5, hcase⟩
  have hg : w.grownBy W5 none := grown_trans HX.out.2.2.1 g5
  rcases hcase with ⟨h0, A, c, rfl, hown⟩ | ⟨h0, rfl⟩
  · have HO := Lib.hid (And.intro hg (And.intro h0 (hown.mono (base' := w.heap.size) HX.out.2.2.2)))
    clear hg h0 hown g5
    go_wp2_with fail
    go_ret2
    exact ⟨HO.out.1, .inl ⟨HO.out.2.1, A, c, rfl, HO.out.2.2⟩⟩
  · have HO := Lib.hid (And.intro hg h0)
    clear hg h0 g5
    go_wp2_with fail
    go_ret2
    exact ⟨HO.out.1, .inr ⟨HO.out.2, rfl⟩⟩
/-- A block's id (of an error: zeros). -/
def idD (b : Bk) : List Int := if (bkS b).1 = 0 then ofS 6 [intsB (bkS b).2] else List.replicate 16 0
theorem idD_ok {b : Bk} (h : (bkS b).1 = 0) : idD b = ofS 6 [intsB (bkS b).2] := if_pos h
theorem idD_no {b : Bk} (h : (bkS b).1 ≠ 0) : idD b = List.replicate 16 0 := if_neg h
theorem idD_length (b : Bk) : (idD b).length = 16 := by
  by_cases h : (bkS b).1 = 0
  · rw [idD_ok h]; exact ofS_length 6 _
  · rw [idD_no h]; rfl
theorem own_bytesI {w : World} {base : Nat} {A : Option Addr} {n c : Nat} {l : List UInt8} (h : w.ownsRow base 5 1 (.slice A n c) n (Lib.byteCells l)) : BytesI w A (intsB l) := BytesI.of (own_bytesAt h)
theorem own_cap {w : World} {base : Nat} {e : TypeId} {A : Option Addr} {n c : Nat} {xs : List Value} (h : w.ownsRow base e 1 (.slice A n c) n xs) : n ≤ c := by
  rcases h.2 with ⟨hv, h0⟩ | ⟨g, cap, cur, hv, _, _, hnc, _⟩
  · cases hv; omega
  · cases hv; exact hnc
set_option maxRecDepth 100000 in
set_option maxHeartbeats 1000000 in
theorem id_is (w : World) (hR : Rounds w) (he : ErrAt w w.heap.size 1 (E 0)) (b : Bk) (hb : b.At w) (cs : Array Value) (hcs : cs = b.val) (dv : Array Value) (hdv : dv = arrV .u8 (idD b)) :
    Calls Tryd.prog 7 #[.agg cs] w fun e w' => e = .returned (.tuple #[.agg dv, evOf E (bkS b).1]) ∧ w.grownBy w' none := by
  obtain ⟨Z, hZ⟩ : ∃ Z, Z = arrV .u8 (List.replicate 16 0) := ⟨_, rfl⟩
  have hz : ∀ w, Sem.run Tryd.prog (zeroValue 23) w = .ok (.agg Z) w := fun w => by rw [hZ]; exact z16run w
  have hbz : ∀ w, Sem.run Tryd.prog (Instr.build 23 #[]) w = .ok (.agg Z) w := fun w => by rw [hZ]; refine run_build w _ _ _ ?_; kernel_rfl
  have hZ16 : Z.size = 16 := by rw [hZ]; rfl
  have hZ1 : (Z.all fun v => v.oneCell') = true := by rw [hZ]; exact arr_one _ _
  have hd16 : dv.size = 16 := by rw [hdv, arr_size, idD_length]
  have hd1 : (dv.all fun v => v.oneCell') = true := by rw [hdv]; exact arr_one _ _
  obtain ⟨W1, hW1⟩ : ∃ W1, (w.alloc (.cells cs 30)).alloc (.cells Z 23) = W1 := ⟨_, rfl⟩
  have g1 : w.grownBy W1 none := by rw [← hW1]; exact grown_trans (World.grownBy_alloc _ _ none) (World.grownBy_alloc _ _ none)
  have bx : Blk W1 w.heap.size 30 cs := by rw [← hW1]; exact (Blk.new w _ _).alloc _
  have bd : Blk W1 (w.heap.size + 1) 23 Z := by
    have := Blk.new (w.alloc (.cells cs 30)) 23 Z
    rw [← hW1]; simpa using this
  have hsz : cs.size = 39 := by rw [hcs]; exact b.val_size hb
  have z1 := g1.size
  have hlen : (bkS b).2.length ≤ 8486 := by have := hb.adds (0, []); simpa [bkS] using this
  have HR := Lib.hid (cbytes_is W1 (E := E) ⟨g1.cell he.1 (by simp), by have := he.2; omega⟩ b (hb.grown g1) cs hcs)
  have HX := Lib.hid (And.intro hsz (And.intro (range_blk0 bx) (And.intro g1 (And.intro z1 (And.intro bd (And.intro (hR.grown g1 (by simp)) hlen))))))
  have HZ := Lib.hid (And.intro hZ (And.intro hZ16 hZ1))
  have HD := Lib.hid (And.intro hdv (And.intro hd16 hd1))
  have HW := Lib.hid hW1
  clear he hb hW1 g1 bx hsz hcs z1 bd hR hlen hZ hZ16 hZ1 hdv hd16 hd1
  go_enter Tryd.func7, Tryd.ntmps7
  go_upto_region 1 with (fail)
  rw [HW.out]
  go_wp2_with (refine wpList_load_mid rfl 30 _ rfl w.heap.size 0 rfl cs.toList _ HX.out.2.1 Tryd.underlying30 rfl (by rw [Array.length_toList, HX.out.1]; exact sz_Bk) ?_; rw [Array.toArray_toList])
  refine HR.out.mono ?_
  rintro e W5 ⟨g5, hcase⟩
  have hg : w.grownBy W5 none := grown_trans HX.out.2.2.1 g5
  have hbd : Blk W5 (w.heap.size + 1) 23 Z := HX.out.2.2.2.2.1.grown g5 (by simp)
  rcases hcase with ⟨h0, A, c, rfl, hown⟩ | ⟨h0, rfl⟩
  · have hR5 := HX.out.2.2.2.2.2.1.grown g5 (row := none) (by simp)
    obtain ⟨N, hN⟩ : ∃ N, N = (bkS b).2.length := ⟨_, rfl⟩
    rw [← hN] at hown ⊢
    obtain ⟨W6, hW6⟩ : ∃ W6, W5.alloc (.cells #[.slice A N c] 33) = W6 := ⟨_, rfl⟩
    have g6 : W5.grownBy W6 none := by rw [← hW6]; exact World.grownBy_alloc _ _ none
    have b6 : Blk W6 W5.heap.size 33 #[.slice A N c] := by rw [← hW6]; exact Blk.new _ _ _
    have hO := of_is W6 (hR5.grown g6 (by simp)) 6 (some ⟨W5.heap.size, 0, none⟩) 1 1 [intsB (bkS b).2] rfl (parts1' b6 (by simp [intsB, hN]) (own_cap hown) ((own_bytesI hown).grown g6)) (by omega) (fun p hp => by obtain rfl := List.mem_singleton.1 hp; have := HX.out.2.2.2.2.2.2; simp only [intsB, List.length_map]; omega)
    have HO := Lib.hid (show Calls Tryd.prog 13 #[.int .i64 6, .slice (some ⟨W5.heap.size, 0, none⟩) 1 1] W6 fun e w' => e = .returned (.agg dv) ∧ W6.grownBy w' none by
      rw [HD.out.1, idD_ok h0]; exact hO)
    have HG := Lib.hid (And.intro (grown_trans hg g6) (And.intro (hbd.grown g6 (by simp)) h0))
    have HW6 := Lib.hid hW6
    clear hg hbd h0 hown g5 hR5 hN g6 b6 hO hW6
    go_wp2_with fail
    rw [HW6.out]
    refine HO.out.mono ?_
    rintro e W7 ⟨rfl, g7⟩
    have HG7 := Lib.hid (And.intro (grown_trans HG.out.1 g7) (HG.out.2.1.grown g7 (by simp)))
    clear g7
    go_wp2_with (refine wpList_store_row rfl 23 _ _ rfl (w.heap.size + 1) dv rfl rfl 23 _ HG7.out.2 (by rw [HD.out.2.1]; exact sz_Dg) (by rw [HD.out.2.1, HZ.out.2.1]) HD.out.2.2 ?_)
    refine bodyPost_ret (results_cell_t rfl _ _ _ ⟨w.heap.size + 1, 0, none⟩ (.agg dv) rfl (run_loadVar_row _ (w.heap.size + 1) 23 23 _ (0, 0) _ (HG7.out.2.row _) Tryd.underlying23 rfl (by rw [HD.out.2.1]; exact sz_Dg))) rfl ?_
    refine ⟨?_, grown_row HG7.out.1 (.inl (by omega)) _⟩
    rw [HG.out.2.2]; rfl
  · obtain ⟨a, ha⟩ : ∃ a, evOf E (bkS b).1 = errV a := by
      cases hk : (bkS b).1 with
      | zero => exact absurd hk h0
      | succ k => exact ⟨E k, rfl⟩
    have hdz : dv = Z := by rw [HD.out.1, HZ.out.1, idD_no h0]
    subst hdz
    rw [ha]
    have HA := Lib.hid ha
    have HG := Lib.hid (And.intro hg hbd)
    clear hg hbd h0 g5 ha
    go_wp2_with (refine wpList_store_row rfl 23 _ _ rfl (w.heap.size + 1) dv rfl rfl 23 _ HG.out.2 (by rw [HD.out.2.1]; exact sz_Dg) rfl HD.out.2.2 ?_)
    refine bodyPost_ret (results_cell_t rfl _ _ _ ⟨w.heap.size + 1, 0, none⟩ (.agg dv) rfl (run_loadVar_row _ (w.heap.size + 1) 23 23 _ (0, 0) _ (HG.out.2.row _) Tryd.underlying23 rfl (by rw [HD.out.2.1]; exact sz_Dg))) rfl ?_
    exact ⟨by rw [HA.out]; rfl, grown_row HG.out.1 (.inl (by omega)) _⟩
end
end Go.Proofs.YtebnebajedlhlaaDoor
