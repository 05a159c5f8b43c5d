/-
  Several texts in one: CdMQ, CdI0, CdI, Ou0.
-/
import Derived.Test.YtmoebkdbnldbdaaGreatDoorM20pk
import Derived.Test.YtmoebkdbnldbdaaGreatDoorM20pb
import Derived.Test.YtmoebkdbnldbdaaGreatDoorM20pj
import Derived.Test.YtmoebkdbnldbdaaGreatDoorM20pm
import Derived.Laws.BitsAllLaws
/-
  Messages: as letters, their cells, how they lie in memory, their bytes.
-/

namespace Go.Proofs.YtmoebkdbnldbdaaGreatDoor
open Go.RowKit

structure Vt where
  e : Int
  r : Int
  Bl : List Int
  s : Sg
structure To where
  e : Int
  r : Int
  h : Qc
  l : Tc
  s : Sg
structure Pp where
  b : Bk
  l : Tc
  s : Sg
structure Wt where
  f : List Int
  b : List Int
structure Cg where
  b1 : Bk
  b2 : Bk
  b3 : Bk
  q : Qc
structure Msg where
  kind : Int
  v : Vt
  t : To
  p : Pp
  w : Wt
  rb : Bk
  c : Cg
def Vt.val (x : Vt) : Array Value := #[.int .i64 x.e, .int .i64 x.r] ++ (arrV .u8 x.Bl ++ x.s.cells)
def To.val (x : To) : Array Value := #[.int .i64 x.e, .int .i64 x.r] ++ (x.h.val ++ (x.l.val ++ x.s.cells))
def Pp.val (x : Pp) : Array Value := x.b.val ++ (x.l.val ++ x.s.cells)
def Wt.val (x : Wt) : Array Value := arrV .u8 x.f ++ arrV .u8 x.b
def Cg.val (x : Cg) : Array Value := x.b1.val ++ (x.b2.val ++ (x.b3.val ++ x.q.val))
def Msg.val (m : Msg) : Array Value := #[.int .i64 m.kind] ++ (m.v.val ++ (m.t.val ++ (m.p.val ++ (m.w.val ++ (m.rb.val ++ m.c.val)))))
def Sg.At (w : World) (x : Sg) : Prop := DigRow w x.A1 x.n1 x.cs ∧ DigRow w x.A2 x.n2 x.ps
def Vt.At (w : World) (x : Vt) : Prop := isDig x.Bl ∧ x.s.At w
def To.At (w : World) (x : To) : Prop := x.h.At w ∧ x.l.At w ∧ x.s.At w
def Pp.At (w : World) (x : Pp) : Prop := x.b.At w ∧ x.l.At w ∧ x.s.At w
def Wt.At (x : Wt) : Prop := isDig x.f ∧ isDig x.b
def Cg.At (w : World) (x : Cg) : Prop := x.b1.At w ∧ x.b2.At w ∧ x.b3.At w ∧ x.q.At w
def Msg.At (w : World) (m : Msg) : Prop := m.v.At w ∧ m.t.At w ∧ m.p.At w ∧ m.w.At ∧ m.rb.At w ∧ m.c.At w
theorem Qc.size {w : World} {q : Qc} (h : q.At w) : q.val.size = 19 := by simp [Qc.val, h.1.1]
theorem Tc.size (t : Tc) : t.val.size = 3 := rfl
theorem Sg.size4 (x : Sg) : x.cells.size = 4 := rfl
theorem Bk.size {w : World} {b : Bk} (h : b.At w) : b.val.size = 39 := by simp [Bk.val, Qc.val, h.1.1, h.2.1.1.1]
theorem Vt.size {w : World} {x : Vt} (h : x.At w) : x.val.size = 22 := by simp [Vt.val, h.1.1, Sg.size4]
theorem To.size {w : World} {x : To} (h : x.At w) : x.val.size = 28 := by simp [To.val, Qc.size h.1, Tc.size, Sg.size4]
theorem Pp.size {w : World} {x : Pp} (h : x.At w) : x.val.size = 46 := by simp [Pp.val, Bk.size h.1, Tc.size, Sg.size4]
theorem Wt.size {x : Wt} (h : x.At) : x.val.size = 32 := by simp [Wt.val, h.1.1, h.2.1]
theorem Cg.size {w : World} {x : Cg} (h : x.At w) : x.val.size = 136 := by simp [Cg.val, Bk.size h.1, Bk.size h.2.1, Bk.size h.2.2.1, Qc.size h.2.2.2]
theorem Msg.size {w : World} {m : Msg} (h : m.At w) : m.val.size = 304 := by simp [Msg.val, Vt.size h.1, To.size h.2.1, Pp.size h.2.2.1, Wt.size h.2.2.2.1, Bk.size h.2.2.2.2.1, Cg.size h.2.2.2.2.2]
theorem LtsOk.grown {w w' : World} {L : List Lt} (h : LtsOk w L) (hk : w.grownBy w' none) : LtsOk w' L := fun s hs => ⟨(h s hs).1.grown hk, (h s hs).2.grown hk⟩
theorem Qc.At.grown {w w' : World} {q : Qc} (h : q.At w) (hk : w.grownBy w' none) : q.At w' := ⟨h.1, h.2.1.grown hk, h.2.2.grown hk⟩
theorem Tc.At.grown {w w' : World} {t : Tc} (h : t.At w) (hk : w.grownBy w' none) : t.At w' := ⟨h.1.grown hk, h.2.grown hk⟩
theorem Sg.At.grown {w w' : World} {x : Sg} (h : x.At w) (hk : w.grownBy w' none) : x.At w' := ⟨h.1.grown hk, h.2.grown hk⟩
theorem Bk.At.grown {w w' : World} {b : Bk} (h : b.At w) (hk : w.grownBy w' none) : b.At w' := by
  obtain ⟨h1, h2, ⟨h5, h6⟩, h7, h8⟩ := h
  exact ⟨h1, h2.grown hk, ⟨h5.grown hk, fun t ht => (h6 t ht).grown hk fun _ _ => by simp⟩, h7.grown hk, h8⟩
theorem Vt.At.grown {w w' : World} {x : Vt} (h : x.At w) (hk : w.grownBy w' none) : x.At w' := ⟨h.1, h.2.grown hk⟩
theorem To.At.grown {w w' : World} {x : To} (h : x.At w) (hk : w.grownBy w' none) : x.At w' := ⟨h.1.grown hk, h.2.1.grown hk, h.2.2.grown hk⟩
theorem Pp.At.grown {w w' : World} {x : Pp} (h : x.At w) (hk : w.grownBy w' none) : x.At w' := ⟨h.1.grown hk, h.2.1.grown hk, h.2.2.grown hk⟩
theorem Cg.At.grown {w w' : World} {x : Cg} (h : x.At w) (hk : w.grownBy w' none) : x.At w' := ⟨h.1.grown hk, h.2.1.grown hk, h.2.2.1.grown hk, h.2.2.2.grown hk⟩
theorem Msg.At.grown {w w' : World} {m : Msg} (h : m.At w) (hk : w.grownBy w' none) : m.At w' := ⟨h.1.grown hk, h.2.1.grown hk, h.2.2.1.grown hk, h.2.2.2.1, h.2.2.2.2.1.grown hk, h.2.2.2.2.2.grown hk⟩

def sVt (x : Vt) (s : WSt) : WSt := sSg x.s (sDig x.Bl (sTurn x.e x.r s))
def sTo (x : To) (s : WSt) : WSt := sSg x.s (sTc x.l (sQc x.h (sTurn x.e x.r s)))
def sPp (x : Pp) (s : WSt) : WSt := sSg x.s (sTc x.l (sBk x.b s))
def sWt (x : Wt) (s : WSt) : WSt := sDig x.b (sDig x.f s)
def sCg (x : Cg) (s : WSt) : WSt := sQc x.q (sBk x.b3 (sBk x.b2 (sBk x.b1 s)))
def sKind (m : Msg) (s : WSt) : WSt := if m.kind = 1 then sVt m.v s else if m.kind = 2 then sTo m.t s else if m.kind = 3 then sPp m.p s else if m.kind = 4 then sWt m.w s else if m.kind = 5 then sBk m.rb s else if m.kind = 6 then sCg m.c s else s
def sMsg (m : Msg) (s : WSt) : WSt := sKind m (sNum m.kind 1 s)
theorem Sg.At.dig {w : World} {x : Sg} (h : x.At w) : sgDig x := ⟨h.1.sixteen, h.2.sixteen⟩
theorem Tc.At.adds {w : World} {t : Tc} (h : t.At w) : Adds 8257 (sTc t) := adds_tc fun x hx => ⟨(h.2 x hx).1.sixteen, (h.2 x hx).2.sixteen⟩
theorem Vt.At.adds {w : World} {x : Vt} (h : x.At w) : Adds 40000 (sVt x) := (((adds_turn x.e x.r).comp (adds_dig h.1.1)).comp (adds_sg h.2.dig)).mono (by omega)
theorem To.At.adds {w : World} {x : To} (h : x.At w) : Adds 40000 (sTo x) := ((((adds_turn x.e x.r).comp h.1.adds).comp h.2.1.adds).comp (adds_sg h.2.2.dig)).mono (by omega)
theorem Pp.At.adds {w : World} {x : Pp} (h : x.At w) : Adds 40000 (sPp x) := ((h.1.adds.comp h.2.1.adds).comp (adds_sg h.2.2.dig)).mono (by omega)
theorem Wt.At.adds {x : Wt} (h : x.At) : Adds 40000 (sWt x) := ((adds_dig h.1.1).comp (adds_dig h.2.1)).mono (by omega)
theorem Cg.At.adds {w : World} {x : Cg} (h : x.At w) : Adds 40000 (sCg x) := (((h.1.adds.comp h.2.1.adds).comp h.2.2.1.adds).comp h.2.2.2.adds).mono (by omega)
theorem adds_id (c : Nat) : Adds c (fun s => s) := fun s => by show s.2.length ≤ _; omega
theorem Msg.At.adds {w : World} {m : Msg} (h : m.At w) : Adds 40001 (sMsg m) := by
  refine ((adds_num m.kind 1).comp (d := 40000) (g := sKind m) fun s => ?_).mono (by omega)
  unfold sKind
  split
  · exact h.1.adds s
  split
  · exact h.2.1.adds s
  split
  · exact h.2.2.1.adds s
  split
  · exact h.2.2.2.1.adds s
  split
  · exact h.2.2.2.2.1.adds.mono (by omega) s
  split
  · exact h.2.2.2.2.2.adds s
  · omega
end Go.Proofs.YtmoebkdbnldbdaaGreatDoor
/-
  What codec.write leaves.
-/
namespace Go.Proofs.YtmoebkdbnldbdaaGreatDoor
open Go.RowKit

/-- What a call leaves that answers bytes or an error. -/
def WOut (w w' : World) (E : Nat → Addr) (s : WSt) (e : Ending) : Prop :=
  w.grownBy w' none ∧ ((s.1 = 0 ∧ ∃ A c, e = .returned (.tuple #[.slice A s.2.length c, .nilIface]) ∧ w'.ownsRow w.heap.size 5 1 (.slice A s.2.length c) s.2.length (Lib.byteCells s.2)) ∨
    (s.1 ≠ 0 ∧ e = .returned (.tuple #[.slice none 0 0, evOf E s.1])))
theorem wr_build (w : World) (g : Nat) : Sem.run Tryz.prog (Instr.build 118 #[(0, .pointer (some ⟨g, 0, none⟩))]) w = .ok (.agg #[.pointer (some ⟨g, 0, none⟩)]) w := by
  refine run_build w 118 _ _ ?_
  kernel_rfl
theorem wr_zero (w : World) : Sem.run Tryz.prog (zeroValue 118) w = .ok (.agg #[.pointer none]) w := zero_run3 w (by kernel_rfl)
end Go.Proofs.YtmoebkdbnldbdaaGreatDoor
/-
  codec.write, Bytes, ID of a block.
-/
namespace Go.Proofs.YtmoebkdbnldbdaaGreatDoor
open Go.RowKit

theorem RowAt.kept0 {α : Type} {w w' : World} {A : Option Addr} {cel : α → List Value} {size : Nat} {L : List α} (h : RowAt w A cel size L) (hk : w.grownBy w' none) : RowAt w' A cel size L := h.grown hk
theorem sz_Bk : (Tryz.prog.info? 49).map (·.size) = some 39 := by kernel_rfl
theorem Bk.val_size {w : World} {b : Bk} (h : b.At w) : b.val.size = 39 := by simp [Bk.val, Qc.val, h.1.1, h.2.1.1.1]
theorem enter_block (args : Array Value) (w : World) : (callFunc 45 args).run Tryz.prog w = .ok (.enter 45 args) w := by kernel_rfl
theorem parts1' {w : World} {q : Nat} {A : Option Addr} {n1 c1 : Nat} {x : List Int} (h : Blk w q 61 #[.slice A n1 c1]) (h1 : x.length = n1) (l1 : n1 ≤ c1) (b1 : BytesI w A x) : PartsI w (some ⟨q, 0, none⟩) [x] := fun j hj => by
  obtain rfl : j = 0 := by simpa using hj
  exact ⟨_, A, n1, c1, rfl, by rw [addr_zero_addK20, h.cell]; rfl, h1, l1, b1⟩
section
variable {E : Nat → Addr}
set_option maxRecDepth 100000 in
set_option maxHeartbeats 1000000 in
theorem cwrite_is (w : World) (he : ErrAt w w.heap.size 1 (E 0)) (b : Bk) (hb : b.At w) (cs : Array Value) (hcs : cs = b.val) :
    Calls Tryz.prog 44 #[.agg cs, .func (.func 45) #[] #[]] w fun e w' => WOut w w' E (bkS b) e := by
  have hzz := wr_zero
  have hbb := wr_build
  obtain ⟨W1, hW1⟩ : ∃ W1, w.alloc (.cells cs 49) = W1 := ⟨_, rfl⟩
  have g1 : w.grownBy W1 none := by rw [← hW1]; exact World.grownBy_alloc _ _ none
  have bx : Blk W1 w.heap.size 49 cs := by rw [← hW1]; exact Blk.new w _ _
  have z1 : W1.heap.size = w.heap.size + 1 := by rw [← hW1]; simp
  have hsz : cs.size = 39 := by rw [hcs]; exact b.val_size hb
  have he1 : ErrAt W1 W1.heap.size 1 (E 0) := ⟨g1.cell he.1 (by simp), by have := he.2; omega⟩
  have hb1 := hb.grown g1
  have HX := Lib.hid (And.intro he1 (And.intro hb1 (And.intro hsz (And.intro bx (And.intro g1 (And.intro z1 hcs))))))
  have HW := Lib.hid hW1
  clear he hb hW1 g1 bx z1 hsz he1 hb1 hcs
  go_enter Tryz.func44, Tryz.ntmps44
  go_upto_region 1 with (fail)
  rw [HW.out]
  go_wp2_with fail
  refine (new_st W1 E).mono ?_
  rintro e W2 ⟨rfl, hi2⟩
  have HI2 := Lib.hid hi2
  clear hi2
  go_upto_region 2 with (fail)
  obtain ⟨W3, hW3⟩ : ∃ W3, W2.alloc (.cells #[.pointer (some ⟨W1.heap.size, 0, none⟩)] 118) = W3 := ⟨_, rfl⟩
  have g3 : W2.grownBy W3 none := by
    rw [← hW3]; exact World.grownBy_alloc _ _ none
  have bw : Blk W3 W2.heap.size 118 #[.pointer (some ⟨W1.heap.size, 0, none⟩)] := by
    rw [← hW3]; exact Blk.new _ _ _
  have hi3 := HI2.out.opened g3
  have bx3 : Blk W3 w.heap.size 49 cs := (HX.out.2.2.2.1.kept HI2.out.kept (fun h => by have := HX.out.2.2.2.2.2.1; simp only [newF] at h; omega)).grown g3 (by simp)
  have c0 : W3.cell? ⟨W2.heap.size, 0, none⟩ = some (.pointer (some ⟨W1.heap.size, 0, none⟩)) := by simpa using bw.cell 0
  have HB := Lib.hid (range_blk0 bx3)
  have HR := Lib.hid (block_st HX.out.1 W3 _ _ hi3 (by simp) b HX.out.2.1 cs HX.out.2.2.2.2.2.2)
  have HC := Lib.hid (fun (w2 : World) (s2 : WSt) (P : WP W1 E W1.heap.size (fun k => newF W1 k ∧ k < W2.heap.size) s2 W3 w2) => And.intro (P.fine.cell c0 (fun h => absurd h.2 (by simp))) (WP.closed (F := newF W1) HI2.out g3 P))
  have HG := Lib.hid hW3
  clear hi3 bx3 bw g3 hW3
  rw [HG.out]
  go_wp2_with (refine wpList_load_mid rfl 49 _ rfl w.heap.size 0 rfl cs.toList _ HB.out Tryz.underlying49 rfl (by rw [Array.length_toList, HX.out.2.2.1]; exact sz_Bk) ?_; rw [Array.toArray_toList])
  refine HR.out.mono ?_
  rintro e W4 ⟨rfl, h4⟩
  obtain ⟨c4, P4⟩ := HC.out _ _ h4
  have HD := Lib.hid (done_st P4.wi (by have := HX.out.2.1.adds (0, []); exact Nat.le_trans this (by simp)))
  clear c0 h4 P4
  go_wp2_with fail
  refine HD.out.mono ?_
  rintro e W5 ⟨g5, hcase⟩
  have hg : w.grownBy W5 none := grown_trans HX.out.2.2.2.2.1 g5
  rcases hcase with ⟨h0, A, c, rfl, hown⟩ | ⟨h0, rfl⟩
  · have HO := Lib.hid (And.intro hg (And.intro h0 (hown.mono (base' := w.heap.size) (by have := HX.out.2.2.2.2.2.1; omega))))
    clear hg h0 hown g5
    go_wp2_with fail
    go_ret2
    exact ⟨HO.out.1, .inl ⟨HO.out.2.1, A, c, rfl, HO.out.2.2⟩⟩
  · have HO := Lib.hid (And.intro hg h0)
    clear hg h0 g5
    go_wp2_with fail
    go_ret2
    exact ⟨HO.out.1, .inr ⟨HO.out.2, rfl⟩⟩
set_option maxRecDepth 100000 in
set_option maxHeartbeats 1000000 in
theorem cbytes_is (w : World) (he : ErrAt w w.heap.size 1 (E 0)) (b : Bk) (hb : b.At w) (cs : Array Value) (hcs : cs = b.val) :
    Calls Tryz.prog 32 #[.agg cs] w fun e w' => WOut w w' E (bkS b) e := by
  obtain ⟨W1, hW1⟩ : ∃ W1, w.alloc (.cells cs 49) = W1 := ⟨_, rfl⟩
  have g1 : w.grownBy W1 none := by rw [← hW1]; exact World.grownBy_alloc _ _ none
  have bx : Blk W1 w.heap.size 49 cs := by rw [← hW1]; exact Blk.new w _ _
  have hsz : cs.size = 39 := by rw [hcs]; exact b.val_size hb
  have z1 := g1.size
  have HR := Lib.hid (cwrite_is W1 (E := E) ⟨g1.cell he.1 (by simp), by have := he.2; omega⟩ b (hb.grown g1) cs hcs)
  have HX := Lib.hid (And.intro hsz (And.intro (range_blk0 bx) (And.intro g1 z1)))
  have HW := Lib.hid hW1
  clear he hb hW1 g1 bx hsz hcs z1
  go_enter Tryz.func32, Tryz.ntmps32
  go_upto_region 1 with (fail)
  rw [HW.out]
  go_wp2_with (refine wpList_load_mid rfl 49 _ rfl w.heap.size 0 rfl cs.toList _ HX.out.2.1 Tryz.underlying49 rfl (by rw [Array.length_toList, HX.out.1]; exact sz_Bk) ?_; rw [Array.toArray_toList])
  refine HR.out.mono ?_
  rintro e W5 ⟨g5, hcase⟩
  have hg : w.grownBy W5 none := grown_trans HX.out.2.2.1 g5
  rcases hcase with ⟨h0, A, c, rfl, hown⟩ | ⟨h0, rfl⟩
  · have HO := Lib.hid (And.intro hg (And.intro h0 (hown.mono (base' := w.heap.size) HX.out.2.2.2)))
    clear hg h0 hown g5
    go_wp2_with fail
    go_ret2
    exact ⟨HO.out.1, .inl ⟨HO.out.2.1, A, c, rfl, HO.out.2.2⟩⟩
  · have HO := Lib.hid (And.intro hg h0)
    clear hg h0 g5
    go_wp2_with fail
    go_ret2
    exact ⟨HO.out.1, .inr ⟨HO.out.2, rfl⟩⟩
/-- A block's id (of an error: zeros). -/
def idD (b : Bk) : List Int := if (bkS b).1 = 0 then ofS 6 [intsB (bkS b).2] else List.replicate 16 0
theorem idD_ok {b : Bk} (h : (bkS b).1 = 0) : idD b = ofS 6 [intsB (bkS b).2] := if_pos h
theorem idD_no {b : Bk} (h : (bkS b).1 ≠ 0) : idD b = List.replicate 16 0 := if_neg h
theorem idD_length (b : Bk) : (idD b).length = 16 := by
  by_cases h : (bkS b).1 = 0
  · rw [idD_ok h]; exact ofS_length 6 _
  · rw [idD_no h]; rfl
theorem own_bytesI {w : World} {base : Nat} {A : Option Addr} {n c : Nat} {l : List UInt8} (h : w.ownsRow base 5 1 (.slice A n c) n (Lib.byteCells l)) : BytesI w A (intsB l) := BytesI.of (own_bytesAt h)
theorem own_cap {w : World} {base : Nat} {e : TypeId} {A : Option Addr} {n c : Nat} {xs : List Value} (h : w.ownsRow base e 1 (.slice A n c) n xs) : n ≤ c := by
  rcases h.2 with ⟨hv, h0⟩ | ⟨g, cap, cur, hv, _, _, hnc, _⟩
  · cases hv; omega
  · cases hv; exact hnc
set_option maxRecDepth 100000 in
set_option maxHeartbeats 1000000 in
theorem id_is (w : World) (hR : Rounds w) (he : ErrAt w w.heap.size 1 (E 0)) (b : Bk) (hb : b.At w) (cs : Array Value) (hcs : cs = b.val) (dv : Array Value) (hdv : dv = arrV .u8 (idD b)) :
    Calls Tryz.prog 20 #[.agg cs] w fun e w' => e = .returned (.tuple #[.agg dv, evOf E (bkS b).1]) ∧ w.grownBy w' none := by
  obtain ⟨Z, hZ⟩ : ∃ Z, Z = arrV .u8 (List.replicate 16 0) := ⟨_, rfl⟩
  have hz : ∀ w, Sem.run Tryz.prog (zeroValue 24) w = .ok (.agg Z) w := fun w => by rw [hZ]; exact z16run w
  have hbz : ∀ w, Sem.run Tryz.prog (Instr.build 24 #[]) w = .ok (.agg Z) w := fun w => by rw [hZ]; refine run_build w _ _ _ ?_; kernel_rfl
  have hZ16 : Z.size = 16 := by rw [hZ]; rfl
  have hZ1 : (Z.all fun v => v.oneCell') = true := by rw [hZ]; exact arr_one _ _
  have hd16 : dv.size = 16 := by rw [hdv, arr_size, idD_length]
  have hd1 : (dv.all fun v => v.oneCell') = true := by rw [hdv]; exact arr_one _ _
  obtain ⟨W1, hW1⟩ : ∃ W1, (w.alloc (.cells cs 49)).alloc (.cells Z 24) = W1 := ⟨_, rfl⟩
  have g1 : w.grownBy W1 none := by rw [← hW1]; exact grown_trans (World.grownBy_alloc _ _ none) (World.grownBy_alloc _ _ none)
  have bx : Blk W1 w.heap.size 49 cs := by rw [← hW1]; exact (Blk.new w _ _).alloc _
  have bd : Blk W1 (w.heap.size + 1) 24 Z := by
    have := Blk.new (w.alloc (.cells cs 49)) 24 Z
    rw [← hW1]; simpa using this
  have hsz : cs.size = 39 := by rw [hcs]; exact b.val_size hb
  have z1 := g1.size
  have hlen : (bkS b).2.length ≤ 8486 := by have := hb.adds (0, []); simpa [bkS] using this
  have HR := Lib.hid (cbytes_is W1 (E := E) ⟨g1.cell he.1 (by simp), by have := he.2; omega⟩ b (hb.grown g1) cs hcs)
  have HX := Lib.hid (And.intro hsz (And.intro (range_blk0 bx) (And.intro g1 (And.intro z1 (And.intro bd (And.intro (hR.grown g1 (by simp)) hlen))))))
  have HZ := Lib.hid (And.intro hZ (And.intro hZ16 hZ1))
  have HD := Lib.hid (And.intro hdv (And.intro hd16 hd1))
  have HW := Lib.hid hW1
  clear he hb hW1 g1 bx hsz hcs z1 bd hR hlen hZ hZ16 hZ1 hdv hd16 hd1
  go_enter Tryz.func20, Tryz.ntmps20
  go_upto_region 1 with (fail)
  rw [HW.out]
  go_wp2_with (refine wpList_load_mid rfl 49 _ rfl w.heap.size 0 rfl cs.toList _ HX.out.2.1 Tryz.underlying49 rfl (by rw [Array.length_toList, HX.out.1]; exact sz_Bk) ?_; rw [Array.toArray_toList])
  refine HR.out.mono ?_
  rintro e W5 ⟨g5, hcase⟩
  have hg : w.grownBy W5 none := grown_trans HX.out.2.2.1 g5
  have hbd : Blk W5 (w.heap.size + 1) 24 Z := HX.out.2.2.2.2.1.grown g5 (by simp)
  rcases hcase with ⟨h0, A, c, rfl, hown⟩ | ⟨h0, rfl⟩
  · have hR5 := HX.out.2.2.2.2.2.1.grown g5 (row := none) (by simp)
    obtain ⟨N, hN⟩ : ∃ N, N = (bkS b).2.length := ⟨_, rfl⟩
    rw [← hN] at hown ⊢
    obtain ⟨W6, hW6⟩ : ∃ W6, W5.alloc (.cells #[.slice A N c] 61) = W6 := ⟨_, rfl⟩
    have g6 : W5.grownBy W6 none := by rw [← hW6]; exact World.grownBy_alloc _ _ none
    have b6 : Blk W6 W5.heap.size 61 #[.slice A N c] := by rw [← hW6]; exact Blk.new _ _ _
    have hO := of_is W6 (hR5.grown g6 (by simp)) 6 (some ⟨W5.heap.size, 0, none⟩) 1 1 [intsB (bkS b).2] rfl (parts1' b6 (by simp [intsB, hN]) (own_cap hown) ((own_bytesI hown).grown g6)) (by omega) (fun p hp => by obtain rfl := List.mem_singleton.1 hp; have := HX.out.2.2.2.2.2.2; simp only [intsB, List.length_map]; omega)
    have HO := Lib.hid (show Calls Tryz.prog 33 #[.int .i64 6, .slice (some ⟨W5.heap.size, 0, none⟩) 1 1] W6 fun e w' => e = .returned (.agg dv) ∧ W6.grownBy w' none by
      rw [HD.out.1, idD_ok h0]; exact hO)
    have HG := Lib.hid (And.intro (grown_trans hg g6) (And.intro (hbd.grown g6 (by simp)) h0))
    have HW6 := Lib.hid hW6
    clear hg hbd h0 hown g5 hR5 hN g6 b6 hO hW6
    go_wp2_with fail
    rw [HW6.out]
    refine HO.out.mono ?_
    rintro e W7 ⟨rfl, g7⟩
    have HG7 := Lib.hid (And.intro (grown_trans HG.out.1 g7) (HG.out.2.1.grown g7 (by simp)))
    clear g7
    go_wp2_with (refine wpList_store_row rfl 24 _ _ rfl (w.heap.size + 1) dv rfl rfl 24 _ HG7.out.2 (by rw [HD.out.2.1]; exact sz_Dg) (by rw [HD.out.2.1, HZ.out.2.1]) HD.out.2.2 ?_)
    refine bodyPost_ret (results_cell_t rfl _ _ _ ⟨w.heap.size + 1, 0, none⟩ (.agg dv) rfl (run_loadVar_row _ (w.heap.size + 1) 24 24 _ (0, 0) _ (HG7.out.2.row _) Tryz.underlying24 rfl (by rw [HD.out.2.1]; exact sz_Dg))) rfl ?_
    refine ⟨?_, grown_row HG7.out.1 (.inl (by omega)) _⟩
    rw [HG.out.2.2]; rfl
  · obtain ⟨a, ha⟩ : ∃ a, evOf E (bkS b).1 = errV a := by
      cases hk : (bkS b).1 with
      | zero => exact absurd hk h0
      | succ k => exact ⟨E k, rfl⟩
    have hdz : dv = Z := by rw [HD.out.1, HZ.out.1, idD_no h0]
    subst hdz
    rw [ha]
    have HA := Lib.hid ha
    have HG := Lib.hid (And.intro hg hbd)
    clear hg hbd h0 g5 ha
    go_wp2_with (refine wpList_store_row rfl 24 _ _ rfl (w.heap.size + 1) dv rfl rfl 24 _ HG.out.2 (by rw [HD.out.2.1]; exact sz_Dg) rfl HD.out.2.2 ?_)
    refine bodyPost_ret (results_cell_t rfl _ _ _ ⟨w.heap.size + 1, 0, none⟩ (.agg dv) rfl (run_loadVar_row _ (w.heap.size + 1) 24 24 _ (0, 0) _ (HG.out.2.row _) Tryz.underlying24 rfl (by rw [HD.out.2.1]; exact sz_Dg))) rfl ?_
    exact ⟨by rw [HA.out]; rfl, grown_row HG.out.1 (.inl (by omega)) _⟩
end
end Go.Proofs.YtmoebkdbnldbdaaGreatDoor
/-
  The document's Fits and Number (layer 1).
-/
namespace Go.Proofs.YtmoebkdbnldbdaaGreatDoor
open Go.RowKit

theorem bad_false_ou {m k : Nat} (h1 : 1 ≤ k) (h8 : k ≤ 8) : badNum (m : Int) (k : Int) = !decide (m / 256 ^ k = 0) := by
  unfold badNum
  rw [Int.toNat_natCast, shr_cast]
  have a1 : decide ((k : Int) < 1) = false := by simp; omega
  have a2 : decide ((8 : Int) < (k : Int)) = false := by simp; omega
  have a3 : decide ((m : Int) < 0) = false := by simp
  rw [a1, a2, a3]
  by_cases h : m / 256 ^ k = 0
  · rw [h]; simp
  · have : decide (m / 256 ^ k = 0) = false := by simpa using h
    rw [this]
    simp only [Bool.false_or, Bool.not_false, bne_iff_ne, ne_eq]
    omega

set_option maxHeartbeats 400000 in
theorem fits_any (w : World) (n width : Int) (hmax : n ≤ 9223372036854775807) :
    Calls Tryz.prog 50 #[.int .i64 n, .int .i64 width] w fun e w' => e = .returned (.bool (!badNum n width)) ∧ w = w' := by
  by_cases hok : 1 ≤ width ∧ width ≤ 8 ∧ 0 ≤ n
  · obtain ⟨h1, h8, h0⟩ := hok
    obtain ⟨k, rfl⟩ := Int.eq_ofNat_of_zero_le (show 0 ≤ width by omega)
    obtain ⟨m, rfl⟩ := Int.eq_ofNat_of_zero_le h0
    have a1 : decide ((k : Int) < 1) = false := by simp; omega
    have a2 : decide ((8 : Int) < (k : Int)) = false := by simp; omega
    have a3 : decide ((m : Int) < 0) = false := by simp
    have hb := bad_false_ou (m := m) (show 1 ≤ k by omega) (show k ≤ 8 by omega)
    have Hb := Lib.hid hb
    clear hb
    go_enter Tryz.func50, Tryz.ntmps50
    go_wp2_with fail
    go_loop [0, 5] (fun q i => ∃ j : Nat, j ≤ k ∧ i = .int .i64 (j : Int) ∧ q = .int .i64 ((m / 256 ^ j : Nat) : Int)) (fun _ i => k - (intOf i).toNat)
    case atStart => exact ⟨0, Nat.zero_le _, rfl, by simp⟩
    case round =>
      obtain ⟨j, hj, rfl, rfl⟩ := hrel
      have hd : m / 256 ^ (j + 1) = m / 256 ^ j / 256 := by rw [Nat.pow_succ, Nat.div_div_eq_div_mul]
      have Hd := Lib.hid hd
      clear hd
      have hqm : m / 256 ^ j ≤ m := Nat.div_le_self _ _
      generalize hq : m / 256 ^ j = q at *
      by_cases hlt : j < k
      · have hb : decide ((j : Int) < (k : Int)) = true := by simp; omega
        have Hq := Lib.hid hq
        clear hq
        go_wp2_with fail
        go_round
        case rel => exact ⟨j + 1, by omega, by go_num, by rw [Hd.out]; rfl⟩
        case measure => simp [intOf]; omega
      · obtain rfl : j = k := by omega
        have hb : decide ((j : Int) < (j : Int)) = false := by simp
        have Hq := Lib.hid hq
        clear hq
        go_wp2_with fail
        go_ret
        refine ⟨?_, rfl⟩
        have e : ((((q : Nat) : Int)) == 0) = !(!decide (q = 0)) := by rw [Bool.eq_iff_iff]; simp
        rw [Hb.out, Hq.out]
        exact congrArg (fun b => Ending.returned (Value.bool b)) e
  · have hbad : badNum n width = true := by
      unfold badNum
      by_cases b1 : width < 1
      · simp [b1]
      · by_cases b2 : 8 < width
        · simp [b2]
        · have b3 : n < 0 := by omega
          simp [b3]
    rw [hbad]
    by_cases b1 : width < 1
    · have a1 : decide (width < 1) = true := by simpa using b1
      clear hbad hok b1
      go_enter Tryz.func50, Tryz.ntmps50
      go_wp2
      go_ret
      exact ⟨rfl, rfl⟩
    · by_cases b2 : 8 < width
      · have a1 : decide (width < 1) = false := by simpa using b1
        have a2 : decide (8 < width) = true := by simpa using b2
        clear hbad hok b1 b2
        go_enter Tryz.func50, Tryz.ntmps50
        go_wp2
        go_ret
        exact ⟨rfl, rfl⟩
      · have a1 : decide (width < 1) = false := by simpa using b1
        have a2 : decide (8 < width) = false := by simpa using b2
        have a3 : decide (n < 0) = true := by simp; omega
        clear hbad hok b1 b2
        go_enter Tryz.func50, Tryz.ntmps50
        go_wp2
        go_ret
        exact ⟨rfl, rfl⟩

theorem mk_ou1 (w : World) : (Instr.makeSlice 61 (.int .i64 1) (.int .i64 1)).run Tryz.prog w = .ok (.slice (some ⟨w.heap.size, 0, none⟩) 1 1) (w.alloc (.cells (Array.replicate 1 (Value.int .u8 0)) 5)) := by kernel_rfl
theorem mk_ou2 (w : World) : (Instr.makeSlice 61 (.int .i64 2) (.int .i64 2)).run Tryz.prog w = .ok (.slice (some ⟨w.heap.size, 0, none⟩) 2 2) (w.alloc (.cells (Array.replicate 2 (Value.int .u8 0)) 5)) := by kernel_rfl
theorem mk_ou3 (w : World) : (Instr.makeSlice 61 (.int .i64 3) (.int .i64 3)).run Tryz.prog w = .ok (.slice (some ⟨w.heap.size, 0, none⟩) 3 3) (w.alloc (.cells (Array.replicate 3 (Value.int .u8 0)) 5)) := by kernel_rfl
theorem mk_ou4 (w : World) : (Instr.makeSlice 61 (.int .i64 4) (.int .i64 4)).run Tryz.prog w = .ok (.slice (some ⟨w.heap.size, 0, none⟩) 4 4) (w.alloc (.cells (Array.replicate 4 (Value.int .u8 0)) 5)) := by kernel_rfl
theorem mk_ou5 (w : World) : (Instr.makeSlice 61 (.int .i64 5) (.int .i64 5)).run Tryz.prog w = .ok (.slice (some ⟨w.heap.size, 0, none⟩) 5 5) (w.alloc (.cells (Array.replicate 5 (Value.int .u8 0)) 5)) := by kernel_rfl
theorem mk_ou6 (w : World) : (Instr.makeSlice 61 (.int .i64 6) (.int .i64 6)).run Tryz.prog w = .ok (.slice (some ⟨w.heap.size, 0, none⟩) 6 6) (w.alloc (.cells (Array.replicate 6 (Value.int .u8 0)) 5)) := by kernel_rfl
theorem mk_ou7 (w : World) : (Instr.makeSlice 61 (.int .i64 7) (.int .i64 7)).run Tryz.prog w = .ok (.slice (some ⟨w.heap.size, 0, none⟩) 7 7) (w.alloc (.cells (Array.replicate 7 (Value.int .u8 0)) 5)) := by kernel_rfl
theorem mk_ou8 (w : World) : (Instr.makeSlice 61 (.int .i64 8) (.int .i64 8)).run Tryz.prog w = .ok (.slice (some ⟨w.heap.size, 0, none⟩) 8 8) (w.alloc (.cells (Array.replicate 8 (Value.int .u8 0)) 5)) := by kernel_rfl
theorem mk_ou (k : Nat) (h1 : 1 ≤ k) (h8 : k ≤ 8) (w : World) : (Instr.makeSlice 61 (.int .i64 (k : Int)) (.int .i64 (k : Int))).run Tryz.prog w = .ok (.slice (some ⟨w.heap.size, 0, none⟩) k k) (w.alloc (.cells (Array.replicate k (Value.int .u8 0)) 5)) := by
  have : k = 1 ∨ k = 2 ∨ k = 3 ∨ k = 4 ∨ k = 5 ∨ k = 6 ∨ k = 7 ∨ k = 8 := by omega
  rcases this with rfl | rfl | rfl | rfl | rfl | rfl | rfl | rfl
  · exact mk_ou1 w
  · exact mk_ou2 w
  · exact mk_ou3 w
  · exact mk_ou4 w
  · exact mk_ou5 w
  · exact mk_ou6 w
  · exact mk_ou7 w
  · exact mk_ou8 w

theorem set_mid_ou (j : Nat) (y z : Value) (r : List Value) : ((List.replicate (j + 1) y ++ r).toArray).setIfInBounds j z = (List.replicate j y ++ z :: r).toArray := by
  rw [List.setIfInBounds_toArray, List.replicate_succ', List.append_assoc, List.set_append_right _ _ (by simp)]
  simp

set_option maxHeartbeats 400000 in
theorem refNumber_any (w : World) (m k : Nat) (hmax : (m : Int) ≤ 9223372036854775807) (h1 : 1 ≤ k) (h8 : k ≤ 8) :
    Calls Tryz.prog 51 #[.int .i64 (m : Int), .int .i64 (k : Int)] w fun e w' => e = .returned (.slice (some ⟨w.heap.size, 0, none⟩) k k) ∧ Blk w' w.heap.size 5 (Lib.byteCells (be k m)).toArray ∧ w.grownBy w' none := by
  have hmk := mk_ou k h1 h8
  go_enter Tryz.func51, Tryz.ntmps51
  go_wp2_with fail
  have hb1 := Blk.new w 5 (Array.replicate k (Value.int .u8 0))
  have k1 := (Kept.refl (fun _ => False) w).alloc (.cells (Array.replicate k (Value.int .u8 0)) 5)
  generalize w.alloc (.cells (Array.replicate k (Value.int .u8 0)) 5) = w1 at *
  go_loopw [0, 6] (fun q i wr => ∃ j : Nat, j ≤ k ∧ i = .int .i64 ((j : Int) - 1) ∧ q = .int .i64 ((m / 256 ^ (k - j) : Nat) : Int) ∧ Blk wr w.heap.size 5 (List.replicate j (Value.int .u8 0) ++ Lib.byteCells (be (k - j) m)).toArray ∧ Kept (fun _ => False) w wr) (fun _ i _ => (intOf i + 1).toNat)
  case atStart => exact ⟨k, Nat.le_refl _, rfl, by simp, by simpa [be, Lib.byteCells] using hb1, k1⟩
  case round =>
    obtain ⟨j, hj, hi, rfl, hb, hK⟩ := hrel
    rcases j with _ | j
    · subst hi
      go_wp2_with fail
      go_ret
      exact ⟨rfl, by simpa using hb, hK.grownNone (fun _ _ h => h)⟩
    · have hi' := hi.trans (show Value.int .i64 (((j + 1 : Nat) : Int) - 1) = .int .i64 (j : Int) by congr 1; omega)
      clear hi
      subst hi'
      have hd : m / 256 ^ (k - j) = m / 256 ^ (k - (j + 1)) / 256 := by
        rw [show k - j = (k - (j + 1)) + 1 by omega, Nat.pow_succ, Nat.div_div_eq_div_mul]
      have hbe : be (k - j) m = UInt8.ofNat (m / 256 ^ (k - (j + 1))) :: be (k - (j + 1)) m := by
        rw [show k - j = (k - (j + 1)) + 1 by omega]; rfl
      have Hd := Lib.hid hd
      have Hbe := Lib.hid hbe
      clear hd hbe
      have hcell := hb.cell j
      have hfr := hb.frozen j
      rw [show (List.replicate (j + 1) (Value.int .u8 0) ++ Lib.byteCells (be (k - (j + 1)) m)).toArray[j]? = some (Value.int .u8 0) by simp [List.getElem?_append]] at hcell
      have Hset := Lib.hid (hb.set j)
      clear hb
      have hqm : m / 256 ^ (k - (j + 1)) ≤ m := Nat.div_le_self _ _
      generalize hq : m / 256 ^ (k - (j + 1)) = q at *
      have Hq := Lib.hid hq
      clear hq
      go_wp2_with fail
      go_roundw
      case rel =>
        refine ⟨j, by omega, rfl, by rw [Hd.out]; rfl, ?_, hK.set (.inr (Nat.le_refl _)) _⟩
        have h := Hset.out (Value.int .u8 ((q : Int) % 256))
        rw [set_mid_ou] at h
        rw [Hbe.out]
        have e : Value.int .u8 ((q : Int) % 256) = Value.int .u8 ((UInt8.ofNat q).toNat : Nat) := by congr 1
        rw [e] at h ⊢
        exact h
      case measure => simp [intOf]
theorem own_of_blk {w : World} {g : Nat} {l : List UInt8} {n : Nat} (h : Blk w g 5 (Lib.byteCells l).toArray) (hn : l.length = n) (hm : n ≤ 65535) : w.ownsRow 0 5 1 (.slice (some ⟨g, 0, none⟩) n n) n (Lib.byteCells l) := by
  subst hn
  refine ⟨by simp [Lib.byteCells], .inr ⟨g, l.length, _, rfl, Nat.zero_le _, h, Nat.le_refl _, by unfold maxLen; omega, by simp [Lib.byteCells], ?_⟩⟩
  simp [Lib.byteCells, List.take_of_length_le]

section
variable {P : Program} (w : World)
theorem step_append_bytes {ops : Array Oper} {o : Oper} {a : Act} {K : Act → World → Prop} {Q : Exit → Act → World → Prop} {E : Prop} (hgd : o.guard = none) (s x : Operand) (t : TypeId)
    (ho : o.op = .call { callee := .builtin .append, args := #[s, x], argTypes := #[t, t] })
    (base : Nat) (e : TypeId) (i : TypeInfo) (z : Value) (ht : P.underlying t = some (.slice e)) (hi : P.info? e = some i) (hz : i.zero = some z)
    (hsize : i.size = 1) (hby : i.bytes = 1) (hzs : z.cells.size = 1)
    (v : Value) (n : Nat) (xs : List Value) (hs : a.eval s = v) (hown : w.ownsRow base e 1 v n xs)
    (A : Option Addr) (c : Nat) (l : List UInt8) (hx : a.eval x = .slice A l.length c) (hr : BytesAt w A l) (h63 : n + l.length ≤ 140737488355328) (hbase : base ≤ w.heap.size)
    (h : ∀ A' cap' w', w'.ownsRow base e 1 (.slice A' (n + l.length) cap') (n + l.length) (xs ++ Lib.byteCells l) → w.grownBy w' v.ownBlock → ((Value.slice A' (n + l.length) cap').ownBlock = v.ownBlock ∨ (Value.slice A' (n + l.length) cap').ownBlock = some w.heap.size) → K (a.put o.dst (.slice A' (n + l.length) cap')) w') :
    if Region.wanted o (yielded ops a.tmps) = true then Oper.wp P o a w K Q else E := by
  have hw : Region.wanted o (yielded ops a.tmps) = true := by simp [Region.wanted, hgd]
  rw [if_pos hw]
  exact wp_append_bytes w s x t ho base e i z ht hi hz hsize hby hzs v n xs hs hown A c l hx hr h63 hbase h
end

end Go.Proofs.YtmoebkdbnldbdaaGreatDoor
