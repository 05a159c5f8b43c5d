/-
  Several texts in one: CdMQ, CdI0.
-/
import Derived.Test.YtpdfkgmgmndcfaaDoorM20t
import Derived.Test.YtpdfkgmgmndcfaaDoorM20d
import Derived.Test.YtpdfkgmgmndcfaaDoorM20s
/-
  Messages: as letters, their cells, how they lie in memory, their bytes.
-/

namespace Go.Proofs.YtpdfkgmgmndcfaaDoor
open Go.RowKit

structure Vt where
  e : Int
  r : Int
  Bl : List Int
  s : Sg
structure To where
  e : Int
  r : Int
  h : Qc
  l : Tc
  s : Sg
structure Pp where
  b : Bk
  l : Tc
  s : Sg
structure Wt where
  f : List Int
  b : List Int
structure Cg where
  b1 : Bk
  b2 : Bk
  b3 : Bk
  q : Qc
structure Msg where
  kind : Int
  v : Vt
  t : To
  p : Pp
  w : Wt
  rb : Bk
  c : Cg
def Vt.val (x : Vt) : Array Value := #[.int .i64 x.e, .int .i64 x.r] ++ (arrV .u8 x.Bl ++ x.s.cells)
def To.val (x : To) : Array Value := #[.int .i64 x.e, .int .i64 x.r] ++ (x.h.val ++ (x.l.val ++ x.s.cells))
def Pp.val (x : Pp) : Array Value := x.b.val ++ (x.l.val ++ x.s.cells)
def Wt.val (x : Wt) : Array Value := arrV .u8 x.f ++ arrV .u8 x.b
def Cg.val (x : Cg) : Array Value := x.b1.val ++ (x.b2.val ++ (x.b3.val ++ x.q.val))
def Msg.val (m : Msg) : Array Value := #[.int .i64 m.kind] ++ (m.v.val ++ (m.t.val ++ (m.p.val ++ (m.w.val ++ (m.rb.val ++ m.c.val)))))
def Sg.At (w : World) (x : Sg) : Prop := DigRow w x.A1 x.n1 x.cs ∧ DigRow w x.A2 x.n2 x.ps
def Vt.At (w : World) (x : Vt) : Prop := isDig x.Bl ∧ x.s.At w
def To.At (w : World) (x : To) : Prop := x.h.At w ∧ x.l.At w ∧ x.s.At w
def Pp.At (w : World) (x : Pp) : Prop := x.b.At w ∧ x.l.At w ∧ x.s.At w
def Wt.At (x : Wt) : Prop := isDig x.f ∧ isDig x.b
def Cg.At (w : World) (x : Cg) : Prop := x.b1.At w ∧ x.b2.At w ∧ x.b3.At w ∧ x.q.At w
def Msg.At (w : World) (m : Msg) : Prop := m.v.At w ∧ m.t.At w ∧ m.p.At w ∧ m.w.At ∧ m.rb.At w ∧ m.c.At w
theorem Qc.size {w : World} {q : Qc} (h : q.At w) : q.val.size = 19 := by simp [Qc.val, h.1.1]
theorem Tc.size (t : Tc) : t.val.size = 3 := rfl
theorem Sg.size4 (x : Sg) : x.cells.size = 4 := rfl
theorem Bk.size {w : World} {b : Bk} (h : b.At w) : b.val.size = 39 := by simp [Bk.val, Qc.val, h.1.1, h.2.1.1.1]
theorem Vt.size {w : World} {x : Vt} (h : x.At w) : x.val.size = 22 := by simp [Vt.val, h.1.1, Sg.size4]
theorem To.size {w : World} {x : To} (h : x.At w) : x.val.size = 28 := by simp [To.val, Qc.size h.1, Tc.size, Sg.size4]
theorem Pp.size {w : World} {x : Pp} (h : x.At w) : x.val.size = 46 := by simp [Pp.val, Bk.size h.1, Tc.size, Sg.size4]
theorem Wt.size {x : Wt} (h : x.At) : x.val.size = 32 := by simp [Wt.val, h.1.1, h.2.1]
theorem Cg.size {w : World} {x : Cg} (h : x.At w) : x.val.size = 136 := by simp [Cg.val, Bk.size h.1, Bk.size h.2.1, Bk.size h.2.2.1, Qc.size h.2.2.2]
theorem Msg.size {w : World} {m : Msg} (h : m.At w) : m.val.size = 304 := by simp [Msg.val, Vt.size h.1, To.size h.2.1, Pp.size h.2.2.1, Wt.size h.2.2.2.1, Bk.size h.2.2.2.2.1, Cg.size h.2.2.2.2.2]
theorem LtsOk.grown {w w' : World} {L : List Lt} (h : LtsOk w L) (hk : w.grownBy w' none) : LtsOk w' L := fun s hs => ⟨(h s hs).1.grown hk, (h s hs).2.grown hk⟩
theorem Qc.At.grown {w w' : World} {q : Qc} (h : q.At w) (hk : w.grownBy w' none) : q.At w' := ⟨h.1, h.2.1.grown hk, h.2.2.grown hk⟩
theorem Tc.At.grown {w w' : World} {t : Tc} (h : t.At w) (hk : w.grownBy w' none) : t.At w' := ⟨h.1.grown hk, h.2.grown hk⟩
theorem Sg.At.grown {w w' : World} {x : Sg} (h : x.At w) (hk : w.grownBy w' none) : x.At w' := ⟨h.1.grown hk, h.2.grown hk⟩
theorem Bk.At.grown {w w' : World} {b : Bk} (h : b.At w) (hk : w.grownBy w' none) : b.At w' := by
  obtain ⟨h1, h2, ⟨h5, h6⟩, h7, h8⟩ := h
  exact ⟨h1, h2.grown hk, ⟨h5.grown hk, fun t ht => (h6 t ht).grown hk fun _ _ => by simp⟩, h7.grown hk, h8⟩
theorem Vt.At.grown {w w' : World} {x : Vt} (h : x.At w) (hk : w.grownBy w' none) : x.At w' := ⟨h.1, h.2.grown hk⟩
theorem To.At.grown {w w' : World} {x : To} (h : x.At w) (hk : w.grownBy w' none) : x.At w' := ⟨h.1.grown hk, h.2.1.grown hk, h.2.2.grown hk⟩
theorem Pp.At.grown {w w' : World} {x : Pp} (h : x.At w) (hk : w.grownBy w' none) : x.At w' := ⟨h.1.grown hk, h.2.1.grown hk, h.2.2.grown hk⟩
theorem Cg.At.grown {w w' : World} {x : Cg} (h : x.At w) (hk : w.grownBy w' none) : x.At w' := ⟨h.1.grown hk, h.2.1.grown hk, h.2.2.1.grown hk, h.2.2.2.grown hk⟩
theorem Msg.At.grown {w w' : World} {m : Msg} (h : m.At w) (hk : w.grownBy w' none) : m.At w' := ⟨h.1.grown hk, h.2.1.grown hk, h.2.2.1.grown hk, h.2.2.2.1, h.2.2.2.2.1.grown hk, h.2.2.2.2.2.grown hk⟩

def sVt (x : Vt) (s : WSt) : WSt := sSg x.s (sDig x.Bl (sTurn x.e x.r s))
def sTo (x : To) (s : WSt) : WSt := sSg x.s (sTc x.l (sQc x.h (sTurn x.e x.r s)))
def sPp (x : Pp) (s : WSt) : WSt := sSg x.s (sTc x.l (sBk x.b s))
def sWt (x : Wt) (s : WSt) : WSt := sDig x.b (sDig x.f s)
def sCg (x : Cg) (s : WSt) : WSt := sQc x.q (sBk x.b3 (sBk x.b2 (sBk x.b1 s)))
def sKind (m : Msg) (s : WSt) : WSt := if m.kind = 1 then sVt m.v s else if m.kind = 2 then sTo m.t s else if m.kind = 3 then sPp m.p s else if m.kind = 4 then sWt m.w s else if m.kind = 5 then sBk m.rb s else if m.kind = 6 then sCg m.c s else s
def sMsg (m : Msg) (s : WSt) : WSt := sKind m (sNum m.kind 1 s)
theorem Sg.At.dig {w : World} {x : Sg} (h : x.At w) : sgDig x := ⟨h.1.sixteen, h.2.sixteen⟩
theorem Tc.At.adds {w : World} {t : Tc} (h : t.At w) : Adds 8257 (sTc t) := adds_tc fun x hx => ⟨(h.2 x hx).1.sixteen, (h.2 x hx).2.sixteen⟩
theorem Vt.At.adds {w : World} {x : Vt} (h : x.At w) : Adds 40000 (sVt x) := (((adds_turn x.e x.r).comp (adds_dig h.1.1)).comp (adds_sg h.2.dig)).mono (by omega)
theorem To.At.adds {w : World} {x : To} (h : x.At w) : Adds 40000 (sTo x) := ((((adds_turn x.e x.r).comp h.1.adds).comp h.2.1.adds).comp (adds_sg h.2.2.dig)).mono (by omega)
theorem Pp.At.adds {w : World} {x : Pp} (h : x.At w) : Adds 40000 (sPp x) := ((h.1.adds.comp h.2.1.adds).comp (adds_sg h.2.2.dig)).mono (by omega)
theorem Wt.At.adds {x : Wt} (h : x.At) : Adds 40000 (sWt x) := ((adds_dig h.1.1).comp (adds_dig h.2.1)).mono (by omega)
theorem Cg.At.adds {w : World} {x : Cg} (h : x.At w) : Adds 40000 (sCg x) := (((h.1.adds.comp h.2.1.adds).comp h.2.2.1.adds).comp h.2.2.2.adds).mono (by omega)
theorem adds_id (c : Nat) : Adds c (fun s => s) := fun s => by show s.2.length ≤ _; omega
theorem Msg.At.adds {w : World} {m : Msg} (h : m.At w) : Adds 40001 (sMsg m) := by
  refine ((adds_num m.kind 1).comp (d := 40000) (g := sKind m) fun s => ?_).mono (by omega)
  unfold sKind
  split
  · exact h.1.adds s
  split
  · exact h.2.1.adds s
  split
  · exact h.2.2.1.adds s
  split
  · exact h.2.2.2.1.adds s
  split
  · exact h.2.2.2.2.1.adds.mono (by omega) s
  split
  · exact h.2.2.2.2.2.adds s
  · omega
end Go.Proofs.YtpdfkgmgmndcfaaDoor
/-
  What codec.write leaves.
-/
namespace Go.Proofs.YtpdfkgmgmndcfaaDoor
open Go.RowKit

/-- What a call leaves that answers bytes or an error. -/
def WOut (w w' : World) (E : Nat → Addr) (s : WSt) (e : Ending) : Prop :=
  w.grownBy w' none ∧ ((s.1 = 0 ∧ ∃ A c, e = .returned (.tuple #[.slice A s.2.length c, .nilIface]) ∧ w'.ownsRow w.heap.size 5 1 (.slice A s.2.length c) s.2.length (Lib.byteCells s.2)) ∨
    (s.1 ≠ 0 ∧ e = .returned (.tuple #[.slice none 0 0, evOf E s.1])))
theorem wr_build (w : World) (g : Nat) : Sem.run Tryd.prog (Instr.build 85 #[(0, .pointer (some ⟨g, 0, none⟩))]) w = .ok (.agg #[.pointer (some ⟨g, 0, none⟩)]) w := by
  refine run_build w 85 _ _ ?_
  kernel_rfl
theorem wr_zero (w : World) : Sem.run Tryd.prog (zeroValue 85) w = .ok (.agg #[.pointer none]) w := zero_run3 w (by kernel_rfl)
end Go.Proofs.YtpdfkgmgmndcfaaDoor
