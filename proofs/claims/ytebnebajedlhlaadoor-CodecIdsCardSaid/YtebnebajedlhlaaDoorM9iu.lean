/-
  Several texts in one: CdQ, CdMQ.
-/
import Derived.Test.YtebnebajedlhlaaDoorM9is
import Derived.Test.YtebnebajedlhlaaDoorM9it
/-
  Blocks, certificates and the like: as letters, their cells, how they lie in memory, their bytes.
-/
namespace Go.Proofs.YtebnebajedlhlaaDoor
open Go.RowKit

/-- A row of elements of so many cells each. -/
def RowAt {α : Type} (w : World) (A : Option Addr) (cel : α → List Value) (size : Nat) (L : List α) : Prop := L ≠ [] → ∃ b off, A = some ⟨b, off, none⟩ ∧ ∀ k (h : k < L.length), w.rangeAt b (off + k * size) (cel L[k])
theorem RowAt.grown {α : Type} {w w' : World} {A : Option Addr} {cel : α → List Value} {size : Nat} {L : List α} (h : RowAt w A cel size L) (hk : w.grownBy w' none) : RowAt w' A cel size L := fun hne => by
  obtain ⟨b, off, rfl, hc⟩ := h hne
  exact ⟨b, off, rfl, fun k hk' => range_kept (hc k hk') hk⟩
def dgV (d : List Int) : List Value := d.map (Value.int .u8)
theorem dgV_arr (d : List Int) : (dgV d).toArray = arrV .u8 d := by simp [dgV, arrV]
theorem dgV_length (d : List Int) : (dgV d).length = d.length := by simp [dgV]
theorem DigRow.row {w : World} {A : Option Addr} {n : Nat} {ps : List (List Int)} (h : DigRow w A n ps) : RowAt w A dgV 16 ps := fun hne => by
  obtain ⟨h1, h2, h0 | ⟨b, off, e, hD⟩⟩ := h
  · exact absurd (List.length_eq_zero_iff.1 (h1.trans h0)) hne
  · refine ⟨b, off, e, fun k hk => ?_⟩
    have := hD k hk
    rw [List.getD_eq_getElem?_getD, List.getElem?_eq_getElem hk] at this
    simpa [dgV, arrV] using this
/-- A late word. -/
structure Lt where
  who : Int
  high : Int
  lf : Int
  A1 : Option Addr
  n1 : Nat
  c1 : Nat
  cs : List (List Int)
  A2 : Option Addr
  n2 : Nat
  c2 : Nat
  ps : List (List Int)
def Lt.sig (s : Lt) : Array Value := sigV s.lf (.slice s.A1 s.n1 s.c1) (.slice s.A2 s.n2 s.c2)
def Lt.cells (s : Lt) : Array Value := #[.int .i64 s.who, .int .i64 s.high] ++ s.sig
def LtsOk (w : World) (L : List Lt) : Prop := ∀ s ∈ L, DigRow w s.A1 s.n1 s.cs ∧ DigRow w s.A2 s.n2 s.ps
/-- A transaction. -/
structure Tx where
  B : Option Addr
  c : Nat
  l : List UInt8
def Tx.cells (t : Tx) : List Value := [.slice t.B t.l.length t.c]
def TxsOk (w : World) (L : List Tx) : Prop := ∀ t ∈ L, BytesAt w t.B t.l
structure Qc where
  e : Int
  r : Int
  Bl : List Int
  A : Option Addr
  c : Nat
  L : List Sg
def Qc.val (q : Qc) : Array Value := #[.int .i64 q.e, .int .i64 q.r] ++ (arrV .u8 q.Bl ++ #[.slice q.A q.L.length q.c])
def Qc.At (w : World) (q : Qc) : Prop := isDig q.Bl ∧ SgsAt w q.A q.L ∧ SgsOk w q.L
structure Tc where
  e : Int
  r : Int
  A : Option Addr
  c : Nat
  L : List Lt
def Tc.val (t : Tc) : Array Value := #[.int .i64 t.e, .int .i64 t.r, .slice t.A t.L.length t.c]
def Tc.At (w : World) (t : Tc) : Prop := RowAt w t.A (fun s => s.cells.toList) 5 t.L ∧ LtsOk w t.L
structure Bk where
  e : Int
  r : Int
  P : List Int
  q : Qc
  A : Option Addr
  c : Nat
  T : List Tx
  A2 : Option Addr
  c2 : Nat
  V : List Vd
def Bk.val (b : Bk) : Array Value := #[.int .i64 b.e, .int .i64 b.r] ++ (arrV .u8 b.P ++ (b.q.val ++ #[.slice b.A b.T.length b.c, .slice b.A2 b.V.length b.c2]))
def Bk.At (w : World) (b : Bk) : Prop := isDig b.P ∧ b.q.At w ∧ (RowAt w b.A Tx.cells 1 b.T ∧ TxsOk w b.T) ∧ VdsAt w b.A2 b.V ∧ ∀ x ∈ b.V, isDig x.key

def sSg (x : Sg) (s : WSt) : WSt := sSig x.lf x.cs x.ps (sNum x.who 1 s)
def sLt (x : Lt) (s : WSt) : WSt := sSig x.lf x.cs x.ps (sNum x.high 6 (sNum x.who 1 s))
def sVd (x : Vd) (s : WSt) : WSt := sNum x.p 6 (sDig x.key s)
def sTx (t : Tx) (s : WSt) : WSt := sBytes t.l 16 s
def sTurn (e r : Int) (s : WSt) : WSt := sNum r 6 (sNum e 4 s)
def sQc (q : Qc) (s : WSt) : WSt := sPut q.L.length 7 (sAll sSg q.L) (sDig q.Bl (sTurn q.e q.r s))
def sTc (t : Tc) (s : WSt) : WSt := sPut t.L.length 7 (sAll sLt t.L) (sTurn t.e t.r s)
def sBk (b : Bk) (s : WSt) : WSt := sPut b.V.length 7 (sAll sVd b.V) (sPut b.T.length 4 (sAll sTx b.T) (sQc b.q (sDig b.P (sTurn b.e b.r s))))
def sgDig (x : Sg) : Prop := (∀ d ∈ x.cs, d.length = 16) ∧ ∀ d ∈ x.ps, d.length = 16
theorem adds_sg {x : Sg} (h : sgDig x) : Adds 1172 (sSg x) := ((adds_num x.who 1).comp (adds_sig (lf := x.lf) h.1 h.2)).mono (by omega)
theorem adds_lt {x : Lt} (h : (∀ d ∈ x.cs, d.length = 16) ∧ ∀ d ∈ x.ps, d.length = 16) : Adds 1178 (sLt x) := (((adds_num x.who 1).comp (adds_num x.high 6)).comp (adds_sig (lf := x.lf) h.1 h.2)).mono (by omega)
theorem adds_vd {x : Vd} (h : x.key.length = 16) : Adds 22 (sVd x) := ((adds_dig h).comp (adds_num x.p 6)).mono (by omega)
theorem adds_tx (t : Tx) : Adds 18 (sTx t) := (adds_bytes t.l 16).mono (by omega)
theorem adds_turn (e r : Int) : Adds 10 (sTurn e r) := ((adds_num e 4).comp (adds_num r 6)).mono (by omega)
theorem adds_qc {q : Qc} (h : q.Bl.length = 16) (hl : ∀ x ∈ q.L, sgDig x) : Adds 8231 (sQc q) :=
  (((adds_turn q.e q.r).comp (adds_dig h)).comp (adds_put (m := 7) rfl fun _ => adds_all q.L fun x hx => adds_sg (hl x hx))).mono (by omega)
theorem adds_tc {t : Tc} (hl : ∀ x ∈ t.L, (∀ d ∈ x.cs, d.length = 16) ∧ ∀ d ∈ x.ps, d.length = 16) : Adds 8257 (sTc t) :=
  ((adds_turn t.e t.r).comp (adds_put (m := 7) rfl fun _ => adds_all t.L fun x hx => adds_lt (hl x hx))).mono (by omega)
theorem adds_bk {b : Bk} (h : b.P.length = 16) (hq : b.q.Bl.length = 16) (hl : ∀ x ∈ b.q.L, sgDig x) (hv : ∀ x ∈ b.V, x.key.length = 16) : Adds 8486 (sBk b) :=
  (((((adds_turn b.e b.r).comp (adds_dig h)).comp (adds_qc hq hl)).comp (adds_put (m := 4) rfl fun _ => adds_all b.T fun x _ => adds_tx x)).comp (adds_put (m := 7) rfl fun _ => adds_all b.V fun x hx => adds_vd (hv x hx))).mono (by omega)
theorem DigRow.sixteen {w : World} {A : Option Addr} {n : Nat} {ps : List (List Int)} (h : DigRow w A n ps) : ∀ d ∈ ps, d.length = 16 := fun d hd => (h.2.1 d hd).1
theorem SgsOk.dig {w : World} {L : List Sg} (h : SgsOk w L) : ∀ x ∈ L, sgDig x := fun x hx => ⟨(h x hx).1.sixteen, (h x hx).2.sixteen⟩
theorem Bk.At.adds {w : World} {b : Bk} (h : b.At w) : Adds 8486 (sBk b) := adds_bk h.1.1 h.2.1.1.1 h.2.1.2.2.dig fun x hx => (h.2.2.2.2 x hx).1
theorem Qc.At.adds {w : World} {q : Qc} (h : q.At w) : Adds 8231 (sQc q) := adds_qc h.1.1 h.2.2.dig
/-- A block's bytes, or the error's number. -/
def bkS (b : Bk) : WSt := sBk b (0, [])
end Go.Proofs.YtebnebajedlhlaaDoor
/-
  Messages: as letters, their cells, how they lie in memory, their bytes.
-/

namespace Go.Proofs.YtebnebajedlhlaaDoor
open Go.RowKit

structure Vt where
  e : Int
  r : Int
  Bl : List Int
  s : Sg
structure To where
  e : Int
  r : Int
  h : Qc
  l : Tc
  s : Sg
structure Pp where
  b : Bk
  l : Tc
  s : Sg
structure Wt where
  f : List Int
  b : List Int
structure Cg where
  b1 : Bk
  b2 : Bk
  b3 : Bk
  q : Qc
structure Msg where
  kind : Int
  v : Vt
  t : To
  p : Pp
  w : Wt
  rb : Bk
  c : Cg
def Vt.val (x : Vt) : Array Value := #[.int .i64 x.e, .int .i64 x.r] ++ (arrV .u8 x.Bl ++ x.s.cells)
def To.val (x : To) : Array Value := #[.int .i64 x.e, .int .i64 x.r] ++ (x.h.val ++ (x.l.val ++ x.s.cells))
def Pp.val (x : Pp) : Array Value := x.b.val ++ (x.l.val ++ x.s.cells)
def Wt.val (x : Wt) : Array Value := arrV .u8 x.f ++ arrV .u8 x.b
def Cg.val (x : Cg) : Array Value := x.b1.val ++ (x.b2.val ++ (x.b3.val ++ x.q.val))
def Msg.val (m : Msg) : Array Value := #[.int .i64 m.kind] ++ (m.v.val ++ (m.t.val ++ (m.p.val ++ (m.w.val ++ (m.rb.val ++ m.c.val)))))
def Sg.At (w : World) (x : Sg) : Prop := DigRow w x.A1 x.n1 x.cs ∧ DigRow w x.A2 x.n2 x.ps
def Vt.At (w : World) (x : Vt) : Prop := isDig x.Bl ∧ x.s.At w
def To.At (w : World) (x : To) : Prop := x.h.At w ∧ x.l.At w ∧ x.s.At w
def Pp.At (w : World) (x : Pp) : Prop := x.b.At w ∧ x.l.At w ∧ x.s.At w
def Wt.At (x : Wt) : Prop := isDig x.f ∧ isDig x.b
def Cg.At (w : World) (x : Cg) : Prop := x.b1.At w ∧ x.b2.At w ∧ x.b3.At w ∧ x.q.At w
def Msg.At (w : World) (m : Msg) : Prop := m.v.At w ∧ m.t.At w ∧ m.p.At w ∧ m.w.At ∧ m.rb.At w ∧ m.c.At w
theorem Qc.size {w : World} {q : Qc} (h : q.At w) : q.val.size = 19 := by simp [Qc.val, h.1.1]
theorem Tc.size (t : Tc) : t.val.size = 3 := rfl
theorem Sg.size4 (x : Sg) : x.cells.size = 4 := rfl
theorem Bk.size {w : World} {b : Bk} (h : b.At w) : b.val.size = 39 := by simp [Bk.val, Qc.val, h.1.1, h.2.1.1.1]
theorem Vt.size {w : World} {x : Vt} (h : x.At w) : x.val.size = 22 := by simp [Vt.val, h.1.1, Sg.size4]
theorem To.size {w : World} {x : To} (h : x.At w) : x.val.size = 28 := by simp [To.val, Qc.size h.1, Tc.size, Sg.size4]
theorem Pp.size {w : World} {x : Pp} (h : x.At w) : x.val.size = 46 := by simp [Pp.val, Bk.size h.1, Tc.size, Sg.size4]
theorem Wt.size {x : Wt} (h : x.At) : x.val.size = 32 := by simp [Wt.val, h.1.1, h.2.1]
theorem Cg.size {w : World} {x : Cg} (h : x.At w) : x.val.size = 136 := by simp [Cg.val, Bk.size h.1, Bk.size h.2.1, Bk.size h.2.2.1, Qc.size h.2.2.2]
theorem Msg.size {w : World} {m : Msg} (h : m.At w) : m.val.size = 304 := by simp [Msg.val, Vt.size h.1, To.size h.2.1, Pp.size h.2.2.1, Wt.size h.2.2.2.1, Bk.size h.2.2.2.2.1, Cg.size h.2.2.2.2.2]
theorem LtsOk.grown {w w' : World} {L : List Lt} (h : LtsOk w L) (hk : w.grownBy w' none) : LtsOk w' L := fun s hs => ⟨(h s hs).1.grown hk, (h s hs).2.grown hk⟩
theorem Qc.At.grown {w w' : World} {q : Qc} (h : q.At w) (hk : w.grownBy w' none) : q.At w' := ⟨h.1, h.2.1.grown hk, h.2.2.grown hk⟩
theorem Tc.At.grown {w w' : World} {t : Tc} (h : t.At w) (hk : w.grownBy w' none) : t.At w' := ⟨h.1.grown hk, h.2.grown hk⟩
theorem Sg.At.grown {w w' : World} {x : Sg} (h : x.At w) (hk : w.grownBy w' none) : x.At w' := ⟨h.1.grown hk, h.2.grown hk⟩
theorem Bk.At.grown {w w' : World} {b : Bk} (h : b.At w) (hk : w.grownBy w' none) : b.At w' := by
  obtain ⟨h1, h2, ⟨h5, h6⟩, h7, h8⟩ := h
  exact ⟨h1, h2.grown hk, ⟨h5.grown hk, fun t ht => (h6 t ht).grown hk fun _ _ => by simp⟩, h7.grown hk, h8⟩
theorem Vt.At.grown {w w' : World} {x : Vt} (h : x.At w) (hk : w.grownBy w' none) : x.At w' := ⟨h.1, h.2.grown hk⟩
theorem To.At.grown {w w' : World} {x : To} (h : x.At w) (hk : w.grownBy w' none) : x.At w' := ⟨h.1.grown hk, h.2.1.grown hk, h.2.2.grown hk⟩
theorem Pp.At.grown {w w' : World} {x : Pp} (h : x.At w) (hk : w.grownBy w' none) : x.At w' := ⟨h.1.grown hk, h.2.1.grown hk, h.2.2.grown hk⟩
theorem Cg.At.grown {w w' : World} {x : Cg} (h : x.At w) (hk : w.grownBy w' none) : x.At w' := ⟨h.1.grown hk, h.2.1.grown hk, h.2.2.1.grown hk, h.2.2.2.grown hk⟩
theorem Msg.At.grown {w w' : World} {m : Msg} (h : m.At w) (hk : w.grownBy w' none) : m.At w' := ⟨h.1.grown hk, h.2.1.grown hk, h.2.2.1.grown hk, h.2.2.2.1, h.2.2.2.2.1.grown hk, h.2.2.2.2.2.grown hk⟩

def sVt (x : Vt) (s : WSt) : WSt := sSg x.s (sDig x.Bl (sTurn x.e x.r s))
def sTo (x : To) (s : WSt) : WSt := sSg x.s (sTc x.l (sQc x.h (sTurn x.e x.r s)))
def sPp (x : Pp) (s : WSt) : WSt := sSg x.s (sTc x.l (sBk x.b s))
def sWt (x : Wt) (s : WSt) : WSt := sDig x.b (sDig x.f s)
def sCg (x : Cg) (s : WSt) : WSt := sQc x.q (sBk x.b3 (sBk x.b2 (sBk x.b1 s)))
def sKind (m : Msg) (s : WSt) : WSt := if m.kind = 1 then sVt m.v s else if m.kind = 2 then sTo m.t s else if m.kind = 3 then sPp m.p s else if m.kind = 4 then sWt m.w s else if m.kind = 5 then sBk m.rb s else if m.kind = 6 then sCg m.c s else s
def sMsg (m : Msg) (s : WSt) : WSt := sKind m (sNum m.kind 1 s)
theorem Sg.At.dig {w : World} {x : Sg} (h : x.At w) : sgDig x := ⟨h.1.sixteen, h.2.sixteen⟩
theorem Tc.At.adds {w : World} {t : Tc} (h : t.At w) : Adds 8257 (sTc t) := adds_tc fun x hx => ⟨(h.2 x hx).1.sixteen, (h.2 x hx).2.sixteen⟩
theorem Vt.At.adds {w : World} {x : Vt} (h : x.At w) : Adds 40000 (sVt x) := (((adds_turn x.e x.r).comp (adds_dig h.1.1)).comp (adds_sg h.2.dig)).mono (by omega)
theorem To.At.adds {w : World} {x : To} (h : x.At w) : Adds 40000 (sTo x) := ((((adds_turn x.e x.r).comp h.1.adds).comp h.2.1.adds).comp (adds_sg h.2.2.dig)).mono (by omega)
theorem Pp.At.adds {w : World} {x : Pp} (h : x.At w) : Adds 40000 (sPp x) := ((h.1.adds.comp h.2.1.adds).comp (adds_sg h.2.2.dig)).mono (by omega)
theorem Wt.At.adds {x : Wt} (h : x.At) : Adds 40000 (sWt x) := ((adds_dig h.1.1).comp (adds_dig h.2.1)).mono (by omega)
theorem Cg.At.adds {w : World} {x : Cg} (h : x.At w) : Adds 40000 (sCg x) := (((h.1.adds.comp h.2.1.adds).comp h.2.2.1.adds).comp h.2.2.2.adds).mono (by omega)
theorem adds_id (c : Nat) : Adds c (fun s => s) := fun s => by show s.2.length ≤ _; omega
theorem Msg.At.adds {w : World} {m : Msg} (h : m.At w) : Adds 40001 (sMsg m) := by
  refine ((adds_num m.kind 1).comp (d := 40000) (g := sKind m) fun s => ?_).mono (by omega)
  unfold sKind
  split
  · exact h.1.adds s
  split
  · exact h.2.1.adds s
  split
  · exact h.2.2.1.adds s
  split
  · exact h.2.2.2.1.adds s
  split
  · exact h.2.2.2.2.1.adds.mono (by omega) s
  split
  · exact h.2.2.2.2.2.adds s
  · omega
end Go.Proofs.YtebnebajedlhlaaDoor
