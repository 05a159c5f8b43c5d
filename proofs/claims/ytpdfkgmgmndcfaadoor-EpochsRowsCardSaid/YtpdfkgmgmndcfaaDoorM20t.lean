/-
  Several texts in one: Sg, CdQ.
-/
import Derived.Test.YtpdfkgmgmndcfaaDoorM20e
import Derived.Test.YtpdfkgmgmndcfaaDoorM20s
import Derived.Test.YtpdfkgmgmndcfaaDoorM20b
/-
  Signatures, and who signed: their cells, rows of them in memory.
-/
namespace Go.Proofs.YtpdfkgmgmndcfaaDoor
open Go.RowKit

/-- A signature's value. -/
def sigV (lf : Int) (c p : Value) : Array Value := #[.int .i64 lf, c, p]
theorem sigV_one (lf : Int) (A1 A2 : Option Addr) (n1 c1 n2 c2 : Nat) : ((sigV lf (.slice A1 n1 c1) (.slice A2 n2 c2)).all fun v => v.oneCell') = true := by simp [sigV, Value.oneCell']
theorem sigV_size (lf : Int) (c p : Value) : (sigV lf c p).size = 3 := rfl
/-- A row of digests, as memory has it. -/
def DigRow (w : World) (A : Option Addr) (n : Nat) (ps : List (List Int)) : Prop := ps.length = n ∧ (∀ p ∈ ps, isDig p) ∧ (n = 0 ∨ ∃ b off, A = some ⟨b, off, none⟩ ∧ DigsAt w b off ps)
theorem DigRow.grown {w w' : World} {A : Option Addr} {n : Nat} {ps : List (List Int)} (h : DigRow w A n ps) (hg : w.grownBy w' none) : DigRow w' A n ps := by
  obtain ⟨h1, h2, h0 | ⟨b, off, e, hD⟩⟩ := h
  · exact ⟨h1, h2, .inl h0⟩
  · exact ⟨h1, h2, .inr ⟨b, off, e, hD.grown hg⟩⟩
/-- A signature with its signer, as memory has it. -/
structure Sg where
  who : Int
  lf : Int
  A1 : Option Addr
  n1 : Nat
  c1 : Nat
  cs : List (List Int)
  A2 : Option Addr
  n2 : Nat
  c2 : Nat
  ps : List (List Int)
def Sg.sig (s : Sg) : Array Value := sigV s.lf (.slice s.A1 s.n1 s.c1) (.slice s.A2 s.n2 s.c2)
def Sg.cells (s : Sg) : Array Value := #[.int .i64 s.who] ++ s.sig
def SgsAt (w : World) (A : Option Addr) (L : List Sg) : Prop := L ≠ [] → ∃ b off, A = some ⟨b, off, none⟩ ∧ ∀ k (h : k < L.length), w.rangeAt b (off + k * 4) L[k].cells.toList
def SgsOk (w : World) (L : List Sg) : Prop := ∀ s ∈ L, DigRow w s.A1 s.n1 s.cs ∧ DigRow w s.A2 s.n2 s.ps
theorem SgsAt.grown {w w' : World} {A : Option Addr} {L : List Sg} (h : SgsAt w A L) (hk : w.grownBy w' none) : SgsAt w' A L := fun hne => by
  obtain ⟨b, off, rfl, hc⟩ := h hne
  exact ⟨b, off, rfl, fun k hk' => range_kept (hc k hk') hk⟩
theorem SgsOk.grown {w w' : World} {L : List Sg} (h : SgsOk w L) (hk : w.grownBy w' none) : SgsOk w' L := fun s hs => ⟨(h s hs).1.grown hk, (h s hs).2.grown hk⟩
theorem range_block {w : World} {b o : Nat} {x : Value} {l : List Value} (h : w.rangeAt b o (x :: l)) : b < w.heap.size := World.block_lt_of_cell? w _ (h 0 x rfl)
theorem sg_one (s : Sg) : (s.cells.all fun v => v.oneCell') = true := by simp [Sg.cells, Sg.sig, sigV, Value.oneCell']
end Go.Proofs.YtpdfkgmgmndcfaaDoor
/-
  Blocks, certificates and the like: as letters, their cells, how they lie in memory, their bytes.
-/
namespace Go.Proofs.YtpdfkgmgmndcfaaDoor
open Go.RowKit

/-- A row of elements of so many cells each. -/
def RowAt {α : Type} (w : World) (A : Option Addr) (cel : α → List Value) (size : Nat) (L : List α) : Prop := L ≠ [] → ∃ b off, A = some ⟨b, off, none⟩ ∧ ∀ k (h : k < L.length), w.rangeAt b (off + k * size) (cel L[k])
theorem RowAt.grown {α : Type} {w w' : World} {A : Option Addr} {cel : α → List Value} {size : Nat} {L : List α} (h : RowAt w A cel size L) (hk : w.grownBy w' none) : RowAt w' A cel size L := fun hne => by
  obtain ⟨b, off, rfl, hc⟩ := h hne
  exact ⟨b, off, rfl, fun k hk' => range_kept (hc k hk') hk⟩
def dgV (d : List Int) : List Value := d.map (Value.int .u8)
theorem dgV_arr (d : List Int) : (dgV d).toArray = arrV .u8 d := by simp [dgV, arrV]
theorem dgV_length (d : List Int) : (dgV d).length = d.length := by simp [dgV]
theorem DigRow.row {w : World} {A : Option Addr} {n : Nat} {ps : List (List Int)} (h : DigRow w A n ps) : RowAt w A dgV 16 ps := fun hne => by
  obtain ⟨h1, h2, h0 | ⟨b, off, e, hD⟩⟩ := h
  · exact absurd (List.length_eq_zero_iff.1 (h1.trans h0)) hne
  · refine ⟨b, off, e, fun k hk => ?_⟩
    have := hD k hk
    rw [List.getD_eq_getElem?_getD, List.getElem?_eq_getElem hk] at this
    simpa [dgV, arrV] using this
/-- A late word. -/
structure Lt where
  who : Int
  high : Int
  lf : Int
  A1 : Option Addr
  n1 : Nat
  c1 : Nat
  cs : List (List Int)
  A2 : Option Addr
  n2 : Nat
  c2 : Nat
  ps : List (List Int)
def Lt.sig (s : Lt) : Array Value := sigV s.lf (.slice s.A1 s.n1 s.c1) (.slice s.A2 s.n2 s.c2)
def Lt.cells (s : Lt) : Array Value := #[.int .i64 s.who, .int .i64 s.high] ++ s.sig
def LtsOk (w : World) (L : List Lt) : Prop := ∀ s ∈ L, DigRow w s.A1 s.n1 s.cs ∧ DigRow w s.A2 s.n2 s.ps
/-- A transaction. -/
structure Tx where
  B : Option Addr
  c : Nat
  l : List UInt8
def Tx.cells (t : Tx) : List Value := [.slice t.B t.l.length t.c]
def TxsOk (w : World) (L : List Tx) : Prop := ∀ t ∈ L, BytesAt w t.B t.l
structure Qc where
  e : Int
  r : Int
  Bl : List Int
  A : Option Addr
  c : Nat
  L : List Sg
def Qc.val (q : Qc) : Array Value := #[.int .i64 q.e, .int .i64 q.r] ++ (arrV .u8 q.Bl ++ #[.slice q.A q.L.length q.c])
def Qc.At (w : World) (q : Qc) : Prop := isDig q.Bl ∧ SgsAt w q.A q.L ∧ SgsOk w q.L
structure Tc where
  e : Int
  r : Int
  A : Option Addr
  c : Nat
  L : List Lt
def Tc.val (t : Tc) : Array Value := #[.int .i64 t.e, .int .i64 t.r, .slice t.A t.L.length t.c]
def Tc.At (w : World) (t : Tc) : Prop := RowAt w t.A (fun s => s.cells.toList) 5 t.L ∧ LtsOk w t.L
structure Bk where
  e : Int
  r : Int
  P : List Int
  q : Qc
  A : Option Addr
  c : Nat
  T : List Tx
  A2 : Option Addr
  c2 : Nat
  V : List Vd
def Bk.val (b : Bk) : Array Value := #[.int .i64 b.e, .int .i64 b.r] ++ (arrV .u8 b.P ++ (b.q.val ++ #[.slice b.A b.T.length b.c, .slice b.A2 b.V.length b.c2]))
def Bk.At (w : World) (b : Bk) : Prop := isDig b.P ∧ b.q.At w ∧ (RowAt w b.A Tx.cells 1 b.T ∧ TxsOk w b.T) ∧ VdsAt w b.A2 b.V ∧ ∀ x ∈ b.V, isDig x.key

def sSg (x : Sg) (s : WSt) : WSt := sSig x.lf x.cs x.ps (sNum x.who 1 s)
def sLt (x : Lt) (s : WSt) : WSt := sSig x.lf x.cs x.ps (sNum x.high 6 (sNum x.who 1 s))
def sVd (x : Vd) (s : WSt) : WSt := sNum x.p 6 (sDig x.key s)
def sTx (t : Tx) (s : WSt) : WSt := sBytes t.l 16 s
def sTurn (e r : Int) (s : WSt) : WSt := sNum r 6 (sNum e 4 s)
def sQc (q : Qc) (s : WSt) : WSt := sPut q.L.length 7 (sAll sSg q.L) (sDig q.Bl (sTurn q.e q.r s))
def sTc (t : Tc) (s : WSt) : WSt := sPut t.L.length 7 (sAll sLt t.L) (sTurn t.e t.r s)
def sBk (b : Bk) (s : WSt) : WSt := sPut b.V.length 7 (sAll sVd b.V) (sPut b.T.length 4 (sAll sTx b.T) (sQc b.q (sDig b.P (sTurn b.e b.r s))))
def sgDig (x : Sg) : Prop := (∀ d ∈ x.cs, d.length = 16) ∧ ∀ d ∈ x.ps, d.length = 16
theorem adds_sg {x : Sg} (h : sgDig x) : Adds 1172 (sSg x) := ((adds_num x.who 1).comp (adds_sig (lf := x.lf) h.1 h.2)).mono (by omega)
theorem adds_lt {x : Lt} (h : (∀ d ∈ x.cs, d.length = 16) ∧ ∀ d ∈ x.ps, d.length = 16) : Adds 1178 (sLt x) := (((adds_num x.who 1).comp (adds_num x.high 6)).comp (adds_sig (lf := x.lf) h.1 h.2)).mono (by omega)
theorem adds_vd {x : Vd} (h : x.key.length = 16) : Adds 22 (sVd x) := ((adds_dig h).comp (adds_num x.p 6)).mono (by omega)
theorem adds_tx (t : Tx) : Adds 18 (sTx t) := (adds_bytes t.l 16).mono (by omega)
theorem adds_turn (e r : Int) : Adds 10 (sTurn e r) := ((adds_num e 4).comp (adds_num r 6)).mono (by omega)
theorem adds_qc {q : Qc} (h : q.Bl.length = 16) (hl : ∀ x ∈ q.L, sgDig x) : Adds 8231 (sQc q) :=
  (((adds_turn q.e q.r).comp (adds_dig h)).comp (adds_put (m := 7) rfl fun _ => adds_all q.L fun x hx => adds_sg (hl x hx))).mono (by omega)
theorem adds_tc {t : Tc} (hl : ∀ x ∈ t.L, (∀ d ∈ x.cs, d.length = 16) ∧ ∀ d ∈ x.ps, d.length = 16) : Adds 8257 (sTc t) :=
  ((adds_turn t.e t.r).comp (adds_put (m := 7) rfl fun _ => adds_all t.L fun x hx => adds_lt (hl x hx))).mono (by omega)
theorem adds_bk {b : Bk} (h : b.P.length = 16) (hq : b.q.Bl.length = 16) (hl : ∀ x ∈ b.q.L, sgDig x) (hv : ∀ x ∈ b.V, x.key.length = 16) : Adds 8486 (sBk b) :=
  (((((adds_turn b.e b.r).comp (adds_dig h)).comp (adds_qc hq hl)).comp (adds_put (m := 4) rfl fun _ => adds_all b.T fun x _ => adds_tx x)).comp (adds_put (m := 7) rfl fun _ => adds_all b.V fun x hx => adds_vd (hv x hx))).mono (by omega)
theorem DigRow.sixteen {w : World} {A : Option Addr} {n : Nat} {ps : List (List Int)} (h : DigRow w A n ps) : ∀ d ∈ ps, d.length = 16 := fun d hd => (h.2.1 d hd).1
theorem SgsOk.dig {w : World} {L : List Sg} (h : SgsOk w L) : ∀ x ∈ L, sgDig x := fun x hx => ⟨(h x hx).1.sixteen, (h x hx).2.sixteen⟩
theorem Bk.At.adds {w : World} {b : Bk} (h : b.At w) : Adds 8486 (sBk b) := adds_bk h.1.1 h.2.1.1.1 h.2.1.2.2.dig fun x hx => (h.2.2.2.2 x hx).1
theorem Qc.At.adds {w : World} {q : Qc} (h : q.At w) : Adds 8231 (sQc q) := adds_qc h.1.1 h.2.2.dig
/-- A block's bytes, or the error's number. -/
def bkS (b : Bk) : WSt := sBk b (0, [])
end Go.Proofs.YtpdfkgmgmndcfaaDoor
