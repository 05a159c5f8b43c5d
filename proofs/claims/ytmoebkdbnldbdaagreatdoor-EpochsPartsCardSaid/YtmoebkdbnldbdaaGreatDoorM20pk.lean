/-
  Several texts in one: Sg, CdQ, CdD, Attempt0.
-/
import Derived.Test.YtmoebkdbnldbdaaGreatDoorM20pc
import Derived.Test.YtmoebkdbnldbdaaGreatDoorM20pj
import Derived.Test.YtmoebkdbnldbdaaGreatDoorM20pa
import Derived.Deep.DeepCutAuto
import Derived.Test.YtmoebkdbnldbdaaGreatDoorM20pb
import Derived.Recover
import Derived.Defers
/-
  Signatures, and who signed: their cells, rows of them in memory.
-/
namespace Go.Proofs.YtmoebkdbnldbdaaGreatDoor
open Go.RowKit

/-- A signature's value. -/
def sigV (lf : Int) (c p : Value) : Array Value := #[.int .i64 lf, c, p]
theorem sigV_one (lf : Int) (A1 A2 : Option Addr) (n1 c1 n2 c2 : Nat) : ((sigV lf (.slice A1 n1 c1) (.slice A2 n2 c2)).all fun v => v.oneCell') = true := by simp [sigV, Value.oneCell']
theorem sigV_size (lf : Int) (c p : Value) : (sigV lf c p).size = 3 := rfl
/-- A row of digests, as memory has it. -/
def DigRow (w : World) (A : Option Addr) (n : Nat) (ps : List (List Int)) : Prop := ps.length = n ∧ (∀ p ∈ ps, isDig p) ∧ (n = 0 ∨ ∃ b off, A = some ⟨b, off, none⟩ ∧ DigsAt w b off ps)
theorem DigRow.grown {w w' : World} {A : Option Addr} {n : Nat} {ps : List (List Int)} (h : DigRow w A n ps) (hg : w.grownBy w' none) : DigRow w' A n ps := by
  obtain ⟨h1, h2, h0 | ⟨b, off, e, hD⟩⟩ := h
  · exact ⟨h1, h2, .inl h0⟩
  · exact ⟨h1, h2, .inr ⟨b, off, e, hD.grown hg⟩⟩
/-- A signature with its signer, as memory has it. -/
structure Sg where
  who : Int
  lf : Int
  A1 : Option Addr
  n1 : Nat
  c1 : Nat
  cs : List (List Int)
  A2 : Option Addr
  n2 : Nat
  c2 : Nat
  ps : List (List Int)
def Sg.sig (s : Sg) : Array Value := sigV s.lf (.slice s.A1 s.n1 s.c1) (.slice s.A2 s.n2 s.c2)
def Sg.cells (s : Sg) : Array Value := #[.int .i64 s.who] ++ s.sig
def SgsAt (w : World) (A : Option Addr) (L : List Sg) : Prop := L ≠ [] → ∃ b off, A = some ⟨b, off, none⟩ ∧ ∀ k (h : k < L.length), w.rangeAt b (off + k * 4) L[k].cells.toList
def SgsOk (w : World) (L : List Sg) : Prop := ∀ s ∈ L, DigRow w s.A1 s.n1 s.cs ∧ DigRow w s.A2 s.n2 s.ps
theorem SgsAt.grown {w w' : World} {A : Option Addr} {L : List Sg} (h : SgsAt w A L) (hk : w.grownBy w' none) : SgsAt w' A L := fun hne => by
  obtain ⟨b, off, rfl, hc⟩ := h hne
  exact ⟨b, off, rfl, fun k hk' => range_kept (hc k hk') hk⟩
theorem SgsOk.grown {w w' : World} {L : List Sg} (h : SgsOk w L) (hk : w.grownBy w' none) : SgsOk w' L := fun s hs => ⟨(h s hs).1.grown hk, (h s hs).2.grown hk⟩
theorem range_block {w : World} {b o : Nat} {x : Value} {l : List Value} (h : w.rangeAt b o (x :: l)) : b < w.heap.size := World.block_lt_of_cell? w _ (h 0 x rfl)
theorem sg_one (s : Sg) : (s.cells.all fun v => v.oneCell') = true := by simp [Sg.cells, Sg.sig, sigV, Value.oneCell']
end Go.Proofs.YtmoebkdbnldbdaaGreatDoor
/-
  Blocks, certificates and the like: as letters, their cells, how they lie in memory, their bytes.
-/
namespace Go.Proofs.YtmoebkdbnldbdaaGreatDoor
open Go.RowKit

/-- A row of elements of so many cells each. -/
def RowAt {α : Type} (w : World) (A : Option Addr) (cel : α → List Value) (size : Nat) (L : List α) : Prop := L ≠ [] → ∃ b off, A = some ⟨b, off, none⟩ ∧ ∀ k (h : k < L.length), w.rangeAt b (off + k * size) (cel L[k])
theorem RowAt.grown {α : Type} {w w' : World} {A : Option Addr} {cel : α → List Value} {size : Nat} {L : List α} (h : RowAt w A cel size L) (hk : w.grownBy w' none) : RowAt w' A cel size L := fun hne => by
  obtain ⟨b, off, rfl, hc⟩ := h hne
  exact ⟨b, off, rfl, fun k hk' => range_kept (hc k hk') hk⟩
def dgV (d : List Int) : List Value := d.map (Value.int .u8)
theorem dgV_arr (d : List Int) : (dgV d).toArray = arrV .u8 d := by simp [dgV, arrV]
theorem dgV_length (d : List Int) : (dgV d).length = d.length := by simp [dgV]
theorem DigRow.row {w : World} {A : Option Addr} {n : Nat} {ps : List (List Int)} (h : DigRow w A n ps) : RowAt w A dgV 16 ps := fun hne => by
  obtain ⟨h1, h2, h0 | ⟨b, off, e, hD⟩⟩ := h
  · exact absurd (List.length_eq_zero_iff.1 (h1.trans h0)) hne
  · refine ⟨b, off, e, fun k hk => ?_⟩
    have := hD k hk
    rw [List.getD_eq_getElem?_getD, List.getElem?_eq_getElem hk] at this
    simpa [dgV, arrV] using this
/-- A late word. -/
structure Lt where
  who : Int
  high : Int
  lf : Int
  A1 : Option Addr
  n1 : Nat
  c1 : Nat
  cs : List (List Int)
  A2 : Option Addr
  n2 : Nat
  c2 : Nat
  ps : List (List Int)
def Lt.sig (s : Lt) : Array Value := sigV s.lf (.slice s.A1 s.n1 s.c1) (.slice s.A2 s.n2 s.c2)
def Lt.cells (s : Lt) : Array Value := #[.int .i64 s.who, .int .i64 s.high] ++ s.sig
def LtsOk (w : World) (L : List Lt) : Prop := ∀ s ∈ L, DigRow w s.A1 s.n1 s.cs ∧ DigRow w s.A2 s.n2 s.ps
/-- A transaction. -/
structure Tx where
  B : Option Addr
  c : Nat
  l : List UInt8
def Tx.cells (t : Tx) : List Value := [.slice t.B t.l.length t.c]
def TxsOk (w : World) (L : List Tx) : Prop := ∀ t ∈ L, BytesAt w t.B t.l
structure Qc where
  e : Int
  r : Int
  Bl : List Int
  A : Option Addr
  c : Nat
  L : List Sg
def Qc.val (q : Qc) : Array Value := #[.int .i64 q.e, .int .i64 q.r] ++ (arrV .u8 q.Bl ++ #[.slice q.A q.L.length q.c])
def Qc.At (w : World) (q : Qc) : Prop := isDig q.Bl ∧ SgsAt w q.A q.L ∧ SgsOk w q.L
structure Tc where
  e : Int
  r : Int
  A : Option Addr
  c : Nat
  L : List Lt
def Tc.val (t : Tc) : Array Value := #[.int .i64 t.e, .int .i64 t.r, .slice t.A t.L.length t.c]
def Tc.At (w : World) (t : Tc) : Prop := RowAt w t.A (fun s => s.cells.toList) 5 t.L ∧ LtsOk w t.L
structure Bk where
  e : Int
  r : Int
  P : List Int
  q : Qc
  A : Option Addr
  c : Nat
  T : List Tx
  A2 : Option Addr
  c2 : Nat
  V : List Vd
def Bk.val (b : Bk) : Array Value := #[.int .i64 b.e, .int .i64 b.r] ++ (arrV .u8 b.P ++ (b.q.val ++ #[.slice b.A b.T.length b.c, .slice b.A2 b.V.length b.c2]))
def Bk.At (w : World) (b : Bk) : Prop := isDig b.P ∧ b.q.At w ∧ (RowAt w b.A Tx.cells 1 b.T ∧ TxsOk w b.T) ∧ VdsAt w b.A2 b.V ∧ ∀ x ∈ b.V, isDig x.key

def sSg (x : Sg) (s : WSt) : WSt := sSig x.lf x.cs x.ps (sNum x.who 1 s)
def sLt (x : Lt) (s : WSt) : WSt := sSig x.lf x.cs x.ps (sNum x.high 6 (sNum x.who 1 s))
def sVd (x : Vd) (s : WSt) : WSt := sNum x.p 6 (sDig x.key s)
def sTx (t : Tx) (s : WSt) : WSt := sBytes t.l 16 s
def sTurn (e r : Int) (s : WSt) : WSt := sNum r 6 (sNum e 4 s)
def sQc (q : Qc) (s : WSt) : WSt := sPut q.L.length 7 (sAll sSg q.L) (sDig q.Bl (sTurn q.e q.r s))
def sTc (t : Tc) (s : WSt) : WSt := sPut t.L.length 7 (sAll sLt t.L) (sTurn t.e t.r s)
def sBk (b : Bk) (s : WSt) : WSt := sPut b.V.length 7 (sAll sVd b.V) (sPut b.T.length 4 (sAll sTx b.T) (sQc b.q (sDig b.P (sTurn b.e b.r s))))
def sgDig (x : Sg) : Prop := (∀ d ∈ x.cs, d.length = 16) ∧ ∀ d ∈ x.ps, d.length = 16
theorem adds_sg {x : Sg} (h : sgDig x) : Adds 1172 (sSg x) := ((adds_num x.who 1).comp (adds_sig (lf := x.lf) h.1 h.2)).mono (by omega)
theorem adds_lt {x : Lt} (h : (∀ d ∈ x.cs, d.length = 16) ∧ ∀ d ∈ x.ps, d.length = 16) : Adds 1178 (sLt x) := (((adds_num x.who 1).comp (adds_num x.high 6)).comp (adds_sig (lf := x.lf) h.1 h.2)).mono (by omega)
theorem adds_vd {x : Vd} (h : x.key.length = 16) : Adds 22 (sVd x) := ((adds_dig h).comp (adds_num x.p 6)).mono (by omega)
theorem adds_tx (t : Tx) : Adds 18 (sTx t) := (adds_bytes t.l 16).mono (by omega)
theorem adds_turn (e r : Int) : Adds 10 (sTurn e r) := ((adds_num e 4).comp (adds_num r 6)).mono (by omega)
theorem adds_qc {q : Qc} (h : q.Bl.length = 16) (hl : ∀ x ∈ q.L, sgDig x) : Adds 8231 (sQc q) :=
  (((adds_turn q.e q.r).comp (adds_dig h)).comp (adds_put (m := 7) rfl fun _ => adds_all q.L fun x hx => adds_sg (hl x hx))).mono (by omega)
theorem adds_tc {t : Tc} (hl : ∀ x ∈ t.L, (∀ d ∈ x.cs, d.length = 16) ∧ ∀ d ∈ x.ps, d.length = 16) : Adds 8257 (sTc t) :=
  ((adds_turn t.e t.r).comp (adds_put (m := 7) rfl fun _ => adds_all t.L fun x hx => adds_lt (hl x hx))).mono (by omega)
theorem adds_bk {b : Bk} (h : b.P.length = 16) (hq : b.q.Bl.length = 16) (hl : ∀ x ∈ b.q.L, sgDig x) (hv : ∀ x ∈ b.V, x.key.length = 16) : Adds 8486 (sBk b) :=
  (((((adds_turn b.e b.r).comp (adds_dig h)).comp (adds_qc hq hl)).comp (adds_put (m := 4) rfl fun _ => adds_all b.T fun x _ => adds_tx x)).comp (adds_put (m := 7) rfl fun _ => adds_all b.V fun x hx => adds_vd (hv x hx))).mono (by omega)
theorem DigRow.sixteen {w : World} {A : Option Addr} {n : Nat} {ps : List (List Int)} (h : DigRow w A n ps) : ∀ d ∈ ps, d.length = 16 := fun d hd => (h.2.1 d hd).1
theorem SgsOk.dig {w : World} {L : List Sg} (h : SgsOk w L) : ∀ x ∈ L, sgDig x := fun x hx => ⟨(h x hx).1.sixteen, (h x hx).2.sixteen⟩
theorem Bk.At.adds {w : World} {b : Bk} (h : b.At w) : Adds 8486 (sBk b) := adds_bk h.1.1 h.2.1.1.1 h.2.1.2.2.dig fun x hx => (h.2.2.2.2 x hx).1
theorem Qc.At.adds {w : World} {q : Qc} (h : q.At w) : Adds 8231 (sQc q) := adds_qc h.1.1 h.2.2.dig
/-- A block's bytes, or the error's number. -/
def bkS (b : Bk) : WSt := sBk b (0, [])
end Go.Proofs.YtmoebkdbnldbdaaGreatDoor
/-
  A digest that is written.
-/
namespace Go.Proofs.YtmoebkdbnldbdaaGreatDoor
open Go.RowKit

theorem dg_bytes {w : World} {q : Nat} {t : TypeId} {d : List Int} (hd : isDig d) (h : Blk w q t (arrV .u8 d)) : BytesAt w (some ⟨q, 0, none⟩) (dgB d) := fun _ => ⟨_, rfl, fun j hj => by
  have hj2 : j < d.length := by rwa [dgB_length] at hj
  rw [addr_zero_addK20, h.cell]
  have hz := hd.2 d[j] (List.getElem_mem hj2)
  have e : (((UInt8.ofNat d[j].toNat).toNat : Nat) : Int) = d[j] := by
    rw [UInt8.toNat_ofNat', Nat.mod_eq_of_lt (by omega)]
    omega
  simp only [dgB, List.getElem_map, e]
  simp [arrV, List.getElem?_eq_getElem hj2]⟩
theorem BytesAt.drew {w : World} {A : Option Addr} {l : List UInt8} (h : BytesAt w A l) : BytesAt w.drew A l := h
section
variable {w0 w : World} {E : Nat → Addr} {g : Nat} {F : Nat → Prop} {s : WSt}
set_option maxRecDepth 100000 in
set_option maxHeartbeats 1000000 in
theorem digest_st (h : WI w0 E g F s w) (hs : s.2.length ≤ 70368744177664) (d : List Int) (hd : isDig d) (dd : Array Value) (hdd : dd = arrV .u8 d) :
    Calls Tryz.prog 61 #[.agg #[.pointer (some ⟨g, 0, none⟩)], .agg dd] w fun e w' => e = .returned (.tuple #[]) ∧ WP w0 E g F (sDig d s) w w' := by
  have h16 : dd.size = 16 := by rw [hdd, arr_size, hd.1]
  obtain ⟨W1, hW1⟩ : ∃ W1, (w.alloc (.cells #[.pointer (some ⟨g, 0, none⟩)] 118)).alloc (.cells dd 24) = W1 := ⟨_, rfl⟩
  have g1 : w.grownBy W1 none := by rw [← hW1]; exact grown_trans (World.grownBy_alloc _ _ none) (World.grownBy_alloc _ _ none)
  have bw : Blk W1 w.heap.size 118 #[.pointer (some ⟨g, 0, none⟩)] := by rw [← hW1]; exact (Blk.new w _ _).alloc _
  have bx : Blk W1 (w.heap.size + 1) 24 dd := by
    have := Blk.new (w.alloc (.cells #[.pointer (some ⟨g, 0, none⟩)] 118)) 24 dd
    rw [← hW1]; simpa using this
  have hx : BytesAt W1 (some ⟨w.heap.size + 1, 0, none⟩) (dgB d) := dg_bytes hd (hdd ▸ bx)
  have P1 := h.grown g1
  have c0 : W1.cell? ⟨w.heap.size, 0, none⟩ = some (.pointer (some ⟨g, 0, none⟩)) := by simpa using bw.cell 0
  have hsl := dig_slice
  have hl16 : (dgB d).length = 16 := by rw [dgB_length, hd.1]
  have HQ := Lib.hid (fixed_st P1.drew.wi hs (some ⟨w.heap.size + 1, 0, none⟩) 16 16 (dgB d) hl16 (by omega) hx.drew)
  have HP := Lib.hid P1
  have HW := Lib.hid hW1
  clear hx P1 hd hdd bx bw g1 hW1 h hl16
  go_enter Tryz.func61, Tryz.ntmps61
  go_upto_region 1 with (fail)
  rw [HW.out]
  go_region_with (go_at_call 77; refine HQ.out.mono ?_; rintro e w1 ⟨rfl, q⟩; replace q := Lib.hid q)
  all_goals
    go_wp2
    first | go_end0 | refine bodyPost_ret (results_none rfl _ _ _) rfl ?_
    exact ⟨rfl, HP.out.drew.trans q.out⟩
theorem el_Dg (_he : ErrAt w0 w0.heap.size 1 (E 0)) (h : WI w0 E g F s w) (hs : s.2.length ≤ 3500000) (x : List Int) (hx : isDig x) (cs : Array Value) (hcs : cs = (dgV x).toArray) :
    Calls Tryz.prog 61 #[.agg #[.pointer (some ⟨g, 0, none⟩)], .agg cs] w fun e w' => e = .returned (.tuple #[]) ∧ WP w0 E g F (sDig x s) w w' :=
  digest_st h (by omega) x hx cs (by rw [hcs, dgV_arr])
end
end Go.Proofs.YtmoebkdbnldbdaaGreatDoor
/-
  attempt: a call that ends without a panic ends so, and its deferred closure does nothing.
-/
namespace Go.Proofs.YtmoebkdbnldbdaaGreatDoor
open Go.RowKit

theorem catch_idle0 (p : Addr) (w : World) :
    CallsD Tryz.prog 107 #[.pointer (some p)] .returning w fun e u' w' => e = .returned (.tuple #[]) ∧ u' = .returning ∧ w' = w := by
  refine callsD_of_wpS Tryz.func107 rfl fun c₀ cs hu => ?_
  apply wpS_seq
  apply wpS_region
  simp [wpOpsS, go_sem, recoverD, hu, Tryz.ntmps107, Exit.thenS]
  refine wpS_cond (t := false) (by simp [Act.eval, Array.replicate]) ?_
  simp only [Bool.false_eq_true, if_false]
  refine wpS_of_wp (wp_skip ?_)
  cases c₀
  simp_all [bodyPostS, results, Tryz.results107]

set_option maxRecDepth 100000 in
theorem attempt_ok0 (p : Addr) (fn : FuncId) (caps : Array Value) (w : World) (R : World → Prop) (hE : ∀ (args : Array Value) (w : World), (callFunc fn args).run Tryz.prog w = .ok (.enter fn args) w)
    (hC : Calls Tryz.prog fn caps (w.alloc (.cells #[.pointer (some p)] 192)) fun e w' => e = .returned (.tuple #[]) ∧ R w') :
    Calls Tryz.prog 96 #[.pointer (some p), .func (.func fn) #[] caps] w fun e w' => e = .returned (.tuple #[]) ∧ R w' := by
  have HC := Lib.hid hC
  clear hC
  have hmf : ∀ (fn : Fn) (first cap : Array Value) (w : World), (Instr.makeFunc fn first cap).run Tryz.prog w = .ok (.func fn first cap) w := fun _ _ _ _ => rfl
  go_enter_defers Tryz.func96, Tryz.ntmps96
  go_wp2_with fail
  refine HC.out.mono ?_
  rintro e w1 ⟨rfl, hR⟩
  go_wp2_with fail
  refine leaves_cons (f := 107) (args := #[.pointer (some ⟨w.heap.size, 0, none⟩)]) (by simp) (by simp [go_sem]) ?_
  refine (catch_idle0 ⟨w.heap.size, 0, none⟩ _).mono ?_
  rintro e u' w'' ⟨rfl, rfl, rfl⟩
  exact ⟨_, results_none rfl _ _ _, rfl, hR⟩
end Go.Proofs.YtmoebkdbnldbdaaGreatDoor
