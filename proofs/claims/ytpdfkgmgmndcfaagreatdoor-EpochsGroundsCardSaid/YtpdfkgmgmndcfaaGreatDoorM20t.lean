/-
  Several texts in one: CdMQ, Wire2.
-/
import Derived.Test.YtpdfkgmgmndcfaaGreatDoorM20s
import Derived.Test.YtpdfkgmgmndcfaaGreatDoorM20b
/-
  Messages: as letters, their cells, how they lie in memory, their bytes.
-/

namespace Go.Proofs.YtpdfkgmgmndcfaaGreatDoor
open Go.RowKit

structure Vt where
  e : Int
  r : Int
  Bl : List Int
  s : Sg
structure To where
  e : Int
  r : Int
  h : Qc
  l : Tc
  s : Sg
structure Pp where
  b : Bk
  l : Tc
  s : Sg
structure Wt where
  f : List Int
  b : List Int
structure Cg where
  b1 : Bk
  b2 : Bk
  b3 : Bk
  q : Qc
structure Msg where
  kind : Int
  v : Vt
  t : To
  p : Pp
  w : Wt
  rb : Bk
  c : Cg
def Vt.val (x : Vt) : Array Value := #[.int .i64 x.e, .int .i64 x.r] ++ (arrV .u8 x.Bl ++ x.s.cells)
def To.val (x : To) : Array Value := #[.int .i64 x.e, .int .i64 x.r] ++ (x.h.val ++ (x.l.val ++ x.s.cells))
def Pp.val (x : Pp) : Array Value := x.b.val ++ (x.l.val ++ x.s.cells)
def Wt.val (x : Wt) : Array Value := arrV .u8 x.f ++ arrV .u8 x.b
def Cg.val (x : Cg) : Array Value := x.b1.val ++ (x.b2.val ++ (x.b3.val ++ x.q.val))
def Msg.val (m : Msg) : Array Value := #[.int .i64 m.kind] ++ (m.v.val ++ (m.t.val ++ (m.p.val ++ (m.w.val ++ (m.rb.val ++ m.c.val)))))
def Sg.At (w : World) (x : Sg) : Prop := DigRow w x.A1 x.n1 x.cs ∧ DigRow w x.A2 x.n2 x.ps
def Vt.At (w : World) (x : Vt) : Prop := isDig x.Bl ∧ x.s.At w
def To.At (w : World) (x : To) : Prop := x.h.At w ∧ x.l.At w ∧ x.s.At w
def Pp.At (w : World) (x : Pp) : Prop := x.b.At w ∧ x.l.At w ∧ x.s.At w
def Wt.At (x : Wt) : Prop := isDig x.f ∧ isDig x.b
def Cg.At (w : World) (x : Cg) : Prop := x.b1.At w ∧ x.b2.At w ∧ x.b3.At w ∧ x.q.At w
def Msg.At (w : World) (m : Msg) : Prop := m.v.At w ∧ m.t.At w ∧ m.p.At w ∧ m.w.At ∧ m.rb.At w ∧ m.c.At w
theorem Qc.size {w : World} {q : Qc} (h : q.At w) : q.val.size = 19 := by simp [Qc.val, h.1.1]
theorem Tc.size (t : Tc) : t.val.size = 3 := rfl
theorem Sg.size4 (x : Sg) : x.cells.size = 4 := rfl
theorem Bk.size {w : World} {b : Bk} (h : b.At w) : b.val.size = 39 := by simp [Bk.val, Qc.val, h.1.1, h.2.1.1.1]
theorem Vt.size {w : World} {x : Vt} (h : x.At w) : x.val.size = 22 := by simp [Vt.val, h.1.1, Sg.size4]
theorem To.size {w : World} {x : To} (h : x.At w) : x.val.size = 28 := by simp [To.val, Qc.size h.1, Tc.size, Sg.size4]
theorem Pp.size {w : World} {x : Pp} (h : x.At w) : x.val.size = 46 := by simp [Pp.val, Bk.size h.1, Tc.size, Sg.size4]
theorem Wt.size {x : Wt} (h : x.At) : x.val.size = 32 := by simp [Wt.val, h.1.1, h.2.1]
theorem Cg.size {w : World} {x : Cg} (h : x.At w) : x.val.size = 136 := by simp [Cg.val, Bk.size h.1, Bk.size h.2.1, Bk.size h.2.2.1, Qc.size h.2.2.2]
theorem Msg.size {w : World} {m : Msg} (h : m.At w) : m.val.size = 304 := by simp [Msg.val, Vt.size h.1, To.size h.2.1, Pp.size h.2.2.1, Wt.size h.2.2.2.1, Bk.size h.2.2.2.2.1, Cg.size h.2.2.2.2.2]
theorem LtsOk.grown {w w' : World} {L : List Lt} (h : LtsOk w L) (hk : w.grownBy w' none) : LtsOk w' L := fun s hs => ⟨(h s hs).1.grown hk, (h s hs).2.grown hk⟩
theorem Qc.At.grown {w w' : World} {q : Qc} (h : q.At w) (hk : w.grownBy w' none) : q.At w' := ⟨h.1, h.2.1.grown hk, h.2.2.grown hk⟩
theorem Tc.At.grown {w w' : World} {t : Tc} (h : t.At w) (hk : w.grownBy w' none) : t.At w' := ⟨h.1.grown hk, h.2.grown hk⟩
theorem Sg.At.grown {w w' : World} {x : Sg} (h : x.At w) (hk : w.grownBy w' none) : x.At w' := ⟨h.1.grown hk, h.2.grown hk⟩
theorem Bk.At.grown {w w' : World} {b : Bk} (h : b.At w) (hk : w.grownBy w' none) : b.At w' := by
  obtain ⟨h1, h2, ⟨h5, h6⟩, h7, h8⟩ := h
  exact ⟨h1, h2.grown hk, ⟨h5.grown hk, fun t ht => (h6 t ht).grown hk fun _ _ => by simp⟩, h7.grown hk, h8⟩
theorem Vt.At.grown {w w' : World} {x : Vt} (h : x.At w) (hk : w.grownBy w' none) : x.At w' := ⟨h.1, h.2.grown hk⟩
theorem To.At.grown {w w' : World} {x : To} (h : x.At w) (hk : w.grownBy w' none) : x.At w' := ⟨h.1.grown hk, h.2.1.grown hk, h.2.2.grown hk⟩
theorem Pp.At.grown {w w' : World} {x : Pp} (h : x.At w) (hk : w.grownBy w' none) : x.At w' := ⟨h.1.grown hk, h.2.1.grown hk, h.2.2.grown hk⟩
theorem Cg.At.grown {w w' : World} {x : Cg} (h : x.At w) (hk : w.grownBy w' none) : x.At w' := ⟨h.1.grown hk, h.2.1.grown hk, h.2.2.1.grown hk, h.2.2.2.grown hk⟩
theorem Msg.At.grown {w w' : World} {m : Msg} (h : m.At w) (hk : w.grownBy w' none) : m.At w' := ⟨h.1.grown hk, h.2.1.grown hk, h.2.2.1.grown hk, h.2.2.2.1, h.2.2.2.2.1.grown hk, h.2.2.2.2.2.grown hk⟩

def sVt (x : Vt) (s : WSt) : WSt := sSg x.s (sDig x.Bl (sTurn x.e x.r s))
def sTo (x : To) (s : WSt) : WSt := sSg x.s (sTc x.l (sQc x.h (sTurn x.e x.r s)))
def sPp (x : Pp) (s : WSt) : WSt := sSg x.s (sTc x.l (sBk x.b s))
def sWt (x : Wt) (s : WSt) : WSt := sDig x.b (sDig x.f s)
def sCg (x : Cg) (s : WSt) : WSt := sQc x.q (sBk x.b3 (sBk x.b2 (sBk x.b1 s)))
def sKind (m : Msg) (s : WSt) : WSt := if m.kind = 1 then sVt m.v s else if m.kind = 2 then sTo m.t s else if m.kind = 3 then sPp m.p s else if m.kind = 4 then sWt m.w s else if m.kind = 5 then sBk m.rb s else if m.kind = 6 then sCg m.c s else s
def sMsg (m : Msg) (s : WSt) : WSt := sKind m (sNum m.kind 1 s)
theorem Sg.At.dig {w : World} {x : Sg} (h : x.At w) : sgDig x := ⟨h.1.sixteen, h.2.sixteen⟩
theorem Tc.At.adds {w : World} {t : Tc} (h : t.At w) : Adds 8257 (sTc t) := adds_tc fun x hx => ⟨(h.2 x hx).1.sixteen, (h.2 x hx).2.sixteen⟩
theorem Vt.At.adds {w : World} {x : Vt} (h : x.At w) : Adds 40000 (sVt x) := (((adds_turn x.e x.r).comp (adds_dig h.1.1)).comp (adds_sg h.2.dig)).mono (by omega)
theorem To.At.adds {w : World} {x : To} (h : x.At w) : Adds 40000 (sTo x) := ((((adds_turn x.e x.r).comp h.1.adds).comp h.2.1.adds).comp (adds_sg h.2.2.dig)).mono (by omega)
theorem Pp.At.adds {w : World} {x : Pp} (h : x.At w) : Adds 40000 (sPp x) := ((h.1.adds.comp h.2.1.adds).comp (adds_sg h.2.2.dig)).mono (by omega)
theorem Wt.At.adds {x : Wt} (h : x.At) : Adds 40000 (sWt x) := ((adds_dig h.1.1).comp (adds_dig h.2.1)).mono (by omega)
theorem Cg.At.adds {w : World} {x : Cg} (h : x.At w) : Adds 40000 (sCg x) := (((h.1.adds.comp h.2.1.adds).comp h.2.2.1.adds).comp h.2.2.2.adds).mono (by omega)
theorem adds_id (c : Nat) : Adds c (fun s => s) := fun s => by show s.2.length ≤ _; omega
theorem Msg.At.adds {w : World} {m : Msg} (h : m.At w) : Adds 40001 (sMsg m) := by
  refine ((adds_num m.kind 1).comp (d := 40000) (g := sKind m) fun s => ?_).mono (by omega)
  unfold sKind
  split
  · exact h.1.adds s
  split
  · exact h.2.1.adds s
  split
  · exact h.2.2.1.adds s
  split
  · exact h.2.2.2.1.adds s
  split
  · exact h.2.2.2.2.1.adds.mono (by omega) s
  split
  · exact h.2.2.2.2.2.adds s
  · omega
end Go.Proofs.YtpdfkgmgmndcfaaGreatDoor
/-
  More contracts of package wire's Writer: bytes.Clone, Done, Flag, Fixed, Bytes; the Writer with an error.
-/

namespace Go.Proofs.YtpdfkgmgmndcfaaGreatDoor
open Go.RowKit

theorem own_bytesAt {w : World} {base : Nat} {A : Option Addr} {n c : Nat} {l : List UInt8} (h : w.ownsRow base 5 1 (.slice A n c) n (Lib.byteCells l)) : BytesAt w A l := fun hl => by
  have hn : l.length = n := by have := h.1; simpa [Lib.byteCells] using this
  obtain ⟨g, cap, hv⟩ := Joins.ownsRow_form h (by have := List.length_pos_iff.2 hl; omega)
  have hA : A = some ⟨g, 0, none⟩ := by injection hv
  refine ⟨_, hA, fun j hj => h.cells (g := g) (by rw [hv]; rfl) j _ ?_⟩
  simp [Lib.byteCells, List.getElem?_eq_getElem hj]
theorem own_low {w : World} {base : Nat} {e : TypeId} {size : Nat} {A : Option Addr} {n c m : Nat} {xs : List Value} (h : w.ownsRow base e size (.slice A n c) m xs) : ∀ ad, A = some ad → base ≤ ad.block := by
  rintro ad rfl
  exact (h.lt ad.block rfl).1

set_option maxRecDepth 100000 in
set_option maxHeartbeats 400000 in
theorem clone_any (w : World) (A : Option Addr) (n c : Nat) (l : List UInt8) (hn : l.length = n) (hl : BytesAt w A l) (hlen : n ≤ 140737488355328) :
    Calls Tryz.prog 68 #[.slice A n c] w fun e w' => ∃ A' c', e = .returned (.slice A' n c') ∧ w'.ownsRow w.heap.size 5 1 (.slice A' n c') n (Lib.byteCells l) ∧ w.grownBy w' none := by
  obtain ⟨i0, hi, hz0, hz1, hz2⟩ := info_parts u8_info
  have Hlen := Lib.hid hlen
  clear hlen
  have hq : ∀ (w : World) (a : Option Addr) (n c n' c' : Nat), (binOp .eql 60 (.slice a n c) (.slice none n' c')).run Tryz.prog w = .ok (.bool a.isNone) w := fun w a n c n' c' => Lib.run_eql_slice_nil w _ _ a n c n' c' Tryz.underlying60
  subst hn
  rcases A with _ | ad
  · have hl0 : l = [] := by
      rcases l with _ | ⟨x, r⟩
      · rfl
      · obtain ⟨_, h, _⟩ := hl (by simp)
        cases h
    subst hl0
    go_enter Tryz.func68, Tryz.ntmps68
    go_wp2
    go_ret
    exact ⟨none, 0, rfl, World.ownsRow_nil _ _ _ _, World.grownBy.refl _ _⟩
  · go_enter Tryz.func68, Tryz.ntmps68
    go_wp2_with (at_builtin; refine wpList_append_bytes _ rfl _ _ 60 rfl w.heap.size 5 i0 (.int .u8 0) Tryz.underlying60 hi hz0 hz1 hz2 rfl _ _ _ rfl (World.ownsRow_made w #[] 0 (Nat.le_refl _) (Nat.zero_le _) rfl) (some ad) c l rfl (hl.alloc _) ?_ ?_ ?_)
    · simpa using Hlen.out
    · simp
    intro A' cap' w1 hown hgrow _
    go_wp2
    go_ret
    exact ⟨A', cap', rfl, hown, grown_new hgrow⟩

/-! ### Done -/
set_option maxHeartbeats 400000 in
theorem done_ok (w : World) (F : Nat → Prop) (g : Nat) (l : List UInt8) (hw : WrIs w F g .nilIface l) (hl : l.length ≤ 140737488355328) :
    Calls Tryz.prog 57 #[.pointer (some ⟨g, 0, none⟩)] w fun e w' => ∃ A c, e = .returned (.tuple #[.slice A l.length c, .nilIface]) ∧ w'.ownsRow w.heap.size 5 1 (.slice A l.length c) l.length (Lib.byteCells l) ∧ w.grownBy w' none := by
  obtain ⟨hBg, bA, bc, hb, hown, hF⟩ := hw
  have c0 := hb.cell 0
  have c1 := hb.cell 1
  simp at c0 c1
  go_enter Tryz.func57, Tryz.ntmps57
  go_wp2_with (go_at_call 68; refine (clone_any _ bA l.length bc l rfl (own_bytesAt hown) hl).mono ?_; rintro e w1 ⟨A, c, rfl, hown1, hg1⟩)
  go_ret2
  exact ⟨A, c, rfl, hown1, hg1⟩

set_option maxHeartbeats 400000 in
theorem done_err (w : World) (F : Nat → Prop) (g : Nat) (t : TypeId) (v : Value) (l : List UInt8) (hw : WrIs w F g (.iface t v) l) :
    Calls Tryz.prog 57 #[.pointer (some ⟨g, 0, none⟩)] w fun e w' => e = .returned (.tuple #[.slice none 0 0, .iface t v]) ∧ w.grownBy w' none := by
  obtain ⟨hBg, bA, bc, hb, hown, hF⟩ := hw
  have c0 := hb.cell 0
  simp at c0
  go_enter Tryz.func57, Tryz.ntmps57
  go_wp2
  go_quiet (fail)
  go_wp2
  go_ret2
  exact ⟨rfl, rfl, rfl, rfl, Nat.le_refl _, fun _ _ _ => rfl⟩

/-! ### NewWriter, Flag, Fixed, Bytes without an error -/
theorem new_ok (w : World) : Calls Tryz.prog 56 #[] w fun e w' => e = .returned (.pointer (some ⟨w.heap.size, 0, none⟩)) ∧ w' = w.alloc (.cells #[.nilIface, .slice none 0 0] 145) := by
  go_enter Tryz.func56, Tryz.ntmps56
  go_wp2
  go_ret
  exact ⟨rfl, rfl⟩
theorem WrIs.new (w : World) {F : Nat → Prop} (hF : F w.heap.size) : WrIs (w.alloc (.cells #[.nilIface, .slice none 0 0] 145)) F w.heap.size .nilIface [] :=
  ⟨hF, none, 0, Blk.new _ _ _, World.ownsRow_nil _ _ _ _, fun _ h => by cases h⟩

theorem fixed_ok (w : World) (F : Nat → Prop) (g : Nat) (l : List UInt8) (A : Option Addr) (m c : Nat) (x : List UInt8) (hm : x.length = m) (hw : WrIs w F g .nilIface l) (hx : BytesAt w A x)
    (hn : l.length + x.length ≤ 140737488355328) :
    Calls Tryz.prog 70 #[.pointer (some ⟨g, 0, none⟩), .slice A m c] w fun e w' => e = .returned (.tuple #[]) ∧ WrIs w' (upTo F w.heap.size w'.heap.size) g .nilIface (l ++ x) ∧ Kept F w w' := by
  go_enter Tryz.func70, Tryz.ntmps70
  go_wp2_with (go_at_call 81; refine (write_ok _ F g l A m c x hm hw hx hn).mono ?_; rintro e w1 ⟨rfl, hw1, hb1⟩)
  go_end0
  exact ⟨rfl, hw1, hb1⟩

theorem upTo_one {F : Nat → Prop} {a b : Nat} : ∀ k, upTo F (a + 1) b k → upTo F a b k := by
  rintro k (h | ⟨h1, h2⟩)
  · exact .inl h
  · exact .inr ⟨by omega, h2⟩

set_option maxHeartbeats 400000 in
theorem bytes_ok (w : World) (F : Nat → Prop) (g : Nat) (l : List UInt8) (A : Option Addr) (m c : Nat) (most : Int) (x : List UInt8) (hm : x.length = m) (hw : WrIs w F g .nilIface l) (hx : BytesAt w A x) (hA : ∀ ad, A = some ad → x ≠ [] → ¬ F ad.block)
    (hn : l.length ≤ 70368744177664) (h1 : (m : Int) ≤ most) (h2 : m ≤ 65535) :
    Calls Tryz.prog 75 #[.pointer (some ⟨g, 0, none⟩), .slice A m c, .int .i64 most] w fun e w' => e = .returned (.tuple #[]) ∧ WrIs w' (upTo F w.heap.size w'.heap.size) g .nilIface (l ++ (be 2 m ++ x)) ∧ Kept F w w' := by
  have a1 : decide (most < (m : Int)) = false := by simp; omega
  have a2 : decide ((65535 : Int) < (m : Int)) = false := by simp; omega
  have Hm := Lib.hid hm
  clear hm
  go_enter Tryz.func75, Tryz.ntmps75
  go_wp2_with fail
  refine (number_ok _ F g l m 2 hw (by omega) (by omega) (by omega) hn).mono ?_
  rintro e w1 ⟨rfl, hw1, hb1⟩
  go_wp2_with fail
  refine (fixed_ok _ _ g _ A m _ x Hm.out hw1 (hx.kept' hb1 hA) ?_).mono ?_
  · have := Hm.out; simp [be_length]; omega
  rintro e w2 ⟨rfl, hw2, hb2⟩
  go_wp2_with fail
  go_end0
  have s1 := hb1.size
  have s2 := hb2.size
  exact ⟨rfl, by simpa using hw2.mono fun k _ h => upTo_le s1 s2 k h, hb1.trans hb2⟩
end Go.Proofs.YtpdfkgmgmndcfaaGreatDoor
