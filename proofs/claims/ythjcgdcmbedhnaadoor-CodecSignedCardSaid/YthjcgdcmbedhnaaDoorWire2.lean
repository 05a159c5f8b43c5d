/-
  More contracts of package wire's Writer: bytes.Clone, Done, Flag, Fixed, Bytes; the Writer with an error.
-/
import Derived.Test.YthjcgdcmbedhnaaDoorWire
namespace Go.Proofs.YthjcgdcmbedhnaaDoor
open Go.RowKit

theorem own_bytesAt {w : World} {base : Nat} {A : Option Addr} {n c : Nat} {l : List UInt8} (h : w.ownsRow base 5 1 (.slice A n c) n (Lib.byteCells l)) : BytesAt w A l := fun hl => by
  have hn : l.length = n := by have := h.1; simpa [Lib.byteCells] using this
  obtain ⟨g, cap, hv⟩ := Joins.ownsRow_form h (by have := List.length_pos_iff.2 hl; omega)
  have hA : A = some ⟨g, 0, none⟩ := by injection hv
  refine ⟨_, hA, fun j hj => h.cells (g := g) (by rw [hv]; rfl) j _ ?_⟩
  simp [Lib.byteCells, List.getElem?_eq_getElem hj]
theorem own_low {w : World} {base : Nat} {e : TypeId} {size : Nat} {A : Option Addr} {n c m : Nat} {xs : List Value} (h : w.ownsRow base e size (.slice A n c) m xs) : ∀ ad, A = some ad → base ≤ ad.block := by
  rintro ad rfl
  exact (h.lt ad.block rfl).1

set_option maxRecDepth 100000 in
set_option maxHeartbeats 400000 in
theorem clone_any (w : World) (A : Option Addr) (n c : Nat) (l : List UInt8) (hn : l.length = n) (hl : BytesAt w A l) (hlen : n ≤ 140737488355328) :
    Calls Tryd.prog 57 #[.slice A n c] w fun e w' => ∃ A' c', e = .returned (.slice A' n c') ∧ w'.ownsRow w.heap.size 5 1 (.slice A' n c') n (Lib.byteCells l) ∧ w.grownBy w' none := by
  obtain ⟨i0, hi, hz0, hz1, hz2⟩ := info_parts u8_info
  have Hlen := Lib.hid hlen
  clear hlen
  have hq : ∀ (w : World) (a : Option Addr) (n c n' c' : Nat), (binOp .eql 37 (.slice a n c) (.slice none n' c')).run Tryd.prog w = .ok (.bool a.isNone) w := fun w a n c n' c' => Lib.run_eql_slice_nil w _ _ a n c n' c' Tryd.underlying37
  subst hn
  rcases A with _ | ad
  · have hl0 : l = [] := by
      rcases l with _ | ⟨x, r⟩
      · rfl
      · obtain ⟨_, h, _⟩ := hl (by simp)
        cases h
    subst hl0
    go_enter Tryd.func57, Tryd.ntmps57
    go_wp2
    go_ret
    exact ⟨none, 0, rfl, World.ownsRow_nil _ _ _ _, World.grownBy.refl _ _⟩
  · go_enter Tryd.func57, Tryd.ntmps57
    go_wp2_with (at_builtin; refine wpList_append_bytes _ rfl _ _ 37 rfl w.heap.size 5 i0 (.int .u8 0) Tryd.underlying37 hi hz0 hz1 hz2 rfl _ _ _ rfl (World.ownsRow_made w #[] 0 (Nat.le_refl _) (Nat.zero_le _) rfl) (some ad) c l rfl (hl.alloc _) ?_ ?_ ?_)
    · simpa using Hlen.out
    · simp
    intro A' cap' w1 hown hgrow _
    go_wp2
    go_ret
    exact ⟨A', cap', rfl, hown, grown_new hgrow⟩

/-! ### Done -/
set_option maxHeartbeats 400000 in
theorem done_ok (w : World) (F : Nat → Prop) (g : Nat) (l : List UInt8) (hw : WrIs w F g .nilIface l) (hl : l.length ≤ 140737488355328) :
    Calls Tryd.prog 38 #[.pointer (some ⟨g, 0, none⟩)] w fun e w' => ∃ A c, e = .returned (.tuple #[.slice A l.length c, .nilIface]) ∧ w'.ownsRow w.heap.size 5 1 (.slice A l.length c) l.length (Lib.byteCells l) ∧ w.grownBy w' none := by
  obtain ⟨hBg, bA, bc, hb, hown, hF⟩ := hw
  have c0 := hb.cell 0
  have c1 := hb.cell 1
  simp at c0 c1
  go_enter Tryd.func38, Tryd.ntmps38
  go_wp2_with (go_at_call 57; refine (clone_any _ bA l.length bc l rfl (own_bytesAt hown) hl).mono ?_; rintro e w1 ⟨A, c, rfl, hown1, hg1⟩)
  go_ret2
  exact ⟨A, c, rfl, hown1, hg1⟩

set_option maxHeartbeats 400000 in
theorem done_err (w : World) (F : Nat → Prop) (g : Nat) (t : TypeId) (v : Value) (l : List UInt8) (hw : WrIs w F g (.iface t v) l) :
    Calls Tryd.prog 38 #[.pointer (some ⟨g, 0, none⟩)] w fun e w' => e = .returned (.tuple #[.slice none 0 0, .iface t v]) ∧ w.grownBy w' none := by
  obtain ⟨hBg, bA, bc, hb, hown, hF⟩ := hw
  have c0 := hb.cell 0
  simp at c0
  go_enter Tryd.func38, Tryd.ntmps38
  go_wp2
  go_quiet (fail)
  go_wp2
  go_ret2
  exact ⟨rfl, rfl, rfl, rfl, Nat.le_refl _, fun _ _ _ => rfl⟩

/-! ### NewWriter, Flag, Fixed, Bytes without an error -/
theorem new_ok (w : World) : Calls Tryd.prog 37 #[] w fun e w' => e = .returned (.pointer (some ⟨w.heap.size, 0, none⟩)) ∧ w' = w.alloc (.cells #[.nilIface, .slice none 0 0] 131) := by
  go_enter Tryd.func37, Tryd.ntmps37
  go_wp2
  go_ret
  exact ⟨rfl, rfl⟩
theorem WrIs.new (w : World) {F : Nat → Prop} (hF : F w.heap.size) : WrIs (w.alloc (.cells #[.nilIface, .slice none 0 0] 131)) F w.heap.size .nilIface [] :=
  ⟨hF, none, 0, Blk.new _ _ _, World.ownsRow_nil _ _ _ _, fun _ h => by cases h⟩

theorem fixed_ok (w : World) (F : Nat → Prop) (g : Nat) (l : List UInt8) (A : Option Addr) (m c : Nat) (x : List UInt8) (hm : x.length = m) (hw : WrIs w F g .nilIface l) (hx : BytesAt w A x)
    (hn : l.length + x.length ≤ 140737488355328) :
    Calls Tryd.prog 58 #[.pointer (some ⟨g, 0, none⟩), .slice A m c] w fun e w' => e = .returned (.tuple #[]) ∧ WrIs w' (upTo F w.heap.size w'.heap.size) g .nilIface (l ++ x) ∧ Kept F w w' := by
  go_enter Tryd.func58, Tryd.ntmps58
  go_wp2_with (go_at_call 68; refine (write_ok _ F g l A m c x hm hw hx hn).mono ?_; rintro e w1 ⟨rfl, hw1, hb1⟩)
  go_end0
  exact ⟨rfl, hw1, hb1⟩

theorem upTo_one {F : Nat → Prop} {a b : Nat} : ∀ k, upTo F (a + 1) b k → upTo F a b k := by
  rintro k (h | ⟨h1, h2⟩)
  · exact .inl h
  · exact .inr ⟨by omega, h2⟩

set_option maxHeartbeats 400000 in
theorem bytes_ok (w : World) (F : Nat → Prop) (g : Nat) (l : List UInt8) (A : Option Addr) (m c : Nat) (most : Int) (x : List UInt8) (hm : x.length = m) (hw : WrIs w F g .nilIface l) (hx : BytesAt w A x) (hA : ∀ ad, A = some ad → x ≠ [] → ¬ F ad.block)
    (hn : l.length ≤ 70368744177664) (h1 : (m : Int) ≤ most) (h2 : m ≤ 65535) :
    Calls Tryd.prog 63 #[.pointer (some ⟨g, 0, none⟩), .slice A m c, .int .i64 most] w fun e w' => e = .returned (.tuple #[]) ∧ WrIs w' (upTo F w.heap.size w'.heap.size) g .nilIface (l ++ (be 2 m ++ x)) ∧ Kept F w w' := by
  have a1 : decide (most < (m : Int)) = false := by simp; omega
  have a2 : decide ((65535 : Int) < (m : Int)) = false := by simp; omega
  have Hm := Lib.hid hm
  clear hm
  go_enter Tryd.func63, Tryd.ntmps63
  go_wp2_with fail
  refine (number_ok _ F g l m 2 hw (by omega) (by omega) (by omega) hn).mono ?_
  rintro e w1 ⟨rfl, hw1, hb1⟩
  go_wp2_with fail
  refine (fixed_ok _ _ g _ A m _ x Hm.out hw1 (hx.kept' hb1 hA) ?_).mono ?_
  · have := Hm.out; simp [be_length]; omega
  rintro e w2 ⟨rfl, hw2, hb2⟩
  go_wp2_with fail
  go_end0
  have s1 := hb1.size
  have s2 := hb2.size
  exact ⟨rfl, by simpa using hw2.mono fun k _ h => upTo_le s1 s2 k h, hb1.trans hb2⟩
end Go.Proofs.YthjcgdcmbedhnaaDoor
