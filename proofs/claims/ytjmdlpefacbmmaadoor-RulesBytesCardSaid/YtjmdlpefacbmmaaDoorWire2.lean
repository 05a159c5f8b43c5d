/-
  More contracts of package wire's Writer: bytes.Clone, Done, Flag, Fixed, Bytes; the Writer with an error.
-/
import Derived.Test.YtjmdlpefacbmmaaDoorWire
namespace Go.Proofs.YtjmdlpefacbmmaaDoor
open Go.RowKit

theorem own_bytesAt {w : World} {base : Nat} {A : Option Addr} {n c : Nat} {l : List UInt8} (h : w.ownsRow base 5 1 (.slice A n c) n (Lib.byteCells l)) : BytesAt w A l := fun hl => by
  have hn : l.length = n := by have := h.1; simpa [Lib.byteCells] using this
  obtain ⟨g, cap, hv⟩ := Joins.ownsRow_form h (by have := List.length_pos_iff.2 hl; omega)
  have hA : A = some ⟨g, 0, none⟩ := by injection hv
  refine ⟨_, hA, fun j hj => h.cells (g := g) (by rw [hv]; rfl) j _ ?_⟩
  simp [Lib.byteCells, List.getElem?_eq_getElem hj]
theorem own_low {w : World} {base : Nat} {e : TypeId} {size : Nat} {A : Option Addr} {n c m : Nat} {xs : List Value} (h : w.ownsRow base e size (.slice A n c) m xs) : ∀ ad, A = some ad → base ≤ ad.block := by
  rintro ad rfl
  exact (h.lt ad.block rfl).1

set_option maxRecDepth 100000 in
set_option maxHeartbeats 400000 in
theorem clone_any (w : World) (A : Option Addr) (n c : Nat) (l : List UInt8) (hn : l.length = n) (hl : BytesAt w A l) (hlen : n ≤ 140737488355328) :
    Calls Tryd.prog 45 #[.slice A n c] w fun e w' => ∃ A' c', e = .returned (.slice A' n c') ∧ w'.ownsRow w.heap.size 5 1 (.slice A' n c') n (Lib.byteCells l) ∧ w.grownBy w' none := by
  obtain ⟨i0, hi, hz0, hz1, hz2⟩ := info_parts u8_info
  have Hlen := Lib.hid hlen
  clear hlen
  have hq : ∀ (w : World) (a : Option Addr) (n c n' c' : Nat), (binOp .eql 36 (.slice a n c) (.slice none n' c')).run Tryd.prog w = .ok (.bool a.isNone) w := fun w a n c n' c' => Lib.run_eql_slice_nil w _ _ a n c n' c' Tryd.underlying36
  subst hn
  rcases A with _ | ad
  · have hl0 : l = [] := by
      rcases l with _ | ⟨x, r⟩
      · rfl
      · obtain ⟨_, h, _⟩ := hl (by simp)
        cases h
    subst hl0
    go_enter Tryd.func45, Tryd.ntmps45
    go_wp2
    go_ret
    exact ⟨none, 0, rfl, World.ownsRow_nil _ _ _ _, World.grownBy.refl _ _⟩
  · go_enter Tryd.func45, Tryd.ntmps45
    go_wp2_with (at_builtin; refine wpList_append_bytes _ rfl _ _ 36 rfl w.heap.size 5 i0 (.int .u8 0) Tryd.underlying36 hi hz0 hz1 hz2 rfl _ _ _ rfl (World.ownsRow_made w #[] 0 (Nat.le_refl _) (Nat.zero_le _) rfl) (some ad) c l rfl (hl.alloc _) ?_ ?_ ?_)
    · simpa using Hlen.out
    · simp
    intro A' cap' w1 hown hgrow _
    go_wp2
    go_ret
    exact ⟨A', cap', rfl, hown, grown_new hgrow⟩

/-! ### Done -/
set_option maxHeartbeats 400000 in
theorem done_ok (w : World) (F : Nat → Prop) (g : Nat) (l : List UInt8) (hw : WrIs w F g .nilIface l) (hl : l.length ≤ 140737488355328) :
    Calls Tryd.prog 33 #[.pointer (some ⟨g, 0, none⟩)] w fun e w' => ∃ A c, e = .returned (.tuple #[.slice A l.length c, .nilIface]) ∧ w'.ownsRow w.heap.size 5 1 (.slice A l.length c) l.length (Lib.byteCells l) ∧ w.grownBy w' none := by
  obtain ⟨hBg, bA, bc, hb, hown, hF⟩ := hw
  have c0 := hb.cell 0
  have c1 := hb.cell 1
  simp at c0 c1
  go_enter Tryd.func33, Tryd.ntmps33
  go_wp2_with (go_at_call 45; refine (clone_any _ bA l.length bc l rfl (own_bytesAt hown) hl).mono ?_; rintro e w1 ⟨A, c, rfl, hown1, hg1⟩)
  go_ret2
  exact ⟨A, c, rfl, hown1, hg1⟩

set_option maxHeartbeats 400000 in
theorem done_err (w : World) (F : Nat → Prop) (g : Nat) (t : TypeId) (v : Value) (l : List UInt8) (hw : WrIs w F g (.iface t v) l) :
    Calls Tryd.prog 33 #[.pointer (some ⟨g, 0, none⟩)] w fun e w' => e = .returned (.tuple #[.slice none 0 0, .iface t v]) ∧ w.grownBy w' none := by
  obtain ⟨hBg, bA, bc, hb, hown, hF⟩ := hw
  have c0 := hb.cell 0
  simp at c0
  go_enter Tryd.func33, Tryd.ntmps33
  go_wp2
  go_quiet (fail)
  go_wp2
  go_ret2
  exact ⟨rfl, rfl, rfl, rfl, Nat.le_refl _, fun _ _ _ => rfl⟩

/-! ### NewWriter, Flag, Fixed, Bytes without an error -/
theorem new_ok (w : World) : Calls Tryd.prog 31 #[] w fun e w' => e = .returned (.pointer (some ⟨w.heap.size, 0, none⟩)) ∧ w' = w.alloc (.cells #[.nilIface, .slice none 0 0] 77) := by
  go_enter Tryd.func31, Tryd.ntmps31
  go_wp2
  go_ret
  exact ⟨rfl, rfl⟩
theorem WrIs.new (w : World) {F : Nat → Prop} (hF : F w.heap.size) : WrIs (w.alloc (.cells #[.nilIface, .slice none 0 0] 77)) F w.heap.size .nilIface [] :=
  ⟨hF, none, 0, Blk.new _ _ _, World.ownsRow_nil _ _ _ _, fun _ h => by cases h⟩

theorem upTo_one {F : Nat → Prop} {a b : Nat} : ∀ k, upTo F (a + 1) b k → upTo F a b k := by
  rintro k (h | ⟨h1, h2⟩)
  · exact .inl h
  · exact .inr ⟨by omega, h2⟩

end Go.Proofs.YtjmdlpefacbmmaaDoor
