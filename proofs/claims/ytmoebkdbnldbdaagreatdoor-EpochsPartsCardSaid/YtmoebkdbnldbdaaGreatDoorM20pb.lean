/-
  Several texts in one: Wire2, WOps, CdW, Av.
-/
import Derived.Test.YtmoebkdbnldbdaaGreatDoorM20pa
import Derived.Deep.Onto
import Derived.WalkKit
import Derived.ChangeKeysEq
/-
  More contracts of package wire's Writer: bytes.Clone, Done, Flag, Fixed, Bytes; the Writer with an error.
-/

namespace Go.Proofs.YtmoebkdbnldbdaaGreatDoor
open Go.RowKit

theorem own_bytesAt {w : World} {base : Nat} {A : Option Addr} {n c : Nat} {l : List UInt8} (h : w.ownsRow base 5 1 (.slice A n c) n (Lib.byteCells l)) : BytesAt w A l := fun hl => by
  have hn : l.length = n := by have := h.1; simpa [Lib.byteCells] using this
  obtain ⟨g, cap, hv⟩ := Joins.ownsRow_form h (by have := List.length_pos_iff.2 hl; omega)
  have hA : A = some ⟨g, 0, none⟩ := by injection hv
  refine ⟨_, hA, fun j hj => h.cells (g := g) (by rw [hv]; rfl) j _ ?_⟩
  simp [Lib.byteCells, List.getElem?_eq_getElem hj]
theorem own_low {w : World} {base : Nat} {e : TypeId} {size : Nat} {A : Option Addr} {n c m : Nat} {xs : List Value} (h : w.ownsRow base e size (.slice A n c) m xs) : ∀ ad, A = some ad → base ≤ ad.block := by
  rintro ad rfl
  exact (h.lt ad.block rfl).1

set_option maxRecDepth 100000 in
set_option maxHeartbeats 400000 in
theorem clone_any (w : World) (A : Option Addr) (n c : Nat) (l : List UInt8) (hn : l.length = n) (hl : BytesAt w A l) (hlen : n ≤ 140737488355328) :
    Calls Tryz.prog 75 #[.slice A n c] w fun e w' => ∃ A' c', e = .returned (.slice A' n c') ∧ w'.ownsRow w.heap.size 5 1 (.slice A' n c') n (Lib.byteCells l) ∧ w.grownBy w' none := by
  obtain ⟨i0, hi, hz0, hz1, hz2⟩ := info_parts u8_info
  have Hlen := Lib.hid hlen
  clear hlen
  have hq : ∀ (w : World) (a : Option Addr) (n c n' c' : Nat), (binOp .eql 61 (.slice a n c) (.slice none n' c')).run Tryz.prog w = .ok (.bool a.isNone) w := fun w a n c n' c' => Lib.run_eql_slice_nil w _ _ a n c n' c' Tryz.underlying61
  subst hn
  rcases A with _ | ad
  · have hl0 : l = [] := by
      rcases l with _ | ⟨x, r⟩
      · rfl
      · obtain ⟨_, h, _⟩ := hl (by simp)
        cases h
    subst hl0
    go_enter Tryz.func75, Tryz.ntmps75
    go_wp2
    go_ret
    exact ⟨none, 0, rfl, World.ownsRow_nil _ _ _ _, World.grownBy.refl _ _⟩
  · go_enter Tryz.func75, Tryz.ntmps75
    go_wp2_with (at_builtin; refine wpList_append_bytes _ rfl _ _ 61 rfl w.heap.size 5 i0 (.int .u8 0) Tryz.underlying61 hi hz0 hz1 hz2 rfl _ _ _ rfl (World.ownsRow_made w #[] 0 (Nat.le_refl _) (Nat.zero_le _) rfl) (some ad) c l rfl (hl.alloc _) ?_ ?_ ?_)
    · simpa using Hlen.out
    · simp
    intro A' cap' w1 hown hgrow _
    go_wp2
    go_ret
    exact ⟨A', cap', rfl, hown, grown_new hgrow⟩

/-! ### Done -/
set_option maxHeartbeats 400000 in
theorem done_ok (w : World) (F : Nat → Prop) (g : Nat) (l : List UInt8) (hw : WrIs w F g .nilIface l) (hl : l.length ≤ 140737488355328) :
    Calls Tryz.prog 59 #[.pointer (some ⟨g, 0, none⟩)] w fun e w' => ∃ A c, e = .returned (.tuple #[.slice A l.length c, .nilIface]) ∧ w'.ownsRow w.heap.size 5 1 (.slice A l.length c) l.length (Lib.byteCells l) ∧ w.grownBy w' none := by
  obtain ⟨hBg, bA, bc, hb, hown, hF⟩ := hw
  have c0 := hb.cell 0
  have c1 := hb.cell 1
  simp at c0 c1
  go_enter Tryz.func59, Tryz.ntmps59
  go_wp2_with (go_at_call 75; refine (clone_any _ bA l.length bc l rfl (own_bytesAt hown) hl).mono ?_; rintro e w1 ⟨A, c, rfl, hown1, hg1⟩)
  go_ret2
  exact ⟨A, c, rfl, hown1, hg1⟩

set_option maxHeartbeats 400000 in
theorem done_err (w : World) (F : Nat → Prop) (g : Nat) (t : TypeId) (v : Value) (l : List UInt8) (hw : WrIs w F g (.iface t v) l) :
    Calls Tryz.prog 59 #[.pointer (some ⟨g, 0, none⟩)] w fun e w' => e = .returned (.tuple #[.slice none 0 0, .iface t v]) ∧ w.grownBy w' none := by
  obtain ⟨hBg, bA, bc, hb, hown, hF⟩ := hw
  have c0 := hb.cell 0
  simp at c0
  go_enter Tryz.func59, Tryz.ntmps59
  go_wp2
  go_quiet (fail)
  go_wp2
  go_ret2
  exact ⟨rfl, rfl, rfl, rfl, Nat.le_refl _, fun _ _ _ => rfl⟩

/-! ### NewWriter, Flag, Fixed, Bytes without an error -/
theorem new_ok (w : World) : Calls Tryz.prog 58 #[] w fun e w' => e = .returned (.pointer (some ⟨w.heap.size, 0, none⟩)) ∧ w' = w.alloc (.cells #[.nilIface, .slice none 0 0] 163) := by
  go_enter Tryz.func58, Tryz.ntmps58
  go_wp2
  go_ret
  exact ⟨rfl, rfl⟩
theorem WrIs.new (w : World) {F : Nat → Prop} (hF : F w.heap.size) : WrIs (w.alloc (.cells #[.nilIface, .slice none 0 0] 163)) F w.heap.size .nilIface [] :=
  ⟨hF, none, 0, Blk.new _ _ _, World.ownsRow_nil _ _ _ _, fun _ h => by cases h⟩

theorem fixed_ok (w : World) (F : Nat → Prop) (g : Nat) (l : List UInt8) (A : Option Addr) (m c : Nat) (x : List UInt8) (hm : x.length = m) (hw : WrIs w F g .nilIface l) (hx : BytesAt w A x)
    (hn : l.length + x.length ≤ 140737488355328) :
    Calls Tryz.prog 77 #[.pointer (some ⟨g, 0, none⟩), .slice A m c] w fun e w' => e = .returned (.tuple #[]) ∧ WrIs w' (upTo F w.heap.size w'.heap.size) g .nilIface (l ++ x) ∧ Kept F w w' := by
  go_enter Tryz.func77, Tryz.ntmps77
  go_wp2_with (go_at_call 92; refine (write_ok _ F g l A m c x hm hw hx hn).mono ?_; rintro e w1 ⟨rfl, hw1, hb1⟩)
  go_end0
  exact ⟨rfl, hw1, hb1⟩

theorem upTo_one {F : Nat → Prop} {a b : Nat} : ∀ k, upTo F (a + 1) b k → upTo F a b k := by
  rintro k (h | ⟨h1, h2⟩)
  · exact .inl h
  · exact .inr ⟨by omega, h2⟩

set_option maxHeartbeats 400000 in
theorem bytes_ok (w : World) (F : Nat → Prop) (g : Nat) (l : List UInt8) (A : Option Addr) (m c : Nat) (most : Int) (x : List UInt8) (hm : x.length = m) (hw : WrIs w F g .nilIface l) (hx : BytesAt w A x) (hA : ∀ ad, A = some ad → x ≠ [] → ¬ F ad.block)
    (hn : l.length ≤ 70368744177664) (h1 : (m : Int) ≤ most) (h2 : m ≤ 65535) :
    Calls Tryz.prog 82 #[.pointer (some ⟨g, 0, none⟩), .slice A m c, .int .i64 most] w fun e w' => e = .returned (.tuple #[]) ∧ WrIs w' (upTo F w.heap.size w'.heap.size) g .nilIface (l ++ (be 2 m ++ x)) ∧ Kept F w w' := by
  have a1 : decide (most < (m : Int)) = false := by simp; omega
  have a2 : decide ((65535 : Int) < (m : Int)) = false := by simp; omega
  have Hm := Lib.hid hm
  clear hm
  go_enter Tryz.func82, Tryz.ntmps82
  go_wp2_with fail
  refine (number_ok _ F g l m 2 hw (by omega) (by omega) (by omega) hn).mono ?_
  rintro e w1 ⟨rfl, hw1, hb1⟩
  go_wp2_with fail
  refine (fixed_ok _ _ g _ A m _ x Hm.out hw1 (hx.kept' hb1 hA) ?_).mono ?_
  · have := Hm.out; simp [be_length]; omega
  rintro e w2 ⟨rfl, hw2, hb2⟩
  go_wp2_with fail
  go_end0
  have s1 := hb1.size
  have s2 := hb2.size
  exact ⟨rfl, by simpa using hw2.mono fun k _ h => upTo_le s1 s2 k h, hb1.trans hb2⟩
end Go.Proofs.YtmoebkdbnldbdaaGreatDoor
/-
  The Writer's calls with an error.
-/

namespace Go.Proofs.YtmoebkdbnldbdaaGreatDoor
open Go.RowKit

theorem Kept.follow {F G : Nat → Prop} {a b c : World} (h : Kept F a b) (k : Kept G b c) (hF : ∀ k, k < a.heap.size → G k → F k) : Kept F a c :=
  ⟨k.os.trans h.os, k.tape.trans h.tape, k.output.trans h.output, Nat.le_trans h.size k.size, fun i hi hn => (k.block i (Nat.lt_of_lt_of_le hi h.size) (fun hg => hn (hF i hi hg))).trans (h.block i hi hn)⟩

theorem Kept.none_grown {w w' : World} (h : Kept (fun _ => False) w w') : w.grownBy w' none := h.grownNone fun _ _ h => h

set_option maxHeartbeats 400000 in
/-- The Writer has an error: no number is written. -/
theorem number_err (w : World) (F : Nat → Prop) (B g : Nat) (t : TypeId) (v : Value) (l : List UInt8) (a : Addr) (n width : Int) (hw : WrIs w F g (.iface t v) l) (he : ErrAt w B 1 a) :
    Calls Tryz.prog 76 #[.pointer (some ⟨g, 0, none⟩), .int .i64 n, .int .i64 width] w fun e w' => e = .returned (.tuple #[]) ∧ w.grownBy w' none := by
  by_cases hbad : badNum n width = true
  · have hw' := hw
    obtain ⟨hBg, bA, bc, hb, hown, hF⟩ := hw'
    have hr := he.1
    rcases badNum_cases hbad with a1 | ⟨a1, a2⟩ | ⟨a1, a2, a3⟩ | ⟨k, m, rfl, rfl, a1, a2, a3, a4⟩
    all_goals
      clear hbad
      go_enter Tryz.func76, Tryz.ntmps76
      go_wp2_with fail
      go_region_with (go_at_call 91; refine (fail_old _ g 163 t v (.slice bA l.length bc) _ ?_).mono ?_; exact hb.drew; rintro e w1 ⟨rfl, rfl⟩)
      all_goals
        go_wp2
        first | go_end0 | refine bodyPost_ret (results_none rfl _ _ _) rfl ?_
        exact ⟨rfl, rfl, rfl, rfl, Nat.le_refl _, fun _ _ _ => rfl⟩
  · have hf : badNum n width = false := by simpa using hbad
    have h1 : 1 ≤ width ∧ width ≤ 8 ∧ 0 ≤ n ∧ ((n / 2 ^ (8 * width.toNat)) != 0) = false := by
      unfold badNum at hf
      simp only [Bool.or_eq_false_iff, decide_eq_false_iff_not] at hf
      exact ⟨by omega, by omega, by omega, hf.2⟩
    obtain ⟨k, rfl⟩ := Int.eq_ofNat_of_zero_le (show 0 ≤ width by omega)
    obtain ⟨m, rfl⟩ := Int.eq_ofNat_of_zero_le h1.2.2.1
    have a1 : decide ((k : Int) < 1) = false := by simp; omega
    have a2 : decide ((8 : Int) < (k : Int)) = false := by simp; omega
    have a3 : decide ((m : Int) < 0) = false := by simp
    have a4 : (((m : Int) / 2 ^ (8 * k)) != 0) = false := by simpa using h1.2.2.2
    have h8 : k ≤ 8 := by omega
    clear hbad hf h1
    go_enter Tryz.func76, Tryz.ntmps76
    go_wp2_with fail
    go_loopw [6] (fun i wr => ∃ j : Nat, j ≤ k ∧ i = .int .i64 ((j : Int) - 1) ∧ w.grownBy wr none) (fun i _ => (intOf i + 1).toNat)
    case atStart => exact ⟨k, Nat.le_refl _, rfl, World.grownBy.refl _ _⟩
    case round =>
      obtain ⟨j, hj, hi, hg⟩ := hrel
      rcases j with _ | j
      · subst hi
        go_wp2_with fail
        go_end0
        exact ⟨rfl, hg⟩
      · have hi' := hi.trans (show Value.int .i64 (((j + 1 : Nat) : Int) - 1) = .int .i64 (j : Int) by congr 1; omega)
        clear hi
        subst hi'
        have hwr := (hw.grown hg)
        have Hwr := Lib.hid hwr
        clear hwr
        go_wp2_with fail
        refine (write_err _ F g t v l _ 1 _ (Hwr.out.alloc _)).mono ?_
        rintro e w1 ⟨rfl, rfl⟩
        go_wp2_with fail
        go_roundw
        case rel => exact ⟨j, by omega, by go_num, grown_trans hg (World.grownBy_alloc _ _ _)⟩
        case measure => simp [intOf]

theorem be_one (b : UInt8) : be 1 b.toNat = [b] := by simp [be]

theorem fixed_err (w : World) (F : Nat → Prop) (g : Nat) (t : TypeId) (v : Value) (l : List UInt8) (A : Option Addr) (n c : Nat) (hw : WrIs w F g (.iface t v) l) :
    Calls Tryz.prog 77 #[.pointer (some ⟨g, 0, none⟩), .slice A n c] w fun e w' => e = .returned (.tuple #[]) ∧ w = w' := by
  go_enter Tryz.func77, Tryz.ntmps77
  go_wp2_with fail
  refine (write_err w F g t v l A n c hw).mono ?_
  rintro e w1 ⟨rfl, rfl⟩
  go_wp2_with fail
  go_end0
  exact ⟨rfl, rfl⟩

theorem blong_cases {m : Nat} {most : Int} (h : most < (m : Int) ∨ 65535 < m) : decide (most < (m : Int)) = true ∨ (decide (most < (m : Int)) = false ∧ decide ((65535 : Int) < (m : Int)) = true) := by
  by_cases h1 : most < (m : Int)
  · exact .inl (by simpa using h1)
  · exact .inr ⟨by simpa using h1, by simp; omega⟩

set_option maxHeartbeats 400000 in
theorem bytes_bad (w : World) (F : Nat → Prop) (B g : Nat) (l : List UInt8) (a : Addr) (A : Option Addr) (m c : Nat) (most : Int) (hw : WrIs w F g .nilIface l) (he : ErrAt w B 1 a) (hlong : most < (m : Int) ∨ 65535 < m) :
    Calls Tryz.prog 82 #[.pointer (some ⟨g, 0, none⟩), .slice A m c, .int .i64 most] w fun e w' => e = .returned (.tuple #[]) ∧ WrIs w' F g (errV a) l ∧ Kept (fun k => k = g) w w' := by
  have hr := he.1
  have hw' := hw
  obtain ⟨hBg, bA, bc, hb, hown, hF⟩ := hw'
  have Hw := Lib.hid hw
  clear hw
  rcases blong_cases hlong with a1 | ⟨a1, a2⟩
  all_goals
    clear hlong
    go_enter Tryz.func82, Tryz.ntmps82
    go_wp2_with fail
    go_region_with (go_at_call 91; refine (fail_new _ g 163 _ _ (.slice bA l.length bc) ?_).mono ?_; exact hb.drew; rintro e w1 ⟨rfl, rfl⟩)
    all_goals
      go_wp2
      first | go_end0 | refine bodyPost_ret (results_none rfl _ _ _) rfl ?_
      exact ⟨rfl, Hw.out.failed, Kept.of_grown (F := fun k => k = g) (grown_set (w := w) g (errV a)) (fun g' e => by injection e with e; exact e.symm)⟩

set_option maxHeartbeats 400000 in
theorem bytes_err (w : World) (F : Nat → Prop) (B g : Nat) (t : TypeId) (v : Value) (l : List UInt8) (a : Addr) (A : Option Addr) (m c : Nat) (most : Int) (hw : WrIs w F g (.iface t v) l) (he : ErrAt w B 1 a) :
    Calls Tryz.prog 82 #[.pointer (some ⟨g, 0, none⟩), .slice A m c, .int .i64 most] w fun e w' => e = .returned (.tuple #[]) ∧ w.grownBy w' none := by
  have hr := he.1
  by_cases hlong : most < (m : Int) ∨ 65535 < m
  · have hw' := hw
    obtain ⟨hBg, bA, bc, hb, hown, hF⟩ := hw'
    rcases blong_cases hlong with a1 | ⟨a1, a2⟩
    all_goals
      clear hlong
      go_enter Tryz.func82, Tryz.ntmps82
      go_wp2_with fail
      go_region_with (go_at_call 91; refine (fail_old _ g 163 t v (.slice bA l.length bc) _ ?_).mono ?_; exact hb.drew; rintro e w1 ⟨rfl, rfl⟩)
      all_goals
        go_wp2
        first | go_end0 | refine bodyPost_ret (results_none rfl _ _ _) rfl ?_
        exact ⟨rfl, rfl, rfl, rfl, Nat.le_refl _, fun _ _ _ => rfl⟩
  · have a1 : decide (most < (m : Int)) = false := by simp; omega
    have a2 : decide ((65535 : Int) < (m : Int)) = false := by simp; omega
    clear hlong
    go_enter Tryz.func82, Tryz.ntmps82
    go_wp2_with fail
    refine (number_err w F B g t v l a _ 2 hw he).mono ?_
    rintro e w1 ⟨rfl, k1⟩
    go_wp2_with fail
    refine (fixed_err w1 F g t v l A m c (hw.grown k1)).mono ?_
    rintro e w2 ⟨rfl, rfl⟩
    go_wp2_with fail
    go_end0
    exact ⟨rfl, k1⟩

/-! ### one op -/
end Go.Proofs.YtmoebkdbnldbdaaGreatDoor
/-
  A Writer whose call began in the world w0: what is written so far, and that nothing older has turned.
-/
namespace Go.Proofs.YtmoebkdbnldbdaaGreatDoor
open Go.RowKit

abbrev newF (w0 : World) : Nat → Prop := fun k => w0.heap.size ≤ k
/-- The Writer at g, in the blocks F; nothing that was there in w0 has turned. -/
structure WI (w0 : World) (E : Nat → Addr) (g : Nat) (F : Nat → Prop) (s : WSt) (w : World) : Prop where
  wr : WrIs w F g (evOf E s.1) s.2
  low : ∀ k, F k → w0.heap.size ≤ k
  kept : Kept (newF w0) w0 w
/-- What a call leaves that writes. -/
structure WP (w0 : World) (E : Nat → Addr) (g : Nat) (F : Nat → Prop) (s : WSt) (w w' : World) : Prop where
  wi : WI w0 E g (upTo F w.heap.size w'.heap.size) s w'
  fine : Kept F w w'
section
variable {w0 w w' w'' : World} {E : Nat → Addr} {g : Nat} {F : Nat → Prop} {s s' : WSt}
theorem WI.size (h : WI w0 E g F s w) : w0.heap.size ≤ w.heap.size := h.kept.size
theorem WI.next (h : WI w0 E g F s w) (k : Kept F w w') : Kept (newF w0) w0 w' := h.kept.follow k fun j _ hj => h.low j hj
theorem WI.step (h : WI w0 E g F s w) (k : Kept F w w') (hw : WrIs w' (upTo F w.heap.size w'.heap.size) g (evOf E s'.1) s'.2) : WP w0 E g F s' w w' :=
  ⟨⟨hw, fun j hj => by
    rcases hj with h1 | ⟨h1, _⟩
    · exact h.low j h1
    · exact Nat.le_trans h.size h1, h.next k⟩, k⟩
theorem WrIs.upTo {F : Nat → Prop} {v : Value} {l : List UInt8} (h : WrIs w F g v l) (a b : Nat) : WrIs w (upTo F a b) g v l := h.mono fun _ _ h => .inl h
theorem WI.grown (h : WI w0 E g F s w) (hg : w.grownBy w' none) : WP w0 E g F s w w' := h.step (Kept.of_grown hg fun _ e => by cases e) ((h.wr.grown hg).upTo _ _)
theorem WI.same (h : WI w0 E g F s w) : WP w0 E g F s w w := h.grown (World.grownBy.refl _ _)
theorem WP.trans (h : WP w0 E g F s w w') (k : WP w0 E g (upTo F w.heap.size w'.heap.size) s' w' w'') : WP w0 E g F s' w w'' := by
  have z1 := h.fine.size
  have z2 := k.fine.size
  refine ⟨⟨k.wi.wr.mono fun j _ hj => upTo_le z1 z2 j hj, fun j hj => ?_, k.wi.kept⟩, h.fine.trans k.fine⟩
  rcases hj with h1 | ⟨h1, h2⟩
  · exact h.wi.low j (.inl h1)
  · by_cases h3 : j < w'.heap.size
    · exact h.wi.low j (.inr ⟨h1, h3⟩)
    · exact k.wi.low j (.inr ⟨by omega, h2⟩)
theorem WP.alloc (h : WP w0 E g F s w w') (o : Obj) : WP w0 E g F s w (w'.alloc o) := h.trans (h.wi.grown (World.grownBy_alloc _ _ none))
theorem WP.drew (h : WP w0 E g F s w w') : WP w0 E g F s w w'.drew := ⟨⟨h.wi.wr.drew, h.wi.low, h.wi.kept.drew⟩, h.fine.drew⟩
theorem WI.drew (h : WI w0 E g F s w) : WI w0 E g F s w.drew := ⟨h.wr.drew, h.low, h.kept.drew⟩
/-- Blocks of one's own, laid ahead of what writes: they stay. -/
theorem WI.opened (h : WI w0 E g F s w) (hg : w.grownBy w' none) : WI w0 E g (fun k => F k ∧ k < w.heap.size) s w' :=
  ⟨(h.wr.mono (G := fun k => F k ∧ k < w.heap.size) fun _ hj hf => ⟨hf, hj⟩).grown hg, fun j hj => h.low j hj.1, (h.grown hg).wi.kept⟩
theorem WP.closed (hi : WI w0 E g F s' w) (hg : w.grownBy w' none) (k : WP w0 E g (fun k => F k ∧ k < w.heap.size) s w' w'') : WP w0 E g F s w w'' := by
  have z1 := hg.size
  have z2 := k.fine.size
  refine ⟨⟨k.wi.wr.mono fun j _ hj => ?_, fun j hj => ?_, k.wi.kept⟩, (Kept.of_grown (F := F) hg fun _ e => by cases e).follow k.fine fun _ _ hj => hj.1⟩
  · rcases hj with ⟨h1, _⟩ | ⟨h1, h2⟩
    · exact .inl h1
    · exact .inr ⟨by omega, h2⟩
  · rcases hj with h1 | ⟨h1, h2⟩
    · by_cases h3 : j < w.heap.size
      · exact k.wi.low j (.inl ⟨h1, h3⟩)
      · exact Nat.le_trans hi.size (by omega)
    · exact Nat.le_trans hi.size h1
theorem WI.err {B k : Nat} {a : Addr} (h : WI w0 E g F s w) (he : ErrAt w0 B k a) (hB : B ≤ w0.heap.size) : ErrAt w B k a :=
  ⟨h.kept.cell he.1 (by have := he.2; show ¬ w0.heap.size ≤ k; omega), he.2⟩
theorem sFix_err (x : List UInt8) (k : Nat) (l : List UInt8) : sFix x (k + 1, l) = (k + 1, l) := rfl
theorem sFail_err (j k : Nat) (l : List UInt8) : sFail j (k + 1, l) = (k + 1, l) := rfl
theorem sNum_err (n m : Int) (k : Nat) (l : List UInt8) : sNum n m (k + 1, l) = (k + 1, l) := by unfold sNum; split <;> rfl

theorem fail_st (h : WI w0 E g F s w) (k : Nat) :
    Calls Tryz.prog 91 #[.pointer (some ⟨g, 0, none⟩), errV (E k)] w fun e w' => e = .returned (.tuple #[]) ∧ WP w0 E g F (sFail (k + 1) s) w w' := by
  obtain ⟨e0, l⟩ := s
  have hw := h.wr
  obtain ⟨hBg, bA, bc, hb, hown, hF⟩ := hw
  rcases e0 with _ | e0
  · refine (fail_new w g 163 _ _ _ hb).mono ?_
    rintro e w1 ⟨rfl, rfl⟩
    refine ⟨rfl, h.step ((Kept.refl F w).set (.inl hBg) _) (WrIs.upTo (g := g) ?_ _ _)⟩
    exact h.wr.failed
  · rw [sFail_err]
    refine (fail_old w g 163 _ _ _ _ hb).mono ?_
    rintro e w1 ⟨rfl, rfl⟩
    exact ⟨rfl, h.same⟩

theorem number_st (he : ErrAt w0 w0.heap.size 1 (E 0)) (h : WI w0 E g F s w) (hs : s.2.length ≤ 70368744177664) (n : Int) (k : Nat) :
    Calls Tryz.prog 76 #[.pointer (some ⟨g, 0, none⟩), .int .i64 n, .int .i64 (k : Int)] w fun e w' => e = .returned (.tuple #[]) ∧ WP w0 E g F (sNum n (k : Int) s) w w' := by
  have he' := h.err he (Nat.le_refl _)
  obtain ⟨e0, l⟩ := s
  rcases e0 with _ | e0
  · cases hb : badNum n (k : Int)
    · have hr : sNum n (k : Int) (0, l) = (0, l ++ be k n.toNat) := by simp [sNum, hb, sFix]
      have hb2 : 1 ≤ k ∧ k ≤ 8 ∧ 0 ≤ n ∧ n.toNat < 256 ^ k := by
        unfold badNum at hb
        simp only [Bool.or_eq_false_iff, decide_eq_false_iff_not, bne_eq_false_iff_eq] at hb
        obtain ⟨⟨⟨h1, h2⟩, h3⟩, h4⟩ := hb
        refine ⟨by omega, by omega, by omega, ?_⟩
        have e : n = (n.toNat : Int) := by omega
        rw [e, Int.toNat_natCast, shr_cast] at h4
        have h5 : n.toNat / 256 ^ k = 0 := by exact_mod_cast h4
        rcases Nat.div_eq_zero_iff.1 h5 with h6 | h6
        · exact absurd h6 (Nat.ne_of_gt (Nat.pow_pos (by omega)))
        · exact h6
      have e : n = (n.toNat : Int) := by omega
      rw [hr, e]
      refine (number_ok w F g l n.toNat k h.wr hb2.1 hb2.2.1 hb2.2.2.2 hs).mono ?_
      rintro e w1 ⟨rfl, h1, h2⟩
      exact ⟨rfl, h.step h2 h1⟩
    · have hr : sNum n (k : Int) (0, l) = (1, l) := by simp [sNum, hb, sFail]
      rw [hr]
      refine (number_bad w F w0.heap.size g l (E 0) n (k : Int) h.wr he' hb).mono ?_
      rintro e w1 ⟨rfl, h1, h2⟩
      exact ⟨rfl, h.step (Kept.of_grown h2 fun j hj => by cases hj; exact h.wr.1) (h1.upTo _ _)⟩
  · rw [sNum_err]
    refine (number_err w F w0.heap.size g _ _ l (E 0) n (k : Int) h.wr he').mono ?_
    rintro e w1 ⟨rfl, h1⟩
    exact ⟨rfl, h.grown h1⟩

theorem fixed_st (h : WI w0 E g F s w) (hs : s.2.length ≤ 70368744177664) (A : Option Addr) (m c : Nat) (x : List UInt8) (hm : x.length = m) (hm2 : m ≤ 1000000) (hx : BytesAt w A x) :
    Calls Tryz.prog 77 #[.pointer (some ⟨g, 0, none⟩), .slice A m c] w fun e w' => e = .returned (.tuple #[]) ∧ WP w0 E g F (sFix x s) w w' := by
  obtain ⟨e0, l⟩ := s
  rcases e0 with _ | e0
  · refine (fixed_ok w F g l A m c x hm h.wr hx (by simp only at hs; omega)).mono ?_
    rintro e w1 ⟨rfl, h1, h2⟩
    exact ⟨rfl, h.step h2 h1⟩
  · rw [sFix_err]
    refine (fixed_err w F g _ _ l A m c h.wr).mono ?_
    rintro e w1 ⟨rfl, rfl⟩
    exact ⟨rfl, h.same⟩

theorem bytes_st (he : ErrAt w0 w0.heap.size 1 (E 0)) (h : WI w0 E g F s w) (hs : s.2.length ≤ 70368744177664) (A : Option Addr) (m c : Nat) (x : List UInt8) (hm : x.length = m) (hx : BytesAt w A x) (hA : ∀ ad, A = some ad → x ≠ [] → ad.block < w0.heap.size) (most : Int) :
    Calls Tryz.prog 82 #[.pointer (some ⟨g, 0, none⟩), .slice A m c, .int .i64 most] w fun e w' => e = .returned (.tuple #[]) ∧ WP w0 E g F (sBytes x most s) w w' := by
  have he' := h.err he (Nat.le_refl _)
  subst hm
  obtain ⟨e0, l⟩ := s
  by_cases hb : most < (x.length : Int) ∨ 65535 < x.length
  · have hr : sBytes x most (e0, l) = sFail 1 (e0, l) := by unfold sBytes; rw [if_pos hb]
    rw [hr]
    rcases e0 with _ | e0
    · refine (bytes_bad w F w0.heap.size g l (E 0) A x.length c most h.wr he' hb).mono ?_
      rintro e w1 ⟨rfl, h1, h2⟩
      exact ⟨rfl, h.step (h2.mono fun j _ hj => by cases hj; exact h.wr.1) (h1.upTo _ _)⟩
    · refine (bytes_err w F w0.heap.size g _ _ l (E 0) A x.length c most h.wr he').mono ?_
      rintro e w1 ⟨rfl, h1⟩
      exact ⟨rfl, h.grown h1⟩
  · have hr : sBytes x most (e0, l) = sFix x (sNum (x.length : Int) 2 (e0, l)) := by unfold sBytes; rw [if_neg hb]
    rcases e0 with _ | e0
    · have h2 : x.length ≤ 65535 := by omega
      have hn : badNum (x.length : Int) 2 = false := by
        have h3 : (x.length : Int) / 2 ^ (8 * 2) = 0 := shr_zero (k := 2) (by omega)
        unfold badNum
        simp only [Bool.or_eq_false_iff, decide_eq_false_iff_not, bne_eq_false_iff_eq]
        exact ⟨⟨⟨by omega, by omega⟩, by omega⟩, h3⟩
      have hr2 : sBytes x most (0, l) = (0, l ++ (be 2 x.length ++ x)) := by rw [hr]; simp [sNum, hn, sFix]
      rw [hr2]
      refine (bytes_ok w F g l A x.length c most x rfl h.wr hx (fun ad e hne hf => by have := hA ad e hne; have := h.low _ hf; omega) hs (by omega) h2).mono ?_
      rintro e w1 ⟨rfl, h1, h2⟩
      exact ⟨rfl, h.step h2 h1⟩
    · rw [hr, sNum_err, sFix_err]
      refine (bytes_err w F w0.heap.size g _ _ l (E 0) A x.length c most h.wr he').mono ?_
      rintro e w1 ⟨rfl, h1⟩
      exact ⟨rfl, h.grown h1⟩
theorem new_st (w : World) (E : Nat → Addr) : Calls Tryz.prog 58 #[] w fun e w' => e = .returned (.pointer (some ⟨w.heap.size, 0, none⟩)) ∧ WI w E w.heap.size (newF w) (0, []) w' :=
  (new_ok w).mono (by
    rintro e w1 ⟨rfl, rfl⟩
    exact ⟨rfl, ⟨WrIs.new w (Nat.le_refl _), fun _ h => h, (Kept.refl _ _).alloc _⟩⟩)
theorem done_st (h : WI w0 E g F s w) (hs : s.2.length ≤ 70368744177664) :
    Calls Tryz.prog 59 #[.pointer (some ⟨g, 0, none⟩)] w fun e w' => w0.grownBy w' none ∧ ((s.1 = 0 ∧ ∃ A c, e = .returned (.tuple #[.slice A s.2.length c, .nilIface]) ∧ w'.ownsRow w0.heap.size 5 1 (.slice A s.2.length c) s.2.length (Lib.byteCells s.2)) ∨
      (s.1 ≠ 0 ∧ e = .returned (.tuple #[.slice none 0 0, evOf E s.1]))) := by
  have hz : ∀ w1, w.grownBy w1 none → w0.grownBy w1 none := fun w1 hg => (h.grown hg).wi.kept.grownNone fun k hk hn => by show False; exact absurd hk (by simpa using hn)
  obtain ⟨e0, l⟩ := s
  rcases e0 with _ | e0
  · refine (done_ok w F g l h.wr (by simp only at hs; omega)).mono ?_
    rintro e w1 ⟨A, c, rfl, h1, h2⟩
    exact ⟨hz _ h2, .inl ⟨rfl, A, c, rfl, h1.mono h.size⟩⟩
  · refine (done_err w F g _ _ l h.wr).mono ?_
    rintro e w1 ⟨rfl, h1⟩
    exact ⟨hz _ h1, .inr ⟨by simp, rfl⟩⟩
end
end Go.Proofs.YtmoebkdbnldbdaaGreatDoor
/-
  Arrays as lists of numbers.
-/
namespace Go.Proofs.YtmoebkdbnldbdaaGreatDoor
open Go.RowKit

theorem w64 (n : Int) (h : -9223372036854775808 ≤ n ∧ n ≤ 9223372036854775807) : wrap64 n = n := by unfold wrap64; omega

/-! ## Arrays as lists -/

abbrev arrV (q : IntKind) (l : List Int) : Array Value := (l.map (Value.int q)).toArray
theorem arr_get {q : IntKind} {l : List Int} {k : Nat} (h : k < l.length) : (arrV q l)[k]? = some (.int q (l.getD k 0)) := by
  simp [arrV, List.getElem?_map, List.getElem?_eq_getElem h]
theorem arr_set {q : IntKind} {l : List Int} {k : Nat} (x : Int) : (arrV q l).setIfInBounds k (.int q x) = arrV q (l.set k x) := by
  simp [arrV, List.map_set]
theorem arr_push {q : IntKind} {W : List Int} {n : Nat} (x : Int) (h : W.length < n) : (arrV q (W ++ List.replicate (n - W.length) 0)).setIfInBounds W.length (.int q x) = arrV q (W ++ [x] ++ List.replicate (n - (W.length + 1)) 0) := by
  rw [arr_set]
  congr 1
  obtain ⟨m, hm⟩ : ∃ m, n - W.length = m + 1 := ⟨n - W.length - 1, by omega⟩
  rw [hm, show n - (W.length + 1) = m by omega, List.replicate_succ]
  simp
theorem arr_size {q : IntKind} {l : List Int} : (arrV q l).size = l.length := by simp [arrV]
theorem z64 : arrV .u32 (List.replicate 64 0) = #[.int .u32 0, .int .u32 0, .int .u32 0, .int .u32 0, .int .u32 0, .int .u32 0, .int .u32 0, .int .u32 0, .int .u32 0, .int .u32 0, .int .u32 0, .int .u32 0, .int .u32 0, .int .u32 0, .int .u32 0, .int .u32 0, .int .u32 0, .int .u32 0, .int .u32 0, .int .u32 0, .int .u32 0, .int .u32 0, .int .u32 0, .int .u32 0, .int .u32 0, .int .u32 0, .int .u32 0, .int .u32 0, .int .u32 0, .int .u32 0, .int .u32 0, .int .u32 0, .int .u32 0, .int .u32 0, .int .u32 0, .int .u32 0, .int .u32 0, .int .u32 0, .int .u32 0, .int .u32 0, .int .u32 0, .int .u32 0, .int .u32 0, .int .u32 0, .int .u32 0, .int .u32 0, .int .u32 0, .int .u32 0, .int .u32 0, .int .u32 0, .int .u32 0, .int .u32 0, .int .u32 0, .int .u32 0, .int .u32 0, .int .u32 0, .int .u32 0, .int .u32 0, .int .u32 0, .int .u32 0, .int .u32 0, .int .u32 0, .int .u32 0, .int .u32 0] := by kernel_rfl
theorem z64b : arrV .u8 (List.replicate 64 0) = #[.int .u8 0, .int .u8 0, .int .u8 0, .int .u8 0, .int .u8 0, .int .u8 0, .int .u8 0, .int .u8 0, .int .u8 0, .int .u8 0, .int .u8 0, .int .u8 0, .int .u8 0, .int .u8 0, .int .u8 0, .int .u8 0, .int .u8 0, .int .u8 0, .int .u8 0, .int .u8 0, .int .u8 0, .int .u8 0, .int .u8 0, .int .u8 0, .int .u8 0, .int .u8 0, .int .u8 0, .int .u8 0, .int .u8 0, .int .u8 0, .int .u8 0, .int .u8 0, .int .u8 0, .int .u8 0, .int .u8 0, .int .u8 0, .int .u8 0, .int .u8 0, .int .u8 0, .int .u8 0, .int .u8 0, .int .u8 0, .int .u8 0, .int .u8 0, .int .u8 0, .int .u8 0, .int .u8 0, .int .u8 0, .int .u8 0, .int .u8 0, .int .u8 0, .int .u8 0, .int .u8 0, .int .u8 0, .int .u8 0, .int .u8 0, .int .u8 0, .int .u8 0, .int .u8 0, .int .u8 0, .int .u8 0, .int .u8 0, .int .u8 0, .int .u8 0] := by kernel_rfl
theorem z32b : arrV .u8 (List.replicate 32 0) = #[.int .u8 0, .int .u8 0, .int .u8 0, .int .u8 0, .int .u8 0, .int .u8 0, .int .u8 0, .int .u8 0, .int .u8 0, .int .u8 0, .int .u8 0, .int .u8 0, .int .u8 0, .int .u8 0, .int .u8 0, .int .u8 0, .int .u8 0, .int .u8 0, .int .u8 0, .int .u8 0, .int .u8 0, .int .u8 0, .int .u8 0, .int .u8 0, .int .u8 0, .int .u8 0, .int .u8 0, .int .u8 0, .int .u8 0, .int .u8 0, .int .u8 0, .int .u8 0] := by kernel_rfl

theorem grown_far {w w1 : World} {row : Option Nat} (h : w.grownBy w1 row) {p : Addr} (hp : w.heap.size ≤ p.block ∨ row = some p.block) (u : Value) : w.grownBy (w1.setCell p u) row :=
  ⟨h.os, h.tape, h.output, by simpa using h.size, fun k hk hne => (Below.heap_setCell w1 p u k (fun e => hp.elim (fun hp => by omega) (fun hp => hne (by rw [e]; exact hp.symm)))).trans (h.block k hk hne)⟩

theorem Blk.row {w : World} {g : Nat} {t : TypeId} {old : Array Value} (h : Blk w g t old) (cs : Array Value) : Blk (w.setRow g cs) g t cs := setRow_heap w g old cs t (0, 0) h
theorem Blk.farRow {w : World} {g g' : Nat} {t : TypeId} {cs : Array Value} (h : Blk w g t cs) (hne : g ≠ g') (cs' : Array Value) : Blk (w.setRow g' cs') g t cs := (setRow_other w g' g cs' hne).trans h
theorem grown_row {w w1 : World} {row : Option Nat} (h : w.grownBy w1 row) {g : Nat} (hp : w.heap.size ≤ g ∨ row = some g) (cs : Array Value) : w.grownBy (w1.setRow g cs) row :=
  ⟨(setRow_os w1 g cs).trans h.os, (setRow_tape w1 g cs).trans h.tape, (setRow_output w1 g cs).trans h.output, by rw [setRow_size]; exact h.size, fun k hk hne => (setRow_other w1 g k cs (fun e => hp.elim (fun hp => by omega) (fun hp => hne (by rw [e]; exact hp.symm)))).trans (h.block k hk hne)⟩
theorem results_cell {fn : Func} {s : Tmp} {t : TypeId} (h : fn.results = #[.cell s t]) (tmps : Array Value) (P : Program) (w : World) (p : Addr) (v : Value)
    (hp : tmps.getD s undef = .pointer (some p)) (hl : (loadVar t p).run P w = .ok v w) : (results fn tmps).run P w = .ok v w := by
  have hq : tmps[s]?.getD undef = .pointer (some p) := by simpa using hp
  simp [results, h, hq, asAddr, hl]

section
variable {P : Program}
theorem run_index_agg {w : World} {t e : TypeId} {n : Nat} {i : Int} {cs : Array Value} {v : Value} (h : P.underlying t = some (.array n e)) (he : P.plainKey e = true) (hs : (P.info? e).map (·.size) = some 1) (hb : 0 ≤ i ∧ i < (n : Int)) (hv : cs[i.toNat]? = some v) :
    Sem.run P (Instr.index t (.agg cs) (.int .i64 i)) w = .ok v w := by
  have hp := run_part_plain (w := w) he hv
  cases hq : P.info? e with
  | none => simp [hq] at hs
  | some ei =>
    have hi : ei.size = 1 := by simpa [hq] using hs
    simp [Instr.index, run_underlying h, asIntOf, hb, sizeOf, typeInfo, hq, hi, hp]
end
theorem grown_fresh {a b c : World} {row : Option Nat} {ge : Nat} (h : a.grownBy b row) (k : b.grownBy c (some ge)) (hge : a.heap.size ≤ ge) : a.grownBy c row :=
  ⟨k.os.trans h.os, k.tape.trans h.tape, k.output.trans h.output, Nat.le_trans h.size k.size, fun i hi hne => (k.block i (Nat.lt_of_lt_of_le hi h.size) (by intro e; have := Option.some.inj e; omega)).trans (h.block i hi hne)⟩
end Go.Proofs.YtmoebkdbnldbdaaGreatDoor
