/-
  Several texts in one: Wire2, WOps.
-/
import Derived.Test.YtebnebajedlhlaaDoorM9ik
/-
  More contracts of package wire's Writer: bytes.Clone, Done, Flag, Fixed, Bytes; the Writer with an error.
-/

namespace Go.Proofs.YtebnebajedlhlaaDoor
open Go.RowKit

theorem own_bytesAt {w : World} {base : Nat} {A : Option Addr} {n c : Nat} {l : List UInt8} (h : w.ownsRow base 5 1 (.slice A n c) n (Lib.byteCells l)) : BytesAt w A l := fun hl => by
  have hn : l.length = n := by have := h.1; simpa [Lib.byteCells] using this
  obtain ⟨g, cap, hv⟩ := Joins.ownsRow_form h (by have := List.length_pos_iff.2 hl; omega)
  have hA : A = some ⟨g, 0, none⟩ := by injection hv
  refine ⟨_, hA, fun j hj => h.cells (g := g) (by rw [hv]; rfl) j _ ?_⟩
  simp [Lib.byteCells, List.getElem?_eq_getElem hj]
theorem own_low {w : World} {base : Nat} {e : TypeId} {size : Nat} {A : Option Addr} {n c m : Nat} {xs : List Value} (h : w.ownsRow base e size (.slice A n c) m xs) : ∀ ad, A = some ad → base ≤ ad.block := by
  rintro ad rfl
  exact (h.lt ad.block rfl).1

set_option maxRecDepth 100000 in
set_option maxHeartbeats 400000 in
theorem clone_any (w : World) (A : Option Addr) (n c : Nat) (l : List UInt8) (hn : l.length = n) (hl : BytesAt w A l) (hlen : n ≤ 140737488355328) :
    Calls Tryd.prog 40 #[.slice A n c] w fun e w' => ∃ A' c', e = .returned (.slice A' n c') ∧ w'.ownsRow w.heap.size 5 1 (.slice A' n c') n (Lib.byteCells l) ∧ w.grownBy w' none := by
  obtain ⟨i0, hi, hz0, hz1, hz2⟩ := info_parts u8_info
  have Hlen := Lib.hid hlen
  clear hlen
  have hq : ∀ (w : World) (a : Option Addr) (n c n' c' : Nat), (binOp .eql 33 (.slice a n c) (.slice none n' c')).run Tryd.prog w = .ok (.bool a.isNone) w := fun w a n c n' c' => Lib.run_eql_slice_nil w _ _ a n c n' c' Tryd.underlying33
  subst hn
  rcases A with _ | ad
  · have hl0 : l = [] := by
      rcases l with _ | ⟨x, r⟩
      · rfl
      · obtain ⟨_, h, _⟩ := hl (by simp)
        cases h
    subst hl0
    go_enter Tryd.func40, Tryd.ntmps40
    go_wp2
    go_ret
    exact ⟨none, 0, rfl, World.ownsRow_nil _ _ _ _, World.grownBy.refl _ _⟩
  · go_enter Tryd.func40, Tryd.ntmps40
    go_wp2_with (at_builtin; refine wpList_append_bytes _ rfl _ _ 33 rfl w.heap.size 5 i0 (.int .u8 0) Tryd.underlying33 hi hz0 hz1 hz2 rfl _ _ _ rfl (World.ownsRow_made w #[] 0 (Nat.le_refl _) (Nat.zero_le _) rfl) (some ad) c l rfl (hl.alloc _) ?_ ?_ ?_)
    · simpa using Hlen.out
    · simp
    intro A' cap' w1 hown hgrow _
    go_wp2
    go_ret
    exact ⟨A', cap', rfl, hown, grown_new hgrow⟩

/-! ### Done -/
set_option maxHeartbeats 400000 in
theorem done_ok (w : World) (F : Nat → Prop) (g : Nat) (l : List UInt8) (hw : WrIs w F g .nilIface l) (hl : l.length ≤ 140737488355328) :
    Calls Tryd.prog 21 #[.pointer (some ⟨g, 0, none⟩)] w fun e w' => ∃ A c, e = .returned (.tuple #[.slice A l.length c, .nilIface]) ∧ w'.ownsRow w.heap.size 5 1 (.slice A l.length c) l.length (Lib.byteCells l) ∧ w.grownBy w' none := by
  obtain ⟨hBg, bA, bc, hb, hown, hF⟩ := hw
  have c0 := hb.cell 0
  have c1 := hb.cell 1
  simp at c0 c1
  go_enter Tryd.func21, Tryd.ntmps21
  go_wp2_with (go_at_call 40; refine (clone_any _ bA l.length bc l rfl (own_bytesAt hown) hl).mono ?_; rintro e w1 ⟨A, c, rfl, hown1, hg1⟩)
  go_ret2
  exact ⟨A, c, rfl, hown1, hg1⟩

set_option maxHeartbeats 400000 in
theorem done_err (w : World) (F : Nat → Prop) (g : Nat) (t : TypeId) (v : Value) (l : List UInt8) (hw : WrIs w F g (.iface t v) l) :
    Calls Tryd.prog 21 #[.pointer (some ⟨g, 0, none⟩)] w fun e w' => e = .returned (.tuple #[.slice none 0 0, .iface t v]) ∧ w.grownBy w' none := by
  obtain ⟨hBg, bA, bc, hb, hown, hF⟩ := hw
  have c0 := hb.cell 0
  simp at c0
  go_enter Tryd.func21, Tryd.ntmps21
  go_wp2
  go_quiet (fail)
  go_wp2
  go_ret2
  exact ⟨rfl, rfl, rfl, rfl, Nat.le_refl _, fun _ _ _ => rfl⟩

/-! ### NewWriter, Flag, Fixed, Bytes without an error -/
theorem new_ok (w : World) : Calls Tryd.prog 20 #[] w fun e w' => e = .returned (.pointer (some ⟨w.heap.size, 0, none⟩)) ∧ w' = w.alloc (.cells #[.nilIface, .slice none 0 0] 114) := by
  go_enter Tryd.func20, Tryd.ntmps20
  go_wp2
  go_ret
  exact ⟨rfl, rfl⟩
theorem WrIs.new (w : World) {F : Nat → Prop} (hF : F w.heap.size) : WrIs (w.alloc (.cells #[.nilIface, .slice none 0 0] 114)) F w.heap.size .nilIface [] :=
  ⟨hF, none, 0, Blk.new _ _ _, World.ownsRow_nil _ _ _ _, fun _ h => by cases h⟩

theorem fixed_ok (w : World) (F : Nat → Prop) (g : Nat) (l : List UInt8) (A : Option Addr) (m c : Nat) (x : List UInt8) (hm : x.length = m) (hw : WrIs w F g .nilIface l) (hx : BytesAt w A x)
    (hn : l.length + x.length ≤ 140737488355328) :
    Calls Tryd.prog 41 #[.pointer (some ⟨g, 0, none⟩), .slice A m c] w fun e w' => e = .returned (.tuple #[]) ∧ WrIs w' (upTo F w.heap.size w'.heap.size) g .nilIface (l ++ x) ∧ Kept F w w' := by
  go_enter Tryd.func41, Tryd.ntmps41
  go_wp2_with (go_at_call 53; refine (write_ok _ F g l A m c x hm hw hx hn).mono ?_; rintro e w1 ⟨rfl, hw1, hb1⟩)
  go_end0
  exact ⟨rfl, hw1, hb1⟩

theorem upTo_one {F : Nat → Prop} {a b : Nat} : ∀ k, upTo F (a + 1) b k → upTo F a b k := by
  rintro k (h | ⟨h1, h2⟩)
  · exact .inl h
  · exact .inr ⟨by omega, h2⟩

set_option maxHeartbeats 400000 in
theorem bytes_ok (w : World) (F : Nat → Prop) (g : Nat) (l : List UInt8) (A : Option Addr) (m c : Nat) (most : Int) (x : List UInt8) (hm : x.length = m) (hw : WrIs w F g .nilIface l) (hx : BytesAt w A x) (hA : ∀ ad, A = some ad → x ≠ [] → ¬ F ad.block)
    (hn : l.length ≤ 70368744177664) (h1 : (m : Int) ≤ most) (h2 : m ≤ 65535) :
    Calls Tryd.prog 46 #[.pointer (some ⟨g, 0, none⟩), .slice A m c, .int .i64 most] w fun e w' => e = .returned (.tuple #[]) ∧ WrIs w' (upTo F w.heap.size w'.heap.size) g .nilIface (l ++ (be 2 m ++ x)) ∧ Kept F w w' := by
  have a1 : decide (most < (m : Int)) = false := by simp; omega
  have a2 : decide ((65535 : Int) < (m : Int)) = false := by simp; omega
  have Hm := Lib.hid hm
  clear hm
  go_enter Tryd.func46, Tryd.ntmps46
  go_wp2_with fail
  refine (number_ok _ F g l m 2 hw (by omega) (by omega) (by omega) hn).mono ?_
  rintro e w1 ⟨rfl, hw1, hb1⟩
  go_wp2_with fail
  refine (fixed_ok _ _ g _ A m _ x Hm.out hw1 (hx.kept' hb1 hA) ?_).mono ?_
  · have := Hm.out; simp [be_length]; omega
  rintro e w2 ⟨rfl, hw2, hb2⟩
  go_wp2_with fail
  go_end0
  have s1 := hb1.size
  have s2 := hb2.size
  exact ⟨rfl, by simpa using hw2.mono fun k _ h => upTo_le s1 s2 k h, hb1.trans hb2⟩
end Go.Proofs.YtebnebajedlhlaaDoor
/-
  The Writer's calls with an error.
-/

namespace Go.Proofs.YtebnebajedlhlaaDoor
open Go.RowKit

theorem Kept.follow {F G : Nat → Prop} {a b c : World} (h : Kept F a b) (k : Kept G b c) (hF : ∀ k, k < a.heap.size → G k → F k) : Kept F a c :=
  ⟨k.os.trans h.os, k.tape.trans h.tape, k.output.trans h.output, Nat.le_trans h.size k.size, fun i hi hn => (k.block i (Nat.lt_of_lt_of_le hi h.size) (fun hg => hn (hF i hi hg))).trans (h.block i hi hn)⟩

theorem Kept.none_grown {w w' : World} (h : Kept (fun _ => False) w w') : w.grownBy w' none := h.grownNone fun _ _ h => h

set_option maxHeartbeats 400000 in
/-- The Writer has an error: no number is written. -/
theorem number_err (w : World) (F : Nat → Prop) (B g : Nat) (t : TypeId) (v : Value) (l : List UInt8) (a : Addr) (n width : Int) (hw : WrIs w F g (.iface t v) l) (he : ErrAt w B 1 a) :
    Calls Tryd.prog 34 #[.pointer (some ⟨g, 0, none⟩), .int .i64 n, .int .i64 width] w fun e w' => e = .returned (.tuple #[]) ∧ w.grownBy w' none := by
  by_cases hbad : badNum n width = true
  · have hw' := hw
    obtain ⟨hBg, bA, bc, hb, hown, hF⟩ := hw'
    have hr := he.1
    rcases badNum_cases hbad with a1 | ⟨a1, a2⟩ | ⟨a1, a2, a3⟩ | ⟨k, m, rfl, rfl, a1, a2, a3, a4⟩
    all_goals
      clear hbad
      go_enter Tryd.func34, Tryd.ntmps34
      go_wp2_with fail
      go_region_with (go_at_call 52; refine (fail_old _ g 114 t v (.slice bA l.length bc) _ ?_).mono ?_; exact hb.drew; rintro e w1 ⟨rfl, rfl⟩)
      all_goals
        go_wp2
        first | go_end0 | refine bodyPost_ret (results_none rfl _ _ _) rfl ?_
        exact ⟨rfl, rfl, rfl, rfl, Nat.le_refl _, fun _ _ _ => rfl⟩
  · have hf : badNum n width = false := by simpa using hbad
    have h1 : 1 ≤ width ∧ width ≤ 8 ∧ 0 ≤ n ∧ ((n / 2 ^ (8 * width.toNat)) != 0) = false := by
      unfold badNum at hf
      simp only [Bool.or_eq_false_iff, decide_eq_false_iff_not] at hf
      exact ⟨by omega, by omega, by omega, hf.2⟩
    obtain ⟨k, rfl⟩ := Int.eq_ofNat_of_zero_le (show 0 ≤ width by omega)
    obtain ⟨m, rfl⟩ := Int.eq_ofNat_of_zero_le h1.2.2.1
    have a1 : decide ((k : Int) < 1) = false := by simp; omega
    have a2 : decide ((8 : Int) < (k : Int)) = false := by simp; omega
    have a3 : decide ((m : Int) < 0) = false := by simp
    have a4 : (((m : Int) / 2 ^ (8 * k)) != 0) = false := by simpa using h1.2.2.2
    have h8 : k ≤ 8 := by omega
    clear hbad hf h1
    go_enter Tryd.func34, Tryd.ntmps34
    go_wp2_with fail
    go_loopw [6] (fun i wr => ∃ j : Nat, j ≤ k ∧ i = .int .i64 ((j : Int) - 1) ∧ w.grownBy wr none) (fun i _ => (intOf i + 1).toNat)
    case atStart => exact ⟨k, Nat.le_refl _, rfl, World.grownBy.refl _ _⟩
    case round =>
      obtain ⟨j, hj, hi, hg⟩ := hrel
      rcases j with _ | j
      · subst hi
        go_wp2_with fail
        go_end0
        exact ⟨rfl, hg⟩
      · have hi' := hi.trans (show Value.int .i64 (((j + 1 : Nat) : Int) - 1) = .int .i64 (j : Int) by congr 1; omega)
        clear hi
        subst hi'
        have hwr := (hw.grown hg)
        have Hwr := Lib.hid hwr
        clear hwr
        go_wp2_with fail
        refine (write_err _ F g t v l _ 1 _ (Hwr.out.alloc _)).mono ?_
        rintro e w1 ⟨rfl, rfl⟩
        go_wp2_with fail
        go_roundw
        case rel => exact ⟨j, by omega, by go_num, grown_trans hg (World.grownBy_alloc _ _ _)⟩
        case measure => simp [intOf]

theorem be_one (b : UInt8) : be 1 b.toNat = [b] := by simp [be]

theorem fixed_err (w : World) (F : Nat → Prop) (g : Nat) (t : TypeId) (v : Value) (l : List UInt8) (A : Option Addr) (n c : Nat) (hw : WrIs w F g (.iface t v) l) :
    Calls Tryd.prog 41 #[.pointer (some ⟨g, 0, none⟩), .slice A n c] w fun e w' => e = .returned (.tuple #[]) ∧ w = w' := by
  go_enter Tryd.func41, Tryd.ntmps41
  go_wp2_with fail
  refine (write_err w F g t v l A n c hw).mono ?_
  rintro e w1 ⟨rfl, rfl⟩
  go_wp2_with fail
  go_end0
  exact ⟨rfl, rfl⟩

theorem blong_cases {m : Nat} {most : Int} (h : most < (m : Int) ∨ 65535 < m) : decide (most < (m : Int)) = true ∨ (decide (most < (m : Int)) = false ∧ decide ((65535 : Int) < (m : Int)) = true) := by
  by_cases h1 : most < (m : Int)
  · exact .inl (by simpa using h1)
  · exact .inr ⟨by simpa using h1, by simp; omega⟩

set_option maxHeartbeats 400000 in
theorem bytes_bad (w : World) (F : Nat → Prop) (B g : Nat) (l : List UInt8) (a : Addr) (A : Option Addr) (m c : Nat) (most : Int) (hw : WrIs w F g .nilIface l) (he : ErrAt w B 1 a) (hlong : most < (m : Int) ∨ 65535 < m) :
    Calls Tryd.prog 46 #[.pointer (some ⟨g, 0, none⟩), .slice A m c, .int .i64 most] w fun e w' => e = .returned (.tuple #[]) ∧ WrIs w' F g (errV a) l ∧ Kept (fun k => k = g) w w' := by
  have hr := he.1
  have hw' := hw
  obtain ⟨hBg, bA, bc, hb, hown, hF⟩ := hw'
  have Hw := Lib.hid hw
  clear hw
  rcases blong_cases hlong with a1 | ⟨a1, a2⟩
  all_goals
    clear hlong
    go_enter Tryd.func46, Tryd.ntmps46
    go_wp2_with fail
    go_region_with (go_at_call 52; refine (fail_new _ g 114 _ _ (.slice bA l.length bc) ?_).mono ?_; exact hb.drew; rintro e w1 ⟨rfl, rfl⟩)
    all_goals
      go_wp2
      first | go_end0 | refine bodyPost_ret (results_none rfl _ _ _) rfl ?_
      exact ⟨rfl, Hw.out.failed, Kept.of_grown (F := fun k => k = g) (grown_set (w := w) g (errV a)) (fun g' e => by injection e with e; exact e.symm)⟩

set_option maxHeartbeats 400000 in
theorem bytes_err (w : World) (F : Nat → Prop) (B g : Nat) (t : TypeId) (v : Value) (l : List UInt8) (a : Addr) (A : Option Addr) (m c : Nat) (most : Int) (hw : WrIs w F g (.iface t v) l) (he : ErrAt w B 1 a) :
    Calls Tryd.prog 46 #[.pointer (some ⟨g, 0, none⟩), .slice A m c, .int .i64 most] w fun e w' => e = .returned (.tuple #[]) ∧ w.grownBy w' none := by
  have hr := he.1
  by_cases hlong : most < (m : Int) ∨ 65535 < m
  · have hw' := hw
    obtain ⟨hBg, bA, bc, hb, hown, hF⟩ := hw'
    rcases blong_cases hlong with a1 | ⟨a1, a2⟩
    all_goals
      clear hlong
      go_enter Tryd.func46, Tryd.ntmps46
      go_wp2_with fail
      go_region_with (go_at_call 52; refine (fail_old _ g 114 t v (.slice bA l.length bc) _ ?_).mono ?_; exact hb.drew; rintro e w1 ⟨rfl, rfl⟩)
      all_goals
        go_wp2
        first | go_end0 | refine bodyPost_ret (results_none rfl _ _ _) rfl ?_
        exact ⟨rfl, rfl, rfl, rfl, Nat.le_refl _, fun _ _ _ => rfl⟩
  · have a1 : decide (most < (m : Int)) = false := by simp; omega
    have a2 : decide ((65535 : Int) < (m : Int)) = false := by simp; omega
    clear hlong
    go_enter Tryd.func46, Tryd.ntmps46
    go_wp2_with fail
    refine (number_err w F B g t v l a _ 2 hw he).mono ?_
    rintro e w1 ⟨rfl, k1⟩
    go_wp2_with fail
    refine (fixed_err w1 F g t v l A m c (hw.grown k1)).mono ?_
    rintro e w2 ⟨rfl, rfl⟩
    go_wp2_with fail
    go_end0
    exact ⟨rfl, k1⟩

/-! ### one op -/
end Go.Proofs.YtebnebajedlhlaaDoor
