/-
  The Writer's other calls with an error; one op of a script, written.
-/
import Derived.Test.YtmmjpkijnecmcaaDoorPut3
import Derived.Test.YtmmjpkijnecmcaaDoorNum
namespace Go.Proofs.YtmmjpkijnecmcaaDoor
open Go.RowKit

theorem fixed_err (w : World) (F : Nat → Prop) (g : Nat) (t : TypeId) (v : Value) (l : List UInt8) (A : Option Addr) (n c : Nat) (hw : WrIs w F g (.iface t v) l) :
    Calls Tryd.prog 43 #[.pointer (some ⟨g, 0, none⟩), .slice A n c] w fun e w' => e = .returned (.tuple #[]) ∧ w = w' := by
  go_enter Tryd.func43, Tryd.ntmps43
  go_wp2_with fail
  refine (write_err w F g t v l A n c hw).mono ?_
  rintro e w1 ⟨rfl, rfl⟩
  go_wp2_with fail
  go_end0
  exact ⟨rfl, rfl⟩

theorem flag_err (w : World) (F : Nat → Prop) (g : Nat) (t : TypeId) (v : Value) (l : List UInt8) (b : Bool) (hw : WrIs w F g (.iface t v) l) :
    Calls Tryd.prog 42 #[.pointer (some ⟨g, 0, none⟩), .bool b] w fun e w' => e = .returned (.tuple #[]) ∧ w.grownBy w' none := by
  cases b
  all_goals
    go_enter Tryd.func42, Tryd.ntmps42
    go_wp2_with fail
    refine (write_err _ F g t v l _ 1 _ (hw.alloc _)).mono ?_
    rintro e w1 ⟨rfl, rfl⟩
    go_wp2_with fail
    go_end0
    exact ⟨rfl, World.grownBy_alloc _ _ _⟩

theorem blong_cases {m : Nat} {most : Int} (h : most < (m : Int) ∨ 65535 < m) : decide (most < (m : Int)) = true ∨ (decide (most < (m : Int)) = false ∧ decide ((65535 : Int) < (m : Int)) = true) := by
  by_cases h1 : most < (m : Int)
  · exact .inl (by simpa using h1)
  · exact .inr ⟨by simpa using h1, by simp; omega⟩

set_option maxHeartbeats 400000 in
theorem bytes_bad (w : World) (F : Nat → Prop) (B g : Nat) (l : List UInt8) (a : Addr) (A : Option Addr) (m c : Nat) (most : Int) (hw : WrIs w F g .nilIface l) (he : ErrAt w B 2 a) (hlong : most < (m : Int) ∨ 65535 < m) :
    Calls Tryd.prog 41 #[.pointer (some ⟨g, 0, none⟩), .slice A m c, .int .i64 most] w fun e w' => e = .returned (.tuple #[]) ∧ WrIs w' F g (errV a) l ∧ Kept (fun k => k = g) w w' := by
  have hr := he.1
  have hw' := hw
  obtain ⟨hBg, bA, bc, hb, hown, hF⟩ := hw'
  have Hw := Lib.hid hw
  clear hw
  rcases blong_cases hlong with a1 | ⟨a1, a2⟩
  all_goals
    clear hlong
    go_enter Tryd.func41, Tryd.ntmps41
    go_wp2_with fail
    go_region_with (go_at_call 32; refine (fail_new _ g 64 _ _ (.slice bA l.length bc) ?_).mono ?_; exact hb.drew; rintro e w1 ⟨rfl, rfl⟩)
    all_goals
      go_wp2
      first | go_end0 | refine bodyPost_ret (results_none rfl _ _ _) rfl ?_
      exact ⟨rfl, Hw.out.failed, Kept.of_grown (F := fun k => k = g) (grown_set (w := w) g (errV a)) (fun g' e => by injection e with e; exact e.symm)⟩

set_option maxHeartbeats 400000 in
theorem bytes_err (w : World) (F : Nat → Prop) (B g : Nat) (t : TypeId) (v : Value) (l : List UInt8) (a : Addr) (A : Option Addr) (m c : Nat) (most : Int) (hw : WrIs w F g (.iface t v) l) (he : ErrAt w B 2 a) :
    Calls Tryd.prog 41 #[.pointer (some ⟨g, 0, none⟩), .slice A m c, .int .i64 most] w fun e w' => e = .returned (.tuple #[]) ∧ w.grownBy w' none := by
  have hr := he.1
  by_cases hlong : most < (m : Int) ∨ 65535 < m
  · have hw' := hw
    obtain ⟨hBg, bA, bc, hb, hown, hF⟩ := hw'
    rcases blong_cases hlong with a1 | ⟨a1, a2⟩
    all_goals
      clear hlong
      go_enter Tryd.func41, Tryd.ntmps41
      go_wp2_with fail
      go_region_with (go_at_call 32; refine (fail_old _ g 64 t v (.slice bA l.length bc) _ ?_).mono ?_; exact hb.drew; rintro e w1 ⟨rfl, rfl⟩)
      all_goals
        go_wp2
        first | go_end0 | refine bodyPost_ret (results_none rfl _ _ _) rfl ?_
        exact ⟨rfl, rfl, rfl, rfl, Nat.le_refl _, fun _ _ _ => rfl⟩
  · have a1 : decide (most < (m : Int)) = false := by simp; omega
    have a2 : decide ((65535 : Int) < (m : Int)) = false := by simp; omega
    clear hlong
    go_enter Tryd.func41, Tryd.ntmps41
    go_wp2_with fail
    refine (number_err w F B g t v l a _ 2 hw he).mono ?_
    rintro e w1 ⟨rfl, k1⟩
    go_wp2_with fail
    refine (fixed_err w1 F g t v l A m c (hw.grown k1)).mono ?_
    rintro e w2 ⟨rfl, rfl⟩
    go_wp2_with fail
    go_end0
    exact ⟨rfl, k1⟩

/-! ### one op -/
/-- An op of a script, with the bytes that it holds. -/
structure OpV where
  kind : Int
  n : Int
  width : Int
  most : Int
  bytes : List UInt8

/-- The op as a value: its bytes lie at A. -/
def opVal (o : OpV) (A : Option Addr) (c : Nat) : Value := .agg #[.int .i64 o.kind, .int .i64 o.n, .int .i64 o.width, .int .i64 o.most, .slice A o.bytes.length c]

set_option maxHeartbeats 1000000 in
/-- A Writer with an error: no op writes. -/
theorem write_op_err (w : World) (F : Nat → Prop) (B g : Nat) (t : TypeId) (v : Value) (l : List UInt8) (a0 a9 : Addr) (o : OpV) (A : Option Addr) (c : Nat) (hw : WrIs w F g (.iface t v) l) (he : ErrAt w B 2 a0) (he9 : ErrAt w B 0 a9) (hx : BytesAt w A o.bytes) :
    Calls Tryd.prog 13 #[.pointer (some ⟨g, 0, none⟩), opVal o A c] w fun e w' => e = .returned (.tuple #[]) ∧ w.grownBy w' none := by
  obtain ⟨kind, n, width, most, x⟩ := o
  unfold opVal
  simp only at hx ⊢
  have k0 := World.grownBy_alloc w (.cells #[.int .i64 kind, .int .i64 n, .int .i64 width, .int .i64 most, .slice A x.length c] 29) none
  have hw1 := hw.alloc (.cells #[.int .i64 kind, .int .i64 n, .int .i64 width, .int .i64 most, .slice A x.length c] 29)
  have he1 := he.grown k0 (fun _ e => by cases e)
  have hx1 := hx.alloc (.cells #[.int .i64 kind, .int .i64 n, .int .i64 width, .int .i64 most, .slice A x.length c] 29)
  have hr9 := k0.cell he9.1 (by simp)
  go_enter Tryd.func13, Tryd.ntmps13
  go_wp2_with fail
  · refine (number_err _ F B g t v l a0 n width hw1 he1).mono ?_
    rintro e w1 ⟨rfl, k1⟩
    go_wp2_with fail
    go_end0
    exact ⟨rfl, grown_trans k0 k1⟩
  · refine (flag_err _ F g t v l _ hw1).mono ?_
    rintro e w1 ⟨rfl, k1⟩
    go_wp2_with fail
    go_end0
    exact ⟨rfl, grown_trans k0 k1⟩
  · refine (fixed_err _ F g t v l A _ c hw1).mono ?_
    rintro e w1 ⟨rfl, rfl⟩
    go_wp2_with fail
    go_end0
    exact ⟨rfl, k0⟩
  · refine (bytes_err _ F B g t v l a0 A _ c most hw1 he1).mono ?_
    rintro e w1 ⟨rfl, k1⟩
    go_wp2_with fail
    go_end0
    exact ⟨rfl, grown_trans k0 k1⟩
  · refine (put_err _ F B g t v l a0 A _ c most x rfl hw1 he1 hx1).mono ?_
    rintro e w1 ⟨rfl, k1⟩
    go_wp2_with fail
    go_end0
    exact ⟨rfl, grown_trans k0 k1⟩
  · obtain ⟨hBg, bA, bc, hb, hown, hF⟩ := hw1
    go_region_with (go_at_call 32; refine (fail_old _ g 64 t v (.slice bA l.length bc) _ ?_).mono ?_; exact hb.drew; rintro e w1 ⟨rfl, rfl⟩)
    all_goals
      go_wp2
      first | go_end0 | refine bodyPost_ret (results_none rfl _ _ _) rfl ?_
      exact ⟨rfl, grown_drew k0⟩
  · go_end0
    exact ⟨rfl, k0⟩
end Go.Proofs.YtmmjpkijnecmcaaDoor
