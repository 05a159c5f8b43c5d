/-
  The Writer's calls with an error.
-/
import Derived.Test.YthjcgdcmbedhnaaDoorWire2
namespace Go.Proofs.YthjcgdcmbedhnaaDoor
open Go.RowKit

theorem Kept.follow {F G : Nat → Prop} {a b c : World} (h : Kept F a b) (k : Kept G b c) (hF : ∀ k, k < a.heap.size → G k → F k) : Kept F a c :=
  ⟨k.os.trans h.os, k.tape.trans h.tape, k.output.trans h.output, Nat.le_trans h.size k.size, fun i hi hn => (k.block i (Nat.lt_of_lt_of_le hi h.size) (fun hg => hn (hF i hi hg))).trans (h.block i hi hn)⟩

theorem Kept.none_grown {w w' : World} (h : Kept (fun _ => False) w w') : w.grownBy w' none := h.grownNone fun _ _ h => h

set_option maxHeartbeats 400000 in
/-- The Writer has an error: no number is written. -/
theorem number_err (w : World) (F : Nat → Prop) (B g : Nat) (t : TypeId) (v : Value) (l : List UInt8) (a : Addr) (n width : Int) (hw : WrIs w F g (.iface t v) l) (he : ErrAt w B 1 a) :
    Calls Tryd.prog 47 #[.pointer (some ⟨g, 0, none⟩), .int .i64 n, .int .i64 width] w fun e w' => e = .returned (.tuple #[]) ∧ w.grownBy w' none := by
  by_cases hbad : badNum n width = true
  · have hw' := hw
    obtain ⟨hBg, bA, bc, hb, hown, hF⟩ := hw'
    have hr := he.1
    rcases badNum_cases hbad with a1 | ⟨a1, a2⟩ | ⟨a1, a2, a3⟩ | ⟨k, m, rfl, rfl, a1, a2, a3, a4⟩
    all_goals
      clear hbad
      go_enter Tryd.func47, Tryd.ntmps47
      go_wp2_with fail
      go_region_with (go_at_call 67; refine (fail_old _ g 131 t v (.slice bA l.length bc) _ ?_).mono ?_; exact hb.drew; rintro e w1 ⟨rfl, rfl⟩)
      all_goals
        go_wp2
        first | go_end0 | refine bodyPost_ret (results_none rfl _ _ _) rfl ?_
        exact ⟨rfl, rfl, rfl, rfl, Nat.le_refl _, fun _ _ _ => rfl⟩
  · have hf : badNum n width = false := by simpa using hbad
    have h1 : 1 ≤ width ∧ width ≤ 8 ∧ 0 ≤ n ∧ ((n / 2 ^ (8 * width.toNat)) != 0) = false := by
      unfold badNum at hf
      simp only [Bool.or_eq_false_iff, decide_eq_false_iff_not] at hf
      exact ⟨by omega, by omega, by omega, hf.2⟩
    obtain ⟨k, rfl⟩ := Int.eq_ofNat_of_zero_le (show 0 ≤ width by omega)
    obtain ⟨m, rfl⟩ := Int.eq_ofNat_of_zero_le h1.2.2.1
    have a1 : decide ((k : Int) < 1) = false := by simp; omega
    have a2 : decide ((8 : Int) < (k : Int)) = false := by simp; omega
    have a3 : decide ((m : Int) < 0) = false := by simp
    have a4 : (((m : Int) / 2 ^ (8 * k)) != 0) = false := by simpa using h1.2.2.2
    have h8 : k ≤ 8 := by omega
    clear hbad hf h1
    go_enter Tryd.func47, Tryd.ntmps47
    go_wp2_with fail
    go_loopw [6] (fun i wr => ∃ j : Nat, j ≤ k ∧ i = .int .i64 ((j : Int) - 1) ∧ w.grownBy wr none) (fun i _ => (intOf i + 1).toNat)
    case atStart => exact ⟨k, Nat.le_refl _, rfl, World.grownBy.refl _ _⟩
    case round =>
      obtain ⟨j, hj, hi, hg⟩ := hrel
      rcases j with _ | j
      · subst hi
        go_wp2_with fail
        go_end0
        exact ⟨rfl, hg⟩
      · have hi' := hi.trans (show Value.int .i64 (((j + 1 : Nat) : Int) - 1) = .int .i64 (j : Int) by congr 1; omega)
        clear hi
        subst hi'
        have hwr := (hw.grown hg)
        have Hwr := Lib.hid hwr
        clear hwr
        go_wp2_with fail
        refine (write_err _ F g t v l _ 1 _ (Hwr.out.alloc _)).mono ?_
        rintro e w1 ⟨rfl, rfl⟩
        go_wp2_with fail
        go_roundw
        case rel => exact ⟨j, by omega, by go_num, grown_trans hg (World.grownBy_alloc _ _ _)⟩
        case measure => simp [intOf]

theorem be_one (b : UInt8) : be 1 b.toNat = [b] := by simp [be]

theorem fixed_err (w : World) (F : Nat → Prop) (g : Nat) (t : TypeId) (v : Value) (l : List UInt8) (A : Option Addr) (n c : Nat) (hw : WrIs w F g (.iface t v) l) :
    Calls Tryd.prog 58 #[.pointer (some ⟨g, 0, none⟩), .slice A n c] w fun e w' => e = .returned (.tuple #[]) ∧ w = w' := by
  go_enter Tryd.func58, Tryd.ntmps58
  go_wp2_with fail
  refine (write_err w F g t v l A n c hw).mono ?_
  rintro e w1 ⟨rfl, rfl⟩
  go_wp2_with fail
  go_end0
  exact ⟨rfl, rfl⟩

theorem blong_cases {m : Nat} {most : Int} (h : most < (m : Int) ∨ 65535 < m) : decide (most < (m : Int)) = true ∨ (decide (most < (m : Int)) = false ∧ decide ((65535 : Int) < (m : Int)) = true) := by
  by_cases h1 : most < (m : Int)
  · exact .inl (by simpa using h1)
  · exact .inr ⟨by simpa using h1, by simp; omega⟩

set_option maxHeartbeats 400000 in
theorem bytes_bad (w : World) (F : Nat → Prop) (B g : Nat) (l : List UInt8) (a : Addr) (A : Option Addr) (m c : Nat) (most : Int) (hw : WrIs w F g .nilIface l) (he : ErrAt w B 1 a) (hlong : most < (m : Int) ∨ 65535 < m) :
    Calls Tryd.prog 63 #[.pointer (some ⟨g, 0, none⟩), .slice A m c, .int .i64 most] w fun e w' => e = .returned (.tuple #[]) ∧ WrIs w' F g (errV a) l ∧ Kept (fun k => k = g) w w' := by
  have hr := he.1
  have hw' := hw
  obtain ⟨hBg, bA, bc, hb, hown, hF⟩ := hw'
  have Hw := Lib.hid hw
  clear hw
  rcases blong_cases hlong with a1 | ⟨a1, a2⟩
  all_goals
    clear hlong
    go_enter Tryd.func63, Tryd.ntmps63
    go_wp2_with fail
    go_region_with (go_at_call 67; refine (fail_new _ g 131 _ _ (.slice bA l.length bc) ?_).mono ?_; exact hb.drew; rintro e w1 ⟨rfl, rfl⟩)
    all_goals
      go_wp2
      first | go_end0 | refine bodyPost_ret (results_none rfl _ _ _) rfl ?_
      exact ⟨rfl, Hw.out.failed, Kept.of_grown (F := fun k => k = g) (grown_set (w := w) g (errV a)) (fun g' e => by injection e with e; exact e.symm)⟩

set_option maxHeartbeats 400000 in
theorem bytes_err (w : World) (F : Nat → Prop) (B g : Nat) (t : TypeId) (v : Value) (l : List UInt8) (a : Addr) (A : Option Addr) (m c : Nat) (most : Int) (hw : WrIs w F g (.iface t v) l) (he : ErrAt w B 1 a) :
    Calls Tryd.prog 63 #[.pointer (some ⟨g, 0, none⟩), .slice A m c, .int .i64 most] w fun e w' => e = .returned (.tuple #[]) ∧ w.grownBy w' none := by
  have hr := he.1
  by_cases hlong : most < (m : Int) ∨ 65535 < m
  · have hw' := hw
    obtain ⟨hBg, bA, bc, hb, hown, hF⟩ := hw'
    rcases blong_cases hlong with a1 | ⟨a1, a2⟩
    all_goals
      clear hlong
      go_enter Tryd.func63, Tryd.ntmps63
      go_wp2_with fail
      go_region_with (go_at_call 67; refine (fail_old _ g 131 t v (.slice bA l.length bc) _ ?_).mono ?_; exact hb.drew; rintro e w1 ⟨rfl, rfl⟩)
      all_goals
        go_wp2
        first | go_end0 | refine bodyPost_ret (results_none rfl _ _ _) rfl ?_
        exact ⟨rfl, rfl, rfl, rfl, Nat.le_refl _, fun _ _ _ => rfl⟩
  · have a1 : decide (most < (m : Int)) = false := by simp; omega
    have a2 : decide ((65535 : Int) < (m : Int)) = false := by simp; omega
    clear hlong
    go_enter Tryd.func63, Tryd.ntmps63
    go_wp2_with fail
    refine (number_err w F B g t v l a _ 2 hw he).mono ?_
    rintro e w1 ⟨rfl, k1⟩
    go_wp2_with fail
    refine (fixed_err w1 F g t v l A m c (hw.grown k1)).mono ?_
    rintro e w2 ⟨rfl, rfl⟩
    go_wp2_with fail
    go_end0
    exact ⟨rfl, k1⟩

/-! ### one op -/
end Go.Proofs.YthjcgdcmbedhnaaDoor
