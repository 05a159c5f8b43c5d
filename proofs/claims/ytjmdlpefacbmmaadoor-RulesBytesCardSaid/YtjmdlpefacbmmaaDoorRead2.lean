/-
  The contracts of package wire's Reader: Number.
-/
import Derived.Test.YtjmdlpefacbmmaaDoorRead
import Derived.Laws.BitsAllLaws
import Derived.Laws.BitsLemmas
namespace Go.Proofs.YtjmdlpefacbmmaaDoor
open Go.RowKit

/-- The number that bytes stand for, high byte first. -/
def valOf (l : List UInt8) : Nat := l.foldl (fun n c => n * 256 + c.toNat) 0
theorem valOf_snoc (l : List UInt8) (c : UInt8) : valOf (l ++ [c]) = valOf l * 256 + c.toNat := by simp [valOf]
theorem valOf_take (X : List UInt8) (k : Nat) (h : k < X.length) : valOf (X.take (k + 1)) = valOf (X.take k) * 256 + X[k].toNat := by
  rw [List.take_succ_eq_append_getElem h, valOf_snoc]
theorem valOf_take_lt (X : List UInt8) : ∀ k, k ≤ X.length → valOf (X.take k) < 256 ^ k
  | 0, _ => by simp [valOf]
  | k + 1, h => by
    rw [valOf_take X k (by omega), Nat.pow_succ]
    have h2 : valOf (X.take k) + 1 ≤ 256 ^ k := valOf_take_lt X k (by omega)
    have := Nat.mul_le_mul_right 256 h2
    have := X[k].toNat_lt
    omega

theorem or_step (X : List UInt8) (k : Nat) (h : k < X.length) (h8 : X.length ≤ 8) :
    bits BinOp.or IntKind.u64 (IntKind.u64.wrap (((valOf (X.take k) : Nat) : Int) * 256)) (IntKind.u64.wrap ((X[k].toNat : Nat) : Int)) = ((valOf (X.take (k + 1)) : Nat) : Int) := by
  have h1 := valOf_take_lt X k (by omega)
  have h2 : (256 : Nat) ^ k ≤ 256 ^ 7 := Nat.pow_le_pow_right (by omega) (by omega)
  have h3 := X[k].toNat_lt
  have e1 : IntKind.u64.wrap (((valOf (X.take k) : Nat) : Int) * 256) = ((2 ^ 8 * valOf (X.take k) : Nat) : Int) := by rw [IntKind.wrap_u64]; omega
  have e2 : IntKind.u64.wrap ((X[k].toNat : Nat) : Int) = ((X[k].toNat : Nat) : Int) := by rw [IntKind.wrap_u64]; omega
  rw [e1, e2, u64_or_nat _ _ (by omega) (by omega), ← Nat.two_pow_add_eq_or_of_lt h3, valOf_take X k h]
  omega

set_option maxHeartbeats 400000 in
theorem rnum_ok (w : World) (g s : Nat) (l : List UInt8) (width : Nat) (hr : RdIs w g s .nilIface l) (h1 : 1 ≤ width) (h8 : width ≤ 8) (hn : width ≤ l.length) (hv : valOf (l.take width) < 9223372036854775808) :
    Calls Tryd.prog 36 #[.pointer (some ⟨g, 0, none⟩), .int .i64 (width : Int)] w fun e w' => e = .returned (.int .i64 (valOf (l.take width) : Nat)) ∧ RdIs w' g s .nilIface (l.drop width) ∧ w.grownBy w' (some g) := by
  have a1 : decide ((width : Int) < 1) = false := by simp; omega
  have a2 : decide ((8 : Int) < (width : Int)) = false := by simp; omega
  go_enter Tryd.func36, Tryd.ntmps36
  go_wp2_with fail
  refine (next_ok _ g s l width hr hn).mono ?_
  rintro e w1 ⟨A, c, rfl, hb1, hc1, hA1, hr1, k1⟩
  go_wp2_with fail
  have hlen : (l.take width).length = width := by simp; omega
  have Hv := Lib.hid hv
  clear hv
  generalize hX : l.take width = X at *
  have HX := Lib.hid hX
  clear hX
  subst hlen
  go_loop [5, 23] (fun n i => ∃ k : Nat, k ≤ X.length ∧ i = .int .i64 (k : Int) ∧ n = .int .u64 (valOf (X.take k) : Nat)) (fun _ i => X.length - (intOf i).toNat)
  case atStart => exact ⟨0, Nat.zero_le _, rfl, rfl⟩
  case round =>
    obtain ⟨k, hk, rfl, rfl⟩ := hrel
    by_cases hlt : k < X.length
    · obtain ⟨ad, rfl, hc⟩ := hb1 (by rintro rfl; simp at hlt)
      have hcell := hc k hlt
      have hb : decide ((k : Int) < (X.length : Int)) = true := by simp; omega
      go_wp2_with fail
      go_round
      case rel => exact ⟨k + 1, hlt, by go_num, by rw [or_step X k hlt h8]⟩
      case measure => simp [intOf]; omega
    · obtain rfl : k = X.length := by omega
      have hb : decide ((X.length : Int) < (X.length : Int)) = false := by simp
      have hX : X.take X.length = X := List.take_of_length_le (by omega)
      rw [hX]
      have hgt : decide ((9223372036854775807 : Int) < ((valOf X : Nat) : Int)) = false := by have := Hv.out; simp; omega
      have hw : wrap64 ((valOf X : Nat) : Int) = ((valOf X : Nat) : Int) := by have := Hv.out; unfold wrap64; omega
      clear hX
      go_wp2_with fail
      go_ret
      rw [HX.out]
      exact ⟨rfl, hr1, k1⟩

set_option maxHeartbeats 400000 in
/-- 2^63 or more: ErrRange. -/
theorem rnum_big (w : World) (B g s : Nat) (l : List UInt8) (a0 : Addr) (width : Nat) (he0 : ErrAt w B 1 a0) (hg : B ≤ g) (hr : RdIs w g s .nilIface l) (h1 : 1 ≤ width) (h8 : width ≤ 8) (hn : width ≤ l.length) (hv : 9223372036854775808 ≤ valOf (l.take width)) :
    Calls Tryd.prog 36 #[.pointer (some ⟨g, 0, none⟩), .int .i64 (width : Int)] w fun e w' => e = .returned (.int .i64 0) ∧ RdIs w' g s (errV a0) (l.drop width) ∧ w.grownBy w' (some g) := by
  have a1 : decide ((width : Int) < 1) = false := by simp; omega
  have a2 : decide ((8 : Int) < (width : Int)) = false := by simp; omega
  go_enter Tryd.func36, Tryd.ntmps36
  go_wp2_with fail
  refine (next_ok _ g s l width hr hn).mono ?_
  rintro e w1 ⟨A, c, rfl, hb1, hc1, hA1, hr1, k1⟩
  go_wp2_with fail
  have hlen : (l.take width).length = width := by simp; omega
  have Hv := Lib.hid hv
  clear hv
  generalize hX : l.take width = X at *
  have HX := Lib.hid hX
  clear hX
  subst hlen
  go_loop [5, 23] (fun n i => ∃ k : Nat, k ≤ X.length ∧ i = .int .i64 (k : Int) ∧ n = .int .u64 (valOf (X.take k) : Nat)) (fun _ i => X.length - (intOf i).toNat)
  case atStart => exact ⟨0, Nat.zero_le _, rfl, rfl⟩
  case round =>
    obtain ⟨k, hk, rfl, rfl⟩ := hrel
    by_cases hlt : k < X.length
    · obtain ⟨ad, rfl, hc⟩ := hb1 (by rintro rfl; simp at hlt)
      have hcell := hc k hlt
      have hb : decide ((k : Int) < (X.length : Int)) = true := by simp; omega
      go_wp2_with fail
      go_round
      case rel => exact ⟨k + 1, hlt, by go_num, by rw [or_step X k hlt h8]⟩
      case measure => simp [intOf]; omega
    · obtain rfl : k = X.length := by omega
      have hb : decide ((X.length : Int) < (X.length : Int)) = false := by simp
      have hX : X.take X.length = X := List.take_of_length_le (by omega)
      rw [hX]
      have hgt : decide ((9223372036854775807 : Int) < ((valOf X : Nat) : Int)) = true := by have := Hv.out; simp; omega
      have hr1' := hr1
      obtain ⟨A', c', hb, hl, hc, hA⟩ := hr1'
      have hs := (he0.grown k1 (fun g' e => by injection e with e; omega)).1
      clear hX
      go_wp2_with fail
      go_region_with (go_at_call 43; refine (fail_new _ g 86 _ _ (.slice A' (l.drop X.length).length c') ?_).mono ?_; exact hb.drew; rintro e w1 ⟨rfl, rfl⟩)
      all_goals
        go_wp2
        go_ret
        exact ⟨rfl, hr1.failed, grown_trans k1 (grown_set _ _)⟩

set_option maxHeartbeats 400000 in
/-- The Reader has an error, or gets one at once: no number. -/
theorem rnum_err (w : World) (B g s : Nat) (t : TypeId) (v : Value) (l : List UInt8) (a0 a1 : Addr) (width : Int) (hr : RdIs w g s (.iface t v) l) (he0 : ErrAt w B 1 a0) (he1 : ErrAt w B 2 a1) :
    Calls Tryd.prog 36 #[.pointer (some ⟨g, 0, none⟩), .int .i64 width] w fun e w' => e = .returned (.int .i64 0) ∧ w.grownBy w' none := by
  have hr' := hr
  obtain ⟨A, c, hb, hl, hc, hA⟩ := hr'
  have hs := he0.1
  by_cases hbad : width < 1 ∨ 8 < width
  · rcases hbad with hbad | hbad
    · have a1 : decide (width < 1) = true := by simpa using hbad
      go_enter Tryd.func36, Tryd.ntmps36
      go_wp2_with fail
      go_region_with (go_at_call 43; refine (fail_old _ g 86 t v (.slice A l.length c) _ ?_).mono ?_; exact hb.drew; rintro e w1 ⟨rfl, rfl⟩)
      all_goals
        go_wp2
        go_ret
        exact ⟨rfl, rfl, rfl, rfl, Nat.le_refl _, fun _ _ _ => rfl⟩
    · have a1 : decide (width < 1) = false := by simp; omega
      have a2 : decide (8 < width) = true := by simpa using hbad
      go_enter Tryd.func36, Tryd.ntmps36
      go_wp2_with fail
      go_region_with (go_at_call 43; refine (fail_old _ g 86 t v (.slice A l.length c) _ ?_).mono ?_; exact hb.drew; rintro e w1 ⟨rfl, rfl⟩)
      all_goals
        go_wp2
        go_ret
        exact ⟨rfl, rfl, rfl, rfl, Nat.le_refl _, fun _ _ _ => rfl⟩
  · have a1 : decide (width < 1) = false := by simp; omega
    have a2 : decide (8 < width) = false := by simp; omega
    go_enter Tryd.func36, Tryd.ntmps36
    go_wp2_with fail
    refine (next_err _ B g s t v l _ width hr he1).mono ?_
    rintro e w1 ⟨rfl, k1⟩
    go_wp2_with fail
    refine wp_loop_rounds 1 ?_
    rw [rounds_succ]
    go_wp2
    go_ret
    exact ⟨rfl, k1⟩

set_option maxHeartbeats 400000 in
/-- No width: ErrRange. -/
theorem rnum_bad (w : World) (B g s : Nat) (l : List UInt8) (a0 : Addr) (width : Int) (hr : RdIs w g s .nilIface l) (he0 : ErrAt w B 1 a0) (hbad : width < 1 ∨ 8 < width) :
    Calls Tryd.prog 36 #[.pointer (some ⟨g, 0, none⟩), .int .i64 width] w fun e w' => e = .returned (.int .i64 0) ∧ RdIs w' g s (errV a0) l ∧ w.grownBy w' (some g) := by
  have hr' := hr
  obtain ⟨A, c, hb, hl, hc, hA⟩ := hr'
  have hs := he0.1
  have Hr := Lib.hid hr
  clear hr
  have hcases : decide (width < 1) = true ∨ (decide (width < 1) = false ∧ decide (8 < width) = true) := by
    rcases hbad with h | h
    · exact .inl (by simpa using h)
    · exact .inr ⟨by simp; omega, by simpa using h⟩
  clear hbad
  rcases hcases with a1 | ⟨a1, a2⟩
  all_goals
    go_enter Tryd.func36, Tryd.ntmps36
    go_wp2_with fail
    go_region_with (go_at_call 43; refine (fail_new _ g 86 _ _ (.slice A l.length c) ?_).mono ?_; exact hb.drew; rintro e w1 ⟨rfl, rfl⟩)
    all_goals
      go_wp2
      go_ret
      exact ⟨rfl, Hr.out.failed, grown_set _ _⟩

set_option maxHeartbeats 400000 in
/-- Too few bytes: ErrShort. -/
theorem rnum_short (w : World) (B g s : Nat) (l : List UInt8) (a1 : Addr) (width : Int) (hr : RdIs w g s .nilIface l) (he1 : ErrAt w B 2 a1) (h1 : 1 ≤ width) (h8 : width ≤ 8) (hn : (l.length : Int) < width) :
    Calls Tryd.prog 36 #[.pointer (some ⟨g, 0, none⟩), .int .i64 width] w fun e w' => e = .returned (.int .i64 0) ∧ RdIs w' g s (errV a1) l ∧ w.grownBy w' (some g) := by
  have b1 : decide (width < 1) = false := by simp; omega
  have b2 : decide (8 < width) = false := by simp; omega
  go_enter Tryd.func36, Tryd.ntmps36
  go_wp2_with fail
  refine (next_short _ B g s l _ width hr hn he1).mono ?_
  rintro e w1 ⟨rfl, hr1, k1⟩
  go_wp2_with fail
  refine wp_loop_rounds 1 ?_
  rw [rounds_succ]
  go_wp2
  go_ret
  exact ⟨rfl, hr1, k1⟩
end Go.Proofs.YtjmdlpefacbmmaaDoor
