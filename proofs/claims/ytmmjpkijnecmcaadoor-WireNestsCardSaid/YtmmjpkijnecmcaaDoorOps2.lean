/-
  One op of a script, written by a Writer without an error.
-/
import Derived.Test.YtmmjpkijnecmcaaDoorOps
import Derived.Test.YtmmjpkijnecmcaaDoorVars
namespace Go.Proofs.YtmmjpkijnecmcaaDoor
open Go.RowKit

theorem goodNum {n width : Int} (h : badNum n width = false) : ∃ m k : Nat, n = (m : Int) ∧ width = (k : Int) ∧ 1 ≤ k ∧ k ≤ 8 ∧ m < 256 ^ k := by
  unfold badNum at h
  simp only [Bool.or_eq_false_iff, decide_eq_false_iff_not] at h
  obtain ⟨⟨⟨h1, h2⟩, h3⟩, h4⟩ := h
  obtain ⟨k, rfl⟩ := Int.eq_ofNat_of_zero_le (show 0 ≤ width by omega)
  obtain ⟨m, rfl⟩ := Int.eq_ofNat_of_zero_le (show 0 ≤ n by omega)
  refine ⟨m, k, rfl, rfl, by omega, by omega, ?_⟩
  rw [Int.toNat_natCast, shr_cast] at h4
  have h5 : m / 256 ^ k = 0 := by
    simp only [bne_eq_false_iff_eq] at h4
    omega
  exact (Nat.div_eq_zero_iff_lt (Nat.pow_pos (by omega))).1 h5

/-- What an op leaves of a Writer without an error that holds l: the error's number, the bytes. -/
def wOp (o : OpV) (l : List UInt8) : Nat × List UInt8 :=
  if o.kind == 1 then (if badNum o.n o.width then (1, l) else (0, l ++ be o.width.toNat o.n.toNat))
  else if o.kind == 2 then (0, l ++ [if bits BinOp.and IntKind.i64 o.n 1 == 1 then 1 else 0])
  else if o.kind == 3 then (0, l ++ o.bytes)
  else if o.kind == 4 then (if o.most < (o.bytes.length : Int) ∨ 65535 < o.bytes.length then (1, l) else (0, l ++ (be 2 o.bytes.length ++ o.bytes)))
  else if o.kind == 5 then (if o.most < (o.bytes.length : Int) ∨ 255 < o.bytes.length then (1, l) else (0, l ++ (be 1 o.bytes.length ++ o.bytes)))
  else if o.kind == 6 then (10, l) else (0, l)

set_option maxHeartbeats 1000000 in
theorem write_op_ok (w : World) (F : Nat → Prop) (B g : Nat) (E : Nat → Addr) (l : List UInt8) (o : OpV) (A : Option Addr) (c : Nat) (hw : WrIs w F g .nilIface l) (he : ErrVars [0, 9] w B E) (hx : BytesAt w A o.bytes)
    (hA : ∀ ad, A = some ad → o.bytes ≠ [] → ¬ F ad.block) (hl : l.length ≤ 1000000000) (hxl : o.bytes.length ≤ 1000000000) :
    Calls Tryd.prog 13 #[.pointer (some ⟨g, 0, none⟩), opVal o A c] w fun e w' => e = .returned (.tuple #[]) ∧ WrIs w' (upTo F w.heap.size w'.heap.size) g (evOf E (wOp o l).1) (wOp o l).2 ∧ Kept F w w' := by
  obtain ⟨kind, n, width, most, x⟩ := o
  unfold opVal
  simp only at hx hA hxl ⊢
  have k0 := World.grownBy_alloc w (.cells #[.int .i64 kind, .int .i64 n, .int .i64 width, .int .i64 most, .slice A x.length c] 29) none
  have K0 : Kept F w (w.alloc (.cells #[.int .i64 kind, .int .i64 n, .int .i64 width, .int .i64 most, .slice A x.length c] 29)) := (Kept.refl F w).alloc _
  have hw1 := hw.alloc (.cells #[.int .i64 kind, .int .i64 n, .int .i64 width, .int .i64 most, .slice A x.length c] 29)
  have he1 := he.grown k0 (fun _ e => by cases e)
  have hx1 := hx.alloc (.cells #[.int .i64 kind, .int .i64 n, .int .i64 width, .int .i64 most, .slice A x.length c] 29)
  have hr9 : (w.alloc (.cells #[.int .i64 kind, .int .i64 n, .int .i64 width, .int .i64 most, .slice A x.length c] 29)).cell? ⟨0, 0, none⟩ = some (errV (E 9)) := (he1.var 9 (by simp)).1
  have HA : Hid (∀ ad, A = some ad → x ≠ [] → ¬ F ad.block) := hA
  clear hA
  go_enter Tryd.func13, Tryd.ntmps13
  go_wp2_with fail
  all_goals (generalize hW : w.alloc (.cells #[.int .i64 kind, .int .i64 n, .int .i64 width, .int .i64 most, .slice A x.length c] 29) = W1 at *)
  all_goals (have z0 : W1.heap.size = w.heap.size + 1 := by rw [← hW]; simp)
  all_goals clear hW
  all_goals
    have fin : ∀ (w' : World) (e : Nat) (l' : List UInt8), WrIs w' (upTo F W1.heap.size w'.heap.size) g (evOf E e) l' → Kept F W1 w' → WrIs w' (upTo F w.heap.size w'.heap.size) g (evOf E e) l' ∧ Kept F w w' := fun w' e l' h1 h2 =>
      ⟨h1.mono fun k _ h => by rw [z0] at h; exact upTo_one k h, K0.follow h2 fun _ _ h => h⟩
    have Hfin := Lib.hid fin
    clear fin
    have Hz := Lib.hid z0
    clear z0
  · have t1 : (kind == 1) = true := by assumption
    cases hbad : badNum n width
    · obtain ⟨m, k, rfl, rfl, h1, h8, hm⟩ := goodNum hbad
      have ho : wOp ⟨kind, (m : Int), (k : Int), most, x⟩ l = (0, l ++ be k m) := by simp [wOp, t1, hbad]
      have Ho := Lib.hid ho
      clear ho hbad
      refine (number_ok W1 F g l m k hw1 h1 h8 hm (by omega)).mono ?_
      rintro e w2 ⟨rfl, hw2, k2⟩
      go_wp2_with fail
      go_end0
      rw [Ho.out]
      exact ⟨rfl, Hfin.out w2 0 _ hw2 k2⟩
    · have ho : wOp ⟨kind, n, width, most, x⟩ l = (1, l) := by simp [wOp, t1, hbad]
      have Ho := Lib.hid ho
      clear ho
      refine (number_bad W1 F B g l _ n width hw1 (he1.var 0 (by simp)) hbad).mono ?_
      rintro e w2 ⟨rfl, hw2, k2⟩
      go_wp2_with fail
      go_end0
      rw [Ho.out]
      exact ⟨rfl, Hfin.out w2 1 _ (hw2.mono fun _ _ h => .inl h) (Kept.of_grown k2 fun g' e => by injection e with e; rw [← e]; exact hw1.1)⟩
  · have t1 : (kind == 1) = false := by assumption
    have t2 : (kind == 2) = true := by assumption
    have ho : wOp ⟨kind, n, width, most, x⟩ l = (0, l ++ [if bits BinOp.and IntKind.i64 n 1 == 1 then 1 else 0]) := by simp [wOp, t1, t2]
    have Ho := Lib.hid ho
    clear ho
    refine (flag_ok W1 F g l _ hw1 (by omega)).mono ?_
    rintro e w2 ⟨rfl, hw2, k2⟩
    go_wp2_with fail
    go_end0
    rw [Ho.out]
    exact ⟨rfl, Hfin.out w2 0 _ hw2 k2⟩
  · have t1 : (kind == 1) = false := by assumption
    have t2 : (kind == 2) = false := by assumption
    have t3 : (kind == 3) = true := by assumption
    have ho : wOp ⟨kind, n, width, most, x⟩ l = (0, l ++ x) := by simp [wOp, t1, t2, t3]
    have Ho := Lib.hid ho
    clear ho
    refine (fixed_ok W1 F g l A _ c x rfl hw1 hx1 (by omega)).mono ?_
    rintro e w2 ⟨rfl, hw2, k2⟩
    go_wp2_with fail
    go_end0
    rw [Ho.out]
    exact ⟨rfl, Hfin.out w2 0 _ hw2 k2⟩
  · have t1 : (kind == 1) = false := by assumption
    have t2 : (kind == 2) = false := by assumption
    have t3 : (kind == 3) = false := by assumption
    have t4 : (kind == 4) = true := by assumption
    by_cases hlong : most < (x.length : Int) ∨ 65535 < x.length
    · have ho : wOp ⟨kind, n, width, most, x⟩ l = (1, l) := by simp [wOp, t1, t2, t3, t4, hlong]
      have Ho := Lib.hid ho
      clear ho
      refine (bytes_bad W1 F B g l _ A _ c most hw1 (he1.var 0 (by simp)) hlong).mono ?_
      rintro e w2 ⟨rfl, hw2, k2⟩
      go_wp2_with fail
      go_end0
      rw [Ho.out]
      exact ⟨rfl, Hfin.out w2 1 _ (hw2.mono fun _ _ h => .inl h) (k2.mono fun j _ h => by rw [h]; exact hw1.1)⟩
    · have ho : wOp ⟨kind, n, width, most, x⟩ l = (0, l ++ (be 2 x.length ++ x)) := by simp [wOp, t1, t2, t3, t4, hlong]
      have Ho := Lib.hid ho
      clear ho
      refine (bytes_ok W1 F g l A _ c most x rfl hw1 hx1 HA.out (by omega) (by omega) (by omega)).mono ?_
      rintro e w2 ⟨rfl, hw2, k2⟩
      go_wp2_with fail
      go_end0
      rw [Ho.out]
      exact ⟨rfl, Hfin.out w2 0 _ hw2 k2⟩
  · have t1 : (kind == 1) = false := by assumption
    have t2 : (kind == 2) = false := by assumption
    have t3 : (kind == 3) = false := by assumption
    have t4 : (kind == 4) = false := by assumption
    have t5 : (kind == 5) = true := by assumption
    by_cases hlong : most < (x.length : Int) ∨ 255 < x.length
    · have ho : wOp ⟨kind, n, width, most, x⟩ l = (1, l) := by simp [wOp, t1, t2, t3, t4, t5, hlong]
      have Ho := Lib.hid ho
      clear ho
      refine (put_bad W1 F B g l _ A _ c most hw1 (he1.var 0 (by simp)) hlong).mono ?_
      rintro e w2 ⟨rfl, hw2, k2⟩
      go_wp2_with fail
      go_end0
      rw [Ho.out]
      exact ⟨rfl, Hfin.out w2 1 _ (hw2.mono fun _ _ h => .inl h) (k2.mono fun j _ h => by rw [h]; exact hw1.1)⟩
    · have ho : wOp ⟨kind, n, width, most, x⟩ l = (0, l ++ (be 1 x.length ++ x)) := by simp [wOp, t1, t2, t3, t4, t5, hlong]
      have Ho := Lib.hid ho
      clear ho
      refine (put_ok W1 F g l A _ c most x rfl hw1 (by omega) hx1 HA.out (by omega) (by omega)).mono ?_
      rintro e w2 ⟨rfl, hw2, k2⟩
      go_wp2_with fail
      go_end0
      rw [Ho.out]
      exact ⟨rfl, Hfin.out w2 0 _ hw2 k2⟩
  · have t1 : (kind == 1) = false := by assumption
    have t2 : (kind == 2) = false := by assumption
    have t3 : (kind == 3) = false := by assumption
    have t4 : (kind == 4) = false := by assumption
    have t5 : (kind == 5) = false := by assumption
    have t6 : (kind == 6) = true := by assumption
    have ho : wOp ⟨kind, n, width, most, x⟩ l = (10, l) := by simp [wOp, t1, t2, t3, t4, t5, t6]
    have Ho := Lib.hid ho
    clear ho
    have hw1' := hw1
    obtain ⟨hBg, bA, bc, hb, hown, hF⟩ := hw1'
    go_region_with (go_at_call 32; refine (fail_new _ g 64 _ _ (.slice bA l.length bc) ?_).mono ?_; exact hb.drew; rintro e w1 ⟨rfl, rfl⟩)
    all_goals
      go_wp2
      first | go_end0 | refine bodyPost_ret (results_none rfl _ _ _) rfl ?_
      rw [Ho.out]
      exact ⟨rfl, Hfin.out _ 10 _ (hw1.failed.mono fun _ _ h => .inl h) (Kept.of_grown (grown_set (w := W1) g (errV (E 9))) fun g' e => by injection e with e; rw [← e]; exact hw1.1)⟩
  · have t1 : (kind == 1) = false := by assumption
    have t2 : (kind == 2) = false := by assumption
    have t3 : (kind == 3) = false := by assumption
    have t4 : (kind == 4) = false := by assumption
    have t5 : (kind == 5) = false := by assumption
    have t6 : (kind == 6) = false := by assumption
    have ho : wOp ⟨kind, n, width, most, x⟩ l = (0, l) := by simp [wOp, t1, t2, t3, t4, t5, t6]
    go_end0
    rw [ho]
    exact ⟨rfl, Hfin.out W1 0 _ (hw1.mono fun _ _ h => .inl h) (Kept.refl _ _)⟩
end Go.Proofs.YtmmjpkijnecmcaaDoor
