/-
  WireForth: the walk.
-/
import Derived.Test.YtjmdlpefacbmmaaDoorAlive
import Derived.Test.YtjmdlpefacbmmaaDoorRead2
import Derived.Test.YtjmdlpefacbmmaaDoorArgs
namespace Go.Proofs.YtjmdlpefacbmmaaDoor
open Go.RowKit

theorem Kept.then {F G : Nat → Prop} {a b c : World} (h : Kept F a b) (k : Kept G b c) (hF : ∀ k, k < a.heap.size → G k → F k) : Kept F a c :=
  ⟨k.os.trans h.os, k.tape.trans h.tape, k.output.trans h.output, Nat.le_trans h.size k.size, fun i hi hn => (k.block i (Nat.lt_of_lt_of_le hi h.size) (fun hg => hn (hF i hi hg))).trans (h.block i hi hn)⟩
theorem valOf_cons : ∀ (l : List UInt8) (n : Nat), l.foldl (fun n c => n * 256 + c.toNat) n = n * 256 ^ l.length + valOf l := by
  have key : ∀ (l : List UInt8) (n : Nat), l.foldl (fun n c => n * 256 + c.toNat) n = n * 256 ^ l.length + l.foldl (fun n c => n * 256 + c.toNat) 0 := by
    intro l
    induction l with
    | nil => intro n; simp
    | cons d l ih =>
      intro n
      rw [List.foldl_cons, ih, List.foldl_cons, ih (0 * 256 + d.toNat), List.length_cons, Nat.pow_succ]
      rw [Nat.add_mul, Nat.mul_assoc, Nat.mul_comm 256]
      simp; omega
  exact fun l n => key l n
theorem valOf_bound (l : List UInt8) : valOf l < 256 ^ l.length := by
  have := valOf_take_lt l l.length (Nat.le_refl _)
  rwa [List.take_of_length_le (Nat.le_refl _)] at this
theorem be_low (k : Nat) : ∀ a b : Nat, be k (a * 256 ^ k + b) = be k b := by
  induction k with
  | zero => intro a b; rfl
  | succ k ih =>
    intro a b
    have e : a * 256 ^ (k + 1) + b = (a * 256) * 256 ^ k + b := by rw [Nat.pow_succ, Nat.mul_comm (256 ^ k) 256, Nat.mul_assoc]
    have hp : 0 < 256 ^ k := Nat.pow_pos (by omega)
    simp only [be]
    rw [e, ih, Nat.add_comm, Nat.add_mul_div_right _ _ hp]
    congr 1
    apply UInt8.toNat_inj.1
    simp
theorem be_valOf : ∀ (X : List UInt8), be X.length (valOf X) = X
  | [] => rfl
  | c :: l => by
    have h : valOf (c :: l) = c.toNat * 256 ^ l.length + valOf l := by
      show (c :: l).foldl (fun n c => n * 256 + c.toNat) 0 = _
      rw [List.foldl_cons, valOf_cons]; simp
    have hb := valOf_bound l
    have hp : 0 < 256 ^ l.length := Nat.pow_pos (by omega)
    rw [h, List.length_cons]
    simp only [be]
    rw [be_low, be_valOf l, Nat.add_comm, Nat.add_mul_div_right _ _ hp, Nat.div_eq_of_lt hb]
    simp

theorem rnum_any (w : World) (B g s : Nat) (l : List UInt8) (a0 a1 : Addr) (x : Int) (hr : RdIs w g s .nilIface l) (he0 : ErrAt w B 1 a0) (he1 : ErrAt w B 2 a1) (hg : B ≤ g) :
    (∃ width : Nat, x = (width : Int) ∧ 1 ≤ width ∧ width ≤ 8 ∧ width ≤ l.length ∧ valOf (l.take width) < 9223372036854775808 ∧
      Calls Tryd.prog 36 #[.pointer (some ⟨g, 0, none⟩), .int .i64 (width : Int)] w fun e w' => e = .returned (.int .i64 (valOf (l.take width) : Nat)) ∧ RdIs w' g s .nilIface (l.drop width) ∧ w.grownBy w' (some g)) ∨
    Calls Tryd.prog 36 #[.pointer (some ⟨g, 0, none⟩), .int .i64 x] w fun e w' => e = .returned (.int .i64 0) ∧ (∃ a l', RdIs w' g s (errV a) l') ∧ w.grownBy w' (some g) := by
  by_cases hbad : x < 1 ∨ 8 < x
  · exact .inr ((rnum_bad w B g s l a0 x hr he0 hbad).mono fun _ _ ⟨h1, h2, h3⟩ => ⟨h1, ⟨_, _, h2⟩, h3⟩)
  · obtain ⟨width, rfl⟩ := Int.eq_ofNat_of_zero_le (show 0 ≤ x by omega)
    by_cases hn : width ≤ l.length
    · by_cases hv : valOf (l.take width) < 9223372036854775808
      · exact .inl ⟨width, rfl, by omega, by omega, hn, hv, rnum_ok w g s l width hr (by omega) (by omega) hn hv⟩
      · exact .inr ((rnum_big w B g s l a0 width he0 hg hr (by omega) (by omega) hn (by omega)).mono fun _ _ ⟨h1, h2, h3⟩ => ⟨h1, ⟨_, _, h2⟩, h3⟩)
    · exact .inr ((rnum_short w B g s l a1 width hr he1 (by omega) (by omega) (by omega)).mono fun _ _ ⟨h1, h2, h3⟩ => ⟨h1, ⟨_, _, h2⟩, h3⟩)

theorem done_n (w : World) (F : Nat → Prop) (g n : Nat) (l : List UInt8) (hn : l.length = n) (hw : WrIs w F g .nilIface l) (hl : n ≤ 140737488355328) :
    Calls Tryd.prog 33 #[.pointer (some ⟨g, 0, none⟩)] w fun e w' => ∃ A c, e = .returned (.tuple #[.slice A n c, .nilIface]) ∧ w'.ownsRow w.heap.size 5 1 (.slice A n c) n (Lib.byteCells l) ∧ w.grownBy w' none := by
  subst hn
  exact done_ok w F g l hw hl
def outside (g B : Nat) : Nat → Prop := fun k => k = g ∨ B ≤ k

end Go.Proofs.YtjmdlpefacbmmaaDoor
