/-
  Several texts in one: Alive, Forth, Model, Model2, Model3, Model4.
-/
import Derived.Test.YthkjlgjbjjjohaaGreatDoorWireA
import Derived.Test.YthkjlgjbjjjohaaGreatDoorErrA
import Derived.Laws.BytesArg
import Derived.Lib.SlBytesConst
import Derived.Test.YthkjlgjbjjjohaaGreatDoorWireB
/-
  The law's own 'alive': it answers true, and turns nothing that was there. What 'string(b)' is.
-/
namespace Go.Proofs.YthkjlgjbjjjohaaGreatDoor
open Go.RowKit

theorem toString_any {w : World} {A : Option Addr} {n c : Nat} {l : List UInt8} (hb : BytesAt w A l) (hn : l.length = n) :
    (convert 49 9 (.slice A n c)).run Tryz.prog w = .ok (.string ⟨l.toArray⟩) w := by
  subst hn
  rcases A with _ | ad
  · have hl0 : l = [] := by
      rcases l with _ | ⟨x, r⟩
      · rfl
      · obtain ⟨_, h, _⟩ := hb (by simp)
        cases h
    subst hl0
    exact run_convert_bytes_nil w 49 5 Tryz.underlying49 Tryz.underlying5 _ _ 9 Tryz.underlying9
  · refine run_convert_bytes_back w 49 9 5 ad c l Tryz.underlying49 Tryz.underlying5 Tryz.underlying9 fun j hj => ?_
    obtain ⟨ad', h, hc⟩ := hb (by intro e; subst e; simp at hj)
    injection h with h
    subst h
    exact hc j hj
theorem upTo_fresh {F : Nat → Prop} {a b : Nat} (h : ¬ F b) : ¬ upTo F a b b := by
  rintro (hf | ⟨_, h2⟩)
  · exact h hf
  · omega
theorem be_alive : ([] : List UInt8) ++ be 2 258 ++ (be 2 2 ++ [97, 98]) = [1, 2, 0, 2, 97, 98] := by decide

end Go.Proofs.YthkjlgjbjjjohaaGreatDoor
/-
  WireForth: the walk.
-/
namespace Go.Proofs.YthkjlgjbjjjohaaGreatDoor
open Go.RowKit

theorem Kept.then {F G : Nat → Prop} {a b c : World} (h : Kept F a b) (k : Kept G b c) (hF : ∀ k, k < a.heap.size → G k → F k) : Kept F a c :=
  ⟨k.os.trans h.os, k.tape.trans h.tape, k.output.trans h.output, Nat.le_trans h.size k.size, fun i hi hn => (k.block i (Nat.lt_of_lt_of_le hi h.size) (fun hg => hn (hF i hi hg))).trans (h.block i hi hn)⟩
theorem valOf_cons : ∀ (l : List UInt8) (n : Nat), l.foldl (fun n c => n * 256 + c.toNat) n = n * 256 ^ l.length + valOf l := by
  have key : ∀ (l : List UInt8) (n : Nat), l.foldl (fun n c => n * 256 + c.toNat) n = n * 256 ^ l.length + l.foldl (fun n c => n * 256 + c.toNat) 0 := by
    intro l
    induction l with
    | nil => intro n; simp
    | cons d l ih =>
      intro n
      rw [List.foldl_cons, ih, List.foldl_cons, ih (0 * 256 + d.toNat), List.length_cons, Nat.pow_succ]
      rw [Nat.add_mul, Nat.mul_assoc, Nat.mul_comm 256]
      simp; omega
  exact fun l n => key l n
theorem valOf_bound (l : List UInt8) : valOf l < 256 ^ l.length := by
  have := valOf_take_lt l l.length (Nat.le_refl _)
  rwa [List.take_of_length_le (Nat.le_refl _)] at this
theorem be_low (k : Nat) : ∀ a b : Nat, be k (a * 256 ^ k + b) = be k b := by
  induction k with
  | zero => intro a b; rfl
  | succ k ih =>
    intro a b
    have e : a * 256 ^ (k + 1) + b = (a * 256) * 256 ^ k + b := by rw [Nat.pow_succ, Nat.mul_comm (256 ^ k) 256, Nat.mul_assoc]
    have hp : 0 < 256 ^ k := Nat.pow_pos (by omega)
    simp only [be]
    rw [e, ih, Nat.add_comm, Nat.add_mul_div_right _ _ hp]
    congr 1
    apply UInt8.toNat_inj.1
    simp
theorem be_valOf : ∀ (X : List UInt8), be X.length (valOf X) = X
  | [] => rfl
  | c :: l => by
    have h : valOf (c :: l) = c.toNat * 256 ^ l.length + valOf l := by
      show (c :: l).foldl (fun n c => n * 256 + c.toNat) 0 = _
      rw [List.foldl_cons, valOf_cons]; simp
    have hb := valOf_bound l
    have hp : 0 < 256 ^ l.length := Nat.pow_pos (by omega)
    rw [h, List.length_cons]
    simp only [be]
    rw [be_low, be_valOf l, Nat.add_comm, Nat.add_mul_div_right _ _ hp, Nat.div_eq_of_lt hb]
    simp

theorem rnum_any (w : World) (B g s : Nat) (l : List UInt8) (a0 a1 : Addr) (x : Int) (hr : RdIs w g s .nilIface l) (he0 : ErrAt w B 0 a0) (he1 : ErrAt w B 3 a1) (hg : B ≤ g) :
    (∃ width : Nat, x = (width : Int) ∧ 1 ≤ width ∧ width ≤ 8 ∧ width ≤ l.length ∧ valOf (l.take width) < 9223372036854775808 ∧
      Calls Tryz.prog 74 #[.pointer (some ⟨g, 0, none⟩), .int .i64 (width : Int)] w fun e w' => e = .returned (.int .i64 (valOf (l.take width) : Nat)) ∧ RdIs w' g s .nilIface (l.drop width) ∧ w.grownBy w' (some g)) ∨
    Calls Tryz.prog 74 #[.pointer (some ⟨g, 0, none⟩), .int .i64 x] w fun e w' => e = .returned (.int .i64 0) ∧ (∃ a l', RdIs w' g s (errV a) l') ∧ w.grownBy w' (some g) := by
  by_cases hbad : x < 1 ∨ 8 < x
  · exact .inr ((rnum_bad w B g s l a0 x hr he0 hbad).mono fun _ _ ⟨h1, h2, h3⟩ => ⟨h1, ⟨_, _, h2⟩, h3⟩)
  · obtain ⟨width, rfl⟩ := Int.eq_ofNat_of_zero_le (show 0 ≤ x by omega)
    by_cases hn : width ≤ l.length
    · by_cases hv : valOf (l.take width) < 9223372036854775808
      · exact .inl ⟨width, rfl, by omega, by omega, hn, hv, rnum_ok w g s l width hr (by omega) (by omega) hn hv⟩
      · exact .inr ((rnum_big w B g s l a0 width he0 hg hr (by omega) (by omega) hn (by omega)).mono fun _ _ ⟨h1, h2, h3⟩ => ⟨h1, ⟨_, _, h2⟩, h3⟩)
    · exact .inr ((rnum_short w B g s l a1 width hr he1 (by omega) (by omega) (by omega)).mono fun _ _ ⟨h1, h2, h3⟩ => ⟨h1, ⟨_, _, h2⟩, h3⟩)

theorem done_n (w : World) (F : Nat → Prop) (g n : Nat) (l : List UInt8) (hn : l.length = n) (hw : WrIs w F g .nilIface l) (hl : n ≤ 140737488355328) :
    Calls Tryz.prog 84 #[.pointer (some ⟨g, 0, none⟩)] w fun e w' => ∃ A c, e = .returned (.tuple #[.slice A n c, .nilIface]) ∧ w'.ownsRow w.heap.size 5 1 (.slice A n c) n (Lib.byteCells l) ∧ w.grownBy w' none := by
  subst hn
  exact done_ok w F g l hw hl
def outside (g B : Nat) : Nat → Prop := fun k => k = g ∨ B ≤ k

end Go.Proofs.YthkjlgjbjjjohaaGreatDoor
/-
  The reference reader's small methods: Fail, Left, Done.
-/

namespace Go.Proofs.YthkjlgjbjjjohaaGreatDoor
open Go.RowKit

/-- The reference reader at block m: the bytes b, of which `k` are read, and the first error's number. -/
def MdIs (w : World) (m : Nat) (A : Option Addr) (c : Nat) (b : List UInt8) (k e : Nat) : Prop :=
  Blk w m 113 #[.slice A b.length c, .int .i64 (k : Int), .int .i64 (e : Int)] ∧ BytesAt w A b ∧ k ≤ b.length ∧ b.length ≤ c ∧ ∀ ad, A = some ad → b ≠ [] → ad.block ≠ m
theorem MdIs.kept {w w' : World} {F : Nat → Prop} {m : Nat} {A : Option Addr} {c : Nat} {b : List UInt8} {k e : Nat} (h : MdIs w m A c b k e) (hk : Kept F w w') (hm : ¬ F m) (hA : ∀ ad, A = some ad → b ≠ [] → ¬ F ad.block) : MdIs w' m A c b k e :=
  ⟨h.1.kept hk hm, h.2.1.kept' hk hA, h.2.2⟩
theorem MdIs.set {w : World} {m : Nat} {A : Option Addr} {c : Nat} {b : List UInt8} {k e : Nat} (h : MdIs w m A c b k e) (e' : Nat) : MdIs (w.setCell ⟨m, 2, none⟩ (.int .i64 (e' : Int))) m A c b k e' :=
  ⟨by simpa using h.1.set 2 (.int .i64 (e' : Int)), h.2.1.kept' ((Kept.refl (fun j => j = m) w).set (p := ⟨m, 2, none⟩) (.inl rfl) _) (fun ad e hne => h.2.2.2.2 ad e hne), h.2.2⟩
theorem MdIs.step {w : World} {m : Nat} {A : Option Addr} {c : Nat} {b : List UInt8} {k e : Nat} (h : MdIs w m A c b k e) (k' : Nat) (hk : k' ≤ b.length) : MdIs (w.setCell ⟨m, 1, none⟩ (.int .i64 (k' : Int))) m A c b k' e :=
  ⟨by simpa using h.1.set 1 (.int .i64 (k' : Int)), h.2.1.kept' ((Kept.refl (fun j => j = m) w).set (p := ⟨m, 1, none⟩) (.inl rfl) _) (fun ad e hne => h.2.2.2.2 ad e hne), hk, h.2.2.2.1, h.2.2.2.2⟩

section
variable (w : World) (m : Nat) (A : Option Addr) (c : Nat) (b : List UInt8) (k e : Nat)
theorem mfail (n e' : Nat) (h' : (if e = 0 then n else e) = e') (h : MdIs w m A c b k e) :
    Calls Tryz.prog 86 #[.pointer (some ⟨m, 0, none⟩), .int .i64 (n : Int)] w fun en w' => en = .returned (.tuple #[]) ∧ MdIs w' m A c b k e' ∧ Kept (fun j => j = m) w w' := by
  have c2 : w.cell? ⟨m, 2, none⟩ = some (.int .i64 (e : Int)) := h.1.cell 2
  have f2 := h.1.frozen 2
  by_cases h0 : e = 0
  · have b1 : ((e : Int) == 0) = true := by rw [h0]; rfl
    rw [if_pos h0] at h'
    subst h'
    have H := Lib.hid h
    clear h h0
    go_enter Tryz.func86, Tryz.ntmps86
    go_wp2
    go_end0
    exact ⟨rfl, H.out.set n, (Kept.refl (fun j => j = m) w).set (p := ⟨m, 2, none⟩) (.inl rfl) _⟩
  · have b1 : ((e : Int) == 0) = false := by simp; omega
    rw [if_neg h0] at h'
    subst h'
    have H := Lib.hid h
    clear h h0
    go_enter Tryz.func86, Tryz.ntmps86
    go_wp2
    go_end0
    exact ⟨rfl, H.out, Kept.refl _ _⟩
theorem mleft (r : Nat) (hr : b.length - k = r) (h : MdIs w m A c b k e) (hl : b.length ≤ 1000000000) :
    Calls Tryz.prog 87 #[.pointer (some ⟨m, 0, none⟩)] w fun en w' => en = .returned (.int .i64 (r : Int)) ∧ Kept (fun _ => False) w w' := by
  have c0 : w.cell? ⟨m, 0, none⟩ = some (.slice A b.length c) := h.1.cell 0
  have c1 : w.cell? ⟨m, 1, none⟩ = some (.int .i64 (k : Int)) := h.1.cell 1
  have hk := h.2.2.1
  have hs : IntKind.i64.wrap ((b.length : Int) - (k : Int)) = (r : Int) := by rw [IntKind.wrap_i64]; omega
  clear h hr
  go_enter Tryz.func87, Tryz.ntmps87
  go_wp2_with fail
  go_region
  all_goals
    go_wp2
    go_ret
    exact ⟨rfl, (Kept.refl _ w).drew⟩
theorem mdone (e' : Nat) (hp : pDone e (b.drop k) = e') (h : MdIs w m A c b k e) (hl : b.length ≤ 1000000000) :
    Calls Tryz.prog 47 #[.pointer (some ⟨m, 0, none⟩)] w fun en w' => en = .returned (.int .i64 (e' : Int)) ∧ Kept (fun _ => False) w w' := by
  have c2 : w.cell? ⟨m, 2, none⟩ = some (.int .i64 (e : Int)) := h.1.cell 2
  have H := Lib.hid h
  obtain ⟨r, hr⟩ : ∃ r, b.length - k = r := ⟨_, rfl⟩
  have Hr := Lib.hid hr
  by_cases h0 : e = 0
  · have b1 : ((e : Int) == 0) = true := by rw [h0]; rfl
    by_cases h1 : 0 < r
    · have b2 : decide ((0 : Int) < (r : Int)) = true := by simp; omega
      have hp' : e' = 3 := by
        rw [← hp, pDone, if_pos ⟨h0, fun h => by have := congrArg List.length h; simp at this; omega⟩]
      subst hp'
      clear hp h0 h hr
      go_enter Tryz.func47, Tryz.ntmps47
      go_wp2_with fail
      refine (mleft w m A c b k e r Hr.out H.out hl).mono ?_
      rintro en w1 ⟨rfl, k1⟩
      go_wp2_with fail
      go_ret
      exact ⟨rfl, k1⟩
    · have b2 : decide ((0 : Int) < (r : Int)) = false := by simp; omega
      have hp' : e' = e := by
        rw [← hp, pDone, if_neg (fun h => h.2 (List.drop_eq_nil_of_le (by omega)))]
      subst hp'
      clear hp h0 h hr
      go_enter Tryz.func47, Tryz.ntmps47
      go_wp2_with fail
      refine (mleft w m A c b k _ r Hr.out H.out hl).mono ?_
      rintro en w1 ⟨rfl, k1⟩
      have c2' := k1.cell c2 (fun h => h)
      go_wp2_with fail
      go_ret
      exact ⟨rfl, k1⟩
  · have b1 : ((e : Int) == 0) = false := by simp; omega
    have hp' : e' = e := by rw [← hp, pDone, if_neg (fun h => h0 h.1)]
    subst hp'
    clear hp h0 h
    go_enter Tryz.func47, Tryz.ntmps47
    go_wp2_with fail
    go_ret
    exact ⟨rfl, Kept.refl _ _⟩
end
end Go.Proofs.YthkjlgjbjjjohaaGreatDoor
/-
  The reference reader's Number.
-/
namespace Go.Proofs.YthkjlgjbjjjohaaGreatDoor
open Go.RowKit

section
variable (w : World) (m : Nat) (A : Option Addr) (c : Nat) (b : List UInt8) (k e : Nat)

/-- The reference reader has an error: no number is read. -/
theorem mnum_err (width : Int) (he : e ≠ 0) (h : MdIs w m A c b k e) :
    Calls Tryz.prog 46 #[.pointer (some ⟨m, 0, none⟩), .int .i64 width] w fun en w' => en = .returned (.int .i64 0) ∧ MdIs w' m A c b k e ∧ Kept (fun j => j = m) w w' := by
  have b1 : ((e : Int) == 0) = false := by simp; omega
  have b2 : ((e : Int) != 0) = true := by simp; omega
  by_cases hbad : width < 1 ∨ 8 < width
  · have hd : decide (width < 1) = true ∨ (decide (width < 1) = false ∧ decide ((8 : Int) < width) = true) := by
      by_cases h1 : width < 1
      · exact .inl (by simpa using h1)
      · exact .inr ⟨by simpa using h1, by simp; omega⟩
    have H := Lib.hid h
    clear hbad h
    rcases hd with t1 | ⟨t1, t2⟩
    all_goals
      go_enter Tryz.func46, Tryz.ntmps46
      go_wp2_with fail
      refine (mfail w m A c b k e 1 e (if_neg he) H.out).mono ?_
      rintro en w1 ⟨rfl, h1, k1⟩
      have c2 : w1.cell? ⟨m, 2, none⟩ = some (.int .i64 (e : Int)) := h1.1.cell 2
      have H1 := Lib.hid h1
      clear h1
      go_wp2_with fail
      go_region
      all_goals
        go_wp2
        go_ret
        exact ⟨rfl, H1.out.kept (Kept.refl (fun _ => False) w1).drew (fun h => h) (fun _ _ _ h => h), k1.drew⟩
  · have t1 : decide (width < 1) = false := by simp; omega
    have t2 : decide ((8 : Int) < width) = false := by simp; omega
    have c2 : w.cell? ⟨m, 2, none⟩ = some (.int .i64 (e : Int)) := h.1.cell 2
    have H := Lib.hid h
    clear hbad h
    go_enter Tryz.func46, Tryz.ntmps46
    go_wp2_with fail
    go_region
    all_goals
      go_wp2
      go_ret
      exact ⟨rfl, H.out.kept (Kept.refl (fun _ => False) w).drew (fun h => h) (fun _ _ _ h => h), (Kept.refl _ w).drew⟩
theorem mnum_bad (width : Int) (hbad : width < 1 ∨ 8 < width) (h : MdIs w m A c b k 0) :
    Calls Tryz.prog 46 #[.pointer (some ⟨m, 0, none⟩), .int .i64 width] w fun en w' => en = .returned (.int .i64 0) ∧ MdIs w' m A c b k 1 ∧ Kept (fun j => j = m) w w' := by
  have hd : decide (width < 1) = true ∨ (decide (width < 1) = false ∧ decide ((8 : Int) < width) = true) := by
    by_cases h1 : width < 1
    · exact .inl (by simpa using h1)
    · exact .inr ⟨by simpa using h1, by simp; omega⟩
  have H := Lib.hid h
  clear hbad h
  rcases hd with t1 | ⟨t1, t2⟩
  all_goals
    go_enter Tryz.func46, Tryz.ntmps46
    go_wp2_with fail
    refine (mfail w m A c b k 0 1 1 (if_pos rfl) H.out).mono ?_
    rintro en w1 ⟨rfl, h1, k1⟩
    have c2 : w1.cell? ⟨m, 2, none⟩ = some (.int .i64 1) := h1.1.cell 2
    have H1 := Lib.hid h1
    clear h1
    go_wp2_with fail
    go_region
    all_goals
      go_wp2
      go_ret
      exact ⟨rfl, H1.out.kept (Kept.refl (fun _ => False) w1).drew (fun h => h) (fun _ _ _ h => h), k1.drew⟩

theorem mnum_short (width : Int) (h1 : 1 ≤ width) (h8 : width ≤ 8) (r : Nat) (hr : b.length - k = r) (hlt : (r : Int) < width) (hl : b.length ≤ 1000000000) (h : MdIs w m A c b k 0) :
    Calls Tryz.prog 46 #[.pointer (some ⟨m, 0, none⟩), .int .i64 width] w fun en w' => en = .returned (.int .i64 0) ∧ MdIs w' m A c b k 2 ∧ Kept (fun j => j = m) w w' := by
  have t1 : decide (width < 1) = false := by simp; omega
  have t2 : decide ((8 : Int) < width) = false := by simp; omega
  have t3 : decide ((r : Int) < width) = true := by simpa using hlt
  have c2 : w.cell? ⟨m, 2, none⟩ = some (.int .i64 0) := h.1.cell 2
  have H := Lib.hid h
  have Hr := Lib.hid hr
  clear h hr
  go_enter Tryz.func46, Tryz.ntmps46
  go_wp2_with fail
  refine (mleft w m A c b k 0 r Hr.out H.out hl).mono ?_
  rintro en w1 ⟨rfl, k1⟩
  have H1 := Lib.hid (H.out.kept k1 (fun h => h) (fun _ _ _ h => h))
  go_wp2_with fail
  refine (mfail w1 m A c b k 0 2 2 (if_pos rfl) H1.out).mono ?_
  rintro en w2 ⟨rfl, h2, k2⟩
  have c2 : w2.cell? ⟨m, 2, none⟩ = some (.int .i64 2) := h2.1.cell 2
  have H2 := Lib.hid h2
  clear h2
  go_wp2_with fail
  go_region
  all_goals
    go_wp2
    go_ret
    exact ⟨rfl, H2.out.kept (Kept.refl (fun _ => False) w2).drew (fun h => h) (fun _ _ _ h => h), ((k1.mono (G := fun j => j = m) (fun _ _ h => h.elim)).then k2 (fun _ _ h => h)).drew⟩
end
end Go.Proofs.YthkjlgjbjjjohaaGreatDoor
/-
  The reference reader's Number, without an error.
-/

namespace Go.Proofs.YthkjlgjbjjjohaaGreatDoor
open Go.RowKit

section
variable (w : World) (m : Nat) (A : Option Addr) (c : Nat) (b : List UInt8) (k e : Nat)

theorem valOf_high (l : List UInt8) (x : UInt8) (r : List UInt8) (hl : l = x :: r) (h8 : r.length = 7) : (9223372036854775808 ≤ valOf l ↔ 128 ≤ x.toNat) := by
  subst hl
  have h := valOf_cons r x.toNat
  have hb := valOf_bound r
  have hv : valOf (x :: r) = r.foldl (fun n c => n * 256 + c.toNat) x.toNat := by simp [valOf]
  rw [hv, h]
  rw [h8] at hb ⊢
  omega

set_option maxRecDepth 100000 in
set_option maxHeartbeats 1000000 in
theorem mnum_ok (width : Nat) (h1 : 1 ≤ width) (h8 : width ≤ 8) (r : Nat) (hr : b.length - k = r) (hle : width ≤ r) (hv : valOf ((b.drop k).take width) < 9223372036854775808) (hl : b.length ≤ 1000000000) (h : MdIs w m A c b k 0) :
    Calls Tryz.prog 46 #[.pointer (some ⟨m, 0, none⟩), .int .i64 (width : Int)] w fun en w' => en = .returned (.int .i64 (valOf ((b.drop k).take width) : Nat)) ∧ MdIs w' m A c b (k + width) 0 ∧ Kept (fun j => j = m) w w' := by
  have t1 : decide ((width : Int) < 1) = false := by simp; omega
  have t2 : decide ((8 : Int) < (width : Int)) = false := by simp; omega
  have t3 : decide ((r : Int) < (width : Int)) = false := by simp; omega
  have t3' : ¬ (r < width) := by omega
  have c2 : w.cell? ⟨m, 2, none⟩ = some (.int .i64 0) := h.1.cell 2
  have c0 : w.cell? ⟨m, 0, none⟩ = some (.slice A b.length c) := h.1.cell 0
  have c1 : w.cell? ⟨m, 1, none⟩ = some (.int .i64 (k : Int)) := h.1.cell 1
  have H := Lib.hid h
  have Hr := Lib.hid hr
  clear h hr
  by_cases hw8 : width = 8
  · have t4 : ((width : Int) == 8) = true := by rw [hw8]; rfl
    have hkb : k < b.length := by have := Hr.out; omega
    have hxs : 128 ≤ (b[k]).toNat ↔ 9223372036854775808 ≤ valOf ((b.drop k).take width) := by
      refine (valOf_high _ b[k] ((b.drop (k + 1)).take 7) ?_ (by have := Hr.out; simp; omega)).symm
      rw [hw8, List.drop_eq_getElem_cons hkb]
      rfl
    go_enter Tryz.func46, Tryz.ntmps46
    go_wp2_with fail
    refine (mleft w m A c b k 0 r Hr.out H.out hl).mono ?_
    rintro en w1 ⟨rfl, k1⟩
    have hm1 := H.out.kept k1 (fun h => h) (fun _ _ _ h => h)
    have H1 := Lib.hid hm1
    have c2' := k1.cell c2 (fun h => h)
    obtain ⟨ab, ao, rfl, hcell⟩ := hm1.2.1.get (by intro e; rw [e] at hkb; simp at hkb)
    have hc := hcell k hkb
    have m0 : w1.cell? ⟨m, 0, none⟩ = some (.slice (some ⟨ab, ao, none⟩) b.length c) := hm1.1.cell 0
    have m1 : w1.cell? ⟨m, 1, none⟩ = some (.int .i64 (k : Int)) := hm1.1.cell 1
    have lo : (0 : Int) ≤ (k : Int) := by omega
    have hi0 : (k : Int) < (b.length : Int) := by omega
    clear hcell hm1
    obtain ⟨x, hx⟩ : ∃ x, b[k] = x := ⟨_, rfl⟩
    rw [hx] at hc hxs
    clear hx
    have t5 : decide ((128 : Int) ≤ (x.toNat : Int)) = false := by simp; omega
    have t5' : x.toNat < 128 := by omega
    clear hxs
    go_wp2_with fail
    go_region
    all_goals
      have H2 := Lib.hid (H1.out.kept (Kept.refl (fun _ => False) w1).drew (fun h => h) (fun _ _ _ h => h))
      have K2 := (k1.mono (G := fun j => j = m) (fun _ _ h => h.elim)).drew
      have c2d : w1.drew.cell? ⟨m, 2, none⟩ = some (.int .i64 0) := c2'
      clear c2'
      generalize w1.drew = w2 at *
      go_wp2_with fail
      go_loopw [5, 6] (fun vn vi wr => ∃ i, i ≤ width ∧ vi = .int .i64 (i : Int) ∧ vn = .int .i64 (valOf (((b.drop k).take width).take i) : Nat) ∧ MdIs wr m (some ⟨ab, ao, none⟩) c b (k + i) 0 ∧ Kept (fun j => j = m) w wr) (fun _ vi _ => width - (intOf vi).toNat)
      case atStart => exact ⟨0, Nat.zero_le _, rfl, rfl, H2.out, K2⟩
      case round =>
        obtain ⟨i, hi, rfl, rfl, hm, K⟩ := hrel
        have hXl : ((b.drop k).take width).length = width := by have := Hr.out; simp; omega
        by_cases hlt : i < width
        · have hb : decide ((i : Int) < (width : Int)) = true := by simp; omega
          have hib : k + i < b.length := by have := Hr.out; omega
          have hx : ((b.drop k).take width)[i]'(by omega) = b[k + i] := by simp
          have hvt := valOf_take ((b.drop k).take width) i (by omega)
          have hle2 : valOf (((b.drop k).take width).take (i + 1)) < 9223372036854775808 := by
            by_cases h7 : i + 1 ≤ 7
            · have := valOf_take_lt ((b.drop k).take width) (i + 1) (by omega)
              have h2 : 256 ^ (i + 1) ≤ 256 ^ 7 := Nat.pow_le_pow_right (by omega) h7
              omega
            · have : (((b.drop k).take width).take (i + 1)) = (b.drop k).take width := List.take_of_length_le (by omega)
              rw [this]; exact hv
          obtain ⟨ab2, ao2, hA2, hcell⟩ := hm.2.1.get (by intro e; rw [e] at hib; simp at hib)
          obtain ⟨rfl, rfl⟩ : ab = ab2 ∧ ao = ao2 := by simpa using hA2
          clear hA2
          have hc := hcell (k + i) hib
          have m0 : wr.cell? ⟨m, 0, none⟩ = some (.slice (some ⟨ab, ao, none⟩) b.length c) := hm.1.cell 0
          have m1 : wr.cell? ⟨m, 1, none⟩ = some (.int .i64 ((k + i : Nat) : Int)) := hm.1.cell 1
          have f1 := hm.1.frozen 1
          rw [hx] at hvt
          clear hcell hx
          obtain ⟨y, hy⟩ : ∃ y, b[k + i] = y := ⟨_, rfl⟩
          rw [hy] at hvt hc
          obtain ⟨vi, hvi⟩ : ∃ vi, valOf (((b.drop k).take width).take i) = vi := ⟨_, rfl⟩
          rw [hvi] at hvt ⊢
          have hy2 := y.toNat_lt
          have p1 : IntKind.i64.wrap (256 * (vi : Int)) = 256 * (vi : Int) := by rw [IntKind.wrap_i64]; omega
          have p2 : IntKind.i64.wrap (256 * (vi : Int) + (y.toNat : Int)) = 256 * (vi : Int) + (y.toNat : Int) := by rw [IntKind.wrap_i64]; omega
          have p3 : IntKind.i64.wrap (y.toNat : Int) = (y.toNat : Int) := by rw [IntKind.wrap_i64]; omega
          have p4 : IntKind.i64.wrap (((k + i : Nat) : Int) + 1) = ((k + i + 1 : Nat) : Int) := by rw [IntKind.wrap_i64]; omega
          have Hm := Lib.hid hm
          have Hvt := Lib.hid hvt
          have Hvi := Lib.hid hvi
          clear hm hvt hvi hy
          go_wp2_with fail
          go_region
          all_goals
            go_wp2_with fail
            go_roundw
            case rel => exact ⟨i + 1, by omega, by go_num, by rw [Hvt.out]; congr 2; push_cast; omega, (Hm.out.kept (Kept.refl (fun _ => False) wr).drew (fun h => h) (fun _ _ _ h => h)).step (k + (i + 1)) (by omega), K.drew.set (p := ⟨m, 1, none⟩) (.inl rfl) _⟩
            case measure => simp [intOf]; omega
        · obtain rfl : i = width := by omega
          have hb : decide ((i : Int) < (i : Int)) = false := by simp
          have htake : ((b.drop k).take i).take i = (b.drop k).take i := List.take_of_length_le (by omega)
          rw [htake]
          go_wp2_with fail
          go_ret
          exact ⟨rfl, hm, K⟩
  · have t4 : ((width : Int) == 8) = false := by simp; omega
    go_enter Tryz.func46, Tryz.ntmps46
    go_wp2_with fail
    refine (mleft w m A c b k 0 r Hr.out H.out hl).mono ?_
    rintro en w1 ⟨rfl, k1⟩
    have H1 := Lib.hid (H.out.kept k1 (fun h => h) (fun _ _ _ h => h))
    have c2' := k1.cell c2 (fun h => h)
    go_wp2_with fail
    go_region
    all_goals
      have H2 := Lib.hid (H1.out.kept (Kept.refl (fun _ => False) w1).drew (fun h => h) (fun _ _ _ h => h))
      have K2 := (k1.mono (G := fun j => j = m) (fun _ _ h => h.elim)).drew
      have c2d : w1.drew.cell? ⟨m, 2, none⟩ = some (.int .i64 0) := c2'
      clear c2'
      generalize w1.drew = w2 at *
      go_wp2_with fail
      go_loopw [5, 6] (fun vn vi wr => ∃ i, i ≤ width ∧ vi = .int .i64 (i : Int) ∧ vn = .int .i64 (valOf (((b.drop k).take width).take i) : Nat) ∧ MdIs wr m A c b (k + i) 0 ∧ Kept (fun j => j = m) w wr) (fun _ vi _ => width - (intOf vi).toNat)
      case atStart => exact ⟨0, Nat.zero_le _, rfl, rfl, H2.out, K2⟩
      case round =>
        obtain ⟨i, hi, rfl, rfl, hm, K⟩ := hrel
        have hXl : ((b.drop k).take width).length = width := by have := Hr.out; simp; omega
        by_cases hlt : i < width
        · have hb : decide ((i : Int) < (width : Int)) = true := by simp; omega
          have hib : k + i < b.length := by have := Hr.out; omega
          have hx : ((b.drop k).take width)[i]'(by omega) = b[k + i] := by simp
          have hvt := valOf_take ((b.drop k).take width) i (by omega)
          have hle2 : valOf (((b.drop k).take width).take (i + 1)) < 9223372036854775808 := by
            by_cases h7 : i + 1 ≤ 7
            · have := valOf_take_lt ((b.drop k).take width) (i + 1) (by omega)
              have h2 : 256 ^ (i + 1) ≤ 256 ^ 7 := Nat.pow_le_pow_right (by omega) h7
              omega
            · have : (((b.drop k).take width).take (i + 1)) = (b.drop k).take width := List.take_of_length_le (by omega)
              rw [this]; exact hv
          obtain ⟨ab, ao, rfl, hcell⟩ := hm.2.1.get (by intro e; rw [e] at hib; simp at hib)
          have hc := hcell (k + i) hib
          have m0 : wr.cell? ⟨m, 0, none⟩ = some (.slice (some ⟨ab, ao, none⟩) b.length c) := hm.1.cell 0
          have m1 : wr.cell? ⟨m, 1, none⟩ = some (.int .i64 ((k + i : Nat) : Int)) := hm.1.cell 1
          have f1 := hm.1.frozen 1
          rw [hx] at hvt
          clear hcell hx
          obtain ⟨y, hy⟩ : ∃ y, b[k + i] = y := ⟨_, rfl⟩
          rw [hy] at hvt hc
          obtain ⟨vi, hvi⟩ : ∃ vi, valOf (((b.drop k).take width).take i) = vi := ⟨_, rfl⟩
          rw [hvi] at hvt ⊢
          have hy2 := y.toNat_lt
          have p1 : IntKind.i64.wrap (256 * (vi : Int)) = 256 * (vi : Int) := by rw [IntKind.wrap_i64]; omega
          have p2 : IntKind.i64.wrap (256 * (vi : Int) + (y.toNat : Int)) = 256 * (vi : Int) + (y.toNat : Int) := by rw [IntKind.wrap_i64]; omega
          have p3 : IntKind.i64.wrap (y.toNat : Int) = (y.toNat : Int) := by rw [IntKind.wrap_i64]; omega
          have p4 : IntKind.i64.wrap (((k + i : Nat) : Int) + 1) = ((k + i + 1 : Nat) : Int) := by rw [IntKind.wrap_i64]; omega
          have Hm := Lib.hid hm
          have Hvt := Lib.hid hvt
          have Hvi := Lib.hid hvi
          clear hm hvt hvi hy
          go_wp2_with fail
          go_region
          all_goals
            go_wp2_with fail
            go_roundw
            case rel => exact ⟨i + 1, by omega, by go_num, by rw [Hvt.out]; congr 2; push_cast; omega, (Hm.out.kept (Kept.refl (fun _ => False) wr).drew (fun h => h) (fun _ _ _ h => h)).step (k + (i + 1)) (by omega), K.drew.set (p := ⟨m, 1, none⟩) (.inl rfl) _⟩
            case measure => simp [intOf]; omega
        · obtain rfl : i = width := by omega
          have hb : decide ((i : Int) < (i : Int)) = false := by simp
          have htake : ((b.drop k).take i).take i = (b.drop k).take i := List.take_of_length_le (by omega)
          rw [htake]
          go_wp2_with fail
          go_ret
          exact ⟨rfl, hm, K⟩

set_option maxRecDepth 100000 in
set_option maxHeartbeats 1000000 in
theorem mnum_big (width : Nat) (hw8 : width = 8) (r : Nat) (hr : b.length - k = r) (hle : width ≤ r) (hv : 9223372036854775808 ≤ valOf ((b.drop k).take width)) (hl : b.length ≤ 1000000000) (h : MdIs w m A c b k 0) :
    Calls Tryz.prog 46 #[.pointer (some ⟨m, 0, none⟩), .int .i64 (width : Int)] w fun en w' => en = .returned (.int .i64 0) ∧ MdIs w' m A c b k 1 ∧ Kept (fun j => j = m) w w' := by
  have t1 : decide ((width : Int) < 1) = false := by simp; omega
  have t2 : decide ((8 : Int) < (width : Int)) = false := by simp; omega
  have t3 : decide ((r : Int) < (width : Int)) = false := by simp; omega
  have t3' : ¬ (r < width) := by omega
  have c2 : w.cell? ⟨m, 2, none⟩ = some (.int .i64 0) := h.1.cell 2
  have H := Lib.hid h
  have Hr := Lib.hid hr
  clear h hr
  · have t4 : ((width : Int) == 8) = true := by rw [hw8]; rfl
    have hkb : k < b.length := by have := Hr.out; omega
    have hxs : 128 ≤ (b[k]).toNat ↔ 9223372036854775808 ≤ valOf ((b.drop k).take width) := by
      refine (valOf_high _ b[k] ((b.drop (k + 1)).take 7) ?_ (by have := Hr.out; simp; omega)).symm
      rw [hw8, List.drop_eq_getElem_cons hkb]
      rfl
    go_enter Tryz.func46, Tryz.ntmps46
    go_wp2_with fail
    refine (mleft w m A c b k 0 r Hr.out H.out hl).mono ?_
    rintro en w1 ⟨rfl, k1⟩
    have hm1 := H.out.kept k1 (fun h => h) (fun _ _ _ h => h)
    have H1 := Lib.hid hm1
    have c2' := k1.cell c2 (fun h => h)
    obtain ⟨ab, ao, rfl, hcell⟩ := hm1.2.1.get (by intro e; rw [e] at hkb; simp at hkb)
    have hc := hcell k hkb
    have m0 : w1.cell? ⟨m, 0, none⟩ = some (.slice (some ⟨ab, ao, none⟩) b.length c) := hm1.1.cell 0
    have m1 : w1.cell? ⟨m, 1, none⟩ = some (.int .i64 (k : Int)) := hm1.1.cell 1
    have lo : (0 : Int) ≤ (k : Int) := by omega
    have hi0 : (k : Int) < (b.length : Int) := by omega
    clear hcell hm1
    obtain ⟨x, hx⟩ : ∃ x, b[k] = x := ⟨_, rfl⟩
    rw [hx] at hc hxs
    clear hx
    have t5 : decide ((128 : Int) ≤ (x.toNat : Int)) = true := by simp; omega
    have t5' : 128 ≤ x.toNat := by omega
    clear hxs
    go_wp2_with fail
    go_region
    all_goals
      have H2 := Lib.hid (H1.out.kept (Kept.refl (fun _ => False) w1).drew (fun h => h) (fun _ _ _ h => h))
      have K2 := (k1.mono (G := fun j => j = m) (fun _ _ h => h.elim)).drew
      go_wp2_with fail
      refine (mfail _ m _ c b k 0 1 1 (if_pos rfl) H2.out).mono ?_
      rintro en w2 ⟨rfl, h2, k2⟩
      have c2e : w2.cell? ⟨m, 2, none⟩ = some (.int .i64 1) := h2.1.cell 2
      have H3 := Lib.hid h2
      clear h2
      go_wp2_with fail
      go_ret
      exact ⟨rfl, H3.out, K2.then k2 (fun _ _ h => h)⟩
end
end Go.Proofs.YthkjlgjbjjjohaaGreatDoor
/-
  The reference reader's Number, all cases in one.
-/

namespace Go.Proofs.YthkjlgjbjjjohaaGreatDoor
open Go.RowKit

/-- What the reference reader is behind a call: the first error's number e, and, if there is none, the bytes l that are left. -/
def MdEnd (w : World) (m : Nat) (A : Option Addr) (c : Nat) (b : List UInt8) (e : Nat) (l : List UInt8) : Prop := ∃ k, MdIs w m A c b k e ∧ (e = 0 → b.drop k = l)
theorem mnum_is (w : World) (m : Nat) (A : Option Addr) (c : Nat) (b : List UInt8) (e : Nat) (l : List UInt8) (width : Int) (n1 e1 : Nat) (l1 : List UInt8) (hp : pNum width e l = (n1, e1, l1)) (hl : b.length ≤ 1000000000) (h : MdEnd w m A c b e l) :
    Calls Tryz.prog 46 #[.pointer (some ⟨m, 0, none⟩), .int .i64 width] w fun en w' => en = .returned (.int .i64 (n1 : Int)) ∧ MdEnd w' m A c b e1 l1 ∧ Kept (fun j => j = m) w w' := by
  obtain ⟨k, hm, hd⟩ := h
  by_cases he : e = 0
  · subst he
    have hd := hd rfl
    subst hd
    unfold pNum at hp
    rw [if_neg (by simp)] at hp
    by_cases hbad : width < 1 ∨ 8 < width
    · rw [if_pos hbad] at hp
      simp only [Prod.mk.injEq] at hp
      obtain ⟨rfl, rfl, rfl⟩ := hp
      exact (mnum_bad w m A c b k width hbad hm).mono fun _ _ ⟨h1, h2, h3⟩ => ⟨h1, ⟨k, h2, fun h => absurd h (by omega)⟩, h3⟩
    · rw [if_neg hbad] at hp
      obtain ⟨wd, rfl⟩ := Int.eq_ofNat_of_zero_le (show 0 ≤ width by omega)
      by_cases hs : ((b.drop k).length : Int) < (wd : Int)
      · rw [if_pos hs] at hp
        simp only [Prod.mk.injEq] at hp
        obtain ⟨rfl, rfl, rfl⟩ := hp
        exact (mnum_short w m A c b k wd (by omega) (by omega) (b.length - k) rfl (by rw [List.length_drop] at hs; omega) hl hm).mono fun _ _ ⟨h1, h2, h3⟩ => ⟨h1, ⟨k, h2, fun h => absurd h (by omega)⟩, h3⟩
      · rw [if_neg hs, Int.toNat_natCast] at hp
        rw [List.length_drop] at hs
        by_cases hv : 9223372036854775808 ≤ valOf ((b.drop k).take wd)
        · rw [if_pos hv] at hp
          simp only [Prod.mk.injEq] at hp
          obtain ⟨rfl, rfl, rfl⟩ := hp
          have h8 : wd = 8 := by
            have hb := valOf_bound ((b.drop k).take wd)
            have hx : ((b.drop k).take wd).length ≤ wd := by simp; omega
            rcases Nat.lt_or_ge wd 8 with h | h
            · have h2 : 256 ^ ((b.drop k).take wd).length ≤ 256 ^ 7 := Nat.pow_le_pow_right (by omega) (by omega)
              omega
            · omega
          exact (mnum_big w m A c b k wd h8 (b.length - k) rfl (by omega) hv hl hm).mono fun _ _ ⟨h1, h2, h3⟩ => ⟨h1, ⟨k, h2, fun h => absurd h (by omega)⟩, h3⟩
        · rw [if_neg hv] at hp
          simp only [Prod.mk.injEq] at hp
          obtain ⟨rfl, rfl, rfl⟩ := hp
          exact (mnum_ok w m A c b k wd (by omega) (by omega) (b.length - k) rfl (by omega) (by omega) hl hm).mono fun _ _ ⟨h1, h2, h3⟩ => ⟨h1, ⟨k + wd, h2, fun _ => by rw [List.drop_drop]⟩, h3⟩
  · unfold pNum at hp
    rw [if_pos he] at hp
    simp only [Prod.mk.injEq] at hp
    obtain ⟨rfl, rfl, rfl⟩ := hp
    exact (mnum_err w m A c b k e width he hm).mono fun _ _ ⟨h1, h2, h3⟩ => ⟨h1, ⟨k, h2, fun h => absurd h he⟩, h3⟩
end Go.Proofs.YthkjlgjbjjjohaaGreatDoor
