/-
  What each read answers, as a function of the first error's number and of the bytes that are left.
-/
import Derived.Test.YtjmdlpefacbmmaaDoorReadErr
import Derived.Test.YtjmdlpefacbmmaaDoorVars
namespace Go.Proofs.YtjmdlpefacbmmaaDoor
open Go.RowKit

def pNum (width : Int) (e : Nat) (l : List UInt8) : Nat × Nat × List UInt8 :=
  if e ≠ 0 then (0, e, l)
  else if width < 1 ∨ 8 < width then (0, 1, l)
  else if (l.length : Int) < width then (0, 2, l)
  else if 9223372036854775808 ≤ valOf (l.take width.toNat) then (0, 1, l.drop width.toNat)
  else (valOf (l.take width.toNat), 0, l.drop width.toNat)
def pFlag (e : Nat) (l : List UInt8) : Bool × Nat × List UInt8 :=
  let p := pNum 1 e l
  (p.1 == 1, if p.2.1 = 0 ∧ 1 < p.1 then 4 else p.2.1, p.2.2)
def pFixed (n : Int) (e : Nat) (l : List UInt8) : List UInt8 × Nat × List UInt8 :=
  if e ≠ 0 then ([], e, l)
  else if n < 0 then ([], 1, l)
  else if (l.length : Int) < n then ([], 2, l)
  else (l.take n.toNat, 0, l.drop n.toNat)
def pMost (width : Int) (most : Int) (e : Nat) (l : List UInt8) : Nat × Nat × List UInt8 :=
  let p := pNum width e l
  (p.1, if p.2.1 = 0 ∧ most < (p.1 : Int) then 1 else p.2.1, p.2.2)
def pBytes (most : Int) (e : Nat) (l : List UInt8) : List UInt8 × Nat × List UInt8 :=
  let p := pMost 2 most e l
  pFixed p.1 p.2.1 p.2.2
def pDone (e : Nat) (l : List UInt8) : Nat := if e = 0 ∧ l ≠ [] then 3 else e

section
variable (w : World) (B g s : Nat) (E : Nat → Addr) (e : Nat) (l : List UInt8)

theorem grown_mine {w w' : World} {g : Nat} (h : w.grownBy w' none) : w.grownBy w' (some g) := ⟨h.os, h.tape, h.output, h.size, fun k hk _ => h.block k hk (by simp)⟩
theorem RdIs.grownMine {w w' : World} {g s : Nat} {ev : Value} {l : List UInt8} (h : RdIs w g s ev l) (hk : w.grownBy w' none) : RdIs w' g s ev l := h.grown hk

theorem rnum_all (width : Int) (hr : RdIs w g s (evOf E e) l) (he : ErrVars [0, 1] w B E) (hg : B ≤ g) :
    Calls Tryd.prog 36 #[.pointer (some ⟨g, 0, none⟩), .int .i64 width] w fun en w' => en = .returned (.int .i64 ((pNum width e l).1 : Nat)) ∧ RdIs w' g s (evOf E (pNum width e l).2.1) (pNum width e l).2.2 ∧ w.grownBy w' (some g) := by
  have he0 : ErrAt w B 1 (E 0) := he.var 0 (by simp)
  have he1 : ErrAt w B 2 (E 1) := he.var 1 (by simp)
  rcases e with _ | e
  · by_cases hbad : width < 1 ∨ 8 < width
    · have hp : pNum width 0 l = (0, 1, l) := by simp [pNum, hbad]
      rw [hp]
      exact rnum_bad w B g s l _ width hr he0 hbad
    · obtain ⟨k, rfl⟩ := Int.eq_ofNat_of_zero_le (show 0 ≤ width by omega)
      by_cases hn : k ≤ l.length
      · have hn' : ¬ ((l.length : Int) < (k : Int)) := by omega
        by_cases hv : valOf (l.take k) < 9223372036854775808
        · have hp : pNum (k : Int) 0 l = (valOf (l.take k), 0, l.drop k) := by
            unfold pNum
            rw [if_neg (by simp), if_neg hbad, if_neg hn', if_neg (by simpa using hv)]
            simp
          rw [hp]
          exact rnum_ok w g s l k hr (by omega) (by omega) hn hv
        · have hp : pNum (k : Int) 0 l = (0, 1, l.drop k) := by
            unfold pNum
            rw [if_neg (by simp), if_neg hbad, if_neg hn', if_pos (by simpa using hv)]
            simp
          rw [hp]
          exact rnum_big w B g s l _ k he0 hg hr (by omega) (by omega) hn (by omega)
      · have hp : pNum (k : Int) 0 l = (0, 2, l) := by
          unfold pNum
          rw [if_neg (by simp), if_neg hbad, if_pos (by omega)]
        rw [hp]
        exact rnum_short w B g s l _ _ hr he1 (by omega) (by omega) (by omega)
  · have hp : pNum width (e + 1) l = (0, e + 1, l) := by simp [pNum]
    rw [hp]
    exact (rnum_err w B g s _ _ l _ _ width hr he0 he1).mono fun _ _ ⟨h1, h2⟩ => ⟨h1, hr.grown h2, grown_mine h2⟩

/-- Fail at the Reader, whatever it holds. -/
theorem rfail_all (k e' : Nat) (h' : (if e = 0 then k + 1 else e) = e') (hr : RdIs w g s (evOf E e) l) :
    Calls Tryd.prog 43 #[.pointer (some ⟨g, 0, none⟩), errV (E k)] w fun en w' => en = .returned (.tuple #[]) ∧ RdIs w' g s (evOf E e') l ∧ w.grownBy w' (some g) := by
  subst h'
  have hr' := hr
  obtain ⟨A, c, hb, hl, hc, hA⟩ := hr'
  rcases e with _ | e
  · refine (fail_new w g 86 _ _ (.slice A l.length c) hb).mono ?_
    rintro en w1 ⟨rfl, rfl⟩
    exact ⟨rfl, hr.failed, rfl, rfl, rfl, by simp [World.setCell], fun k _ hne => Below.heap_setCell w ⟨g, 0, none⟩ _ k (fun e => hne (by rw [e]))⟩
  · refine (fail_old w g 86 _ _ (.slice A l.length c) _ hb).mono ?_
    rintro en w1 ⟨rfl, rfl⟩
    exact ⟨rfl, hr, World.grownBy.refl _ _⟩

theorem pNum_zero {width : Int} {e : Nat} {l : List UInt8} (h : (pNum width e l).2.1 ≠ 0) : (pNum width e l).1 = 0 := by
  unfold pNum at h ⊢
  repeat' split
  all_goals first | rfl | simp_all
theorem rnum_is (width : Int) (n1 e1 : Nat) (l1 : List UInt8) (hp : pNum width e l = (n1, e1, l1)) (hr : RdIs w g s (evOf E e) l) (he : ErrVars [0, 1] w B E) (hg : B ≤ g) :
    Calls Tryd.prog 36 #[.pointer (some ⟨g, 0, none⟩), .int .i64 width] w fun en w' => en = .returned (.int .i64 (n1 : Int)) ∧ RdIs w' g s (evOf E e1) l1 ∧ w.grownBy w' (some g) := by
  have h := rnum_all w B g s E e l width hr he hg
  rw [hp] at h
  exact h

theorem pNum_len (width : Int) : (pNum width e l).2.2.length ≤ l.length := by
  unfold pNum
  repeat' split
  all_goals simp
theorem pNum_drop (width : Int) : ∃ k, (pNum width e l).2.2 = l.drop k := by
  unfold pNum
  repeat' split
  all_goals first | exact ⟨0, rfl⟩ | exact ⟨_, rfl⟩

theorem rdone_is (e' : Nat) (hp : pDone e l = e') (hr : RdIs w g s (evOf E e) l) (he : ErrVars [2] w B E) :
    Calls Tryd.prog 37 #[.pointer (some ⟨g, 0, none⟩)] w fun en w' => en = .returned (evOf E e') ∧ w' = w := by
  subst hp
  rcases e with _ | e
  · have v2 : w.cell? ⟨3, 0, none⟩ = some (errV (E 2)) := (he.var 2 (by simp)).1
    obtain ⟨A, c, hb, hl, hc, hA⟩ := hr
    have c0 : w.cell? ⟨g, 0, none⟩ = some .nilIface := hb.cell 0
    have c1 := hb.cell 1
    simp at c1
    cases l with
    | nil =>
      have hp : pDone 0 [] = 0 := rfl
      rw [hp]
      go_enter Tryd.func37, Tryd.ntmps37
      go_wp2
      go_ret
      exact ⟨rfl, rfl⟩
    | cons b r =>
      have hp : pDone 0 (b :: r) = 3 := rfl
      have hb1 : decide ((0 : Int) < (((b :: r).length : Nat) : Int)) = true := by simp
      rw [hp]
      go_enter Tryd.func37, Tryd.ntmps37
      go_wp2
      go_ret
      exact ⟨rfl, rfl⟩
  · have hp : pDone (e + 1) l = e + 1 := by simp [pDone]
    rw [hp]
    exact (rdone_err w g s _ _ l hr).mono fun _ _ ⟨h1, h2⟩ => ⟨h1, h2.symm⟩
end
end Go.Proofs.YtjmdlpefacbmmaaDoor
