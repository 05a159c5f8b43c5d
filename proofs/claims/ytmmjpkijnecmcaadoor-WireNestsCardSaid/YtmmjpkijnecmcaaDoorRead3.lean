/-
  What each read answers, as a function of the first error's number and of the bytes that are left.
-/
import Derived.Test.YtmmjpkijnecmcaaDoorReadErr
import Derived.Test.YtmmjpkijnecmcaaDoorVars
namespace Go.Proofs.YtmmjpkijnecmcaaDoor
open Go.RowKit

def pNum (width : Int) (e : Nat) (l : List UInt8) : Nat × Nat × List UInt8 :=
  if e ≠ 0 then (0, e, l)
  else if width < 1 ∨ 8 < width then (0, 1, l)
  else if (l.length : Int) < width then (0, 2, l)
  else if 9223372036854775808 ≤ valOf (l.take width.toNat) then (0, 1, l.drop width.toNat)
  else (valOf (l.take width.toNat), 0, l.drop width.toNat)
def pFlag (e : Nat) (l : List UInt8) : Bool × Nat × List UInt8 :=
  let p := pNum 1 e l
  (p.1 == 1, if p.2.1 = 0 ∧ 1 < p.1 then 4 else p.2.1, p.2.2)
def pFixed (n : Int) (e : Nat) (l : List UInt8) : List UInt8 × Nat × List UInt8 :=
  if e ≠ 0 then ([], e, l)
  else if n < 0 then ([], 1, l)
  else if (l.length : Int) < n then ([], 2, l)
  else (l.take n.toNat, 0, l.drop n.toNat)
def pMost (width : Int) (most : Int) (e : Nat) (l : List UInt8) : Nat × Nat × List UInt8 :=
  let p := pNum width e l
  (p.1, if p.2.1 = 0 ∧ most < (p.1 : Int) then 1 else p.2.1, p.2.2)
def pBytes (most : Int) (e : Nat) (l : List UInt8) : List UInt8 × Nat × List UInt8 :=
  let p := pMost 2 most e l
  pFixed p.1 p.2.1 p.2.2
def pDone (e : Nat) (l : List UInt8) : Nat := if e = 0 ∧ l ≠ [] then 3 else e

section
variable (w : World) (B g s : Nat) (E : Nat → Addr) (e : Nat) (l : List UInt8)

theorem grown_mine {w w' : World} {g : Nat} (h : w.grownBy w' none) : w.grownBy w' (some g) := ⟨h.os, h.tape, h.output, h.size, fun k hk _ => h.block k hk (by simp)⟩
theorem RdIs.grownMine {w w' : World} {g s : Nat} {ev : Value} {l : List UInt8} (h : RdIs w g s ev l) (hk : w.grownBy w' none) : RdIs w' g s ev l := h.grown hk

theorem rnum_all (width : Int) (hr : RdIs w g s (evOf E e) l) (he : ErrVars [0, 1] w B E) (hg : B ≤ g) :
    Calls Tryd.prog 24 #[.pointer (some ⟨g, 0, none⟩), .int .i64 width] w fun en w' => en = .returned (.int .i64 ((pNum width e l).1 : Nat)) ∧ RdIs w' g s (evOf E (pNum width e l).2.1) (pNum width e l).2.2 ∧ w.grownBy w' (some g) := by
  have he0 : ErrAt w B 2 (E 0) := he.var 0 (by simp)
  have he1 : ErrAt w B 3 (E 1) := he.var 1 (by simp)
  rcases e with _ | e
  · by_cases hbad : width < 1 ∨ 8 < width
    · have hp : pNum width 0 l = (0, 1, l) := by simp [pNum, hbad]
      rw [hp]
      exact rnum_bad w B g s l _ width hr he0 hbad
    · obtain ⟨k, rfl⟩ := Int.eq_ofNat_of_zero_le (show 0 ≤ width by omega)
      by_cases hn : k ≤ l.length
      · have hn' : ¬ ((l.length : Int) < (k : Int)) := by omega
        by_cases hv : valOf (l.take k) < 9223372036854775808
        · have hp : pNum (k : Int) 0 l = (valOf (l.take k), 0, l.drop k) := by
            unfold pNum
            rw [if_neg (by simp), if_neg hbad, if_neg hn', if_neg (by simpa using hv)]
            simp
          rw [hp]
          exact rnum_ok w g s l k hr (by omega) (by omega) hn hv
        · have hp : pNum (k : Int) 0 l = (0, 1, l.drop k) := by
            unfold pNum
            rw [if_neg (by simp), if_neg hbad, if_neg hn', if_pos (by simpa using hv)]
            simp
          rw [hp]
          exact rnum_big w B g s l _ k he0 hg hr (by omega) (by omega) hn (by omega)
      · have hp : pNum (k : Int) 0 l = (0, 2, l) := by
          unfold pNum
          rw [if_neg (by simp), if_neg hbad, if_pos (by omega)]
        rw [hp]
        exact rnum_short w B g s l _ _ hr he1 (by omega) (by omega) (by omega)
  · have hp : pNum width (e + 1) l = (0, e + 1, l) := by simp [pNum]
    rw [hp]
    exact (rnum_err w B g s _ _ l _ _ width hr he0 he1).mono fun _ _ ⟨h1, h2⟩ => ⟨h1, hr.grown h2, grown_mine h2⟩

/-- Fail at the Reader, whatever it holds. -/
theorem rfail_all (k e' : Nat) (h' : (if e = 0 then k + 1 else e) = e') (hr : RdIs w g s (evOf E e) l) :
    Calls Tryd.prog 32 #[.pointer (some ⟨g, 0, none⟩), errV (E k)] w fun en w' => en = .returned (.tuple #[]) ∧ RdIs w' g s (evOf E e') l ∧ w.grownBy w' (some g) := by
  subst h'
  have hr' := hr
  obtain ⟨A, c, hb, hl, hc, hA⟩ := hr'
  rcases e with _ | e
  · refine (fail_new w g 66 _ _ (.slice A l.length c) hb).mono ?_
    rintro en w1 ⟨rfl, rfl⟩
    exact ⟨rfl, hr.failed, rfl, rfl, rfl, by simp [World.setCell], fun k _ hne => Below.heap_setCell w ⟨g, 0, none⟩ _ k (fun e => hne (by rw [e]))⟩
  · refine (fail_old w g 66 _ _ (.slice A l.length c) _ hb).mono ?_
    rintro en w1 ⟨rfl, rfl⟩
    exact ⟨rfl, hr, World.grownBy.refl _ _⟩

theorem pNum_zero {width : Int} {e : Nat} {l : List UInt8} (h : (pNum width e l).2.1 ≠ 0) : (pNum width e l).1 = 0 := by
  unfold pNum at h ⊢
  repeat' split
  all_goals first | rfl | simp_all
theorem rnum_is (width : Int) (n1 e1 : Nat) (l1 : List UInt8) (hp : pNum width e l = (n1, e1, l1)) (hr : RdIs w g s (evOf E e) l) (he : ErrVars [0, 1] w B E) (hg : B ≤ g) :
    Calls Tryd.prog 24 #[.pointer (some ⟨g, 0, none⟩), .int .i64 width] w fun en w' => en = .returned (.int .i64 (n1 : Int)) ∧ RdIs w' g s (evOf E e1) l1 ∧ w.grownBy w' (some g) := by
  have h := rnum_all w B g s E e l width hr he hg
  rw [hp] at h
  exact h

set_option maxHeartbeats 400000 in
theorem rflag_is (b : Bool) (e' : Nat) (l' : List UInt8) (hp : pFlag e l = (b, e', l')) (hr : RdIs w g s (evOf E e) l) (he : ErrVars [0, 1, 3] w B E) (hg : B ≤ g) :
    Calls Tryd.prog 25 #[.pointer (some ⟨g, 0, none⟩)] w fun en w' => en = .returned (.bool b) ∧ RdIs w' g s (evOf E e') l' ∧ w.grownBy w' (some g) := by
  have hz := pNum_zero (width := 1) (e := e) (l := l)
  obtain ⟨n1, e1, l1, hq⟩ : ∃ n1 e1 l1, pNum 1 e l = (n1, e1, l1) := ⟨_, _, _, rfl⟩
  unfold pFlag at hp
  rw [hq] at hp hz
  simp only [Prod.mk.injEq] at hp hz
  obtain ⟨hb, he', rfl⟩ := hp
  have Hq := Lib.hid hq
  have Hb := Lib.hid hb
  have He' := Lib.hid he'
  have He := Lib.hid he
  have Hr := Lib.hid hr
  have Hz := Lib.hid hz
  clear hq hb he' he hr hz
  go_enter Tryd.func25, Tryd.ntmps25
  go_wp2_with fail
  refine (rnum_is w B g s E e l 1 n1 e1 l1 Hq.out Hr.out (He.out.sub (by decide)) hg).mono ?_
  rintro en w1 ⟨rfl, hr1, k1⟩
  have v3 : w1.cell? ⟨5, 0, none⟩ = some (errV (E 3)) := ((He.out.grown k1 (fun _ e => by injection e with e; omega)).var 3 (by simp)).1
  have Hr1 := Lib.hid hr1
  clear hr1
  by_cases h1 : 1 < n1
  · have b1 : decide ((1 : Int) < (n1 : Int)) = true := by simp; omega
    have q3 : ((n1 : Int) == 1) = false := by simp; omega
    have H0 : Hid (e1 = 0) := Classical.byContradiction fun h => by have := Hz.out h; omega
    have H1 := Lib.hid h1
    clear h1
    go_wp2_with fail
    go_region_with (go_at_call 32; refine (rfail_all _ g s E _ _ 3 4 (by rw [H0.out]; rfl) Hr1.out.drew).mono ?_; rintro en w2 ⟨rfl, hr2, k2⟩)
    all_goals
      go_wp2_with fail
      go_ret
      refine ⟨?_, ?_, grown_trans (grown_drew k1) k2⟩
      · rw [← Hb.out]
        have : (n1 == 1) = false := by have := H1.out; simp; omega
        rw [this]; rfl
      · rw [← He'.out, if_pos ⟨H0.out, H1.out⟩]; exact hr2
  · have b1 : decide ((1 : Int) < (n1 : Int)) = false := by simp; omega
    have q2 : ((n1 : Int) == 1) = b := by
      rw [← Hb.out]
      by_cases h : n1 = 1
      · rw [h]; rfl
      · have : ¬ ((n1 : Int) = 1) := by omega
        simp only [beq_eq_false_iff_ne.2 h, beq_eq_false_iff_ne.2 this]
    have H1 := Lib.hid h1
    clear h1
    go_wp2_with fail
    go_ret
    refine ⟨rfl, ?_, k1⟩
    rw [← He'.out, if_neg (fun h => H1.out h.2)]
    exact Hr1.out

set_option maxHeartbeats 400000 in
theorem rfixed_is (n : Int) (x : List UInt8) (e' : Nat) (l' : List UInt8) (hp : pFixed n e l = (x, e', l')) (hr : RdIs w g s (evOf E e) l) (he : ErrVars [0, 1] w B E) (hl : l.length ≤ 140737488355328) :
    Calls Tryd.prog 26 #[.pointer (some ⟨g, 0, none⟩), .int .i64 n] w fun en w' => ∃ A c, en = .returned (.slice A x.length c) ∧ BytesAt w' A x ∧ (∀ ad, A = some ad → w.heap.size ≤ ad.block) ∧ RdIs w' g s (evOf E e') l' ∧ w.grownBy w' (some g) := by
  have he0 : ErrAt w B 2 (E 0) := he.var 0 (by simp)
  have he1 : ErrAt w B 3 (E 1) := he.var 1 (by simp)
  have hs := he0.1
  by_cases hn : n < 0
  · have b1 : decide (n < 0) = true := by simpa using hn
    have hx : x = [] ∧ e' = (if e = 0 then 1 else e) ∧ l' = l := by
      unfold pFixed at hp
      by_cases h : e = 0
      · rw [if_neg (by simpa using h), if_pos hn] at hp
        simp only [Prod.mk.injEq] at hp
        exact ⟨hp.1.symm, by rw [if_pos h]; exact hp.2.1.symm, hp.2.2.symm⟩
      · rw [if_pos (by simpa using h)] at hp
        simp only [Prod.mk.injEq] at hp
        exact ⟨hp.1.symm, by rw [if_neg h]; exact hp.2.1.symm, hp.2.2.symm⟩
    obtain ⟨rfl, h', rfl⟩ := hx
    have H' := Lib.hid h'
    have Hr := Lib.hid hr
    clear hn hp h' hr
    go_enter Tryd.func26, Tryd.ntmps26
    go_wp2_with fail
    go_region_with (go_at_call 32; refine (rfail_all _ g s E _ _ 0 e' H'.out.symm Hr.out.drew).mono ?_; rintro en w2 ⟨rfl, hr2, k2⟩)
    all_goals
      go_wp2_with fail
      go_ret
      exact ⟨none, 0, rfl, BytesAt.nil _ _, (fun _ e => by cases e), hr2, grown_trans (grown_drew (World.grownBy.refl _ _)) k2⟩
  · have b1 : decide (n < 0) = false := by simpa using hn
    obtain ⟨k, rfl⟩ := Int.eq_ofNat_of_zero_le (show 0 ≤ n by omega)
    have key : Calls Tryd.prog 59 #[.pointer (some ⟨g, 0, none⟩), .int .i64 (k : Int)] w fun en w' => ∃ A c, en = .returned (.slice A x.length c) ∧ BytesAt w' A x ∧ x.length ≤ l.length ∧ RdIs w' g s (evOf E e') l' ∧ w.grownBy w' (some g) := by
      rcases e with _ | e
      · by_cases hk : k ≤ l.length
        · unfold pFixed at hp
          rw [if_neg (by simp), if_neg hn, if_neg (by omega)] at hp
          simp only [Prod.mk.injEq, Int.toNat_natCast] at hp
          obtain ⟨rfl, rfl, rfl⟩ := hp
          refine (next_ok w g s l k hr hk).mono ?_
          rintro en w1 ⟨A, c, rfl, h1, h2, h3, h4, h5⟩
          have hlen : (l.take k).length = k := by simp; omega
          exact ⟨A, c, by rw [hlen], h1, by omega, h4, h5⟩
        · unfold pFixed at hp
          rw [if_neg (by simp), if_neg hn, if_pos (by omega)] at hp
          simp only [Prod.mk.injEq] at hp
          obtain ⟨rfl, rfl, rfl⟩ := hp
          refine (next_short w B g s l _ _ hr (by omega) he1).mono ?_
          rintro en w1 ⟨rfl, h4, h5⟩
          exact ⟨none, 0, rfl, BytesAt.nil _ _, by simp, h4, h5⟩
      · unfold pFixed at hp
        rw [if_pos (by simp)] at hp
        simp only [Prod.mk.injEq] at hp
        obtain ⟨rfl, rfl, rfl⟩ := hp
        refine (next_err w B g s _ _ l _ _ hr he1).mono ?_
        rintro en w1 ⟨rfl, h5⟩
        exact ⟨none, 0, rfl, BytesAt.nil _ _, by simp, hr.grown h5, grown_mine h5⟩
    have Key := Lib.hid key
    clear key hp hr he he0 he1 hs hn
    go_enter Tryd.func26, Tryd.ntmps26
    go_wp2_with fail
    refine Key.out.mono ?_
    rintro en w1 ⟨A, c, rfl, hx1, hlen, hr1, k1⟩
    have Hr1 := Lib.hid hr1
    clear hr1
    go_wp2_with fail
    refine (clone_any w1 A _ c x rfl hx1 (by omega)).mono ?_
    rintro en w2 ⟨A2, c2, rfl, hown, k2⟩
    have Hown := Lib.hid hown
    clear hown
    go_wp2_with fail
    go_ret
    have z1 := k1.size
    exact ⟨A2, c2, rfl, own_bytesAt Hown.out, fun ad e => by subst e; have := (Hown.out.lt ad.block rfl).1; omega, Hr1.out.grown k2, grown_trans k1 (grown_mine k2)⟩

theorem pNum_len (width : Int) : (pNum width e l).2.2.length ≤ l.length := by
  unfold pNum
  repeat' split
  all_goals simp
theorem pNum_drop (width : Int) : ∃ k, (pNum width e l).2.2 = l.drop k := by
  unfold pNum
  repeat' split
  all_goals first | exact ⟨0, rfl⟩ | exact ⟨_, rfl⟩

set_option maxHeartbeats 400000 in
theorem rbytes_is (most : Int) (x : List UInt8) (e' : Nat) (l' : List UInt8) (hp : pBytes most e l = (x, e', l')) (hr : RdIs w g s (evOf E e) l) (he : ErrVars [0, 1] w B E) (hg : B ≤ g) (hl : l.length ≤ 140737488355328) :
    Calls Tryd.prog 27 #[.pointer (some ⟨g, 0, none⟩), .int .i64 most] w fun en w' => ∃ A c, en = .returned (.slice A x.length c) ∧ BytesAt w' A x ∧ (∀ ad, A = some ad → w.heap.size ≤ ad.block) ∧ RdIs w' g s (evOf E e') l' ∧ w.grownBy w' (some g) := by
  obtain ⟨n1, e1, l1, hq⟩ : ∃ n1 e1 l1, pNum 2 e l = (n1, e1, l1) := ⟨_, _, _, rfl⟩
  have hl1 := pNum_len e l 2
  unfold pBytes pMost at hp
  rw [hq] at hp hl1
  simp only at hp hl1
  have He := Lib.hid he
  have Hr := Lib.hid hr
  have Hq := Lib.hid hq
  clear he hr hq
  by_cases h1 : most < (n1 : Int)
  · have b1 : decide (most < (n1 : Int)) = true := by simpa using h1
    have Hp : Hid (pFixed n1 (if e1 = 0 then 0 + 1 else e1) l1 = (x, e', l')) := by
      rw [← hp]
      congr 1
      by_cases h0 : e1 = 0
      · rw [if_pos h0, if_pos ⟨h0, h1⟩]
      · rw [if_neg h0, if_neg (fun h => h0 h.1)]
    clear h1 hp
    go_enter Tryd.func27, Tryd.ntmps27
    go_wp2_with fail
    refine (rnum_is w B g s E e l 2 n1 e1 l1 Hq.out Hr.out He.out hg).mono ?_
    rintro en w1 ⟨rfl, hr1, k1⟩
    have he1 := He.out.grown k1 (fun _ e => by injection e with e; omega)
    have v0 : w1.cell? ⟨2, 0, none⟩ = some (errV (E 0)) := (he1.var 0 (by simp)).1
    have Hr1 := Lib.hid hr1
    have He1 := Lib.hid he1
    clear hr1 he1
    go_wp2_with fail
    obtain ⟨e2, h2⟩ : ∃ e2, (if e1 = 0 then 0 + 1 else e1) = e2 := ⟨_, rfl⟩
    have H2 := Lib.hid h2
    clear h2
    go_region_with (go_at_call 32; refine (rfail_all _ g s E _ _ 0 e2 H2.out Hr1.out.drew).mono ?_; rintro en w2 ⟨rfl, hr2, k2⟩)
    all_goals
      have he2 := (He1.out.grown (grown_drew (World.grownBy.refl w1 none)) (fun _ e => by cases e)).grown k2 (fun _ e => by injection e with e; omega)
      have k12 := grown_trans (grown_drew k1) k2
      have Hr2 := Lib.hid hr2
      have He2 := Lib.hid he2
      clear hr2 he2
      go_wp2_with fail
      refine (rfixed_is w2 B g s E e2 l1 n1 x e' l' (by rw [← H2.out]; exact Hp.out) Hr2.out He2.out (by omega)).mono ?_
      rintro en w3 ⟨A, c, rfl, hx3, hf3, hr3, k3⟩
      have Hf3 := Lib.hid hf3
      clear hf3
      go_wp2_with fail
      go_ret
      have z2 := k12.size
      exact ⟨A, c, rfl, hx3, fun ad e => by have := Hf3.out ad e; omega, hr3, grown_trans k12 k3⟩
  · have b1 : decide (most < (n1 : Int)) = false := by simpa using h1
    have Hp : Hid (pFixed n1 e1 l1 = (x, e', l')) := by
      rw [← hp]
      congr 1
      rw [if_neg (fun h => h1 h.2)]
    clear h1 hp
    go_enter Tryd.func27, Tryd.ntmps27
    go_wp2_with fail
    refine (rnum_is w B g s E e l 2 n1 e1 l1 Hq.out Hr.out He.out hg).mono ?_
    rintro en w1 ⟨rfl, hr1, k1⟩
    have he1 := He.out.grown k1 (fun _ e => by injection e with e; omega)
    have Hr1 := Lib.hid hr1
    have He1 := Lib.hid he1
    clear hr1 he1
    go_wp2_with fail
    refine (rfixed_is w1 B g s E e1 l1 n1 x e' l' Hp.out Hr1.out He1.out (by omega)).mono ?_
    rintro en w3 ⟨A, c, rfl, hx3, hf3, hr3, k3⟩
    have Hf3 := Lib.hid hf3
    clear hf3
    go_wp2_with fail
    go_ret
    have z1 := k1.size
    exact ⟨A, c, rfl, hx3, fun ad e => by have := Hf3.out ad e; omega, hr3, grown_trans k1 k3⟩

theorem rdone_is (e' : Nat) (hp : pDone e l = e') (hr : RdIs w g s (evOf E e) l) (he : ErrVars [2] w B E) :
    Calls Tryd.prog 21 #[.pointer (some ⟨g, 0, none⟩)] w fun en w' => en = .returned (evOf E e') ∧ w' = w := by
  subst hp
  rcases e with _ | e
  · have v2 : w.cell? ⟨4, 0, none⟩ = some (errV (E 2)) := (he.var 2 (by simp)).1
    obtain ⟨A, c, hb, hl, hc, hA⟩ := hr
    have c0 : w.cell? ⟨g, 0, none⟩ = some .nilIface := hb.cell 0
    have c1 := hb.cell 1
    simp at c1
    cases l with
    | nil =>
      have hp : pDone 0 [] = 0 := rfl
      rw [hp]
      go_enter Tryd.func21, Tryd.ntmps21
      go_wp2
      go_ret
      exact ⟨rfl, rfl⟩
    | cons b r =>
      have hp : pDone 0 (b :: r) = 3 := rfl
      have hb1 : decide ((0 : Int) < (((b :: r).length : Nat) : Int)) = true := by simp
      rw [hp]
      go_enter Tryd.func21, Tryd.ntmps21
      go_wp2
      go_ret
      exact ⟨rfl, rfl⟩
  · have hp : pDone (e + 1) l = e + 1 := by simp [pDone]
    rw [hp]
    exact (rdone_err w g s _ _ l hr).mono fun _ _ ⟨h1, h2⟩ => ⟨h1, h2.symm⟩
end
end Go.Proofs.YtmmjpkijnecmcaaDoor
