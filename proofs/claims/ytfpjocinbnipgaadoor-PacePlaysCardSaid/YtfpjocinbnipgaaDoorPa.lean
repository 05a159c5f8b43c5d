/-
  Package pace: what each call answers, and leaves of the Pace's three cells.
-/
import Derived.Test.YtfpjocinbnipgaaDoorTuW
import Derived.Test.YtfpjocinbnipgaaDoorTuN
namespace Go.Proofs.YtfpjocinbnipgaaDoor
open Go.RowKit

/-- The Pace at block g: its round, fails, ticks. -/
def Pc (w : World) (g : Nat) (r f t : Int) : Prop := Blk w g 48 #[.int .i64 r, .int .i64 f, .int .i64 t]
theorem waitOf_in (f : Int) : waitOf f = 2 ∨ waitOf f = 4 ∨ waitOf f = 8 ∨ waitOf f = 16 := by
  unfold waitOf
  split
  · exact .inl rfl
  · split
    · exact .inr (.inl rfl)
    · split
      · exact .inr (.inr (.inl rfl))
      · exact .inr (.inr (.inr rfl))
theorem grown_set_some {w : World} (g i : Nat) (u : Value) : w.grownBy (w.setCell ⟨g, i, none⟩ u) (some g) :=
  ⟨rfl, rfl, rfl, by simp [World.setCell], fun k _ hne => Below.heap_setCell w ⟨g, i, none⟩ u k (fun e => hne (by rw [e]))⟩
theorem grown_drewN {a b : World} {row : Option Nat} (h : a.grownBy b row) (n : Nat) : a.grownBy (b.drewN n) row := ⟨h.os, h.tape, h.output, h.size, h.block⟩

theorem round_is (w : World) (g : Nat) (r f t : Int) (h : Pc w g r f t) : Calls Tryd.prog 16 #[.pointer (some ⟨g, 0, none⟩)] w fun e w' => e = .returned (.int .i64 r) ∧ w = w' := by
  have c0 := Blk.cell h 0
  simp at c0
  clear h
  go_enter Tryd.func16, Tryd.ntmps16
  go_wp2
  go_ret
  exact ⟨rfl, rfl⟩

theorem left_is (w : World) (g : Nat) (r f t : Int) (h : Pc w g r f t) (h0 : 0 ≤ t) (h1 : t ≤ 16) : Calls Tryd.prog 18 #[.pointer (some ⟨g, 0, none⟩)] w fun e w' => e = .returned (.int .i64 (waitOf f - t)) ∧ w.grownBy w' none := by
  have c1 := Blk.cell h 1
  have c2 := Blk.cell h 2
  simp at c1 c2
  have hw : wrap64 (waitOf f - t) = waitOf f - t := w64 _ (by have := waitOf_in f; omega)
  clear h
  go_enter Tryd.func18, Tryd.ntmps18
  go_wp2
  go_quiet (first | (go_at_call 23; exact Calls.quiet_of_same ((wait_is _ f _ rfl).mono fun _ _ ⟨h1, h2⟩ => ⟨h1, h2.symm⟩)))
  go_wp2
  go_ret
  refine ⟨?_, grown_drewN (World.grownBy.refl w none) _⟩
  show Ending.returned (.int .i64 (wrap64 (waitOf f - t))) = _
  rw [hw]

/-- What a tick leaves: whether the wait is over; the ticks. -/
def tickB (f t : Int) : Bool := decide (waitOf f ≤ t + 1)
def tickT (f t : Int) : Int := if waitOf f ≤ t + 1 then 0 else t + 1
theorem tickT_in (f t : Int) (h0 : 0 ≤ t) (h1 : t < waitOf f) : 0 ≤ tickT f t ∧ tickT f t < waitOf f := by
  have := waitOf_in f
  unfold tickT
  split <;> omega

set_option maxHeartbeats 400000 in
theorem tick_is (w : World) (g : Nat) (r f t : Int) (h : Pc w g r f t) (h0 : 0 ≤ t) (h1 : t < waitOf f) :
    Calls Tryd.prog 14 #[.pointer (some ⟨g, 0, none⟩)] w fun e w' => e = .returned (.bool (tickB f t)) ∧ Pc w' g r f (tickT f t) ∧ w.grownBy w' (some g) := by
  have hwt := waitOf_in f
  have c2 := Blk.cell h 2
  have f2 := Blk.frozen h 2
  have hw : wrap64 (t + 1) = t + 1 := w64 _ ⟨by omega, by omega⟩
  have hs : Pc (w.setCell ⟨g, 2, none⟩ (.int .i64 (t + 1))) g r f (t + 1) := by have := Blk.set h 2 (.int .i64 (t + 1)); simpa [Pc] using this
  simp at c2
  go_enter Tryd.func14, Tryd.ntmps14
  go_wp2_with fail
  refine (left_is _ g r f (t + 1) hs (by omega) (by omega)).mono ?_
  rintro e w1 ⟨rfl, k1⟩
  have hs1 : Pc w1 g r f (t + 1) := Blk.grown hs k1 (by simp)
  have d2 := Blk.cell hs1 2
  have e2 := Blk.frozen hs1 2
  have kk := grown_trans (grown_set_some (w := w) g 2 (.int .i64 (t + 1))) (grown_weak k1 (some g))
  simp at d2
  by_cases hd : waitOf f ≤ t + 1
  · have dd : decide (t + 1 < waitOf f) = false := by simp; omega
    have hT : tickT f t = 0 := by simp [tickT, hd]
    have hB : tickB f t = true := by simp [tickB, hd]
    have hs2 : Pc (w1.setCell ⟨g, 2, none⟩ (.int .i64 0)) g r f 0 := by have := Blk.set hs1 2 (.int .i64 0); simpa [Pc] using this
    clear hs h hd hwt h1
    go_wp2
    go_ret
    rw [hT, hB]
    exact ⟨rfl, hs2, grown_trans kk (grown_set_some g 2 _)⟩
  · have dd : decide (t + 1 < waitOf f) = true := by simp; omega
    have hT : tickT f t = t + 1 := by simp [tickT, hd]
    have hB : tickB f t = false := by simp [tickB, hd]
    clear hs h hd hwt h1
    go_wp2
    go_ret
    rw [hT, hB]
    exact ⟨rfl, hs1, kk⟩

/-! ### end, QC, TC -/
def yesB (r x : Int) : Bool := decide (0 ≤ x ∧ x < 1099511627776 ∧ r ≤ x)
def eV (a0 a13 : Addr) (x : Int) : Value := if x < 0 then errV a0 else if 1099511627776 ≤ x then errV a13 else .nilIface
def endR (r x : Int) : Int := if yesB r x then x + 1 else r
def endF (r x f f' : Int) : Int := if yesB r x then f' else f
def endT (r x t : Int) : Int := if yesB r x then 0 else t

set_option maxHeartbeats 1000000 in
theorem end_is (w : World) (B g : Nat) (r f t x f' : Int) (a0 a13 : Addr) (h : Pc w g r f t) (he0 : ErrAt w B 1 a0) (he13 : ErrAt w B 0 a13) :
    Calls Tryd.prog 21 #[.pointer (some ⟨g, 0, none⟩), .int .i64 x, .int .i64 f'] w fun e w' => e = .returned (.tuple #[.bool (yesB r x), eV a0 a13 x]) ∧ Pc w' g (endR r x) (endF r x f f') (endT r x t) ∧ w.grownBy w' (some g) := by
  by_cases hx : x < 0
  · have d : decide (x < (0 : Int)) = true := by simpa using hx
    have c := he0.1
    have hy : yesB r x = false := by simp [yesB]; omega
    have hev : eV a0 a13 x = errV a0 := by simp [eV, hx]
    have hR : endR r x = r := by simp [endR, hy]
    have hF : endF r x f f' = f := by simp [endF, hy]
    have hT : endT r x t = t := by simp [endT, hy]
    rw [hy, hev, hR, hF, hT]
    clear hy hev hR hF hT hx
    go_enter Tryd.func21, Tryd.ntmps21
    go_wp2
    go_quiet (fail)
    go_wp2
    go_ret2
    exact ⟨rfl, h, grown_drewN (World.grownBy.refl w _) _⟩
  · have d : decide (x < (0 : Int)) = false := by simpa using hx
    by_cases hm : 1099511627776 ≤ x
    · have hy : yesB r x = false := by simp [yesB]; omega
      have hev : eV a0 a13 x = errV a13 := by simp [eV, hx, hm]
      have hR : endR r x = r := by simp [endR, hy]
      have hF : endF r x f f' = f := by simp [endF, hy]
      have hT : endT r x t = t := by simp [endT, hy]
      rw [hy, hev, hR, hF, hT]
      clear hy hev hR hF hT hx
      go_enter Tryd.func21, Tryd.ntmps21
      go_wp2_with fail
      refine (next_bad _ B x a13 he13 (.inr hm)).mono ?_
      rintro e w1 ⟨rfl, k1⟩
      go_wp2_with fail
      go_ret2
      exact ⟨rfl, Blk.grown h k1 (by simp), grown_weak k1 _⟩
    · have hev : eV a0 a13 x = .nilIface := by simp [eV, hx, hm]
      have c0 := Blk.cell h 0
      have c1 := Blk.cell h 1
      have c2 := Blk.cell h 2
      have f0 := Blk.frozen h 0
      have f1 := Blk.frozen h 1
      have f2 := Blk.frozen h 2
      simp at c0 c1 c2
      by_cases hr : r ≤ x
      · have d2 : decide (x < r) = false := by simp; omega
        have hy : yesB r x = true := by simp [yesB]; omega
        have hR : endR r x = x + 1 := by simp [endR, hy]
        have hF : endF r x f f' = f' := by simp [endF, hy]
        have hT : endT r x t = 0 := by simp [endT, hy]
        rw [hy, hev, hR, hF, hT]
        clear hy hev hR hF hT hr
        have hs : Pc (((w.setCell ⟨g, 0, none⟩ (.int .i64 (x + 1))).setCell ⟨g, 1, none⟩ (.int .i64 f')).setCell ⟨g, 2, none⟩ (.int .i64 0)) g (x + 1) f' 0 := by
          have := Blk.set (Blk.set (Blk.set h 0 (.int .i64 (x + 1))) 1 (.int .i64 f')) 2 (.int .i64 0)
          simpa [Pc] using this
        go_enter Tryd.func21, Tryd.ntmps21
        go_wp2_with fail
        refine (next_ok _ x (by omega) (by omega)).mono ?_
        rintro e w1 ⟨rfl, rfl⟩
        go_wp2_with fail
        go_ret2
        exact ⟨rfl, hs, grown_trans (grown_trans (grown_set_some g 0 _) (grown_set_some g 1 _)) (grown_set_some g 2 _)⟩
      · have d2 : decide (x < r) = true := by simp; omega
        have hy : yesB r x = false := by simp [yesB]; omega
        have hR : endR r x = r := by simp [endR, hy]
        have hF : endF r x f f' = f := by simp [endF, hy]
        have hT : endT r x t = t := by simp [endT, hy]
        rw [hy, hev, hR, hF, hT]
        clear hy hev hR hF hT hr
        go_enter Tryd.func21, Tryd.ntmps21
        go_wp2_with fail
        refine (next_ok _ x (by omega) (by omega)).mono ?_
        rintro e w1 ⟨rfl, rfl⟩
        go_wp2_with fail
        go_ret2
        exact ⟨rfl, h, World.grownBy.refl w _⟩

theorem qc_is (w : World) (B g : Nat) (r f t x : Int) (a0 a13 : Addr) (h : Pc w g r f t) (he0 : ErrAt w B 1 a0) (he13 : ErrAt w B 0 a13) :
    Calls Tryd.prog 10 #[.pointer (some ⟨g, 0, none⟩), .int .i64 x] w fun e w' => e = .returned (.tuple #[.bool (yesB r x), eV a0 a13 x]) ∧ Pc w' g (endR r x) (endF r x f 0) (endT r x t) ∧ w.grownBy w' (some g) := by
  go_enter Tryd.func10, Tryd.ntmps10
  go_wp2_with fail
  refine (end_is _ B g r f t x 0 a0 a13 h he0 he13).mono ?_
  rintro e w1 ⟨rfl, h1, k1⟩
  go_wp2_with fail
  go_ret2
  exact ⟨rfl, h1, k1⟩

theorem tc_is (w : World) (B g : Nat) (r f t x : Int) (a0 a13 : Addr) (h : Pc w g r f t) (hf0 : 0 ≤ f) (hf1 : f ≤ 1000) (he0 : ErrAt w B 1 a0) (he13 : ErrAt w B 0 a13) :
    Calls Tryd.prog 12 #[.pointer (some ⟨g, 0, none⟩), .int .i64 x] w fun e w' => e = .returned (.tuple #[.bool (yesB r x), eV a0 a13 x]) ∧ Pc w' g (endR r x) (endF r x f (f + 1)) (endT r x t) ∧ w.grownBy w' (some g) := by
  have c1 := Blk.cell h 1
  have hw : wrap64 (f + 1) = f + 1 := w64 _ ⟨by omega, by omega⟩
  simp at c1
  go_enter Tryd.func12, Tryd.ntmps12
  go_wp2_with fail
  refine (end_is _ B g r f t x (f + 1) a0 a13 h he0 he13).mono ?_
  rintro e w1 ⟨rfl, h1, k1⟩
  go_wp2_with fail
  go_ret2
  exact ⟨rfl, h1, k1⟩

theorem new_ok (w : World) (r : Int) (h1 : 1 ≤ r) (h2 : r ≤ 1099511627776) :
    Calls Tryd.prog 8 #[.int .i64 r] w fun e w' => e = .returned (.tuple #[.pointer (some ⟨w.heap.size, 0, none⟩), .nilIface]) ∧ w' = w.alloc (.cells #[.int .i64 r, .int .i64 0, .int .i64 0] 48) := by
  have d1 : decide (r < (1 : Int)) = false := by simp; omega
  have d2 : decide ((1099511627776 : Int) < r) = false := by simp; omega
  clear h1 h2
  go_enter Tryd.func8, Tryd.ntmps8
  go_wp2
  go_ret2
  exact ⟨rfl, rfl⟩

set_option maxHeartbeats 1000000 in
theorem pace_alive (w : World) (B : Nat) (a0 a13 : Addr) (he0 : ErrAt w B 1 a0) (he13 : ErrAt w B 0 a13) :
    Calls Tryd.prog 7 #[] w fun e w' => e = .returned (.bool true) ∧ w.grownBy w' none := by
  go_enter Tryd.func7, Tryd.ntmps7
  go_wp2_with fail
  refine (new_ok w 1 (by omega) (by omega)).mono ?_
  rintro e w1 ⟨rfl, rfl⟩
  have h1 : Pc (w.alloc (.cells #[.int .i64 1, .int .i64 0, .int .i64 0] 48)) w.heap.size 1 0 0 := Blk.new w _ _
  have k1 := World.grownBy_alloc w (.cells #[.int .i64 1, .int .i64 0, .int .i64 0] 48) none
  go_wp2_with fail
  refine (tick_is _ _ 1 0 0 h1 (by omega) (by decide)).mono ?_
  rintro e w2 ⟨rfl, h2, k2⟩
  have e1 : tickB 0 0 = false := by decide
  have e2 : tickT 0 0 = 1 := by decide
  rw [e2] at h2
  rw [e1]
  go_wp2_with fail
  refine (tick_is _ _ 1 0 1 h2 (by omega) (by decide)).mono ?_
  rintro e w3 ⟨rfl, h3, k3⟩
  have e3 : tickB 0 1 = true := by decide
  have e4 : tickT 0 1 = 0 := by decide
  rw [e4] at h3
  rw [e3]
  have kk := grown_alloc (grown_trans k2 k3) (by intro g e; cases e; exact Nat.le_refl _)
  go_wp2_with fail
  refine (tc_is _ B _ 1 0 0 1 a0 a13 h3 (by omega) (by omega) (he0.grown kk (by simp)) (he13.grown kk (by simp))).mono ?_
  rintro e w4 ⟨rfl, h4, k4⟩
  have kk2 := grown_alloc (grown_trans (grown_trans k2 k3) k4) (by intro g e; cases e; exact Nat.le_refl _)
  have e5 : yesB 1 1 = true := by decide
  have e6 : eV a0 a13 1 = .nilIface := by simp [eV]
  have e7 : endR 1 1 = 2 := by decide
  have e8 : endF 1 1 0 (0 + 1) = 1 := by decide
  have e9 : endT 1 1 0 = 0 := by decide
  rw [e7, e8, e9] at h4
  rw [e5, e6]
  clear e1 e2 e3 e4 e5 e6 e7 e8 e9
  go_wp2_with fail
  refine (round_is _ _ _ _ _ h4).mono ?_
  rintro e w5 ⟨rfl, rfl⟩
  go_wp2_with fail
  refine (left_is _ _ 2 1 0 h4 (by omega) (by omega)).mono ?_
  rintro e w6 ⟨rfl, k6⟩
  have e10 : waitOf 1 - 0 = 4 := by decide
  rw [e10]
  go_wp2_with fail
  go_ret
  exact ⟨rfl, grown_trans kk2 k6⟩
end Go.Proofs.YtfpjocinbnipgaaDoor
