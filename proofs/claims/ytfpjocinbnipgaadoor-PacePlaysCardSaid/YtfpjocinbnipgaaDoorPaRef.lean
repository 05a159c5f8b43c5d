/-
  The document's paces: what each call answers, and leaves of the model's three cells.
-/
import Derived.Test.YtfpjocinbnipgaaDoorPaWaits
import Derived.Test.YtfpjocinbnipgaaDoorTuR
import Derived.Test.YtfpjocinbnipgaaDoorNum
namespace Go.Proofs.YtfpjocinbnipgaaDoor
open Go.RowKit

def Pm (w : World) (g : Nat) (r f t : Int) : Prop := Blk w g 32 #[.int .i64 r, .int .i64 f, .int .i64 t]
def eN (x : Int) : Nat := if x < 0 then 1 else if 1099511627776 ≤ x then 14 else 0
theorem eN_le (x : Int) : eN x ≤ 18 := by unfold eN; (repeat' split) <;> omega
theorem eV_eN (E : Nat → Addr) (x : Int) : eV (E 0) (E 13) x = evOf E (eN x) := by
  unfold eV eN
  split
  · rfl
  · split <;> rfl

set_option maxHeartbeats 1000000 in
theorem enter_is (w : World) (g : Nat) (r f t x : Int) (h : Pm w g r f t) :
    Calls Tryd.prog 22 #[.pointer (some ⟨g, 0, none⟩), .int .i64 x] w fun e w' => e = .returned (.tuple #[.bool (yesB r x), .int .i64 (eN x : Int)]) ∧ Pm w' g (endR r x) f (endT r x t) ∧ w.grownBy w' (some g) := by
  by_cases hx : x < 0
  · have d : decide (x < (0 : Int)) = true := by simpa using hx
    have hy : yesB r x = false := by simp [yesB]; omega
    have hn : eN x = 1 := by simp [eN, hx]
    have hR : endR r x = r := by simp [endR, hy]
    have hT : endT r x t = t := by simp [endT, hy]
    rw [hy, hn, hR, hT]
    clear hy hn hR hT hx
    go_enter Tryd.func22, Tryd.ntmps22
    go_wp2
    go_ret2
    exact ⟨rfl, h, World.grownBy.refl w _⟩
  · have d : decide (x < (0 : Int)) = false := by simpa using hx
    by_cases hm : 1099511627776 ≤ x
    · have dm : decide ((1099511627776 : Int) ≤ x) = true := by simpa using hm
      have hy : yesB r x = false := by simp [yesB]; omega
      have hn : eN x = 14 := by simp [eN, hx, hm]
      have hR : endR r x = r := by simp [endR, hy]
      have hT : endT r x t = t := by simp [endT, hy]
      rw [hy, hn, hR, hT]
      clear hy hn hR hT hx hm
      go_enter Tryd.func22, Tryd.ntmps22
      go_wp2
      go_ret2
      exact ⟨rfl, h, World.grownBy.refl w _⟩
    · have dm : decide ((1099511627776 : Int) ≤ x) = false := by simpa using hm
      have hn : eN x = 0 := by simp [eN, hx, hm]
      have hw : wrap64 (x + 1) = x + 1 := w64 _ ⟨by omega, by omega⟩
      have c0 := Blk.cell h 0
      have c2 := Blk.cell h 2
      have f0 := Blk.frozen h 0
      have f2 := Blk.frozen h 2
      simp at c0 c2
      by_cases hr : r ≤ x
      · have d2 : decide (x < r) = false := by simp; omega
        have hy : yesB r x = true := by simp [yesB]; omega
        have hR : endR r x = x + 1 := by simp [endR, hy]
        have hT : endT r x t = 0 := by simp [endT, hy]
        rw [hy, hn, hR, hT]
        clear hy hn hR hT hr
        have hs : Pm ((w.setCell ⟨g, 0, none⟩ (.int .i64 (x + 1))).setCell ⟨g, 2, none⟩ (.int .i64 0)) g (x + 1) f 0 := by
          have := Blk.set (Blk.set h 0 (.int .i64 (x + 1))) 2 (.int .i64 0)
          simpa [Pm] using this
        go_enter Tryd.func22, Tryd.ntmps22
        go_wp2
        go_ret2
        exact ⟨rfl, hs, grown_trans (grown_set_some g 0 _) (grown_set_some g 2 _)⟩
      · have d2 : decide (x < r) = true := by simp; omega
        have hy : yesB r x = false := by simp [yesB]; omega
        have hR : endR r x = r := by simp [endR, hy]
        have hT : endT r x t = t := by simp [endT, hy]
        rw [hy, hn, hR, hT]
        clear hy hn hR hT hr
        go_enter Tryd.func22, Tryd.ntmps22
        go_wp2
        go_ret2
        exact ⟨rfl, h, World.grownBy.refl w _⟩

theorem mqc_is (w : World) (g : Nat) (r f t x : Int) (h : Pm w g r f t) :
    Calls Tryd.prog 11 #[.pointer (some ⟨g, 0, none⟩), .int .i64 x] w fun e w' => e = .returned (.tuple #[.bool (yesB r x), .int .i64 (eN x : Int)]) ∧ Pm w' g (endR r x) (endF r x f 0) (endT r x t) ∧ w.grownBy w' (some g) := by
  go_enter Tryd.func11, Tryd.ntmps11
  go_wp2_with fail
  refine (enter_is _ g r f t x h).mono ?_
  rintro e w1 ⟨rfl, h1, k1⟩
  have c1 := Blk.cell h1 1
  have f1 := Blk.frozen h1 1
  simp at c1
  by_cases hy : yesB r x = true
  · have hF : endF r x f 0 = 0 := by simp [endF, hy]
    have hs : Pm (w1.setCell ⟨g, 1, none⟩ (.int .i64 0)) g (endR r x) 0 (endT r x t) := by
      have := Blk.set h1 1 (.int .i64 0)
      simpa [Pm] using this
    go_wp2
    go_ret2
    refine ⟨by first | rfl | (rw [hy]; rfl), ?_, grown_trans k1 (grown_set_some g 1 _)⟩
    first | exact hs | (rw [hF]; exact hs)
  · have hy' : yesB r x = false := by simpa using hy
    have hF : endF r x f 0 = f := by simp [endF, hy']
    clear hy
    go_wp2
    go_ret2
    refine ⟨by first | rfl | (rw [hy']; rfl), ?_, k1⟩
    first | exact h1 | (rw [hF]; exact h1)

theorem mtc_is (w : World) (g : Nat) (r f t x : Int) (h : Pm w g r f t) (hf0 : 0 ≤ f) (hf1 : f ≤ 1000) :
    Calls Tryd.prog 13 #[.pointer (some ⟨g, 0, none⟩), .int .i64 x] w fun e w' => e = .returned (.tuple #[.bool (yesB r x), .int .i64 (eN x : Int)]) ∧ Pm w' g (endR r x) (endF r x f (f + 1)) (endT r x t) ∧ w.grownBy w' (some g) := by
  have hw : wrap64 (f + 1) = f + 1 := w64 _ ⟨by omega, by omega⟩
  go_enter Tryd.func13, Tryd.ntmps13
  go_wp2_with fail
  refine (enter_is _ g r f t x h).mono ?_
  rintro e w1 ⟨rfl, h1, k1⟩
  have c1 := Blk.cell h1 1
  have f1 := Blk.frozen h1 1
  simp at c1
  by_cases hy : yesB r x = true
  · have hF : endF r x f (f + 1) = f + 1 := by simp [endF, hy]
    have hs : Pm (w1.setCell ⟨g, 1, none⟩ (.int .i64 (f + 1))) g (endR r x) (f + 1) (endT r x t) := by
      have := Blk.set h1 1 (.int .i64 (f + 1))
      simpa [Pm] using this
    go_wp2
    go_ret2
    refine ⟨by first | rfl | (rw [hy]; rfl), ?_, grown_trans k1 (grown_set_some g 1 _)⟩
    first | exact hs | (rw [hF]; exact hs)
  · have hy' : yesB r x = false := by simpa using hy
    have hF : endF r x f (f + 1) = f := by simp [endF, hy']
    clear hy
    go_wp2
    go_ret2
    refine ⟨by first | rfl | (rw [hy']; rfl), ?_, k1⟩
    first | exact h1 | (rw [hF]; exact h1)

set_option maxHeartbeats 400000 in
theorem mtick_is (w : World) (g : Nat) (r f t : Int) (h : Pm w g r f t) (h0 : 0 ≤ t) (h1 : t < waitOf f) :
    Calls Tryd.prog 15 #[.pointer (some ⟨g, 0, none⟩)] w fun e w' => e = .returned (.bool (tickB f t)) ∧ Pm w' g r f (tickT f t) ∧ w.grownBy w' (some g) := by
  have hwt := waitOf_in f
  have c1 := Blk.cell h 1
  have c2 := Blk.cell h 2
  have f2 := Blk.frozen h 2
  have hw : wrap64 (t + 1) = t + 1 := w64 _ ⟨by omega, by omega⟩
  have hs : Pm (w.setCell ⟨g, 2, none⟩ (.int .i64 (t + 1))) g r f (t + 1) := by have := Blk.set h 2 (.int .i64 (t + 1)); simpa [Pm] using this
  have d1 := Blk.cell hs 1
  have d2 := Blk.cell hs 2
  have e2 := Blk.frozen hs 2
  simp at c1 c2 d1 d2
  have kk := grown_set_some (w := w) g 2 (.int .i64 (t + 1))
  by_cases hd : waitOf f ≤ t + 1
  · have dd : decide (t + 1 < waitOf f) = false := by simp; omega
    have hT : tickT f t = 0 := by simp [tickT, hd]
    have hB : tickB f t = true := by simp [tickB, hd]
    have hs2 : Pm ((w.setCell ⟨g, 2, none⟩ (.int .i64 (t + 1))).setCell ⟨g, 2, none⟩ (.int .i64 0)) g r f 0 := by have := Blk.set hs 2 (.int .i64 0); simpa [Pm] using this
    rw [hT, hB]
    clear hd hwt h1 hT hB h
    go_enter Tryd.func15, Tryd.ntmps15
    go_wp2
    generalize w.setCell ⟨g, 2, none⟩ (.int .i64 (t + 1)) = w1 at *
    go_quiet (first | (go_at_call 19; exact Calls.quiet_of_same ((refWait_is _ f).mono fun _ _ ⟨h1, h2⟩ => ⟨h1, h2.symm⟩)))
    go_wp2
    go_ret
    exact ⟨rfl, hs2, grown_drewN (grown_trans kk (grown_set_some g 2 _)) _⟩
  · have dd : decide (t + 1 < waitOf f) = true := by simp; omega
    have hT : tickT f t = t + 1 := by simp [tickT, hd]
    have hB : tickB f t = false := by simp [tickB, hd]
    rw [hT, hB]
    clear hd hwt h1 hT hB h
    go_enter Tryd.func15, Tryd.ntmps15
    go_wp2
    generalize w.setCell ⟨g, 2, none⟩ (.int .i64 (t + 1)) = w1 at *
    go_quiet (first | (go_at_call 19; exact Calls.quiet_of_same ((refWait_is _ f).mono fun _ _ ⟨h1, h2⟩ => ⟨h1, h2.symm⟩)))
    go_wp2
    go_ret
    exact ⟨rfl, hs, grown_drewN kk _⟩

theorem new_bad (w : World) (B : Nat) (r : Int) (a : Addr) (he : ErrAt w B 0 a) (h : r < 1 ∨ 1099511627776 < r) :
    Calls Tryd.prog 8 #[.int .i64 r] w fun e w' => e = .returned (.tuple #[.pointer none, errV a]) ∧ w.grownBy w' none := by
  have c := he.1
  have hd : decide (r < (1 : Int)) = true ∨ (decide (r < (1 : Int)) = false ∧ decide ((1099511627776 : Int) < r) = true) := by
    simp only [decide_eq_true_eq, decide_eq_false_iff_not]; omega
  clear h
  rcases hd with d | ⟨d, d1⟩
  all_goals
    go_enter Tryd.func8, Tryd.ntmps8
    go_wp2
    go_quiet (fail)
    go_wp2
    go_ret2
    exact ⟨rfl, grown_drewN (World.grownBy.refl w none) _⟩
end Go.Proofs.YtfpjocinbnipgaaDoor
