/-
  Package rules: the document's Right, check and spend.
-/
import Derived.Test.YtjmdlpefacbmmaaDoorRu
import Derived.Test.YtjmdlpefacbmmaaDoorErr
namespace Go.Proofs.YtjmdlpefacbmmaaDoor
open Go.RowKit

set_option maxHeartbeats 2000000 in
theorem refRight_is (w : World) (e v l p f : Int) :
    Calls Tryd.prog 14 #[stV e v l p f] w fun en w' => en = .returned (.bool (rightB e v l p f)) ∧ w.grownBy w' none := by
  have kk := grown_trans (World.grownBy_alloc w (.cells (stC e v l p f) 29) none) (World.grownBy_alloc _ (.cells #[.int .i64 v, .int .i64 l, .int .i64 p] 3) none)
  rcases rounds_ways v l p with hd | ⟨d, d1, d2, d3, d4, d5⟩
  · rcases hd with d | ⟨d, d1⟩ | ⟨d, d1, d2⟩ | ⟨d, d1, d2, d3⟩ | ⟨d, d1, d2, d3, d4⟩ | ⟨d, d1, d2, d3, d4, d5⟩
    all_goals
      have hv : rightB e v l p f = false := by simp only [rightB, decide_eq_false_iff_not, decide_eq_true_eq] at *; omega
      go_enter Tryd.func14, Tryd.ntmps14
      go_wp2_with fail
      refine wp_loop_rounds 4 ?_
      rw [rounds_succ]
      go_wp2_with fail
      try (rw [rounds_succ]; go_wp2_with fail)
      try (rw [rounds_succ]; go_wp2_with fail)
      go_ret
      exact ⟨by rw [hv]; rfl, kk⟩
  · rcases ends_ways e f with hb | ⟨b, b1, b2, b3⟩
    · rcases hb with b | ⟨b, b1⟩ | ⟨b, b1, b2⟩ | ⟨b, b1, b2, b3⟩
      all_goals
        have hv : rightB e v l p f = false := by simp only [rightB, decide_eq_false_iff_not, decide_eq_true_eq] at *; omega
        go_enter Tryd.func14, Tryd.ntmps14
        go_wp2_with fail
        refine wp_loop_rounds 4 ?_
        rw [rounds_succ]
        go_wp2_with fail
        rw [rounds_succ]
        go_wp2_with fail
        rw [rounds_succ]
        go_wp2_with fail
        rw [rounds_succ]
        go_wp2_with fail
        go_ret
        exact ⟨by rw [hv]; rfl, kk⟩
    · have hv : rightB e v l p f = true := by simp only [rightB, decide_eq_false_iff_not, decide_eq_true_eq] at *; omega
      go_enter Tryd.func14, Tryd.ntmps14
      go_wp2_with fail
      refine wp_loop_rounds 4 ?_
      rw [rounds_succ]
      go_wp2_with fail
      rw [rounds_succ]
      go_wp2_with fail
      rw [rounds_succ]
      go_wp2_with fail
      rw [rounds_succ]
      go_wp2_with fail
      go_ret
      exact ⟨by rw [hv]; rfl, kk⟩

section
variable {w : World} {B : Nat} {E : Nat → Addr}
theorem ErrEnv.form (he : ErrEnv w B E) : w.cell? ⟨0, 0, none⟩ = some (errV (E 3)) := (he.var 3 (by omega)).1
theorem ErrEnv.spent (he : ErrEnv w B E) : w.cell? ⟨4, 0, none⟩ = some (errV (E 4)) := (he.var 4 (by omega)).1
theorem ErrEnv.old (he : ErrEnv w B E) : w.cell? ⟨9, 0, none⟩ = some (errV (E 9)) := (he.var 9 (by omega)).1
theorem ErrEnv.round (he : ErrEnv w B E) : w.cell? ⟨13, 0, none⟩ = some (errV (E 13)) := (he.var 13 (by omega)).1
theorem ErrEnv.unsafeE (he : ErrEnv w B E) : w.cell? ⟨14, 0, none⟩ = some (errV (E 14)) := (he.var 14 (by omega)).1
theorem ErrEnv.epoch (he : ErrEnv w B E) : w.cell? ⟨17, 0, none⟩ = some (errV (E 17)) := (he.var 17 (by omega)).1
end

def chkN (e v l p f ep r : Int) : Nat := if rightB e v l p f = false then 4 else if ep ≠ e then 18 else if r < 1 ∨ 1099511627776 < r then 14 else 0

theorem check_is (w : World) (B : Nat) (E : Nat → Addr) (he : ErrEnv w B E) (e v l p f ep r : Int) :
    Calls Tryd.prog 41 #[stV e v l p f, .int .i64 ep, .int .i64 r] w fun en w' => en = .returned (evOf E (chkN e v l p f ep r)) ∧ w.grownBy w' none := by
  have ka := World.grownBy_alloc w (.cells (stC e v l p f) 23) none
  have hb := Blk.new w 23 (stC e v l p f)
  by_cases hR : rightB e v l p f = true
  · by_cases hep : ep = e
    · subst hep
      have hw : decide (r < (1 : Int)) = true ∨ (decide (r < (1 : Int)) = false ∧ decide ((1099511627776 : Int) < r) = true) ∨ (decide (r < (1 : Int)) = false ∧ decide ((1099511627776 : Int) < r) = false) := by
        simp only [decide_eq_true_eq, decide_eq_false_iff_not]; omega
      rcases hw with d | ⟨d, d1⟩ | ⟨d, d1⟩
      · have hv : chkN ep v l p f ep r = 14 := by simp [chkN, hR]; simp at d; omega
        go_enter Tryd.func41, Tryd.ntmps41
        go_wp2_with fail
        refine (right_is _ _ _ _ _ _).mono ?_
        rintro en w1 ⟨rfl, k1⟩
        have c0 := (hb.grown k1 (by simp)).cell 0
        simp at c0
        have g13 := ((he.grown ka (by simp)).grown k1 (by simp)).round
        go_wp2_with fail
        go_ret
        exact ⟨by rw [hv]; rfl, grown_trans ka k1⟩
      · have hv : chkN ep v l p f ep r = 14 := by simp [chkN, hR]; simp at d1; omega
        go_enter Tryd.func41, Tryd.ntmps41
        go_wp2_with fail
        refine (right_is _ _ _ _ _ _).mono ?_
        rintro en w1 ⟨rfl, k1⟩
        have c0 := (hb.grown k1 (by simp)).cell 0
        simp at c0
        have g13 := ((he.grown ka (by simp)).grown k1 (by simp)).round
        go_wp2_with fail
        go_ret
        exact ⟨by rw [hv]; rfl, grown_trans ka k1⟩
      · have hv : chkN ep v l p f ep r = 0 := by simp [chkN, hR]; simp at d d1; omega
        go_enter Tryd.func41, Tryd.ntmps41
        go_wp2_with fail
        refine (right_is _ _ _ _ _ _).mono ?_
        rintro en w1 ⟨rfl, k1⟩
        have c0 := (hb.grown k1 (by simp)).cell 0
        simp at c0
        go_wp2_with fail
        go_ret
        exact ⟨by rw [hv]; rfl, grown_trans ka k1⟩
    · have hv : chkN e v l p f ep r = 18 := by simp [chkN, hR, hep]
      have hq : (ep == e) = false := by simpa using hep
      have hq' : (ep != e) = true := by simpa using hep
      clear hep
      go_enter Tryd.func41, Tryd.ntmps41
      go_wp2_with fail
      refine (right_is _ _ _ _ _ _).mono ?_
      rintro en w1 ⟨rfl, k1⟩
      have c0 := (hb.grown k1 (by simp)).cell 0
      simp at c0
      have g17 := ((he.grown ka (by simp)).grown k1 (by simp)).epoch
      go_wp2_with fail
      go_ret
      exact ⟨by rw [hv]; rfl, grown_trans ka k1⟩
  · have hR' : rightB e v l p f = false := by simpa using hR
    have hv : chkN e v l p f ep r = 4 := by simp [chkN, hR']
    clear hR
    go_enter Tryd.func41, Tryd.ntmps41
    go_wp2_with fail
    refine (right_is _ _ _ _ _ _).mono ?_
    rintro en w1 ⟨rfl, k1⟩
    have g3 := ((he.grown ka (by simp)).grown k1 (by simp)).form
    go_wp2_with fail
    go_ret
    exact ⟨by rw [hv]; rfl, grown_trans ka k1⟩
end Go.Proofs.YtjmdlpefacbmmaaDoor
