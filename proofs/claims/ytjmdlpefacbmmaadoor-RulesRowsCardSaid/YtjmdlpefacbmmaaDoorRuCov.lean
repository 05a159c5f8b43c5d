/-
  Covers, the program's and the document's.
-/
import Derived.Test.YtjmdlpefacbmmaaDoorRu7
namespace Go.Proofs.YtjmdlpefacbmmaaDoor
open Go.RowKit

def covB (s t : St) : Bool := decide (t.f ≤ s.f ∧ t.e ≤ s.e ∧ (t.e < s.e ∨ t.v ≤ s.v ∧ t.l ≤ s.l ∧ t.p ≤ s.p))
theorem cov_ways (s t : St) :
    (decide (s.f < t.f) = true ∧ covB s t = false) ∨
    (decide (s.f < t.f) = false ∧ decide (s.e < t.e) = true ∧ covB s t = false) ∨
    (decide (s.f < t.f) = false ∧ decide (s.e < t.e) = false ∧ decide (t.e < s.e) = true ∧ covB s t = true) ∨
    (decide (s.f < t.f) = false ∧ decide (s.e < t.e) = false ∧ decide (t.e < s.e) = false ∧ decide (s.v < t.v) = true ∧ covB s t = false) ∨
    (decide (s.f < t.f) = false ∧ decide (s.e < t.e) = false ∧ decide (t.e < s.e) = false ∧ decide (s.v < t.v) = false ∧ decide (s.l < t.l) = true ∧ covB s t = false) ∨
    (decide (s.f < t.f) = false ∧ decide (s.e < t.e) = false ∧ decide (t.e < s.e) = false ∧ decide (s.v < t.v) = false ∧ decide (s.l < t.l) = false ∧ decide (s.p < t.p) = true ∧ covB s t = false) ∨
    (decide (s.f < t.f) = false ∧ decide (s.e < t.e) = false ∧ decide (t.e < s.e) = false ∧ decide (s.v < t.v) = false ∧ decide (s.l < t.l) = false ∧ decide (s.p < t.p) = false ∧ covB s t = true) := by
  simp only [covB, decide_eq_true_eq, decide_eq_false_iff_not]
  omega
theorem cov_ways' (s t : St) :
    (decide (s.f < t.f) = true ∧ covB s t = false) ∨
    (decide (s.f < t.f) = false ∧ decide (s.e < t.e) = true ∧ covB s t = false) ∨
    (decide (s.f < t.f) = false ∧ decide (s.e < t.e) = false ∧ decide (t.e < s.e) = true ∧ covB s t = true) ∨
    (decide (s.f < t.f) = false ∧ decide (s.e < t.e) = false ∧ decide (t.e < s.e) = false ∧ decide (t.v ≤ s.v) = false ∧ covB s t = false) ∨
    (decide (s.f < t.f) = false ∧ decide (s.e < t.e) = false ∧ decide (t.e < s.e) = false ∧ decide (t.v ≤ s.v) = true ∧ decide (t.l ≤ s.l) = false ∧ covB s t = false) ∨
    (decide (s.f < t.f) = false ∧ decide (s.e < t.e) = false ∧ decide (t.e < s.e) = false ∧ decide (t.v ≤ s.v) = true ∧ decide (t.l ≤ s.l) = true ∧ decide (t.p ≤ s.p) = false ∧ covB s t = false) ∨
    (decide (s.f < t.f) = false ∧ decide (s.e < t.e) = false ∧ decide (t.e < s.e) = false ∧ decide (t.v ≤ s.v) = true ∧ decide (t.l ≤ s.l) = true ∧ decide (t.p ≤ s.p) = true ∧ covB s t = true) := by
  simp only [covB, decide_eq_true_eq, decide_eq_false_iff_not]
  omega

set_option maxHeartbeats 4000000 in
theorem cov_is (w : World) (s t : St) : Calls Tryd.prog 15 #[s.val, t.val] w fun en w' => en = .returned (.bool (covB s t)) ∧ w.grownBy w' none := by
  have ka := grown_trans (World.grownBy_alloc w (.cells (stC s.e s.v s.l s.p s.f) 23) none) (World.grownBy_alloc _ (.cells (stC t.e t.v t.l t.p t.f) 23) none)
  have hS := (Blk.new w 23 (stC s.e s.v s.l s.p s.f)).alloc (.cells (stC t.e t.v t.l t.p t.f) 23)
  have hT := Blk.new (w.alloc (.cells (stC s.e s.v s.l s.p s.f) 23)) 23 (stC t.e t.v t.l t.p t.f)
  rw [World.size_alloc] at hT
  have i0 := fun w => (idx3 (.int .i64 s.v) (.int .i64 s.l) (.int .i64 s.p) w).1
  have i1 := fun w => (idx3 (.int .i64 s.v) (.int .i64 s.l) (.int .i64 s.p) w).2.1
  have i2 := fun w => (idx3 (.int .i64 s.v) (.int .i64 s.l) (.int .i64 s.p) w).2.2
  rcases cov_ways s t with ⟨d0, hv⟩ | ⟨d0, d1, hv⟩ | ⟨d0, d1, d2, hv⟩ | ⟨d0, d1, d2, d3, hv⟩ | ⟨d0, d1, d2, d3, d4, hv⟩ | ⟨d0, d1, d2, d3, d4, d5, hv⟩ | ⟨d0, d1, d2, d3, d4, d5, hv⟩
  · go_enter Tryd.func15, Tryd.ntmps15
    go_wp2_with fail
    go_ret
    exact ⟨by first | rfl | (rw [hv]; rfl), ka⟩
  · go_enter Tryd.func15, Tryd.ntmps15
    go_wp2_with fail
    go_ret
    exact ⟨by first | rfl | (rw [hv]; rfl), ka⟩
  · go_enter Tryd.func15, Tryd.ntmps15
    go_wp2_with fail
    go_ret
    exact ⟨by first | rfl | (rw [hv]; rfl), ka⟩
  · go_enter Tryd.func15, Tryd.ntmps15
    go_wp2_with fail
    refine (rounds_is _ _ _ _ _ _).mono ?_
    rintro en w1 ⟨rfl, k1⟩
    have hS1 := (hS.grown k1 (by simp)).alloc (.cells #[.int .i64 t.v, .int .i64 t.l, .int .i64 t.p] 56)
    have hQ := Blk.new w1 56 #[.int .i64 t.v, .int .i64 t.l, .int .i64 t.p]
    have kb := grown_trans (grown_trans ka k1) (World.grownBy_alloc w1 (.cells #[.int .i64 t.v, .int .i64 t.l, .int .i64 t.p] 56) none)
    have a0 := hS1.cell 0
    have a1 := hS1.cell 1
    have a2 := hS1.cell 2
    have a3 := hS1.cell 3
    have a4 := hS1.cell 4
    simp at a0 a1 a2 a3 a4
    have b0 := (hS.grown k1 (by simp)).cell 0
    have b1 := (hS.grown k1 (by simp)).cell 1
    have b2 := (hS.grown k1 (by simp)).cell 2
    have b3 := (hS.grown k1 (by simp)).cell 3
    have b4 := (hS.grown k1 (by simp)).cell 4
    simp at b0 b1 b2 b3 b4
    clear hS hT ka k1 hS1
    go_wp2_with fail
    refine (rounds_is _ _ _ _ _ _).mono ?_
    rintro en w2 ⟨rfl, k2⟩
    have hQ2 := hQ.grown k2 (by simp)
    have q0 := hQ2.cell 0
    have q1 := hQ2.cell 1
    have q2 := hQ2.cell 2
    simp at q0 q1 q2
    have kc := grown_trans kb k2
    clear kb k2 hQ hQ2 a0 a1 a2 a3 a4 b0 b1 b2 b3 b4
    go_wp2_with fail
    refine wp_loop_rounds 4 ?_
    rw [rounds_succ]
    go_wp2_with fail
    go_ret
    exact ⟨by first | rfl | (rw [hv]; rfl), kc⟩
  · go_enter Tryd.func15, Tryd.ntmps15
    go_wp2_with fail
    refine (rounds_is _ _ _ _ _ _).mono ?_
    rintro en w1 ⟨rfl, k1⟩
    have hS1 := (hS.grown k1 (by simp)).alloc (.cells #[.int .i64 t.v, .int .i64 t.l, .int .i64 t.p] 56)
    have hQ := Blk.new w1 56 #[.int .i64 t.v, .int .i64 t.l, .int .i64 t.p]
    have kb := grown_trans (grown_trans ka k1) (World.grownBy_alloc w1 (.cells #[.int .i64 t.v, .int .i64 t.l, .int .i64 t.p] 56) none)
    have a0 := hS1.cell 0
    have a1 := hS1.cell 1
    have a2 := hS1.cell 2
    have a3 := hS1.cell 3
    have a4 := hS1.cell 4
    simp at a0 a1 a2 a3 a4
    have b0 := (hS.grown k1 (by simp)).cell 0
    have b1 := (hS.grown k1 (by simp)).cell 1
    have b2 := (hS.grown k1 (by simp)).cell 2
    have b3 := (hS.grown k1 (by simp)).cell 3
    have b4 := (hS.grown k1 (by simp)).cell 4
    simp at b0 b1 b2 b3 b4
    clear hS hT ka k1 hS1
    go_wp2_with fail
    refine (rounds_is _ _ _ _ _ _).mono ?_
    rintro en w2 ⟨rfl, k2⟩
    have hQ2 := hQ.grown k2 (by simp)
    have q0 := hQ2.cell 0
    have q1 := hQ2.cell 1
    have q2 := hQ2.cell 2
    simp at q0 q1 q2
    have kc := grown_trans kb k2
    clear kb k2 hQ hQ2 a0 a1 a2 a3 a4 b0 b1 b2 b3 b4
    go_wp2_with fail
    refine wp_loop_rounds 4 ?_
    rw [rounds_succ]
    go_wp2_with fail
    rw [rounds_succ]
    go_wp2_with fail
    go_ret
    exact ⟨by first | rfl | (rw [hv]; rfl), kc⟩
  · go_enter Tryd.func15, Tryd.ntmps15
    go_wp2_with fail
    refine (rounds_is _ _ _ _ _ _).mono ?_
    rintro en w1 ⟨rfl, k1⟩
    have hS1 := (hS.grown k1 (by simp)).alloc (.cells #[.int .i64 t.v, .int .i64 t.l, .int .i64 t.p] 56)
    have hQ := Blk.new w1 56 #[.int .i64 t.v, .int .i64 t.l, .int .i64 t.p]
    have kb := grown_trans (grown_trans ka k1) (World.grownBy_alloc w1 (.cells #[.int .i64 t.v, .int .i64 t.l, .int .i64 t.p] 56) none)
    have a0 := hS1.cell 0
    have a1 := hS1.cell 1
    have a2 := hS1.cell 2
    have a3 := hS1.cell 3
    have a4 := hS1.cell 4
    simp at a0 a1 a2 a3 a4
    have b0 := (hS.grown k1 (by simp)).cell 0
    have b1 := (hS.grown k1 (by simp)).cell 1
    have b2 := (hS.grown k1 (by simp)).cell 2
    have b3 := (hS.grown k1 (by simp)).cell 3
    have b4 := (hS.grown k1 (by simp)).cell 4
    simp at b0 b1 b2 b3 b4
    clear hS hT ka k1 hS1
    go_wp2_with fail
    refine (rounds_is _ _ _ _ _ _).mono ?_
    rintro en w2 ⟨rfl, k2⟩
    have hQ2 := hQ.grown k2 (by simp)
    have q0 := hQ2.cell 0
    have q1 := hQ2.cell 1
    have q2 := hQ2.cell 2
    simp at q0 q1 q2
    have kc := grown_trans kb k2
    clear kb k2 hQ hQ2 a0 a1 a2 a3 a4 b0 b1 b2 b3 b4
    go_wp2_with fail
    refine wp_loop_rounds 4 ?_
    rw [rounds_succ]
    go_wp2_with fail
    rw [rounds_succ]
    go_wp2_with fail
    rw [rounds_succ]
    go_wp2_with fail
    go_ret
    exact ⟨by first | rfl | (rw [hv]; rfl), kc⟩
  · go_enter Tryd.func15, Tryd.ntmps15
    go_wp2_with fail
    refine (rounds_is _ _ _ _ _ _).mono ?_
    rintro en w1 ⟨rfl, k1⟩
    have hS1 := (hS.grown k1 (by simp)).alloc (.cells #[.int .i64 t.v, .int .i64 t.l, .int .i64 t.p] 56)
    have hQ := Blk.new w1 56 #[.int .i64 t.v, .int .i64 t.l, .int .i64 t.p]
    have kb := grown_trans (grown_trans ka k1) (World.grownBy_alloc w1 (.cells #[.int .i64 t.v, .int .i64 t.l, .int .i64 t.p] 56) none)
    have a0 := hS1.cell 0
    have a1 := hS1.cell 1
    have a2 := hS1.cell 2
    have a3 := hS1.cell 3
    have a4 := hS1.cell 4
    simp at a0 a1 a2 a3 a4
    have b0 := (hS.grown k1 (by simp)).cell 0
    have b1 := (hS.grown k1 (by simp)).cell 1
    have b2 := (hS.grown k1 (by simp)).cell 2
    have b3 := (hS.grown k1 (by simp)).cell 3
    have b4 := (hS.grown k1 (by simp)).cell 4
    simp at b0 b1 b2 b3 b4
    clear hS hT ka k1 hS1
    go_wp2_with fail
    refine (rounds_is _ _ _ _ _ _).mono ?_
    rintro en w2 ⟨rfl, k2⟩
    have hQ2 := hQ.grown k2 (by simp)
    have q0 := hQ2.cell 0
    have q1 := hQ2.cell 1
    have q2 := hQ2.cell 2
    simp at q0 q1 q2
    have kc := grown_trans kb k2
    clear kb k2 hQ hQ2 a0 a1 a2 a3 a4 b0 b1 b2 b3 b4
    go_wp2_with fail
    refine wp_loop_rounds 4 ?_
    rw [rounds_succ]
    go_wp2_with fail
    rw [rounds_succ]
    go_wp2_with fail
    rw [rounds_succ]
    go_wp2_with fail
    rw [rounds_succ]
    go_wp2_with fail
    go_ret
    exact ⟨by first | rfl | (rw [hv]; rfl), kc⟩

set_option maxHeartbeats 4000000 in
theorem refCov_is (w : World) (s t : St) : Calls Tryd.prog 21 #[s.val, t.val] w fun en w' => en = .returned (.bool (covB s t)) ∧ w.grownBy w' none := by
  have ka := grown_trans (World.grownBy_alloc w (.cells (stC s.e s.v s.l s.p s.f) 29) none) (World.grownBy_alloc _ (.cells (stC t.e t.v t.l t.p t.f) 29) none)
  rcases cov_ways' s t with ⟨d0, hv⟩ | ⟨d0, d1, hv⟩ | ⟨d0, d1, d2, hv⟩ | ⟨d0, d1, d2, d3, hv⟩ | ⟨d0, d1, d2, d3, d4, hv⟩ | ⟨d0, d1, d2, d3, d4, d5, hv⟩ | ⟨d0, d1, d2, d3, d4, d5, hv⟩
  all_goals
    go_enter Tryd.func21, Tryd.ntmps21
    go_wp2_with fail
    go_ret
    exact ⟨by first | rfl | (rw [hv]; rfl), ka⟩
end Go.Proofs.YtjmdlpefacbmmaaDoor
