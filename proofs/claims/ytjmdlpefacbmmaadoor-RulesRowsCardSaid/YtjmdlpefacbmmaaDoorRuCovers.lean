/-
  RulesCovers: the walk.
-/
import Derived.Test.YtjmdlpefacbmmaaDoorRuCov
import Derived.Test.YtjmdlpefacbmmaaDoorRuAlive
import Derived.Test.YtjmdlpefacbmmaaDoorGrow
namespace Go.Proofs.YtjmdlpefacbmmaaDoor
open Go.RowKit

theorem cov_v (w : World) (s t : St) (v : Bool) (h : covB s t = v) : Calls Tryd.prog 15 #[s.val, t.val] w fun en w' => en = .returned (.bool v) ∧ w.grownBy w' none := h ▸ cov_is w s t
theorem refCov_v (w : World) (s t : St) (v : Bool) (h : covB s t = v) : Calls Tryd.prog 21 #[s.val, t.val] w fun en w' => en = .returned (.bool v) ∧ w.grownBy w' none := h ▸ refCov_is w s t
theorem cov_refl (s : St) : covB s s = true := by simp [covB]
theorem cov_trans (s t u : St) (h1 : covB s t = true) (h2 : covB t u = true) : covB s u = true := by
  simp only [covB, decide_eq_true_eq] at *
  omega
theorem covers_ways (s t u : St) : (covB s t = false) ∨ (covB s t = true ∧ covB t u = false) ∨ (covB s t = true ∧ covB t u = true ∧ covB s u = true) := by
  cases h1 : covB s t
  · exact .inl rfl
  · cases h2 : covB t u
    · exact .inr (.inl ⟨rfl, rfl⟩)
    · exact .inr (.inr ⟨rfl, rfl, cov_trans s t u h1 h2⟩)

set_option maxHeartbeats 8000000 in
theorem covers_any (w : World) (B : Nat) (E : Nat → Addr) (he : ErrEnv w B E) (s t u : St) :
    Calls Tryd.prog 6 #[s.val, t.val, u.val] w fun en w' => en = .returned (.bool true) ∧ w.grownBy w' none := by
  have ka := grown_trans (grown_trans (World.grownBy_alloc w (.cells (stC s.e s.v s.l s.p s.f) 23) none) (World.grownBy_alloc _ (.cells (stC t.e t.v t.l t.p t.f) 23) none)) (World.grownBy_alloc _ (.cells (stC u.e u.v u.l u.p u.f) 23) none)
  have hA := ((Blk.new w 23 (stC s.e s.v s.l s.p s.f)).alloc (.cells (stC t.e t.v t.l t.p t.f) 23)).alloc (.cells (stC u.e u.v u.l u.p u.f) 23)
  have hB := (Blk.new (w.alloc (.cells (stC s.e s.v s.l s.p s.f) 23)) 23 (stC t.e t.v t.l t.p t.f)).alloc (.cells (stC u.e u.v u.l u.p u.f) 23)
  have hC := Blk.new ((w.alloc (.cells (stC s.e s.v s.l s.p s.f) 23)).alloc (.cells (stC t.e t.v t.l t.p t.f) 23)) 23 (stC u.e u.v u.l u.p u.f)
  simp only [World.size_alloc] at hB hC
  have z := cov_refl s
  rcases covers_ways s t u with q | ⟨q, q1⟩ | ⟨q, q1, q2⟩
  · go_enter Tryd.func6, Tryd.ntmps6
    go_wp2_with fail
    refine (rules_alive _ B E (he.grown ka (by simp))).mono ?_
    rintro en w1 ⟨rfl, k1⟩
    have hA1 := hA.grown k1 (by simp)
    have hB1 := hB.grown k1 (by simp)
    have hC1 := hC.grown k1 (by simp)
    have kb := grown_trans ka k1
    have a0 := hA1.cell 0
    have a1 := hA1.cell 1
    have a2 := hA1.cell 2
    have a3 := hA1.cell 3
    have a4 := hA1.cell 4
    simp at a0 a1 a2 a3 a4
    have b0 := hB1.cell 0
    have b1 := hB1.cell 1
    have b2 := hB1.cell 2
    have b3 := hB1.cell 3
    have b4 := hB1.cell 4
    simp at b0 b1 b2 b3 b4
    have c0 := hC1.cell 0
    have c1 := hC1.cell 1
    have c2 := hC1.cell 2
    have c3 := hC1.cell 3
    have c4 := hC1.cell 4
    simp at c0 c1 c2 c3 c4
    clear hA hB hC ka k1 hA1 hB1 hC1
    go_wp2_with fail
    refine wp_region_grown (by kernel_rfl) (by kernel_rfl) ?_
    have ga0 := Gr.cell a0
    have ga1 := Gr.cell a1
    have ga2 := Gr.cell a2
    have ga3 := Gr.cell a3
    have ga4 := Gr.cell a4
    have gb0 := Gr.cell b0
    have gb1 := Gr.cell b1
    have gb2 := Gr.cell b2
    have gb3 := Gr.cell b3
    have gb4 := Gr.cell b4
    have gc0 := Gr.cell c0
    have gc1 := Gr.cell c1
    have gc2 := Gr.cell c2
    have gc3 := Gr.cell c3
    have gc4 := Gr.cell c4
    repeat (go_big_quiet_step (first | (go_at_call 15; with_reducible exact Calls.grown _ (cov_v _ s t _ q)) | (go_at_call 15; with_reducible exact Calls.grown _ (cov_v _ s s _ z)) | (go_at_call 21; with_reducible exact Calls.grown _ (refCov_v _ s t _ q))))
    refine wpQuiet_nil ?_
    rintro _ ⟨⟨w2, k2⟩, rfl⟩
    go_wp2
    go_ret
    exact ⟨rfl, grown_trans kb k2⟩
  · go_enter Tryd.func6, Tryd.ntmps6
    go_wp2_with fail
    refine (rules_alive _ B E (he.grown ka (by simp))).mono ?_
    rintro en w1 ⟨rfl, k1⟩
    have hA1 := hA.grown k1 (by simp)
    have hB1 := hB.grown k1 (by simp)
    have hC1 := hC.grown k1 (by simp)
    have kb := grown_trans ka k1
    have a0 := hA1.cell 0
    have a1 := hA1.cell 1
    have a2 := hA1.cell 2
    have a3 := hA1.cell 3
    have a4 := hA1.cell 4
    simp at a0 a1 a2 a3 a4
    have b0 := hB1.cell 0
    have b1 := hB1.cell 1
    have b2 := hB1.cell 2
    have b3 := hB1.cell 3
    have b4 := hB1.cell 4
    simp at b0 b1 b2 b3 b4
    have c0 := hC1.cell 0
    have c1 := hC1.cell 1
    have c2 := hC1.cell 2
    have c3 := hC1.cell 3
    have c4 := hC1.cell 4
    simp at c0 c1 c2 c3 c4
    clear hA hB hC ka k1 hA1 hB1 hC1
    go_wp2_with fail
    refine wp_region_grown (by kernel_rfl) (by kernel_rfl) ?_
    have ga0 := Gr.cell a0
    have ga1 := Gr.cell a1
    have ga2 := Gr.cell a2
    have ga3 := Gr.cell a3
    have ga4 := Gr.cell a4
    have gb0 := Gr.cell b0
    have gb1 := Gr.cell b1
    have gb2 := Gr.cell b2
    have gb3 := Gr.cell b3
    have gb4 := Gr.cell b4
    have gc0 := Gr.cell c0
    have gc1 := Gr.cell c1
    have gc2 := Gr.cell c2
    have gc3 := Gr.cell c3
    have gc4 := Gr.cell c4
    repeat (go_big_quiet_step (first | (go_at_call 15; with_reducible exact Calls.grown _ (cov_v _ s t _ q)) | (go_at_call 15; with_reducible exact Calls.grown _ (cov_v _ s s _ z)) | (go_at_call 15; with_reducible exact Calls.grown _ (cov_v _ t u _ q1)) | (go_at_call 21; with_reducible exact Calls.grown _ (refCov_v _ s t _ q))))
    refine wpQuiet_nil ?_
    rintro _ ⟨⟨w2, k2⟩, rfl⟩
    go_wp2
    go_ret
    exact ⟨rfl, grown_trans kb k2⟩
  · go_enter Tryd.func6, Tryd.ntmps6
    go_wp2_with fail
    refine (rules_alive _ B E (he.grown ka (by simp))).mono ?_
    rintro en w1 ⟨rfl, k1⟩
    have hA1 := hA.grown k1 (by simp)
    have hB1 := hB.grown k1 (by simp)
    have hC1 := hC.grown k1 (by simp)
    have kb := grown_trans ka k1
    have a0 := hA1.cell 0
    have a1 := hA1.cell 1
    have a2 := hA1.cell 2
    have a3 := hA1.cell 3
    have a4 := hA1.cell 4
    simp at a0 a1 a2 a3 a4
    have b0 := hB1.cell 0
    have b1 := hB1.cell 1
    have b2 := hB1.cell 2
    have b3 := hB1.cell 3
    have b4 := hB1.cell 4
    simp at b0 b1 b2 b3 b4
    have c0 := hC1.cell 0
    have c1 := hC1.cell 1
    have c2 := hC1.cell 2
    have c3 := hC1.cell 3
    have c4 := hC1.cell 4
    simp at c0 c1 c2 c3 c4
    clear hA hB hC ka k1 hA1 hB1 hC1
    go_wp2_with fail
    refine wp_region_grown (by kernel_rfl) (by kernel_rfl) ?_
    have ga0 := Gr.cell a0
    have ga1 := Gr.cell a1
    have ga2 := Gr.cell a2
    have ga3 := Gr.cell a3
    have ga4 := Gr.cell a4
    have gb0 := Gr.cell b0
    have gb1 := Gr.cell b1
    have gb2 := Gr.cell b2
    have gb3 := Gr.cell b3
    have gb4 := Gr.cell b4
    have gc0 := Gr.cell c0
    have gc1 := Gr.cell c1
    have gc2 := Gr.cell c2
    have gc3 := Gr.cell c3
    have gc4 := Gr.cell c4
    repeat (go_big_quiet_step (first | (go_at_call 15; with_reducible exact Calls.grown _ (cov_v _ s t _ q)) | (go_at_call 15; with_reducible exact Calls.grown _ (cov_v _ s s _ z)) | (go_at_call 15; with_reducible exact Calls.grown _ (cov_v _ t u _ q1)) | (go_at_call 15; with_reducible exact Calls.grown _ (cov_v _ s u _ q2)) | (go_at_call 21; with_reducible exact Calls.grown _ (refCov_v _ s t _ q))))
    refine wpQuiet_nil ?_
    rintro _ ⟨⟨w2, k2⟩, rfl⟩
    go_wp2
    go_ret
    exact ⟨rfl, grown_trans kb k2⟩
end Go.Proofs.YtjmdlpefacbmmaaDoor
