/-
  RulesSteps: the walk.
-/
import Derived.Test.YtjmdlpefacbmmaaDoorRu8
import Derived.Test.YtjmdlpefacbmmaaDoorRu9
import Derived.Test.YtjmdlpefacbmmaaDoorRuAlive
import Derived.Test.YtjmdlpefacbmmaaDoorGrow
namespace Go.Proofs.YtjmdlpefacbmmaaDoor
open Go.RowKit

set_option maxHeartbeats 4000000 in
theorem steps_any (w : World) (B : Nat) (E : Nat → Addr) (he : ErrEnv w B E) (s : St) (x : Stp) :
    Calls Tryd.prog 3 #[s.val, x.val] w fun en w' => en = .returned (.bool true) ∧ w.grownBy w' none := by
  have ka := grown_trans (World.grownBy_alloc w (.cells (stC s.e s.v s.l s.p s.f) 23) none) (World.grownBy_alloc _ (.cells #[.int .i64 x.k, .int .i64 x.ep, .int .i64 x.r, .int .i64 x.q, .int .i64 x.g] 25) none)
  have hA := (Blk.new w 23 (stC s.e s.v s.l s.p s.f)).alloc (.cells #[.int .i64 x.k, .int .i64 x.ep, .int .i64 x.r, .int .i64 x.q, .int .i64 x.g] 25)
  have hX := Blk.new (w.alloc (.cells (stC s.e s.v s.l s.p s.f) 23)) 25 #[.int .i64 x.k, .int .i64 x.ep, .int .i64 x.r, .int .i64 x.q, .int .i64 x.g]
  rw [World.size_alloc] at hX
  go_enter Tryd.func3, Tryd.ntmps3
  go_wp2_with fail
  refine (rules_alive _ B E (he.grown ka (by simp))).mono ?_
  rintro en w1 ⟨rfl, k1⟩
  have hA1 := hA.grown k1 (by simp)
  have hX1 := hX.grown k1 (by simp)
  have kb := grown_trans ka k1
  have he1 := he.grown kb (by simp)
  have a0 := hA1.cell 0
  have a1 := hA1.cell 1
  have a2 := hA1.cell 2
  have a3 := hA1.cell 3
  have a4 := hA1.cell 4
  simp at a0 a1 a2 a3 a4
  have x0 := hX1.cell 0
  have x1 := hX1.cell 1
  have x2 := hX1.cell 2
  have x3 := hX1.cell 3
  have x4 := hX1.cell 4
  simp at x0 x1 x2 x3 x4
  clear hA hX ka k1
  have D1 := do_is w1 B E he1 s x
  have D2 := fun w' => told_is w' s x
  generalize stepR s x = t at D1 D2
  generalize stepE s x = n at D1 D2
  go_wp2_with fail
  refine D1.mono ?_
  rintro en w2 ⟨rfl, k2⟩
  have hA2 := (hA1.grown k2 (by simp)).alloc (.cells (stC t.e t.v t.l t.p t.f) 23)
  have hX2 := (hX1.grown k2 (by simp)).alloc (.cells (stC t.e t.v t.l t.p t.f) 23)
  have hD2 := Blk.new w2 23 (stC t.e t.v t.l t.p t.f)
  have kc := grown_trans (grown_trans kb k2) (World.grownBy_alloc w2 (.cells (stC t.e t.v t.l t.p t.f) 23) none)
  clear D1 he1 hA1 hX1 k2 kb a0 a1 a2 a3 a4 x0 x1 x2 x3 x4
  have a0 := hA2.cell 0
  have a1 := hA2.cell 1
  have a2 := hA2.cell 2
  have a3 := hA2.cell 3
  have a4 := hA2.cell 4
  simp at a0 a1 a2 a3 a4
  have x0 := hX2.cell 0
  have x1 := hX2.cell 1
  have x2 := hX2.cell 2
  have x3 := hX2.cell 3
  have x4 := hX2.cell 4
  simp at x0 x1 x2 x3 x4
  go_wp2_with fail
  refine (D2 _).mono ?_
  rintro en w3 ⟨rfl, k3⟩
  have hA3 := (hA2.grown k3 (by simp)).alloc (.cells (stC t.e t.v t.l t.p t.f) 29)
  have hD3 := (hD2.grown k3 (by simp)).alloc (.cells (stC t.e t.v t.l t.p t.f) 29)
  have hU3 := Blk.new w3 29 (stC t.e t.v t.l t.p t.f)
  have kd := grown_trans (grown_trans kc k3) (World.grownBy_alloc w3 (.cells (stC t.e t.v t.l t.p t.f) 29) none)
  clear D2 hA2 hX2 hD2 kc k3 a0 a1 a2 a3 a4 x0 x1 x2 x3 x4
  go_wp2_with fail
  generalize w3.alloc (.cells (stC t.e t.v t.l t.p t.f) 29) = w4 at *
  have a0 := hA3.cell 0
  have a1 := hA3.cell 1
  have a2 := hA3.cell 2
  have a3 := hA3.cell 3
  have a4 := hA3.cell 4
  simp at a0 a1 a2 a3 a4
  have d0 := hD3.cell 0
  have d1 := hD3.cell 1
  have d2 := hD3.cell 2
  have d3 := hD3.cell 3
  have d4 := hD3.cell 4
  simp at d0 d1 d2 d3 d4
  have u0 := hU3.cell 0
  have u1 := hU3.cell 1
  have u2 := hU3.cell 2
  have u3 := hU3.cell 3
  have u4 := hU3.cell 4
  simp at u0 u1 u2 u3 u4
  refine wp_region_grown (by kernel_rfl) (by kernel_rfl) ?_
  have ga0 := Gr.cell a0
  have ga1 := Gr.cell a1
  have ga2 := Gr.cell a2
  have ga3 := Gr.cell a3
  have ga4 := Gr.cell a4
  have gd0 := Gr.cell d0
  have gd1 := Gr.cell d1
  have gd2 := Gr.cell d2
  have gd3 := Gr.cell d3
  have gd4 := Gr.cell d4
  have gu0 := Gr.cell u0
  have gu1 := Gr.cell u1
  have gu2 := Gr.cell u2
  have gu3 := Gr.cell u3
  have gu4 := Gr.cell u4
  repeat (go_big_quiet_step (first | (go_at_call 13; with_reducible exact Calls.grown _ (right_is _ s.e s.v s.l s.p s.f)) | (go_at_call 14; with_reducible exact Calls.grown _ (refRight_is _ s.e s.v s.l s.p s.f))))
  refine wpQuiet_nil ?_
  rintro _ ⟨⟨w5, k5⟩, rfl⟩
  go_wp2
  go_ret
  exact ⟨rfl, grown_trans kd k5⟩
end Go.Proofs.YtjmdlpefacbmmaaDoor
