/-
  RulesApart: the walk.
-/
import Derived.Test.YtjmdlpefacbmmaaDoorRu8
import Derived.Test.YtjmdlpefacbmmaaDoorRuAlive
namespace Go.Proofs.YtjmdlpefacbmmaaDoor
open Go.RowKit

/-- A step that is refused changes nothing. -/
theorem step_same (s : St) (x : Stp) (h : stepE s x ≠ 0) : stepR s x = s := by
  unfold stepE at h
  unfold stepR
  split
  · rename_i h1; simp [h1] at h; simp [voteR, h]
  · split
    · rename_i h1; simp [h1] at h; simp [lateR, h]
    · split
      · rename_i h1; simp [h1] at h; simp [propR, h]
      · split
        · rename_i h1; simp [h1] at h; simp [enterR, h]
        · rfl

theorem stepE_le (s : St) (x : Stp) : stepE s x ≤ 18 := by
  unfold stepE
  split
  · exact voteE_le
  · split
    · exact lateE_le
    · split
      · exact propE_le
      · split
        · exact enterE_le
        · omega

set_option maxHeartbeats 4000000 in
theorem apart_any (w : World) (B : Nat) (E : Nat → Addr) (he : ErrEnv w B E) (s : St) (x : Stp) :
    Calls Tryd.prog 9 #[s.val, x.val] w fun en w' => en = .returned (.bool true) ∧ w.grownBy w' none := by
  have ka := grown_trans (World.grownBy_alloc w (.cells (stC s.e s.v s.l s.p s.f) 23) none) (World.grownBy_alloc _ (.cells #[.int .i64 x.k, .int .i64 x.ep, .int .i64 x.r, .int .i64 x.q, .int .i64 x.g] 25) none)
  have hA := (Blk.new w 23 (stC s.e s.v s.l s.p s.f)).alloc (.cells #[.int .i64 x.k, .int .i64 x.ep, .int .i64 x.r, .int .i64 x.q, .int .i64 x.g] 25)
  have hX := Blk.new (w.alloc (.cells (stC s.e s.v s.l s.p s.f) 23)) 25 #[.int .i64 x.k, .int .i64 x.ep, .int .i64 x.r, .int .i64 x.q, .int .i64 x.g]
  rw [World.size_alloc] at hX
  go_enter Tryd.func9, Tryd.ntmps9
  go_wp2_with fail
  refine (rules_alive _ B E (he.grown ka (by simp))).mono ?_
  rintro en w1 ⟨rfl, k1⟩
  have hA1 := hA.grown k1 (by simp)
  have hX1 := hX.grown k1 (by simp)
  have kb := grown_trans (grown_trans ka k1) (World.grownBy_alloc w1 (.cells (stC s.e s.v s.l s.p s.f) 23) none)
  have he1 := he.grown kb (by simp)
  have a0 := hA1.cell 0
  have a1 := hA1.cell 1
  have a2 := hA1.cell 2
  have a3 := hA1.cell 3
  have a4 := hA1.cell 4
  simp at a0 a1 a2 a3 a4
  have hA2 := hA1.alloc (.cells (stC s.e s.v s.l s.p s.f) 23)
  have hX2 := hX1.alloc (.cells (stC s.e s.v s.l s.p s.f) 23)
  have hC2 := Blk.new w1 23 (stC s.e s.v s.l s.p s.f)
  have x0 := hX1.cell 0
  have x1 := hX1.cell 1
  have x2 := hX1.cell 2
  have x3 := hX1.cell 3
  have x4 := hX1.cell 4
  simp at x0 x1 x2 x3 x4
  have y0 := hX2.cell 0
  have y1 := hX2.cell 1
  have y2 := hX2.cell 2
  have y3 := hX2.cell 3
  have y4 := hX2.cell 4
  simp at y0 y1 y2 y3 y4
  have c0 := hA2.cell 0
  have c1 := hA2.cell 1
  have c2 := hA2.cell 2
  have c3 := hA2.cell 3
  have c4 := hA2.cell 4
  simp at c0 c1 c2 c3 c4
  clear hA hX ka k1 hA1 hX1
  go_wp2_with fail
  clear c0 c1 c2 c3 c4 a0 a1 a2 a3 a4 x0 x1 x2 x3 x4 y0 y1 y2 y3 y4
  have hs : stepE s x ≠ 0 → stepR s x = s := step_same s x
  have hle : stepE s x ≤ 18 := stepE_le s x
  generalize ht : stepR s x = t at hs
  generalize hn : stepE s x = n at hs hle
  have D1 : ∀ w', ErrEnv w' B E → Calls Tryd.prog 11 #[s.val, x.val] w' fun en w'' => en = .returned (.tuple #[t.val, .int .i64 (n : Int)]) ∧ w'.grownBy w'' none := fun w' he' => (do_is w' B E he' s x).mono fun en w'' ⟨e1, e2⟩ => ⟨by rw [e1, ht, hn], e2⟩
  clear ht hn
  have hn2 : (n = 0 ∧ n = 0) ∨ ((((n : Int)) != 0) = true ∧ t = s) := by
    by_cases h0 : n = 0
    · exact .inl ⟨h0, h0⟩
    · exact .inr ⟨by simp; omega, hs h0⟩
  clear hs
  rcases hn2 with ⟨rfl, _⟩ | ⟨hn0, rfl⟩
  all_goals
    refine (D1 _ he1).mono ?_
    rintro en w2 ⟨rfl, k2⟩
    have hA3 := (hA2.grown k2 (by simp)).alloc (.cells (stC t.e t.v t.l t.p t.f) 23)
    have hX3 := (hX2.grown k2 (by simp)).alloc (.cells (stC t.e t.v t.l t.p t.f) 23)
    have hC3 := (hC2.grown k2 (by simp)).alloc (.cells (stC t.e t.v t.l t.p t.f) 23)
    have kc := grown_trans (grown_trans kb k2) (World.grownBy_alloc w2 (.cells (stC t.e t.v t.l t.p t.f) 23) none)
    have he3 := he.grown kc (by simp)
    have a0 := hA3.cell 0
    have a1 := hA3.cell 1
    have a2 := hA3.cell 2
    have a3 := hA3.cell 3
    have a4 := hA3.cell 4
    simp at a0 a1 a2 a3 a4
    have c0 := hC3.cell 0
    have c1 := hC3.cell 1
    have c2 := hC3.cell 2
    have c3 := hC3.cell 3
    have c4 := hC3.cell 4
    simp at c0 c1 c2 c3 c4
    have x0 := hX3.cell 0
    have x1 := hX3.cell 1
    have x2 := hX3.cell 2
    have x3 := hX3.cell 3
    have x4 := hX3.cell 4
    simp at x0 x1 x2 x3 x4
    clear hA2 hX2 hC2 kb k2 he1
    go_wp2_with fail
    refine (D1 _ he3).mono ?_
    rintro en w3 ⟨rfl, k3⟩
    have hD4 := ((Blk.new w2 23 (stC t.e t.v t.l t.p t.f)).grown k3 (by simp)).alloc (.cells (stC t.e t.v t.l t.p t.f) 23)
    have kd := grown_trans (grown_trans kc k3) (World.grownBy_alloc w3 (.cells (stC t.e t.v t.l t.p t.f) 23) none)
    clear a0 a1 a2 a3 a4 c0 c1 c2 c3 c4 x0 x1 x2 x3 x4 hA3 hX3 hC3 kc k3 he3
    have d0 := hD4.cell 0
    have d1 := hD4.cell 1
    have d2 := hD4.cell 2
    have d3 := hD4.cell 3
    have d4 := hD4.cell 4
    simp at d0 d1 d2 d3 d4
    go_wp2_with fail
    go_ret
    exact ⟨rfl, kd⟩
end Go.Proofs.YtjmdlpefacbmmaaDoor
