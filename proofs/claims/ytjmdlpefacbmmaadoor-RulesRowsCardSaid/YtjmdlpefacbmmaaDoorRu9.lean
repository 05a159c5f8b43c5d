/-
  The law's own told: the document's step.
-/
import Derived.Test.YtjmdlpefacbmmaaDoorRu7
namespace Go.Proofs.YtjmdlpefacbmmaaDoor
open Go.RowKit

set_option maxHeartbeats 4000000 in
theorem told_1 (w : World) (s : St) (ep r q g : Int) (t : St) (n : Nat)
    (hc : ∀ w', Calls Tryd.prog 26 #[s.val, .int .i64 ep, .int .i64 r, .int .i64 q, .int .i64 g] w' fun en w'' => en = .returned (.tuple #[t.val, .int .i64 (n : Int)]) ∧ w'.grownBy w'' none) :
    Calls Tryd.prog 12 #[s.val, (⟨1, ep, r, q, g⟩ : Stp).val] w fun en w' => en = .returned (.tuple #[t.val, .int .i64 (n : Int)]) ∧ w.grownBy w' none := by
  have ka := grown_trans (grown_trans (World.grownBy_alloc w (.cells (stC s.e s.v s.l s.p s.f) 29) none) (World.grownBy_alloc _ (.cells #[.int .i64 1, .int .i64 ep, .int .i64 r, .int .i64 q, .int .i64 g] 25) none)) (World.grownBy_alloc _ (.cells (stC 0 0 0 0 0) 29) none)
  go_enter Tryd.func12, Tryd.ntmps12
  go_wp2_with fail
  refine (hc _).mono ?_
  rintro en w1 ⟨rfl, k1⟩
  have kk := grown_trans ka k1
  have hR := (Blk.new ((w.alloc (.cells (stC s.e s.v s.l s.p s.f) 29)).alloc (.cells #[.int .i64 1, .int .i64 ep, .int .i64 r, .int .i64 q, .int .i64 g] 25)) 29 (stC 0 0 0 0 0)).grown k1 (by simp)
  simp only [World.size_alloc] at hR
  clear ka hc k1
  generalize hgR : w.heap.size + 1 + 1 = gR at *
  have t0 := hR.cell 0
  have t1 := hR.cell 1
  have t2 := hR.cell 2
  have t3 := hR.cell 3
  have t4 := hR.cell 4
  have ft0 := hR.frozen 0
  have ft1 := hR.frozen 1
  have ft2 := hR.frozen 2
  have ft3 := hR.frozen 3
  have ft4 := hR.frozen 4
  simp at t0 t1 t2 t3 t4
  go_wp2
  refine bodyPost_ret (results_cell_tmp rfl _ _ _ ⟨gR, 0, none⟩ _ rfl (loadR5 (hR.set5 _ _ _ _ _))) rfl ?_
  exact ⟨rfl, grown_set5 kk (by omega) _ _ _ _ _⟩

set_option maxHeartbeats 4000000 in
theorem told_2 (w : World) (s : St) (ep r q g : Int) (t : St) (n : Nat)
    (hc : ∀ w', Calls Tryd.prog 27 #[s.val, .int .i64 ep, .int .i64 r] w' fun en w'' => en = .returned (.tuple #[t.val, .int .i64 (n : Int)]) ∧ w'.grownBy w'' none) :
    Calls Tryd.prog 12 #[s.val, (⟨2, ep, r, q, g⟩ : Stp).val] w fun en w' => en = .returned (.tuple #[t.val, .int .i64 (n : Int)]) ∧ w.grownBy w' none := by
  have ka := grown_trans (grown_trans (World.grownBy_alloc w (.cells (stC s.e s.v s.l s.p s.f) 29) none) (World.grownBy_alloc _ (.cells #[.int .i64 2, .int .i64 ep, .int .i64 r, .int .i64 q, .int .i64 g] 25) none)) (World.grownBy_alloc _ (.cells (stC 0 0 0 0 0) 29) none)
  go_enter Tryd.func12, Tryd.ntmps12
  go_wp2_with fail
  refine (hc _).mono ?_
  rintro en w1 ⟨rfl, k1⟩
  have kk := grown_trans ka k1
  have hR := (Blk.new ((w.alloc (.cells (stC s.e s.v s.l s.p s.f) 29)).alloc (.cells #[.int .i64 2, .int .i64 ep, .int .i64 r, .int .i64 q, .int .i64 g] 25)) 29 (stC 0 0 0 0 0)).grown k1 (by simp)
  simp only [World.size_alloc] at hR
  clear ka hc k1
  generalize hgR : w.heap.size + 1 + 1 = gR at *
  have t0 := hR.cell 0
  have t1 := hR.cell 1
  have t2 := hR.cell 2
  have t3 := hR.cell 3
  have t4 := hR.cell 4
  have ft0 := hR.frozen 0
  have ft1 := hR.frozen 1
  have ft2 := hR.frozen 2
  have ft3 := hR.frozen 3
  have ft4 := hR.frozen 4
  simp at t0 t1 t2 t3 t4
  go_wp2
  refine bodyPost_ret (results_cell_tmp rfl _ _ _ ⟨gR, 0, none⟩ _ rfl (loadR5 (hR.set5 _ _ _ _ _))) rfl ?_
  exact ⟨rfl, grown_set5 kk (by omega) _ _ _ _ _⟩

set_option maxHeartbeats 4000000 in
theorem told_3 (w : World) (s : St) (ep r q g : Int) (t : St) (n : Nat)
    (hc : ∀ w', Calls Tryd.prog 28 #[s.val, .int .i64 ep, .int .i64 r] w' fun en w'' => en = .returned (.tuple #[t.val, .int .i64 (n : Int)]) ∧ w'.grownBy w'' none) :
    Calls Tryd.prog 12 #[s.val, (⟨3, ep, r, q, g⟩ : Stp).val] w fun en w' => en = .returned (.tuple #[t.val, .int .i64 (n : Int)]) ∧ w.grownBy w' none := by
  have ka := grown_trans (grown_trans (World.grownBy_alloc w (.cells (stC s.e s.v s.l s.p s.f) 29) none) (World.grownBy_alloc _ (.cells #[.int .i64 3, .int .i64 ep, .int .i64 r, .int .i64 q, .int .i64 g] 25) none)) (World.grownBy_alloc _ (.cells (stC 0 0 0 0 0) 29) none)
  go_enter Tryd.func12, Tryd.ntmps12
  go_wp2_with fail
  refine (hc _).mono ?_
  rintro en w1 ⟨rfl, k1⟩
  have kk := grown_trans ka k1
  have hR := (Blk.new ((w.alloc (.cells (stC s.e s.v s.l s.p s.f) 29)).alloc (.cells #[.int .i64 3, .int .i64 ep, .int .i64 r, .int .i64 q, .int .i64 g] 25)) 29 (stC 0 0 0 0 0)).grown k1 (by simp)
  simp only [World.size_alloc] at hR
  clear ka hc k1
  generalize hgR : w.heap.size + 1 + 1 = gR at *
  have t0 := hR.cell 0
  have t1 := hR.cell 1
  have t2 := hR.cell 2
  have t3 := hR.cell 3
  have t4 := hR.cell 4
  have ft0 := hR.frozen 0
  have ft1 := hR.frozen 1
  have ft2 := hR.frozen 2
  have ft3 := hR.frozen 3
  have ft4 := hR.frozen 4
  simp at t0 t1 t2 t3 t4
  go_wp2
  refine bodyPost_ret (results_cell_tmp rfl _ _ _ ⟨gR, 0, none⟩ _ rfl (loadR5 (hR.set5 _ _ _ _ _))) rfl ?_
  exact ⟨rfl, grown_set5 kk (by omega) _ _ _ _ _⟩

set_option maxHeartbeats 4000000 in
theorem told_4 (w : World) (s : St) (ep r q g : Int) (t : St) (n : Nat)
    (hc : ∀ w', Calls Tryd.prog 29 #[s.val, .int .i64 ep] w' fun en w'' => en = .returned (.tuple #[t.val, .int .i64 (n : Int)]) ∧ w'.grownBy w'' none) :
    Calls Tryd.prog 12 #[s.val, (⟨4, ep, r, q, g⟩ : Stp).val] w fun en w' => en = .returned (.tuple #[t.val, .int .i64 (n : Int)]) ∧ w.grownBy w' none := by
  have ka := grown_trans (grown_trans (World.grownBy_alloc w (.cells (stC s.e s.v s.l s.p s.f) 29) none) (World.grownBy_alloc _ (.cells #[.int .i64 4, .int .i64 ep, .int .i64 r, .int .i64 q, .int .i64 g] 25) none)) (World.grownBy_alloc _ (.cells (stC 0 0 0 0 0) 29) none)
  go_enter Tryd.func12, Tryd.ntmps12
  go_wp2_with fail
  refine (hc _).mono ?_
  rintro en w1 ⟨rfl, k1⟩
  have kk := grown_trans ka k1
  have hR := (Blk.new ((w.alloc (.cells (stC s.e s.v s.l s.p s.f) 29)).alloc (.cells #[.int .i64 4, .int .i64 ep, .int .i64 r, .int .i64 q, .int .i64 g] 25)) 29 (stC 0 0 0 0 0)).grown k1 (by simp)
  simp only [World.size_alloc] at hR
  clear ka hc k1
  generalize hgR : w.heap.size + 1 + 1 = gR at *
  have t0 := hR.cell 0
  have t1 := hR.cell 1
  have t2 := hR.cell 2
  have t3 := hR.cell 3
  have t4 := hR.cell 4
  have ft0 := hR.frozen 0
  have ft1 := hR.frozen 1
  have ft2 := hR.frozen 2
  have ft3 := hR.frozen 3
  have ft4 := hR.frozen 4
  simp at t0 t1 t2 t3 t4
  go_wp2
  refine bodyPost_ret (results_cell_tmp rfl _ _ _ ⟨gR, 0, none⟩ _ rfl (loadR5 (hR.set5 _ _ _ _ _))) rfl ?_
  exact ⟨rfl, grown_set5 kk (by omega) _ _ _ _ _⟩

set_option maxHeartbeats 1000000 in
theorem told_0 (w : World) (s : St) (k ep r q g : Int) (h1 : (k == 1) = false) (h2 : (k == 2) = false) (h3 : (k == 3) = false) (h4 : (k == 4) = false) :
    Calls Tryd.prog 12 #[s.val, (⟨k, ep, r, q, g⟩ : Stp).val] w fun en w' => en = .returned (.tuple #[s.val, .int .i64 0]) ∧ w.grownBy w' none := by
  have ka := grown_trans (grown_trans (World.grownBy_alloc w (.cells (stC s.e s.v s.l s.p s.f) 29) none) (World.grownBy_alloc _ (.cells #[.int .i64 k, .int .i64 ep, .int .i64 r, .int .i64 q, .int .i64 g] 25) none)) (World.grownBy_alloc _ (.cells (stC s.e s.v s.l s.p s.f) 29) none)
  have hR := Blk.new ((w.alloc (.cells (stC s.e s.v s.l s.p s.f) 29)).alloc (.cells #[.int .i64 k, .int .i64 ep, .int .i64 r, .int .i64 q, .int .i64 g] 25)) 29 (stC s.e s.v s.l s.p s.f)
  simp only [World.size_alloc] at hR
  go_enter Tryd.func12, Tryd.ntmps12
  go_wp2
  refine bodyPost_ret (results_cell_tmp rfl _ _ _ ⟨w.heap.size + 1 + 1, 0, none⟩ _ rfl (loadR5 hR)) rfl ?_
  exact ⟨rfl, ka⟩

theorem told_is (w : World) (s : St) (x : Stp) :
    Calls Tryd.prog 12 #[s.val, x.val] w fun en w' => en = .returned (.tuple #[(stepR s x).val, .int .i64 (stepE s x : Nat)]) ∧ w.grownBy w' none := by
  obtain ⟨k, ep, r, q, g⟩ := x
  by_cases h1 : k = 1
  · subst h1
    exact told_1 w s ep r q g (voteR s ⟨1, ep, r, q, g⟩) (voteE s.e s.v s.l s.p s.f ep r q) (fun w' => (refVote_is w' _ _ _ _ _ ep r q g).mono fun en w' ⟨e1, e2⟩ => ⟨by rw [e1, voteR, val_if], e2⟩)
  · by_cases h2 : k = 2
    · subst h2
      exact told_2 w s ep r q g (lateR s ⟨2, ep, r, q, g⟩) (lateE s.e s.v s.l s.p s.f ep r) (fun w' => (refLate_is w' _ _ _ _ _ ep r).mono fun en w' ⟨e1, e2⟩ => ⟨by rw [e1, lateR, val_if], e2⟩)
    · by_cases h3 : k = 3
      · subst h3
        exact told_3 w s ep r q g (propR s ⟨3, ep, r, q, g⟩) (propE s.e s.v s.l s.p s.f ep r) (fun w' => (refProp_is w' _ _ _ _ _ ep r).mono fun en w' ⟨e1, e2⟩ => ⟨by rw [e1, propR, val_if], e2⟩)
      · by_cases h4 : k = 4
        · subst h4
          exact told_4 w s ep r q g (enterR s ⟨4, ep, r, q, g⟩) (enterE s.e s.v s.l s.p s.f ep) (fun w' => (refEnter_is w' _ _ _ _ _ ep).mono fun en w' ⟨e1, e2⟩ => ⟨by rw [e1, enterR, val_if], e2⟩)
        · refine (told_0 w s k ep r q g (by simpa using h1) (by simpa using h2) (by simpa using h3) (by simpa using h4)).mono fun en w' ⟨e1, e2⟩ => ⟨?_, e2⟩
          rw [e1]
          simp [stepR, stepE, h1, h2, h3, h4]
end Go.Proofs.YtjmdlpefacbmmaaDoor
