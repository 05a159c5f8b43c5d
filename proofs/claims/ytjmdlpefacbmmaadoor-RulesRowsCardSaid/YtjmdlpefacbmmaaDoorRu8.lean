/-
  The law's own do: a step, and its error's number.
-/
import Derived.Test.YtjmdlpefacbmmaaDoorRu7
import Derived.StillTailTactics
namespace Go.Proofs.YtjmdlpefacbmmaaDoor
open Go.RowKit

set_option maxHeartbeats 4000000 in
theorem do_1 (w : World) (B : Nat) (E : Nat → Addr) (he : ErrEnv w B E) (s : St) (ep r q g : Int) (t : St) (n : Nat) (hn : n ≤ 18)
    (hc : ∀ w', ErrEnv w' B E → Calls Tryd.prog 22 #[s.val, .int .i64 ep, .int .i64 r, .int .i64 q, .int .i64 g] w' fun en w'' => en = .returned (.tuple #[t.val, evOf E n]) ∧ w'.grownBy w'' none) :
    Calls Tryd.prog 11 #[s.val, (⟨1, ep, r, q, g⟩ : Stp).val] w fun en w' => en = .returned (.tuple #[t.val, .int .i64 (n : Int)]) ∧ w.grownBy w' none := by
  have ka := grown_trans (grown_trans (grown_trans (World.grownBy_alloc w (.cells (stC s.e s.v s.l s.p s.f) 23) none) (World.grownBy_alloc _ (.cells #[.int .i64 1, .int .i64 ep, .int .i64 r, .int .i64 q, .int .i64 g] 25) none)) (World.grownBy_alloc _ (.cells (stC 0 0 0 0 0) 23) none)) (World.grownBy_alloc _ (.cells (stC 0 0 0 0 0) 23) none)
  go_enter Tryd.func11, Tryd.ntmps11
  go_wp2_with fail
  refine (hc _ (he.grown ka (by simp))).mono ?_
  rintro en w1 ⟨rfl, k1⟩
  have kk := grown_trans ka k1
  have he1 := he.grown kk (by simp)
  have hR := (((Blk.new ((w.alloc (.cells (stC s.e s.v s.l s.p s.f) 23)).alloc (.cells #[.int .i64 1, .int .i64 ep, .int .i64 r, .int .i64 q, .int .i64 g] 25)) 23 (stC 0 0 0 0 0)).alloc (.cells (stC 0 0 0 0 0) 23)).grown k1 (by simp))
  have hT := (Blk.new (((w.alloc (.cells (stC s.e s.v s.l s.p s.f) 23)).alloc (.cells #[.int .i64 1, .int .i64 ep, .int .i64 r, .int .i64 q, .int .i64 g] 25)).alloc (.cells (stC 0 0 0 0 0) 23)) 23 (stC 0 0 0 0 0)).grown k1 (by simp)
  simp only [World.size_alloc] at hR hT
  clear ka hc k1
  generalize hgR : w.heap.size + 1 + 1 = gR at *
  have hRT : ¬ gR = gR + 1 := by omega
  have hTR : ¬ gR + 1 = gR := by omega
  have t0 := hT.cell 0
  have t1 := hT.cell 1
  have t2 := hT.cell 2
  have t3 := hT.cell 3
  have t4 := hT.cell 4
  have ft0 := hT.frozen 0
  have ft1 := hT.frozen 1
  have ft2 := hT.frozen 2
  have ft3 := hT.frozen 3
  have ft4 := hT.frozen 4
  simp at t0 t1 t2 t3 t4
  have hT5 := hT.set5 (.int .i64 t.e) (.int .i64 t.v) (.int .i64 t.l) (.int .i64 t.p) (.int .i64 t.f)
  have hR5 := ((((hR.far (p := ⟨gR + 1, 0, none⟩) hRT (.int .i64 t.e)).far (p := ⟨gR + 1, 1, none⟩) hRT (.int .i64 t.v)).far (p := ⟨gR + 1, 2, none⟩) hRT (.int .i64 t.l)).far (p := ⟨gR + 1, 3, none⟩) hRT (.int .i64 t.p)).far (p := ⟨gR + 1, 4, none⟩) hRT (.int .i64 t.f)
  have kT := grown_set5 (g := gR + 1) kk (by omega) (.int .i64 t.e) (.int .i64 t.v) (.int .i64 t.l) (.int .i64 t.p) (.int .i64 t.f)
  have heT := he.grown (grown_drew kT) (by simp)
  clear hT hR he1 kk
  go_wp2_with fail
  generalize (((((w1.setCell ⟨gR + 1, 0, none⟩ (.int .i64 t.e)).setCell ⟨gR + 1, 1, none⟩ (.int .i64 t.v)).setCell ⟨gR + 1, 2, none⟩ (.int .i64 t.l)).setCell ⟨gR + 1, 3, none⟩ (.int .i64 t.p)).setCell ⟨gR + 1, 4, none⟩ (.int .i64 t.f)) = w2 at *
  clear t0 t1 t2 t3 t4 ft0 ft1 ft2 ft3 ft4
  have u0 := hT5.cell 0
  have u1 := hT5.cell 1
  have u2 := hT5.cell 2
  have u3 := hT5.cell 3
  have u4 := hT5.cell 4
  simp at u0 u1 u2 u3 u4
  go_region_with (first
      | (go_at_call 17; refine (num_is _ B E heT n hn).mono ?_; rintro en w3 ⟨rfl, k3⟩; have hR6 := (hR5.drew).grown k3 (by simp); have k4 := grown_trans (grown_drew kT) k3; have r0 := hR6.cell 0; have r1 := hR6.cell 1; have r2 := hR6.cell 2; have r3 := hR6.cell 3; have r4 := hR6.cell 4; have f0 := hR6.frozen 0; have f1 := hR6.frozen 1; have f2 := hR6.frozen 2; have f3 := hR6.frozen 3; have f4 := hR6.frozen 4; have z0 := k3.cell u0 (by simp); have z1 := k3.cell u1 (by simp); have z2 := k3.cell u2 (by simp); have z3 := k3.cell u3 (by simp); have z4 := k3.cell u4 (by simp); simp at r0 r1 r2 r3 r4))
  all_goals
    go_wp2
    refine bodyPost_ret (results_cell_tmp rfl _ _ _ ⟨gR, 0, none⟩ _ rfl (load5 (hR6.set5 _ _ _ _ _))) rfl ?_
    exact ⟨rfl, grown_set5 k4 (by omega) _ _ _ _ _⟩

set_option maxHeartbeats 4000000 in
theorem do_2 (w : World) (B : Nat) (E : Nat → Addr) (he : ErrEnv w B E) (s : St) (ep r q g : Int) (t : St) (n : Nat) (hn : n ≤ 18)
    (hc : ∀ w', ErrEnv w' B E → Calls Tryd.prog 23 #[s.val, .int .i64 ep, .int .i64 r] w' fun en w'' => en = .returned (.tuple #[t.val, evOf E n]) ∧ w'.grownBy w'' none) :
    Calls Tryd.prog 11 #[s.val, (⟨2, ep, r, q, g⟩ : Stp).val] w fun en w' => en = .returned (.tuple #[t.val, .int .i64 (n : Int)]) ∧ w.grownBy w' none := by
  have ka := grown_trans (grown_trans (grown_trans (World.grownBy_alloc w (.cells (stC s.e s.v s.l s.p s.f) 23) none) (World.grownBy_alloc _ (.cells #[.int .i64 2, .int .i64 ep, .int .i64 r, .int .i64 q, .int .i64 g] 25) none)) (World.grownBy_alloc _ (.cells (stC 0 0 0 0 0) 23) none)) (World.grownBy_alloc _ (.cells (stC 0 0 0 0 0) 23) none)
  go_enter Tryd.func11, Tryd.ntmps11
  go_wp2_with fail
  refine (hc _ (he.grown ka (by simp))).mono ?_
  rintro en w1 ⟨rfl, k1⟩
  have kk := grown_trans ka k1
  have he1 := he.grown kk (by simp)
  have hR := (((Blk.new ((w.alloc (.cells (stC s.e s.v s.l s.p s.f) 23)).alloc (.cells #[.int .i64 2, .int .i64 ep, .int .i64 r, .int .i64 q, .int .i64 g] 25)) 23 (stC 0 0 0 0 0)).alloc (.cells (stC 0 0 0 0 0) 23)).grown k1 (by simp))
  have hT := (Blk.new (((w.alloc (.cells (stC s.e s.v s.l s.p s.f) 23)).alloc (.cells #[.int .i64 2, .int .i64 ep, .int .i64 r, .int .i64 q, .int .i64 g] 25)).alloc (.cells (stC 0 0 0 0 0) 23)) 23 (stC 0 0 0 0 0)).grown k1 (by simp)
  simp only [World.size_alloc] at hR hT
  clear ka hc k1
  generalize hgR : w.heap.size + 1 + 1 = gR at *
  have hRT : ¬ gR = gR + 1 := by omega
  have hTR : ¬ gR + 1 = gR := by omega
  have t0 := hT.cell 0
  have t1 := hT.cell 1
  have t2 := hT.cell 2
  have t3 := hT.cell 3
  have t4 := hT.cell 4
  have ft0 := hT.frozen 0
  have ft1 := hT.frozen 1
  have ft2 := hT.frozen 2
  have ft3 := hT.frozen 3
  have ft4 := hT.frozen 4
  simp at t0 t1 t2 t3 t4
  have hT5 := hT.set5 (.int .i64 t.e) (.int .i64 t.v) (.int .i64 t.l) (.int .i64 t.p) (.int .i64 t.f)
  have hR5 := ((((hR.far (p := ⟨gR + 1, 0, none⟩) hRT (.int .i64 t.e)).far (p := ⟨gR + 1, 1, none⟩) hRT (.int .i64 t.v)).far (p := ⟨gR + 1, 2, none⟩) hRT (.int .i64 t.l)).far (p := ⟨gR + 1, 3, none⟩) hRT (.int .i64 t.p)).far (p := ⟨gR + 1, 4, none⟩) hRT (.int .i64 t.f)
  have kT := grown_set5 (g := gR + 1) kk (by omega) (.int .i64 t.e) (.int .i64 t.v) (.int .i64 t.l) (.int .i64 t.p) (.int .i64 t.f)
  have heT := he.grown (grown_drew kT) (by simp)
  clear hT hR he1 kk
  go_wp2_with fail
  generalize (((((w1.setCell ⟨gR + 1, 0, none⟩ (.int .i64 t.e)).setCell ⟨gR + 1, 1, none⟩ (.int .i64 t.v)).setCell ⟨gR + 1, 2, none⟩ (.int .i64 t.l)).setCell ⟨gR + 1, 3, none⟩ (.int .i64 t.p)).setCell ⟨gR + 1, 4, none⟩ (.int .i64 t.f)) = w2 at *
  clear t0 t1 t2 t3 t4 ft0 ft1 ft2 ft3 ft4
  have u0 := hT5.cell 0
  have u1 := hT5.cell 1
  have u2 := hT5.cell 2
  have u3 := hT5.cell 3
  have u4 := hT5.cell 4
  simp at u0 u1 u2 u3 u4
  go_region_with (first
      | (go_at_call 17; refine (num_is _ B E heT n hn).mono ?_; rintro en w3 ⟨rfl, k3⟩; have hR6 := (hR5.drew).grown k3 (by simp); have k4 := grown_trans (grown_drew kT) k3; have r0 := hR6.cell 0; have r1 := hR6.cell 1; have r2 := hR6.cell 2; have r3 := hR6.cell 3; have r4 := hR6.cell 4; have f0 := hR6.frozen 0; have f1 := hR6.frozen 1; have f2 := hR6.frozen 2; have f3 := hR6.frozen 3; have f4 := hR6.frozen 4; have z0 := k3.cell u0 (by simp); have z1 := k3.cell u1 (by simp); have z2 := k3.cell u2 (by simp); have z3 := k3.cell u3 (by simp); have z4 := k3.cell u4 (by simp); simp at r0 r1 r2 r3 r4))
  all_goals
    go_wp2
    refine bodyPost_ret (results_cell_tmp rfl _ _ _ ⟨gR, 0, none⟩ _ rfl (load5 (hR6.set5 _ _ _ _ _))) rfl ?_
    exact ⟨rfl, grown_set5 k4 (by omega) _ _ _ _ _⟩

set_option maxHeartbeats 4000000 in
theorem do_3 (w : World) (B : Nat) (E : Nat → Addr) (he : ErrEnv w B E) (s : St) (ep r q g : Int) (t : St) (n : Nat) (hn : n ≤ 18)
    (hc : ∀ w', ErrEnv w' B E → Calls Tryd.prog 24 #[s.val, .int .i64 ep, .int .i64 r] w' fun en w'' => en = .returned (.tuple #[t.val, evOf E n]) ∧ w'.grownBy w'' none) :
    Calls Tryd.prog 11 #[s.val, (⟨3, ep, r, q, g⟩ : Stp).val] w fun en w' => en = .returned (.tuple #[t.val, .int .i64 (n : Int)]) ∧ w.grownBy w' none := by
  have ka := grown_trans (grown_trans (grown_trans (World.grownBy_alloc w (.cells (stC s.e s.v s.l s.p s.f) 23) none) (World.grownBy_alloc _ (.cells #[.int .i64 3, .int .i64 ep, .int .i64 r, .int .i64 q, .int .i64 g] 25) none)) (World.grownBy_alloc _ (.cells (stC 0 0 0 0 0) 23) none)) (World.grownBy_alloc _ (.cells (stC 0 0 0 0 0) 23) none)
  go_enter Tryd.func11, Tryd.ntmps11
  go_wp2_with fail
  refine (hc _ (he.grown ka (by simp))).mono ?_
  rintro en w1 ⟨rfl, k1⟩
  have kk := grown_trans ka k1
  have he1 := he.grown kk (by simp)
  have hR := (((Blk.new ((w.alloc (.cells (stC s.e s.v s.l s.p s.f) 23)).alloc (.cells #[.int .i64 3, .int .i64 ep, .int .i64 r, .int .i64 q, .int .i64 g] 25)) 23 (stC 0 0 0 0 0)).alloc (.cells (stC 0 0 0 0 0) 23)).grown k1 (by simp))
  have hT := (Blk.new (((w.alloc (.cells (stC s.e s.v s.l s.p s.f) 23)).alloc (.cells #[.int .i64 3, .int .i64 ep, .int .i64 r, .int .i64 q, .int .i64 g] 25)).alloc (.cells (stC 0 0 0 0 0) 23)) 23 (stC 0 0 0 0 0)).grown k1 (by simp)
  simp only [World.size_alloc] at hR hT
  clear ka hc k1
  generalize hgR : w.heap.size + 1 + 1 = gR at *
  have hRT : ¬ gR = gR + 1 := by omega
  have hTR : ¬ gR + 1 = gR := by omega
  have t0 := hT.cell 0
  have t1 := hT.cell 1
  have t2 := hT.cell 2
  have t3 := hT.cell 3
  have t4 := hT.cell 4
  have ft0 := hT.frozen 0
  have ft1 := hT.frozen 1
  have ft2 := hT.frozen 2
  have ft3 := hT.frozen 3
  have ft4 := hT.frozen 4
  simp at t0 t1 t2 t3 t4
  have hT5 := hT.set5 (.int .i64 t.e) (.int .i64 t.v) (.int .i64 t.l) (.int .i64 t.p) (.int .i64 t.f)
  have hR5 := ((((hR.far (p := ⟨gR + 1, 0, none⟩) hRT (.int .i64 t.e)).far (p := ⟨gR + 1, 1, none⟩) hRT (.int .i64 t.v)).far (p := ⟨gR + 1, 2, none⟩) hRT (.int .i64 t.l)).far (p := ⟨gR + 1, 3, none⟩) hRT (.int .i64 t.p)).far (p := ⟨gR + 1, 4, none⟩) hRT (.int .i64 t.f)
  have kT := grown_set5 (g := gR + 1) kk (by omega) (.int .i64 t.e) (.int .i64 t.v) (.int .i64 t.l) (.int .i64 t.p) (.int .i64 t.f)
  have heT := he.grown (grown_drew kT) (by simp)
  clear hT hR he1 kk
  go_wp2_with fail
  generalize (((((w1.setCell ⟨gR + 1, 0, none⟩ (.int .i64 t.e)).setCell ⟨gR + 1, 1, none⟩ (.int .i64 t.v)).setCell ⟨gR + 1, 2, none⟩ (.int .i64 t.l)).setCell ⟨gR + 1, 3, none⟩ (.int .i64 t.p)).setCell ⟨gR + 1, 4, none⟩ (.int .i64 t.f)) = w2 at *
  clear t0 t1 t2 t3 t4 ft0 ft1 ft2 ft3 ft4
  have u0 := hT5.cell 0
  have u1 := hT5.cell 1
  have u2 := hT5.cell 2
  have u3 := hT5.cell 3
  have u4 := hT5.cell 4
  simp at u0 u1 u2 u3 u4
  go_region_with (first
      | (go_at_call 17; refine (num_is _ B E heT n hn).mono ?_; rintro en w3 ⟨rfl, k3⟩; have hR6 := (hR5.drew).grown k3 (by simp); have k4 := grown_trans (grown_drew kT) k3; have r0 := hR6.cell 0; have r1 := hR6.cell 1; have r2 := hR6.cell 2; have r3 := hR6.cell 3; have r4 := hR6.cell 4; have f0 := hR6.frozen 0; have f1 := hR6.frozen 1; have f2 := hR6.frozen 2; have f3 := hR6.frozen 3; have f4 := hR6.frozen 4; have z0 := k3.cell u0 (by simp); have z1 := k3.cell u1 (by simp); have z2 := k3.cell u2 (by simp); have z3 := k3.cell u3 (by simp); have z4 := k3.cell u4 (by simp); simp at r0 r1 r2 r3 r4))
  all_goals
    go_wp2
    refine bodyPost_ret (results_cell_tmp rfl _ _ _ ⟨gR, 0, none⟩ _ rfl (load5 (hR6.set5 _ _ _ _ _))) rfl ?_
    exact ⟨rfl, grown_set5 k4 (by omega) _ _ _ _ _⟩

set_option maxHeartbeats 4000000 in
theorem do_4 (w : World) (B : Nat) (E : Nat → Addr) (he : ErrEnv w B E) (s : St) (ep r q g : Int) (t : St) (n : Nat) (hn : n ≤ 18)
    (hc : ∀ w', ErrEnv w' B E → Calls Tryd.prog 25 #[s.val, .int .i64 ep] w' fun en w'' => en = .returned (.tuple #[t.val, evOf E n]) ∧ w'.grownBy w'' none) :
    Calls Tryd.prog 11 #[s.val, (⟨4, ep, r, q, g⟩ : Stp).val] w fun en w' => en = .returned (.tuple #[t.val, .int .i64 (n : Int)]) ∧ w.grownBy w' none := by
  have ka := grown_trans (grown_trans (grown_trans (World.grownBy_alloc w (.cells (stC s.e s.v s.l s.p s.f) 23) none) (World.grownBy_alloc _ (.cells #[.int .i64 4, .int .i64 ep, .int .i64 r, .int .i64 q, .int .i64 g] 25) none)) (World.grownBy_alloc _ (.cells (stC 0 0 0 0 0) 23) none)) (World.grownBy_alloc _ (.cells (stC 0 0 0 0 0) 23) none)
  go_enter Tryd.func11, Tryd.ntmps11
  go_wp2_with fail
  refine (hc _ (he.grown ka (by simp))).mono ?_
  rintro en w1 ⟨rfl, k1⟩
  have kk := grown_trans ka k1
  have he1 := he.grown kk (by simp)
  have hR := (((Blk.new ((w.alloc (.cells (stC s.e s.v s.l s.p s.f) 23)).alloc (.cells #[.int .i64 4, .int .i64 ep, .int .i64 r, .int .i64 q, .int .i64 g] 25)) 23 (stC 0 0 0 0 0)).alloc (.cells (stC 0 0 0 0 0) 23)).grown k1 (by simp))
  have hT := (Blk.new (((w.alloc (.cells (stC s.e s.v s.l s.p s.f) 23)).alloc (.cells #[.int .i64 4, .int .i64 ep, .int .i64 r, .int .i64 q, .int .i64 g] 25)).alloc (.cells (stC 0 0 0 0 0) 23)) 23 (stC 0 0 0 0 0)).grown k1 (by simp)
  simp only [World.size_alloc] at hR hT
  clear ka hc k1
  generalize hgR : w.heap.size + 1 + 1 = gR at *
  have hRT : ¬ gR = gR + 1 := by omega
  have hTR : ¬ gR + 1 = gR := by omega
  have t0 := hT.cell 0
  have t1 := hT.cell 1
  have t2 := hT.cell 2
  have t3 := hT.cell 3
  have t4 := hT.cell 4
  have ft0 := hT.frozen 0
  have ft1 := hT.frozen 1
  have ft2 := hT.frozen 2
  have ft3 := hT.frozen 3
  have ft4 := hT.frozen 4
  simp at t0 t1 t2 t3 t4
  have hT5 := hT.set5 (.int .i64 t.e) (.int .i64 t.v) (.int .i64 t.l) (.int .i64 t.p) (.int .i64 t.f)
  have hR5 := ((((hR.far (p := ⟨gR + 1, 0, none⟩) hRT (.int .i64 t.e)).far (p := ⟨gR + 1, 1, none⟩) hRT (.int .i64 t.v)).far (p := ⟨gR + 1, 2, none⟩) hRT (.int .i64 t.l)).far (p := ⟨gR + 1, 3, none⟩) hRT (.int .i64 t.p)).far (p := ⟨gR + 1, 4, none⟩) hRT (.int .i64 t.f)
  have kT := grown_set5 (g := gR + 1) kk (by omega) (.int .i64 t.e) (.int .i64 t.v) (.int .i64 t.l) (.int .i64 t.p) (.int .i64 t.f)
  have heT := he.grown (grown_drew kT) (by simp)
  clear hT hR he1 kk
  go_wp2_with fail
  generalize (((((w1.setCell ⟨gR + 1, 0, none⟩ (.int .i64 t.e)).setCell ⟨gR + 1, 1, none⟩ (.int .i64 t.v)).setCell ⟨gR + 1, 2, none⟩ (.int .i64 t.l)).setCell ⟨gR + 1, 3, none⟩ (.int .i64 t.p)).setCell ⟨gR + 1, 4, none⟩ (.int .i64 t.f)) = w2 at *
  clear t0 t1 t2 t3 t4 ft0 ft1 ft2 ft3 ft4
  have u0 := hT5.cell 0
  have u1 := hT5.cell 1
  have u2 := hT5.cell 2
  have u3 := hT5.cell 3
  have u4 := hT5.cell 4
  simp at u0 u1 u2 u3 u4
  go_region_with (first
      | (go_at_call 17; refine (num_is _ B E heT n hn).mono ?_; rintro en w3 ⟨rfl, k3⟩; have hR6 := (hR5.drew).grown k3 (by simp); have k4 := grown_trans (grown_drew kT) k3; have r0 := hR6.cell 0; have r1 := hR6.cell 1; have r2 := hR6.cell 2; have r3 := hR6.cell 3; have r4 := hR6.cell 4; have f0 := hR6.frozen 0; have f1 := hR6.frozen 1; have f2 := hR6.frozen 2; have f3 := hR6.frozen 3; have f4 := hR6.frozen 4; have z0 := k3.cell u0 (by simp); have z1 := k3.cell u1 (by simp); have z2 := k3.cell u2 (by simp); have z3 := k3.cell u3 (by simp); have z4 := k3.cell u4 (by simp); simp at r0 r1 r2 r3 r4))
  all_goals
    go_wp2
    refine bodyPost_ret (results_cell_tmp rfl _ _ _ ⟨gR, 0, none⟩ _ rfl (load5 (hR6.set5 _ _ _ _ _))) rfl ?_
    exact ⟨rfl, grown_set5 k4 (by omega) _ _ _ _ _⟩

set_option maxHeartbeats 1000000 in
theorem do_0 (w : World) (s : St) (k ep r q g : Int) (h1 : (k == 1) = false) (h2 : (k == 2) = false) (h3 : (k == 3) = false) (h4 : (k == 4) = false) :
    Calls Tryd.prog 11 #[s.val, (⟨k, ep, r, q, g⟩ : Stp).val] w fun en w' => en = .returned (.tuple #[s.val, .int .i64 0]) ∧ w.grownBy w' none := by
  have ka := grown_trans (grown_trans (grown_trans (World.grownBy_alloc w (.cells (stC s.e s.v s.l s.p s.f) 23) none) (World.grownBy_alloc _ (.cells #[.int .i64 k, .int .i64 ep, .int .i64 r, .int .i64 q, .int .i64 g] 25) none)) (World.grownBy_alloc _ (.cells (stC s.e s.v s.l s.p s.f) 23) none)) (World.grownBy_alloc _ (.cells (stC 0 0 0 0 0) 23) none)
  have hR := (Blk.new ((w.alloc (.cells (stC s.e s.v s.l s.p s.f) 23)).alloc (.cells #[.int .i64 k, .int .i64 ep, .int .i64 r, .int .i64 q, .int .i64 g] 25)) 23 (stC s.e s.v s.l s.p s.f)).alloc (.cells (stC 0 0 0 0 0) 23)
  simp only [World.size_alloc] at hR
  go_enter Tryd.func11, Tryd.ntmps11
  go_wp2
  refine bodyPost_ret (results_cell_tmp rfl _ _ _ ⟨w.heap.size + 1 + 1, 0, none⟩ _ rfl (load5 hR)) rfl ?_
  exact ⟨rfl, ka⟩

theorem do_is (w : World) (B : Nat) (E : Nat → Addr) (he : ErrEnv w B E) (s : St) (x : Stp) :
    Calls Tryd.prog 11 #[s.val, x.val] w fun en w' => en = .returned (.tuple #[(stepR s x).val, .int .i64 (stepE s x : Nat)]) ∧ w.grownBy w' none := by
  obtain ⟨k, ep, r, q, g⟩ := x
  by_cases h1 : k = 1
  · subst h1
    exact do_1 w B E he s ep r q g (voteR s ⟨1, ep, r, q, g⟩) _ voteE_le (fun w' he' => vote_is w' B E he' s ⟨1, ep, r, q, g⟩)
  · by_cases h2 : k = 2
    · subst h2
      exact do_2 w B E he s ep r q g (lateR s ⟨2, ep, r, q, g⟩) _ lateE_le (fun w' he' => late_is w' B E he' s ⟨2, ep, r, q, g⟩)
    · by_cases h3 : k = 3
      · subst h3
        exact do_3 w B E he s ep r q g (propR s ⟨3, ep, r, q, g⟩) _ propE_le (fun w' he' => prop_is w' B E he' s ⟨3, ep, r, q, g⟩)
      · by_cases h4 : k = 4
        · subst h4
          exact do_4 w B E he s ep r q g (enterR s ⟨4, ep, r, q, g⟩) _ enterE_le (fun w' he' => enter_is' w' B E he' s ⟨4, ep, r, q, g⟩)
        · refine (do_0 w s k ep r q g (by simpa using h1) (by simpa using h2) (by simpa using h3) (by simpa using h4)).mono fun en w' ⟨e1, e2⟩ => ⟨?_, e2⟩
          rw [e1]
          simp [stepR, stepE, h1, h2, h3, h4]
end Go.Proofs.YtjmdlpefacbmmaaDoor
