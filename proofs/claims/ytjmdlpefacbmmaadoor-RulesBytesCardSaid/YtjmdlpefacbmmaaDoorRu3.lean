/-
  Package rules: Vote.
-/
import Derived.Test.YtjmdlpefacbmmaaDoorRu2
namespace Go.Proofs.YtjmdlpefacbmmaaDoor
open Go.RowKit

theorem check_ok (w : World) (B : Nat) (E : Nat → Addr) (he : ErrEnv w B E) (e v l p f ep r : Int) (h : chkN e v l p f ep r = 0) :
    Calls Tryd.prog 41 #[stV e v l p f, .int .i64 ep, .int .i64 r] w fun en w' => en = .returned .nilIface ∧ w.grownBy w' none :=
  (check_is w B E he e v l p f ep r).mono fun en w' ⟨h1, h2⟩ => ⟨by rw [h1, h]; rfl, h2⟩
theorem check_bad (w : World) (B : Nat) (E : Nat → Addr) (he : ErrEnv w B E) (e v l p f ep r : Int) (k : Nat) (h : chkN e v l p f ep r = k + 1) :
    Calls Tryd.prog 41 #[stV e v l p f, .int .i64 ep, .int .i64 r] w fun en w' => en = .returned (errV (E k)) ∧ w.grownBy w' none :=
  (check_is w B E he e v l p f ep r).mono fun en w' ⟨h1, h2⟩ => ⟨by rw [h1, h]; rfl, h2⟩


theorem load5 {w : World} {g : Nat} {x0 x1 x2 x3 x4 : Value} (h : Blk w g 23 #[x0, x1, x2, x3, x4]) : (loadVar 23 ⟨g, 0, none⟩).run Tryd.prog w = .ok (.agg #[x0, x1, x2, x3, x4]) w := by
  have c0 := h.cell 0
  have c1 := h.cell 1
  have c2 := h.cell 2
  have c3 := h.cell 3
  have c4 := h.cell 4
  simp at c0 c1 c2 c3 c4
  clear h
  go_simp
theorem Blk.set5 {w : World} {g : Nat} {t : TypeId} {y0 y1 y2 y3 y4 : Value} (h : Blk w g t #[y0, y1, y2, y3, y4]) (x0 x1 x2 x3 x4 : Value) :
    Blk (((((w.setCell ⟨g, 0, none⟩ x0).setCell ⟨g, 1, none⟩ x1).setCell ⟨g, 2, none⟩ x2).setCell ⟨g, 3, none⟩ x3).setCell ⟨g, 4, none⟩ x4) g t #[x0, x1, x2, x3, x4] := by
  have := ((((h.set 0 x0).set 1 x1).set 2 x2).set 3 x3).set 4 x4
  simpa using this
theorem grown_set5 {w w1 : World} (hg : w.grownBy w1 none) {g : Nat} (hB : w.heap.size ≤ g) (x0 x1 x2 x3 x4 : Value) :
    w.grownBy (((((w1.setCell ⟨g, 0, none⟩ x0).setCell ⟨g, 1, none⟩ x1).setCell ⟨g, 2, none⟩ x2).setCell ⟨g, 3, none⟩ x3).setCell ⟨g, 4, none⟩ x4) none :=
  ((((((Kept.of_grown (F := fun _ => False) hg (fun _ h => by cases h)).set (p := ⟨g, 0, none⟩) (.inr hB) _).set (p := ⟨g, 1, none⟩) (.inr hB) _).set (p := ⟨g, 2, none⟩) (.inr hB) _).set (p := ⟨g, 3, none⟩) (.inr hB) _).set (p := ⟨g, 4, none⟩) (.inr hB) _).grownNone (fun _ _ h => h)


theorem spend_bad (w : World) (B : Nat) (E : Nat → Addr) (he : ErrEnv w B E) (g : Nat) (e v l p f : Int) (hb : Blk w g 23 (stC e v l p f)) (h : (f == 32) = true) :
    Calls Tryd.prog 42 #[.pointer (some ⟨g, 0, none⟩)] w fun en w' => en = .returned (errV (E 4)) ∧ w.grownBy w' (some g) := by
  have c4 := hb.cell 4
  have gv := he.spent
  simp at c4
  clear hb
  go_enter Tryd.func42, Tryd.ntmps42
  go_wp2
  go_ret
  exact ⟨rfl, World.grownBy.refl _ _⟩
theorem spend_ok (w : World) (g : Nat) (e v l p f : Int) (hb : Blk w g 23 (stC e v l p f)) (h : (f == 32) = false) (hf : 0 ≤ f ∧ f ≤ 32) :
    Calls Tryd.prog 42 #[.pointer (some ⟨g, 0, none⟩)] w fun en w' => en = .returned .nilIface ∧ Blk w' g 23 (stC e v l p (f + 1)) ∧ w.grownBy w' (some g) := by
  have c4 := hb.cell 4
  have f4 := hb.frozen 4
  have hs := hb.set 4 (.int .i64 (f + 1))
  have hw : wrap64 (f + 1) = f + 1 := by unfold wrap64; omega
  simp at c4
  clear hb hf
  go_enter Tryd.func42, Tryd.ntmps42
  go_wp2
  go_ret
  rw [hw]
  refine ⟨rfl, by simpa using hs, (Kept.refl (fun k => k = g) w).set (.inl rfl) _ |>.os, rfl, rfl, ?_, ?_⟩
  · simp [World.setCell]
  · exact fun k _ hne => Below.heap_setCell w ⟨g, 4, none⟩ _ k (fun e => hne (by rw [e]))

theorem far_var {w : World} {g : Nat} {v : Value} (h : w.cell? ⟨g, 0, none⟩ = some v) : ¬ g = w.heap.size + 1 := by
  have := World.block_lt_of_cell? w _ h
  simp only at this
  omega

def voteE (e v l p f ep r q : Int) : Nat :=
  if chkN e v l p f ep r ≠ 0 then chkN e v l p f ep r else if q < 0 ∨ r ≤ q then 14 else if r ≤ v then 10 else if q < l then 15 else if f = 32 then 5 else 0
def voteL (l q g : Int) : Int := if g ≤ q ∧ l < g then g else l

theorem voteE_eq {e v l p f ep r q : Int} (h : chkN e v l p f ep r = 0) : voteE e v l p f ep r q = if q < 0 ∨ r ≤ q then 14 else if r ≤ v then 10 else if q < l then 15 else if f = 32 then 5 else 0 := by simp [voteE, h]
theorem grown_set1 {w w1 : World} (hg : w.grownBy w1 none) {g i : Nat} (hB : w.heap.size ≤ g) (x : Value) : w.grownBy (w1.setCell ⟨g, i, none⟩ x) none :=
  ((Kept.of_grown (F := fun _ => False) hg (fun _ h => by cases h)).set (p := ⟨g, i, none⟩) (.inr hB) _).grownNone (fun _ _ h => h)

/-- The ways through Vote behind check. -/
theorem vote_ways (v l f r q : Int) :
    (decide (q < 0) = true) ∨ (decide (q < 0) = false ∧ decide (r ≤ q) = true) ∨
    (decide (q < 0) = false ∧ decide (r ≤ q) = false ∧ decide (r ≤ v) = true) ∨
    (decide (q < 0) = false ∧ decide (r ≤ q) = false ∧ decide (r ≤ v) = false ∧ decide (q < l) = true) ∨
    (decide (q < 0) = false ∧ decide (r ≤ q) = false ∧ decide (r ≤ v) = false ∧ decide (q < l) = false ∧ (f == 32) = true) ∨
    (decide (q < 0) = false ∧ decide (r ≤ q) = false ∧ decide (r ≤ v) = false ∧ decide (q < l) = false ∧ (f == 32) = false) := by
  simp only [decide_eq_true_eq, decide_eq_false_iff_not, beq_iff_eq, beq_eq_false_iff_ne, ne_eq]
  omega

set_option maxHeartbeats 1000000 in
theorem vote_chk (w : World) (B : Nat) (E : Nat → Addr) (he : ErrEnv w B E) (e v l p f ep r q g : Int) (k : Nat) (h : chkN e v l p f ep r = k + 1) :
    Calls Tryd.prog 22 #[stV e v l p f, .int .i64 ep, .int .i64 r, .int .i64 q, .int .i64 g] w fun en w' => en = .returned (.tuple #[stV e v l p f, errV (E k)]) ∧ w.grownBy w' none := by
  have ka := World.grownBy_alloc w (.cells (stC e v l p f) 23) none
  have kb := grown_trans ka (World.grownBy_alloc _ (.cells (stC 0 0 0 0 0) 23) none)
  have hA := (Blk.new w 23 (stC e v l p f)).alloc (.cells (stC 0 0 0 0 0) 23)
  have hB := Blk.new (w.alloc (.cells (stC e v l p f) 23)) 23 (stC 0 0 0 0 0)
  rw [World.size_alloc] at hB
  go_enter Tryd.func22, Tryd.ntmps22
  go_wp2_with fail
  refine (check_bad _ B E (he.grown kb (by simp)) _ _ _ _ _ _ _ k h).mono ?_
  rintro en w1 ⟨rfl, k1⟩
  have hA1 := hA.grown k1 (by simp)
  have hB1 := hB.grown k1 (by simp)
  have a0 := hA1.cell 0
  have a1 := hA1.cell 1
  have a2 := hA1.cell 2
  have a3 := hA1.cell 3
  have a4 := hA1.cell 4
  have b0 := hB1.cell 0
  have b1 := hB1.cell 1
  have b2 := hB1.cell 2
  have b3 := hB1.cell 3
  have b4 := hB1.cell 4
  have f0 := hB1.frozen 0
  have f1 := hB1.frozen 1
  have f2 := hB1.frozen 2
  have f3 := hB1.frozen 3
  have f4 := hB1.frozen 4
  simp at a0 a1 a2 a3 a4 b0 b1 b2 b3 b4
  have kk := grown_trans kb k1
  clear hA hB hA1 k1
  go_wp2_with fail
  refine bodyPost_ret (results_cell_tmp rfl _ _ _ ⟨w.heap.size + 1, 0, none⟩ _ rfl (load5 (hB1.set5 _ _ _ _ _))) rfl ?_
  exact ⟨rfl, grown_set5 kk (by omega) _ _ _ _ _⟩

set_option maxHeartbeats 4000000 in
theorem vote_rest (w : World) (B : Nat) (E : Nat → Addr) (he : ErrEnv w B E) (e v l p f ep r q g : Int) (h : chkN e v l p f ep r = 0) :
    Calls Tryd.prog 22 #[stV e v l p f, .int .i64 ep, .int .i64 r, .int .i64 q, .int .i64 g] w fun en w' => en = .returned (.tuple #[if voteE e v l p f ep r q = 0 then stV e r (voteL l q g) p (f + 1) else stV e v l p f, evOf E (voteE e v l p f ep r q)]) ∧ w.grownBy w' none := by
  have ka := World.grownBy_alloc w (.cells (stC e v l p f) 23) none
  have kb := grown_trans ka (World.grownBy_alloc _ (.cells (stC 0 0 0 0 0) 23) none)
  have hA := (Blk.new w 23 (stC e v l p f)).alloc (.cells (stC 0 0 0 0 0) 23)
  have hB := Blk.new (w.alloc (.cells (stC e v l p f) 23)) 23 (stC 0 0 0 0 0)
  rw [World.size_alloc] at hB
  rcases vote_ways v l f r q with d | ⟨d, d1⟩ | ⟨d, d1, d2⟩ | ⟨d, d1, d2, d3⟩ | ⟨d, d1, d2, d3, d4⟩ | ⟨d, d1, d2, d3, d4⟩
  · have hv : voteE e v l p f ep r q = 14 := by rw [voteE_eq h]; simp at d; rw [if_pos (.inl d)]
    go_enter Tryd.func22, Tryd.ntmps22
    go_wp2_with fail
    refine (check_ok _ B E (he.grown kb (by simp)) _ _ _ _ _ _ _ h).mono ?_
    rintro en w1 ⟨rfl, k1⟩
    have gv := ((he.grown kb (by simp)).grown k1 (by simp)).round
    have n13 : ¬ 13 = w.heap.size + 1 := far_var he.round
    have m13 : ¬ w.heap.size + 1 = 13 := fun e => n13 e.symm
    have hA1 := hA.grown k1 (by simp)
    have hB1 := hB.grown k1 (by simp)
    have a0 := hA1.cell 0
    have a1 := hA1.cell 1
    have a2 := hA1.cell 2
    have a3 := hA1.cell 3
    have a4 := hA1.cell 4
    have b0 := hB1.cell 0
    have b1 := hB1.cell 1
    have b2 := hB1.cell 2
    have b3 := hB1.cell 3
    have b4 := hB1.cell 4
    have f0 := hB1.frozen 0
    have f1 := hB1.frozen 1
    have f2 := hB1.frozen 2
    have f3 := hB1.frozen 3
    have f4 := hB1.frozen 4
    simp at a0 a1 a2 a3 a4 b0 b1 b2 b3 b4
    have kk := grown_trans kb k1
    clear hA hB hA1 k1
    go_wp2_with fail
    go_region
    all_goals
      go_wp2_with fail
      refine bodyPost_ret (results_cell_tmp rfl _ _ _ ⟨w.heap.size + 1, 0, none⟩ _ rfl (load5 (hB1.set5 _ _ _ _ _).drew)) rfl ?_
      exact ⟨by first | rfl | (rw [hv]; rfl), grown_drew (grown_set5 kk (by omega) _ _ _ _ _)⟩
  · have hv : voteE e v l p f ep r q = 14 := by rw [voteE_eq h]; simp at d1; rw [if_pos (.inr d1)]
    go_enter Tryd.func22, Tryd.ntmps22
    go_wp2_with fail
    refine (check_ok _ B E (he.grown kb (by simp)) _ _ _ _ _ _ _ h).mono ?_
    rintro en w1 ⟨rfl, k1⟩
    have gv := ((he.grown kb (by simp)).grown k1 (by simp)).round
    have n13 : ¬ 13 = w.heap.size + 1 := far_var he.round
    have m13 : ¬ w.heap.size + 1 = 13 := fun e => n13 e.symm
    have hA1 := hA.grown k1 (by simp)
    have hB1 := hB.grown k1 (by simp)
    have a0 := hA1.cell 0
    have a1 := hA1.cell 1
    have a2 := hA1.cell 2
    have a3 := hA1.cell 3
    have a4 := hA1.cell 4
    have b0 := hB1.cell 0
    have b1 := hB1.cell 1
    have b2 := hB1.cell 2
    have b3 := hB1.cell 3
    have b4 := hB1.cell 4
    have f0 := hB1.frozen 0
    have f1 := hB1.frozen 1
    have f2 := hB1.frozen 2
    have f3 := hB1.frozen 3
    have f4 := hB1.frozen 4
    simp at a0 a1 a2 a3 a4 b0 b1 b2 b3 b4
    have kk := grown_trans kb k1
    clear hA hB hA1 k1
    go_wp2_with fail
    go_region
    all_goals
      go_wp2_with fail
      refine bodyPost_ret (results_cell_tmp rfl _ _ _ ⟨w.heap.size + 1, 0, none⟩ _ rfl (load5 (hB1.set5 _ _ _ _ _).drew)) rfl ?_
      exact ⟨by first | rfl | (rw [hv]; rfl), grown_drew (grown_set5 kk (by omega) _ _ _ _ _)⟩
  · have hv : voteE e v l p f ep r q = 10 := by rw [voteE_eq h]; simp at d d1 d2; rw [if_neg (by omega), if_pos d2]
    go_enter Tryd.func22, Tryd.ntmps22
    go_wp2_with fail
    refine (check_ok _ B E (he.grown kb (by simp)) _ _ _ _ _ _ _ h).mono ?_
    rintro en w1 ⟨rfl, k1⟩
    have gv := ((he.grown kb (by simp)).grown k1 (by simp)).old
    have n13 : ¬ 9 = w.heap.size + 1 := far_var he.old
    have m13 : ¬ w.heap.size + 1 = 9 := fun e => n13 e.symm
    have hA1 := hA.grown k1 (by simp)
    have hB1 := hB.grown k1 (by simp)
    have a0 := hA1.cell 0
    have a1 := hA1.cell 1
    have a2 := hA1.cell 2
    have a3 := hA1.cell 3
    have a4 := hA1.cell 4
    have b0 := hB1.cell 0
    have b1 := hB1.cell 1
    have b2 := hB1.cell 2
    have b3 := hB1.cell 3
    have b4 := hB1.cell 4
    have f0 := hB1.frozen 0
    have f1 := hB1.frozen 1
    have f2 := hB1.frozen 2
    have f3 := hB1.frozen 3
    have f4 := hB1.frozen 4
    simp at a0 a1 a2 a3 a4 b0 b1 b2 b3 b4
    have kk := grown_trans kb k1
    clear hA hB hA1 k1
    go_wp2_with fail
    go_region
    all_goals
      go_wp2_with fail
      refine bodyPost_ret (results_cell_tmp rfl _ _ _ ⟨w.heap.size + 1, 0, none⟩ _ rfl (load5 (hB1.set5 _ _ _ _ _).drew)) rfl ?_
      exact ⟨by first | rfl | (rw [hv]; rfl), grown_drew (grown_set5 kk (by omega) _ _ _ _ _)⟩
  · have hv : voteE e v l p f ep r q = 15 := by rw [voteE_eq h]; simp at d d1 d2 d3; rw [if_neg (by omega), if_neg (by omega), if_pos d3]
    go_enter Tryd.func22, Tryd.ntmps22
    go_wp2_with fail
    refine (check_ok _ B E (he.grown kb (by simp)) _ _ _ _ _ _ _ h).mono ?_
    rintro en w1 ⟨rfl, k1⟩
    have gv := ((he.grown kb (by simp)).grown k1 (by simp)).unsafeE
    have n13 : ¬ 14 = w.heap.size + 1 := far_var he.unsafeE
    have m13 : ¬ w.heap.size + 1 = 14 := fun e => n13 e.symm
    have hA1 := hA.grown k1 (by simp)
    have hB1 := hB.grown k1 (by simp)
    have a0 := hA1.cell 0
    have a1 := hA1.cell 1
    have a2 := hA1.cell 2
    have a3 := hA1.cell 3
    have a4 := hA1.cell 4
    have b0 := hB1.cell 0
    have b1 := hB1.cell 1
    have b2 := hB1.cell 2
    have b3 := hB1.cell 3
    have b4 := hB1.cell 4
    have f0 := hB1.frozen 0
    have f1 := hB1.frozen 1
    have f2 := hB1.frozen 2
    have f3 := hB1.frozen 3
    have f4 := hB1.frozen 4
    simp at a0 a1 a2 a3 a4 b0 b1 b2 b3 b4
    have kk := grown_trans kb k1
    clear hA hB hA1 k1
    go_wp2_with fail
    go_region
    all_goals
      go_wp2_with fail
      refine bodyPost_ret (results_cell_tmp rfl _ _ _ ⟨w.heap.size + 1, 0, none⟩ _ rfl (load5 (hB1.set5 _ _ _ _ _).drew)) rfl ?_
      exact ⟨by first | rfl | (rw [hv]; rfl), grown_drew (grown_set5 kk (by omega) _ _ _ _ _)⟩
  · have hv : voteE e v l p f ep r q = 5 := by rw [voteE_eq h]; simp at d d1 d2 d3 d4; rw [if_neg (by omega), if_neg (by omega), if_neg (by omega), if_pos d4]
    go_enter Tryd.func22, Tryd.ntmps22
    go_wp2_with fail
    refine (check_ok _ B E (he.grown kb (by simp)) _ _ _ _ _ _ _ h).mono ?_
    rintro en w1 ⟨rfl, k1⟩
    have he1 := (he.grown kb (by simp)).grown k1 (by simp)
    have hA1 := hA.grown k1 (by simp)
    have hB1 := hB.grown k1 (by simp)
    have a0 := hA1.cell 0
    have a1 := hA1.cell 1
    have a2 := hA1.cell 2
    have a3 := hA1.cell 3
    have a4 := hA1.cell 4
    simp at a0 a1 a2 a3 a4
    have kk := grown_trans kb k1
    have hA2 := hA1.alloc (.cells (stC e v l p f) 23)
    have hB2 := hB1.alloc (.cells (stC e v l p f) 23)
    have hC := Blk.new w1 23 (stC e v l p f)
    have kc := grown_trans kk (World.grownBy_alloc w1 (.cells (stC e v l p f) 23) none)
    have nA := hA1.lt
    have nB := hB1.lt
    have he2 := he1.alloc (.cells (stC e v l p f) 23)
    clear hA hB k1 hA1 hB1
    go_wp2_with fail
    refine (spend_bad _ B E he2 _ _ _ _ _ _ hC d4).mono ?_
    rintro en w2 ⟨rfl, k2⟩
    have hA3 := hA2.grown k2 (by simp; omega)
    have hB3 := hB2.grown k2 (by simp; omega)
    have a0 := hA3.cell 0
    have a1 := hA3.cell 1
    have a2 := hA3.cell 2
    have a3 := hA3.cell 3
    have a4 := hA3.cell 4
    have b0 := hB3.cell 0
    have b1 := hB3.cell 1
    have b2 := hB3.cell 2
    have b3 := hB3.cell 3
    have b4 := hB3.cell 4
    have f0 := hB3.frozen 0
    have f1 := hB3.frozen 1
    have f2 := hB3.frozen 2
    have f3 := hB3.frozen 3
    have f4 := hB3.frozen 4
    simp at a0 a1 a2 a3 a4 b0 b1 b2 b3 b4
    have k3 : w.grownBy w2 none := (Kept.of_grown (F := fun _ => False) kc (fun _ h => by cases h)).trans (Kept.of_grown (F := upTo (fun _ => False) w.heap.size _) k2 (fun g' e => by cases e; exact .inr ⟨by omega, by simp⟩)) |>.grownNone (fun _ _ h => h)
    clear hA2 hB2 hC kc kk k2 hA3
    go_wp2
    refine bodyPost_ret (results_cell_tmp rfl _ _ _ ⟨w.heap.size + 1, 0, none⟩ _ rfl (load5 (hB3.set5 _ _ _ _ _))) rfl ?_
    exact ⟨by first | rfl | (rw [hv]; rfl), grown_set5 k3 (by omega) _ _ _ _ _⟩
  · have hv : voteE e v l p f ep r q = 0 := by rw [voteE_eq h]; simp at d d1 d2 d3 d4; rw [if_neg (by omega), if_neg (by omega), if_neg (by omega), if_neg d4]
    have hR : rightB e v l p f = true := by
      unfold chkN at h
      split at h
      · cases h
      · simpa using ‹¬ rightB e v l p f = false›
    have hf := (right_yes e v l p f hR).2.2.2.2.2.2.2.2
    have hm : (decide (g ≤ q) = true ∧ (¬ g ≤ l) ∧ voteL l q g = g) ∨ (decide (g ≤ q) = true ∧ g ≤ l ∧ voteL l q g = l) ∨ (decide (g ≤ q) = false ∧ voteL l q g = l) := by
      simp only [decide_eq_true_eq, decide_eq_false_iff_not, voteL]
      by_cases h1 : g ≤ q
      · by_cases h2 : l < g
        · exact .inl ⟨h1, by omega, by simp [h1, h2]⟩
        · exact .inr (.inl ⟨h1, by omega, by simp [h2]⟩)
      · exact .inr (.inr ⟨h1, by simp [h1]⟩)
    rcases hm with ⟨m, m1, hl⟩ | ⟨m, m1, hl⟩ | ⟨m, hl⟩
    · go_enter Tryd.func22, Tryd.ntmps22
      go_wp2_with fail
      refine (check_ok _ B E (he.grown kb (by simp)) _ _ _ _ _ _ _ h).mono ?_
      rintro en w1 ⟨rfl, k1⟩
      have he1 := (he.grown kb (by simp)).grown k1 (by simp)
      have hA1 := hA.grown k1 (by simp)
      have hB1 := hB.grown k1 (by simp)
      have a0 := hA1.cell 0
      have a1 := hA1.cell 1
      have a2 := hA1.cell 2
      have a3 := hA1.cell 3
      have a4 := hA1.cell 4
      simp at a0 a1 a2 a3 a4
      have kk := grown_trans kb k1
      have hA2 := hA1.alloc (.cells (stC e v l p f) 23)
      have hB2 := hB1.alloc (.cells (stC e v l p f) 23)
      have hC := Blk.new w1 23 (stC e v l p f)
      have kc := grown_trans kk (World.grownBy_alloc w1 (.cells (stC e v l p f) 23) none)
      have nA := hA1.lt
      have nB := hB1.lt
      have he2 := he1.alloc (.cells (stC e v l p f) 23)
      clear hA hB k1 hA1 hB1
      go_wp2_with fail
      refine (spend_ok _ _ _ _ _ _ _ hC d4 hf).mono ?_
      rintro en w2 ⟨rfl, hC3, k2⟩
      have hA3 := hA2.grown k2 (by simp; omega)
      have hB3 := hB2.grown k2 (by simp; omega)
      have a0 := hA3.cell 0
      have a1 := hA3.cell 1
      have a2 := hA3.cell 2
      have a3 := hA3.cell 3
      have a4 := hA3.cell 4
      have b0 := hB3.cell 0
      have b1 := hB3.cell 1
      have b2 := hB3.cell 2
      have b3 := hB3.cell 3
      have b4 := hB3.cell 4
      have f0 := hB3.frozen 0
      have f1 := hB3.frozen 1
      have f2 := hB3.frozen 2
      have f3 := hB3.frozen 3
      have f4 := hB3.frozen 4
      simp at a0 a1 a2 a3 a4 b0 b1 b2 b3 b4
      have c0 := hC3.cell 0
      have c1 := hC3.cell 1
      have c2 := hC3.cell 2
      have c3 := hC3.cell 3
      have c4 := hC3.cell 4
      have fc1 := hC3.frozen 1
      have fc2 := hC3.frozen 2
      simp at c0 c1 c2 c3 c4
      have q1 : ¬ w1.heap.size = w.heap.size := by omega
      have q2 : ¬ w.heap.size = w1.heap.size := by omega
      have q3 : ¬ w1.heap.size = w.heap.size + 1 := by omega
      have q4 : ¬ w.heap.size + 1 = w1.heap.size := by omega
      have k3 : w.grownBy w2 none := (Kept.of_grown (F := fun _ => False) kc (fun _ h => by cases h)).trans (Kept.of_grown (F := upTo (fun _ => False) w.heap.size _) k2 (fun g' e => by cases e; exact .inr ⟨by omega, by simp⟩)) |>.grownNone (fun _ _ h => h)
      clear hA2 hB2 hC kc kk k2 hA3 hf hR
      go_wp2
      refine bodyPost_ret (results_cell_tmp rfl _ _ _ ⟨w.heap.size + 1, 0, none⟩ _ rfl (load5 (((hB3.far q4 _).far q4 _).set5 _ _ _ _ _))) rfl ?_
      exact ⟨by first | rfl | (rw [hv, hl]; rfl), grown_set5 (grown_set1 (grown_set1 k3 (by omega) _) (by omega) _) (by omega) _ _ _ _ _⟩
    · go_enter Tryd.func22, Tryd.ntmps22
      go_wp2_with fail
      refine (check_ok _ B E (he.grown kb (by simp)) _ _ _ _ _ _ _ h).mono ?_
      rintro en w1 ⟨rfl, k1⟩
      have he1 := (he.grown kb (by simp)).grown k1 (by simp)
      have hA1 := hA.grown k1 (by simp)
      have hB1 := hB.grown k1 (by simp)
      have a0 := hA1.cell 0
      have a1 := hA1.cell 1
      have a2 := hA1.cell 2
      have a3 := hA1.cell 3
      have a4 := hA1.cell 4
      simp at a0 a1 a2 a3 a4
      have kk := grown_trans kb k1
      have hA2 := hA1.alloc (.cells (stC e v l p f) 23)
      have hB2 := hB1.alloc (.cells (stC e v l p f) 23)
      have hC := Blk.new w1 23 (stC e v l p f)
      have kc := grown_trans kk (World.grownBy_alloc w1 (.cells (stC e v l p f) 23) none)
      have nA := hA1.lt
      have nB := hB1.lt
      have he2 := he1.alloc (.cells (stC e v l p f) 23)
      clear hA hB k1 hA1 hB1
      go_wp2_with fail
      refine (spend_ok _ _ _ _ _ _ _ hC d4 hf).mono ?_
      rintro en w2 ⟨rfl, hC3, k2⟩
      have hA3 := hA2.grown k2 (by simp; omega)
      have hB3 := hB2.grown k2 (by simp; omega)
      have a0 := hA3.cell 0
      have a1 := hA3.cell 1
      have a2 := hA3.cell 2
      have a3 := hA3.cell 3
      have a4 := hA3.cell 4
      have b0 := hB3.cell 0
      have b1 := hB3.cell 1
      have b2 := hB3.cell 2
      have b3 := hB3.cell 3
      have b4 := hB3.cell 4
      have f0 := hB3.frozen 0
      have f1 := hB3.frozen 1
      have f2 := hB3.frozen 2
      have f3 := hB3.frozen 3
      have f4 := hB3.frozen 4
      simp at a0 a1 a2 a3 a4 b0 b1 b2 b3 b4
      have c0 := hC3.cell 0
      have c1 := hC3.cell 1
      have c2 := hC3.cell 2
      have c3 := hC3.cell 3
      have c4 := hC3.cell 4
      have fc1 := hC3.frozen 1
      have fc2 := hC3.frozen 2
      simp at c0 c1 c2 c3 c4
      have q1 : ¬ w1.heap.size = w.heap.size := by omega
      have q2 : ¬ w.heap.size = w1.heap.size := by omega
      have q3 : ¬ w1.heap.size = w.heap.size + 1 := by omega
      have q4 : ¬ w.heap.size + 1 = w1.heap.size := by omega
      have k3 : w.grownBy w2 none := (Kept.of_grown (F := fun _ => False) kc (fun _ h => by cases h)).trans (Kept.of_grown (F := upTo (fun _ => False) w.heap.size _) k2 (fun g' e => by cases e; exact .inr ⟨by omega, by simp⟩)) |>.grownNone (fun _ _ h => h)
      clear hA2 hB2 hC kc kk k2 hA3 hf hR
      go_wp2
      refine bodyPost_ret (results_cell_tmp rfl _ _ _ ⟨w.heap.size + 1, 0, none⟩ _ rfl (load5 (((hB3.far q4 _).far q4 _).set5 _ _ _ _ _))) rfl ?_
      exact ⟨by first | rfl | (rw [hv, hl]; rfl), grown_set5 (grown_set1 (grown_set1 k3 (by omega) _) (by omega) _) (by omega) _ _ _ _ _⟩
    · go_enter Tryd.func22, Tryd.ntmps22
      go_wp2_with fail
      refine (check_ok _ B E (he.grown kb (by simp)) _ _ _ _ _ _ _ h).mono ?_
      rintro en w1 ⟨rfl, k1⟩
      have he1 := (he.grown kb (by simp)).grown k1 (by simp)
      have hA1 := hA.grown k1 (by simp)
      have hB1 := hB.grown k1 (by simp)
      have a0 := hA1.cell 0
      have a1 := hA1.cell 1
      have a2 := hA1.cell 2
      have a3 := hA1.cell 3
      have a4 := hA1.cell 4
      simp at a0 a1 a2 a3 a4
      have kk := grown_trans kb k1
      have hA2 := hA1.alloc (.cells (stC e v l p f) 23)
      have hB2 := hB1.alloc (.cells (stC e v l p f) 23)
      have hC := Blk.new w1 23 (stC e v l p f)
      have kc := grown_trans kk (World.grownBy_alloc w1 (.cells (stC e v l p f) 23) none)
      have nA := hA1.lt
      have nB := hB1.lt
      have he2 := he1.alloc (.cells (stC e v l p f) 23)
      clear hA hB k1 hA1 hB1
      go_wp2_with fail
      refine (spend_ok _ _ _ _ _ _ _ hC d4 hf).mono ?_
      rintro en w2 ⟨rfl, hC3, k2⟩
      have hA3 := hA2.grown k2 (by simp; omega)
      have hB3 := hB2.grown k2 (by simp; omega)
      have a0 := hA3.cell 0
      have a1 := hA3.cell 1
      have a2 := hA3.cell 2
      have a3 := hA3.cell 3
      have a4 := hA3.cell 4
      have b0 := hB3.cell 0
      have b1 := hB3.cell 1
      have b2 := hB3.cell 2
      have b3 := hB3.cell 3
      have b4 := hB3.cell 4
      have f0 := hB3.frozen 0
      have f1 := hB3.frozen 1
      have f2 := hB3.frozen 2
      have f3 := hB3.frozen 3
      have f4 := hB3.frozen 4
      simp at a0 a1 a2 a3 a4 b0 b1 b2 b3 b4
      have c0 := hC3.cell 0
      have c1 := hC3.cell 1
      have c2 := hC3.cell 2
      have c3 := hC3.cell 3
      have c4 := hC3.cell 4
      have fc1 := hC3.frozen 1
      have fc2 := hC3.frozen 2
      simp at c0 c1 c2 c3 c4
      have q1 : ¬ w1.heap.size = w.heap.size := by omega
      have q2 : ¬ w.heap.size = w1.heap.size := by omega
      have q3 : ¬ w1.heap.size = w.heap.size + 1 := by omega
      have q4 : ¬ w.heap.size + 1 = w1.heap.size := by omega
      have k3 : w.grownBy w2 none := (Kept.of_grown (F := fun _ => False) kc (fun _ h => by cases h)).trans (Kept.of_grown (F := upTo (fun _ => False) w.heap.size _) k2 (fun g' e => by cases e; exact .inr ⟨by omega, by simp⟩)) |>.grownNone (fun _ _ h => h)
      clear hA2 hB2 hC kc kk k2 hA3 hf hR
      go_wp2
      refine bodyPost_ret (results_cell_tmp rfl _ _ _ ⟨w.heap.size + 1, 0, none⟩ _ rfl (load5 ((hB3.far q4 _).set5 _ _ _ _ _))) rfl ?_
      exact ⟨by first | rfl | (rw [hv, hl]; rfl), grown_set5 (grown_set1 k3 (by omega) _) (by omega) _ _ _ _ _⟩
end Go.Proofs.YtjmdlpefacbmmaaDoor
