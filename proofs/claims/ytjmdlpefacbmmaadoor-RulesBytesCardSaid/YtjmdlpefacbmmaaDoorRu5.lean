/-
  The document's Vote and Late.
-/
import Derived.Test.YtjmdlpefacbmmaaDoorRu3
import Derived.Test.YtjmdlpefacbmmaaDoorRu4
namespace Go.Proofs.YtjmdlpefacbmmaaDoor
open Go.RowKit

theorem loadR5 {w : World} {g : Nat} {x0 x1 x2 x3 x4 : Value} (h : Blk w g 29 #[x0, x1, x2, x3, x4]) : (loadVar 29 ⟨g, 0, none⟩).run Tryd.prog w = .ok (.agg #[x0, x1, x2, x3, x4]) w := by
  have c0 := h.cell 0
  have c1 := h.cell 1
  have c2 := h.cell 2
  have c3 := h.cell 3
  have c4 := h.cell 4
  simp at c0 c1 c2 c3 c4
  clear h
  go_simp

set_option maxHeartbeats 8000000 in
theorem refVote_is (w : World) (e v l p f ep r q g : Int) :
    Calls Tryd.prog 26 #[stV e v l p f, .int .i64 ep, .int .i64 r, .int .i64 q, .int .i64 g] w fun en w' => en = .returned (.tuple #[if voteE e v l p f ep r q = 0 then stV e r (voteL l q g) p (f + 1) else stV e v l p f, .int .i64 (voteE e v l p f ep r q : Nat)]) ∧ w.grownBy w' none := by
  have ka := World.grownBy_alloc w (.cells (stC e v l p f) 29) none
  have kb := grown_trans ka (World.grownBy_alloc _ (.cells (stC 0 0 0 0 0) 29) none)
  have hA := (Blk.new w 29 (stC e v l p f)).alloc (.cells (stC 0 0 0 0 0) 29)
  have hB := Blk.new (w.alloc (.cells (stC e v l p f) 29)) 29 (stC 0 0 0 0 0)
  rw [World.size_alloc] at hB
  by_cases hR : rightB e v l p f = true
  · by_cases hep : ep = e
    · subst hep
      have hw : decide (r < (1 : Int)) = true ∨ (decide (r < (1 : Int)) = false ∧ decide ((1099511627776 : Int) < r) = true) ∨ (decide (r < (1 : Int)) = false ∧ decide ((1099511627776 : Int) < r) = false) := by
        simp only [decide_eq_true_eq, decide_eq_false_iff_not]; omega
      rcases hw with dr | ⟨dr, dr1⟩ | ⟨dr, dr1⟩
      · have hv : voteE ep v l p f ep r q = 14 := by simp at dr; have hc : chkN ep v l p f ep r = 14 := (by simp [chkN, hR, dr]); simp [voteE, hc]
        go_enter Tryd.func26, Tryd.ntmps26
        go_wp2_with fail
        refine (refRight_is _ _ _ _ _ _).mono ?_
        rintro en w1 ⟨rfl, k1⟩
        have hA1 := hA.grown k1 (by simp)
        have hB1 := hB.grown k1 (by simp)
        have a0 := hA1.cell 0
        have a1 := hA1.cell 1
        have a2 := hA1.cell 2
        have a3 := hA1.cell 3
        have a4 := hA1.cell 4
        have b0 := hB1.cell 0
        have b1 := hB1.cell 1
        have b2 := hB1.cell 2
        have b3 := hB1.cell 3
        have b4 := hB1.cell 4
        have f0 := hB1.frozen 0
        have f1 := hB1.frozen 1
        have f2 := hB1.frozen 2
        have f3 := hB1.frozen 3
        have f4 := hB1.frozen 4
        simp at a0 a1 a2 a3 a4 b0 b1 b2 b3 b4
        have kk := grown_trans kb k1
        clear hA hB hA1 k1
        go_wp2_with fail
        refine bodyPost_ret (results_cell_tmp rfl _ _ _ ⟨w.heap.size + 1, 0, none⟩ _ rfl (loadR5 (hB1.set5 _ _ _ _ _))) rfl ?_
        exact ⟨by first | rfl | (rw [hv]; rfl), grown_set5 kk (by omega) _ _ _ _ _⟩
      · have hv : voteE ep v l p f ep r q = 14 := by simp at dr1; have hc : chkN ep v l p f ep r = 14 := (by simp [chkN, hR, dr1]); simp [voteE, hc]
        go_enter Tryd.func26, Tryd.ntmps26
        go_wp2_with fail
        refine (refRight_is _ _ _ _ _ _).mono ?_
        rintro en w1 ⟨rfl, k1⟩
        have hA1 := hA.grown k1 (by simp)
        have hB1 := hB.grown k1 (by simp)
        have a0 := hA1.cell 0
        have a1 := hA1.cell 1
        have a2 := hA1.cell 2
        have a3 := hA1.cell 3
        have a4 := hA1.cell 4
        have b0 := hB1.cell 0
        have b1 := hB1.cell 1
        have b2 := hB1.cell 2
        have b3 := hB1.cell 3
        have b4 := hB1.cell 4
        have f0 := hB1.frozen 0
        have f1 := hB1.frozen 1
        have f2 := hB1.frozen 2
        have f3 := hB1.frozen 3
        have f4 := hB1.frozen 4
        simp at a0 a1 a2 a3 a4 b0 b1 b2 b3 b4
        have kk := grown_trans kb k1
        clear hA hB hA1 k1
        go_wp2_with fail
        refine bodyPost_ret (results_cell_tmp rfl _ _ _ ⟨w.heap.size + 1, 0, none⟩ _ rfl (loadR5 (hB1.set5 _ _ _ _ _))) rfl ?_
        exact ⟨by first | rfl | (rw [hv]; rfl), grown_set5 kk (by omega) _ _ _ _ _⟩
      · have h : chkN ep v l p f ep r = 0 := by simp at dr dr1; simp [chkN, hR]; omega
        rcases vote_ways v l f r q with d | ⟨d, d1⟩ | ⟨d, d1, d2⟩ | ⟨d, d1, d2, d3⟩ | ⟨d, d1, d2, d3, d4⟩ | ⟨d, d1, d2, d3, d4⟩
        · have hv : voteE ep v l p f ep r q = 14 := by rw [voteE_eq h]; simp at d; rw [if_pos (.inl d)]
          go_enter Tryd.func26, Tryd.ntmps26
          go_wp2_with fail
          refine (refRight_is _ _ _ _ _ _).mono ?_
          rintro en w1 ⟨rfl, k1⟩
          have hA1 := hA.grown k1 (by simp)
          have hB1 := hB.grown k1 (by simp)
          have a0 := hA1.cell 0
          have a1 := hA1.cell 1
          have a2 := hA1.cell 2
          have a3 := hA1.cell 3
          have a4 := hA1.cell 4
          have b0 := hB1.cell 0
          have b1 := hB1.cell 1
          have b2 := hB1.cell 2
          have b3 := hB1.cell 3
          have b4 := hB1.cell 4
          have f0 := hB1.frozen 0
          have f1 := hB1.frozen 1
          have f2 := hB1.frozen 2
          have f3 := hB1.frozen 3
          have f4 := hB1.frozen 4
          simp at a0 a1 a2 a3 a4 b0 b1 b2 b3 b4
          have kk := grown_trans kb k1
          clear hA hB hA1 k1
          go_wp2_with fail
          refine bodyPost_ret (results_cell_tmp rfl _ _ _ ⟨w.heap.size + 1, 0, none⟩ _ rfl (loadR5 (hB1.set5 _ _ _ _ _))) rfl ?_
          exact ⟨by first | rfl | (rw [hv]; rfl), grown_set5 kk (by omega) _ _ _ _ _⟩
        · have hv : voteE ep v l p f ep r q = 14 := by rw [voteE_eq h]; simp at d1; rw [if_pos (.inr d1)]
          go_enter Tryd.func26, Tryd.ntmps26
          go_wp2_with fail
          refine (refRight_is _ _ _ _ _ _).mono ?_
          rintro en w1 ⟨rfl, k1⟩
          have hA1 := hA.grown k1 (by simp)
          have hB1 := hB.grown k1 (by simp)
          have a0 := hA1.cell 0
          have a1 := hA1.cell 1
          have a2 := hA1.cell 2
          have a3 := hA1.cell 3
          have a4 := hA1.cell 4
          have b0 := hB1.cell 0
          have b1 := hB1.cell 1
          have b2 := hB1.cell 2
          have b3 := hB1.cell 3
          have b4 := hB1.cell 4
          have f0 := hB1.frozen 0
          have f1 := hB1.frozen 1
          have f2 := hB1.frozen 2
          have f3 := hB1.frozen 3
          have f4 := hB1.frozen 4
          simp at a0 a1 a2 a3 a4 b0 b1 b2 b3 b4
          have kk := grown_trans kb k1
          clear hA hB hA1 k1
          go_wp2_with fail
          refine bodyPost_ret (results_cell_tmp rfl _ _ _ ⟨w.heap.size + 1, 0, none⟩ _ rfl (loadR5 (hB1.set5 _ _ _ _ _))) rfl ?_
          exact ⟨by first | rfl | (rw [hv]; rfl), grown_set5 kk (by omega) _ _ _ _ _⟩
        · have hv : voteE ep v l p f ep r q = 10 := by rw [voteE_eq h]; simp at d d1 d2; rw [if_neg (by omega), if_pos d2]
          go_enter Tryd.func26, Tryd.ntmps26
          go_wp2_with fail
          refine (refRight_is _ _ _ _ _ _).mono ?_
          rintro en w1 ⟨rfl, k1⟩
          have hA1 := hA.grown k1 (by simp)
          have hB1 := hB.grown k1 (by simp)
          have a0 := hA1.cell 0
          have a1 := hA1.cell 1
          have a2 := hA1.cell 2
          have a3 := hA1.cell 3
          have a4 := hA1.cell 4
          have b0 := hB1.cell 0
          have b1 := hB1.cell 1
          have b2 := hB1.cell 2
          have b3 := hB1.cell 3
          have b4 := hB1.cell 4
          have f0 := hB1.frozen 0
          have f1 := hB1.frozen 1
          have f2 := hB1.frozen 2
          have f3 := hB1.frozen 3
          have f4 := hB1.frozen 4
          simp at a0 a1 a2 a3 a4 b0 b1 b2 b3 b4
          have kk := grown_trans kb k1
          clear hA hB hA1 k1
          go_wp2_with fail
          refine bodyPost_ret (results_cell_tmp rfl _ _ _ ⟨w.heap.size + 1, 0, none⟩ _ rfl (loadR5 (hB1.set5 _ _ _ _ _))) rfl ?_
          exact ⟨by first | rfl | (rw [hv]; rfl), grown_set5 kk (by omega) _ _ _ _ _⟩
        · have hv : voteE ep v l p f ep r q = 15 := by rw [voteE_eq h]; simp at d d1 d2 d3; rw [if_neg (by omega), if_neg (by omega), if_pos d3]
          go_enter Tryd.func26, Tryd.ntmps26
          go_wp2_with fail
          refine (refRight_is _ _ _ _ _ _).mono ?_
          rintro en w1 ⟨rfl, k1⟩
          have hA1 := hA.grown k1 (by simp)
          have hB1 := hB.grown k1 (by simp)
          have a0 := hA1.cell 0
          have a1 := hA1.cell 1
          have a2 := hA1.cell 2
          have a3 := hA1.cell 3
          have a4 := hA1.cell 4
          have b0 := hB1.cell 0
          have b1 := hB1.cell 1
          have b2 := hB1.cell 2
          have b3 := hB1.cell 3
          have b4 := hB1.cell 4
          have f0 := hB1.frozen 0
          have f1 := hB1.frozen 1
          have f2 := hB1.frozen 2
          have f3 := hB1.frozen 3
          have f4 := hB1.frozen 4
          simp at a0 a1 a2 a3 a4 b0 b1 b2 b3 b4
          have kk := grown_trans kb k1
          clear hA hB hA1 k1
          go_wp2_with fail
          refine bodyPost_ret (results_cell_tmp rfl _ _ _ ⟨w.heap.size + 1, 0, none⟩ _ rfl (loadR5 (hB1.set5 _ _ _ _ _))) rfl ?_
          exact ⟨by first | rfl | (rw [hv]; rfl), grown_set5 kk (by omega) _ _ _ _ _⟩
        · have hv : voteE ep v l p f ep r q = 5 := by rw [voteE_eq h]; simp at d d1 d2 d3 d4; rw [if_neg (by omega), if_neg (by omega), if_neg (by omega), if_pos d4]
          go_enter Tryd.func26, Tryd.ntmps26
          go_wp2_with fail
          refine (refRight_is _ _ _ _ _ _).mono ?_
          rintro en w1 ⟨rfl, k1⟩
          have hA1 := hA.grown k1 (by simp)
          have hB1 := hB.grown k1 (by simp)
          have a0 := hA1.cell 0
          have a1 := hA1.cell 1
          have a2 := hA1.cell 2
          have a3 := hA1.cell 3
          have a4 := hA1.cell 4
          have b0 := hB1.cell 0
          have b1 := hB1.cell 1
          have b2 := hB1.cell 2
          have b3 := hB1.cell 3
          have b4 := hB1.cell 4
          have f0 := hB1.frozen 0
          have f1 := hB1.frozen 1
          have f2 := hB1.frozen 2
          have f3 := hB1.frozen 3
          have f4 := hB1.frozen 4
          simp at a0 a1 a2 a3 a4 b0 b1 b2 b3 b4
          have kk := grown_trans kb k1
          clear hA hB hA1 k1
          go_wp2_with fail
          refine bodyPost_ret (results_cell_tmp rfl _ _ _ ⟨w.heap.size + 1, 0, none⟩ _ rfl (loadR5 (hB1.set5 _ _ _ _ _))) rfl ?_
          exact ⟨by first | rfl | (rw [hv]; rfl), grown_set5 kk (by omega) _ _ _ _ _⟩
        · have hv : voteE ep v l p f ep r q = 0 := by rw [voteE_eq h]; simp at d d1 d2 d3 d4; rw [if_neg (by omega), if_neg (by omega), if_neg (by omega), if_neg d4]
          have hfw : wrap64 (f + 1) = f + 1 := by have := (right_yes _ _ _ _ _ hR).2.2.2.2.2.2.2.2; unfold wrap64; omega
          have hl0 := (right_yes _ _ _ _ _ hR).2.2.1
          have hm : (decide (0 ≤ g) = true ∧ decide (g ≤ q) = true ∧ decide (l < g) = true ∧ voteL l q g = g) ∨ (decide (0 ≤ g) = true ∧ decide (g ≤ q) = true ∧ decide (l < g) = false ∧ voteL l q g = l) ∨ (decide (0 ≤ g) = true ∧ decide (g ≤ q) = false ∧ voteL l q g = l) ∨ (decide (0 ≤ g) = false ∧ voteL l q g = l) := by
            simp only [decide_eq_true_eq, decide_eq_false_iff_not, voteL]
            by_cases h0 : 0 ≤ g
            · by_cases h1 : g ≤ q
              · by_cases h2 : l < g
                · exact .inl ⟨h0, h1, h2, by simp [h1, h2]⟩
                · exact .inr (.inl ⟨h0, h1, h2, by simp [h2]⟩)
              · exact .inr (.inr (.inl ⟨h0, h1, by simp [h1]⟩))
            · exact .inr (.inr (.inr ⟨h0, by rw [if_neg (by omega)]⟩))
          clear hl0
          rcases hm with ⟨m, m1, m2, hl⟩ | ⟨m, m1, m2, hl⟩ | ⟨m, m1, hl⟩ | ⟨m, hl⟩
          · go_enter Tryd.func26, Tryd.ntmps26
            go_wp2_with fail
            refine (refRight_is _ _ _ _ _ _).mono ?_
            rintro en w1 ⟨rfl, k1⟩
            have hA1 := hA.grown k1 (by simp)
            have hB1 := hB.grown k1 (by simp)
            have a0 := hA1.cell 0
            have a1 := hA1.cell 1
            have a2 := hA1.cell 2
            have a3 := hA1.cell 3
            have a4 := hA1.cell 4
            have b0 := hB1.cell 0
            have b1 := hB1.cell 1
            have b2 := hB1.cell 2
            have b3 := hB1.cell 3
            have b4 := hB1.cell 4
            have f0 := hB1.frozen 0
            have f1 := hB1.frozen 1
            have f2 := hB1.frozen 2
            have f3 := hB1.frozen 3
            have f4 := hB1.frozen 4
            have fa0 := hA1.frozen 0
            have fa1 := hA1.frozen 1
            have fa2 := hA1.frozen 2
            have fa3 := hA1.frozen 3
            have fa4 := hA1.frozen 4
            simp at a0 a1 a2 a3 a4 b0 b1 b2 b3 b4
            have kk := grown_trans kb k1
            clear hA hB hA1 k1
            go_wp2_with fail
            refine bodyPost_ret (results_cell_tmp rfl _ _ _ ⟨w.heap.size + 1, 0, none⟩ _ rfl (loadR5 ((((hB1.far (by simp) _).far (by simp) _).far (by simp) _).set5 _ _ _ _ _))) rfl ?_
            exact ⟨by first | rfl | (rw [hv, hl, hfw]; rfl), grown_set5 (grown_set1 (grown_set1 (grown_set1 kk (by omega) _) (by omega) _) (by omega) _) (by omega) _ _ _ _ _⟩
          · go_enter Tryd.func26, Tryd.ntmps26
            go_wp2_with fail
            refine (refRight_is _ _ _ _ _ _).mono ?_
            rintro en w1 ⟨rfl, k1⟩
            have hA1 := hA.grown k1 (by simp)
            have hB1 := hB.grown k1 (by simp)
            have a0 := hA1.cell 0
            have a1 := hA1.cell 1
            have a2 := hA1.cell 2
            have a3 := hA1.cell 3
            have a4 := hA1.cell 4
            have b0 := hB1.cell 0
            have b1 := hB1.cell 1
            have b2 := hB1.cell 2
            have b3 := hB1.cell 3
            have b4 := hB1.cell 4
            have f0 := hB1.frozen 0
            have f1 := hB1.frozen 1
            have f2 := hB1.frozen 2
            have f3 := hB1.frozen 3
            have f4 := hB1.frozen 4
            have fa0 := hA1.frozen 0
            have fa1 := hA1.frozen 1
            have fa2 := hA1.frozen 2
            have fa3 := hA1.frozen 3
            have fa4 := hA1.frozen 4
            simp at a0 a1 a2 a3 a4 b0 b1 b2 b3 b4
            have kk := grown_trans kb k1
            clear hA hB hA1 k1
            go_wp2_with fail
            refine bodyPost_ret (results_cell_tmp rfl _ _ _ ⟨w.heap.size + 1, 0, none⟩ _ rfl (loadR5 (((hB1.far (by simp) _).far (by simp) _).set5 _ _ _ _ _))) rfl ?_
            exact ⟨by first | rfl | (rw [hv, hl, hfw]; rfl), grown_set5 (grown_set1 (grown_set1 kk (by omega) _) (by omega) _) (by omega) _ _ _ _ _⟩
          · go_enter Tryd.func26, Tryd.ntmps26
            go_wp2_with fail
            refine (refRight_is _ _ _ _ _ _).mono ?_
            rintro en w1 ⟨rfl, k1⟩
            have hA1 := hA.grown k1 (by simp)
            have hB1 := hB.grown k1 (by simp)
            have a0 := hA1.cell 0
            have a1 := hA1.cell 1
            have a2 := hA1.cell 2
            have a3 := hA1.cell 3
            have a4 := hA1.cell 4
            have b0 := hB1.cell 0
            have b1 := hB1.cell 1
            have b2 := hB1.cell 2
            have b3 := hB1.cell 3
            have b4 := hB1.cell 4
            have f0 := hB1.frozen 0
            have f1 := hB1.frozen 1
            have f2 := hB1.frozen 2
            have f3 := hB1.frozen 3
            have f4 := hB1.frozen 4
            have fa0 := hA1.frozen 0
            have fa1 := hA1.frozen 1
            have fa2 := hA1.frozen 2
            have fa3 := hA1.frozen 3
            have fa4 := hA1.frozen 4
            simp at a0 a1 a2 a3 a4 b0 b1 b2 b3 b4
            have kk := grown_trans kb k1
            clear hA hB hA1 k1
            go_wp2_with fail
            refine bodyPost_ret (results_cell_tmp rfl _ _ _ ⟨w.heap.size + 1, 0, none⟩ _ rfl (loadR5 (((hB1.far (by simp) _).far (by simp) _).set5 _ _ _ _ _))) rfl ?_
            exact ⟨by first | rfl | (rw [hv, hl, hfw]; rfl), grown_set5 (grown_set1 (grown_set1 kk (by omega) _) (by omega) _) (by omega) _ _ _ _ _⟩
          · go_enter Tryd.func26, Tryd.ntmps26
            go_wp2_with fail
            refine (refRight_is _ _ _ _ _ _).mono ?_
            rintro en w1 ⟨rfl, k1⟩
            have hA1 := hA.grown k1 (by simp)
            have hB1 := hB.grown k1 (by simp)
            have a0 := hA1.cell 0
            have a1 := hA1.cell 1
            have a2 := hA1.cell 2
            have a3 := hA1.cell 3
            have a4 := hA1.cell 4
            have b0 := hB1.cell 0
            have b1 := hB1.cell 1
            have b2 := hB1.cell 2
            have b3 := hB1.cell 3
            have b4 := hB1.cell 4
            have f0 := hB1.frozen 0
            have f1 := hB1.frozen 1
            have f2 := hB1.frozen 2
            have f3 := hB1.frozen 3
            have f4 := hB1.frozen 4
            have fa0 := hA1.frozen 0
            have fa1 := hA1.frozen 1
            have fa2 := hA1.frozen 2
            have fa3 := hA1.frozen 3
            have fa4 := hA1.frozen 4
            simp at a0 a1 a2 a3 a4 b0 b1 b2 b3 b4
            have kk := grown_trans kb k1
            clear hA hB hA1 k1
            go_wp2_with fail
            refine bodyPost_ret (results_cell_tmp rfl _ _ _ ⟨w.heap.size + 1, 0, none⟩ _ rfl (loadR5 (((hB1.far (by simp) _).far (by simp) _).set5 _ _ _ _ _))) rfl ?_
            exact ⟨by first | rfl | (rw [hv, hl, hfw]; rfl), grown_set5 (grown_set1 (grown_set1 kk (by omega) _) (by omega) _) (by omega) _ _ _ _ _⟩
    · have hv : voteE e v l p f ep r q = 18 := by have hc : chkN e v l p f ep r = 18 := (by simp [chkN, hR, hep]); simp [voteE, hc]
      have hq : (ep == e) = false := by simpa using hep
      have hq' : (ep != e) = true := by simpa using hep
      clear hep
      go_enter Tryd.func26, Tryd.ntmps26
      go_wp2_with fail
      refine (refRight_is _ _ _ _ _ _).mono ?_
      rintro en w1 ⟨rfl, k1⟩
      have hA1 := hA.grown k1 (by simp)
      have hB1 := hB.grown k1 (by simp)
      have a0 := hA1.cell 0
      have a1 := hA1.cell 1
      have a2 := hA1.cell 2
      have a3 := hA1.cell 3
      have a4 := hA1.cell 4
      have b0 := hB1.cell 0
      have b1 := hB1.cell 1
      have b2 := hB1.cell 2
      have b3 := hB1.cell 3
      have b4 := hB1.cell 4
      have f0 := hB1.frozen 0
      have f1 := hB1.frozen 1
      have f2 := hB1.frozen 2
      have f3 := hB1.frozen 3
      have f4 := hB1.frozen 4
      simp at a0 a1 a2 a3 a4 b0 b1 b2 b3 b4
      have kk := grown_trans kb k1
      clear hA hB hA1 k1
      go_wp2_with fail
      refine bodyPost_ret (results_cell_tmp rfl _ _ _ ⟨w.heap.size + 1, 0, none⟩ _ rfl (loadR5 (hB1.set5 _ _ _ _ _))) rfl ?_
      exact ⟨by first | rfl | (rw [hv]; rfl), grown_set5 kk (by omega) _ _ _ _ _⟩
  · have hR' : rightB e v l p f = false := by simpa using hR
    have hv : voteE e v l p f ep r q = 4 := by have hc : chkN e v l p f ep r = 4 := (by simp [chkN, hR']); simp [voteE, hc]
    clear hR
    go_enter Tryd.func26, Tryd.ntmps26
    go_wp2_with fail
    refine (refRight_is _ _ _ _ _ _).mono ?_
    rintro en w1 ⟨rfl, k1⟩
    have hA1 := hA.grown k1 (by simp)
    have hB1 := hB.grown k1 (by simp)
    have a0 := hA1.cell 0
    have a1 := hA1.cell 1
    have a2 := hA1.cell 2
    have a3 := hA1.cell 3
    have a4 := hA1.cell 4
    have b0 := hB1.cell 0
    have b1 := hB1.cell 1
    have b2 := hB1.cell 2
    have b3 := hB1.cell 3
    have b4 := hB1.cell 4
    have f0 := hB1.frozen 0
    have f1 := hB1.frozen 1
    have f2 := hB1.frozen 2
    have f3 := hB1.frozen 3
    have f4 := hB1.frozen 4
    simp at a0 a1 a2 a3 a4 b0 b1 b2 b3 b4
    have kk := grown_trans kb k1
    clear hA hB hA1 k1
    go_wp2_with fail
    refine bodyPost_ret (results_cell_tmp rfl _ _ _ ⟨w.heap.size + 1, 0, none⟩ _ rfl (loadR5 (hB1.set5 _ _ _ _ _))) rfl ?_
    exact ⟨by first | rfl | (rw [hv]; rfl), grown_set5 kk (by omega) _ _ _ _ _⟩

set_option maxHeartbeats 8000000 in
theorem refLate_is (w : World) (e v l p f ep r : Int) :
    Calls Tryd.prog 27 #[stV e v l p f, .int .i64 ep, .int .i64 r] w fun en w' => en = .returned (.tuple #[if lateE e v l p f ep r = 0 then stV e (lateV v r) l p (f + 1) else stV e v l p f, .int .i64 (lateE e v l p f ep r : Nat)]) ∧ w.grownBy w' none := by
  have ka := World.grownBy_alloc w (.cells (stC e v l p f) 29) none
  have kb := grown_trans ka (World.grownBy_alloc _ (.cells (stC 0 0 0 0 0) 29) none)
  have hA := (Blk.new w 29 (stC e v l p f)).alloc (.cells (stC 0 0 0 0 0) 29)
  have hB := Blk.new (w.alloc (.cells (stC e v l p f) 29)) 29 (stC 0 0 0 0 0)
  rw [World.size_alloc] at hB
  by_cases hR : rightB e v l p f = true
  · by_cases hep : ep = e
    · subst hep
      have hw : decide (r < (1 : Int)) = true ∨ (decide (r < (1 : Int)) = false ∧ decide ((1099511627776 : Int) < r) = true) ∨ (decide (r < (1 : Int)) = false ∧ decide ((1099511627776 : Int) < r) = false) := by
        simp only [decide_eq_true_eq, decide_eq_false_iff_not]; omega
      rcases hw with dr | ⟨dr, dr1⟩ | ⟨dr, dr1⟩
      · have hv : lateE ep v l p f ep r = 14 := by simp at dr; have hc : chkN ep v l p f ep r = 14 := (by simp [chkN, hR, dr]); simp [lateE, hc]
        go_enter Tryd.func27, Tryd.ntmps27
        go_wp2_with fail
        refine (refRight_is _ _ _ _ _ _).mono ?_
        rintro en w1 ⟨rfl, k1⟩
        have hA1 := hA.grown k1 (by simp)
        have hB1 := hB.grown k1 (by simp)
        have a0 := hA1.cell 0
        have a1 := hA1.cell 1
        have a2 := hA1.cell 2
        have a3 := hA1.cell 3
        have a4 := hA1.cell 4
        have b0 := hB1.cell 0
        have b1 := hB1.cell 1
        have b2 := hB1.cell 2
        have b3 := hB1.cell 3
        have b4 := hB1.cell 4
        have f0 := hB1.frozen 0
        have f1 := hB1.frozen 1
        have f2 := hB1.frozen 2
        have f3 := hB1.frozen 3
        have f4 := hB1.frozen 4
        simp at a0 a1 a2 a3 a4 b0 b1 b2 b3 b4
        have kk := grown_trans kb k1
        clear hA hB hA1 k1
        go_wp2_with fail
        refine bodyPost_ret (results_cell_tmp rfl _ _ _ ⟨w.heap.size + 1, 0, none⟩ _ rfl (loadR5 (hB1.set5 _ _ _ _ _))) rfl ?_
        exact ⟨by first | rfl | (rw [hv]; rfl), grown_set5 kk (by omega) _ _ _ _ _⟩
      · have hv : lateE ep v l p f ep r = 14 := by simp at dr1; have hc : chkN ep v l p f ep r = 14 := (by simp [chkN, hR, dr1]); simp [lateE, hc]
        go_enter Tryd.func27, Tryd.ntmps27
        go_wp2_with fail
        refine (refRight_is _ _ _ _ _ _).mono ?_
        rintro en w1 ⟨rfl, k1⟩
        have hA1 := hA.grown k1 (by simp)
        have hB1 := hB.grown k1 (by simp)
        have a0 := hA1.cell 0
        have a1 := hA1.cell 1
        have a2 := hA1.cell 2
        have a3 := hA1.cell 3
        have a4 := hA1.cell 4
        have b0 := hB1.cell 0
        have b1 := hB1.cell 1
        have b2 := hB1.cell 2
        have b3 := hB1.cell 3
        have b4 := hB1.cell 4
        have f0 := hB1.frozen 0
        have f1 := hB1.frozen 1
        have f2 := hB1.frozen 2
        have f3 := hB1.frozen 3
        have f4 := hB1.frozen 4
        simp at a0 a1 a2 a3 a4 b0 b1 b2 b3 b4
        have kk := grown_trans kb k1
        clear hA hB hA1 k1
        go_wp2_with fail
        refine bodyPost_ret (results_cell_tmp rfl _ _ _ ⟨w.heap.size + 1, 0, none⟩ _ rfl (loadR5 (hB1.set5 _ _ _ _ _))) rfl ?_
        exact ⟨by first | rfl | (rw [hv]; rfl), grown_set5 kk (by omega) _ _ _ _ _⟩
      · have h : chkN ep v l p f ep r = 0 := by simp at dr dr1; simp [chkN, hR]; omega
        cases d4 : (f == 32)
        · have hv : lateE ep v l p f ep r = 0 := by rw [lateE_eq h]; simp at d4; rw [if_neg d4]
          have hfw : wrap64 (f + 1) = f + 1 := by have := (right_yes _ _ _ _ _ hR).2.2.2.2.2.2.2.2; unfold wrap64; omega
          have hl0 := (right_yes _ _ _ _ _ hR).2.2.1
          clear hl0
          by_cases m : r ≤ v
          · have hl : lateV v r = v := by simp [lateV, m]
            have m1 : decide (v < r) = false := by simp; omega
            clear m
            go_enter Tryd.func27, Tryd.ntmps27
            go_wp2_with fail
            refine (refRight_is _ _ _ _ _ _).mono ?_
            rintro en w1 ⟨rfl, k1⟩
            have hA1 := hA.grown k1 (by simp)
            have hB1 := hB.grown k1 (by simp)
            have a0 := hA1.cell 0
            have a1 := hA1.cell 1
            have a2 := hA1.cell 2
            have a3 := hA1.cell 3
            have a4 := hA1.cell 4
            have b0 := hB1.cell 0
            have b1 := hB1.cell 1
            have b2 := hB1.cell 2
            have b3 := hB1.cell 3
            have b4 := hB1.cell 4
            have f0 := hB1.frozen 0
            have f1 := hB1.frozen 1
            have f2 := hB1.frozen 2
            have f3 := hB1.frozen 3
            have f4 := hB1.frozen 4
            have fa0 := hA1.frozen 0
            have fa1 := hA1.frozen 1
            have fa2 := hA1.frozen 2
            have fa3 := hA1.frozen 3
            have fa4 := hA1.frozen 4
            simp at a0 a1 a2 a3 a4 b0 b1 b2 b3 b4
            have kk := grown_trans kb k1
            clear hA hB hA1 k1
            go_wp2_with fail
            refine bodyPost_ret (results_cell_tmp rfl _ _ _ ⟨w.heap.size + 1, 0, none⟩ _ rfl (loadR5 ((hB1.far (by simp) _).set5 _ _ _ _ _))) rfl ?_
            exact ⟨by first | rfl | (rw [hv, hl, hfw]; rfl), grown_set5 (grown_set1 kk (by omega) _) (by omega) _ _ _ _ _⟩
          · have hl : lateV v r = r := by simp [lateV, m]
            have m1 : decide (v < r) = true := by simp; omega
            clear m
            go_enter Tryd.func27, Tryd.ntmps27
            go_wp2_with fail
            refine (refRight_is _ _ _ _ _ _).mono ?_
            rintro en w1 ⟨rfl, k1⟩
            have hA1 := hA.grown k1 (by simp)
            have hB1 := hB.grown k1 (by simp)
            have a0 := hA1.cell 0
            have a1 := hA1.cell 1
            have a2 := hA1.cell 2
            have a3 := hA1.cell 3
            have a4 := hA1.cell 4
            have b0 := hB1.cell 0
            have b1 := hB1.cell 1
            have b2 := hB1.cell 2
            have b3 := hB1.cell 3
            have b4 := hB1.cell 4
            have f0 := hB1.frozen 0
            have f1 := hB1.frozen 1
            have f2 := hB1.frozen 2
            have f3 := hB1.frozen 3
            have f4 := hB1.frozen 4
            have fa0 := hA1.frozen 0
            have fa1 := hA1.frozen 1
            have fa2 := hA1.frozen 2
            have fa3 := hA1.frozen 3
            have fa4 := hA1.frozen 4
            simp at a0 a1 a2 a3 a4 b0 b1 b2 b3 b4
            have kk := grown_trans kb k1
            clear hA hB hA1 k1
            go_wp2_with fail
            refine bodyPost_ret (results_cell_tmp rfl _ _ _ ⟨w.heap.size + 1, 0, none⟩ _ rfl (loadR5 (((hB1.far (by simp) _).far (by simp) _).set5 _ _ _ _ _))) rfl ?_
            exact ⟨by first | rfl | (rw [hv, hl, hfw]; rfl), grown_set5 (grown_set1 (grown_set1 kk (by omega) _) (by omega) _) (by omega) _ _ _ _ _⟩
        · have hv : lateE ep v l p f ep r = 5 := by rw [lateE_eq h]; simp at d4; rw [if_pos d4]
          go_enter Tryd.func27, Tryd.ntmps27
          go_wp2_with fail
          refine (refRight_is _ _ _ _ _ _).mono ?_
          rintro en w1 ⟨rfl, k1⟩
          have hA1 := hA.grown k1 (by simp)
          have hB1 := hB.grown k1 (by simp)
          have a0 := hA1.cell 0
          have a1 := hA1.cell 1
          have a2 := hA1.cell 2
          have a3 := hA1.cell 3
          have a4 := hA1.cell 4
          have b0 := hB1.cell 0
          have b1 := hB1.cell 1
          have b2 := hB1.cell 2
          have b3 := hB1.cell 3
          have b4 := hB1.cell 4
          have f0 := hB1.frozen 0
          have f1 := hB1.frozen 1
          have f2 := hB1.frozen 2
          have f3 := hB1.frozen 3
          have f4 := hB1.frozen 4
          simp at a0 a1 a2 a3 a4 b0 b1 b2 b3 b4
          have kk := grown_trans kb k1
          clear hA hB hA1 k1
          go_wp2_with fail
          refine bodyPost_ret (results_cell_tmp rfl _ _ _ ⟨w.heap.size + 1, 0, none⟩ _ rfl (loadR5 (hB1.set5 _ _ _ _ _))) rfl ?_
          exact ⟨by first | rfl | (rw [hv]; rfl), grown_set5 kk (by omega) _ _ _ _ _⟩
    · have hv : lateE e v l p f ep r = 18 := by have hc : chkN e v l p f ep r = 18 := (by simp [chkN, hR, hep]); simp [lateE, hc]
      have hq : (ep == e) = false := by simpa using hep
      have hq' : (ep != e) = true := by simpa using hep
      clear hep
      go_enter Tryd.func27, Tryd.ntmps27
      go_wp2_with fail
      refine (refRight_is _ _ _ _ _ _).mono ?_
      rintro en w1 ⟨rfl, k1⟩
      have hA1 := hA.grown k1 (by simp)
      have hB1 := hB.grown k1 (by simp)
      have a0 := hA1.cell 0
      have a1 := hA1.cell 1
      have a2 := hA1.cell 2
      have a3 := hA1.cell 3
      have a4 := hA1.cell 4
      have b0 := hB1.cell 0
      have b1 := hB1.cell 1
      have b2 := hB1.cell 2
      have b3 := hB1.cell 3
      have b4 := hB1.cell 4
      have f0 := hB1.frozen 0
      have f1 := hB1.frozen 1
      have f2 := hB1.frozen 2
      have f3 := hB1.frozen 3
      have f4 := hB1.frozen 4
      simp at a0 a1 a2 a3 a4 b0 b1 b2 b3 b4
      have kk := grown_trans kb k1
      clear hA hB hA1 k1
      go_wp2_with fail
      refine bodyPost_ret (results_cell_tmp rfl _ _ _ ⟨w.heap.size + 1, 0, none⟩ _ rfl (loadR5 (hB1.set5 _ _ _ _ _))) rfl ?_
      exact ⟨by first | rfl | (rw [hv]; rfl), grown_set5 kk (by omega) _ _ _ _ _⟩
  · have hR' : rightB e v l p f = false := by simpa using hR
    have hv : lateE e v l p f ep r = 4 := by have hc : chkN e v l p f ep r = 4 := (by simp [chkN, hR']); simp [lateE, hc]
    clear hR
    go_enter Tryd.func27, Tryd.ntmps27
    go_wp2_with fail
    refine (refRight_is _ _ _ _ _ _).mono ?_
    rintro en w1 ⟨rfl, k1⟩
    have hA1 := hA.grown k1 (by simp)
    have hB1 := hB.grown k1 (by simp)
    have a0 := hA1.cell 0
    have a1 := hA1.cell 1
    have a2 := hA1.cell 2
    have a3 := hA1.cell 3
    have a4 := hA1.cell 4
    have b0 := hB1.cell 0
    have b1 := hB1.cell 1
    have b2 := hB1.cell 2
    have b3 := hB1.cell 3
    have b4 := hB1.cell 4
    have f0 := hB1.frozen 0
    have f1 := hB1.frozen 1
    have f2 := hB1.frozen 2
    have f3 := hB1.frozen 3
    have f4 := hB1.frozen 4
    simp at a0 a1 a2 a3 a4 b0 b1 b2 b3 b4
    have kk := grown_trans kb k1
    clear hA hB hA1 k1
    go_wp2_with fail
    refine bodyPost_ret (results_cell_tmp rfl _ _ _ ⟨w.heap.size + 1, 0, none⟩ _ rfl (loadR5 (hB1.set5 _ _ _ _ _))) rfl ?_
    exact ⟨by first | rfl | (rw [hv]; rfl), grown_set5 kk (by omega) _ _ _ _ _⟩
end Go.Proofs.YtjmdlpefacbmmaaDoor
