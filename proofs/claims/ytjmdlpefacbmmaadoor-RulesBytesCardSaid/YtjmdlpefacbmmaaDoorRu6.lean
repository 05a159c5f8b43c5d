/-
  The document's Propose and Enter.
-/
import Derived.Test.YtjmdlpefacbmmaaDoorRu5
namespace Go.Proofs.YtjmdlpefacbmmaaDoor
open Go.RowKit

set_option maxHeartbeats 8000000 in
theorem refProp_is (w : World) (e v l p f ep r : Int) :
    Calls Tryd.prog 28 #[stV e v l p f, .int .i64 ep, .int .i64 r] w fun en w' => en = .returned (.tuple #[if propE e v l p f ep r = 0 then stV e v l r (f + 1) else stV e v l p f, .int .i64 (propE e v l p f ep r : Nat)]) ∧ w.grownBy w' none := by
  have ka := World.grownBy_alloc w (.cells (stC e v l p f) 29) none
  have kb := grown_trans ka (World.grownBy_alloc _ (.cells (stC 0 0 0 0 0) 29) none)
  have hA := (Blk.new w 29 (stC e v l p f)).alloc (.cells (stC 0 0 0 0 0) 29)
  have hB := Blk.new (w.alloc (.cells (stC e v l p f) 29)) 29 (stC 0 0 0 0 0)
  rw [World.size_alloc] at hB
  by_cases hR : rightB e v l p f = true
  · by_cases hep : ep = e
    · subst hep
      have hw : decide (r < (1 : Int)) = true ∨ (decide (r < (1 : Int)) = false ∧ decide ((1099511627776 : Int) < r) = true) ∨ (decide (r < (1 : Int)) = false ∧ decide ((1099511627776 : Int) < r) = false) := by
        simp only [decide_eq_true_eq, decide_eq_false_iff_not]; omega
      rcases hw with dr | ⟨dr, dr1⟩ | ⟨dr, dr1⟩
      · have hv : propE ep v l p f ep r = 14 := by simp at dr; have hc : chkN ep v l p f ep r = 14 := (by simp [chkN, hR, dr]); simp [propE, hc]
        go_enter Tryd.func28, Tryd.ntmps28
        go_wp2_with fail
        refine (refRight_is _ _ _ _ _ _).mono ?_
        rintro en w1 ⟨rfl, k1⟩
        have hA1 := hA.grown k1 (by simp)
        have hB1 := hB.grown k1 (by simp)
        have a0 := hA1.cell 0
        have a1 := hA1.cell 1
        have a2 := hA1.cell 2
        have a3 := hA1.cell 3
        have a4 := hA1.cell 4
        have b0 := hB1.cell 0
        have b1 := hB1.cell 1
        have b2 := hB1.cell 2
        have b3 := hB1.cell 3
        have b4 := hB1.cell 4
        have f0 := hB1.frozen 0
        have f1 := hB1.frozen 1
        have f2 := hB1.frozen 2
        have f3 := hB1.frozen 3
        have f4 := hB1.frozen 4
        simp at a0 a1 a2 a3 a4 b0 b1 b2 b3 b4
        have kk := grown_trans kb k1
        clear hA hB hA1 k1
        go_wp2_with fail
        refine bodyPost_ret (results_cell_tmp rfl _ _ _ ⟨w.heap.size + 1, 0, none⟩ _ rfl (loadR5 (hB1.set5 _ _ _ _ _))) rfl ?_
        exact ⟨by first | rfl | (rw [hv]; rfl), grown_set5 kk (by omega) _ _ _ _ _⟩
      · have hv : propE ep v l p f ep r = 14 := by simp at dr1; have hc : chkN ep v l p f ep r = 14 := (by simp [chkN, hR, dr1]); simp [propE, hc]
        go_enter Tryd.func28, Tryd.ntmps28
        go_wp2_with fail
        refine (refRight_is _ _ _ _ _ _).mono ?_
        rintro en w1 ⟨rfl, k1⟩
        have hA1 := hA.grown k1 (by simp)
        have hB1 := hB.grown k1 (by simp)
        have a0 := hA1.cell 0
        have a1 := hA1.cell 1
        have a2 := hA1.cell 2
        have a3 := hA1.cell 3
        have a4 := hA1.cell 4
        have b0 := hB1.cell 0
        have b1 := hB1.cell 1
        have b2 := hB1.cell 2
        have b3 := hB1.cell 3
        have b4 := hB1.cell 4
        have f0 := hB1.frozen 0
        have f1 := hB1.frozen 1
        have f2 := hB1.frozen 2
        have f3 := hB1.frozen 3
        have f4 := hB1.frozen 4
        simp at a0 a1 a2 a3 a4 b0 b1 b2 b3 b4
        have kk := grown_trans kb k1
        clear hA hB hA1 k1
        go_wp2_with fail
        refine bodyPost_ret (results_cell_tmp rfl _ _ _ ⟨w.heap.size + 1, 0, none⟩ _ rfl (loadR5 (hB1.set5 _ _ _ _ _))) rfl ?_
        exact ⟨by first | rfl | (rw [hv]; rfl), grown_set5 kk (by omega) _ _ _ _ _⟩
      · have h : chkN ep v l p f ep r = 0 := by simp at dr dr1; simp [chkN, hR]; omega
        by_cases hp : r ≤ p
        · have d : decide (r ≤ p) = true := by simpa using hp
          have hv : propE ep v l p f ep r = 10 := by rw [propE_eq h, if_pos hp]
          go_enter Tryd.func28, Tryd.ntmps28
          go_wp2_with fail
          refine (refRight_is _ _ _ _ _ _).mono ?_
          rintro en w1 ⟨rfl, k1⟩
          have hA1 := hA.grown k1 (by simp)
          have hB1 := hB.grown k1 (by simp)
          have a0 := hA1.cell 0
          have a1 := hA1.cell 1
          have a2 := hA1.cell 2
          have a3 := hA1.cell 3
          have a4 := hA1.cell 4
          have b0 := hB1.cell 0
          have b1 := hB1.cell 1
          have b2 := hB1.cell 2
          have b3 := hB1.cell 3
          have b4 := hB1.cell 4
          have f0 := hB1.frozen 0
          have f1 := hB1.frozen 1
          have f2 := hB1.frozen 2
          have f3 := hB1.frozen 3
          have f4 := hB1.frozen 4
          simp at a0 a1 a2 a3 a4 b0 b1 b2 b3 b4
          have kk := grown_trans kb k1
          clear hA hB hA1 k1
          go_wp2_with fail
          refine bodyPost_ret (results_cell_tmp rfl _ _ _ ⟨w.heap.size + 1, 0, none⟩ _ rfl (loadR5 (hB1.set5 _ _ _ _ _))) rfl ?_
          exact ⟨by first | rfl | (rw [hv]; rfl), grown_set5 kk (by omega) _ _ _ _ _⟩
        · have d : decide (r ≤ p) = false := by simpa using hp
          cases d4 : (f == 32)
          · have hv : propE ep v l p f ep r = 0 := by rw [propE_eq h, if_neg hp]; simp at d4; rw [if_neg d4]
            have hfw : wrap64 (f + 1) = f + 1 := by have := (right_yes _ _ _ _ _ hR).2.2.2.2.2.2.2.2; unfold wrap64; omega
            have hl0 := (right_yes _ _ _ _ _ hR).2.2.1
            clear hl0 hp
            go_enter Tryd.func28, Tryd.ntmps28
            go_wp2_with fail
            refine (refRight_is _ _ _ _ _ _).mono ?_
            rintro en w1 ⟨rfl, k1⟩
            have hA1 := hA.grown k1 (by simp)
            have hB1 := hB.grown k1 (by simp)
            have a0 := hA1.cell 0
            have a1 := hA1.cell 1
            have a2 := hA1.cell 2
            have a3 := hA1.cell 3
            have a4 := hA1.cell 4
            have b0 := hB1.cell 0
            have b1 := hB1.cell 1
            have b2 := hB1.cell 2
            have b3 := hB1.cell 3
            have b4 := hB1.cell 4
            have f0 := hB1.frozen 0
            have f1 := hB1.frozen 1
            have f2 := hB1.frozen 2
            have f3 := hB1.frozen 3
            have f4 := hB1.frozen 4
            have fa0 := hA1.frozen 0
            have fa1 := hA1.frozen 1
            have fa2 := hA1.frozen 2
            have fa3 := hA1.frozen 3
            have fa4 := hA1.frozen 4
            simp at a0 a1 a2 a3 a4 b0 b1 b2 b3 b4
            have kk := grown_trans kb k1
            clear hA hB hA1 k1
            go_wp2_with fail
            refine bodyPost_ret (results_cell_tmp rfl _ _ _ ⟨w.heap.size + 1, 0, none⟩ _ rfl (loadR5 (((hB1.far (by simp) _).far (by simp) _).set5 _ _ _ _ _))) rfl ?_
            exact ⟨by first | rfl | (rw [hv, hfw]; rfl), grown_set5 (grown_set1 (grown_set1 kk (by omega) _) (by omega) _) (by omega) _ _ _ _ _⟩
          · have hv : propE ep v l p f ep r = 5 := by rw [propE_eq h, if_neg hp]; simp at d4; rw [if_pos d4]
            go_enter Tryd.func28, Tryd.ntmps28
            go_wp2_with fail
            refine (refRight_is _ _ _ _ _ _).mono ?_
            rintro en w1 ⟨rfl, k1⟩
            have hA1 := hA.grown k1 (by simp)
            have hB1 := hB.grown k1 (by simp)
            have a0 := hA1.cell 0
            have a1 := hA1.cell 1
            have a2 := hA1.cell 2
            have a3 := hA1.cell 3
            have a4 := hA1.cell 4
            have b0 := hB1.cell 0
            have b1 := hB1.cell 1
            have b2 := hB1.cell 2
            have b3 := hB1.cell 3
            have b4 := hB1.cell 4
            have f0 := hB1.frozen 0
            have f1 := hB1.frozen 1
            have f2 := hB1.frozen 2
            have f3 := hB1.frozen 3
            have f4 := hB1.frozen 4
            simp at a0 a1 a2 a3 a4 b0 b1 b2 b3 b4
            have kk := grown_trans kb k1
            clear hA hB hA1 k1
            go_wp2_with fail
            refine bodyPost_ret (results_cell_tmp rfl _ _ _ ⟨w.heap.size + 1, 0, none⟩ _ rfl (loadR5 (hB1.set5 _ _ _ _ _))) rfl ?_
            exact ⟨by first | rfl | (rw [hv]; rfl), grown_set5 kk (by omega) _ _ _ _ _⟩
    · have hv : propE e v l p f ep r = 18 := by have hc : chkN e v l p f ep r = 18 := (by simp [chkN, hR, hep]); simp [propE, hc]
      have hq : (ep == e) = false := by simpa using hep
      have hq' : (ep != e) = true := by simpa using hep
      clear hep
      go_enter Tryd.func28, Tryd.ntmps28
      go_wp2_with fail
      refine (refRight_is _ _ _ _ _ _).mono ?_
      rintro en w1 ⟨rfl, k1⟩
      have hA1 := hA.grown k1 (by simp)
      have hB1 := hB.grown k1 (by simp)
      have a0 := hA1.cell 0
      have a1 := hA1.cell 1
      have a2 := hA1.cell 2
      have a3 := hA1.cell 3
      have a4 := hA1.cell 4
      have b0 := hB1.cell 0
      have b1 := hB1.cell 1
      have b2 := hB1.cell 2
      have b3 := hB1.cell 3
      have b4 := hB1.cell 4
      have f0 := hB1.frozen 0
      have f1 := hB1.frozen 1
      have f2 := hB1.frozen 2
      have f3 := hB1.frozen 3
      have f4 := hB1.frozen 4
      simp at a0 a1 a2 a3 a4 b0 b1 b2 b3 b4
      have kk := grown_trans kb k1
      clear hA hB hA1 k1
      go_wp2_with fail
      refine bodyPost_ret (results_cell_tmp rfl _ _ _ ⟨w.heap.size + 1, 0, none⟩ _ rfl (loadR5 (hB1.set5 _ _ _ _ _))) rfl ?_
      exact ⟨by first | rfl | (rw [hv]; rfl), grown_set5 kk (by omega) _ _ _ _ _⟩
  · have hR' : rightB e v l p f = false := by simpa using hR
    have hv : propE e v l p f ep r = 4 := by have hc : chkN e v l p f ep r = 4 := (by simp [chkN, hR']); simp [propE, hc]
    clear hR
    go_enter Tryd.func28, Tryd.ntmps28
    go_wp2_with fail
    refine (refRight_is _ _ _ _ _ _).mono ?_
    rintro en w1 ⟨rfl, k1⟩
    have hA1 := hA.grown k1 (by simp)
    have hB1 := hB.grown k1 (by simp)
    have a0 := hA1.cell 0
    have a1 := hA1.cell 1
    have a2 := hA1.cell 2
    have a3 := hA1.cell 3
    have a4 := hA1.cell 4
    have b0 := hB1.cell 0
    have b1 := hB1.cell 1
    have b2 := hB1.cell 2
    have b3 := hB1.cell 3
    have b4 := hB1.cell 4
    have f0 := hB1.frozen 0
    have f1 := hB1.frozen 1
    have f2 := hB1.frozen 2
    have f3 := hB1.frozen 3
    have f4 := hB1.frozen 4
    simp at a0 a1 a2 a3 a4 b0 b1 b2 b3 b4
    have kk := grown_trans kb k1
    clear hA hB hA1 k1
    go_wp2_with fail
    refine bodyPost_ret (results_cell_tmp rfl _ _ _ ⟨w.heap.size + 1, 0, none⟩ _ rfl (loadR5 (hB1.set5 _ _ _ _ _))) rfl ?_
    exact ⟨by first | rfl | (rw [hv]; rfl), grown_set5 kk (by omega) _ _ _ _ _⟩

set_option maxHeartbeats 8000000 in
theorem refEnter_is (w : World) (e v l p f ep : Int) :
    Calls Tryd.prog 29 #[stV e v l p f, .int .i64 ep] w fun en w' => en = .returned (.tuple #[if enterE e v l p f ep = 0 then stV ep 0 0 0 f else stV e v l p f, .int .i64 (enterE e v l p f ep : Nat)]) ∧ w.grownBy w' none := by
  have ka := World.grownBy_alloc w (.cells (stC e v l p f) 29) none
  have kb := grown_trans ka (World.grownBy_alloc _ (.cells (stC 0 0 0 0 0) 29) none)
  have hA := (Blk.new w 29 (stC e v l p f)).alloc (.cells (stC 0 0 0 0 0) 29)
  have hB := Blk.new (w.alloc (.cells (stC e v l p f) 29)) 29 (stC 0 0 0 0 0)
  rw [World.size_alloc] at hB
  by_cases hR : rightB e v l p f = true
  · have hw : decide (ep ≤ e) = true ∨ (decide (ep ≤ e) = false ∧ decide ((1073741824 : Int) < ep) = true) ∨ (decide (ep ≤ e) = false ∧ decide ((1073741824 : Int) < ep) = false) := by
      simp only [decide_eq_true_eq, decide_eq_false_iff_not]; omega
    rcases hw with d | ⟨d, d1⟩ | ⟨d, d1⟩
    · have hv : enterE e v l p f ep = 18 := by simp at d; simp [enterE, hR, d]
      go_enter Tryd.func29, Tryd.ntmps29
      go_wp2_with fail
      refine (refRight_is _ _ _ _ _ _).mono ?_
      rintro en w1 ⟨rfl, k1⟩
      have hA1 := hA.grown k1 (by simp)
      have hB1 := hB.grown k1 (by simp)
      have a0 := hA1.cell 0
      have a1 := hA1.cell 1
      have a2 := hA1.cell 2
      have a3 := hA1.cell 3
      have a4 := hA1.cell 4
      have b0 := hB1.cell 0
      have b1 := hB1.cell 1
      have b2 := hB1.cell 2
      have b3 := hB1.cell 3
      have b4 := hB1.cell 4
      have f0 := hB1.frozen 0
      have f1 := hB1.frozen 1
      have f2 := hB1.frozen 2
      have f3 := hB1.frozen 3
      have f4 := hB1.frozen 4
      simp at a0 a1 a2 a3 a4 b0 b1 b2 b3 b4
      have kk := grown_trans kb k1
      clear hA hB hA1 k1
      go_wp2_with fail
      refine bodyPost_ret (results_cell_tmp rfl _ _ _ ⟨w.heap.size + 1, 0, none⟩ _ rfl (loadR5 (hB1.set5 _ _ _ _ _))) rfl ?_
      exact ⟨by first | rfl | (rw [hv]; rfl), grown_set5 kk (by omega) _ _ _ _ _⟩
    · have hv : enterE e v l p f ep = 18 := by simp at d1; simp [enterE, hR, d1]
      go_enter Tryd.func29, Tryd.ntmps29
      go_wp2_with fail
      refine (refRight_is _ _ _ _ _ _).mono ?_
      rintro en w1 ⟨rfl, k1⟩
      have hA1 := hA.grown k1 (by simp)
      have hB1 := hB.grown k1 (by simp)
      have a0 := hA1.cell 0
      have a1 := hA1.cell 1
      have a2 := hA1.cell 2
      have a3 := hA1.cell 3
      have a4 := hA1.cell 4
      have b0 := hB1.cell 0
      have b1 := hB1.cell 1
      have b2 := hB1.cell 2
      have b3 := hB1.cell 3
      have b4 := hB1.cell 4
      have f0 := hB1.frozen 0
      have f1 := hB1.frozen 1
      have f2 := hB1.frozen 2
      have f3 := hB1.frozen 3
      have f4 := hB1.frozen 4
      simp at a0 a1 a2 a3 a4 b0 b1 b2 b3 b4
      have kk := grown_trans kb k1
      clear hA hB hA1 k1
      go_wp2_with fail
      refine bodyPost_ret (results_cell_tmp rfl _ _ _ ⟨w.heap.size + 1, 0, none⟩ _ rfl (loadR5 (hB1.set5 _ _ _ _ _))) rfl ?_
      exact ⟨by first | rfl | (rw [hv]; rfl), grown_set5 kk (by omega) _ _ _ _ _⟩
    · have hv : enterE e v l p f ep = 0 := by simp at d d1; simp [enterE, hR]; omega
      go_enter Tryd.func29, Tryd.ntmps29
      go_wp2_with fail
      refine (refRight_is _ _ _ _ _ _).mono ?_
      rintro en w1 ⟨rfl, k1⟩
      have hA1 := hA.grown k1 (by simp)
      have hB1 := hB.grown k1 (by simp)
      have a0 := hA1.cell 0
      have a1 := hA1.cell 1
      have a2 := hA1.cell 2
      have a3 := hA1.cell 3
      have a4 := hA1.cell 4
      have b0 := hB1.cell 0
      have b1 := hB1.cell 1
      have b2 := hB1.cell 2
      have b3 := hB1.cell 3
      have b4 := hB1.cell 4
      have f0 := hB1.frozen 0
      have f1 := hB1.frozen 1
      have f2 := hB1.frozen 2
      have f3 := hB1.frozen 3
      have f4 := hB1.frozen 4
      simp at a0 a1 a2 a3 a4 b0 b1 b2 b3 b4
      have kk := grown_trans kb k1
      clear hA hB hA1 k1
      go_wp2_with fail
      refine bodyPost_ret (results_cell_tmp rfl _ _ _ ⟨w.heap.size + 1, 0, none⟩ _ rfl (loadR5 (hB1.set5 _ _ _ _ _))) rfl ?_
      exact ⟨by first | rfl | (rw [hv]; rfl), grown_set5 kk (by omega) _ _ _ _ _⟩
  · have hR' : rightB e v l p f = false := by simpa using hR
    have hv : enterE e v l p f ep = 4 := by simp [enterE, hR']
    go_enter Tryd.func29, Tryd.ntmps29
    go_wp2_with fail
    refine (refRight_is _ _ _ _ _ _).mono ?_
    rintro en w1 ⟨rfl, k1⟩
    have hA1 := hA.grown k1 (by simp)
    have hB1 := hB.grown k1 (by simp)
    have a0 := hA1.cell 0
    have a1 := hA1.cell 1
    have a2 := hA1.cell 2
    have a3 := hA1.cell 3
    have a4 := hA1.cell 4
    have b0 := hB1.cell 0
    have b1 := hB1.cell 1
    have b2 := hB1.cell 2
    have b3 := hB1.cell 3
    have b4 := hB1.cell 4
    have f0 := hB1.frozen 0
    have f1 := hB1.frozen 1
    have f2 := hB1.frozen 2
    have f3 := hB1.frozen 3
    have f4 := hB1.frozen 4
    simp at a0 a1 a2 a3 a4 b0 b1 b2 b3 b4
    have kk := grown_trans kb k1
    clear hA hB hA1 k1
    go_wp2_with fail
    refine bodyPost_ret (results_cell_tmp rfl _ _ _ ⟨w.heap.size + 1, 0, none⟩ _ rfl (loadR5 (hB1.set5 _ _ _ _ _))) rfl ?_
    exact ⟨by first | rfl | (rw [hv]; rfl), grown_set5 kk (by omega) _ _ _ _ _⟩
end Go.Proofs.YtjmdlpefacbmmaaDoor
