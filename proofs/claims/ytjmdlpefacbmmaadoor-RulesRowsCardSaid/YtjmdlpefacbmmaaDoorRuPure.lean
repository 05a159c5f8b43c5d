/-
  What the steps of layer 13 keep: plain facts on five ints.
-/
import Derived.Test.YtjmdlpefacbmmaaDoorRuCov
namespace Go.Proofs.YtjmdlpefacbmmaaDoor
open Go.RowKit

theorem right_mk {e v l p f : Int} (h : 0 ≤ v ∧ v ≤ 1099511627776 ∧ 0 ≤ l ∧ l ≤ 1099511627776 ∧ 0 ≤ p ∧ p ≤ 1099511627776 ∧ 0 ≤ e ∧ e ≤ 1073741824 ∧ 0 ≤ f ∧ f ≤ 32) : rightB e v l p f = true := by
  simpa [rightB] using h
theorem chk_facts {e v l p f ep r : Int} (h : chkN e v l p f ep r = 0) : rightB e v l p f = true ∧ ep = e ∧ 1 ≤ r ∧ r ≤ 1099511627776 := by
  unfold chkN at h
  split at h
  · cases h
  · rename_i h1
    split at h
    · cases h
    · rename_i h2
      split at h
      · cases h
      · exact ⟨by simpa using h1, by omega, by omega, by omega⟩
theorem vote_facts {e v l p f ep r q : Int} (h : voteE e v l p f ep r q = 0) : chkN e v l p f ep r = 0 ∧ 0 ≤ q ∧ q < r ∧ v < r ∧ l ≤ q ∧ f ≠ 32 := by
  by_cases hc : chkN e v l p f ep r = 0
  · rw [voteE_eq hc] at h
    split at h
    · cases h
    · split at h
      · cases h
      · split at h
        · cases h
        · split at h
          · cases h
          · exact ⟨hc, by omega, by omega, by omega, by omega, by assumption⟩
  · simp [voteE, hc] at h
theorem late_facts {e v l p f ep r : Int} (h : lateE e v l p f ep r = 0) : chkN e v l p f ep r = 0 ∧ f ≠ 32 := by
  by_cases hc : chkN e v l p f ep r = 0
  · rw [lateE_eq hc] at h
    split at h
    · cases h
    · exact ⟨hc, by assumption⟩
  · simp [lateE, hc] at h
theorem prop_facts {e v l p f ep r : Int} (h : propE e v l p f ep r = 0) : chkN e v l p f ep r = 0 ∧ p < r ∧ f ≠ 32 := by
  by_cases hc : chkN e v l p f ep r = 0
  · rw [propE_eq hc] at h
    split at h
    · cases h
    · split at h
      · cases h
      · exact ⟨hc, by omega, by assumption⟩
  · simp [propE, hc] at h
theorem enter_facts {e v l p f ep : Int} (h : enterE e v l p f ep = 0) : rightB e v l p f = true ∧ e < ep ∧ ep ≤ 1073741824 := by
  unfold enterE at h
  split at h
  · cases h
  · rename_i h1
    split at h
    · cases h
    · exact ⟨by simpa using h1, by omega, by omega⟩
theorem voteL_le (l q g : Int) : l ≤ voteL l q g ∧ (g ≤ q → g ≤ voteL l q g) ∧ (l ≤ q → voteL l q g ≤ q) := by
  unfold voteL
  split <;> omega
theorem lateV_le (v r : Int) : v ≤ lateV v r ∧ r ≤ lateV v r ∧ (lateV v r = v ∨ lateV v r = r) := by
  unfold lateV
  split <;> omega

/-- A step that is taken: its kind, and what it does. -/
theorem step_ways (s : St) (x : Stp) (h : stepE s x = 0) :
    (x.k = 1 ∧ stepR s x = ⟨s.e, x.r, voteL s.l x.q x.g, s.p, s.f + 1⟩ ∧ voteE s.e s.v s.l s.p s.f x.ep x.r x.q = 0) ∨
    (x.k = 2 ∧ stepR s x = ⟨s.e, lateV s.v x.r, s.l, s.p, s.f + 1⟩ ∧ lateE s.e s.v s.l s.p s.f x.ep x.r = 0) ∨
    (x.k = 3 ∧ stepR s x = ⟨s.e, s.v, s.l, x.r, s.f + 1⟩ ∧ propE s.e s.v s.l s.p s.f x.ep x.r = 0) ∨
    (x.k = 4 ∧ stepR s x = ⟨x.ep, 0, 0, 0, s.f⟩ ∧ enterE s.e s.v s.l s.p s.f x.ep = 0) ∨
    (x.k ≠ 1 ∧ x.k ≠ 2 ∧ x.k ≠ 3 ∧ x.k ≠ 4 ∧ stepR s x = s) := by
  by_cases h1 : x.k = 1
  · simp [stepE, h1] at h
    exact .inl ⟨h1, by simp [stepR, h1, voteR, h], h⟩
  · by_cases h2 : x.k = 2
    · simp [stepE, h2] at h
      exact .inr (.inl ⟨h2, by simp [stepR, h2, lateR, h], h⟩)
    · by_cases h3 : x.k = 3
      · simp [stepE, h3] at h
        exact .inr (.inr (.inl ⟨h3, by simp [stepR, h3, propR, h], h⟩))
      · by_cases h4 : x.k = 4
        · simp [stepE, h4] at h
          exact .inr (.inr (.inr (.inl ⟨h4, by simp [stepR, h4, enterR, h], h⟩)))
        · exact .inr (.inr (.inr (.inr ⟨h1, h2, h3, h4, by simp [stepR, h1, h2, h3, h4]⟩)))
theorem step_same' (s : St) (x : Stp) (h : stepE s x ≠ 0) : stepR s x = s := by
  unfold stepE at h
  unfold stepR
  split
  · rename_i h1; simp [h1] at h; simp [voteR, h]
  · split
    · rename_i h1; simp [h1] at h; simp [lateR, h]
    · split
      · rename_i h1; simp [h1] at h; simp [propR, h]
      · split
        · rename_i h1; simp [h1] at h; simp [enterR, h]
        · rfl

def okS (s : St) : Prop := rightB s.e s.v s.l s.p s.f = true
theorem okS_step (s : St) (x : Stp) (h : okS s) : okS (stepR s x) := by
  by_cases h0 : stepE s x = 0
  · have hr := right_yes _ _ _ _ _ h
    rcases step_ways s x h0 with ⟨_, e, h1⟩ | ⟨_, e, h1⟩ | ⟨_, e, h1⟩ | ⟨_, e, h1⟩ | ⟨_, _, _, _, e⟩
    · obtain ⟨hc, q0, q1, q2, q3, q4⟩ := vote_facts h1
      obtain ⟨_, _, c1, c2⟩ := chk_facts hc
      have hl := voteL_le s.l x.q x.g
      have := hl.2.2 q3
      rw [e]
      refine right_mk ?_
      dsimp only
      omega
    · obtain ⟨hc, q4⟩ := late_facts h1
      obtain ⟨_, _, c1, c2⟩ := chk_facts hc
      have hl := lateV_le s.v x.r
      rw [e]
      refine right_mk ?_
      dsimp only
      omega
    · obtain ⟨hc, q1, q4⟩ := prop_facts h1
      obtain ⟨_, _, c1, c2⟩ := chk_facts hc
      rw [e]
      refine right_mk ?_
      dsimp only
      omega
    · obtain ⟨hc, q1, q4⟩ := enter_facts h1
      rw [e]
      refine right_mk ?_
      dsimp only
      omega
    · rw [e]; exact h
  · rw [step_same' s x h0]; exact h
theorem okS_zero : okS ⟨0, 0, 0, 0, 0⟩ := by unfold okS; decide

/-- Each state covers the one ahead. -/
theorem cov_step (s : St) (x : Stp) : covB (stepR s x) s = true := by
  by_cases h0 : stepE s x = 0
  · rcases step_ways s x h0 with ⟨_, e, h1⟩ | ⟨_, e, h1⟩ | ⟨_, e, h1⟩ | ⟨_, e, h1⟩ | ⟨_, _, _, _, e⟩
    · obtain ⟨hc, q0, q1, q2, q3, q4⟩ := vote_facts h1
      have hl := voteL_le s.l x.q x.g
      rw [e]
      simp only [covB, decide_eq_true_eq]
      omega
    · have hl := lateV_le s.v x.r
      rw [e]
      simp only [covB, decide_eq_true_eq]
      omega
    · obtain ⟨hc, q1, q4⟩ := prop_facts h1
      rw [e]
      simp only [covB, decide_eq_true_eq]
      omega
    · obtain ⟨hc, q1, q4⟩ := enter_facts h1
      rw [e]
      simp only [covB, decide_eq_true_eq]
      omega
    · rw [e]; simp [covB]
  · rw [step_same' s x h0]; simp [covB]
/-- A state with a signature isn't covered by the one ahead. -/
theorem cov_not (s : St) (x : Stp) (h0 : stepE s x = 0) (h1 : 1 ≤ x.k) (h4 : x.k ≤ 4) : covB s (stepR s x) = false := by
  rcases step_ways s x h0 with ⟨_, e, h1⟩ | ⟨_, e, h1⟩ | ⟨_, e, h1⟩ | ⟨_, e, h1⟩ | ⟨_, _, _, _, e⟩
  · rw [e]
    simp only [covB, decide_eq_false_iff_not]
    omega
  · rw [e]
    simp only [covB, decide_eq_false_iff_not]
    omega
  · rw [e]
    simp only [covB, decide_eq_false_iff_not]
    omega
  · obtain ⟨hc, q1, q4⟩ := enter_facts h1
    rw [e]
    simp only [covB, decide_eq_false_iff_not]
    omega
  · omega

/-- RulesOnce: what is held behind each step. -/
def onceI (s : St) (last locked : Int) : Prop := okS s ∧ last ≤ s.v ∧ locked ≤ s.l
theorem once_step (s : St) (last locked : Int) (x : Stp) (h : onceI s last locked) (h0 : stepE s x = 0) :
    (x.k = 1 ∧ last < x.r ∧ locked ≤ x.q ∧ (x.g ≤ x.q → onceI (stepR s x) x.r x.g) ∧ onceI (stepR s x) x.r locked) ∨ (x.k = 4 ∧ onceI (stepR s x) 0 0) ∨ (x.k ≠ 1 ∧ x.k ≠ 4 ∧ onceI (stepR s x) last locked) := by
  obtain ⟨hok, hv, hl⟩ := h
  have hok2 := okS_step s x hok
  rcases step_ways s x h0 with ⟨hk, e, h1⟩ | ⟨hk, e, h1⟩ | ⟨hk, e, h1⟩ | ⟨hk, e, h1⟩ | ⟨k1, _, _, k4, e⟩
  · obtain ⟨hc, q0, q1, q2, q3, q4⟩ := vote_facts h1
    have hL := voteL_le s.l x.q x.g
    refine .inl ⟨hk, by omega, by omega, fun hg => ⟨hok2, by rw [e]; exact Int.le_refl _, by rw [e]; exact hL.2.1 hg⟩, hok2, by rw [e]; exact Int.le_refl _, by rw [e]; exact Int.le_trans hl hL.1⟩
  · have hV := lateV_le s.v x.r
    exact .inr (.inr ⟨by omega, by omega, hok2, by rw [e]; exact Int.le_trans hv hV.1, by rw [e]; exact hl⟩)
  · exact .inr (.inr ⟨by omega, by omega, hok2, by rw [e]; exact hv, by rw [e]; exact hl⟩)
  · exact .inr (.inl ⟨hk, hok2, by rw [e]; exact Int.le_refl _, by rw [e]; exact Int.le_refl _⟩)
  · exact .inr (.inr ⟨k1, k4, hok2, by rw [e]; exact hv, by rw [e]; exact hl⟩)

/-- RulesLocks: what is held behind each step. -/
theorem locks_step (s : St) (most : Int) (x : Stp) (h : s.l ≤ most) (h0 : stepE s x = 0) :
    (x.k = 1 ∧ (stepR s x).l ≤ x.q ) ∨ (x.k = 4 ∧ (stepR s x).l ≤ 0) ∨ (x.k ≠ 1 ∧ x.k ≠ 4 ∧ (stepR s x).l ≤ most) := by
  rcases step_ways s x h0 with ⟨hk, e, h1⟩ | ⟨hk, e, h1⟩ | ⟨hk, e, h1⟩ | ⟨hk, e, h1⟩ | ⟨k1, _, _, k4, e⟩
  · obtain ⟨hc, q0, q1, q2, q3, q4⟩ := vote_facts h1
    exact .inl ⟨hk, by rw [e]; exact (voteL_le s.l x.q x.g).2.2 q3⟩
  · exact .inr (.inr ⟨by omega, by omega, by rw [e]; exact h⟩)
  · exact .inr (.inr ⟨by omega, by omega, by rw [e]; exact h⟩)
  · exact .inr (.inl ⟨hk, by rw [e]; exact Int.le_refl _⟩)
  · exact .inr (.inr ⟨k1, k4, by rw [e]; exact h⟩)
end Go.Proofs.YtjmdlpefacbmmaaDoor
