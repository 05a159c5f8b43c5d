/-
  TallyOnce: at most one key is ever enough; the things by place in a map (pure).
-/
import Derived.Test.YthcilpfcdblmkaaDoorPwCB
import Derived.Test.YthcilpfcdblmkaaDoorTaOQ
import Derived.Maps.OwnSet
namespace Go.Proofs.YthcilpfcdblmkaaDoor
open Go.RowKit Go.Maps

def bK (W : List (Wd Int)) (key : Int) (i : Nat) : Bool := match W[i]? with
  | some x => x.said && decide (x.key = key)
  | none => false
theorem bK_at {W : List (Wd Int)} {key : Int} {i : Nat} (h : i < W.length) : bK W key i = (W[i].said && decide (W[i].key = key)) := by rw [bK, List.getElem?_eq_getElem h]
theorem whoL_upto (W : List (Wd Int)) (key : Int) : ∀ k, k ≤ W.length → placesL (pickK key (toldK W k)) = chosenS (bK W key) k
  | 0, _ => rfl
  | k + 1, h => by
    have hk : k < W.length := by omega
    have ih := whoL_upto W key k (by omega)
    have hb := bK_at (key := key) hk
    cases hs : W[k].said
    · rw [toldK_no hk hs, ih]
      rw [hs, Bool.false_and] at hb
      rw [chosenS_no hb]
    · rw [toldK_yes hk hs]
      rw [hs, Bool.true_and] at hb
      by_cases he : W[k].key = key
      · rw [pickK_yes he, placesL, List.map_append, ← placesL, ih, chosenS_yes (by rw [hb]; simpa using he)]; rfl
      · rw [pickK_no he, ih, chosenS_no (by rw [hb]; simpa using he)]
theorem whoL_chosen (W : List (Wd Int)) (key : Int) : whoL W key = chosenS (bK W key) W.length := whoL_upto W key _ (Nat.le_refl _)
theorem en_eq {V : List Vd} (hr : rightS V = true) {W : List (Wd Int)} (hW : W.length = V.length) (key : Int) : enoughS V (whoL W key) = decide (2 * (powersOf V).sum < 3 * wB V (bK W key) V.length) := by
  rw [whoL_chosen, hW, chosen_enough hr]
/-- Two keys are never both enough. -/
theorem en_two {V : List Vd} (hr : rightS V = true) {W : List (Wd Int)} (hW : W.length = V.length) {k1 k2 : Int} (hk : k1 ≠ k2) (h1 : enoughS V (whoL W k1) = true) (h2 : enoughS V (whoL W k2) = true) : False := by
  rw [en_eq hr hW, decide_eq_true_eq] at h1 h2
  have hb := total_bound hr
  have ha := wB_and V (bK W k1) (bK W k2) V.length
  have hz : wB V (fun i => bK W k1 i && bK W k2 i) V.length = wB V (fun _ => false) V.length := wB_congr V _ (fun i hi => by
    have hi : i < W.length := by omega
    rw [bK_at hi, bK_at hi]
    by_cases h : W[i].key = k1
    · have : ¬ W[i].key = k2 := fun e => hk (h.symm.trans e)
      simp [this]
    · simp [h])
  have h0 : ∀ n, wB V (fun _ => false) n = 0 := fun n => by
    induction n with
    | zero => rfl
    | succ n ih => simp [wB, ih]
  have ho : wB V (fun i => bK W k1 i || bK W k2 i) V.length ≤ wB V (fun _ => true) V.length := wB_mono hr _ (Nat.le_refl _) (fun _ _ _ => rfl)
  rw [wB_total] at ho
  rw [hz, h0] at ha
  omega
theorem bK_set_other {W : List (Wd Int)} {i : Nat} (hi : i < W.length) (hs : W[i].said = false) {key k' x : Int} (hk : k' ≠ key) (j : Nat) : bK (W.set i ⟨true, key, x⟩) k' j = bK W k' j := by
  unfold bK
  rw [List.getElem?_set]
  by_cases h : i = j
  · subst h
    have : ¬ key = k' := fun e => hk e.symm
    simp [hi, hs, this]
  · simp [h]
theorem bK_set_mono {W : List (Wd Int)} {i : Nat} (hi : i < W.length) (hs : W[i].said = false) {key x : Int} (j : Nat) (h : bK W key j = true) : bK (W.set i ⟨true, key, x⟩) key j = true := by
  unfold bK at *
  rw [List.getElem?_set]
  by_cases e : i = j
  · subst e
    simp [hi]
  · simpa [e] using h
/-- How often a word made its key enough. -/
def Cnt (V : List Vd) (W : List (Wd Int)) (y : Nat) : Prop := (y = 0 ∧ ∀ key, enoughS V (whoL W key) = false) ∨ (y = 1 ∧ ∃ key, enoughS V (whoL W key) = true)
theorem cnt_step {V : List Vd} (hr : rightS V = true) {W : List (Wd Int)} (hW : W.length = V.length) {y : Nat} (h : Cnt V W y) (m : Wm) : Cnt V (stepW W m) (y + if yesP V W m then 1 else 0) := by
  by_cases hin : 0 ≤ m.who ∧ m.who < (W.length : Int)
  · obtain ⟨i, hi⟩ : ∃ i : Nat, m.who = (i : Int) := ⟨m.who.toNat, by omega⟩
    have hiw : i < W.length := by omega
    cases hs : W[i].said
    · obtain ⟨c1, c2⟩ := code_put hiw hi hs
      have hlen : (stepW W m).length = V.length := by rw [stepW_length]; exact hW
      have hoth : ∀ k', k' ≠ m.key → enoughS V (whoL (stepW W m) k') = enoughS V (whoL W k') := fun k' hk => by
        rw [en_eq hr hlen, en_eq hr hW, c2, wB_congr V _ (fun j _ => bK_set_other hiw hs hk j)]
      have hmono : enoughS V (whoL W m.key) = true → enoughS V (whoL (stepW W m) m.key) = true := fun h => by
        rw [en_eq hr hW, decide_eq_true_eq] at h
        rw [en_eq hr hlen, decide_eq_true_eq, c2]
        have := wB_mono hr (b := bK W m.key) (c := bK (W.set i ⟨true, m.key, m.thing⟩) m.key) V.length (Nat.le_refl _) (fun j _ hj => bK_set_mono hiw hs j hj)
        omega
      have hy : yesP V W m = (!enoughS V (whoL W m.key) && enoughS V (whoL (stepW W m) m.key)) := by rw [yesP, if_pos c1]
      rcases h with ⟨rfl, h0⟩ | ⟨rfl, k0, h0⟩
      · rw [h0 m.key, Bool.not_false, Bool.true_and] at hy
        cases he : enoughS V (whoL (stepW W m) m.key)
        · rw [he] at hy
          rw [hy]
          refine .inl ⟨rfl, fun key => ?_⟩
          by_cases hk : key = m.key
          · rw [hk]; exact he
          · rw [hoth key hk]; exact h0 key
        · rw [he] at hy
          rw [hy]
          exact .inr ⟨rfl, m.key, he⟩
      · have hno : yesP V W m = false := by
          by_cases hk : k0 = m.key
          · rw [hy, ← hk, h0]; rfl
          · rw [hy]
            cases he : enoughS V (whoL (stepW W m) m.key)
            · simp
            · exact (en_two hr hlen hk (by rw [hoth k0 hk]; exact h0) he).elim
        rw [hno]
        refine .inr ⟨rfl, k0, ?_⟩
        by_cases hk : k0 = m.key
        · rw [hk]; exact hmono (by rw [← hk]; exact h0)
        · rw [hoth k0 hk]; exact h0
    · obtain ⟨c1, c2⟩ := code_twice hiw hi hs
      have hy : yesP V W m = false := by rw [yesP, c1]; rfl
      rw [hy, c2]; exact h
  · obtain ⟨c1, c2⟩ := code_out hin
    have hy : yesP V W m = false := by rw [yesP, c1]; rfl
    rw [hy, c2]; exact h
theorem Cnt.le {V : List Vd} {W : List (Wd Int)} {y : Nat} (h : Cnt V W y) : y ≤ 1 := by rcases h with ⟨rfl, _⟩ | ⟨rfl, _⟩ <;> omega
theorem cnt_start {V : List Vd} (hr : rightS V = true) : Cnt V (List.replicate V.length ⟨false, 0, 0⟩) 0 := by
  refine .inl ⟨rfl, fun key => ?_⟩
  rw [en_eq hr (by simp), decide_eq_false_iff_not]
  have h0 : ∀ n, wB V (bK (List.replicate V.length ⟨false, 0, 0⟩) key) n = 0 := fun n => by
    induction n with
    | zero => rfl
    | succ n ih =>
      have : bK (List.replicate V.length ⟨false, 0, 0⟩) key n = false := by
        unfold bK
        rw [List.getElem?_replicate]
        by_cases h : n < V.length <;> simp [h]
      simp [wB, ih, this]
  have := total_bound hr
  rw [h0]; omega

/-! ### the things by place -/
def keyI (i : Nat) : Lit := .int .i64 (i : Int)
def MapT (D : DataW Unit) (W : List (Wd Int)) : Prop := Maps.size D = (toldL W).length ∧ ∀ i (h : i < W.length), Maps.has D (keyI i) = W[i].said ∧ (W[i].said = true → ∀ z, D.atKey (keyI i) z = .lit (.int .i64 W[i].thing))
theorem keyI_ne {i j : Nat} (h : i ≠ j) : keyI i ≠ keyI j := fun e => by
  unfold keyI at e
  injection e with _ e
  exact h (by omega)
theorem mapT_put {D : DataW Unit} {W : List (Wd Int)} (hT : Tidy D) (h : MapT D W) {i : Nat} (hi : i < W.length) (hs : W[i].said = false) (key x : Int) : MapT (D.put (keyI i) (.lit (.int .i64 x))) (W.set i ⟨true, key, x⟩) := by
  refine ⟨?_, fun j hj => ?_⟩
  · rw [size_put hT, toldL_set_length hi rfl hs, (h.2 i hi).1, hs, h.1]; rfl
  · rw [List.length_set] at hj
    by_cases e : i = j
    · subst e
      refine ⟨?_, fun _ z => ?_⟩
      · rw [has_put_same hT.isMap (show WideAt.IsKeyLit (keyI i) from trivial)]; simp
      · rw [atKey_put_same hT.isMap (show WideAt.IsKeyLit (keyI i) from trivial)]; simp
    · rw [has_put_other (keyI_ne (fun e2 => e e2.symm)), List.getElem_set_ne e]
      refine ⟨(h.2 j hj).1, fun hsj z => ?_⟩
      rw [atKey_put_other (keyI_ne (fun e2 => e e2.symm))]
      exact (h.2 j hj).2 hsj z
theorem mapT_start (n : Nat) : MapT (.map [] : DataW Unit) (List.replicate n ⟨false, 0, 0⟩) := by
  have h0 := (agree_none n).2
  refine ⟨by rw [← h0]; rfl, fun i hi => ⟨by simp; rfl, fun h => by simp at h⟩⟩
def lastP (pre : List (Nat × Wd Int)) : Int := match pre.getLast? with
  | some x => (x.1 : Int)
  | none => -1
theorem lastP_lt {W : List (Wd Int)} {k : Nat} : lastP (toldK W k) < (k : Int) := by
  unfold lastP
  cases h : (toldK W k).getLast? with
  | none => simp; omega
  | some x =>
    have := (toldK_mem (List.mem_of_getLast? h)).1
    simp; omega
theorem lastP_snoc (pre : List (Nat × Wd Int)) (x : Nat × Wd Int) : lastP (pre ++ [x]) = (x.1 : Int) := by simp [lastP]
end Go.Proofs.YthcilpfcdblmkaaDoor
