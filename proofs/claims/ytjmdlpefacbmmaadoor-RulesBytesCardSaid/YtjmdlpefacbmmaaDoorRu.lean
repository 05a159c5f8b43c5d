/-
  Package rules' State as five ints: what Right asks; loads, results and comparisons of such values.
-/
import Derived.Test.YtjmdlpefacbmmaaDoorEv
import Derived.LoopTactic
namespace Go.Proofs.YtjmdlpefacbmmaaDoor
open Go.RowKit

abbrev stV (e v l p f : Int) : Value := .agg #[.int .i64 e, .int .i64 v, .int .i64 l, .int .i64 p, .int .i64 f]
abbrev stC (e v l p f : Int) : Array Value := #[.int .i64 e, .int .i64 v, .int .i64 l, .int .i64 p, .int .i64 f]

def rightB (e v l p f : Int) : Bool :=
  decide (0 ≤ v ∧ v ≤ 1099511627776 ∧ 0 ≤ l ∧ l ≤ 1099511627776 ∧ 0 ≤ p ∧ p ≤ 1099511627776 ∧ 0 ≤ e ∧ e ≤ 1073741824 ∧ 0 ≤ f ∧ f ≤ 32)

theorem right_yes (e v l p f : Int) (h : rightB e v l p f = true) :
    0 ≤ v ∧ v ≤ 1099511627776 ∧ 0 ≤ l ∧ l ≤ 1099511627776 ∧ 0 ≤ p ∧ p ≤ 1099511627776 ∧ 0 ≤ e ∧ e ≤ 1073741824 ∧ 0 ≤ f ∧ f ≤ 32 := by
  simpa [rightB] using h

/-- The ways through the tests of the three rounds. -/
theorem rounds_ways (v l p : Int) :
    ((decide (v < 0) = true) ∨
    (decide (v < 0) = false ∧ decide (1099511627776 < v) = true) ∨
    (decide (v < 0) = false ∧ decide (1099511627776 < v) = false ∧ decide (l < 0) = true) ∨
    (decide (v < 0) = false ∧ decide (1099511627776 < v) = false ∧ decide (l < 0) = false ∧ decide (1099511627776 < l) = true) ∨
    (decide (v < 0) = false ∧ decide (1099511627776 < v) = false ∧ decide (l < 0) = false ∧ decide (1099511627776 < l) = false ∧ decide (p < 0) = true) ∨
    (decide (v < 0) = false ∧ decide (1099511627776 < v) = false ∧ decide (l < 0) = false ∧ decide (1099511627776 < l) = false ∧ decide (p < 0) = false ∧ decide (1099511627776 < p) = true)) ∨
    (decide (v < 0) = false ∧ decide (1099511627776 < v) = false ∧ decide (l < 0) = false ∧ decide (1099511627776 < l) = false ∧ decide (p < 0) = false ∧ decide (1099511627776 < p) = false) := by
  simp only [decide_eq_true_eq, decide_eq_false_iff_not]
  omega
/-- The ways through the tests of epoch and leaf. -/
theorem ends_ways (e f : Int) :
    ((decide (0 ≤ e) = false) ∨
    (decide (0 ≤ e) = true ∧ decide (e ≤ 1073741824) = false) ∨
    (decide (0 ≤ e) = true ∧ decide (e ≤ 1073741824) = true ∧ decide (0 ≤ f) = false) ∨
    (decide (0 ≤ e) = true ∧ decide (e ≤ 1073741824) = true ∧ decide (0 ≤ f) = true ∧ decide (f ≤ 32) = false)) ∨
    (decide (0 ≤ e) = true ∧ decide (e ≤ 1073741824) = true ∧ decide (0 ≤ f) = true ∧ decide (f ≤ 32) = true) := by
  simp only [decide_eq_true_eq, decide_eq_false_iff_not]
  omega

theorem results_cell_tmp {fn : Func} {s u : Tmp} {t : TypeId} (h : fn.results = #[.cell s t, .tmp u]) (tmps : Array Value) (P : Program) (w : World) (p : Addr) (v : Value)
    (hp : tmps.getD s undef = .pointer (some p)) (hl : (loadVar t p).run P w = .ok v w) : (results fn tmps).run P w = .ok (.tuple #[v, tmps.getD u undef]) w := by
  have hq : tmps[s]?.getD undef = .pointer (some p) := by simpa using hp
  simp [results, h, hq, asAddr, hl]
theorem results_cell {fn : Func} {s : Tmp} {t : TypeId} (h : fn.results = #[.cell s t]) (tmps : Array Value) (P : Program) (w : World) (p : Addr) (v : Value)
    (hp : tmps.getD s undef = .pointer (some p)) (hl : (loadVar t p).run P w = .ok v w) : (results fn tmps).run P w = .ok v w := by
  have hq : tmps[s]?.getD undef = .pointer (some p) := by simpa using hp
  simp [results, h, hq, asAddr, hl]

/-! ### rounds, Right -/
theorem rounds_is (w : World) (e v l p f : Int) :
    Calls Tryd.prog 30 #[stV e v l p f] w fun en w' => en = .returned (.agg #[.int .i64 v, .int .i64 l, .int .i64 p]) ∧ w.grownBy w' none := by
  go_enter Tryd.func30, Tryd.ntmps30
  go_wp2_with fail
  refine bodyPost_ret (results_cell rfl _ _ _ ⟨w.heap.size + 1, 0, none⟩ (.agg #[.int .i64 v, .int .i64 l, .int .i64 p]) rfl ?_) rfl ?_
  · go_simp
  · exact ⟨rfl, grown_trans (World.grownBy_alloc w _ none) (World.grownBy_alloc _ _ none)⟩

/-- The index's facts, and what the walk wants of the state's own block. -/
theorem idx3 (x y z : Value) (w : World) : (Instr.index 56 (.agg #[x, y, z]) (.int .i64 0)).run Tryd.prog w = .ok x w ∧ (Instr.index 56 (.agg #[x, y, z]) (.int .i64 1)).run Tryd.prog w = .ok y w ∧ (Instr.index 56 (.agg #[x, y, z]) (.int .i64 2)).run Tryd.prog w = .ok z w :=
  ⟨by kernel_rfl, by kernel_rfl, by kernel_rfl⟩

theorem right_is (w : World) (e v l p f : Int) :
    Calls Tryd.prog 13 #[stV e v l p f] w fun en w' => en = .returned (.bool (rightB e v l p f)) ∧ w.grownBy w' none := by
  have i0 := fun w => (idx3 (.int .i64 v) (.int .i64 l) (.int .i64 p) w).1
  have i1 := fun w => (idx3 (.int .i64 v) (.int .i64 l) (.int .i64 p) w).2.1
  have i2 := fun w => (idx3 (.int .i64 v) (.int .i64 l) (.int .i64 p) w).2.2
  rcases rounds_ways v l p with hd | ⟨d, d1, d2, d3, d4, d5⟩
  · rcases hd with d | ⟨d, d1⟩ | ⟨d, d1, d2⟩ | ⟨d, d1, d2, d3⟩ | ⟨d, d1, d2, d3, d4⟩ | ⟨d, d1, d2, d3, d4, d5⟩
    all_goals
      have hv : rightB e v l p f = false := by simp only [rightB, decide_eq_false_iff_not, decide_eq_true_eq] at *; omega
      go_enter Tryd.func13, Tryd.ntmps13
      go_wp2_with fail
      refine (rounds_is _ _ _ _ _ _).mono ?_
      rintro en w1 ⟨rfl, k1⟩
      go_wp2_with fail
      refine wp_loop_rounds 4 ?_
      rw [rounds_succ]
      go_wp2_with fail
      try (rw [rounds_succ]; go_wp2_with fail)
      try (rw [rounds_succ]; go_wp2_with fail)
      go_ret
      exact ⟨by rw [hv]; rfl, grown_trans (World.grownBy_alloc w _ none) k1⟩
  · rcases ends_ways e f with hb | ⟨b, b1, b2, b3⟩
    · rcases hb with b | ⟨b, b1⟩ | ⟨b, b1, b2⟩ | ⟨b, b1, b2, b3⟩
      all_goals
        have hv : rightB e v l p f = false := by simp only [rightB, decide_eq_false_iff_not, decide_eq_true_eq] at *; omega
        go_enter Tryd.func13, Tryd.ntmps13
        go_wp2_with fail
        refine (rounds_is _ _ _ _ _ _).mono ?_
        rintro en w1 ⟨rfl, k1⟩
        have hb := (Blk.new w 23 (stC e v l p f)).grown k1 (by simp)
        have c0 := hb.cell 0
        have c4 := hb.cell 4
        simp at c0 c4
        have kk := grown_trans (World.grownBy_alloc w (.cells (stC e v l p f) 23) none) k1
        clear hb k1
        go_wp2_with fail
        refine wp_loop_rounds 4 ?_
        rw [rounds_succ]
        go_wp2_with fail
        rw [rounds_succ]
        go_wp2_with fail
        rw [rounds_succ]
        go_wp2_with fail
        rw [rounds_succ]
        go_wp2_with fail
        go_ret
        exact ⟨by rw [hv]; rfl, kk⟩
    · have hv : rightB e v l p f = true := by simp only [rightB, decide_eq_false_iff_not, decide_eq_true_eq] at *; omega
      go_enter Tryd.func13, Tryd.ntmps13
      go_wp2_with fail
      refine (rounds_is _ _ _ _ _ _).mono ?_
      rintro en w1 ⟨rfl, k1⟩
      have hb := (Blk.new w 23 (stC e v l p f)).grown k1 (by simp)
      have c0 := hb.cell 0
      have c4 := hb.cell 4
      simp at c0 c4
      have kk := grown_trans (World.grownBy_alloc w (.cells (stC e v l p f) 23) none) k1
      clear hb k1
      go_wp2_with fail
      refine wp_loop_rounds 4 ?_
      rw [rounds_succ]
      go_wp2_with fail
      rw [rounds_succ]
      go_wp2_with fail
      rw [rounds_succ]
      go_wp2_with fail
      rw [rounds_succ]
      go_wp2_with fail
      go_ret
      exact ⟨by rw [hv]; rfl, kk⟩
end Go.Proofs.YtjmdlpefacbmmaaDoor
