/-
  Several texts in one: Ru, Ru2, Ru3, Ru4, Ru5, Ru6, Ru7, RuCov, RuPure.
-/
import Derived.Test.YthkjlgjbjjjohaaGreatDoorErrA
import Derived.LoopTactic
import Derived.Deep.RegionHeld3
import Derived.Deep.RegionWith
/-
  Package rules' State as five ints: what Right asks; loads, results and comparisons of such values.
-/
namespace Go.Proofs.YthkjlgjbjjjohaaGreatDoor
open Go.RowKit

abbrev stV (e v l p f : Int) : Value := .agg #[.int .i64 e, .int .i64 v, .int .i64 l, .int .i64 p, .int .i64 f]
abbrev stC (e v l p f : Int) : Array Value := #[.int .i64 e, .int .i64 v, .int .i64 l, .int .i64 p, .int .i64 f]

def rightB (e v l p f : Int) : Bool :=
  decide (0 ≤ v ∧ v ≤ 1099511627776 ∧ 0 ≤ l ∧ l ≤ 1099511627776 ∧ 0 ≤ p ∧ p ≤ 1099511627776 ∧ 0 ≤ e ∧ e ≤ 1073741824 ∧ 0 ≤ f ∧ f ≤ 32)

theorem right_yes (e v l p f : Int) (h : rightB e v l p f = true) :
    0 ≤ v ∧ v ≤ 1099511627776 ∧ 0 ≤ l ∧ l ≤ 1099511627776 ∧ 0 ≤ p ∧ p ≤ 1099511627776 ∧ 0 ≤ e ∧ e ≤ 1073741824 ∧ 0 ≤ f ∧ f ≤ 32 := by
  simpa [rightB] using h

/-- The ways through the tests of the three rounds. -/
theorem rounds_ways (v l p : Int) :
    ((decide (v < 0) = true) ∨
    (decide (v < 0) = false ∧ decide (1099511627776 < v) = true) ∨
    (decide (v < 0) = false ∧ decide (1099511627776 < v) = false ∧ decide (l < 0) = true) ∨
    (decide (v < 0) = false ∧ decide (1099511627776 < v) = false ∧ decide (l < 0) = false ∧ decide (1099511627776 < l) = true) ∨
    (decide (v < 0) = false ∧ decide (1099511627776 < v) = false ∧ decide (l < 0) = false ∧ decide (1099511627776 < l) = false ∧ decide (p < 0) = true) ∨
    (decide (v < 0) = false ∧ decide (1099511627776 < v) = false ∧ decide (l < 0) = false ∧ decide (1099511627776 < l) = false ∧ decide (p < 0) = false ∧ decide (1099511627776 < p) = true)) ∨
    (decide (v < 0) = false ∧ decide (1099511627776 < v) = false ∧ decide (l < 0) = false ∧ decide (1099511627776 < l) = false ∧ decide (p < 0) = false ∧ decide (1099511627776 < p) = false) := by
  simp only [decide_eq_true_eq, decide_eq_false_iff_not]
  omega
/-- The ways through the tests of epoch and leaf. -/
theorem ends_ways (e f : Int) :
    ((decide (0 ≤ e) = false) ∨
    (decide (0 ≤ e) = true ∧ decide (e ≤ 1073741824) = false) ∨
    (decide (0 ≤ e) = true ∧ decide (e ≤ 1073741824) = true ∧ decide (0 ≤ f) = false) ∨
    (decide (0 ≤ e) = true ∧ decide (e ≤ 1073741824) = true ∧ decide (0 ≤ f) = true ∧ decide (f ≤ 32) = false)) ∨
    (decide (0 ≤ e) = true ∧ decide (e ≤ 1073741824) = true ∧ decide (0 ≤ f) = true ∧ decide (f ≤ 32) = true) := by
  simp only [decide_eq_true_eq, decide_eq_false_iff_not]
  omega

theorem results_cell_tmp {fn : Func} {s u : Tmp} {t : TypeId} (h : fn.results = #[.cell s t, .tmp u]) (tmps : Array Value) (P : Program) (w : World) (p : Addr) (v : Value)
    (hp : tmps.getD s undef = .pointer (some p)) (hl : (loadVar t p).run P w = .ok v w) : (results fn tmps).run P w = .ok (.tuple #[v, tmps.getD u undef]) w := by
  have hq : tmps[s]?.getD undef = .pointer (some p) := by simpa using hp
  simp [results, h, hq, asAddr, hl]
theorem results_cellR13 {fn : Func} {s : Tmp} {t : TypeId} (h : fn.results = #[.cell s t]) (tmps : Array Value) (P : Program) (w : World) (p : Addr) (v : Value)
    (hp : tmps.getD s undef = .pointer (some p)) (hl : (loadVar t p).run P w = .ok v w) : (results fn tmps).run P w = .ok v w := by
  have hq : tmps[s]?.getD undef = .pointer (some p) := by simpa using hp
  simp [results, h, hq, asAddr, hl]

/-! ### rounds, Right -/
theorem rounds_is (w : World) (e v l p f : Int) :
    Calls Tryz.prog 114 #[stV e v l p f] w fun en w' => en = .returned (.agg #[.int .i64 v, .int .i64 l, .int .i64 p]) ∧ w.grownBy w' none := by
  go_enter Tryz.func114, Tryz.ntmps114
  go_wp2_with fail
  refine bodyPost_ret (results_cellR13 rfl _ _ _ ⟨w.heap.size + 1, 0, none⟩ (.agg #[.int .i64 v, .int .i64 l, .int .i64 p]) rfl ?_) rfl ?_
  · go_simp
  · exact ⟨rfl, grown_trans (World.grownBy_alloc w _ none) (World.grownBy_alloc _ _ none)⟩

/-- The index's facts, and what the walk wants of the state's own block. -/
theorem idx3 (x y z : Value) (w : World) : (Instr.index 181 (.agg #[x, y, z]) (.int .i64 0)).run Tryz.prog w = .ok x w ∧ (Instr.index 181 (.agg #[x, y, z]) (.int .i64 1)).run Tryz.prog w = .ok y w ∧ (Instr.index 181 (.agg #[x, y, z]) (.int .i64 2)).run Tryz.prog w = .ok z w :=
  ⟨by kernel_rfl, by kernel_rfl, by kernel_rfl⟩

theorem right_is (w : World) (e v l p f : Int) :
    Calls Tryz.prog 76 #[stV e v l p f] w fun en w' => en = .returned (.bool (rightB e v l p f)) ∧ w.grownBy w' none := by
  have i0 := fun w => (idx3 (.int .i64 v) (.int .i64 l) (.int .i64 p) w).1
  have i1 := fun w => (idx3 (.int .i64 v) (.int .i64 l) (.int .i64 p) w).2.1
  have i2 := fun w => (idx3 (.int .i64 v) (.int .i64 l) (.int .i64 p) w).2.2
  rcases rounds_ways v l p with hd | ⟨d, d1, d2, d3, d4, d5⟩
  · rcases hd with d | ⟨d, d1⟩ | ⟨d, d1, d2⟩ | ⟨d, d1, d2, d3⟩ | ⟨d, d1, d2, d3, d4⟩ | ⟨d, d1, d2, d3, d4, d5⟩
    all_goals
      have hv : rightB e v l p f = false := by simp only [rightB, decide_eq_false_iff_not, decide_eq_true_eq] at *; omega
      go_enter Tryz.func76, Tryz.ntmps76
      go_wp2_with fail
      refine (rounds_is _ _ _ _ _ _).mono ?_
      rintro en w1 ⟨rfl, k1⟩
      go_wp2_with fail
      refine wp_loop_rounds 4 ?_
      rw [rounds_succ]
      go_wp2_with fail
      try (rw [rounds_succ]; go_wp2_with fail)
      try (rw [rounds_succ]; go_wp2_with fail)
      go_ret
      exact ⟨by rw [hv]; rfl, grown_trans (World.grownBy_alloc w _ none) k1⟩
  · rcases ends_ways e f with hb | ⟨b, b1, b2, b3⟩
    · rcases hb with b | ⟨b, b1⟩ | ⟨b, b1, b2⟩ | ⟨b, b1, b2, b3⟩
      all_goals
        have hv : rightB e v l p f = false := by simp only [rightB, decide_eq_false_iff_not, decide_eq_true_eq] at *; omega
        go_enter Tryz.func76, Tryz.ntmps76
        go_wp2_with fail
        refine (rounds_is _ _ _ _ _ _).mono ?_
        rintro en w1 ⟨rfl, k1⟩
        have hb := (Blk.new w 46 (stC e v l p f)).grown k1 (by simp)
        have c0 := hb.cell 0
        have c4 := hb.cell 4
        simp at c0 c4
        have kk := grown_trans (World.grownBy_alloc w (.cells (stC e v l p f) 46) none) k1
        clear hb k1
        go_wp2_with fail
        refine wp_loop_rounds 4 ?_
        rw [rounds_succ]
        go_wp2_with fail
        rw [rounds_succ]
        go_wp2_with fail
        rw [rounds_succ]
        go_wp2_with fail
        rw [rounds_succ]
        go_wp2_with fail
        go_ret
        exact ⟨by rw [hv]; rfl, kk⟩
    · have hv : rightB e v l p f = true := by simp only [rightB, decide_eq_false_iff_not, decide_eq_true_eq] at *; omega
      go_enter Tryz.func76, Tryz.ntmps76
      go_wp2_with fail
      refine (rounds_is _ _ _ _ _ _).mono ?_
      rintro en w1 ⟨rfl, k1⟩
      have hb := (Blk.new w 46 (stC e v l p f)).grown k1 (by simp)
      have c0 := hb.cell 0
      have c4 := hb.cell 4
      simp at c0 c4
      have kk := grown_trans (World.grownBy_alloc w (.cells (stC e v l p f) 46) none) k1
      clear hb k1
      go_wp2_with fail
      refine wp_loop_rounds 4 ?_
      rw [rounds_succ]
      go_wp2_with fail
      rw [rounds_succ]
      go_wp2_with fail
      rw [rounds_succ]
      go_wp2_with fail
      rw [rounds_succ]
      go_wp2_with fail
      go_ret
      exact ⟨by rw [hv]; rfl, kk⟩
end Go.Proofs.YthkjlgjbjjjohaaGreatDoor
/-
  Package rules: the document's Right, check and spend.
-/
namespace Go.Proofs.YthkjlgjbjjjohaaGreatDoor
open Go.RowKit

set_option maxHeartbeats 2000000 in
theorem refRight_is (w : World) (e v l p f : Int) :
    Calls Tryz.prog 28 #[stV e v l p f] w fun en w' => en = .returned (.bool (rightB e v l p f)) ∧ w.grownBy w' none := by
  have kk := grown_trans (World.grownBy_alloc w (.cells (stC e v l p f) 38) none) (World.grownBy_alloc _ (.cells #[.int .i64 v, .int .i64 l, .int .i64 p] 3) none)
  rcases rounds_ways v l p with hd | ⟨d, d1, d2, d3, d4, d5⟩
  · rcases hd with d | ⟨d, d1⟩ | ⟨d, d1, d2⟩ | ⟨d, d1, d2, d3⟩ | ⟨d, d1, d2, d3, d4⟩ | ⟨d, d1, d2, d3, d4, d5⟩
    all_goals
      have hv : rightB e v l p f = false := by simp only [rightB, decide_eq_false_iff_not, decide_eq_true_eq] at *; omega
      go_enter Tryz.func28, Tryz.ntmps28
      go_wp2_with fail
      refine wp_loop_rounds 4 ?_
      rw [rounds_succ]
      go_wp2_with fail
      try (rw [rounds_succ]; go_wp2_with fail)
      try (rw [rounds_succ]; go_wp2_with fail)
      go_ret
      exact ⟨by rw [hv]; rfl, kk⟩
  · rcases ends_ways e f with hb | ⟨b, b1, b2, b3⟩
    · rcases hb with b | ⟨b, b1⟩ | ⟨b, b1, b2⟩ | ⟨b, b1, b2, b3⟩
      all_goals
        have hv : rightB e v l p f = false := by simp only [rightB, decide_eq_false_iff_not, decide_eq_true_eq] at *; omega
        go_enter Tryz.func28, Tryz.ntmps28
        go_wp2_with fail
        refine wp_loop_rounds 4 ?_
        rw [rounds_succ]
        go_wp2_with fail
        rw [rounds_succ]
        go_wp2_with fail
        rw [rounds_succ]
        go_wp2_with fail
        rw [rounds_succ]
        go_wp2_with fail
        go_ret
        exact ⟨by rw [hv]; rfl, kk⟩
    · have hv : rightB e v l p f = true := by simp only [rightB, decide_eq_false_iff_not, decide_eq_true_eq] at *; omega
      go_enter Tryz.func28, Tryz.ntmps28
      go_wp2_with fail
      refine wp_loop_rounds 4 ?_
      rw [rounds_succ]
      go_wp2_with fail
      rw [rounds_succ]
      go_wp2_with fail
      rw [rounds_succ]
      go_wp2_with fail
      rw [rounds_succ]
      go_wp2_with fail
      go_ret
      exact ⟨by rw [hv]; rfl, kk⟩

section
variable {w : World} {B : Nat} {E : Nat → Addr}
theorem ErrEnv.form (he : ErrEnv w B E) : w.cell? ⟨1, 0, none⟩ = some (errV (E 3)) := (he.var 3 (by omega)).1
theorem ErrEnv.spent (he : ErrEnv w B E) : w.cell? ⟨5, 0, none⟩ = some (errV (E 4)) := (he.var 4 (by omega)).1
theorem ErrEnv.old (he : ErrEnv w B E) : w.cell? ⟨9, 0, none⟩ = some (errV (E 9)) := (he.var 9 (by omega)).1
theorem ErrEnv.round (he : ErrEnv w B E) : w.cell? ⟨13, 0, none⟩ = some (errV (E 13)) := (he.var 13 (by omega)).1
theorem ErrEnv.unsafeE (he : ErrEnv w B E) : w.cell? ⟨14, 0, none⟩ = some (errV (E 14)) := (he.var 14 (by omega)).1
theorem ErrEnv.epoch (he : ErrEnv w B E) : w.cell? ⟨17, 0, none⟩ = some (errV (E 17)) := (he.var 17 (by omega)).1
end

def chkN (e v l p f ep r : Int) : Nat := if rightB e v l p f = false then 4 else if ep ≠ e then 18 else if r < 1 ∨ 1099511627776 < r then 14 else 0

theorem check_is (w : World) (B : Nat) (E : Nat → Addr) (he : ErrEnv w B E) (e v l p f ep r : Int) :
    Calls Tryz.prog 89 #[stV e v l p f, .int .i64 ep, .int .i64 r] w fun en w' => en = .returned (evOf E (chkN e v l p f ep r)) ∧ w.grownBy w' none := by
  have ka := World.grownBy_alloc w (.cells (stC e v l p f) 46) none
  have hb := Blk.new w 46 (stC e v l p f)
  by_cases hR : rightB e v l p f = true
  · by_cases hep : ep = e
    · subst hep
      have hw : decide (r < (1 : Int)) = true ∨ (decide (r < (1 : Int)) = false ∧ decide ((1099511627776 : Int) < r) = true) ∨ (decide (r < (1 : Int)) = false ∧ decide ((1099511627776 : Int) < r) = false) := by
        simp only [decide_eq_true_eq, decide_eq_false_iff_not]; omega
      rcases hw with d | ⟨d, d1⟩ | ⟨d, d1⟩
      · have hv : chkN ep v l p f ep r = 14 := by simp [chkN, hR]; simp at d; omega
        go_enter Tryz.func89, Tryz.ntmps89
        go_wp2_with fail
        refine (right_is _ _ _ _ _ _).mono ?_
        rintro en w1 ⟨rfl, k1⟩
        have c0 := (hb.grown k1 (by simp)).cell 0
        simp at c0
        have g13 := ((he.grown ka (by simp)).grown k1 (by simp)).round
        go_wp2_with fail
        go_ret
        exact ⟨by rw [hv]; rfl, grown_trans ka k1⟩
      · have hv : chkN ep v l p f ep r = 14 := by simp [chkN, hR]; simp at d1; omega
        go_enter Tryz.func89, Tryz.ntmps89
        go_wp2_with fail
        refine (right_is _ _ _ _ _ _).mono ?_
        rintro en w1 ⟨rfl, k1⟩
        have c0 := (hb.grown k1 (by simp)).cell 0
        simp at c0
        have g13 := ((he.grown ka (by simp)).grown k1 (by simp)).round
        go_wp2_with fail
        go_ret
        exact ⟨by rw [hv]; rfl, grown_trans ka k1⟩
      · have hv : chkN ep v l p f ep r = 0 := by simp [chkN, hR]; simp at d d1; omega
        go_enter Tryz.func89, Tryz.ntmps89
        go_wp2_with fail
        refine (right_is _ _ _ _ _ _).mono ?_
        rintro en w1 ⟨rfl, k1⟩
        have c0 := (hb.grown k1 (by simp)).cell 0
        simp at c0
        go_wp2_with fail
        go_ret
        exact ⟨by rw [hv]; rfl, grown_trans ka k1⟩
    · have hv : chkN e v l p f ep r = 18 := by simp [chkN, hR, hep]
      have hq : (ep == e) = false := by simpa using hep
      have hq' : (ep != e) = true := by simpa using hep
      clear hep
      go_enter Tryz.func89, Tryz.ntmps89
      go_wp2_with fail
      refine (right_is _ _ _ _ _ _).mono ?_
      rintro en w1 ⟨rfl, k1⟩
      have c0 := (hb.grown k1 (by simp)).cell 0
      simp at c0
      have g17 := ((he.grown ka (by simp)).grown k1 (by simp)).epoch
      go_wp2_with fail
      go_ret
      exact ⟨by rw [hv]; rfl, grown_trans ka k1⟩
  · have hR' : rightB e v l p f = false := by simpa using hR
    have hv : chkN e v l p f ep r = 4 := by simp [chkN, hR']
    clear hR
    go_enter Tryz.func89, Tryz.ntmps89
    go_wp2_with fail
    refine (right_is _ _ _ _ _ _).mono ?_
    rintro en w1 ⟨rfl, k1⟩
    have g3 := ((he.grown ka (by simp)).grown k1 (by simp)).form
    go_wp2_with fail
    go_ret
    exact ⟨by rw [hv]; rfl, grown_trans ka k1⟩
end Go.Proofs.YthkjlgjbjjjohaaGreatDoor
/-
  Package rules: Vote.
-/

namespace Go.Proofs.YthkjlgjbjjjohaaGreatDoor
open Go.RowKit

theorem check_ok (w : World) (B : Nat) (E : Nat → Addr) (he : ErrEnv w B E) (e v l p f ep r : Int) (h : chkN e v l p f ep r = 0) :
    Calls Tryz.prog 89 #[stV e v l p f, .int .i64 ep, .int .i64 r] w fun en w' => en = .returned .nilIface ∧ w.grownBy w' none :=
  (check_is w B E he e v l p f ep r).mono fun en w' ⟨h1, h2⟩ => ⟨by rw [h1, h]; rfl, h2⟩
theorem check_bad (w : World) (B : Nat) (E : Nat → Addr) (he : ErrEnv w B E) (e v l p f ep r : Int) (k : Nat) (h : chkN e v l p f ep r = k + 1) :
    Calls Tryz.prog 89 #[stV e v l p f, .int .i64 ep, .int .i64 r] w fun en w' => en = .returned (errV (E k)) ∧ w.grownBy w' none :=
  (check_is w B E he e v l p f ep r).mono fun en w' ⟨h1, h2⟩ => ⟨by rw [h1, h]; rfl, h2⟩
theorem load5 {w : World} {g : Nat} {x0 x1 x2 x3 x4 : Value} (h : Blk w g 46 #[x0, x1, x2, x3, x4]) : (loadVar 46 ⟨g, 0, none⟩).run Tryz.prog w = .ok (.agg #[x0, x1, x2, x3, x4]) w := by
  have c0 := h.cell 0
  have c1 := h.cell 1
  have c2 := h.cell 2
  have c3 := h.cell 3
  have c4 := h.cell 4
  simp at c0 c1 c2 c3 c4
  clear h
  go_simp
theorem Blk.set5 {w : World} {g : Nat} {t : TypeId} {y0 y1 y2 y3 y4 : Value} (h : Blk w g t #[y0, y1, y2, y3, y4]) (x0 x1 x2 x3 x4 : Value) :
    Blk (((((w.setCell ⟨g, 0, none⟩ x0).setCell ⟨g, 1, none⟩ x1).setCell ⟨g, 2, none⟩ x2).setCell ⟨g, 3, none⟩ x3).setCell ⟨g, 4, none⟩ x4) g t #[x0, x1, x2, x3, x4] := by
  have := ((((h.set 0 x0).set 1 x1).set 2 x2).set 3 x3).set 4 x4
  simpa using this
theorem grown_set5 {w w1 : World} (hg : w.grownBy w1 none) {g : Nat} (hB : w.heap.size ≤ g) (x0 x1 x2 x3 x4 : Value) :
    w.grownBy (((((w1.setCell ⟨g, 0, none⟩ x0).setCell ⟨g, 1, none⟩ x1).setCell ⟨g, 2, none⟩ x2).setCell ⟨g, 3, none⟩ x3).setCell ⟨g, 4, none⟩ x4) none :=
  ((((((Kept.of_grown (F := fun _ => False) hg (fun _ h => by cases h)).set (p := ⟨g, 0, none⟩) (.inr hB) _).set (p := ⟨g, 1, none⟩) (.inr hB) _).set (p := ⟨g, 2, none⟩) (.inr hB) _).set (p := ⟨g, 3, none⟩) (.inr hB) _).set (p := ⟨g, 4, none⟩) (.inr hB) _).grownNone (fun _ _ h => h)
theorem spend_bad (w : World) (B : Nat) (E : Nat → Addr) (he : ErrEnv w B E) (g : Nat) (e v l p f : Int) (hb : Blk w g 46 (stC e v l p f)) (h : (f == 32) = true) :
    Calls Tryz.prog 90 #[.pointer (some ⟨g, 0, none⟩)] w fun en w' => en = .returned (errV (E 4)) ∧ w.grownBy w' (some g) := by
  have c4 := hb.cell 4
  have gv := he.spent
  simp at c4
  clear hb
  go_enter Tryz.func90, Tryz.ntmps90
  go_wp2
  go_ret
  exact ⟨rfl, World.grownBy.refl _ _⟩
theorem spend_ok (w : World) (g : Nat) (e v l p f : Int) (hb : Blk w g 46 (stC e v l p f)) (h : (f == 32) = false) (hf : 0 ≤ f ∧ f ≤ 32) :
    Calls Tryz.prog 90 #[.pointer (some ⟨g, 0, none⟩)] w fun en w' => en = .returned .nilIface ∧ Blk w' g 46 (stC e v l p (f + 1)) ∧ w.grownBy w' (some g) := by
  have c4 := hb.cell 4
  have f4 := hb.frozen 4
  have hs := hb.set 4 (.int .i64 (f + 1))
  have hw : wrap64 (f + 1) = f + 1 := by unfold wrap64; omega
  simp at c4
  clear hb hf
  go_enter Tryz.func90, Tryz.ntmps90
  go_wp2
  go_ret
  rw [hw]
  refine ⟨rfl, by simpa using hs, (Kept.refl (fun k => k = g) w).set (.inl rfl) _ |>.os, rfl, rfl, ?_, ?_⟩
  · simp [World.setCell]
  · exact fun k _ hne => Below.heap_setCell w ⟨g, 4, none⟩ _ k (fun e => hne (by rw [e]))

theorem far_var {w : World} {g : Nat} {v : Value} (h : w.cell? ⟨g, 0, none⟩ = some v) : ¬ g = w.heap.size + 1 := by
  have := World.block_lt_of_cell? w _ h
  simp only at this
  omega

def voteE (e v l p f ep r q : Int) : Nat :=
  if chkN e v l p f ep r ≠ 0 then chkN e v l p f ep r else if q < 0 ∨ r ≤ q then 14 else if r ≤ v then 10 else if q < l then 15 else if f = 32 then 5 else 0
def voteL (l q g : Int) : Int := if g ≤ q ∧ l < g then g else l

theorem voteE_eq {e v l p f ep r q : Int} (h : chkN e v l p f ep r = 0) : voteE e v l p f ep r q = if q < 0 ∨ r ≤ q then 14 else if r ≤ v then 10 else if q < l then 15 else if f = 32 then 5 else 0 := by simp [voteE, h]
theorem grown_set1 {w w1 : World} (hg : w.grownBy w1 none) {g i : Nat} (hB : w.heap.size ≤ g) (x : Value) : w.grownBy (w1.setCell ⟨g, i, none⟩ x) none :=
  ((Kept.of_grown (F := fun _ => False) hg (fun _ h => by cases h)).set (p := ⟨g, i, none⟩) (.inr hB) _).grownNone (fun _ _ h => h)

/-- The ways through Vote behind check. -/
theorem vote_ways (v l f r q : Int) :
    (decide (q < 0) = true) ∨ (decide (q < 0) = false ∧ decide (r ≤ q) = true) ∨
    (decide (q < 0) = false ∧ decide (r ≤ q) = false ∧ decide (r ≤ v) = true) ∨
    (decide (q < 0) = false ∧ decide (r ≤ q) = false ∧ decide (r ≤ v) = false ∧ decide (q < l) = true) ∨
    (decide (q < 0) = false ∧ decide (r ≤ q) = false ∧ decide (r ≤ v) = false ∧ decide (q < l) = false ∧ (f == 32) = true) ∨
    (decide (q < 0) = false ∧ decide (r ≤ q) = false ∧ decide (r ≤ v) = false ∧ decide (q < l) = false ∧ (f == 32) = false) := by
  simp only [decide_eq_true_eq, decide_eq_false_iff_not, beq_iff_eq, beq_eq_false_iff_ne, ne_eq]
  omega

set_option maxHeartbeats 1000000 in
theorem vote_chk (w : World) (B : Nat) (E : Nat → Addr) (he : ErrEnv w B E) (e v l p f ep r q g : Int) (k : Nat) (h : chkN e v l p f ep r = k + 1) :
    Calls Tryz.prog 49 #[stV e v l p f, .int .i64 ep, .int .i64 r, .int .i64 q, .int .i64 g] w fun en w' => en = .returned (.tuple #[stV e v l p f, errV (E k)]) ∧ w.grownBy w' none := by
  have ka := World.grownBy_alloc w (.cells (stC e v l p f) 46) none
  have kb := grown_trans ka (World.grownBy_alloc _ (.cells (stC 0 0 0 0 0) 46) none)
  have hA := (Blk.new w 46 (stC e v l p f)).alloc (.cells (stC 0 0 0 0 0) 46)
  have hB := Blk.new (w.alloc (.cells (stC e v l p f) 46)) 46 (stC 0 0 0 0 0)
  rw [World.size_alloc] at hB
  go_enter Tryz.func49, Tryz.ntmps49
  go_wp2_with fail
  refine (check_bad _ B E (he.grown kb (by simp)) _ _ _ _ _ _ _ k h).mono ?_
  rintro en w1 ⟨rfl, k1⟩
  have hA1 := hA.grown k1 (by simp)
  have hB1 := hB.grown k1 (by simp)
  have a0 := hA1.cell 0
  have a1 := hA1.cell 1
  have a2 := hA1.cell 2
  have a3 := hA1.cell 3
  have a4 := hA1.cell 4
  have b0 := hB1.cell 0
  have b1 := hB1.cell 1
  have b2 := hB1.cell 2
  have b3 := hB1.cell 3
  have b4 := hB1.cell 4
  have f0 := hB1.frozen 0
  have f1 := hB1.frozen 1
  have f2 := hB1.frozen 2
  have f3 := hB1.frozen 3
  have f4 := hB1.frozen 4
  simp at a0 a1 a2 a3 a4 b0 b1 b2 b3 b4
  have kk := grown_trans kb k1
  clear hA hB hA1 k1
  go_wp2_with fail
  refine bodyPost_ret (results_cell_tmp rfl _ _ _ ⟨w.heap.size + 1, 0, none⟩ _ rfl (load5 (hB1.set5 _ _ _ _ _))) rfl ?_
  exact ⟨rfl, grown_set5 kk (by omega) _ _ _ _ _⟩

set_option maxHeartbeats 4000000 in
theorem vote_rest (w : World) (B : Nat) (E : Nat → Addr) (he : ErrEnv w B E) (e v l p f ep r q g : Int) (h : chkN e v l p f ep r = 0) :
    Calls Tryz.prog 49 #[stV e v l p f, .int .i64 ep, .int .i64 r, .int .i64 q, .int .i64 g] w fun en w' => en = .returned (.tuple #[if voteE e v l p f ep r q = 0 then stV e r (voteL l q g) p (f + 1) else stV e v l p f, evOf E (voteE e v l p f ep r q)]) ∧ w.grownBy w' none := by
  have ka := World.grownBy_alloc w (.cells (stC e v l p f) 46) none
  have kb := grown_trans ka (World.grownBy_alloc _ (.cells (stC 0 0 0 0 0) 46) none)
  have hA := (Blk.new w 46 (stC e v l p f)).alloc (.cells (stC 0 0 0 0 0) 46)
  have hB := Blk.new (w.alloc (.cells (stC e v l p f) 46)) 46 (stC 0 0 0 0 0)
  rw [World.size_alloc] at hB
  rcases vote_ways v l f r q with d | ⟨d, d1⟩ | ⟨d, d1, d2⟩ | ⟨d, d1, d2, d3⟩ | ⟨d, d1, d2, d3, d4⟩ | ⟨d, d1, d2, d3, d4⟩
  · have hv : voteE e v l p f ep r q = 14 := by rw [voteE_eq h]; simp at d; rw [if_pos (.inl d)]
    go_enter Tryz.func49, Tryz.ntmps49
    go_wp2_with fail
    refine (check_ok _ B E (he.grown kb (by simp)) _ _ _ _ _ _ _ h).mono ?_
    rintro en w1 ⟨rfl, k1⟩
    have gv := ((he.grown kb (by simp)).grown k1 (by simp)).round
    have n13 : ¬ 13 = w.heap.size + 1 := far_var he.round
    have m13 : ¬ w.heap.size + 1 = 13 := fun e => n13 e.symm
    have hA1 := hA.grown k1 (by simp)
    have hB1 := hB.grown k1 (by simp)
    have a0 := hA1.cell 0
    have a1 := hA1.cell 1
    have a2 := hA1.cell 2
    have a3 := hA1.cell 3
    have a4 := hA1.cell 4
    have b0 := hB1.cell 0
    have b1 := hB1.cell 1
    have b2 := hB1.cell 2
    have b3 := hB1.cell 3
    have b4 := hB1.cell 4
    have f0 := hB1.frozen 0
    have f1 := hB1.frozen 1
    have f2 := hB1.frozen 2
    have f3 := hB1.frozen 3
    have f4 := hB1.frozen 4
    simp at a0 a1 a2 a3 a4 b0 b1 b2 b3 b4
    have kk := grown_trans kb k1
    clear hA hB hA1 k1
    go_wp2_with fail
    go_region
    all_goals
      go_wp2_with fail
      refine bodyPost_ret (results_cell_tmp rfl _ _ _ ⟨w.heap.size + 1, 0, none⟩ _ rfl (load5 (hB1.set5 _ _ _ _ _).drew)) rfl ?_
      exact ⟨by first | rfl | (rw [hv]; rfl), grown_drew (grown_set5 kk (by omega) _ _ _ _ _)⟩
  · have hv : voteE e v l p f ep r q = 14 := by rw [voteE_eq h]; simp at d1; rw [if_pos (.inr d1)]
    go_enter Tryz.func49, Tryz.ntmps49
    go_wp2_with fail
    refine (check_ok _ B E (he.grown kb (by simp)) _ _ _ _ _ _ _ h).mono ?_
    rintro en w1 ⟨rfl, k1⟩
    have gv := ((he.grown kb (by simp)).grown k1 (by simp)).round
    have n13 : ¬ 13 = w.heap.size + 1 := far_var he.round
    have m13 : ¬ w.heap.size + 1 = 13 := fun e => n13 e.symm
    have hA1 := hA.grown k1 (by simp)
    have hB1 := hB.grown k1 (by simp)
    have a0 := hA1.cell 0
    have a1 := hA1.cell 1
    have a2 := hA1.cell 2
    have a3 := hA1.cell 3
    have a4 := hA1.cell 4
    have b0 := hB1.cell 0
    have b1 := hB1.cell 1
    have b2 := hB1.cell 2
    have b3 := hB1.cell 3
    have b4 := hB1.cell 4
    have f0 := hB1.frozen 0
    have f1 := hB1.frozen 1
    have f2 := hB1.frozen 2
    have f3 := hB1.frozen 3
    have f4 := hB1.frozen 4
    simp at a0 a1 a2 a3 a4 b0 b1 b2 b3 b4
    have kk := grown_trans kb k1
    clear hA hB hA1 k1
    go_wp2_with fail
    go_region
    all_goals
      go_wp2_with fail
      refine bodyPost_ret (results_cell_tmp rfl _ _ _ ⟨w.heap.size + 1, 0, none⟩ _ rfl (load5 (hB1.set5 _ _ _ _ _).drew)) rfl ?_
      exact ⟨by first | rfl | (rw [hv]; rfl), grown_drew (grown_set5 kk (by omega) _ _ _ _ _)⟩
  · have hv : voteE e v l p f ep r q = 10 := by rw [voteE_eq h]; simp at d d1 d2; rw [if_neg (by omega), if_pos d2]
    go_enter Tryz.func49, Tryz.ntmps49
    go_wp2_with fail
    refine (check_ok _ B E (he.grown kb (by simp)) _ _ _ _ _ _ _ h).mono ?_
    rintro en w1 ⟨rfl, k1⟩
    have gv := ((he.grown kb (by simp)).grown k1 (by simp)).old
    have n13 : ¬ 9 = w.heap.size + 1 := far_var he.old
    have m13 : ¬ w.heap.size + 1 = 9 := fun e => n13 e.symm
    have hA1 := hA.grown k1 (by simp)
    have hB1 := hB.grown k1 (by simp)
    have a0 := hA1.cell 0
    have a1 := hA1.cell 1
    have a2 := hA1.cell 2
    have a3 := hA1.cell 3
    have a4 := hA1.cell 4
    have b0 := hB1.cell 0
    have b1 := hB1.cell 1
    have b2 := hB1.cell 2
    have b3 := hB1.cell 3
    have b4 := hB1.cell 4
    have f0 := hB1.frozen 0
    have f1 := hB1.frozen 1
    have f2 := hB1.frozen 2
    have f3 := hB1.frozen 3
    have f4 := hB1.frozen 4
    simp at a0 a1 a2 a3 a4 b0 b1 b2 b3 b4
    have kk := grown_trans kb k1
    clear hA hB hA1 k1
    go_wp2_with fail
    go_region
    all_goals
      go_wp2_with fail
      refine bodyPost_ret (results_cell_tmp rfl _ _ _ ⟨w.heap.size + 1, 0, none⟩ _ rfl (load5 (hB1.set5 _ _ _ _ _).drew)) rfl ?_
      exact ⟨by first | rfl | (rw [hv]; rfl), grown_drew (grown_set5 kk (by omega) _ _ _ _ _)⟩
  · have hv : voteE e v l p f ep r q = 15 := by rw [voteE_eq h]; simp at d d1 d2 d3; rw [if_neg (by omega), if_neg (by omega), if_pos d3]
    go_enter Tryz.func49, Tryz.ntmps49
    go_wp2_with fail
    refine (check_ok _ B E (he.grown kb (by simp)) _ _ _ _ _ _ _ h).mono ?_
    rintro en w1 ⟨rfl, k1⟩
    have gv := ((he.grown kb (by simp)).grown k1 (by simp)).unsafeE
    have n13 : ¬ 14 = w.heap.size + 1 := far_var he.unsafeE
    have m13 : ¬ w.heap.size + 1 = 14 := fun e => n13 e.symm
    have hA1 := hA.grown k1 (by simp)
    have hB1 := hB.grown k1 (by simp)
    have a0 := hA1.cell 0
    have a1 := hA1.cell 1
    have a2 := hA1.cell 2
    have a3 := hA1.cell 3
    have a4 := hA1.cell 4
    have b0 := hB1.cell 0
    have b1 := hB1.cell 1
    have b2 := hB1.cell 2
    have b3 := hB1.cell 3
    have b4 := hB1.cell 4
    have f0 := hB1.frozen 0
    have f1 := hB1.frozen 1
    have f2 := hB1.frozen 2
    have f3 := hB1.frozen 3
    have f4 := hB1.frozen 4
    simp at a0 a1 a2 a3 a4 b0 b1 b2 b3 b4
    have kk := grown_trans kb k1
    clear hA hB hA1 k1
    go_wp2_with fail
    go_region
    all_goals
      go_wp2_with fail
      refine bodyPost_ret (results_cell_tmp rfl _ _ _ ⟨w.heap.size + 1, 0, none⟩ _ rfl (load5 (hB1.set5 _ _ _ _ _).drew)) rfl ?_
      exact ⟨by first | rfl | (rw [hv]; rfl), grown_drew (grown_set5 kk (by omega) _ _ _ _ _)⟩
  · have hv : voteE e v l p f ep r q = 5 := by rw [voteE_eq h]; simp at d d1 d2 d3 d4; rw [if_neg (by omega), if_neg (by omega), if_neg (by omega), if_pos d4]
    go_enter Tryz.func49, Tryz.ntmps49
    go_wp2_with fail
    refine (check_ok _ B E (he.grown kb (by simp)) _ _ _ _ _ _ _ h).mono ?_
    rintro en w1 ⟨rfl, k1⟩
    have he1 := (he.grown kb (by simp)).grown k1 (by simp)
    have hA1 := hA.grown k1 (by simp)
    have hB1 := hB.grown k1 (by simp)
    have a0 := hA1.cell 0
    have a1 := hA1.cell 1
    have a2 := hA1.cell 2
    have a3 := hA1.cell 3
    have a4 := hA1.cell 4
    simp at a0 a1 a2 a3 a4
    have kk := grown_trans kb k1
    have hA2 := hA1.alloc (.cells (stC e v l p f) 46)
    have hB2 := hB1.alloc (.cells (stC e v l p f) 46)
    have hC := Blk.new w1 46 (stC e v l p f)
    have kc := grown_trans kk (World.grownBy_alloc w1 (.cells (stC e v l p f) 46) none)
    have nA := hA1.lt
    have nB := hB1.lt
    have he2 := he1.alloc (.cells (stC e v l p f) 46)
    clear hA hB k1 hA1 hB1
    go_wp2_with fail
    refine (spend_bad _ B E he2 _ _ _ _ _ _ hC d4).mono ?_
    rintro en w2 ⟨rfl, k2⟩
    have hA3 := hA2.grown k2 (by simp; omega)
    have hB3 := hB2.grown k2 (by simp; omega)
    have a0 := hA3.cell 0
    have a1 := hA3.cell 1
    have a2 := hA3.cell 2
    have a3 := hA3.cell 3
    have a4 := hA3.cell 4
    have b0 := hB3.cell 0
    have b1 := hB3.cell 1
    have b2 := hB3.cell 2
    have b3 := hB3.cell 3
    have b4 := hB3.cell 4
    have f0 := hB3.frozen 0
    have f1 := hB3.frozen 1
    have f2 := hB3.frozen 2
    have f3 := hB3.frozen 3
    have f4 := hB3.frozen 4
    simp at a0 a1 a2 a3 a4 b0 b1 b2 b3 b4
    have k3 : w.grownBy w2 none := (Kept.of_grown (F := fun _ => False) kc (fun _ h => by cases h)).trans (Kept.of_grown (F := upTo (fun _ => False) w.heap.size _) k2 (fun g' e => by cases e; exact .inr ⟨by omega, by simp⟩)) |>.grownNone (fun _ _ h => h)
    clear hA2 hB2 hC kc kk k2 hA3
    go_wp2
    refine bodyPost_ret (results_cell_tmp rfl _ _ _ ⟨w.heap.size + 1, 0, none⟩ _ rfl (load5 (hB3.set5 _ _ _ _ _))) rfl ?_
    exact ⟨by first | rfl | (rw [hv]; rfl), grown_set5 k3 (by omega) _ _ _ _ _⟩
  · have hv : voteE e v l p f ep r q = 0 := by rw [voteE_eq h]; simp at d d1 d2 d3 d4; rw [if_neg (by omega), if_neg (by omega), if_neg (by omega), if_neg d4]
    have hR : rightB e v l p f = true := by
      unfold chkN at h
      split at h
      · cases h
      · simpa using ‹¬ rightB e v l p f = false›
    have hf := (right_yes e v l p f hR).2.2.2.2.2.2.2.2
    have hm : (decide (g ≤ q) = true ∧ (¬ g ≤ l) ∧ voteL l q g = g) ∨ (decide (g ≤ q) = true ∧ g ≤ l ∧ voteL l q g = l) ∨ (decide (g ≤ q) = false ∧ voteL l q g = l) := by
      simp only [decide_eq_true_eq, decide_eq_false_iff_not, voteL]
      by_cases h1 : g ≤ q
      · by_cases h2 : l < g
        · exact .inl ⟨h1, by omega, by simp [h1, h2]⟩
        · exact .inr (.inl ⟨h1, by omega, by simp [h2]⟩)
      · exact .inr (.inr ⟨h1, by simp [h1]⟩)
    rcases hm with ⟨m, m1, hl⟩ | ⟨m, m1, hl⟩ | ⟨m, hl⟩
    · go_enter Tryz.func49, Tryz.ntmps49
      go_wp2_with fail
      refine (check_ok _ B E (he.grown kb (by simp)) _ _ _ _ _ _ _ h).mono ?_
      rintro en w1 ⟨rfl, k1⟩
      have he1 := (he.grown kb (by simp)).grown k1 (by simp)
      have hA1 := hA.grown k1 (by simp)
      have hB1 := hB.grown k1 (by simp)
      have a0 := hA1.cell 0
      have a1 := hA1.cell 1
      have a2 := hA1.cell 2
      have a3 := hA1.cell 3
      have a4 := hA1.cell 4
      simp at a0 a1 a2 a3 a4
      have kk := grown_trans kb k1
      have hA2 := hA1.alloc (.cells (stC e v l p f) 46)
      have hB2 := hB1.alloc (.cells (stC e v l p f) 46)
      have hC := Blk.new w1 46 (stC e v l p f)
      have kc := grown_trans kk (World.grownBy_alloc w1 (.cells (stC e v l p f) 46) none)
      have nA := hA1.lt
      have nB := hB1.lt
      have he2 := he1.alloc (.cells (stC e v l p f) 46)
      clear hA hB k1 hA1 hB1
      go_wp2_with fail
      refine (spend_ok _ _ _ _ _ _ _ hC d4 hf).mono ?_
      rintro en w2 ⟨rfl, hC3, k2⟩
      have hA3 := hA2.grown k2 (by simp; omega)
      have hB3 := hB2.grown k2 (by simp; omega)
      have a0 := hA3.cell 0
      have a1 := hA3.cell 1
      have a2 := hA3.cell 2
      have a3 := hA3.cell 3
      have a4 := hA3.cell 4
      have b0 := hB3.cell 0
      have b1 := hB3.cell 1
      have b2 := hB3.cell 2
      have b3 := hB3.cell 3
      have b4 := hB3.cell 4
      have f0 := hB3.frozen 0
      have f1 := hB3.frozen 1
      have f2 := hB3.frozen 2
      have f3 := hB3.frozen 3
      have f4 := hB3.frozen 4
      simp at a0 a1 a2 a3 a4 b0 b1 b2 b3 b4
      have c0 := hC3.cell 0
      have c1 := hC3.cell 1
      have c2 := hC3.cell 2
      have c3 := hC3.cell 3
      have c4 := hC3.cell 4
      have fc1 := hC3.frozen 1
      have fc2 := hC3.frozen 2
      simp at c0 c1 c2 c3 c4
      have q1 : ¬ w1.heap.size = w.heap.size := by omega
      have q2 : ¬ w.heap.size = w1.heap.size := by omega
      have q3 : ¬ w1.heap.size = w.heap.size + 1 := by omega
      have q4 : ¬ w.heap.size + 1 = w1.heap.size := by omega
      have k3 : w.grownBy w2 none := (Kept.of_grown (F := fun _ => False) kc (fun _ h => by cases h)).trans (Kept.of_grown (F := upTo (fun _ => False) w.heap.size _) k2 (fun g' e => by cases e; exact .inr ⟨by omega, by simp⟩)) |>.grownNone (fun _ _ h => h)
      clear hA2 hB2 hC kc kk k2 hA3 hf hR
      go_wp2
      refine bodyPost_ret (results_cell_tmp rfl _ _ _ ⟨w.heap.size + 1, 0, none⟩ _ rfl (load5 (((hB3.far q4 _).far q4 _).set5 _ _ _ _ _))) rfl ?_
      exact ⟨by first | rfl | (rw [hv, hl]; rfl), grown_set5 (grown_set1 (grown_set1 k3 (by omega) _) (by omega) _) (by omega) _ _ _ _ _⟩
    · go_enter Tryz.func49, Tryz.ntmps49
      go_wp2_with fail
      refine (check_ok _ B E (he.grown kb (by simp)) _ _ _ _ _ _ _ h).mono ?_
      rintro en w1 ⟨rfl, k1⟩
      have he1 := (he.grown kb (by simp)).grown k1 (by simp)
      have hA1 := hA.grown k1 (by simp)
      have hB1 := hB.grown k1 (by simp)
      have a0 := hA1.cell 0
      have a1 := hA1.cell 1
      have a2 := hA1.cell 2
      have a3 := hA1.cell 3
      have a4 := hA1.cell 4
      simp at a0 a1 a2 a3 a4
      have kk := grown_trans kb k1
      have hA2 := hA1.alloc (.cells (stC e v l p f) 46)
      have hB2 := hB1.alloc (.cells (stC e v l p f) 46)
      have hC := Blk.new w1 46 (stC e v l p f)
      have kc := grown_trans kk (World.grownBy_alloc w1 (.cells (stC e v l p f) 46) none)
      have nA := hA1.lt
      have nB := hB1.lt
      have he2 := he1.alloc (.cells (stC e v l p f) 46)
      clear hA hB k1 hA1 hB1
      go_wp2_with fail
      refine (spend_ok _ _ _ _ _ _ _ hC d4 hf).mono ?_
      rintro en w2 ⟨rfl, hC3, k2⟩
      have hA3 := hA2.grown k2 (by simp; omega)
      have hB3 := hB2.grown k2 (by simp; omega)
      have a0 := hA3.cell 0
      have a1 := hA3.cell 1
      have a2 := hA3.cell 2
      have a3 := hA3.cell 3
      have a4 := hA3.cell 4
      have b0 := hB3.cell 0
      have b1 := hB3.cell 1
      have b2 := hB3.cell 2
      have b3 := hB3.cell 3
      have b4 := hB3.cell 4
      have f0 := hB3.frozen 0
      have f1 := hB3.frozen 1
      have f2 := hB3.frozen 2
      have f3 := hB3.frozen 3
      have f4 := hB3.frozen 4
      simp at a0 a1 a2 a3 a4 b0 b1 b2 b3 b4
      have c0 := hC3.cell 0
      have c1 := hC3.cell 1
      have c2 := hC3.cell 2
      have c3 := hC3.cell 3
      have c4 := hC3.cell 4
      have fc1 := hC3.frozen 1
      have fc2 := hC3.frozen 2
      simp at c0 c1 c2 c3 c4
      have q1 : ¬ w1.heap.size = w.heap.size := by omega
      have q2 : ¬ w.heap.size = w1.heap.size := by omega
      have q3 : ¬ w1.heap.size = w.heap.size + 1 := by omega
      have q4 : ¬ w.heap.size + 1 = w1.heap.size := by omega
      have k3 : w.grownBy w2 none := (Kept.of_grown (F := fun _ => False) kc (fun _ h => by cases h)).trans (Kept.of_grown (F := upTo (fun _ => False) w.heap.size _) k2 (fun g' e => by cases e; exact .inr ⟨by omega, by simp⟩)) |>.grownNone (fun _ _ h => h)
      clear hA2 hB2 hC kc kk k2 hA3 hf hR
      go_wp2
      refine bodyPost_ret (results_cell_tmp rfl _ _ _ ⟨w.heap.size + 1, 0, none⟩ _ rfl (load5 (((hB3.far q4 _).far q4 _).set5 _ _ _ _ _))) rfl ?_
      exact ⟨by first | rfl | (rw [hv, hl]; rfl), grown_set5 (grown_set1 (grown_set1 k3 (by omega) _) (by omega) _) (by omega) _ _ _ _ _⟩
    · go_enter Tryz.func49, Tryz.ntmps49
      go_wp2_with fail
      refine (check_ok _ B E (he.grown kb (by simp)) _ _ _ _ _ _ _ h).mono ?_
      rintro en w1 ⟨rfl, k1⟩
      have he1 := (he.grown kb (by simp)).grown k1 (by simp)
      have hA1 := hA.grown k1 (by simp)
      have hB1 := hB.grown k1 (by simp)
      have a0 := hA1.cell 0
      have a1 := hA1.cell 1
      have a2 := hA1.cell 2
      have a3 := hA1.cell 3
      have a4 := hA1.cell 4
      simp at a0 a1 a2 a3 a4
      have kk := grown_trans kb k1
      have hA2 := hA1.alloc (.cells (stC e v l p f) 46)
      have hB2 := hB1.alloc (.cells (stC e v l p f) 46)
      have hC := Blk.new w1 46 (stC e v l p f)
      have kc := grown_trans kk (World.grownBy_alloc w1 (.cells (stC e v l p f) 46) none)
      have nA := hA1.lt
      have nB := hB1.lt
      have he2 := he1.alloc (.cells (stC e v l p f) 46)
      clear hA hB k1 hA1 hB1
      go_wp2_with fail
      refine (spend_ok _ _ _ _ _ _ _ hC d4 hf).mono ?_
      rintro en w2 ⟨rfl, hC3, k2⟩
      have hA3 := hA2.grown k2 (by simp; omega)
      have hB3 := hB2.grown k2 (by simp; omega)
      have a0 := hA3.cell 0
      have a1 := hA3.cell 1
      have a2 := hA3.cell 2
      have a3 := hA3.cell 3
      have a4 := hA3.cell 4
      have b0 := hB3.cell 0
      have b1 := hB3.cell 1
      have b2 := hB3.cell 2
      have b3 := hB3.cell 3
      have b4 := hB3.cell 4
      have f0 := hB3.frozen 0
      have f1 := hB3.frozen 1
      have f2 := hB3.frozen 2
      have f3 := hB3.frozen 3
      have f4 := hB3.frozen 4
      simp at a0 a1 a2 a3 a4 b0 b1 b2 b3 b4
      have c0 := hC3.cell 0
      have c1 := hC3.cell 1
      have c2 := hC3.cell 2
      have c3 := hC3.cell 3
      have c4 := hC3.cell 4
      have fc1 := hC3.frozen 1
      have fc2 := hC3.frozen 2
      simp at c0 c1 c2 c3 c4
      have q1 : ¬ w1.heap.size = w.heap.size := by omega
      have q2 : ¬ w.heap.size = w1.heap.size := by omega
      have q3 : ¬ w1.heap.size = w.heap.size + 1 := by omega
      have q4 : ¬ w.heap.size + 1 = w1.heap.size := by omega
      have k3 : w.grownBy w2 none := (Kept.of_grown (F := fun _ => False) kc (fun _ h => by cases h)).trans (Kept.of_grown (F := upTo (fun _ => False) w.heap.size _) k2 (fun g' e => by cases e; exact .inr ⟨by omega, by simp⟩)) |>.grownNone (fun _ _ h => h)
      clear hA2 hB2 hC kc kk k2 hA3 hf hR
      go_wp2
      refine bodyPost_ret (results_cell_tmp rfl _ _ _ ⟨w.heap.size + 1, 0, none⟩ _ rfl (load5 ((hB3.far q4 _).set5 _ _ _ _ _))) rfl ?_
      exact ⟨by first | rfl | (rw [hv, hl]; rfl), grown_set5 (grown_set1 k3 (by omega) _) (by omega) _ _ _ _ _⟩
end Go.Proofs.YthkjlgjbjjjohaaGreatDoor
/-
  Package rules: Late, Propose, Enter.
-/

namespace Go.Proofs.YthkjlgjbjjjohaaGreatDoor
open Go.RowKit

set_option maxHeartbeats 1000000 in
theorem late_chk (w : World) (B : Nat) (E : Nat → Addr) (he : ErrEnv w B E) (e v l p f ep r : Int) (k : Nat) (h : chkN e v l p f ep r = k + 1) :
    Calls Tryz.prog 52 #[stV e v l p f, .int .i64 ep, .int .i64 r] w fun en w' => en = .returned (.tuple #[stV e v l p f, errV (E k)]) ∧ w.grownBy w' none := by
  have ka := World.grownBy_alloc w (.cells (stC e v l p f) 46) none
  have kb := grown_trans ka (World.grownBy_alloc _ (.cells (stC 0 0 0 0 0) 46) none)
  have hA := (Blk.new w 46 (stC e v l p f)).alloc (.cells (stC 0 0 0 0 0) 46)
  have hB := Blk.new (w.alloc (.cells (stC e v l p f) 46)) 46 (stC 0 0 0 0 0)
  rw [World.size_alloc] at hB
  go_enter Tryz.func52, Tryz.ntmps52
  go_wp2_with fail
  refine (check_bad _ B E (he.grown kb (by simp)) _ _ _ _ _ _ _ k h).mono ?_
  rintro en w1 ⟨rfl, k1⟩
  have hA1 := hA.grown k1 (by simp)
  have hB1 := hB.grown k1 (by simp)
  have a0 := hA1.cell 0
  have a1 := hA1.cell 1
  have a2 := hA1.cell 2
  have a3 := hA1.cell 3
  have a4 := hA1.cell 4
  have b0 := hB1.cell 0
  have b1 := hB1.cell 1
  have b2 := hB1.cell 2
  have b3 := hB1.cell 3
  have b4 := hB1.cell 4
  have f0 := hB1.frozen 0
  have f1 := hB1.frozen 1
  have f2 := hB1.frozen 2
  have f3 := hB1.frozen 3
  have f4 := hB1.frozen 4
  simp at a0 a1 a2 a3 a4 b0 b1 b2 b3 b4
  have kk := grown_trans kb k1
  clear hA hB hA1 k1
  go_wp2_with fail
  refine bodyPost_ret (results_cell_tmp rfl _ _ _ ⟨w.heap.size + 1, 0, none⟩ _ rfl (load5 (hB1.set5 _ _ _ _ _))) rfl ?_
  exact ⟨rfl, grown_set5 kk (by omega) _ _ _ _ _⟩

def lateE (e v l p f ep r : Int) : Nat := if chkN e v l p f ep r ≠ 0 then chkN e v l p f ep r else if f = 32 then 5 else 0
def lateV (v r : Int) : Int := if r ≤ v then v else r
theorem lateE_eq {e v l p f ep r : Int} (h : chkN e v l p f ep r = 0) : lateE e v l p f ep r = if f = 32 then 5 else 0 := by simp [lateE, h]

set_option maxHeartbeats 4000000 in
theorem late_rest (w : World) (B : Nat) (E : Nat → Addr) (he : ErrEnv w B E) (e v l p f ep r : Int) (h : chkN e v l p f ep r = 0) :
    Calls Tryz.prog 52 #[stV e v l p f, .int .i64 ep, .int .i64 r] w fun en w' => en = .returned (.tuple #[if lateE e v l p f ep r = 0 then stV e (lateV v r) l p (f + 1) else stV e v l p f, evOf E (lateE e v l p f ep r)]) ∧ w.grownBy w' none := by
  have ka := World.grownBy_alloc w (.cells (stC e v l p f) 46) none
  have kb := grown_trans ka (World.grownBy_alloc _ (.cells (stC 0 0 0 0 0) 46) none)
  have hA := (Blk.new w 46 (stC e v l p f)).alloc (.cells (stC 0 0 0 0 0) 46)
  have hB := Blk.new (w.alloc (.cells (stC e v l p f) 46)) 46 (stC 0 0 0 0 0)
  rw [World.size_alloc] at hB
  cases d4 : (f == 32)
  · have hv : lateE e v l p f ep r = 0 := by rw [lateE_eq h]; simp at d4; rw [if_neg d4]
    have hR : rightB e v l p f = true := by
      unfold chkN at h
      split at h
      · cases h
      · simpa using ‹¬ rightB e v l p f = false›
    have hf := (right_yes e v l p f hR).2.2.2.2.2.2.2.2
    clear hR
    by_cases m : r ≤ v
    · have hl : lateV v r = v := by simp [lateV, m]
      go_enter Tryz.func52, Tryz.ntmps52
      go_wp2_with fail
      refine (check_ok _ B E (he.grown kb (by simp)) _ _ _ _ _ _ _ h).mono ?_
      rintro en w1 ⟨rfl, k1⟩
      have he1 := (he.grown kb (by simp)).grown k1 (by simp)
      have hA1 := hA.grown k1 (by simp)
      have hB1 := hB.grown k1 (by simp)
      have a0 := hA1.cell 0
      have a1 := hA1.cell 1
      have a2 := hA1.cell 2
      have a3 := hA1.cell 3
      have a4 := hA1.cell 4
      simp at a0 a1 a2 a3 a4
      have kk := grown_trans kb k1
      have hA2 := hA1.alloc (.cells (stC e v l p f) 46)
      have hB2 := hB1.alloc (.cells (stC e v l p f) 46)
      have hC := Blk.new w1 46 (stC e v l p f)
      have kc := grown_trans kk (World.grownBy_alloc w1 (.cells (stC e v l p f) 46) none)
      have nA := hA1.lt
      have nB := hB1.lt
      have he2 := he1.alloc (.cells (stC e v l p f) 46)
      clear hA hB k1 hA1 hB1
      go_wp2_with fail
      refine (spend_ok _ _ _ _ _ _ _ hC d4 hf).mono ?_
      rintro en w2 ⟨rfl, hC3, k2⟩
      have hA3 := hA2.grown k2 (by simp; omega)
      have hB3 := hB2.grown k2 (by simp; omega)
      have a0 := hA3.cell 0
      have a1 := hA3.cell 1
      have a2 := hA3.cell 2
      have a3 := hA3.cell 3
      have a4 := hA3.cell 4
      have b0 := hB3.cell 0
      have b1 := hB3.cell 1
      have b2 := hB3.cell 2
      have b3 := hB3.cell 3
      have b4 := hB3.cell 4
      have f0 := hB3.frozen 0
      have f1 := hB3.frozen 1
      have f2 := hB3.frozen 2
      have f3 := hB3.frozen 3
      have f4 := hB3.frozen 4
      simp at a0 a1 a2 a3 a4 b0 b1 b2 b3 b4
      have c0 := hC3.cell 0
      have c1 := hC3.cell 1
      have c2 := hC3.cell 2
      have c3 := hC3.cell 3
      have c4 := hC3.cell 4
      have fc0 := hC3.frozen 0
      have fc1 := hC3.frozen 1
      have fc2 := hC3.frozen 2
      have fc3 := hC3.frozen 3
      have fc4 := hC3.frozen 4
      simp at c0 c1 c2 c3 c4
      have q1 : ¬ w1.heap.size = w.heap.size := by omega
      have q2 : ¬ w.heap.size = w1.heap.size := by omega
      have q3 : ¬ w1.heap.size = w.heap.size + 1 := by omega
      have q4 : ¬ w.heap.size + 1 = w1.heap.size := by omega
      have k3 : w.grownBy w2 none := (Kept.of_grown (F := fun _ => False) kc (fun _ h => by cases h)).trans (Kept.of_grown (F := upTo (fun _ => False) w.heap.size _) k2 (fun g' e => by cases e; exact .inr ⟨by omega, by simp⟩)) |>.grownNone (fun _ _ h => h)
      clear hA2 hB2 hC kc kk k2 hA3 hf
      go_wp2
      refine bodyPost_ret (results_cell_tmp rfl _ _ _ ⟨w.heap.size + 1, 0, none⟩ _ rfl (load5 ((hB3.far q4 _).set5 _ _ _ _ _))) rfl ?_
      exact ⟨by first | rfl | (rw [hv, hl]; rfl), grown_set5 (grown_set1 k3 (by omega) _) (by omega) _ _ _ _ _⟩
    · have hl : lateV v r = r := by simp [lateV, m]
      go_enter Tryz.func52, Tryz.ntmps52
      go_wp2_with fail
      refine (check_ok _ B E (he.grown kb (by simp)) _ _ _ _ _ _ _ h).mono ?_
      rintro en w1 ⟨rfl, k1⟩
      have he1 := (he.grown kb (by simp)).grown k1 (by simp)
      have hA1 := hA.grown k1 (by simp)
      have hB1 := hB.grown k1 (by simp)
      have a0 := hA1.cell 0
      have a1 := hA1.cell 1
      have a2 := hA1.cell 2
      have a3 := hA1.cell 3
      have a4 := hA1.cell 4
      simp at a0 a1 a2 a3 a4
      have kk := grown_trans kb k1
      have hA2 := hA1.alloc (.cells (stC e v l p f) 46)
      have hB2 := hB1.alloc (.cells (stC e v l p f) 46)
      have hC := Blk.new w1 46 (stC e v l p f)
      have kc := grown_trans kk (World.grownBy_alloc w1 (.cells (stC e v l p f) 46) none)
      have nA := hA1.lt
      have nB := hB1.lt
      have he2 := he1.alloc (.cells (stC e v l p f) 46)
      clear hA hB k1 hA1 hB1
      go_wp2_with fail
      refine (spend_ok _ _ _ _ _ _ _ hC d4 hf).mono ?_
      rintro en w2 ⟨rfl, hC3, k2⟩
      have hA3 := hA2.grown k2 (by simp; omega)
      have hB3 := hB2.grown k2 (by simp; omega)
      have a0 := hA3.cell 0
      have a1 := hA3.cell 1
      have a2 := hA3.cell 2
      have a3 := hA3.cell 3
      have a4 := hA3.cell 4
      have b0 := hB3.cell 0
      have b1 := hB3.cell 1
      have b2 := hB3.cell 2
      have b3 := hB3.cell 3
      have b4 := hB3.cell 4
      have f0 := hB3.frozen 0
      have f1 := hB3.frozen 1
      have f2 := hB3.frozen 2
      have f3 := hB3.frozen 3
      have f4 := hB3.frozen 4
      simp at a0 a1 a2 a3 a4 b0 b1 b2 b3 b4
      have c0 := hC3.cell 0
      have c1 := hC3.cell 1
      have c2 := hC3.cell 2
      have c3 := hC3.cell 3
      have c4 := hC3.cell 4
      have fc0 := hC3.frozen 0
      have fc1 := hC3.frozen 1
      have fc2 := hC3.frozen 2
      have fc3 := hC3.frozen 3
      have fc4 := hC3.frozen 4
      simp at c0 c1 c2 c3 c4
      have q1 : ¬ w1.heap.size = w.heap.size := by omega
      have q2 : ¬ w.heap.size = w1.heap.size := by omega
      have q3 : ¬ w1.heap.size = w.heap.size + 1 := by omega
      have q4 : ¬ w.heap.size + 1 = w1.heap.size := by omega
      have k3 : w.grownBy w2 none := (Kept.of_grown (F := fun _ => False) kc (fun _ h => by cases h)).trans (Kept.of_grown (F := upTo (fun _ => False) w.heap.size _) k2 (fun g' e => by cases e; exact .inr ⟨by omega, by simp⟩)) |>.grownNone (fun _ _ h => h)
      clear hA2 hB2 hC kc kk k2 hA3 hf
      go_wp2
      refine bodyPost_ret (results_cell_tmp rfl _ _ _ ⟨w.heap.size + 1, 0, none⟩ _ rfl (load5 ((hB3.far q4 _).set5 _ _ _ _ _))) rfl ?_
      exact ⟨by first | rfl | (rw [hv, hl]; rfl), grown_set5 (grown_set1 k3 (by omega) _) (by omega) _ _ _ _ _⟩
  · have hv : lateE e v l p f ep r = 5 := by rw [lateE_eq h]; simp at d4; rw [if_pos d4]
    go_enter Tryz.func52, Tryz.ntmps52
    go_wp2_with fail
    refine (check_ok _ B E (he.grown kb (by simp)) _ _ _ _ _ _ _ h).mono ?_
    rintro en w1 ⟨rfl, k1⟩
    have he1 := (he.grown kb (by simp)).grown k1 (by simp)
    have hA1 := hA.grown k1 (by simp)
    have hB1 := hB.grown k1 (by simp)
    have a0 := hA1.cell 0
    have a1 := hA1.cell 1
    have a2 := hA1.cell 2
    have a3 := hA1.cell 3
    have a4 := hA1.cell 4
    simp at a0 a1 a2 a3 a4
    have kk := grown_trans kb k1
    have hA2 := hA1.alloc (.cells (stC e v l p f) 46)
    have hB2 := hB1.alloc (.cells (stC e v l p f) 46)
    have hC := Blk.new w1 46 (stC e v l p f)
    have kc := grown_trans kk (World.grownBy_alloc w1 (.cells (stC e v l p f) 46) none)
    have nA := hA1.lt
    have nB := hB1.lt
    have he2 := he1.alloc (.cells (stC e v l p f) 46)
    clear hA hB k1 hA1 hB1
    go_wp2_with fail
    refine (spend_bad _ B E he2 _ _ _ _ _ _ hC d4).mono ?_
    rintro en w2 ⟨rfl, k2⟩
    have hA3 := hA2.grown k2 (by simp; omega)
    have hB3 := hB2.grown k2 (by simp; omega)
    have a0 := hA3.cell 0
    have a1 := hA3.cell 1
    have a2 := hA3.cell 2
    have a3 := hA3.cell 3
    have a4 := hA3.cell 4
    have b0 := hB3.cell 0
    have b1 := hB3.cell 1
    have b2 := hB3.cell 2
    have b3 := hB3.cell 3
    have b4 := hB3.cell 4
    have f0 := hB3.frozen 0
    have f1 := hB3.frozen 1
    have f2 := hB3.frozen 2
    have f3 := hB3.frozen 3
    have f4 := hB3.frozen 4
    simp at a0 a1 a2 a3 a4 b0 b1 b2 b3 b4
    have k3 : w.grownBy w2 none := (Kept.of_grown (F := fun _ => False) kc (fun _ h => by cases h)).trans (Kept.of_grown (F := upTo (fun _ => False) w.heap.size _) k2 (fun g' e => by cases e; exact .inr ⟨by omega, by simp⟩)) |>.grownNone (fun _ _ h => h)
    clear hA2 hB2 hC kc kk k2 hA3
    go_wp2
    refine bodyPost_ret (results_cell_tmp rfl _ _ _ ⟨w.heap.size + 1, 0, none⟩ _ rfl (load5 (hB3.set5 _ _ _ _ _))) rfl ?_
    exact ⟨by first | rfl | (rw [hv]; rfl), grown_set5 k3 (by omega) _ _ _ _ _⟩

set_option maxHeartbeats 1000000 in
theorem prop_chk (w : World) (B : Nat) (E : Nat → Addr) (he : ErrEnv w B E) (e v l p f ep r : Int) (k : Nat) (h : chkN e v l p f ep r = k + 1) :
    Calls Tryz.prog 93 #[stV e v l p f, .int .i64 ep, .int .i64 r] w fun en w' => en = .returned (.tuple #[stV e v l p f, errV (E k)]) ∧ w.grownBy w' none := by
  have ka := World.grownBy_alloc w (.cells (stC e v l p f) 46) none
  have kb := grown_trans ka (World.grownBy_alloc _ (.cells (stC 0 0 0 0 0) 46) none)
  have hA := (Blk.new w 46 (stC e v l p f)).alloc (.cells (stC 0 0 0 0 0) 46)
  have hB := Blk.new (w.alloc (.cells (stC e v l p f) 46)) 46 (stC 0 0 0 0 0)
  rw [World.size_alloc] at hB
  go_enter Tryz.func93, Tryz.ntmps93
  go_wp2_with fail
  refine (check_bad _ B E (he.grown kb (by simp)) _ _ _ _ _ _ _ k h).mono ?_
  rintro en w1 ⟨rfl, k1⟩
  have hA1 := hA.grown k1 (by simp)
  have hB1 := hB.grown k1 (by simp)
  have a0 := hA1.cell 0
  have a1 := hA1.cell 1
  have a2 := hA1.cell 2
  have a3 := hA1.cell 3
  have a4 := hA1.cell 4
  have b0 := hB1.cell 0
  have b1 := hB1.cell 1
  have b2 := hB1.cell 2
  have b3 := hB1.cell 3
  have b4 := hB1.cell 4
  have f0 := hB1.frozen 0
  have f1 := hB1.frozen 1
  have f2 := hB1.frozen 2
  have f3 := hB1.frozen 3
  have f4 := hB1.frozen 4
  simp at a0 a1 a2 a3 a4 b0 b1 b2 b3 b4
  have kk := grown_trans kb k1
  clear hA hB hA1 k1
  go_wp2_with fail
  refine bodyPost_ret (results_cell_tmp rfl _ _ _ ⟨w.heap.size + 1, 0, none⟩ _ rfl (load5 (hB1.set5 _ _ _ _ _))) rfl ?_
  exact ⟨rfl, grown_set5 kk (by omega) _ _ _ _ _⟩

def propE (e v l p f ep r : Int) : Nat := if chkN e v l p f ep r ≠ 0 then chkN e v l p f ep r else if r ≤ p then 10 else if f = 32 then 5 else 0
theorem propE_eq {e v l p f ep r : Int} (h : chkN e v l p f ep r = 0) : propE e v l p f ep r = if r ≤ p then 10 else if f = 32 then 5 else 0 := by simp [propE, h]

set_option maxHeartbeats 4000000 in
theorem prop_rest (w : World) (B : Nat) (E : Nat → Addr) (he : ErrEnv w B E) (e v l p f ep r : Int) (h : chkN e v l p f ep r = 0) :
    Calls Tryz.prog 93 #[stV e v l p f, .int .i64 ep, .int .i64 r] w fun en w' => en = .returned (.tuple #[if propE e v l p f ep r = 0 then stV e v l r (f + 1) else stV e v l p f, evOf E (propE e v l p f ep r)]) ∧ w.grownBy w' none := by
  have ka := World.grownBy_alloc w (.cells (stC e v l p f) 46) none
  have kb := grown_trans ka (World.grownBy_alloc _ (.cells (stC 0 0 0 0 0) 46) none)
  have hA := (Blk.new w 46 (stC e v l p f)).alloc (.cells (stC 0 0 0 0 0) 46)
  have hB := Blk.new (w.alloc (.cells (stC e v l p f) 46)) 46 (stC 0 0 0 0 0)
  rw [World.size_alloc] at hB
  by_cases hp : r ≤ p
  · have d : decide (r ≤ p) = true := by simpa using hp
    have hv : propE e v l p f ep r = 10 := by rw [propE_eq h, if_pos hp]
    go_enter Tryz.func93, Tryz.ntmps93
    go_wp2_with fail
    refine (check_ok _ B E (he.grown kb (by simp)) _ _ _ _ _ _ _ h).mono ?_
    rintro en w1 ⟨rfl, k1⟩
    have gv := ((he.grown kb (by simp)).grown k1 (by simp)).old
    have n13 : ¬ 9 = w.heap.size + 1 := far_var he.old
    have m13 : ¬ w.heap.size + 1 = 9 := fun e => n13 e.symm
    have hA1 := hA.grown k1 (by simp)
    have hB1 := hB.grown k1 (by simp)
    have a0 := hA1.cell 0
    have a1 := hA1.cell 1
    have a2 := hA1.cell 2
    have a3 := hA1.cell 3
    have a4 := hA1.cell 4
    have b0 := hB1.cell 0
    have b1 := hB1.cell 1
    have b2 := hB1.cell 2
    have b3 := hB1.cell 3
    have b4 := hB1.cell 4
    have f0 := hB1.frozen 0
    have f1 := hB1.frozen 1
    have f2 := hB1.frozen 2
    have f3 := hB1.frozen 3
    have f4 := hB1.frozen 4
    simp at a0 a1 a2 a3 a4 b0 b1 b2 b3 b4
    have kk := grown_trans kb k1
    clear hA hB hA1 k1
    go_wp2_with fail
    go_region
    all_goals
      go_wp2_with fail
      refine bodyPost_ret (results_cell_tmp rfl _ _ _ ⟨w.heap.size + 1, 0, none⟩ _ rfl (load5 (hB1.set5 _ _ _ _ _).drew)) rfl ?_
      exact ⟨by first | rfl | (rw [hv]; rfl), grown_drew (grown_set5 kk (by omega) _ _ _ _ _)⟩
  · have d : decide (r ≤ p) = false := by simpa using hp
    cases d4 : (f == 32)
    · have hv : propE e v l p f ep r = 0 := by rw [propE_eq h, if_neg hp]; simp at d4; rw [if_neg d4]
      have hR : rightB e v l p f = true := by
        unfold chkN at h
        split at h
        · cases h
        · simpa using ‹¬ rightB e v l p f = false›
      have hf := (right_yes e v l p f hR).2.2.2.2.2.2.2.2
      clear hR
      go_enter Tryz.func93, Tryz.ntmps93
      go_wp2_with fail
      refine (check_ok _ B E (he.grown kb (by simp)) _ _ _ _ _ _ _ h).mono ?_
      rintro en w1 ⟨rfl, k1⟩
      have he1 := (he.grown kb (by simp)).grown k1 (by simp)
      have hA1 := hA.grown k1 (by simp)
      have hB1 := hB.grown k1 (by simp)
      have a0 := hA1.cell 0
      have a1 := hA1.cell 1
      have a2 := hA1.cell 2
      have a3 := hA1.cell 3
      have a4 := hA1.cell 4
      simp at a0 a1 a2 a3 a4
      have kk := grown_trans kb k1
      have hA2 := hA1.alloc (.cells (stC e v l p f) 46)
      have hB2 := hB1.alloc (.cells (stC e v l p f) 46)
      have hC := Blk.new w1 46 (stC e v l p f)
      have kc := grown_trans kk (World.grownBy_alloc w1 (.cells (stC e v l p f) 46) none)
      have nA := hA1.lt
      have nB := hB1.lt
      have he2 := he1.alloc (.cells (stC e v l p f) 46)
      clear hA hB k1 hA1 hB1
      go_wp2_with fail
      refine (spend_ok _ _ _ _ _ _ _ hC d4 hf).mono ?_
      rintro en w2 ⟨rfl, hC3, k2⟩
      have hA3 := hA2.grown k2 (by simp; omega)
      have hB3 := hB2.grown k2 (by simp; omega)
      have a0 := hA3.cell 0
      have a1 := hA3.cell 1
      have a2 := hA3.cell 2
      have a3 := hA3.cell 3
      have a4 := hA3.cell 4
      have b0 := hB3.cell 0
      have b1 := hB3.cell 1
      have b2 := hB3.cell 2
      have b3 := hB3.cell 3
      have b4 := hB3.cell 4
      have f0 := hB3.frozen 0
      have f1 := hB3.frozen 1
      have f2 := hB3.frozen 2
      have f3 := hB3.frozen 3
      have f4 := hB3.frozen 4
      simp at a0 a1 a2 a3 a4 b0 b1 b2 b3 b4
      have c0 := hC3.cell 0
      have c1 := hC3.cell 1
      have c2 := hC3.cell 2
      have c3 := hC3.cell 3
      have c4 := hC3.cell 4
      have fc0 := hC3.frozen 0
      have fc1 := hC3.frozen 1
      have fc2 := hC3.frozen 2
      have fc3 := hC3.frozen 3
      have fc4 := hC3.frozen 4
      simp at c0 c1 c2 c3 c4
      have q1 : ¬ w1.heap.size = w.heap.size := by omega
      have q2 : ¬ w.heap.size = w1.heap.size := by omega
      have q3 : ¬ w1.heap.size = w.heap.size + 1 := by omega
      have q4 : ¬ w.heap.size + 1 = w1.heap.size := by omega
      have k3 : w.grownBy w2 none := (Kept.of_grown (F := fun _ => False) kc (fun _ h => by cases h)).trans (Kept.of_grown (F := upTo (fun _ => False) w.heap.size _) k2 (fun g' e => by cases e; exact .inr ⟨by omega, by simp⟩)) |>.grownNone (fun _ _ h => h)
      clear hA2 hB2 hC kc kk k2 hA3 hf
      go_wp2
      refine bodyPost_ret (results_cell_tmp rfl _ _ _ ⟨w.heap.size + 1, 0, none⟩ _ rfl (load5 ((hB3.far q4 _).set5 _ _ _ _ _))) rfl ?_
      exact ⟨by first | rfl | (rw [hv]; rfl), grown_set5 (grown_set1 k3 (by omega) _) (by omega) _ _ _ _ _⟩
    · have hv : propE e v l p f ep r = 5 := by rw [propE_eq h, if_neg hp]; simp at d4; rw [if_pos d4]
      go_enter Tryz.func93, Tryz.ntmps93
      go_wp2_with fail
      refine (check_ok _ B E (he.grown kb (by simp)) _ _ _ _ _ _ _ h).mono ?_
      rintro en w1 ⟨rfl, k1⟩
      have he1 := (he.grown kb (by simp)).grown k1 (by simp)
      have hA1 := hA.grown k1 (by simp)
      have hB1 := hB.grown k1 (by simp)
      have a0 := hA1.cell 0
      have a1 := hA1.cell 1
      have a2 := hA1.cell 2
      have a3 := hA1.cell 3
      have a4 := hA1.cell 4
      simp at a0 a1 a2 a3 a4
      have kk := grown_trans kb k1
      have hA2 := hA1.alloc (.cells (stC e v l p f) 46)
      have hB2 := hB1.alloc (.cells (stC e v l p f) 46)
      have hC := Blk.new w1 46 (stC e v l p f)
      have kc := grown_trans kk (World.grownBy_alloc w1 (.cells (stC e v l p f) 46) none)
      have nA := hA1.lt
      have nB := hB1.lt
      have he2 := he1.alloc (.cells (stC e v l p f) 46)
      clear hA hB k1 hA1 hB1
      go_wp2_with fail
      refine (spend_bad _ B E he2 _ _ _ _ _ _ hC d4).mono ?_
      rintro en w2 ⟨rfl, k2⟩
      have hA3 := hA2.grown k2 (by simp; omega)
      have hB3 := hB2.grown k2 (by simp; omega)
      have a0 := hA3.cell 0
      have a1 := hA3.cell 1
      have a2 := hA3.cell 2
      have a3 := hA3.cell 3
      have a4 := hA3.cell 4
      have b0 := hB3.cell 0
      have b1 := hB3.cell 1
      have b2 := hB3.cell 2
      have b3 := hB3.cell 3
      have b4 := hB3.cell 4
      have f0 := hB3.frozen 0
      have f1 := hB3.frozen 1
      have f2 := hB3.frozen 2
      have f3 := hB3.frozen 3
      have f4 := hB3.frozen 4
      simp at a0 a1 a2 a3 a4 b0 b1 b2 b3 b4
      have k3 : w.grownBy w2 none := (Kept.of_grown (F := fun _ => False) kc (fun _ h => by cases h)).trans (Kept.of_grown (F := upTo (fun _ => False) w.heap.size _) k2 (fun g' e => by cases e; exact .inr ⟨by omega, by simp⟩)) |>.grownNone (fun _ _ h => h)
      clear hA2 hB2 hC kc kk k2 hA3
      go_wp2
      refine bodyPost_ret (results_cell_tmp rfl _ _ _ ⟨w.heap.size + 1, 0, none⟩ _ rfl (load5 (hB3.set5 _ _ _ _ _))) rfl ?_
      exact ⟨by first | rfl | (rw [hv]; rfl), grown_set5 k3 (by omega) _ _ _ _ _⟩

def enterE (e v l p f ep : Int) : Nat := if rightB e v l p f = false then 4 else if ep ≤ e ∨ 1073741824 < ep then 18 else 0

set_option maxHeartbeats 4000000 in
theorem enter_is (w : World) (B : Nat) (E : Nat → Addr) (he : ErrEnv w B E) (e v l p f ep : Int) :
    Calls Tryz.prog 54 #[stV e v l p f, .int .i64 ep] w fun en w' => en = .returned (.tuple #[if enterE e v l p f ep = 0 then stV ep 0 0 0 f else stV e v l p f, evOf E (enterE e v l p f ep)]) ∧ w.grownBy w' none := by
  have ka := World.grownBy_alloc w (.cells (stC e v l p f) 46) none
  have kb := grown_trans ka (World.grownBy_alloc _ (.cells (stC 0 0 0 0 0) 46) none)
  have hA := (Blk.new w 46 (stC e v l p f)).alloc (.cells (stC 0 0 0 0 0) 46)
  have hB := Blk.new (w.alloc (.cells (stC e v l p f) 46)) 46 (stC 0 0 0 0 0)
  rw [World.size_alloc] at hB
  by_cases hR : rightB e v l p f = true
  · have hw : decide (ep ≤ e) = true ∨ (decide (ep ≤ e) = false ∧ decide ((1073741824 : Int) < ep) = true) ∨ (decide (ep ≤ e) = false ∧ decide ((1073741824 : Int) < ep) = false) := by
      simp only [decide_eq_true_eq, decide_eq_false_iff_not]; omega
    rcases hw with d | ⟨d, d1⟩ | ⟨d, d1⟩
    · have hv : enterE e v l p f ep = 18 := by simp at d; simp [enterE, hR, d]
      go_enter Tryz.func54, Tryz.ntmps54
      go_wp2_with fail
      refine (right_is _ _ _ _ _ _).mono ?_
      rintro en w1 ⟨rfl, k1⟩
      have gv := ((he.grown kb (by simp)).grown k1 (by simp)).epoch
      have n13 : ¬ 17 = w.heap.size + 1 := far_var he.epoch
      have m13 : ¬ w.heap.size + 1 = 17 := fun e => n13 e.symm
      have hA1 := hA.grown k1 (by simp)
      have hB1 := hB.grown k1 (by simp)
      have a0 := hA1.cell 0
      have a1 := hA1.cell 1
      have a2 := hA1.cell 2
      have a3 := hA1.cell 3
      have a4 := hA1.cell 4
      have b0 := hB1.cell 0
      have b1 := hB1.cell 1
      have b2 := hB1.cell 2
      have b3 := hB1.cell 3
      have b4 := hB1.cell 4
      have f0 := hB1.frozen 0
      have f1 := hB1.frozen 1
      have f2 := hB1.frozen 2
      have f3 := hB1.frozen 3
      have f4 := hB1.frozen 4
      simp at a0 a1 a2 a3 a4 b0 b1 b2 b3 b4
      have kk := grown_trans kb k1
      clear hA hB hA1 k1
      go_wp2_with fail
      go_region
      all_goals
        go_wp2_with fail
        refine bodyPost_ret (results_cell_tmp rfl _ _ _ ⟨w.heap.size + 1, 0, none⟩ _ rfl (load5 (hB1.set5 _ _ _ _ _).drew)) rfl ?_
        exact ⟨by first | rfl | (rw [hv]; rfl), grown_drew (grown_set5 kk (by omega) _ _ _ _ _)⟩
    · have hv : enterE e v l p f ep = 18 := by simp at d1; simp [enterE, hR, d1]
      go_enter Tryz.func54, Tryz.ntmps54
      go_wp2_with fail
      refine (right_is _ _ _ _ _ _).mono ?_
      rintro en w1 ⟨rfl, k1⟩
      have gv := ((he.grown kb (by simp)).grown k1 (by simp)).epoch
      have n13 : ¬ 17 = w.heap.size + 1 := far_var he.epoch
      have m13 : ¬ w.heap.size + 1 = 17 := fun e => n13 e.symm
      have hA1 := hA.grown k1 (by simp)
      have hB1 := hB.grown k1 (by simp)
      have a0 := hA1.cell 0
      have a1 := hA1.cell 1
      have a2 := hA1.cell 2
      have a3 := hA1.cell 3
      have a4 := hA1.cell 4
      have b0 := hB1.cell 0
      have b1 := hB1.cell 1
      have b2 := hB1.cell 2
      have b3 := hB1.cell 3
      have b4 := hB1.cell 4
      have f0 := hB1.frozen 0
      have f1 := hB1.frozen 1
      have f2 := hB1.frozen 2
      have f3 := hB1.frozen 3
      have f4 := hB1.frozen 4
      simp at a0 a1 a2 a3 a4 b0 b1 b2 b3 b4
      have kk := grown_trans kb k1
      clear hA hB hA1 k1
      go_wp2_with fail
      go_region
      all_goals
        go_wp2_with fail
        refine bodyPost_ret (results_cell_tmp rfl _ _ _ ⟨w.heap.size + 1, 0, none⟩ _ rfl (load5 (hB1.set5 _ _ _ _ _).drew)) rfl ?_
        exact ⟨by first | rfl | (rw [hv]; rfl), grown_drew (grown_set5 kk (by omega) _ _ _ _ _)⟩
    · have hv : enterE e v l p f ep = 0 := by simp at d d1; simp [enterE, hR]; omega
      go_enter Tryz.func54, Tryz.ntmps54
      go_wp2_with fail
      refine (right_is _ _ _ _ _ _).mono ?_
      rintro en w1 ⟨rfl, k1⟩
      have hA1 := hA.grown k1 (by simp)
      have hB1 := hB.grown k1 (by simp)
      have a0 := hA1.cell 0
      have a1 := hA1.cell 1
      have a2 := hA1.cell 2
      have a3 := hA1.cell 3
      have a4 := hA1.cell 4
      have b0 := hB1.cell 0
      have b1 := hB1.cell 1
      have b2 := hB1.cell 2
      have b3 := hB1.cell 3
      have b4 := hB1.cell 4
      have f0 := hB1.frozen 0
      have f1 := hB1.frozen 1
      have f2 := hB1.frozen 2
      have f3 := hB1.frozen 3
      have f4 := hB1.frozen 4
      simp at a0 a1 a2 a3 a4 b0 b1 b2 b3 b4
      have kk := grown_trans kb k1
      clear hA hB hA1 k1
      go_wp2_with fail
      refine bodyPost_ret (results_cell_tmp rfl _ _ _ ⟨w.heap.size + 1, 0, none⟩ _ rfl (load5 (hB1.set5 _ _ _ _ _))) rfl ?_
      exact ⟨by first | rfl | (rw [hv]; rfl), grown_set5 kk (by omega) _ _ _ _ _⟩
  · have hR' : rightB e v l p f = false := by simpa using hR
    have hv : enterE e v l p f ep = 4 := by simp [enterE, hR']
    go_enter Tryz.func54, Tryz.ntmps54
    go_wp2_with fail
    refine (right_is _ _ _ _ _ _).mono ?_
    rintro en w1 ⟨rfl, k1⟩
    have gv := ((he.grown kb (by simp)).grown k1 (by simp)).form
    have n13 : ¬ 1 = w.heap.size + 1 := far_var he.form
    have m13 : ¬ w.heap.size + 1 = 1 := fun e => n13 e.symm
    have hA1 := hA.grown k1 (by simp)
    have hB1 := hB.grown k1 (by simp)
    have a0 := hA1.cell 0
    have a1 := hA1.cell 1
    have a2 := hA1.cell 2
    have a3 := hA1.cell 3
    have a4 := hA1.cell 4
    have b0 := hB1.cell 0
    have b1 := hB1.cell 1
    have b2 := hB1.cell 2
    have b3 := hB1.cell 3
    have b4 := hB1.cell 4
    have f0 := hB1.frozen 0
    have f1 := hB1.frozen 1
    have f2 := hB1.frozen 2
    have f3 := hB1.frozen 3
    have f4 := hB1.frozen 4
    simp at a0 a1 a2 a3 a4 b0 b1 b2 b3 b4
    have kk := grown_trans kb k1
    clear hA hB hA1 k1
    go_wp2_with fail
    go_region
    all_goals
      go_wp2_with fail
      refine bodyPost_ret (results_cell_tmp rfl _ _ _ ⟨w.heap.size + 1, 0, none⟩ _ rfl (load5 (hB1.set5 _ _ _ _ _).drew)) rfl ?_
      exact ⟨by first | rfl | (rw [hv]; rfl), grown_drew (grown_set5 kk (by omega) _ _ _ _ _)⟩
end Go.Proofs.YthkjlgjbjjjohaaGreatDoor
/-
  The document's Vote and Late.
-/
namespace Go.Proofs.YthkjlgjbjjjohaaGreatDoor
open Go.RowKit

theorem loadR5 {w : World} {g : Nat} {x0 x1 x2 x3 x4 : Value} (h : Blk w g 38 #[x0, x1, x2, x3, x4]) : (loadVar 38 ⟨g, 0, none⟩).run Tryz.prog w = .ok (.agg #[x0, x1, x2, x3, x4]) w := by
  have c0 := h.cell 0
  have c1 := h.cell 1
  have c2 := h.cell 2
  have c3 := h.cell 3
  have c4 := h.cell 4
  simp at c0 c1 c2 c3 c4
  clear h
  go_simp

set_option maxHeartbeats 8000000 in
theorem refVote_is (w : World) (e v l p f ep r q g : Int) :
    Calls Tryz.prog 57 #[stV e v l p f, .int .i64 ep, .int .i64 r, .int .i64 q, .int .i64 g] w fun en w' => en = .returned (.tuple #[if voteE e v l p f ep r q = 0 then stV e r (voteL l q g) p (f + 1) else stV e v l p f, .int .i64 (voteE e v l p f ep r q : Nat)]) ∧ w.grownBy w' none := by
  have ka := World.grownBy_alloc w (.cells (stC e v l p f) 38) none
  have kb := grown_trans ka (World.grownBy_alloc _ (.cells (stC 0 0 0 0 0) 38) none)
  have hA := (Blk.new w 38 (stC e v l p f)).alloc (.cells (stC 0 0 0 0 0) 38)
  have hB := Blk.new (w.alloc (.cells (stC e v l p f) 38)) 38 (stC 0 0 0 0 0)
  rw [World.size_alloc] at hB
  by_cases hR : rightB e v l p f = true
  · by_cases hep : ep = e
    · subst hep
      have hw : decide (r < (1 : Int)) = true ∨ (decide (r < (1 : Int)) = false ∧ decide ((1099511627776 : Int) < r) = true) ∨ (decide (r < (1 : Int)) = false ∧ decide ((1099511627776 : Int) < r) = false) := by
        simp only [decide_eq_true_eq, decide_eq_false_iff_not]; omega
      rcases hw with dr | ⟨dr, dr1⟩ | ⟨dr, dr1⟩
      · have hv : voteE ep v l p f ep r q = 14 := by simp at dr; have hc : chkN ep v l p f ep r = 14 := (by simp [chkN, hR, dr]); simp [voteE, hc]
        go_enter Tryz.func57, Tryz.ntmps57
        go_wp2_with fail
        refine (refRight_is _ _ _ _ _ _).mono ?_
        rintro en w1 ⟨rfl, k1⟩
        have hA1 := hA.grown k1 (by simp)
        have hB1 := hB.grown k1 (by simp)
        have a0 := hA1.cell 0
        have a1 := hA1.cell 1
        have a2 := hA1.cell 2
        have a3 := hA1.cell 3
        have a4 := hA1.cell 4
        have b0 := hB1.cell 0
        have b1 := hB1.cell 1
        have b2 := hB1.cell 2
        have b3 := hB1.cell 3
        have b4 := hB1.cell 4
        have f0 := hB1.frozen 0
        have f1 := hB1.frozen 1
        have f2 := hB1.frozen 2
        have f3 := hB1.frozen 3
        have f4 := hB1.frozen 4
        simp at a0 a1 a2 a3 a4 b0 b1 b2 b3 b4
        have kk := grown_trans kb k1
        clear hA hB hA1 k1
        go_wp2_with fail
        refine bodyPost_ret (results_cell_tmp rfl _ _ _ ⟨w.heap.size + 1, 0, none⟩ _ rfl (loadR5 (hB1.set5 _ _ _ _ _))) rfl ?_
        exact ⟨by first | rfl | (rw [hv]; rfl), grown_set5 kk (by omega) _ _ _ _ _⟩
      · have hv : voteE ep v l p f ep r q = 14 := by simp at dr1; have hc : chkN ep v l p f ep r = 14 := (by simp [chkN, hR, dr1]); simp [voteE, hc]
        go_enter Tryz.func57, Tryz.ntmps57
        go_wp2_with fail
        refine (refRight_is _ _ _ _ _ _).mono ?_
        rintro en w1 ⟨rfl, k1⟩
        have hA1 := hA.grown k1 (by simp)
        have hB1 := hB.grown k1 (by simp)
        have a0 := hA1.cell 0
        have a1 := hA1.cell 1
        have a2 := hA1.cell 2
        have a3 := hA1.cell 3
        have a4 := hA1.cell 4
        have b0 := hB1.cell 0
        have b1 := hB1.cell 1
        have b2 := hB1.cell 2
        have b3 := hB1.cell 3
        have b4 := hB1.cell 4
        have f0 := hB1.frozen 0
        have f1 := hB1.frozen 1
        have f2 := hB1.frozen 2
        have f3 := hB1.frozen 3
        have f4 := hB1.frozen 4
        simp at a0 a1 a2 a3 a4 b0 b1 b2 b3 b4
        have kk := grown_trans kb k1
        clear hA hB hA1 k1
        go_wp2_with fail
        refine bodyPost_ret (results_cell_tmp rfl _ _ _ ⟨w.heap.size + 1, 0, none⟩ _ rfl (loadR5 (hB1.set5 _ _ _ _ _))) rfl ?_
        exact ⟨by first | rfl | (rw [hv]; rfl), grown_set5 kk (by omega) _ _ _ _ _⟩
      · have h : chkN ep v l p f ep r = 0 := by simp at dr dr1; simp [chkN, hR]; omega
        rcases vote_ways v l f r q with d | ⟨d, d1⟩ | ⟨d, d1, d2⟩ | ⟨d, d1, d2, d3⟩ | ⟨d, d1, d2, d3, d4⟩ | ⟨d, d1, d2, d3, d4⟩
        · have hv : voteE ep v l p f ep r q = 14 := by rw [voteE_eq h]; simp at d; rw [if_pos (.inl d)]
          go_enter Tryz.func57, Tryz.ntmps57
          go_wp2_with fail
          refine (refRight_is _ _ _ _ _ _).mono ?_
          rintro en w1 ⟨rfl, k1⟩
          have hA1 := hA.grown k1 (by simp)
          have hB1 := hB.grown k1 (by simp)
          have a0 := hA1.cell 0
          have a1 := hA1.cell 1
          have a2 := hA1.cell 2
          have a3 := hA1.cell 3
          have a4 := hA1.cell 4
          have b0 := hB1.cell 0
          have b1 := hB1.cell 1
          have b2 := hB1.cell 2
          have b3 := hB1.cell 3
          have b4 := hB1.cell 4
          have f0 := hB1.frozen 0
          have f1 := hB1.frozen 1
          have f2 := hB1.frozen 2
          have f3 := hB1.frozen 3
          have f4 := hB1.frozen 4
          simp at a0 a1 a2 a3 a4 b0 b1 b2 b3 b4
          have kk := grown_trans kb k1
          clear hA hB hA1 k1
          go_wp2_with fail
          refine bodyPost_ret (results_cell_tmp rfl _ _ _ ⟨w.heap.size + 1, 0, none⟩ _ rfl (loadR5 (hB1.set5 _ _ _ _ _))) rfl ?_
          exact ⟨by first | rfl | (rw [hv]; rfl), grown_set5 kk (by omega) _ _ _ _ _⟩
        · have hv : voteE ep v l p f ep r q = 14 := by rw [voteE_eq h]; simp at d1; rw [if_pos (.inr d1)]
          go_enter Tryz.func57, Tryz.ntmps57
          go_wp2_with fail
          refine (refRight_is _ _ _ _ _ _).mono ?_
          rintro en w1 ⟨rfl, k1⟩
          have hA1 := hA.grown k1 (by simp)
          have hB1 := hB.grown k1 (by simp)
          have a0 := hA1.cell 0
          have a1 := hA1.cell 1
          have a2 := hA1.cell 2
          have a3 := hA1.cell 3
          have a4 := hA1.cell 4
          have b0 := hB1.cell 0
          have b1 := hB1.cell 1
          have b2 := hB1.cell 2
          have b3 := hB1.cell 3
          have b4 := hB1.cell 4
          have f0 := hB1.frozen 0
          have f1 := hB1.frozen 1
          have f2 := hB1.frozen 2
          have f3 := hB1.frozen 3
          have f4 := hB1.frozen 4
          simp at a0 a1 a2 a3 a4 b0 b1 b2 b3 b4
          have kk := grown_trans kb k1
          clear hA hB hA1 k1
          go_wp2_with fail
          refine bodyPost_ret (results_cell_tmp rfl _ _ _ ⟨w.heap.size + 1, 0, none⟩ _ rfl (loadR5 (hB1.set5 _ _ _ _ _))) rfl ?_
          exact ⟨by first | rfl | (rw [hv]; rfl), grown_set5 kk (by omega) _ _ _ _ _⟩
        · have hv : voteE ep v l p f ep r q = 10 := by rw [voteE_eq h]; simp at d d1 d2; rw [if_neg (by omega), if_pos d2]
          go_enter Tryz.func57, Tryz.ntmps57
          go_wp2_with fail
          refine (refRight_is _ _ _ _ _ _).mono ?_
          rintro en w1 ⟨rfl, k1⟩
          have hA1 := hA.grown k1 (by simp)
          have hB1 := hB.grown k1 (by simp)
          have a0 := hA1.cell 0
          have a1 := hA1.cell 1
          have a2 := hA1.cell 2
          have a3 := hA1.cell 3
          have a4 := hA1.cell 4
          have b0 := hB1.cell 0
          have b1 := hB1.cell 1
          have b2 := hB1.cell 2
          have b3 := hB1.cell 3
          have b4 := hB1.cell 4
          have f0 := hB1.frozen 0
          have f1 := hB1.frozen 1
          have f2 := hB1.frozen 2
          have f3 := hB1.frozen 3
          have f4 := hB1.frozen 4
          simp at a0 a1 a2 a3 a4 b0 b1 b2 b3 b4
          have kk := grown_trans kb k1
          clear hA hB hA1 k1
          go_wp2_with fail
          refine bodyPost_ret (results_cell_tmp rfl _ _ _ ⟨w.heap.size + 1, 0, none⟩ _ rfl (loadR5 (hB1.set5 _ _ _ _ _))) rfl ?_
          exact ⟨by first | rfl | (rw [hv]; rfl), grown_set5 kk (by omega) _ _ _ _ _⟩
        · have hv : voteE ep v l p f ep r q = 15 := by rw [voteE_eq h]; simp at d d1 d2 d3; rw [if_neg (by omega), if_neg (by omega), if_pos d3]
          go_enter Tryz.func57, Tryz.ntmps57
          go_wp2_with fail
          refine (refRight_is _ _ _ _ _ _).mono ?_
          rintro en w1 ⟨rfl, k1⟩
          have hA1 := hA.grown k1 (by simp)
          have hB1 := hB.grown k1 (by simp)
          have a0 := hA1.cell 0
          have a1 := hA1.cell 1
          have a2 := hA1.cell 2
          have a3 := hA1.cell 3
          have a4 := hA1.cell 4
          have b0 := hB1.cell 0
          have b1 := hB1.cell 1
          have b2 := hB1.cell 2
          have b3 := hB1.cell 3
          have b4 := hB1.cell 4
          have f0 := hB1.frozen 0
          have f1 := hB1.frozen 1
          have f2 := hB1.frozen 2
          have f3 := hB1.frozen 3
          have f4 := hB1.frozen 4
          simp at a0 a1 a2 a3 a4 b0 b1 b2 b3 b4
          have kk := grown_trans kb k1
          clear hA hB hA1 k1
          go_wp2_with fail
          refine bodyPost_ret (results_cell_tmp rfl _ _ _ ⟨w.heap.size + 1, 0, none⟩ _ rfl (loadR5 (hB1.set5 _ _ _ _ _))) rfl ?_
          exact ⟨by first | rfl | (rw [hv]; rfl), grown_set5 kk (by omega) _ _ _ _ _⟩
        · have hv : voteE ep v l p f ep r q = 5 := by rw [voteE_eq h]; simp at d d1 d2 d3 d4; rw [if_neg (by omega), if_neg (by omega), if_neg (by omega), if_pos d4]
          go_enter Tryz.func57, Tryz.ntmps57
          go_wp2_with fail
          refine (refRight_is _ _ _ _ _ _).mono ?_
          rintro en w1 ⟨rfl, k1⟩
          have hA1 := hA.grown k1 (by simp)
          have hB1 := hB.grown k1 (by simp)
          have a0 := hA1.cell 0
          have a1 := hA1.cell 1
          have a2 := hA1.cell 2
          have a3 := hA1.cell 3
          have a4 := hA1.cell 4
          have b0 := hB1.cell 0
          have b1 := hB1.cell 1
          have b2 := hB1.cell 2
          have b3 := hB1.cell 3
          have b4 := hB1.cell 4
          have f0 := hB1.frozen 0
          have f1 := hB1.frozen 1
          have f2 := hB1.frozen 2
          have f3 := hB1.frozen 3
          have f4 := hB1.frozen 4
          simp at a0 a1 a2 a3 a4 b0 b1 b2 b3 b4
          have kk := grown_trans kb k1
          clear hA hB hA1 k1
          go_wp2_with fail
          refine bodyPost_ret (results_cell_tmp rfl _ _ _ ⟨w.heap.size + 1, 0, none⟩ _ rfl (loadR5 (hB1.set5 _ _ _ _ _))) rfl ?_
          exact ⟨by first | rfl | (rw [hv]; rfl), grown_set5 kk (by omega) _ _ _ _ _⟩
        · have hv : voteE ep v l p f ep r q = 0 := by rw [voteE_eq h]; simp at d d1 d2 d3 d4; rw [if_neg (by omega), if_neg (by omega), if_neg (by omega), if_neg d4]
          have hfw : wrap64 (f + 1) = f + 1 := by have := (right_yes _ _ _ _ _ hR).2.2.2.2.2.2.2.2; unfold wrap64; omega
          have hl0 := (right_yes _ _ _ _ _ hR).2.2.1
          have hm : (decide (0 ≤ g) = true ∧ decide (g ≤ q) = true ∧ decide (l < g) = true ∧ voteL l q g = g) ∨ (decide (0 ≤ g) = true ∧ decide (g ≤ q) = true ∧ decide (l < g) = false ∧ voteL l q g = l) ∨ (decide (0 ≤ g) = true ∧ decide (g ≤ q) = false ∧ voteL l q g = l) ∨ (decide (0 ≤ g) = false ∧ voteL l q g = l) := by
            simp only [decide_eq_true_eq, decide_eq_false_iff_not, voteL]
            by_cases h0 : 0 ≤ g
            · by_cases h1 : g ≤ q
              · by_cases h2 : l < g
                · exact .inl ⟨h0, h1, h2, by simp [h1, h2]⟩
                · exact .inr (.inl ⟨h0, h1, h2, by simp [h2]⟩)
              · exact .inr (.inr (.inl ⟨h0, h1, by simp [h1]⟩))
            · exact .inr (.inr (.inr ⟨h0, by rw [if_neg (by omega)]⟩))
          clear hl0
          rcases hm with ⟨m, m1, m2, hl⟩ | ⟨m, m1, m2, hl⟩ | ⟨m, m1, hl⟩ | ⟨m, hl⟩
          · go_enter Tryz.func57, Tryz.ntmps57
            go_wp2_with fail
            refine (refRight_is _ _ _ _ _ _).mono ?_
            rintro en w1 ⟨rfl, k1⟩
            have hA1 := hA.grown k1 (by simp)
            have hB1 := hB.grown k1 (by simp)
            have a0 := hA1.cell 0
            have a1 := hA1.cell 1
            have a2 := hA1.cell 2
            have a3 := hA1.cell 3
            have a4 := hA1.cell 4
            have b0 := hB1.cell 0
            have b1 := hB1.cell 1
            have b2 := hB1.cell 2
            have b3 := hB1.cell 3
            have b4 := hB1.cell 4
            have f0 := hB1.frozen 0
            have f1 := hB1.frozen 1
            have f2 := hB1.frozen 2
            have f3 := hB1.frozen 3
            have f4 := hB1.frozen 4
            have fa0 := hA1.frozen 0
            have fa1 := hA1.frozen 1
            have fa2 := hA1.frozen 2
            have fa3 := hA1.frozen 3
            have fa4 := hA1.frozen 4
            simp at a0 a1 a2 a3 a4 b0 b1 b2 b3 b4
            have kk := grown_trans kb k1
            clear hA hB hA1 k1
            go_wp2_with fail
            refine bodyPost_ret (results_cell_tmp rfl _ _ _ ⟨w.heap.size + 1, 0, none⟩ _ rfl (loadR5 ((((hB1.far (by simp) _).far (by simp) _).far (by simp) _).set5 _ _ _ _ _))) rfl ?_
            exact ⟨by first | rfl | (rw [hv, hl, hfw]; rfl), grown_set5 (grown_set1 (grown_set1 (grown_set1 kk (by omega) _) (by omega) _) (by omega) _) (by omega) _ _ _ _ _⟩
          · go_enter Tryz.func57, Tryz.ntmps57
            go_wp2_with fail
            refine (refRight_is _ _ _ _ _ _).mono ?_
            rintro en w1 ⟨rfl, k1⟩
            have hA1 := hA.grown k1 (by simp)
            have hB1 := hB.grown k1 (by simp)
            have a0 := hA1.cell 0
            have a1 := hA1.cell 1
            have a2 := hA1.cell 2
            have a3 := hA1.cell 3
            have a4 := hA1.cell 4
            have b0 := hB1.cell 0
            have b1 := hB1.cell 1
            have b2 := hB1.cell 2
            have b3 := hB1.cell 3
            have b4 := hB1.cell 4
            have f0 := hB1.frozen 0
            have f1 := hB1.frozen 1
            have f2 := hB1.frozen 2
            have f3 := hB1.frozen 3
            have f4 := hB1.frozen 4
            have fa0 := hA1.frozen 0
            have fa1 := hA1.frozen 1
            have fa2 := hA1.frozen 2
            have fa3 := hA1.frozen 3
            have fa4 := hA1.frozen 4
            simp at a0 a1 a2 a3 a4 b0 b1 b2 b3 b4
            have kk := grown_trans kb k1
            clear hA hB hA1 k1
            go_wp2_with fail
            refine bodyPost_ret (results_cell_tmp rfl _ _ _ ⟨w.heap.size + 1, 0, none⟩ _ rfl (loadR5 (((hB1.far (by simp) _).far (by simp) _).set5 _ _ _ _ _))) rfl ?_
            exact ⟨by first | rfl | (rw [hv, hl, hfw]; rfl), grown_set5 (grown_set1 (grown_set1 kk (by omega) _) (by omega) _) (by omega) _ _ _ _ _⟩
          · go_enter Tryz.func57, Tryz.ntmps57
            go_wp2_with fail
            refine (refRight_is _ _ _ _ _ _).mono ?_
            rintro en w1 ⟨rfl, k1⟩
            have hA1 := hA.grown k1 (by simp)
            have hB1 := hB.grown k1 (by simp)
            have a0 := hA1.cell 0
            have a1 := hA1.cell 1
            have a2 := hA1.cell 2
            have a3 := hA1.cell 3
            have a4 := hA1.cell 4
            have b0 := hB1.cell 0
            have b1 := hB1.cell 1
            have b2 := hB1.cell 2
            have b3 := hB1.cell 3
            have b4 := hB1.cell 4
            have f0 := hB1.frozen 0
            have f1 := hB1.frozen 1
            have f2 := hB1.frozen 2
            have f3 := hB1.frozen 3
            have f4 := hB1.frozen 4
            have fa0 := hA1.frozen 0
            have fa1 := hA1.frozen 1
            have fa2 := hA1.frozen 2
            have fa3 := hA1.frozen 3
            have fa4 := hA1.frozen 4
            simp at a0 a1 a2 a3 a4 b0 b1 b2 b3 b4
            have kk := grown_trans kb k1
            clear hA hB hA1 k1
            go_wp2_with fail
            refine bodyPost_ret (results_cell_tmp rfl _ _ _ ⟨w.heap.size + 1, 0, none⟩ _ rfl (loadR5 (((hB1.far (by simp) _).far (by simp) _).set5 _ _ _ _ _))) rfl ?_
            exact ⟨by first | rfl | (rw [hv, hl, hfw]; rfl), grown_set5 (grown_set1 (grown_set1 kk (by omega) _) (by omega) _) (by omega) _ _ _ _ _⟩
          · go_enter Tryz.func57, Tryz.ntmps57
            go_wp2_with fail
            refine (refRight_is _ _ _ _ _ _).mono ?_
            rintro en w1 ⟨rfl, k1⟩
            have hA1 := hA.grown k1 (by simp)
            have hB1 := hB.grown k1 (by simp)
            have a0 := hA1.cell 0
            have a1 := hA1.cell 1
            have a2 := hA1.cell 2
            have a3 := hA1.cell 3
            have a4 := hA1.cell 4
            have b0 := hB1.cell 0
            have b1 := hB1.cell 1
            have b2 := hB1.cell 2
            have b3 := hB1.cell 3
            have b4 := hB1.cell 4
            have f0 := hB1.frozen 0
            have f1 := hB1.frozen 1
            have f2 := hB1.frozen 2
            have f3 := hB1.frozen 3
            have f4 := hB1.frozen 4
            have fa0 := hA1.frozen 0
            have fa1 := hA1.frozen 1
            have fa2 := hA1.frozen 2
            have fa3 := hA1.frozen 3
            have fa4 := hA1.frozen 4
            simp at a0 a1 a2 a3 a4 b0 b1 b2 b3 b4
            have kk := grown_trans kb k1
            clear hA hB hA1 k1
            go_wp2_with fail
            refine bodyPost_ret (results_cell_tmp rfl _ _ _ ⟨w.heap.size + 1, 0, none⟩ _ rfl (loadR5 (((hB1.far (by simp) _).far (by simp) _).set5 _ _ _ _ _))) rfl ?_
            exact ⟨by first | rfl | (rw [hv, hl, hfw]; rfl), grown_set5 (grown_set1 (grown_set1 kk (by omega) _) (by omega) _) (by omega) _ _ _ _ _⟩
    · have hv : voteE e v l p f ep r q = 18 := by have hc : chkN e v l p f ep r = 18 := (by simp [chkN, hR, hep]); simp [voteE, hc]
      have hq : (ep == e) = false := by simpa using hep
      have hq' : (ep != e) = true := by simpa using hep
      clear hep
      go_enter Tryz.func57, Tryz.ntmps57
      go_wp2_with fail
      refine (refRight_is _ _ _ _ _ _).mono ?_
      rintro en w1 ⟨rfl, k1⟩
      have hA1 := hA.grown k1 (by simp)
      have hB1 := hB.grown k1 (by simp)
      have a0 := hA1.cell 0
      have a1 := hA1.cell 1
      have a2 := hA1.cell 2
      have a3 := hA1.cell 3
      have a4 := hA1.cell 4
      have b0 := hB1.cell 0
      have b1 := hB1.cell 1
      have b2 := hB1.cell 2
      have b3 := hB1.cell 3
      have b4 := hB1.cell 4
      have f0 := hB1.frozen 0
      have f1 := hB1.frozen 1
      have f2 := hB1.frozen 2
      have f3 := hB1.frozen 3
      have f4 := hB1.frozen 4
      simp at a0 a1 a2 a3 a4 b0 b1 b2 b3 b4
      have kk := grown_trans kb k1
      clear hA hB hA1 k1
      go_wp2_with fail
      refine bodyPost_ret (results_cell_tmp rfl _ _ _ ⟨w.heap.size + 1, 0, none⟩ _ rfl (loadR5 (hB1.set5 _ _ _ _ _))) rfl ?_
      exact ⟨by first | rfl | (rw [hv]; rfl), grown_set5 kk (by omega) _ _ _ _ _⟩
  · have hR' : rightB e v l p f = false := by simpa using hR
    have hv : voteE e v l p f ep r q = 4 := by have hc : chkN e v l p f ep r = 4 := (by simp [chkN, hR']); simp [voteE, hc]
    clear hR
    go_enter Tryz.func57, Tryz.ntmps57
    go_wp2_with fail
    refine (refRight_is _ _ _ _ _ _).mono ?_
    rintro en w1 ⟨rfl, k1⟩
    have hA1 := hA.grown k1 (by simp)
    have hB1 := hB.grown k1 (by simp)
    have a0 := hA1.cell 0
    have a1 := hA1.cell 1
    have a2 := hA1.cell 2
    have a3 := hA1.cell 3
    have a4 := hA1.cell 4
    have b0 := hB1.cell 0
    have b1 := hB1.cell 1
    have b2 := hB1.cell 2
    have b3 := hB1.cell 3
    have b4 := hB1.cell 4
    have f0 := hB1.frozen 0
    have f1 := hB1.frozen 1
    have f2 := hB1.frozen 2
    have f3 := hB1.frozen 3
    have f4 := hB1.frozen 4
    simp at a0 a1 a2 a3 a4 b0 b1 b2 b3 b4
    have kk := grown_trans kb k1
    clear hA hB hA1 k1
    go_wp2_with fail
    refine bodyPost_ret (results_cell_tmp rfl _ _ _ ⟨w.heap.size + 1, 0, none⟩ _ rfl (loadR5 (hB1.set5 _ _ _ _ _))) rfl ?_
    exact ⟨by first | rfl | (rw [hv]; rfl), grown_set5 kk (by omega) _ _ _ _ _⟩

set_option maxHeartbeats 8000000 in
theorem refLate_is (w : World) (e v l p f ep r : Int) :
    Calls Tryz.prog 58 #[stV e v l p f, .int .i64 ep, .int .i64 r] w fun en w' => en = .returned (.tuple #[if lateE e v l p f ep r = 0 then stV e (lateV v r) l p (f + 1) else stV e v l p f, .int .i64 (lateE e v l p f ep r : Nat)]) ∧ w.grownBy w' none := by
  have ka := World.grownBy_alloc w (.cells (stC e v l p f) 38) none
  have kb := grown_trans ka (World.grownBy_alloc _ (.cells (stC 0 0 0 0 0) 38) none)
  have hA := (Blk.new w 38 (stC e v l p f)).alloc (.cells (stC 0 0 0 0 0) 38)
  have hB := Blk.new (w.alloc (.cells (stC e v l p f) 38)) 38 (stC 0 0 0 0 0)
  rw [World.size_alloc] at hB
  by_cases hR : rightB e v l p f = true
  · by_cases hep : ep = e
    · subst hep
      have hw : decide (r < (1 : Int)) = true ∨ (decide (r < (1 : Int)) = false ∧ decide ((1099511627776 : Int) < r) = true) ∨ (decide (r < (1 : Int)) = false ∧ decide ((1099511627776 : Int) < r) = false) := by
        simp only [decide_eq_true_eq, decide_eq_false_iff_not]; omega
      rcases hw with dr | ⟨dr, dr1⟩ | ⟨dr, dr1⟩
      · have hv : lateE ep v l p f ep r = 14 := by simp at dr; have hc : chkN ep v l p f ep r = 14 := (by simp [chkN, hR, dr]); simp [lateE, hc]
        go_enter Tryz.func58, Tryz.ntmps58
        go_wp2_with fail
        refine (refRight_is _ _ _ _ _ _).mono ?_
        rintro en w1 ⟨rfl, k1⟩
        have hA1 := hA.grown k1 (by simp)
        have hB1 := hB.grown k1 (by simp)
        have a0 := hA1.cell 0
        have a1 := hA1.cell 1
        have a2 := hA1.cell 2
        have a3 := hA1.cell 3
        have a4 := hA1.cell 4
        have b0 := hB1.cell 0
        have b1 := hB1.cell 1
        have b2 := hB1.cell 2
        have b3 := hB1.cell 3
        have b4 := hB1.cell 4
        have f0 := hB1.frozen 0
        have f1 := hB1.frozen 1
        have f2 := hB1.frozen 2
        have f3 := hB1.frozen 3
        have f4 := hB1.frozen 4
        simp at a0 a1 a2 a3 a4 b0 b1 b2 b3 b4
        have kk := grown_trans kb k1
        clear hA hB hA1 k1
        go_wp2_with fail
        refine bodyPost_ret (results_cell_tmp rfl _ _ _ ⟨w.heap.size + 1, 0, none⟩ _ rfl (loadR5 (hB1.set5 _ _ _ _ _))) rfl ?_
        exact ⟨by first | rfl | (rw [hv]; rfl), grown_set5 kk (by omega) _ _ _ _ _⟩
      · have hv : lateE ep v l p f ep r = 14 := by simp at dr1; have hc : chkN ep v l p f ep r = 14 := (by simp [chkN, hR, dr1]); simp [lateE, hc]
        go_enter Tryz.func58, Tryz.ntmps58
        go_wp2_with fail
        refine (refRight_is _ _ _ _ _ _).mono ?_
        rintro en w1 ⟨rfl, k1⟩
        have hA1 := hA.grown k1 (by simp)
        have hB1 := hB.grown k1 (by simp)
        have a0 := hA1.cell 0
        have a1 := hA1.cell 1
        have a2 := hA1.cell 2
        have a3 := hA1.cell 3
        have a4 := hA1.cell 4
        have b0 := hB1.cell 0
        have b1 := hB1.cell 1
        have b2 := hB1.cell 2
        have b3 := hB1.cell 3
        have b4 := hB1.cell 4
        have f0 := hB1.frozen 0
        have f1 := hB1.frozen 1
        have f2 := hB1.frozen 2
        have f3 := hB1.frozen 3
        have f4 := hB1.frozen 4
        simp at a0 a1 a2 a3 a4 b0 b1 b2 b3 b4
        have kk := grown_trans kb k1
        clear hA hB hA1 k1
        go_wp2_with fail
        refine bodyPost_ret (results_cell_tmp rfl _ _ _ ⟨w.heap.size + 1, 0, none⟩ _ rfl (loadR5 (hB1.set5 _ _ _ _ _))) rfl ?_
        exact ⟨by first | rfl | (rw [hv]; rfl), grown_set5 kk (by omega) _ _ _ _ _⟩
      · have h : chkN ep v l p f ep r = 0 := by simp at dr dr1; simp [chkN, hR]; omega
        cases d4 : (f == 32)
        · have hv : lateE ep v l p f ep r = 0 := by rw [lateE_eq h]; simp at d4; rw [if_neg d4]
          have hfw : wrap64 (f + 1) = f + 1 := by have := (right_yes _ _ _ _ _ hR).2.2.2.2.2.2.2.2; unfold wrap64; omega
          have hl0 := (right_yes _ _ _ _ _ hR).2.2.1
          clear hl0
          by_cases m : r ≤ v
          · have hl : lateV v r = v := by simp [lateV, m]
            have m1 : decide (v < r) = false := by simp; omega
            clear m
            go_enter Tryz.func58, Tryz.ntmps58
            go_wp2_with fail
            refine (refRight_is _ _ _ _ _ _).mono ?_
            rintro en w1 ⟨rfl, k1⟩
            have hA1 := hA.grown k1 (by simp)
            have hB1 := hB.grown k1 (by simp)
            have a0 := hA1.cell 0
            have a1 := hA1.cell 1
            have a2 := hA1.cell 2
            have a3 := hA1.cell 3
            have a4 := hA1.cell 4
            have b0 := hB1.cell 0
            have b1 := hB1.cell 1
            have b2 := hB1.cell 2
            have b3 := hB1.cell 3
            have b4 := hB1.cell 4
            have f0 := hB1.frozen 0
            have f1 := hB1.frozen 1
            have f2 := hB1.frozen 2
            have f3 := hB1.frozen 3
            have f4 := hB1.frozen 4
            have fa0 := hA1.frozen 0
            have fa1 := hA1.frozen 1
            have fa2 := hA1.frozen 2
            have fa3 := hA1.frozen 3
            have fa4 := hA1.frozen 4
            simp at a0 a1 a2 a3 a4 b0 b1 b2 b3 b4
            have kk := grown_trans kb k1
            clear hA hB hA1 k1
            go_wp2_with fail
            refine bodyPost_ret (results_cell_tmp rfl _ _ _ ⟨w.heap.size + 1, 0, none⟩ _ rfl (loadR5 ((hB1.far (by simp) _).set5 _ _ _ _ _))) rfl ?_
            exact ⟨by first | rfl | (rw [hv, hl, hfw]; rfl), grown_set5 (grown_set1 kk (by omega) _) (by omega) _ _ _ _ _⟩
          · have hl : lateV v r = r := by simp [lateV, m]
            have m1 : decide (v < r) = true := by simp; omega
            clear m
            go_enter Tryz.func58, Tryz.ntmps58
            go_wp2_with fail
            refine (refRight_is _ _ _ _ _ _).mono ?_
            rintro en w1 ⟨rfl, k1⟩
            have hA1 := hA.grown k1 (by simp)
            have hB1 := hB.grown k1 (by simp)
            have a0 := hA1.cell 0
            have a1 := hA1.cell 1
            have a2 := hA1.cell 2
            have a3 := hA1.cell 3
            have a4 := hA1.cell 4
            have b0 := hB1.cell 0
            have b1 := hB1.cell 1
            have b2 := hB1.cell 2
            have b3 := hB1.cell 3
            have b4 := hB1.cell 4
            have f0 := hB1.frozen 0
            have f1 := hB1.frozen 1
            have f2 := hB1.frozen 2
            have f3 := hB1.frozen 3
            have f4 := hB1.frozen 4
            have fa0 := hA1.frozen 0
            have fa1 := hA1.frozen 1
            have fa2 := hA1.frozen 2
            have fa3 := hA1.frozen 3
            have fa4 := hA1.frozen 4
            simp at a0 a1 a2 a3 a4 b0 b1 b2 b3 b4
            have kk := grown_trans kb k1
            clear hA hB hA1 k1
            go_wp2_with fail
            refine bodyPost_ret (results_cell_tmp rfl _ _ _ ⟨w.heap.size + 1, 0, none⟩ _ rfl (loadR5 (((hB1.far (by simp) _).far (by simp) _).set5 _ _ _ _ _))) rfl ?_
            exact ⟨by first | rfl | (rw [hv, hl, hfw]; rfl), grown_set5 (grown_set1 (grown_set1 kk (by omega) _) (by omega) _) (by omega) _ _ _ _ _⟩
        · have hv : lateE ep v l p f ep r = 5 := by rw [lateE_eq h]; simp at d4; rw [if_pos d4]
          go_enter Tryz.func58, Tryz.ntmps58
          go_wp2_with fail
          refine (refRight_is _ _ _ _ _ _).mono ?_
          rintro en w1 ⟨rfl, k1⟩
          have hA1 := hA.grown k1 (by simp)
          have hB1 := hB.grown k1 (by simp)
          have a0 := hA1.cell 0
          have a1 := hA1.cell 1
          have a2 := hA1.cell 2
          have a3 := hA1.cell 3
          have a4 := hA1.cell 4
          have b0 := hB1.cell 0
          have b1 := hB1.cell 1
          have b2 := hB1.cell 2
          have b3 := hB1.cell 3
          have b4 := hB1.cell 4
          have f0 := hB1.frozen 0
          have f1 := hB1.frozen 1
          have f2 := hB1.frozen 2
          have f3 := hB1.frozen 3
          have f4 := hB1.frozen 4
          simp at a0 a1 a2 a3 a4 b0 b1 b2 b3 b4
          have kk := grown_trans kb k1
          clear hA hB hA1 k1
          go_wp2_with fail
          refine bodyPost_ret (results_cell_tmp rfl _ _ _ ⟨w.heap.size + 1, 0, none⟩ _ rfl (loadR5 (hB1.set5 _ _ _ _ _))) rfl ?_
          exact ⟨by first | rfl | (rw [hv]; rfl), grown_set5 kk (by omega) _ _ _ _ _⟩
    · have hv : lateE e v l p f ep r = 18 := by have hc : chkN e v l p f ep r = 18 := (by simp [chkN, hR, hep]); simp [lateE, hc]
      have hq : (ep == e) = false := by simpa using hep
      have hq' : (ep != e) = true := by simpa using hep
      clear hep
      go_enter Tryz.func58, Tryz.ntmps58
      go_wp2_with fail
      refine (refRight_is _ _ _ _ _ _).mono ?_
      rintro en w1 ⟨rfl, k1⟩
      have hA1 := hA.grown k1 (by simp)
      have hB1 := hB.grown k1 (by simp)
      have a0 := hA1.cell 0
      have a1 := hA1.cell 1
      have a2 := hA1.cell 2
      have a3 := hA1.cell 3
      have a4 := hA1.cell 4
      have b0 := hB1.cell 0
      have b1 := hB1.cell 1
      have b2 := hB1.cell 2
      have b3 := hB1.cell 3
      have b4 := hB1.cell 4
      have f0 := hB1.frozen 0
      have f1 := hB1.frozen 1
      have f2 := hB1.frozen 2
      have f3 := hB1.frozen 3
      have f4 := hB1.frozen 4
      simp at a0 a1 a2 a3 a4 b0 b1 b2 b3 b4
      have kk := grown_trans kb k1
      clear hA hB hA1 k1
      go_wp2_with fail
      refine bodyPost_ret (results_cell_tmp rfl _ _ _ ⟨w.heap.size + 1, 0, none⟩ _ rfl (loadR5 (hB1.set5 _ _ _ _ _))) rfl ?_
      exact ⟨by first | rfl | (rw [hv]; rfl), grown_set5 kk (by omega) _ _ _ _ _⟩
  · have hR' : rightB e v l p f = false := by simpa using hR
    have hv : lateE e v l p f ep r = 4 := by have hc : chkN e v l p f ep r = 4 := (by simp [chkN, hR']); simp [lateE, hc]
    clear hR
    go_enter Tryz.func58, Tryz.ntmps58
    go_wp2_with fail
    refine (refRight_is _ _ _ _ _ _).mono ?_
    rintro en w1 ⟨rfl, k1⟩
    have hA1 := hA.grown k1 (by simp)
    have hB1 := hB.grown k1 (by simp)
    have a0 := hA1.cell 0
    have a1 := hA1.cell 1
    have a2 := hA1.cell 2
    have a3 := hA1.cell 3
    have a4 := hA1.cell 4
    have b0 := hB1.cell 0
    have b1 := hB1.cell 1
    have b2 := hB1.cell 2
    have b3 := hB1.cell 3
    have b4 := hB1.cell 4
    have f0 := hB1.frozen 0
    have f1 := hB1.frozen 1
    have f2 := hB1.frozen 2
    have f3 := hB1.frozen 3
    have f4 := hB1.frozen 4
    simp at a0 a1 a2 a3 a4 b0 b1 b2 b3 b4
    have kk := grown_trans kb k1
    clear hA hB hA1 k1
    go_wp2_with fail
    refine bodyPost_ret (results_cell_tmp rfl _ _ _ ⟨w.heap.size + 1, 0, none⟩ _ rfl (loadR5 (hB1.set5 _ _ _ _ _))) rfl ?_
    exact ⟨by first | rfl | (rw [hv]; rfl), grown_set5 kk (by omega) _ _ _ _ _⟩
end Go.Proofs.YthkjlgjbjjjohaaGreatDoor
/-
  The document's Propose and Enter.
-/

namespace Go.Proofs.YthkjlgjbjjjohaaGreatDoor
open Go.RowKit

set_option maxHeartbeats 8000000 in
theorem refProp_is (w : World) (e v l p f ep r : Int) :
    Calls Tryz.prog 59 #[stV e v l p f, .int .i64 ep, .int .i64 r] w fun en w' => en = .returned (.tuple #[if propE e v l p f ep r = 0 then stV e v l r (f + 1) else stV e v l p f, .int .i64 (propE e v l p f ep r : Nat)]) ∧ w.grownBy w' none := by
  have ka := World.grownBy_alloc w (.cells (stC e v l p f) 38) none
  have kb := grown_trans ka (World.grownBy_alloc _ (.cells (stC 0 0 0 0 0) 38) none)
  have hA := (Blk.new w 38 (stC e v l p f)).alloc (.cells (stC 0 0 0 0 0) 38)
  have hB := Blk.new (w.alloc (.cells (stC e v l p f) 38)) 38 (stC 0 0 0 0 0)
  rw [World.size_alloc] at hB
  by_cases hR : rightB e v l p f = true
  · by_cases hep : ep = e
    · subst hep
      have hw : decide (r < (1 : Int)) = true ∨ (decide (r < (1 : Int)) = false ∧ decide ((1099511627776 : Int) < r) = true) ∨ (decide (r < (1 : Int)) = false ∧ decide ((1099511627776 : Int) < r) = false) := by
        simp only [decide_eq_true_eq, decide_eq_false_iff_not]; omega
      rcases hw with dr | ⟨dr, dr1⟩ | ⟨dr, dr1⟩
      · have hv : propE ep v l p f ep r = 14 := by simp at dr; have hc : chkN ep v l p f ep r = 14 := (by simp [chkN, hR, dr]); simp [propE, hc]
        go_enter Tryz.func59, Tryz.ntmps59
        go_wp2_with fail
        refine (refRight_is _ _ _ _ _ _).mono ?_
        rintro en w1 ⟨rfl, k1⟩
        have hA1 := hA.grown k1 (by simp)
        have hB1 := hB.grown k1 (by simp)
        have a0 := hA1.cell 0
        have a1 := hA1.cell 1
        have a2 := hA1.cell 2
        have a3 := hA1.cell 3
        have a4 := hA1.cell 4
        have b0 := hB1.cell 0
        have b1 := hB1.cell 1
        have b2 := hB1.cell 2
        have b3 := hB1.cell 3
        have b4 := hB1.cell 4
        have f0 := hB1.frozen 0
        have f1 := hB1.frozen 1
        have f2 := hB1.frozen 2
        have f3 := hB1.frozen 3
        have f4 := hB1.frozen 4
        simp at a0 a1 a2 a3 a4 b0 b1 b2 b3 b4
        have kk := grown_trans kb k1
        clear hA hB hA1 k1
        go_wp2_with fail
        refine bodyPost_ret (results_cell_tmp rfl _ _ _ ⟨w.heap.size + 1, 0, none⟩ _ rfl (loadR5 (hB1.set5 _ _ _ _ _))) rfl ?_
        exact ⟨by first | rfl | (rw [hv]; rfl), grown_set5 kk (by omega) _ _ _ _ _⟩
      · have hv : propE ep v l p f ep r = 14 := by simp at dr1; have hc : chkN ep v l p f ep r = 14 := (by simp [chkN, hR, dr1]); simp [propE, hc]
        go_enter Tryz.func59, Tryz.ntmps59
        go_wp2_with fail
        refine (refRight_is _ _ _ _ _ _).mono ?_
        rintro en w1 ⟨rfl, k1⟩
        have hA1 := hA.grown k1 (by simp)
        have hB1 := hB.grown k1 (by simp)
        have a0 := hA1.cell 0
        have a1 := hA1.cell 1
        have a2 := hA1.cell 2
        have a3 := hA1.cell 3
        have a4 := hA1.cell 4
        have b0 := hB1.cell 0
        have b1 := hB1.cell 1
        have b2 := hB1.cell 2
        have b3 := hB1.cell 3
        have b4 := hB1.cell 4
        have f0 := hB1.frozen 0
        have f1 := hB1.frozen 1
        have f2 := hB1.frozen 2
        have f3 := hB1.frozen 3
        have f4 := hB1.frozen 4
        simp at a0 a1 a2 a3 a4 b0 b1 b2 b3 b4
        have kk := grown_trans kb k1
        clear hA hB hA1 k1
        go_wp2_with fail
        refine bodyPost_ret (results_cell_tmp rfl _ _ _ ⟨w.heap.size + 1, 0, none⟩ _ rfl (loadR5 (hB1.set5 _ _ _ _ _))) rfl ?_
        exact ⟨by first | rfl | (rw [hv]; rfl), grown_set5 kk (by omega) _ _ _ _ _⟩
      · have h : chkN ep v l p f ep r = 0 := by simp at dr dr1; simp [chkN, hR]; omega
        by_cases hp : r ≤ p
        · have d : decide (r ≤ p) = true := by simpa using hp
          have hv : propE ep v l p f ep r = 10 := by rw [propE_eq h, if_pos hp]
          go_enter Tryz.func59, Tryz.ntmps59
          go_wp2_with fail
          refine (refRight_is _ _ _ _ _ _).mono ?_
          rintro en w1 ⟨rfl, k1⟩
          have hA1 := hA.grown k1 (by simp)
          have hB1 := hB.grown k1 (by simp)
          have a0 := hA1.cell 0
          have a1 := hA1.cell 1
          have a2 := hA1.cell 2
          have a3 := hA1.cell 3
          have a4 := hA1.cell 4
          have b0 := hB1.cell 0
          have b1 := hB1.cell 1
          have b2 := hB1.cell 2
          have b3 := hB1.cell 3
          have b4 := hB1.cell 4
          have f0 := hB1.frozen 0
          have f1 := hB1.frozen 1
          have f2 := hB1.frozen 2
          have f3 := hB1.frozen 3
          have f4 := hB1.frozen 4
          simp at a0 a1 a2 a3 a4 b0 b1 b2 b3 b4
          have kk := grown_trans kb k1
          clear hA hB hA1 k1
          go_wp2_with fail
          refine bodyPost_ret (results_cell_tmp rfl _ _ _ ⟨w.heap.size + 1, 0, none⟩ _ rfl (loadR5 (hB1.set5 _ _ _ _ _))) rfl ?_
          exact ⟨by first | rfl | (rw [hv]; rfl), grown_set5 kk (by omega) _ _ _ _ _⟩
        · have d : decide (r ≤ p) = false := by simpa using hp
          cases d4 : (f == 32)
          · have hv : propE ep v l p f ep r = 0 := by rw [propE_eq h, if_neg hp]; simp at d4; rw [if_neg d4]
            have hfw : wrap64 (f + 1) = f + 1 := by have := (right_yes _ _ _ _ _ hR).2.2.2.2.2.2.2.2; unfold wrap64; omega
            have hl0 := (right_yes _ _ _ _ _ hR).2.2.1
            clear hl0 hp
            go_enter Tryz.func59, Tryz.ntmps59
            go_wp2_with fail
            refine (refRight_is _ _ _ _ _ _).mono ?_
            rintro en w1 ⟨rfl, k1⟩
            have hA1 := hA.grown k1 (by simp)
            have hB1 := hB.grown k1 (by simp)
            have a0 := hA1.cell 0
            have a1 := hA1.cell 1
            have a2 := hA1.cell 2
            have a3 := hA1.cell 3
            have a4 := hA1.cell 4
            have b0 := hB1.cell 0
            have b1 := hB1.cell 1
            have b2 := hB1.cell 2
            have b3 := hB1.cell 3
            have b4 := hB1.cell 4
            have f0 := hB1.frozen 0
            have f1 := hB1.frozen 1
            have f2 := hB1.frozen 2
            have f3 := hB1.frozen 3
            have f4 := hB1.frozen 4
            have fa0 := hA1.frozen 0
            have fa1 := hA1.frozen 1
            have fa2 := hA1.frozen 2
            have fa3 := hA1.frozen 3
            have fa4 := hA1.frozen 4
            simp at a0 a1 a2 a3 a4 b0 b1 b2 b3 b4
            have kk := grown_trans kb k1
            clear hA hB hA1 k1
            go_wp2_with fail
            refine bodyPost_ret (results_cell_tmp rfl _ _ _ ⟨w.heap.size + 1, 0, none⟩ _ rfl (loadR5 (((hB1.far (by simp) _).far (by simp) _).set5 _ _ _ _ _))) rfl ?_
            exact ⟨by first | rfl | (rw [hv, hfw]; rfl), grown_set5 (grown_set1 (grown_set1 kk (by omega) _) (by omega) _) (by omega) _ _ _ _ _⟩
          · have hv : propE ep v l p f ep r = 5 := by rw [propE_eq h, if_neg hp]; simp at d4; rw [if_pos d4]
            go_enter Tryz.func59, Tryz.ntmps59
            go_wp2_with fail
            refine (refRight_is _ _ _ _ _ _).mono ?_
            rintro en w1 ⟨rfl, k1⟩
            have hA1 := hA.grown k1 (by simp)
            have hB1 := hB.grown k1 (by simp)
            have a0 := hA1.cell 0
            have a1 := hA1.cell 1
            have a2 := hA1.cell 2
            have a3 := hA1.cell 3
            have a4 := hA1.cell 4
            have b0 := hB1.cell 0
            have b1 := hB1.cell 1
            have b2 := hB1.cell 2
            have b3 := hB1.cell 3
            have b4 := hB1.cell 4
            have f0 := hB1.frozen 0
            have f1 := hB1.frozen 1
            have f2 := hB1.frozen 2
            have f3 := hB1.frozen 3
            have f4 := hB1.frozen 4
            simp at a0 a1 a2 a3 a4 b0 b1 b2 b3 b4
            have kk := grown_trans kb k1
            clear hA hB hA1 k1
            go_wp2_with fail
            refine bodyPost_ret (results_cell_tmp rfl _ _ _ ⟨w.heap.size + 1, 0, none⟩ _ rfl (loadR5 (hB1.set5 _ _ _ _ _))) rfl ?_
            exact ⟨by first | rfl | (rw [hv]; rfl), grown_set5 kk (by omega) _ _ _ _ _⟩
    · have hv : propE e v l p f ep r = 18 := by have hc : chkN e v l p f ep r = 18 := (by simp [chkN, hR, hep]); simp [propE, hc]
      have hq : (ep == e) = false := by simpa using hep
      have hq' : (ep != e) = true := by simpa using hep
      clear hep
      go_enter Tryz.func59, Tryz.ntmps59
      go_wp2_with fail
      refine (refRight_is _ _ _ _ _ _).mono ?_
      rintro en w1 ⟨rfl, k1⟩
      have hA1 := hA.grown k1 (by simp)
      have hB1 := hB.grown k1 (by simp)
      have a0 := hA1.cell 0
      have a1 := hA1.cell 1
      have a2 := hA1.cell 2
      have a3 := hA1.cell 3
      have a4 := hA1.cell 4
      have b0 := hB1.cell 0
      have b1 := hB1.cell 1
      have b2 := hB1.cell 2
      have b3 := hB1.cell 3
      have b4 := hB1.cell 4
      have f0 := hB1.frozen 0
      have f1 := hB1.frozen 1
      have f2 := hB1.frozen 2
      have f3 := hB1.frozen 3
      have f4 := hB1.frozen 4
      simp at a0 a1 a2 a3 a4 b0 b1 b2 b3 b4
      have kk := grown_trans kb k1
      clear hA hB hA1 k1
      go_wp2_with fail
      refine bodyPost_ret (results_cell_tmp rfl _ _ _ ⟨w.heap.size + 1, 0, none⟩ _ rfl (loadR5 (hB1.set5 _ _ _ _ _))) rfl ?_
      exact ⟨by first | rfl | (rw [hv]; rfl), grown_set5 kk (by omega) _ _ _ _ _⟩
  · have hR' : rightB e v l p f = false := by simpa using hR
    have hv : propE e v l p f ep r = 4 := by have hc : chkN e v l p f ep r = 4 := (by simp [chkN, hR']); simp [propE, hc]
    clear hR
    go_enter Tryz.func59, Tryz.ntmps59
    go_wp2_with fail
    refine (refRight_is _ _ _ _ _ _).mono ?_
    rintro en w1 ⟨rfl, k1⟩
    have hA1 := hA.grown k1 (by simp)
    have hB1 := hB.grown k1 (by simp)
    have a0 := hA1.cell 0
    have a1 := hA1.cell 1
    have a2 := hA1.cell 2
    have a3 := hA1.cell 3
    have a4 := hA1.cell 4
    have b0 := hB1.cell 0
    have b1 := hB1.cell 1
    have b2 := hB1.cell 2
    have b3 := hB1.cell 3
    have b4 := hB1.cell 4
    have f0 := hB1.frozen 0
    have f1 := hB1.frozen 1
    have f2 := hB1.frozen 2
    have f3 := hB1.frozen 3
    have f4 := hB1.frozen 4
    simp at a0 a1 a2 a3 a4 b0 b1 b2 b3 b4
    have kk := grown_trans kb k1
    clear hA hB hA1 k1
    go_wp2_with fail
    refine bodyPost_ret (results_cell_tmp rfl _ _ _ ⟨w.heap.size + 1, 0, none⟩ _ rfl (loadR5 (hB1.set5 _ _ _ _ _))) rfl ?_
    exact ⟨by first | rfl | (rw [hv]; rfl), grown_set5 kk (by omega) _ _ _ _ _⟩

set_option maxHeartbeats 8000000 in
theorem refEnter_is (w : World) (e v l p f ep : Int) :
    Calls Tryz.prog 60 #[stV e v l p f, .int .i64 ep] w fun en w' => en = .returned (.tuple #[if enterE e v l p f ep = 0 then stV ep 0 0 0 f else stV e v l p f, .int .i64 (enterE e v l p f ep : Nat)]) ∧ w.grownBy w' none := by
  have ka := World.grownBy_alloc w (.cells (stC e v l p f) 38) none
  have kb := grown_trans ka (World.grownBy_alloc _ (.cells (stC 0 0 0 0 0) 38) none)
  have hA := (Blk.new w 38 (stC e v l p f)).alloc (.cells (stC 0 0 0 0 0) 38)
  have hB := Blk.new (w.alloc (.cells (stC e v l p f) 38)) 38 (stC 0 0 0 0 0)
  rw [World.size_alloc] at hB
  by_cases hR : rightB e v l p f = true
  · have hw : decide (ep ≤ e) = true ∨ (decide (ep ≤ e) = false ∧ decide ((1073741824 : Int) < ep) = true) ∨ (decide (ep ≤ e) = false ∧ decide ((1073741824 : Int) < ep) = false) := by
      simp only [decide_eq_true_eq, decide_eq_false_iff_not]; omega
    rcases hw with d | ⟨d, d1⟩ | ⟨d, d1⟩
    · have hv : enterE e v l p f ep = 18 := by simp at d; simp [enterE, hR, d]
      go_enter Tryz.func60, Tryz.ntmps60
      go_wp2_with fail
      refine (refRight_is _ _ _ _ _ _).mono ?_
      rintro en w1 ⟨rfl, k1⟩
      have hA1 := hA.grown k1 (by simp)
      have hB1 := hB.grown k1 (by simp)
      have a0 := hA1.cell 0
      have a1 := hA1.cell 1
      have a2 := hA1.cell 2
      have a3 := hA1.cell 3
      have a4 := hA1.cell 4
      have b0 := hB1.cell 0
      have b1 := hB1.cell 1
      have b2 := hB1.cell 2
      have b3 := hB1.cell 3
      have b4 := hB1.cell 4
      have f0 := hB1.frozen 0
      have f1 := hB1.frozen 1
      have f2 := hB1.frozen 2
      have f3 := hB1.frozen 3
      have f4 := hB1.frozen 4
      simp at a0 a1 a2 a3 a4 b0 b1 b2 b3 b4
      have kk := grown_trans kb k1
      clear hA hB hA1 k1
      go_wp2_with fail
      refine bodyPost_ret (results_cell_tmp rfl _ _ _ ⟨w.heap.size + 1, 0, none⟩ _ rfl (loadR5 (hB1.set5 _ _ _ _ _))) rfl ?_
      exact ⟨by first | rfl | (rw [hv]; rfl), grown_set5 kk (by omega) _ _ _ _ _⟩
    · have hv : enterE e v l p f ep = 18 := by simp at d1; simp [enterE, hR, d1]
      go_enter Tryz.func60, Tryz.ntmps60
      go_wp2_with fail
      refine (refRight_is _ _ _ _ _ _).mono ?_
      rintro en w1 ⟨rfl, k1⟩
      have hA1 := hA.grown k1 (by simp)
      have hB1 := hB.grown k1 (by simp)
      have a0 := hA1.cell 0
      have a1 := hA1.cell 1
      have a2 := hA1.cell 2
      have a3 := hA1.cell 3
      have a4 := hA1.cell 4
      have b0 := hB1.cell 0
      have b1 := hB1.cell 1
      have b2 := hB1.cell 2
      have b3 := hB1.cell 3
      have b4 := hB1.cell 4
      have f0 := hB1.frozen 0
      have f1 := hB1.frozen 1
      have f2 := hB1.frozen 2
      have f3 := hB1.frozen 3
      have f4 := hB1.frozen 4
      simp at a0 a1 a2 a3 a4 b0 b1 b2 b3 b4
      have kk := grown_trans kb k1
      clear hA hB hA1 k1
      go_wp2_with fail
      refine bodyPost_ret (results_cell_tmp rfl _ _ _ ⟨w.heap.size + 1, 0, none⟩ _ rfl (loadR5 (hB1.set5 _ _ _ _ _))) rfl ?_
      exact ⟨by first | rfl | (rw [hv]; rfl), grown_set5 kk (by omega) _ _ _ _ _⟩
    · have hv : enterE e v l p f ep = 0 := by simp at d d1; simp [enterE, hR]; omega
      go_enter Tryz.func60, Tryz.ntmps60
      go_wp2_with fail
      refine (refRight_is _ _ _ _ _ _).mono ?_
      rintro en w1 ⟨rfl, k1⟩
      have hA1 := hA.grown k1 (by simp)
      have hB1 := hB.grown k1 (by simp)
      have a0 := hA1.cell 0
      have a1 := hA1.cell 1
      have a2 := hA1.cell 2
      have a3 := hA1.cell 3
      have a4 := hA1.cell 4
      have b0 := hB1.cell 0
      have b1 := hB1.cell 1
      have b2 := hB1.cell 2
      have b3 := hB1.cell 3
      have b4 := hB1.cell 4
      have f0 := hB1.frozen 0
      have f1 := hB1.frozen 1
      have f2 := hB1.frozen 2
      have f3 := hB1.frozen 3
      have f4 := hB1.frozen 4
      simp at a0 a1 a2 a3 a4 b0 b1 b2 b3 b4
      have kk := grown_trans kb k1
      clear hA hB hA1 k1
      go_wp2_with fail
      refine bodyPost_ret (results_cell_tmp rfl _ _ _ ⟨w.heap.size + 1, 0, none⟩ _ rfl (loadR5 (hB1.set5 _ _ _ _ _))) rfl ?_
      exact ⟨by first | rfl | (rw [hv]; rfl), grown_set5 kk (by omega) _ _ _ _ _⟩
  · have hR' : rightB e v l p f = false := by simpa using hR
    have hv : enterE e v l p f ep = 4 := by simp [enterE, hR']
    go_enter Tryz.func60, Tryz.ntmps60
    go_wp2_with fail
    refine (refRight_is _ _ _ _ _ _).mono ?_
    rintro en w1 ⟨rfl, k1⟩
    have hA1 := hA.grown k1 (by simp)
    have hB1 := hB.grown k1 (by simp)
    have a0 := hA1.cell 0
    have a1 := hA1.cell 1
    have a2 := hA1.cell 2
    have a3 := hA1.cell 3
    have a4 := hA1.cell 4
    have b0 := hB1.cell 0
    have b1 := hB1.cell 1
    have b2 := hB1.cell 2
    have b3 := hB1.cell 3
    have b4 := hB1.cell 4
    have f0 := hB1.frozen 0
    have f1 := hB1.frozen 1
    have f2 := hB1.frozen 2
    have f3 := hB1.frozen 3
    have f4 := hB1.frozen 4
    simp at a0 a1 a2 a3 a4 b0 b1 b2 b3 b4
    have kk := grown_trans kb k1
    clear hA hB hA1 k1
    go_wp2_with fail
    refine bodyPost_ret (results_cell_tmp rfl _ _ _ ⟨w.heap.size + 1, 0, none⟩ _ rfl (loadR5 (hB1.set5 _ _ _ _ _))) rfl ?_
    exact ⟨by first | rfl | (rw [hv]; rfl), grown_set5 kk (by omega) _ _ _ _ _⟩
end Go.Proofs.YthkjlgjbjjjohaaGreatDoor
/-
  Package rules: the steps as functions of five ints; Num of every error; do and told.
-/
namespace Go.Proofs.YthkjlgjbjjjohaaGreatDoor
open Go.RowKit

structure St where (e v l p f : Int)
abbrev St.val (s : St) : Value := stV s.e s.v s.l s.p s.f
structure Stp where (k ep r q g : Int)
abbrev Stp.val (x : Stp) : Value := .agg #[.int .i64 x.k, .int .i64 x.ep, .int .i64 x.r, .int .i64 x.q, .int .i64 x.g]

def voteR (s : St) (x : Stp) : St := if voteE s.e s.v s.l s.p s.f x.ep x.r x.q = 0 then ⟨s.e, x.r, voteL s.l x.q x.g, s.p, s.f + 1⟩ else s
def lateR (s : St) (x : Stp) : St := if lateE s.e s.v s.l s.p s.f x.ep x.r = 0 then ⟨s.e, lateV s.v x.r, s.l, s.p, s.f + 1⟩ else s
def propR (s : St) (x : Stp) : St := if propE s.e s.v s.l s.p s.f x.ep x.r = 0 then ⟨s.e, s.v, s.l, x.r, s.f + 1⟩ else s
def enterR (s : St) (x : Stp) : St := if enterE s.e s.v s.l s.p s.f x.ep = 0 then ⟨x.ep, 0, 0, 0, s.f⟩ else s
theorem val_if (c : Prop) [Decidable c] (a b : St) : (if c then a else b).val = if c then a.val else b.val := by split <;> rfl

def stepR (s : St) (x : Stp) : St := if x.k = 1 then voteR s x else if x.k = 2 then lateR s x else if x.k = 3 then propR s x else if x.k = 4 then enterR s x else s
def stepE (s : St) (x : Stp) : Nat :=
  if x.k = 1 then voteE s.e s.v s.l s.p s.f x.ep x.r x.q else if x.k = 2 then lateE s.e s.v s.l s.p s.f x.ep x.r else if x.k = 3 then propE s.e s.v s.l s.p s.f x.ep x.r else if x.k = 4 then enterE s.e s.v s.l s.p s.f x.ep else 0

theorem chkN_le {e v l p f ep r : Int} : chkN e v l p f ep r ≤ 18 := by unfold chkN; (repeat' split) <;> omega
theorem voteE_le {e v l p f ep r q : Int} : voteE e v l p f ep r q ≤ 18 := by
  unfold voteE
  split
  · exact chkN_le
  · (repeat' split) <;> omega
theorem lateE_le {e v l p f ep r : Int} : lateE e v l p f ep r ≤ 18 := by
  unfold lateE
  split
  · exact chkN_le
  · (repeat' split) <;> omega
theorem propE_le {e v l p f ep r : Int} : propE e v l p f ep r ≤ 18 := by
  unfold propE
  split
  · exact chkN_le
  · (repeat' split) <;> omega
theorem enterE_le {e v l p f ep : Int} : enterE e v l p f ep ≤ 18 := by unfold enterE; (repeat' split) <;> omega

section
variable (w : World) (B : Nat) (E : Nat → Addr) (he : ErrEnv w B E) (s : St) (x : Stp)
include he
theorem vote_is : Calls Tryz.prog 49 #[s.val, .int .i64 x.ep, .int .i64 x.r, .int .i64 x.q, .int .i64 x.g] w fun en w' => en = .returned (.tuple #[(voteR s x).val, evOf E (voteE s.e s.v s.l s.p s.f x.ep x.r x.q)]) ∧ w.grownBy w' none := by
  rcases h : chkN s.e s.v s.l s.p s.f x.ep x.r with _ | k
  · refine (vote_rest w B E he _ _ _ _ _ _ _ _ x.g h).mono fun en w' ⟨h1, h2⟩ => ⟨?_, h2⟩
    rw [h1, voteR, val_if]
  · have hv : voteE s.e s.v s.l s.p s.f x.ep x.r x.q = k + 1 := by simp [voteE, h]
    refine (vote_chk w B E he _ _ _ _ _ _ _ x.q x.g k h).mono fun en w' ⟨h1, h2⟩ => ⟨?_, h2⟩
    rw [h1, voteR, hv]
    rfl
theorem late_is : Calls Tryz.prog 52 #[s.val, .int .i64 x.ep, .int .i64 x.r] w fun en w' => en = .returned (.tuple #[(lateR s x).val, evOf E (lateE s.e s.v s.l s.p s.f x.ep x.r)]) ∧ w.grownBy w' none := by
  rcases h : chkN s.e s.v s.l s.p s.f x.ep x.r with _ | k
  · refine (late_rest w B E he _ _ _ _ _ _ _ h).mono fun en w' ⟨h1, h2⟩ => ⟨?_, h2⟩
    rw [h1, lateR, val_if]
  · have hv : lateE s.e s.v s.l s.p s.f x.ep x.r = k + 1 := by simp [lateE, h]
    refine (late_chk w B E he _ _ _ _ _ _ _ k h).mono fun en w' ⟨h1, h2⟩ => ⟨?_, h2⟩
    rw [h1, lateR, hv]
    rfl
theorem prop_is : Calls Tryz.prog 93 #[s.val, .int .i64 x.ep, .int .i64 x.r] w fun en w' => en = .returned (.tuple #[(propR s x).val, evOf E (propE s.e s.v s.l s.p s.f x.ep x.r)]) ∧ w.grownBy w' none := by
  rcases h : chkN s.e s.v s.l s.p s.f x.ep x.r with _ | k
  · refine (prop_rest w B E he _ _ _ _ _ _ _ h).mono fun en w' ⟨h1, h2⟩ => ⟨?_, h2⟩
    rw [h1, propR, val_if]
  · have hv : propE s.e s.v s.l s.p s.f x.ep x.r = k + 1 := by simp [propE, h]
    refine (prop_chk w B E he _ _ _ _ _ _ _ k h).mono fun en w' ⟨h1, h2⟩ => ⟨?_, h2⟩
    rw [h1, propR, hv]
    rfl
theorem enter_is' : Calls Tryz.prog 54 #[s.val, .int .i64 x.ep] w fun en w' => en = .returned (.tuple #[(enterR s x).val, evOf E (enterE s.e s.v s.l s.p s.f x.ep)]) ∧ w.grownBy w' none :=
  (enter_is w B E he _ _ _ _ _ x.ep).mono fun en w' ⟨h1, h2⟩ => ⟨by rw [h1, enterR, val_if], h2⟩
theorem num_is (k : Nat) (hk : k ≤ 18) : Calls Tryz.prog 18 #[evOf E k] w fun en w' => en = .returned (.int .i64 (k : Int)) ∧ w.grownBy w' none := by
  rcases k with _ | k
  · exact (num_nil w).mono fun en w' ⟨h1, h2⟩ => ⟨by rw [h1]; rfl, h2 ▸ World.grownBy.refl _ _⟩
  · exact (num_err w B E k (by omega) he).mono fun en w' ⟨h1, h2⟩ => ⟨by rw [h1]; rfl, h2⟩
end
end Go.Proofs.YthkjlgjbjjjohaaGreatDoor
/-
  Covers, the program's and the document's.
-/

namespace Go.Proofs.YthkjlgjbjjjohaaGreatDoor
open Go.RowKit

def covB (s t : St) : Bool := decide (t.f ≤ s.f ∧ t.e ≤ s.e ∧ (t.e < s.e ∨ t.v ≤ s.v ∧ t.l ≤ s.l ∧ t.p ≤ s.p))
theorem cov_ways (s t : St) :
    (decide (s.f < t.f) = true ∧ covB s t = false) ∨
    (decide (s.f < t.f) = false ∧ decide (s.e < t.e) = true ∧ covB s t = false) ∨
    (decide (s.f < t.f) = false ∧ decide (s.e < t.e) = false ∧ decide (t.e < s.e) = true ∧ covB s t = true) ∨
    (decide (s.f < t.f) = false ∧ decide (s.e < t.e) = false ∧ decide (t.e < s.e) = false ∧ decide (s.v < t.v) = true ∧ covB s t = false) ∨
    (decide (s.f < t.f) = false ∧ decide (s.e < t.e) = false ∧ decide (t.e < s.e) = false ∧ decide (s.v < t.v) = false ∧ decide (s.l < t.l) = true ∧ covB s t = false) ∨
    (decide (s.f < t.f) = false ∧ decide (s.e < t.e) = false ∧ decide (t.e < s.e) = false ∧ decide (s.v < t.v) = false ∧ decide (s.l < t.l) = false ∧ decide (s.p < t.p) = true ∧ covB s t = false) ∨
    (decide (s.f < t.f) = false ∧ decide (s.e < t.e) = false ∧ decide (t.e < s.e) = false ∧ decide (s.v < t.v) = false ∧ decide (s.l < t.l) = false ∧ decide (s.p < t.p) = false ∧ covB s t = true) := by
  simp only [covB, decide_eq_true_eq, decide_eq_false_iff_not]
  omega
theorem cov_ways' (s t : St) :
    (decide (s.f < t.f) = true ∧ covB s t = false) ∨
    (decide (s.f < t.f) = false ∧ decide (s.e < t.e) = true ∧ covB s t = false) ∨
    (decide (s.f < t.f) = false ∧ decide (s.e < t.e) = false ∧ decide (t.e < s.e) = true ∧ covB s t = true) ∨
    (decide (s.f < t.f) = false ∧ decide (s.e < t.e) = false ∧ decide (t.e < s.e) = false ∧ decide (t.v ≤ s.v) = false ∧ covB s t = false) ∨
    (decide (s.f < t.f) = false ∧ decide (s.e < t.e) = false ∧ decide (t.e < s.e) = false ∧ decide (t.v ≤ s.v) = true ∧ decide (t.l ≤ s.l) = false ∧ covB s t = false) ∨
    (decide (s.f < t.f) = false ∧ decide (s.e < t.e) = false ∧ decide (t.e < s.e) = false ∧ decide (t.v ≤ s.v) = true ∧ decide (t.l ≤ s.l) = true ∧ decide (t.p ≤ s.p) = false ∧ covB s t = false) ∨
    (decide (s.f < t.f) = false ∧ decide (s.e < t.e) = false ∧ decide (t.e < s.e) = false ∧ decide (t.v ≤ s.v) = true ∧ decide (t.l ≤ s.l) = true ∧ decide (t.p ≤ s.p) = true ∧ covB s t = true) := by
  simp only [covB, decide_eq_true_eq, decide_eq_false_iff_not]
  omega

set_option maxHeartbeats 4000000 in
theorem refCov_is (w : World) (s t : St) : Calls Tryz.prog 30 #[s.val, t.val] w fun en w' => en = .returned (.bool (covB s t)) ∧ w.grownBy w' none := by
  have ka := grown_trans (World.grownBy_alloc w (.cells (stC s.e s.v s.l s.p s.f) 38) none) (World.grownBy_alloc _ (.cells (stC t.e t.v t.l t.p t.f) 38) none)
  rcases cov_ways' s t with ⟨d0, hv⟩ | ⟨d0, d1, hv⟩ | ⟨d0, d1, d2, hv⟩ | ⟨d0, d1, d2, d3, hv⟩ | ⟨d0, d1, d2, d3, d4, hv⟩ | ⟨d0, d1, d2, d3, d4, d5, hv⟩ | ⟨d0, d1, d2, d3, d4, d5, hv⟩
  all_goals
    go_enter Tryz.func30, Tryz.ntmps30
    go_wp2_with fail
    go_ret
    exact ⟨by first | rfl | (rw [hv]; rfl), ka⟩
end Go.Proofs.YthkjlgjbjjjohaaGreatDoor
/-
  What the steps of layer 13 keep: plain facts on five ints.
-/

namespace Go.Proofs.YthkjlgjbjjjohaaGreatDoor
open Go.RowKit

theorem right_mk {e v l p f : Int} (h : 0 ≤ v ∧ v ≤ 1099511627776 ∧ 0 ≤ l ∧ l ≤ 1099511627776 ∧ 0 ≤ p ∧ p ≤ 1099511627776 ∧ 0 ≤ e ∧ e ≤ 1073741824 ∧ 0 ≤ f ∧ f ≤ 32) : rightB e v l p f = true := by
  simpa [rightB] using h
theorem chk_facts {e v l p f ep r : Int} (h : chkN e v l p f ep r = 0) : rightB e v l p f = true ∧ ep = e ∧ 1 ≤ r ∧ r ≤ 1099511627776 := by
  unfold chkN at h
  split at h
  · cases h
  · rename_i h1
    split at h
    · cases h
    · rename_i h2
      split at h
      · cases h
      · exact ⟨by simpa using h1, by omega, by omega, by omega⟩
theorem vote_facts {e v l p f ep r q : Int} (h : voteE e v l p f ep r q = 0) : chkN e v l p f ep r = 0 ∧ 0 ≤ q ∧ q < r ∧ v < r ∧ l ≤ q ∧ f ≠ 32 := by
  by_cases hc : chkN e v l p f ep r = 0
  · rw [voteE_eq hc] at h
    split at h
    · cases h
    · split at h
      · cases h
      · split at h
        · cases h
        · split at h
          · cases h
          · exact ⟨hc, by omega, by omega, by omega, by omega, by assumption⟩
  · simp [voteE, hc] at h
theorem late_facts {e v l p f ep r : Int} (h : lateE e v l p f ep r = 0) : chkN e v l p f ep r = 0 ∧ f ≠ 32 := by
  by_cases hc : chkN e v l p f ep r = 0
  · rw [lateE_eq hc] at h
    split at h
    · cases h
    · exact ⟨hc, by assumption⟩
  · simp [lateE, hc] at h
theorem prop_facts {e v l p f ep r : Int} (h : propE e v l p f ep r = 0) : chkN e v l p f ep r = 0 ∧ p < r ∧ f ≠ 32 := by
  by_cases hc : chkN e v l p f ep r = 0
  · rw [propE_eq hc] at h
    split at h
    · cases h
    · split at h
      · cases h
      · exact ⟨hc, by omega, by assumption⟩
  · simp [propE, hc] at h
theorem enter_facts {e v l p f ep : Int} (h : enterE e v l p f ep = 0) : rightB e v l p f = true ∧ e < ep ∧ ep ≤ 1073741824 := by
  unfold enterE at h
  split at h
  · cases h
  · rename_i h1
    split at h
    · cases h
    · exact ⟨by simpa using h1, by omega, by omega⟩
theorem voteL_le (l q g : Int) : l ≤ voteL l q g ∧ (g ≤ q → g ≤ voteL l q g) ∧ (l ≤ q → voteL l q g ≤ q) := by
  unfold voteL
  split <;> omega
theorem lateV_le (v r : Int) : v ≤ lateV v r ∧ r ≤ lateV v r ∧ (lateV v r = v ∨ lateV v r = r) := by
  unfold lateV
  split <;> omega

/-- A step that is taken: its kind, and what it does. -/
theorem step_ways (s : St) (x : Stp) (h : stepE s x = 0) :
    (x.k = 1 ∧ stepR s x = ⟨s.e, x.r, voteL s.l x.q x.g, s.p, s.f + 1⟩ ∧ voteE s.e s.v s.l s.p s.f x.ep x.r x.q = 0) ∨
    (x.k = 2 ∧ stepR s x = ⟨s.e, lateV s.v x.r, s.l, s.p, s.f + 1⟩ ∧ lateE s.e s.v s.l s.p s.f x.ep x.r = 0) ∨
    (x.k = 3 ∧ stepR s x = ⟨s.e, s.v, s.l, x.r, s.f + 1⟩ ∧ propE s.e s.v s.l s.p s.f x.ep x.r = 0) ∨
    (x.k = 4 ∧ stepR s x = ⟨x.ep, 0, 0, 0, s.f⟩ ∧ enterE s.e s.v s.l s.p s.f x.ep = 0) ∨
    (x.k ≠ 1 ∧ x.k ≠ 2 ∧ x.k ≠ 3 ∧ x.k ≠ 4 ∧ stepR s x = s) := by
  by_cases h1 : x.k = 1
  · simp [stepE, h1] at h
    exact .inl ⟨h1, by simp [stepR, h1, voteR, h], h⟩
  · by_cases h2 : x.k = 2
    · simp [stepE, h2] at h
      exact .inr (.inl ⟨h2, by simp [stepR, h2, lateR, h], h⟩)
    · by_cases h3 : x.k = 3
      · simp [stepE, h3] at h
        exact .inr (.inr (.inl ⟨h3, by simp [stepR, h3, propR, h], h⟩))
      · by_cases h4 : x.k = 4
        · simp [stepE, h4] at h
          exact .inr (.inr (.inr (.inl ⟨h4, by simp [stepR, h4, enterR, h], h⟩)))
        · exact .inr (.inr (.inr (.inr ⟨h1, h2, h3, h4, by simp [stepR, h1, h2, h3, h4]⟩)))
theorem step_same' (s : St) (x : Stp) (h : stepE s x ≠ 0) : stepR s x = s := by
  unfold stepE at h
  unfold stepR
  split
  · rename_i h1; simp [h1] at h; simp [voteR, h]
  · split
    · rename_i h1; simp [h1] at h; simp [lateR, h]
    · split
      · rename_i h1; simp [h1] at h; simp [propR, h]
      · split
        · rename_i h1; simp [h1] at h; simp [enterR, h]
        · rfl

def okS (s : St) : Prop := rightB s.e s.v s.l s.p s.f = true
theorem okS_step (s : St) (x : Stp) (h : okS s) : okS (stepR s x) := by
  by_cases h0 : stepE s x = 0
  · have hr := right_yes _ _ _ _ _ h
    rcases step_ways s x h0 with ⟨_, e, h1⟩ | ⟨_, e, h1⟩ | ⟨_, e, h1⟩ | ⟨_, e, h1⟩ | ⟨_, _, _, _, e⟩
    · obtain ⟨hc, q0, q1, q2, q3, q4⟩ := vote_facts h1
      obtain ⟨_, _, c1, c2⟩ := chk_facts hc
      have hl := voteL_le s.l x.q x.g
      have := hl.2.2 q3
      rw [e]
      refine right_mk ?_
      dsimp only
      omega
    · obtain ⟨hc, q4⟩ := late_facts h1
      obtain ⟨_, _, c1, c2⟩ := chk_facts hc
      have hl := lateV_le s.v x.r
      rw [e]
      refine right_mk ?_
      dsimp only
      omega
    · obtain ⟨hc, q1, q4⟩ := prop_facts h1
      obtain ⟨_, _, c1, c2⟩ := chk_facts hc
      rw [e]
      refine right_mk ?_
      dsimp only
      omega
    · obtain ⟨hc, q1, q4⟩ := enter_facts h1
      rw [e]
      refine right_mk ?_
      dsimp only
      omega
    · rw [e]; exact h
  · rw [step_same' s x h0]; exact h
theorem okS_zero : okS ⟨0, 0, 0, 0, 0⟩ := by unfold okS; decide

/-- Each state covers the one ahead. -/
theorem cov_step (s : St) (x : Stp) : covB (stepR s x) s = true := by
  by_cases h0 : stepE s x = 0
  · rcases step_ways s x h0 with ⟨_, e, h1⟩ | ⟨_, e, h1⟩ | ⟨_, e, h1⟩ | ⟨_, e, h1⟩ | ⟨_, _, _, _, e⟩
    · obtain ⟨hc, q0, q1, q2, q3, q4⟩ := vote_facts h1
      have hl := voteL_le s.l x.q x.g
      rw [e]
      simp only [covB, decide_eq_true_eq]
      omega
    · have hl := lateV_le s.v x.r
      rw [e]
      simp only [covB, decide_eq_true_eq]
      omega
    · obtain ⟨hc, q1, q4⟩ := prop_facts h1
      rw [e]
      simp only [covB, decide_eq_true_eq]
      omega
    · obtain ⟨hc, q1, q4⟩ := enter_facts h1
      rw [e]
      simp only [covB, decide_eq_true_eq]
      omega
    · rw [e]; simp [covB]
  · rw [step_same' s x h0]; simp [covB]
/-- A state with a signature isn't covered by the one ahead. -/
theorem cov_not (s : St) (x : Stp) (h0 : stepE s x = 0) (h1 : 1 ≤ x.k) (h4 : x.k ≤ 4) : covB s (stepR s x) = false := by
  rcases step_ways s x h0 with ⟨_, e, h1⟩ | ⟨_, e, h1⟩ | ⟨_, e, h1⟩ | ⟨_, e, h1⟩ | ⟨_, _, _, _, e⟩
  · rw [e]
    simp only [covB, decide_eq_false_iff_not]
    omega
  · rw [e]
    simp only [covB, decide_eq_false_iff_not]
    omega
  · rw [e]
    simp only [covB, decide_eq_false_iff_not]
    omega
  · obtain ⟨hc, q1, q4⟩ := enter_facts h1
    rw [e]
    simp only [covB, decide_eq_false_iff_not]
    omega
  · omega

/-- RulesOnce: what is held behind each step. -/
def onceI (s : St) (last locked : Int) : Prop := okS s ∧ last ≤ s.v ∧ locked ≤ s.l
theorem once_step (s : St) (last locked : Int) (x : Stp) (h : onceI s last locked) (h0 : stepE s x = 0) :
    (x.k = 1 ∧ last < x.r ∧ locked ≤ x.q ∧ (x.g ≤ x.q → onceI (stepR s x) x.r x.g) ∧ onceI (stepR s x) x.r locked) ∨ (x.k = 4 ∧ onceI (stepR s x) 0 0) ∨ (x.k ≠ 1 ∧ x.k ≠ 4 ∧ onceI (stepR s x) last locked) := by
  obtain ⟨hok, hv, hl⟩ := h
  have hok2 := okS_step s x hok
  rcases step_ways s x h0 with ⟨hk, e, h1⟩ | ⟨hk, e, h1⟩ | ⟨hk, e, h1⟩ | ⟨hk, e, h1⟩ | ⟨k1, _, _, k4, e⟩
  · obtain ⟨hc, q0, q1, q2, q3, q4⟩ := vote_facts h1
    have hL := voteL_le s.l x.q x.g
    refine .inl ⟨hk, by omega, by omega, fun hg => ⟨hok2, by rw [e]; exact Int.le_refl _, by rw [e]; exact hL.2.1 hg⟩, hok2, by rw [e]; exact Int.le_refl _, by rw [e]; exact Int.le_trans hl hL.1⟩
  · have hV := lateV_le s.v x.r
    exact .inr (.inr ⟨by omega, by omega, hok2, by rw [e]; exact Int.le_trans hv hV.1, by rw [e]; exact hl⟩)
  · exact .inr (.inr ⟨by omega, by omega, hok2, by rw [e]; exact hv, by rw [e]; exact hl⟩)
  · exact .inr (.inl ⟨hk, hok2, by rw [e]; exact Int.le_refl _, by rw [e]; exact Int.le_refl _⟩)
  · exact .inr (.inr ⟨k1, k4, hok2, by rw [e]; exact hv, by rw [e]; exact hl⟩)

/-- RulesLocks: what is held behind each step. -/
theorem locks_step (s : St) (most : Int) (x : Stp) (h : s.l ≤ most) (h0 : stepE s x = 0) :
    (x.k = 1 ∧ (stepR s x).l ≤ x.q ) ∨ (x.k = 4 ∧ (stepR s x).l ≤ 0) ∨ (x.k ≠ 1 ∧ x.k ≠ 4 ∧ (stepR s x).l ≤ most) := by
  rcases step_ways s x h0 with ⟨hk, e, h1⟩ | ⟨hk, e, h1⟩ | ⟨hk, e, h1⟩ | ⟨hk, e, h1⟩ | ⟨k1, _, _, k4, e⟩
  · obtain ⟨hc, q0, q1, q2, q3, q4⟩ := vote_facts h1
    exact .inl ⟨hk, by rw [e]; exact (voteL_le s.l x.q x.g).2.2 q3⟩
  · exact .inr (.inr ⟨by omega, by omega, by rw [e]; exact h⟩)
  · exact .inr (.inr ⟨by omega, by omega, by rw [e]; exact h⟩)
  · exact .inr (.inl ⟨hk, by rw [e]; exact Int.le_refl _⟩)
  · exact .inr (.inr ⟨k1, k4, by rw [e]; exact h⟩)
end Go.Proofs.YthkjlgjbjjjohaaGreatDoor
