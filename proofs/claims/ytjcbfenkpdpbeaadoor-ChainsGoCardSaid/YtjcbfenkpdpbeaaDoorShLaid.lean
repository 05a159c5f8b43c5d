/-
  What the listed variable gives: the table of the rounds; a start that meets the condition.
-/
import Derived.Test.YtjcbfenkpdpbeaaDoorSh3
import Derived.Test.YtjcbfenkpdpbeaaDoorArr
import Derived.Test.YtjcbfenkpdpbeaaDoorCards
import Derived.Test.YtjcbfenkpdpbeaaDoorTie
import Derived.ProofKit
import Derived.LaidMore
import Derived.MakeChecks
import Derived.Stop.Joined
import Derived.Stop.LaidErr
import Derived.SevenTiedAt
namespace Go.Proofs.YtjcbfenkpdpbeaaDoor
open Go.RowKit Go.ChangeShapes Go.WideShapes

theorem own : ownKnob Tryd.prog.godebug = none := by kernel_rfl
def allErrs : List (String × DataW Unit) := Rows.chainsRunsRow.laid

theorem rounds_of_laid {W : World} (h : laidMetH Tryd.prog allErrs W) : Rounds W := by
  rw [MakeChecks.laidMetH_plain _ _ _ (by kernel_rfl)] at h
  obtain ⟨ps, ⟨g0, t0, cs0, f0, p0, q0, hg0, ht0, hv0, hd0, _, e0⟩, _, hrows⟩ := h
  obtain rfl : g0 = 18 := Option.some.inj (hg0.symm.trans (show Tryd.prog.globalNamed "quorate/hash.rounds" = some 18 by kernel_rfl))
  obtain rfl : t0 = 96 := Option.some.inj (ht0.symm.trans (show (Tryd.prog.globals[18]?).map (·.type) = some 96 by kernel_rfl))
  obtain ⟨l, hcs, hl, hx, _⟩ := arr_of_trod Tryd.underlying96 Tryd.underlying73 (by kernel_rfl) (by kernel_rfl) hd0
  have hk : l = kS := by
    have h1 := congrArg Prod.fst hx
    dsimp only at h1
    have h2 : (Rows.laid_quorate_hash_rounds : DataW Unit) = .agg (kS.map fun z => .lit (.int .u32 z)) := rfl
    rw [h2] at h1
    injection h1 with h1
    have hinj : ∀ a b : List Int, (a.map fun z => (DataW.lit (.int .u32 z) : DataW Unit)) = b.map (fun z => .lit (.int .u32 z)) → a = b := by
      intro a
      induction a with
      | nil => intro b hb; cases b with
        | nil => rfl
        | cons y r => cases hb
      | cons x s ih => intro b hb; cases b with
        | nil => cases hb
        | cons y r =>
          simp only [List.map_cons, List.cons.injEq] at hb
          obtain ⟨hb1, hb2⟩ := hb
          injection hb1 with hb1
          injection hb1 with _ hb1
          rw [hb1, ih r hb2]
    exact (hinj _ _ h1).symm
  have harr : cs0 = arrV .u32 kS := by
    rw [← hk]
    apply Array.ext'
    rw [hcs]
  subst harr
  have h0 := (hrows 18 0 (by subst e0; simp [MemPlace.row, kS_length])).1
  obtain ⟨c, t, hc⟩ := h0
  have hcv : W.var? Tryd.prog "quorate/hash.rounds" = some c := by
    simp [World.var?, hg0, hc]
  rw [hcv] at hv0
  obtain rfl := Option.some.inj hv0
  exact ⟨t, hc⟩

/-- A start that meets the condition: what the door's run leaves. -/
theorem door_met (os : Os) (args : Array Value) : laidMetH Tryd.prog allErrs ((World.doorLaid Tryd.prog 2000 os).forCall (fun _ _ => 0) ⟨#[], args, []⟩).memory :=
  laidMetH_of_parts3 (fuel := 8) (laidMet_of_run' 8 (by kernel_rfl) (by kernel_rfl)) (by kernel_rfl) (by kernel_rfl)
end Go.Proofs.YtjcbfenkpdpbeaaDoor
