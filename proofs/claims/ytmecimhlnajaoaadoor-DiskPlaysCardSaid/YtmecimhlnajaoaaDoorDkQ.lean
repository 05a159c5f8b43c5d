/-
  Disk (pure): some of what was written is moved to the sectors.
-/
import Derived.Test.YtmecimhlnajaoaaDoorDkP
namespace Go.Proofs.YtmecimhlnajaoaaDoor
open Go.RowKit Go.Maps

/-- The sectors where those places that p says have taken what was written there. -/
def mgS (syn : List (List Int)) (wr : List (Option (List Int))) (p : Nat → Bool) : List (List Int) :=
  (List.range syn.length).map fun i => if p i then (wr[i]?.join).getD (syn.getD i []) else syn.getD i []
theorem mgS_length (syn : List (List Int)) (wr : List (Option (List Int))) (p : Nat → Bool) : (mgS syn wr p).length = syn.length := by simp [mgS]
theorem mgS_at {syn : List (List Int)} {wr : List (Option (List Int))} {p : Nat → Bool} {i : Nat} (h : i < (mgS syn wr p).length) : (mgS syn wr p)[i] = if p i then (wr[i]?.join).getD (syn.getD i []) else syn.getD i [] := by
  simp [mgS]
theorem mgS_none {syn : List (List Int)} {wr : List (Option (List Int))} {p : Nat → Bool} (h : ∀ i, i < syn.length → p i = false) : mgS syn wr p = syn := by
  refine List.ext_getElem (mgS_length _ _ _) (fun i h1 h2 => ?_)
  rw [mgS_at h1, h i h2]
  simp [List.getD, List.getElem?_eq_getElem h2]
theorem mgS_congr {syn : List (List Int)} {wr : List (Option (List Int))} {p q : Nat → Bool} (h : ∀ i, i < syn.length → p i = q i) : mgS syn wr p = mgS syn wr q := by
  refine List.ext_getElem (by rw [mgS_length, mgS_length]) (fun i h1 h2 => ?_)
  rw [mgS_at h1, mgS_at h2, h i (by rwa [mgS_length] at h1)]
theorem mgS_step {syn : List (List Int)} {wr : List (Option (List Int))} {p q : Nat → Bool} {k : Nat} {r : List Int} (hw : wr[k]? = some (some r)) (hq : q k = true) (h : ∀ i, i ≠ k → q i = p i) : mgS syn wr q = (mgS syn wr p).set k r := by
  refine List.ext_getElem (by rw [List.length_set, mgS_length, mgS_length]) (fun i h1 h2 => ?_)
  have h3 : i < (mgS syn wr p).length := by rwa [List.length_set] at h2
  rw [mgS_at h1]
  by_cases e : i = k
  · subst e
    rw [List.getElem_set_self, hq, hw]
    rfl
  · rw [List.getElem_set_ne (fun x => e x.symm), mgS_at h3, h i e]
theorem mgS_rows {syn : List (List Int)} {wr : List (Option (List Int))} {p : Nat → Bool} (hs : ∀ r ∈ syn, r.length = 64) (hw : ∀ (i : Nat) (r : List Int), wr[i]? = some (some r) → r.length = 64) : ∀ r ∈ mgS syn wr p, r.length = 64 := fun r hr => by
  obtain ⟨i, hi, rfl⟩ := List.mem_map.1 hr
  have hi := List.mem_range.1 hi
  have h0 : (syn.getD i []).length = 64 := by
    rw [List.getD, List.getElem?_eq_getElem hi]
    exact hs _ (List.getElem_mem hi)
  split
  · cases e : wr[i]? with
    | none => simpa using h0
    | some o => cases o with
      | none => simpa using h0
      | some r => exact hw i r e
  · exact h0
end Go.Proofs.YtmecimhlnajaoaaDoor
