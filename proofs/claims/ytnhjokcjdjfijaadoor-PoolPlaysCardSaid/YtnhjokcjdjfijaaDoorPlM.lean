/-
  PoolPlays: the marks that ranges over functions leave; what stays apart from both pools.
-/
import Derived.Test.YtnhjokcjdjfijaaDoorPlQ
import Derived.RangeFuncLeaves
namespace Go.Proofs.YtnhjokcjdjfijaaDoor
open Go.RowKit

/-- The marks of the ranges that have ended. -/
def dsOf (Ds : List Nat) : List Deferred := Ds.map fun D => { target := .collected D, args := #[] }
def DsIn (lo : Nat) (Ds : List Nat) (S Sm : Nat → Prop) (W : World) : Prop := Ds.Nodup ∧ ∀ D ∈ Ds, lo ≤ D ∧ W.heap[D]? = some (.deferred (some [])) ∧ ¬ S D ∧ ¬ Sm D
theorem leaves_dsOf {F : Fence} {n : Nat} {P : Program} {fn : Func} {tmps : Array Value} {R : Ending → World → Prop} {w : World} {S Sm : Nat → Prop} (hres : ∀ W', w.grownBy W' none → LeavesIn F n P fn tmps R [] .returning W') :
    ∀ (Ds : List Nat) (W : World), w.grownBy W none → DsIn w.heap.size Ds S Sm W → LeavesInM F n P fn tmps R (dsOf Ds) .returning W
  | [], W, hg, _ => hres W hg
  | D :: Ds, W, hg, ⟨hn, hd⟩ => by
    have h0 := hd D List.mem_cons_self
    refine ⟨by simp, .inl ⟨D, _, rfl, run_takeDeferred h0.2.1, ?_⟩⟩
    refine leaves_dsOf (S := S) (Sm := Sm) hres Ds _ (grown_fresh hg (grownBy_putObj' W D (.deferred none)) h0.1) ⟨(List.nodup_cons.1 hn).2, fun D' hD' => ?_⟩
    have h1 := hd D' (List.mem_cons_of_mem _ hD')
    have hne : D' ≠ D := fun e => (List.nodup_cons.1 hn).1 (e ▸ hD')
    exact ⟨h1.1, ((grownBy_putObj' W D (.deferred none)).block D' (Array.getElem?_eq_some_iff.1 h1.2.1).1 (fun e => hne (Option.some.inj e))).trans h1.2.1, h1.2.2⟩
/-- What was there, apart from both, is so still. -/
def Far (S Sm : Nat → Prop) (W : World) (S' Sm' : Nat → Prop) (W' : World) : Prop := ∀ (j : Nat) (o : Obj), W.heap[j]? = some o → ¬ S j → ¬ Sm j → (¬ S' j ∧ ¬ Sm' j) ∧ W'.heap[j]? = some o
section
variable {S Sm S' Sm' F : Nat → Prop} {W W0 W1 W2 W3 W' W'' : World}
theorem far_kept (hk : Kept F W W') (hF : ∀ j, F j → W.heap.size ≤ j) : Far S Sm W S Sm W' := fun j o hj h1 h2 => by
  have hlt := (Array.getElem?_eq_some_iff.1 hj).1
  exact ⟨⟨h1, h2⟩, (hk.block j hlt (fun h => by have := hF j h; omega)).trans hj⟩
theorem far_step (k1 : Kept S W W1) (k2 : W1.grownBy W2 none) (k3 : Kept Sm W2 W3) : Far S Sm W (upTo S W.heap.size W1.heap.size) (upTo Sm W2.heap.size W3.heap.size) W3 := fun j o hj h1 h2 => by
  have hlt := (Array.getElem?_eq_some_iff.1 hj).1
  have s1 := k1.size
  have s2 := k2.size
  refine ⟨⟨fun h => ?_, fun h => ?_⟩, (k3.block j (by omega) h2).trans ((k2.block j (by omega) (by simp)).trans ((k1.block j hlt h1).trans hj))⟩
  · rcases h with h | h
    · exact h1 h
    · omega
  · rcases h with h | h
    · exact h2 h
    · omega
theorem Far.before (h : Far S Sm W S' Sm' W') (hg : W0.grownBy W none) : Far S Sm W0 S' Sm' W' := fun j o hj h1 h2 =>
  h j o ((hg.block j (Array.getElem?_eq_some_iff.1 hj).1 (by simp)).trans hj) h1 h2
theorem Far.after (h : Far S Sm W S' Sm' W') (hk : Kept F W' W'') (hF : ∀ j, F j → W.heap.size ≤ j) : Far S Sm W S' Sm' W'' := fun j o hj h1 h2 => by
  obtain ⟨q1, q2⟩ := h j o hj h1 h2
  have hlt := (Array.getElem?_eq_some_iff.1 hj).1
  exact ⟨q1, (hk.block j (Array.getElem?_eq_some_iff.1 q2).1 (fun h => by have := hF j h; omega)).trans q2⟩
theorem DsIn.far {lo : Nat} {Ds : List Nat} (h : DsIn lo Ds S Sm W) (hf : Far S Sm W S' Sm' W') : DsIn lo Ds S' Sm' W' := ⟨h.1, fun D hD => by
  obtain ⟨h1, h2, h3, h4⟩ := h.2 D hD
  obtain ⟨q1, q2⟩ := hf D _ h2 h3 h4
  exact ⟨h1, q2, q1⟩⟩
end
end Go.Proofs.YtnhjokcjdjfijaaDoor
