/-
  PoolPlays: what stands between two calls.
-/
import Derived.Test.YtnhjokcjdjfijaaDoorPlOps
import Derived.Test.YtnhjokcjdjfijaaDoorPlN
import Derived.Test.YtnhjokcjdjfijaaDoorPlT
import Derived.Test.YtnhjokcjdjfijaaDoorNum
namespace Go.Proofs.YtnhjokcjdjfijaaDoor
open Go.RowKit

/-- A pool at p and the document's at mp, both with L, apart from each other and from what was there ahead of w. -/
def PlM (w : World) (p mp : Nat) (S Sm : Nat → Prop) (L : List (List UInt8)) (W : World) : Prop :=
  PoolIs W S p L ∧ ModIs W Sm mp L ∧ (∀ k, S k → w.heap.size ≤ k ∧ k < W.heap.size) ∧ (∀ k, Sm k → w.heap.size ≤ k ∧ k < W.heap.size ∧ ¬ S k) ∧ Fine L ∧ Kept (fun k => w.heap.size ≤ k) w W
section
variable {w W W1 W2 W3 : World} {p mp : Nat} {S Sm F : Nat → Prop} {L : List (List UInt8)}
theorem PlM.kept (h : PlM w p mp S Sm L W) (hk : Kept F W W1) (hF : ∀ k, F k → w.heap.size ≤ k ∧ ¬ S k ∧ ¬ Sm k) : PlM w p mp S Sm L W1 := by
  obtain ⟨h1, h2, h3, h4, h5, h6⟩ := h
  have hs := hk.size
  exact ⟨h1.kept hk (fun k h => (hF k h).2.1), h2.kept hk (fun k h => (hF k h).2.2), fun k h => ⟨(h3 k h).1, by have := (h3 k h).2; omega⟩, fun k h => ⟨(h4 k h).1, by have := (h4 k h).2.1; omega, (h4 k h).2.2⟩, h5, h6.next hk (fun k _ h => (hF k h).1)⟩
theorem PlM.grown (h : PlM w p mp S Sm L W) (hg : W.grownBy W1 none) : PlM w p mp S Sm L W1 := h.kept (Kept.of_grown (F := fun _ => False) hg fun _ e => by cases e) (fun _ h => h.elim)
/-- Both have taken x: first the pool, then the document's. -/
theorem PlM.step {L' : List (List UInt8)} (h : PlM w p mp S Sm L W) (h1 : PoolIs W1 (upTo S W.heap.size W1.heap.size) p L') (k1 : Kept S W W1) (k2 : W1.grownBy W2 none) (h3 : ModIs W3 (upTo Sm W2.heap.size W3.heap.size) mp L') (k3 : Kept Sm W2 W3) (hL : Fine L') :
    PlM w p mp (upTo S W.heap.size W1.heap.size) (upTo Sm W2.heap.size W3.heap.size) L' W3 := by
  obtain ⟨g1, g2, g3, g4, g5, g6⟩ := h
  have s1 := k1.size
  have s2 := k2.size
  have s3 := k3.size
  have K2 : Kept (fun _ => False) W1 W2 := Kept.of_grown k2 fun _ e => by cases e
  have hap : ∀ k, Sm k → ¬ upTo S W.heap.size W1.heap.size k := fun k hk h => by
    have := g4 k hk
    rcases h with h | h
    · exact this.2.2 h
    · omega
  refine ⟨(h1.kept K2 (fun _ h => h.elim)).kept k3 hap, h3, fun k hk => ?_, fun k hk => ?_, hL, ((g6.next k1 (fun k _ h => (g3 k h).1)).next K2 (fun _ _ h => h.elim)).next k3 (fun k _ h => (g4 k h).1)⟩
  · have hw := g6.size
    rcases hk with hk | hk
    · have := g3 k hk; omega
    · omega
  · have hw := g6.size
    rcases hk with hk | hk
    · have := g4 k hk; exact ⟨this.1, by omega, hap k hk⟩
    · refine ⟨by omega, hk.2, fun h => ?_⟩
      rcases h with h | h
      · have := g3 k h; omega
      · omega
end
theorem num_is (w : World) (B : Nat) (E : Nat → Addr) (he : ErrEnv w B E) (k : Nat) (hk : k ≤ 18) : Calls Tryd.prog 11 #[evOf E k] w fun en w' => en = .returned (.int .i64 (k : Int)) ∧ w.grownBy w' none := by
  rcases k with _ | k
  · exact (num_nil w).mono fun en w' ⟨h1, h2⟩ => ⟨by rw [h1]; rfl, h2 ▸ World.grownBy.refl _ _⟩
  · exact (num_err w B E k (by omega) he).mono fun en w' ⟨h1, h2⟩ => ⟨by rw [h1]; rfl, h2⟩
theorem addE_le (L : List (List UInt8)) (x : List UInt8) : addE L x ≤ 18 := by
  rw [addE]
  repeat' split
  all_goals omega
theorem Fine.drop {L : List (List UInt8)} (h : Fine L) (D : List (List UInt8)) : Fine (dropL L D) :=
  ⟨Nat.le_trans (List.length_filter_le _ _) h.1, fun y hy => h.2.1 y (List.mem_filter.1 hy).1, h.2.2.sublist List.filter_sublist⟩
theorem Fine.small {L : List (List UInt8)} (h : Fine L) : ∀ y ∈ L, y.length ≤ 100000 := fun y hy => by have := h.2.1 y hy; omega
end Go.Proofs.YtnhjokcjdjfijaaDoor
