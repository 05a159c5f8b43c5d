/-
  PoolPlays: what All tells, collected as texts.
-/
import Derived.Test.YtnhjokcjdjfijaaDoorPlM
import Derived.Test.YtnhjokcjdjfijaaDoorPlI
namespace Go.Proofs.YtnhjokcjdjfijaaDoor
open Go.RowKit Go.Shelf

theorem own_same {W W' : World} {base size n : Nat} {e : TypeId} {v : Value} {xs : List Value} (h : W.ownsRow base e size v n xs) (same : ∀ (b : Nat) (o : Obj), W.heap[b]? = some o → o.isCells = true → W'.heap[b]? = some o) : W'.ownsRow base e size v n xs := by
  refine ⟨h.1, ?_⟩
  rcases h.2 with h | ⟨g, cap, cur, hv, hb, hh, r⟩
  · exact .inl h
  · exact .inr ⟨g, cap, cur, hv, hb, same g _ hh rfl, r⟩
/-- The texts of those that have come lie in the law's own variable. -/
def CollI (r0 : Nat) (W0 : World) (pre : List Tx) (W : World) : Prop :=
  Kept (fun j => r0 ≤ j) W0 W ∧ ∃ (A : Option Addr) (c : Nat), Blk W (r0 + 1) 27 #[.slice A pre.length c] ∧ W.ownsRow r0 9 1 (.slice A pre.length c) pre.length (pre.map fun t => strV t.x) ∧ ∀ ad, A = some ad → ad.block = r0 ∨ (W0.heap.size ≤ ad.block ∧ ∃ y ∈ pre, y.hi ≤ ad.block)
theorem collI_own {β : Type} {r0 : Nat} {W0 : World} (f : β → List Tx) {B : Nat} (hB : r0 ≤ B) : OwnFrom B (fun s W => CollI r0 W0 (f s) W) := fun s W W' row hs hg hr => by
  obtain ⟨h1, A, c, h2, h3, h4⟩ := hs
  have same := cells_same hg (fun r e => (hr r e).2)
  exact ⟨h1.next (Kept.of_grown (F := fun j => r0 ≤ j) hg (fun r e => by have := (hr r e).1; omega)) (fun _ _ h => h), A, c, same _ _ h2 rfl, own_same h3 same, h4⟩
theorem coll_push {r0 n' c c' : Nat} {W0 W w3 : World} {pre : List Tx} {x : Tx} {L : List (List UInt8)} {A A' : Option Addr} (h1 : Kept (fun j => r0 ≤ j) W0 W) (h2 : Blk W (r0 + 1) 27 #[.slice A pre.length c])
    (h4 : ∀ ad, A = some ad → ad.block = r0 ∨ (W0.heap.size ≤ ad.block ∧ ∃ y ∈ pre, y.hi ≤ ad.block)) (hx : TxAt W0.heap.size L pre x W) (hz : r0 + 2 ≤ W0.heap.size) (hn : n' = pre.length + 1)
    (hown : w3.ownsRow r0 9 1 (.slice A' n' c') n' ((pre.map fun t => strV t.x) ++ [strV x.x])) (hg : (W.alloc (.cells #[strV x.x] 9)).grownBy w3 (Value.slice A pre.length c).ownBlock)
    (hat : (Value.slice A' n' c').ownBlock = (Value.slice A pre.length c).ownBlock ∨ (Value.slice A' n' c').ownBlock = some (W.alloc (.cells #[strV x.x] 9)).heap.size) :
    CollI r0 W0 (pre ++ [x]) (w3.setCell ⟨r0 + 1, 0, none⟩ (.slice A' n' c')) ∧ Still x.lo x.hi W (w3.setCell ⟨r0 + 1, 0, none⟩ (.slice A' n' c')) := by
  subst hn
  obtain ⟨p1, p2, p3, p4, p5, p6, p7⟩ := hx
  have K3 : Kept (atB A) W w3 := ((Kept.refl _ W).alloc (.cells #[strV x.x] 9)).next (Kept.of_grown (F := atB A) hg (fun _ e => own_at e)) (fun _ _ h => h)
  have KS : Kept (fun j => j = r0 + 1) w3 (w3.setCell ⟨r0 + 1, 0, none⟩ (.slice A' (pre.length + 1) c')) := (Kept.refl (fun j => j = r0 + 1) w3).set (p := ⟨r0 + 1, 0, none⟩) (.inl rfl) _
  have KA : Kept (fun j => atB A j ∨ j = r0 + 1) W (w3.setCell ⟨r0 + 1, 0, none⟩ (.slice A' (pre.length + 1) c')) := (K3.mono (G := fun j => atB A j ∨ j = r0 + 1) (fun _ _ h => .inl h)).next KS (fun _ _ h => .inr h)
  have hAb : ∀ j, atB A j → j = r0 ∨ (W0.heap.size ≤ j ∧ x.hi ≤ j) := fun j ⟨a, e1, e2⟩ => by
    subst e2
    rcases h4 a e1 with h | ⟨h, y, hy, hh⟩
    · exact .inl h
    · exact .inr ⟨h, by rw [← (p6 y hy).2]; exact hh⟩
  have hs1 := h1.size
  have hb3 : Blk w3 (r0 + 1) 27 #[.slice A pre.length c] := h2.kept K3 (fun h => by have := hAb _ h; omega)
  have hA' : ∀ ad, A' = some ad → atB A ad.block ∨ ad.block = W.heap.size + 1 := fun ad e => by
    subst e
    rcases hat with h | h
    · exact .inl (own_at (h.symm.trans rfl))
    · exact .inr (by simpa [Value.ownBlock] using h)
  refine ⟨⟨h1.next KA (fun k _ h => ?_), A', c', ?_, ?_, fun ad e => ?_⟩, Still.of_kept KA (fun k hf hk => ?_)⟩
  · rcases h with h | h
    · have := hAb k h; omega
    · omega
  · rw [List.length_append, List.length_singleton]
    simpa using hb3.set 0 (.slice A' (pre.length + 1) c')
  · rw [List.length_append, List.length_singleton, List.map_append]
    exact own_kept hown KS (fun k hk e => by
      obtain ⟨a, e1, e2⟩ := own_at hk
      have e : k = r0 + 1 := e
      rcases hA' a e1 with h | h
      · have := hAb _ h; omega
      · omega)
  · rcases hA' ad e with h | h
    · obtain ⟨a, e1, e2⟩ := h
      rcases h4 a e1 with h | ⟨h, y, hy, hh⟩
      · exact .inl (by omega)
      · exact .inr ⟨by omega, y, List.mem_append_left _ hy, by omega⟩
    · exact .inr ⟨by omega, x, by simp, by omega⟩
  · rcases hf with h | h
    · have := hAb k h; omega
    · omega
end Go.Proofs.YtnhjokcjdjfijaaDoor
