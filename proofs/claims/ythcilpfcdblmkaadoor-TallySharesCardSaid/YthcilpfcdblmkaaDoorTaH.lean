/-
  Tally: numbers that are collected in a variable's box.
-/
import Derived.Test.YthcilpfcdblmkaaDoorGe
namespace Go.Proofs.YthcilpfcdblmkaaDoor
open Go.RowKit Go.Shelf

/-- The box r0 holds a row of zs, made since; nothing ahead of r0 is touched. -/
def HoldI (r0 : Nat) (w0 : World) (zs : List Int) (W : World) : Prop :=
  Kept (fun j => r0 ≤ j) w0 W ∧ ∃ (A : Option Addr) (c : Nat), Blk W r0 42 #[.slice A zs.length c] ∧ W.ownsRow (r0 + 1) 3 1 (.slice A zs.length c) zs.length (zs.map (Value.int .i64))
theorem hold_own {β : Type} {r0 : Nat} {w0 : World} (f : β → List Int) {B : Nat} (hB : r0 ≤ B) : OwnFrom B (fun s W => HoldI r0 w0 (f s) W) := fun s W W' row hs hg hr => by
  obtain ⟨h1, A, c, h2, h3⟩ := hs
  have same := cells_same hg (fun r e => (hr r e).2)
  exact ⟨h1.next (Kept.of_grown (F := fun j => r0 ≤ j) hg (fun r e => by have := (hr r e).1; omega)) (fun _ _ h => h), A, c, same _ _ h2 rfl, own_same h3 same⟩
theorem hold_grown {r0 : Nat} {w0 W W' : World} {zs : List Int} (h : HoldI r0 w0 zs W) (hg : W.grownBy W' none) : HoldI r0 w0 zs W' := by
  obtain ⟨h1, A, c, h2, h3⟩ := h
  exact ⟨h1.next (Kept.of_grown (F := fun _ => False) hg fun _ e => by cases e) (fun _ _ h => h.elim), A, c, h2.grown hg (by simp), own_kept h3 (Kept.of_grown (F := fun _ => False) hg fun _ e => by cases e) (fun _ _ h => h)⟩
theorem own_base {w : World} {base base' size n : Nat} {e : TypeId} {v : Value} {xs : List Value} (h : w.ownsRow base e size v n xs) (hb : base' ≤ base) : w.ownsRow base' e size v n xs := by
  refine ⟨h.1, ?_⟩
  rcases h.2 with h | ⟨g, cap, cur, hv, hg, r⟩
  · exact .inl h
  · exact .inr ⟨g, cap, cur, hv, by omega, r⟩
theorem own_from {w : World} {base size n c : Nat} {e : TypeId} {A : Option Addr} {xs : List Value} (h : w.ownsRow base e size (.slice A n c) n xs) : ∀ ad, A = some ad → base ≤ ad.block := fun ad ea => by
  rcases h.2 with ⟨h, _⟩ | ⟨g, cap, cur, hv, hg, _⟩
  · injection h with h1; rw [ea] at h1; cases h1
  · injection hv with h1; rw [ea] at h1; injection h1 with h1; rw [h1]; exact hg
theorem hold_push {r0 c c' n' : Nat} {w0 W w3 : World} {zs : List Int} {z : Int} {A A' : Option Addr} (h1 : Kept (fun j => r0 ≤ j) w0 W) (h2 : Blk W r0 42 #[.slice A zs.length c])
    (h3 : W.ownsRow (r0 + 1) 3 1 (.slice A zs.length c) zs.length (zs.map (Value.int .i64))) (hr : r0 < w0.heap.size) (hn : n' = zs.length + 1)
    (hown : w3.ownsRow (r0 + 1) 3 1 (.slice A' n' c') n' ((zs.map (Value.int .i64)) ++ [.int .i64 z])) (hg : (W.alloc (.cells #[.int .i64 z] 3)).grownBy w3 (Value.slice A zs.length c).ownBlock) :
    HoldI r0 w0 (zs ++ [z]) (w3.setCell ⟨r0, 0, none⟩ (.slice A' n' c')) ∧ Kept (fun j => r0 ≤ j) W (w3.setCell ⟨r0, 0, none⟩ (.slice A' n' c')) := by
  subst hn
  have K3 : Kept (atB A) W w3 := ((Kept.refl _ W).alloc (.cells #[.int .i64 z] 3)).next (Kept.of_grown (F := atB A) hg (fun _ e => own_at e)) (fun _ _ h => h)
  have KS : Kept (fun j => j = r0) w3 (w3.setCell ⟨r0, 0, none⟩ (.slice A' (zs.length + 1) c')) := (Kept.refl (fun j => j = r0) w3).set (p := ⟨r0, 0, none⟩) (.inl rfl) _
  have hAb : ∀ j, atB A j → r0 + 1 ≤ j := fun j ⟨a, e1, e2⟩ => by subst e2; exact own_from h3 a e1
  have hs1 := h1.size
  have KA : Kept (fun j => r0 ≤ j) W (w3.setCell ⟨r0, 0, none⟩ (.slice A' (zs.length + 1) c')) := (K3.mono (G := fun j => r0 ≤ j) (fun _ _ h => by have := hAb _ h; show r0 ≤ _; omega)).next KS (fun k _ h => by have h : k = r0 := h; show r0 ≤ k; omega)
  have hb3 : Blk w3 r0 42 #[.slice A zs.length c] := h2.kept K3 (fun h => by have := hAb _ h; omega)
  refine ⟨⟨h1.next KA (fun _ _ h => h), A', c', ?_, ?_⟩, KA⟩
  · rw [List.length_append, List.length_singleton]
    simpa using hb3.set 0 (.slice A' (zs.length + 1) c')
  · rw [List.length_append, List.length_singleton, List.map_append]
    exact own_kept hown KS (fun k hk e => by
      obtain ⟨a, e1, e2⟩ := own_at hk
      have e : k = r0 := e
      have := own_from hown a e1
      omega)
theorem hold_len {r0 : Nat} {w0 W : World} {zs : List Int} (h : HoldI r0 w0 zs W) : True := trivial
end Go.Proofs.YthcilpfcdblmkaaDoor
