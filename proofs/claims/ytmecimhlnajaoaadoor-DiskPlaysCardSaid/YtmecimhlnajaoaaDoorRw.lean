/-
  A whole row stored by 'setCells' is the row set.
-/
import Derived.Deep.MidRow
import Derived.Test.YtmecimhlnajaoaaDoorAv
namespace Go.Proofs.YtmecimhlnajaoaaDoor
open Go.RowKit

theorem there_blk {w : World} {g : Nat} {t : TypeId} {cs : Array Value} (h : Blk w g t cs) {n : Nat} (hn : n ≤ cs.size) : w.there g 0 n := fun j hj => by
  rw [Nat.zero_add]
  refine ⟨?_, h.frozen j⟩
  rw [h.cell, Array.getElem?_eq_getElem (show j < cs.size by omega)]; rfl
theorem setCells_row {P : Program} {w : World} {g : Nat} {t ty : TypeId} {old cells : Array Value} (hg : Blk w g t old) (hi : (P.info? ty).map (·.size) = some cells.size) (hold : old.size = cells.size) (h1 : cells.all (·.oneCell') = true) :
    w.setCells g 0 cells.toList = w.setRow g cells := by
  have a := run_storeVar_row (P := P) w g t ty old cells hg hi hold h1
  have b := run_storeVar_mid (P := P) w g 0 ty cells (there_blk hg (Nat.le_of_eq hold.symm)) hi h1
  rw [a] at b
  injection b with _ h
  exact h.symm
theorem there_alloc {w : World} {b o n : Nat} (h : w.there b o n) (ob : Obj) : (w.alloc ob).there b o n := fun j hj => by
  obtain ⟨h1, h2⟩ := h j hj
  obtain ⟨v, hv⟩ := Option.isSome_iff_exists.1 h1
  have hb := World.block_lt_of_cell? w _ hv
  refine ⟨?_, ?_⟩
  · rw [World.cell?_of_block (Below.heap_alloc w ob _ hb), hv]; rfl
  · rw [World.frozen?_of_block (Below.heap_alloc w ob _ hb)]; exact h2
theorem there_grown {w w' : World} {b o n : Nat} (h : w.there b o n) (hg : w.grownBy w' none) : w'.there b o n := fun j hj => by
  obtain ⟨h1, h2⟩ := h j hj
  obtain ⟨v, hv⟩ := Option.isSome_iff_exists.1 h1
  have hb := World.block_lt_of_cell? w _ hv
  refine ⟨?_, ?_⟩
  · rw [World.cell?_of_block (hg.block _ hb (by simp)), hv]; rfl
  · rw [World.frozen?_of_block (hg.block _ hb (by simp))]; exact h2
end Go.Proofs.YtmecimhlnajaoaaDoor
