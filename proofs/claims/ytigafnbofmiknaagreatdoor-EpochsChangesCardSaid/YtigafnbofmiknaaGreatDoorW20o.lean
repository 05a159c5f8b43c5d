/- TrH, Kn, ChX, ChV, ChW -/
import Derived.Test.YtigafnbofmiknaaGreatDoorW20n
import Derived.Test.YtigafnbofmiknaaGreatDoorW20l
import Derived.Test.YtigafnbofmiknaaGreatDoorW20h
import Derived.Laws.MakeOwn
import Derived.Test.YtigafnbofmiknaaGreatDoorW20k
import Derived.Deep.MidRow
import Derived.Deep.RegionHeld3
namespace Go.Proofs.YtigafnbofmiknaaGreatDoor
set_option maxRecDepth 100000
set_option maxHeartbeats 10000000
open Go.RowKit
section
open Go.RowKit
end
section
def KeyAt (w : World) (kb : Nat) (sd : Array Value) (lv : Value) (rt : Array Value) : Prop := w.rangeAt kb 0 sd.toList /\ w.cell? ⟨kb, 16, none⟩ = some lv /\ w.rangeAt kb 17 rt.toList /\ w.there kb 0 33
theorem KeyAt.to {w w' : World} {kb : Nat} {sd rt : Array Value} {lv : Value} {row : Option Nat} (h : KeyAt w kb sd lv rt) (hg : w.grownBy w' row) (hr : some kb ≠ row) : KeyAt w' kb sd lv rt :=
 ⟨zda h.1 hg hr, hg.cell h.2.1 hr, zda h.2.2.1 hg hr, zd2 h.2.2.2 hg hr⟩
theorem KeyAt.grown {w w' : World} {kb : Nat} {sd rt : Array Value} {lv : Value} (h : KeyAt w kb sd lv rt) (hg : w.grownBy w' none) : KeyAt w' kb sd lv rt := h.to hg (by simp)
theorem KeyAt.lt {w : World} {kb : Nat} {sd rt : Array Value} {lv : Value} (h : KeyAt w kb sd lv rt) : kb < w.heap.size := World.block_lt_of_cell? w _ h.2.1
theorem KeyAt.leaves {w : World} {kb : Nat} {sd rt : Array Value} {lv : Value} (hs : sd.size = 16) (h : KeyAt w kb sd lv rt) (v : Value) : KeyAt (w.setCell ⟨kb, 16, none⟩ v) kb sd v rt := by
 have e : w.setCell ⟨kb, 16, none⟩ v = w.setCells kb 16 [v] := rfl
 have ht := h.2.2.2
 refine ⟨by rw [e]; exact World.rangeAt_setCells_apart h.1 _ _ _ (.inr (.inl (by rw [Array.length_toList, hs]; omega))), ?_, by rw [e]; exact World.rangeAt_setCells_apart h.2.2.1 _ _ _ (.inr (.inr (by simp))), by rw [e]; exact World.there_setCells ht _ _ _⟩
 rw [e]
 have := World.rangeAt_setCells_same w kb 16 [v] (there_sub ht (by omega) (by simp)) 0 v rfl
 simpa using this
theorem KeyAt.root {w : World} {kb : Nat} {sd rt : Array Value} {lv : Value} (hs : sd.size = 16) (h : KeyAt w kb sd lv rt) (rs : Array Value) (hr : rs.size = 16) : KeyAt (w.setCells kb 17 rs.toList) kb sd lv rs := by
 have ht := h.2.2.2
 refine ⟨World.rangeAt_setCells_apart h.1 _ _ _ (.inr (.inl (by rw [Array.length_toList, hs]; omega))), ?_, World.rangeAt_setCells_same w kb 17 rs.toList (there_sub ht (by omega) (by rw [Array.length_toList, hr]; omega)), World.there_setCells ht _ _ _⟩
 have h1 : w.rangeAt kb 16 [lv] := fun j v hv => by
  have hj : j = 0 := by have := (List.getElem?_eq_some_iff.1 hv).1; simp at this; omega
  subst hj
  have : lv = v := by simpa using hv
  subst this
  exact h.2.1
 have := World.rangeAt_setCells_apart h1 kb 17 rs.toList (.inr (.inl (by simp))) 0 lv rfl
 simpa using this
def leavesC (seed : List Int) : List (List Int) := upto (fun k => pubS seed (k : Int)) 32
end
section
open Go.RowKit Go.Shelf
attribute [local go_sem] Oper.semAt_some
end
section
open Go.RowKit
end
section
open Go.RowKit
end
end Go.Proofs.YtigafnbofmiknaaGreatDoor
