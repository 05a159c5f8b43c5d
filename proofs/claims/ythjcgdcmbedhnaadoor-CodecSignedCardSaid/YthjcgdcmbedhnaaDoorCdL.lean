/-
  What the lists that are written share: older memory stays, sizes and zero values of the elements.
-/
import Derived.Test.YthjcgdcmbedhnaaDoorCdW
import Derived.Test.YthjcgdcmbedhnaaDoorCdQ
namespace Go.Proofs.YthjcgdcmbedhnaaDoor
open Go.RowKit

theorem range_low {w0 w : World} {b o : Nat} {cs : List Value} (k : Kept (newF w0) w0 w) (h : w0.rangeAt b o cs) : w.rangeAt b o cs := fun j v hv => k.cell (h j v hv) (by
  have := World.block_lt_of_cell? w0 _ (h j v hv)
  show ¬ w0.heap.size ≤ b
  simp only at this
  omega)
theorem range_blk0 {w : World} {g : Nat} {t : TypeId} {cs : Array Value} (h : Blk w g t cs) : w.rangeAt g 0 cs.toList := fun j v hv => by
  rw [Nat.zero_add, h.cell, ← Array.getElem?_toList]; exact hv
theorem long_cases0 {m : Nat} {most : Int} (h : most < (m : Int) ∨ 255 < m) : decide (most < (m : Int)) = true ∨ (decide (most < (m : Int)) = false ∧ decide ((255 : Int) < (m : Int)) = true) := by
  by_cases h1 : most < (m : Int)
  · exact .inl (by simpa using h1)
  · exact .inr ⟨by simpa using h1, by simp; omega⟩
section
variable {w0 w w1 w2 : World} {E : Nat → Addr} {g : Nat} {F : Nat → Prop} {s s' : WSt}
theorem nn_alloc {o : Obj} {j a : Nat} (h : ¬ upTo F a w.heap.size j) (hj : j < a) (ha : a ≤ w.heap.size) : ¬ upTo (upTo F a w.heap.size) w.heap.size (w.alloc o).heap.size j := fun hu => by
  rcases hu with hu | hu
  · exact h hu
  · omega
theorem drew_first (h : WI w0 E g F s w) (k : WP w0 E g F s' w.drew w1) : WP w0 E g F s' w w1 := ⟨k.wi, (Kept.refl F w).drew.follow k.fine fun _ _ h => h⟩
theorem WP.trans' (h : WP w0 E g F s w w1) (k : WP w0 E g (upTo F w.heap.size w1.heap.size) s' w1 w2) : WP w0 E g F s' w w2 := h.trans k
end
theorem sz_Dg : (Tryd.prog.info? 23).map (·.size) = some 16 := by kernel_rfl
theorem cz_Dg {x : List Int} (h : isDig x) : (dgV x).toArray.size = 16 := by rw [List.size_toArray, dgV_length, h.1]
theorem c1_Dg (x : List Int) : ((dgV x).toArray.all fun v => v.oneCell') = true := by rw [dgV_arr]; exact arr_one _ _
def zv_Dg : Array Value := arrV .u8 (List.replicate 16 0)
theorem zz_Dg (w : World) : Sem.run Tryd.prog (zeroValue 23) w = .ok (.agg zv_Dg) w := z16run w
theorem sz_Sg : (Tryd.prog.info? 52).map (·.size) = some 4 := by kernel_rfl
theorem cz_Sg {x : Sg} {P : Prop} (_ : P) : (x.cells.toList).toArray.size = 4 := by rw [Array.toArray_toList]; rfl
theorem c1_Sg (x : Sg) : ((x.cells.toList).toArray.all fun v => v.oneCell') = true := by rw [Array.toArray_toList]; exact sg_one x
def zv_Sg : Array Value := #[.int .i64 0, .int .i64 0, .slice none 0 0, .slice none 0 0]
theorem zz_Sg (w : World) : Sem.run Tryd.prog (zeroValue 52) w = .ok (.agg zv_Sg) w := zero_run3 w (by kernel_rfl)
theorem sz_Vd : (Tryd.prog.info? 115).map (·.size) = some 17 := by kernel_rfl
theorem cz_Vd {x : Vd} (h : isDig x.key) : x.cells.toArray.size = 17 := by rw [List.size_toArray, Vd.cells_length h.1]
theorem c1_Vd (x : Vd) : (x.cells.toArray.all fun v => v.oneCell') = true := by simp [Vd.cells, Value.oneCell']
def zv_Vd : Array Value := (List.replicate 16 (Value.int .u8 0) ++ [Value.int .i64 0]).toArray
theorem zz_Vd (w : World) : Sem.run Tryd.prog (zeroValue 115) w = .ok (.agg zv_Vd) w := zero_run3 w (by kernel_rfl)
end Go.Proofs.YthjcgdcmbedhnaaDoor
