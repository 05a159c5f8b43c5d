/-
  Several texts in one: CdL, CdMi.
-/
import Derived.Test.YtpdfkgmgmndcfaaGreatDoorM20u
import Derived.Test.YtpdfkgmgmndcfaaGreatDoorM20s
import Derived.Test.YtpdfkgmgmndcfaaGreatDoorM20t
/-
  What the lists that are written share: older memory stays, sizes and zero values of the elements.
-/
namespace Go.Proofs.YtpdfkgmgmndcfaaGreatDoor
open Go.RowKit

theorem range_low {w0 w : World} {b o : Nat} {cs : List Value} (k : Kept (newF w0) w0 w) (h : w0.rangeAt b o cs) : w.rangeAt b o cs := fun j v hv => k.cell (h j v hv) (by
  have := World.block_lt_of_cell? w0 _ (h j v hv)
  show ¬ w0.heap.size ≤ b
  simp only at this
  omega)
theorem range_blk0 {w : World} {g : Nat} {t : TypeId} {cs : Array Value} (h : Blk w g t cs) : w.rangeAt g 0 cs.toList := fun j v hv => by
  rw [Nat.zero_add, h.cell, ← Array.getElem?_toList]; exact hv
theorem long_cases0 {m : Nat} {most : Int} (h : most < (m : Int) ∨ 255 < m) : decide (most < (m : Int)) = true ∨ (decide (most < (m : Int)) = false ∧ decide ((255 : Int) < (m : Int)) = true) := by
  by_cases h1 : most < (m : Int)
  · exact .inl (by simpa using h1)
  · exact .inr ⟨by simpa using h1, by simp; omega⟩
section
variable {w0 w w1 w2 : World} {E : Nat → Addr} {g : Nat} {F : Nat → Prop} {s s' : WSt}
theorem nn_alloc {o : Obj} {j a : Nat} (h : ¬ upTo F a w.heap.size j) (hj : j < a) (ha : a ≤ w.heap.size) : ¬ upTo (upTo F a w.heap.size) w.heap.size (w.alloc o).heap.size j := fun hu => by
  rcases hu with hu | hu
  · exact h hu
  · omega
theorem drew_first (h : WI w0 E g F s w) (k : WP w0 E g F s' w.drew w1) : WP w0 E g F s' w w1 := ⟨k.wi, (Kept.refl F w).drew.follow k.fine fun _ _ h => h⟩
theorem WP.trans' (h : WP w0 E g F s w w1) (k : WP w0 E g (upTo F w.heap.size w1.heap.size) s' w1 w2) : WP w0 E g F s' w w2 := h.trans k
end
theorem sz_Dg : (Tryz.prog.info? 24).map (·.size) = some 16 := by kernel_rfl
theorem cz_Dg {x : List Int} (h : isDig x) : (dgV x).toArray.size = 16 := by rw [List.size_toArray, dgV_length, h.1]
theorem c1_Dg (x : List Int) : ((dgV x).toArray.all fun v => v.oneCell') = true := by rw [dgV_arr]; exact arr_one _ _
def zv_Dg : Array Value := arrV .u8 (List.replicate 16 0)
theorem zz_Dg (w : World) : Sem.run Tryz.prog (zeroValue 24) w = .ok (.agg zv_Dg) w := z16run w
theorem sz_Sg : (Tryz.prog.info? 101).map (·.size) = some 4 := by kernel_rfl
theorem cz_Sg {x : Sg} {P : Prop} (_ : P) : (x.cells.toList).toArray.size = 4 := by rw [Array.toArray_toList]; rfl
theorem c1_Sg (x : Sg) : ((x.cells.toList).toArray.all fun v => v.oneCell') = true := by rw [Array.toArray_toList]; exact sg_one x
def zv_Sg : Array Value := #[.int .i64 0, .int .i64 0, .slice none 0 0, .slice none 0 0]
theorem zz_Sg (w : World) : Sem.run Tryz.prog (zeroValue 101) w = .ok (.agg zv_Sg) w := zero_run3 w (by kernel_rfl)
theorem sz_Vd : (Tryz.prog.info? 50).map (·.size) = some 17 := by kernel_rfl
theorem cz_Vd {x : Vd} (h : isDig x.key) : x.cells.toArray.size = 17 := by rw [List.size_toArray, Vd.cells_length h.1]
theorem c1_Vd (x : Vd) : (x.cells.toArray.all fun v => v.oneCell') = true := by simp [Vd.cells, Value.oneCell']
def zv_Vd : Array Value := (List.replicate 16 (Value.int .u8 0) ++ [Value.int .i64 0]).toArray
theorem zz_Vd (w : World) : Sem.run Tryz.prog (zeroValue 50) w = .ok (.agg zv_Vd) w := zero_run3 w (by kernel_rfl)
end Go.Proofs.YtpdfkgmgmndcfaaGreatDoor
/-
  Pieces of a message in memory; a block out of three.
-/
namespace Go.Proofs.YtpdfkgmgmndcfaaGreatDoor
open Go.RowKit

theorem range_head {w : World} {g o : Nat} {a b : List Value} (h : w.rangeAt g o (a ++ b)) : w.rangeAt g o a := fun j v hv => h j v (by
  have hj := (List.getElem?_eq_some_iff.1 hv).1
  rw [List.getElem?_append_left hj]; exact hv)
theorem range_tail {w : World} {g o : Nat} {a b : List Value} (h : w.rangeAt g o (a ++ b)) : w.rangeAt g (o + a.length) b := fun j v hv => by
  have := h (a.length + j) v (by rw [List.getElem?_append_right (by omega), Nat.add_sub_cancel_left]; exact hv)
  rwa [← Nat.add_assoc] at this
theorem sz_Bk : (Tryz.prog.info? 44).map (·.size) = some 39 := by kernel_rfl
theorem index_st {P : Program} (w : World) {t e : TypeId} {m n : Nat} {fs : Array Field} (ht : P.underlying t = some (.array n e)) (he : P.underlying e = some (.struct fs)) (hs : (P.info? e).map (·.size) = some m) (cs vs : Array Value) (I : Int) (k : Nat) (hI : I = (k : Int)) (hk : k < n) (hv : (cs.toList.drop (k * m)).take m = vs.toList) :
    Sem.run P (Instr.index t (.agg cs) (.int .i64 I)) w = .ok (.agg vs) w := by
  cases hq : P.info? e with
  | none => simp [hq] at hs
  | some i =>
    have hi : i.size = m := by simpa [hq] using hs
    have hb : 0 ≤ I ∧ I < (n : Int) := by omega
    have hn : I.toNat = k := by omega
    have hv' : cs.extract (k * m) (k * m + m) = vs := by
      apply Array.toList_inj.1
      rw [← hv, Array.toList_extract, List.extract_eq_take_drop, Nat.add_sub_cancel_left]
    simp [Instr.index, run_underlying ht, asIntOf, hb, hn, sizeOf, typeInfo, hq, hi, part, isAgg, run_underlying he, hv']
theorem zBk_run : ∃ Z : Array Value, Z.size = 39 ∧ ∀ w : World, Sem.run Tryz.prog (zeroValue 44) w = .ok (.agg Z) w :=
  ⟨(Bk.val ⟨0, 0, List.replicate 16 0, ⟨0, 0, List.replicate 16 0, none, 0, []⟩, none, 0, [], none, 0, []⟩), rfl, fun w => zero_run3 w (by kernel_rfl)⟩
theorem Bk.one (b : Bk) : (b.val.all fun v => v.oneCell') = true := by simp [Bk.val, Qc.val, arrV, Value.oneCell']
def Cg.row (x : Cg) : List Bk := [x.b1, x.b2, x.b3]
theorem Cg.drop {w : World} {x : Cg} (h : x.At w) (k : Nat) (hk : k < 3) (bl : Array Value) (hbl : bl = x.b1.val ++ (x.b2.val ++ x.b3.val)) : (bl.toList.drop (k * 39)).take 39 = (x.row.getD k x.b1).val.toList := by
  have h1 := Bk.size h.1
  have h2 := Bk.size h.2.1
  have h3 := Bk.size h.2.2.1
  have e1 : x.b1.val.toList.length = 39 := by rw [Array.length_toList, h1]
  have e2 : x.b2.val.toList.length = 39 := by rw [Array.length_toList, h2]
  have e3 : x.b3.val.toList.length = 39 := by rw [Array.length_toList, h3]
  rw [hbl, Array.toList_append, Array.toList_append]
  have hk3 : k = 0 ∨ k = 1 ∨ k = 2 := by omega
  rcases hk3 with rfl | rfl | rfl
  · show (List.drop 0 _).take 39 = x.b1.val.toList
    rw [List.drop_zero, List.take_append_of_le_length (by omega), List.take_of_length_le (by omega)]
  · show (List.drop 39 _).take 39 = x.b2.val.toList
    rw [List.drop_append_of_le_length (by omega), List.drop_of_length_le (by omega), List.nil_append, List.take_append_of_le_length (by omega), List.take_of_length_le (by omega)]
  · show (List.drop 78 _).take 39 = x.b3.val.toList
    rw [List.drop_append, List.drop_append, List.drop_of_length_le (by omega), List.drop_of_length_le (by omega), List.nil_append, List.nil_append, e1, e2, List.drop_zero, List.take_of_length_le (by omega)]
end Go.Proofs.YtpdfkgmgmndcfaaGreatDoor
