/-
  Pieces of a message in memory; a block out of three.
-/
import Derived.Test.YthjcgdcmbedhnaaDoorCdMQ
import Derived.Test.YthjcgdcmbedhnaaDoorCdL
namespace Go.Proofs.YthjcgdcmbedhnaaDoor
open Go.RowKit

theorem range_head {w : World} {g o : Nat} {a b : List Value} (h : w.rangeAt g o (a ++ b)) : w.rangeAt g o a := fun j v hv => h j v (by
  have hj := (List.getElem?_eq_some_iff.1 hv).1
  rw [List.getElem?_append_left hj]; exact hv)
theorem range_tail {w : World} {g o : Nat} {a b : List Value} (h : w.rangeAt g o (a ++ b)) : w.rangeAt g (o + a.length) b := fun j v hv => by
  have := h (a.length + j) v (by rw [List.getElem?_append_right (by omega), Nat.add_sub_cancel_left]; exact hv)
  rwa [← Nat.add_assoc] at this
theorem sz_TC : (Tryd.prog.info? 57).map (·.size) = some 3 := by kernel_rfl
theorem sz_Vt : (Tryd.prog.info? 54).map (·.size) = some 22 := by kernel_rfl
theorem sz_To : (Tryd.prog.info? 59).map (·.size) = some 28 := by kernel_rfl
theorem sz_Pp : (Tryd.prog.info? 61).map (·.size) = some 46 := by kernel_rfl
theorem sz_Wt : (Tryd.prog.info? 47).map (·.size) = some 32 := by kernel_rfl
theorem sz_Cg : (Tryd.prog.info? 66).map (·.size) = some 136 := by kernel_rfl
theorem sz_Ms : (Tryd.prog.info? 68).map (·.size) = some 304 := by kernel_rfl
theorem sz_Bk : (Tryd.prog.info? 35).map (·.size) = some 39 := by kernel_rfl
theorem index_st {P : Program} (w : World) {t e : TypeId} {m n : Nat} {fs : Array Field} (ht : P.underlying t = some (.array n e)) (he : P.underlying e = some (.struct fs)) (hs : (P.info? e).map (·.size) = some m) (cs vs : Array Value) (I : Int) (k : Nat) (hI : I = (k : Int)) (hk : k < n) (hv : (cs.toList.drop (k * m)).take m = vs.toList) :
    Sem.run P (Instr.index t (.agg cs) (.int .i64 I)) w = .ok (.agg vs) w := by
  cases hq : P.info? e with
  | none => simp [hq] at hs
  | some i =>
    have hi : i.size = m := by simpa [hq] using hs
    have hb : 0 ≤ I ∧ I < (n : Int) := by omega
    have hn : I.toNat = k := by omega
    have hv' : cs.extract (k * m) (k * m + m) = vs := by
      apply Array.toList_inj.1
      rw [← hv, Array.toList_extract, List.extract_eq_take_drop, Nat.add_sub_cancel_left]
    simp [Instr.index, run_underlying ht, asIntOf, hb, hn, sizeOf, typeInfo, hq, hi, part, isAgg, run_underlying he, hv']
theorem zBk_run : ∃ Z : Array Value, Z.size = 39 ∧ ∀ w : World, Sem.run Tryd.prog (zeroValue 35) w = .ok (.agg Z) w :=
  ⟨(Bk.val ⟨0, 0, List.replicate 16 0, ⟨0, 0, List.replicate 16 0, none, 0, []⟩, none, 0, [], none, 0, []⟩), rfl, fun w => zero_run3 w (by kernel_rfl)⟩
theorem Bk.one (b : Bk) : (b.val.all fun v => v.oneCell') = true := by simp [Bk.val, Qc.val, arrV, Value.oneCell']
def Cg.row (x : Cg) : List Bk := [x.b1, x.b2, x.b3]
theorem sz_arr3 : (Tryd.prog.info? 64).map (·.size) = some 117 := by kernel_rfl
theorem Cg.drop {w : World} {x : Cg} (h : x.At w) (k : Nat) (hk : k < 3) (bl : Array Value) (hbl : bl = x.b1.val ++ (x.b2.val ++ x.b3.val)) : (bl.toList.drop (k * 39)).take 39 = (x.row.getD k x.b1).val.toList := by
  have h1 := Bk.size h.1
  have h2 := Bk.size h.2.1
  have h3 := Bk.size h.2.2.1
  have e1 : x.b1.val.toList.length = 39 := by rw [Array.length_toList, h1]
  have e2 : x.b2.val.toList.length = 39 := by rw [Array.length_toList, h2]
  have e3 : x.b3.val.toList.length = 39 := by rw [Array.length_toList, h3]
  rw [hbl, Array.toList_append, Array.toList_append]
  have hk3 : k = 0 ∨ k = 1 ∨ k = 2 := by omega
  rcases hk3 with rfl | rfl | rfl
  · show (List.drop 0 _).take 39 = x.b1.val.toList
    rw [List.drop_zero, List.take_append_of_le_length (by omega), List.take_of_length_le (by omega)]
  · show (List.drop 39 _).take 39 = x.b2.val.toList
    rw [List.drop_append_of_le_length (by omega), List.drop_of_length_le (by omega), List.nil_append, List.take_append_of_le_length (by omega), List.take_of_length_le (by omega)]
  · show (List.drop 78 _).take 39 = x.b3.val.toList
    rw [List.drop_append, List.drop_append, List.drop_of_length_le (by omega), List.drop_of_length_le (by omega), List.nil_append, List.nil_append, e1, e2, List.drop_zero, List.take_of_length_le (by omega)]
end Go.Proofs.YthjcgdcmbedhnaaDoor
