/-
  Two arrays of numbers in one: as an argument; one of them by its index.
-/
import Derived.Test.YtlokjbjpmhfkhaaDoorArr
import Derived.Test.YtlokjbjpmhfkhaaDoorAv
namespace Go.Proofs.YtlokjbjpmhfkhaaDoor
open Go.ChangeShapes Go.WideShapes Go.ChangeAt Go.RowKit

section
variable {H : Type} {enc : TypeId × Value → H} {P : Program} {w : World} {base : Nat} {spare : Nat → Bool} {held : Bool}
theorem arg_arr2 {r : Reach} {b0 : Nat} {t e u : TypeId} {m : Nat} {q : IntKind} {v : Value} {d : DataW H} {p : List MemPlace} (ht : P.underlying t = some (.array 2 e)) (he : P.underlying e = some (.array m u)) (hu : P.underlying u = some (.int q)) (hcu : P.cellsOf u = 1) (hce : P.cellsOf e = m) (hct : P.cellsOf t = 2 * m)
    (hv : Value.okWide P w r b0 t v) (h : DataW.Trod enc P w base spare held t v d p) : ∃ l0 l1 : List Int, v = .agg ((l0 ++ l1).map (Value.int q)).toArray ∧ (l0.length = m ∧ ∀ z ∈ l0, (Lit.int q z).wf = true) ∧ (l1.length = m ∧ ∀ z ∈ l1, (Lit.int q z).wf = true) := by
  obtain ⟨cs, rfl, _⟩ := okWide_array ht hv
  obtain ⟨fuel, hf⟩ := h
  have hf' : DataW.trod enc P w base spare held fuel t cs.toList = some (d, p) := hf
  obtain ⟨xs, k, _, _, hlen, hxl, hi⟩ := DataW.trod_array ht hf'
  have e0 := hi 0 (by omega)
  have e1 := hi 1 (by omega)
  rw [List.getElem?_eq_getElem (by omega)] at e0 e1
  obtain ⟨l0, h0, hl0, _, hw0⟩ := arr_of_trod he hu hcu hce e0
  obtain ⟨l1, h1, hl1, _, hw1⟩ := arr_of_trod he hu hcu hce e1
  refine ⟨l0, l1, ?_, ⟨hl0, hw0⟩, ⟨hl1, hw1⟩⟩
  have : cs.toList = (l0 ++ l1).map (Value.int q) := by
    rw [List.map_append, ← h0, ← h1, hce, Nat.zero_mul, List.drop_zero, Nat.one_mul]
    have hl2 : (cs.toList.drop m).length = m := by rw [List.length_drop, hlen, hct]; omega
    rw [List.take_of_length_le (Nat.le_of_eq hl2), List.take_append_drop]
  rw [← this]
end
theorem index_two {P : Program} (w : World) {t e u : TypeId} {m : Nat} {q : IntKind} (ht : P.underlying t = some (.array 2 e)) (he : P.underlying e = some (.array m u)) (hs : (P.info? e).map (·.size) = some m) (l0 l1 : List Int) (h0 : l0.length = m) (h1 : l1.length = m) (I : Int) (k : Nat) (hI : I = (k : Int)) (hk : k < 2) :
    Sem.run P (Instr.index t (.agg (arrV q (l0 ++ l1))) (.int .i64 I)) w = .ok (.agg (arrV q (if k = 0 then l0 else l1))) w := by
  cases hq : P.info? e with
  | none => simp [hq] at hs
  | some i =>
    have hi : i.size = m := by simpa [hq] using hs
    have hb : 0 ≤ I ∧ I < 2 := by omega
    have hn : I.toNat = k := by omega
    have hx : List.take m (List.drop (k * m) (l0.map (Value.int q) ++ l1.map (Value.int q))) = (if k = 0 then l0 else l1).map (Value.int q) := by
      have : k = 0 ∨ k = 1 := by omega
      rcases this with rfl | rfl
      · rw [Nat.zero_mul, List.drop_zero, List.take_append_of_le_length (by simp [h0]), List.take_of_length_le (by simp [h0]), if_pos rfl]
      · rw [Nat.one_mul, List.drop_append_of_le_length (by simp [h0]), List.drop_of_length_le (by simp [h0]), List.nil_append, List.take_of_length_le (by simp [h1]), if_neg (by omega)]
    simp [Instr.index, run_underlying ht, asIntOf, hb, hn, sizeOf, typeInfo, hq, hi, part, isAgg, run_underlying he, hx]
end Go.Proofs.YtlokjbjpmhfkhaaDoor
