/-
  Several texts in one: ArrEq, Tx.
-/
import Derived.Test.YtebnebajedlhlaaDoorM9ia
import Derived.ChangeKeysEq
import Derived.Test.YtebnebajedlhlaaDoorM9in
import Derived.Test.YtebnebajedlhlaaDoorM9io
/-
  Two arrays of numbers, compared.
-/
namespace Go.Proofs.YtebnebajedlhlaaDoor
open Go.RowKit

section
variable {P : Program}
theorem eqItems_ints (w : World) (d : Nat) {e : TypeId} {q : IntKind} (he : P.plainKey e = true) (hu : P.underlying e = some (.int q)) (l1 l2 : List Int) : ∀ (is : List Nat), (∀ i ∈ is, i < l1.length ∧ i < l2.length) →
    Sem.run P (Op.eqItems (d + 1) e 1 (arrV q l1) (arrV q l2) is) w = .ok (is.all fun i => l1.getD i 0 == l2.getD i 0) w
  | [], _ => by simp [Op.eqItems]
  | i :: is, h => by
    obtain ⟨h1, h2⟩ := h i (by simp)
    have p1 := run_part_plain (w := w) he (arr_get (q := q) h1)
    have p2 := run_part_plain (w := w) he (arr_get (q := q) h2)
    have p3 := run_equalIn_int w d e q q (l1.getD i 0) (l2.getD i 0) hu
    have ih := eqItems_ints w d he hu l1 l2 is (fun j hj => h j (by simp [hj]))
    simp only [Op.eqItems, Sem.run_bind, Nat.mul_one, p1, p2, p3, Result.andThen_ok]
    cases hb : (l1.getD i 0 == l2.getD i 0) <;> simp_all
theorem eq_arr (w : World) (d : Nat) {t e : TypeId} {n : Nat} {q : IntKind} (ht : P.underlying t = some (.array n e)) (he : P.plainKey e = true) (hu : P.underlying e = some (.int q)) (hce : P.cellsOf e = 1) (hi : (P.info? e).isSome = true) (l1 l2 : List Int) (h1 : l1.length = n) (h2 : l2.length = n) :
    Sem.run P (Op.equalIn (d + 2) t (.agg (arrV q l1)) (.agg (arrV q l2))) w = .ok (decide (l1 = l2)) w := by
  obtain ⟨i, hi⟩ := Option.isSome_iff_exists.1 hi
  rw [run_equalIn_array w (d + 1) _ _ ht hi, hce, eqItems_ints w d he hu l1 l2 _ (fun j hj => by rw [h1, h2]; simpa using hj)]
  congr 1
  rw [Bool.eq_iff_iff, List.all_eq_true, decide_eq_true_iff]
  constructor
  · intro h
    apply List.ext_getElem (by rw [h1, h2])
    intro j hj1 hj2
    have := h j (by rw [List.mem_range]; omega)
    simpa [List.getD, List.getElem?_eq_getElem hj1, List.getElem?_eq_getElem hj2] using this
  · rintro rfl j _
    simp
end
end Go.Proofs.YtebnebajedlhlaaDoor
/-
  quorateref02.Text: a digest's bytes as a text.
-/
namespace Go.Proofs.YtebnebajedlhlaaDoor
open Go.RowKit

theorem index16b (w : World) {I : Int} {cs : Array Value} {v : Value} (hb : 0 ≤ I ∧ I < 16) (hv : cs[I.toNat]? = some v) : Sem.run Tryd.prog (Instr.index 23 (.agg cs) (.int .i64 I)) w = .ok v w :=
  run_index_agg (n := 16) Tryd.underlying23 (by kernel_rfl) (by kernel_rfl) hb hv
theorem info16b : (Tryd.prog.info? 23).map (·.size) = some 16 := by kernel_rfl
theorem own_str {w : World} {base : Nat} {e : TypeId} {v : Value} {n : Nat} {L : List Int} (h : w.ownsRow base e 1 v n (L.map (Value.int .u8))) : ∃ A cap, v = .slice A n cap ∧ BytesI w A L ∧ n ≤ cap ∧ L.length = n := by
  have hl : L.length = n := by have := h.1; simpa using this
  rcases h.2 with ⟨rfl, h0⟩ | ⟨g, cap, cur, rfl, hb, hg, hnc, _, hsz, ht⟩
  · subst h0
    exact ⟨none, 0, rfl, fun hne => absurd (List.eq_nil_of_length_eq_zero hl) hne, Nat.le_refl _, hl⟩
  · refine ⟨_, cap, rfl, fun _ => ⟨_, rfl, fun j hj => ?_⟩, hnc, hl⟩
    rw [add_none, Nat.zero_add, Joins.cell_of_block hg j, ← Array.getElem?_toList]
    have e1 : (cur.toList.take (n * 1))[j]? = cur.toList[j]? := by rw [List.getElem?_take, if_pos (by omega)]
    rw [← e1, ht]
    simp [List.getD, List.getElem?_eq_getElem hj]

end Go.Proofs.YtebnebajedlhlaaDoor
