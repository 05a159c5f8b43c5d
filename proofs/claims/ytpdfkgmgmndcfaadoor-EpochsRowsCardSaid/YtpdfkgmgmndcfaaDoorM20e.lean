/-
  Several texts in one: ArrEq, Vd.
-/
import Derived.Test.YtpdfkgmgmndcfaaDoorM20d
import Derived.ChangeKeysEq
import Derived.Deep.MidRow
/-
  Two arrays of numbers, compared.
-/
namespace Go.Proofs.YtpdfkgmgmndcfaaDoor
open Go.RowKit

section
variable {P : Program}
theorem eqItems_ints (w : World) (d : Nat) {e : TypeId} {q : IntKind} (he : P.plainKey e = true) (hu : P.underlying e = some (.int q)) (l1 l2 : List Int) : ∀ (is : List Nat), (∀ i ∈ is, i < l1.length ∧ i < l2.length) →
    Sem.run P (Op.eqItems (d + 1) e 1 (arrV q l1) (arrV q l2) is) w = .ok (is.all fun i => l1.getD i 0 == l2.getD i 0) w
  | [], _ => by simp [Op.eqItems]
  | i :: is, h => by
    obtain ⟨h1, h2⟩ := h i (by simp)
    have p1 := run_part_plain (w := w) he (arr_get (q := q) h1)
    have p2 := run_part_plain (w := w) he (arr_get (q := q) h2)
    have p3 := run_equalIn_int w d e q q (l1.getD i 0) (l2.getD i 0) hu
    have ih := eqItems_ints w d he hu l1 l2 is (fun j hj => h j (by simp [hj]))
    simp only [Op.eqItems, Sem.run_bind, Nat.mul_one, p1, p2, p3, Result.andThen_ok]
    cases hb : (l1.getD i 0 == l2.getD i 0) <;> simp_all
theorem eq_arr (w : World) (d : Nat) {t e : TypeId} {n : Nat} {q : IntKind} (ht : P.underlying t = some (.array n e)) (he : P.plainKey e = true) (hu : P.underlying e = some (.int q)) (hce : P.cellsOf e = 1) (hi : (P.info? e).isSome = true) (l1 l2 : List Int) (h1 : l1.length = n) (h2 : l2.length = n) :
    Sem.run P (Op.equalIn (d + 2) t (.agg (arrV q l1)) (.agg (arrV q l2))) w = .ok (decide (l1 = l2)) w := by
  obtain ⟨i, hi⟩ := Option.isSome_iff_exists.1 hi
  rw [run_equalIn_array w (d + 1) _ _ ht hi, hce, eqItems_ints w d he hu l1 l2 _ (fun j hj => by rw [h1, h2]; simpa using hj)]
  congr 1
  rw [Bool.eq_iff_iff, List.all_eq_true, decide_eq_true_iff]
  constructor
  · intro h
    apply List.ext_getElem (by rw [h1, h2])
    intro j hj1 hj2
    have := h j (by rw [List.mem_range]; omega)
    simpa [List.getD, List.getElem?_eq_getElem hj1, List.getElem?_eq_getElem hj2] using this
  · rintro rfl j _
    simp
end
end Go.Proofs.YtpdfkgmgmndcfaaDoor
/-
  Validators as letters, and rows of them.
-/
namespace Go.Proofs.YtpdfkgmgmndcfaaDoor
open Go.RowKit

/-- A validator: the key's bytes, the power. -/
structure Vd where
  key : List Int
  p : Int
def Vd.cells (x : Vd) : List Value := x.key.map (Value.int .u8) ++ [.int .i64 x.p]
abbrev Vd.val (x : Vd) : Value := .agg x.cells.toArray
def VdsAt (w : World) (A : Option Addr) (V : List Vd) : Prop := V ≠ [] → ∃ b off, A = some ⟨b, off, none⟩ ∧ ∀ k (h : k < V.length), w.rangeAt b (off + k * 17) V[k].cells
theorem range_kept {w w' : World} {b o : Nat} {cs : List Value} (h : w.rangeAt b o cs) (hk : w.grownBy w' none) : w'.rangeAt b o cs := fun j v hv => hk.cell (h j v hv) (by simp)
theorem VdsAt.grown {w w' : World} {A : Option Addr} {V : List Vd} (h : VdsAt w A V) (hk : w.grownBy w' none) : VdsAt w' A V := fun hne => by
  obtain ⟨b, off, rfl, hc⟩ := h hne
  exact ⟨b, off, rfl, fun k hk' => range_kept (hc k hk') hk⟩
theorem Vd.cells_length {x : Vd} (h : x.key.length = 16) : x.cells.length = 17 := by simp [Vd.cells, h]
end Go.Proofs.YtpdfkgmgmndcfaaDoor
