/-
  Several texts in one: Av, ArrEq.
-/
import Derived.Test.YtpdfkgmgmndcfaaGreatDoorM20a
import Derived.WalkKit
import Derived.ChangeKeysEq
/-
  Arrays as lists of numbers.
-/
namespace Go.Proofs.YtpdfkgmgmndcfaaGreatDoor
open Go.RowKit

theorem w64 (n : Int) (h : -9223372036854775808 ≤ n ∧ n ≤ 9223372036854775807) : wrap64 n = n := by unfold wrap64; omega

/-! ## Arrays as lists -/

abbrev arrV (q : IntKind) (l : List Int) : Array Value := (l.map (Value.int q)).toArray
theorem arr_get {q : IntKind} {l : List Int} {k : Nat} (h : k < l.length) : (arrV q l)[k]? = some (.int q (l.getD k 0)) := by
  simp [arrV, List.getElem?_map, List.getElem?_eq_getElem h]
theorem arr_set {q : IntKind} {l : List Int} {k : Nat} (x : Int) : (arrV q l).setIfInBounds k (.int q x) = arrV q (l.set k x) := by
  simp [arrV, List.map_set]
theorem arr_push {q : IntKind} {W : List Int} {n : Nat} (x : Int) (h : W.length < n) : (arrV q (W ++ List.replicate (n - W.length) 0)).setIfInBounds W.length (.int q x) = arrV q (W ++ [x] ++ List.replicate (n - (W.length + 1)) 0) := by
  rw [arr_set]
  congr 1
  obtain ⟨m, hm⟩ : ∃ m, n - W.length = m + 1 := ⟨n - W.length - 1, by omega⟩
  rw [hm, show n - (W.length + 1) = m by omega, List.replicate_succ]
  simp
theorem arr_size {q : IntKind} {l : List Int} : (arrV q l).size = l.length := by simp [arrV]
theorem z64 : arrV .u32 (List.replicate 64 0) = #[.int .u32 0, .int .u32 0, .int .u32 0, .int .u32 0, .int .u32 0, .int .u32 0, .int .u32 0, .int .u32 0, .int .u32 0, .int .u32 0, .int .u32 0, .int .u32 0, .int .u32 0, .int .u32 0, .int .u32 0, .int .u32 0, .int .u32 0, .int .u32 0, .int .u32 0, .int .u32 0, .int .u32 0, .int .u32 0, .int .u32 0, .int .u32 0, .int .u32 0, .int .u32 0, .int .u32 0, .int .u32 0, .int .u32 0, .int .u32 0, .int .u32 0, .int .u32 0, .int .u32 0, .int .u32 0, .int .u32 0, .int .u32 0, .int .u32 0, .int .u32 0, .int .u32 0, .int .u32 0, .int .u32 0, .int .u32 0, .int .u32 0, .int .u32 0, .int .u32 0, .int .u32 0, .int .u32 0, .int .u32 0, .int .u32 0, .int .u32 0, .int .u32 0, .int .u32 0, .int .u32 0, .int .u32 0, .int .u32 0, .int .u32 0, .int .u32 0, .int .u32 0, .int .u32 0, .int .u32 0, .int .u32 0, .int .u32 0, .int .u32 0, .int .u32 0] := by kernel_rfl
theorem z64b : arrV .u8 (List.replicate 64 0) = #[.int .u8 0, .int .u8 0, .int .u8 0, .int .u8 0, .int .u8 0, .int .u8 0, .int .u8 0, .int .u8 0, .int .u8 0, .int .u8 0, .int .u8 0, .int .u8 0, .int .u8 0, .int .u8 0, .int .u8 0, .int .u8 0, .int .u8 0, .int .u8 0, .int .u8 0, .int .u8 0, .int .u8 0, .int .u8 0, .int .u8 0, .int .u8 0, .int .u8 0, .int .u8 0, .int .u8 0, .int .u8 0, .int .u8 0, .int .u8 0, .int .u8 0, .int .u8 0, .int .u8 0, .int .u8 0, .int .u8 0, .int .u8 0, .int .u8 0, .int .u8 0, .int .u8 0, .int .u8 0, .int .u8 0, .int .u8 0, .int .u8 0, .int .u8 0, .int .u8 0, .int .u8 0, .int .u8 0, .int .u8 0, .int .u8 0, .int .u8 0, .int .u8 0, .int .u8 0, .int .u8 0, .int .u8 0, .int .u8 0, .int .u8 0, .int .u8 0, .int .u8 0, .int .u8 0, .int .u8 0, .int .u8 0, .int .u8 0, .int .u8 0, .int .u8 0] := by kernel_rfl
theorem z32b : arrV .u8 (List.replicate 32 0) = #[.int .u8 0, .int .u8 0, .int .u8 0, .int .u8 0, .int .u8 0, .int .u8 0, .int .u8 0, .int .u8 0, .int .u8 0, .int .u8 0, .int .u8 0, .int .u8 0, .int .u8 0, .int .u8 0, .int .u8 0, .int .u8 0, .int .u8 0, .int .u8 0, .int .u8 0, .int .u8 0, .int .u8 0, .int .u8 0, .int .u8 0, .int .u8 0, .int .u8 0, .int .u8 0, .int .u8 0, .int .u8 0, .int .u8 0, .int .u8 0, .int .u8 0, .int .u8 0] := by kernel_rfl

theorem grown_far {w w1 : World} {row : Option Nat} (h : w.grownBy w1 row) {p : Addr} (hp : w.heap.size ≤ p.block ∨ row = some p.block) (u : Value) : w.grownBy (w1.setCell p u) row :=
  ⟨h.os, h.tape, h.output, by simpa using h.size, fun k hk hne => (Below.heap_setCell w1 p u k (fun e => hp.elim (fun hp => by omega) (fun hp => hne (by rw [e]; exact hp.symm)))).trans (h.block k hk hne)⟩

theorem Blk.row {w : World} {g : Nat} {t : TypeId} {old : Array Value} (h : Blk w g t old) (cs : Array Value) : Blk (w.setRow g cs) g t cs := setRow_heap w g old cs t (0, 0) h
theorem Blk.farRow {w : World} {g g' : Nat} {t : TypeId} {cs : Array Value} (h : Blk w g t cs) (hne : g ≠ g') (cs' : Array Value) : Blk (w.setRow g' cs') g t cs := (setRow_other w g' g cs' hne).trans h
theorem grown_row {w w1 : World} {row : Option Nat} (h : w.grownBy w1 row) {g : Nat} (hp : w.heap.size ≤ g ∨ row = some g) (cs : Array Value) : w.grownBy (w1.setRow g cs) row :=
  ⟨(setRow_os w1 g cs).trans h.os, (setRow_tape w1 g cs).trans h.tape, (setRow_output w1 g cs).trans h.output, by rw [setRow_size]; exact h.size, fun k hk hne => (setRow_other w1 g k cs (fun e => hp.elim (fun hp => by omega) (fun hp => hne (by rw [e]; exact hp.symm)))).trans (h.block k hk hne)⟩
theorem results_cell {fn : Func} {s : Tmp} {t : TypeId} (h : fn.results = #[.cell s t]) (tmps : Array Value) (P : Program) (w : World) (p : Addr) (v : Value)
    (hp : tmps.getD s undef = .pointer (some p)) (hl : (loadVar t p).run P w = .ok v w) : (results fn tmps).run P w = .ok v w := by
  have hq : tmps[s]?.getD undef = .pointer (some p) := by simpa using hp
  simp [results, h, hq, asAddr, hl]

section
variable {P : Program}
theorem run_index_agg {w : World} {t e : TypeId} {n : Nat} {i : Int} {cs : Array Value} {v : Value} (h : P.underlying t = some (.array n e)) (he : P.plainKey e = true) (hs : (P.info? e).map (·.size) = some 1) (hb : 0 ≤ i ∧ i < (n : Int)) (hv : cs[i.toNat]? = some v) :
    Sem.run P (Instr.index t (.agg cs) (.int .i64 i)) w = .ok v w := by
  have hp := run_part_plain (w := w) he hv
  cases hq : P.info? e with
  | none => simp [hq] at hs
  | some ei =>
    have hi : ei.size = 1 := by simpa [hq] using hs
    simp [Instr.index, run_underlying h, asIntOf, hb, sizeOf, typeInfo, hq, hi, hp]
end
theorem grown_fresh {a b c : World} {row : Option Nat} {ge : Nat} (h : a.grownBy b row) (k : b.grownBy c (some ge)) (hge : a.heap.size ≤ ge) : a.grownBy c row :=
  ⟨k.os.trans h.os, k.tape.trans h.tape, k.output.trans h.output, Nat.le_trans h.size k.size, fun i hi hne => (k.block i (Nat.lt_of_lt_of_le hi h.size) (by intro e; have := Option.some.inj e; omega)).trans (h.block i hi hne)⟩
end Go.Proofs.YtpdfkgmgmndcfaaGreatDoor
/-
  Two arrays of numbers, compared.
-/
namespace Go.Proofs.YtpdfkgmgmndcfaaGreatDoor
open Go.RowKit

section
variable {P : Program}
theorem eqItems_ints (w : World) (d : Nat) {e : TypeId} {q : IntKind} (he : P.plainKey e = true) (hu : P.underlying e = some (.int q)) (l1 l2 : List Int) : ∀ (is : List Nat), (∀ i ∈ is, i < l1.length ∧ i < l2.length) →
    Sem.run P (Op.eqItems (d + 1) e 1 (arrV q l1) (arrV q l2) is) w = .ok (is.all fun i => l1.getD i 0 == l2.getD i 0) w
  | [], _ => by simp [Op.eqItems]
  | i :: is, h => by
    obtain ⟨h1, h2⟩ := h i (by simp)
    have p1 := run_part_plain (w := w) he (arr_get (q := q) h1)
    have p2 := run_part_plain (w := w) he (arr_get (q := q) h2)
    have p3 := run_equalIn_int w d e q q (l1.getD i 0) (l2.getD i 0) hu
    have ih := eqItems_ints w d he hu l1 l2 is (fun j hj => h j (by simp [hj]))
    simp only [Op.eqItems, Sem.run_bind, Nat.mul_one, p1, p2, p3, Result.andThen_ok]
    cases hb : (l1.getD i 0 == l2.getD i 0) <;> simp_all
theorem eq_arr (w : World) (d : Nat) {t e : TypeId} {n : Nat} {q : IntKind} (ht : P.underlying t = some (.array n e)) (he : P.plainKey e = true) (hu : P.underlying e = some (.int q)) (hce : P.cellsOf e = 1) (hi : (P.info? e).isSome = true) (l1 l2 : List Int) (h1 : l1.length = n) (h2 : l2.length = n) :
    Sem.run P (Op.equalIn (d + 2) t (.agg (arrV q l1)) (.agg (arrV q l2))) w = .ok (decide (l1 = l2)) w := by
  obtain ⟨i, hi⟩ := Option.isSome_iff_exists.1 hi
  rw [run_equalIn_array w (d + 1) _ _ ht hi, hce, eqItems_ints w d he hu l1 l2 _ (fun j hj => by rw [h1, h2]; simpa using hj)]
  congr 1
  rw [Bool.eq_iff_iff, List.all_eq_true, decide_eq_true_iff]
  constructor
  · intro h
    apply List.ext_getElem (by rw [h1, h2])
    intro j hj1 hj2
    have := h j (by rw [List.mem_range]; omega)
    simpa [List.getD, List.getElem?_eq_getElem hj1, List.getElem?_eq_getElem hj2] using this
  · rintro rfl j _
    simp
end
end Go.Proofs.YtpdfkgmgmndcfaaGreatDoor
