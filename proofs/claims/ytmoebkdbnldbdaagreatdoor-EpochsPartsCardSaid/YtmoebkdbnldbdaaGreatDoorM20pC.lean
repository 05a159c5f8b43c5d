/-
  Several texts in one: TrG, TrL, TrR, ArgE.
-/
import Derived.Test.YtmoebkdbnldbdaaGreatDoorM20pB
import Derived.Laws.MakeOwn
import Derived.Test.YtmoebkdbnldbdaaGreatDoorM20pr
import Derived.Test.YtmoebkdbnldbdaaGreatDoorM20ph
/-
  trees.above: the level above digests.
-/
namespace Go.Proofs.YtmoebkdbnldbdaaGreatDoor
open Go.RowKit

/-- The level above. -/
def aboveC (ps : List (List Int)) : List (List Int) := upto (pairC ps) (ps.length / 2)
theorem aboveC_length (ps : List (List Int)) : (aboveC ps).length = ps.length / 2 := upto_length _ _
theorem upto_get {f : Nat → List Int} {n k : Nat} (h : k < n) : (upto f n).getD k zeroC = f k := by
  simp [upto, List.getD, List.getElem?_map, List.getElem?_range h]
theorem aboveC_lev {ps : List (List Int)} {h n m : Nat} (hn : n = 2 * m) : aboveC (levC ps h n) = levC ps (h + 1) m := by
  rw [aboveC, levC_length, hn, show 2 * m / 2 = m by omega]
  show (List.range m).map _ = (List.range m).map _
  refine List.map_congr_left fun k hk => ?_
  have := List.mem_range.1 hk
  exact pairC_lev (by omega)
theorem made_row (m : Nat) (hm : m ≤ 1000) : ∃ M : Array Value, M.size = m * 16 ∧ ∀ V : World, Sem.run Tryz.prog (Instr.makeSlice 132 (.int .i64 (m : Int)) (.int .i64 (m : Int))) V = .ok (.slice (some ⟨V.heap.size, 0, none⟩) m m) (V.alloc (.cells M 24)) := by
  cases hq : Tryz.prog.info? 24 with
  | none => exact absurd info16 (by rw [hq]; simp)
  | some i =>
    have hs : i.size = 16 := by have := info16; simpa [hq] using this
    have hz : ∃ z, i.zero = some z := by
      have : (Tryz.prog.info? 24).bind (·.zero) = some (.agg (arrV .u8 (List.replicate 16 0))) := by kernel_rfl
      exact ⟨_, by simpa [hq] using this⟩
    have hb : i.bytes = 16 := by
      have : (Tryz.prog.info? 24).map (·.bytes) = some 16 := by kernel_rfl
      simpa [hq] using this
    obtain ⟨z, hz⟩ := hz
    exact ⟨madeCells z.cells (m * 16), size_madeCells _ _, fun V => by
      have := run_make (P := Tryz.prog) V 132 24 i z Tryz.underlying132 hq hz .i64 .i64 m m (by omega) (by omega) (by rw [hb]; omega) (by omega)
      rw [hs, Int.toNat_natCast] at this
      exact this⟩
theorem wpList_make_run {P : Program} {ops : Array Oper} {rest : List Oper} {o : Oper} {a : Act} {w w' : World} {Q : Exit → Act → World → Prop} (hg : o.guard = none) (t : TypeId) (l c : Operand) (ho : o.op = .makeSlice t l c) (vl vc V : Value) (hl : a.eval l = vl) (hc : a.eval c = vc)
    (hr : Sem.run P (Instr.makeSlice t vl vc) w = .ok V w') (h : wpList P ops Q rest (a.put o.dst V) w') : wpList P ops Q (o :: rest) a w :=
  wpList_plain hg fun K hK => by
    unfold Oper.wp execOp
    simp only [ho, hl, hc, Sem.run_bind, hr, Result.andThen_ok]
    exact hK _ _ h

/-- So many digests lie one behind the other. -/
def RowsAt (W : World) (g k : Nat) (f : Nat → List Int) : Prop := ∀ j, j < k → W.rangeAt g (j * 16) (arrV .u8 (f j)).toList
theorem above_done {W : World} {g m N : Nat} {ps : List (List Int)} (hl : ps.length = N) (hN : N = 2 * m) (h : RowsAt W g m (pairC ps)) : DigsAt W g 0 (aboveC ps) := by
  have hm : ps.length / 2 = m := by omega
  intro j hj
  rw [aboveC_length, hm] at hj
  rw [aboveC, hm, upto_get hj, Nat.zero_add]
  exact h j hj
theorem ranges_to {wr w9 : World} {g k : Nat} {f : Nat → List Int} (h : RowsAt wr g k f) (hg : wr.grownBy w9 none) : RowsAt w9 g k f := fun j hj => range_to (h j hj) hg (by simp)
/-- One more digest is stored in a row of them. -/
theorem store_next {w9 : World} {g m k : Nat} {f : Nat → List Int} {js : Array Value} (hT9 : w9.there g 0 (m * 16)) (hr : RowsAt w9 g k f) (hf : ∀ j, (f j).length = 16) (hjs : js = arrV .u8 (f k)) (hk : k < m) (a : Nat) (ha : a = k * 16) :
    (w9.setCells g a js.toList).there g 0 (m * 16) ∧ RowsAt (w9.setCells g a js.toList) g (k + 1) f := by
  have l2 : js.toList.length = 16 := by rw [hjs, Array.length_toList, arr_size]; exact hf k
  refine ⟨World.there_setCells hT9 _ _ _, fun j hj => ?_⟩
  have l1 : (arrV .u8 (f j)).toList.length = 16 := by rw [Array.length_toList, arr_size]; exact hf j
  by_cases hjk : j = k
  · have e1 : (arrV .u8 (f j)).toList = js.toList := by rw [hjk, hjs]
    have e2 : j * 16 = a := by rw [hjk, ha]
    rw [e1, e2]
    exact World.rangeAt_setCells_same w9 g a js.toList (there_sub hT9 (by omega) (by rw [l2, ha]; omega))
  · exact World.rangeAt_setCells_apart (hr j (by omega)) _ _ _ (.inr (by rw [l1, l2]; omega))

end Go.Proofs.YtmoebkdbnldbdaaGreatDoor
/-
  trees.levels: the levels of a tree, as an iterator.
-/
namespace Go.Proofs.YtmoebkdbnldbdaaGreatDoor
open Go.RowKit Go.Shelf

attribute [local go_sem] Oper.semAt_some

/-- A level that comes: its height, how many digests, where they lie. -/
structure Lev where
  k : Nat
  n : Nat
  g : Nat
  o : Nat
  c : Nat
def levE (x : Lev) : Array Value := #[.int .i64 (x.k : Int), .slice (some ⟨x.g, x.o, none⟩) x.n x.c]
/-- What a round must keep: the table of the rounds, the level's block. -/
def KpL (x : Lev) (A B : World) : Prop := A.heap.size ≤ B.heap.size ∧ (Rounds A → Rounds B) ∧ ∀ o, A.heap[x.g]? = some o → o.isCells = true → B.heap[x.g]? = some o
/-- What is known of a level when it comes. -/
def PhiL (N b : Nat) (ps : List (List Int)) (pre : List Lev) (p : World → Prop) (x : Lev) (V : World) : Prop :=
  x.k = pre.length ∧ x.k ≤ 5 ∧ x.n = 32 / 2 ^ x.k ∧ DigsAt V x.g x.o (levC ps x.k x.n) ∧ (x.g = b ∨ (N ≤ x.g ∧ ∃ U, p U ∧ U.grownBy V none ∧ U.heap.size ≤ x.g))
theorem PhiL.mono {N b : Nat} {ps : List (List Int)} (pre : List Lev) (p q : World → Prop) (x : Lev) (V : World) (h : ∀ U, p U → q U) (k : PhiL N b ps pre p x V) : PhiL N b ps pre q x V :=
  ⟨k.1, k.2.1, k.2.2.1, k.2.2.2.1, k.2.2.2.2.imp id (fun ⟨h1, U, h2, h3⟩ => ⟨h1, U, h U h2, h3⟩)⟩
theorem KpL.trans {x : Lev} {A B C : World} (h : KpL x A B) (k : KpL x B C) : KpL x A C := ⟨Nat.le_trans h.1 k.1, fun r => k.2.1 (h.2.1 r), fun o ho hc => k.2.2 o (h.2.2 o ho hc) hc⟩
theorem KpL.grown {x : Lev} {A B : World} {row : Option Nat} (hg : A.grownBy B row) (hr : row ≠ some 18) (h1 : row ≠ some x.g) : KpL x A B :=
  ⟨hg.size, fun r => r.grown hg (fun e => hr e.symm), fun o ho _ => (hg.block x.g (Array.getElem?_eq_some_iff.1 ho).1 (fun e => h1 e.symm)).trans ho⟩
theorem KpL.put {x : Lev} {W : World} {l : Nat} {o o' : Obj} (hl : 18 < l) (ho : W.heap[l]? = some o) (hc : o.isCells = false) : KpL x W (W.putObj l o') :=
  ⟨(grownBy_putObj' W l o').size, fun r => r.grown (grownBy_putObj' W l o') (fun e => by have := Option.some.inj e; omega), fun q hq hqc => ((grownBy_putObj' W l o').block x.g (Array.getElem?_eq_some_iff.1 hq).1 (fun e => by
    have := Option.some.inj e
    subst this
    rw [ho] at hq
    cases hq
    rw [hc] at hqc
    cases hqc)).trans hq⟩
theorem digs_block {w : World} {b off : Nat} {ps : List (List Int)} (hps : ∀ p ∈ ps, isDig p) (h : DigsAt w b off ps) (h0 : 0 < ps.length) : b < w.heap.size ∧ ∃ o, w.heap[b]? = some o ∧ o.isCells = true := by
  have h1 := h 0 h0
  have hl0 := (getD_dig hps 0).1
  have := h1 0 (.int .u8 ((ps.getD 0 zeroC).getD 0 0)) (by rw [Array.getElem?_toList]; exact arr_get (by omega))
  exact ⟨World.block_lt_of_cell? w _ this, cells_of_cell this⟩
theorem DigsAt.same {w w' : World} {b off : Nat} {ps : List (List Int)} (h : DigsAt w b off ps) (hb : w'.heap[b]? = w.heap[b]?) : DigsAt w' b off ps := fun j hj i v hv => (World.cell?_of_block hb).trans (h j hj i v hv)
theorem DigsAt.kp {w w' : World} {x : Lev} {off : Nat} {ps : List (List Int)} (hps : ∀ p ∈ ps, isDig p) (h : DigsAt w x.g off ps) (h0 : 0 < ps.length) (k : KpL x w w') : DigsAt w' x.g off ps := by
  obtain ⟨_, o, ho, hc⟩ := digs_block hps h h0
  exact h.same ((k.2.2 o ho hc).trans ho.symm)
theorem digs_abide {B b off : Nat} {ps : List (List Int)} {β : Type} : OwnFrom B (fun (_ : β) W => DigsAt W b off ps) := fun _ _ _ _ hs hg hr j hj i v hv => cell_kept (hs j hj i v hv) hg (fun r e => (hr r e).2)

theorem lev_half {k : Nat} (h : k < 5) : 32 / 2 ^ k = 2 * (32 / 2 ^ (k + 1)) ∧ 0 < 32 / 2 ^ (k + 1) ∧ 32 / 2 ^ (k + 1) ≤ 1000 := by
  have : k = 0 ∨ k = 1 ∨ k = 2 ∨ k = 3 ∨ k = 4 := by omega
  rcases this with rfl | rfl | rfl | rfl | rfl <;> decide

end Go.Proofs.YtmoebkdbnldbdaaGreatDoor
/-
  trees.Root.
-/

namespace Go.Proofs.YtmoebkdbnldbdaaGreatDoor
open Go.RowKit Go.Shelf

attribute [local go_sem] Oper.semAt_some

theorem lev_pos {k : Nat} (h : k ≤ 5) : 0 < 32 / 2 ^ k := by
  have : k = 0 ∨ k = 1 ∨ k = 2 ∨ k = 3 ∨ k = 4 ∨ k = 5 := by omega
  rcases this with rfl | rfl | rfl | rfl | rfl | rfl <;> decide
/-- What the root's variable holds behind these levels. -/
def rootV (ps : List (List Int)) : Nat → Array Value
  | 0 => arrV .u8 (List.replicate 16 0)
  | k + 1 => arrV .u8 (nodeC ps k 0)

end Go.Proofs.YtmoebkdbnldbdaaGreatDoor
/-
  A slice's elements opened one by one.
-/

namespace Go.Proofs.YtmoebkdbnldbdaaGreatDoor
open Go.ChangeShapes Go.WideShapes Go.ChangeAt Go.RowKit

section
variable {H : Type} {enc : TypeId × Value → H} {w : World} {base : Nat} {spare : Nat → Bool} {held : Bool} {fuel : Nat} {cs : List Value} {x : DataW H × List MemPlace}
/-- A slice whose elements' cells have been opened one by one: k cells an element. -/
theorem open_elems {α : Type} {t e : TypeId} {k : Nat} (ht : Tryz.prog.underlying t = some (.slice e)) (hc : Tryz.prog.cellsOf e = k) (R : α → List Value → Prop) (dflt : α)
    (hR : ∀ {fuel : Nat} {cs : List Value} {y : DataW H × List MemPlace}, DataW.trod enc Tryz.prog w base spare held fuel e cs = some y → ∃ z, R z cs)
    (h : DataW.trod enc Tryz.prog w base spare held fuel t cs = some x) :
    ∃ A n c, ∃ xs : List α, cs = [.slice A n c] ∧ xs.length = n ∧ n ≤ c ∧ (xs ≠ [] → ∃ ad, A = some ad ∧ ∀ i (_ : i < xs.length), ∃ es, R xs[i] es ∧ es.length = k ∧ ∀ j, j < k → w.cell? (ad.add (i * k + j)) = es[j]?) := by
  rcases DataW.trod_slice ht h with ⟨hcs, _⟩ | ⟨a, len, cap, elems, rest, n, _, hcs, _, _, hl, _, hlen, hel, _⟩
  · exact ⟨none, 0, 0, [], hcs, rfl, Nat.le_refl _, fun h => absurd rfl h⟩
  · rw [hc] at hel
    have each : ∀ i, i < len → ∃ z es, R z es ∧ es.length = k ∧ ∀ j, j < k → w.cell? (a.add (i * k + j)) = es[j]? := by
      intro i hi
      have hE := hel i hi
      have hi' : i < elems.length := by omega
      rw [List.getElem?_eq_getElem hi'] at hE
      simp only [Option.bind_eq_some_iff] at hE
      obtain ⟨cs', hc', ht⟩ := hE
      obtain ⟨z, hz⟩ := hR ht
      obtain ⟨h1, _, hat⟩ := World.cells?_some hc'
      refine ⟨z, cs', hz, by omega, fun j hj => ?_⟩
      rw [← Go.Deep.add_add]
      exact hat j hj
    let ops : List α := (List.range len).map fun i => if h : i < len then (each i h).choose else dflt
    have hops : ops.length = len := by simp [ops]
    refine ⟨some a, len, cap, ops, hcs, hops, hl, fun _ => ⟨a, rfl, fun i hi => ?_⟩⟩
    have hi' : i < len := by omega
    have e : ops[i] = (each i hi').choose := by simp [ops, hi']
    rw [e]
    exact (each i hi').choose_spec
end
end Go.Proofs.YtmoebkdbnldbdaaGreatDoor
