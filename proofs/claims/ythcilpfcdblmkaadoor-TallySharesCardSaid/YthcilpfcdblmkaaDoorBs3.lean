/-
  A slice literal of one element of many cells.
-/
import Derived.Great.BuildSlice
import Derived.OwnWalk
import Derived.Maps.AppendAt
import Derived.Test.YthcilpfcdblmkaaDoorBase
namespace Go.Proofs.YthcilpfcdblmkaaDoor
open Go.RowKit

theorem fold_set : ∀ (vs : List Value) (cs : Array Value) (o : Nat), o + vs.length ≤ cs.size → ∀ j, ((vs.zipIdx 0).foldl (fun (cs : Array Value) (x : Value × Nat) => cs.setIfInBounds (o + x.2) x.1) cs)[j]? = if o ≤ j ∧ j < o + vs.length then vs[j - o]? else cs[j]? := by
  suffices h : ∀ (vs : List Value) (cs : Array Value) (o m : Nat), o + m + vs.length ≤ cs.size → ∀ j, ((vs.zipIdx m).foldl (fun (cs : Array Value) (x : Value × Nat) => cs.setIfInBounds (o + x.2) x.1) cs)[j]? = if o + m ≤ j ∧ j < o + m + vs.length then vs[j - (o + m)]? else cs[j]? from
    fun vs cs o h1 j => by simpa using h vs cs o 0 (by simpa using h1) j
  intro vs
  induction vs with
  | nil => intro cs o m _ j; simp; intro h1 h2; omega
  | cons v r ih =>
    intro cs o m hm j
    rw [List.length_cons] at hm
    rw [List.zipIdx_cons, List.foldl_cons, ih _ o (m + 1) (by rw [Array.size_setIfInBounds]; omega) j, List.length_cons]
    by_cases h1 : o + (m + 1) ≤ j ∧ j < o + (m + 1) + r.length
    · rw [if_pos h1, if_pos (by omega), show j - (o + m) = (j - (o + (m + 1))) + 1 by omega, List.getElem?_cons_succ]
    · rw [if_neg h1]
      by_cases h2 : j = o + m
      · subst h2
        rw [if_pos (by omega), Array.getElem?_setIfInBounds_self_of_lt (by omega), Nat.sub_self, List.getElem?_cons_zero]
      · rw [if_neg (by omega), Array.getElem?_setIfInBounds_ne (by omega)]
/-- One part that fills the whole. -/
theorem fill_one (es cs : Array Value) (h : es.size = cs.size) : Instr.fill (fun i => some (i * es.size, es.size)) cs [(0, .agg es)] = some es := by
  have hc : (Value.agg es).cells = es := rfl
  simp only [Instr.fill, hc, Nat.zero_mul]
  rw [if_neg (by simp [h])]
  congr 1
  apply Array.ext_getElem?
  intro j
  have := fold_set es.toList cs 0 (by simp [h]) j
  simp only [Nat.zero_add, Nat.sub_zero, Array.length_toList] at this
  rw [← Array.foldl_toList, Array.toList_zipIdx]
  simp only [Nat.zero_add]
  rw [this]
  by_cases hj : j < es.size
  · simp [hj]
  · rw [if_neg (by omega), Array.getElem?_eq_none (by omega), Array.getElem?_eq_none (by omega)]
theorem run_slice_one {P : Program} (w : World) (t e : TypeId) (es : Array Value) (hu : P.underlying t = some (.slice e)) (hs : (P.info? e).map (·.size) = some es.size) (hz : ((P.info? e).bind (·.zero)).map (·.cells.size) = some es.size) (h0 : 0 < es.size) (h1 : es.size ≤ 1000) :
    Sem.run P (Instr.buildSlice t 1 #[(0, .agg es)]) w = .ok (.slice (some ⟨w.heap.size, 0, none⟩) 1 1) (w.alloc (.cells es e)) := by
  cases hq : P.info? e with
  | none => simp [hq] at hs
  | some i =>
    have hi : i.size = es.size := by simpa [hq] using hs
    have : ∃ z, i.zero = some z ∧ z.cells.size = es.size := by simpa [hq] using hz
    obtain ⟨z, hzz, _⟩ := this
    refine run_buildSlice w t e 1 _ es i z hu hq hzz (by rw [hi]; omega) (by rw [hi]; omega) ?_
    rw [hi]
    exact fill_one es _ (by simp)

theorem wp_bslice_run {P : Program} {o : Oper} {a : Act} {w w' : World} {K : Act → World → Prop} {Q : Exit → Act → World → Prop} (t : TypeId) (len : Nat) (i : Nat) (x : Operand) (ho : o.op = .buildSlice t len #[(i, x)]) (u V : Value) (hx : a.eval x = u)
    (hr : Sem.run P (Instr.buildSlice t len #[(i, u)]) w = .ok V w') (h : K (a.put o.dst V) w') : o.wp P a w K Q := by
  have hm : (#[(i, x)] : Array (Nat × Operand)).map (fun (i, x) => (i, a.eval x)) = #[(i, u)] := by simp [hx]
  unfold Oper.wp execOp
  simp only [ho, Sem.run_bind, hm, hr, Result.andThen_ok]
  exact h
/-- append of one element of some cells: in any order. -/
theorem wp_push_elem {P : Program} (w : World) {o : Oper} {a : Act} {K : Act → World → Prop} {Q : Exit → Act → World → Prop}
    (s x : Operand) (t : TypeId) (ho : o.op = Op.call { callee := Callee.builtin Builtin.append, args := #[s, x], argTypes := #[t, t] })
    (base : Nat) (e : TypeId) (i : TypeInfo) (z : Value) (size bytes : Nat) (ht : P.underlying t = some (.slice e)) (hi : P.info? e = some i) (hz : i.zero = some z) (hsize : i.size = size) (hby : i.bytes = bytes) (hzs : z.cells.size = size) (hs0 : 0 < size)
    (v : Value) (n : Nat) (xs : List Value) (hs : a.eval s = v) (hown : w.ownsRow base e size v n xs) (ad : Addr) (c : Nat) (us : List Value) (hx : a.eval x = .slice (some ad) 1 c) (hl : us.length = 1 * size) (hcells : ∀ j u, us[j]? = some u → w.cell? (ad.add j) = some u) (hu : ∀ u ∈ us, u.oneCell' = true) (h63 : n + 1 ≤ 1000000000) (hb : bytes ≤ 100) (hbase : base ≤ w.heap.size)
    (h : ∀ A' cap' w', w'.ownsRow base e size (.slice A' (n + 1) cap') (n + 1) (xs ++ us) → w.grownBy w' v.ownBlock → ((Value.slice A' (n + 1) cap').ownBlock = v.ownBlock ∨ (Value.slice A' (n + 1) cap').ownBlock = some w.heap.size) → K (a.put o.dst (.slice A' (n + 1) cap')) w') : o.wp P a w K Q := by
  obtain ⟨v', w', hrun, h2, h3, _, h5⟩ := run_append_own_at (P := P) w base t o.type e i z size bytes ht hi hz hsize hby hzs hs0 v n xs hown ad 1 c us hl hcells hu (by unfold maxLen; omega)
    (Nat.le_trans (Nat.mul_le_mul h63 hb) (by omega)) hbase
  obtain ⟨A', cap', rfl⟩ := own_slice w' h2
  unfold Oper.wp execOp
  simp [ho, resolve, invoke, builtin, hs, hx, hrun, Result.andThen, Sem.run_bind, Sem.run_pure]
  exact h A' cap' w' h2 h3 h5
end Go.Proofs.YthcilpfcdblmkaaDoor
