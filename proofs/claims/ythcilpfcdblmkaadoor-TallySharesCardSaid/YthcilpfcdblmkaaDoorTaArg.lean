/-
  Several texts in one: ArgE, TaW, TaWf.
-/
import Derived.Test.YthcilpfcdblmkaaDoorArg0
import Derived.Test.YthcilpfcdblmkaaDoorTaP
import Derived.Test.YthcilpfcdblmkaaDoorArgI
/-
  A slice's elements opened one by one.
-/

namespace Go.Proofs.YthcilpfcdblmkaaDoor
open Go.ChangeShapes Go.WideShapes Go.ChangeAt Go.RowKit

/-- The bytes' lists ps lie at A, each as a slice. -/
def ListsAt (w : World) (A : Option Addr) (ps : List (List UInt8)) : Prop := ps ≠ [] → ∃ ad, A = some ad ∧ ∀ j (_ : j < ps.length), ∃ B c, w.cell? (ad.add j) = some (.slice B ps[j].length c) ∧ ps[j].length ≤ c ∧ BytesAt w B ps[j]
section
variable {H : Type} {enc : TypeId × Value → H} {w : World} {base : Nat} {spare : Nat → Bool} {held : Bool} {fuel : Nat} {cs : List Value} {x : DataW H × List MemPlace}
/-- A slice whose elements' cells have been opened one by one: k cells an element. -/
theorem open_elems {α : Type} {t e : TypeId} {k : Nat} (ht : Tryd.prog.underlying t = some (.slice e)) (hc : Tryd.prog.cellsOf e = k) (R : α → List Value → Prop) (dflt : α)
    (hR : ∀ {fuel : Nat} {cs : List Value} {y : DataW H × List MemPlace}, DataW.trod enc Tryd.prog w base spare held fuel e cs = some y → ∃ z, R z cs)
    (h : DataW.trod enc Tryd.prog w base spare held fuel t cs = some x) :
    ∃ A n c, ∃ xs : List α, cs = [.slice A n c] ∧ xs.length = n ∧ n ≤ c ∧ (xs ≠ [] → ∃ ad, A = some ad ∧ ∀ i (_ : i < xs.length), ∃ es, R xs[i] es ∧ es.length = k ∧ ∀ j, j < k → w.cell? (ad.add (i * k + j)) = es[j]?) := by
  rcases DataW.trod_slice ht h with ⟨hcs, _⟩ | ⟨a, len, cap, elems, rest, n, _, hcs, _, _, hl, _, hlen, hel, _⟩
  · exact ⟨none, 0, 0, [], hcs, rfl, Nat.le_refl _, fun h => absurd rfl h⟩
  · rw [hc] at hel
    have each : ∀ i, i < len → ∃ z es, R z es ∧ es.length = k ∧ ∀ j, j < k → w.cell? (a.add (i * k + j)) = es[j]? := by
      intro i hi
      have hE := hel i hi
      have hi' : i < elems.length := by omega
      rw [List.getElem?_eq_getElem hi'] at hE
      simp only [Option.bind_eq_some_iff] at hE
      obtain ⟨cs', hc', ht⟩ := hE
      obtain ⟨z, hz⟩ := hR ht
      obtain ⟨h1, _, hat⟩ := World.cells?_some hc'
      refine ⟨z, cs', hz, by omega, fun j hj => ?_⟩
      rw [← Go.Deep.add_add]
      exact hat j hj
    let ops : List α := (List.range len).map fun i => if h : i < len then (each i h).choose else dflt
    have hops : ops.length = len := by simp [ops]
    refine ⟨some a, len, cap, ops, hcs, hops, hl, fun _ => ⟨a, rfl, fun i hi => ?_⟩⟩
    have hi' : i < len := by omega
    have e : ops[i] = (each i hi').choose := by simp [ops, hi']
    rw [e]
    exact (each i hi').choose_spec
end
end Go.Proofs.YthcilpfcdblmkaaDoor
/-
  Tally: a row of words as an argument.
-/
namespace Go.Proofs.YthcilpfcdblmkaaDoor
open Go.ChangeShapes Go.WideShapes Go.ChangeAt Go.RowKit

def Wm.cells (z : Wm) : List Value := [.int .i64 z.key, .int .i64 z.who, .int .i64 z.thing]
/-- The words ms lie at A. -/
def WmsAt (w : World) (A : Option Addr) (ms : List Wm) : Prop := ms ≠ [] → ∃ b off, A = some ⟨b, off, none⟩ ∧ ∀ k (h : k < ms.length) j v, (ms[k].cells)[j]? = some v → w.cell? ⟨b, off + k * 3 + j, none⟩ = some v
theorem WmsAt.kept {w w' : World} {F : Nat → Prop} {A : Option Addr} {ms : List Wm} (h : WmsAt w A ms) (hk : Kept F w w') (hF : ∀ k, k < w.heap.size → ¬ F k) : WmsAt w' A ms := fun hne => by
  obtain ⟨b, off, e, hc⟩ := h hne
  exact ⟨b, off, e, fun k hl j v hj => hk.cell (hc k hl j v hj) (hF b (World.block_lt_of_cell? w _ (hc k hl j v hj)))⟩
section
variable {H : Type} {enc : TypeId × Value → H} {w : World} {base : Nat} {spare : Nat → Bool} {held : Bool} {fuel : Nat} {cs : List Value} {x : DataW H × List MemPlace}
theorem cellsWm : Tryd.prog.cellsOf 36 = 3 := by kernel_rfl
theorem cellsInt : Tryd.prog.cellsOf 3 = 1 := by kernel_rfl
set_option maxRecDepth 100000 in
theorem open_Wm {cs : List Value} (h : DataW.trod enc Tryd.prog w base spare held fuel 36 cs = some x) : ∃ z : Wm, cs = z.cells := by
  obtain ⟨xs, n, _, hx, hlen, hxl, hf⟩ := DataW.trod_struct Tryd.underlying36 h
  rw [cellsWm] at hlen
  match cs, hlen with
  | [v0, v1, v2], _ =>
    match xs, hxl with
    | [y0, y1, y2], _ =>
      have f0 : DataW.trod enc Tryd.prog w base spare held n 3 ((([v0, v1, v2] : List Value).drop 0).take (Tryd.prog.cellsOf 3)) = some y0 := hf 0 _ rfl
      rw [cellsInt] at f0
      obtain ⟨z0, e0, _, _⟩ := DataW.trod_int Tryd.underlying3 (show DataW.trod enc Tryd.prog w base spare held n 3 [v0] = some y0 from f0)
      injection e0 with e0 _
      have f1 : DataW.trod enc Tryd.prog w base spare held n 3 ((([v0, v1, v2] : List Value).drop 1).take (Tryd.prog.cellsOf 3)) = some y1 := hf 1 _ rfl
      rw [cellsInt] at f1
      obtain ⟨z1, e1, _, _⟩ := DataW.trod_int Tryd.underlying3 (show DataW.trod enc Tryd.prog w base spare held n 3 [v1] = some y1 from f1)
      injection e1 with e1 _
      have f2 : DataW.trod enc Tryd.prog w base spare held n 3 ((([v0, v1, v2] : List Value).drop 2).take (Tryd.prog.cellsOf 3)) = some y2 := hf 2 _ rfl
      rw [cellsInt] at f2
      obtain ⟨z2, e2, _, _⟩ := DataW.trod_int Tryd.underlying3 (show DataW.trod enc Tryd.prog w base spare held n 3 [v2] = some y2 from f2)
      injection e2 with e2 _
      exact ⟨⟨z0, z1, z2⟩, by rw [Wm.cells, e0, e1, e2]⟩
theorem open_wms (h : DataW.trod enc Tryd.prog w base spare held fuel 23 cs = some x) :
    ∃ A n c, ∃ zs : List Wm, cs = [.slice A n c] ∧ zs.length = n ∧ n ≤ c ∧ WmsAt w A zs := by
  obtain ⟨A, n, c, zs, hcs, hn, hc, hat⟩ := open_elems Tryd.underlying23 cellsWm (fun (z : Wm) es => es = z.cells) ⟨0, 0, 0⟩ (fun h => open_Wm h) h
  refine ⟨A, n, c, zs, hcs, hn, hc, fun hne => ?_⟩
  obtain ⟨ad, eA, hat2⟩ := hat hne
  obtain ⟨b, off, rfl⟩ : ∃ b off, ad = ⟨b, off, none⟩ := by
    obtain ⟨es, rfl, _, hcell⟩ := hat2 0 (List.length_pos_iff.2 hne)
    have := hcell 0 (by omega)
    rw [Nat.zero_mul, Nat.zero_add] at this
    exact addr_form this rfl
  refine ⟨b, off, eA, fun k hk j v hj => ?_⟩
  obtain ⟨es, rfl, h3, hcell⟩ := hat2 k hk
  have hj4 : j < 3 := by rw [← h3]; exact (List.getElem?_eq_some_iff.1 hj).1
  have := hcell j hj4
  rw [Go.WideShapes.add_plain, ← Nat.add_assoc, hj] at this
  exact this
set_option maxRecDepth 100000 in
theorem arg_wms {v : Value} {d : DataW H} {p : List MemPlace} {b0 : Nat} (hv : Value.okWide Tryd.prog w .any b0 23 v) (h : DataW.Trod enc Tryd.prog w base spare held 23 v d p) :
    ∃ A n c, ∃ zs : List Wm, v = .slice A n c ∧ zs.length = n ∧ n ≤ c ∧ WmsAt w A zs := by
  obtain ⟨a0, len, cap, rfl⟩ := okWide_slice Tryd.underlying23 hv
  obtain ⟨fuel, hf⟩ := h
  obtain ⟨A, n, c, xs, hcs, hn, hc, hb⟩ := open_wms hf
  have e : Value.slice a0 len cap = .slice A n c := (List.cons.inj (show [Value.slice a0 len cap] = [Value.slice A n c] from hcs)).1
  exact ⟨A, n, c, xs, e, hn, hc, hb⟩
end

/-! ### words put one behind the other -/
def stepW (W : List (Wd Int)) (m : Wm) : List (Wd Int) := if h : 0 ≤ m.who ∧ m.who.toNat < W.length then if W[m.who.toNat].said then W else W.set m.who.toNat ⟨true, m.key, m.thing⟩ else W
def putsW (W : List (Wd Int)) (ms : List Wm) : List (Wd Int) := ms.foldl stepW W
theorem stepW_length (W : List (Wd Int)) (m : Wm) : (stepW W m).length = W.length := by
  unfold stepW
  repeat' split
  all_goals simp
theorem putsW_length (ms : List Wm) : ∀ W : List (Wd Int), (putsW W ms).length = W.length := by
  induction ms with
  | nil => intro W; rfl
  | cons m ms ih => intro W; rw [putsW, List.foldl_cons, ← putsW, ih, stepW_length]
theorem putsW_take {W : List (Wd Int)} {ms : List Wm} {k : Nat} (h : k < ms.length) : putsW W (ms.take (k + 1)) = stepW (putsW W (ms.take k)) ms[k] := by
  rw [putsW, putsW, ← List.take_append_getElem h, List.foldl_append]; rfl
def findW (ms : List Wm) (i : Nat) : Option Wm := ms.find? fun m => decide (m.who = (i : Int))
theorem stepW_get (W : List (Wd Int)) (m : Wm) (i : Nat) (x : Wd Int) (hx : W[i]? = some x) : (stepW W m)[i]? = some (if x.said = false ∧ m.who = (i : Int) then ⟨true, m.key, m.thing⟩ else x) := by
  have hi := (List.getElem?_eq_some_iff.1 hx).1
  have hxe := (List.getElem?_eq_some_iff.1 hx).2
  by_cases hm : m.who = (i : Int)
  · have e : m.who.toNat = i := by omega
    have hc : 0 ≤ m.who ∧ m.who.toNat < W.length := by omega
    unfold stepW
    rw [dif_pos hc]
    have e2 : W[m.who.toNat] = x := by simp only [e]; exact hxe
    rw [e2]
    cases hs : x.said
    · rw [if_neg (by simp), e, if_pos ⟨rfl, hm⟩, List.getElem?_set_self hi]
    · rw [if_pos rfl, if_neg (by simp), hx]
  · rw [if_neg (fun h => hm h.2)]
    unfold stepW
    split
    · rename_i hc
      split
      · exact hx
      · rw [List.getElem?_set_ne (by omega)]; exact hx
    · exact hx
theorem putsW_get (i : Nat) : ∀ (ms : List Wm) (W : List (Wd Int)) (x : Wd Int), W[i]? = some x → (putsW W ms)[i]? = some (if x.said then x else match findW ms i with | some m => ⟨true, m.key, m.thing⟩ | none => x)
  | [], W, x, hx => by
    rw [putsW, List.foldl_nil, hx]
    cases x.said <;> rfl
  | m :: ms, W, x, hx => by
    rw [putsW, List.foldl_cons, ← putsW]
    have h1 := stepW_get W m i x hx
    rw [putsW_get i ms _ _ h1]
    unfold findW
    by_cases hm : m.who = (i : Int)
    · cases hs : x.said
      · simp [hs, hm]
      · simp [hs]
    · cases hs : x.said <;> simp [hs, hm]
theorem findW_reverse {ms : List Wm} (hn : (ms.map (·.who)).Nodup) (i : Nat) : findW ms.reverse i = findW ms i := by
  induction ms with
  | nil => rfl
  | cons m ms ih =>
    rw [List.map_cons, List.nodup_cons] at hn
    have ih := ih hn.2
    unfold findW at *
    rw [List.reverse_cons, List.find?_append, List.find?_cons]
    by_cases hm : m.who = (i : Int)
    · have : List.find? (fun m => decide (m.who = (i : Int))) ms.reverse = none := by
        rw [List.find?_eq_none]
        intro y hy
        have : y.who ∈ ms.map (·.who) := List.mem_map_of_mem (List.mem_reverse.1 hy)
        simp only [decide_eq_true_eq]
        intro e
        exact hn.1 (by rw [hm, ← e]; exact this)
      rw [this]; simp [hm]
    · rw [ih]; simp [hm]
/-- The words of unlike validators may come in any order. -/
theorem putsW_reverse {W : List (Wd Int)} {ms : List Wm} (hn : (ms.map (·.who)).Nodup) : putsW W ms.reverse = putsW W ms := by
  refine List.ext_getElem? fun i => ?_
  by_cases hi : i < W.length
  · rw [putsW_get i _ W W[i] (List.getElem?_eq_getElem hi), putsW_get i _ W W[i] (List.getElem?_eq_getElem hi), findW_reverse hn]
  · rw [List.getElem?_eq_none (by rw [putsW_length]; omega), List.getElem?_eq_none (by rw [putsW_length]; omega)]
end Go.Proofs.YthcilpfcdblmkaaDoor
/-
  Tally: a row of words as an argument, whose things fit.
-/

namespace Go.Proofs.YthcilpfcdblmkaaDoor
open Go.ChangeShapes Go.WideShapes Go.ChangeAt Go.RowKit

section
variable {H : Type} {enc : TypeId × Value → H} {w : World} {base : Nat} {spare : Nat → Bool} {held : Bool} {fuel : Nat} {cs : List Value} {x : DataW H × List MemPlace}
set_option maxRecDepth 100000 in
theorem open_WmF {cs : List Value} (h : DataW.trod enc Tryd.prog w base spare held fuel 36 cs = some x) : ∃ z : Wm, cs = z.cells ∧ (Lit.int .i64 z.thing).wf = true := by
  obtain ⟨xs, n, _, hx, hlen, hxl, hf⟩ := DataW.trod_struct Tryd.underlying36 h
  rw [cellsWm] at hlen
  match cs, hlen with
  | [v0, v1, v2], _ =>
    match xs, hxl with
    | [y0, y1, y2], _ =>
      have f0 : DataW.trod enc Tryd.prog w base spare held n 3 ((([v0, v1, v2] : List Value).drop 0).take (Tryd.prog.cellsOf 3)) = some y0 := hf 0 _ rfl
      rw [cellsInt] at f0
      obtain ⟨z0, e0, _, _⟩ := DataW.trod_int Tryd.underlying3 (show DataW.trod enc Tryd.prog w base spare held n 3 [v0] = some y0 from f0)
      injection e0 with e0 _
      have f1 : DataW.trod enc Tryd.prog w base spare held n 3 ((([v0, v1, v2] : List Value).drop 1).take (Tryd.prog.cellsOf 3)) = some y1 := hf 1 _ rfl
      rw [cellsInt] at f1
      obtain ⟨z1, e1, _, _⟩ := DataW.trod_int Tryd.underlying3 (show DataW.trod enc Tryd.prog w base spare held n 3 [v1] = some y1 from f1)
      injection e1 with e1 _
      have f2 : DataW.trod enc Tryd.prog w base spare held n 3 ((([v0, v1, v2] : List Value).drop 2).take (Tryd.prog.cellsOf 3)) = some y2 := hf 2 _ rfl
      rw [cellsInt] at f2
      obtain ⟨z2, e2, _, wf2⟩ := DataW.trod_int Tryd.underlying3 (show DataW.trod enc Tryd.prog w base spare held n 3 [v2] = some y2 from f2)
      injection e2 with e2 _
      exact ⟨⟨z0, z1, z2⟩, by rw [Wm.cells, e0, e1, e2], wf2⟩
theorem open_wmsF (h : DataW.trod enc Tryd.prog w base spare held fuel 23 cs = some x) :
    ∃ A n c, ∃ zs : List Wm, cs = [.slice A n c] ∧ zs.length = n ∧ n ≤ c ∧ WmsAt w A zs ∧ ∀ z ∈ zs, (Lit.int .i64 z.thing).wf = true := by
  obtain ⟨A, n, c, zs, hcs, hn, hc, hat⟩ := open_elems Tryd.underlying23 cellsWm (fun (z : Wm) es => es = z.cells ∧ (Lit.int .i64 z.thing).wf = true) ⟨0, 0, 0⟩ (fun h => open_WmF h) h
  refine ⟨A, n, c, zs, hcs, hn, hc, fun hne => ?_, fun z hz => ?_⟩
  case refine_2 =>
    obtain ⟨ad, eA, hat2⟩ := hat (List.ne_nil_of_mem hz)
    obtain ⟨k, hk, rfl⟩ := List.getElem_of_mem hz
    obtain ⟨es, ⟨_, h2⟩, _⟩ := hat2 k hk
    exact h2
  obtain ⟨ad, eA, hat2⟩ := hat hne
  obtain ⟨b, off, rfl⟩ : ∃ b off, ad = ⟨b, off, none⟩ := by
    obtain ⟨es, ⟨rfl, _⟩, _, hcell⟩ := hat2 0 (List.length_pos_iff.2 hne)
    have := hcell 0 (by omega)
    rw [Nat.zero_mul, Nat.zero_add] at this
    exact addr_form this rfl
  refine ⟨b, off, eA, fun k hk j v hj => ?_⟩
  obtain ⟨es, ⟨rfl, _⟩, h3, hcell⟩ := hat2 k hk
  have hj4 : j < 3 := by rw [← h3]; exact (List.getElem?_eq_some_iff.1 hj).1
  have := hcell j hj4
  rw [Go.WideShapes.add_plain, ← Nat.add_assoc, hj] at this
  exact this
set_option maxRecDepth 100000 in
theorem arg_wmsF {v : Value} {d : DataW H} {p : List MemPlace} {b0 : Nat} (hv : Value.okWide Tryd.prog w .any b0 23 v) (h : DataW.Trod enc Tryd.prog w base spare held 23 v d p) :
    ∃ A n c, ∃ zs : List Wm, v = .slice A n c ∧ zs.length = n ∧ n ≤ c ∧ WmsAt w A zs ∧ ∀ z ∈ zs, (Lit.int .i64 z.thing).wf = true := by
  obtain ⟨a0, len, cap, rfl⟩ := okWide_slice Tryd.underlying23 hv
  obtain ⟨fuel, hf⟩ := h
  obtain ⟨A, n, c, xs, hcs, hn, hc, hb⟩ := open_wmsF hf
  have e : Value.slice a0 len cap = .slice A n c := (List.cons.inj (show [Value.slice a0 len cap] = [Value.slice A n c] from hcs)).1
  exact ⟨A, n, c, xs, e, hn, hc, hb⟩
end
end Go.Proofs.YthcilpfcdblmkaaDoor
