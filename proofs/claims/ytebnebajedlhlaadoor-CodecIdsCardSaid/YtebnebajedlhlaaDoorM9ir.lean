/-
  Several texts in one: Di, Grow.
-/
import Derived.Deep.MidRow
import Derived.Test.YtebnebajedlhlaaDoorM9io
import Derived.Test.YtebnebajedlhlaaDoorM9ip
import Derived.RangeFuncBox
import Derived.Test.YtebnebajedlhlaaDoorM9iq
import Derived.Test.YtebnebajedlhlaaDoorM9ia
import Derived.BigQuiet
/-
  Digests: as lists, as cells, as rows in memory.
-/
namespace Go.Proofs.YtebnebajedlhlaaDoor
open Go.RowKit

/-- A new row of slices that hold these bytes. -/
theorem parts_new (w : World) (t : TypeId) (vs : Array Value) (ps : List (List Int)) (h : ∀ j, j < ps.length → ∃ B m c, vs[j]? = some (.slice B m c) ∧ (ps.getD j []).length = m ∧ m ≤ c ∧ BytesI (w.alloc (.cells vs t)) B (ps.getD j [])) :
    PartsI (w.alloc (.cells vs t)) (some ⟨w.heap.size, 0, none⟩) ps := fun j hj => by
  obtain ⟨B, m, c, h1, h2, h3, h4⟩ := h j hj
  exact ⟨_, B, m, c, rfl, by rw [add_none, Nat.zero_add, (Blk.new w t vs).cell]; exact h1, h2, h3, h4⟩
theorem bytes_blk {w : World} {g : Nat} {t : TypeId} {l : List Int} (h : Blk w g t (arrV .u8 l)) : BytesI w (some ⟨g, 0, none⟩) l := BytesI.blk h (fun j hj => by rw [Nat.zero_add]; exact ⟨hj, rfl⟩)
theorem info16 : (Tryd.prog.info? 23).map (·.size) = some 16 := by kernel_rfl
theorem z16run (w : World) : Sem.run Tryd.prog (zeroValue 23) w = .ok (.agg (arrV .u8 (List.replicate 16 0))) w := zrun w (by kernel_rfl)
theorem dig_slice (w : World) (b : Nat) : Sem.run Tryd.prog (Instr.sliceAt 23 (.pointer (some ⟨b, 0, none⟩)) none none none) w = .ok (.slice (some ⟨b, 0, none⟩) 16 16) w :=
  slice_all (P := Tryd.prog) (w := w) (b := b) (o := 0) (t := 23) Tryd.underlying23 (by kernel_rfl)
theorem dig_str (x : List Int) (h : isDig x) : ∃ s : ByteArray, xsOf s = x := ints_str x h.2
theorem byte_str (n : Int) : ∃ s : ByteArray, xsOf s = [n % 256] := ints_str [n % 256] (fun z hz => by simp at hz; omega)
theorem texts_new (w : World) (t : TypeId) (ts : List ByteArray) : TextsI (w.alloc (.cells (ts.map Value.string).toArray t)) (some ⟨w.heap.size, 0, none⟩) ts := fun j hj => ⟨_, rfl, by
  rw [add_none, Nat.zero_add, (Blk.new w t _).cell]
  simp [List.getD, List.getElem?_eq_getElem hj]⟩
theorem results_cell_t {fn : Func} {s u : Tmp} {t : TypeId} (h : fn.results = #[.cell s t, .tmp u]) (tmps : Array Value) (P : Program) (w : World) (p : Addr) (v : Value)
    (hp : tmps.getD s undef = .pointer (some p)) (hl : (loadVar t p).run P w = .ok v w) : (results fn tmps).run P w = .ok (.tuple #[v, tmps.getD u undef]) w := by
  have hq : tmps[s]?.getD undef = .pointer (some p) := by simpa using hp
  simp [results, h, hq, asAddr, hl]
theorem zero_run3 {P : Program} {t : TypeId} {v : Value} (w : World) (h : (P.info? t).bind (·.zero) = some v) : Sem.run P (zeroValue t) w = .ok v w := by
  cases hq : P.info? t with
  | none => simp [hq] at h
  | some i =>
    have h1 : i.zero = some v := by simpa [hq] using h
    simp [zeroValue, typeInfo, hq, h1]
theorem eqD (w : World) (l1 l2 : List Int) (h1 : l1.length = 16) (h2 : l2.length = 16) : Sem.run Tryd.prog (Op.equalIn 10000 23 (.agg (arrV .u8 l1)) (.agg (arrV .u8 l2))) w = .ok (decide (l1 = l2)) w :=
  eq_arr w 9998 Tryd.underlying23 (by kernel_rfl) Tryd.underlying5 (by kernel_rfl) (by kernel_rfl) l1 l2 h1 h2
theorem eqDG (l : List Int) (h : l.length = 16) (ds : Array Value) (hd : ds = arrV .u8 l) (w : World) : Sem.run Tryd.prog (Op.equalIn 10000 23 (.agg ds) (.agg ds)) w = .ok true w := by
  rw [hd, eqD w l l h h]; simp
theorem row_load (g : Nat) (cs : Array Value) (hs : cs.size = 16) (V : World) (h : Blk V g 23 cs) : Sem.run Tryd.prog (Instr.loadAt 23 (.pointer (some ⟨g, 0, none⟩))) V = .ok (.agg cs) V := by
  have := run_loadAt_mid (P := Tryd.prog) V g 0 23 cs.toList _ (fun j v hv => by rw [Nat.zero_add, h.cell, ← Array.getElem?_toList]; exact hv) Tryd.underlying23 rfl (by rw [Array.length_toList, hs]; exact info16)
  rwa [Array.toArray_toList] at this
theorem addr_zero_add (b j : Nat) : (⟨b, 0, none⟩ : Addr).add j = ⟨b, j, none⟩ := by
  have h : ∀ o, (⟨b, o, none⟩ : Addr).add j = ⟨b, o + j, none⟩ := fun o => by simp [Addr.add]
  have := h 0
  rwa [Nat.zero_add] at this
theorem own_keep {w w' : World} {base : Nat} {e : TypeId} {size n : Nat} {v : Value} {xs : List Value} (h : w.ownsRow base e size v n xs) (hg : w.grownBy w' none) : w'.ownsRow base e size v n xs :=
  h.kept hg (by cases v.ownBlock with
    | none => exact .inl rfl
    | some g => exact .inr (by simp))
def zeroC : List Int := List.replicate 16 0
/-- A row of digests in memory. -/
def DigsAt (w : World) (b off : Nat) (ps : List (List Int)) : Prop := ∀ j, j < ps.length → w.rangeAt b (off + j * 16) (arrV .u8 (ps.getD j zeroC)).toList
theorem range_grown {w w' : World} {b o : Nat} {cs : List Value} (h : w.rangeAt b o cs) (hk : w.grownBy w' none) : w'.rangeAt b o cs := fun j v hv => hk.cell (h j v hv) (by simp)
theorem DigsAt.grown {w w' : World} {b off : Nat} {ps : List (List Int)} (h : DigsAt w b off ps) (hk : w.grownBy w' none) : DigsAt w' b off ps := fun j hj => range_grown (h j hj) hk
theorem zeroC_dig : isDig zeroC := ⟨rfl, fun z hz => by simp [zeroC] at hz; omega⟩
theorem getD_dig {ps : List (List Int)} (h : ∀ p ∈ ps, isDig p) (j : Nat) : isDig (ps.getD j zeroC) := by
  by_cases hj : j < ps.length
  · rw [List.getD, List.getElem?_eq_getElem hj]; exact h _ (List.getElem_mem hj)
  · rw [List.getD, List.getElem?_eq_none (by omega)]; exact zeroC_dig
theorem there_to {w w' : World} {row : Option Nat} {b o n : Nat} (h : w.there b o n) (hg : w.grownBy w' row) (hr : some b ≠ row) : w'.there b o n := fun j hj => by
  obtain ⟨h1, h2⟩ := h j hj
  obtain ⟨v, hv⟩ := Option.isSome_iff_exists.1 h1
  have hb := World.block_lt_of_cell? w _ hv
  refine ⟨?_, ?_⟩
  · rw [World.cell?_of_block (hg.block _ hb hr), hv]; rfl
  · rw [World.frozen?_of_block (hg.block _ hb hr)]; exact h2
theorem range_to {w w' : World} {row : Option Nat} {b o : Nat} {cs : List Value} (h : w.rangeAt b o cs) (hg : w.grownBy w' row) (hr : some b ≠ row) : w'.rangeAt b o cs := fun j v hv => hg.cell (h j v hv) hr
theorem there_sub {w : World} {b o n o' n' : Nat} (h : w.there b o n) (h1 : o ≤ o') (h2 : o' + n' ≤ o + n) : w.there b o' n' := fun j hj => by
  have := h (o' - o + j) (by omega)
  rwa [show o + (o' - o + j) = o' + j by omega] at this
theorem grown_setCells {w : World} (b : Nat) : ∀ (vs : List Value) (o : Nat) (w1 : World), w.grownBy w1 (some b) → w.grownBy (w1.setCells b o vs) (some b)
  | [], _, _, h => h
  | v :: r, o, w1, h => by
    rw [World.setCells]
    exact grown_setCells b r (o + 1) _ (grown_far h (.inr rfl) v)
theorem ownFrom_there {β : Type} {B b o n : Nat} (h : b < B) : OwnFrom B (fun (_ : β) W => W.there b o n) := fun s W W' row hs hg hr => there_to hs hg (fun e => by have := (hr b e.symm).1; omega)
theorem ownFrom_ranges {α : Type} {B b : Nat} (f : α → Nat) (cs : α → List Value) (h : b < B) : OwnFrom B (fun (pre : List α) W => ∀ x ∈ pre, W.rangeAt b (f x) (cs x)) := fun s W W' row hs hg hr x hx => range_to (hs x hx) hg (fun e => by have := (hr b e.symm).1; omega)
theorem wpListIn_make_run {F : Fence} {n : Nat} {P : Program} {ops : Array Oper} {rest : List Oper} {o : Oper} {a : Act} {w w' : World} {Q : Exit → Act → World → Prop} (hg : o.guard = none) (t : TypeId) (l c : Operand) (ho : o.op = .makeSlice t l c) (vl vc V : Value) (hl : a.eval l = vl) (hc : a.eval c = vc)
    (hr : Sem.run P (Instr.makeSlice t vl vc) w = .ok V w') (h : wpListIn F n P ops Q rest (a.put o.dst V) w') : wpListIn F n P ops Q (o :: rest) a w := by
  refine wpListIn_plain hg fun K hK => ?_
  unfold Oper.wpIn
  refine ⟨by simp [Oper.about, ho], ?_⟩
  rw [Oper.semAt_plain F _ _ (by rw [ho]; intro c hc'; cases hc')]
  unfold execOp
  simp only [ho, hl, hc, Sem.run_bind, hr, Result.andThen_ok]
  exact hK _ _ h
theorem ownFrom_grownr {β : Type} {B : Nat} {w0 : World} {r : Option Nat} (h : w0.heap.size ≤ B) : OwnFrom B (fun (_ : β) W => w0.grownBy W r) := fun s W W' row hs hg hr =>
  ⟨hg.os.trans hs.os, hg.tape.trans hs.tape, hg.output.trans hs.output, Nat.le_trans hs.size hg.size, fun k hk hne => (hg.block k (Nat.lt_of_lt_of_le hk hs.size) (by
    intro e
    have := (hr k e.symm).1
    omega)).trans (hs.block k hk hne)⟩
theorem grown_own_r {a b c : World} {r : Option Nat} {v : Value} {base size : Nat} {e : TypeId} {n : Nat} {xs : List Value} (h : a.grownBy b r) (k : b.grownBy c v.ownBlock) (hv : b.ownsRow base e size v n xs) (hB : a.heap.size ≤ base) : a.grownBy c r := by
  cases hg : v.ownBlock with
  | none => rw [hg] at k; exact grown_trans h (grown_weak k _)
  | some g => rw [hg] at k; exact grown_fresh h k (Nat.le_trans hB (hv.lt g hg).1)
theorem keeps_own {b c : World} {v : Value} {base size : Nat} {e : TypeId} {n : Nat} {xs : List Value} (k : b.grownBy c v.ownBlock) (hv : b.ownsRow base e size v n xs) : KeepsOthers b c :=
  KeepsOthers.of_grownBy k fun j o ej hj => by
    rcases hv.2 with ⟨rfl, _⟩ | ⟨g, cap, cur, rfl, _, hgb, _⟩
    · simp [Value.ownBlock] at ej
    · obtain rfl : g = j := by simpa [Value.ownBlock] using ej
      rw [hgb] at hj; cases hj; rfl
theorem ownFrom_ax {B base : Nat} (p : Nat → Prop) (t : TypeId) (cs : Array Value) : OwnFrom B (fun (_ : Unit) W => ∃ g, base ≤ g ∧ p g ∧ Blk W g t cs) := fun _ _ _ _ hs hg hr => by
  obtain ⟨g, h1, h2, h3⟩ := hs
  exact ⟨g, h1, h2, (grownBy_keeps_cells hg (fun r e => (hr r e).2) h3 rfl).trans h3⟩
theorem range_blk {w : World} {g : Nat} {t : TypeId} {cs : Array Value} (h : Blk w g t cs) : w.rangeAt g 0 cs.toList := fun j v hv => by
  rw [Nat.zero_add, h.cell, ← Array.getElem?_toList]; exact hv
theorem wpList_load_row_w {P : Program} {ops : Array Oper} {rest : List Oper} {o : Oper} {a : Act} {w : World} {Q : Exit → Act → World → Prop} (hw : Region.wanted o (yielded ops a.tmps) = true) (ty : TypeId) (x : Operand) (ho : o.op = .load ty x)
    (g : Nat) (hx : a.eval x = .pointer (some ⟨g, 0, none⟩)) (t : TypeId) (cs : Array Value) (fr : Nat × Nat) (d : TypeDesc) (hg : w.heap[g]? = some (.cells cs t fr))
    (hu : P.underlying ty = some d) (hd : (match d with | .struct _ | .array _ _ => true | _ => false) = true) (hi : (P.info? ty).map (·.size) = some cs.size)
    (h : wpList P ops Q rest (a.put o.dst (.agg cs)) w) : wpList P ops Q (o :: rest) a w :=
  wpList_step fun K hK => by
    rw [if_pos hw]
    unfold Oper.wp execOp
    simp only [ho, hx, Instr.loadAt, Instr.sureAddr, Sem.run_bind, Sem.run_pure, Result.andThen_ok, run_loadVar_row w g t ty cs fr d hg hu hd hi]
    exact hK _ _ h
end Go.Proofs.YtebnebajedlhlaaDoor
/-
  A region that draws its order and holds calls which only make new memory: one walk in the order of the text serves every order. The class of worlds: those that have grown from the one at the region's head.
-/
namespace Go.Proofs.YtebnebajedlhlaaDoor
open Go.RowKit

def Gr (w : World) : Type := { z : World // w.grownBy z none }
instance (w : World) : Nonempty (Gr w) := ⟨⟨w, World.grownBy.refl w none⟩⟩
theorem Gr.cell {w : World} {a : Addr} {v : Value} (h : w.cell? a = some v) : ∀ z : Gr w, z.1.cell? a = some v := fun z => z.2.cell h (by simp)
theorem wp_region_grown {P : Program} {id : Nat} {Q : Exit → Act → World → Prop} {a : Act} {w : World} {l : List Oper} (hm : P.follows .mixedOrders = true) (hB : Region.lexB .any l.toArray = true)
    (h : wpQuiet P l.toArray (fun w' => ∃ z : Gr w, w' = z.1) (fun a' => ∀ w', (∃ z : Gr w, w' = z.1) → Q .normal a' w') l a) : (Code.region id l.toArray true).wp P Q a w :=
  wp_region_quiet (C := fun w' => ∃ z : Gr w, w' = z.1) hm hB ⟨⟨w.drew, grown_drew (World.grownBy.refl w none)⟩, rfl⟩ (by simpa using h)
theorem Calls.grown {P : Program} {f : FuncId} {args : Array Value} {w : World} (z : Gr w) {v : Value} (h : Calls P f args z.1 fun e w' => e = .returned v ∧ z.1.grownBy w' none) :
    Calls P f args z.1 fun e w'' => e = .returned v ∧ ∃ z' : Gr w, w'' = z'.1 :=
  h.mono fun _ w' ⟨he, hk⟩ => ⟨he, ⟨w', grown_trans z.2 hk⟩, rfl⟩
/-- A row by value, in such a region: its value in every world of the class. -/
theorem wpQuiet_load_row {P : Program} {ops : Array Oper} {C : World → Prop} {Q : Act → Prop} {a : Act} {o : Oper} {rest : List Oper} (ty : TypeId) (x : Operand) (p : Addr) (v : Value) (hw : Region.wanted o (yielded ops a.tmps) = true) (ho : o.op = .load ty x) (hx : a.eval x = .pointer (some p))
    (hr : ∀ V, C V → (Instr.loadAt ty (.pointer (some p))).run P V = .ok v V) (h : wpQuiet P ops C Q rest (a.put o.dst v)) : wpQuiet P ops C Q (o :: rest) a := by
  refine wpQuiet_step fun K hK => ?_
  rw [if_pos hw]
  refine ⟨v, fun w hC => ?_, hK _ h⟩
  unfold Oper.quietAt execOp
  simp only [ho, hx, Sem.run_bind, hr w hC, Result.andThen_ok, Sem.run_pure]
  exact ⟨rfl, rfl⟩
end Go.Proofs.YtebnebajedlhlaaDoor
