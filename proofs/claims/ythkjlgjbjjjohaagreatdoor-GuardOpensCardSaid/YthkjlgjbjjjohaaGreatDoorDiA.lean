/-
  Several texts in one: Di, DiB, DiK.
-/
import Derived.Deep.MidRow
import Derived.Test.YthkjlgjbjjjohaaGreatDoorRfO
import Derived.Test.YthkjlgjbjjjohaaGreatDoorBaseA
import Derived.RangeFuncBox
import Derived.Great.BuildSlice
import Derived.OwnWalk
import Derived.Maps.AppendAt
import Derived.Test.YthkjlgjbjjjohaaGreatDoorArgA
/-
  Digests: as lists, as cells, as rows in memory.
-/
namespace Go.Proofs.YthkjlgjbjjjohaaGreatDoor
open Go.RowKit

/-- A new row of slices that hold these bytes. -/
theorem parts_new (w : World) (t : TypeId) (vs : Array Value) (ps : List (List Int)) (h : ∀ j, j < ps.length → ∃ B m c, vs[j]? = some (.slice B m c) ∧ (ps.getD j []).length = m ∧ m ≤ c ∧ BytesI (w.alloc (.cells vs t)) B (ps.getD j [])) :
    PartsI (w.alloc (.cells vs t)) (some ⟨w.heap.size, 0, none⟩) ps := fun j hj => by
  obtain ⟨B, m, c, h1, h2, h3, h4⟩ := h j hj
  exact ⟨_, B, m, c, rfl, by rw [add_none, Nat.zero_add, (Blk.new w t vs).cell]; exact h1, h2, h3, h4⟩
theorem bytes_blk {w : World} {g : Nat} {t : TypeId} {l : List Int} (h : Blk w g t (arrV .u8 l)) : BytesI w (some ⟨g, 0, none⟩) l := BytesI.blk h (fun j hj => by rw [Nat.zero_add]; exact ⟨hj, rfl⟩)
theorem info16 : (Tryz.prog.info? 23).map (·.size) = some 16 := by kernel_rfl
theorem z16run (w : World) : Sem.run Tryz.prog (zeroValue 23) w = .ok (.agg (arrV .u8 (List.replicate 16 0))) w := zrun w (by kernel_rfl)
theorem dig_slice (w : World) (b : Nat) : Sem.run Tryz.prog (Instr.sliceAt 23 (.pointer (some ⟨b, 0, none⟩)) none none none) w = .ok (.slice (some ⟨b, 0, none⟩) 16 16) w :=
  slice_all (P := Tryz.prog) (w := w) (b := b) (o := 0) (t := 23) Tryz.underlying23 (by kernel_rfl)
theorem dig_str (x : List Int) (h : isDig x) : ∃ s : ByteArray, xsOf s = x := ints_str x h.2
theorem byte_str (n : Int) : ∃ s : ByteArray, xsOf s = [n % 256] := ints_str [n % 256] (fun z hz => by simp at hz; omega)
theorem texts_new (w : World) (t : TypeId) (ts : List ByteArray) : TextsI (w.alloc (.cells (ts.map Value.string).toArray t)) (some ⟨w.heap.size, 0, none⟩) ts := fun j hj => ⟨_, rfl, by
  rw [add_none, Nat.zero_add, (Blk.new w t _).cell]
  simp [List.getD, List.getElem?_eq_getElem hj]⟩
theorem results_cell_t {fn : Func} {s u : Tmp} {t : TypeId} (h : fn.results = #[.cell s t, .tmp u]) (tmps : Array Value) (P : Program) (w : World) (p : Addr) (v : Value)
    (hp : tmps.getD s undef = .pointer (some p)) (hl : (loadVar t p).run P w = .ok v w) : (results fn tmps).run P w = .ok (.tuple #[v, tmps.getD u undef]) w := by
  have hq : tmps[s]?.getD undef = .pointer (some p) := by simpa using hp
  simp [results, h, hq, asAddr, hl]
theorem zero_run3 {P : Program} {t : TypeId} {v : Value} (w : World) (h : (P.info? t).bind (·.zero) = some v) : Sem.run P (zeroValue t) w = .ok v w := by
  cases hq : P.info? t with
  | none => simp [hq] at h
  | some i =>
    have h1 : i.zero = some v := by simpa [hq] using h
    simp [zeroValue, typeInfo, hq, h1]
theorem eqD (w : World) (l1 l2 : List Int) (h1 : l1.length = 16) (h2 : l2.length = 16) : Sem.run Tryz.prog (Op.equalIn 10000 23 (.agg (arrV .u8 l1)) (.agg (arrV .u8 l2))) w = .ok (decide (l1 = l2)) w :=
  eq_arr w 9998 Tryz.underlying23 (by kernel_rfl) Tryz.underlying5 (by kernel_rfl) (by kernel_rfl) l1 l2 h1 h2
theorem eqDG (l : List Int) (h : l.length = 16) (ds : Array Value) (hd : ds = arrV .u8 l) (w : World) : Sem.run Tryz.prog (Op.equalIn 10000 23 (.agg ds) (.agg ds)) w = .ok true w := by
  rw [hd, eqD w l l h h]; simp
theorem row_load (g : Nat) (cs : Array Value) (hs : cs.size = 16) (V : World) (h : Blk V g 23 cs) : Sem.run Tryz.prog (Instr.loadAt 23 (.pointer (some ⟨g, 0, none⟩))) V = .ok (.agg cs) V := by
  have := run_loadAt_mid (P := Tryz.prog) V g 0 23 cs.toList _ (fun j v hv => by rw [Nat.zero_add, h.cell, ← Array.getElem?_toList]; exact hv) Tryz.underlying23 rfl (by rw [Array.length_toList, hs]; exact info16)
  rwa [Array.toArray_toList] at this
theorem addr_zero_add (b j : Nat) : (⟨b, 0, none⟩ : Addr).add j = ⟨b, j, none⟩ := by
  have h : ∀ o, (⟨b, o, none⟩ : Addr).add j = ⟨b, o + j, none⟩ := fun o => by simp [Addr.add]
  have := h 0
  rwa [Nat.zero_add] at this
theorem own_keep {w w' : World} {base : Nat} {e : TypeId} {size n : Nat} {v : Value} {xs : List Value} (h : w.ownsRow base e size v n xs) (hg : w.grownBy w' none) : w'.ownsRow base e size v n xs :=
  h.kept hg (by cases v.ownBlock with
    | none => exact .inl rfl
    | some g => exact .inr (by simp))
def zeroC : List Int := List.replicate 16 0
/-- A row of digests in memory. -/
def DigsAt (w : World) (b off : Nat) (ps : List (List Int)) : Prop := ∀ j, j < ps.length → w.rangeAt b (off + j * 16) (arrV .u8 (ps.getD j zeroC)).toList
theorem range_grown {w w' : World} {b o : Nat} {cs : List Value} (h : w.rangeAt b o cs) (hk : w.grownBy w' none) : w'.rangeAt b o cs := fun j v hv => hk.cell (h j v hv) (by simp)
theorem DigsAt.grown {w w' : World} {b off : Nat} {ps : List (List Int)} (h : DigsAt w b off ps) (hk : w.grownBy w' none) : DigsAt w' b off ps := fun j hj => range_grown (h j hj) hk
theorem zeroC_dig : isDig zeroC := ⟨rfl, fun z hz => by simp [zeroC] at hz; omega⟩
theorem getD_dig {ps : List (List Int)} (h : ∀ p ∈ ps, isDig p) (j : Nat) : isDig (ps.getD j zeroC) := by
  by_cases hj : j < ps.length
  · rw [List.getD, List.getElem?_eq_getElem hj]; exact h _ (List.getElem_mem hj)
  · rw [List.getD, List.getElem?_eq_none (by omega)]; exact zeroC_dig
theorem there_to {w w' : World} {row : Option Nat} {b o n : Nat} (h : w.there b o n) (hg : w.grownBy w' row) (hr : some b ≠ row) : w'.there b o n := fun j hj => by
  obtain ⟨h1, h2⟩ := h j hj
  obtain ⟨v, hv⟩ := Option.isSome_iff_exists.1 h1
  have hb := World.block_lt_of_cell? w _ hv
  refine ⟨?_, ?_⟩
  · rw [World.cell?_of_block (hg.block _ hb hr), hv]; rfl
  · rw [World.frozen?_of_block (hg.block _ hb hr)]; exact h2
theorem range_to {w w' : World} {row : Option Nat} {b o : Nat} {cs : List Value} (h : w.rangeAt b o cs) (hg : w.grownBy w' row) (hr : some b ≠ row) : w'.rangeAt b o cs := fun j v hv => hg.cell (h j v hv) hr
theorem there_sub {w : World} {b o n o' n' : Nat} (h : w.there b o n) (h1 : o ≤ o') (h2 : o' + n' ≤ o + n) : w.there b o' n' := fun j hj => by
  have := h (o' - o + j) (by omega)
  rwa [show o + (o' - o + j) = o' + j by omega] at this
theorem grown_setCells {w : World} (b : Nat) : ∀ (vs : List Value) (o : Nat) (w1 : World), w.grownBy w1 (some b) → w.grownBy (w1.setCells b o vs) (some b)
  | [], _, _, h => h
  | v :: r, o, w1, h => by
    rw [World.setCells]
    exact grown_setCells b r (o + 1) _ (grown_far h (.inr rfl) v)
theorem ownFrom_there {β : Type} {B b o n : Nat} (h : b < B) : OwnFrom B (fun (_ : β) W => W.there b o n) := fun s W W' row hs hg hr => there_to hs hg (fun e => by have := (hr b e.symm).1; omega)
theorem ownFrom_ranges {α : Type} {B b : Nat} (f : α → Nat) (cs : α → List Value) (h : b < B) : OwnFrom B (fun (pre : List α) W => ∀ x ∈ pre, W.rangeAt b (f x) (cs x)) := fun s W W' row hs hg hr x hx => range_to (hs x hx) hg (fun e => by have := (hr b e.symm).1; omega)
theorem wpListIn_make_run {F : Fence} {n : Nat} {P : Program} {ops : Array Oper} {rest : List Oper} {o : Oper} {a : Act} {w w' : World} {Q : Exit → Act → World → Prop} (hg : o.guard = none) (t : TypeId) (l c : Operand) (ho : o.op = .makeSlice t l c) (vl vc V : Value) (hl : a.eval l = vl) (hc : a.eval c = vc)
    (hr : Sem.run P (Instr.makeSlice t vl vc) w = .ok V w') (h : wpListIn F n P ops Q rest (a.put o.dst V) w') : wpListIn F n P ops Q (o :: rest) a w := by
  refine wpListIn_plain hg fun K hK => ?_
  unfold Oper.wpIn
  refine ⟨by simp [Oper.about, ho], ?_⟩
  rw [Oper.semAt_plain F _ _ (by rw [ho]; intro c hc'; cases hc')]
  unfold execOp
  simp only [ho, hl, hc, Sem.run_bind, hr, Result.andThen_ok]
  exact hK _ _ h
theorem ownFrom_grownr {β : Type} {B : Nat} {w0 : World} {r : Option Nat} (h : w0.heap.size ≤ B) : OwnFrom B (fun (_ : β) W => w0.grownBy W r) := fun s W W' row hs hg hr =>
  ⟨hg.os.trans hs.os, hg.tape.trans hs.tape, hg.output.trans hs.output, Nat.le_trans hs.size hg.size, fun k hk hne => (hg.block k (Nat.lt_of_lt_of_le hk hs.size) (by
    intro e
    have := (hr k e.symm).1
    omega)).trans (hs.block k hk hne)⟩
theorem grown_own_r {a b c : World} {r : Option Nat} {v : Value} {base size : Nat} {e : TypeId} {n : Nat} {xs : List Value} (h : a.grownBy b r) (k : b.grownBy c v.ownBlock) (hv : b.ownsRow base e size v n xs) (hB : a.heap.size ≤ base) : a.grownBy c r := by
  cases hg : v.ownBlock with
  | none => rw [hg] at k; exact grown_trans h (grown_weak k _)
  | some g => rw [hg] at k; exact grown_fresh h k (Nat.le_trans hB (hv.lt g hg).1)
theorem keeps_own {b c : World} {v : Value} {base size : Nat} {e : TypeId} {n : Nat} {xs : List Value} (k : b.grownBy c v.ownBlock) (hv : b.ownsRow base e size v n xs) : KeepsOthers b c :=
  KeepsOthers.of_grownBy k fun j o ej hj => by
    rcases hv.2 with ⟨rfl, _⟩ | ⟨g, cap, cur, rfl, _, hgb, _⟩
    · simp [Value.ownBlock] at ej
    · obtain rfl : g = j := by simpa [Value.ownBlock] using ej
      rw [hgb] at hj; cases hj; rfl
theorem ownFrom_ax {B base : Nat} (p : Nat → Prop) (t : TypeId) (cs : Array Value) : OwnFrom B (fun (_ : Unit) W => ∃ g, base ≤ g ∧ p g ∧ Blk W g t cs) := fun _ _ _ _ hs hg hr => by
  obtain ⟨g, h1, h2, h3⟩ := hs
  exact ⟨g, h1, h2, (grownBy_keeps_cells hg (fun r e => (hr r e).2) h3 rfl).trans h3⟩
theorem range_blk {w : World} {g : Nat} {t : TypeId} {cs : Array Value} (h : Blk w g t cs) : w.rangeAt g 0 cs.toList := fun j v hv => by
  rw [Nat.zero_add, h.cell, ← Array.getElem?_toList]; exact hv
theorem wpList_load_row_w {P : Program} {ops : Array Oper} {rest : List Oper} {o : Oper} {a : Act} {w : World} {Q : Exit → Act → World → Prop} (hw : Region.wanted o (yielded ops a.tmps) = true) (ty : TypeId) (x : Operand) (ho : o.op = .load ty x)
    (g : Nat) (hx : a.eval x = .pointer (some ⟨g, 0, none⟩)) (t : TypeId) (cs : Array Value) (fr : Nat × Nat) (d : TypeDesc) (hg : w.heap[g]? = some (.cells cs t fr))
    (hu : P.underlying ty = some d) (hd : (match d with | .struct _ | .array _ _ => true | _ => false) = true) (hi : (P.info? ty).map (·.size) = some cs.size)
    (h : wpList P ops Q rest (a.put o.dst (.agg cs)) w) : wpList P ops Q (o :: rest) a w :=
  wpList_step fun K hK => by
    rw [if_pos hw]
    unfold Oper.wp execOp
    simp only [ho, hx, Instr.loadAt, Instr.sureAddr, Sem.run_bind, Sem.run_pure, Result.andThen_ok, run_loadVar_row w g t ty cs fr d hg hu hd hi]
    exact hK _ _ h
theorem text_v (w : World) (d : List Int) (hd : d.length = 16) (s : ByteArray) (hs : xsOf s = d) (ds : Array Value) (h : ds = arrV .u8 d) :
    Calls Tryz.prog 99 #[.agg ds] w fun e w' => e = .returned (.string s) ∧ w.grownBy w' none := by
  subst h
  exact text_is w d hd s hs
end Go.Proofs.YthkjlgjbjjjohaaGreatDoor
/-
  A slice literal of one element of several cells; append of one such element; what an owned row of such elements holds.
-/
namespace Go.Proofs.YthkjlgjbjjjohaaGreatDoor
open Go.RowKit

theorem fold_set : ∀ (vs : List Value) (cs : Array Value) (o : Nat), o + vs.length ≤ cs.size → ∀ j, ((vs.zipIdx 0).foldl (fun (cs : Array Value) (x : Value × Nat) => cs.setIfInBounds (o + x.2) x.1) cs)[j]? = if o ≤ j ∧ j < o + vs.length then vs[j - o]? else cs[j]? := by
  suffices h : ∀ (vs : List Value) (cs : Array Value) (o m : Nat), o + m + vs.length ≤ cs.size → ∀ j, ((vs.zipIdx m).foldl (fun (cs : Array Value) (x : Value × Nat) => cs.setIfInBounds (o + x.2) x.1) cs)[j]? = if o + m ≤ j ∧ j < o + m + vs.length then vs[j - (o + m)]? else cs[j]? from
    fun vs cs o h1 j => by simpa using h vs cs o 0 (by simpa using h1) j
  intro vs
  induction vs with
  | nil => intro cs o m _ j; simp; intro h1 h2; omega
  | cons v r ih =>
    intro cs o m hm j
    rw [List.length_cons] at hm
    rw [List.zipIdx_cons, List.foldl_cons, ih _ o (m + 1) (by rw [Array.size_setIfInBounds]; omega) j, List.length_cons]
    by_cases h1 : o + (m + 1) ≤ j ∧ j < o + (m + 1) + r.length
    · rw [if_pos h1, if_pos (by omega), show j - (o + m) = (j - (o + (m + 1))) + 1 by omega, List.getElem?_cons_succ]
    · rw [if_neg h1]
      by_cases h2 : j = o + m
      · subst h2
        rw [if_pos (by omega), Array.getElem?_setIfInBounds_self_of_lt (by omega), Nat.sub_self, List.getElem?_cons_zero]
      · rw [if_neg (by omega), Array.getElem?_setIfInBounds_ne (by omega)]
/-- One part that fills the whole. -/
theorem fill_one (es cs : Array Value) (h : es.size = cs.size) : Instr.fill (fun i => some (i * es.size, es.size)) cs [(0, .agg es)] = some es := by
  have hc : (Value.agg es).cells = es := rfl
  simp only [Instr.fill, hc, Nat.zero_mul]
  rw [if_neg (by simp [h])]
  congr 1
  apply Array.ext_getElem?
  intro j
  have := fold_set es.toList cs 0 (by simp [h]) j
  simp only [Nat.zero_add, Nat.sub_zero, Array.length_toList] at this
  rw [← Array.foldl_toList, Array.toList_zipIdx]
  simp only [Nat.zero_add]
  rw [this]
  by_cases hj : j < es.size
  · simp [hj]
  · rw [if_neg (by omega), Array.getElem?_eq_none (by omega), Array.getElem?_eq_none (by omega)]
theorem run_slice_one {P : Program} (w : World) (t e : TypeId) (es : Array Value) (hu : P.underlying t = some (.slice e)) (hs : (P.info? e).map (·.size) = some es.size) (hz : ((P.info? e).bind (·.zero)).map (·.cells.size) = some es.size) (h0 : 0 < es.size) (h1 : es.size ≤ 1000) :
    Sem.run P (Instr.buildSlice t 1 #[(0, .agg es)]) w = .ok (.slice (some ⟨w.heap.size, 0, none⟩) 1 1) (w.alloc (.cells es e)) := by
  cases hq : P.info? e with
  | none => simp [hq] at hs
  | some i =>
    have hi : i.size = es.size := by simpa [hq] using hs
    have : ∃ z, i.zero = some z ∧ z.cells.size = es.size := by simpa [hq] using hz
    obtain ⟨z, hzz, _⟩ := this
    refine run_buildSlice w t e 1 _ es i z hu hq hzz (by rw [hi]; omega) (by rw [hi]; omega) ?_
    rw [hi]
    exact fill_one es _ (by simp)

theorem wpList_push_row {P : Program} {w0 : World} {ops : Array Oper} {rest : List Oper} {o : Oper} {a : Act} {Q : Exit → Act → World → Prop} (hgd : o.guard = none) (s x : Operand) (t : TypeId)
    (ho : o.op = .call { callee := .builtin .append, args := #[s, x], argTypes := #[t, t] }) (base : Nat) (e e0 : TypeId) (i : TypeInfo) (z : Value) (size bytes : Nat) (ht : P.underlying t = some (.slice e)) (hi : P.info? e = some i) (hz : i.zero = some z) (hsize : i.size = size) (hby : i.bytes = bytes) (hzs : z.cells.size = size) (hsz : 0 < size)
    (v : Value) (n : Nat) (xs : List Value) (hs : a.eval s = v) (hown : w0.ownsRow base e size v n xs) (us : Array Value) (hu1 : us.all (·.oneCell') = true) (hus : us.size = size) (hx : a.eval x = .slice (some ⟨w0.heap.size, 0, none⟩) 1 1) (hn : n ≤ 1000000) (hb : bytes ≤ 1000) (hbase : base ≤ w0.heap.size)
    (h : ∀ v' w', w'.ownsRow base e size v' (n + 1) (xs ++ us.toList) → w0.grownBy w' v.ownBlock → (v'.ownBlock = v.ownBlock ∨ v'.ownBlock = some (w0.heap.size + 1)) → wpList P ops Q rest (a.put o.dst v') w') : wpList P ops Q (o :: rest) a (w0.alloc (.cells us e0)) := by
  refine wpList_append_own_at _ hgd s x t ho base e i z size bytes ht hi hz hsize hby hzs hsz v n xs hs (hown.alloc _) ⟨w0.heap.size, 0, none⟩ 1 1 us.toList hx (by rw [Array.length_toList, hus, Nat.one_mul]) (fun j y hy => ?_) (fun u hu => (Array.all_eq_true_iff_forall_mem.1 hu1) u (by simpa using hu)) (by simp only [maxLen]; omega) (by
    have := Nat.mul_le_mul (show n + 1 ≤ 1000001 by omega) hb
    omega) (by rw [World.size_alloc]; omega) (fun v' w' h1 h2 _ h4 => h v' w' h1 (grown_trans (World.grownBy_alloc w0 _ _) h2) (by rw [World.size_alloc] at h4; exact h4))
  rw [addr_zero_add, (Blk.new w0 e0 us).cell j, ← Array.getElem?_toList]
  exact hy

/-- As many rows of sixteen, one behind the other. -/
def rowV (f : Nat → Array Value) : Nat → List Value
  | 0 => []
  | n + 1 => rowV f n ++ (f n).toList
theorem rowV_length (f : Nat → Array Value) (h : ∀ k, (f k).size = 16) : ∀ n, (rowV f n).length = n * 16
  | 0 => rfl
  | n + 1 => by rw [rowV, List.length_append, rowV_length f h n, Array.length_toList, h]; omega
theorem rowV_get (f : Nat → Array Value) (h : ∀ k, (f k).size = 16) : ∀ n k i, k < n → i < 16 → (rowV f n)[k * 16 + i]? = (f k)[i]?
  | 0, _, _, hk, _ => absurd hk (by omega)
  | n + 1, k, i, hk, hi => by
    have hl := rowV_length f h n
    rw [rowV]
    by_cases e : k = n
    · subst e
      rw [List.getElem?_append_right (by omega), hl, show k * 16 + i - k * 16 = i by omega, Array.getElem?_toList]
    · rw [List.getElem?_append_left (by rw [hl]; omega)]
      exact rowV_get f h n k i (by omega) hi
/-- What an owned row of sixteens holds. -/
theorem own_rows {w : World} {base : Nat} {e : TypeId} {v : Value} {n : Nat} (f : Nat → Array Value) (hf : ∀ k, (f k).size = 16) (hn : 0 < n) (h : w.ownsRow base e 16 v n (rowV f n)) :
    ∃ g cap, v = .slice (some ⟨g, 0, none⟩) n cap ∧ n ≤ cap ∧ base ≤ g ∧ w.there g 0 (n * 16) ∧ ∀ k, k < n → w.rangeAt g (0 + k * 16) (f k).toList := by
  rcases h.2 with ⟨rfl, h0⟩ | ⟨g, cap, cur, rfl, hb, hg, hnc, _, hsz, ht⟩
  · omega
  · have hl := rowV_length f hf n
    have hcs : n * 16 ≤ cur.size := by
      have : (cur.toList.take (n * 16)).length = n * 16 := by rw [ht, hl]
      simp at this; omega
    refine ⟨g, cap, rfl, hnc, hb, fun j hj => ?_, fun k hk j u hu => ?_⟩
    · rw [Nat.zero_add]
      have hB : Blk w g e cur := hg
      refine ⟨by rw [hB.cell, Array.getElem?_eq_getElem (by omega)]; rfl, hB.frozen j⟩
    · have hj : j < 16 := by have := (List.getElem?_eq_some_iff.1 hu).1; rwa [Array.length_toList, hf] at this
      have hB : Blk w g e cur := hg
      have hlt : k * 16 + j < n * 16 := by omega
      rw [Nat.zero_add, hB.cell, ← Array.getElem?_toList]
      have e1 : (cur.toList.take (n * 16))[k * 16 + j]? = cur.toList[k * 16 + j]? := by rw [List.getElem?_take, if_pos hlt]
      rw [← e1, ht, rowV_get f hf n k j hk hj, ← Array.getElem?_toList]
      exact hu
theorem rowV_cells {w : World} {b : Nat} (f : Nat → Array Value) (hf : ∀ k, (f k).size = 16) : ∀ n, (∀ k, k < n → w.rangeAt b (0 + k * 16) (f k).toList) → ∀ j u, (rowV f n)[j]? = some u → w.cell? ⟨b, j, none⟩ = some u
  | 0, _, j, u, h => by simp [rowV] at h
  | n + 1, hR, j, u, h => by
    have hl := rowV_length f hf n
    rw [rowV] at h
    by_cases hj : j < n * 16
    · rw [List.getElem?_append_left (by omega)] at h
      exact rowV_cells f hf n (fun k hk => hR k (by omega)) j u h
    · rw [List.getElem?_append_right (by omega), hl] at h
      have := hR n (by omega) (j - n * 16) u h
      rwa [show 0 + n * 16 + (j - n * 16) = j by omega] at this
theorem rowV_one (f : Nat → Array Value) (h : ∀ k, ((f k).all fun v => v.oneCell') = true) : ∀ n, ∀ u ∈ rowV f n, u.oneCell' = true
  | 0, u, hu => by cases hu
  | n + 1, u, hu => by
    rcases List.mem_append.1 hu with h1 | h1
    · exact rowV_one f h n u h1
    · exact (Array.all_eq_true_iff_forall_mem.1 (h n)) u (by simpa using h1)
theorem wpList_bslice_run {P : Program} {ops : Array Oper} {rest : List Oper} {o : Oper} {a : Act} {w w' : World} {Q : Exit → Act → World → Prop} (hgd : o.guard = none) (t : TypeId) (len : Nat) (i : Nat) (x : Operand) (ho : o.op = .buildSlice t len #[(i, x)]) (u V : Value) (hx : a.eval x = u)
    (hr : Sem.run P (Instr.buildSlice t len #[(i, u)]) w = .ok V w') (h : wpList P ops Q rest (a.put o.dst V) w') : wpList P ops Q (o :: rest) a w :=
  wpList_plain hgd fun K hK => by
    have hm : (#[(i, x)] : Array (Nat × Operand)).map (fun (i, x) => (i, a.eval x)) = #[(i, u)] := by simp [hx]
    unfold Oper.wp execOp
    simp only [ho, Sem.run_bind, hm, hr, Result.andThen_ok]
    exact hK _ _ h
end Go.Proofs.YthkjlgjbjjjohaaGreatDoor
/-
  An argument opened: a row of digests.
-/
namespace Go.Proofs.YthkjlgjbjjjohaaGreatDoor
open Go.ChangeShapes Go.WideShapes Go.ChangeAt Go.RowKit

section
variable {H : Type} {enc : TypeId × Value → H} {w : World} {base : Nat} {spare : Nat → Bool} {held : Bool} {fuel : Nat} {cs : List Value} {x : DataW H × List MemPlace}
theorem cellsOf_digest : Tryz.prog.cellsOf 23 = 16 := by kernel_rfl
theorem open_digs (h : DataW.trod enc Tryz.prog w base spare held fuel 71 cs = some x) :
    ∃ A n c, ∃ ps : List (List Int), cs = [.slice A n c] ∧ ps.length = n ∧ n ≤ c ∧ (∀ p ∈ ps, isDig p) ∧ (ps ≠ [] → ∃ ad, A = some ad ∧ ∀ i (_ : i < ps.length), ∀ j, j < 16 → w.cell? (ad.add (i * 16 + j)) = (ps[i].map (Value.int .u8))[j]?) := by
  obtain ⟨A, n, c, ps, hcs, hn, hc, hat⟩ := open_elems Tryz.underlying71 cellsOf_digest (fun (l : List Int) es => es = l.map (Value.int .u8) ∧ isDig l) zeroC (fun h => by
    obtain ⟨l, h1, h2, _, h4⟩ := arr_of_trod (n := 16) Tryz.underlying23 Tryz.underlying5 (by kernel_rfl) (by kernel_rfl) h
    exact ⟨l, h1, h2, fun z hz => by
      have := h4 z hz
      simp [Lit.wf, IntKind.min, IntKind.max, IntKind.signed, IntKind.bits] at this
      omega⟩) h
  refine ⟨A, n, c, ps, hcs, hn, hc, fun p hp => ?_, fun hne => ?_⟩
  · have hne : ps ≠ [] := by rintro rfl; cases hp
    obtain ⟨ad, _, hat2⟩ := hat hne
    obtain ⟨i, hi, rfl⟩ := List.mem_iff_getElem.1 hp
    obtain ⟨es, ⟨_, h2⟩, _⟩ := hat2 i hi
    exact h2
  · obtain ⟨ad, eA, hat2⟩ := hat hne
    refine ⟨ad, eA, fun i hi j hj => ?_⟩
    obtain ⟨es, ⟨rfl, _⟩, _, h3⟩ := hat2 i hi
    exact h3 j hj
set_option maxRecDepth 100000 in
theorem arg_digs {v : Value} {d : DataW H} {p : List MemPlace} {b0 : Nat} (hv : Value.okWide Tryz.prog w .any b0 71 v) (h : DataW.Trod enc Tryz.prog w base spare held 71 v d p) :
    ∃ A n c, ∃ ps : List (List Int), v = .slice A n c ∧ ps.length = n ∧ n ≤ c ∧ (∀ p ∈ ps, isDig p) ∧ (ps ≠ [] → ∃ ad, A = some ad ∧ ∀ i (_ : i < ps.length), ∀ j, j < 16 → w.cell? (ad.add (i * 16 + j)) = (ps[i].map (Value.int .u8))[j]?) := by
  obtain ⟨a0, len, cap, rfl⟩ := okWide_slice Tryz.underlying71 hv
  obtain ⟨fuel, hf⟩ := h
  obtain ⟨A, n, c, xs, hcs, hn, hc, hb⟩ := open_digs hf
  have e : Value.slice a0 len cap = .slice A n c := (List.cons.inj (show [Value.slice a0 len cap] = [Value.slice A n c] from hcs)).1
  exact ⟨A, n, c, xs, e, hn, hc, hb⟩
end
/-- Its place: a block and an offset. -/
theorem digs_at {w : World} {A : Option Addr} {ps : List (List Int)} (hne : ps ≠ []) (hd : ∀ p ∈ ps, isDig p) (h : ps ≠ [] → ∃ ad, A = some ad ∧ ∀ i (_ : i < ps.length), ∀ j, j < 16 → w.cell? (ad.add (i * 16 + j)) = (ps[i].map (Value.int .u8))[j]?) :
    ∃ b off, A = some ⟨b, off, none⟩ ∧ DigsAt w b off ps := by
  obtain ⟨⟨b, off, spot⟩, rfl, hc⟩ := h hne
  have hl : 0 < ps.length := List.length_pos_iff.2 hne
  have h0 := hc 0 hl 0 (by omega)
  have hl16 := (hd _ (List.getElem_mem hl)).1
  rw [List.getElem?_eq_getElem (by rw [List.length_map, hl16]; omega)] at h0
  have hspot : spot = none := by simpa [Addr.add] using World.cell?_spot h0
  subst hspot
  refine ⟨b, off, rfl, fun j hj i v hv => ?_⟩
  have hg : ps.getD j zeroC = ps[j] := by rw [List.getD, List.getElem?_eq_getElem hj]; rfl
  rw [hg] at hv
  have hi : i < 16 := by
    have := (List.getElem?_eq_some_iff.1 hv).1
    rw [Array.length_toList, arr_size, (hd _ (List.getElem_mem hj)).1] at this
    exact this
  have := hc j hj i hi
  rw [Addr.add_mid] at this
  rw [Nat.add_assoc, this]
  simpa [arrV] using hv
end Go.Proofs.YthkjlgjbjjjohaaGreatDoor
