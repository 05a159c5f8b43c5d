/-
  Several texts in one: Tx, Di, Sg.
-/
import Derived.Test.YtlokjbjpmhfkhaaDoorM11i
import Derived.Deep.MidRow
import Derived.Test.YtlokjbjpmhfkhaaDoorM11j
import Derived.RangeFuncBox
import Derived.Test.YtlokjbjpmhfkhaaDoorM11a
import Derived.Test.YtlokjbjpmhfkhaaDoorM11b
/-
  quorateref02.Text: a digest's bytes as a text.
-/
namespace Go.Proofs.YtlokjbjpmhfkhaaDoor
open Go.RowKit

theorem index16b (w : World) {I : Int} {cs : Array Value} {v : Value} (hb : 0 ≤ I ∧ I < 16) (hv : cs[I.toNat]? = some v) : Sem.run Tryd.prog (Instr.index 32 (.agg cs) (.int .i64 I)) w = .ok v w :=
  run_index_agg (n := 16) Tryd.underlying32 (by kernel_rfl) (by kernel_rfl) hb hv
theorem info16b : (Tryd.prog.info? 32).map (·.size) = some 16 := by kernel_rfl
theorem own_str {w : World} {base : Nat} {e : TypeId} {v : Value} {n : Nat} {L : List Int} (h : w.ownsRow base e 1 v n (L.map (Value.int .u8))) : ∃ A cap, v = .slice A n cap ∧ BytesI w A L ∧ n ≤ cap ∧ L.length = n := by
  have hl : L.length = n := by have := h.1; simpa using this
  rcases h.2 with ⟨rfl, h0⟩ | ⟨g, cap, cur, rfl, hb, hg, hnc, _, hsz, ht⟩
  · subst h0
    exact ⟨none, 0, rfl, fun hne => absurd (List.eq_nil_of_length_eq_zero hl) hne, Nat.le_refl _, hl⟩
  · refine ⟨_, cap, rfl, fun _ => ⟨_, rfl, fun j hj => ?_⟩, hnc, hl⟩
    rw [add_none, Nat.zero_add, Joins.cell_of_block hg j, ← Array.getElem?_toList]
    have e1 : (cur.toList.take (n * 1))[j]? = cur.toList[j]? := by rw [List.getElem?_take, if_pos (by omega)]
    rw [← e1, ht]
    simp [List.getD, List.getElem?_eq_getElem hj]

end Go.Proofs.YtlokjbjpmhfkhaaDoor
/-
  Digests: as lists, as cells, as rows in memory.
-/
namespace Go.Proofs.YtlokjbjpmhfkhaaDoor
open Go.RowKit

/-- A new row of slices that hold these bytes. -/
theorem parts_new (w : World) (t : TypeId) (vs : Array Value) (ps : List (List Int)) (h : ∀ j, j < ps.length → ∃ B m c, vs[j]? = some (.slice B m c) ∧ (ps.getD j []).length = m ∧ m ≤ c ∧ BytesI (w.alloc (.cells vs t)) B (ps.getD j [])) :
    PartsI (w.alloc (.cells vs t)) (some ⟨w.heap.size, 0, none⟩) ps := fun j hj => by
  obtain ⟨B, m, c, h1, h2, h3, h4⟩ := h j hj
  exact ⟨_, B, m, c, rfl, by rw [add_none, Nat.zero_add, (Blk.new w t vs).cell]; exact h1, h2, h3, h4⟩
theorem bytes_blk {w : World} {g : Nat} {t : TypeId} {l : List Int} (h : Blk w g t (arrV .u8 l)) : BytesI w (some ⟨g, 0, none⟩) l := BytesI.blk h (fun j hj => by rw [Nat.zero_add]; exact ⟨hj, rfl⟩)
theorem info16 : (Tryd.prog.info? 32).map (·.size) = some 16 := by kernel_rfl
theorem z16run (w : World) : Sem.run Tryd.prog (zeroValue 32) w = .ok (.agg (arrV .u8 (List.replicate 16 0))) w := zrun w (by kernel_rfl)
theorem dig_slice (w : World) (b : Nat) : Sem.run Tryd.prog (Instr.sliceAt 32 (.pointer (some ⟨b, 0, none⟩)) none none none) w = .ok (.slice (some ⟨b, 0, none⟩) 16 16) w :=
  slice_all (P := Tryd.prog) (w := w) (b := b) (o := 0) (t := 32) Tryd.underlying32 (by kernel_rfl)
theorem dig_str (x : List Int) (h : isDig x) : ∃ s : ByteArray, xsOf s = x := ints_str x h.2
theorem byte_str (n : Int) : ∃ s : ByteArray, xsOf s = [n % 256] := ints_str [n % 256] (fun z hz => by simp at hz; omega)
theorem texts_new (w : World) (t : TypeId) (ts : List ByteArray) : TextsI (w.alloc (.cells (ts.map Value.string).toArray t)) (some ⟨w.heap.size, 0, none⟩) ts := fun j hj => ⟨_, rfl, by
  rw [add_none, Nat.zero_add, (Blk.new w t _).cell]
  simp [List.getD, List.getElem?_eq_getElem hj]⟩
theorem results_cell_t {fn : Func} {s u : Tmp} {t : TypeId} (h : fn.results = #[.cell s t, .tmp u]) (tmps : Array Value) (P : Program) (w : World) (p : Addr) (v : Value)
    (hp : tmps.getD s undef = .pointer (some p)) (hl : (loadVar t p).run P w = .ok v w) : (results fn tmps).run P w = .ok (.tuple #[v, tmps.getD u undef]) w := by
  have hq : tmps[s]?.getD undef = .pointer (some p) := by simpa using hp
  simp [results, h, hq, asAddr, hl]
theorem zero_run3 {P : Program} {t : TypeId} {v : Value} (w : World) (h : (P.info? t).bind (·.zero) = some v) : Sem.run P (zeroValue t) w = .ok v w := by
  cases hq : P.info? t with
  | none => simp [hq] at h
  | some i =>
    have h1 : i.zero = some v := by simpa [hq] using h
    simp [zeroValue, typeInfo, hq, h1]
theorem eqDK11 (w : World) (l1 l2 : List Int) (h1 : l1.length = 16) (h2 : l2.length = 16) : Sem.run Tryd.prog (Op.equalIn 10000 32 (.agg (arrV .u8 l1)) (.agg (arrV .u8 l2))) w = .ok (decide (l1 = l2)) w :=
  eq_arr w 9998 Tryd.underlying32 (by kernel_rfl) Tryd.underlying5 (by kernel_rfl) (by kernel_rfl) l1 l2 h1 h2
theorem eqDG (l : List Int) (h : l.length = 16) (ds : Array Value) (hd : ds = arrV .u8 l) (w : World) : Sem.run Tryd.prog (Op.equalIn 10000 32 (.agg ds) (.agg ds)) w = .ok true w := by
  rw [hd, eqDK11 w l l h h]; simp
theorem row_load (g : Nat) (cs : Array Value) (hs : cs.size = 16) (V : World) (h : Blk V g 32 cs) : Sem.run Tryd.prog (Instr.loadAt 32 (.pointer (some ⟨g, 0, none⟩))) V = .ok (.agg cs) V := by
  have := run_loadAt_mid (P := Tryd.prog) V g 0 32 cs.toList _ (fun j v hv => by rw [Nat.zero_add, h.cell, ← Array.getElem?_toList]; exact hv) Tryd.underlying32 rfl (by rw [Array.length_toList, hs]; exact info16)
  rwa [Array.toArray_toList] at this
theorem addr_zero_add (b j : Nat) : (⟨b, 0, none⟩ : Addr).add j = ⟨b, j, none⟩ := by
  have h : ∀ o, (⟨b, o, none⟩ : Addr).add j = ⟨b, o + j, none⟩ := fun o => by simp [Addr.add]
  have := h 0
  rwa [Nat.zero_add] at this
theorem own_keep {w w' : World} {base : Nat} {e : TypeId} {size n : Nat} {v : Value} {xs : List Value} (h : w.ownsRow base e size v n xs) (hg : w.grownBy w' none) : w'.ownsRow base e size v n xs :=
  h.kept hg (by cases v.ownBlock with
    | none => exact .inl rfl
    | some g => exact .inr (by simp))
def zeroC : List Int := List.replicate 16 0
/-- A row of digests in memory. -/
def DigsAt (w : World) (b off : Nat) (ps : List (List Int)) : Prop := ∀ j, j < ps.length → w.rangeAt b (off + j * 16) (arrV .u8 (ps.getD j zeroC)).toList
theorem range_grown {w w' : World} {b o : Nat} {cs : List Value} (h : w.rangeAt b o cs) (hk : w.grownBy w' none) : w'.rangeAt b o cs := fun j v hv => hk.cell (h j v hv) (by simp)
theorem DigsAt.grown {w w' : World} {b off : Nat} {ps : List (List Int)} (h : DigsAt w b off ps) (hk : w.grownBy w' none) : DigsAt w' b off ps := fun j hj => range_grown (h j hj) hk
theorem zeroC_dig : isDig zeroC := ⟨rfl, fun z hz => by simp [zeroC] at hz; omega⟩
theorem getD_dig {ps : List (List Int)} (h : ∀ p ∈ ps, isDig p) (j : Nat) : isDig (ps.getD j zeroC) := by
  by_cases hj : j < ps.length
  · rw [List.getD, List.getElem?_eq_getElem hj]; exact h _ (List.getElem_mem hj)
  · rw [List.getD, List.getElem?_eq_none (by omega)]; exact zeroC_dig
theorem there_to {w w' : World} {row : Option Nat} {b o n : Nat} (h : w.there b o n) (hg : w.grownBy w' row) (hr : some b ≠ row) : w'.there b o n := fun j hj => by
  obtain ⟨h1, h2⟩ := h j hj
  obtain ⟨v, hv⟩ := Option.isSome_iff_exists.1 h1
  have hb := World.block_lt_of_cell? w _ hv
  refine ⟨?_, ?_⟩
  · rw [World.cell?_of_block (hg.block _ hb hr), hv]; rfl
  · rw [World.frozen?_of_block (hg.block _ hb hr)]; exact h2
theorem range_to {w w' : World} {row : Option Nat} {b o : Nat} {cs : List Value} (h : w.rangeAt b o cs) (hg : w.grownBy w' row) (hr : some b ≠ row) : w'.rangeAt b o cs := fun j v hv => hg.cell (h j v hv) hr
theorem there_sub {w : World} {b o n o' n' : Nat} (h : w.there b o n) (h1 : o ≤ o') (h2 : o' + n' ≤ o + n) : w.there b o' n' := fun j hj => by
  have := h (o' - o + j) (by omega)
  rwa [show o + (o' - o + j) = o' + j by omega] at this
theorem grown_setCells {w : World} (b : Nat) : ∀ (vs : List Value) (o : Nat) (w1 : World), w.grownBy w1 (some b) → w.grownBy (w1.setCells b o vs) (some b)
  | [], _, _, h => h
  | v :: r, o, w1, h => by
    rw [World.setCells]
    exact grown_setCells b r (o + 1) _ (grown_far h (.inr rfl) v)
theorem ownFrom_there {β : Type} {B b o n : Nat} (h : b < B) : OwnFrom B (fun (_ : β) W => W.there b o n) := fun s W W' row hs hg hr => there_to hs hg (fun e => by have := (hr b e.symm).1; omega)
theorem ownFrom_ranges {α : Type} {B b : Nat} (f : α → Nat) (cs : α → List Value) (h : b < B) : OwnFrom B (fun (pre : List α) W => ∀ x ∈ pre, W.rangeAt b (f x) (cs x)) := fun s W W' row hs hg hr x hx => range_to (hs x hx) hg (fun e => by have := (hr b e.symm).1; omega)
theorem wpListIn_make_run {F : Fence} {n : Nat} {P : Program} {ops : Array Oper} {rest : List Oper} {o : Oper} {a : Act} {w w' : World} {Q : Exit → Act → World → Prop} (hg : o.guard = none) (t : TypeId) (l c : Operand) (ho : o.op = .makeSlice t l c) (vl vc V : Value) (hl : a.eval l = vl) (hc : a.eval c = vc)
    (hr : Sem.run P (Instr.makeSlice t vl vc) w = .ok V w') (h : wpListIn F n P ops Q rest (a.put o.dst V) w') : wpListIn F n P ops Q (o :: rest) a w := by
  refine wpListIn_plain hg fun K hK => ?_
  unfold Oper.wpIn
  refine ⟨by simp [Oper.about, ho], ?_⟩
  rw [Oper.semAt_plain F _ _ (by rw [ho]; intro c hc'; cases hc')]
  unfold execOp
  simp only [ho, hl, hc, Sem.run_bind, hr, Result.andThen_ok]
  exact hK _ _ h
theorem ownFrom_grownr {β : Type} {B : Nat} {w0 : World} {r : Option Nat} (h : w0.heap.size ≤ B) : OwnFrom B (fun (_ : β) W => w0.grownBy W r) := fun s W W' row hs hg hr =>
  ⟨hg.os.trans hs.os, hg.tape.trans hs.tape, hg.output.trans hs.output, Nat.le_trans hs.size hg.size, fun k hk hne => (hg.block k (Nat.lt_of_lt_of_le hk hs.size) (by
    intro e
    have := (hr k e.symm).1
    omega)).trans (hs.block k hk hne)⟩
theorem grown_own_r {a b c : World} {r : Option Nat} {v : Value} {base size : Nat} {e : TypeId} {n : Nat} {xs : List Value} (h : a.grownBy b r) (k : b.grownBy c v.ownBlock) (hv : b.ownsRow base e size v n xs) (hB : a.heap.size ≤ base) : a.grownBy c r := by
  cases hg : v.ownBlock with
  | none => rw [hg] at k; exact grown_trans h (grown_weak k _)
  | some g => rw [hg] at k; exact grown_fresh h k (Nat.le_trans hB (hv.lt g hg).1)
theorem keeps_own {b c : World} {v : Value} {base size : Nat} {e : TypeId} {n : Nat} {xs : List Value} (k : b.grownBy c v.ownBlock) (hv : b.ownsRow base e size v n xs) : KeepsOthers b c :=
  KeepsOthers.of_grownBy k fun j o ej hj => by
    rcases hv.2 with ⟨rfl, _⟩ | ⟨g, cap, cur, rfl, _, hgb, _⟩
    · simp [Value.ownBlock] at ej
    · obtain rfl : g = j := by simpa [Value.ownBlock] using ej
      rw [hgb] at hj; cases hj; rfl
theorem ownFrom_ax {B base : Nat} (p : Nat → Prop) (t : TypeId) (cs : Array Value) : OwnFrom B (fun (_ : Unit) W => ∃ g, base ≤ g ∧ p g ∧ Blk W g t cs) := fun _ _ _ _ hs hg hr => by
  obtain ⟨g, h1, h2, h3⟩ := hs
  exact ⟨g, h1, h2, (grownBy_keeps_cells hg (fun r e => (hr r e).2) h3 rfl).trans h3⟩
theorem range_blk {w : World} {g : Nat} {t : TypeId} {cs : Array Value} (h : Blk w g t cs) : w.rangeAt g 0 cs.toList := fun j v hv => by
  rw [Nat.zero_add, h.cell, ← Array.getElem?_toList]; exact hv
theorem wpList_load_row_w {P : Program} {ops : Array Oper} {rest : List Oper} {o : Oper} {a : Act} {w : World} {Q : Exit → Act → World → Prop} (hw : Region.wanted o (yielded ops a.tmps) = true) (ty : TypeId) (x : Operand) (ho : o.op = .load ty x)
    (g : Nat) (hx : a.eval x = .pointer (some ⟨g, 0, none⟩)) (t : TypeId) (cs : Array Value) (fr : Nat × Nat) (d : TypeDesc) (hg : w.heap[g]? = some (.cells cs t fr))
    (hu : P.underlying ty = some d) (hd : (match d with | .struct _ | .array _ _ => true | _ => false) = true) (hi : (P.info? ty).map (·.size) = some cs.size)
    (h : wpList P ops Q rest (a.put o.dst (.agg cs)) w) : wpList P ops Q (o :: rest) a w :=
  wpList_step fun K hK => by
    rw [if_pos hw]
    unfold Oper.wp execOp
    simp only [ho, hx, Instr.loadAt, Instr.sureAddr, Sem.run_bind, Sem.run_pure, Result.andThen_ok, run_loadVar_row w g t ty cs fr d hg hu hd hi]
    exact hK _ _ h
end Go.Proofs.YtlokjbjpmhfkhaaDoor
/-
  Signatures, and who signed: their cells, rows of them in memory.
-/
namespace Go.Proofs.YtlokjbjpmhfkhaaDoor
open Go.RowKit

/-- A signature's value. -/
def sigV (lf : Int) (c p : Value) : Array Value := #[.int .i64 lf, c, p]
theorem sigV_one (lf : Int) (A1 A2 : Option Addr) (n1 c1 n2 c2 : Nat) : ((sigV lf (.slice A1 n1 c1) (.slice A2 n2 c2)).all fun v => v.oneCell') = true := by simp [sigV, Value.oneCell']
theorem sigV_size (lf : Int) (c p : Value) : (sigV lf c p).size = 3 := rfl
/-- A row of digests, as memory has it. -/
def DigRow (w : World) (A : Option Addr) (n : Nat) (ps : List (List Int)) : Prop := ps.length = n ∧ (∀ p ∈ ps, isDig p) ∧ (n = 0 ∨ ∃ b off, A = some ⟨b, off, none⟩ ∧ DigsAt w b off ps)
theorem DigRow.grown {w w' : World} {A : Option Addr} {n : Nat} {ps : List (List Int)} (h : DigRow w A n ps) (hg : w.grownBy w' none) : DigRow w' A n ps := by
  obtain ⟨h1, h2, h0 | ⟨b, off, e, hD⟩⟩ := h
  · exact ⟨h1, h2, .inl h0⟩
  · exact ⟨h1, h2, .inr ⟨b, off, e, hD.grown hg⟩⟩
/-- A signature with its signer, as memory has it. -/
structure Sg where
  who : Int
  lf : Int
  A1 : Option Addr
  n1 : Nat
  c1 : Nat
  cs : List (List Int)
  A2 : Option Addr
  n2 : Nat
  c2 : Nat
  ps : List (List Int)
def Sg.sig (s : Sg) : Array Value := sigV s.lf (.slice s.A1 s.n1 s.c1) (.slice s.A2 s.n2 s.c2)
def Sg.cells (s : Sg) : Array Value := #[.int .i64 s.who] ++ s.sig
def SgsAt (w : World) (A : Option Addr) (L : List Sg) : Prop := L ≠ [] → ∃ b off, A = some ⟨b, off, none⟩ ∧ ∀ k (h : k < L.length), w.rangeAt b (off + k * 4) L[k].cells.toList
def SgsOk (w : World) (L : List Sg) : Prop := ∀ s ∈ L, DigRow w s.A1 s.n1 s.cs ∧ DigRow w s.A2 s.n2 s.ps
theorem SgsAt.grown {w w' : World} {A : Option Addr} {L : List Sg} (h : SgsAt w A L) (hk : w.grownBy w' none) : SgsAt w' A L := fun hne => by
  obtain ⟨b, off, rfl, hc⟩ := h hne
  exact ⟨b, off, rfl, fun k hk' => range_kept (hc k hk') hk⟩
theorem SgsOk.grown {w w' : World} {L : List Sg} (h : SgsOk w L) (hk : w.grownBy w' none) : SgsOk w' L := fun s hs => ⟨(h s hs).1.grown hk, (h s hs).2.grown hk⟩
theorem range_block {w : World} {b o : Nat} {x : Value} {l : List Value} (h : w.rangeAt b o (x :: l)) : b < w.heap.size := World.block_lt_of_cell? w _ (h 0 x rfl)
theorem sg_one (s : Sg) : (s.cells.all fun v => v.oneCell') = true := by simp [Sg.cells, Sg.sig, sigV, Value.oneCell']
end Go.Proofs.YtlokjbjpmhfkhaaDoor
