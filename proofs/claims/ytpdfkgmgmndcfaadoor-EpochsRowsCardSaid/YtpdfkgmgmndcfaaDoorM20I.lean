/-
  Several texts in one: Grow, Ge.
-/
import Derived.Test.YtpdfkgmgmndcfaaDoorM20a
import Derived.BigQuiet
import Derived.Test.YtpdfkgmgmndcfaaDoorM20H
import Derived.Test.YtpdfkgmgmndcfaaDoorM20C
/-
  A region that draws its order and holds calls which only make new memory: one walk in the order of the text serves every order. The class of worlds: those that have grown from the one at the region's head.
-/
namespace Go.Proofs.YtpdfkgmgmndcfaaDoor
open Go.RowKit

def Gr (w : World) : Type := { z : World // w.grownBy z none }
instance (w : World) : Nonempty (Gr w) := ⟨⟨w, World.grownBy.refl w none⟩⟩
theorem Gr.cell {w : World} {a : Addr} {v : Value} (h : w.cell? a = some v) : ∀ z : Gr w, z.1.cell? a = some v := fun z => z.2.cell h (by simp)
theorem wp_region_grown {P : Program} {id : Nat} {Q : Exit → Act → World → Prop} {a : Act} {w : World} {l : List Oper} (hm : P.follows .mixedOrders = true) (hB : Region.lexB .any l.toArray = true)
    (h : wpQuiet P l.toArray (fun w' => ∃ z : Gr w, w' = z.1) (fun a' => ∀ w', (∃ z : Gr w, w' = z.1) → Q .normal a' w') l a) : (Code.region id l.toArray true).wp P Q a w :=
  wp_region_quiet (C := fun w' => ∃ z : Gr w, w' = z.1) hm hB ⟨⟨w.drew, grown_drew (World.grownBy.refl w none)⟩, rfl⟩ (by simpa using h)
theorem Calls.grown {P : Program} {f : FuncId} {args : Array Value} {w : World} (z : Gr w) {v : Value} (h : Calls P f args z.1 fun e w' => e = .returned v ∧ z.1.grownBy w' none) :
    Calls P f args z.1 fun e w'' => e = .returned v ∧ ∃ z' : Gr w, w'' = z'.1 :=
  h.mono fun _ w' ⟨he, hk⟩ => ⟨he, ⟨w', grown_trans z.2 hk⟩, rfl⟩
/-- A row by value, in such a region: its value in every world of the class. -/
theorem wpQuiet_load_row {P : Program} {ops : Array Oper} {C : World → Prop} {Q : Act → Prop} {a : Act} {o : Oper} {rest : List Oper} (ty : TypeId) (x : Operand) (p : Addr) (v : Value) (hw : Region.wanted o (yielded ops a.tmps) = true) (ho : o.op = .load ty x) (hx : a.eval x = .pointer (some p))
    (hr : ∀ V, C V → (Instr.loadAt ty (.pointer (some p))).run P V = .ok v V) (h : wpQuiet P ops C Q rest (a.put o.dst v)) : wpQuiet P ops C Q (o :: rest) a := by
  refine wpQuiet_step fun K hK => ?_
  rw [if_pos hw]
  refine ⟨v, fun w hC => ?_, hK _ h⟩
  unfold Oper.quietAt execOp
  simp only [ho, hx, Sem.run_bind, hr w hC, Result.andThen_ok, Sem.run_pure]
  exact ⟨rfl, rfl⟩
end Go.Proofs.YtpdfkgmgmndcfaaDoor
/-
  What the walks share, of no package.
-/
namespace Go.Proofs.YtpdfkgmgmndcfaaDoor
open Go.RowKit Go.Shelf

theorem Kept.next {F G : Nat → Prop} {a b c : World} (h : Kept F a b) (k : Kept G b c) (hF : ∀ k, k < a.heap.size → G k → F k) : Kept F a c :=
  ⟨k.os.trans h.os, k.tape.trans h.tape, k.output.trans h.output, Nat.le_trans h.size k.size, fun i hi hn => (k.block i (Nat.lt_of_lt_of_le hi h.size) (fun hg => hn (hF i hi hg))).trans (h.block i hi hn)⟩

theorem own_cell {w : World} {base : Nat} {e : TypeId} {n g c : Nat} {cells : List Value} (h : w.ownsRow base e 1 (.slice (some ⟨g, 0, none⟩) n c) n cells) {j : Nat} {u : Value} (hj : cells[j]? = some u) : w.cell? ⟨g, j, none⟩ = some u := by
  have h3 := h.cells (g := g) rfl j u hj
  rwa [Go.WideShapes.add_plain, Nat.zero_add] at h3
/-- The block of a slice's address. -/
def atB (A : Option Addr) : Nat → Prop := fun j => ∃ a, A = some a ∧ a.block = j
theorem wpListIn_push_one {F : Fence} {m : Nat} {P : Program} (w : World) {ops : Array Oper} {rest : List Oper} {o : Oper} {a : Act} {Q : Exit → Act → World → Prop}
    (hg : o.guard = none) (s x : Operand) (t : TypeId) (ho : o.op = Op.call { callee := Callee.builtin Builtin.append, args := #[s, x], argTypes := #[t, t] })
    (base : Nat) (e : TypeId) (i : TypeInfo) (z : Value) (bytes : Nat) (ht : P.underlying t = some (.slice e)) (hi : P.info? e = some i) (hz : i.zero = some z) (hsize : i.size = 1) (hby : i.bytes = bytes) (hzs : z.cells.size = 1)
    (v : Value) (n : Nat) (xs : List Value) (hs : a.eval s = v) (hown : w.ownsRow base e 1 v n xs) (ad : Addr) (c : Nat) (u : Value) (hx : a.eval x = .slice (some ad) 1 c) (hcell : w.cell? ad = some u) (hu : u.oneCell' = true) (h63 : n + 1 ≤ 1000000000) (hb : bytes ≤ 100) (hbase : base ≤ w.heap.size)
    (h : ∀ A' cap' w', w'.ownsRow base e 1 (.slice A' (n + 1) cap') (n + 1) (xs ++ [u]) → w.grownBy w' v.ownBlock → ((Value.slice A' (n + 1) cap').ownBlock = v.ownBlock ∨ (Value.slice A' (n + 1) cap').ownBlock = some w.heap.size) → wpListIn F m P ops Q rest (a.put o.dst (.slice A' (n + 1) cap')) w') : wpListIn F m P ops Q (o :: rest) a w := by
  have hcells : ∀ j v, [u][j]? = some v → w.cell? (ad.add j) = some v := by
    intro j v hv
    rcases j with _ | j
    · simp at hv; subst hv; simpa [Addr.add] using hcell
    · simp at hv
  obtain ⟨v', w', hrun, h2, h3, _, h5⟩ := run_append_own_at (P := P) w base t o.type e i z 1 bytes ht hi hz hsize hby hzs (by omega) v n xs hown ad 1 c [u] (by simp) hcells (by intro v hv; simp at hv; subst hv; exact hu) (by unfold maxLen; omega)
    (Nat.le_trans (Nat.mul_le_mul h63 hb) (by omega)) hbase
  obtain ⟨A', cap', rfl⟩ := own_slice w' h2
  refine wpListIn_plain hg fun K hK' => ?_
  unfold Oper.wpIn
  refine ⟨?_, ?_⟩
  · simp [Oper.about, ho, resolve, Target.leads, Sem.run_pure]
  · rw [Oper.semAt_plain F _ _ (by rw [ho]; intro c hc'; cases hc')]
    simp [execOp, ho, resolve, invoke, builtin, hs, hx, hrun, Result.andThen]
    exact hK' _ _ (h A' cap' w' h2 h3 h5)
theorem own_at {A : Option Addr} {n c k : Nat} (h : (Value.slice A n c).ownBlock = some k) : ∃ a, A = some a ∧ a.block = k := by
  rcases A with _ | a
  · simp [Value.ownBlock] at h
  · exact ⟨a, rfl, by simpa [Value.ownBlock] using h⟩
theorem keepsOwn {W W' : World} {base size n : Nat} {e : TypeId} {v : Value} {xs : List Value} (h : W.ownsRow base e size v n xs) (hg : W.grownBy W' v.ownBlock) : KeepsOthers W W' := KeepsOthers.of_grownBy hg (fun j o ej ho => by
  rcases h.2 with ⟨rfl, _⟩ | ⟨g, cap, cur, rfl, _, hh, _⟩
  · simp [Value.ownBlock] at ej
  · have : g = j := by simpa [Value.ownBlock] using ej
    subst this
    rw [hh] at ho
    obtain rfl := Option.some.inj ho
    rfl)
theorem own_same {W W' : World} {base size n : Nat} {e : TypeId} {v : Value} {xs : List Value} (h : W.ownsRow base e size v n xs) (same : ∀ (b : Nat) (o : Obj), W.heap[b]? = some o → o.isCells = true → W'.heap[b]? = some o) : W'.ownsRow base e size v n xs := by
  refine ⟨h.1, ?_⟩
  rcases h.2 with h | ⟨g, cap, cur, hv, hb, hh, r⟩
  · exact .inl h
  · exact .inr ⟨g, cap, cur, hv, hb, same g _ hh rfl, r⟩
theorem cells_same {W W' : World} {row : Option Nat} (hg : W.grownBy W' row) (hr : ∀ r, row = some r → ∃ o : Obj, W.heap[r]? = some o ∧ o.isCells = false) : ∀ (b : Nat) (o : Obj), W.heap[b]? = some o → o.isCells = true → W'.heap[b]? = some o := fun b o ho hc =>
  (hg.block b (Array.getElem?_eq_some_iff.1 ho).1 (fun e => by
    obtain ⟨o', h1, h2⟩ := hr b e.symm
    rw [ho] at h1
    injection h1 with h1
    subst h1
    rw [hc] at h2
    cases h2)).trans ho
/-- Blocks of cells from lo up to hi stay. -/
def Still (lo hi : Nat) (A B : World) : Prop := A.heap.size ≤ B.heap.size ∧ ∀ b o, lo ≤ b → b < hi → A.heap[b]? = some o → o.isCells = true → B.heap[b]? = some o
section
variable {A B C : World} {lo hi : Nat}
theorem Still.refl (lo hi : Nat) (A : World) : Still lo hi A A := ⟨Nat.le_refl _, fun _ _ _ _ h _ => h⟩
theorem Still.trans (h : Still lo hi A B) (k : Still lo hi B C) : Still lo hi A C := ⟨Nat.le_trans h.1 k.1, fun b o h1 h2 h3 h4 => k.2 b o h1 h2 (h.2 b o h1 h2 h3 h4) h4⟩
theorem Still.of_kept {F : Nat → Prop} (h : Kept F A B) (hF : ∀ k, F k → ¬ (lo ≤ k ∧ k < hi)) : Still lo hi A B :=
  ⟨h.size, fun b o h1 h2 h3 _ => (h.block b (Array.getElem?_eq_some_iff.1 h3).1 (fun hf => hF b hf ⟨h1, h2⟩)).trans h3⟩
theorem Still.put {l : Nat} {o o' : Obj} (ho : A.heap[l]? = some o) (hc : o.isCells = false) : Still lo hi A (A.putObj l o') :=
  ⟨(grownBy_putObj' A l o').size, fun b q _ _ hq hqc => ((grownBy_putObj' A l o').block b (Array.getElem?_eq_some_iff.1 hq).1 (fun e => by
    have := Option.some.inj e
    subst this
    rw [ho] at hq
    cases hq
    rw [hc] at hqc
    cases hqc)).trans hq⟩
end
theorem ownFrom_ax {B base : Nat} (p : Nat → Prop) (t : TypeId) (cs : Array Value) : OwnFrom B (fun (_ : Unit) W => ∃ g, base ≤ g ∧ p g ∧ Blk W g t cs) := fun _ _ _ _ hs hg hr => by
  obtain ⟨g, h1, h2, h3⟩ := hs
  exact ⟨g, h1, h2, (grownBy_keeps_cells hg (fun r e => (hr r e).2) h3 rfl).trans h3⟩
theorem addr_zero_add (b j : Nat) : (⟨b, 0, none⟩ : Addr).add j = ⟨b, j, none⟩ := by
  have h : ∀ o, (⟨b, o, none⟩ : Addr).add j = ⟨b, o + j, none⟩ := fun o => by simp [Addr.add]
  have := h 0
  rwa [Nat.zero_add] at this
theorem int_info : (Tryd.prog.info? 3).map (fun i => (i.zero, i.size, i.bytes)) = some (some (.int .i64 0), 1, 8) := by kernel_rfl
theorem own_ints {w : World} {base : Nat} {e : TypeId} {n : Nat} {v : Value} {L : List Int} (h : w.ownsRow base e 1 v n (L.map (Value.int .i64))) : ∃ A cap, v = .slice A L.length cap ∧ L.length ≤ cap ∧ IntsAt w A L := by
  have hl : L.length = n := by have := h.1; simpa using this
  subst hl
  rcases h.2 with ⟨hv, h0⟩ | ⟨g, cap, cur, rfl, hb, hg, hnc, _, hsz, htake⟩
  · obtain rfl : L = [] := List.length_eq_zero_iff.1 h0
    exact ⟨none, 0, hv, Nat.le_refl _, fun h => absurd rfl h⟩
  · refine ⟨_, cap, rfl, hnc, fun _ => ⟨_, rfl, fun j hj => ?_⟩⟩
    rw [addr_zero_add, Joins.cell_of_block hg j, ← Array.getElem?_toList]
    have e1 : (cur.toList.take (L.length * 1))[j]? = cur.toList[j]? := by rw [List.getElem?_take, if_pos (by omega)]
    rw [← e1, htake]
    simp [List.getElem?_eq_getElem hj]
theorem flat3 {α : Type} (f : α → List Value) (hf : ∀ x, (f x).length = 3) : ∀ (W : List α) (k : Nat) (hk : k < W.length) (j : Nat), j < 3 → (W.flatMap f)[k * 3 + j]? = (f W[k])[j]?
  | [], _, hk, _, _ => by simp at hk
  | x :: W, 0, _, j, hj => by rw [List.flatMap_cons, Nat.zero_mul, Nat.zero_add, List.getElem?_append_left (by rw [hf]; exact hj)]; rfl
  | x :: W, k + 1, hk, j, hj => by
    rw [List.flatMap_cons, List.getElem?_append_right (by rw [hf]; omega), hf, show (k + 1) * 3 + j - 3 = k * 3 + j by omega, flat3 f hf W k (by simpa using hk) j hj]
    simp
theorem flat3_set {α : Type} (f : α → List Value) (hf : ∀ x, (f x).length = 3) : ∀ (W : List α) (k : Nat) (_ : k < W.length) (x : α), ((W.set k x).flatMap f) = (((W.flatMap f).set (k * 3) ((f x).getD 0 undef)).set (k * 3 + 1) ((f x).getD 1 undef)).set (k * 3 + 2) ((f x).getD 2 undef)
  | [], _, hk, _ => by simp at hk
  | y :: W, 0, _, x => by
    have h1 := hf x
    have h2 := hf y
    match hx : f x, hy : f y, h1, h2 with
    | [a, b, c], [a', b', c'], _, _ => simp [hx, hy]
  | y :: W, k + 1, hk, x => by
    have h2 := hf y
    rw [List.set_cons_succ, List.flatMap_cons, List.flatMap_cons, flat3_set f hf W k (by simpa using hk) x]
    rw [List.set_append_right _ _ (by rw [h2]; omega), List.set_append_right _ _ (by rw [h2]; omega), List.set_append_right _ _ (by rw [h2]; omega)]
    rw [h2, show (k + 1) * 3 - 3 = k * 3 by omega, show (k + 1) * 3 + 1 - 3 = k * 3 + 1 by omega, show (k + 1) * 3 + 2 - 3 = k * 3 + 2 by omega]
theorem flat3_length {α : Type} (f : α → List Value) (hf : ∀ x, (f x).length = 3) : ∀ W : List α, (W.flatMap f).length = W.length * 3
  | [] => rfl
  | x :: W => by rw [List.flatMap_cons, List.length_append, hf, flat3_length f hf W, List.length_cons]; omega
theorem results_tmp2 {fn : Func} {s u : Tmp} (h : fn.results = #[.tmp s, .tmp u]) (tmps : Array Value) (P : Program) (w : World) : (results fn tmps).run P w = .ok (.tuple #[tmps.getD s undef, tmps.getD u undef]) w := by
  simp [results, h]

end Go.Proofs.YtpdfkgmgmndcfaaDoor
