/-
  Tally: two rows of numbers that grow side by side (pure memory); the document's tally.
-/
import Derived.Test.YthcilpfcdblmkaaDoorTaArg
import Derived.Test.YthcilpfcdblmkaaDoorTaH
import Derived.Test.YthcilpfcdblmkaaDoorVc
namespace Go.Proofs.YthcilpfcdblmkaaDoor
open Go.RowKit

/-- Two rows made since w, apart from each other and from some cells. -/
def St (w : World) (v6 v7 : Value) (zs ts : List Int) (cs : List (Addr × Value)) (W : World) : Prop :=
  W.ownsRow w.heap.size 3 1 v6 zs.length (zs.map (Value.int .i64)) ∧ W.ownsRow w.heap.size 3 1 v7 ts.length (ts.map (Value.int .i64)) ∧ (∀ g, v6.ownBlock = some g → v7.ownBlock ≠ some g) ∧ Kept (fun j => w.heap.size ≤ j) w W ∧
  ∀ c ∈ cs, W.cell? c.1 = some c.2 ∧ v6.ownBlock ≠ some c.1.block ∧ v7.ownBlock ≠ some c.1.block
section
variable {w W W' : World} {v6 v7 : Value} {zs ts : List Int} {cs : List (Addr × Value)}
theorem own_keptB {base : Nat} {e : TypeId} {size n : Nat} {v : Value} {xs : List Value} {F : Nat → Prop} (h : W.ownsRow base e size v n xs) (hk : Kept F W W') (hF : ∀ g, v.ownBlock = some g → ¬ F g) : W'.ownsRow base e size v n xs := own_kept h hk hF
theorem St.grown (h : St w v6 v7 zs ts cs W) (hg : W.grownBy W' none) : St w v6 v7 zs ts cs W' := by
  obtain ⟨h1, h2, h3, h4, h5⟩ := h
  have hk := Kept.of_grown (F := fun _ => False) hg fun _ e => by cases e
  exact ⟨own_kept h1 hk (fun _ _ h => h), own_kept h2 hk (fun _ _ h => h), h3, h4.next hk (fun _ _ h => h.elim), fun c hc => ⟨hg.cell (h5 c hc).1 (by simp), (h5 c hc).2⟩⟩
theorem St.alloc (h : St w v6 v7 zs ts cs W) (t : TypeId) (a : Array Value) (i : Nat) (v : Value) (hv : a[i]? = some v) : St w v6 v7 zs ts ((⟨W.heap.size, i, none⟩, v) :: cs) (W.alloc (.cells a t)) := by
  obtain ⟨h1, h2, h3, h4, h5⟩ := h.grown (World.grownBy_alloc W (.cells a t) none)
  refine ⟨h1, h2, h3, h4, fun c hc => ?_⟩
  rcases List.mem_cons.1 hc with rfl | hc
  · refine ⟨by rw [(Blk.new W t a).cell]; exact hv, fun e => ?_, fun e => ?_⟩
    · have := (h.1.lt _ e).2; exact absurd this (Nat.lt_irrefl _)
    · have := (h.2.1.lt _ e).2; exact absurd this (Nat.lt_irrefl _)
  · exact h5 c hc
theorem St.drop {c : Addr × Value} (h : St w v6 v7 zs ts (c :: cs) W) : St w v6 v7 zs ts cs W := ⟨h.1, h.2.1, h.2.2.1, h.2.2.2.1, fun d hd => h.2.2.2.2 d (List.mem_cons_of_mem _ hd)⟩
theorem St.none (h : St w v6 v7 zs ts cs W) : St w v6 v7 zs ts [] W := ⟨h.1, h.2.1, h.2.2.1, h.2.2.2.1, fun _ hd => by cases hd⟩
theorem St.at {c : Addr × Value} (h : St w v6 v7 zs ts cs W) (hc : c ∈ cs) : W.cell? c.1 = some c.2 := (h.2.2.2.2 c hc).1
theorem St.push6 {A' : Option Addr} {n' c' : Nat} {z : Int} (h : St w v6 v7 zs ts cs W) (hn : n' = zs.length + 1) (hown : W'.ownsRow w.heap.size 3 1 (.slice A' n' c') n' (zs.map (Value.int .i64) ++ [.int .i64 z])) (hg : W.grownBy W' v6.ownBlock)
    (hat : (Value.slice A' n' c').ownBlock = v6.ownBlock ∨ (Value.slice A' n' c').ownBlock = some W.heap.size) : St w (.slice A' n' c') v7 (zs ++ [z]) ts cs W' := by
  subst hn
  obtain ⟨h1, h2, h3, h4, h5⟩ := h
  have hk := Kept.of_grown (F := fun j => v6.ownBlock = some j) hg (fun j e => e)
  refine ⟨by rw [List.length_append, List.length_singleton, List.map_append]; exact hown, own_kept h2 hk (fun g e1 e2 => h3 g e2 e1), fun g e1 e2 => ?_, h4.next hk (fun j _ e => (h1.lt j e).1), fun c hc => ⟨?_, fun e => ?_, (h5 c hc).2.2⟩⟩
  · rcases hat with h | h
    · exact h3 g (h.symm.trans e1) e2
    · have e3 := (h.symm.trans e1); injection e3 with e3; have := (h2.lt g e2).2; omega
  · exact hk.cell (h5 c hc).1 (h5 c hc).2.1
  · rcases hat with h | h
    · exact (h5 c hc).2.1 (h.symm.trans e)
    · have e3 := (h.symm.trans e); injection e3 with e3; have := World.block_lt_of_cell? W _ (h5 c hc).1; omega
theorem St.push7 {A' : Option Addr} {n' c' : Nat} {z : Int} (h : St w v6 v7 zs ts cs W) (hn : n' = ts.length + 1) (hown : W'.ownsRow w.heap.size 3 1 (.slice A' n' c') n' (ts.map (Value.int .i64) ++ [.int .i64 z])) (hg : W.grownBy W' v7.ownBlock)
    (hat : (Value.slice A' n' c').ownBlock = v7.ownBlock ∨ (Value.slice A' n' c').ownBlock = some W.heap.size) : St w v6 (.slice A' n' c') zs (ts ++ [z]) cs W' := by
  subst hn
  obtain ⟨h1, h2, h3, h4, h5⟩ := h
  have hk := Kept.of_grown (F := fun j => v7.ownBlock = some j) hg (fun j e => e)
  refine ⟨own_kept h1 hk (fun g e1 e2 => h3 g e1 e2), by rw [List.length_append, List.length_singleton, List.map_append]; exact hown, fun g e1 e2 => ?_, h4.next hk (fun j _ e => (h2.lt j e).1), fun c hc => ⟨?_, (h5 c hc).2.1, fun e => ?_⟩⟩
  · rcases hat with h | h
    · exact h3 g e1 (h.symm.trans e2)
    · have e3 := (h.symm.trans e2); injection e3 with e3; have := (h1.lt g e1).2; omega
  · exact hk.cell (h5 c hc).1 (h5 c hc).2.2
  · rcases hat with h | h
    · exact (h5 c hc).2.2 (h.symm.trans e)
    · have e3 := (h.symm.trans e); injection e3 with e3; have := World.block_lt_of_cell? W _ (h5 c hc).1; omega
end
/-- append of one element of one cell: in any order. -/
theorem wp_push_one {P : Program} (w : World) {o : Oper} {a : Act} {K : Act → World → Prop} {Q : Exit → Act → World → Prop}
    (s x : Operand) (t : TypeId) (ho : o.op = Op.call { callee := Callee.builtin Builtin.append, args := #[s, x], argTypes := #[t, t] })
    (base : Nat) (e : TypeId) (i : TypeInfo) (z : Value) (bytes : Nat) (ht : P.underlying t = some (.slice e)) (hi : P.info? e = some i) (hz : i.zero = some z) (hsize : i.size = 1) (hby : i.bytes = bytes) (hzs : z.cells.size = 1)
    (v : Value) (n : Nat) (xs : List Value) (hs : a.eval s = v) (hown : w.ownsRow base e 1 v n xs) (ad : Addr) (c : Nat) (u : Value) (hx : a.eval x = .slice (some ad) 1 c) (hcell : w.cell? ad = some u) (hu : u.oneCell' = true) (h63 : n + 1 ≤ 1000000000) (hb : bytes ≤ 100) (hbase : base ≤ w.heap.size)
    (h : ∀ A' cap' w', w'.ownsRow base e 1 (.slice A' (n + 1) cap') (n + 1) (xs ++ [u]) → w.grownBy w' v.ownBlock → ((Value.slice A' (n + 1) cap').ownBlock = v.ownBlock ∨ (Value.slice A' (n + 1) cap').ownBlock = some w.heap.size) → K (a.put o.dst (.slice A' (n + 1) cap')) w') : o.wp P a w K Q := by
  have hcells : ∀ j v, [u][j]? = some v → w.cell? (ad.add j) = some v := by
    intro j v hv
    rcases j with _ | j
    · simp at hv; subst hv; simpa [Addr.add] using hcell
    · simp at hv
  obtain ⟨v', w', hrun, h2, h3, _, h5⟩ := run_append_own_at (P := P) w base t o.type e i z 1 bytes ht hi hz hsize hby hzs (by omega) v n xs hown ad 1 c [u] (by simp) hcells (by intro v hv; simp at hv; subst hv; exact hu) (by unfold maxLen; omega)
    (Nat.le_trans (Nat.mul_le_mul h63 hb) (by omega)) hbase
  obtain ⟨A', cap', rfl⟩ := own_slice w' h2
  unfold Oper.wp execOp
  simp [ho, resolve, invoke, builtin, hs, hx, hrun, Result.andThen, Sem.run_bind, Sem.run_pure]
  exact h A' cap' w' h2 h3 h5

/-! ### what the words say of a key, put together -/
def partM (ms : List Wm) (key : Int) (i j : Nat) : List (Nat × Int) := ((ms.take j).filter fun m => decide (m.who = (i : Int)) && decide (m.key = key)).map fun m => (i, m.thing)
theorem saidM_succ (ms : List Wm) (key : Int) (i : Nat) : saidM ms key (i + 1) = saidM ms key i ++ partM ms key i ms.length := by
  rw [saidM, List.range_succ, List.flatMap_append, ← saidM, partM, List.take_length]; simp
theorem partM_yes {ms : List Wm} {key : Int} {i j : Nat} (hj : j < ms.length) (h1 : ms[j].who = (i : Int)) (h2 : ms[j].key = key) : partM ms key i (j + 1) = partM ms key i j ++ [(i, ms[j].thing)] := by
  rw [partM, ← List.take_append_getElem hj, List.filter_append, List.map_append, partM]; simp [h1, h2]
theorem partM_no {ms : List Wm} {key : Int} {i j : Nat} (hj : j < ms.length) (h : ¬ (ms[j].who = (i : Int) ∧ ms[j].key = key)) : partM ms key i (j + 1) = partM ms key i j := by
  rw [partM, ← List.take_append_getElem hj, List.filter_append, List.map_append, partM]
  have : (decide (ms[j].who = (i : Int)) && decide (ms[j].key = key)) = false := by
    rw [Bool.eq_false_iff]; intro h2; simp at h2; exact h h2
  simp [this]
theorem partM_length (ms : List Wm) (key : Int) (i j : Nat) : (partM ms key i j).length ≤ ms.length := by
  rw [partM, List.length_map]
  exact Nat.le_trans (List.length_filter_le _ _) (by rw [List.length_take]; omega)
theorem saidM_length (ms : List Wm) (key : Int) : ∀ n, (saidM ms key n).length ≤ n * ms.length
  | 0 => by simp [saidM]
  | n + 1 => by
    rw [saidM_succ, List.length_append, Nat.succ_mul]
    exact Nat.add_le_add (saidM_length ms key n) (partM_length _ _ _ _)
def fstL (l : List (Nat × Int)) : List Int := l.map fun x => (x.1 : Int)
def sndL (l : List (Nat × Int)) : List Int := l.map (·.2)

/-! ### the document's tally -/
def Mod (w : World) (lo hi m : Nat) (V : List Vd) (ms : List Wm) : Prop :=
  hi ≤ m ∧ keysOk V ∧ ∃ (A : Option Addr) (c : Nat) (A2 : Option Addr) (c2 : Nat), Blk w m 34 #[.slice A V.length c, .slice A2 ms.length c2] ∧ VdsAt w A V ∧ V.length ≤ c ∧ w.ownsRow hi 36 3 (.slice A2 ms.length c2) ms.length (ms.flatMap Wm.cells) ∧ (∀ a, A2 = some a → a.block ≠ m) ∧ (∀ a, A = some a → V ≠ [] → a.block < lo ∧ lo ≤ hi)
/-- The blocks that a word put touches. -/
def Tch (w : World) (m j : Nat) : Prop := j = m ∨ ∃ (A2 : Option Addr) (n c2 : Nat), w.cell? ⟨m, 1, none⟩ = some (.slice A2 n c2) ∧ (Value.slice A2 n c2).ownBlock = some j
theorem Wm.cells_length (z : Wm) : z.cells.length = 3 := rfl
section
variable {w w' : World} {lo hi m : Nat} {V : List Vd} {ms : List Wm}
theorem Mod.kept {F : Nat → Prop} (h : Mod w lo hi m V ms) (hk : Kept F w w') (hF : ∀ k, F k → k < hi ∧ lo ≤ k) : Mod w' lo hi m V ms := by
  obtain ⟨h1, h2, A, c, A2, c2, h3, h4, h5, h6, h7, h8⟩ := h
  exact ⟨h1, h2, A, c, A2, c2, h3.kept hk (fun h => by have := hF _ h; omega), fun hne => (h4.kept hk (fun a e h => by have := hF _ h; have := h8 a e hne; omega)) hne, h5, own_kept h6 hk (fun g e h => by have := hF _ h; have := (h6.lt g e).1; omega), h7, h8⟩
theorem Mod.grown (h : Mod w lo hi m V ms) (hg : w.grownBy w' none) : Mod w' lo hi m V ms :=
  h.kept (Kept.of_grown (F := fun _ => False) hg fun _ e => by cases e) (fun _ h => h.elim)
/-- The words as they lie. -/
theorem Mod.words (h : Mod w lo hi m V ms) : ∃ (A2 : Option Addr) (c2 : Nat), w.cell? ⟨m, 1, none⟩ = some (.slice A2 ms.length c2) ∧ (ms ≠ [] → ∃ g, A2 = some ⟨g, 0, none⟩ ∧ ∀ k (hk : k < ms.length) j v, (ms[k].cells)[j]? = some v → w.cell? ⟨g, k * 3 + j, none⟩ = some v) := by
  obtain ⟨h1, h2, A, c, A2, c2, h3, h4, h5, h6, h7⟩ := h
  refine ⟨A2, c2, h3.cell 1, fun hne => ?_⟩
  have hl := List.length_pos_iff.2 hne
  obtain ⟨g, cap, hv⟩ := Joins.ownsRow_form h6 hl
  have hA : A2 = some ⟨g, 0, none⟩ := by injection hv
  subst hA
  refine ⟨g, rfl, fun k hk j v hj => ?_⟩
  have hj3 : j < 3 := by have := (List.getElem?_eq_some_iff.1 hj).1; rwa [Wm.cells_length] at this
  have h := h6.cells (g := g) rfl (k * 3 + j) v (by rw [flat3 Wm.cells Wm.cells_length ms k hk j hj3]; exact hj)
  rwa [Go.WideShapes.add_plain, Nat.zero_add] at h
end
end Go.Proofs.YthcilpfcdblmkaaDoor
