/-
  Several texts in one: GdN, DkP, Ge.
-/
import Derived.Test.YtlokjbjpmhfkhaaDoorM11g
import Derived.Lib.SlKeysI
import Derived.Maps.OwnIn
import Derived.Maps.Views
import Derived.Test.YtlokjbjpmhfkhaaDoorM11a
import Derived.Test.YtlokjbjpmhfkhaaDoorM11k
import Derived.Test.YtlokjbjpmhfkhaaDoorM11v
import Derived.Test.YtlokjbjpmhfkhaaDoorM11B
import Derived.Test.YtlokjbjpmhfkhaaDoorM11z
import Derived.Test.YtlokjbjpmhfkhaaDoorM11n
import Derived.Test.YtlokjbjpmhfkhaaDoorM11m
/-
  Codec: a number as a part of what is signed.
-/

namespace Go.Proofs.YtlokjbjpmhfkhaaDoor
open Go.RowKit

theorem made8 (w : World) : Sem.run Tryd.prog (Instr.makeSlice 25 (.int .i64 8) (.int .i64 8)) w = .ok (.slice (some ⟨w.heap.size, 0, none⟩) 8 8) (w.alloc (.cells #[.int .u8 0, .int .u8 0, .int .u8 0, .int .u8 0, .int .u8 0, .int .u8 0, .int .u8 0, .int .u8 0] 5)) := by
  obtain ⟨i, hi, hz0, hz1, hz2⟩ := info_parts (P := Tryd.prog) (e := 5) (z := .int .u8 0) (size := 1) (bytes := 1) (by kernel_rfl)
  have h := run_make (P := Tryd.prog) w 25 5 i _ Tryd.underlying25 hi hz0 .i64 .i64 8 8 (by omega) (Int.le_refl _) (by rw [hz2]; decide) (by omega)
  rw [hz1] at h
  have e : madeCells (Value.int .u8 0).cells (Int.toNat 8 * 1) = #[.int .u8 0, .int .u8 0, .int .u8 0, .int .u8 0, .int .u8 0, .int .u8 0, .int .u8 0, .int .u8 0] := by kernel_rfl
  rw [e] at h
  exact h
/-- A number's eight bytes, the high one first. -/
def b8 (n : Int) : List Int := [n / 72057594037927936 % 256, n / 281474976710656 % 256, n / 1099511627776 % 256, n / 4294967296 % 256, n / 16777216 % 256, n / 65536 % 256, n / 256 % 256, n % 256]
theorem b8_length (n : Int) : (b8 n).length = 8 := rfl
theorem row_bytesI (w : World) (g : Nat) (xs : List Int) {t : TypeId} (h : Blk w g t (arrV .u8 xs)) : BytesI w (some ⟨g, 0, none⟩) xs := fun _ => ⟨_, rfl, fun j hj => by
  rw [Go.WideShapes.add_plain, Nat.zero_add, h.cell]
  simp [arrV, List.getD, List.getElem?_eq_getElem hj]⟩
set_option maxRecDepth 100000 in
theorem number_is (w : World) (n : Int) (hn : -9223372036854775808 ≤ n ∧ n < 9223372036854775808) :
    Calls Tryd.prog 43 #[.int .i64 n] w fun e w' => e = .returned (.slice (some ⟨w.heap.size, 0, none⟩) 8 8) ∧ BytesI w' (some ⟨w.heap.size, 0, none⟩) (b8 n) ∧ w.grownBy w' none := by
  have hm := made8 w
  go_enter Tryd.func43, Tryd.ntmps43
  go_wp2_with fail
  clear hm
  refine wp_loop_rounds 9 ?_
  rw [rounds_succ]
  go_wp2_with fail
  rw [rounds_succ]
  go_wp2_with fail
  rw [rounds_succ]
  go_wp2_with fail
  rw [rounds_succ]
  go_wp2_with fail
  rw [rounds_succ]
  go_wp2_with fail
  rw [rounds_succ]
  go_wp2_with fail
  rw [rounds_succ]
  go_wp2_with fail
  rw [rounds_succ]
  go_wp2_with fail
  rw [rounds_succ]
  go_wp2_with fail
  go_ret
  exact ⟨rfl, row_bytesI _ _ _ (Blk.new w _ _), World.grownBy_alloc _ _ none⟩
end Go.Proofs.YtlokjbjpmhfkhaaDoor
/-
  Disk (pure): a map of sectors by place, and its keys rising.
-/
namespace Go.Proofs.YtlokjbjpmhfkhaaDoor
open Go.RowKit Go.Maps

/-- A sector's bytes, as a value and as a datum. -/
def secV (r : List Int) : Value := .agg (r.map (Value.int .u8)).toArray
def secD (r : List Int) : DataW Unit := .agg (r.map fun x => .lit (.int .u8 x))
def u8Of : Value → Option Int
  | .int .u8 x => some x
  | _ => none
def secR (n : Nat) : Value → Option (DataW Unit × List MemPlace)
  | .agg cs => (cs.toList.mapM u8Of).bind fun r => if r.length = n then some (secD r, []) else none
  | _ => none
theorem u8s_mk (r : List Int) : (r.map (Value.int .u8)).mapM u8Of = some r := by
  induction r with
  | nil => rfl
  | cons x r ih => rw [List.map_cons, List.mapM_cons, ih]; rfl
theorem u8s_inv : ∀ {cs : List Value} {r : List Int}, cs.mapM u8Of = some r → cs = r.map (Value.int .u8)
  | [], r, h => by
    rw [List.mapM_nil] at h
    injection h with h
    subst h; rfl
  | c :: cs, r, h => by
    rw [List.mapM_cons] at h
    obtain ⟨x, hx, h⟩ := Option.bind_eq_some_iff.1 h
    obtain ⟨r', hr, h⟩ := Option.bind_eq_some_iff.1 h
    injection h with h
    subst h
    rw [List.map_cons, u8s_inv hr]
    congr 1
    unfold u8Of at hx
    split at hx
    · injection hx with hx; rw [hx]
    · cases hx
theorem secR_mk {n : Nat} {r : List Int} (h : r.length = n) : secR n (secV r) = some (secD r, []) := by
  simp only [secR, secV]
  rw [u8s_mk]
  simp [h]
theorem secR_inv {n : Nat} {v : Value} {z : DataW Unit × List MemPlace} (h : secR n v = some z) : ∃ r, r.length = n ∧ v = secV r ∧ z = (secD r, []) := by
  unfold secR at h
  split at h
  · rename_i cs
    obtain ⟨r, hr, h⟩ := Option.bind_eq_some_iff.1 h
    split at h
    · rename_i hl
      injection h with h
      refine ⟨r, hl, ?_, h.symm⟩
      rw [secV, ← u8s_inv hr]
    · cases h
  · cases h
theorem secD_inj {r s : List Int} (h : secD r = secD s) : r = s := by
  unfold secD at h
  injection h with h
  have hf : (fun x => (DataW.lit (.int .u8 x) : DataW Unit)).Injective := fun a b e => by injection e with e; injection e
  induction r generalizing s with
  | nil => cases s with
    | nil => rfl
    | cons y s => cases h
  | cons x r ih => cases s with
    | nil => cases h
    | cons y s =>
      rw [List.map_cons, List.map_cons] at h
      injection h with h1 h2
      rw [hf h1, ih h2]
/-- What the map holds, place by place. -/
def MapOf (D : DataW Unit) (wr : List (Option (List Int))) : Prop :=
  IsMap D ∧ (∀ x : Int, has D (.int .i64 x) = true → ∃ i : Nat, i < wr.length ∧ x = (i : Int)) ∧
  ∀ i (h : i < wr.length), (wr[i] = none → has D (.int .i64 (i : Int)) = false) ∧ (∀ r, wr[i] = some r → has D (.int .i64 (i : Int)) = true ∧ ∀ z, D.atKey (.int .i64 (i : Int)) z = secD r)
theorem mapOf_empty (n : Nat) : MapOf (.map []) (List.replicate n none) :=
  ⟨⟨_, rfl⟩, fun x h => by simp [has] at h, fun i h => ⟨fun _ => by simp [has], fun r hr => by simp at hr⟩⟩
theorem mapOf_put {D : DataW Unit} {wr : List (Option (List Int))} (h : MapOf D wr) {i : Nat} (hi : i < wr.length) (r : List Int) : MapOf (D.put (.int .i64 (i : Int)) (secD r)) (wr.set i (some r)) := by
  have hk : WideAt.IsKeyLit (.int .i64 (i : Int)) := trivial
  have ne : ∀ {x : Int}, x ≠ (i : Int) → Lit.int .i64 x ≠ .int .i64 (i : Int) := fun hx e => hx (by injection e)
  refine ⟨(by obtain ⟨es, rfl⟩ := h.1; exact ⟨_, rfl⟩), fun x hx => ?_, fun j hj => ?_⟩
  · rw [List.length_set]
    by_cases e : x = (i : Int)
    · exact ⟨i, hi, e⟩
    · rw [has_put_other (ne e)] at hx
      exact h.2.1 x hx
  · rw [List.length_set] at hj
    by_cases e : j = i
    · subst e
      rw [List.getElem_set_self]
      exact ⟨fun h => (by cases h), fun r' hr => by injection hr with hr; subst hr; exact ⟨has_put_same h.1 hk _, fun z => atKey_put_same h.1 hk _ z⟩⟩
    · have e2 : (j : Int) ≠ (i : Int) := fun h => e (by omega)
      rw [List.getElem_set_ne (fun h => e h.symm), has_put_other (ne e2)]
      exact ⟨(h.2.2 j hj).1, fun r' hr => ⟨((h.2.2 j hj).2 r' hr).1, fun z => by rw [atKey_put_other (ne e2)]; exact ((h.2.2 j hj).2 r' hr).2 z⟩⟩
theorem mapOf_has {D : DataW Unit} {wr : List (Option (List Int))} (h : MapOf D wr) {i : Nat} (hi : i < wr.length) : has D (.int .i64 (i : Int)) = wr[i].isSome := by
  cases e : wr[i] with
  | none => rw [(h.2.2 i hi).1 e]; rfl
  | some r => rw [((h.2.2 i hi).2 r e).1]; rfl
/-- The places with something written, rising. -/
def dirtyL (wr : List (Option (List Int))) : List Int := ((List.range wr.length).filter fun i => (wr[i]?.join).isSome).map fun i : Nat => (i : Int)
theorem mem_dirtyL {wr : List (Option (List Int))} {x : Int} : x ∈ dirtyL wr ↔ ∃ i : Nat, ∃ h : i < wr.length, x = (i : Int) ∧ wr[i].isSome = true := by
  unfold dirtyL
  rw [List.mem_map]
  constructor
  · rintro ⟨i, hi, rfl⟩
    obtain ⟨h1, h2⟩ := List.mem_filter.1 hi
    have h1 := List.mem_range.1 h1
    exact ⟨i, h1, rfl, by rwa [List.getElem?_eq_getElem h1] at h2⟩
  · rintro ⟨i, h, rfl, h2⟩
    exact ⟨i, List.mem_filter.2 ⟨List.mem_range.2 h, by rw [List.getElem?_eq_getElem h]; exact h2⟩, rfl⟩
theorem dirtyL_rises (wr : List (Option (List Int))) : (dirtyL wr).Pairwise (· < ·) :=
  List.pairwise_map.2 ((List.pairwise_lt_range.filter _).imp fun h => by omega)
theorem dirtyL_length_le (wr : List (Option (List Int))) : (dirtyL wr).length ≤ wr.length := by
  unfold dirtyL
  rw [List.length_map]
  exact Nat.le_trans (List.length_filter_le _ _) (by simp)
theorem keys_dirty {P : Program} {k : TypeId} {R : Value → Option (DataW Unit × List MemPlace)} {w : World} {b n : Nat} {D : DataW Unit} (hown : w.ownsMap P k R b n D) (K : Keyed P k) (hk : P.underlying k = some (.int .i64)) {wr : List (Option (List Int))} (h : MapOf D wr) {ss : List Int} (hp : ss.Perm (intKeys D)) : ss.mergeSort (fun x y => decide (x ≤ y)) = dirtyL wr := by
  have hc : CollectedI D (fun _ => false) (dirtyL wr) := ⟨(dirtyL_rises wr).imp fun h => by omega, fun x => by
    rw [mem_dirtyL]
    constructor
    · rintro ⟨i, hi, rfl, h2⟩
      exact ⟨by rw [mapOf_has h hi, h2], rfl⟩
    · rintro ⟨h1, _⟩
      obtain ⟨i, hi, rfl⟩ := h.2.1 x h1
      exact ⟨i, hi, rfl, by rw [← mapOf_has h hi]; exact h1⟩⟩
  have hp2 := hc.perm hown K hk (fun _ => rfl)
  have e := mergeSort_of_perm_i (hp.trans hp2.symm)
  show ss.mergeSort leI = _
  rw [e]
  refine List.mergeSort_of_pairwise ((dirtyL_rises wr).imp fun h => ?_)
  simp only [leI, decide_eq_true_eq]
  omega
theorem size_dirty {P : Program} {k : TypeId} {R : Value → Option (DataW Unit × List MemPlace)} {w : World} {b n : Nat} {D : DataW Unit} (hown : w.ownsMap P k R b n D) (K : Keyed P k) (hk : P.underlying k = some (.int .i64)) {wr : List (Option (List Int))} (h : MapOf D wr) : Maps.size D ≤ wr.length := by
  have hl : ∀ ss : List Int, ss.Perm (intKeys D) → ss.length ≤ wr.length := fun ss hp => by
    rw [← List.length_mergeSort (le := fun x y => decide (x ≤ y)) ss, keys_dirty hown K hk h hp]
    exact dirtyL_length_le wr
  obtain ⟨es, rfl⟩ := h.1
  have := hl _ (List.Perm.refl _)
  rwa [intKeys, List.length_map] at this
end Go.Proofs.YtlokjbjpmhfkhaaDoor
/-
  What the walks share, of no package.
-/
namespace Go.Proofs.YtlokjbjpmhfkhaaDoor
open Go.RowKit Go.Shelf

theorem Kept.next {F G : Nat → Prop} {a b c : World} (h : Kept F a b) (k : Kept G b c) (hF : ∀ k, k < a.heap.size → G k → F k) : Kept F a c :=
  ⟨k.os.trans h.os, k.tape.trans h.tape, k.output.trans h.output, Nat.le_trans h.size k.size, fun i hi hn => (k.block i (Nat.lt_of_lt_of_le hi h.size) (fun hg => hn (hF i hi hg))).trans (h.block i hi hn)⟩

theorem own_cell {w : World} {base : Nat} {e : TypeId} {n g c : Nat} {cells : List Value} (h : w.ownsRow base e 1 (.slice (some ⟨g, 0, none⟩) n c) n cells) {j : Nat} {u : Value} (hj : cells[j]? = some u) : w.cell? ⟨g, j, none⟩ = some u := by
  have h3 := h.cells (g := g) rfl j u hj
  rwa [Go.WideShapes.add_plain, Nat.zero_add] at h3
/-- The block of a slice's address. -/
def atB (A : Option Addr) : Nat → Prop := fun j => ∃ a, A = some a ∧ a.block = j
theorem wpListIn_push_one {F : Fence} {m : Nat} {P : Program} (w : World) {ops : Array Oper} {rest : List Oper} {o : Oper} {a : Act} {Q : Exit → Act → World → Prop}
    (hg : o.guard = none) (s x : Operand) (t : TypeId) (ho : o.op = Op.call { callee := Callee.builtin Builtin.append, args := #[s, x], argTypes := #[t, t] })
    (base : Nat) (e : TypeId) (i : TypeInfo) (z : Value) (bytes : Nat) (ht : P.underlying t = some (.slice e)) (hi : P.info? e = some i) (hz : i.zero = some z) (hsize : i.size = 1) (hby : i.bytes = bytes) (hzs : z.cells.size = 1)
    (v : Value) (n : Nat) (xs : List Value) (hs : a.eval s = v) (hown : w.ownsRow base e 1 v n xs) (ad : Addr) (c : Nat) (u : Value) (hx : a.eval x = .slice (some ad) 1 c) (hcell : w.cell? ad = some u) (hu : u.oneCell' = true) (h63 : n + 1 ≤ 1000000000) (hb : bytes ≤ 100) (hbase : base ≤ w.heap.size)
    (h : ∀ A' cap' w', w'.ownsRow base e 1 (.slice A' (n + 1) cap') (n + 1) (xs ++ [u]) → w.grownBy w' v.ownBlock → ((Value.slice A' (n + 1) cap').ownBlock = v.ownBlock ∨ (Value.slice A' (n + 1) cap').ownBlock = some w.heap.size) → wpListIn F m P ops Q rest (a.put o.dst (.slice A' (n + 1) cap')) w') : wpListIn F m P ops Q (o :: rest) a w := by
  have hcells : ∀ j v, [u][j]? = some v → w.cell? (ad.add j) = some v := by
    intro j v hv
    rcases j with _ | j
    · simp at hv; subst hv; simpa [Addr.add] using hcell
    · simp at hv
  obtain ⟨v', w', hrun, h2, h3, _, h5⟩ := run_append_own_at (P := P) w base t o.type e i z 1 bytes ht hi hz hsize hby hzs (by omega) v n xs hown ad 1 c [u] (by simp) hcells (by intro v hv; simp at hv; subst hv; exact hu) (by unfold maxLen; omega)
    (Nat.le_trans (Nat.mul_le_mul h63 hb) (by omega)) hbase
  obtain ⟨A', cap', rfl⟩ := own_slice w' h2
  refine wpListIn_plain hg fun K hK' => ?_
  unfold Oper.wpIn
  refine ⟨?_, ?_⟩
  · simp [Oper.about, ho, resolve, Target.leads, Sem.run_pure]
  · rw [Oper.semAt_plain F _ _ (by rw [ho]; intro c hc'; cases hc')]
    simp [execOp, ho, resolve, invoke, builtin, hs, hx, hrun, Result.andThen]
    exact hK' _ _ (h A' cap' w' h2 h3 h5)
theorem own_at {A : Option Addr} {n c k : Nat} (h : (Value.slice A n c).ownBlock = some k) : ∃ a, A = some a ∧ a.block = k := by
  rcases A with _ | a
  · simp [Value.ownBlock] at h
  · exact ⟨a, rfl, by simpa [Value.ownBlock] using h⟩
theorem keepsOwn {W W' : World} {base size n : Nat} {e : TypeId} {v : Value} {xs : List Value} (h : W.ownsRow base e size v n xs) (hg : W.grownBy W' v.ownBlock) : KeepsOthers W W' := KeepsOthers.of_grownBy hg (fun j o ej ho => by
  rcases h.2 with ⟨rfl, _⟩ | ⟨g, cap, cur, rfl, _, hh, _⟩
  · simp [Value.ownBlock] at ej
  · have : g = j := by simpa [Value.ownBlock] using ej
    subst this
    rw [hh] at ho
    obtain rfl := Option.some.inj ho
    rfl)
theorem own_same {W W' : World} {base size n : Nat} {e : TypeId} {v : Value} {xs : List Value} (h : W.ownsRow base e size v n xs) (same : ∀ (b : Nat) (o : Obj), W.heap[b]? = some o → o.isCells = true → W'.heap[b]? = some o) : W'.ownsRow base e size v n xs := by
  refine ⟨h.1, ?_⟩
  rcases h.2 with h | ⟨g, cap, cur, hv, hb, hh, r⟩
  · exact .inl h
  · exact .inr ⟨g, cap, cur, hv, hb, same g _ hh rfl, r⟩
theorem cells_same {W W' : World} {row : Option Nat} (hg : W.grownBy W' row) (hr : ∀ r, row = some r → ∃ o : Obj, W.heap[r]? = some o ∧ o.isCells = false) : ∀ (b : Nat) (o : Obj), W.heap[b]? = some o → o.isCells = true → W'.heap[b]? = some o := fun b o ho hc =>
  (hg.block b (Array.getElem?_eq_some_iff.1 ho).1 (fun e => by
    obtain ⟨o', h1, h2⟩ := hr b e.symm
    rw [ho] at h1
    injection h1 with h1
    subst h1
    rw [hc] at h2
    cases h2)).trans ho
/-- Blocks of cells from lo up to hi stay. -/
def Still (lo hi : Nat) (A B : World) : Prop := A.heap.size ≤ B.heap.size ∧ ∀ b o, lo ≤ b → b < hi → A.heap[b]? = some o → o.isCells = true → B.heap[b]? = some o
section
variable {A B C : World} {lo hi : Nat}
theorem Still.refl (lo hi : Nat) (A : World) : Still lo hi A A := ⟨Nat.le_refl _, fun _ _ _ _ h _ => h⟩
theorem Still.trans (h : Still lo hi A B) (k : Still lo hi B C) : Still lo hi A C := ⟨Nat.le_trans h.1 k.1, fun b o h1 h2 h3 h4 => k.2 b o h1 h2 (h.2 b o h1 h2 h3 h4) h4⟩
theorem Still.of_kept {F : Nat → Prop} (h : Kept F A B) (hF : ∀ k, F k → ¬ (lo ≤ k ∧ k < hi)) : Still lo hi A B :=
  ⟨h.size, fun b o h1 h2 h3 _ => (h.block b (Array.getElem?_eq_some_iff.1 h3).1 (fun hf => hF b hf ⟨h1, h2⟩)).trans h3⟩
theorem Still.put {l : Nat} {o o' : Obj} (ho : A.heap[l]? = some o) (hc : o.isCells = false) : Still lo hi A (A.putObj l o') :=
  ⟨(grownBy_putObj' A l o').size, fun b q _ _ hq hqc => ((grownBy_putObj' A l o').block b (Array.getElem?_eq_some_iff.1 hq).1 (fun e => by
    have := Option.some.inj e
    subst this
    rw [ho] at hq
    cases hq
    rw [hc] at hqc
    cases hqc)).trans hq⟩
end
theorem own_ints {w : World} {base : Nat} {e : TypeId} {n : Nat} {v : Value} {L : List Int} (h : w.ownsRow base e 1 v n (L.map (Value.int .i64))) : ∃ A cap, v = .slice A L.length cap ∧ L.length ≤ cap ∧ IntsAt w A L := by
  have hl : L.length = n := by have := h.1; simpa using this
  subst hl
  rcases h.2 with ⟨hv, h0⟩ | ⟨g, cap, cur, rfl, hb, hg, hnc, _, hsz, htake⟩
  · obtain rfl : L = [] := List.length_eq_zero_iff.1 h0
    exact ⟨none, 0, hv, Nat.le_refl _, fun h => absurd rfl h⟩
  · refine ⟨_, cap, rfl, hnc, fun _ => ⟨_, rfl, fun j hj => ?_⟩⟩
    rw [addr_zero_add, Joins.cell_of_block hg j, ← Array.getElem?_toList]
    have e1 : (cur.toList.take (L.length * 1))[j]? = cur.toList[j]? := by rw [List.getElem?_take, if_pos (by omega)]
    rw [← e1, htake]
    simp [List.getElem?_eq_getElem hj]
theorem flat3 {α : Type} (f : α → List Value) (hf : ∀ x, (f x).length = 3) : ∀ (W : List α) (k : Nat) (hk : k < W.length) (j : Nat), j < 3 → (W.flatMap f)[k * 3 + j]? = (f W[k])[j]?
  | [], _, hk, _, _ => by simp at hk
  | x :: W, 0, _, j, hj => by rw [List.flatMap_cons, Nat.zero_mul, Nat.zero_add, List.getElem?_append_left (by rw [hf]; exact hj)]; rfl
  | x :: W, k + 1, hk, j, hj => by
    rw [List.flatMap_cons, List.getElem?_append_right (by rw [hf]; omega), hf, show (k + 1) * 3 + j - 3 = k * 3 + j by omega, flat3 f hf W k (by simpa using hk) j hj]
    simp
theorem flat3_set {α : Type} (f : α → List Value) (hf : ∀ x, (f x).length = 3) : ∀ (W : List α) (k : Nat) (_ : k < W.length) (x : α), ((W.set k x).flatMap f) = (((W.flatMap f).set (k * 3) ((f x).getD 0 undef)).set (k * 3 + 1) ((f x).getD 1 undef)).set (k * 3 + 2) ((f x).getD 2 undef)
  | [], _, hk, _ => by simp at hk
  | y :: W, 0, _, x => by
    have h1 := hf x
    have h2 := hf y
    match hx : f x, hy : f y, h1, h2 with
    | [a, b, c], [a', b', c'], _, _ => simp [hx, hy]
  | y :: W, k + 1, hk, x => by
    have h2 := hf y
    rw [List.set_cons_succ, List.flatMap_cons, List.flatMap_cons, flat3_set f hf W k (by simpa using hk) x]
    rw [List.set_append_right _ _ (by rw [h2]; omega), List.set_append_right _ _ (by rw [h2]; omega), List.set_append_right _ _ (by rw [h2]; omega)]
    rw [h2, show (k + 1) * 3 - 3 = k * 3 by omega, show (k + 1) * 3 + 1 - 3 = k * 3 + 1 by omega, show (k + 1) * 3 + 2 - 3 = k * 3 + 2 by omega]
theorem flat3_length {α : Type} (f : α → List Value) (hf : ∀ x, (f x).length = 3) : ∀ W : List α, (W.flatMap f).length = W.length * 3
  | [] => rfl
  | x :: W => by rw [List.flatMap_cons, List.length_append, hf, flat3_length f hf W, List.length_cons]; omega
end Go.Proofs.YtlokjbjpmhfkhaaDoor
