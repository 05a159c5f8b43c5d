/-
  PowersLeast: the row of as many validators of one power.
-/
import Derived.Maps.AppendAt
import Derived.Test.YtjoehhchejnhgaaDoorModVal
import Derived.Test.YtjoehhchejnhgaaDoorPwB
namespace Go.Proofs.YtjoehhchejnhgaaDoor
open Go.RowKit

theorem vd_info : (Tryd.prog.info? 40).map (fun i => (i.zero, i.size, i.bytes)) = some (some (.agg (List.replicate 16 (Value.int .u8 0) ++ [Value.int .i64 0]).toArray), 17, 24) := by kernel_rfl

theorem wpList_append_vd {P : Program} {w0 : World} {ops : Array Oper} {rest : List Oper} {o : Oper} {a : Act} {Q : Exit → Act → World → Prop} (hgd : o.guard = none) (s x : Operand) (t : TypeId)
    (ho : o.op = .call { callee := .builtin .append, args := #[s, x], argTypes := #[t, t] }) (base : Nat) (e e0 : TypeId) (i : TypeInfo) (ht : P.underlying t = some (.slice e)) (hi : P.info? e = some i) (hz : i.zero = some (.agg (List.replicate 16 (Value.int .u8 0) ++ [Value.int .i64 0]).toArray)) (hsize : i.size = 17) (hby : i.bytes = 24)
    (v : Value) (n : Nat) (xs : List Value) (hs : a.eval s = v) (hown : w0.ownsRow base e 17 v n xs) (y : Vd) (hy : y.key.length = 16) (cs : Array Value) (hcs : cs = y.cells.toArray) (hx : a.eval x = .slice (some ⟨w0.heap.size, 0, none⟩) 1 1) (hn : n ≤ 1000) (hbase : base ≤ w0.heap.size)
    (h : ∀ v' w', w'.ownsRow base e 17 v' (n + 1) (xs ++ y.cells) → w0.grownBy w' v.ownBlock → (v'.ownBlock = v.ownBlock ∨ v'.ownBlock = some (w0.heap.size + 1)) → wpList P ops Q rest (a.put o.dst v') w') : wpList P ops Q (o :: rest) a (w0.alloc (.cells cs e0)) := by
  subst hcs
  refine wpList_append_own_at _ hgd s x t ho base e i _ 17 24 ht hi hz hsize hby (by simp [Value.cells]) (by omega) v n xs hs (hown.alloc _) ⟨w0.heap.size, 0, none⟩ 1 1 y.cells hx (by rw [Vd.cells_length hy]) (fun j u hu => ?_) (fun u hu => ?_) (by simp only [maxLen]; omega) (by omega) (by rw [World.size_alloc]; omega) (fun v' w' h1 h2 _ h4 => h v' w' h1 (grown_trans (World.grownBy_alloc w0 _ _) h2) (by rw [World.size_alloc] at h4; exact h4))
  · rw [addr_zero_add, (Blk.new w0 e0 y.cells.toArray).cell]; simpa using hu
  · simp only [Vd.cells, List.mem_append, List.mem_map, List.mem_singleton] at hu
    rcases hu with ⟨z, _, rfl⟩ | rfl <;> rfl
theorem wpList_append_int {P : Program} {w0 : World} {ops : Array Oper} {rest : List Oper} {o : Oper} {a : Act} {Q : Exit → Act → World → Prop} (hgd : o.guard = none) (s x : Operand) (t : TypeId)
    (ho : o.op = .call { callee := .builtin .append, args := #[s, x], argTypes := #[t, t] }) (base : Nat) (e e0 : TypeId) (i : TypeInfo) (ht : P.underlying t = some (.slice e)) (hi : P.info? e = some i) (hz : i.zero = some (.int .i64 0)) (hsize : i.size = 1) (hby : i.bytes = 8)
    (v : Value) (n : Nat) (xs : List Value) (hs : a.eval s = v) (hown : w0.ownsRow base e 1 v n xs) (y : Int) (hx : a.eval x = .slice (some ⟨w0.heap.size, 0, none⟩) 1 1) (hn : n ≤ 1000) (hbase : base ≤ w0.heap.size)
    (h : ∀ v' w', w'.ownsRow base e 1 v' (n + 1) (xs ++ [.int .i64 y]) → w0.grownBy w' v.ownBlock → (v'.ownBlock = v.ownBlock ∨ v'.ownBlock = some (w0.heap.size + 1)) → wpList P ops Q rest (a.put o.dst v') w') : wpList P ops Q (o :: rest) a (w0.alloc (.cells #[.int .i64 y] e0)) := by
  refine wpList_append_own_at _ hgd s x t ho base e i (.int .i64 0) 1 8 ht hi hz hsize hby rfl (by omega) v n xs hs (hown.alloc _) ⟨w0.heap.size, 0, none⟩ 1 1 [.int .i64 y] hx rfl (fun j u hu => ?_) (by simp [Value.oneCell']) (by simp only [maxLen]; omega) (by omega) (by rw [World.size_alloc]; omega) (fun v' w' h1 h2 _ h4 => h v' w' h1 (grown_trans (World.grownBy_alloc w0 _ _) h2) (by rw [World.size_alloc] at h4; exact h4))
  have : j = 0 := by
    have := (List.getElem?_eq_some_iff.1 hu).1
    simp at this
    omega
  subst this
  have h1 := (Blk.new w0 e0 #[.int .i64 y]).cell 0
  rw [addr_zero_add, h1]
  simpa using hu

theorem own_vds {w : World} {base : Nat} {e : TypeId} {n : Nat} {v : Value} {V : List Vd} (ok : keysOk V) (hl : V.length = n) (h : w.ownsRow base e 17 v n (V.flatMap Vd.cells)) : ∃ A cap, v = .slice A V.length cap ∧ V.length ≤ cap ∧ VdsAt w A V := by
  subst hl
  rcases h.2 with ⟨hv, h0⟩ | ⟨g, cap, cur, rfl, hb, hg, hnc, _, hsz, htake⟩
  · obtain rfl : V = [] := List.length_eq_zero_iff.1 h0
    exact ⟨none, 0, hv, Nat.le_refl _, fun h => absurd rfl h⟩
  · refine ⟨_, cap, rfl, hnc, fun _ => ⟨g, 0, rfl, fun k hk j u hu => ?_⟩⟩
    have hj : j < 17 := by have := (List.getElem?_eq_some_iff.1 hu).1; rwa [Vd.cells_length (ok _ (List.getElem_mem hk))] at this
    have h1 := flat_get ok hk hu
    rw [← htake, List.getElem?_take, if_pos (by omega)] at h1
    rw [Nat.zero_add, Joins.cell_of_block hg, ← Array.getElem?_toList, h1]

/-- As many validators, one power. -/
def vdsL (p : Int) (n : Nat) : List Vd := (List.range n).map fun i : Nat => ⟨key4 (i : Int), p⟩
theorem vdsL_succ (p : Int) (k : Nat) : vdsL p (k + 1) = vdsL p k ++ [⟨key4 (k : Int), p⟩] := by simp [vdsL, List.range_succ]
theorem vdsL_length (p : Int) (k : Nat) : (vdsL p k).length = k := by simp [vdsL]
theorem vdsL_get (p : Int) (n k : Nat) (h : k < (vdsL p n).length) : (vdsL p n)[k] = ⟨key4 (k : Int), p⟩ := by simp [vdsL]
theorem vdsL_ok (p : Int) (n : Nat) : keysOk (vdsL p n) := fun x hx => by
  simp only [vdsL, List.mem_map] at hx
  obtain ⟨i, _, rfl⟩ := hx
  rfl
theorem vdsL_right (p : Int) (n : Nat) (hp : 1 ≤ p ∧ p ≤ 1000000) (hn : 1 ≤ n ∧ n ≤ 7) : rightS (vdsL p n) = true := by
  rw [rightS_iff]
  refine ⟨by rw [vdsL_length]; exact hn, fun k hk => ?_⟩
  rw [vdsL_get]
  refine ⟨hp.1, by dsimp only; omega, findS_at hk (fun j hj hjk => ?_) (by rw [vdsL_get])⟩
  rw [vdsL_get]
  intro e
  have : ((j : Nat) : Int) = (k : Int) := by simpa [key4] using e
  omega
theorem vdsL_sum (p : Int) (n : Nat) : (powersOf (vdsL p n)).sum = (n : Int) * p := by
  induction n with
  | zero => simp [vdsL, powersOf]
  | succ n ih =>
    rw [vdsL_succ, powersOf, List.map_append, List.sum_append, show ((vdsL p n).map Vd.p).sum = (powersOf (vdsL p n)).sum from rfl, ih, Int.natCast_add, Int.add_mul]
    simp
theorem vdsL_wB (p : Int) (n m : Nat) : ∀ k, k ≤ n → wB (vdsL p n) (fun i => decide (i < m)) k = ((min k m : Nat) : Int) * p
  | 0, _ => by simp [wB]
  | k + 1, h => by
    rw [wB, vdsL_wB p n m k (by omega)]
    have hp : pAt (vdsL p n) k = p := by
      have hk : k < (vdsL p n).length := by rw [vdsL_length]; omega
      rw [pAt, List.getElem?_eq_getElem hk, vdsL_get]; rfl
    by_cases hm : k < m
    · rw [if_pos (by simpa using hm), hp, show min (k + 1) m = min k m + 1 by omega, Int.natCast_add, Int.add_mul]; simp
    · rw [if_neg (by simpa using hm), show min (k + 1) m = min k m by omega]; simp
theorem row1_run (w : World) (n p : Int) : Sem.run Tryd.prog (Instr.buildSlice 22 1 #[(0, .agg (Vd.cells ⟨key4 n, p⟩).toArray)]) w
    = .ok (.slice (some ⟨w.heap.size, 0, none⟩) 1 1) (w.alloc (.cells (Vd.cells ⟨key4 n, p⟩).toArray 40)) := by kernel_rfl
theorem least_enough (p : Int) (n m : Nat) (hp : 1 ≤ p ∧ p ≤ 1000000) (hn : 1 ≤ n ∧ n ≤ 7) (hm : m ≤ n) :
    enoughS (vdsL p n) (chosenS (fun i => decide (i < m)) n) = decide (2 * (n : Int) < 3 * (m : Int)) ∧ fewS (vdsL p n) (chosenS (fun i => decide (i < m)) n) = decide (3 * (m : Int) < (n : Int)) ∧ totalS (vdsL p n) = (n : Int) * p := by
  have hr := vdsL_right p n hp hn
  have h1 := chosen_enough hr (fun i => decide (i < m))
  have h2 := chosen_few hr (fun i => decide (i < m))
  rw [vdsL_length, vdsL_wB p n m n (Nat.le_refl _), vdsL_sum, Nat.min_eq_right hm] at h1 h2
  refine ⟨?_, ?_, ?_⟩
  · rw [h1, ← Int.mul_assoc, ← Int.mul_assoc]
    by_cases h : 2 * (n : Int) < 3 * (m : Int)
    · rw [decide_eq_true h, decide_eq_true ((Int.mul_lt_mul_right (by omega)).2 h)]
    · rw [decide_eq_false h, decide_eq_false (fun k => h ((Int.mul_lt_mul_right (by omega)).1 k))]
  · rw [h2, ← Int.mul_assoc]
    by_cases h : 3 * (m : Int) < (n : Int)
    · rw [decide_eq_true h, decide_eq_true ((Int.mul_lt_mul_right (by omega)).2 h)]
    · rw [decide_eq_false h, decide_eq_false (fun k => h ((Int.mul_lt_mul_right (by omega)).1 k))]
  · rw [totalS, if_pos hr, vdsL_sum]
end Go.Proofs.YtjoehhchejnhgaaDoor
