/-
  Several texts in one: Ap, Ch.
-/
import Derived.OwnWalk
import Derived.Test.YtebnebajedlhlaaDoorM9ia
import Derived.Test.YtebnebajedlhlaaDoorM9in
/-
  append of one element that is one cell; what an owned row's growth leaves.
-/
namespace Go.Proofs.YtebnebajedlhlaaDoor
open Go.RowKit

theorem grown_own {a b c : World} {v : Value} {base size : Nat} {e : TypeId} {n : Nat} {xs : List Value} (h : a.grownBy b none) (k : b.grownBy c v.ownBlock) (hv : b.ownsRow base e size v n xs) (hB : a.heap.size ≤ base) : a.grownBy c none := by
  cases hg : v.ownBlock with
  | none => rw [hg] at k; exact grown_trans h k
  | some g => rw [hg] at k; exact grown_fresh h k (Nat.le_trans hB (hv.lt g hg).1)
theorem wpList_push {P : Program} {w0 : World} {ops : Array Oper} {rest : List Oper} {o : Oper} {a : Act} {Q : Exit → Act → World → Prop} (hgd : o.guard = none) (s x : Operand) (t : TypeId)
    (ho : o.op = .call { callee := .builtin .append, args := #[s, x], argTypes := #[t, t] }) (base : Nat) (e e0 : TypeId) (i : TypeInfo) (z : Value) (bytes : Nat) (ht : P.underlying t = some (.slice e)) (hi : P.info? e = some i) (hz : i.zero = some z) (hsize : i.size = 1) (hby : i.bytes = bytes) (hzs : z.cells.size = 1)
    (v : Value) (n : Nat) (xs : List Value) (hs : a.eval s = v) (hown : w0.ownsRow base e 1 v n xs) (u : Value) (hu1 : u.oneCell' = true) (hx : a.eval x = .slice (some ⟨w0.heap.size, 0, none⟩) 1 1) (hn : n ≤ 1000000) (hb : bytes ≤ 1000) (hbase : base ≤ w0.heap.size)
    (h : ∀ v' w', w'.ownsRow base e 1 v' (n + 1) (xs ++ [u]) → w0.grownBy w' v.ownBlock → wpList P ops Q rest (a.put o.dst v') w') : wpList P ops Q (o :: rest) a (w0.alloc (.cells #[u] e0)) := by
  refine wpList_append_own _ hgd s x t ho base e i z 1 bytes ht hi hz hsize hby hzs (by omega) v n xs hs (hown.alloc _) ⟨w0.heap.size, 0, none⟩ 1 1 [u] hx rfl (fun j y hy => ?_) (by simp [hu1]) (by simp only [maxLen]; omega) (by
    have := Nat.mul_le_mul (show n + 1 ≤ 1000001 by omega) hb
    omega) (by rw [World.size_alloc]; omega) (fun v' w' h1 h2 _ => h v' w' h1 (grown_trans (World.grownBy_alloc w0 _ _) h2))
  have : j = 0 := by
    have := (List.getElem?_eq_some_iff.1 hy).1
    simp at this
    omega
  subst this
  have h1 := (Blk.new w0 e0 #[u]).cell 0
  rw [show (⟨w0.heap.size, 0, none⟩ : Addr).add 0 = ⟨w0.heap.size, 0, none⟩ by simp [Addr.add], h1]
  simpa using hy
end Go.Proofs.YtebnebajedlhlaaDoor
/-
  Chains of hashes as lists of numbers.
-/
namespace Go.Proofs.YtebnebajedlhlaaDoor
open Go.RowKit

theorem over_mem : ∀ (y bs : List Int) (a : Nat) (z : Int), z ∈ over bs a y → z ∈ bs ∨ z ∈ y
  | [], bs, a, z, h => .inl h
  | x :: y, bs, a, z, h => by
    rcases over_mem y (bs.set a x) (a + 1) z h with h | h
    · rcases List.mem_or_eq_of_mem_set h with h | h
      · exact .inl h
      · exact .inr (by simp [h])
    · exact .inr (by simp [h])
theorem sumW_byte (ws : List Int) : ∀ (k : Nat) (z : Int), z ∈ sumW ws k → 0 ≤ z ∧ z < 256
  | 0, z, h => by
    have : z = 0 := by simpa [sumW] using List.eq_of_mem_replicate h
    omega
  | k + 1, z, h => by
    rcases over_mem _ _ _ z h with h | h
    · exact sumW_byte ws k z h
    · simp only [wordB, List.mem_cons, List.not_mem_nil, or_false] at h
      omega
/-- Sixteen bytes. -/
def isDig (l : List Int) : Prop := l.length = 16 ∧ ∀ z ∈ l, 0 ≤ z ∧ z < 256
theorem ofS_dig (a0 : Int) (ps : List (List Int)) : isDig (ofS a0 ps) := ⟨ofS_length _ _, fun z hz => sumW_byte _ _ z (List.mem_of_mem_take hz)⟩
def stepC (x : List Int) (lf i k : Int) : List Int := ofS 2 [x, [lf % 256], [i % 256], [k % 256]]
/-- What x comes to by n steps from place lo on. -/
def runC (x : List Int) (lf i lo : Int) : Nat → List Int
  | 0 => x
  | n + 1 => stepC (runC x lf i lo n) lf i (lo + n)
theorem stepC_dig (x : List Int) (lf i k : Int) : isDig (stepC x lf i k) := by rw [stepC]; exact ofS_dig _ _
theorem runC_succ (x : List Int) (lf i lo : Int) (n : Nat) : runC x lf i lo (n + 1) = stepC (runC x lf i lo n) lf i (lo + n) := by rw [runC]
theorem runC_dig (x : List Int) (lf i lo : Int) (hx : isDig x) (n : Nat) : isDig (runC x lf i lo n) := by
  cases n with
  | zero => rw [runC]; exact hx
  | succ n => rw [runC_succ]; exact stepC_dig _ _ _ _
theorem runC_add (x : List Int) (lf i lo : Int) (m : Nat) : ∀ n, runC x lf i lo (m + n) = runC (runC x lf i lo m) lf i (lo + m) n
  | 0 => by rw [Nat.add_zero, runC]
  | n + 1 => by
    rw [← Nat.add_assoc, runC_succ, runC_succ, runC_add x lf i lo m n, show lo + ((m + n : Nat) : Int) = lo + m + n by omega]
def secC (seed : List Int) (lf i : Int) : List Int := ofS 1 [seed, [lf % 256], [i % 256]]
theorem secC_dig (seed : List Int) (lf i : Int) : isDig (secC seed lf i) := by rw [secC]; exact ofS_dig _ _
/-- As many pieces, one behind the other. -/
def rowC (f : Nat → List Int) : Nat → List Int
  | 0 => []
  | n + 1 => rowC f n ++ f n
theorem rowC_length (f : Nat → List Int) (h : ∀ k, (f k).length = 16) : ∀ n, (rowC f n).length = 16 * n
  | 0 => rfl
  | n + 1 => by rw [rowC, List.length_append, rowC_length f h n, h]; omega
theorem rowC_range (f : Nat → List Int) (h : ∀ k, isDig (f k)) : ∀ n, ∀ z ∈ rowC f n, 0 ≤ z ∧ z < 256
  | 0, z, hz => by cases hz
  | n + 1, z, hz => by
    rcases List.mem_append.1 hz with h1 | h1
    · exact rowC_range f h n z h1
    · exact (h n).2 z h1
def pubC (lf : Int) (ends : List Int) : List Int := ofS 3 [[lf % 256], ends]
end Go.Proofs.YtebnebajedlhlaaDoor
