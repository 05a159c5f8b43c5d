/-
  Several texts in one: TrS, TrV, TrW.
-/
import Derived.Test.YtlokjbjpmhfkhaaDoorM11y
import Derived.Test.YtlokjbjpmhfkhaaDoorM11A
import Derived.Test.YtlokjbjpmhfkhaaDoorM11z
/-
  quorateref04.Root and quorateref04.Path.
-/
namespace Go.Proofs.YtlokjbjpmhfkhaaDoor
open Go.RowKit

theorem size_run {P : Program} {t : TypeId} {n : Nat} (w : World) (h : (P.info? t).map (·.size) = some n) : Sem.run P (sizeOf t) w = .ok n w := by
  cases hq : P.info? t with
  | none => simp [hq] at h
  | some i =>
    have : i.size = n := by simpa [hq] using h
    simp [sizeOf, typeInfo, hq, this]
theorem digs_lo (V : World) (b o n c m : Nat) (h : m ≤ c) : Sem.run Tryd.prog (Instr.sliceAt 49 (.slice (some ⟨b, o, none⟩) n c) none (some (.int .i64 (m : Int))) none) V = .ok (.slice (some ⟨b, o, none⟩) m c) V := by
  have hu : Tryd.prog.underlying 49 = some (.slice (Tryd.prog.elem 49)) := by kernel_rfl
  have he : Tryd.prog.elem 49 = 32 := by kernel_rfl
  rw [run_sliceAt_slice _ _ _ _ _ _ hu, run_slice_h _ _ _ _ _ hu .i64 (m : Int) (by omega) (by omega), he, size_run V info16]
  simp [Result.andThen, sliced, Addr.add]
theorem digs_hi (V : World) (b o n c m : Nat) (h : m ≤ n) (hc : m < c) : Sem.run Tryd.prog (Instr.sliceAt 49 (.slice (some ⟨b, o, none⟩) n c) (some (.int .i64 (m : Int))) none none) V = .ok (.slice (some ⟨b, o + m * 16, none⟩) (n - m) (c - m)) V := by
  have hu : Tryd.prog.underlying 49 = some (.slice (Tryd.prog.elem 49)) := by kernel_rfl
  have he : Tryd.prog.elem 49 = 32 := by kernel_rfl
  have hne : ¬ c = m := by omega
  rw [run_sliceAt_slice _ _ _ _ _ _ hu, run_slice_l _ _ _ _ _ hu .i64 (m : Int) (by omega) (by omega), he, size_run V info16]
  simp [Result.andThen, sliced, Addr.add, hne]

theorem not_one {n m : Nat} (h : n = 2 * m) : ((n : Int) == 1) = false ∧ ¬ n = 1 := ⟨by simp; omega, by omega⟩
theorem half_of {n m : Nat} (h : n = 2 * m) (h1 : m ≤ 32) : (n : Int).tdiv 2 = (m : Int) ∧ (n : Int) / 2 = (m : Int) ∧ wrap64 (m : Int) = (m : Int) ∧ n - m = m :=
  ⟨by rw [Int.tdiv_eq_ediv_of_nonneg (by omega)]; omega, by omega, w64 _ (by omega), by omega⟩
theorem halves {n m j L off o : Nat} (hnm : n = 2 * m) (hl : (j + 1) * n ≤ L) (ho : o = off + j * n * 16) : (2 * j + 1) * m ≤ L ∧ (2 * j + 1 + 1) * m ≤ L ∧ o = off + 2 * j * m * 16 ∧ o + m * 16 = off + (2 * j + 1) * m * 16 ∧ j * n = 2 * j * m := by
  have e0 : j * n = 2 * j * m := by rw [hnm, ← Nat.mul_assoc, Nat.mul_comm j 2]
  have e3 : (2 * j + 1 + 1) * m = (j + 1) * n := by rw [hnm, show 2 * j + 1 + 1 = (j + 1) * 2 by omega, Nat.mul_assoc]
  have e4 : (2 * j + 1 + 1) * m = (2 * j + 1) * m + m := by rw [Nat.add_mul (2 * j + 1) 1 m, Nat.one_mul]
  have o1 : o = off + 2 * j * m * 16 := by rw [ho, e0]
  exact ⟨by omega, by omega, o1, by rw [o1, Nat.add_mul, Nat.one_mul, Nat.add_mul, Nat.add_assoc], e0⟩

theorem sib_even (j : Nat) : sib (2 * j) = 2 * j + 1 := by rw [sib, if_pos (by omega)]
theorem sib_odd (j : Nat) : sib (2 * j + 1) = 2 * j := by rw [sib, if_neg (by omega)]; omega
theorem halfway {n m j I : Nat} {i : Int} (hnm : n = 2 * m) (hm1 : 1 ≤ m) (hj : I / n = j) (hjn : j * n = 2 * j * m) (hi : i = (I : Int) - (j * n : Nat)) :
    (I / m % 2 = 0 → I / m = 2 * j ∧ 0 ≤ i ∧ i < (m : Int) ∧ i = (I : Int) - ((2 * j * m : Nat) : Int)) ∧
    (¬ I / m % 2 = 0 → I / m = 2 * j + 1 ∧ (m : Int) ≤ i ∧ i < 2 * (m : Int) ∧ i - (m : Int) = (I : Int) - (((2 * j + 1) * m : Nat) : Int)) := by
  have hq : I / m / 2 = j := by rw [Nat.div_div_eq_div_mul, Nat.mul_comm m 2, ← hnm]; exact hj
  have hI := Nat.div_add_mod I m
  have hr := Nat.mod_lt I (show 0 < m by omega)
  have e1 : 2 * j * m = 2 * (j * m) := Nat.mul_assoc _ _ _
  have e2 : (2 * j + 1) * m = 2 * (j * m) + m := by rw [Nat.add_mul, Nat.one_mul, e1]
  rw [hjn, e1] at hi
  rw [e1, e2]
  clear hj hjn hnm e1 e2
  generalize I % m = r at *
  generalize I / m = q at *
  refine ⟨fun hp => ?_, fun hp => ?_⟩
  · have e : q = 2 * j := by omega
    have e3 : m * q = 2 * (j * m) := by rw [e, Nat.mul_comm m, Nat.mul_assoc]
    rw [e3] at hI
    generalize j * m = P at *
    exact ⟨e, by omega, by omega, by omega⟩
  · have e : q = 2 * j + 1 := by omega
    have e3 : m * q = 2 * (j * m) + m := by rw [e, Nat.mul_add, Nat.mul_one, Nat.mul_comm m, Nat.mul_assoc]
    rw [e3] at hI
    generalize j * m = P at *
    exact ⟨e, by omega, by omega, by omega⟩

end Go.Proofs.YtlokjbjpmhfkhaaDoor
/-
  quorateref04.Path.
-/

namespace Go.Proofs.YtlokjbjpmhfkhaaDoor
open Go.RowKit

/-- What the document's way up is, in memory. -/
def wayV (ps : List (List Int)) (I : Nat) (k : Nat) : Array Value := arrV .u8 (wayC ps I k)
theorem info16p : (Tryd.prog.info? 32).map (fun i => (i.zero, i.size, i.bytes)) = some (some (.agg (arrV .u8 (List.replicate 16 0))), 16, 16) := by kernel_rfl
theorem wp_bslice_run {P : Program} {o : Oper} {a : Act} {w w' : World} {K : Act → World → Prop} {Q : Exit → Act → World → Prop} (t : TypeId) (len : Nat) (i : Nat) (x : Operand) (ho : o.op = .buildSlice t len #[(i, x)]) (u V : Value) (hx : a.eval x = u)
    (hr : Sem.run P (Instr.buildSlice t len #[(i, u)]) w = .ok V w') (h : K (a.put o.dst V) w') : o.wp P a w K Q := by
  have hm : (#[(i, x)] : Array (Nat × Operand)).map (fun (i, x) => (i, a.eval x)) = #[(i, u)] := by simp [hx]
  unfold Oper.wp execOp
  simp only [ho, Sem.run_bind, hm, hr, Result.andThen_ok]
  exact h
theorem wayV_size {ps : List (List Int)} (hps : ∀ p ∈ ps, isDig p) (I k : Nat) : (wayV ps I k).size = 16 := by rw [wayV, arr_size]; exact (wayC_dig hps _ _).1

end Go.Proofs.YtlokjbjpmhfkhaaDoor
/-
  trees.Path.
-/
namespace Go.Proofs.YtlokjbjpmhfkhaaDoor
open Go.RowKit Go.Shelf

attribute [local go_sem] Oper.semAt_some

/-- The row of the way up, in the box of a variable. -/
def WayIn (W : World) (B base : Nat) (n : Nat) (L : List Value) : Prop := ∃ v, Boxed W B 49 v ∧ W.ownsRow base 32 16 v n L ∧ True
theorem way_own {B0 : Nat} (B base : Nat) (f : Nat → Array Value) : OwnFrom B0 (fun (pre : List Lev) W => WayIn W B base pre.length (rowV f pre.length)) :=
  (holdsRow_own base B 49 32 16 (fun pre : List Lev => pre.length) (fun pre => rowV f pre.length) (fun _ _ => True)).from _
theorem way_own5 {B0 : Nat} (B base : Nat) (f : Nat → Array Value) : OwnFrom B0 (fun (_ : List Lev) W => WayIn W B base 5 (rowV f 5)) :=
  (holdsRow_own base B 49 32 16 (fun _ : List Lev => 5) (fun _ => rowV f 5) (fun _ _ => True)).from _
/-- What a variable holds lies elsewhere. -/
def Aside (W : World) (B g : Nat) : Prop := ∃ v, Boxed W B 49 v ∧ v.ownBlock ≠ some g
theorem aside_own {β : Type} {B0 : Nat} (B g : Nat) : OwnFrom B0 (fun (_ : β) W => Aside W B g) := fun _ _ _ _ hs hg hr => by
  obtain ⟨v, h1, h2⟩ := hs
  exact ⟨v, (grownBy_keeps_cells hg (fun r e => (hr r e).2) h1 rfl).trans h1, h2⟩
theorem sib_lt {i k : Nat} (hi : i < 32) (hk : k < 5) : sib (i / 2 ^ k) < 32 / 2 ^ k := by
  have : k = 0 ∨ k = 1 ∨ k = 2 ∨ k = 3 ∨ k = 4 := by omega
  unfold sib
  rcases this with rfl | rfl | rfl | rfl | rfl <;> simp <;> split <;> omega
theorem half_lt {i k : Nat} (hi : i < 32) : i / 2 ^ k < 32 := Nat.lt_of_le_of_lt (Nat.div_le_self _ _) hi

theorem results_tmp2 {fn : Func} {s u : Tmp} (h : fn.results = #[.tmp s, .tmp u]) (tmps : Array Value) (P : Program) (w : World) : (results fn tmps).run P w = .ok (.tuple #[tmps.getD s undef, tmps.getD u undef]) w := by
  simp [results, h]

end Go.Proofs.YtlokjbjpmhfkhaaDoor
