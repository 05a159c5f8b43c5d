/-
  Rows of validators and of numbers that the code lays.
-/
import Derived.Great.BuildSlice
import Derived.Test.YtlokjbjpmhfkhaaDoorPwV
namespace Go.Proofs.YtlokjbjpmhfkhaaDoor
open Go.RowKit

section
variable {P : Program} {w : World} {ops : Array Oper} {rest : List Oper} {o : Oper} {a : Act} {Q : Exit → Act → World → Prop}
theorem wpList_build_at (hw : Region.wanted o (yielded ops a.tmps) = true) (t : TypeId) (parts : Array (Nat × Operand)) (ho : o.op = .build t parts) (ps : Array (Nat × Value)) (hp : (parts.map fun (i, x) => (i, a.eval x)) = ps) (V : Value)
    (hr : Sem.run P (Instr.build t ps) w = .ok V w) (h : wpList P ops Q rest (a.put o.dst V) w) : wpList P ops Q (o :: rest) a w :=
  BigFrame.wpList_want hw fun _ hK => by
    unfold Oper.wp execOp
    simp only [ho, hp, Sem.run_bind, hr, Result.andThen_ok, Sem.run_pure]
    exact hK _ _ h
theorem wpList_row_at (hw : Region.wanted o (yielded ops a.tmps) = true) (t : TypeId) (len : Nat) (parts : Array (Nat × Operand)) (ho : o.op = .buildSlice t len parts) (ps : Array (Nat × Value)) (hp : (parts.map fun (i, x) => (i, a.eval x)) = ps) (V : Value) (W : World)
    (hr : Sem.run P (Instr.buildSlice t len ps) w = .ok V W) (h : wpList P ops Q rest (a.put o.dst V) W) : wpList P ops Q (o :: rest) a w :=
  BigFrame.wpList_want hw fun _ hK => by
    unfold Oper.wp execOp
    simp only [ho, hp, Sem.run_bind, hr, Result.andThen_ok, Sem.run_pure]
    exact hK _ _ h
end

theorem flat_get : ∀ {V : List Vd} (_ : keysOk V) {k : Nat} (hk : k < V.length) {j : Nat} {v : Value}, V[k].cells[j]? = some v → (V.flatMap Vd.cells)[k * 17 + j]? = some v
  | x :: V, ok, 0, _, j, v, h => by
    have h' : x.cells[j]? = some v := h
    rw [List.flatMap_cons, List.getElem?_append_left (by have := (List.getElem?_eq_some_iff.1 h').1; omega)]
    simpa using h'
  | x :: V, ok, k + 1, hk, j, v, h => by
    have hx := Vd.cells_length (ok x (by simp))
    rw [List.flatMap_cons, List.getElem?_append_right (by omega), hx, show (k + 1) * 17 + j - 17 = k * 17 + j by omega]
    exact flat_get (fun y hy => ok y (by simp [hy])) (by simpa using hk) h
theorem vds_new (w : World) (V : List Vd) (ok : keysOk V) (t : TypeId) : VdsAt (w.alloc (.cells (V.flatMap Vd.cells).toArray t)) (some ⟨w.heap.size, 0, none⟩) V := fun _ =>
  ⟨w.heap.size, 0, rfl, fun k hk j v hv => by
    rw [Nat.zero_add, (Blk.new w t _).cell]; simpa using flat_get ok hk hv⟩
theorem ints_new (w : World) (l : List Int) (t : TypeId) : IntsAt (w.alloc (.cells (l.map (Value.int .i64)).toArray t)) (some ⟨w.heap.size, 0, none⟩) l := fun _ =>
  ⟨_, rfl, fun j hj => by
    have h := (Blk.new w t (l.map (Value.int .i64)).toArray).cell (i := 0 + j)
    rw [Go.WideShapes.add_plain, h]
    simp [List.getElem?_eq_getElem hj]⟩

def key4 (n : Int) : List Int := n :: List.replicate 15 0
def v4 : List Vd := [⟨key4 1, 1⟩, ⟨key4 2, 1⟩, ⟨key4 3, 1⟩, ⟨key4 4, 1⟩]
theorem v4_ok : keysOk v4 := by intro x hx; simp [v4] at hx; rcases hx with rfl | rfl | rfl | rfl <;> rfl
theorem v4_right : rightS v4 = true := by kernel_rfl
theorem v4_q : quorumS v4 = 3 := by kernel_rfl
theorem v4_t : totalS v4 = 4 := by kernel_rfl
theorem v4_e1 : enoughS v4 [0, 2, 3] = true := by kernel_rfl
theorem v4_e2 : enoughS v4 [0, 1] = false := by kernel_rfl

theorem key_run (w : World) (n : Int) : Sem.run Tryd.prog (Instr.build 32 #[(0, .int .u8 n)]) w = .ok (.agg (arrV .u8 (key4 n))) w := by kernel_rfl
theorem vd_run (w : World) (n p : Int) : Sem.run Tryd.prog (Instr.build 62 #[(0, .agg (arrV .u8 (key4 n))), (1, .int .i64 p)]) w = .ok (.agg (Vd.cells ⟨key4 n, p⟩).toArray) w := by kernel_rfl
theorem row4_run (w : World) : Sem.run Tryd.prog (Instr.buildSlice 22 4 #[(0, .agg (Vd.cells ⟨key4 1, 1⟩).toArray), (1, .agg (Vd.cells ⟨key4 2, 1⟩).toArray), (2, .agg (Vd.cells ⟨key4 3, 1⟩).toArray), (3, .agg (Vd.cells ⟨key4 4, 1⟩).toArray)]) w
    = .ok (.slice (some ⟨w.heap.size, 0, none⟩) 4 4) (w.alloc (.cells (v4.flatMap Vd.cells).toArray 62)) := by kernel_rfl
theorem who3_run (w : World) : Sem.run Tryd.prog (Instr.buildSlice 48 3 #[(0, .int .i64 0), (1, .int .i64 2), (2, .int .i64 3)]) w
    = .ok (.slice (some ⟨w.heap.size, 0, none⟩) 3 3) (w.alloc (.cells (([0, 2, 3] : List Int).map (Value.int .i64)).toArray 3)) := by kernel_rfl
theorem who2_run (w : World) : Sem.run Tryd.prog (Instr.buildSlice 48 2 #[(0, .int .i64 0), (1, .int .i64 1)]) w
    = .ok (.slice (some ⟨w.heap.size, 0, none⟩) 2 2) (w.alloc (.cells (([0, 1] : List Int).map (Value.int .i64)).toArray 3)) := by kernel_rfl

end Go.Proofs.YtlokjbjpmhfkhaaDoor
