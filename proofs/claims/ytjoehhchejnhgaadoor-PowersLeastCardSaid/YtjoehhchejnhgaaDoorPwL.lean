/-
  The chapter's example.
-/
import Derived.Great.BuildSlice
import Derived.Test.YtjoehhchejnhgaaDoorPwV
namespace Go.Proofs.YtjoehhchejnhgaaDoor
open Go.RowKit

section
variable {P : Program} {w : World} {ops : Array Oper} {rest : List Oper} {o : Oper} {a : Act} {Q : Exit → Act → World → Prop}
theorem wpList_build_at (hw : Region.wanted o (yielded ops a.tmps) = true) (t : TypeId) (parts : Array (Nat × Operand)) (ho : o.op = .build t parts) (ps : Array (Nat × Value)) (hp : (parts.map fun (i, x) => (i, a.eval x)) = ps) (V : Value)
    (hr : Sem.run P (Instr.build t ps) w = .ok V w) (h : wpList P ops Q rest (a.put o.dst V) w) : wpList P ops Q (o :: rest) a w :=
  BigFrame.wpList_want hw fun _ hK => by
    unfold Oper.wp execOp
    simp only [ho, hp, Sem.run_bind, hr, Result.andThen_ok, Sem.run_pure]
    exact hK _ _ h
theorem wpList_row_at (hw : Region.wanted o (yielded ops a.tmps) = true) (t : TypeId) (len : Nat) (parts : Array (Nat × Operand)) (ho : o.op = .buildSlice t len parts) (ps : Array (Nat × Value)) (hp : (parts.map fun (i, x) => (i, a.eval x)) = ps) (V : Value) (W : World)
    (hr : Sem.run P (Instr.buildSlice t len ps) w = .ok V W) (h : wpList P ops Q rest (a.put o.dst V) W) : wpList P ops Q (o :: rest) a w :=
  BigFrame.wpList_want hw fun _ hK => by
    unfold Oper.wp execOp
    simp only [ho, hp, Sem.run_bind, hr, Result.andThen_ok, Sem.run_pure]
    exact hK _ _ h
end

theorem flat_get : ∀ {V : List Vd} (_ : keysOk V) {k : Nat} (hk : k < V.length) {j : Nat} {v : Value}, V[k].cells[j]? = some v → (V.flatMap Vd.cells)[k * 17 + j]? = some v
  | x :: V, ok, 0, _, j, v, h => by
    have h' : x.cells[j]? = some v := h
    rw [List.flatMap_cons, List.getElem?_append_left (by have := (List.getElem?_eq_some_iff.1 h').1; omega)]
    simpa using h'
  | x :: V, ok, k + 1, hk, j, v, h => by
    have hx := Vd.cells_length (ok x (by simp))
    rw [List.flatMap_cons, List.getElem?_append_right (by omega), hx, show (k + 1) * 17 + j - 17 = k * 17 + j by omega]
    exact flat_get (fun y hy => ok y (by simp [hy])) (by simpa using hk) h
theorem vds_new (w : World) (V : List Vd) (ok : keysOk V) (t : TypeId) : VdsAt (w.alloc (.cells (V.flatMap Vd.cells).toArray t)) (some ⟨w.heap.size, 0, none⟩) V := fun _ =>
  ⟨w.heap.size, 0, rfl, fun k hk j v hv => by
    rw [Nat.zero_add, (Blk.new w t _).cell]; simpa using flat_get ok hk hv⟩
theorem ints_new (w : World) (l : List Int) (t : TypeId) : IntsAt (w.alloc (.cells (l.map (Value.int .i64)).toArray t)) (some ⟨w.heap.size, 0, none⟩) l := fun _ =>
  ⟨_, rfl, fun j hj => by
    have h := (Blk.new w t (l.map (Value.int .i64)).toArray).cell (i := 0 + j)
    rw [Go.WideShapes.add_plain, h]
    simp [List.getElem?_eq_getElem hj]⟩

def key4 (n : Int) : List Int := n :: List.replicate 15 0
def v4 : List Vd := [⟨key4 1, 1⟩, ⟨key4 2, 1⟩, ⟨key4 3, 1⟩, ⟨key4 4, 1⟩]
theorem v4_ok : keysOk v4 := by intro x hx; simp [v4] at hx; rcases hx with rfl | rfl | rfl | rfl <;> rfl
theorem v4_right : rightS v4 = true := by kernel_rfl
theorem v4_q : quorumS v4 = 3 := by kernel_rfl
theorem v4_t : totalS v4 = 4 := by kernel_rfl
theorem v4_e1 : enoughS v4 [0, 2, 3] = true := by kernel_rfl
theorem v4_e2 : enoughS v4 [0, 1] = false := by kernel_rfl

theorem key_run (w : World) (n : Int) : Sem.run Tryd.prog (Instr.build 38 #[(0, .int .u8 n)]) w = .ok (.agg (arrV .u8 (key4 n))) w := by kernel_rfl
theorem vd_run (w : World) (n p : Int) : Sem.run Tryd.prog (Instr.build 40 #[(0, .agg (arrV .u8 (key4 n))), (1, .int .i64 p)]) w = .ok (.agg (Vd.cells ⟨key4 n, p⟩).toArray) w := by kernel_rfl
theorem row4_run (w : World) : Sem.run Tryd.prog (Instr.buildSlice 22 4 #[(0, .agg (Vd.cells ⟨key4 1, 1⟩).toArray), (1, .agg (Vd.cells ⟨key4 2, 1⟩).toArray), (2, .agg (Vd.cells ⟨key4 3, 1⟩).toArray), (3, .agg (Vd.cells ⟨key4 4, 1⟩).toArray)]) w
    = .ok (.slice (some ⟨w.heap.size, 0, none⟩) 4 4) (w.alloc (.cells (v4.flatMap Vd.cells).toArray 40)) := by kernel_rfl
theorem who3_run (w : World) : Sem.run Tryd.prog (Instr.buildSlice 23 3 #[(0, .int .i64 0), (1, .int .i64 2), (2, .int .i64 3)]) w
    = .ok (.slice (some ⟨w.heap.size, 0, none⟩) 3 3) (w.alloc (.cells (([0, 2, 3] : List Int).map (Value.int .i64)).toArray 3)) := by kernel_rfl
theorem who2_run (w : World) : Sem.run Tryd.prog (Instr.buildSlice 23 2 #[(0, .int .i64 0), (1, .int .i64 1)]) w
    = .ok (.slice (some ⟨w.heap.size, 0, none⟩) 2 2) (w.alloc (.cells (([0, 1] : List Int).map (Value.int .i64)).toArray 3)) := by kernel_rfl

set_option maxRecDepth 100000 in
set_option maxHeartbeats 1000000 in
theorem alive_is (w : World) (B : Nat) (es er et : Addr) (hB : B ≤ w.heap.size) (he : ErrAt w B 2 es) (her : ErrAt w B 0 er) (het : ErrAt w B 1 et) :
    Calls Tryd.prog 8 #[] w fun e w' => e = .returned (.bool true) ∧ Below w.heap.size w w' := by
  obtain ⟨X1, hX1⟩ : ∃ X, X = arrV .u8 (key4 1) := ⟨_, rfl⟩
  obtain ⟨X2, hX2⟩ : ∃ X, X = arrV .u8 (key4 2) := ⟨_, rfl⟩
  obtain ⟨X3, hX3⟩ : ∃ X, X = arrV .u8 (key4 3) := ⟨_, rfl⟩
  obtain ⟨X4, hX4⟩ : ∃ X, X = arrV .u8 (key4 4) := ⟨_, rfl⟩
  obtain ⟨Y1, hY1⟩ : ∃ Y, Y = (Vd.cells ⟨key4 1, 1⟩).toArray := ⟨_, rfl⟩
  obtain ⟨Y2, hY2⟩ : ∃ Y, Y = (Vd.cells ⟨key4 2, 1⟩).toArray := ⟨_, rfl⟩
  obtain ⟨Y3, hY3⟩ : ∃ Y, Y = (Vd.cells ⟨key4 3, 1⟩).toArray := ⟨_, rfl⟩
  obtain ⟨Y4, hY4⟩ : ∃ Y, Y = (Vd.cells ⟨key4 4, 1⟩).toArray := ⟨_, rfl⟩
  obtain ⟨C, hC⟩ : ∃ C, C = (v4.flatMap Vd.cells).toArray := ⟨_, rfl⟩
  have H1 := Lib.hid (show ∀ w, Sem.run Tryd.prog (Instr.build 38 #[(0, .int .u8 1)]) w = .ok (.agg X1) w from fun w => by rw [hX1]; exact key_run w 1)
  have H2 := Lib.hid (show ∀ w, Sem.run Tryd.prog (Instr.build 38 #[(0, .int .u8 2)]) w = .ok (.agg X2) w from fun w => by rw [hX2]; exact key_run w 2)
  have H3 := Lib.hid (show ∀ w, Sem.run Tryd.prog (Instr.build 38 #[(0, .int .u8 3)]) w = .ok (.agg X3) w from fun w => by rw [hX3]; exact key_run w 3)
  have H4 := Lib.hid (show ∀ w, Sem.run Tryd.prog (Instr.build 38 #[(0, .int .u8 4)]) w = .ok (.agg X4) w from fun w => by rw [hX4]; exact key_run w 4)
  have G1 := Lib.hid (show ∀ w, Sem.run Tryd.prog (Instr.build 40 #[(0, .agg X1), (1, .int .i64 1)]) w = .ok (.agg Y1) w from fun w => by rw [hX1, hY1]; exact vd_run w 1 1)
  have G2 := Lib.hid (show ∀ w, Sem.run Tryd.prog (Instr.build 40 #[(0, .agg X2), (1, .int .i64 1)]) w = .ok (.agg Y2) w from fun w => by rw [hX2, hY2]; exact vd_run w 2 1)
  have G3 := Lib.hid (show ∀ w, Sem.run Tryd.prog (Instr.build 40 #[(0, .agg X3), (1, .int .i64 1)]) w = .ok (.agg Y3) w from fun w => by rw [hX3, hY3]; exact vd_run w 3 1)
  have G4 := Lib.hid (show ∀ w, Sem.run Tryd.prog (Instr.build 40 #[(0, .agg X4), (1, .int .i64 1)]) w = .ok (.agg Y4) w from fun w => by rw [hX4, hY4]; exact vd_run w 4 1)
  have HR := Lib.hid (show ∀ w, Sem.run Tryd.prog (Instr.buildSlice 22 4 #[(0, .agg Y1), (1, .agg Y2), (2, .agg Y3), (3, .agg Y4)]) w = .ok (.slice (some ⟨w.heap.size, 0, none⟩) 4 4) (w.alloc (.cells C 40)) from fun w => by rw [hY1, hY2, hY3, hY4, hC]; exact row4_run w)
  have hV0 : VdsAt (w.alloc (.cells C 40)) (some ⟨w.heap.size, 0, none⟩) v4 := by rw [hC]; exact vds_new w v4 v4_ok _
  have hg0 : w.grownBy (w.alloc (.cells C 40)) none := World.grownBy_alloc _ _ none
  have hE0 := Lib.hid (And.intro (he.grown hg0 (fun _ e => by cases e)) (And.intro (her.grown hg0 (fun _ e => by cases e)) (het.grown hg0 (fun _ e => by cases e))))
  have HV0 := Lib.hid (And.intro hV0 (And.intro (Nat.le_trans hB hg0.size) hg0))
  clear hX1 hX2 hX3 hX4 hY1 hY2 hY3 hY4 hC hV0 hg0 he her het hB
  go_enter Tryd.func8, Tryd.ntmps8
  go_wp2_with (first
    | (refine wpList_build_at (by rfl) 38 #[(0, Operand.const (Value.int .u8 1))] rfl _ (by kernel_rfl) (.agg X1) (H1.out _) ?_)
    | (refine wpList_build_at (by rfl) 38 #[(0, Operand.const (Value.int .u8 2))] rfl _ (by kernel_rfl) (.agg X2) (H2.out _) ?_)
    | (refine wpList_build_at (by rfl) 38 #[(0, Operand.const (Value.int .u8 3))] rfl _ (by kernel_rfl) (.agg X3) (H3.out _) ?_)
    | (refine wpList_build_at (by rfl) 38 #[(0, Operand.const (Value.int .u8 4))] rfl _ (by kernel_rfl) (.agg X4) (H4.out _) ?_)
    | (refine wpList_build_at (by rfl) 40 #[(0, Operand.tmp 2), (1, Operand.const (Value.int .i64 1))] rfl _ (by kernel_rfl) (.agg Y1) (G1.out _) ?_)
    | (refine wpList_build_at (by rfl) 40 #[(0, Operand.tmp 4), (1, Operand.const (Value.int .i64 1))] rfl _ (by kernel_rfl) (.agg Y2) (G2.out _) ?_)
    | (refine wpList_build_at (by rfl) 40 #[(0, Operand.tmp 6), (1, Operand.const (Value.int .i64 1))] rfl _ (by kernel_rfl) (.agg Y3) (G3.out _) ?_)
    | (refine wpList_build_at (by rfl) 40 #[(0, Operand.tmp 8), (1, Operand.const (Value.int .i64 1))] rfl _ (by kernel_rfl) (.agg Y4) (G4.out _) ?_)
    | (refine wpList_row_at (by rfl) 22 4 #[(0, Operand.tmp 3), (1, Operand.tmp 5), (2, Operand.tmp 7), (3, Operand.tmp 9)] rfl _ (by kernel_rfl) _ _ (HR.out _) ?_))
  generalize w.alloc (.cells C 40) = w0 at *
  refine (quorum_is w0 _ 4 B v4 es HV0.out.1 v4_ok (by simp [v4]) HV0.out.2.1 hE0.out.1).mono ?_
  rintro e w1 ⟨rfl, hk1⟩
  rw [v4_q]
  have K1 := Lib.hid hk1
  clear hk1 H1 H2 H3 H4 G1 G2 G3 G4 HR
  go_wp2_with fail
  refine (total_is w1 _ 4 B v4 es (HV0.out.1.above K1.out) v4_ok (by simp [v4]) (Nat.le_trans HV0.out.2.1 K1.out.size) (hE0.out.1.above K1.out HV0.out.2.1)).mono ?_
  rintro e w2 ⟨rfl, hk2⟩
  rw [v4_t]
  have K2 := Lib.hid (above_trans K1.out hk2)
  clear hk2
  have U1 := Lib.hid (who3_run w2)
  go_wp2_with (refine wpList_row_at (by rfl) 23 3 #[(0, Operand.const (Value.int .i64 0)), (1, Operand.const (Value.int .i64 2)), (2, Operand.const (Value.int .i64 3))] rfl _ (by kernel_rfl) _ _ U1.out ?_)
  obtain ⟨w3, hw3⟩ : ∃ w3, w3 = w2.alloc (.cells #[.int .i64 0, .int .i64 2, .int .i64 3] 3) := ⟨_, rfl⟩
  rw [← hw3]
  have g3 : w2.grownBy w3 none := by rw [hw3]; exact World.grownBy_alloc _ _ none
  have i3 : IntsAt w3 (some ⟨w2.heap.size, 0, none⟩) [0, 2, 3] := by rw [hw3]; exact ints_new w2 [0, 2, 3] _
  have K3 := Lib.hid (above_trans K2.out (grown_above g3))
  refine (enough_is w3 _ _ 4 3 B v4 [0, 2, 3] es er et (HV0.out.1.above K3.out) v4_ok (by simp [v4]) i3 (by simp) (by simp) (Nat.le_trans HV0.out.2.1 K3.out.size) (hE0.out.1.above K3.out HV0.out.2.1) (hE0.out.2.1.above K3.out HV0.out.2.1) (hE0.out.2.2.above K3.out HV0.out.2.1)).mono ?_
  rintro e w4 ⟨rfl, hk4⟩
  rw [v4_e1]
  have K4 := Lib.hid (above_trans K3.out hk4)
  clear hk4 hw3 g3 i3
  have U2 := Lib.hid (who2_run w4)
  go_wp2_with (refine wpList_row_at (by rfl) 23 2 #[(0, Operand.const (Value.int .i64 0)), (1, Operand.const (Value.int .i64 1))] rfl _ (by kernel_rfl) _ _ U2.out ?_)
  obtain ⟨w5, hw5⟩ : ∃ w5, w5 = w4.alloc (.cells #[.int .i64 0, .int .i64 1] 3) := ⟨_, rfl⟩
  rw [← hw5]
  have g5 : w4.grownBy w5 none := by rw [hw5]; exact World.grownBy_alloc _ _ none
  have i5 : IntsAt w5 (some ⟨w4.heap.size, 0, none⟩) [0, 1] := by rw [hw5]; exact ints_new w4 [0, 1] _
  have K5 := Lib.hid (above_trans K4.out (grown_above g5))
  refine (enough_is w5 _ _ 4 2 B v4 [0, 1] es er et (HV0.out.1.above K5.out) v4_ok (by simp [v4]) i5 (by simp) (by simp) (Nat.le_trans HV0.out.2.1 K5.out.size) (hE0.out.1.above K5.out HV0.out.2.1) (hE0.out.2.1.above K5.out HV0.out.2.1) (hE0.out.2.2.above K5.out HV0.out.2.1)).mono ?_
  rintro e w6 ⟨rfl, hk6⟩
  rw [v4_e2]
  have K6 := Lib.hid (above_trans K5.out hk6)
  clear hk6 hw5 g5 i5
  go_wp2_with fail
  go_ret
  exact ⟨rfl, above_trans (grown_above HV0.out.2.2) K6.out⟩
end Go.Proofs.YtjoehhchejnhgaaDoor
