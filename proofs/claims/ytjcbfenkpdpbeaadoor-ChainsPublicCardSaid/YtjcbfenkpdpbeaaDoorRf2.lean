/-
  quorateref02's right; an index into 64 words.
-/
import Derived.Test.YtjcbfenkpdpbeaaDoorRf
namespace Go.Proofs.YtjcbfenkpdpbeaaDoor
open Go.RowKit

theorem wpList_index64 {w : World} {ops : Array Oper} {rest : List Oper} {o : Oper} {a : Act} {Q : Exit → Act → World → Prop} (hgd : o.guard = none) (x y : Operand) (ho : o.op = .index 96 x y) (cs : Array Value) (I : Int) (v : Value)
    (hx : a.eval x = .agg cs) (hy : a.eval y = .int .i64 I) (hb : 0 ≤ I ∧ I < 64) (hv : cs[I.toNat]? = some v) (h : wpList Tryd.prog ops Q rest (a.put o.dst v) w) : wpList Tryd.prog ops Q (o :: rest) a w := by
  refine wpList_plain hgd fun K hK => ?_
  unfold Oper.wp execOp
  simp only [ho, hx, hy, Sem.run_bind, index64 w hb hv, Result.andThen_ok, Sem.run_pure]
  exact hK _ _ h

theorem right2 (w : World) (x : Int) : Calls Tryd.prog 51 #[.int .u32 x, .int .u64 2] w fun e w' => e = .returned (.int .u32 (rr 1073741824 4 x)) ∧ w = w' := by
  go_enter Tryd.func51, Tryd.ntmps51
  go_wp2_with fail
  go_ret
  exact ⟨by rw [rr, or_comm32]; rfl, rfl⟩
theorem right6 (w : World) (x : Int) : Calls Tryd.prog 51 #[.int .u32 x, .int .u64 6] w fun e w' => e = .returned (.int .u32 (rr 67108864 64 x)) ∧ w = w' := by
  go_enter Tryd.func51, Tryd.ntmps51
  go_wp2_with fail
  go_ret
  exact ⟨by rw [rr, or_comm32]; rfl, rfl⟩
theorem right7 (w : World) (x : Int) : Calls Tryd.prog 51 #[.int .u32 x, .int .u64 7] w fun e w' => e = .returned (.int .u32 (rr 33554432 128 x)) ∧ w = w' := by
  go_enter Tryd.func51, Tryd.ntmps51
  go_wp2_with fail
  go_ret
  exact ⟨by rw [rr, or_comm32]; rfl, rfl⟩
theorem right11 (w : World) (x : Int) : Calls Tryd.prog 51 #[.int .u32 x, .int .u64 11] w fun e w' => e = .returned (.int .u32 (rr 2097152 2048 x)) ∧ w = w' := by
  go_enter Tryd.func51, Tryd.ntmps51
  go_wp2_with fail
  go_ret
  exact ⟨by rw [rr, or_comm32]; rfl, rfl⟩
theorem right13 (w : World) (x : Int) : Calls Tryd.prog 51 #[.int .u32 x, .int .u64 13] w fun e w' => e = .returned (.int .u32 (rr 524288 8192 x)) ∧ w = w' := by
  go_enter Tryd.func51, Tryd.ntmps51
  go_wp2_with fail
  go_ret
  exact ⟨by rw [rr, or_comm32]; rfl, rfl⟩
theorem right17 (w : World) (x : Int) : Calls Tryd.prog 51 #[.int .u32 x, .int .u64 17] w fun e w' => e = .returned (.int .u32 (rr 32768 131072 x)) ∧ w = w' := by
  go_enter Tryd.func51, Tryd.ntmps51
  go_wp2_with fail
  go_ret
  exact ⟨by rw [rr, or_comm32]; rfl, rfl⟩
theorem right18 (w : World) (x : Int) : Calls Tryd.prog 51 #[.int .u32 x, .int .u64 18] w fun e w' => e = .returned (.int .u32 (rr 16384 262144 x)) ∧ w = w' := by
  go_enter Tryd.func51, Tryd.ntmps51
  go_wp2_with fail
  go_ret
  exact ⟨by rw [rr, or_comm32]; rfl, rfl⟩
theorem right19 (w : World) (x : Int) : Calls Tryd.prog 51 #[.int .u32 x, .int .u64 19] w fun e w' => e = .returned (.int .u32 (rr 8192 524288 x)) ∧ w = w' := by
  go_enter Tryd.func51, Tryd.ntmps51
  go_wp2_with fail
  go_ret
  exact ⟨by rw [rr, or_comm32]; rfl, rfl⟩
theorem right22 (w : World) (x : Int) : Calls Tryd.prog 51 #[.int .u32 x, .int .u64 22] w fun e w' => e = .returned (.int .u32 (rr 1024 4194304 x)) ∧ w = w' := by
  go_enter Tryd.func51, Tryd.ntmps51
  go_wp2_with fail
  go_ret
  exact ⟨by rw [rr, or_comm32]; rfl, rfl⟩
theorem right25 (w : World) (x : Int) : Calls Tryd.prog 51 #[.int .u32 x, .int .u64 25] w fun e w' => e = .returned (.int .u32 (rr 128 33554432 x)) ∧ w = w' := by
  go_enter Tryd.func51, Tryd.ntmps51
  go_wp2_with fail
  go_ret
  exact ⟨by rw [rr, or_comm32]; rfl, rfl⟩
end Go.Proofs.YtjcbfenkpdpbeaaDoor
