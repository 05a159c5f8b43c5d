/-
  quorateref02's k: a round's constant.
-/
import Derived.Test.YtjcbfenkpdpbeaaDoorRf2
namespace Go.Proofs.YtjcbfenkpdpbeaaDoor
open Go.RowKit

theorem wpList_build_run {w : World} {ops : Array Oper} {rest : List Oper} {o : Oper} {a : Act} {Q : Exit → Act → World → Prop} (hgd : o.guard = none) (t : TypeId) (parts : Array (Nat × Operand)) (ho : o.op = .build t parts) (V : Value)
    (hr : Sem.run Tryd.prog (Instr.build t (parts.map fun (i, x) => (i, a.eval x))) w = .ok V w) (h : wpList Tryd.prog ops Q rest (a.put o.dst V) w) : wpList Tryd.prog ops Q (o :: rest) a w := by
  refine wpList_plain hgd fun K hK => ?_
  unfold Oper.wp execOp
  simp only [ho, Sem.run_bind, hr, Result.andThen_ok, Sem.run_pure]
  exact hK _ _ h

set_option maxRecDepth 100000 in
set_option maxHeartbeats 1000000 in
theorem k_is (w : World) (i : Nat) (hi : i < 64) : Calls Tryd.prog 50 #[.int .i64 (i : Int)] w fun e w' => e = .returned (.int .u32 (kS.getD i 0)) ∧ w = w' := by
  obtain ⟨I, hI⟩ : ∃ I : Int, I = (i : Int) := ⟨_, rfl⟩
  rw [← hI]
  have hb : 0 ≤ I ∧ I < 64 := ⟨by omega, by omega⟩
  obtain ⟨V, hV⟩ : ∃ V, V = arrV .u32 kS := ⟨_, rfl⟩
  have hv : V[I.toNat]? = some (.int .u32 (kS.getD i 0)) := by rw [hV, show I.toNat = i by omega]; exact arr_get (by rw [kS_length]; exact hi)
  obtain ⟨x, hx⟩ : ∃ x, x = kS.getD i 0 := ⟨_, rfl⟩
  rw [← hx] at hv ⊢
  have HV := Lib.hid (And.intro hb (And.intro hv hV))
  clear hI hi hb hv hx hV
  go_enter Tryd.func50, Tryd.ntmps50
  go_wp2_with (first
    | (refine wpList_build_run rfl 96 _ rfl (.agg V) (by rw [HV.out.2.2]; kernel_rfl) ?_)
    | (refine wpList_index64 rfl _ _ rfl V I (.int .u32 x) rfl rfl HV.out.1 HV.out.2.1 ?_))
  go_ret
  exact ⟨rfl, rfl⟩
end Go.Proofs.YtjcbfenkpdpbeaaDoor
