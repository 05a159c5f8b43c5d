/-
  Several texts in one: Rf2, RfK.
-/
import Derived.Test.YtpdfkgmgmndcfaaGreatDoorM20h
/-
  quorateref02's right; an index into 64 words.
-/

namespace Go.Proofs.YtpdfkgmgmndcfaaGreatDoor
open Go.RowKit

theorem wpList_index64 {w : World} {ops : Array Oper} {rest : List Oper} {o : Oper} {a : Act} {Q : Exit → Act → World → Prop} (hgd : o.guard = none) (x y : Operand) (ho : o.op = .index 109 x y) (cs : Array Value) (I : Int) (v : Value)
    (hx : a.eval x = .agg cs) (hy : a.eval y = .int .i64 I) (hb : 0 ≤ I ∧ I < 64) (hv : cs[I.toNat]? = some v) (h : wpList Tryz.prog ops Q rest (a.put o.dst v) w) : wpList Tryz.prog ops Q (o :: rest) a w := by
  refine wpList_plain hgd fun K hK => ?_
  unfold Oper.wp execOp
  simp only [ho, hx, hy, Sem.run_bind, index64 w hb hv, Result.andThen_ok, Sem.run_pure]
  exact hK _ _ h

theorem right2 (w : World) (x : Int) : Calls Tryz.prog 44 #[.int .u32 x, .int .u64 2] w fun e w' => e = .returned (.int .u32 (rr 1073741824 4 x)) ∧ w = w' := by
  go_enter Tryz.func44, Tryz.ntmps44
  go_wp2_with fail
  go_ret
  exact ⟨by rw [rr, or_comm32]; rfl, rfl⟩
theorem right6 (w : World) (x : Int) : Calls Tryz.prog 44 #[.int .u32 x, .int .u64 6] w fun e w' => e = .returned (.int .u32 (rr 67108864 64 x)) ∧ w = w' := by
  go_enter Tryz.func44, Tryz.ntmps44
  go_wp2_with fail
  go_ret
  exact ⟨by rw [rr, or_comm32]; rfl, rfl⟩
theorem right7 (w : World) (x : Int) : Calls Tryz.prog 44 #[.int .u32 x, .int .u64 7] w fun e w' => e = .returned (.int .u32 (rr 33554432 128 x)) ∧ w = w' := by
  go_enter Tryz.func44, Tryz.ntmps44
  go_wp2_with fail
  go_ret
  exact ⟨by rw [rr, or_comm32]; rfl, rfl⟩
theorem right11 (w : World) (x : Int) : Calls Tryz.prog 44 #[.int .u32 x, .int .u64 11] w fun e w' => e = .returned (.int .u32 (rr 2097152 2048 x)) ∧ w = w' := by
  go_enter Tryz.func44, Tryz.ntmps44
  go_wp2_with fail
  go_ret
  exact ⟨by rw [rr, or_comm32]; rfl, rfl⟩
theorem right13 (w : World) (x : Int) : Calls Tryz.prog 44 #[.int .u32 x, .int .u64 13] w fun e w' => e = .returned (.int .u32 (rr 524288 8192 x)) ∧ w = w' := by
  go_enter Tryz.func44, Tryz.ntmps44
  go_wp2_with fail
  go_ret
  exact ⟨by rw [rr, or_comm32]; rfl, rfl⟩
theorem right17 (w : World) (x : Int) : Calls Tryz.prog 44 #[.int .u32 x, .int .u64 17] w fun e w' => e = .returned (.int .u32 (rr 32768 131072 x)) ∧ w = w' := by
  go_enter Tryz.func44, Tryz.ntmps44
  go_wp2_with fail
  go_ret
  exact ⟨by rw [rr, or_comm32]; rfl, rfl⟩
theorem right18 (w : World) (x : Int) : Calls Tryz.prog 44 #[.int .u32 x, .int .u64 18] w fun e w' => e = .returned (.int .u32 (rr 16384 262144 x)) ∧ w = w' := by
  go_enter Tryz.func44, Tryz.ntmps44
  go_wp2_with fail
  go_ret
  exact ⟨by rw [rr, or_comm32]; rfl, rfl⟩
theorem right19 (w : World) (x : Int) : Calls Tryz.prog 44 #[.int .u32 x, .int .u64 19] w fun e w' => e = .returned (.int .u32 (rr 8192 524288 x)) ∧ w = w' := by
  go_enter Tryz.func44, Tryz.ntmps44
  go_wp2_with fail
  go_ret
  exact ⟨by rw [rr, or_comm32]; rfl, rfl⟩
theorem right22 (w : World) (x : Int) : Calls Tryz.prog 44 #[.int .u32 x, .int .u64 22] w fun e w' => e = .returned (.int .u32 (rr 1024 4194304 x)) ∧ w = w' := by
  go_enter Tryz.func44, Tryz.ntmps44
  go_wp2_with fail
  go_ret
  exact ⟨by rw [rr, or_comm32]; rfl, rfl⟩
theorem right25 (w : World) (x : Int) : Calls Tryz.prog 44 #[.int .u32 x, .int .u64 25] w fun e w' => e = .returned (.int .u32 (rr 128 33554432 x)) ∧ w = w' := by
  go_enter Tryz.func44, Tryz.ntmps44
  go_wp2_with fail
  go_ret
  exact ⟨by rw [rr, or_comm32]; rfl, rfl⟩
end Go.Proofs.YtpdfkgmgmndcfaaGreatDoor
/-
  quorateref02's k: a round's constant.
-/

namespace Go.Proofs.YtpdfkgmgmndcfaaGreatDoor
open Go.RowKit

theorem wpList_build_run {w : World} {ops : Array Oper} {rest : List Oper} {o : Oper} {a : Act} {Q : Exit → Act → World → Prop} (hgd : o.guard = none) (t : TypeId) (parts : Array (Nat × Operand)) (ho : o.op = .build t parts) (V : Value)
    (hr : Sem.run Tryz.prog (Instr.build t (parts.map fun (i, x) => (i, a.eval x))) w = .ok V w) (h : wpList Tryz.prog ops Q rest (a.put o.dst V) w) : wpList Tryz.prog ops Q (o :: rest) a w := by
  refine wpList_plain hgd fun K hK => ?_
  unfold Oper.wp execOp
  simp only [ho, Sem.run_bind, hr, Result.andThen_ok, Sem.run_pure]
  exact hK _ _ h

set_option maxRecDepth 100000 in
set_option maxHeartbeats 1000000 in
theorem k_is (w : World) (i : Nat) (hi : i < 64) : Calls Tryz.prog 43 #[.int .i64 (i : Int)] w fun e w' => e = .returned (.int .u32 (kS.getD i 0)) ∧ w = w' := by
  obtain ⟨I, hI⟩ : ∃ I : Int, I = (i : Int) := ⟨_, rfl⟩
  rw [← hI]
  have hb : 0 ≤ I ∧ I < 64 := ⟨by omega, by omega⟩
  obtain ⟨V, hV⟩ : ∃ V, V = arrV .u32 kS := ⟨_, rfl⟩
  have hv : V[I.toNat]? = some (.int .u32 (kS.getD i 0)) := by rw [hV, show I.toNat = i by omega]; exact arr_get (by rw [kS_length]; exact hi)
  obtain ⟨x, hx⟩ : ∃ x, x = kS.getD i 0 := ⟨_, rfl⟩
  rw [← hx] at hv ⊢
  have HV := Lib.hid (And.intro hb (And.intro hv hV))
  clear hI hi hb hv hx hV
  go_enter Tryz.func43, Tryz.ntmps43
  go_wp2_with (first
    | (refine wpList_build_run rfl 109 _ rfl (.agg V) (by rw [HV.out.2.2]; kernel_rfl) ?_)
    | (refine wpList_index64 rfl _ _ rfl V I (.int .u32 x) rfl rfl HV.out.1 HV.out.2.1 ?_))
  go_ret
  exact ⟨rfl, rfl⟩
end Go.Proofs.YtpdfkgmgmndcfaaGreatDoor
