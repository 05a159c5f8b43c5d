/-
  CodecSigned, walked.
-/
import Derived.Test.YthjcgdcmbedhnaaDoorGdS
import Derived.Test.YthjcgdcmbedhnaaDoorBaseA
import Derived.Test.YthjcgdcmbedhnaaDoorCdAl
namespace Go.Proofs.YthjcgdcmbedhnaaDoor
open Go.RowKit

attribute [local go_sem] Oper.semAt_some

theorem wf_in9 {z : Int} (h : (Lit.int .i64 z).wf = true) : -9223372036854775808 ≤ z ∧ z < 9223372036854775808 := by
  have h2 : decide (-9223372036854775808 ≤ z) = true ∧ decide (z ≤ 9223372036854775807) = true := Bool.and_eq_true_iff.1 h
  have h3 := of_decide_eq_true h2.1
  have h4 := of_decide_eq_true h2.2
  exact ⟨h3, by omega⟩
theorem dig_wf9 {l : List Int} (h16 : l.length = 16) (h : ∀ z ∈ l, (Lit.int .u8 z).wf = true) : isDig l := ⟨h16, fun z hz => by
  have := h z hz
  simp [Lit.wf, IntKind.min, IntKind.max, IntKind.signed, IntKind.bits] at this
  omega⟩
set_option maxRecDepth 100000 in
set_option maxHeartbeats 2000000 in
theorem signed9_any (w : World) (hR : Rounds w) (E : Nat → Addr) (he : ErrAt w w.heap.size 1 (E 0)) (hf : ErrAt w w.heap.size 0 (E 3))
    (e r : Int) (hE : -9223372036854775808 ≤ e ∧ e < 9223372036854775808) (hr : -9223372036854775808 ≤ r ∧ r < 9223372036854775808) (d : List Int) (hd : isDig d) (dd : Array Value) (hdd : dd = arrV .u8 d) :
    Calls Tryd.prog 3 #[.int .i64 e, .int .i64 r, .agg dd] w fun e' w' => e' = .returned (.bool true) ∧ w.grownBy w' none := by
  have hd16 : dd.size = 16 := by rw [hdd, arr_size, hd.1]
  obtain ⟨W1, hW1⟩ : ∃ W1, w.alloc (.cells dd 23) = W1 := ⟨_, rfl⟩
  have g1 : w.grownBy W1 none := by rw [← hW1]; exact World.grownBy_alloc _ _ none
  have bx : Blk W1 w.heap.size 23 dd := by rw [← hW1]; exact Blk.new w _ _
  have z1 := g1.size
  obtain ⟨h0, hh0⟩ : ∃ h : Int, h = r.tdiv 2 := ⟨_, rfl⟩
  have hh3 : -9223372036854775808 ≤ h0 ∧ h0 < 9223372036854775808 := by
    rw [hh0]
    rcases Int.le_total 0 r with k0 | k0
    · rw [Int.tdiv_eq_ediv_of_nonneg k0]; omega
    · have := Int.neg_tdiv (a := -r) (b := 2)
      rw [Int.neg_neg] at this
      rw [this, Int.tdiv_eq_ediv_of_nonneg (by omega)]; omega
  obtain ⟨h, hh⟩ : ∃ h : Int, h = wrap64 (r.tdiv 2) := ⟨_, rfl⟩
  have hh4 : h = h0 := by rw [hh, ← hh0]; exact w64 h0 ⟨by omega, by omega⟩
  have hh2 : -9223372036854775808 ≤ h ∧ h < 9223372036854775808 := by rw [hh4]; exact hh3
  obtain ⟨v1, hv1⟩ : ∃ v, v = arrV .u8 (forV e r d) := ⟨_, rfl⟩
  obtain ⟨v2, hv2⟩ : ∃ v, v = arrV .u8 (forL e r h) := ⟨_, rfl⟩
  obtain ⟨v3, hv3⟩ : ∃ v, v = arrV .u8 (forP d) := ⟨_, rfl⟩
  have q1 : ∀ V, Sem.run Tryd.prog (Op.equalIn 10000 23 (.agg v1) (.agg v1)) V = .ok true V := fun V => eqDG _ (ofS_length _ _) v1 hv1 V
  have q2 : ∀ V, Sem.run Tryd.prog (Op.equalIn 10000 23 (.agg v2) (.agg v2)) V = .ok true V := fun V => eqDG _ (ofS_length _ _) v2 hv2 V
  have q3 : ∀ V, Sem.run Tryd.prog (Op.equalIn 10000 23 (.agg v3) (.agg v3)) V = .ok true V := fun V => eqDG _ (ofS_length _ _) v3 hv3 V
  have S0 := Lib.hid (fun z : Gr W1 => alive9 z.1 E ⟨(grown_trans g1 z.2).cell he.1 (by simp), by have := he.2; have := z.2.size; omega⟩ ⟨(grown_trans g1 z.2).cell hf.1 (by simp), by have := hf.2; have := z.2.size; omega⟩)
  have S1 := Lib.hid (fun z : Gr W1 => (show Calls Tryd.prog 6 #[.int .i64 e, .int .i64 r, .agg dd] z.1 fun e' w' => e' = .returned (.agg v1) ∧ z.1.grownBy w' none from by rw [hv1]; exact forV_is z.1 (hR.grown (grown_trans g1 z.2) (by simp)) e r hE hr d hd dd hdd))
  have S2 := Lib.hid (fun z : Gr W1 => (show Calls Tryd.prog 7 #[.int .i64 e, .int .i64 r, .agg dd] z.1 fun e' w' => e' = .returned (.agg v1) ∧ z.1.grownBy w' none from by rw [hv1]; exact rforV_is z.1 e r hE hr d hd dd hdd))
  have S3 := Lib.hid (fun z : Gr W1 => (show Calls Tryd.prog 8 #[.int .i64 e, .int .i64 r, .int .i64 h] z.1 fun e' w' => e' = .returned (.agg v2) ∧ z.1.grownBy w' none from by rw [hv2]; exact forL_is z.1 (hR.grown (grown_trans g1 z.2) (by simp)) e r h hE hr hh2))
  have S4 := Lib.hid (fun z : Gr W1 => (show Calls Tryd.prog 9 #[.int .i64 e, .int .i64 r, .int .i64 h] z.1 fun e' w' => e' = .returned (.agg v2) ∧ z.1.grownBy w' none from by rw [hv2]; exact rforL_is z.1 e r h hE hr hh2))
  have S5 := Lib.hid (fun z : Gr W1 => (show Calls Tryd.prog 10 #[.agg dd] z.1 fun e' w' => e' = .returned (.agg v3) ∧ z.1.grownBy w' none from by rw [hv3]; exact forP_is z.1 (hR.grown (grown_trans g1 z.2) (by simp)) d hd dd hdd))
  have S6 := Lib.hid (fun z : Gr W1 => (show Calls Tryd.prog 11 #[.agg dd] z.1 fun e' w' => e' = .returned (.agg v3) ∧ z.1.grownBy w' none from by rw [hv3]; exact rforP_is z.1 d hd dd hdd))
  have V1 := Lib.hid (fun z : Gr W1 => row_load w.heap.size dd hd16 z.1 (bx.grown z.2 (by simp)))
  have HG := Lib.hid g1
  have HW := Lib.hid hW1
  clear hR he hf hE hr hd hdd hd16 hW1 g1 bx z1 hh2 hh4 hh0 hh3 hv1 hv2 hv3
  go_enter Tryd.func3, Tryd.ntmps3
  go_upto_region 1 with (fail)
  rw [HW.out]
  refine wp_region_grown (by kernel_rfl) (by kernel_rfl) ?_
  repeat (first
      | (refine wpQuiet_load_row 23 _ ⟨w.heap.size, 0, none⟩ (.agg dd) (by rfl) rfl rfl (by rintro _ ⟨z, rfl⟩; exact V1.out z) ?_; simp only [Act.put, List.setIfInBounds_toArray, List.set_cons_zero, List.set_cons_succ])
      | go_big_quiet_step (first
      | (go_at_call 5; with_reducible exact Calls.grown _ (S0.out _))
      | (go_at_call 6; with_reducible exact Calls.grown _ (S1.out _))
      | (go_at_call 7; with_reducible exact Calls.grown _ (S2.out _))
      | (go_at_call 8; try rw [← hh]; with_reducible exact Calls.grown _ (S3.out _))
      | (go_at_call 9; try rw [← hh]; with_reducible exact Calls.grown _ (S4.out _))
      | (go_at_call 10; with_reducible exact Calls.grown _ (S5.out _))
      | (go_at_call 11; with_reducible exact Calls.grown _ (S6.out _))))
  refine wpQuiet_nil ?_
  rintro w7 ⟨⟨_, k7⟩, rfl⟩
  go_wp2_with fail
  go_ret
  exact ⟨rfl, grown_trans HG.out k7⟩
end Go.Proofs.YthjcgdcmbedhnaaDoor
