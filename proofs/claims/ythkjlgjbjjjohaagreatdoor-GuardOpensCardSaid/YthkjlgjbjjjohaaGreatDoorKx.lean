/-
  The errors of (*Key).Sign.
-/
import Derived.Test.YthkjlgjbjjjohaaGreatDoorKs
import Derived.Test.YthkjlgjbjjjohaaGreatDoorErrA
namespace Go.Proofs.YthkjlgjbjjjohaaGreatDoor
open Go.RowKit

set_option maxRecDepth 100000 in
set_option maxHeartbeats 4000000 in
theorem ksign_neg (w : World) (B : Nat) (a : Addr) (hE : ErrAt w B (gix.getD 0 0) a) (kv : Value) (lf : Int) (hlf : lf < 0) (dd : Array Value) :
    Calls Tryz.prog 91 #[kv, .int .i64 lf, .agg dd] w fun e w' => e = .returned (.tuple #[.agg sigZ, errV a]) ∧ w.grownBy w' none := by
  have hz30 := sigz_run
  obtain ⟨zl, hzl⟩ : ∃ l, l = sigZ.toList := ⟨_, rfl⟩
  have hz : sigZ = zl.toArray := by rw [hzl, Array.toArray_toList]
  have hzz := sigz_build
  have hzn : zl.length = 3 := by rw [hzl]; rfl
  have hi6 : (Tryz.prog.info? 73).map (·.size) = some zl.length := by rw [hzn]; exact info3
  have ho6 : ∀ v ∈ zl, v.oneCell' = true := by rw [hzl]; simp [sigZ, Value.oneCell']
  have HZ := Lib.hid (And.intro hz (And.intro hzn (show (sigZ.all fun v => v.oneCell') = true by simp [sigZ, Value.oneCell'])))
  have HE := Lib.hid hE
  have HZL := Lib.hid hzl
  have hB0 : 0 < w.heap.size := by
    have := World.block_lt_of_cell? w _ hE.1
    simpa only [gix, List.getD_cons_zero, List.getD_cons_succ] using this
  have h0 : decide (lf < 0) = true := by simp; omega
  clear hzl hE hz hi6 ho6 hzn
  go_enter Tryz.func91, Tryz.ntmps91
  obtain ⟨w0, hw0⟩ : ∃ w0, w0 = (w.alloc (.cells dd 23)).alloc (.cells sigZ 73) := ⟨_, rfl⟩
  have HZ0 := Lib.hid (show Blk w0 (w.heap.size + 1) 73 sigZ by rw [hw0]; have := Blk.new (w.alloc (.cells dd 23)) 73 sigZ; rwa [World.size_alloc] at this)
  have HG0 := Lib.hid (show w.grownBy w0 none by rw [hw0]; exact grown_trans (World.grownBy_alloc _ _ none) (World.grownBy_alloc _ _ none))
  have HW0 := Lib.hid hw0
  clear hw0
  go_wp2_with fail
  rw [← HW0.out]
  have hc : w0.drew.cell? ⟨gix.getD 0 0, 0, none⟩ = some (errV a) := by
    rw [World.cell?_drew]; exact HG0.out.cell HE.out.1 (by simp)
  simp only [gix, List.getD_cons_zero, List.getD_cons_succ] at hc
  have hgb : 0 ≠ w.heap.size + 1 := by omega
  have HB9 := Lib.hid HZ0.out.drew
  have HG9 := Lib.hid (show w.grownBy w0.drew none from grown_trans HG0.out (grown_drew (World.grownBy.refl w0 none)))
  refine wp_region_held_drew (S := fun V => V.cell? ⟨0, 0, none⟩ = some (errV a)) (by kernel_rfl) hc (fun hHeld => ?_)
  refine wpAnyH_take (i := 0) (oi := _) (v := ?v0x) rfl (by kernel_rfl) (by kernel_rfl) (by kernel_rfl) (fun _ _ _ h => h) (Or.inl ⟨by rfl, ?hy0x⟩) (by assumption) ?rest0x
  case hy0x => (intro V hSw; (try dsimp only at hSw); go_simp) <;> with_reducible rfl
  simp only [Act.put, List.getElem_toArray, List.getElem_cons_zero, List.setIfInBounds_toArray, List.set_cons_zero, List.set_cons_succ]
  refine wpAnyH_take (i := 1) (oi := _) (v := ?v1x) rfl (by kernel_rfl) (by kernel_rfl) (by kernel_rfl) (fun _ _ _ h => h) (Or.inl ⟨by rfl, ?hy1x⟩) (by assumption) ?rest1x
  case hy1x => (intro V hSw; (try dsimp only at hSw); go_simp) <;> with_reducible rfl
  simp only [Act.put, List.getElem_toArray, List.getElem_cons_succ, List.getElem_cons_zero, List.setIfInBounds_toArray, List.set_cons_zero, List.set_cons_succ]
  refine wpAnyH_ready (rs := [2]) (by kernel_rfl) (by simp) ?_
  refine AllReadyH.cons (o := _) rfl (fun K hK => ?_) AllReadyH.nil
  rw [if_pos (by rfl)]
  refine wp_store_row _ _ _ rfl (w.heap.size + 1) sigZ rfl rfl 73 _ HB9.out (by exact info3) rfl HZ.out.2.2 ?_
  refine hK.out _ _ ((grown_row (World.grownBy.refl w0.drew (some (w.heap.size + 1))) (.inr rfl) sigZ).cell hc (fun e => hgb (Option.some.inj e))) (fun hHeld => ?_)
  clear hK K
  try simp only [Act.put, List.setIfInBounds_toArray, List.set_cons_zero, List.set_cons_succ]
  refine wpAnyH_take (i := 3) (oi := _) (v := ?v3x) rfl (by kernel_rfl) (by kernel_rfl) (by kernel_rfl) (fun _ _ _ h => h) (Or.inl ⟨by rfl, ?hy3x⟩) (by assumption) ?rest3x
  case hy3x => (intro V hSw; (try dsimp only at hSw); go_simp) <;> with_reducible rfl
  simp only [Act.put, List.getElem_toArray, List.getElem_cons_succ, List.getElem_cons_zero, List.setIfInBounds_toArray, List.set_cons_zero, List.set_cons_succ]
  refine wpAnyH_done (by kernel_rfl) ?_ _
  go_wp2_with fail
  refine bodyPost_ret (results_cell_t rfl _ _ _ ⟨w.heap.size + 1, 0, none⟩ (.agg sigZ) rfl (run_loadVar_row _ (w.heap.size + 1) 73 73 sigZ (0, 0) _ (HB9.out.row sigZ) Tryz.underlying73 rfl (by exact info3))) rfl ?_
  exact ⟨rfl, grown_row HG9.out (.inl (Nat.le_succ _)) sigZ⟩
set_option maxRecDepth 100000 in
set_option maxHeartbeats 4000000 in
theorem ksign_spent (w : World) (B : Nat) (a : Addr) (hE : ErrAt w B (gix.getD 4 0) a) (kv : Value) (lf : Int) (hlf : 32 ≤ lf) (dd : Array Value) :
    Calls Tryz.prog 91 #[kv, .int .i64 lf, .agg dd] w fun e w' => e = .returned (.tuple #[.agg sigZ, errV a]) ∧ w.grownBy w' none := by
  have hz30 := sigz_run
  obtain ⟨zl, hzl⟩ : ∃ l, l = sigZ.toList := ⟨_, rfl⟩
  have hz : sigZ = zl.toArray := by rw [hzl, Array.toArray_toList]
  have hzz := sigz_build
  have hzn : zl.length = 3 := by rw [hzl]; rfl
  have hi6 : (Tryz.prog.info? 73).map (·.size) = some zl.length := by rw [hzn]; exact info3
  have ho6 : ∀ v ∈ zl, v.oneCell' = true := by rw [hzl]; simp [sigZ, Value.oneCell']
  have HZ := Lib.hid (And.intro hz (And.intro hzn (show (sigZ.all fun v => v.oneCell') = true by simp [sigZ, Value.oneCell'])))
  have HE := Lib.hid hE
  have HZL := Lib.hid hzl
  have hB0 : 5 < w.heap.size := by
    have := World.block_lt_of_cell? w _ hE.1
    simpa only [gix, List.getD_cons_zero, List.getD_cons_succ] using this
  have h0 : decide (lf < 0) = false := by simp; omega
  have h1 : decide (32 ≤ lf) = true := by simp; omega
  have h0' : ¬ lf < 0 := by omega
  clear hzl hE hz hi6 ho6 hzn
  go_enter Tryz.func91, Tryz.ntmps91
  obtain ⟨w0, hw0⟩ : ∃ w0, w0 = (w.alloc (.cells dd 23)).alloc (.cells sigZ 73) := ⟨_, rfl⟩
  have HZ0 := Lib.hid (show Blk w0 (w.heap.size + 1) 73 sigZ by rw [hw0]; have := Blk.new (w.alloc (.cells dd 23)) 73 sigZ; rwa [World.size_alloc] at this)
  have HG0 := Lib.hid (show w.grownBy w0 none by rw [hw0]; exact grown_trans (World.grownBy_alloc _ _ none) (World.grownBy_alloc _ _ none))
  have HW0 := Lib.hid hw0
  clear hw0
  go_wp2_with fail
  rw [← HW0.out]
  have hc : w0.drew.cell? ⟨gix.getD 4 0, 0, none⟩ = some (errV a) := by
    rw [World.cell?_drew]; exact HG0.out.cell HE.out.1 (by simp)
  simp only [gix, List.getD_cons_zero, List.getD_cons_succ] at hc
  have hgb : 5 ≠ w.heap.size + 1 := by omega
  have HB9 := Lib.hid HZ0.out.drew
  have HG9 := Lib.hid (show w.grownBy w0.drew none from grown_trans HG0.out (grown_drew (World.grownBy.refl w0 none)))
  refine wp_region_held_drew (S := fun V => V.cell? ⟨5, 0, none⟩ = some (errV a)) (by kernel_rfl) hc (fun hHeld => ?_)
  refine wpAnyH_take (i := 0) (oi := _) (v := ?v0x) rfl (by kernel_rfl) (by kernel_rfl) (by kernel_rfl) (fun _ _ _ h => h) (Or.inl ⟨by rfl, ?hy0x⟩) (by assumption) ?rest0x
  case hy0x => (intro V hSw; (try dsimp only at hSw); go_simp) <;> with_reducible rfl
  simp only [Act.put, List.getElem_toArray, List.getElem_cons_zero, List.setIfInBounds_toArray, List.set_cons_zero, List.set_cons_succ]
  refine wpAnyH_take (i := 1) (oi := _) (v := ?v1x) rfl (by kernel_rfl) (by kernel_rfl) (by kernel_rfl) (fun _ _ _ h => h) (Or.inl ⟨by rfl, ?hy1x⟩) (by assumption) ?rest1x
  case hy1x => (intro V hSw; (try dsimp only at hSw); go_simp) <;> with_reducible rfl
  simp only [Act.put, List.getElem_toArray, List.getElem_cons_succ, List.getElem_cons_zero, List.setIfInBounds_toArray, List.set_cons_zero, List.set_cons_succ]
  refine wpAnyH_ready (rs := [2]) (by kernel_rfl) (by simp) ?_
  refine AllReadyH.cons (o := _) rfl (fun K hK => ?_) AllReadyH.nil
  rw [if_pos (by rfl)]
  refine wp_store_row _ _ _ rfl (w.heap.size + 1) sigZ rfl rfl 73 _ HB9.out (by exact info3) rfl HZ.out.2.2 ?_
  refine hK.out _ _ ((grown_row (World.grownBy.refl w0.drew (some (w.heap.size + 1))) (.inr rfl) sigZ).cell hc (fun e => hgb (Option.some.inj e))) (fun hHeld => ?_)
  clear hK K
  try simp only [Act.put, List.setIfInBounds_toArray, List.set_cons_zero, List.set_cons_succ]
  refine wpAnyH_take (i := 3) (oi := _) (v := ?v3x) rfl (by kernel_rfl) (by kernel_rfl) (by kernel_rfl) (fun _ _ _ h => h) (Or.inl ⟨by rfl, ?hy3x⟩) (by assumption) ?rest3x
  case hy3x => (intro V hSw; (try dsimp only at hSw); go_simp) <;> with_reducible rfl
  simp only [Act.put, List.getElem_toArray, List.getElem_cons_succ, List.getElem_cons_zero, List.setIfInBounds_toArray, List.set_cons_zero, List.set_cons_succ]
  refine wpAnyH_done (by kernel_rfl) ?_ _
  go_wp2_with fail
  refine bodyPost_ret (results_cell_t rfl _ _ _ ⟨w.heap.size + 1, 0, none⟩ (.agg sigZ) rfl (run_loadVar_row _ (w.heap.size + 1) 73 73 sigZ (0, 0) _ (HB9.out.row sigZ) Tryz.underlying73 rfl (by exact info3))) rfl ?_
  exact ⟨rfl, grown_row HG9.out (.inl (Nat.le_succ _)) sigZ⟩
end Go.Proofs.YthkjlgjbjjjohaaGreatDoor
