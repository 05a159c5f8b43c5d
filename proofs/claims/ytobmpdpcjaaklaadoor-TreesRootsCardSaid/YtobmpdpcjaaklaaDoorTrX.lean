/-
  The errors of trees.Root and trees.Path.
-/
import Derived.Test.YtobmpdpcjaaklaaDoorTrD
import Derived.Test.YtobmpdpcjaaklaaDoorTrW
namespace Go.Proofs.YtobmpdpcjaaklaaDoor
open Go.RowKit

set_option maxRecDepth 100000 in
set_option maxHeartbeats 4000000 in
theorem root_form (w : World) (B : Nat) (a : Addr) (hE : ErrAt w B (gix.getD 3 0) a) (A : Option Addr) (n c : Nat) (hn : n ≠ 32) (zs : Array Value) (hzs : zs = arrV .u8 (List.replicate 16 0)) :
    Calls Tryd.prog 9 #[.slice A n c] w fun e w' => e = .returned (.tuple #[.agg zs, errV a]) ∧ w.grownBy w' none := by
  obtain ⟨zl, hzl⟩ : ∃ l, l = zs.toList := ⟨_, rfl⟩
  have hz : zs = zl.toArray := by rw [hzl, Array.toArray_toList]
  have hz16 : ∀ w, Sem.run Tryd.prog (zeroValue 25) w = .ok (.agg zl.toArray) w := fun w => by rw [← hz, hzs]; exact z16run w
  have hzn : zl.length = 16 := by rw [hzl, Array.length_toList, hzs]; rfl
  have hi6 : (Tryd.prog.info? 25).map (·.size) = some zl.length := by rw [hzn]; exact info16
  have ho6 : ∀ v ∈ zl, v.oneCell' = true := by rw [hzl, hzs]; simp [Value.oneCell']
  have HZ := Lib.hid (And.intro hz (And.intro hzn (show (zs.all fun v => v.oneCell') = true by rw [hzs]; exact arr_one _ _)))
  have HE := Lib.hid hE
  have HZL := Lib.hid hzl
  have hB0 : 0 < w.heap.size := by
    have := World.block_lt_of_cell? w _ hE.1
    simpa only [gix, List.getD_cons_zero, List.getD_cons_succ] using this
  have d32 : ¬ ((n : Int) = 32) := by omega
  clear hzl hzs hE hn
  go_enter Tryd.func9, Tryd.ntmps9
  obtain ⟨w0, hw0⟩ : ∃ w0, w0 = w.alloc (.cells zl.toArray 25) := ⟨_, rfl⟩
  have HZ0 := Lib.hid (show Blk w0 w.heap.size 25 zs by rw [hw0, hz]; exact Blk.new w 25 zl.toArray)
  have HG0 := Lib.hid (show w.grownBy w0 none by rw [hw0]; exact World.grownBy_alloc _ _ none)
  have HW0 := Lib.hid hw0
  clear hw0
  go_wp2_with fail
  rw [← HW0.out]
  have hT : w0.drew.there w.heap.size 0 16 := there_blk HZ0.out.drew (by rw [HZ.out.1, List.size_toArray, HZ.out.2.1]; exact Nat.le_refl _)
  have hc : w0.drew.cell? ⟨gix.getD 3 0, 0, none⟩ = some (errV a) := by
    rw [World.cell?_drew]; exact HG0.out.cell HE.out.1 (by simp)
  simp only [gix, List.getD_cons_zero, List.getD_cons_succ] at hc
  have hS := And.intro hT hc
  have hgb : ¬ 0 = w.heap.size := by omega
  clear hT hc
  go_region_held3 (fun W => W.there w.heap.size 0 16 ∧ W.cell? ⟨0, 0, none⟩ = some (errV a)) (first | exact hS | assumption | exact ⟨World.there_setCells hS.1 _ _ _, (World.cell?_setCells_out _ _ _ _ _ (fun e => absurd e hgb)).trans hS.2⟩)
    (fail)
  have HB9 := Lib.hid HZ0.out.drew
  have HG9 := Lib.hid (show w.grownBy w0.drew none from grown_trans HG0.out (grown_drew (World.grownBy.refl w0 none)))
  have HEQ := Lib.hid (show w0.drew.setCells w.heap.size 0 zl = w0.drew.setRow w.heap.size zs by
    rw [HZL.out]
    exact setCells_row (P := Tryd.prog) HB9.out (by rw [HZ.out.1, List.size_toArray, HZ.out.2.1]; exact info16) rfl HZ.out.2.2)
  rw [HEQ.out]
  go_wp2_with fail
  refine bodyPost_ret (results_cell_t rfl _ _ _ ⟨w.heap.size, 0, none⟩ (.agg zs) rfl (run_loadVar_row _ w.heap.size 25 25 zs (0, 0) _ (HB9.out.row zs) Tryd.underlying25 rfl (by rw [HZ.out.1, List.size_toArray, HZ.out.2.1]; exact info16))) rfl ?_
  exact ⟨rfl, grown_row HG9.out (.inl (Nat.le_refl _)) zs⟩
set_option maxRecDepth 100000 in
theorem path_form (w : World) (B : Nat) (a : Addr) (hE : ErrAt w B (gix.getD 3 0) a) (lf : Int) (A : Option Addr) (n c : Nat) (hn : n ≠ 32) :
    Calls Tryd.prog 10 #[.slice A n c, .int .i64 lf] w fun e w' => e = .returned (.tuple #[.slice none 0 0, errV a]) ∧ w.grownBy w' none := by
  have HE := Lib.hid hE
  have d32 : ¬ ((n : Int) = 32) := by omega
  clear hE hn
  go_enter Tryd.func10, Tryd.ntmps10
  obtain ⟨w0, hw0⟩ : ∃ w0, w0 = w.alloc (.cells #[.int .i64 lf] 3) := ⟨_, rfl⟩
  have HG0 := Lib.hid (show w.grownBy w0 none by rw [hw0]; exact World.grownBy_alloc _ _ none)
  have HW0 := Lib.hid hw0
  clear hw0
  go_wp2_with fail
  rw [← HW0.out]
  have hc : w0.drew.cell? ⟨gix.getD 3 0, 0, none⟩ = some (errV a) := by
    rw [World.cell?_drew]; exact HG0.out.cell HE.out.1 (by simp)
  simp only [gix, List.getD_cons_zero, List.getD_cons_succ] at hc
  go_region_held3 (fun W => W.cell? ⟨0, 0, none⟩ = some (errV a)) (first | exact hc | assumption)
    (fail)
  go_wp2_with fail
  refine bodyPost_ret (results_tmp2 rfl _ _ _) rfl ?_
  exact ⟨rfl, grown_trans HG0.out (grown_drew (World.grownBy.refl w0 none))⟩
set_option maxRecDepth 100000 in
theorem path_no (w : World) (B : Nat) (a : Addr) (hE : ErrAt w B (gix.getD 0 0) a) (lf : Int) (hlf : lf < 0 ∨ 32 ≤ lf) (A : Option Addr) (n c : Nat) (hn : n = 32) :
    Calls Tryd.prog 10 #[.slice A n c, .int .i64 lf] w fun e w' => e = .returned (.tuple #[.slice none 0 0, errV a]) ∧ w.grownBy w' none := by
  have HE := Lib.hid hE
  subst hn
  have HLF := Lib.hid hlf
  clear hlf
  clear hE
  go_enter Tryd.func10, Tryd.ntmps10
  obtain ⟨w0, hw0⟩ : ∃ w0, w0 = w.alloc (.cells #[.int .i64 lf] 3) := ⟨_, rfl⟩
  have HG0 := Lib.hid (show w.grownBy w0 none by rw [hw0]; exact World.grownBy_alloc _ _ none)
  have HW0 := Lib.hid hw0
  clear hw0
  go_wp2_with fail
  rw [← HW0.out]
  refine (leaf_no w0 lf HLF.out).mono ?_
  rintro e w9 ⟨rfl, h9⟩
  rw [h9]
  clear h9
  go_wp2_with fail
  have hc : w0.drew.cell? ⟨gix.getD 0 0, 0, none⟩ = some (errV a) := by
    rw [World.cell?_drew]; exact HG0.out.cell HE.out.1 (by simp)
  simp only [gix, List.getD_cons_zero, List.getD_cons_succ] at hc
  go_region_held3 (fun W => W.cell? ⟨1, 0, none⟩ = some (errV a)) (first | exact hc | assumption)
    (fail)
  go_wp2_with fail
  refine bodyPost_ret (results_tmp2 rfl _ _ _) rfl ?_
  exact ⟨rfl, grown_trans HG0.out (grown_drew (World.grownBy.refl w0 none))⟩
end Go.Proofs.YtobmpdpcjaaklaaDoor
