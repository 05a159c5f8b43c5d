/-
  Several texts in one: ChH, TrD, Vf, Pf7.
-/
import Derived.Test.YtmoebkdbnldbdaaGreatDoorM20pA
import Derived.Test.YtmoebkdbnldbdaaGreatDoorM20pu
import Derived.Test.YtmoebkdbnldbdaaGreatDoorM20pB
import Derived.Test.YtmoebkdbnldbdaaGreatDoorM20pk
import Derived.Test.YtmoebkdbnldbdaaGreatDoorM20pG
import Derived.Test.YtmoebkdbnldbdaaGreatDoorM20pw
import Derived.Test.YtmoebkdbnldbdaaGreatDoorM20pr
/-
  chains.Recover by no leaf, and of another number of chains.
-/
namespace Go.Proofs.YtmoebkdbnldbdaaGreatDoor
open Go.RowKit

set_option maxRecDepth 100000 in
set_option maxHeartbeats 4000000 in
theorem recover_no (w : World) (B : Nat) (a : Addr) (hE : ErrAt w B (gix.getD 0 0) a) (lf : Int) (hlf : lf < 0 ∨ 32 ≤ lf) (A : Option Addr) (n c : Nat) (ds : Array Value) (hds : ds.size = 16) (zs : Array Value) (hzs : zs = arrV .u8 (List.replicate 16 0)) :
    Calls Tryz.prog 99 #[.int .i64 lf, .slice A n c, .agg ds] w fun e w' => e = .returned (.tuple #[.agg zs, errV a]) ∧ w.grownBy w' none := by
  obtain ⟨zl, hzl⟩ : ∃ l, l = zs.toList := ⟨_, rfl⟩
  have hz : zs = zl.toArray := by rw [hzl, Array.toArray_toList]
  have hz16 : ∀ w, Sem.run Tryz.prog (zeroValue 24) w = .ok (.agg zl.toArray) w := fun w => by rw [← hz, hzs]; exact z16run w
  have hzn : zl.length = 16 := by rw [hzl, Array.length_toList, hzs]; rfl
  have hi6 : (Tryz.prog.info? 24).map (·.size) = some zl.length := by rw [hzn]; exact info16
  have ho6 : ∀ v ∈ zl, v.oneCell' = true := by rw [hzl, hzs]; simp [Value.oneCell']
  have HZ := Lib.hid (And.intro hz (And.intro hzn (show (zs.all fun v => v.oneCell') = true by rw [hzs]; exact arr_one _ _)))
  have HLF := Lib.hid hlf
  have HE := Lib.hid hE
  have HDS := Lib.hid hds
  have HZL := Lib.hid hzl
  clear hzl hzs hlf hE hds
  go_enter Tryz.func99, Tryz.ntmps99
  obtain ⟨w0, hw0⟩ : ∃ w0, w0 = (w.alloc (.cells ds 24)).alloc (.cells zl.toArray 24) := ⟨_, rfl⟩
  have HZ0 := Lib.hid (show Blk w0 (w.heap.size + 1) 24 zs by rw [hw0, hz]; have := Blk.new (w.alloc (.cells ds 24)) 24 zl.toArray; rwa [World.size_alloc] at this)
  have HG0 := Lib.hid (show w.grownBy w0 none by rw [hw0]; exact grown_trans (World.grownBy_alloc _ _ none) (World.grownBy_alloc _ _ none))
  have HW0 := Lib.hid hw0
  clear hw0
  go_wp2_with fail
  rw [← HW0.out]
  refine (isleaf_no w0 lf HLF.out).mono ?_
  rintro e w9 ⟨rfl, h9⟩
  rw [h9]
  clear h9
  go_wp2_with fail
  have hT : w0.drew.there (w.heap.size + 1) 0 16 := there_blk HZ0.out.drew (by rw [HZ.out.1, List.size_toArray, HZ.out.2.1]; exact Nat.le_refl _)
  have hc : w0.drew.cell? ⟨gix.getD 0 0, 0, none⟩ = some (errV a) := by
    rw [World.cell?_drew]; exact HG0.out.cell HE.out.1 (by simp)
  simp only [gix, List.getD_cons_zero] at hc
  have hS := And.intro hT hc
  have hgb : ¬ (1 : Nat) = w.heap.size + 1 := by
    first
      | omega
      | (have h8 := World.block_lt_of_cell? w _ HE.out.1; simp only [gix, List.getD_cons_zero] at h8; omega)
  clear hT hc
  go_region_held3 (fun W => W.there (w.heap.size + 1) 0 16 ∧ W.cell? ⟨1, 0, none⟩ = some (errV a)) (first | exact hS | assumption | exact ⟨World.there_setCells hS.1 _ _ _, (World.cell?_setCells_out _ _ _ _ _ (fun e => absurd e hgb)).trans hS.2⟩)
    (fail)
  have HB9 := Lib.hid HZ0.out.drew
  have HG9 := Lib.hid (show w.grownBy w0.drew none from grown_trans HG0.out (grown_drew (World.grownBy.refl w0 none)))
  have HEQ := Lib.hid (show w0.drew.setCells (w.heap.size + 1) 0 zl = w0.drew.setRow (w.heap.size + 1) zs by
    rw [HZL.out]
    exact setCells_row (P := Tryz.prog) HB9.out (by rw [HZ.out.1, List.size_toArray, HZ.out.2.1]; exact info16) rfl HZ.out.2.2)
  rw [HEQ.out]
  go_wp2_with fail
  refine bodyPost_ret (results_cell_t rfl _ _ _ ⟨w.heap.size + 1, 0, none⟩ (.agg zs) rfl (run_loadVar_row _ (w.heap.size + 1) 24 24 zs (0, 0) _ (HB9.out.row zs) Tryz.underlying24 rfl (by rw [HZ.out.1, List.size_toArray, HZ.out.2.1]; exact info16))) rfl ?_
  exact ⟨rfl, grown_row HG9.out (.inl (Nat.le_succ _)) zs⟩
set_option maxRecDepth 100000 in
set_option maxHeartbeats 4000000 in
theorem recover_form (w : World) (B : Nat) (a : Addr) (hE : ErrAt w B (gix.getD 3 0) a) (lf : Int) (hlf : 0 ≤ lf ∧ lf < 32) (A : Option Addr) (n c : Nat) (hn68 : n ≠ 68) (hB3 : 4 ≤ w.heap.size) (ds : Array Value) (hds : ds.size = 16) (zs : Array Value) (hzs : zs = arrV .u8 (List.replicate 16 0)) :
    Calls Tryz.prog 99 #[.int .i64 lf, .slice A n c, .agg ds] w fun e w' => e = .returned (.tuple #[.agg zs, errV a]) ∧ w.grownBy w' none := by
  obtain ⟨zl, hzl⟩ : ∃ l, l = zs.toList := ⟨_, rfl⟩
  have hz : zs = zl.toArray := by rw [hzl, Array.toArray_toList]
  have hz16 : ∀ w, Sem.run Tryz.prog (zeroValue 24) w = .ok (.agg zl.toArray) w := fun w => by rw [← hz, hzs]; exact z16run w
  have hzn : zl.length = 16 := by rw [hzl, Array.length_toList, hzs]; rfl
  have hi6 : (Tryz.prog.info? 24).map (·.size) = some zl.length := by rw [hzn]; exact info16
  have ho6 : ∀ v ∈ zl, v.oneCell' = true := by rw [hzl, hzs]; simp [Value.oneCell']
  have HZ := Lib.hid (And.intro hz (And.intro hzn (show (zs.all fun v => v.oneCell') = true by rw [hzs]; exact arr_one _ _)))
  have HLF := Lib.hid hlf
  have HE := Lib.hid hE
  have HDS := Lib.hid hds
  have HZL := Lib.hid hzl
  clear hzl hzs hlf hE hds
  go_enter Tryz.func99, Tryz.ntmps99
  obtain ⟨w0, hw0⟩ : ∃ w0, w0 = (w.alloc (.cells ds 24)).alloc (.cells zl.toArray 24) := ⟨_, rfl⟩
  have HZ0 := Lib.hid (show Blk w0 (w.heap.size + 1) 24 zs by rw [hw0, hz]; have := Blk.new (w.alloc (.cells ds 24)) 24 zl.toArray; rwa [World.size_alloc] at this)
  have HG0 := Lib.hid (show w.grownBy w0 none by rw [hw0]; exact grown_trans (World.grownBy_alloc _ _ none) (World.grownBy_alloc _ _ none))
  have HW0 := Lib.hid hw0
  clear hw0
  go_wp2_with fail
  rw [← HW0.out]
  refine (isleaf_yes w0 lf HLF.out).mono ?_
  rintro e w9 ⟨rfl, h9⟩
  rw [h9]
  clear h9
  have d68 : ¬ ((n : Int) = 68) := by omega
  go_wp2_with fail
  have hT : w0.drew.there (w.heap.size + 1) 0 16 := there_blk HZ0.out.drew (by rw [HZ.out.1, List.size_toArray, HZ.out.2.1]; exact Nat.le_refl _)
  have hc : w0.drew.cell? ⟨gix.getD 3 0, 0, none⟩ = some (errV a) := by
    rw [World.cell?_drew]; exact HG0.out.cell HE.out.1 (by simp)
  simp only [gix, List.getD_cons_zero, List.getD_cons_succ] at hc
  have hS := And.intro hT hc
  have hgb : ¬ 4 = w.heap.size + 1 := by omega
  clear hT hc
  go_region_held3 (fun W => W.there (w.heap.size + 1) 0 16 ∧ W.cell? ⟨4, 0, none⟩ = some (errV a)) (first | exact hS | assumption | exact ⟨World.there_setCells hS.1 _ _ _, (World.cell?_setCells_out _ _ _ _ _ (fun e => absurd e hgb)).trans hS.2⟩)
    (fail)
  have HB9 := Lib.hid HZ0.out.drew
  have HG9 := Lib.hid (show w.grownBy w0.drew none from grown_trans HG0.out (grown_drew (World.grownBy.refl w0 none)))
  have HEQ := Lib.hid (show w0.drew.setCells (w.heap.size + 1) 0 zl = w0.drew.setRow (w.heap.size + 1) zs by
    rw [HZL.out]
    exact setCells_row (P := Tryz.prog) HB9.out (by rw [HZ.out.1, List.size_toArray, HZ.out.2.1]; exact info16) rfl HZ.out.2.2)
  rw [HEQ.out]
  go_wp2_with fail
  refine bodyPost_ret (results_cell_t rfl _ _ _ ⟨w.heap.size + 1, 0, none⟩ (.agg zs) rfl (run_loadVar_row _ (w.heap.size + 1) 24 24 zs (0, 0) _ (HB9.out.row zs) Tryz.underlying24 rfl (by rw [HZ.out.1, List.size_toArray, HZ.out.2.1]; exact info16))) rfl ?_
  exact ⟨rfl, grown_row HG9.out (.inl (Nat.le_succ _)) zs⟩
end Go.Proofs.YtmoebkdbnldbdaaGreatDoor
/-
  trees.Climb by no leaf, and with a way of another length.
-/
namespace Go.Proofs.YtmoebkdbnldbdaaGreatDoor
open Go.RowKit

set_option maxRecDepth 100000 in
set_option maxHeartbeats 4000000 in
theorem climb_no (w : World) (B : Nat) (a : Addr) (hE : ErrAt w B (gix.getD 0 0) a) (lf : Int) (hlf : lf < 0 ∨ 32 ≤ lf) (A : Option Addr) (n c : Nat) (ds : Array Value) (hds : ds.size = 16) (zs : Array Value) (hzs : zs = arrV .u8 (List.replicate 16 0)) :
    Calls Tryz.prog 100 #[.agg ds, .int .i64 lf, .slice A n c] w fun e w' => e = .returned (.tuple #[.agg zs, errV a]) ∧ w.grownBy w' none := by
  obtain ⟨zl, hzl⟩ : ∃ l, l = zs.toList := ⟨_, rfl⟩
  have hz : zs = zl.toArray := by rw [hzl, Array.toArray_toList]
  have hz16 : ∀ w, Sem.run Tryz.prog (zeroValue 24) w = .ok (.agg zl.toArray) w := fun w => by rw [← hz, hzs]; exact z16run w
  have hzn : zl.length = 16 := by rw [hzl, Array.length_toList, hzs]; rfl
  have hi6 : (Tryz.prog.info? 24).map (·.size) = some zl.length := by rw [hzn]; exact info16
  have ho6 : ∀ v ∈ zl, v.oneCell' = true := by rw [hzl, hzs]; simp [Value.oneCell']
  have HZ := Lib.hid (And.intro hz (And.intro hzn (show (zs.all fun v => v.oneCell') = true by rw [hzs]; exact arr_one _ _)))
  have HLF := Lib.hid hlf
  have HE := Lib.hid hE
  have HDS := Lib.hid hds
  have HZL := Lib.hid hzl
  have hB0 : 1 < w.heap.size := by
    have := World.block_lt_of_cell? w _ hE.1
    simpa only [gix, List.getD_cons_zero] using this
  clear hzl hzs hlf hE hds
  go_enter Tryz.func100, Tryz.ntmps100
  obtain ⟨w0, hw0⟩ : ∃ w0, w0 = (w.alloc (.cells ds 24)).alloc (.cells zl.toArray 24) := ⟨_, rfl⟩
  have HZ0 := Lib.hid (show Blk w0 (w.heap.size + 1) 24 zs by rw [hw0, hz]; have := Blk.new (w.alloc (.cells ds 24)) 24 zl.toArray; rwa [World.size_alloc] at this)
  have HG0 := Lib.hid (show w.grownBy w0 none by rw [hw0]; exact grown_trans (World.grownBy_alloc _ _ none) (World.grownBy_alloc _ _ none))
  have HW0 := Lib.hid hw0
  clear hw0
  go_wp2_with fail
  rw [← HW0.out]
  refine (leaf_no w0 lf HLF.out).mono ?_
  rintro e w9 ⟨rfl, h9⟩
  rw [h9]
  clear h9
  go_wp2_with fail
  have hT : w0.drew.there (w.heap.size + 1) 0 16 := there_blk HZ0.out.drew (by rw [HZ.out.1, List.size_toArray, HZ.out.2.1]; exact Nat.le_refl _)
  have hc : w0.drew.cell? ⟨gix.getD 0 0, 0, none⟩ = some (errV a) := by
    rw [World.cell?_drew]; exact HG0.out.cell HE.out.1 (by simp)
  simp only [gix, List.getD_cons_zero] at hc
  have hS := And.intro hT hc
  have hgb : ¬ 1 = w.heap.size + 1 := by omega
  clear hT hc
  go_region_held3 (fun W => W.there (w.heap.size + 1) 0 16 ∧ W.cell? ⟨1, 0, none⟩ = some (errV a)) (first | exact hS | assumption | exact ⟨World.there_setCells hS.1 _ _ _, (World.cell?_setCells_out _ _ _ _ _ (fun e => absurd e hgb)).trans hS.2⟩)
    (fail)
  have HB9 := Lib.hid HZ0.out.drew
  have HG9 := Lib.hid (show w.grownBy w0.drew none from grown_trans HG0.out (grown_drew (World.grownBy.refl w0 none)))
  have HEQ := Lib.hid (show w0.drew.setCells (w.heap.size + 1) 0 zl = w0.drew.setRow (w.heap.size + 1) zs by
    rw [HZL.out]
    exact setCells_row (P := Tryz.prog) HB9.out (by rw [HZ.out.1, List.size_toArray, HZ.out.2.1]; exact info16) rfl HZ.out.2.2)
  rw [HEQ.out]
  go_wp2_with fail
  refine bodyPost_ret (results_cell_t rfl _ _ _ ⟨w.heap.size + 1, 0, none⟩ (.agg zs) rfl (run_loadVar_row _ (w.heap.size + 1) 24 24 zs (0, 0) _ (HB9.out.row zs) Tryz.underlying24 rfl (by rw [HZ.out.1, List.size_toArray, HZ.out.2.1]; exact info16))) rfl ?_
  exact ⟨rfl, grown_row HG9.out (.inl (Nat.le_succ _)) zs⟩
set_option maxRecDepth 100000 in
set_option maxHeartbeats 4000000 in
theorem climb_form (w : World) (B : Nat) (a : Addr) (hE : ErrAt w B (gix.getD 3 0) a) (lf : Int) (hlf : 0 ≤ lf ∧ lf < 32) (A : Option Addr) (n c : Nat) (hn68 : n ≠ 5) (ds : Array Value) (hds : ds.size = 16) (zs : Array Value) (hzs : zs = arrV .u8 (List.replicate 16 0)) :
    Calls Tryz.prog 100 #[.agg ds, .int .i64 lf, .slice A n c] w fun e w' => e = .returned (.tuple #[.agg zs, errV a]) ∧ w.grownBy w' none := by
  obtain ⟨zl, hzl⟩ : ∃ l, l = zs.toList := ⟨_, rfl⟩
  have hz : zs = zl.toArray := by rw [hzl, Array.toArray_toList]
  have hz16 : ∀ w, Sem.run Tryz.prog (zeroValue 24) w = .ok (.agg zl.toArray) w := fun w => by rw [← hz, hzs]; exact z16run w
  have hzn : zl.length = 16 := by rw [hzl, Array.length_toList, hzs]; rfl
  have hi6 : (Tryz.prog.info? 24).map (·.size) = some zl.length := by rw [hzn]; exact info16
  have ho6 : ∀ v ∈ zl, v.oneCell' = true := by rw [hzl, hzs]; simp [Value.oneCell']
  have HZ := Lib.hid (And.intro hz (And.intro hzn (show (zs.all fun v => v.oneCell') = true by rw [hzs]; exact arr_one _ _)))
  have HLF := Lib.hid hlf
  have HE := Lib.hid hE
  have HDS := Lib.hid hds
  have HZL := Lib.hid hzl
  have hB0 : 4 < w.heap.size := by
    have := World.block_lt_of_cell? w _ hE.1
    simpa only [gix, List.getD_cons_zero, List.getD_cons_succ] using this
  clear hzl hzs hlf hE hds
  go_enter Tryz.func100, Tryz.ntmps100
  obtain ⟨w0, hw0⟩ : ∃ w0, w0 = (w.alloc (.cells ds 24)).alloc (.cells zl.toArray 24) := ⟨_, rfl⟩
  have HZ0 := Lib.hid (show Blk w0 (w.heap.size + 1) 24 zs by rw [hw0, hz]; have := Blk.new (w.alloc (.cells ds 24)) 24 zl.toArray; rwa [World.size_alloc] at this)
  have HG0 := Lib.hid (show w.grownBy w0 none by rw [hw0]; exact grown_trans (World.grownBy_alloc _ _ none) (World.grownBy_alloc _ _ none))
  have HW0 := Lib.hid hw0
  clear hw0
  go_wp2_with fail
  rw [← HW0.out]
  refine (leaf_yes w0 lf HLF.out).mono ?_
  rintro e w9 ⟨rfl, h9⟩
  rw [h9]
  clear h9
  have d68 : ¬ ((n : Int) = 5) := by omega
  go_wp2_with fail
  have hT : w0.drew.there (w.heap.size + 1) 0 16 := there_blk HZ0.out.drew (by rw [HZ.out.1, List.size_toArray, HZ.out.2.1]; exact Nat.le_refl _)
  have hc : w0.drew.cell? ⟨gix.getD 3 0, 0, none⟩ = some (errV a) := by
    rw [World.cell?_drew]; exact HG0.out.cell HE.out.1 (by simp)
  simp only [gix, List.getD_cons_zero, List.getD_cons_succ] at hc
  have hS := And.intro hT hc
  have hgb : ¬ 4 = w.heap.size + 1 := by omega
  clear hT hc
  go_region_held3 (fun W => W.there (w.heap.size + 1) 0 16 ∧ W.cell? ⟨4, 0, none⟩ = some (errV a)) (first | exact hS | assumption | exact ⟨World.there_setCells hS.1 _ _ _, (World.cell?_setCells_out _ _ _ _ _ (fun e => absurd e hgb)).trans hS.2⟩)
    (fail)
  have HB9 := Lib.hid HZ0.out.drew
  have HG9 := Lib.hid (show w.grownBy w0.drew none from grown_trans HG0.out (grown_drew (World.grownBy.refl w0 none)))
  have HEQ := Lib.hid (show w0.drew.setCells (w.heap.size + 1) 0 zl = w0.drew.setRow (w.heap.size + 1) zs by
    rw [HZL.out]
    exact setCells_row (P := Tryz.prog) HB9.out (by rw [HZ.out.1, List.size_toArray, HZ.out.2.1]; exact info16) rfl HZ.out.2.2)
  rw [HEQ.out]
  go_wp2_with fail
  refine bodyPost_ret (results_cell_t rfl _ _ _ ⟨w.heap.size + 1, 0, none⟩ (.agg zs) rfl (run_loadVar_row _ (w.heap.size + 1) 24 24 zs (0, 0) _ (HB9.out.row zs) Tryz.underlying24 rfl (by rw [HZ.out.1, List.size_toArray, HZ.out.2.1]; exact info16))) rfl ?_
  exact ⟨rfl, grown_row HG9.out (.inl (Nat.le_succ _)) zs⟩
end Go.Proofs.YtmoebkdbnldbdaaGreatDoor
/-
  keys.Verify, of any signature.
-/
namespace Go.Proofs.YtmoebkdbnldbdaaGreatDoor
open Go.RowKit

/-- Is a signature right? -/
def vfB (root d : List Int) (lf : Int) (n1 n2 : Nat) (cs ps : List (List Int)) : Bool := decide (0 ≤ lf ∧ lf < 32) && (decide (n1 = 68) && (decide (n2 = 5) && decide (climbC (recC lf cs d) lf ps 5 = root)))
theorem vfB_leaf {root d : List Int} {lf : Int} {n1 n2 : Nat} {cs ps : List (List Int)} (h : ¬ (0 ≤ lf ∧ lf < 32)) : vfB root d lf n1 n2 cs ps = false := by rw [vfB, decide_eq_false h]; rfl
theorem vfB_form1 {root d : List Int} {lf : Int} {n1 n2 : Nat} {cs ps : List (List Int)} (h : n1 ≠ 68) : vfB root d lf n1 n2 cs ps = false := by rw [vfB, decide_eq_false h]; simp
theorem vfB_form2 {root d : List Int} {lf : Int} {n1 n2 : Nat} {cs ps : List (List Int)} (h : n2 ≠ 5) : vfB root d lf n1 n2 cs ps = false := by rw [vfB, decide_eq_false h]; simp
theorem vfB_ok {root d : List Int} {lf : Int} {cs ps : List (List Int)} (h : 0 ≤ lf ∧ lf < 32) : vfB root d lf 68 5 cs ps = decide (climbC (recC lf cs d) lf ps 5 = root) := by rw [vfB, decide_eq_true h]; simp
theorem verify_any (w : World) (hR : Rounds w) (B : Nat) (E : Nat → Addr) (he : ErrEnv w B E) (hB : 4 ≤ w.heap.size) (root d : List Int) (hroot : root.length = 16) (hd : isDig d) (rt dd : Array Value) (hrt : rt = arrV .u8 root) (hdd : dd = arrV .u8 d) (lf : Int) (A1 A2 : Option Addr) (n1 c1 n2 c2 : Nat) (cs ps : List (List Int)) (hC : DigRow w A1 n1 cs) (hP : DigRow w A2 n2 ps) :
    Calls Tryz.prog 87 #[.agg rt, .agg dd, .agg (sigV lf (.slice A1 n1 c1) (.slice A2 n2 c2))] w fun e w' => e = .returned (.bool (vfB root d lf n1 n2 cs ps)) ∧ w.grownBy w' none := by
  have hr16 : rt.size = 16 := by rw [hrt, arr_size, hroot]
  have hd16 : dd.size = 16 := by rw [hdd, arr_size, hd.1]
  obtain ⟨Z, hZ⟩ : ∃ Z, Z = arrV .u8 (List.replicate 16 0) := ⟨_, rfl⟩
  have hZ16 : Z.size = 16 := by rw [hZ]; rfl
  have hZ1 : (Z.all fun v => v.oneCell') = true := by rw [hZ]; exact arr_one _ _
  by_cases hneg : lf < 0
  · rw [vfB_leaf (by omega)]
    exact verify_a w rt dd hr16 hd16 lf A1 A2 n1 c1 n2 c2 Z hZ16 hZ1 (E 0) (fun y hy => recover_no y B (E 0) ((he.grown hy (by simp)).var 0 (by omega)) lf (.inl hneg) A1 n1 c1 dd hd16 Z hZ)
  by_cases hbig : 32 ≤ lf
  · rw [vfB_leaf (by omega)]
    exact verify_a w rt dd hr16 hd16 lf A1 A2 n1 c1 n2 c2 Z hZ16 hZ1 (E 0) (fun y hy => recover_no y B (E 0) ((he.grown hy (by simp)).var 0 (by omega)) lf (.inr hbig) A1 n1 c1 dd hd16 Z hZ)
  have hlf : 0 ≤ lf ∧ lf < 32 := by omega
  by_cases h68 : n1 = 68
  · subst h68
    obtain ⟨cl, cd, c0 | ⟨b1, o1, rfl, hD1⟩⟩ := hC
    · omega
    obtain ⟨xs, hxs⟩ : ∃ xs, xs = arrV .u8 (recC lf cs d) := ⟨_, rfl⟩
    have hxd : isDig (recC lf cs d) := by rw [recC]; exact pubC_dig _ _
    have hx16 : xs.size = 16 := by rw [hxs, arr_size, hxd.1]
    have hx1 : (xs.all fun v => v.oneCell') = true := by rw [hxs]; exact arr_one _ _
    have R1 : ∀ y, w.grownBy y none → Calls Tryz.prog 99 #[.int .i64 lf, .slice (some ⟨b1, o1, none⟩) 68 c1, .agg dd] y fun e w' => e = .returned (.tuple #[.agg xs, .nilIface]) ∧ y.grownBy w' none := fun y hy => by
      rw [hdd]
      exact recover_ok y (hR.grown hy (by simp)) lf hlf b1 o1 c1 cs cl cd (hD1.grown hy) d hd xs hxs
    by_cases h5 : n2 = 5
    · subst h5
      obtain ⟨pl, pd, p0 | ⟨b2, o2, rfl, hD2⟩⟩ := hP
      · omega
      obtain ⟨ts, hts⟩ : ∃ ts, ts = arrV .u8 (climbC (recC lf cs d) lf ps 5) := ⟨_, rfl⟩
      have htd := climbC_dig hxd lf ps 5
      have ht16 : ts.size = 16 := by rw [hts, arr_size, htd.1]
      have ht1 : (ts.all fun v => v.oneCell') = true := by rw [hts]; exact arr_one _ _
      have hq : ∀ V, Sem.run Tryz.prog (Op.equalIn 10000 24 (.agg ts) (.agg rt)) V = .ok (decide (climbC (recC lf cs d) lf ps 5 = root)) V := fun V => by
        rw [hts, hrt]
        exact eq_arr V 9998 Tryz.underlying24 (by kernel_rfl) Tryz.underlying5 (by kernel_rfl) (by kernel_rfl) _ _ htd.1 hroot
      rw [vfB_ok hlf]
      exact verify_c w rt dd hr16 hd16 lf _ _ 68 c1 5 c2 xs ts hx16 hx1 ht16 ht1 _ hq R1 (fun y hy => climb_ok y (hR.grown hy (by simp)) _ hxd lf hlf b2 o2 c2 ps pl pd (hD2.grown hy) xs ts hxs hts)
    · rw [vfB_form2 h5]
      exact verify_b w rt dd hr16 hd16 lf _ A2 68 c1 n2 c2 xs Z hx16 hx1 hZ16 hZ1 (E 3) R1 (fun y hy => climb_form y B (E 3) ((he.grown hy (by simp)).var 3 (by omega)) lf hlf A2 n2 c2 h5 xs hx16 Z hZ)
  · rw [vfB_form1 h68]
    exact verify_a w rt dd hr16 hd16 lf A1 A2 n1 c1 n2 c2 Z hZ16 hZ1 (E 3) (fun y hy => recover_form y B (E 3) ((he.grown hy (by simp)).var 3 (by omega)) lf hlf A1 n1 c1 h68 (by have := hy.size; omega) dd hd16 Z hZ)
end Go.Proofs.YtmoebkdbnldbdaaGreatDoor
/-
  Ground.holds: does a claim hold?
-/
namespace Go.Proofs.YtmoebkdbnldbdaaGreatDoor
open Go.RowKit

attribute [local go_sem] Oper.semAt_some

/-- A claim, as it lies in memory. -/
def clC (who : Int) (D : Array Value) (lf : Int) (s1 s2 : Value) : Array Value := #[.int .i64 who] ++ (D ++ sigV lf s1 s2)
theorem clC_size {who lf : Int} {D : Array Value} {s1 s2 : Value} (h : D.size = 16) : (clC who D lf s1 s2).size = 20 := by simp [clC, sigV, h]
theorem info20c : (Tryz.prog.info? 155).map (·.size) = some 20 := by kernel_rfl
theorem cl_cells {w : World} {q : Nat} {t : TypeId} {who lf : Int} {D : Array Value} {s1 s2 : Value} (hD : D.size = 16) (h : Blk w q t (clC who D lf s1 s2)) :
    w.cell? ⟨q, 0, none⟩ = some (.int .i64 who) ∧ w.rangeAt q 1 D.toList ∧ w.rangeAt q 17 (sigV lf s1 s2).toList := by
  have r0 := range_blkK21 h
  have e1 : (clC who D lf s1 s2).toList = [.int .i64 who] ++ (D.toList ++ (sigV lf s1 s2).toList) := by simp [clC]
  have e2 : (clC who D lf s1 s2).toList = ([.int .i64 who] ++ D.toList) ++ ((sigV lf s1 s2).toList ++ []) := by simp [clC]
  refine ⟨by rw [e1] at r0; have := r0 0 _ rfl; simpa using this, ?_, ?_⟩
  · rw [e1] at r0
    have := range_part r0
    rwa [Nat.zero_add] at this
  · rw [e2] at r0
    have := range_part r0
    rw [Nat.zero_add] at this
    rwa [show ([Value.int .i64 who] ++ D.toList).length = 17 by simp [hD]] at this
def keyOf (V : List Vd) (who : Int) : List Int := (V.getD who.toNat ⟨[], 0⟩).key
def holdsB (V : List Vd) (who : Int) (d : List Int) (lf : Int) (n1 n2 : Nat) (cs ps : List (List Int)) : Bool := decide (0 ≤ who ∧ who < (V.length : Int)) && vfB (keyOf V who) d lf n1 n2 cs ps
def holdN (b : Bool) : Nat := if b then 0 else 12
section
variable {B : Nat} {E : Nat → Addr} {e : Int} {A : Option Addr} {c : Nat} {V : List Vd} {G : Array Value}
set_option maxRecDepth 100000 in
set_option maxHeartbeats 1000000 in
theorem holds_is (w : World) (hR : Rounds w) (he : ErrEnv w B E) (hB4 : 4 ≤ w.heap.size) (hV : VdsAt w A V) (ok : keysOk V) (hG : G.size = 16) (gv : Array Value) (hgv : gv = grC e (.slice A V.length c) G)
    (who lf : Int) (d : List Int) (hd : isDig d) (D : Array Value) (hD : D = arrV .u8 d) (A1 A2 : Option Addr) (n1 c1 n2 c2 : Nat) (cs ps : List (List Int)) (hC : DigRow w A1 n1 cs) (hP : DigRow w A2 n2 ps) (cv : Array Value) (hcv : cv = clC who D lf (.slice A1 n1 c1) (.slice A2 n2 c2)) :
    Calls Tryz.prog 71 #[.agg gv, .agg cv] w fun e' w' => e' = .returned (evOf E (holdN (holdsB V who d lf n1 n2 cs ps))) ∧ w.grownBy w' none := by
  obtain ⟨q, hq⟩ : ∃ q, w.heap.size = q := ⟨_, rfl⟩
  obtain ⟨w1, hw1⟩ : ∃ w1, (w.alloc (.cells gv 26)).alloc (.cells cv 155) = w1 := ⟨_, rfl⟩
  have g1 : w.grownBy w1 none := by rw [← hw1]; exact grown_trans (World.grownBy_alloc _ _ none) (World.grownBy_alloc _ _ none)
  have hD16 : D.size = 16 := by rw [hD, arr_size, hd.1]
  have b1 : Blk w1 q 26 (grC e (.slice A V.length c) G) := by rw [← hw1, ← hq, ← hgv]; exact (Blk.new _ _ _).alloc _
  have b2 : Blk w1 (q + 1) 155 (clC who D lf (.slice A1 n1 c1) (.slice A2 n2 c2)) := by
    have h := Blk.new (w.alloc (.cells gv 26)) 155 cv
    rw [World.size_alloc, hq, hw1, hcv] at h
    exact h
  obtain ⟨x0, x1, _⟩ := gr_cellsK21 b1
  obtain ⟨y0, y1, y2⟩ := cl_cells hD16 b2
  obtain ⟨n, hn⟩ : ∃ n, V.length = n := ⟨_, rfl⟩
  have ve : ∀ w2, w1.grownBy w2 none → w2.cell? ⟨11, 0, none⟩ = some (errV (E 11)) := fun w2 h => ((he.grown (grown_trans g1 h) (fun _ e => by cases e)).var 11 (by omega)).1
  have VE := Lib.hid ve
  have HW := Lib.hid (And.intro hw1 (And.intro hq g1))
  by_cases hin : 0 ≤ who ∧ who < (n : Int)
  · have hlt : who.toNat < V.length := by omega
    have hne : V ≠ [] := fun e => by rw [e] at hlt; simp at hlt
    obtain ⟨b, off, rfl, hVc⟩ := hV hne
    have hk : keyOf V who = V[who.toNat].key := by rw [keyOf, List.getD_eq_getElem?_getD, List.getElem?_eq_getElem hlt]; rfl
    have hkl : (keyOf V who).length = 16 := by rw [hk]; exact ok _ (List.getElem_mem hlt)
    obtain ⟨K, hK⟩ : ∃ K, K = arrV .u8 (keyOf V who) := ⟨_, rfl⟩
    have hK16 : K.size = 16 := by rw [hK, arr_size, hkl]
    have r0 : w1.rangeAt b (off + who.toNat * 17) K.toList := by
      have := range_kept (vd_range (hVc _ hlt)) g1
      rw [hK, hk, arrV]
      simpa using this
    have T1 := Lib.hid (show ∀ z : Gr w1, Calls Tryz.prog 87 #[.agg K, .agg D, .agg (sigV lf (.slice A1 n1 c1) (.slice A2 n2 c2))] z.1 fun e w' => e = .returned (.bool (vfB (keyOf V who) d lf n1 n2 cs ps)) ∧ z.1.grownBy w' none from fun z =>
      verify_any z.1 (hR.grown (grown_trans g1 z.2) (by simp)) B E (he.grown (grown_trans g1 z.2) (fun _ e => by cases e)) (Nat.le_trans hB4 (grown_trans g1 z.2).size) _ d hkl hd K D hK hD lf A1 A2 n1 c1 n2 c2 cs ps (hC.grown (grown_trans g1 z.2)) (hP.grown (grown_trans g1 z.2)))
    have V1 := Lib.hid (show ∀ z : Gr w1, Sem.run Tryz.prog (Instr.loadAt 24 (.pointer (some ⟨b, off + who.toNat * 17, none⟩))) z.1 = .ok (.agg K) z.1 from fun z => row_loadT z.1 b _ 24 K _ (range_kept r0 z.2) Tryz.underlying24 rfl (by rw [hK16]; exact info16g))
    have V2 := Lib.hid (show ∀ z : Gr w1, Sem.run Tryz.prog (Instr.loadAt 24 (.pointer (some ⟨q + 1, 1, none⟩))) z.1 = .ok (.agg D) z.1 from fun z => row_loadT z.1 (q + 1) 1 24 D _ (range_kept y1 z.2) Tryz.underlying24 rfl (by rw [hD16]; exact info16g))
    have V3 := Lib.hid (show ∀ z : Gr w1, Sem.run Tryz.prog (Instr.loadAt 134 (.pointer (some ⟨q + 1, 17, none⟩))) z.1 = .ok (.agg (sigV lf (.slice A1 n1 c1) (.slice A2 n2 c2))) z.1 from fun z => row_loadT z.1 (q + 1) 17 134 _ _ (range_kept y2 z.2) Tryz.underlying134 rfl (by kernel_rfl))
    have k0 := Gr.cell x1
    have k1 := Gr.cell y0
    obtain ⟨o, ho⟩ : ∃ o, o = off + who.toNat * 17 := ⟨_, rfl⟩
    obtain ⟨r, hr⟩ : ∃ r, r = vfB (keyOf V who) d lf n1 n2 cs ps := ⟨_, rfl⟩
    rw [← hr] at T1
    have hres : holdN (holdsB V who d lf n1 n2 cs ps) = if r then 0 else 12 := by rw [holdsB, hn, decide_eq_true hin, ← hr]; rfl
    rw [hres]
    have d1 : decide (who < 0) = false := by simp; omega
    have d2 : decide ((n : Int) ≤ who) = false := by simp; omega
    have hin0 := hin.1
    have hin1 := hin.2
    rw [hn] at k0
    have HH := Lib.hid (And.intro hgv hcv)
    clear hR he hB4 hV ok hG hgv hd hD hC hP hcv b1 b2 x0 x1 y0 y1 y2 hlt hne hVc hk hkl hK hK16 r0 hr hres ve g1 hw1 hq hin hn
    go_enter Tryz.func71, Tryz.ntmps71
    go_upto_region 1 with (fail)
    rw [HW.out.1, HW.out.2.1]
    cases r
    all_goals
      refine wp_region_grown (by kernel_rfl) (by kernel_rfl) ?_
      repeat (first
        | (refine wpQuiet_load_row 24 _ ⟨b, off + who.toNat * 17, none⟩ (.agg K) (by rfl) rfl rfl (by rintro _ ⟨z, rfl⟩; exact V1.out z) ?_; simp only [Act.put, List.setIfInBounds_toArray, List.set_cons_zero, List.set_cons_succ])
        | (refine wpQuiet_load_row 24 _ ⟨q + 1, 1, none⟩ (.agg D) (by rfl) rfl rfl (by rintro _ ⟨z, rfl⟩; exact V2.out z) ?_; simp only [Act.put, List.setIfInBounds_toArray, List.set_cons_zero, List.set_cons_succ])
        | (refine wpQuiet_load_row 134 _ ⟨q + 1, 17, none⟩ (.agg (sigV lf (.slice A1 n1 c1) (.slice A2 n2 c2))) (by rfl) rfl rfl (by rintro _ ⟨z, rfl⟩; exact V3.out z) ?_; simp only [Act.put, List.setIfInBounds_toArray, List.set_cons_zero, List.set_cons_succ])
        | go_big_quiet_step (first
        | (go_at_call 87; with_reducible exact Calls.grown _ (T1.out _))))
      refine wpQuiet_nil ?_
      rintro w7 ⟨⟨_, k7⟩, rfl⟩
      have HK := Lib.hid (grown_trans HW.out.2.2 k7)
      have v7 := VE.out _ k7
      clear k7 k0 k1
      go_wp2_with fail
      go_ret
      exact ⟨rfl, HK.out⟩
  · have hres : holdN (holdsB V who d lf n1 n2 cs ps) = 12 := by rw [holdsB, hn, decide_eq_false hin]; rfl
    rw [hres]
    have k0 := Gr.cell x1
    have k1 := Gr.cell y0
    rw [hn] at k0
    have dd : decide (who < 0) = true ∨ (decide (who < 0) = false ∧ decide ((n : Int) ≤ who) = true) := by simp; omega
    have HH := Lib.hid (And.intro hgv hcv)
    clear hR he hB4 hV ok hG hgv hd hD hC hP hcv b1 b2 x0 x1 y0 y1 y2 hres ve g1 hw1 hq hin hn
    rcases dd with d1 | ⟨d1, d2⟩
    all_goals
      go_enter Tryz.func71, Tryz.ntmps71
      go_upto_region 1 with (fail)
      rw [HW.out.1, HW.out.2.1]
      refine wp_region_grown (by kernel_rfl) (by kernel_rfl) ?_
      repeat go_big_quiet_step (fail)
      refine wpQuiet_nil ?_
      rintro w7 ⟨⟨_, k7⟩, rfl⟩
      have HK := Lib.hid (grown_trans HW.out.2.2 k7)
      have v7 := VE.out _ k7
      clear k7 k0 k1
      go_wp2_with fail
      go_ret
      exact ⟨rfl, HK.out⟩
end
end Go.Proofs.YtmoebkdbnldbdaaGreatDoor
