/-
  TreesClimbs, walked.
-/
import Derived.Test.YtobmpdpcjaaklaaDoorTrB
import Derived.Test.YtobmpdpcjaaklaaDoorTrD
import Derived.Test.YtobmpdpcjaaklaaDoorTrE
import Derived.Test.YtobmpdpcjaaklaaDoorErrA
import Derived.Test.YtobmpdpcjaaklaaDoorBaseA
namespace Go.Proofs.YtobmpdpcjaaklaaDoor
open Go.RowKit

set_option maxRecDepth 100000 in
set_option maxHeartbeats 4000000 in
theorem climbs_main (w : World) (hR : Rounds w) (x : List Int) (hx : isDig x) (lf : Int) (hlf : 0 ≤ lf ∧ lf < 32) (b off c : Nat) (ps : List (List Int)) (hl : ps.length = 5) (hps : ∀ p ∈ ps, isDig p) (hD : DigsAt w b off ps) :
    Calls Tryd.prog 4 #[.agg (arrV .u8 x), .int .i64 lf, .slice (some ⟨b, off, none⟩) 5 c] w fun e w' => e = .returned (.bool true) ∧ w.grownBy w' none := by
  obtain ⟨rs, hrs⟩ : ∃ rs, rs = arrV .u8 (climbC x lf ps 5) := ⟨_, rfl⟩
  have hrd := climbC_dig hx lf ps 5
  have hq := eqDG (climbC x lf ps 5) hrd.1 rs hrs
  obtain ⟨ds, hds⟩ : ∃ ds, ds = arrV .u8 x := ⟨_, rfl⟩
  rw [← hds]
  have HD := Lib.hid (show ds = arrV .u8 x ∧ ds.size = 16 from ⟨hds, by rw [hds, arr_size, hx.1]⟩)
  have HS6 := Lib.hid (show rs.size = 16 ∧ (rs.all fun x => x.oneCell') = true from ⟨by rw [hrs, arr_size]; exact hrd.1, by rw [hrs]; exact arr_one _ _⟩)
  have S1 := Lib.hid (fun (z : World) (hz : w.grownBy z none) => climb_ok z (hR.grown hz (by simp)) x hx lf hlf b off c ps hl hps (hD.grown hz) ds rs hds hrs)
  have S2 := Lib.hid (fun (z : World) (hz : w.grownBy z none) => rclimb_is z x hx lf hlf b off c ps hl hps (hD.grown hz) ds rs hds hrs)
  have d1 : decide (lf < 0) = false := by simp; omega
  have d2 : decide (31 < lf) = false := by simp; omega
  have HL := Lib.hid hlf
  have h0 : ¬ lf < 0 := by omega
  have h1 : ¬ 31 < lf := by omega
  obtain ⟨Z16, hZ16⟩ : ∃ Z, Z = arrV .u8 (List.replicate 16 0) := ⟨_, rfl⟩
  have hz16 : ∀ w, Sem.run Tryd.prog (zeroValue 25) w = .ok (.agg Z16) w := fun w => by rw [hZ16]; exact z16run w
  have HZS := Lib.hid (show Z16.size = 16 by rw [hZ16]; rfl)
  have HRA := Lib.hid (hR.grown (World.grownBy_alloc w (.cells ds 25) none) (by simp))
  clear hrs hrd hds hR hlf hl hps hD hx hZ16
  go_enter Tryd.func4, Tryd.ntmps4
  go_wp2_with fail
  refine (tree_alive _ HRA.out).mono ?_
  rintro e w1 ⟨rfl, hk1⟩
  have HB1 := Lib.hid ((Blk.new w 25 ds).grown hk1 (by simp))
  have HG1 := Lib.hid (grown_trans (World.grownBy_alloc w _ none) hk1)
  have HZ1 := Lib.hid (show w.heap.size + 1 ≤ w1.heap.size by have := hk1.size; rwa [World.size_alloc] at this)
  clear hk1
  go_wp2_with (refine wpList_load_row rfl 25 _ rfl w.heap.size rfl 25 ds (0, 0) _ HB1.out Tryd.underlying25 rfl (by rw [HD.out.2]; exact info16) ?_)
  refine (S1.out w1 HG1.out).mono ?_
  rintro e w2 ⟨rfl, hk2⟩
  have HB2 := Lib.hid (fun o => Blk.row (Blk.new w2 25 o) rs)
  have HD2 := Lib.hid (fun o => ((HB1.out.grown hk2 (by simp)).grown (World.grownBy_alloc w2 o none) (by simp)).farRow (g := w.heap.size) (g' := w2.heap.size) (by have := HZ1.out; have := hk2.size; omega) rs)
  have HG2 := Lib.hid (fun o => grown_row (grown_trans (grown_trans HG1.out hk2) (World.grownBy_alloc w2 o none)) (g := w2.heap.size) (.inl (grown_trans HG1.out hk2).size) rs)
  clear hk2
  go_wp2_with (refine wpList_store_row rfl 25 _ _ rfl w2.heap.size rs rfl rfl 25 _ (heap_alloc_new w2 _) (by rw [HS6.out.1]; exact info16) (by simp only [HS6.out.1, HZS.out]) HS6.out.2 ?_)
  obtain ⟨w6, hw6⟩ : ∃ w6, w6 = (w2.alloc (.cells Z16 25)).setRow w2.heap.size rs := ⟨_, rfl⟩
  rw [← hw6]
  have HB6 := Lib.hid (show Blk w6 w2.heap.size 25 rs ∧ Blk w6 w.heap.size 25 ds ∧ w.grownBy w6 none by rw [hw6]; exact ⟨HB2.out _, HD2.out _, HG2.out _⟩)
  clear hw6
  refine wp_region_grown (by kernel_rfl) (by kernel_rfl) ?_
  have V1 := Lib.hid (show ∀ z : Gr w6, Sem.run Tryd.prog (Instr.loadAt 25 (.pointer (some ⟨w2.heap.size, 0, none⟩))) z.1 = .ok (.agg rs) z.1 from fun z => row_load _ rs HS6.out.1 z.1 (HB6.out.1.grown z.2 (by simp)))
  have V2 := Lib.hid (show ∀ z : Gr w6, Sem.run Tryd.prog (Instr.loadAt 25 (.pointer (some ⟨w.heap.size, 0, none⟩))) z.1 = .ok (.agg ds) z.1 from fun z => row_load _ ds HD.out.2 z.1 (HB6.out.2.1.grown z.2 (by simp)))
  have S3 := Lib.hid (show ∀ z : Gr w6, Calls Tryd.prog 16 #[.agg ds, .int .i64 lf, .slice (some ⟨b, off, none⟩) 5 c] z.1 fun e w' => e = .returned (.agg rs) ∧ z.1.grownBy w' none from fun z => S2.out z.1 (grown_trans HB6.out.2.2 z.2))
  repeat (first
    | (refine wpQuiet_load_row 25 _ ⟨w2.heap.size, 0, none⟩ (.agg rs) (by rfl) rfl rfl (by rintro _ ⟨z, rfl⟩; exact V1.out z) ?_; simp only [Act.put, List.setIfInBounds_toArray, List.set_cons_zero, List.set_cons_succ])
    | (refine wpQuiet_load_row 25 _ ⟨w.heap.size, 0, none⟩ (.agg ds) (by rfl) rfl rfl (by rintro _ ⟨z, rfl⟩; exact V2.out z) ?_; simp only [Act.put, List.setIfInBounds_toArray, List.set_cons_zero, List.set_cons_succ])
    | go_big_quiet_step (first
    | (go_at_call 16; with_reducible exact Calls.grown _ (S3.out _))))
  refine wpQuiet_nil ?_
  rintro w7 ⟨⟨_, k7⟩, rfl⟩
  go_wp2_with fail
  go_ret
  exact ⟨rfl, grown_trans HB6.out.2.2 k7⟩
set_option maxRecDepth 100000 in
set_option maxHeartbeats 4000000 in
theorem climbs_neg (w : World) (hR : Rounds w) (B : Nat) (E : Nat → Addr) (he : ErrEnv w B E) (lf : Int) (hlf : lf < 0) (A : Option Addr) (n c : Nat) (hn : n ≤ 20)  (ds : Array Value) (hds : ds.size = 16) :
    Calls Tryd.prog 4 #[.agg ds, .int .i64 lf, .slice A n c] w fun e w' => e = .returned (.bool true) ∧ w.grownBy w' none := by
  obtain ⟨rs, hrs⟩ : ∃ rs, rs = arrV .u8 (List.replicate 16 0) := ⟨_, rfl⟩
  have hq := eqDG (List.replicate 16 0) rfl rs hrs
  have HD := Lib.hid hds
  have HS6 := Lib.hid (show rs.size = 16 ∧ (rs.all fun x => x.oneCell') = true from ⟨by rw [hrs]; rfl, by rw [hrs]; exact arr_one _ _⟩)
  have S1 := Lib.hid (fun (z : World) (hz : w.grownBy z none) => climb_no z B (E 0) ((he.grown hz (by simp)).var 0 (by omega)) lf (.inl hlf) A n c ds hds rs hrs)
  have S2 := Lib.hid (fun (z : World) (hz : w.grownBy z none) => num_err z B E 0 (by omega) (he.grown hz (by simp)))
  have h100 : ¬ 20 < (n : Int) := by omega
  have d1 : decide (lf < 0) = true := by simp; omega
  have hz16 : ∀ w, Sem.run Tryd.prog (zeroValue 25) w = .ok (.agg rs) w := fun w => by rw [hrs]; exact z16run w
  clear hrs hds he
  have HRA := Lib.hid (hR.grown (World.grownBy_alloc w (.cells ds 25) none) (by simp))
  clear hR
  go_enter Tryd.func4, Tryd.ntmps4
  go_wp2_with fail
  refine (tree_alive _ HRA.out).mono ?_
  rintro e w1 ⟨rfl, hk1⟩
  have HB1 := Lib.hid ((Blk.new w 25 ds).grown hk1 (by simp))
  have HG1 := Lib.hid (grown_trans (World.grownBy_alloc w _ none) hk1)
  clear hk1
  go_wp2_with (refine wpList_load_row rfl 25 _ rfl w.heap.size rfl 25 ds (0, 0) _ HB1.out Tryd.underlying25 rfl (by rw [HD.out]; exact info16) ?_)
  refine (S1.out w1 HG1.out).mono ?_
  rintro e w2 ⟨rfl, hk2⟩
  have HB2 := Lib.hid (fun o => Blk.row (Blk.new w2 25 o) rs)
  have HG2 := Lib.hid (fun o => grown_row (grown_trans (grown_trans HG1.out hk2) (World.grownBy_alloc w2 o none)) (g := w2.heap.size) (.inl (grown_trans HG1.out hk2).size) rs)
  clear hk2
  go_wp2_with (first
    | (refine wpList_store_row rfl 25 _ _ rfl w2.heap.size rs rfl rfl 25 _ (heap_alloc_new w2 _) (by rw [HS6.out.1]; exact info16) rfl HS6.out.2 ?_)
    | (refine wpList_load_row rfl 25 _ rfl w2.heap.size rfl 25 rs (0, 0) _ (HB2.out _) Tryd.underlying25 rfl (by rw [HS6.out.1]; exact info16) ?_))
  refine (S2.out _ (HG2.out _)).mono ?_
  rintro e w7 ⟨rfl, hk7⟩
  have HG7 := Lib.hid (grown_trans (HG2.out _) hk7)
  clear hk7
  go_wp2_with fail
  go_ret
  exact ⟨rfl, HG7.out⟩
set_option maxRecDepth 100000 in
set_option maxHeartbeats 4000000 in
theorem climbs_big (w : World) (hR : Rounds w) (B : Nat) (E : Nat → Addr) (he : ErrEnv w B E) (lf : Int) (hlf : 32 ≤ lf) (A : Option Addr) (n c : Nat) (hn : n ≤ 20)  (ds : Array Value) (hds : ds.size = 16) :
    Calls Tryd.prog 4 #[.agg ds, .int .i64 lf, .slice A n c] w fun e w' => e = .returned (.bool true) ∧ w.grownBy w' none := by
  obtain ⟨rs, hrs⟩ : ∃ rs, rs = arrV .u8 (List.replicate 16 0) := ⟨_, rfl⟩
  have hq := eqDG (List.replicate 16 0) rfl rs hrs
  have HD := Lib.hid hds
  have HS6 := Lib.hid (show rs.size = 16 ∧ (rs.all fun x => x.oneCell') = true from ⟨by rw [hrs]; rfl, by rw [hrs]; exact arr_one _ _⟩)
  have S1 := Lib.hid (fun (z : World) (hz : w.grownBy z none) => climb_no z B (E 0) ((he.grown hz (by simp)).var 0 (by omega)) lf (.inr hlf) A n c ds hds rs hrs)
  have S2 := Lib.hid (fun (z : World) (hz : w.grownBy z none) => num_err z B E 0 (by omega) (he.grown hz (by simp)))
  have h100 : ¬ 20 < (n : Int) := by omega
  have d1 : decide (lf < 0) = false := by simp; omega
  have d2 : decide (31 < lf) = true := by simp; omega
  have h0 : ¬ lf < 0 := by omega
  have h1 : 31 < lf := by omega
  have hz16 : ∀ w, Sem.run Tryd.prog (zeroValue 25) w = .ok (.agg rs) w := fun w => by rw [hrs]; exact z16run w
  clear hrs hds he
  have HRA := Lib.hid (hR.grown (World.grownBy_alloc w (.cells ds 25) none) (by simp))
  clear hR
  go_enter Tryd.func4, Tryd.ntmps4
  go_wp2_with fail
  refine (tree_alive _ HRA.out).mono ?_
  rintro e w1 ⟨rfl, hk1⟩
  have HB1 := Lib.hid ((Blk.new w 25 ds).grown hk1 (by simp))
  have HG1 := Lib.hid (grown_trans (World.grownBy_alloc w _ none) hk1)
  clear hk1
  go_wp2_with (refine wpList_load_row rfl 25 _ rfl w.heap.size rfl 25 ds (0, 0) _ HB1.out Tryd.underlying25 rfl (by rw [HD.out]; exact info16) ?_)
  refine (S1.out w1 HG1.out).mono ?_
  rintro e w2 ⟨rfl, hk2⟩
  have HB2 := Lib.hid (fun o => Blk.row (Blk.new w2 25 o) rs)
  have HG2 := Lib.hid (fun o => grown_row (grown_trans (grown_trans HG1.out hk2) (World.grownBy_alloc w2 o none)) (g := w2.heap.size) (.inl (grown_trans HG1.out hk2).size) rs)
  clear hk2
  go_wp2_with (first
    | (refine wpList_store_row rfl 25 _ _ rfl w2.heap.size rs rfl rfl 25 _ (heap_alloc_new w2 _) (by rw [HS6.out.1]; exact info16) rfl HS6.out.2 ?_)
    | (refine wpList_load_row rfl 25 _ rfl w2.heap.size rfl 25 rs (0, 0) _ (HB2.out _) Tryd.underlying25 rfl (by rw [HS6.out.1]; exact info16) ?_))
  refine (S2.out _ (HG2.out _)).mono ?_
  rintro e w7 ⟨rfl, hk7⟩
  have HG7 := Lib.hid (grown_trans (HG2.out _) hk7)
  clear hk7
  go_wp2_with fail
  go_ret
  exact ⟨rfl, HG7.out⟩
set_option maxRecDepth 100000 in
set_option maxHeartbeats 4000000 in
theorem climbs_form (w : World) (hR : Rounds w) (B : Nat) (E : Nat → Addr) (he : ErrEnv w B E) (lf : Int) (hlf : 0 ≤ lf ∧ lf < 32) (A : Option Addr) (n c : Nat) (hn : n ≤ 20) (hn68 : n ≠ 5) (ds : Array Value) (hds : ds.size = 16) :
    Calls Tryd.prog 4 #[.agg ds, .int .i64 lf, .slice A n c] w fun e w' => e = .returned (.bool true) ∧ w.grownBy w' none := by
  obtain ⟨rs, hrs⟩ : ∃ rs, rs = arrV .u8 (List.replicate 16 0) := ⟨_, rfl⟩
  have hq := eqDG (List.replicate 16 0) rfl rs hrs
  have HD := Lib.hid hds
  have HS6 := Lib.hid (show rs.size = 16 ∧ (rs.all fun x => x.oneCell') = true from ⟨by rw [hrs]; rfl, by rw [hrs]; exact arr_one _ _⟩)
  have S1 := Lib.hid (fun (z : World) (hz : w.grownBy z none) => climb_form z B (E 3) ((he.grown hz (by simp)).var 3 (by omega)) lf hlf A n c hn68 ds hds rs hrs)
  have S2 := Lib.hid (fun (z : World) (hz : w.grownBy z none) => num_err z B E 3 (by omega) (he.grown hz (by simp)))
  have h100 : ¬ 20 < (n : Int) := by omega
  have d1 : decide (lf < 0) = false := by simp; omega
  have d2 : decide (31 < lf) = false := by simp; omega
  have h0 : ¬ lf < 0 := by omega
  have h1 : ¬ 31 < lf := by omega
  have h68 : ¬ (n : Int) = 5 := by omega
  have hz16 : ∀ w, Sem.run Tryd.prog (zeroValue 25) w = .ok (.agg rs) w := fun w => by rw [hrs]; exact z16run w
  clear hrs hds he
  have HRA := Lib.hid (hR.grown (World.grownBy_alloc w (.cells ds 25) none) (by simp))
  clear hR
  go_enter Tryd.func4, Tryd.ntmps4
  go_wp2_with fail
  refine (tree_alive _ HRA.out).mono ?_
  rintro e w1 ⟨rfl, hk1⟩
  have HB1 := Lib.hid ((Blk.new w 25 ds).grown hk1 (by simp))
  have HG1 := Lib.hid (grown_trans (World.grownBy_alloc w _ none) hk1)
  clear hk1
  go_wp2_with (refine wpList_load_row rfl 25 _ rfl w.heap.size rfl 25 ds (0, 0) _ HB1.out Tryd.underlying25 rfl (by rw [HD.out]; exact info16) ?_)
  refine (S1.out w1 HG1.out).mono ?_
  rintro e w2 ⟨rfl, hk2⟩
  have HB2 := Lib.hid (fun o => Blk.row (Blk.new w2 25 o) rs)
  have HG2 := Lib.hid (fun o => grown_row (grown_trans (grown_trans HG1.out hk2) (World.grownBy_alloc w2 o none)) (g := w2.heap.size) (.inl (grown_trans HG1.out hk2).size) rs)
  clear hk2
  go_wp2_with (first
    | (refine wpList_store_row rfl 25 _ _ rfl w2.heap.size rs rfl rfl 25 _ (heap_alloc_new w2 _) (by rw [HS6.out.1]; exact info16) rfl HS6.out.2 ?_)
    | (refine wpList_load_row rfl 25 _ rfl w2.heap.size rfl 25 rs (0, 0) _ (HB2.out _) Tryd.underlying25 rfl (by rw [HS6.out.1]; exact info16) ?_))
  refine (S2.out _ (HG2.out _)).mono ?_
  rintro e w7 ⟨rfl, hk7⟩
  have HG7 := Lib.hid (grown_trans (HG2.out _) hk7)
  clear hk7
  go_wp2_with fail
  go_ret
  exact ⟨rfl, HG7.out⟩
set_option maxRecDepth 100000 in
theorem climbs_long (w : World) (hR : Rounds w) (lf : Int) (A : Option Addr) (n c : Nat) (hn : 20 < n) (ds : Array Value) :
    Calls Tryd.prog 4 #[.agg ds, .int .i64 lf, .slice A n c] w fun e w' => e = .returned (.bool true) ∧ w.grownBy w' none := by
  have h100 : 20 < (n : Int) := by omega
  have HRA := Lib.hid (hR.grown (World.grownBy_alloc w (.cells ds 25) none) (by simp))
  clear hR
  go_enter Tryd.func4, Tryd.ntmps4
  go_wp2_with fail
  refine (tree_alive _ HRA.out).mono ?_
  rintro e w1 ⟨rfl, hk1⟩
  have HG1 := Lib.hid (grown_trans (World.grownBy_alloc w _ none) hk1)
  clear hk1
  go_wp2_with fail
  go_ret
  exact ⟨rfl, HG1.out⟩
end Go.Proofs.YtobmpdpcjaaklaaDoor
