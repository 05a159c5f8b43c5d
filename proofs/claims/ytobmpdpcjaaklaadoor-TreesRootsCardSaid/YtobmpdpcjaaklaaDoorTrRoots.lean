/-
  TreesRoots, walked.
-/
import Derived.Test.YtobmpdpcjaaklaaDoorTrAll
import Derived.Test.YtobmpdpcjaaklaaDoorTrX
import Derived.Test.YtobmpdpcjaaklaaDoorTrF
namespace Go.Proofs.YtobmpdpcjaaklaaDoor
open Go.RowKit

theorem rroot_top (w : World) (b off c : Nat) (hc : 32 ≤ c) (ps : List (List Int)) (hl : ps.length = 32) (hps : ∀ p ∈ ps, isDig p) (hD : DigsAt w b off ps) (rs : Array Value) (hrs : rs = arrV .u8 (nodeC ps 5 0)) :
    Calls Tryd.prog 12 #[.slice (some ⟨b, off, none⟩) 32 c] w fun e w' => e = .returned (.agg rs) ∧ w.grownBy w' none :=
  rroot_is ps hps 5 0 w b off c 32 off rs rfl (by omega) (by omega) (by omega) hc hD hrs
theorem rpath_top (w : World) (b off c : Nat) (hc : 32 ≤ c) (ps : List (List Int)) (hl : ps.length = 32) (hps : ∀ p ∈ ps, isDig p) (hD : DigsAt w b off ps) (i : Nat) (hi : i < 32) (iv : Int) (hiv : iv = (i : Int)) :
    Calls Tryd.prog 15 #[.slice (some ⟨b, off, none⟩) 32 c, .int .i64 iv] w fun e w' => ∃ g cap, e = .returned (.slice (some ⟨g, 0, none⟩) 5 cap) ∧ (∀ k, k < 5 → w'.rangeAt g (0 + k * 16) (wayV ps i k).toList) ∧ w.grownBy w' none := by
  refine (rpath_is ps hps i 5 0 w b off c 32 off iv rfl (by omega) (by omega) (by omega) hc (by omega) (by omega) hD).mono ?_
  rintro e w' ⟨v, rfl, hown, hg⟩
  obtain ⟨g, cap, rfl, _, _, _, hr⟩ := own_rows (wayV ps i) (fun k => wayV_size hps i k) (by omega) hown
  exact ⟨g, cap, rfl, hr, hg⟩
theorem roots_long (w : World) (hR : Rounds w) (lf : Int) (A : Option Addr) (n c : Nat) (hn : 100 < n) : Calls Tryd.prog 3 #[.slice A n c, .int .i64 lf] w fun e w' => e = .returned (.bool true) ∧ w.grownBy w' none := by
  have d1 : 100 < (n : Int) := by omega
  have HR := Lib.hid hR
  clear hR
  go_enter Tryd.func3, Tryd.ntmps3
  go_wp2_with fail
  refine (tree_alive _ HR.out).mono ?_
  rintro e w1 ⟨rfl, hk1⟩
  have HK := Lib.hid hk1
  clear hk1
  go_wp2_with fail
  go_ret
  exact ⟨rfl, HK.out⟩

set_option maxRecDepth 100000 in
set_option maxHeartbeats 4000000 in
theorem roots_form (w : World) (hR : Rounds w) (B : Nat) (E : Nat → Addr) (he : ErrEnv w B E) (lf : Int) (A : Option Addr) (n c : Nat) (hn : n ≤ 100) (h32 : n ≠ 32) :
    Calls Tryd.prog 3 #[.slice A n c, .int .i64 lf] w fun e w' => e = .returned (.bool true) ∧ w.grownBy w' none := by
  obtain ⟨rs, hrs⟩ : ∃ rs, rs = arrV .u8 (List.replicate 16 0) := ⟨_, rfl⟩
  have hq := eqDG (List.replicate 16 0) rfl rs hrs
  have HS6 := Lib.hid (show rs.size = 16 ∧ (rs.all fun x => x.oneCell') = true from ⟨by rw [hrs]; rfl, by rw [hrs]; exact arr_one _ _⟩)
  have S1 := Lib.hid (fun (z : World) (hz : w.grownBy z none) => root_form z B (E 3) ((he.grown hz (by simp)).var 3 (by omega)) A n c h32 rs hrs)
  have S2 := Lib.hid (fun (z : World) (hz : w.grownBy z none) => path_form z B (E 3) ((he.grown hz (by simp)).var 3 (by omega)) lf A n c h32)
  have S3 := Lib.hid (fun (z : World) (hz : w.grownBy z none) => num_err z B E 3 (by omega) (he.grown hz (by simp)))
  have hz16 : ∀ w, Sem.run Tryd.prog (zeroValue 25) w = .ok (.agg rs) w := fun w => by rw [hrs]; exact z16run w
  have d1 : ¬ 100 < (n : Int) := by omega
  have d32 : ¬ ((n : Int) = 32) := by omega
  have HR := Lib.hid hR
  clear hR hrs he
  go_enter Tryd.func3, Tryd.ntmps3
  go_wp2_with fail
  refine (tree_alive _ HR.out).mono ?_
  rintro e w1 ⟨rfl, hk1⟩
  have HK1 := Lib.hid hk1
  clear hk1
  go_wp2_with fail
  refine (S1.out w1 HK1.out).mono ?_
  rintro e w2 ⟨rfl, hk2⟩
  have HK2 := Lib.hid (grown_trans HK1.out hk2)
  clear hk2
  go_wp2_with (refine wpList_store_row rfl 25 _ _ rfl w2.heap.size rs rfl rfl 25 _ (heap_alloc_new w2 _) (by rw [HS6.out.1]; exact info16) rfl HS6.out.2 ?_)
  obtain ⟨w3, hw3⟩ : ∃ w3, w3 = (w2.alloc (.cells rs 25)).setRow w2.heap.size rs := ⟨_, rfl⟩
  obtain ⟨rb, hrb⟩ : ∃ rb, rb = w2.heap.size := ⟨_, rfl⟩
  rw [← hw3, ← hrb]
  have H3 := Lib.hid (show Blk w3 rb 25 rs ∧ w.grownBy w3 none from by
    rw [hw3, hrb]
    exact ⟨(Blk.new w2 25 rs).row rs, grown_row (grown_trans HK2.out (World.grownBy_alloc w2 _ none)) (.inl HK2.out.size) rs⟩)
  clear hw3 hrb
  refine (S2.out w3 H3.out.2).mono ?_
  rintro e w4 ⟨rfl, hk4⟩
  have H4 := Lib.hid (show Blk w4 rb 25 rs ∧ w.grownBy w4 none from ⟨H3.out.1.grown hk4 (by simp), grown_trans H3.out.2 hk4⟩)
  clear hk4
  go_wp2_with (refine wpList_load_row rfl 25 _ rfl rb rfl 25 rs (0, 0) _ H4.out.1 Tryd.underlying25 rfl (by rw [HS6.out.1]; exact info16) ?_)
  refine (S3.out w4 H4.out.2).mono ?_
  rintro e w5 ⟨rfl, hk5⟩
  have HK5 := Lib.hid (grown_trans H4.out.2 hk5)
  clear hk5
  go_wp2_with fail
  refine (S3.out w5 HK5.out).mono ?_
  rintro e w6 ⟨rfl, hk6⟩
  have HK6 := Lib.hid (grown_trans HK5.out hk6)
  clear hk6
  go_wp2_with fail
  go_ret
  exact ⟨rfl, HK6.out⟩

set_option maxRecDepth 100000 in
set_option maxHeartbeats 4000000 in
theorem roots_out (w : World) (hR : Rounds w) (B : Nat) (E : Nat → Addr) (he : ErrEnv w B E) (lf : Int) (hlf : lf < 0 ∨ 32 ≤ lf) (bneg : Bool) (hbn : decide (lf < 0) = bneg) (b off c : Nat) (hc : 32 ≤ c) (ps : List (List Int)) (hl : ps.length = 32) (hps : ∀ p ∈ ps, isDig p) (hD : DigsAt w b off ps) :
    Calls Tryd.prog 3 #[.slice (some ⟨b, off, none⟩) 32 c, .int .i64 lf] w fun e w' => e = .returned (.bool true) ∧ w.grownBy w' none := by
  obtain ⟨Z16, hZ16⟩ : ∃ Z, Z = arrV .u8 (List.replicate 16 0) := ⟨_, rfl⟩
  have hz16 : ∀ w, Sem.run Tryd.prog (zeroValue 25) w = .ok (.agg Z16) w := fun w => by rw [hZ16]; exact z16run w
  obtain ⟨rs, hrs⟩ : ∃ rs, rs = arrV .u8 (nodeC ps 5 0) := ⟨_, rfl⟩
  have hrd := nodeC_dig hps 5 0
  have hq := eqDG (nodeC ps 5 0) hrd.1 rs hrs
  have HS6 := Lib.hid (show rs.size = 16 ∧ (rs.all fun x => x.oneCell') = true ∧ Z16.size = 16 from ⟨by rw [hrs, arr_size]; exact hrd.1, by rw [hrs]; exact arr_one _ _, by rw [hZ16]; rfl⟩)
  have S1 := Lib.hid (fun (z : World) (hz : w.grownBy z none) => root_ok z (hR.grown hz (by simp)) b off c ps hl hps (hD.grown hz) rs hrs)
  have S2 := Lib.hid (fun (z : World) (hz : w.grownBy z none) => path_no z B (E 0) ((he.grown hz (by simp)).var 0 (by omega)) lf hlf (some ⟨b, off, none⟩) 32 c rfl)
  have S3 := Lib.hid (fun (z : World) (hz : w.grownBy z none) => num_err z B E 0 (by omega) (he.grown hz (by simp)))
  have S4w := Lib.hid (fun (z : World) (hz : w.grownBy z none) => rroot_top z b off c hc ps hl hps (hD.grown hz) rs hrs)
  have HR := Lib.hid hR
  have HLF := Lib.hid (And.intro hlf hbn)
  clear hR hrs he hZ16 hrd hc hl hps hD hlf
  go_enter Tryd.func3, Tryd.ntmps3
  go_wp2_with fail
  refine (tree_alive _ HR.out).mono ?_
  rintro e w1 ⟨rfl, hk1⟩
  have HK1 := Lib.hid hk1
  clear hk1
  go_wp2_with fail
  refine (S1.out w1 HK1.out).mono ?_
  rintro e w2 ⟨rfl, hk2⟩
  have HK2 := Lib.hid (grown_trans HK1.out hk2)
  clear hk2
  go_wp2_with (refine wpList_store_row rfl 25 _ _ rfl w2.heap.size rs rfl rfl 25 _ (heap_alloc_new w2 _) (by rw [HS6.out.1]; exact info16) (by rw [HS6.out.2.2, HS6.out.1]) HS6.out.2.1 ?_)
  obtain ⟨w3, hw3⟩ : ∃ w3, w3 = (w2.alloc (.cells Z16 25)).setRow w2.heap.size rs := ⟨_, rfl⟩
  obtain ⟨rb, hrb⟩ : ∃ rb, rb = w2.heap.size := ⟨_, rfl⟩
  rw [← hw3, ← hrb]
  have H3 := Lib.hid (show Blk w3 rb 25 rs ∧ w.grownBy w3 none from by
    rw [hw3, hrb]
    exact ⟨(Blk.new w2 25 Z16).row rs, grown_row (grown_trans HK2.out (World.grownBy_alloc w2 _ none)) (.inl HK2.out.size) rs⟩)
  clear hw3 hrb
  refine (S2.out w3 H3.out.2).mono ?_
  rintro e w4 ⟨rfl, hk4⟩
  have H4 := Lib.hid (show Blk w4 rb 25 rs ∧ w.grownBy w4 none from ⟨H3.out.1.grown hk4 (by simp), grown_trans H3.out.2 hk4⟩)
  clear hk4
  go_wp2_with fail
  have V1 := Lib.hid (show ∀ z : Gr w4, Sem.run Tryd.prog (Instr.loadAt 25 (.pointer (some ⟨rb, 0, none⟩))) z.1 = .ok (.agg rs) z.1 from fun z => row_load _ rs HS6.out.1 z.1 (H4.out.1.grown z.2 (by simp)))
  have S4 := Lib.hid (show ∀ z : Gr w4, _ from fun z => S4w.out z.1 (grown_trans H4.out.2 z.2))
  refine wp_region_grown (by kernel_rfl) (by kernel_rfl) ?_
  repeat (first
    | (refine wpQuiet_load_row 25 _ ⟨rb, 0, none⟩ (.agg rs) (by rfl) rfl rfl (by rintro _ ⟨z, rfl⟩; exact V1.out z) ?_; simp only [Act.put, List.setIfInBounds_toArray, List.set_cons_zero, List.set_cons_succ])
    | go_big_quiet_step (first
    | (go_at_call 12; with_reducible exact Calls.grown _ (S4.out _))))
  refine wpQuiet_nil ?_
  rintro w5 ⟨⟨_, k5⟩, rfl⟩
  have HK5 := Lib.hid (grown_trans H4.out.2 k5)
  clear k5
  have hcase : (bneg = true ∧ lf < 0) ∨ (bneg = false ∧ 31 < lf ∧ ¬ lf < 0) := by
    obtain ⟨h1, h2⟩ := HLF.out
    cases hb : bneg
    · rw [hb] at h2
      have h3 : ¬ lf < 0 := of_decide_eq_false h2
      right; exact ⟨rfl, by omega, h3⟩
    · rw [hb] at h2
      left; exact ⟨rfl, of_decide_eq_true h2⟩
  clear hbn
  rcases hcase with ⟨rfl, hneg⟩ | ⟨rfl, hbig, hnn⟩
  · go_wp2_with fail
    refine (S3.out w5 HK5.out).mono ?_
    rintro e w6 ⟨rfl, hk6⟩
    have HK6 := Lib.hid (grown_trans HK5.out hk6)
    clear hk6
    go_wp2_with fail
    go_ret
    exact ⟨rfl, HK6.out⟩
  · go_wp2_with fail
    refine (S3.out w5 HK5.out).mono ?_
    rintro e w6 ⟨rfl, hk6⟩
    have HK6 := Lib.hid (grown_trans HK5.out hk6)
    clear hk6
    go_wp2_with fail
    go_ret
    exact ⟨rfl, HK6.out⟩
theorem roots_neg (w : World) (hR : Rounds w) (B : Nat) (E : Nat → Addr) (he : ErrEnv w B E) (lf : Int) (hlf : lf < 0) (b off c : Nat) (hc : 32 ≤ c) (ps : List (List Int)) (hl : ps.length = 32) (hps : ∀ p ∈ ps, isDig p) (hD : DigsAt w b off ps) :
    Calls Tryd.prog 3 #[.slice (some ⟨b, off, none⟩) 32 c, .int .i64 lf] w fun e w' => e = .returned (.bool true) ∧ w.grownBy w' none := roots_out w hR B E he lf (.inl hlf) _ rfl b off c hc ps hl hps hD
theorem roots_big (w : World) (hR : Rounds w) (B : Nat) (E : Nat → Addr) (he : ErrEnv w B E) (lf : Int) (hlf : 32 ≤ lf) (b off c : Nat) (hc : 32 ≤ c) (ps : List (List Int)) (hl : ps.length = 32) (hps : ∀ p ∈ ps, isDig p) (hD : DigsAt w b off ps) :
    Calls Tryd.prog 3 #[.slice (some ⟨b, off, none⟩) 32 c, .int .i64 lf] w fun e w' => e = .returned (.bool true) ∧ w.grownBy w' none := roots_out w hR B E he lf (.inr hlf) _ rfl b off c hc ps hl hps hD

set_option maxRecDepth 100000 in
set_option maxHeartbeats 4000000 in
theorem roots_main (w : World) (hR : Rounds w) (lf : Int) (hlf : 0 ≤ lf ∧ lf < 32) (b off c : Nat) (hc : 32 ≤ c) (ps : List (List Int)) (hl : ps.length = 32) (hps : ∀ p ∈ ps, isDig p) (hD : DigsAt w b off ps) :
    Calls Tryd.prog 3 #[.slice (some ⟨b, off, none⟩) 32 c, .int .i64 lf] w fun e w' => e = .returned (.bool true) ∧ w.grownBy w' none := by
  obtain ⟨Z16, hZ16⟩ : ∃ Z, Z = arrV .u8 (List.replicate 16 0) := ⟨_, rfl⟩
  have hz16 : ∀ w, Sem.run Tryd.prog (zeroValue 25) w = .ok (.agg Z16) w := fun w => by rw [hZ16]; exact z16run w
  obtain ⟨rs, hrs⟩ : ∃ rs, rs = arrV .u8 (nodeC ps 5 0) := ⟨_, rfl⟩
  have hrd := nodeC_dig hps 5 0
  have hq := eqDG (nodeC ps 5 0) hrd.1 rs hrs
  obtain ⟨i, hi⟩ : ∃ i : Nat, lf = (i : Int) := ⟨lf.toNat, by omega⟩
  have hi32 : i < 32 := by omega
  obtain ⟨es, hes⟩ : ∃ es, es = arrV .u8 (ps.getD i zeroC) := ⟨_, rfl⟩
  obtain ⟨el, hel⟩ : ∃ el, el = es.toList := ⟨_, rfl⟩
  have he16 : es.size = 16 := by rw [hes, arr_size]; exact (getD_dig hps i).1
  have HEL := Lib.hid (show ∀ z, w.grownBy z none → z.rangeAt b (off + lf.toNat * 16) el from fun z hz => by
    rw [hel, hes, hi, Int.toNat_natCast]
    exact range_grown (hD i (by omega)) hz)
  have HEI := Lib.hid (And.intro (show (Tryd.prog.info? 25).map (·.size) = some el.length by rw [hel, Array.length_toList, he16]; exact info16) (show el.toArray = es by rw [hel, Array.toArray_toList]))
  have HS6 := Lib.hid (show rs.size = 16 ∧ (rs.all fun x => x.oneCell') = true ∧ Z16.size = 16 from ⟨by rw [hrs, arr_size]; exact hrd.1, by rw [hrs]; exact arr_one _ _, by rw [hZ16]; rfl⟩)
  have S1 := Lib.hid (fun (z : World) (hz : w.grownBy z none) => root_ok z (hR.grown hz (by simp)) b off c ps hl hps (hD.grown hz) rs hrs)
  have S2 := Lib.hid (fun (z : World) (hz : w.grownBy z none) => path_ok z (hR.grown hz (by simp)) b off c ps hl hps (hD.grown hz) i hi32 lf hi)
  have S4w := Lib.hid (fun (z : World) (hz : w.grownBy z none) => rroot_top z b off c hc ps hl hps (hD.grown hz) rs hrs)
  have S5 := Lib.hid (fun (z : World) (hz : w.grownBy z none) g cap h => climb_own z (hR.grown hz (by simp)) ps hps i hi32 lf hi g cap h es rs hes hrs)
  have S6 := Lib.hid (fun (z : World) (hz : w.grownBy z none) => rpath_top z b off c hc ps hl hps (hD.grown hz) i hi32 lf hi)
  have S7 := Lib.hid (fun (z : World) (g1 c1 g2 c2 : Nat) (h1 : ∀ k, k < 5 → z.rangeAt g1 (0 + k * 16) (wayV ps i k).toList) (h2 : ∀ k, k < 5 → z.rangeAt g2 (0 + k * 16) (wayV ps i k).toList) =>
    digs_same z g1 0 c1 g2 0 c2 5 _ _ (upto_length _ _) (upto_length _ _) (by omega) (way_dig hps (fun k => k) i 5) (way_dig hps (fun k => k) i 5) (wayL_digs h1) (wayL_digs h2) true (by simp))
  have HR := Lib.hid hR
  have d0 : decide (lf < 0) = false := by simp; omega
  have d0b : ¬ lf < 0 := by omega
  have d31 : ¬ 31 < lf := by omega
  clear hR hrs hZ16 hrd hc hl hps hD hi hi32 hes hel he16
  go_enter Tryd.func3, Tryd.ntmps3
  go_wp2_with fail
  refine (tree_alive _ HR.out).mono ?_
  rintro e w1 ⟨rfl, hk1⟩
  have HK1 := Lib.hid hk1
  clear hk1
  go_wp2_with fail
  refine (S1.out w1 HK1.out).mono ?_
  rintro e w2 ⟨rfl, hk2⟩
  have HK2 := Lib.hid (grown_trans HK1.out hk2)
  clear hk2
  go_wp2_with (refine wpList_store_row rfl 25 _ _ rfl w2.heap.size rs rfl rfl 25 _ (heap_alloc_new w2 _) (by rw [HS6.out.1]; exact info16) (by rw [HS6.out.2.2, HS6.out.1]) HS6.out.2.1 ?_)
  obtain ⟨w3, hw3⟩ : ∃ w3, w3 = (w2.alloc (.cells Z16 25)).setRow w2.heap.size rs := ⟨_, rfl⟩
  obtain ⟨rb, hrb⟩ : ∃ rb, rb = w2.heap.size := ⟨_, rfl⟩
  rw [← hw3, ← hrb]
  have H3 := Lib.hid (show Blk w3 rb 25 rs ∧ w.grownBy w3 none from by
    rw [hw3, hrb]
    exact ⟨(Blk.new w2 25 Z16).row rs, grown_row (grown_trans HK2.out (World.grownBy_alloc w2 _ none)) (.inl HK2.out.size) rs⟩)
  clear hw3 hrb
  refine (S2.out w3 H3.out.2).mono ?_
  rintro e w4 ⟨g1, cap1, rfl, _, _, _, hr1, hk4⟩
  have H4 := Lib.hid (show Blk w4 rb 25 rs ∧ w.grownBy w4 none ∧ (∀ k, k < 5 → w4.rangeAt g1 (0 + k * 16) (wayV ps i k).toList) from ⟨H3.out.1.grown hk4 (by simp), grown_trans H3.out.2 hk4, hr1⟩)
  clear hk4 hr1
  go_wp2_with fail
  have V1 := Lib.hid (show ∀ z : Gr w4, Sem.run Tryd.prog (Instr.loadAt 25 (.pointer (some ⟨rb, 0, none⟩))) z.1 = .ok (.agg rs) z.1 from fun z => row_load _ rs HS6.out.1 z.1 (H4.out.1.grown z.2 (by simp)))
  have S4 := Lib.hid (show ∀ z : Gr w4, _ from fun z => S4w.out z.1 (grown_trans H4.out.2.1 z.2))
  refine wp_region_grown (by kernel_rfl) (by kernel_rfl) ?_
  repeat (first
    | (refine wpQuiet_load_row 25 _ ⟨rb, 0, none⟩ (.agg rs) (by rfl) rfl rfl (by rintro _ ⟨z, rfl⟩; exact V1.out z) ?_; simp only [Act.put, List.setIfInBounds_toArray, List.set_cons_zero, List.set_cons_succ])
    | go_big_quiet_step (first
    | (go_at_call 12; with_reducible exact Calls.grown _ (S4.out _))))
  refine wpQuiet_nil ?_
  rintro w5 ⟨⟨_, k5⟩, rfl⟩
  have H5 := Lib.hid (show Blk w5 rb 25 rs ∧ w.grownBy w5 none ∧ (∀ k, k < 5 → w5.rangeAt g1 (0 + k * 16) (wayV ps i k).toList) from ⟨H4.out.1.grown k5 (by simp), grown_trans H4.out.2.1 k5, fun k hk => range_grown (H4.out.2.2 k hk) k5⟩)
  clear k5
  go_wp2_with (refine wpList_load_mid rfl 25 _ rfl b _ rfl el _ (HEL.out w5 H5.out.2.1) Tryd.underlying25 rfl HEI.out.1 ?_; rw [HEI.out.2])
  refine (S5.out w5 H5.out.2.1 g1 cap1 H5.out.2.2).mono ?_
  rintro e w6 ⟨rfl, hk6⟩
  have HK6 := Lib.hid hk6
  clear hk6
  go_wp2_with (refine wpList_store_row rfl 25 _ _ rfl w6.heap.size rs rfl rfl 25 _ (heap_alloc_new w6 _) (by rw [HS6.out.1]; exact info16) (by rw [HS6.out.2.2, HS6.out.1]) HS6.out.2.1 ?_)
  obtain ⟨w7, hw7⟩ : ∃ w7, w7 = (w6.alloc (.cells Z16 25)).setRow w6.heap.size rs := ⟨_, rfl⟩
  obtain ⟨tb, htb⟩ : ∃ tb, tb = w6.heap.size := ⟨_, rfl⟩
  rw [← hw7, ← htb]
  have H7 := Lib.hid (show Blk w7 tb 25 rs ∧ Blk w7 rb 25 rs ∧ w.grownBy w7 none ∧ (∀ k, k < 5 → w7.rangeAt g1 (0 + k * 16) (wayV ps i k).toList) from by
    rw [hw7, htb]
    have g7 := grown_trans HK6.out (grown_row (World.grownBy_alloc w6 (.cells Z16 25) none) (.inl (Nat.le_refl _)) rs)
    exact ⟨(Blk.new w6 25 Z16).row rs, H5.out.1.grown g7 (by simp), grown_trans H5.out.2.1 g7, fun k hk => range_grown (H5.out.2.2 k hk) g7⟩)
  clear hw7 htb
  refine (S6.out w7 H7.out.2.2.1).mono ?_
  rintro e w8 ⟨g2, cap2, rfl, hr8, hk8⟩
  have H8 := Lib.hid (show Blk w8 tb 25 rs ∧ Blk w8 rb 25 rs ∧ w.grownBy w8 none ∧ (∀ k, k < 5 → w8.rangeAt g1 (0 + k * 16) (wayV ps i k).toList) ∧ (∀ k, k < 5 → w8.rangeAt g2 (0 + k * 16) (wayV ps i k).toList) from
    ⟨H7.out.1.grown hk8 (by simp), H7.out.2.1.grown hk8 (by simp), grown_trans H7.out.2.2.1 hk8, fun k hk => range_grown (H7.out.2.2.2 k hk) hk8, hr8⟩)
  clear hk8 hr8
  go_wp2_with fail
  refine (S7.out w8 g1 cap1 g2 cap2 H8.out.2.2.2.1 H8.out.2.2.2.2).mono ?_
  rintro e w9 ⟨rfl, hk9⟩
  have H9 := Lib.hid (show Blk w9 tb 25 rs ∧ Blk w9 rb 25 rs ∧ w.grownBy w9 none from ⟨H8.out.1.grown hk9 (by simp), H8.out.2.1.grown hk9 (by simp), grown_trans H8.out.2.2.1 hk9⟩)
  clear hk9
  go_wp2_with (first
    | (refine wpList_load_row_w (by rfl) 25 _ rfl tb rfl 25 rs (0, 0) _ H9.out.1 Tryd.underlying25 rfl (by rw [HS6.out.1]; exact info16) ?_)
    | (refine wpList_load_row_w (by rfl) 25 _ rfl rb rfl 25 rs (0, 0) _ H9.out.2.1 Tryd.underlying25 rfl (by rw [HS6.out.1]; exact info16) ?_))
  go_ret
  exact ⟨rfl, H9.out.2.2⟩
end Go.Proofs.YtobmpdpcjaaklaaDoor
