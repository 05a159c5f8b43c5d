/-
  quorateref05.Right.
-/
import Derived.Test.YtpldegdcachlmaaDoorKv
import Derived.Test.YtpldegdcachlmaaDoorChRec5
namespace Go.Proofs.YtpldegdcachlmaaDoor
open Go.RowKit

set_option maxRecDepth 100000 in
theorem right_neg (w : World) (rt dd : Array Value) (lf : Int) (A1 A2 : Option Addr) (n1 c1 n2 c2 : Nat) (hlf : lf < 0) :
    Calls Tryd.prog 19 #[.agg rt, .agg dd, .agg (sigV lf (.slice A1 n1 c1) (.slice A2 n2 c2))] w fun e w' => e = .returned (.bool false) ∧ w.grownBy w' none := by
  have h0 : decide (lf < 0) = true := by simp; omega
  have B3 := Lib.hid (show Blk (((w.alloc (.cells rt 23)).alloc (.cells dd 23)).alloc (.cells #[.int .i64 lf, .slice A1 n1 c1, .slice A2 n2 c2] 30)) w.heap.size 23 rt ∧ Blk (((w.alloc (.cells rt 23)).alloc (.cells dd 23)).alloc (.cells #[.int .i64 lf, .slice A1 n1 c1, .slice A2 n2 c2] 30)) (w.heap.size + 1) 23 dd ∧ Blk (((w.alloc (.cells rt 23)).alloc (.cells dd 23)).alloc (.cells #[.int .i64 lf, .slice A1 n1 c1, .slice A2 n2 c2] 30)) (w.heap.size + 1 + 1) 30 #[.int .i64 lf, .slice A1 n1 c1, .slice A2 n2 c2] ∧ w.grownBy (((w.alloc (.cells rt 23)).alloc (.cells dd 23)).alloc (.cells #[.int .i64 lf, .slice A1 n1 c1, .slice A2 n2 c2] 30)) none from by
    have b1 := (Blk.new (w.alloc (.cells rt 23)) 23 dd).alloc (.cells #[.int .i64 lf, .slice A1 n1 c1, .slice A2 n2 c2] 30)
    have b2 := Blk.new ((w.alloc (.cells rt 23)).alloc (.cells dd 23)) 30 #[.int .i64 lf, .slice A1 n1 c1, .slice A2 n2 c2]
    simp only [World.size_alloc] at b1 b2
    exact ⟨((Blk.new w 23 rt).alloc _).alloc _, b1, b2, grown_trans (grown_trans (World.grownBy_alloc w _ none) (World.grownBy_alloc _ _ none)) (World.grownBy_alloc _ _ none)⟩)
  simp only [sigV]
  clear hlf
  go_enter Tryd.func19, Tryd.ntmps19
  go_wp2_with fail
  go_ret
  exact ⟨rfl, B3.out.2.2.2⟩
set_option maxRecDepth 100000 in
theorem right_big (w : World) (rt dd : Array Value) (lf : Int) (A1 A2 : Option Addr) (n1 c1 n2 c2 : Nat) (hlf : 32 ≤ lf) :
    Calls Tryd.prog 19 #[.agg rt, .agg dd, .agg (sigV lf (.slice A1 n1 c1) (.slice A2 n2 c2))] w fun e w' => e = .returned (.bool false) ∧ w.grownBy w' none := by
  have h0 : decide (lf < 0) = false := by simp; omega
  have h0b : ¬ lf < 0 := by omega
  have h1 : 31 < lf := by omega
  have B3 := Lib.hid (show Blk (((w.alloc (.cells rt 23)).alloc (.cells dd 23)).alloc (.cells #[.int .i64 lf, .slice A1 n1 c1, .slice A2 n2 c2] 30)) w.heap.size 23 rt ∧ Blk (((w.alloc (.cells rt 23)).alloc (.cells dd 23)).alloc (.cells #[.int .i64 lf, .slice A1 n1 c1, .slice A2 n2 c2] 30)) (w.heap.size + 1) 23 dd ∧ Blk (((w.alloc (.cells rt 23)).alloc (.cells dd 23)).alloc (.cells #[.int .i64 lf, .slice A1 n1 c1, .slice A2 n2 c2] 30)) (w.heap.size + 1 + 1) 30 #[.int .i64 lf, .slice A1 n1 c1, .slice A2 n2 c2] ∧ w.grownBy (((w.alloc (.cells rt 23)).alloc (.cells dd 23)).alloc (.cells #[.int .i64 lf, .slice A1 n1 c1, .slice A2 n2 c2] 30)) none from by
    have b1 := (Blk.new (w.alloc (.cells rt 23)) 23 dd).alloc (.cells #[.int .i64 lf, .slice A1 n1 c1, .slice A2 n2 c2] 30)
    have b2 := Blk.new ((w.alloc (.cells rt 23)).alloc (.cells dd 23)) 30 #[.int .i64 lf, .slice A1 n1 c1, .slice A2 n2 c2]
    simp only [World.size_alloc] at b1 b2
    exact ⟨((Blk.new w 23 rt).alloc _).alloc _, b1, b2, grown_trans (grown_trans (World.grownBy_alloc w _ none) (World.grownBy_alloc _ _ none)) (World.grownBy_alloc _ _ none)⟩)
  simp only [sigV]
  clear hlf
  go_enter Tryd.func19, Tryd.ntmps19
  go_wp2_with fail
  go_ret
  exact ⟨rfl, B3.out.2.2.2⟩
set_option maxRecDepth 100000 in
theorem right_form1 (w : World) (rt dd : Array Value) (lf : Int) (A1 A2 : Option Addr) (n1 c1 n2 c2 : Nat) (hlf : 0 ≤ lf ∧ lf < 32) (hn : n1 ≠ 68) :
    Calls Tryd.prog 19 #[.agg rt, .agg dd, .agg (sigV lf (.slice A1 n1 c1) (.slice A2 n2 c2))] w fun e w' => e = .returned (.bool false) ∧ w.grownBy w' none := by
  have h0 : decide (lf < 0) = false := by simp; omega
  have h0b : ¬ lf < 0 := by omega
  have h1 : ¬ 31 < lf := by omega
  have h1b : decide (31 < lf) = false := by simp; omega
  have h2 : ¬ ((n1 : Int) = 68) := by omega
  have B3 := Lib.hid (show Blk (((w.alloc (.cells rt 23)).alloc (.cells dd 23)).alloc (.cells #[.int .i64 lf, .slice A1 n1 c1, .slice A2 n2 c2] 30)) w.heap.size 23 rt ∧ Blk (((w.alloc (.cells rt 23)).alloc (.cells dd 23)).alloc (.cells #[.int .i64 lf, .slice A1 n1 c1, .slice A2 n2 c2] 30)) (w.heap.size + 1) 23 dd ∧ Blk (((w.alloc (.cells rt 23)).alloc (.cells dd 23)).alloc (.cells #[.int .i64 lf, .slice A1 n1 c1, .slice A2 n2 c2] 30)) (w.heap.size + 1 + 1) 30 #[.int .i64 lf, .slice A1 n1 c1, .slice A2 n2 c2] ∧ w.grownBy (((w.alloc (.cells rt 23)).alloc (.cells dd 23)).alloc (.cells #[.int .i64 lf, .slice A1 n1 c1, .slice A2 n2 c2] 30)) none from by
    have b1 := (Blk.new (w.alloc (.cells rt 23)) 23 dd).alloc (.cells #[.int .i64 lf, .slice A1 n1 c1, .slice A2 n2 c2] 30)
    have b2 := Blk.new ((w.alloc (.cells rt 23)).alloc (.cells dd 23)) 30 #[.int .i64 lf, .slice A1 n1 c1, .slice A2 n2 c2]
    simp only [World.size_alloc] at b1 b2
    exact ⟨((Blk.new w 23 rt).alloc _).alloc _, b1, b2, grown_trans (grown_trans (World.grownBy_alloc w _ none) (World.grownBy_alloc _ _ none)) (World.grownBy_alloc _ _ none)⟩)
  simp only [sigV]
  clear hlf hn
  go_enter Tryd.func19, Tryd.ntmps19
  go_wp2_with fail
  go_ret
  exact ⟨rfl, B3.out.2.2.2⟩
set_option maxRecDepth 100000 in
theorem right_form2 (w : World) (rt dd : Array Value) (lf : Int) (A1 A2 : Option Addr) (n1 c1 n2 c2 : Nat) (hlf : 0 ≤ lf ∧ lf < 32) (hn1 : n1 = 68) (hn : n2 ≠ 5) :
    Calls Tryd.prog 19 #[.agg rt, .agg dd, .agg (sigV lf (.slice A1 n1 c1) (.slice A2 n2 c2))] w fun e w' => e = .returned (.bool false) ∧ w.grownBy w' none := by
  have h0 : decide (lf < 0) = false := by simp; omega
  have h0b : ¬ lf < 0 := by omega
  have h1 : ¬ 31 < lf := by omega
  have h1b : decide (31 < lf) = false := by simp; omega
  have h3 : ¬ ((n2 : Int) = 5) := by omega
  subst hn1
  have B3 := Lib.hid (show Blk (((w.alloc (.cells rt 23)).alloc (.cells dd 23)).alloc (.cells #[.int .i64 lf, .slice A1 68 c1, .slice A2 n2 c2] 30)) w.heap.size 23 rt ∧ Blk (((w.alloc (.cells rt 23)).alloc (.cells dd 23)).alloc (.cells #[.int .i64 lf, .slice A1 68 c1, .slice A2 n2 c2] 30)) (w.heap.size + 1) 23 dd ∧ Blk (((w.alloc (.cells rt 23)).alloc (.cells dd 23)).alloc (.cells #[.int .i64 lf, .slice A1 68 c1, .slice A2 n2 c2] 30)) (w.heap.size + 1 + 1) 30 #[.int .i64 lf, .slice A1 68 c1, .slice A2 n2 c2] ∧ w.grownBy (((w.alloc (.cells rt 23)).alloc (.cells dd 23)).alloc (.cells #[.int .i64 lf, .slice A1 68 c1, .slice A2 n2 c2] 30)) none from by
    have b1 := (Blk.new (w.alloc (.cells rt 23)) 23 dd).alloc (.cells #[.int .i64 lf, .slice A1 68 c1, .slice A2 n2 c2] 30)
    have b2 := Blk.new ((w.alloc (.cells rt 23)).alloc (.cells dd 23)) 30 #[.int .i64 lf, .slice A1 68 c1, .slice A2 n2 c2]
    simp only [World.size_alloc] at b1 b2
    exact ⟨((Blk.new w 23 rt).alloc _).alloc _, b1, b2, grown_trans (grown_trans (World.grownBy_alloc w _ none) (World.grownBy_alloc _ _ none)) (World.grownBy_alloc _ _ none)⟩)
  simp only [sigV]
  clear hlf hn
  go_enter Tryd.func19, Tryd.ntmps19
  go_wp2_with fail
  go_ret
  exact ⟨rfl, B3.out.2.2.2⟩
set_option maxRecDepth 100000 in
set_option maxHeartbeats 4000000 in
theorem right_ok (w : World) (rt dd : Array Value) (hrt : rt.size = 16) (hdd : dd.size = 16) (lf : Int) (hlf : 0 ≤ lf ∧ lf < 32) (A1 A2 : Option Addr) (c1 c2 : Nat) (xs ts : Array Value) (r : Bool) (hq : ∀ V, Sem.run Tryd.prog (Op.equalIn 10000 23 (.agg ts) (.agg rt)) V = .ok r V)
    (H1 : ∀ z, w.grownBy z none → Calls Tryd.prog 34 #[.int .i64 lf, .slice A1 68 c1, .agg dd] z fun e w' => e = .returned (.agg xs) ∧ z.grownBy w' none)
    (H2 : ∀ z, w.grownBy z none → Calls Tryd.prog 33 #[.agg xs, .int .i64 lf, .slice A2 5 c2] z fun e w' => e = .returned (.agg ts) ∧ z.grownBy w' none) :
    Calls Tryd.prog 19 #[.agg rt, .agg dd, .agg (sigV lf (.slice A1 68 c1) (.slice A2 5 c2))] w fun e w' => e = .returned (.bool r) ∧ w.grownBy w' none := by
  have h0 : decide (lf < 0) = false := by simp; omega
  have h0b : ¬ lf < 0 := by omega
  have h1 : ¬ 31 < lf := by omega
  have h1b : decide (31 < lf) = false := by simp; omega
  have B3 := Lib.hid (show Blk (((w.alloc (.cells rt 23)).alloc (.cells dd 23)).alloc (.cells #[.int .i64 lf, .slice A1 68 c1, .slice A2 5 c2] 30)) w.heap.size 23 rt ∧ Blk (((w.alloc (.cells rt 23)).alloc (.cells dd 23)).alloc (.cells #[.int .i64 lf, .slice A1 68 c1, .slice A2 5 c2] 30)) (w.heap.size + 1) 23 dd ∧ Blk (((w.alloc (.cells rt 23)).alloc (.cells dd 23)).alloc (.cells #[.int .i64 lf, .slice A1 68 c1, .slice A2 5 c2] 30)) (w.heap.size + 1 + 1) 30 #[.int .i64 lf, .slice A1 68 c1, .slice A2 5 c2] ∧ w.grownBy (((w.alloc (.cells rt 23)).alloc (.cells dd 23)).alloc (.cells #[.int .i64 lf, .slice A1 68 c1, .slice A2 5 c2] 30)) none from by
    have b1 := (Blk.new (w.alloc (.cells rt 23)) 23 dd).alloc (.cells #[.int .i64 lf, .slice A1 68 c1, .slice A2 5 c2] 30)
    have b2 := Blk.new ((w.alloc (.cells rt 23)).alloc (.cells dd 23)) 30 #[.int .i64 lf, .slice A1 68 c1, .slice A2 5 c2]
    simp only [World.size_alloc] at b1 b2
    exact ⟨((Blk.new w 23 rt).alloc _).alloc _, b1, b2, grown_trans (grown_trans (World.grownBy_alloc w _ none) (World.grownBy_alloc _ _ none)) (World.grownBy_alloc _ _ none)⟩)
  simp only [sigV]
  have HS := Lib.hid (And.intro hrt hdd)
  have K1 := Lib.hid H1
  have K2 := Lib.hid H2
  clear H1 H2 hrt hdd hlf
  go_enter Tryd.func19, Tryd.ntmps19
  go_wp2_with fail
  obtain ⟨w3, hw3⟩ : ∃ w3, w3 = ((w.alloc (.cells rt 23)).alloc (.cells dd 23)).alloc (.cells #[.int .i64 lf, .slice A1 68 c1, .slice A2 5 c2] 30) := ⟨_, rfl⟩
  rw [← hw3]
  have H3 := Lib.hid (show Blk w3 w.heap.size 23 rt ∧ Blk w3 (w.heap.size + 1) 23 dd ∧ Blk w3 (w.heap.size + 1 + 1) 30 #[.int .i64 lf, .slice A1 68 c1, .slice A2 5 c2] ∧ w.grownBy w3 none by rw [hw3]; exact B3.out)
  clear hw3
  have g0 := Gr.cell (H3.out.2.2.1.cell 0)
  have g1 := Gr.cell (H3.out.2.2.1.cell 1)
  have g2 := Gr.cell (H3.out.2.2.1.cell 2)
  have V1 := Lib.hid (show ∀ z : Gr w3, Sem.run Tryd.prog (Instr.loadAt 23 (.pointer (some ⟨w.heap.size, 0, none⟩))) z.1 = .ok (.agg rt) z.1 from fun z => row_load _ rt HS.out.1 z.1 (H3.out.1.grown z.2 (by simp)))
  have V2 := Lib.hid (show ∀ z : Gr w3, Sem.run Tryd.prog (Instr.loadAt 23 (.pointer (some ⟨w.heap.size + 1, 0, none⟩))) z.1 = .ok (.agg dd) z.1 from fun z => row_load _ dd HS.out.2 z.1 (H3.out.2.1.grown z.2 (by simp)))
  have S1 := Lib.hid (show ∀ z : Gr w3, _ from fun z => K1.out z.1 (grown_trans H3.out.2.2.2 z.2))
  have S2 := Lib.hid (show ∀ z : Gr w3, _ from fun z => K2.out z.1 (grown_trans H3.out.2.2.2 z.2))
  refine wp_region_grown (by kernel_rfl) (by kernel_rfl) ?_
  repeat (first
    | (refine wpQuiet_load_row 23 _ ⟨w.heap.size, 0, none⟩ (.agg rt) (by rfl) rfl rfl (by rintro _ ⟨z, rfl⟩; exact V1.out z) ?_; simp only [Act.put, List.setIfInBounds_toArray, List.set_cons_zero, List.set_cons_succ])
    | (refine wpQuiet_load_row 23 _ ⟨w.heap.size + 1, 0, none⟩ (.agg dd) (by rfl) rfl rfl (by rintro _ ⟨z, rfl⟩; exact V2.out z) ?_; simp only [Act.put, List.setIfInBounds_toArray, List.set_cons_zero, List.set_cons_succ])
    | go_big_quiet_step (first
    | (go_at_call 34; with_reducible exact Calls.grown _ (S1.out _))
    | (go_at_call 33; with_reducible exact Calls.grown _ (S2.out _))))
  refine wpQuiet_nil ?_
  rintro w7 ⟨⟨_, k7⟩, rfl⟩
  clear g0 g1 g2
  go_wp2_with fail
  go_ret
  exact ⟨rfl, grown_trans H3.out.2.2.2 k7⟩
end Go.Proofs.YtpldegdcachlmaaDoor
