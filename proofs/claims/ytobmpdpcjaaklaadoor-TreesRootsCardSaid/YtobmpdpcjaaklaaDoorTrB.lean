/-
  The chapter's example of layer 4.
-/
import Derived.Test.YtobmpdpcjaaklaaDoorTrA
namespace Go.Proofs.YtobmpdpcjaaklaaDoor
open Go.RowKit

def digOne : List Int := 1 :: List.replicate 15 0
def digTwo : List Int := 2 :: List.replicate 15 0
theorem one_dig : isDig digOne := ⟨rfl, fun z hz => by simp [digOne] at hz; omega⟩
theorem two_dig : isDig digTwo := ⟨rfl, fun z hz => by simp [digTwo] at hz; omega⟩
theorem join_apart : decide (joinC digOne digTwo = joinC digTwo digOne) = false := by kernel_rfl
set_option maxRecDepth 100000 in
theorem build_one (w : World) (x : Int) (es : Array Value) (h : es = arrV .u8 (x :: List.replicate 15 0)) : Sem.run Tryd.prog (Instr.build 25 #[(0, .int .u8 x)]) w = .ok (.agg es) w := by
  subst h
  refine run_build w 25 _ _ ?_
  rfl
theorem wpList_build1 {P : Program} {ops : Array Oper} {rest : List Oper} {o : Oper} {a : Act} {w : World} {Q : Exit → Act → World → Prop} (hgd : o.guard = none) (t : TypeId) (i : Nat) (x : Operand) (ho : o.op = .build t #[(i, x)]) (u V : Value) (hx : a.eval x = u)
    (hr : Sem.run P (Instr.build t #[(i, u)]) w = .ok V w) (h : wpList P ops Q rest (a.put o.dst V) w) : wpList P ops Q (o :: rest) a w :=
  wpList_plain hgd fun K hK => by
    have hm : (#[(i, x)] : Array (Nat × Operand)).map (fun (i, x) => (i, a.eval x)) = #[(i, u)] := by simp [hx]
    unfold Oper.wp execOp
    simp only [ho, Sem.run_bind, hm, hr, Result.andThen_ok]
    exact hK _ _ h

set_option maxRecDepth 100000 in
set_option maxHeartbeats 4000000 in
theorem tree_alive (w : World) (hR : Rounds w) : Calls Tryd.prog 8 #[] w fun e w' => e = .returned (.bool true) ∧ w.grownBy w' none := by
  obtain ⟨Z16, hZ16⟩ : ∃ Z, Z = arrV .u8 (List.replicate 16 0) := ⟨_, rfl⟩
  have hz16 : ∀ w, Sem.run Tryd.prog (zeroValue 25) w = .ok (.agg Z16) w := fun w => by rw [hZ16]; exact z16run w
  obtain ⟨d1, hd1⟩ : ∃ d, d = arrV .u8 digOne := ⟨_, rfl⟩
  obtain ⟨d2, hd2⟩ : ∃ d, d = arrV .u8 digTwo := ⟨_, rfl⟩
  obtain ⟨X, hX⟩ : ∃ d, d = arrV .u8 (joinC digOne digTwo) := ⟨_, rfl⟩
  obtain ⟨Y, hY⟩ : ∃ d, d = arrV .u8 (joinC digTwo digOne) := ⟨_, rfl⟩
  have hq1 := eqDG (joinC digOne digTwo) (joinC_dig _ _).1 X hX
  have hq2 : ∀ V, Sem.run Tryd.prog (Op.equalIn 10000 25 (.agg X) (.agg Y)) V = .ok false V := fun V => by
    rw [hX, hY, eqD V _ _ (joinC_dig _ _).1 (joinC_dig _ _).1, join_apart]
  have HB1 := Lib.hid (fun V => build_one V 1 d1 hd1)
  have HB2 := Lib.hid (fun V => build_one V 2 d2 hd2)
  have HD := Lib.hid (show d1.size = 16 ∧ d2.size = 16 ∧ Z16.size = 16 ∧ (d1.all fun x => x.oneCell') = true ∧ (d2.all fun x => x.oneCell') = true from ⟨by rw [hd1, arr_size]; rfl, by rw [hd2, arr_size]; rfl, by rw [hZ16]; rfl, by rw [hd1]; exact arr_one _ _, by rw [hd2]; exact arr_one _ _⟩)
  have S1w := Lib.hid (fun (z : World) (hz : w.grownBy z none) => join_is z (hR.grown hz (by simp)) digOne digTwo one_dig two_dig d1 d2 X hd1 hd2 hX)
  have S2w := Lib.hid (fun (z : World) (hz : w.grownBy z none) => join_is z (hR.grown hz (by simp)) digTwo digOne two_dig one_dig d2 d1 Y hd2 hd1 hY)
  have S3w := Lib.hid (fun (z : World) => rjoin_is z digOne digTwo one_dig two_dig d1 d2 X hd1 hd2 hX)
  clear hZ16 hd1 hd2 hX hY hR
  go_enter Tryd.func8, Tryd.ntmps8
  have b0 := (Blk.new w 25 Z16).alloc (.cells Z16 25)
  have b1 := Blk.new (w.alloc (.cells Z16 25)) 25 Z16
  rw [World.size_alloc] at b1
  have HZ0 := Lib.hid b0
  have HZ1 := Lib.hid (b1.farRow (g' := w.heap.size) (by omega) d1)
  have HF := Lib.hid (show Blk ((((w.alloc (.cells Z16 25)).alloc (.cells Z16 25)).setRow w.heap.size d1).setRow (w.heap.size + 1) d2) w.heap.size 25 d1 ∧ Blk ((((w.alloc (.cells Z16 25)).alloc (.cells Z16 25)).setRow w.heap.size d1).setRow (w.heap.size + 1) d2) (w.heap.size + 1) 25 d2 ∧ w.grownBy ((((w.alloc (.cells Z16 25)).alloc (.cells Z16 25)).setRow w.heap.size d1).setRow (w.heap.size + 1) d2) none from
    ⟨(b0.row d1).farRow (by omega) d2, (b1.farRow (g' := w.heap.size) (by omega) d1).row d2, grown_row (grown_row (grown_trans (World.grownBy_alloc w _ none) (World.grownBy_alloc _ _ none)) (.inl (Nat.le_refl _)) d1) (.inl (by omega)) d2⟩)
  clear b0 b1
  go_wp2_with (first
    | (refine wpList_build1 rfl 25 0 _ rfl (.int .u8 1) _ rfl (HB1.out _) ?_)
    | (refine wpList_build1 rfl 25 0 _ rfl (.int .u8 2) _ rfl (HB2.out _) ?_)
    | (refine wpList_store_row rfl 25 _ _ rfl w.heap.size d1 rfl rfl 25 _ HZ0.out (by rw [HD.out.1]; exact info16) (by rw [HD.out.2.2.1, HD.out.1]) HD.out.2.2.2.1 ?_)
    | (refine wpList_store_row rfl 25 _ _ rfl (w.heap.size + 1) d2 rfl rfl 25 _ HZ1.out (by rw [HD.out.2.1]; exact info16) (by rw [HD.out.2.2.1, HD.out.2.1]) HD.out.2.2.2.2 ?_))
  generalize (((w.alloc (.cells Z16 25)).alloc (.cells Z16 25)).setRow w.heap.size d1).setRow (w.heap.size + 1) d2 = w6 at *
  refine wp_region_grown (by kernel_rfl) (by kernel_rfl) ?_
  have V1 := Lib.hid (show ∀ z : Gr w6, Sem.run Tryd.prog (Instr.loadAt 25 (.pointer (some ⟨w.heap.size, 0, none⟩))) z.1 = .ok (.agg d1) z.1 from fun z => row_load _ d1 HD.out.1 z.1 (HF.out.1.grown z.2 (by simp)))
  have V2 := Lib.hid (show ∀ z : Gr w6, Sem.run Tryd.prog (Instr.loadAt 25 (.pointer (some ⟨w.heap.size + 1, 0, none⟩))) z.1 = .ok (.agg d2) z.1 from fun z => row_load _ d2 HD.out.2.1 z.1 (HF.out.2.1.grown z.2 (by simp)))
  have S1 := Lib.hid (show ∀ z : Gr w6, _ from fun z => S1w.out z.1 (grown_trans HF.out.2.2 z.2))
  have S2 := Lib.hid (show ∀ z : Gr w6, _ from fun z => S2w.out z.1 (grown_trans HF.out.2.2 z.2))
  have S3 := Lib.hid (show ∀ z : Gr w6, _ from fun z => S3w.out z.1)
  repeat (first
    | (refine wpQuiet_load_row 25 _ ⟨w.heap.size, 0, none⟩ (.agg d1) (by rfl) rfl rfl (by rintro _ ⟨z, rfl⟩; exact V1.out z) ?_; simp only [Act.put, List.setIfInBounds_toArray, List.set_cons_zero, List.set_cons_succ])
    | (refine wpQuiet_load_row 25 _ ⟨w.heap.size + 1, 0, none⟩ (.agg d2) (by rfl) rfl rfl (by rintro _ ⟨z, rfl⟩; exact V2.out z) ?_; simp only [Act.put, List.setIfInBounds_toArray, List.set_cons_zero, List.set_cons_succ])
    | go_big_quiet_step (first
    | (go_at_call 17; with_reducible exact Calls.grown _ (S1.out _))
    | (go_at_call 17; with_reducible exact Calls.grown _ (S2.out _))
    | (go_at_call 18; with_reducible exact Calls.grown _ (S3.out _))))
  refine wpQuiet_nil ?_
  rintro w7 ⟨⟨_, k7⟩, rfl⟩
  go_wp2_with fail
  go_ret
  exact ⟨rfl, grown_trans HF.out.2.2 k7⟩
end Go.Proofs.YtobmpdpcjaaklaaDoor
