/-
  Proofs: the chapter's example.
-/
import Derived.Test.YtlokjbjpmhfkhaaDoorPf2
import Derived.Test.YtlokjbjpmhfkhaaDoorPwLb
namespace Go.Proofs.YtlokjbjpmhfkhaaDoor
open Go.RowKit

theorem arr16p (sd : Array Value) (h : sd.size = 16) : ∃ a0 a1 a2 a3 a4 a5 a6 a7 a8 a9 a10 a11 a12 a13 a14 a15 : Value, sd = #[a0, a1, a2, a3, a4, a5, a6, a7, a8, a9, a10, a11, a12, a13, a14, a15] := by
  obtain ⟨l⟩ := sd
  have h : l.length = 16 := h
  match l, h with
  | [a0, a1, a2, a3, a4, a5, a6, a7, a8, a9, a10, a11, a12, a13, a14, a15], _ => exact ⟨a0, a1, a2, a3, a4, a5, a6, a7, a8, a9, a10, a11, a12, a13, a14, a15, rfl⟩
def z16v : Array Value := #[.int .u8 0, .int .u8 0, .int .u8 0, .int .u8 0, .int .u8 0, .int .u8 0, .int .u8 0, .int .u8 0, .int .u8 0, .int .u8 0, .int .u8 0, .int .u8 0, .int .u8 0, .int .u8 0, .int .u8 0, .int .u8 0]
def gZ : Array Value := grC 0 (.slice none 0 0) z16v
def qZ : Array Value := qcC 0 0 z16v (.slice none 0 0)
def sZ : Array Value := #[.int .i64 0, .int .i64 0, .slice none 0 0, .slice none 0 0]
theorem gz_run (w : World) : Sem.run Tryd.prog (zeroValue 34) w = .ok (.agg gZ) w := zero_run w (by kernel_rfl)
theorem qz_run (w : World) : Sem.run Tryd.prog (zeroValue 39) w = .ok (.agg qZ) w := zero_run w (by kernel_rfl)
set_option maxRecDepth 100000 in
theorem gr_build (w : World) (e : Int) (A : Option Addr) (n c : Nat) (D : Array Value) (h : D.size = 16) : Sem.run Tryd.prog (Instr.build 34 #[(0, .int .i64 e), (1, .slice A n c), (2, .agg D)]) w = .ok (.agg (grC e (.slice A n c) D)) w := by
  obtain ⟨a0, a1, a2, a3, a4, a5, a6, a7, a8, a9, a10, a11, a12, a13, a14, a15, rfl⟩ := arr16p D h
  refine run_build w 34 _ _ ?_
  kernel_rfl
set_option maxRecDepth 100000 in
theorem qc_build (w : World) (e : Int) (D : Array Value) (h : D.size = 16) : Sem.run Tryd.prog (Instr.build 39 #[(0, .int .i64 e), (2, .agg D)]) w = .ok (.agg (qcC e 0 D (.slice none 0 0))) w := by
  obtain ⟨a0, a1, a2, a3, a4, a5, a6, a7, a8, a9, a10, a11, a12, a13, a14, a15, rfl⟩ := arr16p D h
  refine run_build w 39 _ _ ?_
  kernel_rfl
theorem qc_set (e r : Int) (D : Array Value) (h : D.size = 16) (u v : Value) : (qcC e r D u).setIfInBounds 18 v = qcC e r D v := by
  obtain ⟨a0, a1, a2, a3, a4, a5, a6, a7, a8, a9, a10, a11, a12, a13, a14, a15, rfl⟩ := arr16p D h
  kernel_rfl
theorem sg_row (w : World) : Sem.run Tryd.prog (Instr.buildSlice 37 1 #[(0, .agg sZ)]) w = .ok (.slice (some ⟨w.heap.size, 0, none⟩) 1 1) (w.alloc (.cells sZ 53)) := by kernel_rfl
theorem sg_build (w : World) : Sem.run Tryd.prog (Instr.build 53 #[]) w = .ok (.agg sZ) w := by kernel_rfl
theorem vd_row1 (w : World) : Sem.run Tryd.prog (Instr.buildSlice 22 1 #[(0, .agg (Vd.cells ⟨key4 1, 1⟩).toArray)]) w = .ok (.slice (some ⟨w.heap.size, 0, none⟩) 1 1) (w.alloc (.cells (([⟨key4 1, 1⟩] : List Vd).flatMap Vd.cells).toArray 62)) := by kernel_rfl
def v1 : List Vd := [⟨key4 1, 1⟩]
theorem v1_ok : keysOk v1 := by intro x hx; simp [v1] at hx; rcases hx with rfl; rfl
theorem v1_first : firstN v1 1 1 (key4 9) (key4 9) 0 = 0 := by
  have : rightS v1 = true := by kernel_rfl
  simp [firstN, beginN, this]
theorem v1_first1 : firstN v1 1 1 (key4 9) (key4 9) 1 = 12 := by
  have : rightS v1 = true := by kernel_rfl
  simp [firstN, beginN, this]
theorem arr_one_p (q : IntKind) (l : List Int) : ((arrV q l).all fun x => x.oneCell') = true := by simp [arrV, Value.oneCell']
theorem grown_set_p {w : World} (g i : Nat) (u : Value) : w.grownBy (w.setCell ⟨g, i, none⟩ u) (some g) :=
  ⟨rfl, rfl, rfl, by simp [World.setCell], fun k _ hne => Below.heap_setCell w ⟨g, i, none⟩ u k (fun e => hne (by rw [e]))⟩
theorem gr_one {e : Int} {A : Option Addr} {n c : Nat} {D : Array Value} (h : (D.all fun v => v.oneCell') = true) : ((grC e (.slice A n c) D).all fun v => v.oneCell') = true := by
  rw [Array.all_eq_true_iff_forall_mem] at h ⊢
  intro x hx
  simp only [grC, Array.mem_append, List.mem_toArray, List.mem_cons, List.not_mem_nil, or_false] at hx
  rcases hx with (rfl | rfl) | hx
  · rfl
  · rfl
  · exact h x hx
theorem qc_one {e r : Int} {A : Option Addr} {n c : Nat} {D : Array Value} (h : (D.all fun v => v.oneCell') = true) : ((qcC e r D (.slice A n c)).all fun v => v.oneCell') = true := by
  rw [Array.all_eq_true_iff_forall_mem] at h ⊢
  intro x hx
  simp only [qcC, Array.mem_append, List.mem_toArray, List.mem_cons, List.not_mem_nil, or_false] at hx
  rcases hx with (rfl | rfl) | hx | rfl
  · rfl
  · rfl
  · exact h x hx
  · rfl
set_option maxRecDepth 100000 in
set_option maxHeartbeats 2000000 in
theorem alive_is (w : World) (B : Nat) (E : Nat → Addr) (he : ErrEnv w B E) :
    Calls Tryd.prog 6 #[] w fun e w' => e = .returned (.bool true) ∧ w.grownBy w' none := by
  have hgz := gz_run
  have hqz := qz_run
  obtain ⟨GZ, hGZ⟩ : ∃ Z, gZ = Z := ⟨_, rfl⟩
  obtain ⟨QZ, hQZ⟩ : ∃ Z, qZ = Z := ⟨_, rfl⟩
  obtain ⟨SZ, hSZ⟩ : ∃ Z, sZ = Z := ⟨_, rfl⟩
  rw [hGZ] at hgz
  rw [hQZ] at hqz
  have hGs : GZ.size = 18 := by rw [← hGZ]; rfl
  have hQs : QZ.size = 19 := by rw [← hQZ]; rfl
  obtain ⟨X1, hX1⟩ : ∃ X, X = arrV .u8 (key4 1) := ⟨_, rfl⟩
  obtain ⟨X9, hX9⟩ : ∃ X, X = arrV .u8 (key4 9) := ⟨_, rfl⟩
  obtain ⟨Y1, hY1⟩ : ∃ Y, Y = (Vd.cells ⟨key4 1, 1⟩).toArray := ⟨_, rfl⟩
  have h16 : X9.size = 16 := by rw [hX9]; rfl
  have hone : (X9.all fun v => v.oneCell') = true := by rw [hX9]; exact arr_one_p _ _
  obtain ⟨p, hp⟩ : ∃ p, w.heap.size = p := ⟨_, rfl⟩
  obtain ⟨W1, hW1⟩ : ∃ W1, w.alloc (.cells (v1.flatMap Vd.cells).toArray 62) = W1 := ⟨_, rfl⟩
  obtain ⟨g, hg⟩ : ∃ g, W1.heap.size = g := ⟨_, rfl⟩
  obtain ⟨gv, hgv⟩ : ∃ gv, gv = grC 1 (.slice (some ⟨p, 0, none⟩) 1 1) X9 := ⟨_, rfl⟩
  obtain ⟨W2, hW2⟩ : ∃ W2, (W1.alloc (.cells GZ 34)).setRow g gv = W2 := ⟨_, rfl⟩
  obtain ⟨qq, hqq⟩ : ∃ qq, W2.heap.size = qq := ⟨_, rfl⟩
  obtain ⟨qv, hqv⟩ : ∃ qv, qv = qcC 1 0 X9 (.slice none 0 0) := ⟨_, rfl⟩
  obtain ⟨W3, hW3⟩ : ∃ W3, (W2.alloc (.cells QZ 39)).setRow qq qv = W3 := ⟨_, rfl⟩
  have HB1 := Lib.hid (show ∀ w, Sem.run Tryd.prog (Instr.build 32 #[(0, .int .u8 1)]) w = .ok (.agg X1) w from fun w => by rw [hX1]; exact key_run w 1)
  have HB9 := Lib.hid (show ∀ w, Sem.run Tryd.prog (Instr.build 32 #[(0, .int .u8 9)]) w = .ok (.agg X9) w from fun w => by rw [hX9]; exact key_run w 9)
  have HBV := Lib.hid (show ∀ w, Sem.run Tryd.prog (Instr.build 62 #[(0, .agg X1), (1, .int .i64 1)]) w = .ok (.agg Y1) w from fun w => by rw [hX1, hY1]; exact vd_run w 1 1)
  have HBR := Lib.hid (show Sem.run Tryd.prog (Instr.buildSlice 22 1 #[(0, .agg Y1)]) w = .ok (.slice (some ⟨p, 0, none⟩) 1 1) W1 by rw [hY1, ← hW1, ← hp]; exact vd_row1 w)
  have HBG := Lib.hid (show ∀ w, Sem.run Tryd.prog (Instr.build 34 #[(0, .int .i64 1), (1, .slice (some ⟨p, 0, none⟩) 1 1), (2, .agg X9)]) w = .ok (.agg gv) w from fun w => by rw [hgv]; exact gr_build w 1 _ 1 1 X9 h16)
  have HBQ := Lib.hid (show ∀ w, Sem.run Tryd.prog (Instr.build 39 #[(0, .int .i64 1), (2, .agg X9)]) w = .ok (.agg qv) w from fun w => by rw [hqv]; exact qc_build w 1 X9 h16)
  have HSZ := Lib.hid (show (∀ w, Sem.run Tryd.prog (Instr.build 53 #[]) w = .ok (.agg SZ) w) ∧ ∀ w, Sem.run Tryd.prog (Instr.buildSlice 37 1 #[(0, .agg SZ)]) w = .ok (.slice (some ⟨w.heap.size, 0, none⟩) 1 1) (w.alloc (.cells SZ 53)) from ⟨fun w => by rw [← hSZ]; exact sg_build w, fun w => by rw [← hSZ]; exact sg_row w⟩)
  have gW1 : w.grownBy W1 none := by rw [← hW1]; exact World.grownBy_alloc _ _ none
  have gW2 : W1.grownBy W2 none := by rw [← hW2]; exact grown_row (World.grownBy_alloc _ _ none) (.inl (by rw [hg]; exact Nat.le_refl _)) _
  have gW3 : W2.grownBy W3 none := by rw [← hW3]; exact grown_row (World.grownBy_alloc _ _ none) (.inl (by rw [hqq]; exact Nat.le_refl _)) _
  have g13 := grown_trans gW1 (grown_trans gW2 gW3)
  have hV1 : VdsAt W1 (some ⟨p, 0, none⟩) v1 := by rw [← hW1, ← hp]; exact vds_new w v1 v1_ok _
  have hV3 : ∀ Y : World, W1.grownBy Y none → VdsAt Y (some ⟨p, 0, none⟩) v1 := fun Y hY hne => by
    obtain ⟨b, off, eA, hc⟩ := hV1 hne
    exact ⟨b, off, eA, fun k hk => range_kept (hc k hk) hY⟩
  have bg : Blk W2 g 34 gv := by rw [← hW2, ← hg]; exact (Blk.new W1 34 GZ).row _
  have bq : Blk W3 qq 39 qv := by rw [← hW3, ← hqq]; exact (Blk.new W2 39 QZ).row _
  have HC0 := Lib.hid (qc0_is W3 (he.grown g13 (fun _ e => by cases e)) (hV3 _ (grown_trans gW2 gW3)) v1_ok (by simp [v1]) hX9 rfl gv hgv 1 (key4 9) rfl X9 hX9 none 0 0 qv hqv)
  have HC1 := Lib.hid (fun (Y : World) (hY : W1.grownBy Y none) (p2 : Addr) (q2 : Array Value) (h2 : q2 = qcC 1 0 X9 (.slice (some p2) 1 1)) => qc0_is Y (he.grown (grown_trans gW1 hY) (fun _ e => by cases e)) (hV3 _ hY) v1_ok (by simp [v1]) hX9 rfl gv hgv 1 (key4 9) rfl X9 hX9 (some p2) 1 1 q2 h2)
  have HX := Lib.hid (And.intro (show gv.size = 18 by rw [hgv]; exact grC_size h16) (And.intro (show qv.size = 19 by rw [hqv]; exact qcC_size h16) (And.intro (show (gv.all fun v => v.oneCell') = true by rw [hgv]; exact gr_one hone) (And.intro (show (qv.all fun v => v.oneCell') = true by rw [hqv]; exact qc_one hone) (And.intro hGs (And.intro hQs (And.intro hg (And.intro hW2 (And.intro hqq hW3)))))))))
  have HU := Lib.hid (And.intro gW1 (And.intro (grown_trans gW2 gW3) (show W1.heap.size ≤ qq by rw [← hqq]; exact gW2.size)))
  have HM := Lib.hid (And.intro (bg.grown gW3 (by simp)) (And.intro bq (And.intro g13 (And.intro hqv (And.intro h16 (And.intro he (show g ≠ qq by have := bg.lt; omega)))))))
  clear hGZ hQZ hSZ hGs hQs hX1 hX9 hY1 h16 hone hp hW1 hg hgv hW2 hqq hqv hW3 gW1 gW2 gW3 g13 hV1 hV3 bg bq he
  go_enter Tryd.func6, Tryd.ntmps6
  go_upto_region 2 with (first
    | (refine wpList_build_at (by rfl) 32 #[(0, Operand.const (Value.int .u8 1))] rfl _ (by kernel_rfl) (.agg X1) (HB1.out _) ?_)
    | (refine wpList_build_at (by rfl) 32 #[(0, Operand.const (Value.int .u8 9))] rfl _ (by kernel_rfl) (.agg X9) (HB9.out _) ?_)
    | (refine wpList_build_at (by rfl) 62 #[(0, Operand.tmp 3), (1, Operand.const (Value.int .i64 1))] rfl _ (by kernel_rfl) (.agg Y1) (HBV.out _) ?_)
    | (refine wpList_row_at (by rfl) 22 1 #[(0, Operand.tmp 4)] rfl _ (by kernel_rfl) _ _ HBR.out ?_)
    | (refine wpList_build_at (by rfl) 34 #[(0, Operand.const (Value.int .i64 1)), (1, Operand.tmp 5), (2, Operand.tmp 6)] rfl _ (by kernel_rfl) (.agg gv) (HBG.out _) ?_)
    | (refine wpList_store_row rfl 34 _ _ rfl W1.heap.size gv rfl rfl 34 _ (heap_alloc_new W1 _) (by rw [HX.out.1]; exact info18) (by rw [HX.out.1, HX.out.2.2.2.2.1]) HX.out.2.2.1 ?_))
  rw [HX.out.2.2.2.2.2.2.1, HX.out.2.2.2.2.2.2.2.1]
  go_upto_region 3 with (first
    | (refine wpList_build_at (by rfl) 32 #[(0, Operand.const (Value.int .u8 9))] rfl _ (by kernel_rfl) (.agg X9) (HB9.out _) ?_)
    | (refine wpList_build_at (by rfl) 39 #[(0, Operand.const (Value.int .i64 1)), (2, Operand.tmp 8)] rfl _ (by kernel_rfl) (.agg qv) (HBQ.out _) ?_)
    | (refine wpList_store_row rfl 39 _ _ rfl W2.heap.size qv rfl rfl 39 _ (heap_alloc_new W2 _) (by rw [HX.out.2.1]; exact info19) (by rw [HX.out.2.1, HX.out.2.2.2.2.2.1]) HX.out.2.2.2.1 ?_))
  rw [HX.out.2.2.2.2.2.2.2.2.1, HX.out.2.2.2.2.2.2.2.2.2]
  clear hgz hqz
  go_wp2_with (first
    | (refine wpList_load_row rfl 34 _ rfl g rfl 34 gv (0, 0) _ HM.out.1 Tryd.underlying34 rfl (by rw [HX.out.1]; exact info18) ?_)
    | (refine wpList_load_row rfl 39 _ rfl qq rfl 39 qv (0, 0) _ HM.out.2.1 Tryd.underlying39 rfl (by rw [HX.out.2.1]; exact info19) ?_))
  refine HC0.out.mono ?_
  clear HC0
  rintro e w4 ⟨rfl, g4⟩
  have hE : evOf E (firstN v1 1 1 (key4 9) (key4 9) 0) = .nilIface := by rw [v1_first]; rfl
  rw [hE]
  have b4 := HM.out.2.1.grown g4 (by simp)
  have H4 := Lib.hid (And.intro g4 (And.intro (HM.out.1.grown g4 (by simp)) b4))
  have hs4 := b4.lt
  obtain ⟨ps, hps⟩ : ∃ ps, w4.heap.size = ps := ⟨_, rfl⟩
  obtain ⟨W5, hW5⟩ : ∃ W5, w4.alloc (.cells SZ 53) = W5 := ⟨_, rfl⟩
  have g5 : w4.grownBy W5 none := by rw [← hW5]; exact World.grownBy_alloc _ _ none
  have b5 := b4.grown g5 (by simp)
  have HS5 := Lib.hid (show Sem.run Tryd.prog (Instr.buildSlice 37 1 #[(0, .agg SZ)]) w4 = .ok (.slice (some ⟨ps, 0, none⟩) 1 1) W5 by rw [← hps, ← hW5]; exact HSZ.out.2 w4)
  have x18 : W5.cell? ⟨qq, 18, none⟩ = some (.slice none 0 0) := (qc_cells HM.out.2.2.2.2.1 (HM.out.2.2.2.1 ▸ b5)).2.2.2
  have f18 := b5.frozen 18
  obtain ⟨W6, hW6⟩ : ∃ W6, W5.setCell ⟨qq, 18, none⟩ (.slice (some ⟨ps, 0, none⟩) 1 1) = W6 := ⟨_, rfl⟩
  have g6 : W5.grownBy W6 (some qq) := by rw [← hW6]; exact grown_set_p qq 18 _
  obtain ⟨q2, hq2⟩ : ∃ q2, q2 = qcC 1 0 X9 (.slice (some ⟨ps, 0, none⟩) 1 1) := ⟨_, rfl⟩
  have b6 : Blk W6 qq 39 q2 := by
    have h := b5.set 18 (.slice (some ⟨ps, 0, none⟩) 1 1)
    rw [hW6, HM.out.2.2.2.1, qc_set _ _ _ HM.out.2.2.2.2.1, ← hq2] at h
    exact h
  have g16 : W1.grownBy W6 none := grown_fresh (grown_trans HU.out.2.1 (grown_trans g4 g5)) g6 HU.out.2.2
  have bg6 : Blk W6 g 34 gv := (H4.out.2.1.grown g5 (by simp)).grown g6 (fun e => HM.out.2.2.2.2.2.2 (Option.some.inj e))
  have HC := Lib.hid (HC1.out W6 g16 ⟨ps, 0, none⟩ q2 hq2)
  have H6 := Lib.hid (And.intro bg6 (And.intro b6 (And.intro g16 (show q2.size = 19 by rw [hq2]; exact qcC_size HM.out.2.2.2.2.1))))
  have HW6 := Lib.hid (And.intro hps (And.intro hW5 hW6))
  clear hps hW5 hW6 g4 g5 g6 b4 b5 b6 hq2 g16 bg6 hs4 hE
  go_upto_region 6 with (first
    | (refine wpList_build_at (by rfl) 53 #[] rfl _ (by kernel_rfl) (.agg SZ) (HSZ.out.1 _) ?_)
    | (refine wpList_row_at (by rfl) 37 1 #[(0, Operand.tmp 14)] rfl _ (by kernel_rfl) _ _ HS5.out ?_))
  rw [HW6.out.2.2]
  clear x18 f18
  go_wp2_with (first
    | (refine wpList_load_row rfl 34 _ rfl g rfl 34 gv (0, 0) _ H6.out.1 Tryd.underlying34 rfl (by rw [HX.out.1]; exact info18) ?_)
    | (refine wpList_load_row rfl 39 _ rfl qq rfl 39 q2 (0, 0) _ H6.out.2.1 Tryd.underlying39 rfl (by rw [H6.out.2.2.2]; exact info19) ?_))
  refine HC.out.mono ?_
  clear HC
  rintro e w7 ⟨rfl, g7⟩
  have hE : evOf E (firstN v1 1 1 (key4 9) (key4 9) 1) = errV (E 11) := by rw [v1_first1]; rfl
  rw [hE]
  have H7 := Lib.hid (grown_trans HU.out.1 (grown_trans H6.out.2.2.1 g7))
  clear g7 hE
  go_wp2_with fail
  refine (num_err w7 B E 11 (by omega) (HM.out.2.2.2.2.2.1.grown H7.out (fun _ e => by cases e))).mono ?_
  rintro e w8 ⟨rfl, g8⟩
  have H8 := Lib.hid (grown_trans H7.out g8)
  clear g8
  go_wp2_with fail
  go_ret
  exact ⟨rfl, H8.out⟩
end Go.Proofs.YtlokjbjpmhfkhaaDoor
