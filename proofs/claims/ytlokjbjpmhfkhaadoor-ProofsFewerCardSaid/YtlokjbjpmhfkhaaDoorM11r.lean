/-
  Several texts in one: Pf3, Pf4, DiB.
-/
import Derived.Test.YtlokjbjpmhfkhaaDoorM11n
import Derived.Test.YtlokjbjpmhfkhaaDoorM11q
import Derived.Great.BuildSlice
import Derived.OwnWalk
import Derived.Maps.AppendAt
import Derived.Test.YtlokjbjpmhfkhaaDoorM11k
/-
  Proofs: the chapter's example.
-/
namespace Go.Proofs.YtlokjbjpmhfkhaaDoor
open Go.RowKit

theorem arr16p (sd : Array Value) (h : sd.size = 16) : ∃ a0 a1 a2 a3 a4 a5 a6 a7 a8 a9 a10 a11 a12 a13 a14 a15 : Value, sd = #[a0, a1, a2, a3, a4, a5, a6, a7, a8, a9, a10, a11, a12, a13, a14, a15] := by
  obtain ⟨l⟩ := sd
  have h : l.length = 16 := h
  match l, h with
  | [a0, a1, a2, a3, a4, a5, a6, a7, a8, a9, a10, a11, a12, a13, a14, a15], _ => exact ⟨a0, a1, a2, a3, a4, a5, a6, a7, a8, a9, a10, a11, a12, a13, a14, a15, rfl⟩
def z16v : Array Value := #[.int .u8 0, .int .u8 0, .int .u8 0, .int .u8 0, .int .u8 0, .int .u8 0, .int .u8 0, .int .u8 0, .int .u8 0, .int .u8 0, .int .u8 0, .int .u8 0, .int .u8 0, .int .u8 0, .int .u8 0, .int .u8 0]
def gZ : Array Value := grC 0 (.slice none 0 0) z16v
def qZ : Array Value := qcC 0 0 z16v (.slice none 0 0)
def sZ : Array Value := #[.int .i64 0, .int .i64 0, .slice none 0 0, .slice none 0 0]
theorem gz_run (w : World) : Sem.run Tryd.prog (zeroValue 34) w = .ok (.agg gZ) w := zero_run w (by kernel_rfl)
theorem qz_run (w : World) : Sem.run Tryd.prog (zeroValue 39) w = .ok (.agg qZ) w := zero_run w (by kernel_rfl)
set_option maxRecDepth 100000 in
theorem gr_build (w : World) (e : Int) (A : Option Addr) (n c : Nat) (D : Array Value) (h : D.size = 16) : Sem.run Tryd.prog (Instr.build 34 #[(0, .int .i64 e), (1, .slice A n c), (2, .agg D)]) w = .ok (.agg (grC e (.slice A n c) D)) w := by
  obtain ⟨a0, a1, a2, a3, a4, a5, a6, a7, a8, a9, a10, a11, a12, a13, a14, a15, rfl⟩ := arr16p D h
  refine run_build w 34 _ _ ?_
  kernel_rfl
set_option maxRecDepth 100000 in
theorem qc_build (w : World) (e : Int) (D : Array Value) (h : D.size = 16) : Sem.run Tryd.prog (Instr.build 39 #[(0, .int .i64 e), (2, .agg D)]) w = .ok (.agg (qcC e 0 D (.slice none 0 0))) w := by
  obtain ⟨a0, a1, a2, a3, a4, a5, a6, a7, a8, a9, a10, a11, a12, a13, a14, a15, rfl⟩ := arr16p D h
  refine run_build w 39 _ _ ?_
  kernel_rfl
theorem qc_set (e r : Int) (D : Array Value) (h : D.size = 16) (u v : Value) : (qcC e r D u).setIfInBounds 18 v = qcC e r D v := by
  obtain ⟨a0, a1, a2, a3, a4, a5, a6, a7, a8, a9, a10, a11, a12, a13, a14, a15, rfl⟩ := arr16p D h
  kernel_rfl
theorem sg_row (w : World) : Sem.run Tryd.prog (Instr.buildSlice 37 1 #[(0, .agg sZ)]) w = .ok (.slice (some ⟨w.heap.size, 0, none⟩) 1 1) (w.alloc (.cells sZ 53)) := by kernel_rfl
theorem sg_build (w : World) : Sem.run Tryd.prog (Instr.build 53 #[]) w = .ok (.agg sZ) w := by kernel_rfl
theorem vd_row1 (w : World) : Sem.run Tryd.prog (Instr.buildSlice 22 1 #[(0, .agg (Vd.cells ⟨key4 1, 1⟩).toArray)]) w = .ok (.slice (some ⟨w.heap.size, 0, none⟩) 1 1) (w.alloc (.cells (([⟨key4 1, 1⟩] : List Vd).flatMap Vd.cells).toArray 62)) := by kernel_rfl
def v1 : List Vd := [⟨key4 1, 1⟩]
theorem v1_ok : keysOk v1 := by intro x hx; simp [v1] at hx; rcases hx with rfl; rfl
theorem v1_first : firstN v1 1 1 (key4 9) (key4 9) 0 = 0 := by
  have : rightS v1 = true := by kernel_rfl
  simp [firstN, beginN, this]
theorem v1_first1 : firstN v1 1 1 (key4 9) (key4 9) 1 = 12 := by
  have : rightS v1 = true := by kernel_rfl
  simp [firstN, beginN, this]
theorem arr_one_p (q : IntKind) (l : List Int) : ((arrV q l).all fun x => x.oneCell') = true := by simp [arrV, Value.oneCell']
theorem grown_set_p {w : World} (g i : Nat) (u : Value) : w.grownBy (w.setCell ⟨g, i, none⟩ u) (some g) :=
  ⟨rfl, rfl, rfl, by simp [World.setCell], fun k _ hne => Below.heap_setCell w ⟨g, i, none⟩ u k (fun e => hne (by rw [e]))⟩
theorem gr_one {e : Int} {A : Option Addr} {n c : Nat} {D : Array Value} (h : (D.all fun v => v.oneCell') = true) : ((grC e (.slice A n c) D).all fun v => v.oneCell') = true := by
  rw [Array.all_eq_true_iff_forall_mem] at h ⊢
  intro x hx
  simp only [grC, Array.mem_append, List.mem_toArray, List.mem_cons, List.not_mem_nil, or_false] at hx
  rcases hx with (rfl | rfl) | hx
  · rfl
  · rfl
  · exact h x hx
theorem qc_one {e r : Int} {A : Option Addr} {n c : Nat} {D : Array Value} (h : (D.all fun v => v.oneCell') = true) : ((qcC e r D (.slice A n c)).all fun v => v.oneCell') = true := by
  rw [Array.all_eq_true_iff_forall_mem] at h ⊢
  intro x hx
  simp only [qcC, Array.mem_append, List.mem_toArray, List.mem_cons, List.not_mem_nil, or_false] at hx
  rcases hx with (rfl | rfl) | hx | rfl
  · rfl
  · rfl
  · exact h x hx
  · rfl
set_option maxRecDepth 100000 in
set_option maxHeartbeats 2000000 in
theorem alive_is (w : World) (B : Nat) (E : Nat → Addr) (he : ErrEnv w B E) :
    Calls Tryd.prog 6 #[] w fun e w' => e = .returned (.bool true) ∧ w.grownBy w' none := by
  have hgz := gz_run
  have hqz := qz_run
  obtain ⟨GZ, hGZ⟩ : ∃ Z, gZ = Z := ⟨_, rfl⟩
  obtain ⟨QZ, hQZ⟩ : ∃ Z, qZ = Z := ⟨_, rfl⟩
  obtain ⟨SZ, hSZ⟩ : ∃ Z, sZ = Z := ⟨_, rfl⟩
  rw [hGZ] at hgz
  rw [hQZ] at hqz
  have hGs : GZ.size = 18 := by rw [← hGZ]; rfl
  have hQs : QZ.size = 19 := by rw [← hQZ]; rfl
  obtain ⟨X1, hX1⟩ : ∃ X, X = arrV .u8 (key4 1) := ⟨_, rfl⟩
  obtain ⟨X9, hX9⟩ : ∃ X, X = arrV .u8 (key4 9) := ⟨_, rfl⟩
  obtain ⟨Y1, hY1⟩ : ∃ Y, Y = (Vd.cells ⟨key4 1, 1⟩).toArray := ⟨_, rfl⟩
  have h16 : X9.size = 16 := by rw [hX9]; rfl
  have hone : (X9.all fun v => v.oneCell') = true := by rw [hX9]; exact arr_one_p _ _
  obtain ⟨p, hp⟩ : ∃ p, w.heap.size = p := ⟨_, rfl⟩
  obtain ⟨W1, hW1⟩ : ∃ W1, w.alloc (.cells (v1.flatMap Vd.cells).toArray 62) = W1 := ⟨_, rfl⟩
  obtain ⟨g, hg⟩ : ∃ g, W1.heap.size = g := ⟨_, rfl⟩
  obtain ⟨gv, hgv⟩ : ∃ gv, gv = grC 1 (.slice (some ⟨p, 0, none⟩) 1 1) X9 := ⟨_, rfl⟩
  obtain ⟨W2, hW2⟩ : ∃ W2, (W1.alloc (.cells GZ 34)).setRow g gv = W2 := ⟨_, rfl⟩
  obtain ⟨qq, hqq⟩ : ∃ qq, W2.heap.size = qq := ⟨_, rfl⟩
  obtain ⟨qv, hqv⟩ : ∃ qv, qv = qcC 1 0 X9 (.slice none 0 0) := ⟨_, rfl⟩
  obtain ⟨W3, hW3⟩ : ∃ W3, (W2.alloc (.cells QZ 39)).setRow qq qv = W3 := ⟨_, rfl⟩
  have HB1 := Lib.hid (show ∀ w, Sem.run Tryd.prog (Instr.build 32 #[(0, .int .u8 1)]) w = .ok (.agg X1) w from fun w => by rw [hX1]; exact key_run w 1)
  have HB9 := Lib.hid (show ∀ w, Sem.run Tryd.prog (Instr.build 32 #[(0, .int .u8 9)]) w = .ok (.agg X9) w from fun w => by rw [hX9]; exact key_run w 9)
  have HBV := Lib.hid (show ∀ w, Sem.run Tryd.prog (Instr.build 62 #[(0, .agg X1), (1, .int .i64 1)]) w = .ok (.agg Y1) w from fun w => by rw [hX1, hY1]; exact vd_run w 1 1)
  have HBR := Lib.hid (show Sem.run Tryd.prog (Instr.buildSlice 22 1 #[(0, .agg Y1)]) w = .ok (.slice (some ⟨p, 0, none⟩) 1 1) W1 by rw [hY1, ← hW1, ← hp]; exact vd_row1 w)
  have HBG := Lib.hid (show ∀ w, Sem.run Tryd.prog (Instr.build 34 #[(0, .int .i64 1), (1, .slice (some ⟨p, 0, none⟩) 1 1), (2, .agg X9)]) w = .ok (.agg gv) w from fun w => by rw [hgv]; exact gr_build w 1 _ 1 1 X9 h16)
  have HBQ := Lib.hid (show ∀ w, Sem.run Tryd.prog (Instr.build 39 #[(0, .int .i64 1), (2, .agg X9)]) w = .ok (.agg qv) w from fun w => by rw [hqv]; exact qc_build w 1 X9 h16)
  have HSZ := Lib.hid (show (∀ w, Sem.run Tryd.prog (Instr.build 53 #[]) w = .ok (.agg SZ) w) ∧ ∀ w, Sem.run Tryd.prog (Instr.buildSlice 37 1 #[(0, .agg SZ)]) w = .ok (.slice (some ⟨w.heap.size, 0, none⟩) 1 1) (w.alloc (.cells SZ 53)) from ⟨fun w => by rw [← hSZ]; exact sg_build w, fun w => by rw [← hSZ]; exact sg_row w⟩)
  have gW1 : w.grownBy W1 none := by rw [← hW1]; exact World.grownBy_alloc _ _ none
  have gW2 : W1.grownBy W2 none := by rw [← hW2]; exact grown_row (World.grownBy_alloc _ _ none) (.inl (by rw [hg]; exact Nat.le_refl _)) _
  have gW3 : W2.grownBy W3 none := by rw [← hW3]; exact grown_row (World.grownBy_alloc _ _ none) (.inl (by rw [hqq]; exact Nat.le_refl _)) _
  have g13 := grown_trans gW1 (grown_trans gW2 gW3)
  have hV1 : VdsAt W1 (some ⟨p, 0, none⟩) v1 := by rw [← hW1, ← hp]; exact vds_new w v1 v1_ok _
  have hV3 : ∀ Y : World, W1.grownBy Y none → VdsAt Y (some ⟨p, 0, none⟩) v1 := fun Y hY hne => by
    obtain ⟨b, off, eA, hc⟩ := hV1 hne
    exact ⟨b, off, eA, fun k hk => range_kept (hc k hk) hY⟩
  have bg : Blk W2 g 34 gv := by rw [← hW2, ← hg]; exact (Blk.new W1 34 GZ).row _
  have bq : Blk W3 qq 39 qv := by rw [← hW3, ← hqq]; exact (Blk.new W2 39 QZ).row _
  have HC0 := Lib.hid (qc0_is W3 (he.grown g13 (fun _ e => by cases e)) (hV3 _ (grown_trans gW2 gW3)) v1_ok (by simp [v1]) hX9 rfl gv hgv 1 (key4 9) rfl X9 hX9 none 0 0 qv hqv)
  have HC1 := Lib.hid (fun (Y : World) (hY : W1.grownBy Y none) (p2 : Addr) (q2 : Array Value) (h2 : q2 = qcC 1 0 X9 (.slice (some p2) 1 1)) => qc0_is Y (he.grown (grown_trans gW1 hY) (fun _ e => by cases e)) (hV3 _ hY) v1_ok (by simp [v1]) hX9 rfl gv hgv 1 (key4 9) rfl X9 hX9 (some p2) 1 1 q2 h2)
  have HX := Lib.hid (And.intro (show gv.size = 18 by rw [hgv]; exact grC_size h16) (And.intro (show qv.size = 19 by rw [hqv]; exact qcC_size h16) (And.intro (show (gv.all fun v => v.oneCell') = true by rw [hgv]; exact gr_one hone) (And.intro (show (qv.all fun v => v.oneCell') = true by rw [hqv]; exact qc_one hone) (And.intro hGs (And.intro hQs (And.intro hg (And.intro hW2 (And.intro hqq hW3)))))))))
  have HU := Lib.hid (And.intro gW1 (And.intro (grown_trans gW2 gW3) (show W1.heap.size ≤ qq by rw [← hqq]; exact gW2.size)))
  have HM := Lib.hid (And.intro (bg.grown gW3 (by simp)) (And.intro bq (And.intro g13 (And.intro hqv (And.intro h16 (And.intro he (show g ≠ qq by have := bg.lt; omega)))))))
  clear hGZ hQZ hSZ hGs hQs hX1 hX9 hY1 h16 hone hp hW1 hg hgv hW2 hqq hqv hW3 gW1 gW2 gW3 g13 hV1 hV3 bg bq he
  go_enter Tryd.func6, Tryd.ntmps6
  go_upto_region 2 with (first
    | (refine wpList_build_at (by rfl) 32 #[(0, Operand.const (Value.int .u8 1))] rfl _ (by kernel_rfl) (.agg X1) (HB1.out _) ?_)
    | (refine wpList_build_at (by rfl) 32 #[(0, Operand.const (Value.int .u8 9))] rfl _ (by kernel_rfl) (.agg X9) (HB9.out _) ?_)
    | (refine wpList_build_at (by rfl) 62 #[(0, Operand.tmp 3), (1, Operand.const (Value.int .i64 1))] rfl _ (by kernel_rfl) (.agg Y1) (HBV.out _) ?_)
    | (refine wpList_row_at (by rfl) 22 1 #[(0, Operand.tmp 4)] rfl _ (by kernel_rfl) _ _ HBR.out ?_)
    | (refine wpList_build_at (by rfl) 34 #[(0, Operand.const (Value.int .i64 1)), (1, Operand.tmp 5), (2, Operand.tmp 6)] rfl _ (by kernel_rfl) (.agg gv) (HBG.out _) ?_)
    | (refine wpList_store_row rfl 34 _ _ rfl W1.heap.size gv rfl rfl 34 _ (heap_alloc_new W1 _) (by rw [HX.out.1]; exact info18) (by rw [HX.out.1, HX.out.2.2.2.2.1]) HX.out.2.2.1 ?_))
  rw [HX.out.2.2.2.2.2.2.1, HX.out.2.2.2.2.2.2.2.1]
  go_upto_region 3 with (first
    | (refine wpList_build_at (by rfl) 32 #[(0, Operand.const (Value.int .u8 9))] rfl _ (by kernel_rfl) (.agg X9) (HB9.out _) ?_)
    | (refine wpList_build_at (by rfl) 39 #[(0, Operand.const (Value.int .i64 1)), (2, Operand.tmp 8)] rfl _ (by kernel_rfl) (.agg qv) (HBQ.out _) ?_)
    | (refine wpList_store_row rfl 39 _ _ rfl W2.heap.size qv rfl rfl 39 _ (heap_alloc_new W2 _) (by rw [HX.out.2.1]; exact info19) (by rw [HX.out.2.1, HX.out.2.2.2.2.2.1]) HX.out.2.2.2.1 ?_))
  rw [HX.out.2.2.2.2.2.2.2.2.1, HX.out.2.2.2.2.2.2.2.2.2]
  clear hgz hqz
  go_wp2_with (first
    | (refine wpList_load_row rfl 34 _ rfl g rfl 34 gv (0, 0) _ HM.out.1 Tryd.underlying34 rfl (by rw [HX.out.1]; exact info18) ?_)
    | (refine wpList_load_row rfl 39 _ rfl qq rfl 39 qv (0, 0) _ HM.out.2.1 Tryd.underlying39 rfl (by rw [HX.out.2.1]; exact info19) ?_))
  refine HC0.out.mono ?_
  clear HC0
  rintro e w4 ⟨rfl, g4⟩
  have hE : evOf E (firstN v1 1 1 (key4 9) (key4 9) 0) = .nilIface := by rw [v1_first]; rfl
  rw [hE]
  have b4 := HM.out.2.1.grown g4 (by simp)
  have H4 := Lib.hid (And.intro g4 (And.intro (HM.out.1.grown g4 (by simp)) b4))
  have hs4 := b4.lt
  obtain ⟨ps, hps⟩ : ∃ ps, w4.heap.size = ps := ⟨_, rfl⟩
  obtain ⟨W5, hW5⟩ : ∃ W5, w4.alloc (.cells SZ 53) = W5 := ⟨_, rfl⟩
  have g5 : w4.grownBy W5 none := by rw [← hW5]; exact World.grownBy_alloc _ _ none
  have b5 := b4.grown g5 (by simp)
  have HS5 := Lib.hid (show Sem.run Tryd.prog (Instr.buildSlice 37 1 #[(0, .agg SZ)]) w4 = .ok (.slice (some ⟨ps, 0, none⟩) 1 1) W5 by rw [← hps, ← hW5]; exact HSZ.out.2 w4)
  have x18 : W5.cell? ⟨qq, 18, none⟩ = some (.slice none 0 0) := (qc_cells HM.out.2.2.2.2.1 (HM.out.2.2.2.1 ▸ b5)).2.2.2
  have f18 := b5.frozen 18
  obtain ⟨W6, hW6⟩ : ∃ W6, W5.setCell ⟨qq, 18, none⟩ (.slice (some ⟨ps, 0, none⟩) 1 1) = W6 := ⟨_, rfl⟩
  have g6 : W5.grownBy W6 (some qq) := by rw [← hW6]; exact grown_set_p qq 18 _
  obtain ⟨q2, hq2⟩ : ∃ q2, q2 = qcC 1 0 X9 (.slice (some ⟨ps, 0, none⟩) 1 1) := ⟨_, rfl⟩
  have b6 : Blk W6 qq 39 q2 := by
    have h := b5.set 18 (.slice (some ⟨ps, 0, none⟩) 1 1)
    rw [hW6, HM.out.2.2.2.1, qc_set _ _ _ HM.out.2.2.2.2.1, ← hq2] at h
    exact h
  have g16 : W1.grownBy W6 none := grown_fresh (grown_trans HU.out.2.1 (grown_trans g4 g5)) g6 HU.out.2.2
  have bg6 : Blk W6 g 34 gv := (H4.out.2.1.grown g5 (by simp)).grown g6 (fun e => HM.out.2.2.2.2.2.2 (Option.some.inj e))
  have HC := Lib.hid (HC1.out W6 g16 ⟨ps, 0, none⟩ q2 hq2)
  have H6 := Lib.hid (And.intro bg6 (And.intro b6 (And.intro g16 (show q2.size = 19 by rw [hq2]; exact qcC_size HM.out.2.2.2.2.1))))
  have HW6 := Lib.hid (And.intro hps (And.intro hW5 hW6))
  clear hps hW5 hW6 g4 g5 g6 b4 b5 b6 hq2 g16 bg6 hs4 hE
  go_upto_region 6 with (first
    | (refine wpList_build_at (by rfl) 53 #[] rfl _ (by kernel_rfl) (.agg SZ) (HSZ.out.1 _) ?_)
    | (refine wpList_row_at (by rfl) 37 1 #[(0, Operand.tmp 14)] rfl _ (by kernel_rfl) _ _ HS5.out ?_))
  rw [HW6.out.2.2]
  clear x18 f18
  go_wp2_with (first
    | (refine wpList_load_row rfl 34 _ rfl g rfl 34 gv (0, 0) _ H6.out.1 Tryd.underlying34 rfl (by rw [HX.out.1]; exact info18) ?_)
    | (refine wpList_load_row rfl 39 _ rfl qq rfl 39 q2 (0, 0) _ H6.out.2.1 Tryd.underlying39 rfl (by rw [H6.out.2.2.2]; exact info19) ?_))
  refine HC.out.mono ?_
  clear HC
  rintro e w7 ⟨rfl, g7⟩
  have hE : evOf E (firstN v1 1 1 (key4 9) (key4 9) 1) = errV (E 11) := by rw [v1_first1]; rfl
  rw [hE]
  have H7 := Lib.hid (grown_trans HU.out.1 (grown_trans H6.out.2.2.1 g7))
  clear g7 hE
  go_wp2_with fail
  refine (num_err w7 B E 11 (by omega) (HM.out.2.2.2.2.2.1.grown H7.out (fun _ e => by cases e))).mono ?_
  rintro e w8 ⟨rfl, g8⟩
  have H8 := Lib.hid (grown_trans H7.out g8)
  clear g8
  go_wp2_with fail
  go_ret
  exact ⟨rfl, H8.out⟩
end Go.Proofs.YtlokjbjpmhfkhaaDoor
/-
  ProofsGenesis, walked.
-/

namespace Go.Proofs.YtlokjbjpmhfkhaaDoor
open Go.RowKit

def tZ : Array Value := toC 0 0 qZ (tcC 0 0 (.slice none 0 0)) sZ
theorem tz_run (w : World) : Sem.run Tryd.prog (zeroValue 58) w = .ok (.agg tZ) w := zero_run w (by kernel_rfl)
set_option maxRecDepth 100000 in
theorem to_build (w : World) (e : Int) (D : Array Value) (h : D.size = 16) : Sem.run Tryd.prog (Instr.build 58 #[(0, .int .i64 e), (1, .int .i64 2), (2, .agg (qcC e 0 D (.slice none 0 0)))]) w = .ok (.agg (toC e 2 (qcC e 0 D (.slice none 0 0)) (tcC 0 0 (.slice none 0 0)) sZ)) w := by
  obtain ⟨a0, a1, a2, a3, a4, a5, a6, a7, a8, a9, a10, a11, a12, a13, a14, a15, rfl⟩ := arr16p D h
  refine run_build w 58 _ _ ?_
  kernel_rfl
theorem to_size {e r : Int} {q : Array Value} (h : q.size = 19) : (toC e r q (tcC 0 0 (.slice none 0 0)) sZ).size = 28 := by simp [toC, tcC, sZ, h]
theorem to_one {e r : Int} {q : Array Value} (h : (q.all fun v => v.oneCell') = true) : ((toC e r q (tcC 0 0 (.slice none 0 0)) sZ).all fun v => v.oneCell') = true := by
  rw [Array.all_eq_true_iff_forall_mem] at h ⊢
  intro x hx
  simp only [toC, tcC, sZ, Array.mem_append, List.mem_toArray, List.mem_cons, List.not_mem_nil, or_false] at hx
  rcases hx with (rfl | rfl) | hx | (rfl | rfl | rfl) | (rfl | rfl | rfl | rfl)
  · rfl
  · rfl
  · exact h x hx
  all_goals rfl
theorem ErrEnv.moreP {w : World} {B B' : Nat} {E : Nat → Addr} (h : ErrEnv w B E) (hB : B ≤ B') : ErrEnv w B' E := ⟨fun i hi => ⟨(h.var i hi).1, Nat.lt_of_lt_of_le (h.var i hi).2 hB⟩, fun i hi => ⟨Nat.lt_of_lt_of_le (h.row i hi).1 hB, (h.row i hi).2⟩, h.inj⟩
theorem turn_0 (V : List Vd) (e : Int) : turnN V e 0 0 ≠ 0 := by
  unfold turnN
  split
  · assumption
  · rw [if_pos (by omega)]; omega
theorem row_loadT (V : World) (g o : Nat) (ty : TypeId) (cs : Array Value) (d : TypeDesc) (h : V.rangeAt g o cs.toList) (hu : Tryd.prog.underlying ty = some d) (hd : d.isRow = true) (hi : (Tryd.prog.info? ty).map (·.size) = some cs.size) : Sem.run Tryd.prog (Instr.loadAt ty (.pointer (some ⟨g, o, none⟩))) V = .ok (.agg cs) V := by
  have := run_loadAt_mid (P := Tryd.prog) V g o ty cs.toList d h hu hd (by rw [Array.length_toList]; exact hi)
  rwa [Array.toArray_toList] at this
set_option maxRecDepth 100000 in
set_option maxHeartbeats 4000000 in
theorem genesis_any (w : World) (E : Nat → Addr) (he : ErrEnv w w.heap.size E) (A : Option Addr) (n c : Nat) (V : List Vd) (hn : V.length = n) (hV : VdsAt w A V) (ok : keysOk V) (ep : Int) (l0 l1 : List Int) (h0 : l0.length = 16) (h1 : l1.length = 16) (tw : Array Value) (htw : tw = arrV .u8 (l0 ++ l1)) :
    Calls Tryd.prog 5 #[.slice A n c, .int .i64 ep, .agg tw] w fun e w' => e = .returned (.bool true) ∧ w.grownBy w' none := by
  subst hn
  have hgz := gz_run
  have hqz := qz_run
  have htz := tz_run
  obtain ⟨GZ, hGZ⟩ : ∃ Z, gZ = Z := ⟨_, rfl⟩
  obtain ⟨QZ, hQZ⟩ : ∃ Z, qZ = Z := ⟨_, rfl⟩
  obtain ⟨TZ, hTZ⟩ : ∃ Z, tZ = Z := ⟨_, rfl⟩
  rw [hGZ] at hgz
  rw [hQZ] at hqz
  rw [hTZ] at htz
  have hGs : GZ.size = 18 := by rw [← hGZ]; rfl
  have hQs : QZ.size = 19 := by rw [← hQZ]; rfl
  have hTs : TZ.size = 28 := by rw [← hTZ]; rfl
  obtain ⟨D0, hD0⟩ : ∃ D, D = arrV .u8 l0 := ⟨_, rfl⟩
  obtain ⟨D1, hD1⟩ : ∃ D, D = arrV .u8 l1 := ⟨_, rfl⟩
  have s0 : D0.size = 16 := by rw [hD0, arr_size, h0]
  have s1 : D1.size = 16 := by rw [hD1, arr_size, h1]
  have o0 : (D0.all fun v => v.oneCell') = true := by rw [hD0]; exact arr_one_p _ _
  have o1 : (D1.all fun v => v.oneCell') = true := by rw [hD1]; exact arr_one_p _ _
  obtain ⟨q, hq⟩ : ∃ q, w.heap.size = q := ⟨_, rfl⟩
  obtain ⟨W1, hW1⟩ : ∃ W1, w.alloc (.cells tw 56) = W1 := ⟨_, rfl⟩
  have gW1 : w.grownBy W1 none := by rw [← hW1]; exact World.grownBy_alloc _ _ none
  have bt : Blk W1 q 56 tw := by rw [← hW1, ← hq]; exact Blk.new _ _ _
  have rt : ∀ Y : World, Blk Y q 56 tw → Y.rangeAt q 0 D0.toList ∧ Y.rangeAt q 16 D1.toList := fun Y hY => by
    have r := range_blk hY
    have e1 : tw.toList = [] ++ (D0.toList ++ (D1.toList ++ [])) := by rw [htw, hD0, hD1]; simp [arrV]
    rw [e1] at r
    refine ⟨by have := range_part r; rwa [Nat.zero_add] at this, ?_⟩
    have r2 : Y.rangeAt q 0 (D0.toList ++ (D1.toList ++ [])) := r
    have := range_part r2
    rwa [Nat.zero_add, Array.length_toList, s0] at this
  have HAL := Lib.hid (alive_is W1 W1.heap.size E ((he.grown gW1 (fun _ e => by cases e)).moreP gW1.size))
  have HX := Lib.hid (And.intro he (And.intro hV (And.intro ok (And.intro gW1 (And.intro bt rt)))))
  have HD := Lib.hid (And.intro hD0 (And.intro hD1 (And.intro s0 (And.intro s1 (And.intro o0 (And.intro o1 (And.intro h0 h1)))))))
  have HZ := Lib.hid (And.intro hGs (And.intro hQs hTs))
  have HW := Lib.hid (And.intro hW1 hq)
  clear he hV ok gW1 bt rt hD0 hD1 s0 s1 o0 o1 h0 h1 hGs hQs hTs hGZ hQZ hTZ hW1 hq htw
  go_enter Tryd.func5, Tryd.ntmps5
  go_upto_region 1 with (fail)
  rw [HW.out.1, HW.out.2]
  go_wp2_with fail
  refine HAL.out.mono ?_
  clear HAL
  rintro e w2 ⟨rfl, g2⟩
  have H2 := Lib.hid (And.intro (grown_trans HX.out.2.2.2.1 g2) (HX.out.2.2.2.2.1.grown g2 (by simp)))
  clear g2
  by_cases h20 : 20 < V.length
  · have d1 : decide ((20 : Int) < (V.length : Int)) = true := by simp; omega
    go_wp2_with fail
    go_ret
    exact ⟨rfl, H2.out.1⟩
  have d1 : decide ((20 : Int) < (V.length : Int)) = false := by simp; omega
  have hl : V.length < 1000 := by omega
  have HL := Lib.hid hl
  clear h20 hl
  obtain ⟨g, hg⟩ : ∃ g, w2.heap.size = g := ⟨_, rfl⟩
  obtain ⟨gv, hgv⟩ : ∃ gv, gv = grC ep (.slice A V.length c) D0 := ⟨_, rfl⟩
  obtain ⟨W3, hW3⟩ : ∃ W3, (w2.alloc (.cells GZ 34)).setRow g gv = W3 := ⟨_, rfl⟩
  obtain ⟨qq, hqq⟩ : ∃ qq, W3.heap.size = qq := ⟨_, rfl⟩
  obtain ⟨qv, hqv⟩ : ∃ qv, qv = qcC ep 0 D0 (.slice none 0 0) := ⟨_, rfl⟩
  obtain ⟨W4, hW4⟩ : ∃ W4, (W3.alloc (.cells QZ 39)).setRow qq qv = W4 := ⟨_, rfl⟩
  have HBG := Lib.hid (show ∀ w, Sem.run Tryd.prog (Instr.build 34 #[(0, .int .i64 ep), (1, .slice A V.length c), (2, .agg D0)]) w = .ok (.agg gv) w from fun w => by rw [hgv]; exact gr_build w ep _ _ c D0 HD.out.2.2.1)
  have HBQ := Lib.hid (show ∀ w, Sem.run Tryd.prog (Instr.build 39 #[(0, .int .i64 ep), (2, .agg D0)]) w = .ok (.agg qv) w from fun w => by rw [hqv]; exact qc_build w ep D0 HD.out.2.2.1)
  have g3 : w2.grownBy W3 none := by rw [← hW3]; exact grown_row (World.grownBy_alloc _ _ none) (.inl (by rw [hg]; exact Nat.le_refl _)) _
  have g4 : W3.grownBy W4 none := by rw [← hW4]; exact grown_row (World.grownBy_alloc _ _ none) (.inl (by rw [hqq]; exact Nat.le_refl _)) _
  have bg : Blk W3 g 34 gv := by rw [← hW3, ← hg]; exact (Blk.new w2 34 GZ).row _
  have bq : Blk W4 qq 39 qv := by rw [← hW4, ← hqq]; exact (Blk.new W3 39 QZ).row _
  have hvd : ∀ Y : World, w.grownBy Y none → VdsAt Y A V := fun Y hY hne => by
    obtain ⟨b, off, eA, hc⟩ := HX.out.2.1 hne
    exact ⟨b, off, eA, fun k hk => range_kept (hc k hk) hY⟩
  have HQC := Lib.hid (fun (Y : World) (hY : w.grownBy Y none) (L : List Int) (hL : L.length = 16) (D : Array Value) (hD : D = arrV .u8 L) (q2 : Array Value) (h2 : q2 = qcC ep 0 D (.slice none 0 0)) => qc0_is Y (HX.out.1.grown hY (fun _ e => by cases e)) (hvd _ hY) HX.out.2.2.1 HL.out HD.out.1 HD.out.2.2.2.2.2.2.1 gv hgv ep L hL D hD none 0 0 q2 h2)
  have HTO := Lib.hid (fun (Y : World) (hY : w.grownBy Y none) (o2 : Array Value) (ho : o2 = toC ep 2 qv (tcC 0 0 (.slice none 0 0)) sZ) => timeout_bad Y (HX.out.1.grown hY (fun _ e => by cases e)) (hvd _ hY) HX.out.2.2.1 HL.out HD.out.1 HD.out.2.2.2.2.2.2.1 gv hgv l0 HD.out.2.2.2.2.2.2.1 D0 HD.out.1 none 0 0 0 0 (.slice none 0 0) (turn_0 V ep) sZ qv _ o2 hqv rfl ho (by rw [ho]; exact to_size (by rw [hqv]; exact qcC_size HD.out.2.2.1)))
  have HG := Lib.hid (And.intro (show gv.size = 18 by rw [hgv]; exact grC_size HD.out.2.2.1) (And.intro (show qv.size = 19 by rw [hqv]; exact qcC_size HD.out.2.2.1) (And.intro (show (gv.all fun v => v.oneCell') = true by rw [hgv]; exact gr_one HD.out.2.2.2.2.1) (And.intro (show (qv.all fun v => v.oneCell') = true by rw [hqv]; exact qc_one HD.out.2.2.2.2.1) (And.intro hg (And.intro hW3 (And.intro hqq (And.intro hW4 hqv))))))))
  have H4 := Lib.hid (And.intro (grown_trans H2.out.1 (grown_trans g3 g4)) (And.intro (H2.out.2.grown (grown_trans g3 g4) (by simp)) (And.intro (bg.grown g4 (by simp)) bq)))
  have H3 := Lib.hid (H2.out.2.grown g3 (by simp))
  clear hg hgv hW3 hqq hqv hW4 g3 g4 bg bq hvd
  go_upto_region 6 with (first
    | (refine wpList_load_mid rfl 32 _ rfl q 0 rfl D0.toList _ (HX.out.2.2.2.2.2 _ H2.out.2).1 Tryd.underlying32 rfl (by rw [Array.length_toList, HD.out.2.2.1]; exact info16g) ?_)
    | (refine wpList_build_at (by rfl) 34 #[(0, Operand.tmp 17), (1, Operand.tmp 18), (2, Operand.tmp 20)] rfl _ (by kernel_rfl) (.agg gv) (HBG.out _) ?_)
    | (refine wpList_store_row rfl 34 _ _ rfl w2.heap.size gv rfl rfl 34 _ (heap_alloc_new w2 _) (by rw [HG.out.1]; exact info18) (by rw [HG.out.1, HZ.out.1]) HG.out.2.2.1 ?_))
  rw [HG.out.2.2.2.2.1, HG.out.2.2.2.2.2.1]
  go_upto_region 7 with (first
    | (refine wpList_load_mid rfl 32 _ rfl q 0 rfl D0.toList _ (HX.out.2.2.2.2.2 _ H3.out).1 Tryd.underlying32 rfl (by rw [Array.length_toList, HD.out.2.2.1]; exact info16g) ?_)
    | (refine wpList_build_at (by rfl) 39 #[(0, Operand.tmp 22), (2, Operand.tmp 24)] rfl _ (by kernel_rfl) (.agg qv) (HBQ.out _) ?_)
    | (refine wpList_store_row rfl 39 _ _ rfl W3.heap.size qv rfl rfl 39 _ (heap_alloc_new W3 _) (by rw [HG.out.2.1]; exact info19) (by rw [HG.out.2.1, HZ.out.2.1]) HG.out.2.2.2.1 ?_))
  rw [HG.out.2.2.2.2.2.2.1, HG.out.2.2.2.2.2.2.2.1]
  go_wp2_with (first
    | (refine wpList_load_row rfl 34 _ rfl g rfl 34 gv (0, 0) _ H4.out.2.2.1 Tryd.underlying34 rfl (by rw [HG.out.1]; exact info18) ?_)
    | (refine wpList_load_row rfl 39 _ rfl qq rfl 39 qv (0, 0) _ H4.out.2.2.2 Tryd.underlying39 rfl (by rw [HG.out.2.1]; exact info19) ?_))
  refine (HQC.out W4 H4.out.1 l0 HD.out.2.2.2.2.2.2.1 D0 HD.out.1 qv HG.out.2.2.2.2.2.2.2.2).mono ?_
  rintro e w5 ⟨rfl, g5⟩
  have H5 := Lib.hid (And.intro (grown_trans H4.out.1 g5) (And.intro (H4.out.2.1.grown g5 (by simp)) (And.intro (H4.out.2.2.1.grown g5 (by simp)) (H4.out.2.2.2.grown g5 (by simp)))))
  clear g5
  by_cases hr : rightS V = false
  · have hE : evOf E (firstN V ep ep l0 l0 0) = errV (E 10) := by
      rw [show firstN V ep ep l0 l0 0 = 11 by simp [firstN, beginN, hr]]; rfl
    rw [hE]
    clear hE hr
    go_wp2_with fail
    refine (num_err w5 w.heap.size E 10 (by omega) (HX.out.1.grown H5.out.1 (fun _ e => by cases e))).mono ?_
    rintro e w6 ⟨rfl, g6⟩
    have H6 := Lib.hid (grown_trans H5.out.1 g6)
    clear g6
    go_wp2_with fail
    go_ret
    exact ⟨rfl, H6.out⟩
  · have hr1 : rightS V = true := by simpa using hr
    have hE : evOf E (firstN V ep ep l0 l0 0) = .nilIface := by
      rw [show firstN V ep ep l0 l0 0 = 0 by simp [firstN, beginN, hr1]]; rfl
    rw [hE]
    have HRS := Lib.hid hr1
    clear hE hr hr1
    go_wp2_with fail
    refine (num_nil w5).mono ?_
    rintro e w6 ⟨rfl, rfl⟩
    obtain ⟨oo, hoo⟩ : ∃ oo, w5.heap.size = oo := ⟨_, rfl⟩
    obtain ⟨ov, hov⟩ : ∃ ov, ov = qcC ep 0 D1 (.slice none 0 0) := ⟨_, rfl⟩
    obtain ⟨W7, hW7⟩ : ∃ W7, (w5.alloc (.cells QZ 39)).setRow oo ov = W7 := ⟨_, rfl⟩
    obtain ⟨tt, htt⟩ : ∃ tt, W7.heap.size = tt := ⟨_, rfl⟩
    obtain ⟨tv, htv⟩ : ∃ tv, tv = toC ep 2 qv (tcC 0 0 (.slice none 0 0)) sZ := ⟨_, rfl⟩
    obtain ⟨W8, hW8⟩ : ∃ W8, (W7.alloc (.cells TZ 58)).setRow tt tv = W8 := ⟨_, rfl⟩
    have HBO := Lib.hid (show ∀ w, Sem.run Tryd.prog (Instr.build 39 #[(0, .int .i64 ep), (2, .agg D1)]) w = .ok (.agg ov) w from fun w => by rw [hov]; exact qc_build w ep D1 HD.out.2.2.2.1)
    have HBT := Lib.hid (show ∀ w, Sem.run Tryd.prog (Instr.build 58 #[(0, .int .i64 ep), (1, .int .i64 2), (2, .agg qv)]) w = .ok (.agg tv) w from fun w => by rw [htv, HG.out.2.2.2.2.2.2.2.2]; exact to_build w ep D0 HD.out.2.2.1)
    have g7 : w5.grownBy W7 none := by rw [← hW7]; exact grown_row (World.grownBy_alloc _ _ none) (.inl (by rw [hoo]; exact Nat.le_refl _)) _
    have g8 : W7.grownBy W8 none := by rw [← hW8]; exact grown_row (World.grownBy_alloc _ _ none) (.inl (by rw [htt]; exact Nat.le_refl _)) _
    have bo : Blk W7 oo 39 ov := by rw [← hW7, ← hoo]; exact (Blk.new w5 39 QZ).row _
    have bt : Blk W8 tt 58 tv := by rw [← hW8, ← htt]; exact (Blk.new W7 58 TZ).row _
    have HO := Lib.hid (And.intro (show ov.size = 19 by rw [hov]; exact qcC_size HD.out.2.2.2.1) (And.intro (show tv.size = 28 by rw [htv]; exact to_size HG.out.2.1) (And.intro (show (ov.all fun v => v.oneCell') = true by rw [hov]; exact qc_one HD.out.2.2.2.2.2.1) (And.intro (show (tv.all fun v => v.oneCell') = true by rw [htv]; exact to_one HG.out.2.2.2.1) (And.intro hoo (And.intro hW7 (And.intro htt (And.intro hW8 (And.intro hov htv)))))))))
    have H7 := Lib.hid (And.intro (H5.out.2.1.grown g7 (by simp)) (H5.out.2.2.2.grown g7 (by simp)))
    have g78 := grown_trans g7 g8
    have H8 := Lib.hid (And.intro (grown_trans H5.out.1 g78) (And.intro (H5.out.2.1.grown g78 (by simp)) (And.intro (H5.out.2.2.1.grown g78 (by simp)) (And.intro (bo.grown g8 (by simp)) bt))))
    clear hoo hov hW7 htt htv hW8 g7 g8 g78 bo bt
    go_upto_region 11 with (first
      | (refine wpList_load_mid rfl 32 _ rfl q 16 rfl D1.toList _ (HX.out.2.2.2.2.2 _ H5.out.2.1).2 Tryd.underlying32 rfl (by rw [Array.length_toList, HD.out.2.2.2.1]; exact info16g) ?_)
      | (refine wpList_build_at (by rfl) 39 #[(0, Operand.tmp 32), (2, Operand.tmp 34)] rfl _ (by kernel_rfl) (.agg ov) (HBO.out _) ?_)
      | (refine wpList_store_row rfl 39 _ _ rfl w5.heap.size ov rfl rfl 39 _ (heap_alloc_new w5 _) (by rw [HO.out.1]; exact info19) (by rw [HO.out.1, HZ.out.2.1]) HO.out.2.2.1 ?_))
    rw [HO.out.2.2.2.2.1, HO.out.2.2.2.2.2.1]
    go_upto_region 12 with (first
      | (refine wpList_load_row rfl 39 _ rfl qq rfl 39 qv (0, 0) _ H7.out.2 Tryd.underlying39 rfl (by rw [HG.out.2.1]; exact info19) ?_)
      | (refine wpList_build_at (by rfl) 58 #[(0, Operand.tmp 36), (1, Operand.const (Value.int .i64 2)), (2, Operand.tmp 37)] rfl _ (by kernel_rfl) (.agg tv) (HBT.out _) ?_)
      | (refine wpList_store_row rfl 58 _ _ rfl W7.heap.size tv rfl rfl 58 _ (heap_alloc_new W7 _) (by rw [HO.out.2.1]; exact info28) (by rw [HO.out.2.1, HZ.out.2.2]) HO.out.2.2.2.1 ?_))
    rw [HO.out.2.2.2.2.2.2.1, HO.out.2.2.2.2.2.2.2.1]
    clear hgz hqz htz
    try simp only [Act.put, List.setIfInBounds_toArray, List.set_cons_zero, List.set_cons_succ]
    have V1 := Lib.hid (show ∀ z : Gr W8, Sem.run Tryd.prog (Instr.loadAt 34 (.pointer (some ⟨g, 0, none⟩))) z.1 = .ok (.agg gv) z.1 from fun z => row_loadT z.1 g 0 34 gv _ (range_blk (H8.out.2.2.1.grown z.2 (by simp))) Tryd.underlying34 rfl (by rw [HG.out.1]; exact info18))
    have V2 := Lib.hid (show ∀ z : Gr W8, Sem.run Tryd.prog (Instr.loadAt 39 (.pointer (some ⟨oo, 0, none⟩))) z.1 = .ok (.agg ov) z.1 from fun z => row_loadT z.1 oo 0 39 ov _ (range_blk (H8.out.2.2.2.1.grown z.2 (by simp))) Tryd.underlying39 rfl (by rw [HO.out.1]; exact info19))
    have V3 := Lib.hid (show ∀ z : Gr W8, Sem.run Tryd.prog (Instr.loadAt 32 (.pointer (some ⟨q, 0, none⟩))) z.1 = .ok (.agg D0) z.1 from fun z => row_loadT z.1 q 0 32 D0 _ (HX.out.2.2.2.2.2 _ (H8.out.2.1.grown z.2 (by simp))).1 Tryd.underlying32 rfl (by rw [HD.out.2.2.1]; exact info16g))
    have V4 := Lib.hid (show ∀ z : Gr W8, Sem.run Tryd.prog (Instr.loadAt 32 (.pointer (some ⟨q, 16, none⟩))) z.1 = .ok (.agg D1) z.1 from fun z => row_loadT z.1 q 16 32 D1 _ (HX.out.2.2.2.2.2 _ (H8.out.2.1.grown z.2 (by simp))).2 Tryd.underlying32 rfl (by rw [HD.out.2.2.2.1]; exact info16g))
    have V5 := Lib.hid (show ∀ z : Gr W8, Sem.run Tryd.prog (Instr.loadAt 58 (.pointer (some ⟨tt, 0, none⟩))) z.1 = .ok (.agg tv) z.1 from fun z => row_loadT z.1 tt 0 58 tv _ (range_blk (H8.out.2.2.2.2.grown z.2 (by simp))) Tryd.underlying58 rfl (by rw [HO.out.2.1]; exact info28))
    have htn : toN V ep l0 l0 0 0 0 ≠ 0 := by
      unfold toN
      split
      · assumption
      · split
        · assumption
        · exact turn_0 V ep
    obtain ⟨a, ha⟩ := evOf_pos E htn
    have T2 := Lib.hid (show ∀ z : Gr W8, Calls Tryd.prog 14 #[.agg gv, .agg tv] z.1 fun e w' => e = .returned (errV a) ∧ z.1.grownBy w' none from fun z => by
      have h := HTO.out z.1 (grown_trans H8.out.1 z.2) tv HO.out.2.2.2.2.2.2.2.2.2
      rw [ha] at h
      exact h)
    clear ha htn
    have heq : ∀ V, Sem.run Tryd.prog (Op.equalIn 10000 32 (.agg D0) (.agg D1)) V = .ok (decide (l0 = l1)) V := fun V => by
      rw [HD.out.1, HD.out.2.1]
      exact eq_arr V 9998 Tryd.underlying32 (by kernel_rfl) Tryd.underlying5 (by kernel_rfl) (by kernel_rfl) l0 l1 HD.out.2.2.2.2.2.2.1 HD.out.2.2.2.2.2.2.2
    have hQ := fun (z : Gr W8) => HQC.out z.1 (grown_trans H8.out.1 z.2) l1 HD.out.2.2.2.2.2.2.2 D1 HD.out.2.1 ov HO.out.2.2.2.2.2.2.2.2.1
    by_cases h01 : l0 = l1
    · rw [decide_eq_true h01] at heq
      have T1 := Lib.hid (show ∀ z : Gr W8, Calls Tryd.prog 12 #[.agg gv, .agg ov] z.1 fun e w' => e = .returned .nilIface ∧ z.1.grownBy w' none from fun z => by
        have h := hQ z
        rw [show firstN V ep ep l1 l0 0 = 0 by simp [firstN, beginN, HRS.out, h01]] at h
        exact h)
      clear hQ h01
      refine wp_region_grown (by kernel_rfl) (by kernel_rfl) ?_
      repeat (first
        | (refine wpQuiet_load_row 34 _ ⟨g, 0, none⟩ (.agg gv) (by rfl) rfl rfl (by rintro _ ⟨z, rfl⟩; exact V1.out z) ?_; simp only [Act.put, List.setIfInBounds_toArray, List.set_cons_zero, List.set_cons_succ])
        | (refine wpQuiet_load_row 39 _ ⟨oo, 0, none⟩ (.agg ov) (by rfl) rfl rfl (by rintro _ ⟨z, rfl⟩; exact V2.out z) ?_; simp only [Act.put, List.setIfInBounds_toArray, List.set_cons_zero, List.set_cons_succ])
        | (refine wpQuiet_load_row 32 _ ⟨q, 0, none⟩ (.agg D0) (by rfl) rfl rfl (by rintro _ ⟨z, rfl⟩; exact V3.out z) ?_; simp only [Act.put, List.setIfInBounds_toArray, List.set_cons_zero, List.set_cons_succ])
        | (refine wpQuiet_load_row 32 _ ⟨q, 16, none⟩ (.agg D1) (by rfl) rfl rfl (by rintro _ ⟨z, rfl⟩; exact V4.out z) ?_; simp only [Act.put, List.setIfInBounds_toArray, List.set_cons_zero, List.set_cons_succ])
        | (refine wpQuiet_load_row 58 _ ⟨tt, 0, none⟩ (.agg tv) (by rfl) rfl rfl (by rintro _ ⟨z, rfl⟩; exact V5.out z) ?_; simp only [Act.put, List.setIfInBounds_toArray, List.set_cons_zero, List.set_cons_succ])
        | go_big_quiet_step (first
        | (go_at_call 12; with_reducible exact Calls.grown _ (T1.out _))
        | (go_at_call 14; with_reducible exact Calls.grown _ (T2.out _))))
      refine wpQuiet_nil ?_
      rintro w9 ⟨⟨_, k9⟩, rfl⟩
      have H9 := Lib.hid (grown_trans H8.out.1 k9)
      clear k9 heq
      go_wp2_with fail
      go_ret
      exact ⟨rfl, H9.out⟩
    · rw [decide_eq_false h01] at heq
      have T1 := Lib.hid (show ∀ z : Gr W8, Calls Tryd.prog 12 #[.agg gv, .agg ov] z.1 fun e w' => e = .returned (errV (E 11)) ∧ z.1.grownBy w' none from fun z => by
        have h := hQ z
        rw [show firstN V ep ep l1 l0 0 = 12 by simp [firstN, beginN, HRS.out, Ne.symm h01]] at h
        exact h)
      clear hQ h01
      refine wp_region_grown (by kernel_rfl) (by kernel_rfl) ?_
      repeat (first
        | (refine wpQuiet_load_row 34 _ ⟨g, 0, none⟩ (.agg gv) (by rfl) rfl rfl (by rintro _ ⟨z, rfl⟩; exact V1.out z) ?_; simp only [Act.put, List.setIfInBounds_toArray, List.set_cons_zero, List.set_cons_succ])
        | (refine wpQuiet_load_row 39 _ ⟨oo, 0, none⟩ (.agg ov) (by rfl) rfl rfl (by rintro _ ⟨z, rfl⟩; exact V2.out z) ?_; simp only [Act.put, List.setIfInBounds_toArray, List.set_cons_zero, List.set_cons_succ])
        | (refine wpQuiet_load_row 32 _ ⟨q, 0, none⟩ (.agg D0) (by rfl) rfl rfl (by rintro _ ⟨z, rfl⟩; exact V3.out z) ?_; simp only [Act.put, List.setIfInBounds_toArray, List.set_cons_zero, List.set_cons_succ])
        | (refine wpQuiet_load_row 32 _ ⟨q, 16, none⟩ (.agg D1) (by rfl) rfl rfl (by rintro _ ⟨z, rfl⟩; exact V4.out z) ?_; simp only [Act.put, List.setIfInBounds_toArray, List.set_cons_zero, List.set_cons_succ])
        | (refine wpQuiet_load_row 58 _ ⟨tt, 0, none⟩ (.agg tv) (by rfl) rfl rfl (by rintro _ ⟨z, rfl⟩; exact V5.out z) ?_; simp only [Act.put, List.setIfInBounds_toArray, List.set_cons_zero, List.set_cons_succ])
        | go_big_quiet_step (first
        | (go_at_call 12; with_reducible exact Calls.grown _ (T1.out _))
        | (go_at_call 14; with_reducible exact Calls.grown _ (T2.out _))))
      refine wpQuiet_nil ?_
      rintro w9 ⟨⟨_, k9⟩, rfl⟩
      have H9 := Lib.hid (grown_trans H8.out.1 k9)
      clear k9 heq
      go_wp2_with fail
      go_ret
      exact ⟨rfl, H9.out⟩
end Go.Proofs.YtlokjbjpmhfkhaaDoor
/-
  A slice literal of one element of several cells; append of one such element; what an owned row of such elements holds.
-/
namespace Go.Proofs.YtlokjbjpmhfkhaaDoor
open Go.RowKit

theorem fold_set : ∀ (vs : List Value) (cs : Array Value) (o : Nat), o + vs.length ≤ cs.size → ∀ j, ((vs.zipIdx 0).foldl (fun (cs : Array Value) (x : Value × Nat) => cs.setIfInBounds (o + x.2) x.1) cs)[j]? = if o ≤ j ∧ j < o + vs.length then vs[j - o]? else cs[j]? := by
  suffices h : ∀ (vs : List Value) (cs : Array Value) (o m : Nat), o + m + vs.length ≤ cs.size → ∀ j, ((vs.zipIdx m).foldl (fun (cs : Array Value) (x : Value × Nat) => cs.setIfInBounds (o + x.2) x.1) cs)[j]? = if o + m ≤ j ∧ j < o + m + vs.length then vs[j - (o + m)]? else cs[j]? from
    fun vs cs o h1 j => by simpa using h vs cs o 0 (by simpa using h1) j
  intro vs
  induction vs with
  | nil => intro cs o m _ j; simp; intro h1 h2; omega
  | cons v r ih =>
    intro cs o m hm j
    rw [List.length_cons] at hm
    rw [List.zipIdx_cons, List.foldl_cons, ih _ o (m + 1) (by rw [Array.size_setIfInBounds]; omega) j, List.length_cons]
    by_cases h1 : o + (m + 1) ≤ j ∧ j < o + (m + 1) + r.length
    · rw [if_pos h1, if_pos (by omega), show j - (o + m) = (j - (o + (m + 1))) + 1 by omega, List.getElem?_cons_succ]
    · rw [if_neg h1]
      by_cases h2 : j = o + m
      · subst h2
        rw [if_pos (by omega), Array.getElem?_setIfInBounds_self_of_lt (by omega), Nat.sub_self, List.getElem?_cons_zero]
      · rw [if_neg (by omega), Array.getElem?_setIfInBounds_ne (by omega)]
/-- One part that fills the whole. -/
theorem fill_one (es cs : Array Value) (h : es.size = cs.size) : Instr.fill (fun i => some (i * es.size, es.size)) cs [(0, .agg es)] = some es := by
  have hc : (Value.agg es).cells = es := rfl
  simp only [Instr.fill, hc, Nat.zero_mul]
  rw [if_neg (by simp [h])]
  congr 1
  apply Array.ext_getElem?
  intro j
  have := fold_set es.toList cs 0 (by simp [h]) j
  simp only [Nat.zero_add, Nat.sub_zero, Array.length_toList] at this
  rw [← Array.foldl_toList, Array.toList_zipIdx]
  simp only [Nat.zero_add]
  rw [this]
  by_cases hj : j < es.size
  · simp [hj]
  · rw [if_neg (by omega), Array.getElem?_eq_none (by omega), Array.getElem?_eq_none (by omega)]
theorem run_slice_one {P : Program} (w : World) (t e : TypeId) (es : Array Value) (hu : P.underlying t = some (.slice e)) (hs : (P.info? e).map (·.size) = some es.size) (hz : ((P.info? e).bind (·.zero)).map (·.cells.size) = some es.size) (h0 : 0 < es.size) (h1 : es.size ≤ 1000) :
    Sem.run P (Instr.buildSlice t 1 #[(0, .agg es)]) w = .ok (.slice (some ⟨w.heap.size, 0, none⟩) 1 1) (w.alloc (.cells es e)) := by
  cases hq : P.info? e with
  | none => simp [hq] at hs
  | some i =>
    have hi : i.size = es.size := by simpa [hq] using hs
    have : ∃ z, i.zero = some z ∧ z.cells.size = es.size := by simpa [hq] using hz
    obtain ⟨z, hzz, _⟩ := this
    refine run_buildSlice w t e 1 _ es i z hu hq hzz (by rw [hi]; omega) (by rw [hi]; omega) ?_
    rw [hi]
    exact fill_one es _ (by simp)

theorem wpList_push_row {P : Program} {w0 : World} {ops : Array Oper} {rest : List Oper} {o : Oper} {a : Act} {Q : Exit → Act → World → Prop} (hgd : o.guard = none) (s x : Operand) (t : TypeId)
    (ho : o.op = .call { callee := .builtin .append, args := #[s, x], argTypes := #[t, t] }) (base : Nat) (e e0 : TypeId) (i : TypeInfo) (z : Value) (size bytes : Nat) (ht : P.underlying t = some (.slice e)) (hi : P.info? e = some i) (hz : i.zero = some z) (hsize : i.size = size) (hby : i.bytes = bytes) (hzs : z.cells.size = size) (hsz : 0 < size)
    (v : Value) (n : Nat) (xs : List Value) (hs : a.eval s = v) (hown : w0.ownsRow base e size v n xs) (us : Array Value) (hu1 : us.all (·.oneCell') = true) (hus : us.size = size) (hx : a.eval x = .slice (some ⟨w0.heap.size, 0, none⟩) 1 1) (hn : n ≤ 1000000) (hb : bytes ≤ 1000) (hbase : base ≤ w0.heap.size)
    (h : ∀ v' w', w'.ownsRow base e size v' (n + 1) (xs ++ us.toList) → w0.grownBy w' v.ownBlock → (v'.ownBlock = v.ownBlock ∨ v'.ownBlock = some (w0.heap.size + 1)) → wpList P ops Q rest (a.put o.dst v') w') : wpList P ops Q (o :: rest) a (w0.alloc (.cells us e0)) := by
  refine wpList_append_own_at _ hgd s x t ho base e i z size bytes ht hi hz hsize hby hzs hsz v n xs hs (hown.alloc _) ⟨w0.heap.size, 0, none⟩ 1 1 us.toList hx (by rw [Array.length_toList, hus, Nat.one_mul]) (fun j y hy => ?_) (fun u hu => (Array.all_eq_true_iff_forall_mem.1 hu1) u (by simpa using hu)) (by simp only [maxLen]; omega) (by
    have := Nat.mul_le_mul (show n + 1 ≤ 1000001 by omega) hb
    omega) (by rw [World.size_alloc]; omega) (fun v' w' h1 h2 _ h4 => h v' w' h1 (grown_trans (World.grownBy_alloc w0 _ _) h2) (by rw [World.size_alloc] at h4; exact h4))
  rw [addr_zero_add, (Blk.new w0 e0 us).cell j, ← Array.getElem?_toList]
  exact hy

/-- As many rows of sixteen, one behind the other. -/
def rowV (f : Nat → Array Value) : Nat → List Value
  | 0 => []
  | n + 1 => rowV f n ++ (f n).toList
theorem rowV_length (f : Nat → Array Value) (h : ∀ k, (f k).size = 16) : ∀ n, (rowV f n).length = n * 16
  | 0 => rfl
  | n + 1 => by rw [rowV, List.length_append, rowV_length f h n, Array.length_toList, h]; omega
theorem rowV_get (f : Nat → Array Value) (h : ∀ k, (f k).size = 16) : ∀ n k i, k < n → i < 16 → (rowV f n)[k * 16 + i]? = (f k)[i]?
  | 0, _, _, hk, _ => absurd hk (by omega)
  | n + 1, k, i, hk, hi => by
    have hl := rowV_length f h n
    rw [rowV]
    by_cases e : k = n
    · subst e
      rw [List.getElem?_append_right (by omega), hl, show k * 16 + i - k * 16 = i by omega, Array.getElem?_toList]
    · rw [List.getElem?_append_left (by rw [hl]; omega)]
      exact rowV_get f h n k i (by omega) hi
/-- What an owned row of sixteens holds. -/
theorem own_rows {w : World} {base : Nat} {e : TypeId} {v : Value} {n : Nat} (f : Nat → Array Value) (hf : ∀ k, (f k).size = 16) (hn : 0 < n) (h : w.ownsRow base e 16 v n (rowV f n)) :
    ∃ g cap, v = .slice (some ⟨g, 0, none⟩) n cap ∧ n ≤ cap ∧ base ≤ g ∧ w.there g 0 (n * 16) ∧ ∀ k, k < n → w.rangeAt g (0 + k * 16) (f k).toList := by
  rcases h.2 with ⟨rfl, h0⟩ | ⟨g, cap, cur, rfl, hb, hg, hnc, _, hsz, ht⟩
  · omega
  · have hl := rowV_length f hf n
    have hcs : n * 16 ≤ cur.size := by
      have : (cur.toList.take (n * 16)).length = n * 16 := by rw [ht, hl]
      simp at this; omega
    refine ⟨g, cap, rfl, hnc, hb, fun j hj => ?_, fun k hk j u hu => ?_⟩
    · rw [Nat.zero_add]
      have hB : Blk w g e cur := hg
      refine ⟨by rw [hB.cell, Array.getElem?_eq_getElem (by omega)]; rfl, hB.frozen j⟩
    · have hj : j < 16 := by have := (List.getElem?_eq_some_iff.1 hu).1; rwa [Array.length_toList, hf] at this
      have hB : Blk w g e cur := hg
      have hlt : k * 16 + j < n * 16 := by omega
      rw [Nat.zero_add, hB.cell, ← Array.getElem?_toList]
      have e1 : (cur.toList.take (n * 16))[k * 16 + j]? = cur.toList[k * 16 + j]? := by rw [List.getElem?_take, if_pos hlt]
      rw [← e1, ht, rowV_get f hf n k j hk hj, ← Array.getElem?_toList]
      exact hu
theorem rowV_cells {w : World} {b : Nat} (f : Nat → Array Value) (hf : ∀ k, (f k).size = 16) : ∀ n, (∀ k, k < n → w.rangeAt b (0 + k * 16) (f k).toList) → ∀ j u, (rowV f n)[j]? = some u → w.cell? ⟨b, j, none⟩ = some u
  | 0, _, j, u, h => by simp [rowV] at h
  | n + 1, hR, j, u, h => by
    have hl := rowV_length f hf n
    rw [rowV] at h
    by_cases hj : j < n * 16
    · rw [List.getElem?_append_left (by omega)] at h
      exact rowV_cells f hf n (fun k hk => hR k (by omega)) j u h
    · rw [List.getElem?_append_right (by omega), hl] at h
      have := hR n (by omega) (j - n * 16) u h
      rwa [show 0 + n * 16 + (j - n * 16) = j by omega] at this
theorem rowV_one (f : Nat → Array Value) (h : ∀ k, ((f k).all fun v => v.oneCell') = true) : ∀ n, ∀ u ∈ rowV f n, u.oneCell' = true
  | 0, u, hu => by cases hu
  | n + 1, u, hu => by
    rcases List.mem_append.1 hu with h1 | h1
    · exact rowV_one f h n u h1
    · exact (Array.all_eq_true_iff_forall_mem.1 (h n)) u (by simpa using h1)
theorem wpList_bslice_run {P : Program} {ops : Array Oper} {rest : List Oper} {o : Oper} {a : Act} {w w' : World} {Q : Exit → Act → World → Prop} (hgd : o.guard = none) (t : TypeId) (len : Nat) (i : Nat) (x : Operand) (ho : o.op = .buildSlice t len #[(i, x)]) (u V : Value) (hx : a.eval x = u)
    (hr : Sem.run P (Instr.buildSlice t len #[(i, u)]) w = .ok V w') (h : wpList P ops Q rest (a.put o.dst V) w') : wpList P ops Q (o :: rest) a w :=
  wpList_plain hgd fun K hK => by
    have hm : (#[(i, x)] : Array (Nat × Operand)).map (fun (i, x) => (i, a.eval x)) = #[(i, u)] := by simp [hx]
    unfold Oper.wp execOp
    simp only [ho, Sem.run_bind, hm, hr, Result.andThen_ok]
    exact hK _ _ h
end Go.Proofs.YtlokjbjpmhfkhaaDoor
