/-
  Tally: the chapter's example.
-/
import Derived.Test.YthcilpfcdblmkaaDoorTaJT
import Derived.Test.YthcilpfcdblmkaaDoorPwLb
import Derived.Test.YthcilpfcdblmkaaDoorNum
namespace Go.Proofs.YthcilpfcdblmkaaDoor
open Go.RowKit

set_option maxRecDepth 100000 in
set_option maxHeartbeats 1000000 in
theorem four_is (w : World) : Calls Tryd.prog 24 #[] w fun e w' => ∃ A, e = .returned (.slice A 4 4) ∧ VdsAt w' A v4 ∧ w.grownBy w' none := by
  obtain ⟨X1, hX1⟩ : ∃ X, X = arrV .u8 (key4 1) := ⟨_, rfl⟩
  obtain ⟨X2, hX2⟩ : ∃ X, X = arrV .u8 (key4 2) := ⟨_, rfl⟩
  obtain ⟨X3, hX3⟩ : ∃ X, X = arrV .u8 (key4 3) := ⟨_, rfl⟩
  obtain ⟨X4, hX4⟩ : ∃ X, X = arrV .u8 (key4 4) := ⟨_, rfl⟩
  obtain ⟨Y1, hY1⟩ : ∃ Y, Y = (Vd.cells ⟨key4 1, 1⟩).toArray := ⟨_, rfl⟩
  obtain ⟨Y2, hY2⟩ : ∃ Y, Y = (Vd.cells ⟨key4 2, 1⟩).toArray := ⟨_, rfl⟩
  obtain ⟨Y3, hY3⟩ : ∃ Y, Y = (Vd.cells ⟨key4 3, 1⟩).toArray := ⟨_, rfl⟩
  obtain ⟨Y4, hY4⟩ : ∃ Y, Y = (Vd.cells ⟨key4 4, 1⟩).toArray := ⟨_, rfl⟩
  obtain ⟨C, hC⟩ : ∃ C, C = (v4.flatMap Vd.cells).toArray := ⟨_, rfl⟩
  have H1 := Lib.hid (show ∀ w, Sem.run Tryd.prog (Instr.build 59 #[(0, .int .u8 1)]) w = .ok (.agg X1) w from fun w => by rw [hX1]; exact key_run w 1)
  have H2 := Lib.hid (show ∀ w, Sem.run Tryd.prog (Instr.build 59 #[(0, .int .u8 2)]) w = .ok (.agg X2) w from fun w => by rw [hX2]; exact key_run w 2)
  have H3 := Lib.hid (show ∀ w, Sem.run Tryd.prog (Instr.build 59 #[(0, .int .u8 3)]) w = .ok (.agg X3) w from fun w => by rw [hX3]; exact key_run w 3)
  have H4 := Lib.hid (show ∀ w, Sem.run Tryd.prog (Instr.build 59 #[(0, .int .u8 4)]) w = .ok (.agg X4) w from fun w => by rw [hX4]; exact key_run w 4)
  have G1 := Lib.hid (show ∀ w, Sem.run Tryd.prog (Instr.build 61 #[(0, .agg X1), (1, .int .i64 1)]) w = .ok (.agg Y1) w from fun w => by rw [hX1, hY1]; exact vd_run w 1 1)
  have G2 := Lib.hid (show ∀ w, Sem.run Tryd.prog (Instr.build 61 #[(0, .agg X2), (1, .int .i64 1)]) w = .ok (.agg Y2) w from fun w => by rw [hX2, hY2]; exact vd_run w 2 1)
  have G3 := Lib.hid (show ∀ w, Sem.run Tryd.prog (Instr.build 61 #[(0, .agg X3), (1, .int .i64 1)]) w = .ok (.agg Y3) w from fun w => by rw [hX3, hY3]; exact vd_run w 3 1)
  have G4 := Lib.hid (show ∀ w, Sem.run Tryd.prog (Instr.build 61 #[(0, .agg X4), (1, .int .i64 1)]) w = .ok (.agg Y4) w from fun w => by rw [hX4, hY4]; exact vd_run w 4 1)
  have HR := Lib.hid (show ∀ w, Sem.run Tryd.prog (Instr.buildSlice 22 4 #[(0, .agg Y1), (1, .agg Y2), (2, .agg Y3), (3, .agg Y4)]) w = .ok (.slice (some ⟨w.heap.size, 0, none⟩) 4 4) (w.alloc (.cells C 61)) from fun w => by rw [hY1, hY2, hY3, hY4, hC]; exact row4_run w)
  have hV0 : VdsAt (w.alloc (.cells C 61)) (some ⟨w.heap.size, 0, none⟩) v4 := by rw [hC]; exact vds_new w v4 v4_ok _
  have hg0 : w.grownBy (w.alloc (.cells C 61)) none := World.grownBy_alloc _ _ none
  have HV0 := Lib.hid (And.intro hV0 hg0)
  clear hX1 hX2 hX3 hX4 hY1 hY2 hY3 hY4 hC hV0 hg0
  go_enter Tryd.func24, Tryd.ntmps24
  go_wp2_with (first
    | (refine wpList_build_at (by rfl) 59 #[(0, Operand.const (Value.int .u8 1))] rfl _ (by kernel_rfl) (.agg X1) (H1.out _) ?_)
    | (refine wpList_build_at (by rfl) 59 #[(0, Operand.const (Value.int .u8 2))] rfl _ (by kernel_rfl) (.agg X2) (H2.out _) ?_)
    | (refine wpList_build_at (by rfl) 59 #[(0, Operand.const (Value.int .u8 3))] rfl _ (by kernel_rfl) (.agg X3) (H3.out _) ?_)
    | (refine wpList_build_at (by rfl) 59 #[(0, Operand.const (Value.int .u8 4))] rfl _ (by kernel_rfl) (.agg X4) (H4.out _) ?_)
    | (refine wpList_build_at (by rfl) 61 #[(0, Operand.tmp 1), (1, Operand.const (Value.int .i64 1))] rfl _ (by kernel_rfl) (.agg Y1) (G1.out _) ?_)
    | (refine wpList_build_at (by rfl) 61 #[(0, Operand.tmp 3), (1, Operand.const (Value.int .i64 1))] rfl _ (by kernel_rfl) (.agg Y2) (G2.out _) ?_)
    | (refine wpList_build_at (by rfl) 61 #[(0, Operand.tmp 5), (1, Operand.const (Value.int .i64 1))] rfl _ (by kernel_rfl) (.agg Y3) (G3.out _) ?_)
    | (refine wpList_build_at (by rfl) 61 #[(0, Operand.tmp 7), (1, Operand.const (Value.int .i64 1))] rfl _ (by kernel_rfl) (.agg Y4) (G4.out _) ?_)
    | (refine wpList_row_at (by rfl) 22 4 #[(0, Operand.tmp 2), (1, Operand.tmp 4), (2, Operand.tmp 6), (3, Operand.tmp 8)] rfl _ (by kernel_rfl) _ _ (HR.out _) ?_))
  go_ret
  exact ⟨_, rfl, HV0.out.1, HV0.out.2⟩

def akey : List UInt8 := [97]
def aw0 : List (Wd (List UInt8)) := List.replicate 4 ⟨false, [], 0⟩
def aw1 : List (Wd (List UInt8)) := aw0.set 0 ⟨true, akey, 7⟩
def aw2 : List (Wd (List UInt8)) := aw1.set 1 ⟨true, akey, 7⟩
def aw3 : List (Wd (List UInt8)) := aw2.set 3 ⟨true, akey, 7⟩
def aw4 : List (Wd (List UInt8)) := aw3.set 2 ⟨true, akey, 7⟩
def awK : Nat → List (Wd (List UInt8))
  | 0 => aw0
  | 1 => aw1
  | 2 => aw2
  | 3 => aw3
  | _ => aw4
def awW : Nat → Nat
  | 0 => 0
  | 1 => 1
  | 2 => 3
  | _ => 2
theorem aw_said (k : Nat) (h : k < 4) : ∃ hw : awW k < (awK k).length, (awK k)[awW k].said = false ∧ (awK k).set (awW k) ⟨true, akey, 7⟩ = awK (k + 1) := by
  match k, h with
  | 0, _ => exact ⟨by decide, rfl, rfl⟩
  | 1, _ => exact ⟨by decide, rfl, rfl⟩
  | 2, _ => exact ⟨by decide, rfl, rfl⟩
  | 3, _ => exact ⟨by decide, rfl, rfl⟩
theorem aw_yes0 : (!enoughS v4 (whoL aw0 akey) && enoughS v4 (whoL aw1 akey)) = false := by kernel_rfl
theorem aw_yes1 : (!enoughS v4 (whoL aw1 akey) && enoughS v4 (whoL aw2 akey)) = false := by kernel_rfl
theorem aw_yes2 : (!enoughS v4 (whoL aw2 akey) && enoughS v4 (whoL aw3 akey)) = true := by kernel_rfl
theorem aw_yes3 : (!enoughS v4 (whoL aw3 akey) && enoughS v4 (whoL aw4 akey)) = false := by kernel_rfl
theorem aw_yes (k : Nat) (h : k < 4) : (!enoughS v4 (whoL (awK k) akey) && enoughS v4 (whoL (awK (k + 1)) akey)) = ((k : Int) == 2) := by
  match k, h with
  | 0, _ => exact aw_yes0
  | 1, _ => exact aw_yes1
  | 2, _ => exact aw_yes2
  | 3, _ => exact aw_yes3
theorem aw_power : sumVal v4 (whoL aw4 akey) = 4 := by kernel_rfl
theorem who4_run (w : World) : Sem.run Tryd.prog (Instr.buildSlice 42 4 #[(0, .int .i64 0), (1, .int .i64 1), (2, .int .i64 3), (3, .int .i64 2)]) w
    = .ok (.slice (some ⟨w.heap.size, 0, none⟩) 4 4) (w.alloc (.cells (([0, 1, 3, 2] : List Int).map (Value.int .i64)).toArray 3)) := by kernel_rfl

set_option maxRecDepth 100000 in
set_option maxHeartbeats 2000000 in
theorem alive10_is (w : World) (B : Nat) (es er et : Addr) (hB : B ≤ w.heap.size) (he : ErrAt w B 10 es) (her : ErrAt w B 0 er) (het : ErrAt w B 16 et) :
    Calls Tryd.prog 7 #[] w fun e w' => e = .returned (.bool true) ∧ w.grownBy w' none := by
  have HE := Lib.hid (And.intro hB (And.intro he (And.intro her het)))
  clear hB he her het
  go_enter Tryd.func7, Tryd.ntmps7
  go_wp2_with fail
  refine (four_is w).mono ?_
  rintro e w1 ⟨A, rfl, hv1, k1⟩
  have HV := Lib.hid (And.intro hv1 k1)
  clear hv1 k1
  go_wp2_with fail
  refine (newT_is w1 A 4 B v4 es HV.out.1 v4_ok (by simp [v4]) (HE.out.2.1.grown HV.out.2 (by simp))).mono ?_
  rintro e w2 ⟨k2, ⟨hr, rfl⟩ | ⟨_, t, b, rfl, hT⟩⟩
  · rw [v4_right] at hr; cases hr
  have HT := Lib.hid (And.intro (show TalT w2 (fun k => w1.heap.size ≤ k) t b v4 (awK 0) from hT) (grown_trans HV.out.2 k2))
  clear hT k2
  go_wp2_with (refine wpList_row_at (by rfl) 42 4 #[(0, Operand.const (Value.int .i64 0)), (1, Operand.const (Value.int .i64 1)), (2, Operand.const (Value.int .i64 3)), (3, Operand.const (Value.int .i64 2))] rfl _ (by kernel_rfl) _ _ (who4_run _) ?_)
  obtain ⟨g, hg⟩ : ∃ g, w2.heap.size = g := ⟨_, rfl⟩
  obtain ⟨w3, hw3⟩ : ∃ w3, w2.alloc (.cells #[.int .i64 0, .int .i64 1, .int .i64 3, .int .i64 2] 3) = w3 := ⟨_, rfl⟩
  have g3 : w2.grownBy w3 none := by rw [← hw3]; exact World.grownBy_alloc _ _ none
  have b3 : Blk w3 g 3 #[.int .i64 0, .int .i64 1, .int .i64 3, .int .i64 2] := by rw [← hw3, ← hg]; exact Blk.new _ _ _
  have hbg : b < g := by rw [← hg]; exact Blk.lt HT.out.1.2.2.2.2.2.2.1
  have hwb : w.heap.size ≤ b := Nat.le_trans HV.out.2.size HT.out.1.2.1
  have H3 := Lib.hid (And.intro (HT.out.1.grown g3) (And.intro (grown_trans HT.out.2 g3) (And.intro b3 (And.intro hbg hwb))))
  (try simp only [List.map_cons, List.map_nil])
  (try rw [hw3])
  (try rw [hg])
  clear hw3 hg g3 b3 hbg hwb
  go_loopw [20] (fun i wr => ∃ k : Nat, k ≤ 4 ∧ i = .int .i64 (k : Int) ∧ TalT wr (fun k => w1.heap.size ≤ k) t b v4 (awK k) ∧ Kept (fun j => w.heap.size ≤ j) w wr ∧ Blk wr g 3 #[.int .i64 0, .int .i64 1, .int .i64 3, .int .i64 2]) (fun i _ => 4 - (intOf i).toNat)
  case atStart => exact ⟨0, by omega, rfl, H3.out.1, Kept.of_grown (F := fun j => w.heap.size ≤ j) H3.out.2.1 (fun _ e => by cases e), H3.out.2.2.1⟩
  case round =>
    obtain ⟨k, hk, hi, hT, hK, hb⟩ := hrel
    obtain ⟨I, hI⟩ : ∃ I : Int, I = (k : Int) := ⟨_, rfl⟩
    rw [← hI] at hi
    subst hi
    by_cases hlt : k < 4
    · have d1 : decide (I < 4) = true := by simp; omega
      have hI4 : 0 ≤ I ∧ I < 4 := by omega
      obtain ⟨q, hq⟩ : ∃ q : Int, q = (awW k : Int) := ⟨_, rfl⟩
      have x0 : wr.cell? ⟨g, I.toNat, none⟩ = some (.int .i64 q) := by
        rw [hb.cell, show I.toNat = k by omega, hq]
        match k, hlt with
        | 0, _ => rfl
        | 1, _ => rfl
        | 2, _ => rfl
        | 3, _ => rfl
      have hbb : Below B w wr := hK.below HE.out.1 (fun k h => by have h : w.heap.size ≤ k := h; have := HE.out.1; omega)
      have HP := Lib.hid (putT_is wr (fun k => w1.heap.size ≤ k) t b B v4 (awK k) hT akey q 7 es er et (Nat.le_trans HE.out.1 hK.size) (by have := H3.out.2.2.2.2; have := HE.out.1; omega) (HE.out.2.1.below hbb (Nat.le_refl _)) (HE.out.2.2.1.below hbb (Nat.le_refl _)) (HE.out.2.2.2.below hbb (Nat.le_refl _)))
      have HR := Lib.hid (And.intro hI (And.intro hlt (And.intro hq (And.intro hK hb))))
      clear hI hlt hk hq hT hK hb hbb
      go_wp2_with fail
      refine HP.out.mono ?_
      obtain ⟨hI, hlt, hq, hK, hb⟩ := HR.out
      obtain ⟨hw1, hw2, hw3⟩ := aw_said k hlt
      have hwl : awW k < 4 := by match k, hlt with
        | 0, _ => decide
        | 1, _ => decide
        | 2, _ => decide
        | 3, _ => decide
      rintro e w4 (⟨hr, _⟩ | ⟨i, hi, hqi, ⟨hs, _⟩ | ⟨hs, rfl, hT4, hK4⟩⟩)
      · exact absurd (show 0 ≤ q ∧ q < (v4.length : Int) from ⟨by omega, by rw [show v4.length = 4 from rfl]; omega⟩) hr
      · obtain rfl : i = awW k := by omega
        rw [hw2] at hs; cases hs
      · obtain rfl : i = awW k := by omega
        rw [hw3] at hT4 ⊢
        rw [aw_yes k hlt, ← hI]
        have H4 := Lib.hid (And.intro hT4 (And.intro (hK.next hK4 (fun j _ h => by have h : j = b := h; have := H3.out.2.2.2.2; show w.heap.size ≤ j; omega)) (hb.kept hK4 (fun h => by have h : g = b := h; have := H3.out.2.2.2.1; omega))))
        clear hI hlt hq hK hb hw1 hw2 hw3 hs hT4 hK4 hi hqi hwl
        go_wp2_with fail

        go_roundw
        case rel => exact ⟨k + 1, by have := HR.out.2.1; omega, by rw [HR.out.1]; rfl, H4.out.1, H4.out.2.1, H4.out.2.2⟩
        case measure => obtain ⟨hI, hlt, _⟩ := HR.out; simp [intOf]; omega
    · have d1 : decide (I < 4) = false := by simp; omega
      obtain rfl : k = 4 := by omega
      have hbb : Below B w wr := hK.below HE.out.1 (fun k h => by have h : w.heap.size ≤ k := h; have := HE.out.1; omega)
      have HP := Lib.hid (powerT_is wr (fun k => w1.heap.size ≤ k) t b B v4 aw4 hT akey es er et (Nat.le_trans HE.out.1 hK.size) (HE.out.2.1.below hbb (Nat.le_refl _)) (HE.out.2.2.1.below hbb (Nat.le_refl _)) (HE.out.2.2.2.below hbb (Nat.le_refl _)))
      rw [aw_power] at HP
      have HR := Lib.hid hK
      clear hI hlt hk hT hK hb hbb
      go_wp2_with fail
      refine HP.out.mono ?_
      rintro e w4 ⟨rfl, k4⟩
      have H4 := Lib.hid k4
      clear k4
      go_wp2_with fail
      go_ret
      exact ⟨rfl, (HR.out.next (Kept.of_grown (F := fun _ => False) H4.out fun _ e => by cases e) (fun _ _ h => h.elim)).grownNone (fun k h1 (h2 : w.heap.size ≤ k) => by omega)⟩
end Go.Proofs.YthcilpfcdblmkaaDoor
