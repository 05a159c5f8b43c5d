/-
  Several texts in one: GdN, GdO, GdA, GdB.
-/
import Derived.Test.YthkjlgjbjjjohaaGreatDoorHashO
import Derived.Test.YthkjlgjbjjjohaaGreatDoorDiA
import Derived.Test.YthkjlgjbjjjohaaGreatDoorDkG1
import Derived.Test.YthkjlgjbjjjohaaGreatDoorBaseA
import Derived.Test.YthkjlgjbjjjohaaGreatDoorKs
import Derived.Test.YthkjlgjbjjjohaaGreatDoorKx
import Derived.Test.YthkjlgjbjjjohaaGreatDoorSlT
import Derived.Test.YthkjlgjbjjjohaaGreatDoorRbA
/-
  Codec: a number as a part of what is signed.
-/

namespace Go.Proofs.YthkjlgjbjjjohaaGreatDoor
open Go.RowKit

theorem made8 (w : World) : Sem.run Tryz.prog (Instr.makeSlice 49 (.int .i64 8) (.int .i64 8)) w = .ok (.slice (some ⟨w.heap.size, 0, none⟩) 8 8) (w.alloc (.cells #[.int .u8 0, .int .u8 0, .int .u8 0, .int .u8 0, .int .u8 0, .int .u8 0, .int .u8 0, .int .u8 0] 5)) := by
  obtain ⟨i, hi, hz0, hz1, hz2⟩ := info_parts (P := Tryz.prog) (e := 5) (z := .int .u8 0) (size := 1) (bytes := 1) (by kernel_rfl)
  have h := run_make (P := Tryz.prog) w 49 5 i _ Tryz.underlying49 hi hz0 .i64 .i64 8 8 (by omega) (Int.le_refl _) (by rw [hz2]; decide) (by omega)
  rw [hz1] at h
  have e : madeCells (Value.int .u8 0).cells (Int.toNat 8 * 1) = #[.int .u8 0, .int .u8 0, .int .u8 0, .int .u8 0, .int .u8 0, .int .u8 0, .int .u8 0, .int .u8 0] := by kernel_rfl
  rw [e] at h
  exact h
/-- A number's eight bytes, the high one first. -/
def b8 (n : Int) : List Int := [n / 72057594037927936 % 256, n / 281474976710656 % 256, n / 1099511627776 % 256, n / 4294967296 % 256, n / 16777216 % 256, n / 65536 % 256, n / 256 % 256, n % 256]
theorem b8_length (n : Int) : (b8 n).length = 8 := rfl
theorem row_bytesI (w : World) (g : Nat) (xs : List Int) {t : TypeId} (h : Blk w g t (arrV .u8 xs)) : BytesI w (some ⟨g, 0, none⟩) xs := fun _ => ⟨_, rfl, fun j hj => by
  rw [Go.WideShapes.add_plain, Nat.zero_add, h.cell]
  simp [arrV, List.getD, List.getElem?_eq_getElem hj]⟩
set_option maxRecDepth 100000 in
theorem number_is (w : World) (n : Int) (hn : -9223372036854775808 ≤ n ∧ n < 9223372036854775808) :
    Calls Tryz.prog 92 #[.int .i64 n] w fun e w' => e = .returned (.slice (some ⟨w.heap.size, 0, none⟩) 8 8) ∧ BytesI w' (some ⟨w.heap.size, 0, none⟩) (b8 n) ∧ w.grownBy w' none := by
  have hm := made8 w
  go_enter Tryz.func92, Tryz.ntmps92
  go_wp2_with fail
  clear hm
  refine wp_loop_rounds 9 ?_
  rw [rounds_succ]
  go_wp2_with fail
  rw [rounds_succ]
  go_wp2_with fail
  rw [rounds_succ]
  go_wp2_with fail
  rw [rounds_succ]
  go_wp2_with fail
  rw [rounds_succ]
  go_wp2_with fail
  rw [rounds_succ]
  go_wp2_with fail
  rw [rounds_succ]
  go_wp2_with fail
  rw [rounds_succ]
  go_wp2_with fail
  rw [rounds_succ]
  go_wp2_with fail
  go_ret
  exact ⟨rfl, row_bytesI _ _ _ (Blk.new w _ _), World.grownBy_alloc _ _ none⟩
end Go.Proofs.YthkjlgjbjjjohaaGreatDoor
/-
  Codec: what is signed for votes, late words and proposals.
-/
namespace Go.Proofs.YthkjlgjbjjjohaaGreatDoor
open Go.RowKit

def forV (e r : Int) (d : List Int) : List Int := ofS 7 [b8 e, b8 r, d]
def forL (e r h : Int) : List Int := ofS 8 [b8 e, b8 r, b8 h]
def forP (d : List Int) : List Int := ofS 9 [d]
theorem parts3 {w : World} {q : Nat} {A B C : Option Addr} {n1 c1 n2 c2 n3 c3 : Nat} {x y z : List Int} (h : Blk w q 49 #[.slice A n1 c1, .slice B n2 c2, .slice C n3 c3]) (h1 : x.length = n1) (h2 : y.length = n2) (h3 : z.length = n3) (l1 : n1 ≤ c1) (l2 : n2 ≤ c2) (l3 : n3 ≤ c3) (b1 : BytesI w A x) (b2 : BytesI w B y) (b3 : BytesI w C z) : PartsI w (some ⟨q, 0, none⟩) [x, y, z] := fun j hj => by
  have hj3 : j = 0 ∨ j = 1 ∨ j = 2 := by have : j < 3 := hj; omega
  have e := h.cell j
  rw [show (⟨q, j, none⟩ : Addr) = (⟨q, 0, none⟩ : Addr).add j by rw [Go.WideShapes.add_plain, Nat.zero_add]] at e
  rcases hj3 with rfl | rfl | rfl
  · exact ⟨_, A, n1, c1, rfl, e, h1, l1, b1⟩
  · exact ⟨_, B, n2, c2, rfl, e, h2, l2, b2⟩
  · exact ⟨_, C, n3, c3, rfl, e, h3, l3, b3⟩
theorem parts1 {w : World} {q : Nat} {A : Option Addr} {n1 c1 : Nat} {x : List Int} (h : Blk w q 49 #[.slice A n1 c1]) (h1 : x.length = n1) (l1 : n1 ≤ c1) (b1 : BytesI w A x) : PartsI w (some ⟨q, 0, none⟩) [x] := fun j hj => by
  obtain rfl : j = 0 := by have : j < 1 := hj; omega
  have e := h.cell 0
  rw [show (⟨q, 0, none⟩ : Addr) = (⟨q, 0, none⟩ : Addr).add 0 by rw [Go.WideShapes.add_plain]] at e
  exact ⟨_, A, n1, c1, rfl, e, h1, l1, b1⟩
theorem number_any (w : World) (n : Int) (hn : -9223372036854775808 ≤ n ∧ n < 9223372036854775808) :
    Calls Tryz.prog 92 #[.int .i64 n] w fun e w' => ∃ p, e = .returned (.slice (some ⟨p, 0, none⟩) 8 8) ∧ BytesI w' (some ⟨p, 0, none⟩) (b8 n) ∧ w.grownBy w' none :=
  (number_is w n hn).mono fun _ _ h => ⟨_, h⟩
section
variable (w : World) (hR : Rounds w)
include hR
set_option maxRecDepth 100000 in
set_option maxHeartbeats 1000000 in
theorem forP_is (d : List Int) (hd : isDig d) (dd : Array Value) (hdd : dd = arrV .u8 d) :
    Calls Tryz.prog 94 #[.agg dd] w fun e w' => e = .returned (.agg (arrV .u8 (forP d))) ∧ w.grownBy w' none := by
  obtain ⟨Z16, hZ16⟩ : ∃ Z, Z = arrV .u8 (List.replicate 16 0) := ⟨_, rfl⟩
  have hz16 : ∀ w, Sem.run Tryz.prog (zeroValue 23) w = .ok (.agg Z16) w := fun w => by rw [hZ16]; exact z16run w
  have hsl := fun w : World => dig_slice w
  obtain ⟨w1, hw1⟩ : ∃ w1, (w.alloc (.cells dd 23)).alloc (.cells Z16 23) = w1 := ⟨_, rfl⟩
  obtain ⟨q, hq⟩ : ∃ q, w.heap.size = q := ⟨_, rfl⟩
  have b1 : Blk w1 q 23 dd := by rw [← hw1, ← hq]; exact (Blk.new w _ _).alloc _
  have b2 : Blk w1 (q + 1) 23 Z16 := by
    have h := Blk.new (w.alloc (.cells dd 23)) 23 Z16
    rw [World.size_alloc, hw1, hq] at h
    exact h
  have g1 : w.grownBy w1 none := by rw [← hw1]; exact grown_trans (World.grownBy_alloc _ _ none) (World.grownBy_alloc _ _ none)
  have hs1 : w1.heap.size = q + 1 + 1 := by rw [← hw1, ← hq]; simp
  obtain ⟨w2, hw2⟩ : ∃ w2, w1.alloc (.cells #[.slice (some ⟨q, 0, none⟩) 16 16] 49) = w2 := ⟨_, rfl⟩
  have g2 : w1.grownBy w2 none := by rw [← hw2]; exact World.grownBy_alloc _ _ none
  have b3 : Blk w2 (q + 1 + 1) 49 #[.slice (some ⟨q, 0, none⟩) 16 16] := by rw [← hw2, ← hs1]; exact Blk.new _ _ _
  have hbd : BytesI w2 (some ⟨q, 0, none⟩) d := row_bytesI w2 q d (by rw [← hdd]; exact (b1.grown g2 (by simp)))
  have HO := Lib.hid (of_is w2 (hR.grown (grown_trans g1 g2) (by simp)) 9 (some ⟨q + 1 + 1, 0, none⟩) 1 1 [d] rfl (parts1 b3 hd.1 (Nat.le_refl _) hbd) (by omega) (fun p hp => by obtain rfl := List.mem_singleton.1 hp; rw [hd.1]; omega))
  have HB := Lib.hid (And.intro (b2.grown g2 (by simp)) (And.intro (grown_trans g1 g2) (And.intro (show Z16.size = 16 by rw [hZ16]; rfl) hq)))
  have HW := Lib.hid (And.intro hw1 (And.intro hw2 hs1))
  obtain ⟨F, hF⟩ : ∃ F, arrV .u8 (forP d) = F := ⟨_, rfl⟩
  have hFz : F.size = 16 := by rw [← hF, arr_size]; exact ofS_length _ _
  have hFo : (F.all fun v => v.oneCell') = true := by rw [← hF]; exact arr_one _ _
  have HF := Lib.hid (And.intro hF (And.intro hFz hFo))
  clear hR hd hdd hZ16 b1 b2 g1 hs1 g2 b3 hbd hw1 hw2 hF hFz hFo
  go_enter Tryz.func94, Tryz.ntmps94
  go_wp2_with fail
  clear hz16 hsl
  rw [HW.out.1, HW.out.2.1]
  refine HO.out.mono ?_
  rintro e w3 ⟨rfl, g3⟩
  rw [show arrV .u8 (ofS 9 [d]) = F from HF.out.1]
  have HB3 := Lib.hid (And.intro (HB.out.1.grown g3 (by simp)) (grown_trans HB.out.2.1 g3))
  clear g3
  go_wp2_with (first
    | (refine wpList_store_row rfl 23 _ _ rfl (q + 1) F rfl rfl 23 _ HB3.out.1 (by rw [HF.out.2.1]; exact info16) (by rw [HF.out.2.1, HB.out.2.2.1]) HF.out.2.2 ?_))
  refine bodyPost_ret (results_cell rfl _ _ _ ⟨q + 1, 0, none⟩ (.agg F) rfl (run_loadVar_row _ (q + 1) 23 23 _ (0, 0) _ (HB3.out.1.row _) Tryz.underlying23 rfl (by rw [HF.out.2.1]; exact info16))) rfl ?_
  exact ⟨by rw [HF.out.1], grown_row HB3.out.2 (.inl (by rw [HB.out.2.2.2]; omega)) _⟩
set_option maxRecDepth 100000 in
set_option maxHeartbeats 1000000 in
theorem forL_is (e r h : Int) (he : -9223372036854775808 ≤ e ∧ e < 9223372036854775808) (hr : -9223372036854775808 ≤ r ∧ r < 9223372036854775808) (hh : -9223372036854775808 ≤ h ∧ h < 9223372036854775808) :
    Calls Tryz.prog 53 #[.int .i64 e, .int .i64 r, .int .i64 h] w fun e' w' => e' = .returned (.agg (arrV .u8 (forL e r h))) ∧ w.grownBy w' none := by
  obtain ⟨Z16, hZ16⟩ : ∃ Z, Z = arrV .u8 (List.replicate 16 0) := ⟨_, rfl⟩
  have hz16 : ∀ w, Sem.run Tryz.prog (zeroValue 23) w = .ok (.agg Z16) w := fun w => by rw [hZ16]; exact z16run w
  obtain ⟨w1, hw1⟩ : ∃ w1, w.alloc (.cells Z16 23) = w1 := ⟨_, rfl⟩
  obtain ⟨q, hq⟩ : ∃ q, w.heap.size = q := ⟨_, rfl⟩
  have b2 : Blk w1 q 23 Z16 := by rw [← hw1, ← hq]; exact Blk.new w _ _
  have g1 : w.grownBy w1 none := by rw [← hw1]; exact World.grownBy_alloc _ _ none
  have HB := Lib.hid (And.intro b2 (And.intro g1 (And.intro (show Z16.size = 16 by rw [hZ16]; rfl) hq)))
  have HW := Lib.hid (And.intro hw1 hR)
  obtain ⟨F, hF⟩ : ∃ F, arrV .u8 (forL e r h) = F := ⟨_, rfl⟩
  have hFz : F.size = 16 := by rw [← hF, arr_size]; exact ofS_length _ _
  have hFo : (F.all fun v => v.oneCell') = true := by rw [← hF]; exact arr_one _ _
  have HF := Lib.hid (And.intro hF (And.intro hFz hFo))
  have HX := Lib.hid (And.intro he (And.intro hr hh))
  clear hR hZ16 b2 g1 hw1 hF hFz hFo he hr hh
  go_enter Tryz.func53, Tryz.ntmps53
  go_wp2_with fail
  clear hz16
  rw [HW.out.1]
  refine (number_any w1 e HX.out.1).mono ?_
  rintro e1 w2 ⟨p1, rfl, x1, g2⟩
  have H2 := Lib.hid (And.intro x1 g2)
  clear x1 g2
  go_wp2_with fail
  refine (number_any w2 r HX.out.2.1).mono ?_
  rintro e1 w3 ⟨p2, rfl, x2, g3⟩
  have H3 := Lib.hid (And.intro x2 g3)
  clear x2 g3
  go_wp2_with fail
  refine (number_any w3 h HX.out.2.2).mono ?_
  rintro e1 w4 ⟨p3, rfl, x3, g4⟩
  have H4 := Lib.hid (And.intro x3 g4)
  clear x3 g4
  go_wp2_with fail
  have g5 : w4.grownBy (w4.alloc (.cells #[.slice (some ⟨p1, 0, none⟩) 8 8, .slice (some ⟨p2, 0, none⟩) 8 8, .slice (some ⟨p3, 0, none⟩) 8 8] 49)) none := World.grownBy_alloc _ _ none
  have b5 := Blk.new w4 49 #[.slice (some ⟨p1, 0, none⟩) 8 8, .slice (some ⟨p2, 0, none⟩) 8 8, .slice (some ⟨p3, 0, none⟩) 8 8]
  obtain ⟨w5, hw5⟩ : ∃ w5, w4.alloc (.cells #[.slice (some ⟨p1, 0, none⟩) 8 8, .slice (some ⟨p2, 0, none⟩) 8 8, .slice (some ⟨p3, 0, none⟩) 8 8] 49) = w5 := ⟨_, rfl⟩
  rw [hw5] at g5 b5 ⊢
  have g15 := grown_trans H2.out.2 (grown_trans H3.out.2 (grown_trans H4.out.2 g5))
  have HO := Lib.hid (of_is w5 (HW.out.2.grown (grown_trans HB.out.2.1 g15) (by simp)) 8 (some ⟨w4.heap.size, 0, none⟩) 3 3 [b8 e, b8 r, b8 h] rfl (parts3 b5 rfl rfl rfl (Nat.le_refl _) (Nat.le_refl _) (Nat.le_refl _) (H2.out.1.grown (grown_trans H3.out.2 (grown_trans H4.out.2 g5))) (H3.out.1.grown (grown_trans H4.out.2 g5)) (H4.out.1.grown g5)) (by omega) (fun p hp => by
    simp only [List.mem_cons, List.not_mem_nil, or_false] at hp
    rcases hp with rfl | rfl | rfl <;> (rw [b8_length]; omega)))
  have HG := Lib.hid (And.intro (HB.out.1.grown g15 (by simp)) (grown_trans HB.out.2.1 g15))
  clear g5 b5 g15 hw5
  refine HO.out.mono ?_
  rintro e1 w6 ⟨rfl, g6⟩
  rw [show arrV .u8 (ofS 8 [b8 e, b8 r, b8 h]) = F from HF.out.1]
  have HB3 := Lib.hid (And.intro (HG.out.1.grown g6 (by simp)) (grown_trans HG.out.2 g6))
  clear g6
  go_wp2_with (first
    | (refine wpList_store_row rfl 23 _ _ rfl q F rfl rfl 23 _ HB3.out.1 (by rw [HF.out.2.1]; exact info16) (by rw [HF.out.2.1, HB.out.2.2.1]) HF.out.2.2 ?_))
  refine bodyPost_ret (results_cell rfl _ _ _ ⟨q, 0, none⟩ (.agg F) rfl (run_loadVar_row _ q 23 23 _ (0, 0) _ (HB3.out.1.row _) Tryz.underlying23 rfl (by rw [HF.out.2.1]; exact info16))) rfl ?_
  exact ⟨by rw [HF.out.1], grown_row HB3.out.2 (.inl (by rw [HB.out.2.2.2]; exact Nat.le_refl _)) _⟩
set_option maxRecDepth 100000 in
set_option maxHeartbeats 1000000 in
theorem forV_is (e r : Int) (he : -9223372036854775808 ≤ e ∧ e < 9223372036854775808) (hr : -9223372036854775808 ≤ r ∧ r < 9223372036854775808) (d : List Int) (hd : isDig d) (dd : Array Value) (hdd : dd = arrV .u8 d) :
    Calls Tryz.prog 51 #[.int .i64 e, .int .i64 r, .agg dd] w fun e' w' => e' = .returned (.agg (arrV .u8 (forV e r d))) ∧ w.grownBy w' none := by
  obtain ⟨Z16, hZ16⟩ : ∃ Z, Z = arrV .u8 (List.replicate 16 0) := ⟨_, rfl⟩
  have hz16 : ∀ w, Sem.run Tryz.prog (zeroValue 23) w = .ok (.agg Z16) w := fun w => by rw [hZ16]; exact z16run w
  obtain ⟨q, hq⟩ : ∃ q, w.heap.size = q := ⟨_, rfl⟩
  obtain ⟨w1, hw1⟩ : ∃ w1, (w.alloc (.cells dd 23)).alloc (.cells Z16 23) = w1 := ⟨_, rfl⟩
  have b1 : Blk w1 q 23 dd := by rw [← hw1, ← hq]; exact (Blk.new w _ _).alloc _
  have b2 : Blk w1 (q + 1) 23 Z16 := by
    have h := Blk.new (w.alloc (.cells dd 23)) 23 Z16
    rw [World.size_alloc, hw1, hq] at h
    exact h
  have g1 : w.grownBy w1 none := by rw [← hw1]; exact grown_trans (World.grownBy_alloc _ _ none) (World.grownBy_alloc _ _ none)
  obtain ⟨V1, hV1⟩ : ∃ V1, w1.drew = V1 := ⟨_, rfl⟩
  have hb : Blk V1 (q + 1) 23 Z16 ∧ w.grownBy V1 none ∧ Blk V1 q 23 dd := by rw [← hV1]; exact ⟨b2.drew, grown_drew g1, b1.drew⟩
  have HB := Lib.hid (And.intro hb.1 (And.intro hb.2.1 (And.intro (show Z16.size = 16 by rw [hZ16]; rfl) (And.intro hq hb.2.2))))
  have HW := Lib.hid (And.intro (And.intro hw1 hV1) hR)
  have HSL := Lib.hid (fun V : World => dig_slice V q)
  obtain ⟨F, hF⟩ : ∃ F, arrV .u8 (forV e r d) = F := ⟨_, rfl⟩
  have hFz : F.size = 16 := by rw [← hF, arr_size]; exact ofS_length _ _
  have hFo : (F.all fun v => v.oneCell') = true := by rw [← hF]; exact arr_one _ _
  have HF := Lib.hid (And.intro hF (And.intro hFz hFo))
  have HX := Lib.hid (And.intro he (And.intro hr (And.intro hd.1 hdd)))
  clear hR hZ16 b1 b2 g1 hw1 hV1 hF hFz hFo he hr hd hdd hb
  go_enter Tryz.func51, Tryz.ntmps51
  go_wp2_with fail
  clear hz16
  rw [HW.out.1.1]
  refine wp_region_held_drew (S := fun V => True) (by kernel_rfl) trivial (fun hHeld => ?_)
  rw [HW.out.1.2]
  refine wpAnyH_take (i := 0) (oi := _) (v := ?vv0) rfl (by kernel_rfl) (by kernel_rfl) (by kernel_rfl) (fun _ _ _ h => h) (Or.inl ⟨by rfl, ?hyv0⟩) (by assumption) ?restv0
  case hyv0 => (intro V hSw; (try dsimp only at hSw); go_simp) <;> with_reducible rfl
  try simp only [Act.put, List.getElem_toArray, List.getElem_cons_succ, List.getElem_cons_zero, List.setIfInBounds_toArray, List.set_cons_zero, List.set_cons_succ]
  refine wpAnyH_take (i := 2) (oi := _) (v := ?vv2) rfl (by kernel_rfl) (by kernel_rfl) (by kernel_rfl) (fun _ _ _ h => h) (Or.inl ⟨by rfl, ?hyv2⟩) (by assumption) ?restv2
  case hyv2 => (intro V hSw; (try dsimp only at hSw); go_simp) <;> with_reducible rfl
  try simp only [Act.put, List.getElem_toArray, List.getElem_cons_succ, List.getElem_cons_zero, List.setIfInBounds_toArray, List.set_cons_zero, List.set_cons_succ]
  refine wpAnyH_take (i := 4) (oi := _) (v := .slice (some ⟨q, 0, none⟩) 16 16) rfl (by kernel_rfl) (by kernel_rfl) (by kernel_rfl) (fun _ _ _ h => h) (Or.inl ⟨by rfl, ?hyv4⟩) (by assumption) ?restv4
  case hyv4 => intro V hSw; have hsl := HSL.out V; go_simp
  try simp only [Act.put, List.getElem_toArray, List.getElem_cons_succ, List.getElem_cons_zero, List.setIfInBounds_toArray, List.set_cons_zero, List.set_cons_succ]
  refine wpAnyH_ready (rs := [1]) (by kernel_rfl) (by simp) ?_
  refine (AllReadyH.cons (o := _) rfl (fun K9 hK => ?_) AllReadyH.nil)
  go_simp
  refine (number_any V1 e HX.out.1).mono ?_
  rintro e1 w2 ⟨p1, rfl, x1, g2⟩
  have H2 := Lib.hid (And.intro x1 g2)
  clear x1 g2
  (try go_wp2_with fail)
  refine hK.out _ _ trivial (fun hHeld => ?_)
  clear hK K9
  try simp only [Act.put, List.getElem_toArray, List.getElem_cons_succ, List.getElem_cons_zero, List.setIfInBounds_toArray, List.set_cons_zero, List.set_cons_succ]
  refine wpAnyH_ready (rs := [3]) (by kernel_rfl) (by simp) ?_
  refine (AllReadyH.cons (o := _) rfl (fun K9 hK => ?_) AllReadyH.nil)
  go_simp
  refine (number_any w2 r HX.out.2.1).mono ?_
  rintro e1 w3 ⟨p2, rfl, x2, g3⟩
  have H3 := Lib.hid (And.intro x2 g3)
  clear x2 g3
  (try go_wp2_with fail)
  refine hK.out _ _ trivial (fun hHeld => ?_)
  clear hK K9
  try simp only [Act.put, List.getElem_toArray, List.getElem_cons_succ, List.getElem_cons_zero, List.setIfInBounds_toArray, List.set_cons_zero, List.set_cons_succ]
  refine wpAnyH_ready (rs := [5]) (by kernel_rfl) (by simp) ?_
  refine (AllReadyH.cons (o := _) rfl (fun K9 hK => ?_) AllReadyH.nil)
  go_simp
  have g5 : w3.grownBy (w3.alloc (.cells #[.slice (some ⟨p1, 0, none⟩) 8 8, .slice (some ⟨p2, 0, none⟩) 8 8, .slice (some ⟨q, 0, none⟩) 16 16] 49)) none := World.grownBy_alloc _ _ none
  have b5 := Blk.new w3 49 #[.slice (some ⟨p1, 0, none⟩) 8 8, .slice (some ⟨p2, 0, none⟩) 8 8, .slice (some ⟨q, 0, none⟩) 16 16]
  obtain ⟨w5, hw5⟩ : ∃ w5, w3.alloc (.cells #[.slice (some ⟨p1, 0, none⟩) 8 8, .slice (some ⟨p2, 0, none⟩) 8 8, .slice (some ⟨q, 0, none⟩) 16 16] 49) = w5 := ⟨_, rfl⟩
  rw [hw5] at g5 b5 ⊢
  have g15 := grown_trans H2.out.2 (grown_trans H3.out.2 g5)
  have HO := Lib.hid (of_is w5 (HW.out.2.grown (grown_trans HB.out.2.1 g15) (by simp)) 7 (some ⟨w3.heap.size, 0, none⟩) 3 3 [b8 e, b8 r, d] rfl (parts3 b5 rfl rfl HX.out.2.2.1 (Nat.le_refl _) (Nat.le_refl _) (Nat.le_refl _) (H2.out.1.grown (grown_trans H3.out.2 g5)) (H3.out.1.grown g5) (row_bytesI w5 q d (by rw [← HX.out.2.2.2]; exact HB.out.2.2.2.2.grown g15 (by simp)))) (by omega) (fun p hp => by
    simp only [List.mem_cons, List.not_mem_nil, or_false] at hp
    rcases hp with rfl | rfl | rfl
    · rw [b8_length]; omega
    · rw [b8_length]; omega
    · rw [HX.out.2.2.1]; omega))
  have HG := Lib.hid (And.intro (HB.out.1.grown g15 (by simp)) (grown_trans HB.out.2.1 g15))
  clear g5 b5 g15 hw5
  refine hK.out _ _ trivial (fun hHeld => ?_)
  clear hK K9
  try simp only [Act.put, List.getElem_toArray, List.getElem_cons_succ, List.getElem_cons_zero, List.setIfInBounds_toArray, List.set_cons_zero, List.set_cons_succ]
  refine wpAnyH_ready (rs := [6]) (by kernel_rfl) (by simp) ?_
  refine (AllReadyH.cons (o := _) rfl (fun K9 hK => ?_) AllReadyH.nil)
  go_simp
  refine HO.out.mono ?_
  rintro e1 w6 ⟨rfl, g6⟩
  rw [show arrV .u8 (ofS 7 [b8 e, b8 r, d]) = F from HF.out.1]
  have HB3 := Lib.hid (And.intro (HG.out.1.grown g6 (by simp)) (grown_trans HG.out.2 g6))
  clear g6
  (try go_wp2_with fail)
  refine hK.out _ _ trivial (fun hHeld => ?_)
  clear hK K9
  try simp only [Act.put, List.getElem_toArray, List.getElem_cons_succ, List.getElem_cons_zero, List.setIfInBounds_toArray, List.set_cons_zero, List.set_cons_succ]
  refine wpAnyH_ready (rs := [7]) (by kernel_rfl) (by simp) ?_
  refine (AllReadyH.cons (o := _) rfl (fun K9 hK => ?_) AllReadyH.nil)
  refine ready_store_mid (by rfl) 23 _ _ rfl (q + 1) 0 F rfl rfl (there_blk HB3.out.1 (by rw [HF.out.2.1, HB.out.2.2.1]; exact Nat.le_refl _)) (by rw [HF.out.2.1]; exact info16) HF.out.2.2 ?_
  rw [setCells_row (P := Tryz.prog) (ty := 23) HB3.out.1 (by rw [HF.out.2.1]; exact info16) (by rw [HF.out.2.1, HB.out.2.2.1]) HF.out.2.2]
  refine hK.out _ _ trivial (fun hHeld => ?_)
  clear hK K9
  try simp only [Act.put, List.getElem_toArray, List.getElem_cons_succ, List.getElem_cons_zero, List.setIfInBounds_toArray, List.set_cons_zero, List.set_cons_succ]
  refine wpAnyH_done (by kernel_rfl) ?_ _
  go_wp2_with fail
  refine bodyPost_ret (results_cell rfl _ _ _ ⟨q + 1, 0, none⟩ (.agg F) rfl (run_loadVar_row _ (q + 1) 23 23 _ (0, 0) _ (HB3.out.1.row _) Tryz.underlying23 rfl (by rw [HF.out.2.1]; exact info16))) rfl ?_
  exact ⟨by rw [HF.out.1], grown_row HB3.out.2 (.inl (by rw [HB.out.2.2.2.1]; omega)) _⟩
end
end Go.Proofs.YthkjlgjbjjjohaaGreatDoor
/-
  Guard: a state's bytes, and read again; a guard in memory; keep.
-/
namespace Go.Proofs.YthkjlgjbjjjohaaGreatDoor
open Go.RowKit Go.Maps

def St.ok (t : St) : Prop := rightB t.e t.v t.l t.p t.f = true
def stBs (t : St) : List UInt8 := stB t.e.toNat t.v.toNat t.l.toNat t.p.toNat t.f.toNat
theorem stBs_len (t : St) : (stBs t).length = 23 := stB_len _ _ _ _ _
theorem St.nat {t : St} (h : t.ok) : t.e = (t.e.toNat : Int) ∧ t.v = (t.v.toNat : Int) ∧ t.l = (t.l.toNat : Int) ∧ t.p = (t.p.toNat : Int) ∧ t.f = (t.f.toNat : Int) := by
  have := right_yes _ _ _ _ _ h
  omega
theorem sbytes_st (w : World) (t : St) (h : t.ok) : Calls Tryz.prog 88 #[t.val] w fun en w' => ∃ A c, en = .returned (.tuple #[.slice A 23 c, .nilIface]) ∧ BytesAt w' A (stBs t) ∧ w.grownBy w' none ∧ ∀ ad, A = some ad → w.heap.size ≤ ad.block := by
  obtain ⟨h1, h2, h3, h4, h5⟩ := St.nat h
  have h0 : rightB t.e.toNat t.v.toNat t.l.toNat t.p.toNat t.f.toNat = true := by
    rw [← h1, ← h2, ← h3, ← h4, ← h5]; exact h
  have hc := sbytes_new w t.e.toNat t.v.toNat t.l.toNat t.p.toNat t.f.toNat h0
  rw [← h1, ← h2, ← h3, ← h4, ← h5] at hc
  exact hc
theorem read_st (w : World) (B : Nat) (hB : B ≤ w.heap.size) (E : Nat → Addr) (he : ErrEnv w B E) (A : Option Addr) (c : Nat) (t : St) (h : t.ok) (hb : BytesAt w A (stBs t)) :
    Calls Tryz.prog 37 #[.slice A 23 c] w fun en w' => en = .returned (.tuple #[t.val, .nilIface]) ∧ w.grownBy w' none := by
  have hr := right_yes _ _ _ _ _ h
  obtain ⟨h1, h2, h3, h4, h5⟩ := St.nat h
  have q1 : pNum 4 0 (stBs t) = _ := pNum_be 4 t.e.toNat _ (by omega) (by omega) (by omega) (by omega)
  have q2 := pNum_be 6 t.v.toNat (be 6 t.l.toNat ++ (be 6 t.p.toNat ++ be 1 t.f.toNat)) (by omega) (by omega) (by omega) (by omega)
  have q3 := pNum_be 6 t.l.toNat (be 6 t.p.toNat ++ be 1 t.f.toNat) (by omega) (by omega) (by omega) (by omega)
  have q4 := pNum_be 6 t.p.toNat (be 1 t.f.toNat) (by omega) (by omega) (by omega) (by omega)
  have q5 := pNum_be 1 t.f.toNat [] (by omega) (by omega) (by omega) (by omega)
  rw [List.append_nil] at q5
  have e0 : rightB t.e.toNat t.v.toNat t.l.toNat t.p.toNat t.f.toNat = true := by
    rw [← h1, ← h2, ← h3, ← h4, ← h5]; exact h
  have e1 : rdE 0 t.e.toNat t.v.toNat t.l.toNat t.p.toNat t.f.toNat = 0 := by
    rw [rdE, if_neg (by simp), if_pos e0]
  have e2 : rdV 0 t.e.toNat t.v.toNat t.l.toNat t.p.toNat t.f.toNat = stC t.e t.v t.l t.p t.f := by
    rw [rdV, if_pos e1, ← h1, ← h2, ← h3, ← h4, ← h5]
  exact read_is w B hB E he A 23 c (stBs t) (stBs_len t) hb (by omega) _ _ _ q1 _ _ _ q2 _ _ _ q3 _ _ _ q4 _ _ _ q5 0 rfl _ e2 _ (by rw [e1]; rfl)
/-- Where a guard lies: its block, its key's, its leaves', its slots', its disk's. -/
structure GdP where (g kb lb cap s d b m : Nat)
def GdP.F (P : GdP) (j : Nat) : Prop := j = P.d ∨ j = P.b ∨ j = P.m ∨ j = P.s ∨ j = P.g
/-- A guard in memory: its disk, its slots with the record rc of count cn, its key, its state. -/
structure GdIs (w0 w : World) (P : GdP) (base : Int) (seed : List Int) (z : DkS) (cn : Nat) (rc : List UInt8) (st : St) : Prop where
  dk : Dsk w0 w P.d P.b P.m z
  sl : SlAt w P.s P.d P.b P.m base cn rc
  gd : Blk w P.g 69 #[.pointer (some ⟨P.kb, 0, none⟩), .pointer (some ⟨P.s, 0, none⟩), .int .i64 st.e, .int .i64 st.v, .int .i64 st.l, .int .i64 st.p, .int .i64 st.f]
  ky : KeyAt w P.kb (arrV .u8 seed) (.slice (some ⟨P.lb, 0, none⟩) 32 P.cap) (arrV .u8 (rootC seed))
  lv : DigsAt w P.lb 0 (leavesC seed)
  far : SlFar w P.s P.g
  ne : (P.g ≠ P.d ∧ P.g ≠ P.b ∧ P.g ≠ P.m ∧ P.g ≠ P.s) ∧ ¬ P.F P.kb ∧ ¬ P.F P.lb
  low : w0.heap.size ≤ P.s ∧ w0.heap.size ≤ P.g
theorem KeyAt.kept {w w' : World} {F : Nat → Prop} {kb : Nat} {sd rt : Array Value} {lv : Value} (h : KeyAt w kb sd lv rt) (hk : Kept F w w') (hn : ¬ F kb) : KeyAt w' kb sd lv rt :=
  ⟨fun j v hv => hk.cell (h.1 j v hv) hn, hk.cell h.2.1 hn, fun j v hv => hk.cell (h.2.2.1 j v hv) hn, fun j hj => ⟨by
    obtain ⟨v, hv⟩ := Option.isSome_iff_exists.1 (h.2.2.2 j hj).1
    rw [hk.cell hv hn]; rfl, by
    obtain ⟨v, hv⟩ := Option.isSome_iff_exists.1 (h.2.2.2 j hj).1
    rw [World.frozen?_of_block (hk.block kb (World.block_lt_of_cell? w _ hv) hn)]
    exact (h.2.2.2 j hj).2⟩⟩
theorem DigsAt.kept {w w' : World} {F : Nat → Prop} {b off : Nat} {ps : List (List Int)} (h : DigsAt w b off ps) (hk : Kept F w w') (hn : ¬ F b) : DigsAt w' b off ps := fun j hj i v hv => hk.cell (h j hj i v hv) hn
section
variable {w0 w w' : World} {P : GdP} {base : Int} {seed : List Int} {z : DkS} {cn : Nat} {rc : List UInt8} {st : St}
theorem GdIs.grown (h : GdIs w0 w P base seed z cn rc st) (hg : w.grownBy w' none) : GdIs w0 w' P base seed z cn rc st :=
  ⟨h.dk.grown hg, h.sl.grown hg, h.gd.grown hg (by simp), h.ky.grown hg, h.lv.grown hg, h.far.kept (Kept.of_grown (F := fun _ => False) hg fun _ e => by cases e) (fun h => h), h.ne, h.low⟩
theorem GdIs.lt (h : GdIs w0 w P base seed z cn rc st) : P.d < w.heap.size ∧ P.b < w.heap.size ∧ P.m < w.heap.size ∧ P.s < w.heap.size ∧ P.g < w.heap.size := by
  obtain ⟨D, hD, _⟩ := h.dk.1.2.2.1
  obtain ⟨_, _, _, hS, _⟩ := h.sl
  exact ⟨h.dk.1.1.lt, h.dk.1.2.1.lt, hD.lt, hS.lt, h.gd.lt⟩
/-- A block beside the guard is written. -/
theorem GdIs.beside (h : GdIs w0 w P base seed z cn rc st) {x : Nat} (hk : Kept (fun j => j = x) w w') (hF : ¬ P.F x ∧ x ≠ P.kb ∧ x ≠ P.lb) (hx : w0.heap.size ≤ x) (hf : SlFar w P.s x) : GdIs w0 w' P base seed z cn rc st := by
  have h0 := hF.1
  simp only [GdP.F] at h0
  exact ⟨⟨h.dk.1.kept hk ⟨by omega, by omega, by omega⟩, h.dk.2.1.next hk (fun j _ e => by have e : j = x := e; show w0.heap.size ≤ j; omega), h.dk.2.2⟩,
    h.sl.far hf (by omega) hk, h.gd.kept hk (by omega), h.ky.kept hk (fun e => hF.2.1 e.symm), h.lv.kept hk (fun e => hF.2.2 e.symm), h.far.kept hk (by omega), h.ne, h.low⟩
theorem GdIs.lt2 (h : GdIs w0 w P base seed z cn rc st) : P.kb < w.heap.size ∧ P.lb < w.heap.size := by
  refine ⟨h.ky.lt, ?_⟩
  have h0 := h.lv 0 (by rw [leavesC_length]; omega)
  have h1 : (arrV .u8 ((leavesC seed).getD 0 zeroC)).toList ≠ [] := by
    intro e
    have h2 := congrArg List.length e
    rw [Array.length_toList, arr_size] at h2
    have h3 := (leavesC_dig seed ((leavesC seed).getD 0 zeroC) (by
      rw [List.getD, List.getElem?_eq_getElem (by rw [leavesC_length]; omega)]
      exact List.getElem_mem _)).1
    rw [h3] at h2
    simp at h2
  obtain ⟨v, r, hv⟩ := List.exists_cons_of_ne_nil h1
  exact World.block_lt_of_cell? w _ (h0 0 v (by rw [hv]; rfl))
set_option maxRecDepth 100000 in
set_option maxHeartbeats 1000000 in
theorem gkeep_is (h : GdIs w0 w P base seed z cn rc st) (hR : Rounds w0) (E : Nat → Addr) (he : ErrEnv w0 w0.heap.size E) (t : St) (ht : t.ok) (hcn : cn < 9223372036854775000) (hb : 0 ≤ base ∧ base < 1000000) :
    Calls Tryz.prog 48 #[.pointer (some ⟨P.g, 0, none⟩), t.val] w fun e w' =>
      ((putE z base cn (stBs t) ≠ 0 ∧ e = .returned (eV (E 0) (E 5) (putE z base cn (stBs t))) ∧ GdIs w0 w' P base seed (putZ z base cn (stBs t)) cn rc st) ∨
       (putE z base cn (stBs t) = 0 ∧ e = .returned .nilIface ∧ GdIs w0 w' P base seed (putZ z base cn (stBs t)) (cn + 1) (stBs t) t)) ∧ Kept P.F w w' ∧ ∀ j, j < w.heap.size → SlFar w P.s j → SlFar w' P.s j := by
  obtain ⟨q, hq⟩ : ∃ q, w.heap.size = q := ⟨_, rfl⟩
  obtain ⟨W1, hW1⟩ : ∃ W1, w.alloc (.cells (stC t.e t.v t.l t.p t.f) 46) = W1 := ⟨_, rfl⟩
  have gW1 : w.grownBy W1 none := by rw [← hW1]; exact World.grownBy_alloc _ _ none
  have bq : Blk W1 q 46 (stC t.e t.v t.l t.p t.f) := by rw [← hW1, ← hq]; exact Blk.new _ _ _
  have hlt := h.lt
  rw [hq] at hlt
  have HX := Lib.hid (And.intro h (And.intro hR (And.intro he (And.intro ht (And.intro hlt (And.intro gW1 bq))))))
  have HW := Lib.hid (And.intro hq hW1)
  have HB := Lib.hid (sbytes_st W1 t ht)
  have y0 := bq.cell 0
  have y1 := bq.cell 1
  have y2 := bq.cell 2
  have y3 := bq.cell 3
  have y4 := bq.cell 4
  simp only [List.getElem?_toArray, List.getElem?_cons_zero, List.getElem?_cons_succ] at y0 y1 y2 y3 y4
  clear h hR he ht gW1 bq hlt hq hW1
  go_enter Tryz.func48, Tryz.ntmps48
  go_upto_region 1 with (fail)
  rw [HW.out.2, HW.out.1]
  go_wp2_with fail
  refine HB.out.mono ?_
  rintro e w2 ⟨A2, c2, rfl, hb2, g2, hA2⟩
  have h2 := HX.out.1.grown (grown_trans HX.out.2.2.2.2.2.1 g2)
  have b2 := HX.out.2.2.2.2.2.2.grown g2 (by simp)
  have z1 := h2.gd.cell 1
  simp only [List.getElem?_toArray, List.getElem?_cons_zero, List.getElem?_cons_succ] at z1
  have hA3 : ∀ ad, A2 = some ad → q < ad.block := fun ad e => by have := hA2 ad e; have := HX.out.2.2.2.2.2.2.lt; omega
  have hq2 : q < w2.heap.size := by have := HX.out.2.2.2.2.2.2.lt; have := g2.size; omega
  have H2 := Lib.hid (And.intro h2 (And.intro b2 (And.intro hb2 (And.intro (grown_trans HX.out.2.2.2.2.2.1 g2) (And.intro hA3 hq2)))))
  clear h2 b2 hb2 g2 y0 y1 y2 y3 y4 hA2 hA3 hq2
  have hput := sput_any w0 w2 P.d P.b P.m P.s z base cn rc H2.out.1.dk H2.out.1.sl HX.out.2.1 A2 23 c2 (stBs t) (stBs_len t) H2.out.2.2.1 (E 0) (E 5) (E 7) (HX.out.2.2.1.var 0 (by omega)) (HX.out.2.2.1.var 5 (by omega)) H2.out.1.low.1 (fun ad e _ => by
    have := H2.out.2.2.2.2.1 ad e
    have := HX.out.2.2.2.2.1
    omega) (HX.out.2.2.1.var 7 (by omega)) (by omega) hb
  have HP := Lib.hid hput
  clear hput
  go_wp2_with fail
  refine HP.out.mono ?_
  clear HP
  rintro e w3 ⟨hor, hk3, hf3⟩
  have hg3 := H2.out.1.gd.kept hk3 (show ¬ (P.g = P.d ∨ P.g = P.b ∨ P.g = P.m ∨ P.g = P.s) by have := H2.out.1.ne.1; omega)
  have hb3 := H2.out.2.1.kept hk3 (show ¬ (q = P.d ∨ q = P.b ∨ q = P.m ∨ q = P.s) by have := HX.out.2.2.2.2.1; omega)
  have hnk : ¬ (P.kb = P.d ∨ P.kb = P.b ∨ P.kb = P.m ∨ P.kb = P.s) ∧ ¬ (P.lb = P.d ∨ P.lb = P.b ∨ P.lb = P.m ∨ P.lb = P.s) := by
    have h1 := H2.out.1.ne.2
    simp only [GdP.F] at h1
    omega
  have hky3 := H2.out.1.ky.kept hk3 hnk.1
  have hlv3 := H2.out.1.lv.kept hk3 hnk.2
  have hfj : ∀ j, j < w.heap.size → SlFar w P.s j → SlFar w3 P.s j := fun j hj hf => hf3 j (Nat.lt_of_lt_of_le hj H2.out.2.2.2.1.size) (hf.kept (Kept.of_grown (F := fun _ => False) H2.out.2.2.2.1 fun _ e => by cases e) (fun h => h))
  have hfa3 := hf3 P.g (by have := H2.out.1.lt; omega) H2.out.1.far
  have hkF : Kept P.F w w3 := (Kept.of_grown (F := P.F) H2.out.2.2.2.1 (fun _ e => by cases e)).next hk3 (fun j _ h => by
    rcases h with h | h | h | h
    · exact .inl h
    · exact .inr (.inl h)
    · exact .inr (.inr (.inl h))
    · exact .inr (.inr (.inr (.inl h))))
  rcases hor with ⟨hbad, _⟩ | ⟨_, hful, _⟩ | ⟨_, _, hd3, hor⟩
  · rw [stBs_len] at hbad; omega
  · omega
  rcases hor with ⟨hne, rfl, hs3⟩ | ⟨h0, rfl, hs3⟩
  · have H3 := Lib.hid (And.intro hne (And.intro (show GdIs w0 w3 P base seed (putZ z base cn (stBs t)) cn rc st from ⟨hd3, hs3, hg3, hky3, hlv3, hfa3, H2.out.1.ne, H2.out.1.low⟩) hkF))
    have HFA := Lib.hid hfj
    obtain ⟨a, ha⟩ := eV_ne (er := E 0) (ep := E 5) hne
    have HA := Lib.hid ha
    rw [ha]
    clear ha hne hfj hk3 hf3 hg3 hb3 hky3 hlv3 hfa3 hkF hd3 hs3
    go_wp2_with fail
    go_ret
    exact ⟨.inl ⟨H3.out.1, by rw [HA.out]; rfl, H3.out.2.1⟩, H3.out.2.2, HFA.out⟩
  · have y0 := hb3.cell 0
    have y1 := hb3.cell 1
    have y2 := hb3.cell 2
    have y3 := hb3.cell 3
    have y4 := hb3.cell 4
    have x2 := hg3.cell 2
    have x3 := hg3.cell 3
    have x4 := hg3.cell 4
    have x5 := hg3.cell 5
    have x6 := hg3.cell 6
    have f2 := hg3.frozen 2
    have f3 := hg3.frozen 3
    have f4 := hg3.frozen 4
    have f5 := hg3.frozen 5
    have f6 := hg3.frozen 6
    simp only [List.getElem?_toArray, List.getElem?_cons_zero, List.getElem?_cons_succ] at y0 y1 y2 y3 y4 x2 x3 x4 x5 x6
    have hset := ((((hg3.set 2 (.int .i64 t.e)).set 3 (.int .i64 t.v)).set 4 (.int .i64 t.l)).set 5 (.int .i64 t.p)).set 6 (.int .i64 t.f)
    simp only [List.setIfInBounds_toArray, List.set_cons_zero, List.set_cons_succ] at hset
    have hk8 : Kept (fun j => j = P.g) w3 (((((w3.setCell ⟨P.g, 2, none⟩ (.int .i64 t.e)).setCell ⟨P.g, 3, none⟩ (.int .i64 t.v)).setCell ⟨P.g, 4, none⟩ (.int .i64 t.l)).setCell ⟨P.g, 5, none⟩ (.int .i64 t.p)).setCell ⟨P.g, 6, none⟩ (.int .i64 t.f)) :=
      (((((Kept.refl (fun j => j = P.g) w3).set (p := ⟨P.g, 2, none⟩) (.inl rfl) _).set (p := ⟨P.g, 3, none⟩) (.inl rfl) _).set (p := ⟨P.g, 4, none⟩) (.inl rfl) _).set (p := ⟨P.g, 5, none⟩) (.inl rfl) _).set (p := ⟨P.g, 6, none⟩) (.inl rfl) _
    have hne := H2.out.1.ne
    have hnk2 : ¬ P.kb = P.g ∧ ¬ P.lb = P.g := by
      have h1 := hne.2
      simp only [GdP.F] at h1
      omega
    have hfin : GdIs w0 (((((w3.setCell ⟨P.g, 2, none⟩ (.int .i64 t.e)).setCell ⟨P.g, 3, none⟩ (.int .i64 t.v)).setCell ⟨P.g, 4, none⟩ (.int .i64 t.l)).setCell ⟨P.g, 5, none⟩ (.int .i64 t.p)).setCell ⟨P.g, 6, none⟩ (.int .i64 t.f)) P base seed (putZ z base cn (stBs t)) (cn + 1) (stBs t) t :=
      ⟨⟨hd3.1.kept hk8 ⟨fun e => hne.1.1 e.symm, fun e => hne.1.2.1 e.symm, fun e => hne.1.2.2.1 e.symm⟩, hd3.2.1.next hk8 (fun j _ h => by have h : j = P.g := h; have := H2.out.1.low.2; show w0.heap.size ≤ j; omega), hd3.2.2⟩,
        hs3.far hfa3 hne.1.2.2.2 hk8, hset, hky3.kept hk8 hnk2.1, hlv3.kept hk8 hnk2.2, hfa3.kept hk8 (fun e => hne.1.2.2.2 e.symm), hne, H2.out.1.low⟩
    have H3 := Lib.hid (And.intro h0 (And.intro hfin (And.intro (hkF.next hk8 (fun j _ h => .inr (.inr (.inr (.inr h))))) (fun j hj hf => (hfj j hj hf).kept hk8 (fun e => hne.1.2.2.2 e.symm) : ∀ j, j < w.heap.size → SlFar w P.s j → SlFar _ P.s j))))
    clear h0 hfj hk3 hf3 hg3 hb3 hky3 hlv3 hfa3 hkF hd3 hs3 hset hk8 hne hnk2 hfin
    go_wp2_with fail
    go_ret
    exact ⟨.inr ⟨H3.out.1, rfl, H3.out.2.1⟩, H3.out.2.2.1, H3.out.2.2.2⟩
end
end Go.Proofs.YthkjlgjbjjjohaaGreatDoor
/-
  Guard: sign.
-/
namespace Go.Proofs.YthkjlgjbjjjohaaGreatDoor
open Go.RowKit Go.Maps

/-- What signing by a leaf answers. -/
def SigR (w w' : World) (e : Ending) (seed : List Int) (lf : Int) (i : Nat) (d : List Int) : Prop :=
  ∃ b p pc, e = .returned (.tuple #[.agg (sigV lf (.slice (some ⟨b, 0, none⟩) 68 68) (.slice (some ⟨p, 0, none⟩) 5 pc)), .nilIface]) ∧ w.heap.size ≤ b ∧ w.heap.size ≤ p ∧ 5 ≤ pc ∧ SigAt w' seed lf i d b p
theorem sigZ_one : (sigZ.all fun v => v.oneCell') = true := by kernel_rfl
/-- What the guard's signing by leaf i answers, and what lies behind it. -/
def SgnPost (w0 w w' : World) (e : Ending) (P : GdP) (base : Int) (seed : List Int) (z : DkS) (cn : Nat) (rc : List UInt8) (st t : St) (i : Nat) (m : List Int) (er ep : Addr) : Prop :=
  ((putE z base cn (stBs t) ≠ 0 ∧ e = .returned (.tuple #[.agg sigZ, eV er ep (putE z base cn (stBs t))]) ∧ GdIs w0 w' P base seed (putZ z base cn (stBs t)) cn rc st) ∨
   (putE z base cn (stBs t) = 0 ∧ SigR w w' e seed st.f i m ∧ GdIs w0 w' P base seed (putZ z base cn (stBs t)) (cn + 1) (stBs t) t)) ∧ Kept P.F w w' ∧ ∀ j, j < w.heap.size → SlFar w P.s j → SlFar w' P.s j
theorem SgnPost.form {w0 w w' : World} {e : Ending} {P : GdP} {base : Int} {seed : List Int} {z : DkS} {cn : Nat} {rc : List UInt8} {st t : St} {i : Nat} {m : List Int} {er ep : Addr} (h : SgnPost w0 w w' e P base seed z cn rc st t i m er ep) :
    ∃ sg ev, e = .returned (.tuple #[.agg sg, ev]) ∧ sg.size = 3 ∧ (sg.all fun v => v.oneCell') = true := by
  rcases h.1 with ⟨_, rfl, _⟩ | ⟨_, ⟨b, p, pc, rfl, _⟩, _⟩
  · exact ⟨_, _, rfl, rfl, sigZ_one⟩
  · exact ⟨_, _, rfl, rfl, sigV_one _ _ _ _ _ _ _⟩
theorem row_kept {w : World} {x : Nat} (sv : Array Value) : Kept (fun j => j = x) w (w.setRow x sv) := Kept.of_grown (grown_row (World.grownBy.refl w (some x)) (.inr rfl) _) (fun _ e => by injection e with e; exact e.symm)
theorem SgnPost.store {w0 w w1 w' : World} {e : Ending} {P : GdP} {base : Int} {seed : List Int} {z : DkS} {cn : Nat} {rc : List UInt8} {st t : St} {i : Nat} {m : List Int} {er ep : Addr} (h : SgnPost w0 w1 w' e P base seed z cn rc st t i m er ep) {x : Nat} (sv : Array Value) (h1 : x < w1.heap.size) (h0 : w.heap.size ≤ x) (hg : w.grownBy w1 none) (hF : ¬ P.F x ∧ x ≠ P.kb ∧ x ≠ P.lb) (hx : w0.heap.size ≤ x) (hf : SlFar w1 P.s x) :
    SgnPost w0 w (w'.setRow x sv) e P base seed z cn rc st t i m er ep := by
  have hk := row_kept (w := w') (x := x) sv
  have hf' := h.2.2 x h1 hf
  have hs : ¬ P.s = x := fun e => hF.1 (by simp only [GdP.F]; omega)
  refine ⟨?_, ((Kept.of_grown (F := P.F) hg fun _ e => by cases e).next h.2.1 (fun _ _ h => h)).next hk (fun j hj e => by have e : j = x := e; omega), fun j hj hj' => ?_⟩
  · rcases h.1 with ⟨a, b, c⟩ | ⟨a, ⟨b, p, pc, e1, e2, e3, e4, e5⟩, c⟩
    · exact .inl ⟨a, b, c.beside hk hF hx hf'⟩
    · exact .inr ⟨a, ⟨b, p, pc, e1, Nat.le_trans hg.size e2, Nat.le_trans hg.size e3, e4, e5.to (row := some x) (grown_row (World.grownBy.refl w' (some x)) (.inr rfl) _) (fun e => by injection e; omega) (fun e => by injection e; omega)⟩, c.beside hk hF hx hf'⟩
  · exact (h.2.2 j (Nat.lt_of_lt_of_le hj hg.size) (hj'.kept (Kept.of_grown (F := fun _ => False) hg fun _ e => by cases e) (fun h => h))).kept hk hs
section
variable {w0 w w' : World} {P : GdP} {base : Int} {seed : List Int} {z : DkS} {cn : Nat} {rc : List UInt8} {st : St}
set_option maxRecDepth 100000 in
set_option maxHeartbeats 1000000 in
theorem gsign_is (h : GdIs w0 w P base seed z cn rc st) (hR : Rounds w0) (E : Nat → Addr) (he : ErrEnv w0 w0.heap.size E) (hseed : isDig seed) (t : St) (ht : t.ok) (hcn : cn < 9223372036854775000) (hb : 0 ≤ base ∧ base < 1000000) (i : Nat) (hi : i < 32) (hf : st.f = (i : Int)) (d : List Int) (hd : isDig d) (dd : Array Value) (hdd : dd = arrV .u8 d) :
    Calls Tryz.prog 50 #[.pointer (some ⟨P.g, 0, none⟩), t.val, .agg dd] w fun e w' =>
      SgnPost w0 w w' e P base seed z cn rc st t i d (E 0) (E 5) := by
  have hz30 := sigz_run
  have hzb := sigz_build
  obtain ⟨q, hq⟩ : ∃ q, w.heap.size = q := ⟨_, rfl⟩
  obtain ⟨W1, hW1⟩ : ∃ W1, ((w.alloc (.cells (stC t.e t.v t.l t.p t.f) 46)).alloc (.cells dd 23)).alloc (.cells sigZ 73) = W1 := ⟨_, rfl⟩
  have b0 : Blk W1 q 46 (stC t.e t.v t.l t.p t.f) := by rw [← hW1, ← hq]; exact ((Blk.new _ _ _).alloc _).alloc _
  have b1 : Blk W1 (q + 1) 23 dd := by
    have h := (Blk.new (w.alloc (.cells (stC t.e t.v t.l t.p t.f) 46)) 23 dd).alloc (.cells sigZ 73)
    rw [World.size_alloc, hq, hW1] at h
    exact h
  have b2 : Blk W1 (q + 1 + 1) 73 sigZ := by
    have h := Blk.new ((w.alloc (.cells (stC t.e t.v t.l t.p t.f) 46)).alloc (.cells dd 23)) 73 sigZ
    rw [World.size_alloc, World.size_alloc, hq, hW1] at h
    exact h
  have gW1 : w.grownBy W1 none := by rw [← hW1]; exact grown_trans (grown_trans (World.grownBy_alloc _ _ none) (World.grownBy_alloc _ _ none)) (World.grownBy_alloc _ _ none)
  have h1 := h.grown gW1
  have hlt := h.lt
  rw [hq] at hlt
  have hd16 : dd.size = 16 := by rw [hdd, arr_size, hd.1]
  have HF0 := Lib.hid (h.sl.farNew (g := q + 1 + 1) (by omega))
  have HL0 := Lib.hid (show P.kb < q ∧ P.lb < q by have := h.lt2; omega)
  have hkeep := gkeep_is h1 hR E he t ht hcn hb
  have x6 := h1.gd.cell 6
  have y0 := b0.cell 0
  have y1 := b0.cell 1
  have y2 := b0.cell 2
  have y3 := b0.cell 3
  have y4 := b0.cell 4
  simp only [List.getElem?_toArray, List.getElem?_cons_zero, List.getElem?_cons_succ] at x6 y0 y1 y2 y3 y4
  have HX := Lib.hid (And.intro h1 (And.intro hR (And.intro hlt (And.intro hseed (And.intro hi (And.intro hd (And.intro hdd (And.intro gW1 (And.intro hd16 (And.intro b1 (And.intro b2 hf)))))))))))
  have HW := Lib.hid (And.intro hq hW1)
  have HK := Lib.hid hkeep
  clear h hR he ht hseed hi hf hd hdd gW1 hd16 b0 b1 b2 hlt hq hW1 h1 hkeep
  go_enter Tryz.func50, Tryz.ntmps50
  go_upto_region 1 with (fail)
  rw [HW.out.2, HW.out.1]
  go_wp2_with fail
  refine HK.out.mono ?_
  rintro e w2 ⟨hor, hk2, hf2⟩
  have n2 : ¬ P.F (q + 1) ∧ ¬ P.F (q + 1 + 1) := by
    have := HX.out.2.2.1
    simp only [GdP.F]
    omega
  have hb1 := HX.out.2.2.2.2.2.2.2.2.2.1.kept hk2 n2.1
  have hb2 := HX.out.2.2.2.2.2.2.2.2.2.2.1.kept hk2 n2.2
  have hsf : SlFar w2 P.s (q + 1 + 1) := hf2 _ HX.out.2.2.2.2.2.2.2.2.2.2.1.lt (HF0.out.kept (Kept.of_grown (F := fun _ => False) HX.out.2.2.2.2.2.2.2.1 fun _ e => by cases e) (fun h => h))
  have hne2 : ¬ P.F (q + 1 + 1) ∧ q + 1 + 1 ≠ P.kb ∧ q + 1 + 1 ≠ P.lb := ⟨n2.2, by have := HL0.out; omega, by have := HL0.out; omega⟩
  have HFJ := Lib.hid (show ∀ j, j < w.heap.size → SlFar w P.s j → SlFar w2 P.s j from fun j hj hj' => hf2 j (Nat.lt_of_lt_of_le hj HX.out.2.2.2.2.2.2.2.1.size) (hj'.kept (Kept.of_grown (F := fun _ => False) HX.out.2.2.2.2.2.2.2.1 fun _ e => by cases e) (fun h => h)))
  have HNS := Lib.hid (show ¬ P.s = q + 1 + 1 by have := HX.out.2.2.1; omega)
  clear hf2
  have hk0 : Kept P.F w w2 := (Kept.of_grown (F := P.F) HX.out.2.2.2.2.2.2.2.1 (fun _ e => by cases e)).next hk2 (fun _ _ h => h)
  clear x6 y0 y1 y2 y3 y4 hk2 n2
  rcases hor with ⟨hne, rfl, hg2⟩ | ⟨h0, rfl, hg2⟩
  · have H2 := Lib.hid (And.intro hne (And.intro hg2 (And.intro hb2 (And.intro hk0 (And.intro hsf hne2)))))
    obtain ⟨a, ha⟩ := eV_ne (er := E 0) (ep := E 5) hne
    have HA := Lib.hid ha
    rw [ha]
    clear ha hne hg2 hb1 hb2 hk0 hsf hne2
    go_wp2_with (first
      | (refine wpList_store_row rfl 73 _ _ rfl (q + 1 + 1) sigZ rfl rfl 73 _ H2.out.2.2.1 info3 rfl sigZ_one ?_))
    refine bodyPost_ret (results_cell_t rfl _ _ _ ⟨q + 1 + 1, 0, none⟩ (.agg sigZ) rfl (run_loadVar_row _ (q + 1 + 1) 73 73 _ (0, 0) _ (H2.out.2.2.1.row _) Tryz.underlying73 rfl info3)) rfl ?_
    have hrow : Kept (fun j => j = q + 1 + 1) w2 (w2.setRow (q + 1 + 1) sigZ) := Kept.of_grown (grown_row (World.grownBy.refl w2 (some (q + 1 + 1))) (.inr rfl) _) (fun _ e => by injection e with e; exact e.symm)
    exact ⟨.inl ⟨H2.out.1, by rw [HA.out]; rfl, H2.out.2.1.beside hrow H2.out.2.2.2.2.2 (by have := H2.out.2.1.low; have := HX.out.2.2.1; omega) H2.out.2.2.2.2.1⟩, H2.out.2.2.2.1.next hrow (fun j hj e => by have e : j = q + 1 + 1 := e; rw [HW.out.1] at hj; omega), fun j hj hj' => (HFJ.out j hj hj').kept hrow HNS.out⟩
  · have H2 := Lib.hid (And.intro h0 (And.intro hg2 (And.intro hb2 (And.intro hk0 (And.intro hsf (And.intro hne2 hb1))))))
    clear h0 hg2 hb1 hb2 hk0 hsf hne2
    go_wp2_with fail
    have g0 := grown_drew (World.grownBy.refl w2 none)
    obtain ⟨V2, hV2⟩ : ∃ V2, w2.drew = V2 := ⟨_, rfl⟩
    rw [hV2] at g0
    have hg3 := H2.out.2.1.grown g0
    have HV := Lib.hid (And.intro hg3 (And.intro (H2.out.2.2.2.2.2.2.grown g0 (by simp)) (And.intro (H2.out.2.2.1.grown g0 (by simp)) (And.intro (H2.out.2.2.2.1.next (Kept.of_grown (F := fun _ => False) g0 fun _ e => by cases e) (fun _ _ h => h.elim)) (And.intro (H2.out.2.2.2.2.1.kept (Kept.of_grown (F := fun _ => False) g0 fun _ e => by cases e) (fun h => h)) (show V2.heap.size = w2.heap.size by rw [← hV2]; rfl))))))
    have HSS := Lib.hid (show ∀ Y : World, Blk Y P.g 69 #[.pointer (some ⟨P.kb, 0, none⟩), .pointer (some ⟨P.s, 0, none⟩), .int .i64 t.e, .int .i64 t.v, .int .i64 t.l, .int .i64 t.p, .int .i64 t.f] → Blk Y (q + 1) 23 dd → Y.cell? ⟨P.g, 0, none⟩ = some (.pointer (some ⟨P.kb, 0, none⟩)) ∧ Y.rangeAt (q + 1) 0 dd.toList from fun Y h1 h2 => ⟨h1.cell 0, range_of_blk h2⟩)
    have HG2 := Lib.hid g0
    clear g0 hg3
    refine wp_region_held_drew (S := fun Y => Y.cell? ⟨P.g, 0, none⟩ = some (.pointer (some ⟨P.kb, 0, none⟩)) ∧ Y.rangeAt (q + 1) 0 dd.toList) (by kernel_rfl) (by rw [hV2]; exact HSS.out V2 HV.out.1.gd HV.out.2.1) (fun hHeld => ?_)
    rw [hV2] at hHeld ⊢
    refine wpAnyH_take (i := 0) (oi := _) (v := ?vs0) rfl (by kernel_rfl) (by kernel_rfl) (by kernel_rfl) (fun _ _ _ h => h) (Or.inl ⟨by rfl, ?hys0⟩) (by assumption) ?rests0
    case hys0 => (intro V hSw; (try dsimp only at hSw); go_simp) <;> with_reducible rfl
    try simp only [Act.put, List.getElem_toArray, List.getElem_cons_succ, List.getElem_cons_zero, List.setIfInBounds_toArray, List.set_cons_zero, List.set_cons_succ]
    refine wpAnyH_take (i := 1) (oi := _) (v := ?vs1) rfl (by kernel_rfl) (by kernel_rfl) (by kernel_rfl) (fun _ _ _ h => h) (Or.inl ⟨by rfl, ?hys1⟩) (by assumption) ?rests1
    case hys1 => (intro V hSw; (try dsimp only at hSw); go_simp) <;> with_reducible rfl
    try simp only [Act.put, List.getElem_toArray, List.getElem_cons_succ, List.getElem_cons_zero, List.setIfInBounds_toArray, List.set_cons_zero, List.set_cons_succ]
    refine wpAnyH_take (i := 2) (oi := _) (v := ?vs2) rfl (by kernel_rfl) (by kernel_rfl) (by kernel_rfl) (fun _ _ _ h => h) (Or.inl ⟨by rfl, ?hys2⟩) (by assumption) ?rests2
    case hys2 => (intro V hSw; (try dsimp only at hSw); go_simp) <;> with_reducible rfl
    try simp only [Act.put, List.getElem_toArray, List.getElem_cons_succ, List.getElem_cons_zero, List.setIfInBounds_toArray, List.set_cons_zero, List.set_cons_succ]
    refine wpAnyH_take (i := 3) (oi := _) (v := ?vs3) rfl (by kernel_rfl) (by kernel_rfl) (by kernel_rfl) (fun _ _ _ h => h) (Or.inl ⟨by rfl, ?hys3⟩) (by assumption) ?rests3
    case hys3 => (intro V hSw; (try dsimp only at hSw); go_simp) <;> with_reducible rfl
    try simp only [Act.put, List.getElem_toArray, List.getElem_cons_succ, List.getElem_cons_zero, List.setIfInBounds_toArray, List.set_cons_zero, List.set_cons_succ]
    refine wpAnyH_take (i := 4) (oi := _) (v := ?vs4) rfl (by kernel_rfl) (by kernel_rfl) (by kernel_rfl) (fun _ _ _ h => h) (Or.inl ⟨by rfl, ?hys4⟩) (by assumption) ?rests4
    case hys4 => (intro V hSw; (try dsimp only at hSw); go_simp) <;> with_reducible rfl
    try simp only [Act.put, List.getElem_toArray, List.getElem_cons_succ, List.getElem_cons_zero, List.setIfInBounds_toArray, List.set_cons_zero, List.set_cons_succ]
    refine wpAnyH_take (i := 5) (oi := _) (v := .agg dd) rfl (by kernel_rfl) (by kernel_rfl) (by kernel_rfl) (fun _ _ _ h => h) (yieldsIf_load_mid (by rfl) _ _ rfl (q + 1) 0 rfl dd.toList _ (fun V hSw => hSw.2) Tryz.underlying23 rfl (by rw [Array.length_toList, HX.out.2.2.2.2.2.2.2.2.1]; exact info16)) (by assumption) ?rests5
    try simp only [Act.put, List.getElem_toArray, List.getElem_cons_succ, List.getElem_cons_zero, List.setIfInBounds_toArray, List.set_cons_zero, List.set_cons_succ]
    refine wpAnyH_ready (rs := [6]) (by kernel_rfl) (by simp) ?_
    refine (AllReadyH.cons (o := _) rfl (fun K9 hK => ?_) AllReadyH.nil)
    go_simp
    have hsg := ksign_is V2 (HX.out.2.1.kept HV.out.1.dk.2.1 (fun _ h => h)) P.kb P.lb P.cap seed HX.out.2.2.2.1 (arrV .u8 seed) (arrV .u8 (rootC seed)) rfl HV.out.1.ky HV.out.1.lv i HX.out.2.2.2.2.1 st.f HX.out.2.2.2.2.2.2.2.2.2.2.2 d HX.out.2.2.2.2.2.1 dd HX.out.2.2.2.2.2.2.1
    refine hsg.mono ?_
    clear hsg
    rintro e w3 ⟨b, p, pc, rfl, hb3, hp3, hpc, hS3, g3⟩
    have H3 := Lib.hid (And.intro (HV.out.1.grown g3) (And.intro (HV.out.2.1.grown g3 (by simp)) (And.intro (HV.out.2.2.1.grown g3 (by simp)) (And.intro (HV.out.2.2.2.1.next (Kept.of_grown (F := fun _ => False) g3 fun _ e => by cases e) (fun _ _ h => h.elim)) (And.intro (HV.out.2.2.2.2.1.kept (Kept.of_grown (F := fun _ => False) g3 fun _ e => by cases e) (fun h => h)) (And.intro hS3 (And.intro hpc (show w2.heap.size ≤ b ∧ w2.heap.size ≤ p by rw [← HV.out.2.2.2.2.2]; exact ⟨hb3, hp3⟩))))))))
    have HG23 := Lib.hid (grown_trans HG2.out g3)
    clear g3 hb3 hp3 hpc hS3
    (try go_wp2_with fail)
    refine hK.out _ _ (HSS.out _ H3.out.1.gd H3.out.2.1) (fun hHeld => ?_)
    clear hK K9
    try simp only [Act.put, List.getElem_toArray, List.getElem_cons_succ, List.getElem_cons_zero, List.setIfInBounds_toArray, List.set_cons_zero, List.set_cons_succ]
    refine wpAnyH_take (i := 7) (oi := _) (v := ?vs7) rfl (by kernel_rfl) (by kernel_rfl) (by kernel_rfl) (fun _ _ _ h => h) (Or.inl ⟨by rfl, ?hys7⟩) (by assumption) ?rests7
    case hys7 => (intro V hSw; (try dsimp only at hSw); go_simp) <;> with_reducible rfl
    try simp only [Act.put, List.getElem_toArray, List.getElem_cons_succ, List.getElem_cons_zero, List.setIfInBounds_toArray, List.set_cons_zero, List.set_cons_succ]
    refine wpAnyH_take (i := 8) (oi := _) (v := ?vs8) rfl (by kernel_rfl) (by kernel_rfl) (by kernel_rfl) (fun _ _ _ h => h) (Or.inl ⟨by rfl, ?hys8⟩) (by assumption) ?rests8
    case hys8 => (intro V hSw; (try dsimp only at hSw); go_simp) <;> with_reducible rfl
    try simp only [Act.put, List.getElem_toArray, List.getElem_cons_succ, List.getElem_cons_zero, List.setIfInBounds_toArray, List.set_cons_zero, List.set_cons_succ]
    refine wpAnyH_ready (rs := [9]) (by kernel_rfl) (by simp) ?_
    refine (AllReadyH.cons (o := _) rfl (fun K9 hK => ?_) AllReadyH.nil)
    obtain ⟨sv, hsv⟩ : ∃ sv, sigV st.f (.slice (some ⟨b, 0, none⟩) 68 68) (.slice (some ⟨p, 0, none⟩) 5 pc) = sv := ⟨_, rfl⟩
    have hsz : sv.size = 3 := by rw [← hsv]; rfl
    have hso : (sv.all fun v => v.oneCell') = true := by rw [← hsv]; exact sigV_one _ _ _ _ _ _ _
    rw [hsv]
    have HSV := Lib.hid (And.intro hsv (And.intro hsz hso))
    clear hsv hsz hso
    refine ready_store_mid (by rfl) 73 _ _ rfl (q + 1 + 1) 0 sv rfl rfl (there_blk H3.out.2.2.1 (by rw [HSV.out.2.1]; exact Nat.le_refl _)) (by rw [HSV.out.2.1]; exact info3) HSV.out.2.2 ?_
    rw [setCells_row (P := Tryz.prog) (ty := 73) H3.out.2.2.1 (by rw [HSV.out.2.1]; exact info3) (by rw [HSV.out.2.1]; rfl) HSV.out.2.2]
    have hrow : Kept (fun j => j = q + 1 + 1) w3 (w3.setRow (q + 1 + 1) sv) := Kept.of_grown (grown_row (World.grownBy.refl w3 (some (q + 1 + 1))) (.inr rfl) _) (fun _ e => by injection e with e; exact e.symm)
    have hg4 := H3.out.1.beside hrow H2.out.2.2.2.2.2.1 (by have := H2.out.2.1.low; have := HX.out.2.2.1; omega) H3.out.2.2.2.2.1
    have hb4 := H3.out.2.1.farRow (show q + 1 ≠ q + 1 + 1 by omega) sv
    have hbp : b ≠ q + 1 + 1 ∧ p ≠ q + 1 + 1 := by have := H2.out.2.2.1.lt; have := H3.out.2.2.2.2.2.2.2; omega
    have hS4 : SigAt (w3.setRow (q + 1 + 1) sv) seed st.f i d b p := H3.out.2.2.2.2.2.1.to (row := some (q + 1 + 1)) (grown_row (World.grownBy.refl w3 (some (q + 1 + 1))) (.inr rfl) _) (fun e => hbp.1 (by injection e)) (fun e => hbp.2 (by injection e))
    have hk4 := H3.out.2.2.2.1.next hrow (fun j hj e => by have e : j = q + 1 + 1 := e; rw [HW.out.1] at hj; omega)
    have H4 := Lib.hid (And.intro hg4 (And.intro hS4 (And.intro hk4 hb4)))
    clear hrow hg4 hS4 hk4 hb4 hbp
    refine hK.out _ _ (HSS.out _ H4.out.1.gd H4.out.2.2.2) (fun hHeld => ?_)
    clear hK K9
    try simp only [Act.put, List.getElem_toArray, List.getElem_cons_succ, List.getElem_cons_zero, List.setIfInBounds_toArray, List.set_cons_zero, List.set_cons_succ]
    refine wpAnyH_take (i := 10) (oi := _) (v := ?vs10) rfl (by kernel_rfl) (by kernel_rfl) (by kernel_rfl) (fun _ _ _ h => h) (Or.inl ⟨by rfl, ?hys10⟩) (by assumption) ?rests10
    case hys10 => (intro V hSw; (try dsimp only at hSw); go_simp) <;> with_reducible rfl
    try simp only [Act.put, List.getElem_toArray, List.getElem_cons_succ, List.getElem_cons_zero, List.setIfInBounds_toArray, List.set_cons_zero, List.set_cons_succ]
    refine wpAnyH_done (by kernel_rfl) ?_ _
    go_wp2_with fail
    refine bodyPost_ret (results_cell_t rfl _ _ _ ⟨q + 1 + 1, 0, none⟩ (.agg sv) rfl (run_loadVar_row _ (q + 1 + 1) 73 73 _ (0, 0) _ (H3.out.2.2.1.row _) Tryz.underlying73 rfl (by rw [HSV.out.2.1]; exact info3))) rfl ?_
    refine ⟨.inr ⟨H2.out.1, ⟨b, p, pc, by rw [HSV.out.1]; rfl, ?_, ?_, H3.out.2.2.2.2.2.2.1, H4.out.2.1⟩, H4.out.1⟩, H4.out.2.2.1, fun j hj hj' => ((HFJ.out j hj hj').kept (Kept.of_grown (F := fun _ => False) HG23.out fun _ e => by cases e) (fun h => h)).kept (row_kept sv) HNS.out⟩
    · have := H3.out.2.2.2.2.2.2.2.1; have := H2.out.2.2.2.1.size; omega
    · have := H3.out.2.2.2.2.2.2.2.2; have := H2.out.2.2.2.1.size; omega
end
end Go.Proofs.YthkjlgjbjjjohaaGreatDoor
