/-
  Codec: what is signed for votes, late words and proposals.
-/
import Derived.Test.YthjcgdcmbedhnaaDoorGdN
import Derived.Test.YthjcgdcmbedhnaaDoorDi
import Derived.Deep.DeepCutAuto
import Derived.Test.YthjcgdcmbedhnaaDoorBaseA
namespace Go.Proofs.YthjcgdcmbedhnaaDoor
open Go.RowKit

theorem ready_store_mid {P : Program} {ops : Array Oper} {o : Oper} {a : Act} {w : World} {K : Act → World → Prop} {Q : Exit → Act → World → Prop} (hw : Region.wanted o (yielded ops a.tmps) = true) (ty : TypeId) (x y : Operand) (ho : o.op = .store ty x y)
    (b off : Nat) (cells : Array Value) (hx : a.eval x = .pointer (some ⟨b, off, none⟩)) (hy : a.eval y = .agg cells)
    (ht : w.there b off cells.size) (hi : (P.info? ty).map (·.size) = some cells.size) (h1 : cells.all (·.oneCell') = true)
    (h : K (a.put o.dst undef) (w.setCells b off cells.toList)) : if Region.wanted o (yielded ops a.tmps) = true then Oper.wp P o a w K Q else K (a.put o.dst undef) w := by
  rw [if_pos hw]
  unfold Oper.wp execOp
  simp only [ho, hx, hy, Sem.run_bind, Sem.run_pure, Result.andThen_ok, run_storeAt_mid w b off ty cells ht hi h1]
  exact h
def forV (e r : Int) (d : List Int) : List Int := ofS 7 [b8 e, b8 r, d]
def forL (e r h : Int) : List Int := ofS 8 [b8 e, b8 r, b8 h]
def forP (d : List Int) : List Int := ofS 9 [d]
theorem parts3 {w : World} {q : Nat} {A B C : Option Addr} {n1 c1 n2 c2 n3 c3 : Nat} {x y z : List Int} (h : Blk w q 37 #[.slice A n1 c1, .slice B n2 c2, .slice C n3 c3]) (h1 : x.length = n1) (h2 : y.length = n2) (h3 : z.length = n3) (l1 : n1 ≤ c1) (l2 : n2 ≤ c2) (l3 : n3 ≤ c3) (b1 : BytesI w A x) (b2 : BytesI w B y) (b3 : BytesI w C z) : PartsI w (some ⟨q, 0, none⟩) [x, y, z] := fun j hj => by
  have hj3 : j = 0 ∨ j = 1 ∨ j = 2 := by have : j < 3 := hj; omega
  have e := h.cell j
  rw [show (⟨q, j, none⟩ : Addr) = (⟨q, 0, none⟩ : Addr).add j by rw [Go.WideShapes.add_plain, Nat.zero_add]] at e
  rcases hj3 with rfl | rfl | rfl
  · exact ⟨_, A, n1, c1, rfl, e, h1, l1, b1⟩
  · exact ⟨_, B, n2, c2, rfl, e, h2, l2, b2⟩
  · exact ⟨_, C, n3, c3, rfl, e, h3, l3, b3⟩
theorem parts1 {w : World} {q : Nat} {A : Option Addr} {n1 c1 : Nat} {x : List Int} (h : Blk w q 37 #[.slice A n1 c1]) (h1 : x.length = n1) (l1 : n1 ≤ c1) (b1 : BytesI w A x) : PartsI w (some ⟨q, 0, none⟩) [x] := fun j hj => by
  obtain rfl : j = 0 := by have : j < 1 := hj; omega
  have e := h.cell 0
  rw [show (⟨q, 0, none⟩ : Addr) = (⟨q, 0, none⟩ : Addr).add 0 by rw [Go.WideShapes.add_plain]] at e
  exact ⟨_, A, n1, c1, rfl, e, h1, l1, b1⟩
theorem number_any (w : World) (n : Int) (hn : -9223372036854775808 ≤ n ∧ n < 9223372036854775808) :
    Calls Tryd.prog 18 #[.int .i64 n] w fun e w' => ∃ p, e = .returned (.slice (some ⟨p, 0, none⟩) 8 8) ∧ BytesI w' (some ⟨p, 0, none⟩) (b8 n) ∧ w.grownBy w' none :=
  (number_is w n hn).mono fun _ _ h => ⟨_, h⟩
section
variable (w : World) (hR : Rounds w)
include hR
set_option maxRecDepth 100000 in
set_option maxHeartbeats 1000000 in
theorem forP_is (d : List Int) (hd : isDig d) (dd : Array Value) (hdd : dd = arrV .u8 d) :
    Calls Tryd.prog 10 #[.agg dd] w fun e w' => e = .returned (.agg (arrV .u8 (forP d))) ∧ w.grownBy w' none := by
  obtain ⟨Z16, hZ16⟩ : ∃ Z, Z = arrV .u8 (List.replicate 16 0) := ⟨_, rfl⟩
  have hz16 : ∀ w, Sem.run Tryd.prog (zeroValue 23) w = .ok (.agg Z16) w := fun w => by rw [hZ16]; exact z16run w
  have hsl := fun w : World => dig_slice w
  obtain ⟨w1, hw1⟩ : ∃ w1, (w.alloc (.cells dd 23)).alloc (.cells Z16 23) = w1 := ⟨_, rfl⟩
  obtain ⟨q, hq⟩ : ∃ q, w.heap.size = q := ⟨_, rfl⟩
  have b1 : Blk w1 q 23 dd := by rw [← hw1, ← hq]; exact (Blk.new w _ _).alloc _
  have b2 : Blk w1 (q + 1) 23 Z16 := by
    have h := Blk.new (w.alloc (.cells dd 23)) 23 Z16
    rw [World.size_alloc, hw1, hq] at h
    exact h
  have g1 : w.grownBy w1 none := by rw [← hw1]; exact grown_trans (World.grownBy_alloc _ _ none) (World.grownBy_alloc _ _ none)
  have hs1 : w1.heap.size = q + 1 + 1 := by rw [← hw1, ← hq]; simp
  obtain ⟨w2, hw2⟩ : ∃ w2, w1.alloc (.cells #[.slice (some ⟨q, 0, none⟩) 16 16] 37) = w2 := ⟨_, rfl⟩
  have g2 : w1.grownBy w2 none := by rw [← hw2]; exact World.grownBy_alloc _ _ none
  have b3 : Blk w2 (q + 1 + 1) 37 #[.slice (some ⟨q, 0, none⟩) 16 16] := by rw [← hw2, ← hs1]; exact Blk.new _ _ _
  have hbd : BytesI w2 (some ⟨q, 0, none⟩) d := row_bytesI w2 q d (by rw [← hdd]; exact (b1.grown g2 (by simp)))
  have HO := Lib.hid (of_is w2 (hR.grown (grown_trans g1 g2) (by simp)) 9 (some ⟨q + 1 + 1, 0, none⟩) 1 1 [d] rfl (parts1 b3 hd.1 (Nat.le_refl _) hbd) (by omega) (fun p hp => by obtain rfl := List.mem_singleton.1 hp; rw [hd.1]; omega))
  have HB := Lib.hid (And.intro (b2.grown g2 (by simp)) (And.intro (grown_trans g1 g2) (And.intro (show Z16.size = 16 by rw [hZ16]; rfl) hq)))
  have HW := Lib.hid (And.intro hw1 (And.intro hw2 hs1))
  obtain ⟨F, hF⟩ : ∃ F, arrV .u8 (forP d) = F := ⟨_, rfl⟩
  have hFz : F.size = 16 := by rw [← hF, arr_size]; exact ofS_length _ _
  have hFo : (F.all fun v => v.oneCell') = true := by rw [← hF]; exact arr_one _ _
  have HF := Lib.hid (And.intro hF (And.intro hFz hFo))
  clear hR hd hdd hZ16 b1 b2 g1 hs1 g2 b3 hbd hw1 hw2 hF hFz hFo
  go_enter Tryd.func10, Tryd.ntmps10
  go_wp2_with fail
  clear hz16 hsl
  rw [HW.out.1, HW.out.2.1]
  refine HO.out.mono ?_
  rintro e w3 ⟨rfl, g3⟩
  rw [show arrV .u8 (ofS 9 [d]) = F from HF.out.1]
  have HB3 := Lib.hid (And.intro (HB.out.1.grown g3 (by simp)) (grown_trans HB.out.2.1 g3))
  clear g3
  go_wp2_with (first
    | (refine wpList_store_row rfl 23 _ _ rfl (q + 1) F rfl rfl 23 _ HB3.out.1 (by rw [HF.out.2.1]; exact info16) (by rw [HF.out.2.1, HB.out.2.2.1]) HF.out.2.2 ?_))
  refine bodyPost_ret (results_cell rfl _ _ _ ⟨q + 1, 0, none⟩ (.agg F) rfl (run_loadVar_row _ (q + 1) 23 23 _ (0, 0) _ (HB3.out.1.row _) Tryd.underlying23 rfl (by rw [HF.out.2.1]; exact info16))) rfl ?_
  exact ⟨by rw [HF.out.1], grown_row HB3.out.2 (.inl (by rw [HB.out.2.2.2]; omega)) _⟩
set_option maxRecDepth 100000 in
set_option maxHeartbeats 1000000 in
theorem forL_is (e r h : Int) (he : -9223372036854775808 ≤ e ∧ e < 9223372036854775808) (hr : -9223372036854775808 ≤ r ∧ r < 9223372036854775808) (hh : -9223372036854775808 ≤ h ∧ h < 9223372036854775808) :
    Calls Tryd.prog 8 #[.int .i64 e, .int .i64 r, .int .i64 h] w fun e' w' => e' = .returned (.agg (arrV .u8 (forL e r h))) ∧ w.grownBy w' none := by
  obtain ⟨Z16, hZ16⟩ : ∃ Z, Z = arrV .u8 (List.replicate 16 0) := ⟨_, rfl⟩
  have hz16 : ∀ w, Sem.run Tryd.prog (zeroValue 23) w = .ok (.agg Z16) w := fun w => by rw [hZ16]; exact z16run w
  obtain ⟨w1, hw1⟩ : ∃ w1, w.alloc (.cells Z16 23) = w1 := ⟨_, rfl⟩
  obtain ⟨q, hq⟩ : ∃ q, w.heap.size = q := ⟨_, rfl⟩
  have b2 : Blk w1 q 23 Z16 := by rw [← hw1, ← hq]; exact Blk.new w _ _
  have g1 : w.grownBy w1 none := by rw [← hw1]; exact World.grownBy_alloc _ _ none
  have HB := Lib.hid (And.intro b2 (And.intro g1 (And.intro (show Z16.size = 16 by rw [hZ16]; rfl) hq)))
  have HW := Lib.hid (And.intro hw1 hR)
  obtain ⟨F, hF⟩ : ∃ F, arrV .u8 (forL e r h) = F := ⟨_, rfl⟩
  have hFz : F.size = 16 := by rw [← hF, arr_size]; exact ofS_length _ _
  have hFo : (F.all fun v => v.oneCell') = true := by rw [← hF]; exact arr_one _ _
  have HF := Lib.hid (And.intro hF (And.intro hFz hFo))
  have HX := Lib.hid (And.intro he (And.intro hr hh))
  clear hR hZ16 b2 g1 hw1 hF hFz hFo he hr hh
  go_enter Tryd.func8, Tryd.ntmps8
  go_wp2_with fail
  clear hz16
  rw [HW.out.1]
  refine (number_any w1 e HX.out.1).mono ?_
  rintro e1 w2 ⟨p1, rfl, x1, g2⟩
  have H2 := Lib.hid (And.intro x1 g2)
  clear x1 g2
  go_wp2_with fail
  refine (number_any w2 r HX.out.2.1).mono ?_
  rintro e1 w3 ⟨p2, rfl, x2, g3⟩
  have H3 := Lib.hid (And.intro x2 g3)
  clear x2 g3
  go_wp2_with fail
  refine (number_any w3 h HX.out.2.2).mono ?_
  rintro e1 w4 ⟨p3, rfl, x3, g4⟩
  have H4 := Lib.hid (And.intro x3 g4)
  clear x3 g4
  go_wp2_with fail
  have g5 : w4.grownBy (w4.alloc (.cells #[.slice (some ⟨p1, 0, none⟩) 8 8, .slice (some ⟨p2, 0, none⟩) 8 8, .slice (some ⟨p3, 0, none⟩) 8 8] 37)) none := World.grownBy_alloc _ _ none
  have b5 := Blk.new w4 37 #[.slice (some ⟨p1, 0, none⟩) 8 8, .slice (some ⟨p2, 0, none⟩) 8 8, .slice (some ⟨p3, 0, none⟩) 8 8]
  obtain ⟨w5, hw5⟩ : ∃ w5, w4.alloc (.cells #[.slice (some ⟨p1, 0, none⟩) 8 8, .slice (some ⟨p2, 0, none⟩) 8 8, .slice (some ⟨p3, 0, none⟩) 8 8] 37) = w5 := ⟨_, rfl⟩
  rw [hw5] at g5 b5 ⊢
  have g15 := grown_trans H2.out.2 (grown_trans H3.out.2 (grown_trans H4.out.2 g5))
  have HO := Lib.hid (of_is w5 (HW.out.2.grown (grown_trans HB.out.2.1 g15) (by simp)) 8 (some ⟨w4.heap.size, 0, none⟩) 3 3 [b8 e, b8 r, b8 h] rfl (parts3 b5 rfl rfl rfl (Nat.le_refl _) (Nat.le_refl _) (Nat.le_refl _) (H2.out.1.grown (grown_trans H3.out.2 (grown_trans H4.out.2 g5))) (H3.out.1.grown (grown_trans H4.out.2 g5)) (H4.out.1.grown g5)) (by omega) (fun p hp => by
    simp only [List.mem_cons, List.not_mem_nil, or_false] at hp
    rcases hp with rfl | rfl | rfl <;> (rw [b8_length]; omega)))
  have HG := Lib.hid (And.intro (HB.out.1.grown g15 (by simp)) (grown_trans HB.out.2.1 g15))
  clear g5 b5 g15 hw5
  refine HO.out.mono ?_
  rintro e1 w6 ⟨rfl, g6⟩
  rw [show arrV .u8 (ofS 8 [b8 e, b8 r, b8 h]) = F from HF.out.1]
  have HB3 := Lib.hid (And.intro (HG.out.1.grown g6 (by simp)) (grown_trans HG.out.2 g6))
  clear g6
  go_wp2_with (first
    | (refine wpList_store_row rfl 23 _ _ rfl q F rfl rfl 23 _ HB3.out.1 (by rw [HF.out.2.1]; exact info16) (by rw [HF.out.2.1, HB.out.2.2.1]) HF.out.2.2 ?_))
  refine bodyPost_ret (results_cell rfl _ _ _ ⟨q, 0, none⟩ (.agg F) rfl (run_loadVar_row _ q 23 23 _ (0, 0) _ (HB3.out.1.row _) Tryd.underlying23 rfl (by rw [HF.out.2.1]; exact info16))) rfl ?_
  exact ⟨by rw [HF.out.1], grown_row HB3.out.2 (.inl (by rw [HB.out.2.2.2]; exact Nat.le_refl _)) _⟩
set_option maxRecDepth 100000 in
set_option maxHeartbeats 1000000 in
theorem forV_is (e r : Int) (he : -9223372036854775808 ≤ e ∧ e < 9223372036854775808) (hr : -9223372036854775808 ≤ r ∧ r < 9223372036854775808) (d : List Int) (hd : isDig d) (dd : Array Value) (hdd : dd = arrV .u8 d) :
    Calls Tryd.prog 6 #[.int .i64 e, .int .i64 r, .agg dd] w fun e' w' => e' = .returned (.agg (arrV .u8 (forV e r d))) ∧ w.grownBy w' none := by
  obtain ⟨Z16, hZ16⟩ : ∃ Z, Z = arrV .u8 (List.replicate 16 0) := ⟨_, rfl⟩
  have hz16 : ∀ w, Sem.run Tryd.prog (zeroValue 23) w = .ok (.agg Z16) w := fun w => by rw [hZ16]; exact z16run w
  obtain ⟨q, hq⟩ : ∃ q, w.heap.size = q := ⟨_, rfl⟩
  obtain ⟨w1, hw1⟩ : ∃ w1, (w.alloc (.cells dd 23)).alloc (.cells Z16 23) = w1 := ⟨_, rfl⟩
  have b1 : Blk w1 q 23 dd := by rw [← hw1, ← hq]; exact (Blk.new w _ _).alloc _
  have b2 : Blk w1 (q + 1) 23 Z16 := by
    have h := Blk.new (w.alloc (.cells dd 23)) 23 Z16
    rw [World.size_alloc, hw1, hq] at h
    exact h
  have g1 : w.grownBy w1 none := by rw [← hw1]; exact grown_trans (World.grownBy_alloc _ _ none) (World.grownBy_alloc _ _ none)
  obtain ⟨V1, hV1⟩ : ∃ V1, w1.drew = V1 := ⟨_, rfl⟩
  have hb : Blk V1 (q + 1) 23 Z16 ∧ w.grownBy V1 none ∧ Blk V1 q 23 dd := by rw [← hV1]; exact ⟨b2.drew, grown_drew g1, b1.drew⟩
  have HB := Lib.hid (And.intro hb.1 (And.intro hb.2.1 (And.intro (show Z16.size = 16 by rw [hZ16]; rfl) (And.intro hq hb.2.2))))
  have HW := Lib.hid (And.intro (And.intro hw1 hV1) hR)
  have HSL := Lib.hid (fun V : World => dig_slice V q)
  obtain ⟨F, hF⟩ : ∃ F, arrV .u8 (forV e r d) = F := ⟨_, rfl⟩
  have hFz : F.size = 16 := by rw [← hF, arr_size]; exact ofS_length _ _
  have hFo : (F.all fun v => v.oneCell') = true := by rw [← hF]; exact arr_one _ _
  have HF := Lib.hid (And.intro hF (And.intro hFz hFo))
  have HX := Lib.hid (And.intro he (And.intro hr (And.intro hd.1 hdd)))
  clear hR hZ16 b1 b2 g1 hw1 hV1 hF hFz hFo he hr hd hdd hb
  go_enter Tryd.func6, Tryd.ntmps6
  go_wp2_with fail
  clear hz16
  rw [HW.out.1.1]
  refine wp_region_held_drew (S := fun V => True) (by kernel_rfl) trivial (fun hHeld => ?_)
  rw [HW.out.1.2]
  refine wpAnyH_take (i := 0) (oi := _) (v := ?vv0) rfl (by kernel_rfl) (by kernel_rfl) (by kernel_rfl) (fun _ _ _ h => h) (Or.inl ⟨by rfl, ?hyv0⟩) (by assumption) ?restv0
  case hyv0 => (intro V hSw; (try dsimp only at hSw); go_simp) <;> with_reducible rfl
  try simp only [Act.put, List.getElem_toArray, List.getElem_cons_succ, List.getElem_cons_zero, List.setIfInBounds_toArray, List.set_cons_zero, List.set_cons_succ]
  refine wpAnyH_take (i := 2) (oi := _) (v := ?vv2) rfl (by kernel_rfl) (by kernel_rfl) (by kernel_rfl) (fun _ _ _ h => h) (Or.inl ⟨by rfl, ?hyv2⟩) (by assumption) ?restv2
  case hyv2 => (intro V hSw; (try dsimp only at hSw); go_simp) <;> with_reducible rfl
  try simp only [Act.put, List.getElem_toArray, List.getElem_cons_succ, List.getElem_cons_zero, List.setIfInBounds_toArray, List.set_cons_zero, List.set_cons_succ]
  refine wpAnyH_take (i := 4) (oi := _) (v := .slice (some ⟨q, 0, none⟩) 16 16) rfl (by kernel_rfl) (by kernel_rfl) (by kernel_rfl) (fun _ _ _ h => h) (Or.inl ⟨by rfl, ?hyv4⟩) (by assumption) ?restv4
  case hyv4 => intro V hSw; have hsl := HSL.out V; go_simp
  try simp only [Act.put, List.getElem_toArray, List.getElem_cons_succ, List.getElem_cons_zero, List.setIfInBounds_toArray, List.set_cons_zero, List.set_cons_succ]
  refine wpAnyH_ready (rs := [1]) (by kernel_rfl) (by simp) ?_
  refine (AllReadyH.cons (o := _) rfl (fun K9 hK => ?_) AllReadyH.nil)
  go_simp
  refine (number_any V1 e HX.out.1).mono ?_
  rintro e1 w2 ⟨p1, rfl, x1, g2⟩
  have H2 := Lib.hid (And.intro x1 g2)
  clear x1 g2
  (try go_wp2_with fail)
  refine hK.out _ _ trivial (fun hHeld => ?_)
  clear hK K9
  try simp only [Act.put, List.getElem_toArray, List.getElem_cons_succ, List.getElem_cons_zero, List.setIfInBounds_toArray, List.set_cons_zero, List.set_cons_succ]
  refine wpAnyH_ready (rs := [3]) (by kernel_rfl) (by simp) ?_
  refine (AllReadyH.cons (o := _) rfl (fun K9 hK => ?_) AllReadyH.nil)
  go_simp
  refine (number_any w2 r HX.out.2.1).mono ?_
  rintro e1 w3 ⟨p2, rfl, x2, g3⟩
  have H3 := Lib.hid (And.intro x2 g3)
  clear x2 g3
  (try go_wp2_with fail)
  refine hK.out _ _ trivial (fun hHeld => ?_)
  clear hK K9
  try simp only [Act.put, List.getElem_toArray, List.getElem_cons_succ, List.getElem_cons_zero, List.setIfInBounds_toArray, List.set_cons_zero, List.set_cons_succ]
  refine wpAnyH_ready (rs := [5]) (by kernel_rfl) (by simp) ?_
  refine (AllReadyH.cons (o := _) rfl (fun K9 hK => ?_) AllReadyH.nil)
  go_simp
  have g5 : w3.grownBy (w3.alloc (.cells #[.slice (some ⟨p1, 0, none⟩) 8 8, .slice (some ⟨p2, 0, none⟩) 8 8, .slice (some ⟨q, 0, none⟩) 16 16] 37)) none := World.grownBy_alloc _ _ none
  have b5 := Blk.new w3 37 #[.slice (some ⟨p1, 0, none⟩) 8 8, .slice (some ⟨p2, 0, none⟩) 8 8, .slice (some ⟨q, 0, none⟩) 16 16]
  obtain ⟨w5, hw5⟩ : ∃ w5, w3.alloc (.cells #[.slice (some ⟨p1, 0, none⟩) 8 8, .slice (some ⟨p2, 0, none⟩) 8 8, .slice (some ⟨q, 0, none⟩) 16 16] 37) = w5 := ⟨_, rfl⟩
  rw [hw5] at g5 b5 ⊢
  have g15 := grown_trans H2.out.2 (grown_trans H3.out.2 g5)
  have HO := Lib.hid (of_is w5 (HW.out.2.grown (grown_trans HB.out.2.1 g15) (by simp)) 7 (some ⟨w3.heap.size, 0, none⟩) 3 3 [b8 e, b8 r, d] rfl (parts3 b5 rfl rfl HX.out.2.2.1 (Nat.le_refl _) (Nat.le_refl _) (Nat.le_refl _) (H2.out.1.grown (grown_trans H3.out.2 g5)) (H3.out.1.grown g5) (row_bytesI w5 q d (by rw [← HX.out.2.2.2]; exact HB.out.2.2.2.2.grown g15 (by simp)))) (by omega) (fun p hp => by
    simp only [List.mem_cons, List.not_mem_nil, or_false] at hp
    rcases hp with rfl | rfl | rfl
    · rw [b8_length]; omega
    · rw [b8_length]; omega
    · rw [HX.out.2.2.1]; omega))
  have HG := Lib.hid (And.intro (HB.out.1.grown g15 (by simp)) (grown_trans HB.out.2.1 g15))
  clear g5 b5 g15 hw5
  refine hK.out _ _ trivial (fun hHeld => ?_)
  clear hK K9
  try simp only [Act.put, List.getElem_toArray, List.getElem_cons_succ, List.getElem_cons_zero, List.setIfInBounds_toArray, List.set_cons_zero, List.set_cons_succ]
  refine wpAnyH_ready (rs := [6]) (by kernel_rfl) (by simp) ?_
  refine (AllReadyH.cons (o := _) rfl (fun K9 hK => ?_) AllReadyH.nil)
  go_simp
  refine HO.out.mono ?_
  rintro e1 w6 ⟨rfl, g6⟩
  rw [show arrV .u8 (ofS 7 [b8 e, b8 r, d]) = F from HF.out.1]
  have HB3 := Lib.hid (And.intro (HG.out.1.grown g6 (by simp)) (grown_trans HG.out.2 g6))
  clear g6
  (try go_wp2_with fail)
  refine hK.out _ _ trivial (fun hHeld => ?_)
  clear hK K9
  try simp only [Act.put, List.getElem_toArray, List.getElem_cons_succ, List.getElem_cons_zero, List.setIfInBounds_toArray, List.set_cons_zero, List.set_cons_succ]
  refine wpAnyH_ready (rs := [7]) (by kernel_rfl) (by simp) ?_
  refine (AllReadyH.cons (o := _) rfl (fun K9 hK => ?_) AllReadyH.nil)
  refine ready_store_mid (by rfl) 23 _ _ rfl (q + 1) 0 F rfl rfl (there_blk HB3.out.1 (by rw [HF.out.2.1, HB.out.2.2.1]; exact Nat.le_refl _)) (by rw [HF.out.2.1]; exact info16) HF.out.2.2 ?_
  rw [setCells_row (P := Tryd.prog) (ty := 23) HB3.out.1 (by rw [HF.out.2.1]; exact info16) (by rw [HF.out.2.1, HB.out.2.2.1]) HF.out.2.2]
  refine hK.out _ _ trivial (fun hHeld => ?_)
  clear hK K9
  try simp only [Act.put, List.getElem_toArray, List.getElem_cons_succ, List.getElem_cons_zero, List.setIfInBounds_toArray, List.set_cons_zero, List.set_cons_succ]
  refine wpAnyH_done (by kernel_rfl) ?_ _
  go_wp2_with fail
  refine bodyPost_ret (results_cell rfl _ _ _ ⟨q + 1, 0, none⟩ (.agg F) rfl (run_loadVar_row _ (q + 1) 23 23 _ (0, 0) _ (HB3.out.1.row _) Tryd.underlying23 rfl (by rw [HF.out.2.1]; exact info16))) rfl ?_
  exact ⟨by rw [HF.out.1], grown_row HB3.out.2 (.inl (by rw [HB.out.2.2.2.1]; omega)) _⟩
end
end Go.Proofs.YthjcgdcmbedhnaaDoor
