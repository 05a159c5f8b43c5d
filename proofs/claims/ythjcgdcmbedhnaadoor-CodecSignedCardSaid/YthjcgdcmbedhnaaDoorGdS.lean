/-
  The document's words that are signed: for votes, late words, proposals; of a step.
-/
import Derived.Test.YthjcgdcmbedhnaaDoorGdR
import Derived.Deep.DeepCutAuto
namespace Go.Proofs.YthjcgdcmbedhnaaDoor
open Go.RowKit

theorem range_of_blk {w : World} {g : Nat} {t : TypeId} {cs : Array Value} (h : Blk w g t cs) : w.rangeAt g 0 cs.toList := fun j v hv => by
  rw [Nat.zero_add, h.cell, ← Array.getElem?_toList]; exact hv
theorem row_kept {w : World} {x : Nat} (sv : Array Value) : Kept (fun j => j = x) w (w.setRow x sv) := Kept.of_grown (grown_row (World.grownBy.refl w (some x)) (.inr rfl) _) (fun _ e => by injection e with e; exact e.symm)
theorem texts3 {w : World} {q : Nat} {a b c : ByteArray} (h : Blk w q 9 #[.string a, .string b, .string c]) : TextsI w (some ⟨q, 0, none⟩) [a, b, c] := fun j hj => by
  have hj3 : j = 0 ∨ j = 1 ∨ j = 2 := by have : j < 3 := hj; omega
  have e := h.cell j
  rw [show (⟨q, j, none⟩ : Addr) = (⟨q, 0, none⟩ : Addr).add j by rw [Go.WideShapes.add_plain, Nat.zero_add]] at e
  rcases hj3 with rfl | rfl | rfl
  · exact ⟨_, rfl, e⟩
  · exact ⟨_, rfl, e⟩
  · exact ⟨_, rfl, e⟩
theorem texts1 {w : World} {q : Nat} {a : ByteArray} (h : Blk w q 9 #[.string a]) : TextsI w (some ⟨q, 0, none⟩) [a] := fun j hj => by
  obtain rfl : j = 0 := by have : j < 1 := hj; omega
  have e := h.cell 0
  rw [show (⟨q, 0, none⟩ : Addr) = (⟨q, 0, none⟩ : Addr).add 0 by rw [Go.WideShapes.add_plain]] at e
  exact ⟨_, rfl, e⟩
theorem b8_range (n : Int) : ∀ z ∈ b8 n, 0 ≤ z ∧ z < 256 := by
  intro z hz
  simp only [b8, List.mem_cons, List.not_mem_nil, or_false] at hz
  omega
theorem b8_str (n : Int) : ∃ s : ByteArray, xsOf s = b8 n ∧ s.size = 8 := by
  obtain ⟨s, hs⟩ := ints_str (b8 n) (b8_range n)
  exact ⟨s, hs, by rw [← xsOf_length, hs]; rfl⟩
theorem dig_str16 (d : List Int) (h : isDig d) : ∃ s : ByteArray, xsOf s = d ∧ s.size = 16 := by
  obtain ⟨s, hs⟩ := ints_str d h.2
  exact ⟨s, hs, by rw [← xsOf_length, hs, h.1]⟩
theorem frm_le (a0 : Int) (ts : List ByteArray) (h : ∀ t ∈ ts, t.size ≤ 16) (hl : ts.length ≤ 3) : (framedL a0 (ts.map xsOf)).length ≤ 50000 := by
  have := framedL_le a0 16 (ts.map xsOf) (fun q hq => by
    obtain ⟨t, ht, rfl⟩ := List.mem_map.1 hq
    rw [xsOf_length]; exact h t ht)
  rw [List.length_map] at this
  have h2 : ts.length * (16 + 4) ≤ 3 * 20 := Nat.mul_le_mul hl (by omega)
  omega
set_option maxRecDepth 100000 in
set_option maxHeartbeats 1000000 in
theorem rforP_is (w : World) (d : List Int) (hd : isDig d) (dd : Array Value) (hdd : dd = arrV .u8 d) :
    Calls Tryd.prog 11 #[.agg dd] w fun e w' => e = .returned (.agg (arrV .u8 (forP d))) ∧ w.grownBy w' none := by
  obtain ⟨Z16, hZ16⟩ : ∃ Z, Z = arrV .u8 (List.replicate 16 0) := ⟨_, rfl⟩
  have hz16 : ∀ w, Sem.run Tryd.prog (zeroValue 23) w = .ok (.agg Z16) w := fun w => by rw [hZ16]; exact z16run w
  obtain ⟨w1, hw1⟩ : ∃ w1, (w.alloc (.cells dd 23)).alloc (.cells Z16 23) = w1 := ⟨_, rfl⟩
  obtain ⟨q, hq⟩ : ∃ q, w.heap.size = q := ⟨_, rfl⟩
  have b1 : Blk w1 q 23 dd := by rw [← hw1, ← hq]; exact (Blk.new w _ _).alloc _
  have b2 : Blk w1 (q + 1) 23 Z16 := by
    have h := Blk.new (w.alloc (.cells dd 23)) 23 Z16
    rw [World.size_alloc, hw1, hq] at h
    exact h
  have g1 : w.grownBy w1 none := by rw [← hw1]; exact grown_trans (World.grownBy_alloc _ _ none) (World.grownBy_alloc _ _ none)
  obtain ⟨s, hs, hs16⟩ := dig_str16 d hd
  have HT := Lib.hid (text_is w1 d hd.1 s hs)
  have HB := Lib.hid (And.intro b2 (And.intro g1 (And.intro (show Z16.size = 16 by rw [hZ16]; rfl) (And.intro hq (And.intro b1 (show dd.size = 16 by rw [hdd, arr_size, hd.1]))))))
  have HS := Lib.hid (And.intro hs (And.intro hs16 hdd))
  have HW := Lib.hid hw1
  obtain ⟨F, hF⟩ : ∃ F, arrV .u8 (forP d) = F := ⟨_, rfl⟩
  have hFz : F.size = 16 := by rw [← hF, arr_size]; exact ofS_length _ _
  have hFo : (F.all fun v => v.oneCell') = true := by rw [← hF]; exact arr_one _ _
  have HF := Lib.hid (And.intro hF (And.intro hFz hFo))
  clear hd hdd hZ16 b1 b2 g1 hw1 hF hFz hFo hs hs16
  go_enter Tryd.func11, Tryd.ntmps11
  go_upto_region 1 with (fail)
  clear hz16
  rw [HW.out]
  go_wp2_with (first
    | (refine wpList_load_row rfl 23 _ rfl q rfl 23 dd (0, 0) _ HB.out.2.2.2.2.1 Tryd.underlying23 rfl (by rw [HB.out.2.2.2.2.2]; exact info16) ?_))
  rw [HS.out.2.2]
  refine HT.out.mono ?_
  rintro e w3 ⟨rfl, g3⟩
  have HB3 := Lib.hid (And.intro (HB.out.1.grown g3 (by simp)) (grown_trans HB.out.2.1 g3))
  clear g3 HT
  go_wp2_with fail
  have g4 := World.grownBy_alloc w3 (.cells #[.string s] 9) none
  have b4 := Blk.new w3 9 #[.string s]
  obtain ⟨w4, hw4⟩ : ∃ w4, w3.alloc (.cells #[.string s] 9) = w4 := ⟨_, rfl⟩
  rw [hw4] at g4 b4 ⊢
  have HO := Lib.hid (rof_is w4 9 (some ⟨w3.heap.size, 0, none⟩) 1 1 [s] rfl (texts1 b4) (by omega) (fun t ht => by obtain rfl := List.mem_singleton.1 ht; rw [HS.out.2.1]; omega) (frm_le _ _ (fun t ht => by obtain rfl := List.mem_singleton.1 ht; rw [HS.out.2.1]; omega) (by simp)))
  have HB4 := Lib.hid (And.intro (HB3.out.1.grown g4 (by simp)) (grown_trans HB3.out.2 g4))
  clear g4 b4 hw4
  refine HO.out.mono ?_
  rintro e w5 ⟨rfl, g5⟩
  rw [show arrV .u8 (ofS 9 ([s].map xsOf)) = F by rw [← HF.out.1, List.map_cons, List.map_nil, HS.out.1]; rfl]
  have HB5 := Lib.hid (And.intro (HB4.out.1.grown g5 (by simp)) (grown_trans HB4.out.2 g5))
  clear g5
  go_wp2_with (first
    | (refine wpList_store_row rfl 23 _ _ rfl (q + 1) F rfl rfl 23 _ HB5.out.1 (by rw [HF.out.2.1]; exact info16) (by rw [HF.out.2.1, HB.out.2.2.1]) HF.out.2.2 ?_))
  refine bodyPost_ret (results_cell rfl _ _ _ ⟨q + 1, 0, none⟩ (.agg F) rfl (run_loadVar_row _ (q + 1) 23 23 _ (0, 0) _ (HB5.out.1.row _) Tryd.underlying23 rfl (by rw [HF.out.2.1]; exact info16))) rfl ?_
  exact ⟨by rw [HF.out.1], grown_row HB5.out.2 (.inl (by rw [HB.out.2.2.2.1]; omega)) _⟩
set_option maxRecDepth 100000 in
set_option maxHeartbeats 1000000 in
theorem rforL_is (w : World) (e r h : Int) (he : -9223372036854775808 ≤ e ∧ e < 9223372036854775808) (hr : -9223372036854775808 ≤ r ∧ r < 9223372036854775808) (hh : -9223372036854775808 ≤ h ∧ h < 9223372036854775808) :
    Calls Tryd.prog 9 #[.int .i64 e, .int .i64 r, .int .i64 h] w fun e' w' => e' = .returned (.agg (arrV .u8 (forL e r h))) ∧ w.grownBy w' none := by
  obtain ⟨Z16, hZ16⟩ : ∃ Z, Z = arrV .u8 (List.replicate 16 0) := ⟨_, rfl⟩
  have hz16 : ∀ w, Sem.run Tryd.prog (zeroValue 23) w = .ok (.agg Z16) w := fun w => by rw [hZ16]; exact z16run w
  obtain ⟨w1, hw1⟩ : ∃ w1, w.alloc (.cells Z16 23) = w1 := ⟨_, rfl⟩
  obtain ⟨q, hq⟩ : ∃ q, w.heap.size = q := ⟨_, rfl⟩
  have b2 : Blk w1 q 23 Z16 := by rw [← hw1, ← hq]; exact Blk.new w _ _
  have g1 : w.grownBy w1 none := by rw [← hw1]; exact World.grownBy_alloc _ _ none
  obtain ⟨s1, h1, z1⟩ := b8_str e
  obtain ⟨s2, h2, z2⟩ := b8_str r
  obtain ⟨s3, h3, z3⟩ := b8_str h
  have HS := Lib.hid (And.intro h1 (And.intro z1 (And.intro h2 (And.intro z2 (And.intro h3 z3)))))
  have HB := Lib.hid (And.intro b2 (And.intro g1 (And.intro (show Z16.size = 16 by rw [hZ16]; rfl) hq)))
  have HW := Lib.hid hw1
  obtain ⟨F, hF⟩ : ∃ F, arrV .u8 (forL e r h) = F := ⟨_, rfl⟩
  have hFz : F.size = 16 := by rw [← hF, arr_size]; exact ofS_length _ _
  have hFo : (F.all fun v => v.oneCell') = true := by rw [← hF]; exact arr_one _ _
  have HF := Lib.hid (And.intro hF (And.intro hFz hFo))
  have HX := Lib.hid (And.intro he (And.intro hr hh))
  clear hZ16 b2 g1 hw1 hF hFz hFo he hr hh h1 z1 h2 z2 h3 z3
  go_enter Tryd.func9, Tryd.ntmps9
  go_wp2_with fail
  clear hz16
  rw [HW.out]
  refine (rwide_is w1 e HX.out.1 s1 HS.out.1).mono ?_
  rintro e1 w2 ⟨rfl, g2⟩
  have H2 := Lib.hid g2
  clear g2
  go_wp2_with fail
  refine (rwide_is w2 r HX.out.2.1 s2 HS.out.2.2.1).mono ?_
  rintro e1 w3 ⟨rfl, g3⟩
  have H3 := Lib.hid g3
  clear g3
  go_wp2_with fail
  refine (rwide_is w3 h HX.out.2.2 s3 HS.out.2.2.2.2.1).mono ?_
  rintro e1 w4 ⟨rfl, g4⟩
  have H4 := Lib.hid g4
  clear g4
  go_wp2_with fail
  have g5 := World.grownBy_alloc w4 (.cells #[.string s1, .string s2, .string s3] 9) none
  have b5 := Blk.new w4 9 #[.string s1, .string s2, .string s3]
  obtain ⟨w5, hw5⟩ : ∃ w5, w4.alloc (.cells #[.string s1, .string s2, .string s3] 9) = w5 := ⟨_, rfl⟩
  rw [hw5] at g5 b5 ⊢
  have g15 := grown_trans H2.out (grown_trans H3.out (grown_trans H4.out g5))
  have hts : ∀ t ∈ [s1, s2, s3], t.size ≤ 16 := fun t ht => by
    simp only [List.mem_cons, List.not_mem_nil, or_false] at ht
    obtain ⟨_, z1, _, z2, _, z3⟩ := HS.out
    rcases ht with rfl | rfl | rfl <;> omega
  have HO := Lib.hid (rof_is w5 8 (some ⟨w4.heap.size, 0, none⟩) 3 3 [s1, s2, s3] rfl (texts3 b5) (by omega) (fun t ht => by have := hts t ht; omega) (frm_le _ _ hts (by simp)))
  have HG := Lib.hid (And.intro (HB.out.1.grown g15 (by simp)) (grown_trans HB.out.2.1 g15))
  clear g5 b5 g15 hw5 hts
  refine HO.out.mono ?_
  rintro e1 w6 ⟨rfl, g6⟩
  rw [show arrV .u8 (ofS 8 ([s1, s2, s3].map xsOf)) = F by rw [← HF.out.1, List.map_cons, List.map_cons, List.map_cons, List.map_nil, HS.out.1, HS.out.2.2.1, HS.out.2.2.2.2.1]; rfl]
  have HB3 := Lib.hid (And.intro (HG.out.1.grown g6 (by simp)) (grown_trans HG.out.2 g6))
  clear g6
  go_wp2_with (first
    | (refine wpList_store_row rfl 23 _ _ rfl q F rfl rfl 23 _ HB3.out.1 (by rw [HF.out.2.1]; exact info16) (by rw [HF.out.2.1, HB.out.2.2.1]) HF.out.2.2 ?_))
  refine bodyPost_ret (results_cell rfl _ _ _ ⟨q, 0, none⟩ (.agg F) rfl (run_loadVar_row _ q 23 23 _ (0, 0) _ (HB3.out.1.row _) Tryd.underlying23 rfl (by rw [HF.out.2.1]; exact info16))) rfl ?_
  exact ⟨by rw [HF.out.1], grown_row HB3.out.2 (.inl (by rw [HB.out.2.2.2]; exact Nat.le_refl _)) _⟩
set_option maxRecDepth 100000 in
set_option maxHeartbeats 1000000 in
theorem rforV_is (w : World) (e r : Int) (he : -9223372036854775808 ≤ e ∧ e < 9223372036854775808) (hr : -9223372036854775808 ≤ r ∧ r < 9223372036854775808) (d : List Int) (hd : isDig d) (dd : Array Value) (hdd : dd = arrV .u8 d) :
    Calls Tryd.prog 7 #[.int .i64 e, .int .i64 r, .agg dd] w fun e' w' => e' = .returned (.agg (arrV .u8 (forV e r d))) ∧ w.grownBy w' none := by
  obtain ⟨Z16, hZ16⟩ : ∃ Z, Z = arrV .u8 (List.replicate 16 0) := ⟨_, rfl⟩
  have hz16 : ∀ w, Sem.run Tryd.prog (zeroValue 23) w = .ok (.agg Z16) w := fun w => by rw [hZ16]; exact z16run w
  obtain ⟨q, hq⟩ : ∃ q, w.heap.size = q := ⟨_, rfl⟩
  obtain ⟨w1, hw1⟩ : ∃ w1, (w.alloc (.cells dd 23)).alloc (.cells Z16 23) = w1 := ⟨_, rfl⟩
  have b1 : Blk w1 q 23 dd := by rw [← hw1, ← hq]; exact (Blk.new w _ _).alloc _
  have b2 : Blk w1 (q + 1) 23 Z16 := by
    have h := Blk.new (w.alloc (.cells dd 23)) 23 Z16
    rw [World.size_alloc, hw1, hq] at h
    exact h
  have g1 : w.grownBy w1 none := by rw [← hw1]; exact grown_trans (World.grownBy_alloc _ _ none) (World.grownBy_alloc _ _ none)
  obtain ⟨V1, hV1⟩ : ∃ V1, w1.drew = V1 := ⟨_, rfl⟩
  have hb : Blk V1 (q + 1) 23 Z16 ∧ w.grownBy V1 none ∧ Blk V1 q 23 dd := by rw [← hV1]; exact ⟨b2.drew, grown_drew g1, b1.drew⟩
  have HB := Lib.hid (And.intro hb.1 (And.intro hb.2.1 (And.intro (show Z16.size = 16 by rw [hZ16]; rfl) (And.intro hq (And.intro hb.2.2 (show dd.size = 16 by rw [hdd, arr_size, hd.1]))))))
  have HW := Lib.hid (And.intro hw1 hV1)
  obtain ⟨s1, h1, z1⟩ := b8_str e
  obtain ⟨s2, h2, z2⟩ := b8_str r
  obtain ⟨s3, h3, z3⟩ := dig_str16 d hd
  have HS := Lib.hid (And.intro h1 (And.intro z1 (And.intro h2 (And.intro z2 (And.intro h3 z3)))))
  obtain ⟨F, hF⟩ : ∃ F, arrV .u8 (forV e r d) = F := ⟨_, rfl⟩
  have hFz : F.size = 16 := by rw [← hF, arr_size]; exact ofS_length _ _
  have hFo : (F.all fun v => v.oneCell') = true := by rw [← hF]; exact arr_one _ _
  have HF := Lib.hid (And.intro hF (And.intro hFz hFo))
  have HX := Lib.hid (And.intro he (And.intro hr (And.intro hd hdd)))
  clear hZ16 b1 b2 g1 hw1 hV1 hF hFz hFo he hr hd hdd hb h1 z1 h2 z2 h3 z3
  go_enter Tryd.func7, Tryd.ntmps7
  go_upto_region 1 with (fail)
  clear hz16
  rw [HW.out.1]
  refine wp_region_held_drew (S := fun V => V.rangeAt q 0 dd.toList) (by kernel_rfl) (by rw [HW.out.2]; exact range_of_blk HB.out.2.2.2.2.1) (fun hHeld => ?_)
  rw [HW.out.2] at hHeld ⊢
  refine wpAnyH_take (i := 0) (oi := _) (v := ?vv0) rfl (by kernel_rfl) (by kernel_rfl) (by kernel_rfl) (fun _ _ _ h => h) (Or.inl ⟨by rfl, ?hyv0⟩) (by assumption) ?restv0
  case hyv0 => (intro V hSw; (try dsimp only at hSw); go_simp) <;> with_reducible rfl
  try simp only [Act.put, List.getElem_toArray, List.getElem_cons_succ, List.getElem_cons_zero, List.setIfInBounds_toArray, List.set_cons_zero, List.set_cons_succ]
  refine wpAnyH_take (i := 2) (oi := _) (v := ?vv2) rfl (by kernel_rfl) (by kernel_rfl) (by kernel_rfl) (fun _ _ _ h => h) (Or.inl ⟨by rfl, ?hyv2⟩) (by assumption) ?restv2
  case hyv2 => (intro V hSw; (try dsimp only at hSw); go_simp) <;> with_reducible rfl
  try simp only [Act.put, List.getElem_toArray, List.getElem_cons_succ, List.getElem_cons_zero, List.setIfInBounds_toArray, List.set_cons_zero, List.set_cons_succ]
  refine wpAnyH_take (i := 4) (oi := _) (v := .agg dd) rfl (by kernel_rfl) (by kernel_rfl) (by kernel_rfl) (fun _ _ _ h => h) (yieldsIf_load_mid (by rfl) _ _ rfl q 0 rfl dd.toList _ (fun V hSw => hSw) Tryd.underlying23 rfl (by rw [Array.length_toList, HB.out.2.2.2.2.2]; exact info16)) (by assumption) ?restv4
  try simp only [Act.put, List.getElem_toArray, List.getElem_cons_succ, List.getElem_cons_zero, List.setIfInBounds_toArray, List.set_cons_zero, List.set_cons_succ]
  refine wpAnyH_ready (rs := [1]) (by kernel_rfl) (by simp) ?_
  refine (AllReadyH.cons (o := _) rfl (fun K9 hK => ?_) AllReadyH.nil)
  go_simp
  refine (rwide_is V1 e HX.out.1 s1 HS.out.1).mono ?_
  rintro e1 w2 ⟨rfl, g2⟩
  have H2 := Lib.hid g2
  clear g2
  (try go_wp2_with fail)
  refine hK.out _ _ (range_of_blk (HB.out.2.2.2.2.1.grown H2.out (by simp))) (fun hHeld => ?_)
  clear hK K9
  try simp only [Act.put, List.getElem_toArray, List.getElem_cons_succ, List.getElem_cons_zero, List.setIfInBounds_toArray, List.set_cons_zero, List.set_cons_succ]
  refine wpAnyH_ready (rs := [3]) (by kernel_rfl) (by simp) ?_
  refine (AllReadyH.cons (o := _) rfl (fun K9 hK => ?_) AllReadyH.nil)
  go_simp
  refine (rwide_is w2 r HX.out.2.1 s2 HS.out.2.2.1).mono ?_
  rintro e1 w3 ⟨rfl, g3⟩
  have H3 := Lib.hid g3
  clear g3
  (try go_wp2_with fail)
  refine hK.out _ _ (range_of_blk (HB.out.2.2.2.2.1.grown (grown_trans H2.out H3.out) (by simp))) (fun hHeld => ?_)
  clear hK K9
  try simp only [Act.put, List.getElem_toArray, List.getElem_cons_succ, List.getElem_cons_zero, List.setIfInBounds_toArray, List.set_cons_zero, List.set_cons_succ]
  refine wpAnyH_ready (rs := [5]) (by kernel_rfl) (by simp) ?_
  refine (AllReadyH.cons (o := _) rfl (fun K9 hK => ?_) AllReadyH.nil)
  go_simp
  rw [HX.out.2.2.2]
  refine (text_is w3 d HX.out.2.2.1.1 s3 HS.out.2.2.2.2.1).mono ?_
  rintro e1 w4 ⟨rfl, g4⟩
  have H4 := Lib.hid g4
  clear g4
  (try go_wp2_with fail)
  refine hK.out _ _ (range_of_blk (HB.out.2.2.2.2.1.grown (grown_trans H2.out (grown_trans H3.out H4.out)) (by simp))) (fun hHeld => ?_)
  clear hK K9
  try simp only [Act.put, List.getElem_toArray, List.getElem_cons_succ, List.getElem_cons_zero, List.setIfInBounds_toArray, List.set_cons_zero, List.set_cons_succ]
  refine wpAnyH_ready (rs := [6]) (by kernel_rfl) (by simp) ?_
  refine (AllReadyH.cons (o := _) rfl (fun K9 hK => ?_) AllReadyH.nil)
  go_simp
  have g5 := World.grownBy_alloc w4 (.cells #[.string s1, .string s2, .string s3] 9) none
  have b5 := Blk.new w4 9 #[.string s1, .string s2, .string s3]
  obtain ⟨w5, hw5⟩ : ∃ w5, w4.alloc (.cells #[.string s1, .string s2, .string s3] 9) = w5 := ⟨_, rfl⟩
  rw [hw5] at g5 b5 ⊢
  have g15 := grown_trans H2.out (grown_trans H3.out (grown_trans H4.out g5))
  have hts : ∀ t ∈ [s1, s2, s3], t.size ≤ 16 := fun t ht => by
    simp only [List.mem_cons, List.not_mem_nil, or_false] at ht
    obtain ⟨_, z1, _, z2, _, z3⟩ := HS.out
    rcases ht with rfl | rfl | rfl <;> omega
  have HO := Lib.hid (rof_is w5 7 (some ⟨w4.heap.size, 0, none⟩) 3 3 [s1, s2, s3] rfl (texts3 b5) (by omega) (fun t ht => by have := hts t ht; omega) (frm_le _ _ hts (by simp)))
  have HG := Lib.hid (And.intro (HB.out.1.grown g15 (by simp)) (And.intro (grown_trans HB.out.2.1 g15) (HB.out.2.2.2.2.1.grown g15 (by simp))))
  clear g5 b5 g15 hw5 hts
  refine hK.out _ _ (range_of_blk HG.out.2.2) (fun hHeld => ?_)
  clear hK K9
  try simp only [Act.put, List.getElem_toArray, List.getElem_cons_succ, List.getElem_cons_zero, List.setIfInBounds_toArray, List.set_cons_zero, List.set_cons_succ]
  refine wpAnyH_ready (rs := [7]) (by kernel_rfl) (by simp) ?_
  refine (AllReadyH.cons (o := _) rfl (fun K9 hK => ?_) AllReadyH.nil)
  go_simp
  refine HO.out.mono ?_
  rintro e1 w6 ⟨rfl, g6⟩
  rw [show arrV .u8 (ofS 7 ([s1, s2, s3].map xsOf)) = F by rw [← HF.out.1, List.map_cons, List.map_cons, List.map_cons, List.map_nil, HS.out.1, HS.out.2.2.1, HS.out.2.2.2.2.1]; rfl]
  have HB3 := Lib.hid (And.intro (HG.out.1.grown g6 (by simp)) (And.intro (grown_trans HG.out.2.1 g6) (HG.out.2.2.grown g6 (by simp))))
  clear g6
  (try go_wp2_with fail)
  refine hK.out _ _ (range_of_blk HB3.out.2.2) (fun hHeld => ?_)
  clear hK K9
  try simp only [Act.put, List.getElem_toArray, List.getElem_cons_succ, List.getElem_cons_zero, List.setIfInBounds_toArray, List.set_cons_zero, List.set_cons_succ]
  refine wpAnyH_ready (rs := [8]) (by kernel_rfl) (by simp) ?_
  refine (AllReadyH.cons (o := _) rfl (fun K9 hK => ?_) AllReadyH.nil)
  refine ready_store_mid (by rfl) 23 _ _ rfl (q + 1) 0 F rfl rfl (there_blk HB3.out.1 (by rw [HF.out.2.1, HB.out.2.2.1]; exact Nat.le_refl _)) (by rw [HF.out.2.1]; exact info16) HF.out.2.2 ?_
  rw [setCells_row (P := Tryd.prog) (ty := 23) HB3.out.1 (by rw [HF.out.2.1]; exact info16) (by rw [HF.out.2.1, HB.out.2.2.1]) HF.out.2.2]
  refine hK.out _ _ (range_of_blk (HB3.out.2.2.kept (row_kept F) (show ¬ q = q + 1 by omega))) (fun hHeld => ?_)
  clear hK K9
  try simp only [Act.put, List.getElem_toArray, List.getElem_cons_succ, List.getElem_cons_zero, List.setIfInBounds_toArray, List.set_cons_zero, List.set_cons_succ]
  refine wpAnyH_done (by kernel_rfl) ?_ _
  go_wp2_with fail
  refine bodyPost_ret (results_cell rfl _ _ _ ⟨q + 1, 0, none⟩ (.agg F) rfl (run_loadVar_row _ (q + 1) 23 23 _ (0, 0) _ (HB3.out.1.row _) Tryd.underlying23 rfl (by rw [HF.out.2.1]; exact info16))) rfl ?_
  exact ⟨by rw [HF.out.1], grown_row HB3.out.2.1 (.inl (by rw [HB.out.2.2.2.1]; omega)) _⟩
end Go.Proofs.YthjcgdcmbedhnaaDoor
