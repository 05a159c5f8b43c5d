/-
  quorateref03: one, Secret, Step, Run.
-/
import Derived.Test.YtjcbfenkpdpbeaaDoorTx
import Derived.Test.YtjcbfenkpdpbeaaDoorChA
namespace Go.Proofs.YtjcbfenkpdpbeaaDoor
open Go.RowKit

theorem one_is (w : World) (n : Int) (s : ByteArray) (hs : xsOf s = [n % 256]) : Calls Tryd.prog 30 #[.int .i64 n] w fun e w' => e = .returned (.string s) ∧ w.grownBy w' none := by
  have hcv : Sem.run Tryd.prog (convert 56 9 (.slice (some ⟨w.heap.size, 0, none⟩) 1 1)) (w.alloc (.cells #[.int .u8 (n % 256)] 5)) = .ok (.string s) (w.alloc (.cells #[.int .u8 (n % 256)] 5)) :=
    str_run _ _ 1 1 s (by rw [← xsOf_length, hs]; rfl) (by rw [hs]; exact bytes_blk (Blk.new w 5 (arrV .u8 [n % 256])))
  go_enter Tryd.func30, Tryd.ntmps30
  go_wp2_with fail
  go_ret
  exact ⟨rfl, World.grownBy_alloc w _ none⟩
theorem dig_str (x : List Int) (h : isDig x) : ∃ s : ByteArray, xsOf s = x := ints_str x h.2
theorem byte_str (n : Int) : ∃ s : ByteArray, xsOf s = [n % 256] := ints_str [n % 256] (fun z hz => by simp at hz; omega)
theorem texts_new (w : World) (t : TypeId) (ts : List ByteArray) : TextsI (w.alloc (.cells (ts.map Value.string).toArray t)) (some ⟨w.heap.size, 0, none⟩) ts := fun j hj => ⟨_, rfl, by
  rw [add_none, Nat.zero_add, (Blk.new w t _).cell]
  simp [List.getD, List.getElem?_eq_getElem hj]⟩

set_option maxRecDepth 100000 in
set_option maxHeartbeats 2000000 in
theorem rsecret_is (w : World) (seed : List Int) (hs : isDig seed) (lf i : Int) :
    Calls Tryd.prog 12 #[.agg (arrV .u8 seed), .int .i64 lf, .int .i64 i] w fun e w' => e = .returned (.agg (arrV .u8 (secC seed lf i))) ∧ w.grownBy w' none := by
  obtain ⟨s0, h0⟩ := dig_str seed hs
  obtain ⟨s1, h1⟩ := byte_str lf
  obtain ⟨s2, h2⟩ := byte_str i
  obtain ⟨Z16, hZ16⟩ : ∃ Z, Z = arrV .u8 (List.replicate 16 0) := ⟨_, rfl⟩
  have hz16 : ∀ w, Sem.run Tryd.prog (zeroValue 23) w = .ok (.agg Z16) w := fun w => by rw [hZ16]; exact z16run w
  have hZs : Z16.size = 16 := by rw [hZ16]; rfl
  obtain ⟨ds, hds⟩ : ∃ ds, ds = arrV .u8 seed := ⟨_, rfl⟩
  rw [← hds]
  have HD := Lib.hid (show ds = arrV .u8 seed ∧ ds.size = 16 ∧ Z16.size = 16 from ⟨hds, by rw [hds, arr_size, hs.1], hZs⟩)
  have HS := Lib.hid (And.intro hs (And.intro h0 (And.intro h1 h2)))
  clear hZ16 hZs hds hs h0 h1 h2
  go_enter Tryd.func12, Tryd.ntmps12
  obtain ⟨w0, hw0⟩ : ∃ w0, w0 = (w.alloc (.cells ds 23)).alloc (.cells Z16 23) := ⟨_, rfl⟩
  have hb0 : Blk w0 w.heap.size 23 ds := by rw [hw0]; exact (Blk.new w _ ds).alloc _
  have HZ0 := Lib.hid (show Blk w0 (w.heap.size + 1) 23 Z16 by rw [hw0]; have := Blk.new (w.alloc (.cells ds 23)) 23 Z16; rwa [World.size_alloc] at this)
  have HG0 := Lib.hid (show w.grownBy w0 none by rw [hw0]; exact grown_trans (World.grownBy_alloc _ _ none) (World.grownBy_alloc _ _ none))
  have HB0 := Lib.hid (show Blk ((w.alloc (.cells ds 23)).alloc (.cells Z16 23)) w.heap.size 23 ds from (Blk.new w _ ds).alloc _)
  have HW0 := Lib.hid hw0
  clear hw0 hb0
  go_wp2_with (refine wpList_load_row rfl 23 _ rfl w.heap.size rfl 23 ds (0, 0) _ HB0.out Tryd.underlying23 rfl (by rw [HD.out.2.1]; exact info16) ?_)
  rw [← HW0.out, HD.out.1]
  refine (text_is w0 seed HS.out.1.1 s0 HS.out.2.1).mono ?_
  rintro e w1 ⟨rfl, hk1⟩
  have HK1 := Lib.hid hk1
  clear hk1
  go_wp2_with fail
  refine (one_is w1 lf s1 HS.out.2.2.1).mono ?_
  rintro e w2 ⟨rfl, hk2⟩
  have HK2 := Lib.hid (grown_trans HK1.out hk2)
  clear hk2
  go_wp2_with fail
  refine (one_is w2 i s2 HS.out.2.2.2).mono ?_
  rintro e w3 ⟨rfl, hk3⟩
  have HK3 := Lib.hid (grown_trans HK2.out hk3)
  clear hk3
  go_wp2_with fail
  have hP := texts_new w3 9 [s0, s1, s2]
  have HE := Lib.hid (show [s0, s1, s2].map xsOf = [seed, [lf % 256], [i % 256]] by simp [HS.out.2.1, HS.out.2.2.1, HS.out.2.2.2])
  have hl : (framedL 1 ([s0, s1, s2].map xsOf)).length ≤ 50000 := by
    rw [HE.out]
    have := framedL_le 1 16 [seed, [lf % 256], [i % 256]] (fun p hp => by
      simp only [List.mem_cons, List.not_mem_nil, or_false] at hp
      rcases hp with rfl | rfl | rfl
      · exact Nat.le_of_eq HS.out.1.1
      · simp
      · simp)
    simp at this
    omega
  refine (rof_is _ 1 (some ⟨w3.heap.size, 0, none⟩) 3 3 [s0, s1, s2] rfl hP (by omega) (fun t ht => by
    have : (xsOf t).length = 16 ∨ (xsOf t).length = 1 := by
      simp only [List.mem_cons, List.not_mem_nil, or_false] at ht
      rcases ht with rfl | rfl | rfl
      · exact .inl (by rw [HS.out.2.1]; exact HS.out.1.1)
      · exact .inr (by rw [HS.out.2.2.1]; rfl)
      · exact .inr (by rw [HS.out.2.2.2]; rfl)
    rw [xsOf_length] at this
    omega) hl).mono ?_
  rintro e w4 ⟨rfl, hk4⟩
  rw [HE.out, ← secC]
  obtain ⟨c6, hc6⟩ : ∃ c6, c6 = arrV .u8 (secC seed lf i) := ⟨_, rfl⟩
  rw [← hc6]
  have hs16 : c6.size = 16 := by rw [hc6, arr_size]; exact (secC_dig _ _ _).1
  have HS6 := Lib.hid (And.intro hs16 (And.intro (show (c6.all fun x => x.oneCell') = true by rw [hc6]; exact arr_one _ _) hc6))
  have hk5 := grown_trans (World.grownBy_alloc w3 (.cells ([s0, s1, s2].map Value.string).toArray 9) none) hk4
  have HK4 := Lib.hid (grown_trans HG0.out (grown_trans HK3.out hk5))
  have HZ4 := Lib.hid ((HZ0.out.grown HK3.out (by simp)).grown hk5 (by simp))
  clear hs16 hc6 hP hl hk4 hk5
  go_wp2_with (refine wpList_store_row rfl 23 _ _ rfl (w.heap.size + 1) c6 rfl rfl 23 _ HZ4.out (by rw [HS6.out.1]; exact info16) (by rw [HD.out.2.2, HS6.out.1]) HS6.out.2.1 ?_)
  refine bodyPost_ret (results_cell rfl _ _ _ ⟨w.heap.size + 1, 0, none⟩ (.agg c6) rfl (run_loadVar_row _ (w.heap.size + 1) 23 23 c6 (0, 0) _ (HZ4.out.row c6) Tryd.underlying23 rfl (by rw [HS6.out.1]; exact info16))) rfl ?_
  exact ⟨by rw [HS6.out.2.2], grown_row HK4.out (.inl (Nat.le_succ _)) c6⟩
set_option maxRecDepth 100000 in
set_option maxHeartbeats 2000000 in
theorem rstep_is (w : World) (seed : List Int) (hs : isDig seed) (lf i kk : Int) :
    Calls Tryd.prog 31 #[.agg (arrV .u8 seed), .int .i64 lf, .int .i64 i, .int .i64 kk] w fun e w' => e = .returned (.agg (arrV .u8 (stepC seed lf i kk))) ∧ w.grownBy w' none := by
  obtain ⟨s0, h0⟩ := dig_str seed hs
  obtain ⟨s1, h1⟩ := byte_str lf
  obtain ⟨s2, h2⟩ := byte_str i
  obtain ⟨s3, h3⟩ := byte_str kk
  obtain ⟨Z16, hZ16⟩ : ∃ Z, Z = arrV .u8 (List.replicate 16 0) := ⟨_, rfl⟩
  have hz16 : ∀ w, Sem.run Tryd.prog (zeroValue 23) w = .ok (.agg Z16) w := fun w => by rw [hZ16]; exact z16run w
  have hZs : Z16.size = 16 := by rw [hZ16]; rfl
  obtain ⟨ds, hds⟩ : ∃ ds, ds = arrV .u8 seed := ⟨_, rfl⟩
  rw [← hds]
  have HD := Lib.hid (show ds = arrV .u8 seed ∧ ds.size = 16 ∧ Z16.size = 16 from ⟨hds, by rw [hds, arr_size, hs.1], hZs⟩)
  have HS := Lib.hid (And.intro hs (And.intro h0 (And.intro h1 (And.intro h2 h3))))
  clear hZ16 hZs hds hs h0 h1 h2 h3
  go_enter Tryd.func31, Tryd.ntmps31
  obtain ⟨w0, hw0⟩ : ∃ w0, w0 = (w.alloc (.cells ds 23)).alloc (.cells Z16 23) := ⟨_, rfl⟩
  have hb0 : Blk w0 w.heap.size 23 ds := by rw [hw0]; exact (Blk.new w _ ds).alloc _
  have HZ0 := Lib.hid (show Blk w0 (w.heap.size + 1) 23 Z16 by rw [hw0]; have := Blk.new (w.alloc (.cells ds 23)) 23 Z16; rwa [World.size_alloc] at this)
  have HG0 := Lib.hid (show w.grownBy w0 none by rw [hw0]; exact grown_trans (World.grownBy_alloc _ _ none) (World.grownBy_alloc _ _ none))
  have HB0 := Lib.hid (show Blk ((w.alloc (.cells ds 23)).alloc (.cells Z16 23)) w.heap.size 23 ds from (Blk.new w _ ds).alloc _)
  have HW0 := Lib.hid hw0
  clear hw0 hb0
  go_wp2_with (refine wpList_load_row rfl 23 _ rfl w.heap.size rfl 23 ds (0, 0) _ HB0.out Tryd.underlying23 rfl (by rw [HD.out.2.1]; exact info16) ?_)
  rw [← HW0.out, HD.out.1]
  refine (text_is w0 seed HS.out.1.1 s0 HS.out.2.1).mono ?_
  rintro e w1 ⟨rfl, hk1⟩
  have HK1 := Lib.hid hk1
  clear hk1
  go_wp2_with fail
  refine (one_is w1 lf s1 HS.out.2.2.1).mono ?_
  rintro e w2 ⟨rfl, hk2⟩
  have HK2 := Lib.hid (grown_trans HK1.out hk2)
  clear hk2
  go_wp2_with fail
  refine (one_is w2 i s2 HS.out.2.2.2.1).mono ?_
  rintro e w3 ⟨rfl, hk3⟩
  have HK3a := Lib.hid (grown_trans HK2.out hk3)
  clear hk3
  go_wp2_with fail
  refine (one_is w3 kk s3 HS.out.2.2.2.2).mono ?_
  rintro e w4 ⟨rfl, hk4⟩
  have HK3 := Lib.hid (grown_trans HK3a.out hk4)
  clear hk4
  go_wp2_with fail
  have hP := texts_new w4 9 [s0, s1, s2, s3]
  have HE := Lib.hid (show [s0, s1, s2, s3].map xsOf = [seed, [lf % 256], [i % 256], [kk % 256]] by simp [HS.out.2.1, HS.out.2.2.1, HS.out.2.2.2.1, HS.out.2.2.2.2])
  have hl : (framedL 2 ([s0, s1, s2, s3].map xsOf)).length ≤ 50000 := by
    rw [HE.out]
    have := framedL_le 2 16 [seed, [lf % 256], [i % 256], [kk % 256]] (fun p hp => by
      simp only [List.mem_cons, List.not_mem_nil, or_false] at hp
      rcases hp with rfl | rfl | rfl | rfl
      · exact Nat.le_of_eq HS.out.1.1
      · simp
      · simp
      · simp)
    simp at this
    omega
  refine (rof_is _ 2 (some ⟨w4.heap.size, 0, none⟩) 4 4 [s0, s1, s2, s3] rfl hP (by omega) (fun t ht => by
    have : (xsOf t).length = 16 ∨ (xsOf t).length = 1 := by
      simp only [List.mem_cons, List.not_mem_nil, or_false] at ht
      rcases ht with rfl | rfl | rfl | rfl
      · exact .inl (by rw [HS.out.2.1]; exact HS.out.1.1)
      · exact .inr (by rw [HS.out.2.2.1]; rfl)
      · exact .inr (by rw [HS.out.2.2.2.1]; rfl)
      · exact .inr (by rw [HS.out.2.2.2.2]; rfl)
    rw [xsOf_length] at this
    omega) hl).mono ?_
  rintro e w5 ⟨rfl, hk4⟩
  rw [HE.out, ← stepC]
  obtain ⟨c6, hc6⟩ : ∃ c6, c6 = arrV .u8 (stepC seed lf i kk) := ⟨_, rfl⟩
  rw [← hc6]
  have hs16 : c6.size = 16 := by rw [hc6, arr_size]; exact (stepC_dig _ _ _ _).1
  have HS6 := Lib.hid (And.intro hs16 (And.intro (show (c6.all fun x => x.oneCell') = true by rw [hc6]; exact arr_one _ _) hc6))
  have hk5 := grown_trans (World.grownBy_alloc w4 (.cells ([s0, s1, s2, s3].map Value.string).toArray 9) none) hk4
  have HK4 := Lib.hid (grown_trans HG0.out (grown_trans HK3.out hk5))
  have HZ4 := Lib.hid ((HZ0.out.grown HK3.out (by simp)).grown hk5 (by simp))
  clear hs16 hc6 hP hl hk4 hk5
  go_wp2_with (refine wpList_store_row rfl 23 _ _ rfl (w.heap.size + 1) c6 rfl rfl 23 _ HZ4.out (by rw [HS6.out.1]; exact info16) (by rw [HD.out.2.2, HS6.out.1]) HS6.out.2.1 ?_)
  refine bodyPost_ret (results_cell rfl _ _ _ ⟨w.heap.size + 1, 0, none⟩ (.agg c6) rfl (run_loadVar_row _ (w.heap.size + 1) 23 23 c6 (0, 0) _ (HZ4.out.row c6) Tryd.underlying23 rfl (by rw [HS6.out.1]; exact info16))) rfl ?_
  exact ⟨by rw [HS6.out.2.2], grown_row HK4.out (.inl (Nat.le_succ _)) c6⟩
end Go.Proofs.YtjcbfenkpdpbeaaDoor
