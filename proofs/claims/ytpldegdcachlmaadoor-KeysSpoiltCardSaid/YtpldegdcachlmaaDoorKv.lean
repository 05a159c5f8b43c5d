/-
  keys.Verify and quorateref05.Right.
-/
import Derived.Test.YtpldegdcachlmaaDoorKs
import Derived.Test.YtpldegdcachlmaaDoorTrT1
namespace Go.Proofs.YtpldegdcachlmaaDoor
open Go.RowKit

set_option maxRecDepth 100000 in
set_option maxHeartbeats 4000000 in
theorem verify_a (w : World) (rt dd : Array Value) (hrt : rt.size = 16) (hdd : dd.size = 16) (lf : Int) (A1 A2 : Option Addr) (n1 c1 n2 c2 : Nat) (xs : Array Value) (hxs : xs.size = 16) (hx1 : (xs.all fun v => v.oneCell') = true) (a : Addr) (H1 : ∀ z, w.grownBy z none → Calls Tryd.prog 31 #[.int .i64 lf, .slice A1 n1 c1, .agg dd] z fun e w' => e = .returned (.tuple #[.agg xs, errV a]) ∧ z.grownBy w' none) :
    Calls Tryd.prog 18 #[.agg rt, .agg dd, .agg (sigV lf (.slice A1 n1 c1) (.slice A2 n2 c2))] w fun e w' => e = .returned (.bool false) ∧ w.grownBy w' none := by
  obtain ⟨Z16, hZ16⟩ : ∃ Z, Z = arrV .u8 (List.replicate 16 0) := ⟨_, rfl⟩
  have hz16 : ∀ w, Sem.run Tryd.prog (zeroValue 23) w = .ok (.agg Z16) w := fun w => by rw [hZ16]; exact z16run w
  have K1 := Lib.hid H1
  have HS := Lib.hid (And.intro hrt (And.intro hdd (And.intro (show Z16.size = 16 by rw [hZ16]; rfl) (And.intro hxs (show (xs.all fun v => v.oneCell') = true from hx1)))))
  have B3 := Lib.hid (show Blk (((w.alloc (.cells rt 23)).alloc (.cells dd 23)).alloc (.cells #[.int .i64 lf, .slice A1 n1 c1, .slice A2 n2 c2] 30)) w.heap.size 23 rt ∧ Blk (((w.alloc (.cells rt 23)).alloc (.cells dd 23)).alloc (.cells #[.int .i64 lf, .slice A1 n1 c1, .slice A2 n2 c2] 30)) (w.heap.size + 1) 23 dd ∧ Blk (((w.alloc (.cells rt 23)).alloc (.cells dd 23)).alloc (.cells #[.int .i64 lf, .slice A1 n1 c1, .slice A2 n2 c2] 30)) (w.heap.size + 1 + 1) 30 #[.int .i64 lf, .slice A1 n1 c1, .slice A2 n2 c2] ∧ w.grownBy (((w.alloc (.cells rt 23)).alloc (.cells dd 23)).alloc (.cells #[.int .i64 lf, .slice A1 n1 c1, .slice A2 n2 c2] 30)) none from by
    have b1 := (Blk.new (w.alloc (.cells rt 23)) 23 dd).alloc (.cells #[.int .i64 lf, .slice A1 n1 c1, .slice A2 n2 c2] 30)
    have b2 := Blk.new ((w.alloc (.cells rt 23)).alloc (.cells dd 23)) 30 #[.int .i64 lf, .slice A1 n1 c1, .slice A2 n2 c2]
    simp only [World.size_alloc] at b1 b2
    exact ⟨((Blk.new w 23 rt).alloc _).alloc _, b1, b2, grown_trans (grown_trans (World.grownBy_alloc w _ none) (World.grownBy_alloc _ _ none)) (World.grownBy_alloc _ _ none)⟩)
  simp only [sigV]
  clear H1 hZ16 hrt hdd hxs hx1
  go_enter Tryd.func18, Tryd.ntmps18
  go_wp2_with (refine wpList_load_row rfl 23 _ rfl (w.heap.size + 1) rfl 23 dd (0, 0) _ B3.out.2.1 Tryd.underlying23 rfl (by rw [HS.out.2.1]; exact info16) ?_)
  refine (K1.out _ B3.out.2.2.2).mono ?_
  rintro e w2 ⟨rfl, hk2⟩
  have H2' := Lib.hid (show Blk w2 w.heap.size 23 rt ∧ Blk w2 (w.heap.size + 1 + 1) 30 #[.int .i64 lf, .slice A1 n1 c1, .slice A2 n2 c2] ∧ w.grownBy w2 none from ⟨B3.out.1.grown hk2 (by simp), B3.out.2.2.1.grown hk2 (by simp), grown_trans B3.out.2.2.2 hk2⟩)
  clear hk2
  go_wp2_with (first
    | (refine wpList_store_row rfl 23 _ _ rfl w2.heap.size xs rfl rfl 23 _ (heap_alloc_new w2 _) (by rw [HS.out.2.2.2.1]; exact info16) (by rw [HS.out.2.2.1, HS.out.2.2.2.1]) HS.out.2.2.2.2 ?_
       obtain ⟨w3, hw3⟩ : ∃ w3, w3 = (w2.alloc (.cells Z16 23)).setRow w2.heap.size xs := ⟨_, rfl⟩
       obtain ⟨pb, hpb⟩ : ∃ pb, pb = w2.heap.size := ⟨_, rfl⟩
       rw [← hw3, ← hpb]
       have H3 := Lib.hid (show Blk w3 pb 23 xs ∧ Blk w3 w.heap.size 23 rt ∧ Blk w3 (w.heap.size + 1 + 1) 30 #[.int .i64 lf, .slice A1 n1 c1, .slice A2 n2 c2] ∧ w.grownBy w3 none from by
         rw [hw3, hpb]
         have g3 := grown_row (World.grownBy_alloc w2 (.cells Z16 23) none) (.inl (Nat.le_refl _)) xs
         exact ⟨(Blk.new w2 23 Z16).row xs, H2'.out.1.grown g3 (by simp), H2'.out.2.1.grown g3 (by simp), grown_trans H2'.out.2.2 g3⟩)
       have c0' := H3.out.2.2.1.cell 0
       have c2' := H3.out.2.2.1.cell 2
       simp only [List.getElem?_toArray, List.getElem?_cons_zero, List.getElem?_cons_succ] at c0' c2'
       clear hw3 hpb)
    | (refine wpList_load_row rfl 23 _ rfl pb rfl 23 xs (0, 0) _ H3.out.1 Tryd.underlying23 rfl (by rw [HS.out.2.2.2.1]; exact info16) ?_))
  go_ret
  exact ⟨rfl, H3.out.2.2.2⟩
set_option maxRecDepth 100000 in
set_option maxHeartbeats 4000000 in
theorem verify_b (w : World) (rt dd : Array Value) (hrt : rt.size = 16) (hdd : dd.size = 16) (lf : Int) (A1 A2 : Option Addr) (n1 c1 n2 c2 : Nat) (xs ts : Array Value) (hxs : xs.size = 16) (hx1 : (xs.all fun v => v.oneCell') = true) (hts : ts.size = 16) (ht1 : (ts.all fun v => v.oneCell') = true) (a : Addr) (H1 : ∀ z, w.grownBy z none → Calls Tryd.prog 31 #[.int .i64 lf, .slice A1 n1 c1, .agg dd] z fun e w' => e = .returned (.tuple #[.agg xs, .nilIface]) ∧ z.grownBy w' none) (H2 : ∀ z, w.grownBy z none → Calls Tryd.prog 32 #[.agg xs, .int .i64 lf, .slice A2 n2 c2] z fun e w' => e = .returned (.tuple #[.agg ts, errV a]) ∧ z.grownBy w' none) :
    Calls Tryd.prog 18 #[.agg rt, .agg dd, .agg (sigV lf (.slice A1 n1 c1) (.slice A2 n2 c2))] w fun e w' => e = .returned (.bool false) ∧ w.grownBy w' none := by
  obtain ⟨Z16, hZ16⟩ : ∃ Z, Z = arrV .u8 (List.replicate 16 0) := ⟨_, rfl⟩
  have hz16 : ∀ w, Sem.run Tryd.prog (zeroValue 23) w = .ok (.agg Z16) w := fun w => by rw [hZ16]; exact z16run w
  have K2 := Lib.hid H2
  have HT := Lib.hid (And.intro hts ht1)
  clear H2 hts ht1
  have K1 := Lib.hid H1
  have HS := Lib.hid (And.intro hrt (And.intro hdd (And.intro (show Z16.size = 16 by rw [hZ16]; rfl) (And.intro hxs (show (xs.all fun v => v.oneCell') = true from hx1)))))
  have B3 := Lib.hid (show Blk (((w.alloc (.cells rt 23)).alloc (.cells dd 23)).alloc (.cells #[.int .i64 lf, .slice A1 n1 c1, .slice A2 n2 c2] 30)) w.heap.size 23 rt ∧ Blk (((w.alloc (.cells rt 23)).alloc (.cells dd 23)).alloc (.cells #[.int .i64 lf, .slice A1 n1 c1, .slice A2 n2 c2] 30)) (w.heap.size + 1) 23 dd ∧ Blk (((w.alloc (.cells rt 23)).alloc (.cells dd 23)).alloc (.cells #[.int .i64 lf, .slice A1 n1 c1, .slice A2 n2 c2] 30)) (w.heap.size + 1 + 1) 30 #[.int .i64 lf, .slice A1 n1 c1, .slice A2 n2 c2] ∧ w.grownBy (((w.alloc (.cells rt 23)).alloc (.cells dd 23)).alloc (.cells #[.int .i64 lf, .slice A1 n1 c1, .slice A2 n2 c2] 30)) none from by
    have b1 := (Blk.new (w.alloc (.cells rt 23)) 23 dd).alloc (.cells #[.int .i64 lf, .slice A1 n1 c1, .slice A2 n2 c2] 30)
    have b2 := Blk.new ((w.alloc (.cells rt 23)).alloc (.cells dd 23)) 30 #[.int .i64 lf, .slice A1 n1 c1, .slice A2 n2 c2]
    simp only [World.size_alloc] at b1 b2
    exact ⟨((Blk.new w 23 rt).alloc _).alloc _, b1, b2, grown_trans (grown_trans (World.grownBy_alloc w _ none) (World.grownBy_alloc _ _ none)) (World.grownBy_alloc _ _ none)⟩)
  simp only [sigV]
  clear H1 hZ16 hrt hdd hxs hx1
  go_enter Tryd.func18, Tryd.ntmps18
  go_wp2_with (refine wpList_load_row rfl 23 _ rfl (w.heap.size + 1) rfl 23 dd (0, 0) _ B3.out.2.1 Tryd.underlying23 rfl (by rw [HS.out.2.1]; exact info16) ?_)
  refine (K1.out _ B3.out.2.2.2).mono ?_
  rintro e w2 ⟨rfl, hk2⟩
  have H2' := Lib.hid (show Blk w2 w.heap.size 23 rt ∧ Blk w2 (w.heap.size + 1 + 1) 30 #[.int .i64 lf, .slice A1 n1 c1, .slice A2 n2 c2] ∧ w.grownBy w2 none from ⟨B3.out.1.grown hk2 (by simp), B3.out.2.2.1.grown hk2 (by simp), grown_trans B3.out.2.2.2 hk2⟩)
  clear hk2
  go_wp2_with (first
    | (refine wpList_store_row rfl 23 _ _ rfl w2.heap.size xs rfl rfl 23 _ (heap_alloc_new w2 _) (by rw [HS.out.2.2.2.1]; exact info16) (by rw [HS.out.2.2.1, HS.out.2.2.2.1]) HS.out.2.2.2.2 ?_
       obtain ⟨w3, hw3⟩ : ∃ w3, w3 = (w2.alloc (.cells Z16 23)).setRow w2.heap.size xs := ⟨_, rfl⟩
       obtain ⟨pb, hpb⟩ : ∃ pb, pb = w2.heap.size := ⟨_, rfl⟩
       rw [← hw3, ← hpb]
       have H3 := Lib.hid (show Blk w3 pb 23 xs ∧ Blk w3 w.heap.size 23 rt ∧ Blk w3 (w.heap.size + 1 + 1) 30 #[.int .i64 lf, .slice A1 n1 c1, .slice A2 n2 c2] ∧ w.grownBy w3 none from by
         rw [hw3, hpb]
         have g3 := grown_row (World.grownBy_alloc w2 (.cells Z16 23) none) (.inl (Nat.le_refl _)) xs
         exact ⟨(Blk.new w2 23 Z16).row xs, H2'.out.1.grown g3 (by simp), H2'.out.2.1.grown g3 (by simp), grown_trans H2'.out.2.2 g3⟩)
       have c0' := H3.out.2.2.1.cell 0
       have c2' := H3.out.2.2.1.cell 2
       simp only [List.getElem?_toArray, List.getElem?_cons_zero, List.getElem?_cons_succ] at c0' c2'
       clear hw3 hpb)
    | (refine wpList_load_row rfl 23 _ rfl pb rfl 23 xs (0, 0) _ H3.out.1 Tryd.underlying23 rfl (by rw [HS.out.2.2.2.1]; exact info16) ?_))
  refine (K2.out _ H3.out.2.2.2).mono ?_
  rintro e w4 ⟨rfl, hk4⟩
  have H4 := Lib.hid (And.intro (H3.out.2.1.grown hk4 (by simp)) (grown_trans H3.out.2.2.2 hk4))
  clear hk4 c0' c2'
  go_wp2_with (first
    | (refine wpList_store_row rfl 23 _ _ rfl w4.heap.size ts rfl rfl 23 _ (heap_alloc_new w4 _) (by rw [HT.out.1]; exact info16) (by rw [HS.out.2.2.1, HT.out.1]) HT.out.2 ?_
       obtain ⟨w5, hw5⟩ : ∃ w5, w5 = (w4.alloc (.cells Z16 23)).setRow w4.heap.size ts := ⟨_, rfl⟩
       obtain ⟨qb, hqb⟩ : ∃ qb, qb = w4.heap.size := ⟨_, rfl⟩
       rw [← hw5, ← hqb]
       have H5 := Lib.hid (show Blk w5 qb 23 ts ∧ Blk w5 w.heap.size 23 rt ∧ w.grownBy w5 none from by
         rw [hw5, hqb]
         have g5 := grown_row (World.grownBy_alloc w4 (.cells Z16 23) none) (.inl (Nat.le_refl _)) ts
         exact ⟨(Blk.new w4 23 Z16).row ts, H4.out.1.grown g5 (by simp), grown_trans H4.out.2 g5⟩)
       clear hw5 hqb)
    | (refine wpList_load_row_w (by rfl) 23 _ rfl qb rfl 23 ts (0, 0) _ H5.out.1 Tryd.underlying23 rfl (by rw [HT.out.1]; exact info16) ?_)
    | (refine wpList_load_row_w (by rfl) 23 _ rfl w.heap.size rfl 23 rt (0, 0) _ H5.out.2.1 Tryd.underlying23 rfl (by rw [HS.out.1]; exact info16) ?_))
  go_ret
  exact ⟨rfl, H5.out.2.2⟩
set_option maxRecDepth 100000 in
set_option maxHeartbeats 4000000 in
theorem verify_c (w : World) (rt dd : Array Value) (hrt : rt.size = 16) (hdd : dd.size = 16) (lf : Int) (A1 A2 : Option Addr) (n1 c1 n2 c2 : Nat) (xs ts : Array Value) (hxs : xs.size = 16) (hx1 : (xs.all fun v => v.oneCell') = true) (hts : ts.size = 16) (ht1 : (ts.all fun v => v.oneCell') = true) (r : Bool) (hq : ∀ V, Sem.run Tryd.prog (Op.equalIn 10000 23 (.agg ts) (.agg rt)) V = .ok r V) (H1 : ∀ z, w.grownBy z none → Calls Tryd.prog 31 #[.int .i64 lf, .slice A1 n1 c1, .agg dd] z fun e w' => e = .returned (.tuple #[.agg xs, .nilIface]) ∧ z.grownBy w' none) (H2 : ∀ z, w.grownBy z none → Calls Tryd.prog 32 #[.agg xs, .int .i64 lf, .slice A2 n2 c2] z fun e w' => e = .returned (.tuple #[.agg ts, .nilIface]) ∧ z.grownBy w' none) :
    Calls Tryd.prog 18 #[.agg rt, .agg dd, .agg (sigV lf (.slice A1 n1 c1) (.slice A2 n2 c2))] w fun e w' => e = .returned (.bool r) ∧ w.grownBy w' none := by
  obtain ⟨Z16, hZ16⟩ : ∃ Z, Z = arrV .u8 (List.replicate 16 0) := ⟨_, rfl⟩
  have hz16 : ∀ w, Sem.run Tryd.prog (zeroValue 23) w = .ok (.agg Z16) w := fun w => by rw [hZ16]; exact z16run w
  have K2 := Lib.hid H2
  have HT := Lib.hid (And.intro hts ht1)
  clear H2 hts ht1
  have K1 := Lib.hid H1
  have HS := Lib.hid (And.intro hrt (And.intro hdd (And.intro (show Z16.size = 16 by rw [hZ16]; rfl) (And.intro hxs (show (xs.all fun v => v.oneCell') = true from hx1)))))
  have B3 := Lib.hid (show Blk (((w.alloc (.cells rt 23)).alloc (.cells dd 23)).alloc (.cells #[.int .i64 lf, .slice A1 n1 c1, .slice A2 n2 c2] 30)) w.heap.size 23 rt ∧ Blk (((w.alloc (.cells rt 23)).alloc (.cells dd 23)).alloc (.cells #[.int .i64 lf, .slice A1 n1 c1, .slice A2 n2 c2] 30)) (w.heap.size + 1) 23 dd ∧ Blk (((w.alloc (.cells rt 23)).alloc (.cells dd 23)).alloc (.cells #[.int .i64 lf, .slice A1 n1 c1, .slice A2 n2 c2] 30)) (w.heap.size + 1 + 1) 30 #[.int .i64 lf, .slice A1 n1 c1, .slice A2 n2 c2] ∧ w.grownBy (((w.alloc (.cells rt 23)).alloc (.cells dd 23)).alloc (.cells #[.int .i64 lf, .slice A1 n1 c1, .slice A2 n2 c2] 30)) none from by
    have b1 := (Blk.new (w.alloc (.cells rt 23)) 23 dd).alloc (.cells #[.int .i64 lf, .slice A1 n1 c1, .slice A2 n2 c2] 30)
    have b2 := Blk.new ((w.alloc (.cells rt 23)).alloc (.cells dd 23)) 30 #[.int .i64 lf, .slice A1 n1 c1, .slice A2 n2 c2]
    simp only [World.size_alloc] at b1 b2
    exact ⟨((Blk.new w 23 rt).alloc _).alloc _, b1, b2, grown_trans (grown_trans (World.grownBy_alloc w _ none) (World.grownBy_alloc _ _ none)) (World.grownBy_alloc _ _ none)⟩)
  simp only [sigV]
  clear H1 hZ16 hrt hdd hxs hx1
  go_enter Tryd.func18, Tryd.ntmps18
  go_wp2_with (refine wpList_load_row rfl 23 _ rfl (w.heap.size + 1) rfl 23 dd (0, 0) _ B3.out.2.1 Tryd.underlying23 rfl (by rw [HS.out.2.1]; exact info16) ?_)
  refine (K1.out _ B3.out.2.2.2).mono ?_
  rintro e w2 ⟨rfl, hk2⟩
  have H2' := Lib.hid (show Blk w2 w.heap.size 23 rt ∧ Blk w2 (w.heap.size + 1 + 1) 30 #[.int .i64 lf, .slice A1 n1 c1, .slice A2 n2 c2] ∧ w.grownBy w2 none from ⟨B3.out.1.grown hk2 (by simp), B3.out.2.2.1.grown hk2 (by simp), grown_trans B3.out.2.2.2 hk2⟩)
  clear hk2
  go_wp2_with (first
    | (refine wpList_store_row rfl 23 _ _ rfl w2.heap.size xs rfl rfl 23 _ (heap_alloc_new w2 _) (by rw [HS.out.2.2.2.1]; exact info16) (by rw [HS.out.2.2.1, HS.out.2.2.2.1]) HS.out.2.2.2.2 ?_
       obtain ⟨w3, hw3⟩ : ∃ w3, w3 = (w2.alloc (.cells Z16 23)).setRow w2.heap.size xs := ⟨_, rfl⟩
       obtain ⟨pb, hpb⟩ : ∃ pb, pb = w2.heap.size := ⟨_, rfl⟩
       rw [← hw3, ← hpb]
       have H3 := Lib.hid (show Blk w3 pb 23 xs ∧ Blk w3 w.heap.size 23 rt ∧ Blk w3 (w.heap.size + 1 + 1) 30 #[.int .i64 lf, .slice A1 n1 c1, .slice A2 n2 c2] ∧ w.grownBy w3 none from by
         rw [hw3, hpb]
         have g3 := grown_row (World.grownBy_alloc w2 (.cells Z16 23) none) (.inl (Nat.le_refl _)) xs
         exact ⟨(Blk.new w2 23 Z16).row xs, H2'.out.1.grown g3 (by simp), H2'.out.2.1.grown g3 (by simp), grown_trans H2'.out.2.2 g3⟩)
       have c0' := H3.out.2.2.1.cell 0
       have c2' := H3.out.2.2.1.cell 2
       simp only [List.getElem?_toArray, List.getElem?_cons_zero, List.getElem?_cons_succ] at c0' c2'
       clear hw3 hpb)
    | (refine wpList_load_row rfl 23 _ rfl pb rfl 23 xs (0, 0) _ H3.out.1 Tryd.underlying23 rfl (by rw [HS.out.2.2.2.1]; exact info16) ?_))
  refine (K2.out _ H3.out.2.2.2).mono ?_
  rintro e w4 ⟨rfl, hk4⟩
  have H4 := Lib.hid (And.intro (H3.out.2.1.grown hk4 (by simp)) (grown_trans H3.out.2.2.2 hk4))
  clear hk4 c0' c2'
  go_wp2_with (first
    | (refine wpList_store_row rfl 23 _ _ rfl w4.heap.size ts rfl rfl 23 _ (heap_alloc_new w4 _) (by rw [HT.out.1]; exact info16) (by rw [HS.out.2.2.1, HT.out.1]) HT.out.2 ?_
       obtain ⟨w5, hw5⟩ : ∃ w5, w5 = (w4.alloc (.cells Z16 23)).setRow w4.heap.size ts := ⟨_, rfl⟩
       obtain ⟨qb, hqb⟩ : ∃ qb, qb = w4.heap.size := ⟨_, rfl⟩
       rw [← hw5, ← hqb]
       have H5 := Lib.hid (show Blk w5 qb 23 ts ∧ Blk w5 w.heap.size 23 rt ∧ w.grownBy w5 none from by
         rw [hw5, hqb]
         have g5 := grown_row (World.grownBy_alloc w4 (.cells Z16 23) none) (.inl (Nat.le_refl _)) ts
         exact ⟨(Blk.new w4 23 Z16).row ts, H4.out.1.grown g5 (by simp), grown_trans H4.out.2 g5⟩)
       clear hw5 hqb)
    | (refine wpList_load_row_w (by rfl) 23 _ rfl qb rfl 23 ts (0, 0) _ H5.out.1 Tryd.underlying23 rfl (by rw [HT.out.1]; exact info16) ?_)
    | (refine wpList_load_row_w (by rfl) 23 _ rfl w.heap.size rfl 23 rt (0, 0) _ H5.out.2.1 Tryd.underlying23 rfl (by rw [HS.out.1]; exact info16) ?_))
  go_ret
  exact ⟨rfl, H5.out.2.2⟩
end Go.Proofs.YtpldegdcachlmaaDoor
