/-
  Several texts in one: TrE, Kv, ChH.
-/
import Derived.Test.YtlokjbjpmhfkhaaDoorM11y
import Derived.Test.YtlokjbjpmhfkhaaDoorM11E
import Derived.Test.YtlokjbjpmhfkhaaDoorM11x
import Derived.Test.YtlokjbjpmhfkhaaDoorM11m
/-
  quorateref04.Climb.
-/

namespace Go.Proofs.YtlokjbjpmhfkhaaDoor
open Go.RowKit

theorem half (i : Int) (h : 0 ≤ i ∧ i < 32) (k : Nat) (hk : k < 5) : ∃ v v' p : Int, i / 2 ^ k = v ∧ i / 2 ^ (k + 1) = v' ∧ (0 ≤ v ∧ v < 32) ∧ v.tmod 2 = p ∧ v % 2 = p ∧ v.tdiv 2 = v' ∧ v / 2 = v' ∧ IntKind.i64.wrap v' = v' ∧ (p = 0 ∨ p = 1) := by
  have hv : 0 ≤ i / 2 ^ k ∧ i / 2 ^ k < 32 := by
    have : k = 0 ∨ k = 1 ∨ k = 2 ∨ k = 3 ∨ k = 4 := by omega
    rcases this with rfl | rfl | rfl | rfl | rfl <;> simp <;> omega
  have hv2 : i / 2 ^ (k + 1) = i / 2 ^ k / 2 := by
    have : k = 0 ∨ k = 1 ∨ k = 2 ∨ k = 3 ∨ k = 4 := by omega
    rcases this with rfl | rfl | rfl | rfl | rfl <;> simp <;> omega
  refine ⟨i / 2 ^ k, i / 2 ^ k / 2, i / 2 ^ k % 2, rfl, hv2, hv, Int.tmod_eq_emod_of_nonneg hv.1, rfl, Int.tdiv_eq_ediv_of_nonneg hv.1, rfl, by rw [IntKind.wrap_i64]; omega, by omega⟩

end Go.Proofs.YtlokjbjpmhfkhaaDoor
/-
  keys.Verify and quorateref05.Right.
-/
namespace Go.Proofs.YtlokjbjpmhfkhaaDoor
open Go.RowKit

set_option maxRecDepth 100000 in
set_option maxHeartbeats 4000000 in
theorem verify_a (w : World) (rt dd : Array Value) (hrt : rt.size = 16) (hdd : dd.size = 16) (lf : Int) (A1 A2 : Option Addr) (n1 c1 n2 c2 : Nat) (xs : Array Value) (hxs : xs.size = 16) (hx1 : (xs.all fun v => v.oneCell') = true) (a : Addr) (H1 : ∀ z, w.grownBy z none → Calls Tryd.prog 49 #[.int .i64 lf, .slice A1 n1 c1, .agg dd] z fun e w' => e = .returned (.tuple #[.agg xs, errV a]) ∧ z.grownBy w' none) :
    Calls Tryd.prog 41 #[.agg rt, .agg dd, .agg (sigV lf (.slice A1 n1 c1) (.slice A2 n2 c2))] w fun e w' => e = .returned (.bool false) ∧ w.grownBy w' none := by
  obtain ⟨Z16, hZ16⟩ : ∃ Z, Z = arrV .u8 (List.replicate 16 0) := ⟨_, rfl⟩
  have hz16 : ∀ w, Sem.run Tryd.prog (zeroValue 32) w = .ok (.agg Z16) w := fun w => by rw [hZ16]; exact z16run w
  have K1 := Lib.hid H1
  have HS := Lib.hid (And.intro hrt (And.intro hdd (And.intro (show Z16.size = 16 by rw [hZ16]; rfl) (And.intro hxs (show (xs.all fun v => v.oneCell') = true from hx1)))))
  have B3 := Lib.hid (show Blk (((w.alloc (.cells rt 32)).alloc (.cells dd 32)).alloc (.cells #[.int .i64 lf, .slice A1 n1 c1, .slice A2 n2 c2] 51)) w.heap.size 32 rt ∧ Blk (((w.alloc (.cells rt 32)).alloc (.cells dd 32)).alloc (.cells #[.int .i64 lf, .slice A1 n1 c1, .slice A2 n2 c2] 51)) (w.heap.size + 1) 32 dd ∧ Blk (((w.alloc (.cells rt 32)).alloc (.cells dd 32)).alloc (.cells #[.int .i64 lf, .slice A1 n1 c1, .slice A2 n2 c2] 51)) (w.heap.size + 1 + 1) 51 #[.int .i64 lf, .slice A1 n1 c1, .slice A2 n2 c2] ∧ w.grownBy (((w.alloc (.cells rt 32)).alloc (.cells dd 32)).alloc (.cells #[.int .i64 lf, .slice A1 n1 c1, .slice A2 n2 c2] 51)) none from by
    have b1 := (Blk.new (w.alloc (.cells rt 32)) 32 dd).alloc (.cells #[.int .i64 lf, .slice A1 n1 c1, .slice A2 n2 c2] 51)
    have b2 := Blk.new ((w.alloc (.cells rt 32)).alloc (.cells dd 32)) 51 #[.int .i64 lf, .slice A1 n1 c1, .slice A2 n2 c2]
    simp only [World.size_alloc] at b1 b2
    exact ⟨((Blk.new w 32 rt).alloc _).alloc _, b1, b2, grown_trans (grown_trans (World.grownBy_alloc w _ none) (World.grownBy_alloc _ _ none)) (World.grownBy_alloc _ _ none)⟩)
  simp only [sigV]
  clear H1 hZ16 hrt hdd hxs hx1
  go_enter Tryd.func41, Tryd.ntmps41
  go_wp2_with (refine wpList_load_row rfl 32 _ rfl (w.heap.size + 1) rfl 32 dd (0, 0) _ B3.out.2.1 Tryd.underlying32 rfl (by rw [HS.out.2.1]; exact info16) ?_)
  refine (K1.out _ B3.out.2.2.2).mono ?_
  rintro e w2 ⟨rfl, hk2⟩
  have H2' := Lib.hid (show Blk w2 w.heap.size 32 rt ∧ Blk w2 (w.heap.size + 1 + 1) 51 #[.int .i64 lf, .slice A1 n1 c1, .slice A2 n2 c2] ∧ w.grownBy w2 none from ⟨B3.out.1.grown hk2 (by simp), B3.out.2.2.1.grown hk2 (by simp), grown_trans B3.out.2.2.2 hk2⟩)
  clear hk2
  go_wp2_with (first
    | (refine wpList_store_row rfl 32 _ _ rfl w2.heap.size xs rfl rfl 32 _ (heap_alloc_new w2 _) (by rw [HS.out.2.2.2.1]; exact info16) (by rw [HS.out.2.2.1, HS.out.2.2.2.1]) HS.out.2.2.2.2 ?_
       obtain ⟨w3, hw3⟩ : ∃ w3, w3 = (w2.alloc (.cells Z16 32)).setRow w2.heap.size xs := ⟨_, rfl⟩
       obtain ⟨pb, hpb⟩ : ∃ pb, pb = w2.heap.size := ⟨_, rfl⟩
       rw [← hw3, ← hpb]
       have H3 := Lib.hid (show Blk w3 pb 32 xs ∧ Blk w3 w.heap.size 32 rt ∧ Blk w3 (w.heap.size + 1 + 1) 51 #[.int .i64 lf, .slice A1 n1 c1, .slice A2 n2 c2] ∧ w.grownBy w3 none from by
         rw [hw3, hpb]
         have g3 := grown_row (World.grownBy_alloc w2 (.cells Z16 32) none) (.inl (Nat.le_refl _)) xs
         exact ⟨(Blk.new w2 32 Z16).row xs, H2'.out.1.grown g3 (by simp), H2'.out.2.1.grown g3 (by simp), grown_trans H2'.out.2.2 g3⟩)
       have c0' := H3.out.2.2.1.cell 0
       have c2' := H3.out.2.2.1.cell 2
       simp only [List.getElem?_toArray, List.getElem?_cons_zero, List.getElem?_cons_succ] at c0' c2'
       clear hw3 hpb)
    | (refine wpList_load_row rfl 32 _ rfl pb rfl 32 xs (0, 0) _ H3.out.1 Tryd.underlying32 rfl (by rw [HS.out.2.2.2.1]; exact info16) ?_))
  go_ret
  exact ⟨rfl, H3.out.2.2.2⟩
set_option maxRecDepth 100000 in
set_option maxHeartbeats 4000000 in
theorem verify_b (w : World) (rt dd : Array Value) (hrt : rt.size = 16) (hdd : dd.size = 16) (lf : Int) (A1 A2 : Option Addr) (n1 c1 n2 c2 : Nat) (xs ts : Array Value) (hxs : xs.size = 16) (hx1 : (xs.all fun v => v.oneCell') = true) (hts : ts.size = 16) (ht1 : (ts.all fun v => v.oneCell') = true) (a : Addr) (H1 : ∀ z, w.grownBy z none → Calls Tryd.prog 49 #[.int .i64 lf, .slice A1 n1 c1, .agg dd] z fun e w' => e = .returned (.tuple #[.agg xs, .nilIface]) ∧ z.grownBy w' none) (H2 : ∀ z, w.grownBy z none → Calls Tryd.prog 50 #[.agg xs, .int .i64 lf, .slice A2 n2 c2] z fun e w' => e = .returned (.tuple #[.agg ts, errV a]) ∧ z.grownBy w' none) :
    Calls Tryd.prog 41 #[.agg rt, .agg dd, .agg (sigV lf (.slice A1 n1 c1) (.slice A2 n2 c2))] w fun e w' => e = .returned (.bool false) ∧ w.grownBy w' none := by
  obtain ⟨Z16, hZ16⟩ : ∃ Z, Z = arrV .u8 (List.replicate 16 0) := ⟨_, rfl⟩
  have hz16 : ∀ w, Sem.run Tryd.prog (zeroValue 32) w = .ok (.agg Z16) w := fun w => by rw [hZ16]; exact z16run w
  have K2 := Lib.hid H2
  have HT := Lib.hid (And.intro hts ht1)
  clear H2 hts ht1
  have K1 := Lib.hid H1
  have HS := Lib.hid (And.intro hrt (And.intro hdd (And.intro (show Z16.size = 16 by rw [hZ16]; rfl) (And.intro hxs (show (xs.all fun v => v.oneCell') = true from hx1)))))
  have B3 := Lib.hid (show Blk (((w.alloc (.cells rt 32)).alloc (.cells dd 32)).alloc (.cells #[.int .i64 lf, .slice A1 n1 c1, .slice A2 n2 c2] 51)) w.heap.size 32 rt ∧ Blk (((w.alloc (.cells rt 32)).alloc (.cells dd 32)).alloc (.cells #[.int .i64 lf, .slice A1 n1 c1, .slice A2 n2 c2] 51)) (w.heap.size + 1) 32 dd ∧ Blk (((w.alloc (.cells rt 32)).alloc (.cells dd 32)).alloc (.cells #[.int .i64 lf, .slice A1 n1 c1, .slice A2 n2 c2] 51)) (w.heap.size + 1 + 1) 51 #[.int .i64 lf, .slice A1 n1 c1, .slice A2 n2 c2] ∧ w.grownBy (((w.alloc (.cells rt 32)).alloc (.cells dd 32)).alloc (.cells #[.int .i64 lf, .slice A1 n1 c1, .slice A2 n2 c2] 51)) none from by
    have b1 := (Blk.new (w.alloc (.cells rt 32)) 32 dd).alloc (.cells #[.int .i64 lf, .slice A1 n1 c1, .slice A2 n2 c2] 51)
    have b2 := Blk.new ((w.alloc (.cells rt 32)).alloc (.cells dd 32)) 51 #[.int .i64 lf, .slice A1 n1 c1, .slice A2 n2 c2]
    simp only [World.size_alloc] at b1 b2
    exact ⟨((Blk.new w 32 rt).alloc _).alloc _, b1, b2, grown_trans (grown_trans (World.grownBy_alloc w _ none) (World.grownBy_alloc _ _ none)) (World.grownBy_alloc _ _ none)⟩)
  simp only [sigV]
  clear H1 hZ16 hrt hdd hxs hx1
  go_enter Tryd.func41, Tryd.ntmps41
  go_wp2_with (refine wpList_load_row rfl 32 _ rfl (w.heap.size + 1) rfl 32 dd (0, 0) _ B3.out.2.1 Tryd.underlying32 rfl (by rw [HS.out.2.1]; exact info16) ?_)
  refine (K1.out _ B3.out.2.2.2).mono ?_
  rintro e w2 ⟨rfl, hk2⟩
  have H2' := Lib.hid (show Blk w2 w.heap.size 32 rt ∧ Blk w2 (w.heap.size + 1 + 1) 51 #[.int .i64 lf, .slice A1 n1 c1, .slice A2 n2 c2] ∧ w.grownBy w2 none from ⟨B3.out.1.grown hk2 (by simp), B3.out.2.2.1.grown hk2 (by simp), grown_trans B3.out.2.2.2 hk2⟩)
  clear hk2
  go_wp2_with (first
    | (refine wpList_store_row rfl 32 _ _ rfl w2.heap.size xs rfl rfl 32 _ (heap_alloc_new w2 _) (by rw [HS.out.2.2.2.1]; exact info16) (by rw [HS.out.2.2.1, HS.out.2.2.2.1]) HS.out.2.2.2.2 ?_
       obtain ⟨w3, hw3⟩ : ∃ w3, w3 = (w2.alloc (.cells Z16 32)).setRow w2.heap.size xs := ⟨_, rfl⟩
       obtain ⟨pb, hpb⟩ : ∃ pb, pb = w2.heap.size := ⟨_, rfl⟩
       rw [← hw3, ← hpb]
       have H3 := Lib.hid (show Blk w3 pb 32 xs ∧ Blk w3 w.heap.size 32 rt ∧ Blk w3 (w.heap.size + 1 + 1) 51 #[.int .i64 lf, .slice A1 n1 c1, .slice A2 n2 c2] ∧ w.grownBy w3 none from by
         rw [hw3, hpb]
         have g3 := grown_row (World.grownBy_alloc w2 (.cells Z16 32) none) (.inl (Nat.le_refl _)) xs
         exact ⟨(Blk.new w2 32 Z16).row xs, H2'.out.1.grown g3 (by simp), H2'.out.2.1.grown g3 (by simp), grown_trans H2'.out.2.2 g3⟩)
       have c0' := H3.out.2.2.1.cell 0
       have c2' := H3.out.2.2.1.cell 2
       simp only [List.getElem?_toArray, List.getElem?_cons_zero, List.getElem?_cons_succ] at c0' c2'
       clear hw3 hpb)
    | (refine wpList_load_row rfl 32 _ rfl pb rfl 32 xs (0, 0) _ H3.out.1 Tryd.underlying32 rfl (by rw [HS.out.2.2.2.1]; exact info16) ?_))
  refine (K2.out _ H3.out.2.2.2).mono ?_
  rintro e w4 ⟨rfl, hk4⟩
  have H4 := Lib.hid (And.intro (H3.out.2.1.grown hk4 (by simp)) (grown_trans H3.out.2.2.2 hk4))
  clear hk4 c0' c2'
  go_wp2_with (first
    | (refine wpList_store_row rfl 32 _ _ rfl w4.heap.size ts rfl rfl 32 _ (heap_alloc_new w4 _) (by rw [HT.out.1]; exact info16) (by rw [HS.out.2.2.1, HT.out.1]) HT.out.2 ?_
       obtain ⟨w5, hw5⟩ : ∃ w5, w5 = (w4.alloc (.cells Z16 32)).setRow w4.heap.size ts := ⟨_, rfl⟩
       obtain ⟨qb, hqb⟩ : ∃ qb, qb = w4.heap.size := ⟨_, rfl⟩
       rw [← hw5, ← hqb]
       have H5 := Lib.hid (show Blk w5 qb 32 ts ∧ Blk w5 w.heap.size 32 rt ∧ w.grownBy w5 none from by
         rw [hw5, hqb]
         have g5 := grown_row (World.grownBy_alloc w4 (.cells Z16 32) none) (.inl (Nat.le_refl _)) ts
         exact ⟨(Blk.new w4 32 Z16).row ts, H4.out.1.grown g5 (by simp), grown_trans H4.out.2 g5⟩)
       clear hw5 hqb)
    | (refine wpList_load_row_w (by rfl) 32 _ rfl qb rfl 32 ts (0, 0) _ H5.out.1 Tryd.underlying32 rfl (by rw [HT.out.1]; exact info16) ?_)
    | (refine wpList_load_row_w (by rfl) 32 _ rfl w.heap.size rfl 32 rt (0, 0) _ H5.out.2.1 Tryd.underlying32 rfl (by rw [HS.out.1]; exact info16) ?_))
  go_ret
  exact ⟨rfl, H5.out.2.2⟩
set_option maxRecDepth 100000 in
set_option maxHeartbeats 4000000 in
theorem verify_c (w : World) (rt dd : Array Value) (hrt : rt.size = 16) (hdd : dd.size = 16) (lf : Int) (A1 A2 : Option Addr) (n1 c1 n2 c2 : Nat) (xs ts : Array Value) (hxs : xs.size = 16) (hx1 : (xs.all fun v => v.oneCell') = true) (hts : ts.size = 16) (ht1 : (ts.all fun v => v.oneCell') = true) (r : Bool) (hq : ∀ V, Sem.run Tryd.prog (Op.equalIn 10000 32 (.agg ts) (.agg rt)) V = .ok r V) (H1 : ∀ z, w.grownBy z none → Calls Tryd.prog 49 #[.int .i64 lf, .slice A1 n1 c1, .agg dd] z fun e w' => e = .returned (.tuple #[.agg xs, .nilIface]) ∧ z.grownBy w' none) (H2 : ∀ z, w.grownBy z none → Calls Tryd.prog 50 #[.agg xs, .int .i64 lf, .slice A2 n2 c2] z fun e w' => e = .returned (.tuple #[.agg ts, .nilIface]) ∧ z.grownBy w' none) :
    Calls Tryd.prog 41 #[.agg rt, .agg dd, .agg (sigV lf (.slice A1 n1 c1) (.slice A2 n2 c2))] w fun e w' => e = .returned (.bool r) ∧ w.grownBy w' none := by
  obtain ⟨Z16, hZ16⟩ : ∃ Z, Z = arrV .u8 (List.replicate 16 0) := ⟨_, rfl⟩
  have hz16 : ∀ w, Sem.run Tryd.prog (zeroValue 32) w = .ok (.agg Z16) w := fun w => by rw [hZ16]; exact z16run w
  have K2 := Lib.hid H2
  have HT := Lib.hid (And.intro hts ht1)
  clear H2 hts ht1
  have K1 := Lib.hid H1
  have HS := Lib.hid (And.intro hrt (And.intro hdd (And.intro (show Z16.size = 16 by rw [hZ16]; rfl) (And.intro hxs (show (xs.all fun v => v.oneCell') = true from hx1)))))
  have B3 := Lib.hid (show Blk (((w.alloc (.cells rt 32)).alloc (.cells dd 32)).alloc (.cells #[.int .i64 lf, .slice A1 n1 c1, .slice A2 n2 c2] 51)) w.heap.size 32 rt ∧ Blk (((w.alloc (.cells rt 32)).alloc (.cells dd 32)).alloc (.cells #[.int .i64 lf, .slice A1 n1 c1, .slice A2 n2 c2] 51)) (w.heap.size + 1) 32 dd ∧ Blk (((w.alloc (.cells rt 32)).alloc (.cells dd 32)).alloc (.cells #[.int .i64 lf, .slice A1 n1 c1, .slice A2 n2 c2] 51)) (w.heap.size + 1 + 1) 51 #[.int .i64 lf, .slice A1 n1 c1, .slice A2 n2 c2] ∧ w.grownBy (((w.alloc (.cells rt 32)).alloc (.cells dd 32)).alloc (.cells #[.int .i64 lf, .slice A1 n1 c1, .slice A2 n2 c2] 51)) none from by
    have b1 := (Blk.new (w.alloc (.cells rt 32)) 32 dd).alloc (.cells #[.int .i64 lf, .slice A1 n1 c1, .slice A2 n2 c2] 51)
    have b2 := Blk.new ((w.alloc (.cells rt 32)).alloc (.cells dd 32)) 51 #[.int .i64 lf, .slice A1 n1 c1, .slice A2 n2 c2]
    simp only [World.size_alloc] at b1 b2
    exact ⟨((Blk.new w 32 rt).alloc _).alloc _, b1, b2, grown_trans (grown_trans (World.grownBy_alloc w _ none) (World.grownBy_alloc _ _ none)) (World.grownBy_alloc _ _ none)⟩)
  simp only [sigV]
  clear H1 hZ16 hrt hdd hxs hx1
  go_enter Tryd.func41, Tryd.ntmps41
  go_wp2_with (refine wpList_load_row rfl 32 _ rfl (w.heap.size + 1) rfl 32 dd (0, 0) _ B3.out.2.1 Tryd.underlying32 rfl (by rw [HS.out.2.1]; exact info16) ?_)
  refine (K1.out _ B3.out.2.2.2).mono ?_
  rintro e w2 ⟨rfl, hk2⟩
  have H2' := Lib.hid (show Blk w2 w.heap.size 32 rt ∧ Blk w2 (w.heap.size + 1 + 1) 51 #[.int .i64 lf, .slice A1 n1 c1, .slice A2 n2 c2] ∧ w.grownBy w2 none from ⟨B3.out.1.grown hk2 (by simp), B3.out.2.2.1.grown hk2 (by simp), grown_trans B3.out.2.2.2 hk2⟩)
  clear hk2
  go_wp2_with (first
    | (refine wpList_store_row rfl 32 _ _ rfl w2.heap.size xs rfl rfl 32 _ (heap_alloc_new w2 _) (by rw [HS.out.2.2.2.1]; exact info16) (by rw [HS.out.2.2.1, HS.out.2.2.2.1]) HS.out.2.2.2.2 ?_
       obtain ⟨w3, hw3⟩ : ∃ w3, w3 = (w2.alloc (.cells Z16 32)).setRow w2.heap.size xs := ⟨_, rfl⟩
       obtain ⟨pb, hpb⟩ : ∃ pb, pb = w2.heap.size := ⟨_, rfl⟩
       rw [← hw3, ← hpb]
       have H3 := Lib.hid (show Blk w3 pb 32 xs ∧ Blk w3 w.heap.size 32 rt ∧ Blk w3 (w.heap.size + 1 + 1) 51 #[.int .i64 lf, .slice A1 n1 c1, .slice A2 n2 c2] ∧ w.grownBy w3 none from by
         rw [hw3, hpb]
         have g3 := grown_row (World.grownBy_alloc w2 (.cells Z16 32) none) (.inl (Nat.le_refl _)) xs
         exact ⟨(Blk.new w2 32 Z16).row xs, H2'.out.1.grown g3 (by simp), H2'.out.2.1.grown g3 (by simp), grown_trans H2'.out.2.2 g3⟩)
       have c0' := H3.out.2.2.1.cell 0
       have c2' := H3.out.2.2.1.cell 2
       simp only [List.getElem?_toArray, List.getElem?_cons_zero, List.getElem?_cons_succ] at c0' c2'
       clear hw3 hpb)
    | (refine wpList_load_row rfl 32 _ rfl pb rfl 32 xs (0, 0) _ H3.out.1 Tryd.underlying32 rfl (by rw [HS.out.2.2.2.1]; exact info16) ?_))
  refine (K2.out _ H3.out.2.2.2).mono ?_
  rintro e w4 ⟨rfl, hk4⟩
  have H4 := Lib.hid (And.intro (H3.out.2.1.grown hk4 (by simp)) (grown_trans H3.out.2.2.2 hk4))
  clear hk4 c0' c2'
  go_wp2_with (first
    | (refine wpList_store_row rfl 32 _ _ rfl w4.heap.size ts rfl rfl 32 _ (heap_alloc_new w4 _) (by rw [HT.out.1]; exact info16) (by rw [HS.out.2.2.1, HT.out.1]) HT.out.2 ?_
       obtain ⟨w5, hw5⟩ : ∃ w5, w5 = (w4.alloc (.cells Z16 32)).setRow w4.heap.size ts := ⟨_, rfl⟩
       obtain ⟨qb, hqb⟩ : ∃ qb, qb = w4.heap.size := ⟨_, rfl⟩
       rw [← hw5, ← hqb]
       have H5 := Lib.hid (show Blk w5 qb 32 ts ∧ Blk w5 w.heap.size 32 rt ∧ w.grownBy w5 none from by
         rw [hw5, hqb]
         have g5 := grown_row (World.grownBy_alloc w4 (.cells Z16 32) none) (.inl (Nat.le_refl _)) ts
         exact ⟨(Blk.new w4 32 Z16).row ts, H4.out.1.grown g5 (by simp), grown_trans H4.out.2 g5⟩)
       clear hw5 hqb)
    | (refine wpList_load_row_w (by rfl) 32 _ rfl qb rfl 32 ts (0, 0) _ H5.out.1 Tryd.underlying32 rfl (by rw [HT.out.1]; exact info16) ?_)
    | (refine wpList_load_row_w (by rfl) 32 _ rfl w.heap.size rfl 32 rt (0, 0) _ H5.out.2.1 Tryd.underlying32 rfl (by rw [HS.out.1]; exact info16) ?_))
  go_ret
  exact ⟨rfl, H5.out.2.2⟩
end Go.Proofs.YtlokjbjpmhfkhaaDoor
/-
  chains.Recover by no leaf, and of another number of chains.
-/
namespace Go.Proofs.YtlokjbjpmhfkhaaDoor
open Go.RowKit

set_option maxRecDepth 100000 in
set_option maxHeartbeats 4000000 in
theorem recover_no (w : World) (B : Nat) (a : Addr) (hE : ErrAt w B (gix.getD 0 0) a) (lf : Int) (hlf : lf < 0 ∨ 32 ≤ lf) (A : Option Addr) (n c : Nat) (ds : Array Value) (hds : ds.size = 16) (zs : Array Value) (hzs : zs = arrV .u8 (List.replicate 16 0)) :
    Calls Tryd.prog 49 #[.int .i64 lf, .slice A n c, .agg ds] w fun e w' => e = .returned (.tuple #[.agg zs, errV a]) ∧ w.grownBy w' none := by
  obtain ⟨zl, hzl⟩ : ∃ l, l = zs.toList := ⟨_, rfl⟩
  have hz : zs = zl.toArray := by rw [hzl, Array.toArray_toList]
  have hz16 : ∀ w, Sem.run Tryd.prog (zeroValue 32) w = .ok (.agg zl.toArray) w := fun w => by rw [← hz, hzs]; exact z16run w
  have hzn : zl.length = 16 := by rw [hzl, Array.length_toList, hzs]; rfl
  have hi6 : (Tryd.prog.info? 32).map (·.size) = some zl.length := by rw [hzn]; exact info16
  have ho6 : ∀ v ∈ zl, v.oneCell' = true := by rw [hzl, hzs]; simp [Value.oneCell']
  have HZ := Lib.hid (And.intro hz (And.intro hzn (show (zs.all fun v => v.oneCell') = true by rw [hzs]; exact arr_one _ _)))
  have HLF := Lib.hid hlf
  have HE := Lib.hid hE
  have HDS := Lib.hid hds
  have HZL := Lib.hid hzl
  clear hzl hzs hlf hE hds
  go_enter Tryd.func49, Tryd.ntmps49
  obtain ⟨w0, hw0⟩ : ∃ w0, w0 = (w.alloc (.cells ds 32)).alloc (.cells zl.toArray 32) := ⟨_, rfl⟩
  have HZ0 := Lib.hid (show Blk w0 (w.heap.size + 1) 32 zs by rw [hw0, hz]; have := Blk.new (w.alloc (.cells ds 32)) 32 zl.toArray; rwa [World.size_alloc] at this)
  have HG0 := Lib.hid (show w.grownBy w0 none by rw [hw0]; exact grown_trans (World.grownBy_alloc _ _ none) (World.grownBy_alloc _ _ none))
  have HW0 := Lib.hid hw0
  clear hw0
  go_wp2_with fail
  rw [← HW0.out]
  refine (isleaf_no w0 lf HLF.out).mono ?_
  rintro e w9 ⟨rfl, h9⟩
  rw [h9]
  clear h9
  go_wp2_with fail
  have hT : w0.drew.there (w.heap.size + 1) 0 16 := there_blk HZ0.out.drew (by rw [HZ.out.1, List.size_toArray, HZ.out.2.1]; exact Nat.le_refl _)
  have hc : w0.drew.cell? ⟨gix.getD 0 0, 0, none⟩ = some (errV a) := by
    rw [World.cell?_drew]; exact HG0.out.cell HE.out.1 (by simp)
  simp only [gix, List.getD_cons_zero] at hc
  have hS := And.intro hT hc
  have hgb : ¬ 0 = w.heap.size + 1 := by omega
  clear hT hc
  go_region_held3 (fun W => W.there (w.heap.size + 1) 0 16 ∧ W.cell? ⟨0, 0, none⟩ = some (errV a)) (first | exact hS | assumption | exact ⟨World.there_setCells hS.1 _ _ _, (World.cell?_setCells_out _ _ _ _ _ (fun e => absurd e hgb)).trans hS.2⟩)
    (fail)
  have HB9 := Lib.hid HZ0.out.drew
  have HG9 := Lib.hid (show w.grownBy w0.drew none from grown_trans HG0.out (grown_drew (World.grownBy.refl w0 none)))
  have HEQ := Lib.hid (show w0.drew.setCells (w.heap.size + 1) 0 zl = w0.drew.setRow (w.heap.size + 1) zs by
    rw [HZL.out]
    exact setCells_row (P := Tryd.prog) HB9.out (by rw [HZ.out.1, List.size_toArray, HZ.out.2.1]; exact info16) rfl HZ.out.2.2)
  rw [HEQ.out]
  go_wp2_with fail
  refine bodyPost_ret (results_cell_t rfl _ _ _ ⟨w.heap.size + 1, 0, none⟩ (.agg zs) rfl (run_loadVar_row _ (w.heap.size + 1) 32 32 zs (0, 0) _ (HB9.out.row zs) Tryd.underlying32 rfl (by rw [HZ.out.1, List.size_toArray, HZ.out.2.1]; exact info16))) rfl ?_
  exact ⟨rfl, grown_row HG9.out (.inl (Nat.le_succ _)) zs⟩
set_option maxRecDepth 100000 in
set_option maxHeartbeats 4000000 in
theorem recover_form (w : World) (B : Nat) (a : Addr) (hE : ErrAt w B (gix.getD 3 0) a) (lf : Int) (hlf : 0 ≤ lf ∧ lf < 32) (A : Option Addr) (n c : Nat) (hn68 : n ≠ 68) (hB3 : 4 ≤ w.heap.size) (ds : Array Value) (hds : ds.size = 16) (zs : Array Value) (hzs : zs = arrV .u8 (List.replicate 16 0)) :
    Calls Tryd.prog 49 #[.int .i64 lf, .slice A n c, .agg ds] w fun e w' => e = .returned (.tuple #[.agg zs, errV a]) ∧ w.grownBy w' none := by
  obtain ⟨zl, hzl⟩ : ∃ l, l = zs.toList := ⟨_, rfl⟩
  have hz : zs = zl.toArray := by rw [hzl, Array.toArray_toList]
  have hz16 : ∀ w, Sem.run Tryd.prog (zeroValue 32) w = .ok (.agg zl.toArray) w := fun w => by rw [← hz, hzs]; exact z16run w
  have hzn : zl.length = 16 := by rw [hzl, Array.length_toList, hzs]; rfl
  have hi6 : (Tryd.prog.info? 32).map (·.size) = some zl.length := by rw [hzn]; exact info16
  have ho6 : ∀ v ∈ zl, v.oneCell' = true := by rw [hzl, hzs]; simp [Value.oneCell']
  have HZ := Lib.hid (And.intro hz (And.intro hzn (show (zs.all fun v => v.oneCell') = true by rw [hzs]; exact arr_one _ _)))
  have HLF := Lib.hid hlf
  have HE := Lib.hid hE
  have HDS := Lib.hid hds
  have HZL := Lib.hid hzl
  clear hzl hzs hlf hE hds
  go_enter Tryd.func49, Tryd.ntmps49
  obtain ⟨w0, hw0⟩ : ∃ w0, w0 = (w.alloc (.cells ds 32)).alloc (.cells zl.toArray 32) := ⟨_, rfl⟩
  have HZ0 := Lib.hid (show Blk w0 (w.heap.size + 1) 32 zs by rw [hw0, hz]; have := Blk.new (w.alloc (.cells ds 32)) 32 zl.toArray; rwa [World.size_alloc] at this)
  have HG0 := Lib.hid (show w.grownBy w0 none by rw [hw0]; exact grown_trans (World.grownBy_alloc _ _ none) (World.grownBy_alloc _ _ none))
  have HW0 := Lib.hid hw0
  clear hw0
  go_wp2_with fail
  rw [← HW0.out]
  refine (isleaf_yes w0 lf HLF.out).mono ?_
  rintro e w9 ⟨rfl, h9⟩
  rw [h9]
  clear h9
  have d68 : ¬ ((n : Int) = 68) := by omega
  go_wp2_with fail
  have hT : w0.drew.there (w.heap.size + 1) 0 16 := there_blk HZ0.out.drew (by rw [HZ.out.1, List.size_toArray, HZ.out.2.1]; exact Nat.le_refl _)
  have hc : w0.drew.cell? ⟨gix.getD 3 0, 0, none⟩ = some (errV a) := by
    rw [World.cell?_drew]; exact HG0.out.cell HE.out.1 (by simp)
  simp only [gix, List.getD_cons_zero, List.getD_cons_succ] at hc
  have hS := And.intro hT hc
  have hgb : ¬ 3 = w.heap.size + 1 := by omega
  clear hT hc
  go_region_held3 (fun W => W.there (w.heap.size + 1) 0 16 ∧ W.cell? ⟨3, 0, none⟩ = some (errV a)) (first | exact hS | assumption | exact ⟨World.there_setCells hS.1 _ _ _, (World.cell?_setCells_out _ _ _ _ _ (fun e => absurd e hgb)).trans hS.2⟩)
    (fail)
  have HB9 := Lib.hid HZ0.out.drew
  have HG9 := Lib.hid (show w.grownBy w0.drew none from grown_trans HG0.out (grown_drew (World.grownBy.refl w0 none)))
  have HEQ := Lib.hid (show w0.drew.setCells (w.heap.size + 1) 0 zl = w0.drew.setRow (w.heap.size + 1) zs by
    rw [HZL.out]
    exact setCells_row (P := Tryd.prog) HB9.out (by rw [HZ.out.1, List.size_toArray, HZ.out.2.1]; exact info16) rfl HZ.out.2.2)
  rw [HEQ.out]
  go_wp2_with fail
  refine bodyPost_ret (results_cell_t rfl _ _ _ ⟨w.heap.size + 1, 0, none⟩ (.agg zs) rfl (run_loadVar_row _ (w.heap.size + 1) 32 32 zs (0, 0) _ (HB9.out.row zs) Tryd.underlying32 rfl (by rw [HZ.out.1, List.size_toArray, HZ.out.2.1]; exact info16))) rfl ?_
  exact ⟨rfl, grown_row HG9.out (.inl (Nat.le_succ _)) zs⟩
end Go.Proofs.YtlokjbjpmhfkhaaDoor
