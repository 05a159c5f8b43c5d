/-
  quorateref03.Run.
-/
import Derived.Test.YtjcbfenkpdpbeaaDoorChB
namespace Go.Proofs.YtjcbfenkpdpbeaaDoor
open Go.RowKit

theorem rstep_v (w : World) (x : List Int) (hx : isDig x) (lf i kk : Int) (ds c6 : Array Value) (h1 : ds = arrV .u8 x) (h2 : c6 = arrV .u8 (stepC x lf i kk)) :
    Calls Tryd.prog 31 #[.agg ds, .int .i64 lf, .int .i64 i, .int .i64 kk] w fun e w' => e = .returned (.agg c6) ∧ w.grownBy w' none := by
  subst h1 h2
  exact rstep_is w x hx lf i kk
set_option maxRecDepth 100000 in
set_option maxHeartbeats 2000000 in
theorem rrun_is (w : World) (x : List Int) (hx : isDig x) (lf i lo hi : Int) (h0 : 0 ≤ lo) (h3 : hi ≤ 3) (n : Nat) (hn : n = (hi - lo).toNat) (rs : Array Value) (hrs : rs = arrV .u8 (runC x lf i lo n)) :
    Calls Tryd.prog 13 #[.agg (arrV .u8 x), .int .i64 lf, .int .i64 i, .int .i64 lo, .int .i64 hi] w fun e w' => e = .returned (.agg rs) ∧ w.grownBy w' none := by
  obtain ⟨Z16, hZ16⟩ : ∃ Z, Z = arrV .u8 (List.replicate 16 0) := ⟨_, rfl⟩
  have hz16 : ∀ w, Sem.run Tryd.prog (zeroValue 23) w = .ok (.agg Z16) w := fun w => by rw [hZ16]; exact z16run w
  have hZs : Z16.size = 16 := by rw [hZ16]; rfl
  obtain ⟨ds, hds⟩ : ∃ ds, ds = arrV .u8 x := ⟨_, rfl⟩
  rw [← hds]
  have HD := Lib.hid (show ds = arrV .u8 (runC x lf i lo 0) ∧ ds.size = 16 ∧ Z16.size = 16 from ⟨by rw [hds, runC], by rw [hds, arr_size, hx.1], hZs⟩)
  have HN := Lib.hid (And.intro hx (And.intro hn (And.intro h0 (And.intro h3 hrs))))
  clear hZ16 hZs hds hx hn h0 h3 hrs
  go_enter Tryd.func13, Tryd.ntmps13
  go_wp2_with fail
  obtain ⟨w0, hw0⟩ : ∃ w0, w0 = (w.alloc (.cells ds 23)).alloc (.cells Z16 23) := ⟨_, rfl⟩
  rw [← hw0]
  have hb0 : Blk w0 w.heap.size 23 (arrV .u8 (runC x lf i lo 0)) := by rw [hw0, ← HD.out.1]; exact (Blk.new w _ ds).alloc _
  have hz0 : Blk w0 (w.heap.size + 1) 23 Z16 := by rw [hw0]; have := Blk.new (w.alloc (.cells ds 23)) 23 Z16; rwa [World.size_alloc] at this
  have hg0 : w.grownBy w0 none := by rw [hw0]; exact grown_trans (World.grownBy_alloc _ _ none) (World.grownBy_alloc _ _ none)
  have H0 := Lib.hid (And.intro hb0 (And.intro hz0 hg0))
  clear hw0 hb0 hz0 hg0
  go_loopw [11] (fun i' wr => ∃ k : Nat, k ≤ n ∧ i' = .int .i64 (lo + (k : Int)) ∧ Blk wr w.heap.size 23 (arrV .u8 (runC x lf i lo k)) ∧ Blk wr (w.heap.size + 1) 23 Z16 ∧ w.grownBy wr none) (fun i' _ => (4 - intOf i').toNat)
  case atStart => exact ⟨0, by omega, by simp, H0.out⟩
  case round =>
    obtain ⟨k, hk, hi', hB, hZ, hG⟩ := hrel
    obtain ⟨I, hI⟩ : ∃ I : Int, I = lo + (k : Int) := ⟨_, rfl⟩
    rw [← hI] at hi'
    subst hi'
    obtain ⟨cs, hcs⟩ : ∃ cs, cs = arrV .u8 (runC x lf i lo k) := ⟨_, rfl⟩
    rw [← hcs] at hB
    have hdk := runC_dig x lf i lo HN.out.1 k
    have hsz : cs.size = 16 := by rw [hcs, arr_size]; exact hdk.1
    by_cases hlt : k < n
    · have d1 : decide (I < hi) = true := by have := HN.out.2.1; simp; omega
      have hI3 : 0 ≤ I ∧ I < 3 := by have := HN.out.2.1; have := HN.out.2.2.1; have := HN.out.2.2.2.1; omega
      obtain ⟨c2, hc2⟩ : ∃ c2, c2 = arrV .u8 (runC x lf i lo (k + 1)) := ⟨_, rfl⟩
      have hsz2 : c2.size = 16 := by rw [hc2, arr_size]; exact (runC_dig x lf i lo HN.out.1 (k + 1)).1
      have HS2 := Lib.hid (And.intro hsz2 (show (c2.all fun v => v.oneCell') = true by rw [hc2]; exact arr_one _ _))
      have hstep := rstep_v wr (runC x lf i lo k) hdk lf i I cs c2 hcs (by rw [hc2, runC_succ, hI])
      have HST := Lib.hid hstep
      have HK := Lib.hid (And.intro hI (And.intro hlt (And.intro hc2 (And.intro hsz (And.intro hZ hG)))))
      have HB := Lib.hid hB
      clear hI hlt hcs hdk hsz hc2 hsz2 hstep hB hZ hG hk
      go_wp2_with (refine wpList_load_row rfl 23 _ rfl w.heap.size rfl 23 cs (0, 0) _ HB.out Tryd.underlying23 rfl (by rw [HK.out.2.2.2.1]; exact info16) ?_)
      refine HST.out.mono ?_
      rintro e w1 ⟨rfl, hk1⟩
      have HB1 := Lib.hid (HB.out.grown hk1 (by simp))
      have HZ1 := Lib.hid (HK.out.2.2.2.2.1.grown hk1 (by simp))
      have HG1 := Lib.hid (grown_trans HK.out.2.2.2.2.2 hk1)
      clear hk1
      go_wp2_with (refine wpList_store_row rfl 23 _ _ rfl w.heap.size c2 rfl rfl 23 _ HB1.out (by rw [HS2.out.1]; exact info16) (by rw [HK.out.2.2.2.1, HS2.out.1]) HS2.out.2 ?_)
      go_roundw
      case rel =>
        obtain ⟨hI, hlt, hc2, _⟩ := HK.out
        refine ⟨k + 1, by omega, by rw [hI]; congr 1; omega, by rw [← hc2]; exact HB1.out.row c2, HZ1.out.farRow (by omega) c2, grown_row HG1.out (.inl (Nat.le_refl _)) c2⟩
      case measure => obtain ⟨hI, hlt, _⟩ := HK.out; simp only [intOf]; omega
    · obtain rfl : k = n := by omega
      have d1 : decide (I < hi) = false := by have := HN.out.2.1; simp; omega
      have hr : cs = rs := by rw [hcs, HN.out.2.2.2.2]
      subst hr
      have HB := Lib.hid hB
      have HZ := Lib.hid hZ
      have HG := Lib.hid hG
      have HSS := Lib.hid (And.intro hsz (show (cs.all fun v => v.oneCell') = true by rw [hcs]; exact arr_one _ _))
      clear hI hlt hcs hdk hsz hB hZ hG hk
      go_wp2_with (first
        | (refine wpList_load_row rfl 23 _ rfl w.heap.size rfl 23 cs (0, 0) _ HB.out Tryd.underlying23 rfl (by rw [HSS.out.1]; exact info16) ?_)
        | (refine wpList_store_row rfl 23 _ _ rfl (w.heap.size + 1) cs rfl rfl 23 _ HZ.out (by rw [HSS.out.1]; exact info16) (by rw [HD.out.2.2, HSS.out.1]) HSS.out.2 ?_))
      refine bodyPost_ret (results_cell rfl _ _ _ ⟨w.heap.size + 1, 0, none⟩ (.agg cs) rfl (run_loadVar_row _ (w.heap.size + 1) 23 23 cs (0, 0) _ (HZ.out.row cs) Tryd.underlying23 rfl (by rw [HSS.out.1]; exact info16))) rfl ?_
      exact ⟨rfl, grown_row HG.out (.inl (Nat.le_succ _)) cs⟩
end Go.Proofs.YtjcbfenkpdpbeaaDoor
