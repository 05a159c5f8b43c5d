/-
  quorateref02.Of.
-/
import Derived.Test.YtjcbfenkpdpbeaaDoorRfS
import Derived.Test.YtjcbfenkpdpbeaaDoorRfF
namespace Go.Proofs.YtjcbfenkpdpbeaaDoor
open Go.RowKit

theorem fill_set (F : List Int) (m k : Nat) (hl : F.length = m) (hk : k < m) : (F.take k ++ List.replicate (m - k) 0).set k (F.getD k 0) = F.take (k + 1) ++ List.replicate (m - (k + 1)) 0 := by
  have hlk : (F.take k).length = k := by rw [List.length_take]; omega
  obtain ⟨q, hq⟩ : ∃ q, m - k = q + 1 := ⟨m - k - 1, by omega⟩
  rw [List.set_append_right _ _ (by omega), hlk, Nat.sub_self, hq, show m - (k + 1) = q by omega, List.replicate_succ, List.set_cons_zero, List.take_add_one, List.getD, List.getElem?_eq_getElem (by omega)]
  simp only [Option.getD_some, Option.toList_some, List.append_assoc, List.singleton_append]

set_option maxRecDepth 100000 in
set_option maxHeartbeats 2000000 in
theorem rof_is (w : World) (a0 : Int) (A : Option Addr) (n c : Nat) (ts : List ByteArray) (hn : ts.length = n) (hP : TextsI w A ts) (hn64 : n ≤ 64) (hps : ∀ t ∈ ts, t.size ≤ 2000) (htot : (framedL a0 (ts.map xsOf)).length ≤ 50000) :
    Calls Tryd.prog 28 #[.int .i64 a0, .slice A n c] w fun e w' => e = .returned (.agg (arrV .u8 (ofS a0 (ts.map xsOf)))) ∧ w.grownBy w' none := by
  obtain ⟨Z32, hZ32⟩ : ∃ Z, Z = arrV .u8 (List.replicate 32 0) := ⟨_, rfl⟩
  obtain ⟨Z16, hZ16⟩ : ∃ Z, Z = arrV .u8 (List.replicate 16 0) := ⟨_, rfl⟩
  have hz32 : ∀ w, Sem.run Tryd.prog (zeroValue 84) w = .ok (.agg Z32) w := fun w => by rw [hZ32]; exact zrun w (by kernel_rfl)
  have hz16 : ∀ w, Sem.run Tryd.prog (zeroValue 23) w = .ok (.agg Z16) w := fun w => by rw [hZ16]; exact zrun w (by kernel_rfl)
  have HZ := Lib.hid (show Z16 = arrV .u8 (List.replicate 16 0) ∧ Z32.size = 32 ∧ Z16.size = 16 ∧ (Z16.all fun v => v.oneCell') = true ∧ (Tryd.prog.info? 23).map (·.size) = some Z16.size from
    ⟨hZ16, by rw [hZ32]; rfl, by rw [hZ16]; rfl, by rw [hZ16]; exact arr_one _ _, by rw [hZ16]; kernel_rfl⟩)
  have HX := Lib.hid (And.intro hn (And.intro hP (And.intro hn64 (And.intro hps htot))))
  clear hZ32 hZ16 hn hP hn64 hps htot
  go_enter Tryd.func28, Tryd.ntmps28
  go_wp2_with fail
  obtain ⟨w0, hw0⟩ : ∃ w0, w0 = w.alloc (.cells Z16 23) := ⟨_, rfl⟩
  rw [← hw0]
  have HG0 := Lib.hid (show w.grownBy w0 none by rw [hw0]; exact World.grownBy_alloc _ _ none)
  have HB0 := Lib.hid (show Blk w0 w.heap.size 23 Z16 by rw [hw0]; exact Blk.new _ _ _)
  clear hw0
  refine (framed_is w0 a0 A n c ts HX.out.1 (HX.out.2.1.grown HG0.out) HX.out.2.2.1 HX.out.2.2.2.1).mono ?_
  rintro e w1 ⟨s, rfl, hs, hk1⟩
  have HS := Lib.hid hs
  have HG1 := Lib.hid (grown_trans HG0.out hk1)
  have HB1 := Lib.hid (HB0.out.grown hk1 (by simp))
  clear hs hk1 HG0 HB0
  go_wp2_with fail
  refine (rsum_is w1 s (by rw [← xsOf_length, HS.out]; exact HX.out.2.2.2.2)).mono ?_
  rintro e w2 ⟨rfl, hk2⟩
  rw [HS.out]
  obtain ⟨F, hF⟩ : ∃ F, F = hashS (framedL a0 (ts.map xsOf)) := ⟨_, rfl⟩
  obtain ⟨ds, hds⟩ : ∃ ds, ds = arrV .u8 F := ⟨_, rfl⟩
  rw [← hF, ← hds]
  have hFl : F.length = 32 := by rw [hF, hashS_length]
  have hO : ofS a0 (ts.map xsOf) = F.take 16 := by rw [of_hash, hF]
  have hsz : ds.size = 32 := by rw [hds, arr_size, hFl]
  have HI3 := Lib.hid (show (Tryd.prog.info? 84).map (·.size) = some ds.size by rw [hsz]; exact info32)
  have HS3 := Lib.hid (And.intro hsz (show (ds.all fun x => x.oneCell') = true by rw [hds]; exact arr_one _ _))
  have HF := Lib.hid (And.intro hds (And.intro hFl hO))
  have HG2 := Lib.hid (grown_trans HG1.out hk2)
  have HB2 := Lib.hid (HB1.out.grown hk2 (by simp))
  clear hsz hds hk2 HG1 HB1 hF hFl hO HS
  go_wp2_with (first
    | (refine wpList_build_run rfl 23 #[] rfl (.agg Z16) (by rw [HZ.out.1]; kernel_rfl) ?_)
    | (refine wpList_store_row rfl 84 _ _ rfl w2.heap.size ds rfl rfl 84 _ (heap_alloc_new w2 _) HI3.out (by rw [HS3.out.1]; exact HZ.out.2.1) HS3.out.2 ?_
       obtain ⟨w3, hw3⟩ : ∃ w3, w3 = (w2.alloc (.cells Z32 84)).setRow w2.heap.size ds := ⟨_, rfl⟩
       rw [← hw3]
       have HW3 := Lib.hid hw3
       clear hw3)
    | (refine wpList_store_row rfl 23 _ _ rfl w3.heap.size Z16 rfl rfl 23 _ (heap_alloc_new w3 _) HZ.out.2.2.2.2 rfl HZ.out.2.2.2.1 ?_
       obtain ⟨w4, hw4⟩ : ∃ w4, w4 = (w3.alloc (.cells Z16 23)).setRow w3.heap.size Z16 := ⟨_, rfl⟩
       rw [← hw4]
       have HW4 := Lib.hid hw4
       clear hw4))
  obtain ⟨gs, hgs⟩ : ∃ gs, gs = w2.heap.size := ⟨_, rfl⟩
  obtain ⟨gd, hgd⟩ : ∃ gd, gd = w3.heap.size := ⟨_, rfl⟩
  rw [← hgs, ← hgd]
  have s3 : gd = gs + 1 := by rw [hgd, HW3.out, setRow_size, World.size_alloc, hgs]
  have hlt : w.heap.size < gs := by rw [hgs]; exact HB2.out.lt
  have b3 : Blk w3 gs 84 ds := by rw [HW3.out, hgs]; exact (Blk.new w2 _ Z32).row ds
  have r3 : Blk w3 w.heap.size 23 Z16 := by rw [HW3.out]; exact (HB2.out.alloc _).farRow (by omega) _
  have k3 : w.grownBy w3 none := by rw [HW3.out]; exact grown_row (grown_trans HG2.out (World.grownBy_alloc w2 _ none)) (.inl (by omega)) _
  have b4 : Blk w4 gs 84 ds := by rw [HW4.out]; exact (b3.alloc _).farRow (by omega) _
  have r4 : Blk w4 w.heap.size 23 Z16 := by rw [HW4.out]; exact (r3.alloc _).farRow (by omega) _
  have k4 : w.grownBy w4 none := by rw [HW4.out]; exact grown_row (grown_trans k3 (World.grownBy_alloc w3 _ none)) (.inl (by omega)) _
  have d4 : Blk w4 gd 23 (arrV .u8 (F.take 0 ++ List.replicate (16 - 0) 0)) := by rw [HW4.out, hgd]; simp only [List.take_zero, List.nil_append, Nat.sub_zero]; rw [← HZ.out.1]; exact (Blk.new w3 _ Z16).row Z16
  have H4 := Lib.hid (And.intro d4 (And.intro b4 (And.intro r4 k4)))
  have HN := Lib.hid (And.intro s3 hlt)
  clear hgs hgd s3 hlt b3 r3 k3 b4 r4 k4 d4 HG2 HB2 HI3 HS3
  go_loopw [13] (fun i wr => ∃ k : Nat, k ≤ 16 ∧ i = .int .i64 (k : Int) ∧ Blk wr gd 23 (arrV .u8 (F.take k ++ List.replicate (16 - k) 0)) ∧ Blk wr gs 84 ds ∧ Blk wr w.heap.size 23 Z16 ∧ w.grownBy wr none) (fun i _ => 16 - (intOf i).toNat)
  case atStart => exact ⟨0, by omega, rfl, H4.out⟩
  case round =>
    obtain ⟨k, hk, hi, hD, hS, hR, hG⟩ := hrel
    obtain ⟨K, hK⟩ : ∃ K : Int, K = (k : Int) := ⟨_, rfl⟩
    rw [← hK] at hi
    subst hi
    by_cases hlt : k < 16
    · have d2 : decide (K < 16) = true := by simp; omega
      have hx : 0 ≤ K ∧ K < 16 := by omega
      have hy : 0 ≤ K ∧ K < 32 := by omega
      have hln : (F.take k ++ List.replicate (16 - k) 0).length = 16 := by have := HF.out.2.1; rw [List.length_append, List.length_take, List.length_replicate]; omega
      have cs : wr.cell? ⟨gs, K.toNat, none⟩ = some (.int .u8 (F.getD K.toNat 0)) := by rw [hS.cell, HF.out.1]; exact arr_get (by rw [HF.out.2.1]; omega)
      have cd : wr.cell? ⟨gd, K.toNat, none⟩ = some (.int .u8 ((F.take k ++ List.replicate (16 - k) 0).getD K.toNat 0)) := by rw [hD.cell]; exact arr_get (by omega)
      have fd := hD.frozen K.toNat
      have hnx : (F.take k ++ List.replicate (16 - k) 0).set K.toNat (F.getD K.toNat 0) = F.take (k + 1) ++ List.replicate (16 - (k + 1)) 0 := by
        rw [show K.toNat = k by omega]
        have := fill_set (F.take 16) 16 k (by rw [List.length_take, HF.out.2.1]; rfl) hlt
        rw [List.take_take, List.take_take, Nat.min_eq_left (by omega), Nat.min_eq_left (by omega)] at this
        rw [← this]
        congr 1
        simp [List.getD, hlt]
      obtain ⟨y, hyy⟩ : ∃ y, y = F.getD K.toNat 0 := ⟨_, rfl⟩
      obtain ⟨z, hzz⟩ : ∃ z, z = (F.take k ++ List.replicate (16 - k) 0).getD K.toNat 0 := ⟨_, rfl⟩
      rw [← hyy] at cs hnx
      rw [← hzz] at cd
      have HK := Lib.hid (And.intro hK (And.intro hlt (And.intro hnx (And.intro hD (And.intro hS (And.intro hR hG))))))
      clear hK hlt hnx hD hS hR hG hyy hzz hln hk
      go_wp2_with fail
      go_roundw
      case rel =>
        obtain ⟨hK, hlt, hnx, hD, hS, hR, hG⟩ := HK.out
        obtain ⟨s3, hl⟩ := HN.out
        refine ⟨k + 1, by omega, by rw [hK]; rfl, ?_, hS.far (p := ⟨gd, K.toNat, none⟩) (by dsimp only; omega) _, hR.far (p := ⟨gd, K.toNat, none⟩) (by dsimp only; omega) _, grown_far hG (p := ⟨gd, K.toNat, none⟩) (.inl (by dsimp only; omega)) _⟩
        rw [← hnx]
        have := hD.set K.toNat (.int .u8 y)
        rwa [arr_set] at this
      case measure => obtain ⟨hK, hlt, _⟩ := HK.out; simp [intOf]; omega
    · obtain rfl : k = 16 := by omega
      have d2 : decide (K < 16) = false := by simp; omega
      obtain ⟨c6, hc6⟩ : ∃ c6, c6 = arrV .u8 (ofS a0 (ts.map xsOf)) := ⟨_, rfl⟩
      rw [Nat.sub_self, List.replicate_zero, List.append_nil, ← HF.out.2.2, ← hc6] at hD
      have hs16 : c6.size = 16 := by rw [hc6, arr_size, ofS_length]
      have HI6 := Lib.hid (show (Tryd.prog.info? 23).map (·.size) = some c6.size by rw [hs16]; kernel_rfl)
      have HS6 := Lib.hid (And.intro hs16 (And.intro (show (c6.all fun x => x.oneCell') = true by rw [hc6]; exact arr_one _ _) hc6))
      have HD := Lib.hid hD
      have HRR := Lib.hid hR
      have HG := Lib.hid hG
      clear hK hlt hD hS hR hG hs16 hc6 hk
      go_wp2_with (first
        | (refine wpList_load_row rfl 23 _ rfl gd rfl 23 c6 (0, 0) _ HD.out Tryd.underlying23 rfl HI6.out ?_)
        | (refine wpList_store_row rfl 23 _ _ rfl w.heap.size c6 rfl rfl 23 _ HRR.out HI6.out (by rw [HS6.out.1]; exact HZ.out.2.2.1) HS6.out.2.1 ?_))
      refine bodyPost_ret (results_cell rfl _ _ _ ⟨w.heap.size, 0, none⟩ (.agg c6) rfl (run_loadVar_row _ w.heap.size 23 23 c6 (0, 0) _ (HRR.out.row c6) Tryd.underlying23 rfl HI6.out)) rfl ?_
      exact ⟨by rw [HS6.out.2.2], grown_row HG.out (.inl (Nat.le_refl _)) c6⟩
end Go.Proofs.YtjcbfenkpdpbeaaDoor
