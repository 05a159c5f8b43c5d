/-
 quorateref02.Sum: SHA-256 by whole blocks.
-/
import Derived.Test.YtigafnbofmiknaaGreatDoorW20d
namespace Go.Proofs.YtigafnbofmiknaaGreatDoor
set_option maxRecDepth 100000
set_option maxHeartbeats 10000000
open Go.RowKit

theorem rsum_isK20 (w : World) (s : ByteArray) (hs : s.size <= 50000) :
    Calls Tryz.prog 47 #[.string s] w fun e w' => e = .returned (.agg (arrV .u8 (hashS (xsOf s)))) /\ w.grownBy w' none := by
 obtain ⟨i0, hi0, hz0, hz1, hz2⟩ := info_parts u8i
 have HI0 := hQ_ (aQ hi0 (aQ hz0 (aQ hz1 hz2)))
 clear hi0 hz0 hz1 hz2
 go_enter Tryz.func47, Tryz.ntmps47
 obtain ⟨Z32, hZ32⟩ : ∃ Z, Z = arrV .u8 (List.replicate 32 0) := ⟨_, rfl⟩
 have hz32 : ∀ w, Sem.run Tryz.prog (zeroValue 113) w = .ok (.agg Z32) w := fun w => by rw [hZ32]; exact zrun w (by kernel_rfl)
 obtain ⟨w0, hw0⟩ : ∃ w0, w0 = w.alloc (.cells Z32 113) := ⟨_, rfl⟩
 have hcv := Lib.run_convert_string_bytes w0 9 81 5 s Tryz.underlying9 Tryz.underlying81 Tryz.underlying5
 have hou := ownsU_conv w0 5 s (by simp only [maxLen]; omega)
 have hgu := conv_grown w0 5 s
 obtain ⟨w1, hw1⟩ : ∃ w1, w1 = Lib.bytesWorld w0 5 s := ⟨_, rfl⟩
 obtain ⟨C0, hC0⟩ : ∃ C, C = grownCap w0 s.size 0 5 := ⟨_, rfl⟩
 rw [<- hw1, <- hC0] at hcv
 rw [<- hw1, <- hC0] at hou
 rw [<- hw1] at hgu
 have hxs : (s.data.toList.map fun b => Value.int .u8 b.toNat) = (xsOf s).map (Value.int .u8) := by simp [xsOf]
 rw [hxs] at hou
 obtain ⟨x, hx⟩ : ∃ x, x = xsOf s := ⟨_, rfl⟩
 rw [<- hx] at hou ⊢
 have hxl : x.length = s.size := by rw [hx, z4]
 have e0 : w0.heap.size = w.heap.size + 1 := by rw [hw0]; simp
 rw [e0] at hou hcv
 have hxr : ∀ z ∈ x, 0 <= z /\ z < 256 := by rw [hx]; exact xsOf_range s
 obtain ⟨BT, hBT⟩ : ∃ B : Int, B = ((s.size * 8 : Nat) : Int) := ⟨_, rfl⟩
 have hb1 : IntKind.u64.wrap (s.size : Int) = (s.size : Int) := by rw [IntKind.wrap_u64]; omega
 have hb2 : IntKind.u64.wrap ((s.size : Int) * 8) = BT := by rw [IntKind.wrap_u64, hBT]; omega
 have HX := hQ_ (aQ hxl (aQ hxr (aQ hBT hs)))
 have HW := hQ_ (aQ hw0 hZ32)
 have HOU := hQ_ (aQ hou (aQ hgu (show w.heap.size + 1 <= w1.heap.size by have := hgu.size; omega)))
 rw [hw0] at hcv
 clear hZ32 hw0 hw1 hC0 hou hgu hxs hx hxl hxr hBT hs e0
 go_wp2_with (at_builtin
              refine zal rfl _ _ 81 rfl (w.heap.size + 1) 5 _ i0 Tryz.underlying81 HI0.out.1 HI0.out.2.1 HI0.out.2.2.1 HI0.out.2.2.2 _ _ _ rfl HOU.out.1 128 rfl (by have := HX.out.2.2.2; omega) HOU.out.2.2 ?_
              intro v' w2 hown2 hgrow
              have HO2 := hQ_ (aQ hown2 (zcz HOU.out.2.1 hgrow HOU.out.1 (by rw [HW.out.1]; simp)))
              clear hown2 hgrow)
 clear hcv
 go_loopw [4] (fun v wr => ∃ k : Nat, k <= zerosN s.size /\ ownsU wr (w.heap.size + 1) 5 v (s.size + 1 + k) ((x ++ 128 :: List.replicate k 0).map (Value.int .u8)) /\ w0.grownBy wr none) (fun v _ => s.size + 1 + zerosN s.size - lenV v)
 case atStart => exact ⟨0, by omega, by simpa using HO2.out.1, HO2.out.2⟩
 case round =>
  obtain ⟨k, hk, hown, hK⟩ := hrel
  obtain ⟨g, cap, rfl, hbg, hnc, _⟩ := hown.cells
  obtain ⟨q, hq⟩ : ∃ q, q = s.size + 1 + k := ⟨_, rfl⟩
  rw [<- hq] at hown hnc ⊢
  obtain ⟨R, hR⟩ : ∃ R : Int, R = ((q % 64 : Nat) : Int) := ⟨_, rfl⟩
  have hzb : zerosN s.size <= 64 := by unfold zerosN; split <;> omega
  have hq6 : q <= 60000 := by have := HX.out.2.2.2; omega
  have hrem : (q : Int).tmod 64 = R := by rw [Int.tmod_eq_emod_of_nonneg (by omega), hR]; omega
  have hR5 : R = 56 ↔ k = zerosN s.size := by rw [<- zerosN_at s.size k hk, <- hq, hR]; omega
  have HG := hQ_ (aQ hK (show w.heap.size + 1 <= wr.heap.size by have := hK.size; rw [HW.out.1] at this; simp at this; omega))
  have HO := hQ_ (aQ hown hnc)
  by_cases hlt : k = zerosN s.size
  · have dR : (R != 56) = false := by rw [hR5.2 hlt]; rfl
    subst hlt
    have HQ := hQ_ (aQ hq hq6)
    clear hown hK hR5 hR hq hnc hk hbg hzb hq6
    go_wp2_with fail
    clear hrem dR
    obtain ⟨y, hy⟩ : ∃ y, y = x ++ 128 :: List.replicate (zerosN s.size) 0 := ⟨_, rfl⟩
    rw [<- hy] at HO
    have HY := hQ_ hy
    clear hy
    go_loopw [4, 5] (fun v i wr => ∃ k : Nat, k <= 8 /\ i = .int .i64 (k : Int) /\ ownsU wr (w.heap.size + 1) 5 v (q + k) ((y ++ (endB (s.size * 8)).take k).map (Value.int .u8)) /\ w0.grownBy wr none) (fun _ i _ => 8 - (intOf i).toNat)
    case atStart => exact ⟨0, by omega, rfl, by simpa using HO.out.1, HG.out.1⟩
    case round =>
     obtain ⟨k, hk, hi, hown, hK⟩ := hrel
     obtain ⟨I, hI⟩ : ∃ I : Int, I = (k : Int) := ⟨_, rfl⟩
     rw [<- hI] at hi
     subst hi
     have HG1 := hQ_ (aQ hK (show w.heap.size + 1 <= wr.heap.size by have := hK.size; rw [HW.out.1] at this; simp at this; omega))
     have HO1 := hQ_ hown
     by_cases hlt : k < 8
     · have d1 : decide (I < 8) = true := by simp; omega
       obtain ⟨SH, hSH⟩ : ∃ S : Int, S = 56 - 8 * I := ⟨_, rfl⟩
       have s1 : wrap64 (8 * I) = 8 * I := w64 _ ⟨by omega, by omega⟩
       have s2 : wrap64 (56 - 8 * I) = SH := by rw [w64 _ ⟨by omega, by omega⟩, hSH]
       have s3 : IntKind.u64.wrap SH = SH := by rw [IntKind.wrap_u64]; omega
       have s4 : 0 <= SH /\ SH <= 64 := by omega
       have s5 : wrap64 (I + 1) = I + 1 := w64 _ ⟨by omega, by omega⟩
       have HI := hQ_ (aQ hI (aQ hlt hSH))
       clear hown hK hI hlt hk hSH
       have hby := endB_byte (s.size * 8) k SH HI.out.2.1 (by rw [HI.out.2.2, HI.out.1])
       rw [<- HX.out.2.2.1] at hby
       have HBY := hQ_ (aQ hby (take_get (endB (s.size * 8)) k (by rw [zb9]; exact HI.out.2.1)))
       clear hby
       go_wp2_with (at_builtin
                    refine zal rfl _ _ 81 rfl (w.heap.size + 1) 5 _ i0 Tryz.underlying81 HI0.out.1 HI0.out.2.1 HI0.out.2.2.1 HI0.out.2.2.2 _ _ _ rfl HO1.out (BT / 2 ^ SH.toNat % 256) rfl (by have := HQ.out.2; have := HI.out.2.1; omega) HG1.out.2 ?_
                    intro v' w4 hown4 hgrow
                    have HO4 := hQ_ (aQ hown4 (zcz HG1.out.1 hgrow HO1.out (by rw [HW.out.1]; simp)))
                    clear hown4 hgrow)
       go_roundw
       case rel =>
        obtain ⟨hI, hlt, hSH⟩ := HI.out
        refine ⟨k + 1, by omega, by rw [s5, hI]; rfl, ?_, HO4.out.2⟩
        rw [HBY.out.2, <- List.append_assoc, List.map_append]
        have := HO4.out.1
        rw [HBY.out.1] at this
        exact this
       case measure => obtain ⟨hI, hlt, hSH⟩ := HI.out; rw [s5]; simp [intOf]; omega
     · obtain rfl : k = 8 := by omega
       have d1 : decide (I < 8) = false := by simp; omega
       rw [List.take_of_length_le (by rw [zb9]; omega)] at hown
       obtain ⟨gb, cb, rfl, hgb, hcb, hcell⟩ := hown.cells
       obtain ⟨L, hL⟩ : ∃ L, L = x ++ padL s.size := ⟨_, rfl⟩
       have hLy : y ++ endB (s.size * 8) = L := by rw [hL, HY.out, padL]; simp [zerosN]
       rw [hLy] at hcell hown
       have hlen : q + 8 = L.length := by have := hown.1; rw [List.length_map] at this; exact this.symm
       have hmod : L.length % 64 = 0 := by rw [hL, List.length_append, HX.out.1]; exact padL_length _
       obtain ⟨ℓ, hℓ⟩ : ∃ ℓ, ℓ = L.length := ⟨_, rfl⟩
       rw [hlen, <- hℓ]
       rw [hlen, <- hℓ] at hcb
       have hLr : ∀ z ∈ L, 0 <= z /\ z < 256 := by
        intro z hz
        rw [<- hLy, HY.out] at hz
        simp only [List.mem_append, List.mem_cons, List.mem_replicate] at hz
        rcases hz with (h | h | h) | h
        · exact HX.out.2.1 z h
        · omega
        · omega
        · obtain ⟨j, hj, rfl⟩ := List.getElem_of_mem h
          have e := endB_byte (s.size * 8) j (56 - 8 * (j : Int)) (by rw [zb9] at hj; exact hj) rfl
          rw [List.getD, List.getElem?_eq_getElem hj, Option.getD_some] at e
          rw [<- e]; omega
       have hB : ∀ j, j < L.length -> wr.cell? ⟨gb, j, none⟩ = some (.int .u8 (L.getD j 0)) := fun j hj => hcell j _ (by simp [List.getD, List.getElem?_eq_getElem hj])
       have hglt : gb < wr.heap.size := (hown.lt gb rfl).2
       have HL := hQ_ (aQ hL (aQ hℓ (aQ hmod (aQ hLr (show ℓ <= 60008 /\ 0 < ℓ by have := HQ.out.2; omega)))))
       have HB := hQ_ (aQ hB (aQ hglt (aQ hgb hcb)))
       clear hown hK hI hlt hk hcell hL hLy hlen hmod hℓ hLr hB hglt hgb hcb
       obtain ⟨Z64, hZ64⟩ : ∃ Z, Z = arrV .u32 (List.replicate 64 0) := ⟨_, rfl⟩
       obtain ⟨Z8, hZ8⟩ : ∃ Z, Z = arrV .u32 (List.replicate 8 0) := ⟨_, rfl⟩
       obtain ⟨H0, hH0⟩ : ∃ Z, Z = arrV .u32 startS.ws := ⟨_, rfl⟩
       have hz64 : ∀ w, Sem.run Tryz.prog (zeroValue 148) w = .ok (.agg Z64) w := fun w => by rw [hZ64]; exact zrun w (by kernel_rfl)
       have hz8 : ∀ w, Sem.run Tryz.prog (zeroValue 149) w = .ok (.agg Z8) w := fun w => by rw [hZ8]; exact zrun w (by kernel_rfl)
       have HZ := hQ_ (show (Z64 = arrV .u32 (List.replicate 64 0) /\ H0 = arrV .u32 startS.ws) /\ Z64.size = 64 /\ Z8.size = H0.size /\ (Z64.all fun v => v.oneCell') = true /\ (H0.all fun v => v.oneCell') = true /\ (Tryz.prog.info? 148).map (·.size) = some Z64.size /\ (Tryz.prog.info? 149).map (·.size) = some H0.size from by
        have e1 : Z64.size = 64 := by rw [hZ64]; rfl
        have e2 : H0.size = 8 := by rw [hH0]; rfl
        have e3 : Z8.size = 8 := by rw [hZ8]; rfl
        exact ⟨⟨hZ64, hH0⟩, e1, by rw [e2, e3], by rw [hZ64]; simp [Value.oneCell'], by rw [hH0]; simp [Value.oneCell'], by rw [e1]; kernel_rfl, by rw [e2]; kernel_rfl⟩)
       clear hZ64 hZ8 hH0
       go_wp2_with (first
        | (refine yi rfl 148 #[] rfl (.agg Z64) (by rw [HZ.out.1.1]; kernel_rfl) ?_)
        | (refine yi rfl 149 _ rfl (.agg H0) (by rw [HZ.out.1.2]; kernel_rfl) ?_)
        | (refine wpList_store_row rfl 148 _ _ rfl wr.heap.size Z64 rfl rfl 148 _ (heap_alloc_new wr _) HZ.out.2.2.2.2.2.1 rfl HZ.out.2.2.2.1 ?_
           obtain ⟨wa, hwa⟩ : ∃ wa, wa = (wr.alloc (.cells Z64 148)).setRow wr.heap.size Z64 := ⟨_, rfl⟩
           rw [<- hwa]
           have HWA := hQ_ hwa
           clear hwa)
        | (refine wpList_store_row rfl 149 _ _ rfl wa.heap.size H0 rfl rfl 149 _ (heap_alloc_new wa _) HZ.out.2.2.2.2.2.2 HZ.out.2.2.1 HZ.out.2.2.2.2.1 ?_
           obtain ⟨wb, hwb⟩ : ∃ wb, wb = (wa.alloc (.cells Z8 149)).setRow wa.heap.size H0 := ⟨_, rfl⟩
           rw [<- hwb]
           have HWB := hQ_ hwb
           clear hwb)
        | (refine wpList_store_row rfl 148 _ _ rfl wb.heap.size Z64 rfl rfl 148 _ (heap_alloc_new wb _) HZ.out.2.2.2.2.2.1 rfl HZ.out.2.2.2.1 ?_
           obtain ⟨wc, hwc⟩ : ∃ wc, wc = (wb.alloc (.cells Z64 148)).setRow wb.heap.size Z64 := ⟨_, rfl⟩
           rw [<- hwc]
           have HWC := hQ_ hwc
           clear hwc))
       obtain ⟨a, ha⟩ : ∃ a : At, a = ⟨wr.heap.size, wa.heap.size, wb.heap.size, gb⟩ := ⟨_, rfl⟩
       have sa : wa.heap.size = wr.heap.size + 1 := by rw [HWA.out, setRow_size, World.size_alloc]
       have sb : wb.heap.size = wr.heap.size + 2 := by rw [HWB.out, setRow_size, World.size_alloc, sa]
       have h0 : w0.heap.size <= wr.heap.size := HG1.out.1.size
       have hok : a.ok w0 := by
        have := HB.out.2.1
        rw [ha]
        refine ⟨?_, ?_, ?_, ?_, ?_, ?_, ?_, ?_, ?_⟩ <;> dsimp only <;> omega
       have hRS : RS w0 wc a L (List.replicate 64 0) startS.ws (List.replicate 64 0) := by
        have B1 := (Blk.new wr 148 Z64).row Z64
        rw [<- HWA.out] at B1
        have B1b := (B1.alloc (.cells Z8 149)).farRow (g' := wa.heap.size) (by omega) H0
        rw [<- HWB.out] at B1b
        have B1c := (B1b.alloc (.cells Z64 148)).farRow (g' := wb.heap.size) (by omega) Z64
        rw [<- HWC.out] at B1c
        have B2 := (Blk.new wa 149 Z8).row H0
        rw [<- HWB.out] at B2
        have B2c := (B2.alloc (.cells Z64 148)).farRow (g' := wb.heap.size) (by omega) Z64
        rw [<- HWC.out] at B2c
        have B3 := (Blk.new wb 148 Z64).row Z64
        rw [<- HWC.out] at B3
        have ga : wr.grownBy wa none := by rw [HWA.out]; exact zc (World.grownBy_alloc wr _ none) (.inl (Nat.le_refl _)) _
        have gb' : wa.grownBy wb none := by rw [HWB.out]; exact zc (World.grownBy_alloc wa _ none) (.inl (Nat.le_refl _)) _
        have gc : wb.grownBy wc none := by rw [HWC.out]; exact zc (World.grownBy_alloc wb _ none) (.inl (Nat.le_refl _)) _
        have gall := za (za ga gb') gc
        rw [ha]
        exact ⟨za HG1.out.1 gall, by rw [<- HZ.out.1.1]; exact B1c, by rw [<- HZ.out.1.2]; exact B2c, by rw [<- HZ.out.1.1]; exact B3, fun j hj => gall.cell (HB.out.1 j hj) (by simp)⟩
       have eT : wr.heap.size = a.t := by rw [ha]
       have eH : wa.heap.size = a.h := by rw [ha]
       have eC : wb.heap.size = a.c := by rw [ha]
       have eG : gb = a.g := by rw [ha]
       rw [eT, eH, eC, eG]
       have HA := hQ_ hok
       have HRS := hQ_ hRS
       have hcb := hQ_ HB.out.2.2.2
       have hlow := hQ_ (show w.heap.size < w0.heap.size /\ w0.heap.size <= a.t by rw [HW.out.1, <- eT, <- HW.out.1]; exact ⟨by rw [HW.out.1]; simp, h0⟩)
       clear HWA HWB HWC HB HG1 HO1 HG HO HO2 HOU sa sb h0 hok hRS eT eH eC eG ha hb1 hb2 d1
       go_loopw [55] (fun i wr => ∃ k : Nat, k <= 64 /\ i = .int .i64 (k : Int) /\ RS w0 wr a L (List.replicate 64 0) startS.ws (kS.take k ++ List.replicate (64 - k) 0)) (fun i _ => 64 - (intOf i).toNat)
       case atStart => exact ⟨0, by omega, rfl, by simpa using HRS.out⟩
       case round =>
        as_aux_lemma =>
        obtain ⟨k, hk, hi, hS⟩ := hrel
        obtain ⟨J, hJ⟩ : ∃ J : Int, J = (k : Int) := ⟨_, rfl⟩
        rw [<- hJ] at hi
        subst hi
        by_cases hlt : k < 64
        · have d1 : decide (J < 64) = true := by simp; omega
          have hJ0 : 0 <= J /\ J < 64 := by omega
          have s5 : wrap64 (J + 1) = J + 1 := w64 _ ⟨by omega, by omega⟩
          have hJk : J.toNat = k := by omega
          have ck := hS.cellC (by simp [uw]; omega) J.toNat (by omega)
          have fk := hS.c.frozen J.toNat
          obtain ⟨old, hold⟩ : ∃ old, old = (kS.take k ++ List.replicate (64 - k) 0).getD J.toNat 0 := ⟨_, rfl⟩
          rw [<- hold] at ck
          have HJ := hQ_ (aQ hJ (aQ hlt (aQ hJk hS)))
          clear hold hS hJ hlt hk hJk
          go_wp2_with fail
          rw [HJ.out.1]
          refine (k_is wr k HJ.out.2.1).mono ?_
          rintro e w5 ⟨rfl, rfl⟩
          rw [<- HJ.out.1]
          go_wp2_with fail
          go_roundw
          case rel =>
           obtain ⟨hJ, hlt, hJk, hS⟩ := HJ.out
           refine ⟨k + 1, by omega, by rw [hJ]; rfl, ?_⟩
           rw [<- k_set k hlt, hJk]
           exact hS.setC HA.out k _
          case measure => obtain ⟨hJ, hlt, hJk, hS⟩ := HJ.out; simp [intOf]; omega
        · obtain rfl : k = 64 := by omega
          have d1 : decide (J < 64) = false := by simp; omega
          have hS' : RS w0 wr a L (List.replicate 64 0) startS.ws kS := by
           have := hS
           rwa [List.take_of_length_le (by rw [uw]; omega), show 64 - 64 = 0 from rfl, List.replicate_zero, List.append_nil] at this
          have HR2 := hQ_ hS'
          clear hS hS' hJ hlt hk HRS
          go_wp2_with fail
          go_loopw [4] (fun v wr => ∃ kk o m cc : Nat, v = .slice (some ⟨a.g, o, none⟩) m cc /\ (0 < m -> o = 64 * kk) /\ 64 * kk + m = ℓ /\ m <= cc /\ ∃ tb : List Int, tb.length = 64 /\ RS w0 wr a L tb (za1 startS.ws L kk) kS) (fun v _ => lenV v)
          case atStart => exact ⟨0, 0, ℓ, cb, rfl, fun _ => rfl, by omega, hcb.out, List.replicate 64 0, by simp, HR2.out⟩
          case round =>
           obtain ⟨kk, o, m, cc, rfl, ho, hom, hmc, tb, htb, hS⟩ := hrel
           by_cases hm0 : 0 < m
           · replace ho := ho hm0
             have hom : o + m = ℓ := by omega
             have hm64 : 64 <= m := by have := HL.out.2.1; have := HL.out.2.2.1; omega
             have d1 : decide ((0 : Int) < (m : Int)) = true := by simp; omega
             have d0 : decide (0 < m) = true := by simp; omega
             have d2 : (64 : Int) <= (m : Int) := by omega
             have d3 : (m : Int) <= 60008 := by have := HL.out.2.2.2.2; omega
             obtain ⟨bk, hbk⟩ : ∃ bk, bk = blkOf L o := ⟨_, rfl⟩
             obtain ⟨ws, hws⟩ : ∃ ws, ws = za1 startS.ws L kk := ⟨_, rfl⟩
             rw [<- hws] at hS
             have hwl : ws.length = 8 := by rw [hws, za0]
             have HM := hQ_ (aQ ho (aQ hom (aQ hmc (aQ htb (aQ hm64 (aQ hbk (aQ hws (aQ hwl hS))))))))
             clear ho hom hmc htb hm0 hbk hws hwl hS hm64
             go_wp2_with fail
             clear d0
             go_loopw [10] (fun i wr => ∃ k : Nat, k <= 16 /\ i = .int .i64 (k : Int) /\ RS w0 wr a L (schS bk k ++ tb.drop k) ws kS) (fun i _ => 16 - (intOf i).toNat)
             case atStart => exact ⟨0, by omega, rfl, by simpa [schS] using HM.out.2.2.2.2.2.2.2.2⟩
             case round =>
              as_aux_lemma =>
              obtain ⟨k, hk, hi, hS⟩ := hrel
              obtain ⟨I, hI⟩ : ∃ I : Int, I = (k : Int) := ⟨_, rfl⟩
              rw [<- hI] at hi
              subst hi
              by_cases hlt : k < 16
              · have d4 : decide (I < 16) = true := by simp; omega
                obtain ⟨ho, hom, hmc, htb, hm64, hbk, hws, hwl, _⟩ := HM.out
                have hlL : o + 64 <= L.length := by have := HL.out.2.1; omega
                obtain ⟨N, hN⟩ : ∃ N : Nat, N = 4 * k := ⟨_, rfl⟩
                have cell : ∀ j, j < 64 -> wr.cell? ⟨a.g, o + j, none⟩ = some (.int .u8 (bk.getD j 0)) := fun j hj => by rw [hbk, blk_get L o j hj]; exact hS.b (o + j) (by omega)
                have c0 := cell N (by omega)
                have c1 := cell (N + 1) (by omega)
                have c2 := cell (N + 2) (by omega)
                have c3 := cell (N + 3) (by omega)
                have rg : ∀ j, j < 64 -> 0 <= bk.getD j 0 /\ bk.getD j 0 < 256 := fun j hj => by rw [hbk, blk_get L o j hj]; exact blk_range L o j HL.out.2.2.2.1
                have hwd : wordS bk (schS bk k) k = wordF (bk.getD N 0) (bk.getD (N + 1) 0) (bk.getD (N + 2) 0) (bk.getD (N + 3) 0) := by rw [wordS, if_pos hlt, hN]
                rw [wordF_sum _ _ _ _ (rg N (by omega)) (rg (N + 1) (by omega)) (rg (N + 2) (by omega)) (rg (N + 3) (by omega))] at hwd
                have r0 := rg N (by omega)
                have r1 := rg (N + 1) (by omega)
                have r2 := rg (N + 2) (by omega)
                have r3 := rg (N + 3) (by omega)
                generalize bk.getD N 0 = x0 at *
                generalize bk.getD (N + 1) 0 = x1 at *
                generalize bk.getD (N + 2) 0 = x2 at *
                generalize bk.getD (N + 3) 0 = x3 at *
                have hln : (schS bk k ++ tb.drop k).length = 64 := by rw [List.length_append, y6, List.length_drop]; omega
                have ck := hS.cellT hln I.toNat (by omega)
                have fk := hS.t.frozen I.toNat
                obtain ⟨old, hold⟩ : ∃ old, old = (schS bk k ++ tb.drop k).getD I.toNat 0 := ⟨_, rfl⟩
                rw [<- hold] at ck
                rw [show N = (4 * I).toNat by omega] at c0
                rw [show N + 1 = (4 * I + 1).toNat by omega] at c1
                rw [show N + 2 = (4 * I + 2).toNat by omega] at c2
                rw [show N + 3 = (4 * I + 3).toNat by omega] at c3
                have hN4 : 4 * I + 3 < (m : Int) := by omega
                have hx : 0 <= I /\ I < 64 := by omega
                have HI := hQ_ (aQ hI (aQ hlt (aQ hwd hS)))
                have HXX := hQ_ (aQ r0 (aQ r1 (aQ r2 r3)))
                clear hI hlt hwd hS hN hold hln cell rg ho hom hmc htb hm64 hbk hws hwl hlL hk r0 r1 r2 r3
                go_wp2_with fail
                go_region
                go_wp2_with fail
                go_roundw
                case rel =>
                 obtain ⟨hI, hlt, hwd, hS⟩ := HI.out
                 obtain ⟨r0, r1, r2, r3⟩ := HXX.out
                 have e : ((x0 % 4294967296 * 16777216 + x1 % 4294967296 * 65536 + x2 % 4294967296 * 256 + x3) % 4294967296 : Int) = wordS bk (schS bk k) k := by rw [hwd]; omega
                 have hIk : I.toNat = k := by omega
                 rw [e, hIk]
                 refine ⟨k + 1, by omega, by rw [hI]; rfl, ?_⟩
                 have := (hS.setT HA.out k (wordS bk (schS bk k) k)).drew
                 rw [mix_set _ _ _ _ (y6 bk k) (by have := HM.out.2.2.2.1; omega)] at this
                 exact this
                case measure => obtain ⟨hI, hlt, hwd, hS⟩ := HI.out; simp [intOf]; omega
              -- L4END
              · obtain rfl : k = 16 := by omega
                have d4 : decide (I < 16) = false := by simp; omega
                have HS4 := hQ_ hS
                clear hI hlt hk hS
                go_wp2_with fail
                clear d4
                go_loopw [11] (fun i wr => ∃ k : Nat, 16 <= k /\ k <= 64 /\ i = .int .i64 (k : Int) /\ RS w0 wr a L (schS bk k ++ tb.drop k) ws kS) (fun i _ => 64 - (intOf i).toNat)
                case atStart => exact ⟨16, Nat.le_refl _, by omega, rfl, HS4.out⟩
                case round =>
                 as_aux_lemma =>
                 obtain ⟨k, hk16, hk, hi, hS⟩ := hrel
                 obtain ⟨J, hJ⟩ : ∃ J : Int, J = (k : Int) := ⟨_, rfl⟩
                 rw [<- hJ] at hi
                 subst hi
                 by_cases hlt : k < 64
                 · have d2 : decide (J < 64) = true := by simp; omega
                   have hx : 16 <= J /\ J < 64 := by omega
                   have htb := HM.out.2.2.2.1
                   have hln : (schS bk k ++ tb.drop k).length = 64 := by rw [List.length_append, y6, List.length_drop]; omega
                   have get : ∀ i : Nat, i < k -> wr.cell? ⟨a.t, i, none⟩ = some (.int .u32 ((schS bk k).getD i 0)) := fun i hi => by
                    rw [hS.cellT hln i (by omega), List.getD, List.getElem?_append_left (by rw [y6]; exact hi), <- List.getD]
                   obtain ⟨J16, hJ16⟩ : ∃ K : Int, K = J - 16 := ⟨_, rfl⟩
                   obtain ⟨J7, hJ7⟩ : ∃ K : Int, K = J - 7 := ⟨_, rfl⟩
                   have s16 : IntKind.i64.wrap (J - 16) = J16 := by rw [IntKind.wrap_i64]; omega
                   have s7 : IntKind.i64.wrap (J - 7) = J7 := by rw [IntKind.wrap_i64]; omega
                   have b1 : 0 <= J16 := by omega
                   have b2 : J16 < 64 := by omega
                   have b3 : 0 <= J7 := by omega
                   have b4 : J7 < 64 := by omega
                   have b5 : 0 <= J := by omega
                   have b6 : J < 64 := by omega
                   have g16 := get J16.toNat (by omega)
                   have g15 := get (J - 15).toNat (by omega)
                   have g7 := get J7.toNat (by omega)
                   have g2 := get (J - 2).toNat (by omega)
                   have ck := hS.cellT hln J.toNat (by omega)
                   have fk := hS.t.frozen J.toNat
                   obtain ⟨old, hold⟩ : ∃ old, old = (schS bk k ++ tb.drop k).getD J.toNat 0 := ⟨_, rfl⟩
                   rw [<- hold] at ck
                   have hwd : wordS bk (schS bk k) k = nextS ((schS bk k).getD J16.toNat 0) ((schS bk k).getD (J - 15).toNat 0) ((schS bk k).getD J7.toNat 0) ((schS bk k).getD (J - 2).toNat 0) := by
                    rw [wordS, if_neg (by omega), show J16.toNat = k - 16 by omega, show (J - 15).toNat = k - 15 by omega, show J7.toNat = k - 7 by omega, show (J - 2).toNat = k - 2 by omega]
                   generalize (schS bk k).getD J16.toNat 0 = y16 at *
                   generalize (schS bk k).getD (J - 15).toNat 0 = y15 at *
                   generalize (schS bk k).getD J7.toNat 0 = y7 at *
                   generalize (schS bk k).getD (J - 2).toNat 0 = y2 at *
                   have HJ := hQ_ (aQ hJ (aQ hlt (aQ hk16 (aQ hwd hS))))
                   clear hwd get hS hJ hlt hk hk16 hold hln htb hJ16 hJ7
                   -- L5A
                   go_wp2_with fail
                   go_region
                   go_wp2_with fail
                   refine wp_region_still_tail 29 (by kernel_rfl) (by kernel_rfl) ?_
                   simp only [List.take_succ_cons, List.take_zero, List.drop_succ_cons, List.drop_zero]
                   obtain ⟨W5, hW5⟩ : ∃ W5, W5 = wr.drew.drew := ⟨_, rfl⟩
                   change wpStill _ _ wr.drew.drew (fun a' => wpList _ _ _ _ a' wr.drew.drew) _ _
                   rw [<- hW5]
                   have g16' : W5.cell? ⟨a.t, J16.toNat, none⟩ = some (.int .u32 y16) := by rw [hW5]; exact g16
                   have g7' : W5.cell? ⟨a.t, J7.toNat, none⟩ = some (.int .u32 y7) := by rw [hW5]; exact g7
                   have ck' : W5.cell? ⟨a.t, J.toNat, none⟩ = some (.int .u32 old) := by rw [hW5]; exact ck
                   have fk' : W5.frozen? ⟨a.t, J.toNat, none⟩ = false := by rw [hW5]; exact fk
                   have HW5 := hQ_ hW5
                   clear hW5 g16 g7 ck fk g15 g2
                   repeat still_step
                   still_call (vr (right7 W5 _))
                   repeat still_step
                   still_call (vr (right18 W5 _))
                   repeat still_step
                   still_call (vr (right17 W5 _))
                   repeat still_step
                   still_call (vr (right19 W5 _))
                   repeat still_step
                   refine wpStill_nil ?_
                   go_wp2_with fail
                   go_roundw
                   case rel =>
                    obtain ⟨hJ, hlt, hk16, hwd, hS⟩ := HJ.out
                    have hJk : J.toNat = k := by omega
                    rw [HW5.out, hJk]
                    refine ⟨k + 1, by omega, by omega, by rw [hJ]; rfl, ?_⟩
                    have := hS.drew.drew.setT HA.out k (wordS bk (schS bk k) k)
                    rw [mix_set _ _ _ _ (y6 bk k) (by have := HM.out.2.2.2.1; omega), hwd] at this
                    rw [schS, hwd]
                    exact this
                   case measure => obtain ⟨hJ, hlt, hk16, hwd, hS⟩ := HJ.out; simp [intOf]; omega
                 -- L5END
                 · obtain rfl : k = 64 := by omega
                   have d2 : decide (J < 64) = false := by simp; omega
                   rw [show tb.drop 64 = [] by rw [List.drop_eq_nil_iff]; have := HM.out.2.2.2.1; omega, List.append_nil] at hS
                   obtain ⟨tw, htw⟩ : ∃ tw, tw = schS bk 64 := ⟨_, rfl⟩
                   rw [<- htw] at hS
                   have htl : tw.length = 64 := by rw [htw, y6]
                   obtain ⟨cs, hcs⟩ : ∃ cs, cs = arrV .u32 ws := ⟨_, rfl⟩
                   have hH := hS.h
                   rw [<- hcs] at hH
                   have csz : cs.size = 8 := by rw [hcs, zf]; exact HM.out.2.2.2.2.2.2.2.1
                   have HCS := hQ_ (show cs = arrV .u32 ws /\ (Tryz.prog.info? 149).map (·.size) = some cs.size /\ Z8.size = cs.size /\ (cs.all fun v => v.oneCell') = true from
                    ⟨hcs, by rw [csz]; kernel_rfl, by rw [csz, HZ.out.2.2.1]; rw [HZ.out.1.2]; rfl, by rw [hcs]; simp [Value.oneCell']⟩)
                   have HH := hQ_ hH
                   have HTW := hQ_ (aQ htw htl)
                   have HS5 := hQ_ hS
                   clear hJ hlt hk hk16 hS htw htl hcs csz hH
                   go_wp2_with (first
                    | (refine wpList_load_row rfl 149 _ rfl a.h rfl 149 cs (0, 0) _ HH.out Tryz.underlying149 rfl HCS.out.2.1 ?_)
                    | (refine wpList_store_row rfl 149 _ _ rfl wr.heap.size cs rfl rfl 149 _ (heap_alloc_new wr _) HCS.out.2.1 HCS.out.2.2.1 HCS.out.2.2.2 ?_
                       obtain ⟨wv, hwv⟩ : ∃ wv, wv = (wr.alloc (.cells Z8 149)).setRow wr.heap.size cs := ⟨_, rfl⟩
                       rw [<- hwv]
                       have HWV := hQ_ hwv
                       clear hwv))
                   clear d2
                   obtain ⟨V, hV⟩ : ∃ V, V = wr.heap.size := ⟨_, rfl⟩
                   rw [<- hV]
                   have hVn : a.t ≠ V /\ a.h ≠ V /\ a.c ≠ V /\ a.g ≠ V /\ w0.heap.size <= V := by
                    have h1 := HS5.out.t.lt
                    have h2 := HS5.out.h.lt
                    have h3 := HS5.out.c.lt
                    have h4 := HS5.out.glt (by have := HL.out.2.1; have := HL.out.2.2.2.2; omega)
                    have h5 := HS5.out.grown.size
                    rw [hV]; omega
                   have hSv : RS w0 wv a L tw ws kS := by rw [HWV.out, <- hV]; exact (HS5.out.alloc _).row V hVn.2.2.2.2 hVn.1 hVn.2.1 hVn.2.2.1 hVn.2.2.2.1 cs
                   have hBv : Blk wv V 149 (arrV .u32 ws) := by rw [HWV.out, hV, <- HCS.out.1]; exact (Blk.new wr _ Z8).row cs
                   have HVN := hQ_ (aQ hVn (aQ hSv hBv))
                   clear hV hVn hSv hBv HWV HS5 HH HS4 HR2
                   go_loopw [15] (fun i wr => ∃ k : Nat, k <= 64 /\ i = .int .i64 (k : Int) /\ RS w0 wr a L tw ws kS /\ Blk wr V 149 (arrV .u32 (runS tw (V8.of ws) k).l)) (fun i _ => 64 - (intOf i).toNat)
                   case atStart => exact ⟨0, by omega, rfl, HVN.out.2.1, by rw [runS, of_l ws HM.out.2.2.2.2.2.2.2.1]; exact HVN.out.2.2⟩
                   case round =>
                    as_aux_lemma =>
                    obtain ⟨k, hk, hi, hS, hBv⟩ := hrel
                    obtain ⟨J, hJ⟩ : ∃ J : Int, J = (k : Int) := ⟨_, rfl⟩
                    rw [<- hJ] at hi
                    subst hi
                    by_cases hlt : k < 64
                    · -- L6
                      -- L6A
                      have d1 : decide (J < 64) = true := by simp; omega
                      have hx : 0 <= J /\ J < 64 := by omega
                      obtain ⟨v, hv⟩ : ∃ v, v = runS tw (V8.of ws) k := ⟨_, rfl⟩
                      rw [<- hv] at hBv
                      obtain ⟨c0, c1, c2, c3, c4, c5, c6, c7⟩ := v_cell hBv
                      have ct := hS.cellT HTW.out.2 J.toNat (by omega)
                      have cc' := hS.cellC uw J.toNat (by omega)
                      obtain ⟨xt, hxt⟩ : ∃ xt, xt = tw.getD J.toNat 0 := ⟨_, rfl⟩
                      obtain ⟨xc, hxc⟩ : ∃ xc, xc = kS.getD J.toNat 0 := ⟨_, rfl⟩
                      rw [<- hxt] at ct
                      rw [<- hxc] at cc'
                      have hrun : runS tw (V8.of ws) (k + 1) = roundS v xc xt := by rw [runS, <- hv, hxc, hxt, show J.toNat = k by omega]
                      have HJ := hQ_ (aQ hJ (aQ hlt (aQ hrun (aQ hS hBv))))
                      clear hJ hlt hk hv hxt hxc hrun hS hBv
                      go_wp2_with fail
                      refine wp_region_quiet_lit (by kernel_rfl) (by kernel_rfl) ?_
                      repeat (first | go_big_quiet_skip | (go_big_quiet_want; go_big_quiet_op; go_big_quiet_on))
                      (go_big_quiet_want; go_big_quiet_op; go_big_quiet_call (exact Calls.quiet_of_same (vr (right6 _ _))))
                      repeat (first | go_big_quiet_skip | (go_big_quiet_want; go_big_quiet_op; go_big_quiet_on))
                      (go_big_quiet_want; go_big_quiet_op; go_big_quiet_call (exact Calls.quiet_of_same (vr (right11 _ _))))
                      repeat (first | go_big_quiet_skip | (go_big_quiet_want; go_big_quiet_op; go_big_quiet_on))
                      (go_big_quiet_want; go_big_quiet_op; go_big_quiet_call (exact Calls.quiet_of_same (vr (right25 _ _))))
                      repeat (first | go_big_quiet_skip | (go_big_quiet_want; go_big_quiet_op; go_big_quiet_on))
                      refine wpQuiet_nil ?_
                      intro W5 hW5
                      replace c0 : W5.cell? ⟨V, 0, none⟩ = some (.int .u32 v.a) := by obtain ⟨nq, rfl⟩ := hW5; exact c0
                      replace c1 : W5.cell? ⟨V, 1, none⟩ = some (.int .u32 v.b) := by obtain ⟨nq, rfl⟩ := hW5; exact c1
                      replace c2 : W5.cell? ⟨V, 2, none⟩ = some (.int .u32 v.c) := by obtain ⟨nq, rfl⟩ := hW5; exact c2
                      replace c3 : W5.cell? ⟨V, 3, none⟩ = some (.int .u32 v.d) := by obtain ⟨nq, rfl⟩ := hW5; exact c3
                      replace c4 : W5.cell? ⟨V, 4, none⟩ = some (.int .u32 v.e) := by obtain ⟨nq, rfl⟩ := hW5; exact c4
                      replace c5 : W5.cell? ⟨V, 5, none⟩ = some (.int .u32 v.f) := by obtain ⟨nq, rfl⟩ := hW5; exact c5
                      replace c6 : W5.cell? ⟨V, 6, none⟩ = some (.int .u32 v.g) := by obtain ⟨nq, rfl⟩ := hW5; exact c6
                      replace c7 : W5.cell? ⟨V, 7, none⟩ = some (.int .u32 v.h) := by obtain ⟨nq, rfl⟩ := hW5; exact c7
                      have HB5 := hQ_ (show Blk W5 V 149 (arrV .u32 v.l) /\ RS w0 W5 a L tw ws kS by
                       obtain ⟨_, _, _, h4, h5⟩ := HJ.out
                       obtain ⟨nq, rfl⟩ := hW5
                       exact ⟨h5, h4.drewN _⟩)
                      clear hW5 c7 ct cc'
                      go_wp2_with fail
                      refine wp_region_quiet_lit (by kernel_rfl) (by kernel_rfl) ?_
                      repeat (first | go_big_quiet_skip | (go_big_quiet_want; go_big_quiet_op; go_big_quiet_on))
                      (go_big_quiet_want; go_big_quiet_op; go_big_quiet_call (exact Calls.quiet_of_same (vr (right2 _ _))))
                      repeat (first | go_big_quiet_skip | (go_big_quiet_want; go_big_quiet_op; go_big_quiet_on))
                      (go_big_quiet_want; go_big_quiet_op; go_big_quiet_call (exact Calls.quiet_of_same (vr (right13 _ _))))
                      repeat (first | go_big_quiet_skip | (go_big_quiet_want; go_big_quiet_op; go_big_quiet_on))
                      (go_big_quiet_want; go_big_quiet_op; go_big_quiet_call (exact Calls.quiet_of_same (vr (right22 _ _))))
                      repeat (first | go_big_quiet_skip | (go_big_quiet_want; go_big_quiet_op; go_big_quiet_on))
                      refine wpQuiet_nil ?_
                      intro W6 hW6
                      replace c0 : W6.cell? ⟨V, 0, none⟩ = some (.int .u32 v.a) := by obtain ⟨nq, rfl⟩ := hW6; exact c0
                      replace c1 : W6.cell? ⟨V, 1, none⟩ = some (.int .u32 v.b) := by obtain ⟨nq, rfl⟩ := hW6; exact c1
                      replace c2 : W6.cell? ⟨V, 2, none⟩ = some (.int .u32 v.c) := by obtain ⟨nq, rfl⟩ := hW6; exact c2
                      replace c3 : W6.cell? ⟨V, 3, none⟩ = some (.int .u32 v.d) := by obtain ⟨nq, rfl⟩ := hW6; exact c3
                      replace c4 : W6.cell? ⟨V, 4, none⟩ = some (.int .u32 v.e) := by obtain ⟨nq, rfl⟩ := hW6; exact c4
                      replace c5 : W6.cell? ⟨V, 5, none⟩ = some (.int .u32 v.f) := by obtain ⟨nq, rfl⟩ := hW6; exact c5
                      replace c6 : W6.cell? ⟨V, 6, none⟩ = some (.int .u32 v.g) := by obtain ⟨nq, rfl⟩ := hW6; exact c6
                      have HB6 := hQ_ (show Blk W6 V 149 (arrV .u32 v.l) /\ RS w0 W6 a L tw ws kS by
                       obtain ⟨h5, h4⟩ := HB5.out
                       obtain ⟨nq, rfl⟩ := hW6
                       exact ⟨h5, h4.drewN _⟩)
                      clear hW6
                      obtain ⟨O, hO⟩ : ∃ O, O = oneS v xc xt := ⟨_, rfl⟩
                      obtain ⟨T, hT⟩ : ∃ T, T = twoS v := ⟨_, rfl⟩
                      have e1 := (one_eq v xc xt).trans hO.symm
                      have e2 := (two_eq v).trans hT.symm
                      rw [e1, e2]
                      obtain ⟨NR, hNR⟩ : ∃ NR, NR = (roundS v xc xt).l := ⟨_, rfl⟩
                      have HRl := hQ_ (show [(O + T) % 4294967296, v.a, v.b, v.c, (v.d + O) % 4294967296, v.e, v.f, v.g] = NR /\ NR.length = 8 by rw [hNR]; exact ⟨(round_l v xc xt O T hO hT).symm, rfl⟩)
                      have HR := hQ_ hNR
                      clear e1 e2 hO hT hNR
                      go_wp2_with (first
                       | (refine wpList_build_ps rfl 149 _ rfl #[(0, .int .u32 ((O + T) % 4294967296)), (1, .int .u32 v.a), (2, .int .u32 v.b), (3, .int .u32 v.c), (4, .int .u32 ((v.d + O) % 4294967296)), (5, .int .u32 v.e), (6, .int .u32 v.f), (7, .int .u32 v.g)] (by kernel_rfl) _ (build8 _ _ _ _ _ _ _ _ _) ?_
                          rw [HRl.out.1])
                       | (refine wpList_store_row rfl 149 _ _ rfl V (arrV .u32 NR) rfl rfl 149 _ HB6.out.1 (size8 _ HRl.out.2) (by rw [zf, zf, HRl.out.2]; rfl) (by simp [Value.oneCell']) ?_))
                      go_roundw
                      case rel =>
                       obtain ⟨hJ, hlt, hrun, _, _⟩ := HJ.out
                       obtain ⟨h6, h7⟩ := HB6.out
                       refine ⟨k + 1, by omega, by rw [hJ]; rfl, ?_, ?_⟩
                       · exact h7.row V HVN.out.1.2.2.2.2 HVN.out.1.1 HVN.out.1.2.1 HVN.out.1.2.2.1 HVN.out.1.2.2.2.1 _
                       · rw [hrun, <- HR.out]; exact h6.row _
                      case measure => obtain ⟨hJ, hlt, hrun, _, _⟩ := HJ.out; simp [intOf]; omega
                    -- L6END
                    · obtain rfl : k = 64 := by omega
                      have d1 : decide (J < 64) = false := by simp; omega
                      obtain ⟨vl, hvl⟩ : ∃ vl, vl = (runS tw (V8.of ws) 64).l := ⟨_, rfl⟩
                      rw [<- hvl] at hBv
                      have hv8 : vl.length = 8 := by rw [hvl]; rfl
                      have HE6 := hQ_ (aQ hvl (aQ hv8 (aQ hS hBv)))
                      clear hJ hlt hk hvl hv8 hS hBv
                      go_wp2_with fail
                      go_loopw [237] (fun i wr => ∃ k : Nat, k <= 8 /\ i = .int .i64 (k : Int) /\ RS w0 wr a L tw (addS ws vl k) kS /\ Blk wr V 149 (arrV .u32 vl)) (fun i _ => 8 - (intOf i).toNat)
                      case atStart => exact ⟨0, by omega, rfl, HE6.out.2.2.1, HE6.out.2.2.2⟩
                      case round =>
                       as_aux_lemma =>
                       obtain ⟨k, hk, hi, hS, hBv⟩ := hrel
                       obtain ⟨K, hK⟩ : ∃ K : Int, K = (k : Int) := ⟨_, rfl⟩
                       rw [<- hK] at hi
                       subst hi
                       by_cases hlt : k < 8
                       · -- L7
                         -- L7A
                         have d2 : decide (K < 8) = true := by simp; omega
                         have hx : 0 <= K /\ K < 8 := by omega
                         have hl8 : (addS ws vl k).length = 8 := by rw [zbk]; exact HM.out.2.2.2.2.2.2.2.1
                         have ch := hS.cellH hl8 K.toNat (by omega)
                         have cv : wr.cell? ⟨V, K.toNat, none⟩ = some (.int .u32 (vl.getD K.toNat 0)) := by rw [hBv.cell]; exact yr (by have := HE6.out.2.1; omega)
                         have fh := hS.h.frozen K.toNat
                         obtain ⟨xh, hxh⟩ : ∃ xh, xh = (addS ws vl k).getD K.toNat 0 := ⟨_, rfl⟩
                         obtain ⟨xv, hxv⟩ : ∃ xv, xv = vl.getD K.toNat 0 := ⟨_, rfl⟩
                         rw [<- hxh] at ch
                         rw [<- hxv] at cv
                         have hnx : addS ws vl (k + 1) = (addS ws vl k).set K.toNat ((xh + xv) % 4294967296) := by rw [addS, hxh, hxv, show K.toNat = k by omega]
                         have HK := hQ_ (aQ hK (aQ hlt (aQ hnx (aQ hS hBv))))
                         clear hK hlt hnx hS hBv hxh hxv hl8 hk
                         go_wp2_with fail
                         go_region
                         go_wp2_with fail
                         go_roundw
                         case rel =>
                          obtain ⟨hK, hlt, hnx, hS, hBv⟩ := HK.out
                          refine ⟨k + 1, by omega, by rw [hK]; rfl, ?_, ?_⟩
                          · rw [hnx]; exact (hS.setH HA.out K.toNat _).drew
                          · exact (hBv.far (p := ⟨a.h, K.toNat, none⟩) (fun e => HVN.out.1.2.1 e.symm) _).drew
                         case measure => obtain ⟨hK, hlt, _⟩ := HK.out; simp [intOf]; omega
                       -- L7END
                       · obtain rfl : k = 8 := by omega
                         have d2 : decide (K < 8) = false := by simp; omega
                         have hmix : za1 startS.ws L (kk + 1) = addS ws vl 8 := by
                          obtain ⟨ho, _, _, _, _, hbk, hws, _, _⟩ := HM.out
                          rw [za1, <- hws, show (L.drop (64 * kk)).take 64 = bk by rw [hbk, blkOf, ho], mixS, <- HTW.out.1, <- HE6.out.1]
                         have HK := hQ_ (aQ hmix hS)
                         clear hK hlt hk hS hBv hmix
                         go_wp2_with fail
                         go_roundw
                         case rel =>
                          obtain ⟨hmix, hS⟩ := HK.out
                          obtain ⟨ho, hom, hmc, htb, hm64, _⟩ := HM.out
                          by_cases hc : cc = 64
                          · subst hc
                            refine ⟨kk + 1, o, m - 64, 0, by simp, by omega, by omega, by omega, tw, HTW.out.2, ?_⟩
                            rw [hmix]; exact hS
                          · refine ⟨kk + 1, o + 64, m - 64, cc - 64, by simp [hc], by omega, by omega, by omega, tw, HTW.out.2, ?_⟩
                            rw [hmix]; exact hS
                         case measure => have := HM.out.2.2.2.2.1; simp [lenV]; omega
           -- L3END
           · have hm : m = 0 := by omega
             subst hm
             have d1 : decide ((0 : Int) < ((0 : Nat) : Int)) = false := by decide
             obtain ⟨ws, hws⟩ : ∃ ws, ws = za1 startS.ws L kk := ⟨_, rfl⟩
             rw [<- hws] at hS
             have hw8 : ws.length = 8 := by rw [hws, za0]
             have hend : hashS x = outS ws 32 := by
              have e := HL.out.1
              have e2 := HL.out.2.1
              rw [out_sum ws hw8, hash_blocks, HX.out.1, <- e, hws]
              have e3 : (s.size + (padL s.size).length) / 64 = kk := by rw [e, List.length_append, HX.out.1] at e2; omega
              rw [e3]
             have HE3 := hQ_ (aQ hend (aQ hw8 hS))
             have hZ := hQ_ (show (Tryz.prog.info? 113).map (·.size) = some Z32.size /\ Z32.size = 32 /\ (Z32.all fun v => v.oneCell') = true by rw [HW.out.2]; exact ⟨info32, rfl, zu _ _⟩)
             clear ho hom hmc htb hm0 hws hw8 hend hS
             go_wp2_with (first
              | (refine yi rfl 113 #[] rfl (.agg Z32) (by rw [HW.out.2]; kernel_rfl) ?_)
              | (refine wpList_store_row rfl 113 _ _ rfl wr.heap.size Z32 rfl rfl 113 _ (heap_alloc_new wr _) hZ.out.1 rfl hZ.out.2.2 ?_
                 obtain ⟨wv, hwv⟩ : ∃ wv, wv = (wr.alloc (.cells Z32 113)).setRow wr.heap.size Z32 := ⟨_, rfl⟩
                 rw [<- hwv]
                 have HWV := hQ_ hwv
                 clear hwv))
             obtain ⟨O, hO⟩ : ∃ O, O = wr.heap.size := ⟨_, rfl⟩
             rw [<- hO]
             have hS := HE3.out.2.2
             have hOn : a.h ≠ O /\ w0.heap.size <= O := by
              have h2 := hS.h.lt
              have h5 := hS.grown.size
              rw [hO]; omega
             have hHv : Blk wv a.h 149 (arrV .u32 ws) := by rw [HWV.out, <- hO]; exact (hS.h.alloc _).farRow hOn.1 _
             have hOv : Blk wv O 113 (arrV .u8 (outS ws 0)) := by rw [HWV.out, hO, outS, <- HW.out.2]; exact (Blk.new wr _ Z32).row Z32
             have hGv : w0.grownBy wv none := by rw [HWV.out, <- hO]; exact zc (za hS.grown (World.grownBy_alloc wr _ none)) (.inl hOn.2) _
             have HON := hQ_ (aQ hOn (aQ hHv (aQ hOv hGv)))
             clear hO hOn hHv hOv hGv hS HWV
             go_loopw [252] (fun i wr => ∃ k : Nat, k <= 32 /\ i = .int .i64 (k : Int) /\ Blk wr a.h 149 (arrV .u32 ws) /\ Blk wr O 113 (arrV .u8 (outS ws k)) /\ w0.grownBy wr none) (fun i _ => 32 - (intOf i).toNat)
             case atStart => exact ⟨0, by omega, rfl, HON.out.2⟩
             case round =>
              as_aux_lemma =>
              obtain ⟨k, hk, hi, hH, hOu, hG⟩ := hrel
              obtain ⟨K, hK⟩ : ∃ K : Int, K = (k : Int) := ⟨_, rfl⟩
              rw [<- hK] at hi
              subst hi
              by_cases hlt : k < 32
              · have d2 : decide (K < 32) = true := by simp; omega
                obtain ⟨QI, hQI⟩ : ∃ Q : Int, Q = ((k / 4 : Nat) : Int) := ⟨_, rfl⟩
                obtain ⟨RI, hRI⟩ : ∃ R : Int, R = ((k % 4 : Nat) : Int) := ⟨_, rfl⟩
                have q4 : K.tdiv 4 = QI := by rw [Int.tdiv_eq_ediv_of_nonneg (by omega)]; omega
                have r4 : K.tmod 4 = RI := by rw [Int.tmod_eq_emod_of_nonneg (by omega)]; omega
                have s0 : wrap64 QI = QI := w64 _ ⟨by omega, by omega⟩
                have s1 : wrap64 (8 * RI) = 8 * RI := w64 _ ⟨by omega, by omega⟩
                obtain ⟨SH, hSH⟩ : ∃ S : Int, S = 24 - 8 * RI := ⟨_, rfl⟩
                have s2 : wrap64 (24 - 8 * RI) = SH := by rw [w64 _ ⟨by omega, by omega⟩, hSH]
                have s3 : IntKind.u64.wrap SH = SH := by rw [IntKind.wrap_u64]; omega
                have s4 : 0 <= SH /\ SH <= 32 := by omega
                have hx : 0 <= K /\ K < 32 := by omega
                have hq : 0 <= QI /\ QI < 8 := by omega
                have ch : wr.cell? ⟨a.h, QI.toNat, none⟩ = some (.int .u32 (ws.getD QI.toNat 0)) := by rw [hH.cell]; exact yr (by have := HE3.out.2.1; omega)
                have co : wr.cell? ⟨O, K.toNat, none⟩ = some (.int .u8 ((outS ws k).getD K.toNat 0)) := by rw [hOu.cell]; exact yr (by rw [zb4]; omega)
                have fo := hOu.frozen K.toNat
                obtain ⟨xh, hxh⟩ : ∃ xh, xh = ws.getD QI.toNat 0 := ⟨_, rfl⟩
                obtain ⟨xo, hxo⟩ : ∃ xo, xo = (outS ws k).getD K.toNat 0 := ⟨_, rfl⟩
                rw [<- hxh] at ch
                rw [<- hxo] at co
                have hnx : outS ws (k + 1) = (outS ws k).set K.toNat (xh / 2 ^ SH.toNat % 256) := by
                 rw [outS, byteS, hxh, show K.toNat = k by omega, show QI.toNat = k / 4 by omega, show SH.toNat = 24 - 8 * (k % 4) by omega]
                have HK := hQ_ (aQ hK (aQ hlt (aQ hnx (aQ hH (aQ hOu hG)))))
                clear hK hlt hnx hH hOu hG hxh hxo hk hQI hRI hSH
                go_wp2_with fail
                go_roundw
                case rel =>
                 obtain ⟨hK, hlt, hnx, hH, hOu, hG⟩ := HK.out
                 refine ⟨k + 1, by omega, by rw [hK]; rfl, hH.far (p := ⟨O, K.toNat, none⟩) HON.out.1.1 _, ?_, ye hG (p := ⟨O, K.toNat, none⟩) (.inl HON.out.1.2) _⟩
                 rw [hnx]
                 have := hOu.set K.toNat (.int .u8 (xh / 2 ^ SH.toNat % 256))
                 rwa [zcb] at this
                case measure => obtain ⟨hK, hlt, _⟩ := HK.out; simp [intOf]; omega
              · obtain rfl : k = 32 := by omega
                have d2 : decide (K < 32) = false := by simp; omega
                obtain ⟨ds, hds⟩ : ∃ ds, ds = arrV .u8 (outS ws 32) := ⟨_, rfl⟩
                rw [<- hds] at hOu
                have hsz : ds.size = 32 := by rw [hds, zf, zb4]
                have HI3 := hQ_ (show (Tryz.prog.info? 113).map (·.size) = some ds.size by rw [hsz]; exact info32)
                have HS3 := hQ_ (aQ hsz (show (ds.all fun x => x.oneCell') = true by rw [hds]; exact zu _ _))
                have HD := hQ_ (show ds = arrV .u8 (hashS x) by rw [hds, HE3.out.1])
                have HB := hQ_ hOu
                have HB0 := hQ_ (show Blk wr w.heap.size 113 Z32 from Blk.grown (by rw [HW.out.1]; exact Blk.new w _ Z32) hG (by simp))
                have HG := hQ_ (show w.grownBy wr none from za (by rw [HW.out.1]; exact World.grownBy_alloc w _ none) hG)
                clear hsz hds hOu hH hG hK hlt hk
                go_wp2_with (first
                 | (refine wpList_load_row rfl 113 _ rfl O rfl 113 ds (0, 0) _ HB.out Tryz.underlying113 rfl HI3.out ?_)
                 | (refine wpList_store_row rfl 113 _ _ rfl w.heap.size ds rfl rfl 113 _ HB0.out HI3.out (by rw [HS3.out.1]; exact hZ.out.2.1) HS3.out.2 ?_))
                refine bodyPost_ret (z5 rfl _ _ _ ⟨w.heap.size, 0, none⟩ (.agg ds) rfl (run_loadVar_row _ w.heap.size 113 113 ds (0, 0) _ (HB0.out.row ds) Tryz.underlying113 rfl HI3.out)) rfl ?_
                exact ⟨by rw [HD.out], zc HG.out (.inl (Nat.le_refl _)) ds⟩
  · have dR : (R != 56) = true := by
      have : R ≠ 56 := fun e => hlt (hR5.1 e)
      simpa using this
    have HQ := hQ_ (aQ hq (aQ hq6 (show k < zerosN s.size by omega)))
    clear hown hK hR5 hR hq hnc hk hbg hzb hq6 hlt
    go_wp2_with (at_builtin
                 refine zal rfl _ _ 81 rfl (w.heap.size + 1) 5 _ i0 Tryz.underlying81 HI0.out.1 HI0.out.2.1 HI0.out.2.2.1 HI0.out.2.2.2 _ _ _ rfl HO.out.1 0 rfl (by have := HQ.out.2.1; omega) HG.out.2 ?_
                 intro v' w4 hown4 hgrow
                 have HO4 := hQ_ (aQ hown4 (zcz HG.out.1 hgrow HO.out.1 (by rw [HW.out.1]; simp)))
                 clear hown4 hgrow)
    go_roundw
    case rel =>
     obtain ⟨hq, hq6, hlt⟩ := HQ.out
     refine ⟨k + 1, by omega, ?_, HO4.out.2⟩
     have := HO4.out.1
     rw [show s.size + 1 + (k + 1) = q + 1 by omega, rep_snoc, <- List.cons_append, <- List.append_assoc, List.map_append]
     exact this
    case measure =>
     obtain ⟨hq, hq6, hlt⟩ := HQ.out
     obtain ⟨g', cap', e, _⟩ := HO4.out.1.cells
     rw [e]
     simp [lenV]; omega
end Go.Proofs.YtigafnbofmiknaaGreatDoor
