/-
  Several texts in one: RfU, RfS, ShOf, Law.
-/
import Derived.Great.BuildSlice
import Derived.Test.YtmoebkdbnldbdaaGreatDoorM20pf
import Derived.Test.YtmoebkdbnldbdaaGreatDoorM20pe
import Derived.Deep.MidRow
import Derived.Test.YtmoebkdbnldbdaaGreatDoorM20pa
import Derived.ProofKit
/-
  Strings as numbers; what quorateref02.Sum wants to know of its padding.
-/
namespace Go.Proofs.YtmoebkdbnldbdaaGreatDoor
open Go.RowKit

theorem u8i : (Tryz.prog.info? 5).map (fun i => (i.zero, i.size, i.bytes)) = some (some (.int .u8 0), 1, 1) := by kernel_rfl
theorem zrun {P : Program} {t : TypeId} {v : Value} (w : World) (h : (P.info? t).bind (·.zero) = some v) : Sem.run P (zeroValue t) w = .ok v w := by
  cases hq : P.info? t with
  | none => simp [hq] at h
  | some i =>
    have h1 : i.zero = some v := by simpa [hq] using h
    simp [zeroValue, typeInfo, hq, h1]
def xsOf (s : ByteArray) : List Int := s.data.toList.map fun b => ((b.toNat : Nat) : Int)
theorem xsOf_length (s : ByteArray) : (xsOf s).length = s.size := by simp [xsOf]
theorem xsOf_range (s : ByteArray) : ∀ z ∈ xsOf s, 0 ≤ z ∧ z < 256 := fun z hz => by
  simp only [xsOf, List.mem_map] at hz
  obtain ⟨b, _, rfl⟩ := hz
  have := b.toNat_lt
  omega
def lenV : Value → Nat
  | .slice _ n _ => n
  | _ => 0
theorem grown_ownU {a b c : World} {v : Value} {base : Nat} {e : TypeId} {n : Nat} {xs : List Value} (h : a.grownBy b none) (k : b.grownBy c v.ownBlock) (hv : ownsU b base e v n xs) (hB : a.heap.size ≤ base) : a.grownBy c none := by
  cases hg : v.ownBlock with
  | none => rw [hg] at k; exact grown_trans h k
  | some g => rw [hg] at k; exact grown_fresh h k (Nat.le_trans hB (hv.lt g hg).1)
def zerosN (n : Nat) : Nat := if 56 < (n + 1) % 64 then 120 - (n + 1) % 64 else 56 - (n + 1) % 64
theorem zerosN_at (n k : Nat) (h : k ≤ zerosN n) : ((n + 1 + k) % 64 = 56) ↔ k = zerosN n := by
  unfold zerosN at *
  split at h <;> rename_i h1 <;> simp only [h1, if_true, if_false] <;> omega
theorem rep_snoc (k : Nat) : List.replicate (k + 1) (0 : Int) = List.replicate k 0 ++ [0] := by
  rw [List.replicate_succ']

theorem endB_length (N : Nat) : (endB N).length = 8 := rfl
theorem endB_byte (N : Nat) (k : Nat) (SH : Int) (hk : k < 8) (h : SH = 56 - 8 * (k : Int)) : (N : Int) / 2 ^ SH.toNat % 256 = (endB N).getD k 0 := by
  have hc : k = 0 ∨ k = 1 ∨ k = 2 ∨ k = 3 ∨ k = 4 ∨ k = 5 ∨ k = 6 ∨ k = 7 := by omega
  subst h
  rcases hc with rfl | rfl | rfl | rfl | rfl | rfl | rfl | rfl <;> simp [endB, wordB] <;> omega
theorem take_get (l : List Int) (k : Nat) (h : k < l.length) : l.take (k + 1) = l.take k ++ [l.getD k 0] := by
  rw [List.take_add_one, List.getD, List.getElem?_eq_getElem h]; rfl

end Go.Proofs.YtmoebkdbnldbdaaGreatDoor
/-
  quorateref02.Sum: SHA-256 by whole blocks.
-/

namespace Go.Proofs.YtmoebkdbnldbdaaGreatDoor
open Go.RowKit

set_option maxRecDepth 100000 in
set_option maxHeartbeats 40000000 in
theorem rsum_isK20 (w : World) (s : ByteArray) (hs : s.size ≤ 50000) :
    Calls Tryz.prog 28 #[.string s] w fun e w' => e = .returned (.agg (arrV .u8 (hashS (xsOf s)))) ∧ w.grownBy w' none := by
  obtain ⟨i0, hi0, hz0, hz1, hz2⟩ := info_parts u8i
  have HI0 := Lib.hid (And.intro hi0 (And.intro hz0 (And.intro hz1 hz2)))
  clear hi0 hz0 hz1 hz2
  go_enter Tryz.func28, Tryz.ntmps28
  obtain ⟨Z32, hZ32⟩ : ∃ Z, Z = arrV .u8 (List.replicate 32 0) := ⟨_, rfl⟩
  have hz32 : ∀ w, Sem.run Tryz.prog (zeroValue 80) w = .ok (.agg Z32) w := fun w => by rw [hZ32]; exact zrun w (by kernel_rfl)
  obtain ⟨w0, hw0⟩ : ∃ w0, w0 = w.alloc (.cells Z32 80) := ⟨_, rfl⟩
  have hcv := Lib.run_convert_string_bytes w0 9 61 5 s Tryz.underlying9 Tryz.underlying61 Tryz.underlying5
  have hou := ownsU_conv w0 5 s (by simp only [maxLen]; omega)
  have hgu := conv_grown w0 5 s
  obtain ⟨w1, hw1⟩ : ∃ w1, w1 = Lib.bytesWorld w0 5 s := ⟨_, rfl⟩
  obtain ⟨C0, hC0⟩ : ∃ C, C = grownCap w0 s.size 0 5 := ⟨_, rfl⟩
  rw [← hw1, ← hC0] at hcv
  rw [← hw1, ← hC0] at hou
  rw [← hw1] at hgu
  have hxs : (s.data.toList.map fun b => Value.int .u8 b.toNat) = (xsOf s).map (Value.int .u8) := by simp [xsOf]
  rw [hxs] at hou
  obtain ⟨x, hx⟩ : ∃ x, x = xsOf s := ⟨_, rfl⟩
  rw [← hx] at hou ⊢
  have hxl : x.length = s.size := by rw [hx, xsOf_length]
  have e0 : w0.heap.size = w.heap.size + 1 := by rw [hw0]; simp
  rw [e0] at hou hcv
  have hxr : ∀ z ∈ x, 0 ≤ z ∧ z < 256 := by rw [hx]; exact xsOf_range s
  obtain ⟨BT, hBT⟩ : ∃ B : Int, B = ((s.size * 8 : Nat) : Int) := ⟨_, rfl⟩
  have hb1 : IntKind.u64.wrap (s.size : Int) = (s.size : Int) := by rw [IntKind.wrap_u64]; omega
  have hb2 : IntKind.u64.wrap ((s.size : Int) * 8) = BT := by rw [IntKind.wrap_u64, hBT]; omega
  have HX := Lib.hid (And.intro hxl (And.intro hxr (And.intro hBT hs)))
  have HW := Lib.hid (And.intro hw0 hZ32)
  have HOU := Lib.hid (And.intro hou (And.intro hgu (show w.heap.size + 1 ≤ w1.heap.size by have := hgu.size; omega)))
  rw [hw0] at hcv
  clear hZ32 hw0 hw1 hC0 hou hgu hxs hx hxl hxr hBT hs e0
  go_wp2_with (at_builtin
               refine wpList_append_U rfl _ _ 61 rfl (w.heap.size + 1) 5 _ i0 Tryz.underlying61 HI0.out.1 HI0.out.2.1 HI0.out.2.2.1 HI0.out.2.2.2 _ _ _ rfl HOU.out.1 128 rfl (by have := HX.out.2.2.2; omega) HOU.out.2.2 ?_
               intro v' w2 hown2 hgrow
               have HO2 := Lib.hid (And.intro hown2 (grown_ownU HOU.out.2.1 hgrow HOU.out.1 (by rw [HW.out.1]; simp)))
               clear hown2 hgrow)
  clear hcv
  go_loopw [4] (fun v wr => ∃ k : Nat, k ≤ zerosN s.size ∧ ownsU wr (w.heap.size + 1) 5 v (s.size + 1 + k) ((x ++ 128 :: List.replicate k 0).map (Value.int .u8)) ∧ w0.grownBy wr none) (fun v _ => s.size + 1 + zerosN s.size - lenV v)
  case atStart => exact ⟨0, by omega, by simpa using HO2.out.1, HO2.out.2⟩
  case round =>
    obtain ⟨k, hk, hown, hK⟩ := hrel
    obtain ⟨g, cap, rfl, hbg, hnc, _⟩ := hown.cells
    obtain ⟨q, hq⟩ : ∃ q, q = s.size + 1 + k := ⟨_, rfl⟩
    rw [← hq] at hown hnc ⊢
    obtain ⟨R, hR⟩ : ∃ R : Int, R = ((q % 64 : Nat) : Int) := ⟨_, rfl⟩
    have hzb : zerosN s.size ≤ 64 := by unfold zerosN; split <;> omega
    have hq6 : q ≤ 60000 := by have := HX.out.2.2.2; omega
    have hrem : (q : Int).tmod 64 = R := by rw [Int.tmod_eq_emod_of_nonneg (by omega), hR]; omega
    have hR5 : R = 56 ↔ k = zerosN s.size := by rw [← zerosN_at s.size k hk, ← hq, hR]; omega
    have HG := Lib.hid (And.intro hK (show w.heap.size + 1 ≤ wr.heap.size by have := hK.size; rw [HW.out.1] at this; simp at this; omega))
    have HO := Lib.hid (And.intro hown hnc)
    by_cases hlt : k = zerosN s.size
    · have dR : (R != 56) = false := by rw [hR5.2 hlt]; rfl
      subst hlt
      have HQ := Lib.hid (And.intro hq hq6)
      clear hown hK hR5 hR hq hnc hk hbg hzb hq6
      go_wp2_with fail
      clear hrem dR
      obtain ⟨y, hy⟩ : ∃ y, y = x ++ 128 :: List.replicate (zerosN s.size) 0 := ⟨_, rfl⟩
      rw [← hy] at HO
      have HY := Lib.hid hy
      clear hy
      go_loopw [4, 5] (fun v i wr => ∃ k : Nat, k ≤ 8 ∧ i = .int .i64 (k : Int) ∧ ownsU wr (w.heap.size + 1) 5 v (q + k) ((y ++ (endB (s.size * 8)).take k).map (Value.int .u8)) ∧ w0.grownBy wr none) (fun _ i _ => 8 - (intOf i).toNat)
      case atStart => exact ⟨0, by omega, rfl, by simpa using HO.out.1, HG.out.1⟩
      case round =>
        obtain ⟨k, hk, hi, hown, hK⟩ := hrel
        obtain ⟨I, hI⟩ : ∃ I : Int, I = (k : Int) := ⟨_, rfl⟩
        rw [← hI] at hi
        subst hi
        have HG1 := Lib.hid (And.intro hK (show w.heap.size + 1 ≤ wr.heap.size by have := hK.size; rw [HW.out.1] at this; simp at this; omega))
        have HO1 := Lib.hid hown
        by_cases hlt : k < 8
        · have d1 : decide (I < 8) = true := by simp; omega
          obtain ⟨SH, hSH⟩ : ∃ S : Int, S = 56 - 8 * I := ⟨_, rfl⟩
          have s1 : wrap64 (8 * I) = 8 * I := w64 _ ⟨by omega, by omega⟩
          have s2 : wrap64 (56 - 8 * I) = SH := by rw [w64 _ ⟨by omega, by omega⟩, hSH]
          have s3 : IntKind.u64.wrap SH = SH := by rw [IntKind.wrap_u64]; omega
          have s4 : 0 ≤ SH ∧ SH ≤ 64 := by omega
          have s5 : wrap64 (I + 1) = I + 1 := w64 _ ⟨by omega, by omega⟩
          have HI := Lib.hid (And.intro hI (And.intro hlt hSH))
          clear hown hK hI hlt hk hSH
          have hby := endB_byte (s.size * 8) k SH HI.out.2.1 (by rw [HI.out.2.2, HI.out.1])
          rw [← HX.out.2.2.1] at hby
          have HBY := Lib.hid (And.intro hby (take_get (endB (s.size * 8)) k (by rw [endB_length]; exact HI.out.2.1)))
          clear hby
          go_wp2_with (at_builtin
                       refine wpList_append_U rfl _ _ 61 rfl (w.heap.size + 1) 5 _ i0 Tryz.underlying61 HI0.out.1 HI0.out.2.1 HI0.out.2.2.1 HI0.out.2.2.2 _ _ _ rfl HO1.out (BT / 2 ^ SH.toNat % 256) rfl (by have := HQ.out.2; have := HI.out.2.1; omega) HG1.out.2 ?_
                       intro v' w4 hown4 hgrow
                       have HO4 := Lib.hid (And.intro hown4 (grown_ownU HG1.out.1 hgrow HO1.out (by rw [HW.out.1]; simp)))
                       clear hown4 hgrow)
          go_roundw
          case rel =>
            obtain ⟨hI, hlt, hSH⟩ := HI.out
            refine ⟨k + 1, by omega, by rw [s5, hI]; rfl, ?_, HO4.out.2⟩
            rw [HBY.out.2, ← List.append_assoc, List.map_append]
            have := HO4.out.1
            rw [HBY.out.1] at this
            exact this
          case measure => obtain ⟨hI, hlt, hSH⟩ := HI.out; rw [s5]; simp [intOf]; omega
        · obtain rfl : k = 8 := by omega
          have d1 : decide (I < 8) = false := by simp; omega
          rw [List.take_of_length_le (by rw [endB_length]; omega)] at hown
          obtain ⟨gb, cb, rfl, hgb, hcb, hcell⟩ := hown.cells
          obtain ⟨L, hL⟩ : ∃ L, L = x ++ padL s.size := ⟨_, rfl⟩
          have hLy : y ++ endB (s.size * 8) = L := by rw [hL, HY.out, padL]; simp [zerosN]
          rw [hLy] at hcell hown
          have hlen : q + 8 = L.length := by have := hown.1; rw [List.length_map] at this; exact this.symm
          have hmod : L.length % 64 = 0 := by rw [hL, List.length_append, HX.out.1]; exact padL_length _
          obtain ⟨ℓ, hℓ⟩ : ∃ ℓ, ℓ = L.length := ⟨_, rfl⟩
          rw [hlen, ← hℓ]
          rw [hlen, ← hℓ] at hcb
          have hLr : ∀ z ∈ L, 0 ≤ z ∧ z < 256 := by
            intro z hz
            rw [← hLy, HY.out] at hz
            simp only [List.mem_append, List.mem_cons, List.mem_replicate] at hz
            rcases hz with (h | h | h) | h
            · exact HX.out.2.1 z h
            · omega
            · omega
            · obtain ⟨j, hj, rfl⟩ := List.getElem_of_mem h
              have e := endB_byte (s.size * 8) j (56 - 8 * (j : Int)) (by rw [endB_length] at hj; exact hj) rfl
              rw [List.getD, List.getElem?_eq_getElem hj, Option.getD_some] at e
              rw [← e]; omega
          have hB : ∀ j, j < L.length → wr.cell? ⟨gb, j, none⟩ = some (.int .u8 (L.getD j 0)) := fun j hj => hcell j _ (by simp [List.getD, List.getElem?_eq_getElem hj])
          have hglt : gb < wr.heap.size := (hown.lt gb rfl).2
          have HL := Lib.hid (And.intro hL (And.intro hℓ (And.intro hmod (And.intro hLr (show ℓ ≤ 60008 ∧ 0 < ℓ by have := HQ.out.2; omega)))))
          have HB := Lib.hid (And.intro hB (And.intro hglt (And.intro hgb hcb)))
          clear hown hK hI hlt hk hcell hL hLy hlen hmod hℓ hLr hB hglt hgb hcb
          obtain ⟨Z64, hZ64⟩ : ∃ Z, Z = arrV .u32 (List.replicate 64 0) := ⟨_, rfl⟩
          obtain ⟨Z8, hZ8⟩ : ∃ Z, Z = arrV .u32 (List.replicate 8 0) := ⟨_, rfl⟩
          obtain ⟨H0, hH0⟩ : ∃ Z, Z = arrV .u32 startS.ws := ⟨_, rfl⟩
          have hz64 : ∀ w, Sem.run Tryz.prog (zeroValue 107) w = .ok (.agg Z64) w := fun w => by rw [hZ64]; exact zrun w (by kernel_rfl)
          have hz8 : ∀ w, Sem.run Tryz.prog (zeroValue 108) w = .ok (.agg Z8) w := fun w => by rw [hZ8]; exact zrun w (by kernel_rfl)
          have HZ := Lib.hid (show (Z64 = arrV .u32 (List.replicate 64 0) ∧ H0 = arrV .u32 startS.ws) ∧ Z64.size = 64 ∧ Z8.size = H0.size ∧ (Z64.all fun v => v.oneCell') = true ∧ (H0.all fun v => v.oneCell') = true ∧ (Tryz.prog.info? 107).map (·.size) = some Z64.size ∧ (Tryz.prog.info? 108).map (·.size) = some H0.size from by
            have e1 : Z64.size = 64 := by rw [hZ64]; rfl
            have e2 : H0.size = 8 := by rw [hH0]; rfl
            have e3 : Z8.size = 8 := by rw [hZ8]; rfl
            exact ⟨⟨hZ64, hH0⟩, e1, by rw [e2, e3], by rw [hZ64]; simp [Value.oneCell'], by rw [hH0]; simp [Value.oneCell'], by rw [e1]; kernel_rfl, by rw [e2]; kernel_rfl⟩)
          clear hZ64 hZ8 hH0
          go_wp2_with (first
            | (refine wpList_build_run rfl 107 #[] rfl (.agg Z64) (by rw [HZ.out.1.1]; kernel_rfl) ?_)
            | (refine wpList_build_run rfl 108 _ rfl (.agg H0) (by rw [HZ.out.1.2]; kernel_rfl) ?_)
            | (refine wpList_store_row rfl 107 _ _ rfl wr.heap.size Z64 rfl rfl 107 _ (heap_alloc_new wr _) HZ.out.2.2.2.2.2.1 rfl HZ.out.2.2.2.1 ?_
               obtain ⟨wa, hwa⟩ : ∃ wa, wa = (wr.alloc (.cells Z64 107)).setRow wr.heap.size Z64 := ⟨_, rfl⟩
               rw [← hwa]
               have HWA := Lib.hid hwa
               clear hwa)
            | (refine wpList_store_row rfl 108 _ _ rfl wa.heap.size H0 rfl rfl 108 _ (heap_alloc_new wa _) HZ.out.2.2.2.2.2.2 HZ.out.2.2.1 HZ.out.2.2.2.2.1 ?_
               obtain ⟨wb, hwb⟩ : ∃ wb, wb = (wa.alloc (.cells Z8 108)).setRow wa.heap.size H0 := ⟨_, rfl⟩
               rw [← hwb]
               have HWB := Lib.hid hwb
               clear hwb)
            | (refine wpList_store_row rfl 107 _ _ rfl wb.heap.size Z64 rfl rfl 107 _ (heap_alloc_new wb _) HZ.out.2.2.2.2.2.1 rfl HZ.out.2.2.2.1 ?_
               obtain ⟨wc, hwc⟩ : ∃ wc, wc = (wb.alloc (.cells Z64 107)).setRow wb.heap.size Z64 := ⟨_, rfl⟩
               rw [← hwc]
               have HWC := Lib.hid hwc
               clear hwc))
          obtain ⟨a, ha⟩ : ∃ a : At, a = ⟨wr.heap.size, wa.heap.size, wb.heap.size, gb⟩ := ⟨_, rfl⟩
          have sa : wa.heap.size = wr.heap.size + 1 := by rw [HWA.out, setRow_size, World.size_alloc]
          have sb : wb.heap.size = wr.heap.size + 2 := by rw [HWB.out, setRow_size, World.size_alloc, sa]
          have h0 : w0.heap.size ≤ wr.heap.size := HG1.out.1.size
          have hok : a.ok w0 := by
            have := HB.out.2.1
            rw [ha]
            refine ⟨?_, ?_, ?_, ?_, ?_, ?_, ?_, ?_, ?_⟩ <;> dsimp only <;> omega
          have hRS : RS w0 wc a L (List.replicate 64 0) startS.ws (List.replicate 64 0) := by
            have B1 := (Blk.new wr 107 Z64).row Z64
            rw [← HWA.out] at B1
            have B1b := (B1.alloc (.cells Z8 108)).farRow (g' := wa.heap.size) (by omega) H0
            rw [← HWB.out] at B1b
            have B1c := (B1b.alloc (.cells Z64 107)).farRow (g' := wb.heap.size) (by omega) Z64
            rw [← HWC.out] at B1c
            have B2 := (Blk.new wa 108 Z8).row H0
            rw [← HWB.out] at B2
            have B2c := (B2.alloc (.cells Z64 107)).farRow (g' := wb.heap.size) (by omega) Z64
            rw [← HWC.out] at B2c
            have B3 := (Blk.new wb 107 Z64).row Z64
            rw [← HWC.out] at B3
            have ga : wr.grownBy wa none := by rw [HWA.out]; exact grown_row (World.grownBy_alloc wr _ none) (.inl (Nat.le_refl _)) _
            have gb' : wa.grownBy wb none := by rw [HWB.out]; exact grown_row (World.grownBy_alloc wa _ none) (.inl (Nat.le_refl _)) _
            have gc : wb.grownBy wc none := by rw [HWC.out]; exact grown_row (World.grownBy_alloc wb _ none) (.inl (Nat.le_refl _)) _
            have gall := grown_trans (grown_trans ga gb') gc
            rw [ha]
            exact ⟨grown_trans HG1.out.1 gall, by rw [← HZ.out.1.1]; exact B1c, by rw [← HZ.out.1.2]; exact B2c, by rw [← HZ.out.1.1]; exact B3, fun j hj => gall.cell (HB.out.1 j hj) (by simp)⟩
          have eT : wr.heap.size = a.t := by rw [ha]
          have eH : wa.heap.size = a.h := by rw [ha]
          have eC : wb.heap.size = a.c := by rw [ha]
          have eG : gb = a.g := by rw [ha]
          rw [eT, eH, eC, eG]
          have HA := Lib.hid hok
          have HRS := Lib.hid hRS
          have hcb := Lib.hid HB.out.2.2.2
          have hlow := Lib.hid (show w.heap.size < w0.heap.size ∧ w0.heap.size ≤ a.t by rw [HW.out.1, ← eT, ← HW.out.1]; exact ⟨by rw [HW.out.1]; simp, h0⟩)
          clear HWA HWB HWC HB HG1 HO1 HG HO HO2 HOU sa sb h0 hok hRS eT eH eC eG ha hb1 hb2 d1
          go_loopw [55] (fun i wr => ∃ k : Nat, k ≤ 64 ∧ i = .int .i64 (k : Int) ∧ RS w0 wr a L (List.replicate 64 0) startS.ws (kS.take k ++ List.replicate (64 - k) 0)) (fun i _ => 64 - (intOf i).toNat)
          case atStart => exact ⟨0, by omega, rfl, by simpa using HRS.out⟩
          case round =>
            as_aux_lemma =>
            obtain ⟨k, hk, hi, hS⟩ := hrel
            obtain ⟨J, hJ⟩ : ∃ J : Int, J = (k : Int) := ⟨_, rfl⟩
            rw [← hJ] at hi
            subst hi
            by_cases hlt : k < 64
            · have d1 : decide (J < 64) = true := by simp; omega
              have hJ0 : 0 ≤ J ∧ J < 64 := by omega
              have s5 : wrap64 (J + 1) = J + 1 := w64 _ ⟨by omega, by omega⟩
              have hJk : J.toNat = k := by omega
              have ck := hS.cellC (by simp [kS_length]; omega) J.toNat (by omega)
              have fk := hS.c.frozen J.toNat
              obtain ⟨old, hold⟩ : ∃ old, old = (kS.take k ++ List.replicate (64 - k) 0).getD J.toNat 0 := ⟨_, rfl⟩
              rw [← hold] at ck
              have HJ := Lib.hid (And.intro hJ (And.intro hlt (And.intro hJk hS)))
              clear hold hS hJ hlt hk hJk
              go_wp2_with fail
              rw [HJ.out.1]
              refine (k_is wr k HJ.out.2.1).mono ?_
              rintro e w5 ⟨rfl, rfl⟩
              rw [← HJ.out.1]
              go_wp2_with fail
              go_roundw
              case rel =>
                obtain ⟨hJ, hlt, hJk, hS⟩ := HJ.out
                refine ⟨k + 1, by omega, by rw [hJ]; rfl, ?_⟩
                rw [← k_set k hlt, hJk]
                exact hS.setC HA.out k _
              case measure => obtain ⟨hJ, hlt, hJk, hS⟩ := HJ.out; simp [intOf]; omega
            · obtain rfl : k = 64 := by omega
              have d1 : decide (J < 64) = false := by simp; omega
              have hS' : RS w0 wr a L (List.replicate 64 0) startS.ws kS := by
                have := hS
                rwa [List.take_of_length_le (by rw [kS_length]; omega), show 64 - 64 = 0 from rfl, List.replicate_zero, List.append_nil] at this
              have HR2 := Lib.hid hS'
              clear hS hS' hJ hlt hk HRS
              go_wp2_with fail
              go_loopw [4] (fun v wr => ∃ kk o m cc : Nat, v = .slice (some ⟨a.g, o, none⟩) m cc ∧ (0 < m → o = 64 * kk) ∧ 64 * kk + m = ℓ ∧ m ≤ cc ∧ ∃ tb : List Int, tb.length = 64 ∧ RS w0 wr a L tb (blocksS startS.ws L kk) kS) (fun v _ => lenV v)
              case atStart => exact ⟨0, 0, ℓ, cb, rfl, fun _ => rfl, by omega, hcb.out, List.replicate 64 0, by simp, HR2.out⟩
              case round =>
                obtain ⟨kk, o, m, cc, rfl, ho, hom, hmc, tb, htb, hS⟩ := hrel
                by_cases hm0 : 0 < m
                · replace ho := ho hm0
                  have hom : o + m = ℓ := by omega
                  have hm64 : 64 ≤ m := by have := HL.out.2.1; have := HL.out.2.2.1; omega
                  have d1 : decide ((0 : Int) < (m : Int)) = true := by simp; omega
                  have d0 : decide (0 < m) = true := by simp; omega
                  have d2 : (64 : Int) ≤ (m : Int) := by omega
                  have d3 : (m : Int) ≤ 60008 := by have := HL.out.2.2.2.2; omega
                  obtain ⟨bk, hbk⟩ : ∃ bk, bk = blkOf L o := ⟨_, rfl⟩
                  obtain ⟨ws, hws⟩ : ∃ ws, ws = blocksS startS.ws L kk := ⟨_, rfl⟩
                  rw [← hws] at hS
                  have hwl : ws.length = 8 := by rw [hws, blocksS_length]
                  have HM := Lib.hid (And.intro ho (And.intro hom (And.intro hmc (And.intro htb (And.intro hm64 (And.intro hbk (And.intro hws (And.intro hwl hS))))))))
                  clear ho hom hmc htb hm0 hbk hws hwl hS hm64
                  go_wp2_with fail
                  clear d0
                  go_loopw [10] (fun i wr => ∃ k : Nat, k ≤ 16 ∧ i = .int .i64 (k : Int) ∧ RS w0 wr a L (schS bk k ++ tb.drop k) ws kS) (fun i _ => 16 - (intOf i).toNat)
                  case atStart => exact ⟨0, by omega, rfl, by simpa [schS] using HM.out.2.2.2.2.2.2.2.2⟩
                  case round =>
                    as_aux_lemma =>
                    obtain ⟨k, hk, hi, hS⟩ := hrel
                    obtain ⟨I, hI⟩ : ∃ I : Int, I = (k : Int) := ⟨_, rfl⟩
                    rw [← hI] at hi
                    subst hi
                    by_cases hlt : k < 16
                    · have d4 : decide (I < 16) = true := by simp; omega
                      obtain ⟨ho, hom, hmc, htb, hm64, hbk, hws, hwl, _⟩ := HM.out
                      have hlL : o + 64 ≤ L.length := by have := HL.out.2.1; omega
                      obtain ⟨N, hN⟩ : ∃ N : Nat, N = 4 * k := ⟨_, rfl⟩
                      have cell : ∀ j, j < 64 → wr.cell? ⟨a.g, o + j, none⟩ = some (.int .u8 (bk.getD j 0)) := fun j hj => by rw [hbk, blk_get L o j hj]; exact hS.b (o + j) (by omega)
                      have c0 := cell N (by omega)
                      have c1 := cell (N + 1) (by omega)
                      have c2 := cell (N + 2) (by omega)
                      have c3 := cell (N + 3) (by omega)
                      have rg : ∀ j, j < 64 → 0 ≤ bk.getD j 0 ∧ bk.getD j 0 < 256 := fun j hj => by rw [hbk, blk_get L o j hj]; exact blk_range L o j HL.out.2.2.2.1
                      have hwd : wordS bk (schS bk k) k = wordF (bk.getD N 0) (bk.getD (N + 1) 0) (bk.getD (N + 2) 0) (bk.getD (N + 3) 0) := by rw [wordS, if_pos hlt, hN]
                      rw [wordF_sum _ _ _ _ (rg N (by omega)) (rg (N + 1) (by omega)) (rg (N + 2) (by omega)) (rg (N + 3) (by omega))] at hwd
                      have r0 := rg N (by omega)
                      have r1 := rg (N + 1) (by omega)
                      have r2 := rg (N + 2) (by omega)
                      have r3 := rg (N + 3) (by omega)
                      generalize bk.getD N 0 = x0 at *
                      generalize bk.getD (N + 1) 0 = x1 at *
                      generalize bk.getD (N + 2) 0 = x2 at *
                      generalize bk.getD (N + 3) 0 = x3 at *
                      have hln : (schS bk k ++ tb.drop k).length = 64 := by rw [List.length_append, schS_length, List.length_drop]; omega
                      have ck := hS.cellT hln I.toNat (by omega)
                      have fk := hS.t.frozen I.toNat
                      obtain ⟨old, hold⟩ : ∃ old, old = (schS bk k ++ tb.drop k).getD I.toNat 0 := ⟨_, rfl⟩
                      rw [← hold] at ck
                      rw [show N = (4 * I).toNat by omega] at c0
                      rw [show N + 1 = (4 * I + 1).toNat by omega] at c1
                      rw [show N + 2 = (4 * I + 2).toNat by omega] at c2
                      rw [show N + 3 = (4 * I + 3).toNat by omega] at c3
                      have hN4 : 4 * I + 3 < (m : Int) := by omega
                      have hx : 0 ≤ I ∧ I < 64 := by omega
                      have HI := Lib.hid (And.intro hI (And.intro hlt (And.intro hwd hS)))
                      have HXX := Lib.hid (And.intro r0 (And.intro r1 (And.intro r2 r3)))
                      clear hI hlt hwd hS hN hold hln cell rg ho hom hmc htb hm64 hbk hws hwl hlL hk r0 r1 r2 r3
                      go_wp2_with fail
                      go_region
                      go_wp2_with fail
                      go_roundw
                      case rel =>
                        obtain ⟨hI, hlt, hwd, hS⟩ := HI.out
                        obtain ⟨r0, r1, r2, r3⟩ := HXX.out
                        have e : ((x0 % 4294967296 * 16777216 + x1 % 4294967296 * 65536 + x2 % 4294967296 * 256 + x3) % 4294967296 : Int) = wordS bk (schS bk k) k := by rw [hwd]; omega
                        have hIk : I.toNat = k := by omega
                        rw [e, hIk]
                        refine ⟨k + 1, by omega, by rw [hI]; rfl, ?_⟩
                        have := (hS.setT HA.out k (wordS bk (schS bk k) k)).drew
                        rw [mix_set _ _ _ _ (schS_length bk k) (by have := HM.out.2.2.2.1; omega)] at this
                        exact this
                      case measure => obtain ⟨hI, hlt, hwd, hS⟩ := HI.out; simp [intOf]; omega
                    -- L4END
                    · obtain rfl : k = 16 := by omega
                      have d4 : decide (I < 16) = false := by simp; omega
                      have HS4 := Lib.hid hS
                      clear hI hlt hk hS
                      go_wp2_with fail
                      clear d4
                      go_loopw [11] (fun i wr => ∃ k : Nat, 16 ≤ k ∧ k ≤ 64 ∧ i = .int .i64 (k : Int) ∧ RS w0 wr a L (schS bk k ++ tb.drop k) ws kS) (fun i _ => 64 - (intOf i).toNat)
                      case atStart => exact ⟨16, Nat.le_refl _, by omega, rfl, HS4.out⟩
                      case round =>
                        as_aux_lemma =>
                        obtain ⟨k, hk16, hk, hi, hS⟩ := hrel
                        obtain ⟨J, hJ⟩ : ∃ J : Int, J = (k : Int) := ⟨_, rfl⟩
                        rw [← hJ] at hi
                        subst hi
                        by_cases hlt : k < 64
                        · have d2 : decide (J < 64) = true := by simp; omega
                          have hx : 16 ≤ J ∧ J < 64 := by omega
                          have htb := HM.out.2.2.2.1
                          have hln : (schS bk k ++ tb.drop k).length = 64 := by rw [List.length_append, schS_length, List.length_drop]; omega
                          have get : ∀ i : Nat, i < k → wr.cell? ⟨a.t, i, none⟩ = some (.int .u32 ((schS bk k).getD i 0)) := fun i hi => by
                            rw [hS.cellT hln i (by omega), List.getD, List.getElem?_append_left (by rw [schS_length]; exact hi), ← List.getD]
                          obtain ⟨J16, hJ16⟩ : ∃ K : Int, K = J - 16 := ⟨_, rfl⟩
                          obtain ⟨J7, hJ7⟩ : ∃ K : Int, K = J - 7 := ⟨_, rfl⟩
                          have s16 : IntKind.i64.wrap (J - 16) = J16 := by rw [IntKind.wrap_i64]; omega
                          have s7 : IntKind.i64.wrap (J - 7) = J7 := by rw [IntKind.wrap_i64]; omega
                          have b1 : 0 ≤ J16 := by omega
                          have b2 : J16 < 64 := by omega
                          have b3 : 0 ≤ J7 := by omega
                          have b4 : J7 < 64 := by omega
                          have b5 : 0 ≤ J := by omega
                          have b6 : J < 64 := by omega
                          have g16 := get J16.toNat (by omega)
                          have g15 := get (J - 15).toNat (by omega)
                          have g7 := get J7.toNat (by omega)
                          have g2 := get (J - 2).toNat (by omega)
                          have ck := hS.cellT hln J.toNat (by omega)
                          have fk := hS.t.frozen J.toNat
                          obtain ⟨old, hold⟩ : ∃ old, old = (schS bk k ++ tb.drop k).getD J.toNat 0 := ⟨_, rfl⟩
                          rw [← hold] at ck
                          have hwd : wordS bk (schS bk k) k = nextS ((schS bk k).getD J16.toNat 0) ((schS bk k).getD (J - 15).toNat 0) ((schS bk k).getD J7.toNat 0) ((schS bk k).getD (J - 2).toNat 0) := by
                            rw [wordS, if_neg (by omega), show J16.toNat = k - 16 by omega, show (J - 15).toNat = k - 15 by omega, show J7.toNat = k - 7 by omega, show (J - 2).toNat = k - 2 by omega]
                          generalize (schS bk k).getD J16.toNat 0 = y16 at *
                          generalize (schS bk k).getD (J - 15).toNat 0 = y15 at *
                          generalize (schS bk k).getD J7.toNat 0 = y7 at *
                          generalize (schS bk k).getD (J - 2).toNat 0 = y2 at *
                          have HJ := Lib.hid (And.intro hJ (And.intro hlt (And.intro hk16 (And.intro hwd hS))))
                          clear hwd get hS hJ hlt hk hk16 hold hln htb hJ16 hJ7
                          -- L5A
                          go_wp2_with fail
                          go_region
                          go_wp2_with fail
                          refine wp_region_still_tail 29 (by kernel_rfl) (by kernel_rfl) ?_
                          simp only [List.take_succ_cons, List.take_zero, List.drop_succ_cons, List.drop_zero]
                          obtain ⟨W5, hW5⟩ : ∃ W5, W5 = wr.drew.drew := ⟨_, rfl⟩
                          change wpStill _ _ wr.drew.drew (fun a' => wpList _ _ _ _ a' wr.drew.drew) _ _
                          rw [← hW5]
                          have g16' : W5.cell? ⟨a.t, J16.toNat, none⟩ = some (.int .u32 y16) := by rw [hW5]; exact g16
                          have g7' : W5.cell? ⟨a.t, J7.toNat, none⟩ = some (.int .u32 y7) := by rw [hW5]; exact g7
                          have ck' : W5.cell? ⟨a.t, J.toNat, none⟩ = some (.int .u32 old) := by rw [hW5]; exact ck
                          have fk' : W5.frozen? ⟨a.t, J.toNat, none⟩ = false := by rw [hW5]; exact fk
                          have HW5 := Lib.hid hW5
                          clear hW5 g16 g7 ck fk g15 g2
                          repeat still_step
                          still_call (calls_flip (right7 W5 _))
                          repeat still_step
                          still_call (calls_flip (right18 W5 _))
                          repeat still_step
                          still_call (calls_flip (right17 W5 _))
                          repeat still_step
                          still_call (calls_flip (right19 W5 _))
                          repeat still_step
                          refine wpStill_nil ?_
                          go_wp2_with fail
                          go_roundw
                          case rel =>
                            obtain ⟨hJ, hlt, hk16, hwd, hS⟩ := HJ.out
                            have hJk : J.toNat = k := by omega
                            rw [HW5.out, hJk]
                            refine ⟨k + 1, by omega, by omega, by rw [hJ]; rfl, ?_⟩
                            have := hS.drew.drew.setT HA.out k (wordS bk (schS bk k) k)
                            rw [mix_set _ _ _ _ (schS_length bk k) (by have := HM.out.2.2.2.1; omega), hwd] at this
                            rw [schS, hwd]
                            exact this
                          case measure => obtain ⟨hJ, hlt, hk16, hwd, hS⟩ := HJ.out; simp [intOf]; omega
                        -- L5END
                        · obtain rfl : k = 64 := by omega
                          have d2 : decide (J < 64) = false := by simp; omega
                          rw [show tb.drop 64 = [] by rw [List.drop_eq_nil_iff]; have := HM.out.2.2.2.1; omega, List.append_nil] at hS
                          obtain ⟨tw, htw⟩ : ∃ tw, tw = schS bk 64 := ⟨_, rfl⟩
                          rw [← htw] at hS
                          have htl : tw.length = 64 := by rw [htw, schS_length]
                          obtain ⟨cs, hcs⟩ : ∃ cs, cs = arrV .u32 ws := ⟨_, rfl⟩
                          have hH := hS.h
                          rw [← hcs] at hH
                          have csz : cs.size = 8 := by rw [hcs, arr_size]; exact HM.out.2.2.2.2.2.2.2.1
                          have HCS := Lib.hid (show cs = arrV .u32 ws ∧ (Tryz.prog.info? 108).map (·.size) = some cs.size ∧ Z8.size = cs.size ∧ (cs.all fun v => v.oneCell') = true from
                            ⟨hcs, by rw [csz]; kernel_rfl, by rw [csz, HZ.out.2.2.1]; rw [HZ.out.1.2]; rfl, by rw [hcs]; simp [Value.oneCell']⟩)
                          have HH := Lib.hid hH
                          have HTW := Lib.hid (And.intro htw htl)
                          have HS5 := Lib.hid hS
                          clear hJ hlt hk hk16 hS htw htl hcs csz hH
                          go_wp2_with (first
                            | (refine wpList_load_row rfl 108 _ rfl a.h rfl 108 cs (0, 0) _ HH.out Tryz.underlying108 rfl HCS.out.2.1 ?_)
                            | (refine wpList_store_row rfl 108 _ _ rfl wr.heap.size cs rfl rfl 108 _ (heap_alloc_new wr _) HCS.out.2.1 HCS.out.2.2.1 HCS.out.2.2.2 ?_
                               obtain ⟨wv, hwv⟩ : ∃ wv, wv = (wr.alloc (.cells Z8 108)).setRow wr.heap.size cs := ⟨_, rfl⟩
                               rw [← hwv]
                               have HWV := Lib.hid hwv
                               clear hwv))
                          clear d2
                          obtain ⟨V, hV⟩ : ∃ V, V = wr.heap.size := ⟨_, rfl⟩
                          rw [← hV]
                          have hVn : a.t ≠ V ∧ a.h ≠ V ∧ a.c ≠ V ∧ a.g ≠ V ∧ w0.heap.size ≤ V := by
                            have h1 := HS5.out.t.lt
                            have h2 := HS5.out.h.lt
                            have h3 := HS5.out.c.lt
                            have h4 := HS5.out.glt (by have := HL.out.2.1; have := HL.out.2.2.2.2; omega)
                            have h5 := HS5.out.grown.size
                            rw [hV]; omega
                          have hSv : RS w0 wv a L tw ws kS := by rw [HWV.out, ← hV]; exact (HS5.out.alloc _).row V hVn.2.2.2.2 hVn.1 hVn.2.1 hVn.2.2.1 hVn.2.2.2.1 cs
                          have hBv : Blk wv V 108 (arrV .u32 ws) := by rw [HWV.out, hV, ← HCS.out.1]; exact (Blk.new wr _ Z8).row cs
                          have HVN := Lib.hid (And.intro hVn (And.intro hSv hBv))
                          clear hV hVn hSv hBv HWV HS5 HH HS4 HR2
                          go_loopw [15] (fun i wr => ∃ k : Nat, k ≤ 64 ∧ i = .int .i64 (k : Int) ∧ RS w0 wr a L tw ws kS ∧ Blk wr V 108 (arrV .u32 (runS tw (V8.of ws) k).l)) (fun i _ => 64 - (intOf i).toNat)
                          case atStart => exact ⟨0, by omega, rfl, HVN.out.2.1, by rw [runS, of_l ws HM.out.2.2.2.2.2.2.2.1]; exact HVN.out.2.2⟩
                          case round =>
                            as_aux_lemma =>
                            obtain ⟨k, hk, hi, hS, hBv⟩ := hrel
                            obtain ⟨J, hJ⟩ : ∃ J : Int, J = (k : Int) := ⟨_, rfl⟩
                            rw [← hJ] at hi
                            subst hi
                            by_cases hlt : k < 64
                            · -- L6
                              -- L6A
                              have d1 : decide (J < 64) = true := by simp; omega
                              have hx : 0 ≤ J ∧ J < 64 := by omega
                              obtain ⟨v, hv⟩ : ∃ v, v = runS tw (V8.of ws) k := ⟨_, rfl⟩
                              rw [← hv] at hBv
                              obtain ⟨c0, c1, c2, c3, c4, c5, c6, c7⟩ := v_cell hBv
                              have ct := hS.cellT HTW.out.2 J.toNat (by omega)
                              have cc' := hS.cellC kS_length J.toNat (by omega)
                              obtain ⟨xt, hxt⟩ : ∃ xt, xt = tw.getD J.toNat 0 := ⟨_, rfl⟩
                              obtain ⟨xc, hxc⟩ : ∃ xc, xc = kS.getD J.toNat 0 := ⟨_, rfl⟩
                              rw [← hxt] at ct
                              rw [← hxc] at cc'
                              have hrun : runS tw (V8.of ws) (k + 1) = roundS v xc xt := by rw [runS, ← hv, hxc, hxt, show J.toNat = k by omega]
                              have HJ := Lib.hid (And.intro hJ (And.intro hlt (And.intro hrun (And.intro hS hBv))))
                              clear hJ hlt hk hv hxt hxc hrun hS hBv
                              go_wp2_with fail
                              refine wp_region_quiet_lit (by kernel_rfl) (by kernel_rfl) ?_
                              repeat (first | go_big_quiet_skip | (go_big_quiet_want; go_big_quiet_op; go_big_quiet_on))
                              (go_big_quiet_want; go_big_quiet_op; go_big_quiet_call (exact Calls.quiet_of_same (calls_flip (right6 _ _))))
                              repeat (first | go_big_quiet_skip | (go_big_quiet_want; go_big_quiet_op; go_big_quiet_on))
                              (go_big_quiet_want; go_big_quiet_op; go_big_quiet_call (exact Calls.quiet_of_same (calls_flip (right11 _ _))))
                              repeat (first | go_big_quiet_skip | (go_big_quiet_want; go_big_quiet_op; go_big_quiet_on))
                              (go_big_quiet_want; go_big_quiet_op; go_big_quiet_call (exact Calls.quiet_of_same (calls_flip (right25 _ _))))
                              repeat (first | go_big_quiet_skip | (go_big_quiet_want; go_big_quiet_op; go_big_quiet_on))
                              refine wpQuiet_nil ?_
                              intro W5 hW5
                              replace c0 : W5.cell? ⟨V, 0, none⟩ = some (.int .u32 v.a) := by obtain ⟨nq, rfl⟩ := hW5; exact c0
                              replace c1 : W5.cell? ⟨V, 1, none⟩ = some (.int .u32 v.b) := by obtain ⟨nq, rfl⟩ := hW5; exact c1
                              replace c2 : W5.cell? ⟨V, 2, none⟩ = some (.int .u32 v.c) := by obtain ⟨nq, rfl⟩ := hW5; exact c2
                              replace c3 : W5.cell? ⟨V, 3, none⟩ = some (.int .u32 v.d) := by obtain ⟨nq, rfl⟩ := hW5; exact c3
                              replace c4 : W5.cell? ⟨V, 4, none⟩ = some (.int .u32 v.e) := by obtain ⟨nq, rfl⟩ := hW5; exact c4
                              replace c5 : W5.cell? ⟨V, 5, none⟩ = some (.int .u32 v.f) := by obtain ⟨nq, rfl⟩ := hW5; exact c5
                              replace c6 : W5.cell? ⟨V, 6, none⟩ = some (.int .u32 v.g) := by obtain ⟨nq, rfl⟩ := hW5; exact c6
                              replace c7 : W5.cell? ⟨V, 7, none⟩ = some (.int .u32 v.h) := by obtain ⟨nq, rfl⟩ := hW5; exact c7
                              have HB5 := Lib.hid (show Blk W5 V 108 (arrV .u32 v.l) ∧ RS w0 W5 a L tw ws kS by
                                obtain ⟨_, _, _, h4, h5⟩ := HJ.out
                                obtain ⟨nq, rfl⟩ := hW5
                                exact ⟨h5, h4.drewN _⟩)
                              clear hW5 c7 ct cc'
                              go_wp2_with fail
                              refine wp_region_quiet_lit (by kernel_rfl) (by kernel_rfl) ?_
                              repeat (first | go_big_quiet_skip | (go_big_quiet_want; go_big_quiet_op; go_big_quiet_on))
                              (go_big_quiet_want; go_big_quiet_op; go_big_quiet_call (exact Calls.quiet_of_same (calls_flip (right2 _ _))))
                              repeat (first | go_big_quiet_skip | (go_big_quiet_want; go_big_quiet_op; go_big_quiet_on))
                              (go_big_quiet_want; go_big_quiet_op; go_big_quiet_call (exact Calls.quiet_of_same (calls_flip (right13 _ _))))
                              repeat (first | go_big_quiet_skip | (go_big_quiet_want; go_big_quiet_op; go_big_quiet_on))
                              (go_big_quiet_want; go_big_quiet_op; go_big_quiet_call (exact Calls.quiet_of_same (calls_flip (right22 _ _))))
                              repeat (first | go_big_quiet_skip | (go_big_quiet_want; go_big_quiet_op; go_big_quiet_on))
                              refine wpQuiet_nil ?_
                              intro W6 hW6
                              replace c0 : W6.cell? ⟨V, 0, none⟩ = some (.int .u32 v.a) := by obtain ⟨nq, rfl⟩ := hW6; exact c0
                              replace c1 : W6.cell? ⟨V, 1, none⟩ = some (.int .u32 v.b) := by obtain ⟨nq, rfl⟩ := hW6; exact c1
                              replace c2 : W6.cell? ⟨V, 2, none⟩ = some (.int .u32 v.c) := by obtain ⟨nq, rfl⟩ := hW6; exact c2
                              replace c3 : W6.cell? ⟨V, 3, none⟩ = some (.int .u32 v.d) := by obtain ⟨nq, rfl⟩ := hW6; exact c3
                              replace c4 : W6.cell? ⟨V, 4, none⟩ = some (.int .u32 v.e) := by obtain ⟨nq, rfl⟩ := hW6; exact c4
                              replace c5 : W6.cell? ⟨V, 5, none⟩ = some (.int .u32 v.f) := by obtain ⟨nq, rfl⟩ := hW6; exact c5
                              replace c6 : W6.cell? ⟨V, 6, none⟩ = some (.int .u32 v.g) := by obtain ⟨nq, rfl⟩ := hW6; exact c6
                              have HB6 := Lib.hid (show Blk W6 V 108 (arrV .u32 v.l) ∧ RS w0 W6 a L tw ws kS by
                                obtain ⟨h5, h4⟩ := HB5.out
                                obtain ⟨nq, rfl⟩ := hW6
                                exact ⟨h5, h4.drewN _⟩)
                              clear hW6
                              obtain ⟨O, hO⟩ : ∃ O, O = oneS v xc xt := ⟨_, rfl⟩
                              obtain ⟨T, hT⟩ : ∃ T, T = twoS v := ⟨_, rfl⟩
                              have e1 := (one_eq v xc xt).trans hO.symm
                              have e2 := (two_eq v).trans hT.symm
                              rw [e1, e2]
                              obtain ⟨NR, hNR⟩ : ∃ NR, NR = (roundS v xc xt).l := ⟨_, rfl⟩
                              have HRl := Lib.hid (show [(O + T) % 4294967296, v.a, v.b, v.c, (v.d + O) % 4294967296, v.e, v.f, v.g] = NR ∧ NR.length = 8 by rw [hNR]; exact ⟨(round_l v xc xt O T hO hT).symm, rfl⟩)
                              have HR := Lib.hid hNR
                              clear e1 e2 hO hT hNR
                              go_wp2_with (first
                                | (refine wpList_build_ps rfl 108 _ rfl #[(0, .int .u32 ((O + T) % 4294967296)), (1, .int .u32 v.a), (2, .int .u32 v.b), (3, .int .u32 v.c), (4, .int .u32 ((v.d + O) % 4294967296)), (5, .int .u32 v.e), (6, .int .u32 v.f), (7, .int .u32 v.g)] (by kernel_rfl) _ (build8 _ _ _ _ _ _ _ _ _) ?_
                                   rw [HRl.out.1])
                                | (refine wpList_store_row rfl 108 _ _ rfl V (arrV .u32 NR) rfl rfl 108 _ HB6.out.1 (size8 _ HRl.out.2) (by rw [arr_size, arr_size, HRl.out.2]; rfl) (by simp [Value.oneCell']) ?_))
                              go_roundw
                              case rel =>
                                obtain ⟨hJ, hlt, hrun, _, _⟩ := HJ.out
                                obtain ⟨h6, h7⟩ := HB6.out
                                refine ⟨k + 1, by omega, by rw [hJ]; rfl, ?_, ?_⟩
                                · exact h7.row V HVN.out.1.2.2.2.2 HVN.out.1.1 HVN.out.1.2.1 HVN.out.1.2.2.1 HVN.out.1.2.2.2.1 _
                                · rw [hrun, ← HR.out]; exact h6.row _
                              case measure => obtain ⟨hJ, hlt, hrun, _, _⟩ := HJ.out; simp [intOf]; omega
                            -- L6END
                            · obtain rfl : k = 64 := by omega
                              have d1 : decide (J < 64) = false := by simp; omega
                              obtain ⟨vl, hvl⟩ : ∃ vl, vl = (runS tw (V8.of ws) 64).l := ⟨_, rfl⟩
                              rw [← hvl] at hBv
                              have hv8 : vl.length = 8 := by rw [hvl]; rfl
                              have HE6 := Lib.hid (And.intro hvl (And.intro hv8 (And.intro hS hBv)))
                              clear hJ hlt hk hvl hv8 hS hBv
                              go_wp2_with fail
                              go_loopw [237] (fun i wr => ∃ k : Nat, k ≤ 8 ∧ i = .int .i64 (k : Int) ∧ RS w0 wr a L tw (addS ws vl k) kS ∧ Blk wr V 108 (arrV .u32 vl)) (fun i _ => 8 - (intOf i).toNat)
                              case atStart => exact ⟨0, by omega, rfl, HE6.out.2.2.1, HE6.out.2.2.2⟩
                              case round =>
                                as_aux_lemma =>
                                obtain ⟨k, hk, hi, hS, hBv⟩ := hrel
                                obtain ⟨K, hK⟩ : ∃ K : Int, K = (k : Int) := ⟨_, rfl⟩
                                rw [← hK] at hi
                                subst hi
                                by_cases hlt : k < 8
                                · -- L7
                                  -- L7A
                                  have d2 : decide (K < 8) = true := by simp; omega
                                  have hx : 0 ≤ K ∧ K < 8 := by omega
                                  have hl8 : (addS ws vl k).length = 8 := by rw [addS_length]; exact HM.out.2.2.2.2.2.2.2.1
                                  have ch := hS.cellH hl8 K.toNat (by omega)
                                  have cv : wr.cell? ⟨V, K.toNat, none⟩ = some (.int .u32 (vl.getD K.toNat 0)) := by rw [hBv.cell]; exact arr_get (by have := HE6.out.2.1; omega)
                                  have fh := hS.h.frozen K.toNat
                                  obtain ⟨xh, hxh⟩ : ∃ xh, xh = (addS ws vl k).getD K.toNat 0 := ⟨_, rfl⟩
                                  obtain ⟨xv, hxv⟩ : ∃ xv, xv = vl.getD K.toNat 0 := ⟨_, rfl⟩
                                  rw [← hxh] at ch
                                  rw [← hxv] at cv
                                  have hnx : addS ws vl (k + 1) = (addS ws vl k).set K.toNat ((xh + xv) % 4294967296) := by rw [addS, hxh, hxv, show K.toNat = k by omega]
                                  have HK := Lib.hid (And.intro hK (And.intro hlt (And.intro hnx (And.intro hS hBv))))
                                  clear hK hlt hnx hS hBv hxh hxv hl8 hk
                                  go_wp2_with fail
                                  go_region
                                  go_wp2_with fail
                                  go_roundw
                                  case rel =>
                                    obtain ⟨hK, hlt, hnx, hS, hBv⟩ := HK.out
                                    refine ⟨k + 1, by omega, by rw [hK]; rfl, ?_, ?_⟩
                                    · rw [hnx]; exact (hS.setH HA.out K.toNat _).drew
                                    · exact (hBv.far (p := ⟨a.h, K.toNat, none⟩) (fun e => HVN.out.1.2.1 e.symm) _).drew
                                  case measure => obtain ⟨hK, hlt, _⟩ := HK.out; simp [intOf]; omega
                                -- L7END
                                · obtain rfl : k = 8 := by omega
                                  have d2 : decide (K < 8) = false := by simp; omega
                                  have hmix : blocksS startS.ws L (kk + 1) = addS ws vl 8 := by
                                    obtain ⟨ho, _, _, _, _, hbk, hws, _, _⟩ := HM.out
                                    rw [blocksS, ← hws, show (L.drop (64 * kk)).take 64 = bk by rw [hbk, blkOf, ho], mixS, ← HTW.out.1, ← HE6.out.1]
                                  have HK := Lib.hid (And.intro hmix hS)
                                  clear hK hlt hk hS hBv hmix
                                  go_wp2_with fail
                                  go_roundw
                                  case rel =>
                                    obtain ⟨hmix, hS⟩ := HK.out
                                    obtain ⟨ho, hom, hmc, htb, hm64, _⟩ := HM.out
                                    by_cases hc : cc = 64
                                    · subst hc
                                      refine ⟨kk + 1, o, m - 64, 0, by simp, by omega, by omega, by omega, tw, HTW.out.2, ?_⟩
                                      rw [hmix]; exact hS
                                    · refine ⟨kk + 1, o + 64, m - 64, cc - 64, by simp [hc], by omega, by omega, by omega, tw, HTW.out.2, ?_⟩
                                      rw [hmix]; exact hS
                                  case measure => have := HM.out.2.2.2.2.1; simp [lenV]; omega
                -- L3END
                · have hm : m = 0 := by omega
                  subst hm
                  have d1 : decide ((0 : Int) < ((0 : Nat) : Int)) = false := by decide
                  obtain ⟨ws, hws⟩ : ∃ ws, ws = blocksS startS.ws L kk := ⟨_, rfl⟩
                  rw [← hws] at hS
                  have hw8 : ws.length = 8 := by rw [hws, blocksS_length]
                  have hend : hashS x = outS ws 32 := by
                    have e := HL.out.1
                    have e2 := HL.out.2.1
                    rw [out_sum ws hw8, hash_blocks, HX.out.1, ← e, hws]
                    have e3 : (s.size + (padL s.size).length) / 64 = kk := by rw [e, List.length_append, HX.out.1] at e2; omega
                    rw [e3]
                  have HE3 := Lib.hid (And.intro hend (And.intro hw8 hS))
                  have hZ := Lib.hid (show (Tryz.prog.info? 80).map (·.size) = some Z32.size ∧ Z32.size = 32 ∧ (Z32.all fun v => v.oneCell') = true by rw [HW.out.2]; exact ⟨info32, rfl, arr_one _ _⟩)
                  clear ho hom hmc htb hm0 hws hw8 hend hS
                  go_wp2_with (first
                    | (refine wpList_build_run rfl 80 #[] rfl (.agg Z32) (by rw [HW.out.2]; kernel_rfl) ?_)
                    | (refine wpList_store_row rfl 80 _ _ rfl wr.heap.size Z32 rfl rfl 80 _ (heap_alloc_new wr _) hZ.out.1 rfl hZ.out.2.2 ?_
                       obtain ⟨wv, hwv⟩ : ∃ wv, wv = (wr.alloc (.cells Z32 80)).setRow wr.heap.size Z32 := ⟨_, rfl⟩
                       rw [← hwv]
                       have HWV := Lib.hid hwv
                       clear hwv))
                  obtain ⟨O, hO⟩ : ∃ O, O = wr.heap.size := ⟨_, rfl⟩
                  rw [← hO]
                  have hS := HE3.out.2.2
                  have hOn : a.h ≠ O ∧ w0.heap.size ≤ O := by
                    have h2 := hS.h.lt
                    have h5 := hS.grown.size
                    rw [hO]; omega
                  have hHv : Blk wv a.h 108 (arrV .u32 ws) := by rw [HWV.out, ← hO]; exact (hS.h.alloc _).farRow hOn.1 _
                  have hOv : Blk wv O 80 (arrV .u8 (outS ws 0)) := by rw [HWV.out, hO, outS, ← HW.out.2]; exact (Blk.new wr _ Z32).row Z32
                  have hGv : w0.grownBy wv none := by rw [HWV.out, ← hO]; exact grown_row (grown_trans hS.grown (World.grownBy_alloc wr _ none)) (.inl hOn.2) _
                  have HON := Lib.hid (And.intro hOn (And.intro hHv (And.intro hOv hGv)))
                  clear hO hOn hHv hOv hGv hS HWV
                  go_loopw [252] (fun i wr => ∃ k : Nat, k ≤ 32 ∧ i = .int .i64 (k : Int) ∧ Blk wr a.h 108 (arrV .u32 ws) ∧ Blk wr O 80 (arrV .u8 (outS ws k)) ∧ w0.grownBy wr none) (fun i _ => 32 - (intOf i).toNat)
                  case atStart => exact ⟨0, by omega, rfl, HON.out.2⟩
                  case round =>
                    as_aux_lemma =>
                    obtain ⟨k, hk, hi, hH, hOu, hG⟩ := hrel
                    obtain ⟨K, hK⟩ : ∃ K : Int, K = (k : Int) := ⟨_, rfl⟩
                    rw [← hK] at hi
                    subst hi
                    by_cases hlt : k < 32
                    · have d2 : decide (K < 32) = true := by simp; omega
                      obtain ⟨QI, hQI⟩ : ∃ Q : Int, Q = ((k / 4 : Nat) : Int) := ⟨_, rfl⟩
                      obtain ⟨RI, hRI⟩ : ∃ R : Int, R = ((k % 4 : Nat) : Int) := ⟨_, rfl⟩
                      have q4 : K.tdiv 4 = QI := by rw [Int.tdiv_eq_ediv_of_nonneg (by omega)]; omega
                      have r4 : K.tmod 4 = RI := by rw [Int.tmod_eq_emod_of_nonneg (by omega)]; omega
                      have s0 : wrap64 QI = QI := w64 _ ⟨by omega, by omega⟩
                      have s1 : wrap64 (8 * RI) = 8 * RI := w64 _ ⟨by omega, by omega⟩
                      obtain ⟨SH, hSH⟩ : ∃ S : Int, S = 24 - 8 * RI := ⟨_, rfl⟩
                      have s2 : wrap64 (24 - 8 * RI) = SH := by rw [w64 _ ⟨by omega, by omega⟩, hSH]
                      have s3 : IntKind.u64.wrap SH = SH := by rw [IntKind.wrap_u64]; omega
                      have s4 : 0 ≤ SH ∧ SH ≤ 32 := by omega
                      have hx : 0 ≤ K ∧ K < 32 := by omega
                      have hq : 0 ≤ QI ∧ QI < 8 := by omega
                      have ch : wr.cell? ⟨a.h, QI.toNat, none⟩ = some (.int .u32 (ws.getD QI.toNat 0)) := by rw [hH.cell]; exact arr_get (by have := HE3.out.2.1; omega)
                      have co : wr.cell? ⟨O, K.toNat, none⟩ = some (.int .u8 ((outS ws k).getD K.toNat 0)) := by rw [hOu.cell]; exact arr_get (by rw [outS_length]; omega)
                      have fo := hOu.frozen K.toNat
                      obtain ⟨xh, hxh⟩ : ∃ xh, xh = ws.getD QI.toNat 0 := ⟨_, rfl⟩
                      obtain ⟨xo, hxo⟩ : ∃ xo, xo = (outS ws k).getD K.toNat 0 := ⟨_, rfl⟩
                      rw [← hxh] at ch
                      rw [← hxo] at co
                      have hnx : outS ws (k + 1) = (outS ws k).set K.toNat (xh / 2 ^ SH.toNat % 256) := by
                        rw [outS, byteS, hxh, show K.toNat = k by omega, show QI.toNat = k / 4 by omega, show SH.toNat = 24 - 8 * (k % 4) by omega]
                      have HK := Lib.hid (And.intro hK (And.intro hlt (And.intro hnx (And.intro hH (And.intro hOu hG)))))
                      clear hK hlt hnx hH hOu hG hxh hxo hk hQI hRI hSH
                      go_wp2_with fail
                      go_roundw
                      case rel =>
                        obtain ⟨hK, hlt, hnx, hH, hOu, hG⟩ := HK.out
                        refine ⟨k + 1, by omega, by rw [hK]; rfl, hH.far (p := ⟨O, K.toNat, none⟩) HON.out.1.1 _, ?_, grown_far hG (p := ⟨O, K.toNat, none⟩) (.inl HON.out.1.2) _⟩
                        rw [hnx]
                        have := hOu.set K.toNat (.int .u8 (xh / 2 ^ SH.toNat % 256))
                        rwa [arr_set] at this
                      case measure => obtain ⟨hK, hlt, _⟩ := HK.out; simp [intOf]; omega
                    · obtain rfl : k = 32 := by omega
                      have d2 : decide (K < 32) = false := by simp; omega
                      obtain ⟨ds, hds⟩ : ∃ ds, ds = arrV .u8 (outS ws 32) := ⟨_, rfl⟩
                      rw [← hds] at hOu
                      have hsz : ds.size = 32 := by rw [hds, arr_size, outS_length]
                      have HI3 := Lib.hid (show (Tryz.prog.info? 80).map (·.size) = some ds.size by rw [hsz]; exact info32)
                      have HS3 := Lib.hid (And.intro hsz (show (ds.all fun x => x.oneCell') = true by rw [hds]; exact arr_one _ _))
                      have HD := Lib.hid (show ds = arrV .u8 (hashS x) by rw [hds, HE3.out.1])
                      have HB := Lib.hid hOu
                      have HB0 := Lib.hid (show Blk wr w.heap.size 80 Z32 from Blk.grown (by rw [HW.out.1]; exact Blk.new w _ Z32) hG (by simp))
                      have HG := Lib.hid (show w.grownBy wr none from grown_trans (by rw [HW.out.1]; exact World.grownBy_alloc w _ none) hG)
                      clear hsz hds hOu hH hG hK hlt hk
                      go_wp2_with (first
                        | (refine wpList_load_row rfl 80 _ rfl O rfl 80 ds (0, 0) _ HB.out Tryz.underlying80 rfl HI3.out ?_)
                        | (refine wpList_store_row rfl 80 _ _ rfl w.heap.size ds rfl rfl 80 _ HB0.out HI3.out (by rw [HS3.out.1]; exact hZ.out.2.1) HS3.out.2 ?_))
                      refine bodyPost_ret (results_cell rfl _ _ _ ⟨w.heap.size, 0, none⟩ (.agg ds) rfl (run_loadVar_row _ w.heap.size 80 80 ds (0, 0) _ (HB0.out.row ds) Tryz.underlying80 rfl HI3.out)) rfl ?_
                      exact ⟨by rw [HD.out], grown_row HG.out (.inl (Nat.le_refl _)) ds⟩
    · have dR : (R != 56) = true := by
        have : R ≠ 56 := fun e => hlt (hR5.1 e)
        simpa using this
      have HQ := Lib.hid (And.intro hq (And.intro hq6 (show k < zerosN s.size by omega)))
      clear hown hK hR5 hR hq hnc hk hbg hzb hq6 hlt
      go_wp2_with (at_builtin
                   refine wpList_append_U rfl _ _ 61 rfl (w.heap.size + 1) 5 _ i0 Tryz.underlying61 HI0.out.1 HI0.out.2.1 HI0.out.2.2.1 HI0.out.2.2.2 _ _ _ rfl HO.out.1 0 rfl (by have := HQ.out.2.1; omega) HG.out.2 ?_
                   intro v' w4 hown4 hgrow
                   have HO4 := Lib.hid (And.intro hown4 (grown_ownU HG.out.1 hgrow HO.out.1 (by rw [HW.out.1]; simp)))
                   clear hown4 hgrow)
      go_roundw
      case rel =>
        obtain ⟨hq, hq6, hlt⟩ := HQ.out
        refine ⟨k + 1, by omega, ?_, HO4.out.2⟩
        have := HO4.out.1
        rw [show s.size + 1 + (k + 1) = q + 1 by omega, rep_snoc, ← List.cons_append, ← List.append_assoc, List.map_append]
        exact this
      case measure =>
        obtain ⟨hq, hq6, hlt⟩ := HQ.out
        obtain ⟨g', cap', e, _⟩ := HO4.out.1.cells
        rw [e]
        simp [lenV]; omega
end Go.Proofs.YtmoebkdbnldbdaaGreatDoor
/-
  The short hash of parts.
-/
namespace Go.Proofs.YtmoebkdbnldbdaaGreatDoor
open Go.RowKit

def partS (s : HS) (p : List Int) : HS := writeS (writeS s (wordB ((p.length : Int) % 4294967296))) p
/-- What is hashed. -/
def framedS (a0 : Int) (ps : List (List Int)) : HS := ps.foldl partS (writeS startS [a0 % 256])
def ofS (a0 : Int) (ps : List (List Int)) : List Int := (digS (framedS a0 ps)).take 16
theorem ofS_length (a0 : Int) (ps : List (List Int)) : (ofS a0 ps).length = 16 := by rw [ofS, List.length_take, digS_length]; rfl
theorem partS_n (s : HS) (p : List Int) : (partS s p).n = s.n + 4 + p.length := by rw [partS, writeS_n, writeS_n]; rfl
theorem parts_n : ∀ (L : List (List Int)) (s : HS), (∀ p ∈ L, p.length ≤ 65536) → (L.foldl partS s).n ≤ s.n + L.length * 65540
  | [], s, _ => by simp
  | p :: L, s, h => by
    have ih := parts_n L (partS s p) (fun q hq => h q (by simp [hq]))
    have h1 := h p (by simp)
    rw [partS_n] at ih
    simp only [List.foldl_cons, List.length_cons]
    omega

/-- The parts lie at A. -/
def PartsI (w : World) (A : Option Addr) (ps : List (List Int)) : Prop := ∀ j, j < ps.length → ∃ ad B m c, A = some ad ∧ w.cell? (ad.add j) = some (.slice B m c) ∧ (ps.getD j []).length = m ∧ m ≤ c ∧ BytesI w B (ps.getD j [])
theorem BytesI.grown {w w' : World} {A : Option Addr} {x : List Int} (h : BytesI w A x) (hg : w.grownBy w' none) : BytesI w' A x := fun hne => by
  obtain ⟨ad, rfl, hc⟩ := h hne
  exact ⟨ad, rfl, fun j hj => hg.cell (hc j hj) (by simp)⟩
theorem PartsI.grown {w w' : World} {A : Option Addr} {ps : List (List Int)} (h : PartsI w A ps) (hg : w.grownBy w' none) : PartsI w' A ps := fun j hj => by
  obtain ⟨ad, B, m, c, e, h1, h2, h3, h4⟩ := h j hj
  exact ⟨ad, B, m, c, e, hg.cell h1 (by simp), h2, h3, h4.grown hg⟩
theorem BytesI.lt {w : World} {A : Option Addr} {x : List Int} (h : BytesI w A x) (ad : Addr) (e : A = some ad) (hne : x ≠ []) : ad.block < w.heap.size := by
  obtain ⟨ad', e', hc⟩ := h hne
  rw [e] at e'
  obtain rfl := Option.some.inj e'
  have h0 := World.block_lt_of_cell? w _ (hc 0 (List.length_pos_iff.2 hne))
  rwa [block_add] at h0
theorem take_push' {α : Type} (x : List α) (k : Nat) (d : α) (h : k < x.length) : x.take (k + 1) = x.take k ++ [x.getD k d] := by
  rw [List.take_add_one, List.getD, List.getElem?_eq_getElem h]; rfl
theorem arrayAt_run (w : World) (a : Addr) : Sem.run Tryz.prog (Instr.arrayAt 24 (.slice (some a) 16 32)) w = .ok (.pointer (some a)) w := by
  simp [Instr.arrayAt, run_underlying Tryz.underlying24]
theorem z16b : arrV .u8 (List.replicate 16 0) = #[.int .u8 0, .int .u8 0, .int .u8 0, .int .u8 0, .int .u8 0, .int .u8 0, .int .u8 0, .int .u8 0, .int .u8 0, .int .u8 0, .int .u8 0, .int .u8 0, .int .u8 0, .int .u8 0, .int .u8 0, .int .u8 0] := by kernel_rfl
theorem z4b : arrV .u8 (List.replicate 4 0) = #[.int .u8 0, .int .u8 0, .int .u8 0, .int .u8 0] := by kernel_rfl

set_option maxRecDepth 100000 in
set_option maxHeartbeats 1000000 in
theorem of_is (w : World) (hR : Rounds w) (a0 : Int) (A : Option Addr) (n c : Nat) (ps : List (List Int)) (hn : ps.length = n) (hP : PartsI w A ps) (hn64 : n ≤ 64) (hps : ∀ p ∈ ps, p.length ≤ 65536) :
    Calls Tryz.prog 33 #[.int .i64 a0, .slice A n c] w fun e w' => e = .returned (.agg (arrV .u8 (ofS a0 ps))) ∧ w.grownBy w' none := by
  obtain ⟨C0, hC0⟩ : ∃ C0, C0 = hash0 := ⟨_, rfl⟩
  have hz : ∀ w, Sem.run Tryz.prog (zeroValue 123) w = .ok (.agg C0) w := fun w => by rw [hC0]; exact zeroHash w
  have HZ := Lib.hid (show C0.size = 73 by rw [hC0]; rfl)
  have HX := Lib.hid (And.intro hP (And.intro hn (And.intro hn64 hps)))
  have HR := Lib.hid hR
  clear hC0 hP hn hn64 hps hR
  go_enter Tryz.func33, Tryz.ntmps33
  go_wp2_with fail
  rw [← z16b]
  have HB0 := Lib.hid (Blk.new w 24 (arrV .u8 (List.replicate 16 0)))
  have HG0 := Lib.hid (World.grownBy_alloc w (.cells (arrV .u8 (List.replicate 16 0)) 24) none)
  generalize w.alloc (.cells (arrV .u8 (List.replicate 16 0)) 24) = w0 at *
  refine (start_is w0).mono ?_
  rintro e w1 ⟨rfl, hk1⟩
  obtain ⟨cs, hcs⟩ : ∃ cs, cs = hashV startS.ws startS.bs 0 := ⟨_, rfl⟩
  rw [← hcs]
  have hsz : cs.size = 73 := by rw [hcs]; exact hash_size _ _ _ rfl rfl
  have HI := Lib.hid (show (Tryz.prog.info? 123).map (·.size) = some cs.size by rw [hsz]; exact hash_info)
  have HO := Lib.hid (show (cs.all fun x => x.oneCell') = true by rw [hcs]; exact hash_one _ _ _)
  have HS := Lib.hid hsz
  have HC := Lib.hid hcs
  have HB1 := Lib.hid (HB0.out.grown hk1 (by simp))
  have HG1 := Lib.hid (grown_trans HG0.out hk1)
  have HLT := Lib.hid (And.intro HB1.out.lt HG1.out.size)
  clear hsz hcs hk1 HB0 HG0
  go_wp2_with (refine wpList_store_row rfl 123 _ _ rfl w1.heap.size cs rfl rfl 123 _ (heap_alloc_new w1 _) HI.out (by rw [HS.out]; exact HZ.out) HO.out ?_)
  have hH2 : HashIs ((w1.alloc (.cells C0 123)).setRow w1.heap.size cs) w1.heap.size startS := ⟨by have := Blk.row (Blk.new w1 123 C0) cs; rw [HC.out] at this ⊢; exact this, rfl, rfl⟩
  have hB2 := Blk.farRow (HB1.out.alloc (.cells C0 123)) (Nat.ne_of_lt HB1.out.lt) cs
  have hG2 := grown_row (grown_trans HG1.out (World.grownBy_alloc w1 (.cells C0 123) none)) (g := w1.heap.size) (.inl HG1.out.size) cs
  have hs2 : ((w1.alloc (.cells C0 123)).setRow w1.heap.size cs).heap.size = w1.heap.size + 1 := by rw [setRow_size, World.size_alloc]
  generalize (w1.alloc (.cells C0 123)).setRow w1.heap.size cs = w2 at *
  rw [← hs2]
  have hA3 := Blk.new w2 5 (arrV .u8 [a0 % 256])
  have hG3 := World.grownBy_alloc w2 (.cells (arrV .u8 [a0 % 256]) 5) none
  generalize hw3 : w2.alloc (.cells #[.int .u8 (a0 % 256)] 5) = w3
  rw [show w2.alloc (.cells (arrV .u8 [a0 % 256]) 5) = w3 from hw3] at hA3 hG3
  clear hw3 HI HO HS HC HB1 HG1 hz HZ
  refine (write_is w3 w1.heap.size startS (hH2.grown hG3 (by simp)) (by have := HLT.out.1; have := HR.out.lt; omega) ((HR.out.grown hG2 (by simp)).grown hG3 (by simp)) (some ⟨w2.heap.size, 0, none⟩) 1 1 [a0 % 256] rfl (BytesI.blk hA3 (fun j hj => by simp at hj; subst hj; simp)) (fun ad e _ => by obtain rfl := Option.some.inj e; exact fun h => by simp at h; omega) (Nat.le_refl _) (by show 0 + 1 ≤ _; omega)).mono ?_
  rintro e w4 ⟨rfl, hH4, hk4⟩
  have HH4 := Lib.hid hH4
  have HB4 := Lib.hid ((hB2.grown hG3 (by simp)).grown hk4 (by intro e; have := Option.some.inj e; have := HLT.out.1; omega))
  have HG4 := Lib.hid (grown_off (grown_trans hG2 hG3) hk4 HLT.out.2)
  clear hH2 hB2 hG2 hs2 hA3 hG3 hH4 hk4
  go_wp2_with fail
  go_loopw [17] (fun i wr => ∃ k : Nat, k ≤ n ∧ i = .int .i64 (k : Int) ∧ HashIs wr w1.heap.size ((ps.take k).foldl partS (writeS startS [a0 % 256])) ∧ Blk wr w.heap.size 24 (arrV .u8 (List.replicate 16 0)) ∧ w.grownBy wr none) (fun i _ => n - (intOf i).toNat)
  case atStart => exact ⟨0, by omega, rfl, HH4.out, HB4.out, HG4.out⟩
  case round =>
    obtain ⟨k, hk, hi, hH, hB, hK⟩ := hrel
    obtain ⟨I, hI⟩ : ∃ I : Int, I = (k : Int) := ⟨_, rfl⟩
    rw [← hI] at hi
    subst hi
    by_cases hlt : k < n
    · have d1 : decide (I < (n : Int)) = true := by simp; omega
      obtain ⟨ad, B, m, c', rfl, hcell, hpl, hmc, hpb⟩ := HX.out.1 k (by rw [HX.out.2.1]; exact hlt)
      obtain ⟨p, hp⟩ : ∃ p, p = ps.getD k [] := ⟨_, rfl⟩
      rw [← hp] at hpl hpb
      have hpm : m ≤ 65536 := by
        have : p ∈ ps := by rw [hp, List.getD, List.getElem?_eq_getElem (by rw [HX.out.2.1]; exact hlt)]; exact List.getElem_mem _
        have := HX.out.2.2.2 p this
        omega
      have hkI : I.toNat = k := by omega
      have hcy : wr.cell? (ad.add I.toNat) = some (.slice B m c') := by rw [hkI]; exact hK.cell hcell (by simp)
      have hx0 : 0 ≤ I ∧ I < (n : Int) := by omega
      have hbound : ((ps.take k).foldl partS (writeS startS [a0 % 256])).n ≤ 1 + k * 65540 := by
        have := parts_n (ps.take k) (writeS startS [a0 % 256]) (fun q hq => HX.out.2.2.2 q (List.mem_of_mem_take hq))
        rw [List.length_take, HX.out.2.1, Nat.min_eq_left hk] at this
        rw [show (writeS startS [a0 % 256]).n = 1 from by rw [writeS_n]; rfl] at this
        exact this
      have hnext : (ps.take (k + 1)).foldl partS (writeS startS [a0 % 256]) = writeS (writeS ((ps.take k).foldl partS (writeS startS [a0 % 256])) (wordB ((m : Int) % 4294967296))) p := by
        rw [take_push' ps k [] (by rw [HX.out.2.1]; exact hlt), List.foldl_append, ← hp, ← hpl]; rfl
      obtain ⟨s, hs⟩ : ∃ s, s = (ps.take k).foldl partS (writeS startS [a0 % 256]) := ⟨_, rfl⟩
      rw [← hs] at hH hnext hbound
      have HI := Lib.hid (And.intro hI (And.intro hlt (And.intro hkI (And.intro hbound (And.intro hpm hnext)))))
      have HP := Lib.hid (And.intro hpl (And.intro hmc hpb))
      have HH := Lib.hid hH
      have HB := Lib.hid hB
      have HK := Lib.hid hK
      have HX0 := Lib.hid hx0
      have hsa : ∀ w b, Sem.run Tryz.prog (Instr.sliceAt 126 (.pointer (some ⟨b, 0, none⟩)) none none none) w = .ok (.slice (some ⟨b, 0, none⟩) 4 4) w := fun w b => slice_all (P := Tryz.prog) (w := w) (b := b) (o := 0) (t := 126) Tryz.underlying126 (by kernel_rfl)
      clear hI hlt hkI hbound hpm hnext hpl hmc hpb hH hB hK hcell hs hp hk
      go_wp2_with fail
      rw [← z4b]
      have hA3 := Blk.new wr 126 (arrV .u8 (List.replicate 4 0))
      have hG3 := World.grownBy_alloc wr (.cells (arrV .u8 (List.replicate 4 0)) 126) none
      have HLK := Lib.hid (show w1.heap.size < wr.heap.size from HH.out.1.lt)
      have hsw : wr.heap.size < (wr.alloc (.cells (arrV .u8 (List.replicate 4 0)) 126)).heap.size := by rw [World.size_alloc]; omega
      generalize wr.alloc (.cells (arrV .u8 (List.replicate 4 0)) 126) = w3 at *
      refine (put_is w3 wr.heap.size 0 4 4 126 (List.replicate 4 0) ((m : Int) % 4294967296) hA3 (by simp) (Nat.le_refl _)).mono ?_
      rintro e w4 ⟨rfl, hA4, hk4⟩
      have hH4 := (HH.out.grown hG3 (by simp)).grown hk4 (by intro e; have := Option.some.inj e; have := HLK.out; omega)
      have hB4 := (HB.out.grown hG3 (by simp)).grown hk4 (by intro e; have := Option.some.inj e; have := HB.out.lt; omega)
      have hK4 := grown_off (grown_trans HK.out hG3) hk4 HK.out.size
      have HH4 := Lib.hid hH4
      have HA4 := Lib.hid hA4
      have HB4 := Lib.hid hB4
      have HK4 := Lib.hid hK4
      clear hA3 hG3 hsw hA4 hk4 hH4 hB4 hK4
      go_wp2_with fail
      refine (write_is w4 w1.heap.size _ HH4.out (by have := HLT.out.1; have := HR.out.lt; omega) (HR.out.grown HK4.out (by simp)) (some ⟨wr.heap.size, 0, none⟩) 4 4 (wordB ((m : Int) % 4294967296)) rfl (BytesI.blk HA4.out (fun j hj => by
          have : j < 4 := hj
          refine ⟨by rw [over_length, List.length_replicate]; omega, ?_⟩
          have : j = 0 ∨ j = 1 ∨ j = 2 ∨ j = 3 := by omega
          rcases this with rfl | rfl | rfl | rfl <;> rfl)) (fun ad e _ => by obtain rfl := Option.some.inj e; exact fun h => by have := HLK.out; simp at h; omega) (Nat.le_refl _) (by have := HI.out; have := HX.out.2.2.1; omega)).mono ?_
      rintro e w5 ⟨rfl, hH5, hk5⟩
      have HH5 := Lib.hid hH5
      have HB5 := Lib.hid (HB4.out.grown hk5 (by intro e; have := Option.some.inj e; have := HLT.out.1; omega))
      have HK5 := Lib.hid (grown_off HK4.out hk5 HLT.out.2)
      clear hH5 hk5 HH4 HA4 HB4 HK4
      go_wp2_with fail
      refine (write_is w5 w1.heap.size _ HH5.out (by have := HLT.out.1; have := HR.out.lt; omega) (HR.out.grown HK5.out (by simp)) B m c' p HP.out.1 (HP.out.2.2.grown HK5.out) (fun ad e hne => by
          have h1 := HP.out.2.2.lt ad e hne
          have h2 := HLT.out.2
          omega) HP.out.2.1 (by rw [writeS_n]; have := HI.out; have := HX.out.2.2.1; show _ + 4 + m ≤ _; omega)).mono ?_
      rintro e w6 ⟨rfl, hH6, hk6⟩
      have HH6 := Lib.hid hH6
      have HB6 := Lib.hid (HB5.out.grown hk6 (by intro e; have := Option.some.inj e; have := HLT.out.1; omega))
      have HK6 := Lib.hid (grown_off HK5.out hk6 HLT.out.2)
      clear hH6 hk6 HH5 HB5 HK5 hsa
      go_wp2_with fail
      go_roundw
      case rel =>
        obtain ⟨hI, hlt, hkI, hbound, hpm, hnext⟩ := HI.out
        have := HX.out.2.2.1
        exact ⟨k + 1, by omega, by rw [hI, w64 _ ⟨by omega, by omega⟩]; rfl, by rw [hnext]; exact HH6.out, HB6.out, HK6.out⟩
      case measure => obtain ⟨hI, hlt, hkI, _⟩ := HI.out; have := HX.out.2.2.1; simp only [intOf]; rw [w64 _ ⟨by omega, by omega⟩]; omega
    · have d1 : decide (I < (n : Int)) = false := by simp; omega
      obtain rfl : k = n := by omega
      rw [List.take_of_length_le (by rw [HX.out.2.1]; exact Nat.le_refl _)] at hH
      have hbound : (ps.foldl partS (writeS startS [a0 % 256])).n ≤ 1073741824 := by
        have := parts_n ps (writeS startS [a0 % 256]) HX.out.2.2.2
        rw [HX.out.2.1, show (writeS startS [a0 % 256]).n = 1 from by rw [writeS_n]; rfl] at this
        have := HX.out.2.2.1
        omega
      have HH := Lib.hid hH
      have HB := Lib.hid hB
      have HK := Lib.hid hK
      have HBD := Lib.hid hbound
      clear hI hlt hk hH hB hK hbound
      go_wp2_with fail
      refine (sum_isK20 wr w1.heap.size _ HH.out (HR.out.grown HK.out (by simp)) HBD.out).mono ?_
      rintro e w5 ⟨rfl, hk5⟩
      obtain ⟨ds, hds⟩ : ∃ ds, ds = arrV .u8 (digS (framedS a0 ps)) := ⟨_, rfl⟩
      rw [show arrV .u8 (digS (ps.foldl partS (writeS startS [a0 % 256]))) = ds from hds.symm]
      have hsz : ds.size = 32 := by rw [hds, arr_size, digS_length]
      have HI3 := Lib.hid (show (Tryz.prog.info? 80).map (·.size) = some ds.size by rw [hsz]; exact info32)
      have HS3 := Lib.hid (And.intro hsz (show (ds.all fun x => x.oneCell') = true by rw [hds]; exact arr_one _ _))
      have HD := Lib.hid hds
      have HB5 := Lib.hid (HB.out.grown hk5 (by simp))
      have HK5 := Lib.hid (grown_trans HK.out hk5)
      clear hsz hds hk5
      obtain ⟨c6, hc6⟩ : ∃ c6, c6 = arrV .u8 (ofS a0 ps) := ⟨_, rfl⟩
      have hs16 : c6.size = 16 := by rw [hc6, arr_size, ofS_length]
      have HI6 := Lib.hid (show (Tryz.prog.info? 24).map (·.size) = some c6.size by rw [hs16]; kernel_rfl)
      have HI6' := Lib.hid (show (Tryz.prog.info? 24).map (·.size) = some c6.toList.length by rw [Array.length_toList, hs16]; kernel_rfl)
      have HS6 := Lib.hid (And.intro hs16 (And.intro (show (c6.all fun x => x.oneCell') = true by rw [hc6]; exact arr_one _ _) hc6))
      have HB7 := Lib.hid (fun o => Blk.row (Blk.new w5 80 o) ds)
      have HB8 := Lib.hid (fun o => Blk.farRow (HB5.out.alloc o) (Nat.ne_of_lt HB5.out.lt) ds)
      have HR7 := Lib.hid (show ∀ o, World.rangeAt ((w5.alloc (.cells o 80)).setRow w5.heap.size ds) w5.heap.size 0 c6.toList from fun o j v hv => by
        have hj : j < 16 := by
          have := (List.getElem?_eq_some_iff.1 hv).1
          rw [Array.length_toList, HS6.out.1] at this
          exact this
        rw [Nat.zero_add, (HB7.out o).cell, HD.out, arr_get (by rw [digS_length]; omega)]
        rw [HS6.out.2.2] at hv
        simp only [List.getElem?_map, ofS, List.getElem?_take, if_pos hj] at hv
        rw [← hv]
        simp [List.getD, List.getElem?_eq_getElem (show j < (digS (framedS a0 ps)).length by rw [digS_length]; omega)])
      clear hs16 hc6
      have hst : ∀ w b, Sem.run Tryz.prog (Instr.sliceAt 80 (.pointer (some ⟨b, 0, none⟩)) none (some (.int .i64 16)) none) w = .ok (.slice (some ⟨b, 0, none⟩) 16 32) w := fun w b =>
        slice_to (P := Tryz.prog) (w := w) (b := b) (o := 0) (q := 16) (t := 80) Tryz.underlying80 (by kernel_rfl) (by omega)
      have haa : ∀ w a, Sem.run Tryz.prog (Instr.arrayAt 24 (.slice (some a) 16 32)) w = .ok (.pointer (some a)) w := fun w a => arrayAt_run w a
      go_wp2_with (first
        | (refine wpList_store_row rfl 80 _ _ rfl w5.heap.size ds rfl rfl 80 _ (heap_alloc_new w5 _) HI3.out (by rw [HS3.out.1]; simp) HS3.out.2 ?_)
        | (refine wpList_load_mid rfl 24 _ rfl w5.heap.size 0 rfl c6.toList _ (HR7.out _) Tryz.underlying24 rfl HI6'.out ?_; rw [Array.toArray_toList])
        | (refine wpList_store_row rfl 24 _ _ rfl w.heap.size c6 rfl rfl 24 _ (HB8.out _) HI6.out (by rw [HS6.out.1]; simp [arrV]) HS6.out.2.1 ?_))
      refine bodyPost_ret (results_cell rfl _ _ _ ⟨w.heap.size, 0, none⟩ (.agg c6) rfl (run_loadVar_row _ w.heap.size 24 24 c6 (0, 0) _ ((HB8.out _).row c6) Tryz.underlying24 rfl HI6.out)) rfl ?_
      exact ⟨by rw [HS6.out.2.2], grown_row (grown_row (grown_trans HK5.out (World.grownBy_alloc w5 _ none)) (.inl HK5.out.size) ds) (.inl (Nat.le_refl _)) c6⟩
end Go.Proofs.YtmoebkdbnldbdaaGreatDoor
/-
  The last step of every law's row: what was there is as it was, so the arguments read as they read; the result is true.
-/
namespace Go.Proofs.YtmoebkdbnldbdaaGreatDoor
open Go.ChangeShapes Go.WideShapes Go.ChangeAt Go.RowKit

theorem laid_out : laidOutB Tryz.prog = true := by kernel_rfl

section
variable {H : Type} {enc : TypeId × Value → H} {W W' : World}
theorem trodAll_below : ∀ {ts : List TypeId} {vs : List Value} {ds : List (DataW H)} {ps : List MemPlace}, (∀ t ∈ ts, Tryz.prog.readableRec t = true ∧ t < Tryz.prog.types.size) →
    DataW.TrodAll enc Tryz.prog W 0 (fun _ => true) true ts vs ds ps → Below W.heap.size W W' → (∀ x ∈ ps, x.block < W.heap.size) →
    DataW.TrodAll enc Tryz.prog W' 0 (fun b => decide (b < W.heap.size)) true ts vs ds ps
  | [], [], [], _, _, h, _, _ => h
  | _ :: _, _ :: _, _ :: _, _, hT, ⟨p, q, h1, h2, e⟩, hb, hlt =>
    ⟨p, q, Below.trod laid_out (hT _ (by simp)).1 (hT _ (by simp)).2 h1 hb (fun x hx => hlt x (by rw [e]; exact List.mem_append_left _ hx)),
      trodAll_below (fun t ht => hT t (by simp [ht])) h2 hb (fun x hx => hlt x (by rw [e]; exact List.mem_append_right _ hx)), e⟩

theorem law_post {f : Func} {s : ChangeSpec} {args : Array Value} {ds gs : List (DataW H)} {before : List MemPlace}
    (hW : DataW.Whole enc Tryz.prog f.params.toList s.vars false W args.toList ds gs before) (hv : s.vars = [])
    (hfn : s.fn H (ds ++ gs) = { results := [.lit (.bool true)], args := ds }) (hres : f.resultTypes = #[4])
    (hT : (f.params.toList.all fun t => Tryz.prog.readableRec t && decide (t < Tryz.prog.types.size)) = true) (hb : Below W.heap.size W W') :
    s.post enc Tryz.prog f false true false false W args (.bool true) W' := by
  have hW' := hW
  obtain ⟨p, q, hA, hV, rfl, hfz, hnd⟩ := hW'
  have hlt : ∀ x ∈ p ++ q, x.block < W.heap.size := fun x hx => hW.lt x hx
  have hT' : ∀ t ∈ f.params.toList, Tryz.prog.readableRec t = true ∧ t < Tryz.prog.types.size := fun t ht => by
    have := List.all_eq_true.1 hT t ht
    simpa using this
  refine ⟨ds, gs, p ++ q, [], p, [], hW, ?_, ?_, ?_, hb.frame _, fun h => by cases h⟩
  · rw [hfn, hres]; exact trodAll_mk1 (shut_bool Tryz.underlying4 true)
  · rw [hfn]; exact trodAll_below hT' hA hb (fun x hx => hlt x (List.mem_append_left _ hx))
  · rw [hv, hfn]; rfl
end
end Go.Proofs.YtmoebkdbnldbdaaGreatDoor
