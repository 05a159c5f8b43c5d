/-
  Several texts in one: ChO, ChT.
-/
import Derived.Test.YtjcbfenkpdpbeaaDoorDg3
import Derived.Test.YtjcbfenkpdpbeaaDoorChSigns
/-
  chains.Digits: what it answers may be written.
-/

namespace Go.Proofs.YtjcbfenkpdpbeaaDoor
open Go.RowKit

theorem own_frozen {w : World} {base : Nat} {e : TypeId} {n g cap : Nat} {xs : List Value} (h : w.ownsRow base e 1 (.slice (some ⟨g, 0, none⟩) n cap) n xs) : w.frozen? ⟨g, 0, none⟩ = false := by
  rcases h.2 with ⟨h0, _⟩ | ⟨g', cap', cur, hv, hb, hg, _⟩
  · cases h0
  · cases hv
    exact Blk.frozen (show Blk w g e cur from hg) 0
set_option maxRecDepth 100000 in
set_option maxHeartbeats 600000 in
theorem digits_own (w : World) (d : List Int) (hd : d.length = 16) (hr : ∀ z ∈ d, 0 ≤ z ∧ z < 256) : Calls Tryd.prog 22 #[.agg (arrV .u8 d)] w fun e w' =>
    ∃ g cap, e = .returned (.slice (some ⟨g, 0, none⟩) 68 cap) ∧ (∀ j, j < 68 → w'.cell? ⟨g, j, none⟩ = some (.int .i64 ((digitsS d).getD j 0))) ∧ w.heap.size ≤ g ∧ w.grownBy w' none ∧ w'.frozen? ⟨g, 0, none⟩ = false := by
  obtain ⟨ds, hds⟩ : ∃ ds, ds = arrV .u8 d := ⟨_, rfl⟩
  have hsz : ds.size = 16 := by rw [hds, arr_size, hd]
  have HI := Lib.hid (show (Tryd.prog.info? 23).map (·.size) = some ds.size by rw [hsz]; kernel_rfl)
  have HD := Lib.hid (And.intro hds (And.intro hd hr))
  obtain ⟨i0, hi0, hz0, hz1, hz2⟩ := info_parts int_info
  have HI0 := Lib.hid (And.intro hi0 (And.intro hz0 (And.intro hz1 hz2)))
  rw [← hds]
  have hB0 := Blk.new w 23 ds
  have hG0 := World.grownBy_alloc w (.cells ds 23) none
  obtain ⟨w1, hmk, hown, hg1⟩ := run_make_own (P := Tryd.prog) (w.alloc (.cells ds 23)) w.heap.size 49 3 i0 (.int .i64 0) 1 Tryd.underlying49 hi0 hz0 hz1 .i64 .i64 68 (by rw [hz2]; decide) (by decide) (by simp)
  have HB1 := Lib.hid (hB0.grown hg1 (by simp))
  have HG1 := Lib.hid (grown_trans hG0 hg1)
  rw [World.size_alloc, show ((68 : Nat) : Int) = 68 from rfl] at hmk
  rw [World.size_alloc] at hown
  have HOWN := Lib.hid hown
  clear hds hsz hd hr hi0 hz0 hz1 hz2 hB0 hG0 hown hg1
  go_enter Tryd.func22, Tryd.ntmps22
  go_wp2_with (refine wpList_load_row rfl 23 _ rfl w.heap.size rfl 23 ds (0, 0) _ HB1.out Tryd.underlying23 rfl HI.out ?_)
  go_loopw [12, 3, 4] (fun i v z wr => ∃ k : Nat, k ≤ 16 ∧ i = .int .i64 (k : Int) ∧ wr.ownsRow w.heap.size 3 1 v (4 * k) ((digsS (d.take k)).map (Value.int .i64)) ∧ z = .int .i64 (sumD (digsS (d.take k))) ∧ w.grownBy wr none) (fun i _ _ _ => 16 - (intOf i).toNat)
  case atStart => exact ⟨0, by omega, rfl, HOWN.out, rfl, HG1.out⟩
  case round =>
    obtain ⟨k, hk, hi, hown, hz, hK⟩ := hrel
    obtain ⟨I, hI⟩ : ∃ I : Int, I = (k : Int) := ⟨_, rfl⟩
    rw [← hI] at hi
    obtain ⟨S, hS⟩ : ∃ S : Int, S = sumD (digsS (d.take k)) := ⟨_, rfl⟩
    rw [← hS] at hz
    subst hi hz
    have hSr := sumD_range (d.take k)
    rw [← hS, List.length_take, HD.out.2.1, Nat.min_eq_left hk] at hSr
    by_cases hlt : k < 16
    · have d1 : decide (I < 16) = true := by simp; omega
      have hkI : I.toNat = k := by omega
      obtain ⟨c, hc⟩ : ∃ c, c = d.getD k 0 := ⟨_, rfl⟩
      have hcr : 0 ≤ c ∧ c < 256 := by
        rw [hc, List.getD, List.getElem?_eq_getElem (by rw [HD.out.2.1]; exact hlt)]
        exact HD.out.2.2 _ (List.getElem_mem _)
      have kx := index16 wr (I := I) (cs := ds) (v := .int .u8 c) ⟨by omega, by omega⟩ (by rw [HD.out.1, hkI, hc]; exact arr_get (by rw [HD.out.2.1]; exact hlt))
      have hnext := digsS_take d k (by rw [HD.out.2.1]; exact hlt)
      rw [← hc] at hnext
      have hI16 : 0 ≤ I ∧ I < 16 := by omega
      have HK := Lib.hid (And.intro hI (And.intro hlt (And.intro hnext (And.intro hS (And.intro hSr (And.intro hcr hI16))))))
      have HOW := Lib.hid hown
      have HG := Lib.hid hK
      clear hI hlt hnext hS hSr hkI hc hown hK hk hI16
      go_wp2_with fail
      refine (base4_is wr c (by have := HK.out; omega)).mono ?_
      rintro e w2 ⟨rfl, hk2⟩
      obtain ⟨c4, hc4⟩ : ∃ c4, c4 = arrV .i64 (dig4 c) := ⟨_, rfl⟩
      rw [← hc4]
      have HC4 := Lib.hid hc4
      have HO2 := Lib.hid (own_keep HOW.out hk2)
      have HG2 := Lib.hid (grown_trans HG.out hk2)
      clear hc4 hk2 kx
      go_wp2_with fail
      go_loopw [18, 3, 4] (fun j v z wr => ∃ m : Nat, m ≤ 4 ∧ j = .int .i64 (m : Int) ∧ wr.ownsRow w.heap.size 3 1 v (4 * k + m) ((digsS (d.take k) ++ (dig4 c).take m).map (Value.int .i64)) ∧ z = .int .i64 (S + sumD ((dig4 c).take m)) ∧ w.grownBy wr none) (fun j _ _ _ => 4 - (intOf j).toNat)
      case atStart => exact ⟨0, by omega, rfl, by simpa using HO2.out, by simp [sumD], HG2.out⟩
      case round =>
        obtain ⟨m, hm, hj, hown, hz, hK⟩ := hrel
        obtain ⟨J, hJ⟩ : ∃ J : Int, J = (m : Int) := ⟨_, rfl⟩
        rw [← hJ] at hj
        obtain ⟨T, hT⟩ : ∃ T : Int, T = S + sumD ((dig4 c).take m) := ⟨_, rfl⟩
        rw [← hT] at hz
        subst hj hz
        by_cases hlt : m < 4
        · have d2 : decide (J < 4) = true := by simp; omega
          have hmJ : J.toNat = m := by omega
          obtain ⟨x, hx⟩ : ∃ x, x = (dig4 c).getD m 0 := ⟨_, rfl⟩
          have hxr : 0 ≤ x ∧ x ≤ 3 := by
            have hcs : m = 0 ∨ m = 1 ∨ m = 2 ∨ m = 3 := by omega
            rw [hx]
            rcases hcs with rfl | rfl | rfl | rfl <;> simp [dig4] <;> omega
          have kx := index4 wr (I := J) (cs := c4) (v := .int .i64 x) ⟨by omega, by omega⟩ (by rw [HC4.out, hmJ, hx]; exact arr_get (by rw [dig4_length]; exact hlt))
          have hpush := take_push4 (dig4 c) m (by rw [dig4_length]; exact hlt)
          rw [← hx] at hpush
          have hTr : 0 ≤ T ∧ T ≤ 300 := by
            have h1 := HK.out.2.2.2.2.1
            have hcs : m = 0 ∨ m = 1 ∨ m = 2 ∨ m = 3 := by omega
            rw [hT]
            have hh := HK.out.2.1
            rcases hcs with rfl | rfl | rfl | rfl <;> simp [dig4, sumD] <;> omega
          have HJ := Lib.hid (And.intro hJ (And.intro hlt (And.intro hpush (And.intro hT hm))))
          have HO := Lib.hid hown
          have HG3 := Lib.hid hK
          have hJ4 : 0 ≤ J ∧ J < 4 := by omega
          clear hJ hlt hpush hT hm hown hK hx hmJ
          go_wp2_with (at_builtin; refine wpList_append_one rfl _ _ 49 rfl w.heap.size 3 _ i0 Tryd.underlying49 HI0.out.1 HI0.out.2.1 HI0.out.2.2.1 HI0.out.2.2.2 _ _ _ rfl HO.out x rfl (by have := HJ.out.2.1; have := HK.out.2.1; omega) HG3.out.size ?_; intro v' w4 hown4 hgrow; have HO4 := Lib.hid hown4; have HG4 := Lib.hid (grown_own HG3.out hgrow HO.out (Nat.le_refl _)); clear hown4 hgrow)
          go_wp2_with fail
          go_roundw
          case rel =>
            obtain ⟨hJ, hlt, hpush, hT, hm⟩ := HJ.out
            refine ⟨m + 1, by omega, by rw [hJ]; rfl, ?_, ?_, HG4.out⟩
            · rw [hpush, ← List.append_assoc, List.map_append]; exact HO4.out
            · rw [hpush, sumD_append, ← Int.add_assoc, ← hT]; simp [sumD]
          case measure => obtain ⟨hJ, hlt, hpush, hT, hm⟩ := HJ.out; simp [intOf]; omega
        · have d2 : decide (J < 4) = false := by simp; omega
          obtain rfl : m = 4 := by omega
          have ht4 : (dig4 c).take 4 = dig4 c := rfl
          rw [ht4] at hown hT
          clear ht4
          have HO := Lib.hid hown
          have HG3 := Lib.hid hK
          have HT := Lib.hid hT
          have hI16 := HK.out.2.2.2.2.2.2
          clear hown hK hT hlt hm hJ
          go_wp2_with fail
          go_roundw
          case rel =>
            obtain ⟨hI, hlt, hnext, hS, hSr, hcr, _⟩ := HK.out
            refine ⟨k + 1, by omega, by rw [hI]; rfl, ?_, ?_, HG3.out⟩
            · rw [hnext, show 4 * (k + 1) = 4 * k + 4 by omega]; exact HO.out
            · rw [hnext, sumD_append, ← hS, ← HT.out]
          case measure => obtain ⟨hI, hlt, _⟩ := HK.out; simp [intOf]; omega
    · have d1 : decide (I < 16) = false := by simp; omega
      obtain rfl : k = 16 := by omega
      rw [List.take_of_length_le (by rw [HD.out.2.1]; exact Nat.le_refl _)] at hown hS
      have HOW := Lib.hid hown
      have HG := Lib.hid hK
      have HS := Lib.hid (And.intro hS hSr)
      clear hI hlt hown hK hS hSr hk
      go_wp2_with fail
      refine (base4_is wr S (by have := HS.out; omega)).mono ?_
      rintro e w2 ⟨rfl, hk2⟩
      obtain ⟨c4, hc4⟩ : ∃ c4, c4 = arrV .i64 (dig4 S) := ⟨_, rfl⟩
      rw [← hc4]
      have hsz4 : c4.size = 4 := by rw [hc4]; rfl
      have HI4 := Lib.hid (show (Tryd.prog.info? 70).map (·.size) = some c4.size by rw [hsz4]; kernel_rfl)
      have HS4 := Lib.hid (And.intro hsz4 (show (c4.all fun x => x.oneCell') = true by rw [hc4]; simp [arrV, Value.oneCell']))
      have HB4 := Lib.hid (fun o => Blk.row (Blk.new w2 70 o) c4)
      have HC4 := Lib.hid hc4
      have HO2 := Lib.hid (fun o => own_keep HOW.out (grown_row (grown_trans hk2 (World.grownBy_alloc w2 o none)) (g := w2.heap.size) (.inl hk2.size) c4))
      have HG2 := Lib.hid (fun o => grown_row (grown_trans (grown_trans HG.out hk2) (World.grownBy_alloc w2 o none)) (g := w2.heap.size) (.inl (grown_trans HG.out hk2).size) c4)
      have HZ := Lib.hid (show w.heap.size ≤ w2.heap.size from (grown_trans HG.out hk2).size)
      have hsa : ∀ w b, Sem.run Tryd.prog (Instr.sliceAt 70 (.pointer (some ⟨b, 0, none⟩)) none none none) w = .ok (.slice (some ⟨b, 0, none⟩) 4 4) w := fun w b => arr_slice_all Tryd.underlying70 (by kernel_rfl)
      clear hk2 hsz4 hc4
      go_wp2_with (first
        | (refine wpList_store_row rfl 70 _ _ rfl w2.heap.size c4 rfl rfl 70 _ (heap_alloc_new w2 _) HI4.out (by rw [HS4.out.1]; simp) HS4.out.2 ?_)
        | (at_builtin; refine wpList_append_own _ rfl _ _ 49 rfl w.heap.size 3 i0 (.int .i64 0) 1 8 Tryd.underlying49 HI0.out.1 HI0.out.2.1 HI0.out.2.2.1 HI0.out.2.2.2 rfl (by decide) _ _ _ rfl (HO2.out _) ⟨w2.heap.size, 0, none⟩ 4 4 c4.toList rfl (show c4.toList.length = 4 * 1 by rw [Array.length_toList]; exact HS4.out.1) (fun j u hu => by rw [addr_zero_add, (HB4.out _).cell j, ← Array.getElem?_toList]; exact hu) (by rw [HC4.out]; simp [Value.oneCell']) (by simp only [maxLen]; omega) (by omega) (by rw [setRow_size, World.size_alloc]; have := HZ.out; omega) ?_; intro v' w4 hown4 hgrow _))
      have hfin : w4.ownsRow w.heap.size 3 1 v' 68 ((digitsS d).map (Value.int .i64)) := by
        rw [digitsS, ← HS.out.1, List.map_append]
        rw [HC4.out] at hown4
        exact hown4
      obtain ⟨g, cap, rfl, hg, hcell⟩ := own_some hfin (by omega)
      have hfz := own_frozen hfin
      have hG4 := grown_own (HG2.out _) hgrow (HO2.out _) (Nat.le_refl _)
      go_ret
      exact ⟨g, cap, rfl, hcell, hg, hG4, hfz⟩
end Go.Proofs.YtjcbfenkpdpbeaaDoor
/-
  ChainsKept, walked.
-/
namespace Go.Proofs.YtjcbfenkpdpbeaaDoor
open Go.RowKit

theorem leaf_mod (leaf : Int) : ∃ u lf : Int, IntKind.u64.wrap leaf = u ∧ leaf % 18446744073709551616 = u ∧ 0 ≤ u ∧ u.tmod 32 = lf ∧ u % 32 = lf ∧ IntKind.i64.wrap lf = lf ∧ 0 ≤ lf ∧ lf < 32 :=
  ⟨leaf % 18446744073709551616, leaf % 18446744073709551616 % 32, by rw [IntKind.wrap_u64], rfl, by omega, Int.tmod_eq_emod_of_nonneg (by omega), rfl, by rw [IntKind.wrap_i64]; omega, by omega, by omega⟩
theorem digits_own_v (w : World) (d : List Int) (hd : isDig d) (dd : Array Value) (h : dd = arrV .u8 d) : Calls Tryd.prog 22 #[.agg dd] w fun e w' =>
    ∃ g cap, e = .returned (.slice (some ⟨g, 0, none⟩) 68 cap) ∧ (∀ j, j < 68 → w'.cell? ⟨g, j, none⟩ = some (.int .i64 ((digitsS d).getD j 0))) ∧ w.heap.size ≤ g ∧ w.grownBy w' none ∧ w'.frozen? ⟨g, 0, none⟩ = false := by
  subst h; exact digits_own w d hd.1 hd.2
theorem rowV_cells {w : World} {b : Nat} (f : Nat → Array Value) (hf : ∀ k, (f k).size = 16) : ∀ n, (∀ k, k < n → w.rangeAt b (0 + k * 16) (f k).toList) → ∀ j u, (rowV f n)[j]? = some u → w.cell? ⟨b, j, none⟩ = some u
  | 0, _, j, u, h => by simp [rowV] at h
  | n + 1, hR, j, u, h => by
    have hl := rowV_length f hf n
    rw [rowV] at h
    by_cases hj : j < n * 16
    · rw [List.getElem?_append_left (by omega)] at h
      exact rowV_cells f hf n (fun k hk => hR k (by omega)) j u h
    · rw [List.getElem?_append_right (by omega), hl] at h
      have := hR n (by omega) (j - n * 16) u h
      rwa [show 0 + n * 16 + (j - n * 16) = j by omega] at this
theorem rowV_one (f : Nat → Array Value) (h : ∀ k, ((f k).all fun v => v.oneCell') = true) : ∀ n, ∀ u ∈ rowV f n, u.oneCell' = true
  | 0, u, hu => by cases hu
  | n + 1, u, hu => by
    rcases List.mem_append.1 hu with h1 | h1
    · exact rowV_one f h n u h1
    · exact (Array.all_eq_true_iff_forall_mem.1 (h n)) u (by simpa using h1)
set_option maxRecDepth 100000 in
set_option maxHeartbeats 1000000 in
theorem sameInts_is (w : World) (g1 g2 c1 c2 : Nat) (L : List Int) (h1 : ∀ j, j < 68 → w.cell? ⟨g1, j, none⟩ = some (.int .i64 (L.getD j 0))) (h2 : ∀ j, j < 68 → w.cell? ⟨g2, j, none⟩ = some (.int .i64 (L.getD j 0))) :
    Calls Tryd.prog 23 #[.slice (some ⟨g1, 0, none⟩) 68 c1, .slice (some ⟨g2, 0, none⟩) 68 c2] w fun e w' => e = .returned (.bool true) ∧ w.grownBy w' none := by
  have H1 := Lib.hid h1
  have H2 := Lib.hid h2
  clear h1 h2
  go_enter Tryd.func23, Tryd.ntmps23
  go_wp2_with fail
  go_loopw [13] (fun i wr => ∃ k : Nat, k ≤ 68 ∧ i = .int .i64 (k : Int) ∧ w.grownBy wr none) (fun i _ => 68 - (intOf i).toNat)
  case atStart => exact ⟨0, by omega, rfl, World.grownBy.refl w none⟩
  case round =>
    obtain ⟨k, hk, hi, hK⟩ := hrel
    obtain ⟨I, hI⟩ : ∃ I : Int, I = (k : Int) := ⟨_, rfl⟩
    rw [← hI] at hi
    subst hi
    by_cases hlt : k < 68
    · have d1 : decide (I < 68) = true := by simp; omega
      obtain ⟨x, hx⟩ : ∃ x, x = L.getD k 0 := ⟨_, rfl⟩
      have hkI : I.toNat = k := by omega
      have b1 : wr.cell? ⟨g1, I.toNat, none⟩ = some (.int .i64 x) := by rw [hkI, hx]; exact hK.cell (H1.out k hlt) (by simp)
      have b2 : wr.cell? ⟨g2, I.toNat, none⟩ = some (.int .i64 x) := by rw [hkI, hx]; exact hK.cell (H2.out k hlt) (by simp)
      have hI68 : 0 ≤ I ∧ I < 68 := by omega
      have HI := Lib.hid (And.intro hI hlt)
      have HG := Lib.hid hK
      clear hI hlt hkI hx hK hk
      go_wp2_with fail
      go_quiet (fail)
      go_wp2_with fail
      go_roundw
      case rel =>
        obtain ⟨hI, hlt⟩ := HI.out
        exact ⟨k + 1, by omega, by rw [hI]; rfl, ⟨HG.out.os, HG.out.tape, HG.out.output, HG.out.size, HG.out.block⟩⟩
      case measure => obtain ⟨hI, hlt⟩ := HI.out; simp [intOf]; omega
    · have d1 : decide (I < 68) = false := by simp; omega
      have HG := Lib.hid hK
      clear hlt hI hK hk
      go_wp2_with fail
      go_ret
      exact ⟨rfl, HG.out⟩

set_option maxRecDepth 100000 in
set_option maxHeartbeats 4000000 in
theorem kept_main (w : World) (hR : Rounds w) (seed : List Int) (hs : isDig seed) (leaf : Int) (d : List Int) (hd : isDig d) :
    Calls Tryd.prog 8 #[.agg (arrV .u8 seed), .int .i64 leaf, .agg (arrV .u8 d)] w fun e w' => e = .returned (.bool true) ∧ w.grownBy w' none := by
  obtain ⟨u, lf, hu1, hu2, hu0, hu3, hu4, hu5, hlf⟩ := leaf_mod leaf
  obtain ⟨Z16, hZ16⟩ : ∃ Z, Z = arrV .u8 (List.replicate 16 0) := ⟨_, rfl⟩
  have hz16 : ∀ w, Sem.run Tryd.prog (zeroValue 23) w = .ok (.agg Z16) w := fun w => by rw [hZ16]; exact z16run w
  have hZs : Z16.size = 16 := by rw [hZ16]; rfl
  obtain ⟨ds, hds⟩ : ∃ ds, ds = arrV .u8 seed := ⟨_, rfl⟩
  obtain ⟨dd, hdd⟩ : ∃ dd, dd = arrV .u8 d := ⟨_, rfl⟩
  rw [← hds, ← hdd]
  obtain ⟨rs, hrs⟩ : ∃ rs, rs = arrV .u8 (pubS seed lf) := ⟨_, rfl⟩
  obtain ⟨ddl, hddl⟩ : ∃ l, l = dd.toList := ⟨_, rfl⟩
  have h16 : ds.size = 16 ∧ dd.size = 16 ∧ rs.size = 16 := ⟨by rw [hds, arr_size, hs.1], by rw [hdd, arr_size, hd.1], by rw [hrs, arr_size]; exact (pubS_dig _ _).1⟩
  have HI := Lib.hid (show (Tryd.prog.info? 23).map (·.size) = some ddl.length by rw [hddl, Array.length_toList, h16.2.1]; exact info16)
  have HDL := Lib.hid (show ddl.toArray = arrV .u8 d by rw [hddl, Array.toArray_toList, hdd])
  have hex : ∃ (i0 : TypeInfo) (z0 : Value), Tryd.prog.info? 23 = some i0 ∧ i0.zero = some z0 ∧ i0.size = 16 ∧ i0.bytes = 16 ∧ z0.cells.size = 16 := by
    cases hq : Tryd.prog.info? 23 with
    | none => exact absurd info16 (by rw [hq]; simp)
    | some i0 =>
      have h1 : (Tryd.prog.info? 23).map (·.bytes) = some 16 := by kernel_rfl
      have h2 : (Tryd.prog.info? 23).bind (·.zero) = some (.agg (arrV .u8 (List.replicate 16 0))) := by kernel_rfl
      have h3 := info16
      rw [hq] at h1 h2 h3
      exact ⟨i0, _, rfl, h2, by simpa using h3, by simpa using h1, rfl⟩
  obtain ⟨i0, z0, hi0, hz0, hz1, hz2, hz3⟩ := hex
  have HI0 := Lib.hid (And.intro hi0 (And.intro hz0 (And.intro hz1 (And.intro hz2 hz3))))
  have HD := Lib.hid (And.intro h16.1 (And.intro h16.2.1 (And.intro hZs (And.intro h16.2.2 (show (rs.all fun x => x.oneCell') = true by rw [hrs]; exact arr_one _ _)))))
  have HN := Lib.hid (And.intro hs (And.intro hd (And.intro hR hlf)))
  have HE := Lib.hid (And.intro hddl hdd)
  have S2 := Lib.hid (fun (z : World) (hz : w.grownBy z none) => sign_v z (hR.grown hz (by simp)) seed hs lf hlf d hd ds dd hds hdd)
  have S0 := Lib.hid (fun (z : World) (hz : w.grownBy z none) (b : Nat) (hD : DigsAt z b 0 (sigsS seed lf d)) => back_v z (hR.grown hz (by simp)) lf hlf b 0 68 seed d hd hD dd rs hdd hrs)
  clear hrs hds hdd hR hs hd hZ16 hZs hddl h16 hi0 hz0 hz1 hz2 hz3 hlf
  go_enter Tryd.func8, Tryd.ntmps8
  go_wp2_with fail
  refine (alive_is _).mono ?_
  rintro e w1 ⟨rfl, hk1⟩
  have hb1 := Blk.new (w.alloc (.cells ds 23)) 23 dd
  rw [World.size_alloc] at hb1
  have HB1 := Lib.hid (And.intro (((Blk.new w 23 ds).alloc (.cells dd 23)).grown hk1 (by simp)) (And.intro (hb1.grown hk1 (by simp)) (grown_trans (grown_trans (World.grownBy_alloc w (.cells ds 23) none) (World.grownBy_alloc _ (.cells dd 23) none)) hk1)))
  have hn1 : w.heap.size + 2 ≤ w1.heap.size := by have := hk1.size; simp only [World.size_alloc] at this; omega
  clear hk1 hb1
  go_wp2_with (first
    | (refine wpList_load_row rfl 23 _ rfl w.heap.size rfl 23 ds (0, 0) _ HB1.out.1 Tryd.underlying23 rfl (by rw [HD.out.1]; exact info16) ?_)
    | (refine wpList_load_row rfl 23 _ rfl (w.heap.size + 1) rfl 23 dd (0, 0) _ HB1.out.2.1 Tryd.underlying23 rfl (by rw [HD.out.2.1]; exact info16) ?_))
  refine (S2.out w1 HB1.out.2.2).mono ?_
  rintro e w2 ⟨b, rfl, hb, hth, hD2, hk2⟩
  have HB2 := Lib.hid (And.intro (HB1.out.1.grown hk2 (by simp)) (And.intro (HB1.out.2.1.grown hk2 (by simp)) (And.intro (grown_trans HB1.out.2.2 hk2) (And.intro hth hD2))))
  have hbl : b < w2.heap.size := by
    obtain ⟨v, hv⟩ := Option.isSome_iff_exists.1 (hth 0 (by omega)).1
    exact World.block_lt_of_cell? w2 _ hv
  clear hth hD2 hk2
  have hown3 := World.ownsRow_lit (base := w2.heap.size) (e := 23) (size := 16) w2 #[] 0 (Nat.le_refl _) (by decide) rfl
  have hg3 := World.grownBy_alloc w2 (.cells #[] 23) none
  obtain ⟨L, hL⟩ : ∃ L, L = rowV (fun j => arrV .u8 (sigS seed lf d j)) 68 := ⟨_, rfl⟩
  have hLl : L.length = 68 * 16 := by rw [hL]; exact rowV_length _ (fun j => by rw [arr_size]; exact (sigS_dig _ _ _ _).1) 68
  have hL1 : ∀ u ∈ L, u.oneCell' = true := by rw [hL]; exact rowV_one _ (fun j => arr_one _ _) 68
  have HO3 := Lib.hid (show _ ∧ _ ∧ (∀ u ∈ L, u.oneCell' = true) ∧ ∀ j u, L[j]? = some u → (w2.alloc (.cells #[] 23)).cell? ⟨b, j, none⟩ = some u from And.intro hown3 (And.intro hLl (And.intro hL1 (fun j u hu => by
    rw [hL] at hu
    exact rowV_cells (w := w2.alloc (.cells #[] 23)) (b := b) (fun j => arrV .u8 (sigS seed lf d j)) (fun j => by rw [arr_size]; exact (sigS_dig _ _ _ _).1) 68 (fun k hk => by
      have := (HB2.out.2.2.2.2.grown hg3) k (by rw [sigsS_length]; exact hk)
      rwa [sigsS, upto_getD hk] at this) j u hu))))
  have HL := Lib.hid hL
  clear hLl hL1 hL hown3 hg3
  go_wp2_with (first
    | (at_builtin; refine wpList_append_own _ rfl _ _ 33 rfl w2.heap.size 23 i0 z0 16 16 Tryd.underlying33 HI0.out.1 HI0.out.2.1 HI0.out.2.2.1 HI0.out.2.2.2.1 HI0.out.2.2.2.2 (by decide) _ _ _ rfl HO3.out.1 ⟨b, 0, none⟩ 68 68 L rfl HO3.out.2.1 (fun j u hu => by rw [addr_zero_add]; exact HO3.out.2.2.2 j u hu) HO3.out.2.2.1 (by simp only [maxLen]; omega) (by omega) (by rw [World.size_alloc]; omega) ?_; intro v' w4 hown4 hgrow4 _; rw [Nat.zero_add, List.nil_append, HL.out] at hown4; have HO4 := Lib.hid hown4; have HG4 := Lib.hid (show w2.grownBy w4 none from grown_fresh (World.grownBy_alloc w2 (.cells #[] 23) none) hgrow4 (Nat.le_refl _)); clear hown4 hgrow4; obtain ⟨gw, capw, hv4, hgw, hgw2, hthw, hDw⟩ := own_rows (fun j => arrV .u8 (sigS seed lf d j)) (fun j => by rw [arr_size]; exact (sigS_dig _ _ _ _).1) (by omega) HO4.out; subst hv4; have HW4 := Lib.hid (show DigsAt w4 gw 0 (sigsS seed lf d) from fun j hj => by (rw [sigsS_length] at hj; rw [sigsS, upto_getD hj]; exact hDw j hj)); have HB4 := Lib.hid (And.intro (HB2.out.1.grown HG4.out (by simp)) (And.intro (HB2.out.2.1.grown HG4.out (by simp)) (And.intro (grown_trans HB2.out.2.2.1 HG4.out) (And.intro (there_to HB2.out.2.2.2.1 HG4.out (by simp)) (HB2.out.2.2.2.2.grown HG4.out))))); clear hthw hDw hgw)
    | (refine wpList_load_row rfl 23 _ rfl (w.heap.size + 1) rfl 23 dd (0, 0) _ HB4.out.2.1 Tryd.underlying23 rfl (by rw [HD.out.2.1]; exact info16) ?_))
  refine (S0.out w4 HB4.out.2.2.1 b HB4.out.2.2.2.2).mono ?_
  rintro e w5 ⟨rfl, hk5⟩
  have HK5 := Lib.hid hk5
  clear hk5
  go_wp2_with (first
    | (refine wpList_store_row rfl 23 _ _ rfl w5.heap.size rs rfl rfl 23 _ (heap_alloc_new w5 _) (by rw [HD.out.2.2.2.1]; exact info16) (by rw [HD.out.2.2.1, HD.out.2.2.2.1]) HD.out.2.2.2.2 ?_
       obtain ⟨w6, hw6⟩ : ∃ w6, w6 = (w5.alloc (.cells Z16 23)).setRow w5.heap.size rs := ⟨_, rfl⟩
       rw [← hw6]
       have HG6 := Lib.hid (show w4.grownBy w6 none by rw [hw6]; exact grown_trans HK5.out (grown_row (World.grownBy_alloc w5 (.cells Z16 23) none) (.inl (Nat.le_refl _)) rs))
       clear hw6))
  refine (same_is w6 b 0 68 gw 0 capw (sigsS seed lf d) (sigsS_length _ _ _) (sigsS_dig _ _ _) (HB4.out.2.2.2.2.grown HG6.out) (HW4.out.grown HG6.out)).mono ?_
  rintro e w7 ⟨rfl, hk7⟩
  have HG7 := Lib.hid (grown_trans HG6.out hk7)
  clear hk7
  go_wp2_with fail
  have hG7 := grown_drew HG7.out
  obtain ⟨x, hx⟩ : ∃ x, w7.drew.cell? ⟨b, 0, none⟩ = some (.int .u8 x) := by
    have h0 := HB4.out.2.2.2.2.grown hG7 0 (by rw [sigsS_length]; omega)
    rw [sigsS, upto_getD (by omega)] at h0
    have hl := (sigS_dig seed lf d 0).1
    refine ⟨(sigS seed lf d 0).getD 0 0, ?_⟩
    have := h0 0 (.int .u8 ((sigS seed lf d 0).getD 0 0)) (by rw [Array.getElem?_toList]; exact arr_get (by omega))
    simpa using this
  have hfz : w7.drew.frozen? ⟨b, 0, none⟩ = false := (there_to HB4.out.2.2.2.1 hG7 (by simp) 0 (by omega)).2
  clear hG7
  refine wp_region_held_drew (S := fun _ => True) (by kernel_rfl) trivial (fun hHeld => ?_)
  refine wpAnyH_take (i := 0) (oi := _) (v := ?v0a) rfl (by kernel_rfl) (by kernel_rfl) (by kernel_rfl) (fun _ _ _ h => h) (Or.inl ⟨by rfl, ?hy0a⟩) trivial ?rest0a
  case hy0a => (intro V hSw; (try dsimp only at hSw); go_simp) <;> with_reducible rfl
  simp only [Act.put, List.getElem_toArray, List.getElem_cons_zero, List.setIfInBounds_toArray, List.set_cons_zero, List.set_cons_succ]
  refine wpAnyH_take (i := 1) (oi := _) (v := ?v1a) rfl (by kernel_rfl) (by kernel_rfl) (by kernel_rfl) (fun _ _ _ h => h) (Or.inl ⟨by rfl, ?hy1a⟩) trivial ?rest1a
  case hy1a => (intro V hSw; (try dsimp only at hSw); go_simp) <;> with_reducible rfl
  simp only [Act.put, List.getElem_toArray, List.getElem_cons_succ, List.getElem_cons_zero, List.setIfInBounds_toArray, List.set_cons_zero, List.set_cons_succ]
  refine wpAnyH_take (i := 2) (oi := _) (v := ?v2a) rfl (by kernel_rfl) (by kernel_rfl) (by kernel_rfl) (fun _ _ _ h => h) (Or.inl ⟨by rfl, ?hy2a⟩) trivial ?rest2a
  case hy2a => (intro V hSw; (try dsimp only at hSw); go_simp) <;> with_reducible rfl
  simp only [Act.put, List.getElem_toArray, List.getElem_cons_succ, List.getElem_cons_zero, List.setIfInBounds_toArray, List.set_cons_zero, List.set_cons_succ]
  refine wpAnyH_take (i := 5) (oi := _) (v := ?v5a) rfl (by kernel_rfl) (by kernel_rfl) (by kernel_rfl) (fun _ _ _ h => h) (Or.inl ⟨by rfl, ?hy5a⟩) trivial ?rest5a
  case hy5a => (intro V hSw; (try dsimp only at hSw); go_simp) <;> with_reducible rfl
  simp only [Act.put, List.getElem_toArray, List.getElem_cons_succ, List.getElem_cons_zero, List.setIfInBounds_toArray, List.set_cons_zero, List.set_cons_succ]
  refine wpAnyH_ready (rs := [3]) (by kernel_rfl) (by simp) ?_
  refine AllReadyH.cons (o := _) rfl (fun K hK => ?_) AllReadyH.nil
  go_simp
  refine hK.out _ _ trivial (fun hHeld => ?_)
  clear hK K
  try simp only [Act.put, List.setIfInBounds_toArray, List.set_cons_zero, List.set_cons_succ]
  refine wpAnyH_take (i := 4) (oi := _) (v := ?v4a) rfl (by kernel_rfl) (by kernel_rfl) (by kernel_rfl) (fun _ _ _ h => h) (Or.inl ⟨by rfl, ?hy4a⟩) trivial ?rest4a
  case hy4a => (intro V hSw; (try dsimp only at hSw); go_simp) <;> with_reducible rfl
  simp only [Act.put, List.getElem_toArray, List.getElem_cons_succ, List.getElem_cons_zero, List.setIfInBounds_toArray, List.set_cons_zero, List.set_cons_succ]
  refine wpAnyH_take (i := 6) (oi := _) (v := ?v6a) rfl (by kernel_rfl) (by kernel_rfl) (by kernel_rfl) (fun _ _ _ h => h) (Or.inl ⟨by rfl, ?hy6a⟩) trivial ?rest6a
  case hy6a => (intro V hSw; (try dsimp only at hSw); go_simp) <;> with_reducible rfl
  simp only [Act.put, List.getElem_toArray, List.getElem_cons_succ, List.getElem_cons_zero, List.setIfInBounds_toArray, List.set_cons_zero, List.set_cons_succ]
  refine wpAnyH_ready (rs := [7]) (by kernel_rfl) (by simp) ?_
  refine AllReadyH.cons (o := _) rfl (fun K hK => ?_) AllReadyH.nil
  go_simp
  refine hK.out _ _ trivial (fun hHeld => ?_)
  clear hK K
  try simp only [Act.put, List.setIfInBounds_toArray, List.set_cons_zero, List.set_cons_succ]
  refine wpAnyH_done (by kernel_rfl) ?_ _
  have hbn : w.heap.size + 2 ≤ b := by omega
  obtain ⟨wa, hwa⟩ : ∃ wa, wa = (w7.setCell ⟨b, 0, none⟩ (.int .u8 (IntKind.u8.wrap (x + 1)))).drew := ⟨_, rfl⟩
  rw [← hwa]
  have HBa := Lib.hid (show Blk wa w.heap.size 23 ds ∧ Blk wa (w.heap.size + 1) 23 dd ∧ w.grownBy wa none ∧ DigsAt wa gw 0 (sigsS seed lf d) from by
    have hgS : w7.grownBy wa (some b) := by rw [hwa]; exact grown_drew (grownBy_setCell' _ _ _)
    have hg7 := HG7.out
    refine ⟨(HB4.out.1.grown hg7 (by simp)).grown hgS (fun e => by have := Option.some.inj e; omega), (HB4.out.2.1.grown hg7 (by simp)).grown hgS (fun e => by have := Option.some.inj e; omega), grown_fresh (grown_trans HB4.out.2.2.1 hg7) hgS (by omega), fun j hj => range_to ((HW4.out.grown hg7) j hj) hgS (fun e => by have := Option.some.inj e; omega)⟩)
  clear hwa hx hfz
  go_wp2_with (first
    | (refine wpList_load_row rfl 23 _ rfl w.heap.size rfl 23 ds (0, 0) _ HBa.out.1 Tryd.underlying23 rfl (by rw [HD.out.1]; exact info16) ?_)
    | (refine wpList_load_row rfl 23 _ rfl (w.heap.size + 1) rfl 23 dd (0, 0) _ HBa.out.2.1 Tryd.underlying23 rfl (by rw [HD.out.2.1]; exact info16) ?_))
  refine (S2.out wa HBa.out.2.2.1).mono ?_
  rintro e w8 ⟨b2, rfl, hb2, hth8, hD8, hk8⟩
  have hbl2 : b2 < w8.heap.size := by
    obtain ⟨v, hv⟩ := Option.isSome_iff_exists.1 (hth8 0 (by omega)).1
    exact World.block_lt_of_cell? w8 _ hv
  have HB8 := Lib.hid (And.intro (HBa.out.2.1.grown hk8 (by simp)) (And.intro (grown_trans HBa.out.2.2.1 hk8) (And.intro hD8 (HBa.out.2.2.2.grown hk8))))
  clear hth8 hD8 hk8 hb2
  go_wp2_with (refine wpList_load_row rfl 23 _ rfl (w.heap.size + 1) rfl 23 dd (0, 0) _ HB8.out.1 Tryd.underlying23 rfl (by rw [HD.out.2.1]; exact info16) ?_)
  refine (digits_own_v w8 d HN.out.2.1 dd HE.out.2).mono ?_
  rintro e w9 ⟨g2, cap2, rfl, hc9, hgs9, hk9, hfz9⟩
  obtain ⟨x0, hx0⟩ : ∃ x0, x0 = (digitsS d).getD 0 0 := ⟨_, rfl⟩
  have hwr : IntKind.i64.wrap (x0 + 1) = x0 + 1 := by
    have := dig_range d 0
    rw [IntKind.wrap_i64]; omega
  have kc : w9.cell? ⟨g2, 0, none⟩ = some (.int .i64 x0) := by rw [hx0]; exact hc9 0 (by omega)
  have HB9 := Lib.hid (And.intro (HB8.out.1.grown hk9 (by simp)) (And.intro (grown_trans HB8.out.2.1 hk9) (And.intro (HB8.out.2.2.1.grown hk9) (HB8.out.2.2.2.grown hk9))))
  have hgl9 : g2 < w9.heap.size := World.block_lt_of_cell? w9 _ kc
  have hgw8 : gw < g2 := by
    have h0 := HB8.out.2.2.2 0 (by rw [sigsS_length]; omega)
    rw [sigsS, upto_getD (by omega)] at h0
    have hl := (sigS_dig seed lf d 0).1
    have := h0 0 (.int .u8 ((sigS seed lf d 0).getD 0 0)) (by rw [Array.getElem?_toList]; exact arr_get (by omega))
    have := World.block_lt_of_cell? w8 _ this
    dsimp only at this
    omega
  clear hc9 hk9 hx0
  go_wp2_with fail
  obtain ⟨wf, hwf⟩ : ∃ wf, wf = w9.setCell ⟨g2, 0, none⟩ (.int .i64 (x0 + 1)) := ⟨_, rfl⟩
  rw [← hwf]
  have HBf := Lib.hid (show Blk wf (w.heap.size + 1) 23 dd ∧ w.grownBy wf none ∧ DigsAt wf b2 0 (sigsS seed lf d) ∧ DigsAt wf gw 0 (sigsS seed lf d) from by
    have hgS : w9.grownBy wf (some g2) := by rw [hwf]; exact grownBy_setCell' _ _ _
    have hwl := HB8.out.2.1.size
    refine ⟨HB9.out.1.grown hgS (fun e => by have := Option.some.inj e; omega), grown_fresh HB9.out.2.1 hgS (by omega), fun j hj => range_to (HB9.out.2.2.1 j hj) hgS (fun e => by have := Option.some.inj e; omega), fun j hj => range_to (HB9.out.2.2.2 j hj) hgS (fun e => by have := Option.some.inj e; omega)⟩)
  clear hwf kc hfz9
  have HSS := Lib.hid (show ∀ V, wf.grownBy V none → V.rangeAt (w.heap.size + 1) 0 ddl from fun V hV => by
    rw [HE.out.1]
    exact range_blk (HBf.out.1.grown hV (by simp)))
  refine wp_region_held_drew (S := fun V => V.rangeAt (w.heap.size + 1) 0 ddl) (by kernel_rfl) (HSS.out _ (grown_drew (World.grownBy.refl wf none))) (fun hHeld => ?_)
  refine wpAnyH_take (i := 0) (oi := _) (v := ?v0b) rfl (by kernel_rfl) (by kernel_rfl) (by kernel_rfl) (fun _ _ _ h => h) (Or.inl ⟨by rfl, ?hy0b⟩) (by assumption) ?rest0b
  case hy0b => (intro V hSw; (try dsimp only at hSw); go_simp) <;> with_reducible rfl
  simp only [Act.put, List.getElem_toArray, List.getElem_cons_zero, List.setIfInBounds_toArray, List.set_cons_zero, List.set_cons_succ]
  refine wpAnyH_take (i := 1) (oi := _) (v := ?v1b) rfl (by kernel_rfl) (by kernel_rfl) (by kernel_rfl) (fun _ _ _ h => h) (Or.inl ⟨by rfl, ?hy1b⟩) (by assumption) ?rest1b
  case hy1b => (intro V hSw; (try dsimp only at hSw); go_simp) <;> with_reducible rfl
  simp only [Act.put, List.getElem_toArray, List.getElem_cons_succ, List.getElem_cons_zero, List.setIfInBounds_toArray, List.set_cons_zero, List.set_cons_succ]
  refine wpAnyH_take (i := 2) (oi := _) (v := ?v2b) rfl (by kernel_rfl) (by kernel_rfl) (by kernel_rfl) (fun _ _ _ h => h) (Or.inl ⟨by rfl, ?hy2b⟩) (by assumption) ?rest2b
  case hy2b => (intro V hSw; (try dsimp only at hSw); go_simp) <;> with_reducible rfl
  simp only [Act.put, List.getElem_toArray, List.getElem_cons_succ, List.getElem_cons_zero, List.setIfInBounds_toArray, List.set_cons_zero, List.set_cons_succ]
  refine wpAnyH_take (i := 3) (oi := _) (v := ?v3b) rfl (by kernel_rfl) (by kernel_rfl) (by kernel_rfl) (fun _ _ _ h => h) (Or.inl ⟨by rfl, ?hy3b⟩) (by assumption) ?rest3b
  case hy3b => (intro V hSw; (try dsimp only at hSw); go_simp) <;> with_reducible rfl
  simp only [Act.put, List.getElem_toArray, List.getElem_cons_succ, List.getElem_cons_zero, List.setIfInBounds_toArray, List.set_cons_zero, List.set_cons_succ]
  refine wpAnyH_take (i := 4) (oi := _) (v := ?v4b) rfl (by kernel_rfl) (by kernel_rfl) (by kernel_rfl) (fun _ _ _ h => h) (Or.inl ⟨by rfl, ?hy4b⟩) (by assumption) ?rest4b
  case hy4b => (intro V hSw; (try dsimp only at hSw); go_simp) <;> with_reducible rfl
  simp only [Act.put, List.getElem_toArray, List.getElem_cons_succ, List.getElem_cons_zero, List.setIfInBounds_toArray, List.set_cons_zero, List.set_cons_succ]
  refine wpAnyH_ready (rs := [5]) (by kernel_rfl) (by simp) ?_
  refine AllReadyH.cons (o := _) rfl (fun K hK => ?_) AllReadyH.nil
  go_simp
  refine (same_is _ b2 0 68 gw 0 capw (sigsS seed lf d) (sigsS_length _ _ _) (sigsS_dig _ _ _) (HBf.out.2.2.1.grown (grown_drew (World.grownBy.refl wf none))) (HBf.out.2.2.2.grown (grown_drew (World.grownBy.refl wf none)))).mono ?_
  rintro e w10 ⟨rfl, hk10⟩
  have HK10 := Lib.hid (grown_trans (grown_drew (World.grownBy.refl wf none)) hk10)
  clear hk10
  go_wp2_with fail
  refine hK.out _ _ (HSS.out _ HK10.out) (fun hHeld => ?_)
  clear hK K
  try simp only [Act.put, List.setIfInBounds_toArray, List.set_cons_zero, List.set_cons_succ]
  refine wpAnyH_take (i := 6) (oi := _) (v := ?v6b) rfl (by kernel_rfl) (by kernel_rfl) (by kernel_rfl) (fun _ _ _ h => h) (Or.inl ⟨by rfl, ?hy6b⟩) (by assumption) ?rest6b
  case hy6b => (intro V hSw; (try dsimp only at hSw); go_simp) <;> with_reducible rfl
  simp only [Act.put, List.getElem_toArray, List.getElem_cons_succ, List.getElem_cons_zero, List.setIfInBounds_toArray, List.set_cons_zero, List.set_cons_succ]
  refine wpAnyH_take (i := 7) (oi := _) (v := ?v7b) rfl (by kernel_rfl) (by kernel_rfl) (by kernel_rfl) (fun _ _ _ h => h) (Or.inl ⟨by rfl, ?hy7b⟩) (by assumption) ?rest7b
  case hy7b => (intro V hSw; (try dsimp only at hSw); go_simp) <;> with_reducible rfl
  simp only [Act.put, List.getElem_toArray, List.getElem_cons_succ, List.getElem_cons_zero, List.setIfInBounds_toArray, List.set_cons_zero, List.set_cons_succ]
  refine wpAnyH_take (i := 8) (oi := _) (v := .agg ddl.toArray) rfl (by kernel_rfl) (by kernel_rfl) (by kernel_rfl) (fun _ _ _ h => h) (yieldsIf_load_mid (by rfl) _ _ rfl (w.heap.size + 1) 0 rfl ddl _ (fun V hSw => hSw) Tryd.underlying23 rfl HI.out) (by assumption) ?rest8
  simp only [Act.put, List.getElem_toArray, List.getElem_cons_succ, List.getElem_cons_zero, List.setIfInBounds_toArray, List.set_cons_zero, List.set_cons_succ]
  refine wpAnyH_take (i := 10) (oi := _) (v := .agg ddl.toArray) rfl (by kernel_rfl) (by kernel_rfl) (by kernel_rfl) (fun _ _ _ h => h) (yieldsIf_load_mid (by rfl) _ _ rfl (w.heap.size + 1) 0 rfl ddl _ (fun V hSw => hSw) Tryd.underlying23 rfl HI.out) (by assumption) ?rest10
  simp only [Act.put, List.getElem_toArray, List.getElem_cons_succ, List.getElem_cons_zero, List.setIfInBounds_toArray, List.set_cons_zero, List.set_cons_succ]
  refine wpAnyH_ready (rs := [9]) (by kernel_rfl) (by simp) ?_
  refine AllReadyH.cons (o := _) rfl (fun K hK => ?_) AllReadyH.nil
  go_simp
  refine (digits_v _ d HN.out.2.1 ddl.toArray HDL.out).mono ?_
  rintro e w11 ⟨g3, cap3, rfl, hc3, _, hk11⟩
  have HK11 := Lib.hid (And.intro (grown_trans HK10.out hk11) hc3)
  clear hk11 hc3
  go_wp2_with fail
  refine hK.out _ _ (HSS.out _ HK11.out.1) (fun hHeld => ?_)
  clear hK K
  try simp only [Act.put, List.setIfInBounds_toArray, List.set_cons_zero, List.set_cons_succ]
  refine wpAnyH_ready (rs := [11]) (by kernel_rfl) (by simp) ?_
  refine AllReadyH.cons (o := _) rfl (fun K hK => ?_) AllReadyH.nil
  go_simp
  refine (rdigits_v _ d HN.out.2.1 ddl.toArray HDL.out).mono ?_
  rintro e w12 ⟨g4, cap4, rfl, hc4, _, hk12⟩
  have HK12 := Lib.hid (And.intro (grown_trans HK11.out.1 hk12) (And.intro (show ∀ j, j < 68 → w12.cell? ⟨g3, j, none⟩ = some (.int .i64 ((digitsS d).getD j 0)) from fun j hj => hk12.cell (HK11.out.2 j hj) (by simp)) hc4))
  clear hk12 hc4
  go_wp2_with fail
  refine hK.out _ _ (HSS.out _ HK12.out.1) (fun hHeld => ?_)
  clear hK K
  try simp only [Act.put, List.setIfInBounds_toArray, List.set_cons_zero, List.set_cons_succ]
  refine wpAnyH_ready (rs := [12]) (by kernel_rfl) (by simp) ?_
  refine AllReadyH.cons (o := _) rfl (fun K hK => ?_) AllReadyH.nil
  go_simp
  refine (sameInts_is _ g3 g4 cap3 cap4 (digitsS d) HK12.out.2.1 HK12.out.2.2).mono ?_
  rintro e w13 ⟨rfl, hk13⟩
  have HK13 := Lib.hid (grown_trans HK12.out.1 hk13)
  clear hk13
  go_wp2_with fail
  refine hK.out _ _ (HSS.out _ HK13.out) (fun hHeld => ?_)
  clear hK K
  try simp only [Act.put, List.setIfInBounds_toArray, List.set_cons_zero, List.set_cons_succ]
  refine wpAnyH_take (i := 13) (oi := _) (v := ?v13b) rfl (by kernel_rfl) (by kernel_rfl) (by kernel_rfl) (fun _ _ _ h => h) (Or.inl ⟨by rfl, ?hy13b⟩) (by assumption) ?rest13b
  case hy13b => (intro V hSw; (try dsimp only at hSw); go_simp) <;> with_reducible rfl
  simp only [Act.put, List.getElem_toArray, List.getElem_cons_succ, List.getElem_cons_zero, List.setIfInBounds_toArray, List.set_cons_zero, List.set_cons_succ]
  refine wpAnyH_take (i := 14) (oi := _) (v := ?v14b) rfl (by kernel_rfl) (by kernel_rfl) (by kernel_rfl) (fun _ _ _ h => h) (Or.inl ⟨by rfl, ?hy14b⟩) (by assumption) ?rest14b
  case hy14b => (intro V hSw; (try dsimp only at hSw); go_simp) <;> with_reducible rfl
  simp only [Act.put, List.getElem_toArray, List.getElem_cons_succ, List.getElem_cons_zero, List.setIfInBounds_toArray, List.set_cons_zero, List.set_cons_succ]
  refine wpAnyH_done (by kernel_rfl) ?_ _
  go_wp2_with fail
  go_ret
  exact ⟨rfl, grown_trans HBf.out.2.1 HK13.out⟩
end Go.Proofs.YtjcbfenkpdpbeaaDoor
