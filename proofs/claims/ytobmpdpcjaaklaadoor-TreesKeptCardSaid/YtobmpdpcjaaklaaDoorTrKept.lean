/-
  TreesKept, walked.
-/
import Derived.Test.YtobmpdpcjaaklaaDoorTrAll
import Derived.Test.YtobmpdpcjaaklaaDoorCp
namespace Go.Proofs.YtobmpdpcjaaklaaDoor
open Go.RowKit

theorem kept_long (w : World) (hR : Rounds w) (lf : Int) (A : Option Addr) (n c : Nat) (hn : n ≠ 32) : Calls Tryd.prog 7 #[.slice A n c, .int .i64 lf] w fun e w' => e = .returned (.bool true) ∧ w.grownBy w' none := by
  have d1 : ¬ ((n : Int) = 32) := by omega
  have HR := Lib.hid hR
  clear hR
  go_enter Tryd.func7, Tryd.ntmps7
  go_wp2_with fail
  refine (tree_alive _ HR.out).mono ?_
  rintro e w1 ⟨rfl, hk1⟩
  have HK := Lib.hid hk1
  clear hk1
  go_wp2_with fail
  go_ret
  exact ⟨rfl, HK.out⟩

set_option maxRecDepth 100000 in
set_option maxHeartbeats 8000000 in
theorem kept_main (w : World) (hR : Rounds w) (lf : Int) (b off c : Nat) (ps : List (List Int)) (hl : ps.length = 32) (hps : ∀ p ∈ ps, isDig p) (hD : DigsAt w b off ps) :
    Calls Tryd.prog 7 #[.slice (some ⟨b, off, none⟩) 32 c, .int .i64 lf] w fun e w' => e = .returned (.bool true) ∧ w.grownBy w' none := by
  obtain ⟨q, hq⟩ : ∃ q : Nat, (q : Int) = lf % 32 := ⟨(lf % 32).toNat, by omega⟩
  obtain ⟨hu, hu2⟩ := u64_rem32 lf
  have hq32 : q < 32 := by omega
  obtain ⟨I, hI⟩ : ∃ I : Int, I = lf % 32 := ⟨_, rfl⟩
  rw [← hI] at hu hu2
  have hIq : I = (q : Int) := by omega
  have hb0 : 0 ≤ I ∧ I < 32 := by omega
  obtain ⟨Z16, hZ16⟩ : ∃ Z, Z = arrV .u8 (List.replicate 16 0) := ⟨_, rfl⟩
  have hz16 : ∀ w, Sem.run Tryd.prog (zeroValue 25) w = .ok (.agg Z16) w := fun w => by rw [hZ16]; exact z16run w
  obtain ⟨rs, hrs⟩ : ∃ rs, rs = arrV .u8 (nodeC ps 5 0) := ⟨_, rfl⟩
  have hrd := nodeC_dig hps 5 0
  obtain ⟨es, hes⟩ : ∃ es, es = arrV .u8 (ps.getD q zeroC) := ⟨_, rfl⟩
  obtain ⟨el, hel⟩ : ∃ el, el = es.toList := ⟨_, rfl⟩
  have he16 : es.size = 16 := by rw [hes, arr_size]; exact (getD_dig hps q).1
  have HEL := Lib.hid (show ∀ (z : World) g, DigsAt z g 0 ps → z.rangeAt g (I.toNat * 16) el from fun z g hz => by
    have h1 := hz q (by omega)
    rw [Nat.zero_add] at h1
    rw [hel, hes, hIq, Int.toNat_natCast]
    exact h1)
  have HEI := Lib.hid (And.intro (show (Tryd.prog.info? 25).map (·.size) = some el.length by rw [hel, Array.length_toList, he16]; exact info16) (show el.toArray = es by rw [hel, Array.toArray_toList]))
  have HS6 := Lib.hid (show rs.size = 16 ∧ (rs.all fun x => x.oneCell') = true ∧ Z16.size = 16 from ⟨by rw [hrs, arr_size]; exact hrd.1, by rw [hrs]; exact arr_one _ _, by rw [hZ16]; rfl⟩)
  have HN := Lib.hid (And.intro hl (And.intro hps (And.intro hD (And.intro hR (And.intro hq32 (And.intro hIq (And.intro hrs hes)))))))
  clear hq hI hR hl hps hD hq32 hIq hZ16 hrs hrd hes hel he16
  go_enter Tryd.func7, Tryd.ntmps7
  go_wp2_with fail
  refine (tree_alive _ HN.out.2.2.2.1).mono ?_
  rintro e w1 ⟨rfl, hk1⟩
  have HK1 := Lib.hid hk1
  clear hk1
  go_wp2_with (at_builtin; refine wpList_copy_digs rfl _ _ rfl rfl b off 32 c rfl ps HN.out.1 (by omega) (by omega) HN.out.2.1 (HN.out.2.2.1.grown HK1.out) ?_; intro gi ci w2 hgi hci hti hDi hki; have HI2 := Lib.hid (And.intro hti (And.intro hDi (And.intro (grown_trans HK1.out hki) hgi))); clear hti hDi hki hgi)
  refine (path_ok w2 (HN.out.2.2.2.1.grown HI2.out.2.2.1 (by simp)) gi 0 ci ps HN.out.1 HN.out.2.1 HI2.out.2.1 q HN.out.2.2.2.2.1 I HN.out.2.2.2.2.2.1).mono ?_
  rintro e w3 ⟨gp, cp, rfl, hcp, hgp, htp, hrp, hk3⟩
  have H3 := Lib.hid (show w.grownBy w3 none ∧ DigsAt w3 gi 0 ps ∧ w3.there gp 0 (5 * 16) ∧ (∀ k, k < 5 → w3.rangeAt gp (0 + k * 16) (wayV ps q k).toList) ∧ w2.heap.size ≤ gp ∧ gi < w2.heap.size from
    ⟨grown_trans HI2.out.2.2.1 hk3, HI2.out.2.1.grown hk3, htp, hrp, hgp, (digs_block HN.out.2.1 HI2.out.2.1 (by rw [HN.out.1]; omega)).1⟩)
  clear hcp hgp htp hrp hk3
  go_wp2_with fail
  refine (root_ok w3 (HN.out.2.2.2.1.grown H3.out.1 (by simp)) gi 0 ci ps HN.out.1 HN.out.2.1 H3.out.2.1 rs HN.out.2.2.2.2.2.2.1).mono ?_
  rintro e w4 ⟨rfl, hk4⟩
  have HK4 := Lib.hid hk4
  clear hk4
  go_wp2_with (first
    | (refine wpList_store_row rfl 25 _ _ rfl w4.heap.size rs rfl rfl 25 _ (heap_alloc_new w4 _) (by rw [HS6.out.1]; exact info16) (by rw [HS6.out.2.2, HS6.out.1]) HS6.out.2.1 ?_
       obtain ⟨w5, hw5⟩ : ∃ w5, w5 = (w4.alloc (.cells Z16 25)).setRow w4.heap.size rs := ⟨_, rfl⟩
       rw [← hw5]
       have HK5 := Lib.hid (show w3.grownBy w5 none from by rw [hw5]; exact grown_trans HK4.out (grown_row (World.grownBy_alloc w4 (.cells Z16 25) none) (.inl (Nat.le_refl _)) rs))
       have H5 := Lib.hid (show w.grownBy w5 none ∧ DigsAt w5 gi 0 ps ∧ w5.there gp 0 (5 * 16) ∧ DigsAt w5 gp 0 (upto (wayC ps q) 5) ∧ gp < w5.heap.size from
       ⟨grown_trans H3.out.1 HK5.out, H3.out.2.1.grown HK5.out, there_grown H3.out.2.2.1 HK5.out, (wayL_digs H3.out.2.2.2.1).grown HK5.out, Nat.lt_of_lt_of_le (digs_block (way_dig HN.out.2.1 (fun k => k) q 5) (wayL_digs H3.out.2.2.2.1) (by rw [upto_length]; omega)).1 HK5.out.size⟩)
       clear hw5)
    | (at_builtin; refine wpList_copy_digs rfl _ _ rfl rfl gp 0 5 cp rfl (upto (wayC ps q) 5) (upto_length _ _) (by omega) (by omega) (way_dig HN.out.2.1 (fun k => k) q 5) H5.out.2.2.2.1 ?_; intro gw cw w6 hgw hcw htw hDw hkw; have H6 := Lib.hid (show w.grownBy w6 none ∧ DigsAt w6 gi 0 ps ∧ w6.there gp 0 (5 * 16) ∧ (∀ k, k < 5 → w6.rangeAt gp (0 + k * 16) (wayV ps q k).toList) ∧ DigsAt w6 gw 0 (upto (wayC ps q) 5) ∧ gp ≠ gw from ⟨grown_trans H5.out.1 hkw, H5.out.2.1.grown hkw, there_grown H5.out.2.2.1 hkw, fun k hk => range_grown (H3.out.2.2.2.1 k hk) (grown_trans HK5.out hkw), hDw, by have := H5.out.2.2.2.2; omega⟩); clear htw hDw hkw hgw hcw)
    | (refine wpList_load_mid rfl 25 _ rfl gi _ rfl el _ (HEL.out w6 gi H6.out.2.1) Tryd.underlying25 rfl HEI.out.1 ?_; rw [HEI.out.2]))
  refine (climb_own w6 (HN.out.2.2.2.1.grown H6.out.1 (by simp)) ps HN.out.2.1 q HN.out.2.2.2.2.1 I HN.out.2.2.2.2.2.1 gp cp H6.out.2.2.2.1 es rs HN.out.2.2.2.2.2.2.2 HN.out.2.2.2.2.2.2.1).mono ?_
  rintro e w7 ⟨rfl, hk7⟩
  have HK7 := Lib.hid hk7
  clear hk7
  go_wp2_with (refine wpList_store_row rfl 25 _ _ rfl w7.heap.size rs rfl rfl 25 _ (heap_alloc_new w7 _) (by rw [HS6.out.1]; exact info16) (by rw [HS6.out.2.2, HS6.out.1]) HS6.out.2.1 ?_
               obtain ⟨w8, hw8⟩ : ∃ w8, w8 = (w7.alloc (.cells Z16 25)).setRow w7.heap.size rs := ⟨_, rfl⟩
               rw [← hw8]
               have HK8 := Lib.hid (show w6.grownBy w8 none from by rw [hw8]; exact grown_trans HK7.out (grown_row (World.grownBy_alloc w7 (.cells Z16 25) none) (.inl (Nat.le_refl _)) rs))
               clear hw8)
  refine (digs_same w8 gp 0 cp gw 0 cw 5 _ _ (upto_length _ _) (upto_length _ _) (by omega) (way_dig HN.out.2.1 (fun k => k) q 5) (way_dig HN.out.2.1 (fun k => k) q 5) ((wayL_digs H6.out.2.2.2.1).grown HK8.out) (H6.out.2.2.2.2.1.grown HK8.out) true (by simp)).mono ?_
  rintro e w9 ⟨rfl, hk9⟩
  have HK9 := Lib.hid (grown_trans HK8.out hk9)
  clear hk9
  go_wp2_with fail
  refine (digs_same w9 gi 0 ci b off c 32 ps ps HN.out.1 HN.out.1 (by omega) HN.out.2.1 HN.out.2.1 (H6.out.2.1.grown HK9.out) (HN.out.2.2.1.grown (grown_trans H6.out.1 HK9.out)) true (by simp)).mono ?_
  rintro e wA ⟨rfl, hkA⟩
  have HKA := Lib.hid (grown_trans HK9.out hkA)
  clear hkA
  go_wp2_with fail
  have hGA := grown_drew HKA.out
  obtain ⟨x, hx⟩ : ∃ x, wA.drew.cell? ⟨gp, 0, none⟩ = some (.int .u8 x) := by
    have h0 := H6.out.2.2.2.1 0 (by omega)
    have hl := (wayC_dig HN.out.2.1 q 0).1
    refine ⟨(wayC ps q 0).getD 0 0, ?_⟩
    have := (range_grown h0 hGA) 0 (.int .u8 ((wayC ps q 0).getD 0 0)) (by rw [Array.getElem?_toList, wayV]; exact arr_get (by omega))
    simpa using this
  have hfz : wA.drew.frozen? ⟨gp, 0, none⟩ = false := (there_to H6.out.2.2.1 hGA (by simp) 0 (by omega)).2
  clear hGA
  refine wp_region_held_drew (S := fun _ => True) (by kernel_rfl) trivial (fun hHeld => ?_)
  refine wpAnyH_take (i := 0) (oi := _) (v := ?v0k) rfl (by kernel_rfl) (by kernel_rfl) (by kernel_rfl) (fun _ _ _ h => h) (Or.inl ⟨by rfl, ?hy0k⟩) trivial ?rest0k
  case hy0k => (intro V hSw; (try dsimp only at hSw); go_simp) <;> with_reducible rfl
  simp only [Act.put, List.getElem_toArray, List.getElem_cons_zero, List.setIfInBounds_toArray, List.set_cons_zero, List.set_cons_succ]
  refine wpAnyH_take (i := 1) (oi := _) (v := ?v1k) rfl (by kernel_rfl) (by kernel_rfl) (by kernel_rfl) (fun _ _ _ h => h) (Or.inl ⟨by rfl, ?hy1k⟩) trivial ?rest1k
  case hy1k => (intro V hSw; (try dsimp only at hSw); go_simp) <;> with_reducible rfl
  simp only [Act.put, List.getElem_toArray, List.getElem_cons_succ, List.getElem_cons_zero, List.setIfInBounds_toArray, List.set_cons_zero, List.set_cons_succ]
  refine wpAnyH_take (i := 2) (oi := _) (v := ?v2k) rfl (by kernel_rfl) (by kernel_rfl) (by kernel_rfl) (fun _ _ _ h => h) (Or.inl ⟨by rfl, ?hy2k⟩) trivial ?rest2k
  case hy2k => (intro V hSw; (try dsimp only at hSw); go_simp) <;> with_reducible rfl
  simp only [Act.put, List.getElem_toArray, List.getElem_cons_succ, List.getElem_cons_zero, List.setIfInBounds_toArray, List.set_cons_zero, List.set_cons_succ]
  refine wpAnyH_take (i := 5) (oi := _) (v := ?v5k) rfl (by kernel_rfl) (by kernel_rfl) (by kernel_rfl) (fun _ _ _ h => h) (Or.inl ⟨by rfl, ?hy5k⟩) trivial ?rest5k
  case hy5k => (intro V hSw; (try dsimp only at hSw); go_simp) <;> with_reducible rfl
  simp only [Act.put, List.getElem_toArray, List.getElem_cons_succ, List.getElem_cons_zero, List.setIfInBounds_toArray, List.set_cons_zero, List.set_cons_succ]
  refine wpAnyH_ready (rs := [3]) (by kernel_rfl) (by simp) ?_
  refine AllReadyH.cons (o := _) rfl (fun K hK => ?_) AllReadyH.nil
  go_simp
  refine hK.out _ _ (trivial) (fun hHeld => ?_)
  clear hK K
  try simp only [Act.put, List.setIfInBounds_toArray, List.set_cons_zero, List.set_cons_succ]
  refine wpAnyH_take (i := 4) (oi := _) (v := ?v4k) rfl (by kernel_rfl) (by kernel_rfl) (by kernel_rfl) (fun _ _ _ h => h) (Or.inl ⟨by rfl, ?hy4k⟩) trivial ?rest4k
  case hy4k => (intro V hSw; (try dsimp only at hSw); go_simp) <;> with_reducible rfl
  simp only [Act.put, List.getElem_toArray, List.getElem_cons_succ, List.getElem_cons_zero, List.setIfInBounds_toArray, List.set_cons_zero, List.set_cons_succ]
  refine wpAnyH_take (i := 6) (oi := _) (v := ?v6k) rfl (by kernel_rfl) (by kernel_rfl) (by kernel_rfl) (fun _ _ _ h => h) (Or.inl ⟨by rfl, ?hy6k⟩) trivial ?rest6k
  case hy6k => (intro V hSw; (try dsimp only at hSw); go_simp) <;> with_reducible rfl
  simp only [Act.put, List.getElem_toArray, List.getElem_cons_succ, List.getElem_cons_zero, List.setIfInBounds_toArray, List.set_cons_zero, List.set_cons_succ]
  refine wpAnyH_ready (rs := [7]) (by kernel_rfl) (by simp) ?_
  refine AllReadyH.cons (o := _) rfl (fun K hK => ?_) AllReadyH.nil
  go_simp
  refine hK.out _ _ (trivial) (fun hHeld => ?_)
  clear hK K
  try simp only [Act.put, List.setIfInBounds_toArray, List.set_cons_zero, List.set_cons_succ]
  refine wpAnyH_done (by kernel_rfl) ?_ _
  obtain ⟨wB, hwB⟩ : ∃ wB, wB = (wA.setCell ⟨gp, 0, none⟩ (.int .u8 (IntKind.u8.wrap (x + 1)))).drew := ⟨_, rfl⟩
  rw [← hwB]
  have HB := Lib.hid (show w.grownBy wB none ∧ DigsAt wB gi 0 ps ∧ DigsAt wB gw 0 (upto (wayC ps q) 5) ∧ DigsAt wB b off ps from by
    have hgS : wA.grownBy wB (some gp) := by rw [hwB]; exact grown_drew (grownBy_setCell' _ _ _)
    have hgA := HKA.out
    have hw2 := HI2.out.2.2.1.size
    have h3 := H3.out.2.2.2.2
    have hbw := (digs_block HN.out.2.1 HN.out.2.2.1 (by rw [HN.out.1]; omega)).1
    have hDb := (HN.out.2.2.1.grown (grown_trans H6.out.1 hgA))
    have hDi := H6.out.2.1.grown hgA
    have hDw := H6.out.2.2.2.2.1.grown hgA
    exact ⟨grown_fresh (grown_trans H6.out.1 hgA) hgS (by omega), fun j hj => range_to (hDi j hj) hgS (fun e => by have := Option.some.inj e; omega), fun j hj => range_to (hDw j hj) hgS (fun e => H6.out.2.2.2.2.2 (Option.some.inj e).symm), fun j hj => range_to (hDb j hj) hgS (fun e => by have := Option.some.inj e; omega)⟩)
  clear hwB hx hfz
  go_wp2_with fail
  refine (path_ok wB (HN.out.2.2.2.1.grown HB.out.1 (by simp)) gi 0 ci ps HN.out.1 HN.out.2.1 HB.out.2.1 q HN.out.2.2.2.2.1 I HN.out.2.2.2.2.2.1).mono ?_
  rintro e wC ⟨gq, cq, rfl, _, _, _, hrq, hkC⟩
  have HC := Lib.hid (And.intro hrq hkC)
  clear hrq hkC
  go_wp2_with fail
  refine (digs_same wC gq 0 cq gw 0 cw 5 _ _ (upto_length _ _) (upto_length _ _) (by omega) (way_dig HN.out.2.1 (fun k => k) q 5) (way_dig HN.out.2.1 (fun k => k) q 5) (wayL_digs HC.out.1) (HB.out.2.2.1.grown HC.out.2) true (by simp)).mono ?_
  rintro e wD ⟨rfl, hkD⟩
  have HKD := Lib.hid (grown_trans HC.out.2 hkD)
  clear hkD
  go_wp2_with fail
  refine (digs_same wD gi 0 ci b off c 32 ps ps HN.out.1 HN.out.1 (by omega) HN.out.2.1 HN.out.2.1 (HB.out.2.1.grown HKD.out) (HB.out.2.2.2.grown HKD.out) true (by simp)).mono ?_
  rintro e wE ⟨rfl, hkE⟩
  have HKE := Lib.hid (grown_trans HKD.out hkE)
  clear hkE
  go_wp2_with fail
  go_ret
  exact ⟨rfl, grown_trans HB.out.1 HKE.out⟩
end Go.Proofs.YtobmpdpcjaaklaaDoor
