/-
  EpochsParts, walked.
-/
import Derived.Test.YtmoebkdbnldbdaaGreatDoorM20pM
namespace Go.Proofs.YtmoebkdbnldbdaaGreatDoor
open Go.RowKit

attribute [local go_sem] Oper.semAt_some

set_option maxRecDepth 100000 in
set_option maxHeartbeats 4000000 in
theorem parts_any (w : World) (E : Nat → Addr) (hR : Rounds w) (he : ErrEnv w w.heap.size E) (g : Gd) (A : Option Addr) (c : Nat) (hk : keysOk g.V) (hg16 : g.g.length = 16) (hV : VdsAt w A g.V) (gv : Array Value) (hgv : g.val A c = gv)
    (L : List Ch) (A2 : Option Addr) (c2 : Nat) (hc2 : L.length ≤ c2) (hL : ChsAt w A2 L) (hPQ : ∀ ch ∈ L, PQn ch.y.q ∧ PQn ch.z.q ∧ PQn ch.q) (at0 : Int) :
    Calls Tryz.prog 3 #[.agg gv, .slice A2 L.length c2, .int .i64 at0] w fun e w' => e = .returned (.bool true) ∧ w.grownBy w' none := by
  obtain ⟨GZ, hGZ⟩ : ∃ Z, zGr = Z := ⟨_, rfl⟩
  have hgz : ∀ w, Sem.run Tryz.prog (zeroValue 26) w = .ok (.agg GZ) w := fun w => by rw [← hGZ]; exact zgr_run w
  have hGzs : GZ.size = 18 := by rw [← hGZ]; exact zgr_sz
  have hgs : gv.size = 18 := by rw [← hgv]; exact grV_size (by rw [arr_size]; exact hg16)
  obtain ⟨N, hN⟩ : ∃ N, L.length = N := ⟨_, rfl⟩
  obtain ⟨n, hn⟩ : ∃ n, g.V.length = n := ⟨_, rfl⟩
  rw [hN] at hc2 ⊢
  obtain ⟨W1, hW1⟩ : ∃ W1, w.alloc (.cells gv 26) = W1 := ⟨_, rfl⟩
  have g1 : w.grownBy W1 none := by rw [← hW1]; exact World.grownBy_alloc _ _ none
  have bg : Blk W1 w.heap.size 26 (g.val A c) := by rw [← hW1, hgv]; exact Blk.new w _ _
  obtain ⟨_, k1, _⟩ := gr_cells (by rw [arr_size]; exact hg16) bg
  rw [hn] at k1
  have hat : ∀ W : World, w.grownBy W none → Rounds W ∧ ErrEnv W W.heap.size E ∧ VdsAt W A g.V ∧ ChsAt W A2 L := fun W hW =>
    ⟨hR.grown hW (by simp), env_grown he hW, hV.grown hW, fun hne => by
      obtain ⟨b, off, hA, hc⟩ := hL.1 hne
      exact ⟨b, off, hA, fun k hk => range_kept (hc k hk) hW⟩, fun ch hch => (hL.2 ch hch).grown hW⟩
  have HAL := Lib.hid (alive20 W1 E (hat W1 g1).1 ((hat W1 g1).2.1.var 0 (by omega)) (E 10) ((hat W1 g1).2.1.var 10 (by omega)))
  have HNU := Lib.hid (fun (W : World) (hW : w.grownBy W none) (k : Nat) (hk : k ≤ 18) => num_evN W W.heap.size E (hat W hW).2.1 k hk)
  have HWK := Lib.hid (fun (W : World) (hW : w.grownBy W none) => walk_st W E (hat W hW).1 (hat W hW).2.1)
  have HAT := Lib.hid (fun (W : World) (hW : w.grownBy W none) => (hat W hW).2.2)
  have HL := Lib.hid (And.intro hN (And.intro hc2 (And.intro hPQ (And.intro hk (And.intro hg16 (And.intro hn hL))))))
  have HS := Lib.hid (And.intro (show (Tryz.prog.info? 26).map (·.size) = some gv.size by rw [hgs]; exact sz_Gre) (And.intro hgv (And.intro hGzs hgs)))
  have HX := Lib.hid (And.intro g1 (And.intro (show Blk W1 w.heap.size 26 gv by rw [← hgv]; exact bg) k1))
  have HW := Lib.hid hW1
  clear hat hGZ hGzs hgs hN hn hW1 g1 bg k1 hgv hR he hL hPQ hV hk hg16 hc2
  go_enter Tryz.func3, Tryz.ntmps3
  go_upto_region 1 with (fail)
  rw [HW.out]
  go_wp2_with fail
  refine HAL.out.mono ?_
  rintro e w2 ⟨rfl, g2⟩
  have HGg2 := Lib.hid g2
  clear g2
  have k2 := HGg2.out.cell HX.out.2.2 (by simp)
  by_cases h7 : 7 < n
  · have a1 : decide ((7 : Int) < (n : Int)) = true := by simp; omega
    clear h7
    go_wp2_with fail
    go_ret
    exact ⟨rfl, grown_trans HX.out.1 HGg2.out⟩
  have a1 : decide ((7 : Int) < (n : Int)) = false := by simp; omega
  by_cases h8 : 8 < N
  · have a2 : decide ((8 : Int) < (N : Int)) = true := by simp; omega
    clear h7 h8
    go_wp2_with fail
    go_ret
    exact ⟨rfl, grown_trans HX.out.1 HGg2.out⟩
  have a2 : decide ((8 : Int) < (N : Int)) = false := by simp; omega
  obtain ⟨K, hK, hw1, hw2, hw3, hw4⟩ := u64_remN at0 ((N : Int) + 1) (by omega) (by omega)
  have hw0 := w64 ((N : Int) + 1) ⟨by omega, by omega⟩
  have hKN : K ≤ N := by omega
  have ok : g.ok := ⟨HL.out.2.2.2.1, by rw [HL.out.2.2.2.2.2.1]; omega, HL.out.2.2.2.2.1⟩
  have HK := Lib.hid (And.intro hKN (And.intro ok (show N ≤ 8 by omega)))
  clear hK h7 h8 hKN ok
  go_upto_region 6 with (fail)
  clear a1 a2 hw0 hw1 hw2 hw3 hw4 k2
  go_wp2_with (refine wpList_load_mid rfl 26 _ rfl (w.heap.size) 0 rfl gv.toList _ (range_kept (range_blk0 HX.out.2.1) HGg2.out) Tryz.underlying26 rfl (by rw [Array.length_toList]; exact HS.out.1) ?_; rw [Array.toArray_toList])
  refine (HWK.out w2 (grown_trans HX.out.1 HGg2.out) g A c HK.out.2.1 (HAT.out w2 (grown_trans HX.out.1 HGg2.out)).1 gv HS.out.2.1 L A2 c2 N HL.out.1 (HAT.out w2 (grown_trans HX.out.1 HGg2.out)).2 HL.out.2.2.1 HK.out.2.2).mono ?_
  rintro e w6 ⟨g6, A6, c6, r6, rfl, hr6, hv6, _, ok6⟩
  obtain ⟨⟨ga, na, ea⟩, hR6⟩ : ∃ r, walkG QFn 0 g L = r := ⟨_, rfl⟩
  obtain ⟨⟨gh, kh, eh⟩, hR8⟩ : ∃ r, walkG QFn 0 g (L.take K) = r := ⟨_, rfl⟩
  obtain ⟨⟨gr, jr, er⟩, hR10⟩ : ∃ r, walkG QFn 0 gh (L.drop K) = r := ⟨_, rfl⟩
  rw [hR6] at hr6 hv6 ok6 ⊢
  dsimp only at hr6 hv6 ok6 ⊢
  have hs6 : r6.size = 18 := by rw [hr6]; exact Gd.size ok6 _ _
  have H6 := Lib.hid (And.intro hr6 (And.intro hv6 (And.intro ok6 (And.intro (show (Tryz.prog.info? 26).map (·.size) = some r6.size by rw [hs6]; exact sz_Gre) (And.intro (show GZ.size = r6.size by rw [hs6, HS.out.2.2.1]) (show (r6.all fun v => v.oneCell') = true by rw [hr6]; exact Gd.one _ _ _))))))
  have HR6 := Lib.hid hR6
  have HR8 := Lib.hid (And.intro hR8 trivial)
  have HR10 := Lib.hid (And.intro hR10 trivial)
  clear hr6 hv6 ok6 hs6 hR6 hR8 hR10
  have HGg6 := Lib.hid g6
  clear g6
  obtain ⟨q7, hq7⟩ : ∃ q, w6.heap.size = q := ⟨_, rfl⟩
  obtain ⟨W7, hW7⟩ : ∃ W, (w6.alloc (.cells GZ 26)).setRow q7 r6 = W := ⟨_, rfl⟩
  have bn7 : Blk (w6.alloc (.cells GZ 26)) q7 26 GZ := by rw [← hq7]; exact Blk.new w6 26 GZ
  have b7 : Blk W7 q7 26 r6 := by rw [← hW7]; exact bn7.row _
  have g7 : w6.grownBy W7 none := by rw [← hW7]; exact grown_row (World.grownBy_alloc _ _ none) (.inl (by rw [hq7]; exact Nat.le_refl _)) _
  have HP7 := Lib.hid (And.intro bn7 hW7)
  have HB7 := Lib.hid b7
  clear bn7 hW7 b7
  have HGg7 := Lib.hid g7
  clear g7
  go_upto_region 7 with (refine wpList_store_row rfl 26 _ _ rfl (q7) r6 rfl rfl 26 _ HP7.out.1 (H6.out.2.2.2.1) (H6.out.2.2.2.2.1) H6.out.2.2.2.2.2 ?_)
  rw [HP7.out.2]
  clear hq7
  have H7 := Lib.hid (show w.grownBy W7 none from (grown_trans HX.out.1 (grown_trans (grown_trans HGg2.out HGg6.out) HGg7.out)))
  refine wp_region_held_drew (S := fun V => W7.grownBy V none) (by kernel_rfl) (grown_drew (World.grownBy.refl W7 none)) (fun hHeld => ?_)
  refine wpAnyH_take (i := 0) (oi := _) (v := .agg gv) rfl (by kernel_rfl) (by kernel_rfl) (by kernel_rfl) (fun _ _ _ h => h) (yieldsIf_load_mid (by rfl) _ _ rfl (w.heap.size) 0 rfl gv.toList _ (fun V hSw => range_kept (range_kept (range_blk0 HX.out.2.1) (grown_trans (grown_trans HGg2.out HGg6.out) HGg7.out)) hSw) Tryz.underlying26 rfl (by rw [Array.length_toList]; exact HS.out.1)) (by assumption) ?restd80
  try simp only [Act.put, List.getElem_toArray, List.getElem_cons_succ, List.getElem_cons_zero, List.setIfInBounds_toArray, List.set_cons_zero, List.set_cons_succ]
  refine wpAnyH_take (i := 1) (oi := _) (v := ?vd81) rfl (by kernel_rfl) (by kernel_rfl) (by kernel_rfl) (fun _ _ _ h => h) (Or.inl ⟨by rfl, ?hyd81⟩) (by assumption) ?restd81
  case hyd81 => (intro V hSw; (try dsimp only at hSw); go_simp) <;> with_reducible rfl
  try simp only [Act.put, List.getElem_toArray, List.getElem_cons_succ, List.getElem_cons_zero, List.setIfInBounds_toArray, List.set_cons_zero, List.set_cons_succ]
  refine wpAnyH_take (i := 2) (oi := _) (v := ?vd82) rfl (by kernel_rfl) (by kernel_rfl) (by kernel_rfl) (fun _ _ _ h => h) (Or.inl ⟨by rfl, ?hyd82⟩) (by assumption) ?restd82
  case hyd82 => (intro V hSw; (try dsimp only at hSw); go_simp) <;> with_reducible rfl
  try simp only [Act.put, List.getElem_toArray, List.getElem_cons_succ, List.getElem_cons_zero, List.setIfInBounds_toArray, List.set_cons_zero, List.set_cons_succ]
  refine wpAnyH_take (i := 3) (oi := _) (v := .slice A2 K c2) rfl (by kernel_rfl) (by kernel_rfl) (by kernel_rfl) (fun _ _ _ h => h) (yieldsIf_slice (by rfl) _ _ _ _ _ rfl _ (fun V => run_hi A2 N c2 K (Nat.le_trans HK.out.1 HL.out.2.1) V)) (by assumption) ?restd83
  try simp only [Act.put, List.getElem_toArray, List.getElem_cons_succ, List.getElem_cons_zero, List.setIfInBounds_toArray, List.set_cons_zero, List.set_cons_succ]
  refine wpAnyH_ready (rs := [4, 9]) (by kernel_rfl) (by simp) ?_
  refine (AllReadyH.cons (o := _) rfl (fun K9 hK => ?_) (AllReadyH.cons (o := _) rfl (fun K9 hK => ?_) AllReadyH.nil))
  · go_simp
    refine (HWK.out W7.drew (grown_trans H7.out (grown_drew (World.grownBy.refl W7 none))) g A c HK.out.2.1 (HAT.out W7.drew (grown_trans H7.out (grown_drew (World.grownBy.refl W7 none)))).1 gv HS.out.2.1 (L.take K) A2 c2 K (by rw [List.length_take, HL.out.1]; exact Nat.min_eq_left HK.out.1) (chs_take (HAT.out W7.drew (grown_trans H7.out (grown_drew (World.grownBy.refl W7 none)))).2 K) (fun ch hch => HL.out.2.2.1 ch (List.mem_of_mem_take hch)) (Nat.le_trans HK.out.1 HK.out.2.2)).mono ?_
    rintro e w8 ⟨g8, A8, c8, r8, rfl, hr8, hv8, hf8, ok8⟩
    rw [HR8.out.1] at hr8 hv8 hf8 ok8 ⊢
    dsimp only at hr8 hv8 hf8 ok8 ⊢
    have hs8 : r8.size = 18 := by rw [hr8]; exact Gd.size ok8 _ _
    have HH8 := Lib.hid (And.intro hr8 (And.intro hv8 (And.intro ok8 (And.intro hs8 hf8))))
    clear hr8 hv8 ok8 hs8 hf8
    refine hK.out _ _ (grown_trans (grown_drew (World.grownBy.refl W7 none)) g8) (fun hHeld => ?_)
    clear hK K9
    try simp only [Act.put, List.getElem_toArray, List.getElem_cons_succ, List.getElem_cons_zero, List.setIfInBounds_toArray, List.set_cons_zero, List.set_cons_succ]
    refine wpAnyH_take (i := 5) (oi := _) (v := ?vd8a5) rfl (by kernel_rfl) (by kernel_rfl) (by kernel_rfl) (fun _ _ _ h => h) (Or.inl ⟨by rfl, ?hyd8a5⟩) (by assumption) ?restd8a5
    case hyd8a5 => (intro V hSw; (try dsimp only at hSw); go_simp) <;> with_reducible rfl
    try simp only [Act.put, List.getElem_toArray, List.getElem_cons_succ, List.getElem_cons_zero, List.setIfInBounds_toArray, List.set_cons_zero, List.set_cons_succ]
    refine wpAnyH_take (i := 6) (oi := _) (v := ?vd8a6) rfl (by kernel_rfl) (by kernel_rfl) (by kernel_rfl) (fun _ _ _ h => h) (Or.inl ⟨by rfl, ?hyd8a6⟩) (by assumption) ?restd8a6
    case hyd8a6 => (intro V hSw; (try dsimp only at hSw); go_simp) <;> with_reducible rfl
    try simp only [Act.put, List.getElem_toArray, List.getElem_cons_succ, List.getElem_cons_zero, List.setIfInBounds_toArray, List.set_cons_zero, List.set_cons_succ]
    refine wpAnyH_take (i := 7) (oi := _) (v := ?vd8a7) rfl (by kernel_rfl) (by kernel_rfl) (by kernel_rfl) (fun _ _ _ h => h) (Or.inl ⟨by rfl, ?hyd8a7⟩) (by assumption) ?restd8a7
    case hyd8a7 => (intro V hSw; (try dsimp only at hSw); go_simp) <;> with_reducible rfl
    try simp only [Act.put, List.getElem_toArray, List.getElem_cons_succ, List.getElem_cons_zero, List.setIfInBounds_toArray, List.set_cons_zero, List.set_cons_succ]
    refine wpAnyH_take (i := 8) (oi := _) (v := ?vd8a8) rfl (by kernel_rfl) (by kernel_rfl) (by kernel_rfl) (fun _ _ _ h => h) (Or.inl ⟨by rfl, ?hyd8a8⟩) (by assumption) ?restd8a8
    case hyd8a8 => (intro V hSw; (try dsimp only at hSw); go_simp) <;> with_reducible rfl
    try simp only [Act.put, List.getElem_toArray, List.getElem_cons_succ, List.getElem_cons_zero, List.setIfInBounds_toArray, List.set_cons_zero, List.set_cons_succ]
    refine wpAnyH_ready (rs := [9]) (by kernel_rfl) (by simp) ?_
    refine (AllReadyH.cons (o := _) rfl (fun K9 hK => ?_) AllReadyH.nil)
    go_simp
    refine hK.out _ _ (grown_trans (grown_trans (grown_drew (World.grownBy.refl W7 none)) g8) (World.grownBy_alloc _ _ none)) (fun hHeld => ?_)
    clear hK K9
    try simp only [Act.put, List.getElem_toArray, List.getElem_cons_succ, List.getElem_cons_zero, List.setIfInBounds_toArray, List.set_cons_zero, List.set_cons_succ]
    obtain ⟨q8, hq8⟩ : ∃ q, w8.heap.size = q := ⟨_, rfl⟩
    obtain ⟨W8, hW8⟩ : ∃ W, (w8.alloc (.cells GZ 26)).setRow q8 r8 = W := ⟨_, rfl⟩
    have bn8 : Blk (w8.alloc (.cells GZ 26)) q8 26 GZ := by rw [← hq8]; exact Blk.new w8 26 GZ
    have b8 : Blk W8 q8 26 r8 := by rw [← hW8]; exact bn8.row _
    have gw8 : w8.grownBy W8 none := by rw [← hW8]; exact grown_row (World.grownBy_alloc _ _ none) (.inl (by rw [hq8]; exact Nat.le_refl _)) _
    have gg8 : W7.grownBy W8 none := grown_trans (grown_drew (World.grownBy.refl W7 none)) (grown_trans g8 gw8)
    have v8 := HH8.out.2.1.grown gw8
    rw [hq8]
    refine wpAnyH_ready (rs := [10]) (by kernel_rfl) (by simp) ?_
    refine (AllReadyH.cons (o := _) rfl (fun K9 hK => ?_) AllReadyH.nil)
    refine ready_store_e (by rfl) 26 _ _ rfl q8 0 r8 rfl rfl (there_blk bn8 (by rw [HH8.out.2.2.2.1, HS.out.2.2.1]; exact Nat.le_refl _)) (by rw [HH8.out.2.2.2.1]; exact sz_Gre) (by rw [HH8.out.1]; exact Gd.one _ _ _) ?_
    rw [setCells_row (P := Tryz.prog) (ty := 26) bn8 (by rw [HH8.out.2.2.2.1]; exact sz_Gre) (by rw [HH8.out.2.2.2.1, HS.out.2.2.1]) (by rw [HH8.out.1]; exact Gd.one _ _ _), hW8]
    refine hK.out _ _ gg8 (fun hHeld => ?_)
    clear hK K9
    try simp only [Act.put, List.getElem_toArray, List.getElem_cons_succ, List.getElem_cons_zero, List.setIfInBounds_toArray, List.set_cons_zero, List.set_cons_succ]
    refine wpAnyH_take (i := 11) (oi := _) (v := ?vd8a11) rfl (by kernel_rfl) (by kernel_rfl) (by kernel_rfl) (fun _ _ _ h => h) (Or.inl ⟨by rfl, ?hyd8a11⟩) (by assumption) ?restd8a11
    case hyd8a11 => (intro V hSw; (try dsimp only at hSw); go_simp) <;> with_reducible rfl
    try simp only [Act.put, List.getElem_toArray, List.getElem_cons_succ, List.getElem_cons_zero, List.setIfInBounds_toArray, List.set_cons_zero, List.set_cons_succ]
    refine wpAnyH_take (i := 12) (oi := _) (v := ?vd8a12) rfl (by kernel_rfl) (by kernel_rfl) (by kernel_rfl) (fun _ _ _ h => h) (Or.inl ⟨by rfl, ?hyd8a12⟩) (by assumption) ?restd8a12
    case hyd8a12 => (intro V hSw; (try dsimp only at hSw); go_simp) <;> with_reducible rfl
    try simp only [Act.put, List.getElem_toArray, List.getElem_cons_succ, List.getElem_cons_zero, List.setIfInBounds_toArray, List.set_cons_zero, List.set_cons_succ]
    refine wpAnyH_done (by kernel_rfl) ?_ _
    clear hq8 hW8 bn8 gw8
    have H8 := Lib.hid (And.intro b8 (And.intro gg8 (And.intro HH8.out.1 (And.intro v8 HH8.out.2.2.1))))
    clear b8 gg8 HH8 v8 g8
    have HPP := Lib.hid (walkG_parts QFn g L K (by rw [HL.out.1]; exact HK.out.1) HR6.out HR8.out.1 HR10.out.1)
    have hea : ea ≤ 18 := by have := walkG_le QFn_le L 0 g; rw [HR6.out] at this; exact this
    have HEA := Lib.hid hea
    clear hea
    have hs8 : r8.size = 18 := by rw [H8.out.2.2.1]; exact Gd.size H8.out.2.2.2.2 _ _
    have HZ8 := Lib.hid (show (Tryz.prog.info? 26).map (·.size) = some r8.size by rw [hs8]; exact sz_Gre)
    clear hs8
    cases heh : eh with
    | succ m =>
      obtain ⟨hga, hna, hee⟩ := HPP.out.1 (by rw [heh]; exact Nat.succ_ne_zero m)
      rw [heh] at hee
      have HEE := Lib.hid (And.intro hga hee)
      rw [hee, hna]
      clear hga hna hee heh
      rw [show evOf E (m + 1) = errV (E m) from rfl]
      go_wp2_with fail

      refine (HNU.out W8 (grown_trans H7.out H8.out.2.1) (m + 1) (by rw [← HEE.out.2]; exact HEA.out)).mono ?_
      rintro e u1 ⟨rfl, gu1⟩
      have HGu1 := Lib.hid gu1
      clear gu1
      go_wp2_with fail
      refine (HNU.out u1 (grown_trans (grown_trans H7.out H8.out.2.1) HGu1.out) (m + 1) (by rw [← HEE.out.2]; exact HEA.out)).mono ?_
      rintro e u2 ⟨rfl, gu2⟩
      have HGu2 := Lib.hid (grown_trans HGu1.out gu2)
      clear gu2
      go_wp2_with (first
        | (refine wpList_load_mid_g rfl 26 _ rfl (q7) 0 rfl r6.toList _ (range_kept (range_blk0 (HB7.out.grown H8.out.2.1 (by simp))) HGu2.out) Tryz.underlying26 rfl (by rw [Array.length_toList]; exact H6.out.2.2.2.1) ?_; rw [Array.toArray_toList])
        | (refine wpList_load_mid_g rfl 26 _ rfl (q8) 0 rfl r8.toList _ (range_kept (range_blk0 H8.out.1) HGu2.out) Tryz.underlying26 rfl (by rw [Array.length_toList]; exact HZ8.out) ?_; rw [Array.toArray_toList]))
      refine (same_gd u2 gh A6 A8 c6 c8 H8.out.2.2.2.2 ((show VdsAt W8 A6 gh.V by rw [← HEE.out.1]; exact (H6.out.2.1.grown (grown_trans HGg7.out H8.out.2.1))).grown HGu2.out) (H8.out.2.2.2.1.grown HGu2.out) r6 r8 (by rw [H6.out.1, HEE.out.1]) H8.out.2.2.1).mono ?_
      rintro e u3 ⟨rfl, gu3⟩
      have HGu3 := Lib.hid (grown_trans HGu2.out gu3)
      clear gu3
      go_wp2_with fail
      go_ret
      exact ⟨rfl, grown_trans (grown_trans H7.out H8.out.2.1) HGu3.out⟩
    | zero =>
      obtain ⟨hkh, hga, hna, hee, hjr⟩ := HPP.out.2 heh
      obtain ⟨S, hS⟩ : ∃ S : Int, (na : Int) = S := ⟨_, rfl⟩
      have hwj : wrap64 ((K : Int) + (jr : Int)) = S := by
        have h1 := HK.out
        have h2 := HL.out.1
        rw [w64 _ ⟨by omega, by omega⟩, ← hS, hna]
        omega
      have HEE := Lib.hid (And.intro hga (And.intro (show er ≤ 18 by rw [← hee]; exact HEA.out) hwj))
      rw [hS, hkh, hee]
      clear hkh hga hna hee hjr heh hS hwj
      rw [show evOf E 0 = .nilIface from rfl]
      go_upto_region 10 with (fail)
      refine wp_region_held_drew (S := fun V => W8.grownBy V none) (by kernel_rfl) (grown_drew (World.grownBy.refl W8 none)) (fun hHeld => ?_)
      refine wpAnyH_take (i := 0) (oi := _) (v := .agg r8) rfl (by kernel_rfl) (by kernel_rfl) (by kernel_rfl) (fun _ _ _ h => h) (yieldsIf_load_mid (by rfl) _ _ rfl (q8) 0 rfl r8.toList _ (fun V hSw => range_kept (range_blk0 H8.out.1) hSw) Tryz.underlying26 rfl (by rw [Array.length_toList]; exact HZ8.out)) (by assumption) ?restd100
      try simp only [Act.put, List.getElem_toArray, List.getElem_cons_succ, List.getElem_cons_zero, List.setIfInBounds_toArray, List.set_cons_zero, List.set_cons_succ]
      refine wpAnyH_take (i := 1) (oi := _) (v := ?vd101) rfl (by kernel_rfl) (by kernel_rfl) (by kernel_rfl) (fun _ _ _ h => h) (Or.inl ⟨by rfl, ?hyd101⟩) (by assumption) ?restd101
      case hyd101 => (intro V hSw; (try dsimp only at hSw); go_simp) <;> with_reducible rfl
      try simp only [Act.put, List.getElem_toArray, List.getElem_cons_succ, List.getElem_cons_zero, List.setIfInBounds_toArray, List.set_cons_zero, List.set_cons_succ]
      refine wpAnyH_take (i := 2) (oi := _) (v := ?vd102) rfl (by kernel_rfl) (by kernel_rfl) (by kernel_rfl) (fun _ _ _ h => h) (Or.inl ⟨by rfl, ?hyd102⟩) (by assumption) ?restd102
      case hyd102 => (intro V hSw; (try dsimp only at hSw); go_simp) <;> with_reducible rfl
      try simp only [Act.put, List.getElem_toArray, List.getElem_cons_succ, List.getElem_cons_zero, List.setIfInBounds_toArray, List.set_cons_zero, List.set_cons_succ]
      refine wpAnyH_take (i := 3) (oi := _) (v := .slice (ptrLo A2 c2 K) (N - K) (c2 - K)) rfl (by kernel_rfl) (by kernel_rfl) (by kernel_rfl) (fun _ _ _ h => h) (yieldsIf_slice (by rfl) _ _ _ _ _ rfl _ (fun V => run_lo A2 N c2 K HK.out.1 HL.out.2.1 V)) (by assumption) ?restd103
      try simp only [Act.put, List.getElem_toArray, List.getElem_cons_succ, List.getElem_cons_zero, List.setIfInBounds_toArray, List.set_cons_zero, List.set_cons_succ]
      refine wpAnyH_ready (rs := [4, 9]) (by kernel_rfl) (by simp) ?_
      refine (AllReadyH.cons (o := _) rfl (fun K9 hK => ?_) (AllReadyH.cons (o := _) rfl (fun K9 hK => ?_) AllReadyH.nil))
      · go_simp
        refine (HWK.out W8.drew (grown_trans (grown_trans H7.out H8.out.2.1) (grown_drew (World.grownBy.refl W8 none))) gh A8 c8 H8.out.2.2.2.2 (H8.out.2.2.2.1.grown (grown_drew (World.grownBy.refl W8 none))) r8 H8.out.2.2.1.symm (L.drop K) (ptrLo A2 c2 K) (c2 - K) (N - K) (by rw [List.length_drop, HL.out.1]) (chs_drop (HAT.out W8.drew (grown_trans (grown_trans H7.out H8.out.2.1) (grown_drew (World.grownBy.refl W8 none)))).2 c2 K (by rw [HL.out.1]; exact HL.out.2.1)) (fun ch hch => HL.out.2.2.1 ch (List.mem_of_mem_drop hch)) (Nat.le_trans (Nat.sub_le _ _) HK.out.2.2)).mono ?_
        rintro e w10 ⟨g10, A10, c10, r10, rfl, hr10, hv10, hf10, ok10⟩
        rw [HR10.out.1] at hr10 hv10 hf10 ok10 ⊢
        dsimp only at hr10 hv10 hf10 ok10 ⊢
        have hs10 : r10.size = 18 := by rw [hr10]; exact Gd.size ok10 _ _
        have HH10 := Lib.hid (And.intro hr10 (And.intro hv10 (And.intro ok10 (And.intro hs10 hf10))))
        clear hr10 hv10 ok10 hs10 hf10
        refine hK.out _ _ (grown_trans (grown_drew (World.grownBy.refl W8 none)) g10) (fun hHeld => ?_)
        clear hK K9
        try simp only [Act.put, List.getElem_toArray, List.getElem_cons_succ, List.getElem_cons_zero, List.setIfInBounds_toArray, List.set_cons_zero, List.set_cons_succ]
        refine wpAnyH_take (i := 5) (oi := _) (v := ?vd10a5) rfl (by kernel_rfl) (by kernel_rfl) (by kernel_rfl) (fun _ _ _ h => h) (Or.inl ⟨by rfl, ?hyd10a5⟩) (by assumption) ?restd10a5
        case hyd10a5 => (intro V hSw; (try dsimp only at hSw); go_simp) <;> with_reducible rfl
        try simp only [Act.put, List.getElem_toArray, List.getElem_cons_succ, List.getElem_cons_zero, List.setIfInBounds_toArray, List.set_cons_zero, List.set_cons_succ]
        refine wpAnyH_take (i := 6) (oi := _) (v := ?vd10a6) rfl (by kernel_rfl) (by kernel_rfl) (by kernel_rfl) (fun _ _ _ h => h) (Or.inl ⟨by rfl, ?hyd10a6⟩) (by assumption) ?restd10a6
        case hyd10a6 => (intro V hSw; (try dsimp only at hSw); go_simp) <;> with_reducible rfl
        try simp only [Act.put, List.getElem_toArray, List.getElem_cons_succ, List.getElem_cons_zero, List.setIfInBounds_toArray, List.set_cons_zero, List.set_cons_succ]
        refine wpAnyH_take (i := 7) (oi := _) (v := ?vd10a7) rfl (by kernel_rfl) (by kernel_rfl) (by kernel_rfl) (fun _ _ _ h => h) (Or.inl ⟨by rfl, ?hyd10a7⟩) (by assumption) ?restd10a7
        case hyd10a7 => (intro V hSw; (try dsimp only at hSw); go_simp) <;> with_reducible rfl
        try simp only [Act.put, List.getElem_toArray, List.getElem_cons_succ, List.getElem_cons_zero, List.setIfInBounds_toArray, List.set_cons_zero, List.set_cons_succ]
        refine wpAnyH_take (i := 8) (oi := _) (v := ?vd10a8) rfl (by kernel_rfl) (by kernel_rfl) (by kernel_rfl) (fun _ _ _ h => h) (Or.inl ⟨by rfl, ?hyd10a8⟩) (by assumption) ?restd10a8
        case hyd10a8 => (intro V hSw; (try dsimp only at hSw); go_simp) <;> with_reducible rfl
        try simp only [Act.put, List.getElem_toArray, List.getElem_cons_succ, List.getElem_cons_zero, List.setIfInBounds_toArray, List.set_cons_zero, List.set_cons_succ]
        refine wpAnyH_ready (rs := [9]) (by kernel_rfl) (by simp) ?_
        refine (AllReadyH.cons (o := _) rfl (fun K9 hK => ?_) AllReadyH.nil)
        go_simp
        refine hK.out _ _ (grown_trans (grown_trans (grown_drew (World.grownBy.refl W8 none)) g10) (World.grownBy_alloc _ _ none)) (fun hHeld => ?_)
        clear hK K9
        try simp only [Act.put, List.getElem_toArray, List.getElem_cons_succ, List.getElem_cons_zero, List.setIfInBounds_toArray, List.set_cons_zero, List.set_cons_succ]
        obtain ⟨q10, hq10⟩ : ∃ q, w10.heap.size = q := ⟨_, rfl⟩
        obtain ⟨W10, hW10⟩ : ∃ W, (w10.alloc (.cells GZ 26)).setRow q10 r10 = W := ⟨_, rfl⟩
        have bn10 : Blk (w10.alloc (.cells GZ 26)) q10 26 GZ := by rw [← hq10]; exact Blk.new w10 26 GZ
        have b10 : Blk W10 q10 26 r10 := by rw [← hW10]; exact bn10.row _
        have gw10 : w10.grownBy W10 none := by rw [← hW10]; exact grown_row (World.grownBy_alloc _ _ none) (.inl (by rw [hq10]; exact Nat.le_refl _)) _
        have gg10 : W8.grownBy W10 none := grown_trans (grown_drew (World.grownBy.refl W8 none)) (grown_trans g10 gw10)
        have v10 := HH10.out.2.1.grown gw10
        rw [hq10]
        refine wpAnyH_ready (rs := [10]) (by kernel_rfl) (by simp) ?_
        refine (AllReadyH.cons (o := _) rfl (fun K9 hK => ?_) AllReadyH.nil)
        refine ready_store_e (by rfl) 26 _ _ rfl q10 0 r10 rfl rfl (there_blk bn10 (by rw [HH10.out.2.2.2.1, HS.out.2.2.1]; exact Nat.le_refl _)) (by rw [HH10.out.2.2.2.1]; exact sz_Gre) (by rw [HH10.out.1]; exact Gd.one _ _ _) ?_
        rw [setCells_row (P := Tryz.prog) (ty := 26) bn10 (by rw [HH10.out.2.2.2.1]; exact sz_Gre) (by rw [HH10.out.2.2.2.1, HS.out.2.2.1]) (by rw [HH10.out.1]; exact Gd.one _ _ _), hW10]
        refine hK.out _ _ gg10 (fun hHeld => ?_)
        clear hK K9
        try simp only [Act.put, List.getElem_toArray, List.getElem_cons_succ, List.getElem_cons_zero, List.setIfInBounds_toArray, List.set_cons_zero, List.set_cons_succ]
        refine wpAnyH_take (i := 11) (oi := _) (v := ?vd10a11) rfl (by kernel_rfl) (by kernel_rfl) (by kernel_rfl) (fun _ _ _ h => h) (Or.inl ⟨by rfl, ?hyd10a11⟩) (by assumption) ?restd10a11
        case hyd10a11 => (intro V hSw; (try dsimp only at hSw); go_simp) <;> with_reducible rfl
        try simp only [Act.put, List.getElem_toArray, List.getElem_cons_succ, List.getElem_cons_zero, List.setIfInBounds_toArray, List.set_cons_zero, List.set_cons_succ]
        refine wpAnyH_take (i := 12) (oi := _) (v := ?vd10a12) rfl (by kernel_rfl) (by kernel_rfl) (by kernel_rfl) (fun _ _ _ h => h) (Or.inl ⟨by rfl, ?hyd10a12⟩) (by assumption) ?restd10a12
        case hyd10a12 => (intro V hSw; (try dsimp only at hSw); go_simp) <;> with_reducible rfl
        try simp only [Act.put, List.getElem_toArray, List.getElem_cons_succ, List.getElem_cons_zero, List.setIfInBounds_toArray, List.set_cons_zero, List.set_cons_succ]
        refine wpAnyH_done (by kernel_rfl) ?_ _
        clear hq10 hW10 bn10 gw10
        have H10 := Lib.hid (And.intro b10 (And.intro gg10 (And.intro HH10.out.1 (And.intro v10 HH10.out.2.2.1))))
        clear b10 gg10 HH10 v10 g10
        have hs10 : r10.size = 18 := by rw [H10.out.2.2.1]; exact Gd.size H10.out.2.2.2.2 _ _
        have HZ10 := Lib.hid (show (Tryz.prog.info? 26).map (·.size) = some r10.size by rw [hs10]; exact sz_Gre)
        clear hs10
        have hwj : wrap64 ((K : Int) + (jr : Int)) = S := HEE.out.2.2
        go_wp2_with fail

        refine (HNU.out W10 (grown_trans (grown_trans H7.out H8.out.2.1) H10.out.2.1) er HEE.out.2.1).mono ?_
        rintro e x1 ⟨rfl, gx1⟩
        have HGx1 := Lib.hid gx1
        clear gx1
        go_wp2_with fail
        refine (HNU.out x1 (grown_trans (grown_trans (grown_trans H7.out H8.out.2.1) H10.out.2.1) HGx1.out) er HEE.out.2.1).mono ?_
        rintro e x2 ⟨rfl, gx2⟩
        have HGx2 := Lib.hid (grown_trans HGx1.out gx2)
        clear gx2
        go_wp2_with (first
          | (refine wpList_load_mid_g rfl 26 _ rfl (q7) 0 rfl r6.toList _ (range_kept (range_blk0 (HB7.out.grown (grown_trans H8.out.2.1 H10.out.2.1) (by simp))) HGx2.out) Tryz.underlying26 rfl (by rw [Array.length_toList]; exact H6.out.2.2.2.1) ?_; rw [Array.toArray_toList])
          | (refine wpList_load_mid_g rfl 26 _ rfl (q10) 0 rfl r10.toList _ (range_kept (range_blk0 H10.out.1) HGx2.out) Tryz.underlying26 rfl (by rw [Array.length_toList]; exact HZ10.out) ?_; rw [Array.toArray_toList]))
        refine (same_gd x2 gr A6 A10 c6 c10 H10.out.2.2.2.2 ((show VdsAt W10 A6 gr.V by rw [← HEE.out.1]; exact (H6.out.2.1.grown (grown_trans HGg7.out (grown_trans H8.out.2.1 H10.out.2.1)))).grown HGx2.out) (H10.out.2.2.2.1.grown HGx2.out) r6 r10 (by rw [H6.out.1, HEE.out.1]) H10.out.2.2.1).mono ?_
        rintro e x3 ⟨rfl, gx3⟩
        have HGx3 := Lib.hid (grown_trans HGx2.out gx3)
        clear gx3
        go_wp2_with fail
        go_ret
        exact ⟨rfl, grown_trans (grown_trans (grown_trans H7.out H8.out.2.1) H10.out.2.1) HGx3.out⟩
      · go_simp
        obtain ⟨q10, hq10⟩ : ∃ q, W8.heap.size = q := ⟨_, rfl⟩
        obtain ⟨X10, hX10⟩ : ∃ X, (W8.alloc (.cells GZ 26)).drew = X := ⟨_, rfl⟩
        have bx10 : Blk X10 q10 26 GZ := by rw [← hX10, ← hq10]; exact (Blk.new W8 26 GZ).drew
        have gx10 : W8.grownBy X10 none := by rw [← hX10]; exact grown_drew (World.grownBy_alloc _ _ none)
        try rw [hX10]
        try rw [hq10]
        refine hK.out _ _ gx10 (fun hHeld => ?_)
        clear hK K9
        try simp only [Act.put, List.getElem_toArray, List.getElem_cons_succ, List.getElem_cons_zero, List.setIfInBounds_toArray, List.set_cons_zero, List.set_cons_succ]
        refine wpAnyH_ready (rs := [4]) (by kernel_rfl) (by simp) ?_
        refine (AllReadyH.cons (o := _) rfl (fun K9 hK => ?_) AllReadyH.nil)
        go_simp
        refine (HWK.out X10 (grown_trans (grown_trans H7.out H8.out.2.1) gx10) gh A8 c8 H8.out.2.2.2.2 (H8.out.2.2.2.1.grown gx10) r8 H8.out.2.2.1.symm (L.drop K) (ptrLo A2 c2 K) (c2 - K) (N - K) (by rw [List.length_drop, HL.out.1]) (chs_drop (HAT.out X10 (grown_trans (grown_trans H7.out H8.out.2.1) gx10)).2 c2 K (by rw [HL.out.1]; exact HL.out.2.1)) (fun ch hch => HL.out.2.2.1 ch (List.mem_of_mem_drop hch)) (Nat.le_trans (Nat.sub_le _ _) HK.out.2.2)).mono ?_
        rintro e w10 ⟨g10, A10, c10, r10, rfl, hr10, hv10, hf10, ok10⟩
        rw [HR10.out.1] at hr10 hv10 hf10 ok10 ⊢
        dsimp only at hr10 hv10 hf10 ok10 ⊢
        have hs10 : r10.size = 18 := by rw [hr10]; exact Gd.size ok10 _ _
        have bn10 : Blk w10 q10 26 GZ := bx10.grown g10 (by simp)
        obtain ⟨W10, hW10⟩ : ∃ W, w10.setRow q10 r10 = W := ⟨_, rfl⟩
        have b10 : Blk W10 q10 26 r10 := by rw [← hW10]; exact bn10.row _
        have gg10 : W8.grownBy W10 none := by rw [← hW10]; exact grown_row (grown_trans gx10 g10) (.inl (by rw [hq10]; exact Nat.le_refl _)) _
        have v10 : VdsAt W10 A10 gr.V := by rw [← hW10]; exact hv10.farRow hf10 (by have := bx10.lt; omega) _
        have HH10 := Lib.hid (And.intro hr10 (And.intro hv10 (And.intro ok10 (And.intro hs10 hf10))))
        clear hr10 hv10 ok10 hs10 hf10
        refine hK.out _ _ (grown_trans gx10 g10) (fun hHeld => ?_)
        clear hK K9
        try simp only [Act.put, List.getElem_toArray, List.getElem_cons_succ, List.getElem_cons_zero, List.setIfInBounds_toArray, List.set_cons_zero, List.set_cons_succ]
        refine wpAnyH_take (i := 5) (oi := _) (v := ?vd10b5) rfl (by kernel_rfl) (by kernel_rfl) (by kernel_rfl) (fun _ _ _ h => h) (Or.inl ⟨by rfl, ?hyd10b5⟩) (by assumption) ?restd10b5
        case hyd10b5 => (intro V hSw; (try dsimp only at hSw); go_simp) <;> with_reducible rfl
        try simp only [Act.put, List.getElem_toArray, List.getElem_cons_succ, List.getElem_cons_zero, List.setIfInBounds_toArray, List.set_cons_zero, List.set_cons_succ]
        refine wpAnyH_take (i := 6) (oi := _) (v := ?vd10b6) rfl (by kernel_rfl) (by kernel_rfl) (by kernel_rfl) (fun _ _ _ h => h) (Or.inl ⟨by rfl, ?hyd10b6⟩) (by assumption) ?restd10b6
        case hyd10b6 => (intro V hSw; (try dsimp only at hSw); go_simp) <;> with_reducible rfl
        try simp only [Act.put, List.getElem_toArray, List.getElem_cons_succ, List.getElem_cons_zero, List.setIfInBounds_toArray, List.set_cons_zero, List.set_cons_succ]
        refine wpAnyH_take (i := 7) (oi := _) (v := ?vd10b7) rfl (by kernel_rfl) (by kernel_rfl) (by kernel_rfl) (fun _ _ _ h => h) (Or.inl ⟨by rfl, ?hyd10b7⟩) (by assumption) ?restd10b7
        case hyd10b7 => (intro V hSw; (try dsimp only at hSw); go_simp) <;> with_reducible rfl
        try simp only [Act.put, List.getElem_toArray, List.getElem_cons_succ, List.getElem_cons_zero, List.setIfInBounds_toArray, List.set_cons_zero, List.set_cons_succ]
        refine wpAnyH_take (i := 8) (oi := _) (v := ?vd10b8) rfl (by kernel_rfl) (by kernel_rfl) (by kernel_rfl) (fun _ _ _ h => h) (Or.inl ⟨by rfl, ?hyd10b8⟩) (by assumption) ?restd10b8
        case hyd10b8 => (intro V hSw; (try dsimp only at hSw); go_simp) <;> with_reducible rfl
        try simp only [Act.put, List.getElem_toArray, List.getElem_cons_succ, List.getElem_cons_zero, List.setIfInBounds_toArray, List.set_cons_zero, List.set_cons_succ]
        refine wpAnyH_ready (rs := [10]) (by kernel_rfl) (by simp) ?_
        refine (AllReadyH.cons (o := _) rfl (fun K9 hK => ?_) AllReadyH.nil)
        refine ready_store_e (by rfl) 26 _ _ rfl q10 0 r10 rfl rfl (there_blk bn10 (by rw [HH10.out.2.2.2.1, HS.out.2.2.1]; exact Nat.le_refl _)) (by rw [HH10.out.2.2.2.1]; exact sz_Gre) (by rw [HH10.out.1]; exact Gd.one _ _ _) ?_
        rw [setCells_row (P := Tryz.prog) (ty := 26) bn10 (by rw [HH10.out.2.2.2.1]; exact sz_Gre) (by rw [HH10.out.2.2.2.1, HS.out.2.2.1]) (by rw [HH10.out.1]; exact Gd.one _ _ _), hW10]
        refine hK.out _ _ gg10 (fun hHeld => ?_)
        clear hK K9
        try simp only [Act.put, List.getElem_toArray, List.getElem_cons_succ, List.getElem_cons_zero, List.setIfInBounds_toArray, List.set_cons_zero, List.set_cons_succ]
        refine wpAnyH_take (i := 11) (oi := _) (v := ?vd10b11) rfl (by kernel_rfl) (by kernel_rfl) (by kernel_rfl) (fun _ _ _ h => h) (Or.inl ⟨by rfl, ?hyd10b11⟩) (by assumption) ?restd10b11
        case hyd10b11 => (intro V hSw; (try dsimp only at hSw); go_simp) <;> with_reducible rfl
        try simp only [Act.put, List.getElem_toArray, List.getElem_cons_succ, List.getElem_cons_zero, List.setIfInBounds_toArray, List.set_cons_zero, List.set_cons_succ]
        refine wpAnyH_take (i := 12) (oi := _) (v := ?vd10b12) rfl (by kernel_rfl) (by kernel_rfl) (by kernel_rfl) (fun _ _ _ h => h) (Or.inl ⟨by rfl, ?hyd10b12⟩) (by assumption) ?restd10b12
        case hyd10b12 => (intro V hSw; (try dsimp only at hSw); go_simp) <;> with_reducible rfl
        try simp only [Act.put, List.getElem_toArray, List.getElem_cons_succ, List.getElem_cons_zero, List.setIfInBounds_toArray, List.set_cons_zero, List.set_cons_succ]
        refine wpAnyH_done (by kernel_rfl) ?_ _
        clear hq10 hX10 hW10 bn10 bx10 gx10
        have H10 := Lib.hid (And.intro b10 (And.intro gg10 (And.intro HH10.out.1 (And.intro v10 HH10.out.2.2.1))))
        clear b10 gg10 HH10 v10 g10
        have hs10 : r10.size = 18 := by rw [H10.out.2.2.1]; exact Gd.size H10.out.2.2.2.2 _ _
        have HZ10 := Lib.hid (show (Tryz.prog.info? 26).map (·.size) = some r10.size by rw [hs10]; exact sz_Gre)
        clear hs10
        have hwj : wrap64 ((K : Int) + (jr : Int)) = S := HEE.out.2.2
        go_wp2_with fail

        refine (HNU.out W10 (grown_trans (grown_trans H7.out H8.out.2.1) H10.out.2.1) er HEE.out.2.1).mono ?_
        rintro e x1 ⟨rfl, gx1⟩
        have HGx1 := Lib.hid gx1
        clear gx1
        go_wp2_with fail
        refine (HNU.out x1 (grown_trans (grown_trans (grown_trans H7.out H8.out.2.1) H10.out.2.1) HGx1.out) er HEE.out.2.1).mono ?_
        rintro e x2 ⟨rfl, gx2⟩
        have HGx2 := Lib.hid (grown_trans HGx1.out gx2)
        clear gx2
        go_wp2_with (first
          | (refine wpList_load_mid_g rfl 26 _ rfl (q7) 0 rfl r6.toList _ (range_kept (range_blk0 (HB7.out.grown (grown_trans H8.out.2.1 H10.out.2.1) (by simp))) HGx2.out) Tryz.underlying26 rfl (by rw [Array.length_toList]; exact H6.out.2.2.2.1) ?_; rw [Array.toArray_toList])
          | (refine wpList_load_mid_g rfl 26 _ rfl (q10) 0 rfl r10.toList _ (range_kept (range_blk0 H10.out.1) HGx2.out) Tryz.underlying26 rfl (by rw [Array.length_toList]; exact HZ10.out) ?_; rw [Array.toArray_toList]))
        refine (same_gd x2 gr A6 A10 c6 c10 H10.out.2.2.2.2 ((show VdsAt W10 A6 gr.V by rw [← HEE.out.1]; exact (H6.out.2.1.grown (grown_trans HGg7.out (grown_trans H8.out.2.1 H10.out.2.1)))).grown HGx2.out) (H10.out.2.2.2.1.grown HGx2.out) r6 r10 (by rw [H6.out.1, HEE.out.1]) H10.out.2.2.1).mono ?_
        rintro e x3 ⟨rfl, gx3⟩
        have HGx3 := Lib.hid (grown_trans HGx2.out gx3)
        clear gx3
        go_wp2_with fail
        go_ret
        exact ⟨rfl, grown_trans (grown_trans (grown_trans H7.out H8.out.2.1) H10.out.2.1) HGx3.out⟩
  · go_simp
    obtain ⟨q8, hq8⟩ : ∃ q, W7.heap.size = q := ⟨_, rfl⟩
    obtain ⟨X8, hX8⟩ : ∃ X, (W7.alloc (.cells GZ 26)).drew = X := ⟨_, rfl⟩
    have bx8 : Blk X8 q8 26 GZ := by rw [← hX8, ← hq8]; exact (Blk.new W7 26 GZ).drew
    have gx8 : W7.grownBy X8 none := by rw [← hX8]; exact grown_drew (World.grownBy_alloc _ _ none)
    try rw [hX8]
    try rw [hq8]
    refine hK.out _ _ gx8 (fun hHeld => ?_)
    clear hK K9
    try simp only [Act.put, List.getElem_toArray, List.getElem_cons_succ, List.getElem_cons_zero, List.setIfInBounds_toArray, List.set_cons_zero, List.set_cons_succ]
    refine wpAnyH_ready (rs := [4]) (by kernel_rfl) (by simp) ?_
    refine (AllReadyH.cons (o := _) rfl (fun K9 hK => ?_) AllReadyH.nil)
    go_simp
    refine (HWK.out X8 (grown_trans H7.out gx8) g A c HK.out.2.1 (HAT.out X8 (grown_trans H7.out gx8)).1 gv HS.out.2.1 (L.take K) A2 c2 K (by rw [List.length_take, HL.out.1]; exact Nat.min_eq_left HK.out.1) (chs_take (HAT.out X8 (grown_trans H7.out gx8)).2 K) (fun ch hch => HL.out.2.2.1 ch (List.mem_of_mem_take hch)) (Nat.le_trans HK.out.1 HK.out.2.2)).mono ?_
    rintro e w8 ⟨g8, A8, c8, r8, rfl, hr8, hv8, hf8, ok8⟩
    rw [HR8.out.1] at hr8 hv8 hf8 ok8 ⊢
    dsimp only at hr8 hv8 hf8 ok8 ⊢
    have hs8 : r8.size = 18 := by rw [hr8]; exact Gd.size ok8 _ _
    have bn8 : Blk w8 q8 26 GZ := bx8.grown g8 (by simp)
    obtain ⟨W8, hW8⟩ : ∃ W, w8.setRow q8 r8 = W := ⟨_, rfl⟩
    have b8 : Blk W8 q8 26 r8 := by rw [← hW8]; exact bn8.row _
    have gg8 : W7.grownBy W8 none := by rw [← hW8]; exact grown_row (grown_trans gx8 g8) (.inl (by rw [hq8]; exact Nat.le_refl _)) _
    have v8 : VdsAt W8 A8 gh.V := by rw [← hW8]; exact hv8.farRow hf8 (by have := bx8.lt; omega) _
    have HH8 := Lib.hid (And.intro hr8 (And.intro hv8 (And.intro ok8 (And.intro hs8 hf8))))
    clear hr8 hv8 ok8 hs8 hf8
    refine hK.out _ _ (grown_trans gx8 g8) (fun hHeld => ?_)
    clear hK K9
    try simp only [Act.put, List.getElem_toArray, List.getElem_cons_succ, List.getElem_cons_zero, List.setIfInBounds_toArray, List.set_cons_zero, List.set_cons_succ]
    refine wpAnyH_take (i := 5) (oi := _) (v := ?vd8b5) rfl (by kernel_rfl) (by kernel_rfl) (by kernel_rfl) (fun _ _ _ h => h) (Or.inl ⟨by rfl, ?hyd8b5⟩) (by assumption) ?restd8b5
    case hyd8b5 => (intro V hSw; (try dsimp only at hSw); go_simp) <;> with_reducible rfl
    try simp only [Act.put, List.getElem_toArray, List.getElem_cons_succ, List.getElem_cons_zero, List.setIfInBounds_toArray, List.set_cons_zero, List.set_cons_succ]
    refine wpAnyH_take (i := 6) (oi := _) (v := ?vd8b6) rfl (by kernel_rfl) (by kernel_rfl) (by kernel_rfl) (fun _ _ _ h => h) (Or.inl ⟨by rfl, ?hyd8b6⟩) (by assumption) ?restd8b6
    case hyd8b6 => (intro V hSw; (try dsimp only at hSw); go_simp) <;> with_reducible rfl
    try simp only [Act.put, List.getElem_toArray, List.getElem_cons_succ, List.getElem_cons_zero, List.setIfInBounds_toArray, List.set_cons_zero, List.set_cons_succ]
    refine wpAnyH_take (i := 7) (oi := _) (v := ?vd8b7) rfl (by kernel_rfl) (by kernel_rfl) (by kernel_rfl) (fun _ _ _ h => h) (Or.inl ⟨by rfl, ?hyd8b7⟩) (by assumption) ?restd8b7
    case hyd8b7 => (intro V hSw; (try dsimp only at hSw); go_simp) <;> with_reducible rfl
    try simp only [Act.put, List.getElem_toArray, List.getElem_cons_succ, List.getElem_cons_zero, List.setIfInBounds_toArray, List.set_cons_zero, List.set_cons_succ]
    refine wpAnyH_take (i := 8) (oi := _) (v := ?vd8b8) rfl (by kernel_rfl) (by kernel_rfl) (by kernel_rfl) (fun _ _ _ h => h) (Or.inl ⟨by rfl, ?hyd8b8⟩) (by assumption) ?restd8b8
    case hyd8b8 => (intro V hSw; (try dsimp only at hSw); go_simp) <;> with_reducible rfl
    try simp only [Act.put, List.getElem_toArray, List.getElem_cons_succ, List.getElem_cons_zero, List.setIfInBounds_toArray, List.set_cons_zero, List.set_cons_succ]
    refine wpAnyH_ready (rs := [10]) (by kernel_rfl) (by simp) ?_
    refine (AllReadyH.cons (o := _) rfl (fun K9 hK => ?_) AllReadyH.nil)
    refine ready_store_e (by rfl) 26 _ _ rfl q8 0 r8 rfl rfl (there_blk bn8 (by rw [HH8.out.2.2.2.1, HS.out.2.2.1]; exact Nat.le_refl _)) (by rw [HH8.out.2.2.2.1]; exact sz_Gre) (by rw [HH8.out.1]; exact Gd.one _ _ _) ?_
    rw [setCells_row (P := Tryz.prog) (ty := 26) bn8 (by rw [HH8.out.2.2.2.1]; exact sz_Gre) (by rw [HH8.out.2.2.2.1, HS.out.2.2.1]) (by rw [HH8.out.1]; exact Gd.one _ _ _), hW8]
    refine hK.out _ _ gg8 (fun hHeld => ?_)
    clear hK K9
    try simp only [Act.put, List.getElem_toArray, List.getElem_cons_succ, List.getElem_cons_zero, List.setIfInBounds_toArray, List.set_cons_zero, List.set_cons_succ]
    refine wpAnyH_take (i := 11) (oi := _) (v := ?vd8b11) rfl (by kernel_rfl) (by kernel_rfl) (by kernel_rfl) (fun _ _ _ h => h) (Or.inl ⟨by rfl, ?hyd8b11⟩) (by assumption) ?restd8b11
    case hyd8b11 => (intro V hSw; (try dsimp only at hSw); go_simp) <;> with_reducible rfl
    try simp only [Act.put, List.getElem_toArray, List.getElem_cons_succ, List.getElem_cons_zero, List.setIfInBounds_toArray, List.set_cons_zero, List.set_cons_succ]
    refine wpAnyH_take (i := 12) (oi := _) (v := ?vd8b12) rfl (by kernel_rfl) (by kernel_rfl) (by kernel_rfl) (fun _ _ _ h => h) (Or.inl ⟨by rfl, ?hyd8b12⟩) (by assumption) ?restd8b12
    case hyd8b12 => (intro V hSw; (try dsimp only at hSw); go_simp) <;> with_reducible rfl
    try simp only [Act.put, List.getElem_toArray, List.getElem_cons_succ, List.getElem_cons_zero, List.setIfInBounds_toArray, List.set_cons_zero, List.set_cons_succ]
    refine wpAnyH_done (by kernel_rfl) ?_ _
    clear hq8 hX8 hW8 bn8 bx8 gx8
    have H8 := Lib.hid (And.intro b8 (And.intro gg8 (And.intro HH8.out.1 (And.intro v8 HH8.out.2.2.1))))
    clear b8 gg8 HH8 v8 g8
    have HPP := Lib.hid (walkG_parts QFn g L K (by rw [HL.out.1]; exact HK.out.1) HR6.out HR8.out.1 HR10.out.1)
    have hea : ea ≤ 18 := by have := walkG_le QFn_le L 0 g; rw [HR6.out] at this; exact this
    have HEA := Lib.hid hea
    clear hea
    have hs8 : r8.size = 18 := by rw [H8.out.2.2.1]; exact Gd.size H8.out.2.2.2.2 _ _
    have HZ8 := Lib.hid (show (Tryz.prog.info? 26).map (·.size) = some r8.size by rw [hs8]; exact sz_Gre)
    clear hs8
    cases heh : eh with
    | succ m =>
      obtain ⟨hga, hna, hee⟩ := HPP.out.1 (by rw [heh]; exact Nat.succ_ne_zero m)
      rw [heh] at hee
      have HEE := Lib.hid (And.intro hga hee)
      rw [hee, hna]
      clear hga hna hee heh
      rw [show evOf E (m + 1) = errV (E m) from rfl]
      go_wp2_with fail

      refine (HNU.out W8 (grown_trans H7.out H8.out.2.1) (m + 1) (by rw [← HEE.out.2]; exact HEA.out)).mono ?_
      rintro e u1 ⟨rfl, gu1⟩
      have HGu1 := Lib.hid gu1
      clear gu1
      go_wp2_with fail
      refine (HNU.out u1 (grown_trans (grown_trans H7.out H8.out.2.1) HGu1.out) (m + 1) (by rw [← HEE.out.2]; exact HEA.out)).mono ?_
      rintro e u2 ⟨rfl, gu2⟩
      have HGu2 := Lib.hid (grown_trans HGu1.out gu2)
      clear gu2
      go_wp2_with (first
        | (refine wpList_load_mid_g rfl 26 _ rfl (q7) 0 rfl r6.toList _ (range_kept (range_blk0 (HB7.out.grown H8.out.2.1 (by simp))) HGu2.out) Tryz.underlying26 rfl (by rw [Array.length_toList]; exact H6.out.2.2.2.1) ?_; rw [Array.toArray_toList])
        | (refine wpList_load_mid_g rfl 26 _ rfl (q8) 0 rfl r8.toList _ (range_kept (range_blk0 H8.out.1) HGu2.out) Tryz.underlying26 rfl (by rw [Array.length_toList]; exact HZ8.out) ?_; rw [Array.toArray_toList]))
      refine (same_gd u2 gh A6 A8 c6 c8 H8.out.2.2.2.2 ((show VdsAt W8 A6 gh.V by rw [← HEE.out.1]; exact (H6.out.2.1.grown (grown_trans HGg7.out H8.out.2.1))).grown HGu2.out) (H8.out.2.2.2.1.grown HGu2.out) r6 r8 (by rw [H6.out.1, HEE.out.1]) H8.out.2.2.1).mono ?_
      rintro e u3 ⟨rfl, gu3⟩
      have HGu3 := Lib.hid (grown_trans HGu2.out gu3)
      clear gu3
      go_wp2_with fail
      go_ret
      exact ⟨rfl, grown_trans (grown_trans H7.out H8.out.2.1) HGu3.out⟩
    | zero =>
      obtain ⟨hkh, hga, hna, hee, hjr⟩ := HPP.out.2 heh
      obtain ⟨S, hS⟩ : ∃ S : Int, (na : Int) = S := ⟨_, rfl⟩
      have hwj : wrap64 ((K : Int) + (jr : Int)) = S := by
        have h1 := HK.out
        have h2 := HL.out.1
        rw [w64 _ ⟨by omega, by omega⟩, ← hS, hna]
        omega
      have HEE := Lib.hid (And.intro hga (And.intro (show er ≤ 18 by rw [← hee]; exact HEA.out) hwj))
      rw [hS, hkh, hee]
      clear hkh hga hna hee hjr heh hS hwj
      rw [show evOf E 0 = .nilIface from rfl]
      go_upto_region 10 with (fail)
      refine wp_region_held_drew (S := fun V => W8.grownBy V none) (by kernel_rfl) (grown_drew (World.grownBy.refl W8 none)) (fun hHeld => ?_)
      refine wpAnyH_take (i := 0) (oi := _) (v := .agg r8) rfl (by kernel_rfl) (by kernel_rfl) (by kernel_rfl) (fun _ _ _ h => h) (yieldsIf_load_mid (by rfl) _ _ rfl (q8) 0 rfl r8.toList _ (fun V hSw => range_kept (range_blk0 H8.out.1) hSw) Tryz.underlying26 rfl (by rw [Array.length_toList]; exact HZ8.out)) (by assumption) ?reste100
      try simp only [Act.put, List.getElem_toArray, List.getElem_cons_succ, List.getElem_cons_zero, List.setIfInBounds_toArray, List.set_cons_zero, List.set_cons_succ]
      refine wpAnyH_take (i := 1) (oi := _) (v := ?ve101) rfl (by kernel_rfl) (by kernel_rfl) (by kernel_rfl) (fun _ _ _ h => h) (Or.inl ⟨by rfl, ?hye101⟩) (by assumption) ?reste101
      case hye101 => (intro V hSw; (try dsimp only at hSw); go_simp) <;> with_reducible rfl
      try simp only [Act.put, List.getElem_toArray, List.getElem_cons_succ, List.getElem_cons_zero, List.setIfInBounds_toArray, List.set_cons_zero, List.set_cons_succ]
      refine wpAnyH_take (i := 2) (oi := _) (v := ?ve102) rfl (by kernel_rfl) (by kernel_rfl) (by kernel_rfl) (fun _ _ _ h => h) (Or.inl ⟨by rfl, ?hye102⟩) (by assumption) ?reste102
      case hye102 => (intro V hSw; (try dsimp only at hSw); go_simp) <;> with_reducible rfl
      try simp only [Act.put, List.getElem_toArray, List.getElem_cons_succ, List.getElem_cons_zero, List.setIfInBounds_toArray, List.set_cons_zero, List.set_cons_succ]
      refine wpAnyH_take (i := 3) (oi := _) (v := .slice (ptrLo A2 c2 K) (N - K) (c2 - K)) rfl (by kernel_rfl) (by kernel_rfl) (by kernel_rfl) (fun _ _ _ h => h) (yieldsIf_slice (by rfl) _ _ _ _ _ rfl _ (fun V => run_lo A2 N c2 K HK.out.1 HL.out.2.1 V)) (by assumption) ?reste103
      try simp only [Act.put, List.getElem_toArray, List.getElem_cons_succ, List.getElem_cons_zero, List.setIfInBounds_toArray, List.set_cons_zero, List.set_cons_succ]
      refine wpAnyH_ready (rs := [4, 9]) (by kernel_rfl) (by simp) ?_
      refine (AllReadyH.cons (o := _) rfl (fun K9 hK => ?_) (AllReadyH.cons (o := _) rfl (fun K9 hK => ?_) AllReadyH.nil))
      · go_simp
        refine (HWK.out W8.drew (grown_trans (grown_trans H7.out H8.out.2.1) (grown_drew (World.grownBy.refl W8 none))) gh A8 c8 H8.out.2.2.2.2 (H8.out.2.2.2.1.grown (grown_drew (World.grownBy.refl W8 none))) r8 H8.out.2.2.1.symm (L.drop K) (ptrLo A2 c2 K) (c2 - K) (N - K) (by rw [List.length_drop, HL.out.1]) (chs_drop (HAT.out W8.drew (grown_trans (grown_trans H7.out H8.out.2.1) (grown_drew (World.grownBy.refl W8 none)))).2 c2 K (by rw [HL.out.1]; exact HL.out.2.1)) (fun ch hch => HL.out.2.2.1 ch (List.mem_of_mem_drop hch)) (Nat.le_trans (Nat.sub_le _ _) HK.out.2.2)).mono ?_
        rintro e w10 ⟨g10, A10, c10, r10, rfl, hr10, hv10, hf10, ok10⟩
        rw [HR10.out.1] at hr10 hv10 hf10 ok10 ⊢
        dsimp only at hr10 hv10 hf10 ok10 ⊢
        have hs10 : r10.size = 18 := by rw [hr10]; exact Gd.size ok10 _ _
        have HH10 := Lib.hid (And.intro hr10 (And.intro hv10 (And.intro ok10 (And.intro hs10 hf10))))
        clear hr10 hv10 ok10 hs10 hf10
        refine hK.out _ _ (grown_trans (grown_drew (World.grownBy.refl W8 none)) g10) (fun hHeld => ?_)
        clear hK K9
        try simp only [Act.put, List.getElem_toArray, List.getElem_cons_succ, List.getElem_cons_zero, List.setIfInBounds_toArray, List.set_cons_zero, List.set_cons_succ]
        refine wpAnyH_take (i := 5) (oi := _) (v := ?ve10a5) rfl (by kernel_rfl) (by kernel_rfl) (by kernel_rfl) (fun _ _ _ h => h) (Or.inl ⟨by rfl, ?hye10a5⟩) (by assumption) ?reste10a5
        case hye10a5 => (intro V hSw; (try dsimp only at hSw); go_simp) <;> with_reducible rfl
        try simp only [Act.put, List.getElem_toArray, List.getElem_cons_succ, List.getElem_cons_zero, List.setIfInBounds_toArray, List.set_cons_zero, List.set_cons_succ]
        refine wpAnyH_take (i := 6) (oi := _) (v := ?ve10a6) rfl (by kernel_rfl) (by kernel_rfl) (by kernel_rfl) (fun _ _ _ h => h) (Or.inl ⟨by rfl, ?hye10a6⟩) (by assumption) ?reste10a6
        case hye10a6 => (intro V hSw; (try dsimp only at hSw); go_simp) <;> with_reducible rfl
        try simp only [Act.put, List.getElem_toArray, List.getElem_cons_succ, List.getElem_cons_zero, List.setIfInBounds_toArray, List.set_cons_zero, List.set_cons_succ]
        refine wpAnyH_take (i := 7) (oi := _) (v := ?ve10a7) rfl (by kernel_rfl) (by kernel_rfl) (by kernel_rfl) (fun _ _ _ h => h) (Or.inl ⟨by rfl, ?hye10a7⟩) (by assumption) ?reste10a7
        case hye10a7 => (intro V hSw; (try dsimp only at hSw); go_simp) <;> with_reducible rfl
        try simp only [Act.put, List.getElem_toArray, List.getElem_cons_succ, List.getElem_cons_zero, List.setIfInBounds_toArray, List.set_cons_zero, List.set_cons_succ]
        refine wpAnyH_take (i := 8) (oi := _) (v := ?ve10a8) rfl (by kernel_rfl) (by kernel_rfl) (by kernel_rfl) (fun _ _ _ h => h) (Or.inl ⟨by rfl, ?hye10a8⟩) (by assumption) ?reste10a8
        case hye10a8 => (intro V hSw; (try dsimp only at hSw); go_simp) <;> with_reducible rfl
        try simp only [Act.put, List.getElem_toArray, List.getElem_cons_succ, List.getElem_cons_zero, List.setIfInBounds_toArray, List.set_cons_zero, List.set_cons_succ]
        refine wpAnyH_ready (rs := [9]) (by kernel_rfl) (by simp) ?_
        refine (AllReadyH.cons (o := _) rfl (fun K9 hK => ?_) AllReadyH.nil)
        go_simp
        refine hK.out _ _ (grown_trans (grown_trans (grown_drew (World.grownBy.refl W8 none)) g10) (World.grownBy_alloc _ _ none)) (fun hHeld => ?_)
        clear hK K9
        try simp only [Act.put, List.getElem_toArray, List.getElem_cons_succ, List.getElem_cons_zero, List.setIfInBounds_toArray, List.set_cons_zero, List.set_cons_succ]
        obtain ⟨q10, hq10⟩ : ∃ q, w10.heap.size = q := ⟨_, rfl⟩
        obtain ⟨W10, hW10⟩ : ∃ W, (w10.alloc (.cells GZ 26)).setRow q10 r10 = W := ⟨_, rfl⟩
        have bn10 : Blk (w10.alloc (.cells GZ 26)) q10 26 GZ := by rw [← hq10]; exact Blk.new w10 26 GZ
        have b10 : Blk W10 q10 26 r10 := by rw [← hW10]; exact bn10.row _
        have gw10 : w10.grownBy W10 none := by rw [← hW10]; exact grown_row (World.grownBy_alloc _ _ none) (.inl (by rw [hq10]; exact Nat.le_refl _)) _
        have gg10 : W8.grownBy W10 none := grown_trans (grown_drew (World.grownBy.refl W8 none)) (grown_trans g10 gw10)
        have v10 := HH10.out.2.1.grown gw10
        rw [hq10]
        refine wpAnyH_ready (rs := [10]) (by kernel_rfl) (by simp) ?_
        refine (AllReadyH.cons (o := _) rfl (fun K9 hK => ?_) AllReadyH.nil)
        refine ready_store_e (by rfl) 26 _ _ rfl q10 0 r10 rfl rfl (there_blk bn10 (by rw [HH10.out.2.2.2.1, HS.out.2.2.1]; exact Nat.le_refl _)) (by rw [HH10.out.2.2.2.1]; exact sz_Gre) (by rw [HH10.out.1]; exact Gd.one _ _ _) ?_
        rw [setCells_row (P := Tryz.prog) (ty := 26) bn10 (by rw [HH10.out.2.2.2.1]; exact sz_Gre) (by rw [HH10.out.2.2.2.1, HS.out.2.2.1]) (by rw [HH10.out.1]; exact Gd.one _ _ _), hW10]
        refine hK.out _ _ gg10 (fun hHeld => ?_)
        clear hK K9
        try simp only [Act.put, List.getElem_toArray, List.getElem_cons_succ, List.getElem_cons_zero, List.setIfInBounds_toArray, List.set_cons_zero, List.set_cons_succ]
        refine wpAnyH_take (i := 11) (oi := _) (v := ?ve10a11) rfl (by kernel_rfl) (by kernel_rfl) (by kernel_rfl) (fun _ _ _ h => h) (Or.inl ⟨by rfl, ?hye10a11⟩) (by assumption) ?reste10a11
        case hye10a11 => (intro V hSw; (try dsimp only at hSw); go_simp) <;> with_reducible rfl
        try simp only [Act.put, List.getElem_toArray, List.getElem_cons_succ, List.getElem_cons_zero, List.setIfInBounds_toArray, List.set_cons_zero, List.set_cons_succ]
        refine wpAnyH_take (i := 12) (oi := _) (v := ?ve10a12) rfl (by kernel_rfl) (by kernel_rfl) (by kernel_rfl) (fun _ _ _ h => h) (Or.inl ⟨by rfl, ?hye10a12⟩) (by assumption) ?reste10a12
        case hye10a12 => (intro V hSw; (try dsimp only at hSw); go_simp) <;> with_reducible rfl
        try simp only [Act.put, List.getElem_toArray, List.getElem_cons_succ, List.getElem_cons_zero, List.setIfInBounds_toArray, List.set_cons_zero, List.set_cons_succ]
        refine wpAnyH_done (by kernel_rfl) ?_ _
        clear hq10 hW10 bn10 gw10
        have H10 := Lib.hid (And.intro b10 (And.intro gg10 (And.intro HH10.out.1 (And.intro v10 HH10.out.2.2.1))))
        clear b10 gg10 HH10 v10 g10
        have hs10 : r10.size = 18 := by rw [H10.out.2.2.1]; exact Gd.size H10.out.2.2.2.2 _ _
        have HZ10 := Lib.hid (show (Tryz.prog.info? 26).map (·.size) = some r10.size by rw [hs10]; exact sz_Gre)
        clear hs10
        have hwj : wrap64 ((K : Int) + (jr : Int)) = S := HEE.out.2.2
        go_wp2_with fail

        refine (HNU.out W10 (grown_trans (grown_trans H7.out H8.out.2.1) H10.out.2.1) er HEE.out.2.1).mono ?_
        rintro e x1 ⟨rfl, gx1⟩
        have HGx1 := Lib.hid gx1
        clear gx1
        go_wp2_with fail
        refine (HNU.out x1 (grown_trans (grown_trans (grown_trans H7.out H8.out.2.1) H10.out.2.1) HGx1.out) er HEE.out.2.1).mono ?_
        rintro e x2 ⟨rfl, gx2⟩
        have HGx2 := Lib.hid (grown_trans HGx1.out gx2)
        clear gx2
        go_wp2_with (first
          | (refine wpList_load_mid_g rfl 26 _ rfl (q7) 0 rfl r6.toList _ (range_kept (range_blk0 (HB7.out.grown (grown_trans H8.out.2.1 H10.out.2.1) (by simp))) HGx2.out) Tryz.underlying26 rfl (by rw [Array.length_toList]; exact H6.out.2.2.2.1) ?_; rw [Array.toArray_toList])
          | (refine wpList_load_mid_g rfl 26 _ rfl (q10) 0 rfl r10.toList _ (range_kept (range_blk0 H10.out.1) HGx2.out) Tryz.underlying26 rfl (by rw [Array.length_toList]; exact HZ10.out) ?_; rw [Array.toArray_toList]))
        refine (same_gd x2 gr A6 A10 c6 c10 H10.out.2.2.2.2 ((show VdsAt W10 A6 gr.V by rw [← HEE.out.1]; exact (H6.out.2.1.grown (grown_trans HGg7.out (grown_trans H8.out.2.1 H10.out.2.1)))).grown HGx2.out) (H10.out.2.2.2.1.grown HGx2.out) r6 r10 (by rw [H6.out.1, HEE.out.1]) H10.out.2.2.1).mono ?_
        rintro e x3 ⟨rfl, gx3⟩
        have HGx3 := Lib.hid (grown_trans HGx2.out gx3)
        clear gx3
        go_wp2_with fail
        go_ret
        exact ⟨rfl, grown_trans (grown_trans (grown_trans H7.out H8.out.2.1) H10.out.2.1) HGx3.out⟩
      · go_simp
        obtain ⟨q10, hq10⟩ : ∃ q, W8.heap.size = q := ⟨_, rfl⟩
        obtain ⟨X10, hX10⟩ : ∃ X, (W8.alloc (.cells GZ 26)).drew = X := ⟨_, rfl⟩
        have bx10 : Blk X10 q10 26 GZ := by rw [← hX10, ← hq10]; exact (Blk.new W8 26 GZ).drew
        have gx10 : W8.grownBy X10 none := by rw [← hX10]; exact grown_drew (World.grownBy_alloc _ _ none)
        try rw [hX10]
        try rw [hq10]
        refine hK.out _ _ gx10 (fun hHeld => ?_)
        clear hK K9
        try simp only [Act.put, List.getElem_toArray, List.getElem_cons_succ, List.getElem_cons_zero, List.setIfInBounds_toArray, List.set_cons_zero, List.set_cons_succ]
        refine wpAnyH_ready (rs := [4]) (by kernel_rfl) (by simp) ?_
        refine (AllReadyH.cons (o := _) rfl (fun K9 hK => ?_) AllReadyH.nil)
        go_simp
        refine (HWK.out X10 (grown_trans (grown_trans H7.out H8.out.2.1) gx10) gh A8 c8 H8.out.2.2.2.2 (H8.out.2.2.2.1.grown gx10) r8 H8.out.2.2.1.symm (L.drop K) (ptrLo A2 c2 K) (c2 - K) (N - K) (by rw [List.length_drop, HL.out.1]) (chs_drop (HAT.out X10 (grown_trans (grown_trans H7.out H8.out.2.1) gx10)).2 c2 K (by rw [HL.out.1]; exact HL.out.2.1)) (fun ch hch => HL.out.2.2.1 ch (List.mem_of_mem_drop hch)) (Nat.le_trans (Nat.sub_le _ _) HK.out.2.2)).mono ?_
        rintro e w10 ⟨g10, A10, c10, r10, rfl, hr10, hv10, hf10, ok10⟩
        rw [HR10.out.1] at hr10 hv10 hf10 ok10 ⊢
        dsimp only at hr10 hv10 hf10 ok10 ⊢
        have hs10 : r10.size = 18 := by rw [hr10]; exact Gd.size ok10 _ _
        have bn10 : Blk w10 q10 26 GZ := bx10.grown g10 (by simp)
        obtain ⟨W10, hW10⟩ : ∃ W, w10.setRow q10 r10 = W := ⟨_, rfl⟩
        have b10 : Blk W10 q10 26 r10 := by rw [← hW10]; exact bn10.row _
        have gg10 : W8.grownBy W10 none := by rw [← hW10]; exact grown_row (grown_trans gx10 g10) (.inl (by rw [hq10]; exact Nat.le_refl _)) _
        have v10 : VdsAt W10 A10 gr.V := by rw [← hW10]; exact hv10.farRow hf10 (by have := bx10.lt; omega) _
        have HH10 := Lib.hid (And.intro hr10 (And.intro hv10 (And.intro ok10 (And.intro hs10 hf10))))
        clear hr10 hv10 ok10 hs10 hf10
        refine hK.out _ _ (grown_trans gx10 g10) (fun hHeld => ?_)
        clear hK K9
        try simp only [Act.put, List.getElem_toArray, List.getElem_cons_succ, List.getElem_cons_zero, List.setIfInBounds_toArray, List.set_cons_zero, List.set_cons_succ]
        refine wpAnyH_take (i := 5) (oi := _) (v := ?ve10b5) rfl (by kernel_rfl) (by kernel_rfl) (by kernel_rfl) (fun _ _ _ h => h) (Or.inl ⟨by rfl, ?hye10b5⟩) (by assumption) ?reste10b5
        case hye10b5 => (intro V hSw; (try dsimp only at hSw); go_simp) <;> with_reducible rfl
        try simp only [Act.put, List.getElem_toArray, List.getElem_cons_succ, List.getElem_cons_zero, List.setIfInBounds_toArray, List.set_cons_zero, List.set_cons_succ]
        refine wpAnyH_take (i := 6) (oi := _) (v := ?ve10b6) rfl (by kernel_rfl) (by kernel_rfl) (by kernel_rfl) (fun _ _ _ h => h) (Or.inl ⟨by rfl, ?hye10b6⟩) (by assumption) ?reste10b6
        case hye10b6 => (intro V hSw; (try dsimp only at hSw); go_simp) <;> with_reducible rfl
        try simp only [Act.put, List.getElem_toArray, List.getElem_cons_succ, List.getElem_cons_zero, List.setIfInBounds_toArray, List.set_cons_zero, List.set_cons_succ]
        refine wpAnyH_take (i := 7) (oi := _) (v := ?ve10b7) rfl (by kernel_rfl) (by kernel_rfl) (by kernel_rfl) (fun _ _ _ h => h) (Or.inl ⟨by rfl, ?hye10b7⟩) (by assumption) ?reste10b7
        case hye10b7 => (intro V hSw; (try dsimp only at hSw); go_simp) <;> with_reducible rfl
        try simp only [Act.put, List.getElem_toArray, List.getElem_cons_succ, List.getElem_cons_zero, List.setIfInBounds_toArray, List.set_cons_zero, List.set_cons_succ]
        refine wpAnyH_take (i := 8) (oi := _) (v := ?ve10b8) rfl (by kernel_rfl) (by kernel_rfl) (by kernel_rfl) (fun _ _ _ h => h) (Or.inl ⟨by rfl, ?hye10b8⟩) (by assumption) ?reste10b8
        case hye10b8 => (intro V hSw; (try dsimp only at hSw); go_simp) <;> with_reducible rfl
        try simp only [Act.put, List.getElem_toArray, List.getElem_cons_succ, List.getElem_cons_zero, List.setIfInBounds_toArray, List.set_cons_zero, List.set_cons_succ]
        refine wpAnyH_ready (rs := [10]) (by kernel_rfl) (by simp) ?_
        refine (AllReadyH.cons (o := _) rfl (fun K9 hK => ?_) AllReadyH.nil)
        refine ready_store_e (by rfl) 26 _ _ rfl q10 0 r10 rfl rfl (there_blk bn10 (by rw [HH10.out.2.2.2.1, HS.out.2.2.1]; exact Nat.le_refl _)) (by rw [HH10.out.2.2.2.1]; exact sz_Gre) (by rw [HH10.out.1]; exact Gd.one _ _ _) ?_
        rw [setCells_row (P := Tryz.prog) (ty := 26) bn10 (by rw [HH10.out.2.2.2.1]; exact sz_Gre) (by rw [HH10.out.2.2.2.1, HS.out.2.2.1]) (by rw [HH10.out.1]; exact Gd.one _ _ _), hW10]
        refine hK.out _ _ gg10 (fun hHeld => ?_)
        clear hK K9
        try simp only [Act.put, List.getElem_toArray, List.getElem_cons_succ, List.getElem_cons_zero, List.setIfInBounds_toArray, List.set_cons_zero, List.set_cons_succ]
        refine wpAnyH_take (i := 11) (oi := _) (v := ?ve10b11) rfl (by kernel_rfl) (by kernel_rfl) (by kernel_rfl) (fun _ _ _ h => h) (Or.inl ⟨by rfl, ?hye10b11⟩) (by assumption) ?reste10b11
        case hye10b11 => (intro V hSw; (try dsimp only at hSw); go_simp) <;> with_reducible rfl
        try simp only [Act.put, List.getElem_toArray, List.getElem_cons_succ, List.getElem_cons_zero, List.setIfInBounds_toArray, List.set_cons_zero, List.set_cons_succ]
        refine wpAnyH_take (i := 12) (oi := _) (v := ?ve10b12) rfl (by kernel_rfl) (by kernel_rfl) (by kernel_rfl) (fun _ _ _ h => h) (Or.inl ⟨by rfl, ?hye10b12⟩) (by assumption) ?reste10b12
        case hye10b12 => (intro V hSw; (try dsimp only at hSw); go_simp) <;> with_reducible rfl
        try simp only [Act.put, List.getElem_toArray, List.getElem_cons_succ, List.getElem_cons_zero, List.setIfInBounds_toArray, List.set_cons_zero, List.set_cons_succ]
        refine wpAnyH_done (by kernel_rfl) ?_ _
        clear hq10 hX10 hW10 bn10 bx10 gx10
        have H10 := Lib.hid (And.intro b10 (And.intro gg10 (And.intro HH10.out.1 (And.intro v10 HH10.out.2.2.1))))
        clear b10 gg10 HH10 v10 g10
        have hs10 : r10.size = 18 := by rw [H10.out.2.2.1]; exact Gd.size H10.out.2.2.2.2 _ _
        have HZ10 := Lib.hid (show (Tryz.prog.info? 26).map (·.size) = some r10.size by rw [hs10]; exact sz_Gre)
        clear hs10
        have hwj : wrap64 ((K : Int) + (jr : Int)) = S := HEE.out.2.2
        go_wp2_with fail

        refine (HNU.out W10 (grown_trans (grown_trans H7.out H8.out.2.1) H10.out.2.1) er HEE.out.2.1).mono ?_
        rintro e x1 ⟨rfl, gx1⟩
        have HGx1 := Lib.hid gx1
        clear gx1
        go_wp2_with fail
        refine (HNU.out x1 (grown_trans (grown_trans (grown_trans H7.out H8.out.2.1) H10.out.2.1) HGx1.out) er HEE.out.2.1).mono ?_
        rintro e x2 ⟨rfl, gx2⟩
        have HGx2 := Lib.hid (grown_trans HGx1.out gx2)
        clear gx2
        go_wp2_with (first
          | (refine wpList_load_mid_g rfl 26 _ rfl (q7) 0 rfl r6.toList _ (range_kept (range_blk0 (HB7.out.grown (grown_trans H8.out.2.1 H10.out.2.1) (by simp))) HGx2.out) Tryz.underlying26 rfl (by rw [Array.length_toList]; exact H6.out.2.2.2.1) ?_; rw [Array.toArray_toList])
          | (refine wpList_load_mid_g rfl 26 _ rfl (q10) 0 rfl r10.toList _ (range_kept (range_blk0 H10.out.1) HGx2.out) Tryz.underlying26 rfl (by rw [Array.length_toList]; exact HZ10.out) ?_; rw [Array.toArray_toList]))
        refine (same_gd x2 gr A6 A10 c6 c10 H10.out.2.2.2.2 ((show VdsAt W10 A6 gr.V by rw [← HEE.out.1]; exact (H6.out.2.1.grown (grown_trans HGg7.out (grown_trans H8.out.2.1 H10.out.2.1)))).grown HGx2.out) (H10.out.2.2.2.1.grown HGx2.out) r6 r10 (by rw [H6.out.1, HEE.out.1]) H10.out.2.2.1).mono ?_
        rintro e x3 ⟨rfl, gx3⟩
        have HGx3 := Lib.hid (grown_trans HGx2.out gx3)
        clear gx3
        go_wp2_with fail
        go_ret
        exact ⟨rfl, grown_trans (grown_trans (grown_trans H7.out H8.out.2.1) H10.out.2.1) HGx3.out⟩
end Go.Proofs.YtmoebkdbnldbdaaGreatDoor
