/-
  The document's tally: Said.
-/
import Derived.Test.YthcilpfcdblmkaaDoorTaM
import Derived.OwnWalk
import Derived.Deep.RegionHeld3
namespace Go.Proofs.YthcilpfcdblmkaaDoor
open Go.RowKit

set_option maxRecDepth 100000 in
set_option maxHeartbeats 4000000 in
theorem said_is (w : World) (lo hi m : Nat) (V : List Vd) (ms : List Wm) (h : Mod w lo hi m V ms) (hv : V.length ≤ 30) (hm : ms.length ≤ 100) (key : Int) :
    Calls Tryd.prog 14 #[.pointer (some ⟨m, 0, none⟩), .int .i64 key] w fun e w' => ∃ A1 c1 A2 c2, e = .returned (.tuple #[.slice A1 (saidM ms key V.length).length c1, .slice A2 (saidM ms key V.length).length c2]) ∧
      IntsAt w' A1 (fstL (saidM ms key V.length)) ∧ IntsAt w' A2 (sndL (saidM ms key V.length)) ∧ (saidM ms key V.length).length ≤ c1 ∧ (saidM ms key V.length).length ≤ c2 ∧ w.grownBy w' none := by
  obtain ⟨i0, hi0, hz0, hz1, hz2⟩ := info_parts int_info
  have HI0 := Lib.hid (And.intro hi0 (And.intro hz0 (And.intro hz1 hz2)))
  obtain ⟨A0, c0, hc0⟩ : ∃ A0 c0, w.cell? ⟨m, 0, none⟩ = some (.slice A0 V.length c0) := by obtain ⟨_, _, A, c, _, _, h3, _⟩ := h; exact ⟨A, c, h3.cell 0⟩
  obtain ⟨B0, d0, hc1, hW⟩ := h.words
  obtain ⟨n, hn⟩ : ∃ n, V.length = n := ⟨_, rfl⟩
  obtain ⟨q, hq⟩ : ∃ q, ms.length = q := ⟨_, rfl⟩
  rw [hn] at hv hc0 ⊢
  rw [hq] at hm hc1
  have HW := Lib.hid (And.intro hW hq)
  clear hi0 hz0 hz1 hz2 hW h hn hq
  have hst : St w (.slice (some ⟨w.heap.size, 0, none⟩) 0 0) (.slice (some ⟨w.heap.size + 1, 0, none⟩) 0 0) [] [] [] ((w.alloc (.cells #[] 3)).alloc (.cells #[] 3)) := by
    have h1 := (World.ownsRow_made (base := w.heap.size) (e := 3) (size := 1) w #[] 0 (Nat.le_refl _) (Nat.zero_le _) rfl).alloc (.cells #[] 3)
    have h2 := World.ownsRow_made (base := w.heap.size) (e := 3) (size := 1) (w.alloc (.cells #[] 3)) #[] 0 (by simp) (Nat.zero_le _) rfl
    rw [World.size_alloc] at h2
    exact ⟨h1, h2, fun g e1 e2 => by simp [Value.ownBlock] at e1 e2; omega, Kept.of_grown (F := fun j => w.heap.size ≤ j) (grown_trans (World.grownBy_alloc _ _ none) (World.grownBy_alloc _ _ none)) (fun _ e => by cases e), fun _ hc => by cases hc⟩
  have HST := Lib.hid hst
  clear hst
  have hc2 : ((w.alloc (.cells #[] 3)).alloc (.cells #[] 3)).cell? ⟨m, 0, none⟩ = some (.slice A0 n c0) := (grown_trans (World.grownBy_alloc _ _ none) (World.grownBy_alloc _ _ none)).cell hc0 (by simp)
  go_enter Tryd.func14, Tryd.ntmps14
  go_wp2_with fail
  clear hc2
  go_loopw [18, 6, 7] (fun i v6 v7 wr => ∃ k : Nat, k ≤ n ∧ i = .int .i64 (k : Int) ∧ ∃ A6 c6 A7 c7, v6 = .slice A6 (fstL (saidM ms key k)).length c6 ∧ v7 = .slice A7 (sndL (saidM ms key k)).length c7 ∧ St w (.slice A6 (fstL (saidM ms key k)).length c6) (.slice A7 (sndL (saidM ms key k)).length c7) (fstL (saidM ms key k)) (sndL (saidM ms key k)) [] wr) (fun i _ _ _ => n - (intOf i).toNat)
  case atStart => exact ⟨0, by omega, rfl, _, _, _, _, rfl, rfl, HST.out⟩
  case round =>
    obtain ⟨k, hk, hi, A6, c6, A7, c7, rfl, rfl, hS⟩ := hrel
    obtain ⟨I, hI⟩ : ∃ I : Int, I = (k : Int) := ⟨_, rfl⟩
    rw [← hI] at hi
    subst hi
    by_cases hlt : k < n
    · have d1 : decide (I < (n : Int)) = true := by simp; omega
      have hI2 : 0 ≤ I ∧ I < (n : Int) := by omega
      have hK := hS.2.2.2.1
      have cm := hK.cell hc1 (by have := World.block_lt_of_cell? w _ hc1; omega)
      have HI := Lib.hid (And.intro hI (And.intro hlt hS))
      obtain ⟨zl, hzl⟩ : ∃ zl, (fstL (saidM ms key k)).length = zl := ⟨_, rfl⟩
      obtain ⟨tl, htl⟩ : ∃ tl, (sndL (saidM ms key k)).length = tl := ⟨_, rfl⟩
      rw [hzl, htl]
      have HL := Lib.hid (And.intro hzl htl)
      clear hI hlt hS hK hk hzl htl
      go_wp2_with fail
      clear cm
      go_loopw [26, 6, 7] (fun i v6 v7 wr => ∃ j : Nat, j ≤ q ∧ i = .int .i64 (j : Int) ∧ ∃ A6 c6 A7 c7, v6 = .slice A6 (fstL (saidM ms key k ++ partM ms key k j)).length c6 ∧ v7 = .slice A7 (sndL (saidM ms key k ++ partM ms key k j)).length c7 ∧ St w (.slice A6 (fstL (saidM ms key k ++ partM ms key k j)).length c6) (.slice A7 (sndL (saidM ms key k ++ partM ms key k j)).length c7) (fstL (saidM ms key k ++ partM ms key k j)) (sndL (saidM ms key k ++ partM ms key k j)) [] wr) (fun i _ _ _ => q - (intOf i).toNat)
      case atStart =>
        have hp : partM ms key k 0 = [] := by simp [partM]
        refine ⟨0, by omega, rfl, A6, c6, A7, c7, ?_, ?_, ?_⟩
        · rw [hp, List.append_nil, HL.out.1]
        · rw [hp, List.append_nil, HL.out.2]
        · rw [hp, List.append_nil]; exact HI.out.2.2
      case round =>
        obtain ⟨j, hj, hi, A6, c6, A7, c7, rfl, rfl, hS⟩ := hrel
        obtain ⟨J, hJ⟩ : ∃ J : Int, J = (j : Int) := ⟨_, rfl⟩
        rw [← hJ] at hi
        subst hi
        by_cases hjl : j < q
        · have e1 : decide (J < (q : Int)) = true := by simp; omega
          have hjm : j < ms.length := by have := HW.out.2; omega
          obtain ⟨g, hBg, hcw⟩ := HW.out.1 (by rintro rfl; simp at hjm)
          subst hBg
          have hJJ : J.toNat = j := by omega
          have hK := hS.2.2.2.1
          have nof : ∀ {q : Addr} {v : Value}, w.cell? q = some v → ¬ (w.heap.size ≤ q.block) := fun h => by have := World.block_lt_of_cell? w _ h; omega
          have x0 := hK.cell (hcw j hjm 0 _ rfl) (nof (hcw j hjm 0 _ rfl))
          have x1 := hK.cell (hcw j hjm 1 _ rfl) (nof (hcw j hjm 1 _ rfl))
          have x2 := hK.cell (hcw j hjm 2 _ rfl) (nof (hcw j hjm 2 _ rfl))
          obtain ⟨⟨mk, mw, mt⟩, hm1⟩ : ∃ m, ms[j] = m := ⟨_, rfl⟩
          simp only [hm1, Nat.add_zero] at x0 x1 x2
          rw [← hJJ] at x0 x1 x2
          have hJ2 : 0 ≤ J ∧ J < (q : Int) := by omega
          have hyes : mw = I → mk = key → partM ms key k (j + 1) = partM ms key k j ++ [(k, mt)] := fun h1 h2 => by rw [partM_yes hjm (by rw [hm1, ← HI.out.1]; exact h1) (by rw [hm1]; exact h2), hm1]
          have hno : ¬ (mw = I ∧ mk = key) → partM ms key k (j + 1) = partM ms key k j := fun h => partM_no hjm (by rw [hm1, ← HI.out.1]; exact h)
          obtain ⟨P, hP⟩ : ∃ P, saidM ms key k ++ partM ms key k j = P := ⟨_, rfl⟩
          have hPl : P.length ≤ 10000 := by
            have h1 := saidM_length ms key k
            have h2 := partM_length ms key k j
            have h3 : k * ms.length ≤ 30 * 100 := Nat.mul_le_mul (by have := HI.out; omega) (by have := HW.out.2; omega)
            have := HW.out.2
            rw [← hP, List.length_append]; omega
          rw [hP] at hS ⊢
          obtain ⟨zs, hzs⟩ : ∃ zs, fstL P = zs := ⟨_, rfl⟩
          obtain ⟨ts, hts⟩ : ∃ ts, sndL P = ts := ⟨_, rfl⟩
          have hzl : zs.length ≤ 10000 := by rw [← hzs, fstL, List.length_map]; exact hPl
          have htl : ts.length ≤ 10000 := by rw [← hts, sndL, List.length_map]; exact hPl
          rw [hzs, hts] at hS ⊢
          have hz2 : fstL (P ++ [(k, mt)]) = zs ++ [I] := by rw [fstL, List.map_append, ← hzs, HI.out.1]; rfl
          have ht2 : sndL (P ++ [(k, mt)]) = ts ++ [mt] := by rw [sndL, List.map_append, ← hts]; rfl
          obtain ⟨v6, hv6⟩ : ∃ v6, Value.slice A6 zs.length c6 = v6 := ⟨_, rfl⟩
          obtain ⟨v7, hv7⟩ : ∃ v7, Value.slice A7 ts.length c7 = v7 := ⟨_, rfl⟩
          obtain ⟨gb, hgb⟩ : ∃ gb, wr.heap.size = gb := ⟨_, rfl⟩
          obtain ⟨W2, hW2⟩ : ∃ W2, wr.alloc (.cells #[.int .i64 mk, .int .i64 mw, .int .i64 mt] 36) = W2 := ⟨_, rfl⟩
          have hb2 : Blk W2 gb 36 #[.int .i64 mk, .int .i64 mw, .int .i64 mt] := by rw [← hW2, ← hgb]; exact Blk.new _ _ _
          have u0 := hb2.cell 0
          have u1 := hb2.cell 1
          have u2 := hb2.cell 2
          simp only [List.getElem?_toArray, List.getElem?_cons_zero, List.getElem?_cons_succ] at u0 u1 u2
          have hS2 := hS.alloc 36 #[.int .i64 mk, .int .i64 mw, .int .i64 mt] 2 (.int .i64 mt) rfl
          rw [hW2, hgb] at hS2
          by_cases hw : mw = I ∧ mk = key
          · obtain ⟨hw1, hw2⟩ := hw
            have e2 : (mw == I) = true := by simpa using hw1
            have e3 : (mk == key) = true := by simpa using hw2
            have hpe := hyes hw1 hw2
            have HJ := Lib.hid (And.intro hJ (And.intro hjl (show fstL (saidM ms key k ++ partM ms key k (j + 1)) = zs ++ [I] ∧ sndL (saidM ms key k ++ partM ms key k (j + 1)) = ts ++ [mt] from by rw [hpe, ← List.append_assoc, hP]; exact ⟨hz2, ht2⟩)))
            rw [hv6, hv7] at hS2 ⊢
            have HSD := Lib.hid (show St w v6 v7 zs ts [(⟨gb, 2, none⟩, .int .i64 mt)] W2.drew from hS2.grown (grown_drew (World.grownBy.refl W2 none)))
            clear hJ hjl hpe hz2 ht2 hw1 hw2 hyes hno hS hS2 hP hzs hts hb2 hK nof hcw hm1 hJJ hj hv6 hv7 hPl
            go_wp2_with fail
            (try rw [hW2])
            (try rw [hgb])
            clear x0 x1 x2 hW2 hgb
            go_wp2_with fail
            refine wp_region_held_drew (S := fun V => V.cell? ⟨gb, 2, none⟩ = some (.int .i64 mt)) (by kernel_rfl) (HSD.out.at (c := (⟨gb, 2, none⟩, .int .i64 mt)) (by simp)) (fun hHeld => ?_)
            refine wpAnyH_take (i := 0) (oi := _) (v := ?va0) rfl (by kernel_rfl) (by kernel_rfl) (by kernel_rfl) (fun _ _ _ h => h) (Or.inl ⟨by rfl, ?hya0⟩) (by assumption) ?resta0
            case hya0 => (intro V hSw; (try dsimp only at hSw); go_simp) <;> with_reducible rfl
            try simp only [Act.put, List.getElem_toArray, List.getElem_cons_succ, List.getElem_cons_zero, List.setIfInBounds_toArray, List.set_cons_zero, List.set_cons_succ]
            refine wpAnyH_take (i := 1) (oi := _) (v := ?va1) rfl (by kernel_rfl) (by kernel_rfl) (by kernel_rfl) (fun _ _ _ h => h) (Or.inl ⟨by rfl, ?hya1⟩) (by assumption) ?resta1
            case hya1 => (intro V hSw; (try dsimp only at hSw); go_simp) <;> with_reducible rfl
            try simp only [Act.put, List.getElem_toArray, List.getElem_cons_succ, List.getElem_cons_zero, List.setIfInBounds_toArray, List.set_cons_zero, List.set_cons_succ]
            refine wpAnyH_take (i := 4) (oi := _) (v := ?va4) rfl (by kernel_rfl) (by kernel_rfl) (by kernel_rfl) (fun _ _ _ h => h) (Or.inl ⟨by rfl, ?hya4⟩) (by assumption) ?resta4
            case hya4 => (intro V hSw; (try dsimp only at hSw); go_simp) <;> with_reducible rfl
            try simp only [Act.put, List.getElem_toArray, List.getElem_cons_succ, List.getElem_cons_zero, List.setIfInBounds_toArray, List.set_cons_zero, List.set_cons_succ]
            refine wpAnyH_take (i := 5) (oi := _) (v := ?va5) rfl (by kernel_rfl) (by kernel_rfl) (by kernel_rfl) (fun _ _ _ h => h) (Or.inl ⟨by rfl, ?hya5⟩) (by assumption) ?resta5
            case hya5 => (intro V hSw; (try dsimp only at hSw); go_simp) <;> with_reducible rfl
            try simp only [Act.put, List.getElem_toArray, List.getElem_cons_succ, List.getElem_cons_zero, List.setIfInBounds_toArray, List.set_cons_zero, List.set_cons_succ]
            refine wpAnyH_take (i := 6) (oi := _) (v := ?va6) rfl (by kernel_rfl) (by kernel_rfl) (by kernel_rfl) (fun _ _ _ h => h) (Or.inl ⟨by rfl, ?hya6⟩) (by assumption) ?resta6
            case hya6 => (intro V hSw; (try dsimp only at hSw); go_simp) <;> with_reducible rfl
            try simp only [Act.put, List.getElem_toArray, List.getElem_cons_succ, List.getElem_cons_zero, List.setIfInBounds_toArray, List.set_cons_zero, List.set_cons_succ]
            refine wpAnyH_ready (rs := [2, 7]) (by kernel_rfl) (by simp) ?_
            refine (AllReadyH.cons (o := _) rfl (fun K9 hK => ?_) (AllReadyH.cons (o := _) rfl (fun K9 hK => ?_) AllReadyH.nil))
            · skip
              go_simp
              have HS2 := Lib.hid (HSD.out.alloc 3 #[.int .i64 I] 0 (.int .i64 I) rfl)
              refine hK.out _ _ (HS2.out.at (c := (⟨gb, 2, none⟩, .int .i64 mt)) (by simp)) (fun hHeld => ?_)
              clear hK K9
              try simp only [Act.put, List.getElem_toArray, List.getElem_cons_succ, List.getElem_cons_zero, List.setIfInBounds_toArray, List.set_cons_zero, List.set_cons_succ]
              refine wpAnyH_ready (rs := [3, 7]) (by kernel_rfl) (by simp) ?_
              refine (AllReadyH.cons (o := _) rfl (fun K9 hK => ?_) (AllReadyH.cons (o := _) rfl (fun K9 hK => ?_) AllReadyH.nil))
              · skip
                rw [if_pos (by rfl)]
                refine wp_push_one _ _ _ 42 rfl w.heap.size 3 i0 _ 8 Tryd.underlying42 HI0.out.1 HI0.out.2.1 HI0.out.2.2.1 HI0.out.2.2.2 rfl v6 zs.length _ rfl HS2.out.1 ⟨W2.heap.size, 0, none⟩ 1 (.int .i64 I) rfl (HS2.out.at (c := (⟨W2.heap.size, 0, none⟩, .int .i64 I)) (by simp)) rfl (by omega) (by omega) HS2.out.2.2.2.1.size ?_
                intro A3 c3 w3 hown hg hat
                have HS3 := Lib.hid (HS2.out.push6 rfl hown hg hat)
                clear hown hg hat
                refine hK.out _ _ (HS3.out.at (c := (⟨gb, 2, none⟩, .int .i64 mt)) (by simp)) (fun hHeld => ?_)
                clear hK K9
                try simp only [Act.put, List.getElem_toArray, List.getElem_cons_succ, List.getElem_cons_zero, List.setIfInBounds_toArray, List.set_cons_zero, List.set_cons_succ]
                refine wpAnyH_ready (rs := [7]) (by kernel_rfl) (by simp) ?_
                refine (AllReadyH.cons (o := _) rfl (fun K9 hK => ?_) AllReadyH.nil)
                go_simp
                have HS7 := Lib.hid (HS3.out.alloc 3 #[.int .i64 mt] 0 (.int .i64 mt) rfl)
                refine hK.out _ _ (HS7.out.at (c := (⟨gb, 2, none⟩, .int .i64 mt)) (by simp)) (fun hHeld => ?_)
                clear hK K9
                try simp only [Act.put, List.getElem_toArray, List.getElem_cons_succ, List.getElem_cons_zero, List.setIfInBounds_toArray, List.set_cons_zero, List.set_cons_succ]
                refine wpAnyH_ready (rs := [8]) (by kernel_rfl) (by simp) ?_
                refine (AllReadyH.cons (o := _) rfl (fun K9 hK => ?_) AllReadyH.nil)
                rw [if_pos (by rfl)]
                refine wp_push_one _ _ _ 42 rfl w.heap.size 3 i0 _ 8 Tryd.underlying42 HI0.out.1 HI0.out.2.1 HI0.out.2.2.1 HI0.out.2.2.2 rfl v7 ts.length _ rfl HS7.out.2.1 ⟨w3.heap.size, 0, none⟩ 1 (.int .i64 mt) rfl (HS7.out.at (c := (⟨w3.heap.size, 0, none⟩, .int .i64 mt)) (by simp)) rfl (by omega) (by omega) HS7.out.2.2.2.1.size ?_
                intro A8 c8 w8 hown hg hat
                have HS8 := Lib.hid (HS7.out.push7 rfl hown hg hat)
                clear hown hg hat
                refine hK.out _ _ (HS8.out.at (c := (⟨gb, 2, none⟩, .int .i64 mt)) (by simp)) (fun hHeld => ?_)
                clear hK K9
                try simp only [Act.put, List.getElem_toArray, List.getElem_cons_succ, List.getElem_cons_zero, List.setIfInBounds_toArray, List.set_cons_zero, List.set_cons_succ]
                refine wpAnyH_take (i := 9) (oi := _) (v := ?vc9) rfl (by kernel_rfl) (by kernel_rfl) (by kernel_rfl) (fun _ _ _ h => h) (Or.inl ⟨by rfl, ?hyc9⟩) (by assumption) ?restc9
                case hyc9 => (intro V hSw; (try dsimp only at hSw); go_simp) <;> with_reducible rfl
                try simp only [Act.put, List.getElem_toArray, List.getElem_cons_succ, List.getElem_cons_zero, List.setIfInBounds_toArray, List.set_cons_zero, List.set_cons_succ]
                refine wpAnyH_take (i := 10) (oi := _) (v := ?vc10) rfl (by kernel_rfl) (by kernel_rfl) (by kernel_rfl) (fun _ _ _ h => h) (Or.inl ⟨by rfl, ?hyc10⟩) (by assumption) ?restc10
                case hyc10 => (intro V hSw; (try dsimp only at hSw); go_simp) <;> with_reducible rfl
                try simp only [Act.put, List.getElem_toArray, List.getElem_cons_succ, List.getElem_cons_zero, List.setIfInBounds_toArray, List.set_cons_zero, List.set_cons_succ]
                refine wpAnyH_done (by kernel_rfl) ?_ _
                have HF := Lib.hid HS8.out.none
                go_wp2_with fail
                go_roundw
                case rel =>
                  obtain ⟨hJ, hjl, hp⟩ := HJ.out
                  exact ⟨j + 1, by omega, by rw [hJ]; rfl, A3, c3, A8, c8, by rw [hp.1, List.length_append, List.length_singleton], by rw [hp.2, List.length_append, List.length_singleton], by rw [hp.1, hp.2, List.length_append, List.length_singleton, List.length_append, List.length_singleton]; exact HF.out⟩
                case measure => obtain ⟨hJ, hjl, _⟩ := HJ.out; simp [intOf]; omega
              · skip
                go_simp
                have HS7 := Lib.hid (HS2.out.alloc 3 #[.int .i64 mt] 0 (.int .i64 mt) rfl)
                refine hK.out _ _ (HS7.out.at (c := (⟨gb, 2, none⟩, .int .i64 mt)) (by simp)) (fun hHeld => ?_)
                clear hK K9
                try simp only [Act.put, List.getElem_toArray, List.getElem_cons_succ, List.getElem_cons_zero, List.setIfInBounds_toArray, List.set_cons_zero, List.set_cons_succ]
                refine wpAnyH_ready (rs := [3]) (by kernel_rfl) (by simp) ?_
                refine (AllReadyH.cons (o := _) rfl (fun K9 hK => ?_) AllReadyH.nil)
                rw [if_pos (by rfl)]
                refine wp_push_one _ _ _ 42 rfl w.heap.size 3 i0 _ 8 Tryd.underlying42 HI0.out.1 HI0.out.2.1 HI0.out.2.2.1 HI0.out.2.2.2 rfl v6 zs.length _ rfl HS7.out.1 ⟨W2.heap.size, 0, none⟩ 1 (.int .i64 I) rfl (HS7.out.at (c := (⟨W2.heap.size, 0, none⟩, .int .i64 I)) (by simp)) rfl (by omega) (by omega) HS7.out.2.2.2.1.size ?_
                intro A3 c3 w3 hown hg hat
                have HS3 := Lib.hid (HS7.out.push6 rfl hown hg hat)
                clear hown hg hat
                refine hK.out _ _ (HS3.out.at (c := (⟨gb, 2, none⟩, .int .i64 mt)) (by simp)) (fun hHeld => ?_)
                clear hK K9
                try simp only [Act.put, List.getElem_toArray, List.getElem_cons_succ, List.getElem_cons_zero, List.setIfInBounds_toArray, List.set_cons_zero, List.set_cons_succ]
                refine wpAnyH_ready (rs := [8]) (by kernel_rfl) (by simp) ?_
                refine (AllReadyH.cons (o := _) rfl (fun K9 hK => ?_) AllReadyH.nil)
                rw [if_pos (by rfl)]
                refine wp_push_one _ _ _ 42 rfl w.heap.size 3 i0 _ 8 Tryd.underlying42 HI0.out.1 HI0.out.2.1 HI0.out.2.2.1 HI0.out.2.2.2 rfl v7 ts.length _ rfl HS3.out.2.1 ⟨(W2.heap.size + 1), 0, none⟩ 1 (.int .i64 mt) rfl (HS3.out.at (c := (⟨(W2.heap.size + 1), 0, none⟩, .int .i64 mt)) (by simp)) rfl (by omega) (by omega) HS3.out.2.2.2.1.size ?_
                intro A8 c8 w8 hown hg hat
                have HS8 := Lib.hid (HS3.out.push7 rfl hown hg hat)
                clear hown hg hat
                refine hK.out _ _ (HS8.out.at (c := (⟨gb, 2, none⟩, .int .i64 mt)) (by simp)) (fun hHeld => ?_)
                clear hK K9
                try simp only [Act.put, List.getElem_toArray, List.getElem_cons_succ, List.getElem_cons_zero, List.setIfInBounds_toArray, List.set_cons_zero, List.set_cons_succ]
                refine wpAnyH_take (i := 9) (oi := _) (v := ?vd9) rfl (by kernel_rfl) (by kernel_rfl) (by kernel_rfl) (fun _ _ _ h => h) (Or.inl ⟨by rfl, ?hyd9⟩) (by assumption) ?restd9
                case hyd9 => (intro V hSw; (try dsimp only at hSw); go_simp) <;> with_reducible rfl
                try simp only [Act.put, List.getElem_toArray, List.getElem_cons_succ, List.getElem_cons_zero, List.setIfInBounds_toArray, List.set_cons_zero, List.set_cons_succ]
                refine wpAnyH_take (i := 10) (oi := _) (v := ?vd10) rfl (by kernel_rfl) (by kernel_rfl) (by kernel_rfl) (fun _ _ _ h => h) (Or.inl ⟨by rfl, ?hyd10⟩) (by assumption) ?restd10
                case hyd10 => (intro V hSw; (try dsimp only at hSw); go_simp) <;> with_reducible rfl
                try simp only [Act.put, List.getElem_toArray, List.getElem_cons_succ, List.getElem_cons_zero, List.setIfInBounds_toArray, List.set_cons_zero, List.set_cons_succ]
                refine wpAnyH_done (by kernel_rfl) ?_ _
                have HF := Lib.hid HS8.out.none
                go_wp2_with fail
                go_roundw
                case rel =>
                  obtain ⟨hJ, hjl, hp⟩ := HJ.out
                  exact ⟨j + 1, by omega, by rw [hJ]; rfl, A3, c3, A8, c8, by rw [hp.1, List.length_append, List.length_singleton], by rw [hp.2, List.length_append, List.length_singleton], by rw [hp.1, hp.2, List.length_append, List.length_singleton, List.length_append, List.length_singleton]; exact HF.out⟩
                case measure => obtain ⟨hJ, hjl, _⟩ := HJ.out; simp [intOf]; omega
            · skip
              go_simp
              have HS7 := Lib.hid (HSD.out.alloc 3 #[.int .i64 mt] 0 (.int .i64 mt) rfl)
              refine hK.out _ _ (HS7.out.at (c := (⟨gb, 2, none⟩, .int .i64 mt)) (by simp)) (fun hHeld => ?_)
              clear hK K9
              try simp only [Act.put, List.getElem_toArray, List.getElem_cons_succ, List.getElem_cons_zero, List.setIfInBounds_toArray, List.set_cons_zero, List.set_cons_succ]
              refine wpAnyH_ready (rs := [2]) (by kernel_rfl) (by simp) ?_
              refine (AllReadyH.cons (o := _) rfl (fun K9 hK => ?_) AllReadyH.nil)
              go_simp
              have HS2 := Lib.hid (HS7.out.alloc 3 #[.int .i64 I] 0 (.int .i64 I) rfl)
              refine hK.out _ _ (HS2.out.at (c := (⟨gb, 2, none⟩, .int .i64 mt)) (by simp)) (fun hHeld => ?_)
              clear hK K9
              try simp only [Act.put, List.getElem_toArray, List.getElem_cons_succ, List.getElem_cons_zero, List.setIfInBounds_toArray, List.set_cons_zero, List.set_cons_succ]
              refine wpAnyH_ready (rs := [3]) (by kernel_rfl) (by simp) ?_
              refine (AllReadyH.cons (o := _) rfl (fun K9 hK => ?_) AllReadyH.nil)
              rw [if_pos (by rfl)]
              refine wp_push_one _ _ _ 42 rfl w.heap.size 3 i0 _ 8 Tryd.underlying42 HI0.out.1 HI0.out.2.1 HI0.out.2.2.1 HI0.out.2.2.2 rfl v6 zs.length _ rfl HS2.out.1 ⟨(W2.heap.size + 1), 0, none⟩ 1 (.int .i64 I) rfl (HS2.out.at (c := (⟨(W2.heap.size + 1), 0, none⟩, .int .i64 I)) (by simp)) rfl (by omega) (by omega) HS2.out.2.2.2.1.size ?_
              intro A3 c3 w3 hown hg hat
              have HS3 := Lib.hid (HS2.out.push6 rfl hown hg hat)
              clear hown hg hat
              refine hK.out _ _ (HS3.out.at (c := (⟨gb, 2, none⟩, .int .i64 mt)) (by simp)) (fun hHeld => ?_)
              clear hK K9
              try simp only [Act.put, List.getElem_toArray, List.getElem_cons_succ, List.getElem_cons_zero, List.setIfInBounds_toArray, List.set_cons_zero, List.set_cons_succ]
              refine wpAnyH_ready (rs := [8]) (by kernel_rfl) (by simp) ?_
              refine (AllReadyH.cons (o := _) rfl (fun K9 hK => ?_) AllReadyH.nil)
              rw [if_pos (by rfl)]
              refine wp_push_one _ _ _ 42 rfl w.heap.size 3 i0 _ 8 Tryd.underlying42 HI0.out.1 HI0.out.2.1 HI0.out.2.2.1 HI0.out.2.2.2 rfl v7 ts.length _ rfl HS3.out.2.1 ⟨W2.heap.size, 0, none⟩ 1 (.int .i64 mt) rfl (HS3.out.at (c := (⟨W2.heap.size, 0, none⟩, .int .i64 mt)) (by simp)) rfl (by omega) (by omega) HS3.out.2.2.2.1.size ?_
              intro A8 c8 w8 hown hg hat
              have HS8 := Lib.hid (HS3.out.push7 rfl hown hg hat)
              clear hown hg hat
              refine hK.out _ _ (HS8.out.at (c := (⟨gb, 2, none⟩, .int .i64 mt)) (by simp)) (fun hHeld => ?_)
              clear hK K9
              try simp only [Act.put, List.getElem_toArray, List.getElem_cons_succ, List.getElem_cons_zero, List.setIfInBounds_toArray, List.set_cons_zero, List.set_cons_succ]
              refine wpAnyH_take (i := 9) (oi := _) (v := ?ve9) rfl (by kernel_rfl) (by kernel_rfl) (by kernel_rfl) (fun _ _ _ h => h) (Or.inl ⟨by rfl, ?hye9⟩) (by assumption) ?reste9
              case hye9 => (intro V hSw; (try dsimp only at hSw); go_simp) <;> with_reducible rfl
              try simp only [Act.put, List.getElem_toArray, List.getElem_cons_succ, List.getElem_cons_zero, List.setIfInBounds_toArray, List.set_cons_zero, List.set_cons_succ]
              refine wpAnyH_take (i := 10) (oi := _) (v := ?ve10) rfl (by kernel_rfl) (by kernel_rfl) (by kernel_rfl) (fun _ _ _ h => h) (Or.inl ⟨by rfl, ?hye10⟩) (by assumption) ?reste10
              case hye10 => (intro V hSw; (try dsimp only at hSw); go_simp) <;> with_reducible rfl
              try simp only [Act.put, List.getElem_toArray, List.getElem_cons_succ, List.getElem_cons_zero, List.setIfInBounds_toArray, List.set_cons_zero, List.set_cons_succ]
              refine wpAnyH_done (by kernel_rfl) ?_ _
              have HF := Lib.hid HS8.out.none
              go_wp2_with fail
              go_roundw
              case rel =>
                obtain ⟨hJ, hjl, hp⟩ := HJ.out
                exact ⟨j + 1, by omega, by rw [hJ]; rfl, A3, c3, A8, c8, by rw [hp.1, List.length_append, List.length_singleton], by rw [hp.2, List.length_append, List.length_singleton], by rw [hp.1, hp.2, List.length_append, List.length_singleton, List.length_append, List.length_singleton]; exact HF.out⟩
              case measure => obtain ⟨hJ, hjl, _⟩ := HJ.out; simp [intOf]; omega
          · have HJ := Lib.hid (And.intro hJ (And.intro hjl (And.intro (hno hw) (And.intro hP (And.intro hzs hts)))))
            have HS2 := Lib.hid hS2.none
            have hw' : ¬ mw = I ∨ (mw = I ∧ ¬ mk = key) := by by_cases h : mw = I <;> simp_all
            clear hJ hjl hw hz2 ht2 hyes hno hS hS2 hP hzs hts hb2 hK nof hcw hm1 hJJ hj hv6 hv7 hPl
            rcases hw' with hw' | ⟨hw', hw2⟩
            · have e2 : (mw == I) = false := by simpa using hw'
              clear hw'
              go_wp2_with fail
              (try rw [hW2])
              (try rw [hgb])
              clear x0 x1 x2 hW2 hgb
              go_wp2_with fail
              go_roundw
              case rel =>
                obtain ⟨hJ, hjl, hp, hP, hz, ht⟩ := HJ.out
                exact ⟨j + 1, by omega, by rw [hJ]; rfl, A6, c6, A7, c7, by rw [hp, hP, hz], by rw [hp, hP, ht], by rw [hp, hP, hz, ht]; exact HS2.out⟩
              case measure => obtain ⟨hJ, hjl, _⟩ := HJ.out; simp [intOf]; omega
            · have e2 : (mw == I) = true := by simpa using hw'
              have e3 : (mk == key) = false := by simpa using hw2
              clear hw' hw2
              go_wp2_with fail
              (try rw [hW2])
              (try rw [hgb])
              clear x0 x1 x2 hW2 hgb
              go_wp2_with fail
              go_roundw
              case rel =>
                obtain ⟨hJ, hjl, hp, hP, hz, ht⟩ := HJ.out
                exact ⟨j + 1, by omega, by rw [hJ]; rfl, A6, c6, A7, c7, by rw [hp, hP, hz], by rw [hp, hP, ht], by rw [hp, hP, hz, ht]; exact HS2.out⟩
              case measure => obtain ⟨hJ, hjl, _⟩ := HJ.out; simp [intOf]; omega
        · have e1 : decide (J < (q : Int)) = false := by simp; omega
          obtain rfl : j = q := by omega
          have HJ := Lib.hid hS
          clear hJ hjl hj hS
          go_wp2_with fail
          go_roundw
          case rel =>
            obtain ⟨hI, hlt, _⟩ := HI.out
            have hs : saidM ms key k ++ partM ms key k j = saidM ms key (k + 1) := by rw [saidM_succ, HW.out.2]
            exact ⟨k + 1, by omega, by rw [hI]; rfl, A6, c6, A7, c7, by rw [← hs], by rw [← hs], by rw [← hs]; exact HJ.out⟩
          case measure => obtain ⟨hI, hlt, _⟩ := HI.out; simp [intOf]; omega
    · have d1 : decide (I < (n : Int)) = false := by simp; omega
      obtain rfl : k = n := by omega
      have HJ := Lib.hid hS
      obtain ⟨zl, hzl⟩ : ∃ zl, (fstL (saidM ms key k)).length = zl := ⟨_, rfl⟩
      obtain ⟨tl, htl⟩ : ∃ tl, (sndL (saidM ms key k)).length = tl := ⟨_, rfl⟩
      rw [hzl, htl]
      have HL := Lib.hid (And.intro hzl htl)
      clear hI hlt hk hS hzl htl
      go_wp2_with fail
      refine bodyPost_ret (results_tmp2 rfl _ _ _) rfl ?_
      have hf : (fstL (saidM ms key k)).length = (saidM ms key k).length := by rw [fstL, List.length_map]
      have hs : (sndL (saidM ms key k)).length = (saidM ms key k).length := by rw [sndL, List.length_map]
      obtain ⟨A8, d8, e8, hl8, hi8⟩ := own_ints HJ.out.1
      obtain ⟨A9, d9, e9, hl9, hi9⟩ := own_ints HJ.out.2.1
      injection e8 with a1 a2 a3
      injection e9 with b1 b2 b3
      subst a1 a3 b1 b3
      have hz' : zl = (saidM ms key k).length := by rw [← HL.out.1, hf]
      have ht' : tl = (saidM ms key k).length := by rw [← HL.out.2, hs]
      refine ⟨A6, c6, A7, c7, ?_, hi8, hi9, by omega, by omega, HJ.out.2.2.2.1.grownNone (fun j h1 (h2 : w.heap.size ≤ j) => by omega)⟩
      rw [show Value.slice A7 (saidM ms key k).length c7 = Value.slice A7 tl c7 by rw [ht'], show Value.slice A6 (saidM ms key k).length c6 = Value.slice A6 zl c6 by rw [hz']]
      rfl
end Go.Proofs.YthcilpfcdblmkaaDoor
