/-
  TallyPlays, walked.
-/
import Derived.Test.YthcilpfcdblmkaaDoorTaOQ
import Derived.Test.YthcilpfcdblmkaaDoorTaDI
import Derived.Test.YthcilpfcdblmkaaDoorTaEI
import Derived.Test.YthcilpfcdblmkaaDoorTaAl
import Derived.Test.YthcilpfcdblmkaaDoorSi
namespace Go.Proofs.YthcilpfcdblmkaaDoor
open Go.RowKit

set_option maxRecDepth 100000 in
set_option maxHeartbeats 4000000 in
theorem plays10_any (w : World) (A Aw : Option Addr) (c cw n : Nat) (V : List Vd) (ms : List Wm) (asked : Int) (E : Nat → Addr) (hV : VdsAt w A V) (ok : keysOk V) (hvc : V.length ≤ c) (hn : ms.length = n) (hM : WmsAt w Aw ms) (he : ErrEnv w w.heap.size E) :
    Calls Tryd.prog 3 #[.slice A V.length c, .slice Aw n cw, .int .i64 asked] w fun e w' => e = .returned (.bool true) ∧ w.grownBy w' none := by
  have HE := Lib.hid he
  have HV := Lib.hid (And.intro hV (And.intro ok hvc))
  have HM := Lib.hid (And.intro hn hM)
  have HA := Lib.hid (alive10_is w w.heap.size (E 10) (E 0) (E 16) (Nat.le_refl _) (he.var 10 (by omega)) (he.var 0 (by omega)) (he.var 16 (by omega)))
  clear he hV ok hM hn hvc
  obtain ⟨nv, hnv⟩ : ∃ nv, V.length = nv := ⟨_, rfl⟩
  rw [hnv]
  have HNV := Lib.hid hnv
  clear hnv
  go_enter Tryd.func3, Tryd.ntmps3
  go_wp2_with fail
  refine HA.out.mono ?_
  rintro e w1 ⟨rfl, k1⟩
  have K1 := Lib.hid k1
  clear k1
  by_cases h30 : 30 < nv ∨ 40 < n
  · by_cases h1 : 30 < nv
    · have d1 : decide ((30 : Int) < (nv : Int)) = true := by simp; omega
      go_wp2_with fail
      go_ret
      exact ⟨rfl, K1.out⟩
    · have d1 : decide ((30 : Int) < (nv : Int)) = false := by simp; omega
      have d2 : decide ((40 : Int) < (n : Int)) = true := by simp; omega
      go_wp2_with fail
      go_ret
      exact ⟨rfl, K1.out⟩
  have d1 : decide ((30 : Int) < (nv : Int)) = false := by simp; omega
  have d2 : decide ((40 : Int) < (n : Int)) = false := by simp; omega
  have hb30 : nv ≤ 30 ∧ n ≤ 40 := by omega
  clear h30
  go_wp2_with fail
  have hl30 : V.length < 1000 := by have := HNV.out; omega
  have HN1 := Lib.hid (newI_is w1 A c w.heap.size V (E 10) (HV.out.1.grown K1.out) HV.out.2.1 hl30 ((HE.out.var 10 (by omega)).grown K1.out (by simp)))
  rw [HNV.out] at HN1
  refine HN1.out.mono ?_
  rintro e w3 ⟨k3, ⟨hr, rfl⟩ | ⟨hr, t, b, rfl, hT⟩⟩
  · have K3 := Lib.hid (And.intro (grown_trans K1.out k3) hr)
    clear k3 hr
    go_wp2_with fail
    have HR := Lib.hid (rright_is w3 A c V (HV.out.1.grown K3.out.1) HV.out.2.1 hl30 HV.out.2.2)
    rw [HNV.out] at HR
    refine HR.out.mono ?_
    rintro e w4 ⟨rfl, k4⟩
    rw [K3.out.2]
    have K4 := Lib.hid (grown_trans K3.out.1 k4)
    clear k4
    go_wp2_with fail
    refine (num_is w4 w.heap.size E (HE.out.grown K4.out (by simp)) 11 (by omega)).mono ?_
    rintro e w5 ⟨rfl, k5⟩
    have K5 := Lib.hid (grown_trans K4.out k5)
    clear k5
    go_wp2_with fail
    go_ret
    exact ⟨rfl, K5.out⟩
  have K3 := Lib.hid (And.intro (grown_trans K1.out k3) (And.intro hr hT))
  have hlo : w.heap.size ≤ w1.heap.size := K1.out.size
  have hs3 := k3.size
  clear k3 hr hT
  go_wp2_with fail
  have HR := Lib.hid (rright_is w3 A c V (HV.out.1.grown K3.out.1) HV.out.2.1 hl30 HV.out.2.2)
  rw [HNV.out] at HR
  refine HR.out.mono ?_
  rintro e w4 ⟨rfl, k4⟩
  rw [K3.out.2.1]
  obtain ⟨lo, hlo1⟩ : ∃ lo, w1.heap.size = lo := ⟨_, rfl⟩
  obtain ⟨hi, hhi1⟩ : ∃ hi, w4.heap.size = hi := ⟨_, rfl⟩
  have hne : V ≠ [] := by rintro rfl; have := (right_powers K3.out.2.1).2.1; simp at this
  have hT4 := (K3.out.2.2.grown k4).mono (T := fun k => lo ≤ k ∧ k < hi) (fun k hk h => ⟨by have h : w1.heap.size ≤ k := h; omega, by omega⟩) hne
  have hw4 := grown_trans K3.out.1 k4
  have hv7 := (right_powers K3.out.2.1).1
  obtain ⟨w5, hw5⟩ : ∃ w5, w4.alloc (.cells #[.slice A nv c, .slice none 0 0] 34) = w5 := ⟨_, rfl⟩
  have g5 : w4.grownBy w5 none := by rw [← hw5]; exact World.grownBy_alloc _ _ none
  have b5 : Blk w5 hi 34 #[.slice A nv c, .slice none 0 0] := by rw [← hw5, ← hhi1]; exact Blk.new _ _ _
  have hM5 : Mod w5 lo hi hi V [] := by
    refine ⟨Nat.le_refl _, HV.out.2.1, A, c, none, 0, by rw [HNV.out]; exact b5, HV.out.1.grown (grown_trans hw4 g5), HV.out.2.2, World.ownsRow_nil _ _ _ _, (fun _ e => by cases e), fun a e hne => ?_⟩
    have h1 := HV.out.1.blk a e hne
    have h2 := k4.size
    omega
  have hW0 : Agree (List.replicate nv ⟨false, 0, 0⟩) [] := agree_none _
  have H5 := Lib.hid (And.intro (grown_trans hw4 g5) (And.intro (hT4.grown g5) (And.intro hM5 (show w.heap.size ≤ lo ∧ lo ≤ b ∧ b < hi ∧ hi ≤ w5.heap.size from ⟨by omega, hT4.2.1.1, hT4.2.1.2, by rw [← hhi1]; exact g5.size⟩))))
  clear hlo hs3 k4 hw4 g5 b5 hM5 hT4
  go_wp2_with fail
  (try rw [hw5])
  (try rw [hhi1])
  clear hw5 hhi1 hlo1
  go_loopw [58] (fun i wr => ∃ k : Nat, k ≤ n ∧ i = .int .i64 (k : Int) ∧ Kept (fun j => w.heap.size ≤ j) w wr ∧ ∃ (W : List (Wd Int)) (ms2 : List Wm), Agree W ms2 ∧ W.length = V.length ∧ ms2.length ≤ k ∧ TalI wr (fun k => lo ≤ k ∧ k < hi) t b V W ∧ Mod wr lo hi hi V ms2 ∧ hi ≤ wr.heap.size) (fun i _ => n - (intOf i).toNat)
  case atStart => exact ⟨0, by omega, rfl, Kept.of_grown (F := fun j => w.heap.size ≤ j) H5.out.1 (fun _ e => by cases e), _, [], hW0, by simp [HNV.out], by simp, H5.out.2.1, H5.out.2.2.1, H5.out.2.2.2.2.2.2⟩
  case round =>
    clear hW0
    obtain ⟨k, hk, hi9, hK, W9, ms1, hAg, hWl, hml, hT, hMo, hhw⟩ := hrel
    obtain ⟨J, hJ⟩ : ∃ J : Int, J = (k : Int) := ⟨_, rfl⟩
    rw [← hJ] at hi9
    subst hi9
    by_cases hlt : k < n
    · have e3 : decide (J < (n : Int)) = true := by simp; omega
      have hkm : k < ms.length := by have := HM.out.1; omega
      obtain ⟨bw, ow, hAw, hcw⟩ := HM.out.2 (by rintro rfl; simp at hkm)
      subst hAw
      have hkJ : J.toNat = k := by omega
      have nof : ∀ {q : Addr} {v : Value}, w.cell? q = some v → ¬ (w.heap.size ≤ q.block) := fun h => by have := World.block_lt_of_cell? w _ h; omega
      have x0 := hK.cell (hcw k hkm 0 _ rfl) (nof (hcw k hkm 0 _ rfl))
      have x1 := hK.cell (hcw k hkm 1 _ rfl) (nof (hcw k hkm 1 _ rfl))
      have x2 := hK.cell (hcw k hkm 2 _ rfl) (nof (hcw k hkm 2 _ rfl))
      obtain ⟨⟨mk, mw, mt⟩, hm⟩ : ∃ m, ms[k] = m := ⟨_, rfl⟩
      simp only [hm, Nat.add_zero] at x0 x1 x2
      rw [← hkJ] at x0 x1 x2
      have hJ2 : 0 ≤ J ∧ J < (n : Int) := by omega
      obtain ⟨ga, hga⟩ : ∃ ga, wr.heap.size = ga := ⟨_, rfl⟩
      obtain ⟨W1, hW1⟩ : ∃ W1, wr.alloc (.cells #[.int .i64 mk, .int .i64 mw, .int .i64 mt] 36) = W1 := ⟨_, rfl⟩
      have hb1 : Blk W1 ga 36 #[.int .i64 mk, .int .i64 mw, .int .i64 mt] := by rw [← hW1, ← hga]; exact Blk.new _ _ _
      have hg1 : wr.grownBy W1 none := by rw [← hW1]; exact World.grownBy_alloc _ _ none
      have hK1 : Kept (fun j => w.heap.size ≤ j) w W1 := hK.next (Kept.of_grown (F := fun _ => False) hg1 fun _ e => by cases e) (fun _ _ h => h.elim)
      have HG1 := Lib.hid hg1
      have hE1 : ErrEnv W1 w.heap.size E := HE.out.below (hK1.below (Nat.le_refl _) (fun _ h => h)) (Nat.le_refl _)
      have z0 := hb1.cell 0
      have z1 := hb1.cell 1
      have z2 := hb1.cell 2
      simp only [List.getElem?_toArray, List.getElem?_cons_zero, List.getElem?_cons_succ] at z0 z1 z2
      have hgaw : hi ≤ ga := by rw [← hga]; exact hhw
      have hnt : ∀ X, (∀ v, wr.cell? ⟨hi, 1, none⟩ = some v → X.cell? ⟨hi, 1, none⟩ = some v) → ¬ Tch X hi ga := fun X hX h => by
        obtain ⟨_, _, A5, c5, A6, c6, q3, _, _, q6, _⟩ := hMo
        rcases h with h | ⟨A7, n7, c7, h1, h2⟩
        · have := q3.lt; omega
        · have e := (hX _ (q3.cell 1)).symm.trans h1
          injection e with e
          rw [← e] at h2
          have := (q6.lt _ h2).2; omega
      have hcX := hMo.words
      have HNT := Lib.hid hnt
      have HJ := Lib.hid (And.intro hJ (And.intro hlt (And.intro hK1 (And.intro hE1 (And.intro (hT.grown hg1) (And.intro (hMo.grown hg1) (And.intro hAg (And.intro hWl (And.intro hml (And.intro hb1 (Nat.le_trans hhw hg1.size)))))))))))
      clear hnt hcX
      clear hJ hlt hK hT hMo hAg hWl hml hkJ hk hb1 hg1 hK1 hE1 hhw nof hcw hm
      go_wp2_with fail
      (try rw [hW1])
      (try rw [hga])
      clear x0 x1 x2 hW1 hga
      go_wp2_with fail
      have hlob := H5.out.2.2.2
      refine (putI_code W1 (fun k => lo ≤ k ∧ k < hi) t b w.heap.size V W9 HJ.out.2.2.2.2.1 ⟨mk, mw, mt⟩ E HJ.out.2.2.1.size (by omega) HJ.out.2.2.2.1).mono ?_
      rintro e w5 ⟨rfl, hT5, hk5⟩
      have HK5 := Lib.hid hk5
      have hK5 : Kept (fun j => w.heap.size ≤ j) w w5 := HJ.out.2.2.1.next hk5 (fun j _ h => by have h : j = b := h; show w.heap.size ≤ j; omega)
      have hM5 : Mod w5 lo hi hi V ms1 := HJ.out.2.2.2.2.2.1.kept hk5 (fun j h => by have h : j = b := h; omega)
      have hb5 := HJ.out.2.2.2.2.2.2.2.2.2.1.kept hk5 (fun h => by have h : ga = b := h; omega)
      have y0 := hb5.cell 0
      have y1 := hb5.cell 1
      have y2 := hb5.cell 2
      simp only [List.getElem?_toArray, List.getElem?_cons_zero, List.getElem?_cons_succ] at y0 y1 y2
      have hhw5 := Nat.le_trans HJ.out.2.2.2.2.2.2.2.2.2.2 hk5.size
      have hE5 : ErrEnv w5 w.heap.size E := HE.out.below (hK5.below (Nat.le_refl _) (fun _ h => h)) (Nat.le_refl _)
      obtain ⟨cd, hcd⟩ : ∃ cd, evOf E (codeP W9 ⟨mk, mw, mt⟩) = cd := ⟨_, rfl⟩
      obtain ⟨yv, hyv⟩ : ∃ yv, yesP V W9 ⟨mk, mw, mt⟩ = yv := ⟨_, rfl⟩
      rw [hcd, hyv]
      have HP := Lib.hid (mput_code w5 lo hi hi V ms1 W9 HJ.out.2.2.2.2.2.2.1 HJ.out.2.2.2.2.2.2.2.1 hM5 hhw5 (by have := HNV.out; omega) (by have := HJ.out.2.1; have := HJ.out.2.2.2.2.2.2.2.2.1; omega) ⟨mk, mw, mt⟩)
      obtain ⟨cp, hcp⟩ : ∃ cp : Int, ((codeP W9 ⟨mk, mw, mt⟩ : Nat) : Int) = cp := ⟨_, rfl⟩
      rw [hyv, hcp] at HP
      have HNum := Lib.hid (show ∀ X, ErrEnv X w.heap.size E → Calls Tryd.prog 10 #[cd] X fun en w' => en = .returned (.int .i64 cp) ∧ X.grownBy w' none from fun X h => by rw [← hcd, ← hcp]; exact num_is X w.heap.size E h _ (codeP_le _ _))
      have HY5 := Lib.hid (And.intro hcd hyv)
      have H55 := Lib.hid (And.intro hK5 (And.intro hT5 (And.intro hb5 hhw5)))
      clear z0 z1 z2 hk5 hK5 hM5 hT5 hE5 hhw5 hcd hyv hcp hb5
      go_wp2_with fail
      refine HP.out.mono ?_
      rintro e w6 ⟨rfl, hk6, ms2, hA6, hM6, hl6⟩
      have hK6 : Kept (fun j => w.heap.size ≤ j) w w6 := H55.out.1.next hk6 (fun j _ h => by have h := h.1; show w.heap.size ≤ j; omega)
      have hT6 := H55.out.2.1.kept hk6 (fun j h h2 => by have h := h.1; have h2 : lo ≤ j ∧ j < hi := h2; omega)
      obtain ⟨W2, hW2⟩ : ∃ W2, stepW W9 ⟨mk, mw, mt⟩ = W2 := ⟨_, rfl⟩
      rw [hW2] at hA6 hT6
      have hW2l : W2.length = V.length := by rw [← hW2, stepW_length]; exact HJ.out.2.2.2.2.2.2.2.1
      have hE6 : ErrEnv w6 w.heap.size E := HE.out.below (hK6.below (Nat.le_refl _) (fun _ h => h)) (Nat.le_refl _)
      have hgrW := HG1.out
      have hbq6 := H55.out.2.2.1.kept hk6 (fun h => HNT.out w5 (fun v hv => (HK5.out.cell (hgrW.cell hv (by simp)) (fun h => by have h : hi = b := h; omega))) h.2)
      have HB6 := Lib.hid hbq6
      clear hgrW hbq6
      have HS6 := Lib.hid (And.intro hK6 (And.intro hE6 (And.intro hA6 (And.intro hT6 (And.intro hM6 (And.intro hW2l (And.intro (show ms2.length ≤ k + 1 by have := HJ.out.2.2.2.2.2.2.2.2.1; omega) (Nat.le_trans H55.out.2.2.2 hk6.size))))))))
      clear hk6 hK6 hT6 hA6 hM6 hl6 hE6 hW2l hW2 y0 y1 y2
      go_wp2_with fail
      have hMs := HS6.out.2.2.2.2.1
      obtain ⟨_, _, _, _, A8, c8, b8, _⟩ := id hMs
      have k1 := b8.cell 1
      simp only [List.getElem?_toArray, List.getElem?_cons_zero, List.getElem?_cons_succ] at k1
      have hlm : ms2.length = (toldL W2).length := HS6.out.2.2.1.2
      rw [hlm] at k1
      obtain ⟨tn, htn⟩ : ∃ tn, (toldL W2).length = tn := ⟨_, rfl⟩
      rw [htn] at k1
      have g6 := grown_drew (World.grownBy.refl w6 none)
      obtain ⟨V2, hV2⟩ : ∃ V2, w6.drew = V2 := ⟨_, rfl⟩
      rw [hV2] at g6
      have HC := Lib.hid (show ∀ X, w6.grownBy X none → X.cell? ⟨hi, 1, none⟩ = some (.slice A8 tn c8) from fun X h => h.cell k1 (by simp))
      have HG0 := Lib.hid g6
      have HTN := Lib.hid htn
      clear hMs b8 k1 hlm g6 htn
      refine wp_region_held_drew (S := fun V => V.cell? ⟨hi, 1, none⟩ = some (.slice A8 tn c8)) (by kernel_rfl) (by rw [hV2]; exact HC.out _ HG0.out) (fun hHeld => ?_)
      rw [hV2] at hHeld ⊢
      refine wpAnyH_take (i := 0) (oi := _) (v := ?vg0) rfl (by kernel_rfl) (by kernel_rfl) (by kernel_rfl) (fun _ _ _ h => h) (Or.inl ⟨by rfl, ?hyg0⟩) (by assumption) ?restg0
      case hyg0 => (intro V hSw; (try dsimp only at hSw); go_simp) <;> with_reducible rfl
      try simp only [Act.put, List.getElem_toArray, List.getElem_cons_succ, List.getElem_cons_zero, List.setIfInBounds_toArray, List.set_cons_zero, List.set_cons_succ]
      refine wpAnyH_take (i := 1) (oi := _) (v := ?vg1) rfl (by kernel_rfl) (by kernel_rfl) (by kernel_rfl) (fun _ _ _ h => h) (Or.inl ⟨by rfl, ?hyg1⟩) (by assumption) ?restg1
      case hyg1 => (intro V hSw; (try dsimp only at hSw); go_simp) <;> with_reducible rfl
      try simp only [Act.put, List.getElem_toArray, List.getElem_cons_succ, List.getElem_cons_zero, List.setIfInBounds_toArray, List.set_cons_zero, List.set_cons_succ]
      refine wpAnyH_take (i := 2) (oi := _) (v := ?vg2) rfl (by kernel_rfl) (by kernel_rfl) (by kernel_rfl) (fun _ _ _ h => h) (Or.inl ⟨by rfl, ?hyg2⟩) (by assumption) ?restg2
      case hyg2 => (intro V hSw; (try dsimp only at hSw); go_simp) <;> with_reducible rfl
      try simp only [Act.put, List.getElem_toArray, List.getElem_cons_succ, List.getElem_cons_zero, List.setIfInBounds_toArray, List.set_cons_zero, List.set_cons_succ]
      refine wpAnyH_take (i := 3) (oi := _) (v := ?vg3) rfl (by kernel_rfl) (by kernel_rfl) (by kernel_rfl) (fun _ _ _ h => h) (Or.inl ⟨by rfl, ?hyg3⟩) (by assumption) ?restg3
      case hyg3 => (intro V hSw; (try dsimp only at hSw); go_simp) <;> with_reducible rfl
      try simp only [Act.put, List.getElem_toArray, List.getElem_cons_succ, List.getElem_cons_zero, List.setIfInBounds_toArray, List.set_cons_zero, List.set_cons_succ]
      refine wpAnyH_take (i := 4) (oi := _) (v := ?vg4) rfl (by kernel_rfl) (by kernel_rfl) (by kernel_rfl) (fun _ _ _ h => h) (Or.inl ⟨by rfl, ?hyg4⟩) (by assumption) ?restg4
      case hyg4 => (intro V hSw; (try dsimp only at hSw); go_simp) <;> with_reducible rfl
      try simp only [Act.put, List.getElem_toArray, List.getElem_cons_succ, List.getElem_cons_zero, List.setIfInBounds_toArray, List.set_cons_zero, List.set_cons_succ]
      refine wpAnyH_take (i := 6) (oi := _) (v := ?vg6) rfl (by kernel_rfl) (by kernel_rfl) (by kernel_rfl) (fun _ _ _ h => h) (Or.inl ⟨by rfl, ?hyg6⟩) (by assumption) ?restg6
      case hyg6 => (intro V hSw; (try dsimp only at hSw); go_simp) <;> with_reducible rfl
      try simp only [Act.put, List.getElem_toArray, List.getElem_cons_succ, List.getElem_cons_zero, List.setIfInBounds_toArray, List.set_cons_zero, List.set_cons_succ]
      refine wpAnyH_ready (rs := [5]) (by kernel_rfl) (by simp) ?_
      refine (AllReadyH.cons (o := _) rfl (fun K9 hK => ?_) AllReadyH.nil)
      go_simp
      refine (HNum.out V2 (HS6.out.2.1.grown HG0.out (by simp))).mono ?_
      rintro e q1 ⟨rfl, k9⟩
      have HGa := Lib.hid (grown_trans HG0.out k9)
      clear k9
      go_wp2_with fail
      refine hK.out _ _ (HC.out _ HGa.out) (fun hHeld => ?_)
      clear hK K9
      try simp only [Act.put, List.getElem_toArray, List.getElem_cons_succ, List.getElem_cons_zero, List.setIfInBounds_toArray, List.set_cons_zero, List.set_cons_succ]
      refine wpAnyH_take (i := 7) (oi := _) (v := ?vg7) rfl (by kernel_rfl) (by kernel_rfl) (by kernel_rfl) (fun _ _ _ h => h) (Or.inl ⟨by rfl, ?hyg7⟩) (by assumption) ?restg7
      case hyg7 => (intro V hSw; (try dsimp only at hSw); go_simp) <;> with_reducible rfl
      try simp only [Act.put, List.getElem_toArray, List.getElem_cons_succ, List.getElem_cons_zero, List.setIfInBounds_toArray, List.set_cons_zero, List.set_cons_succ]
      refine wpAnyH_take (i := 8) (oi := _) (v := ?vg8) rfl (by kernel_rfl) (by kernel_rfl) (by kernel_rfl) (fun _ _ _ h => h) (Or.inl ⟨by rfl, ?hyg8⟩) (by assumption) ?restg8
      case hyg8 => (intro V hSw; (try dsimp only at hSw); go_simp) <;> with_reducible rfl
      try simp only [Act.put, List.getElem_toArray, List.getElem_cons_succ, List.getElem_cons_zero, List.setIfInBounds_toArray, List.set_cons_zero, List.set_cons_succ]
      refine wpAnyH_take (i := 9) (oi := _) (v := ?vg9) rfl (by kernel_rfl) (by kernel_rfl) (by kernel_rfl) (fun _ _ _ h => h) (Or.inl ⟨by rfl, ?hyg9⟩) (by assumption) ?restg9
      case hyg9 => (intro V hSw; (try dsimp only at hSw); go_simp) <;> with_reducible rfl
      try simp only [Act.put, List.getElem_toArray, List.getElem_cons_succ, List.getElem_cons_zero, List.setIfInBounds_toArray, List.set_cons_zero, List.set_cons_succ]
      refine wpAnyH_take (i := 10) (oi := _) (v := ?vg10) rfl (by kernel_rfl) (by kernel_rfl) (by kernel_rfl) (fun _ _ _ h => h) (Or.inl ⟨by rfl, ?hyg10⟩) (by assumption) ?restg10
      case hyg10 => (intro V hSw; (try dsimp only at hSw); go_simp) <;> with_reducible rfl
      try simp only [Act.put, List.getElem_toArray, List.getElem_cons_succ, List.getElem_cons_zero, List.setIfInBounds_toArray, List.set_cons_zero, List.set_cons_succ]
      refine wpAnyH_take (i := 12) (oi := _) (v := ?vg12) rfl (by kernel_rfl) (by kernel_rfl) (by kernel_rfl) (fun _ _ _ h => h) (Or.inl ⟨by rfl, ?hyg12⟩) (by assumption) ?restg12
      case hyg12 => (intro V hSw; (try dsimp only at hSw); go_simp) <;> with_reducible rfl
      try simp only [Act.put, List.getElem_toArray, List.getElem_cons_succ, List.getElem_cons_zero, List.setIfInBounds_toArray, List.set_cons_zero, List.set_cons_succ]
      refine wpAnyH_take (i := 13) (oi := _) (v := ?vg13) rfl (by kernel_rfl) (by kernel_rfl) (by kernel_rfl) (fun _ _ _ h => h) (Or.inl ⟨by rfl, ?hyg13⟩) (by assumption) ?restg13
      case hyg13 => (intro V hSw; (try dsimp only at hSw); go_simp) <;> with_reducible rfl
      try simp only [Act.put, List.getElem_toArray, List.getElem_cons_succ, List.getElem_cons_zero, List.setIfInBounds_toArray, List.set_cons_zero, List.set_cons_succ]
      refine wpAnyH_take (i := 14) (oi := _) (v := ?vg14) rfl (by kernel_rfl) (by kernel_rfl) (by kernel_rfl) (fun _ _ _ h => h) (Or.inl ⟨by rfl, ?hyg14⟩) (by assumption) ?restg14
      case hyg14 => (intro V hSw; (try dsimp only at hSw); go_simp) <;> with_reducible rfl
      try simp only [Act.put, List.getElem_toArray, List.getElem_cons_succ, List.getElem_cons_zero, List.setIfInBounds_toArray, List.set_cons_zero, List.set_cons_succ]
      refine wpAnyH_take (i := 15) (oi := _) (v := ?vg15) rfl (by kernel_rfl) (by kernel_rfl) (by kernel_rfl) (fun _ _ _ h => h) (Or.inl ⟨by rfl, ?hyg15⟩) (by assumption) ?restg15
      case hyg15 => (intro V hSw; (try dsimp only at hSw); go_simp) <;> with_reducible rfl
      try simp only [Act.put, List.getElem_toArray, List.getElem_cons_succ, List.getElem_cons_zero, List.setIfInBounds_toArray, List.set_cons_zero, List.set_cons_succ]
      refine wpAnyH_take (i := 16) (oi := _) (v := ?vg16) rfl (by kernel_rfl) (by kernel_rfl) (by kernel_rfl) (fun _ _ _ h => h) (Or.inl ⟨by rfl, ?hyg16⟩) (by assumption) ?restg16
      case hyg16 => (intro V hSw; (try dsimp only at hSw); go_simp) <;> with_reducible rfl
      try simp only [Act.put, List.getElem_toArray, List.getElem_cons_succ, List.getElem_cons_zero, List.setIfInBounds_toArray, List.set_cons_zero, List.set_cons_succ]
      refine wpAnyH_ready (rs := [11]) (by kernel_rfl) (by simp) ?_
      refine (AllReadyH.cons (o := _) rfl (fun K9 hK => ?_) AllReadyH.nil)
      go_simp
      refine (lenI_is q1 t b V.length W2 HS6.out.2.2.2.2.2.1 (by omega) (HS6.out.2.2.2.1.grown HGa.out).words (HS6.out.2.2.2.1.grown HGa.out).2.2.2.2.2.2.1).mono ?_
      rintro e q2 ⟨rfl, k9⟩
      rw [HTN.out]
      have HG2 := Lib.hid (grown_trans HGa.out k9)
      clear k9
      go_wp2_with fail
      refine hK.out _ _ (HC.out _ HG2.out) (fun hHeld => ?_)
      clear hK K9
      try simp only [Act.put, List.getElem_toArray, List.getElem_cons_succ, List.getElem_cons_zero, List.setIfInBounds_toArray, List.set_cons_zero, List.set_cons_succ]
      refine wpAnyH_take (i := 17) (oi := _) (v := ?vg17) rfl (by kernel_rfl) (by kernel_rfl) (by kernel_rfl) (fun _ _ _ h => h) (Or.inl ⟨by rfl, ?hyg17⟩) (by assumption) ?restg17
      case hyg17 => (intro V hSw; (try dsimp only at hSw); go_simp) <;> with_reducible rfl
      try simp only [Act.put, List.getElem_toArray, List.getElem_cons_succ, List.getElem_cons_zero, List.setIfInBounds_toArray, List.set_cons_zero, List.set_cons_succ]
      refine wpAnyH_take (i := 18) (oi := _) (v := ?vg18) rfl (by kernel_rfl) (by kernel_rfl) (by kernel_rfl) (fun _ _ _ h => h) (Or.inl ⟨by rfl, ?hyg18⟩) (by assumption) ?restg18
      case hyg18 => (intro V hSw; (try dsimp only at hSw); go_simp) <;> with_reducible rfl
      try simp only [Act.put, List.getElem_toArray, List.getElem_cons_succ, List.getElem_cons_zero, List.setIfInBounds_toArray, List.set_cons_zero, List.set_cons_succ]
      refine wpAnyH_done (by kernel_rfl) ?_ _
      have hbq2 := HB6.out.grown HG2.out (by simp)
      have z0 := hbq2.cell 0
      simp only [List.getElem?_toArray, List.getElem?_cons_zero, List.getElem?_cons_succ] at z0
      have hX : ∀ Y, q2.grownBy Y none → (TalI Y (fun k => lo ≤ k ∧ k < hi) t b V W2 ∧ Mod Y lo hi hi V ms2) ∧ VdsAt Y A V ∧ w.heap.size ≤ Y.heap.size ∧ ErrEnv Y w.heap.size E := fun Y h => by
        have h6 := grown_trans HG2.out h
        refine ⟨⟨HS6.out.2.2.2.1.grown h6, HS6.out.2.2.2.2.1.grown h6⟩, ?_, Nat.le_trans HS6.out.1.size h6.size, HS6.out.2.1.grown h6 (by simp)⟩
        exact VdsAt.grown (HV.out.1.kept HS6.out.1 (fun a e h => by
          have h : w.heap.size ≤ a.block := h
          have := HV.out.1.blk a e hne
          omega)) h6
      have HX := Lib.hid hX
      clear hX hbq2
      obtain ⟨gk, hgk⟩ : ∃ gk, q2.heap.size = gk := ⟨_, rfl⟩
      obtain ⟨X0, hX0⟩ : ∃ X0, q2.alloc (.cells #[.int .i64 mk, .int .i64 asked] 3) = X0 := ⟨_, rfl⟩
      have gX : q2.grownBy X0 none := by rw [← hX0]; exact World.grownBy_alloc _ _ none
      have bX : Blk X0 gk 3 #[.int .i64 mk, .int .i64 asked] := by rw [← hX0, ← hgk]; exact Blk.new _ _ _
      have HX0 := Lib.hid (And.intro gX bX)
      clear gX bX
      go_wp2_with fail
      (try rw [hX0])
      (try rw [hgk])
      clear hX0 hgk z0
      go_loopw [103] (fun i wr => ∃ j : Nat, j ≤ 2 ∧ i = .int .i64 (j : Int) ∧ q2.grownBy wr none ∧ Blk wr gk 3 #[.int .i64 mk, .int .i64 asked]) (fun i _ => 2 - (intOf i).toNat)
      case atStart => exact ⟨0, by omega, rfl, HX0.out.1, HX0.out.2⟩
      case round =>
        obtain ⟨j, hj, hi9, hK, hb⟩ := hrel
        obtain ⟨I, hI⟩ : ∃ I : Int, I = (j : Int) := ⟨_, rfl⟩
        rw [← hI] at hi9
        subst hi9
        by_cases hjl : j < 2
        · have e1 : decide (I < 2) = true := by simp; omega
          have hI2 : 0 ≤ I ∧ I < 2 := by omega
          obtain ⟨κ, hκ⟩ : ∃ κ : Int, wr.cell? ⟨gk, I.toNat, none⟩ = some (.int .i64 κ) := by
            rw [hb.cell, show I.toNat = j by omega]
            match j, hjl with
            | 0, _ => exact ⟨mk, rfl⟩
            | 1, _ => exact ⟨asked, rfl⟩
          have HQ := Lib.hid (show (Agree W2 ms2 ∧ W2.length = V.length ∧ ms2.length ≤ 100) ∧ (∀ Y, wr.grownBy Y none → TalI Y (fun k => lo ≤ k ∧ k < hi) t b V W2 ∧ Mod Y lo hi hi V ms2) ∧ (∀ Y, wr.grownBy Y none → VdsAt Y A V) ∧ (∀ Y, wr.grownBy Y none → w.heap.size ≤ Y.heap.size ∧ ErrEnv Y w.heap.size E) from
            ⟨⟨HS6.out.2.2.1, HS6.out.2.2.2.2.2.1, by have := HS6.out.2.2.2.2.2.2.1; have := HJ.out.2.1; omega⟩, fun Y h => (HX.out Y (grown_trans hK h)).1, fun Y h => (HX.out Y (grown_trans hK h)).2.1, fun Y h => (HX.out Y (grown_trans hK h)).2.2⟩)
          have HI := Lib.hid (And.intro hI (And.intro hjl (And.intro hK hb)))
          clear hI hjl hj hK hb
          obtain ⟨lw, hlw⟩ : ∃ lw, (whoL W2 κ).length = lw := ⟨_, rfl⟩
          obtain ⟨lt, hlt⟩ : ∃ lt, (thgL W2 κ).length = lt := ⟨_, rfl⟩
          have hl1 : lw ≤ 100 := by rw [← hlw]; have := whoL_length W2 κ; have := HQ.out.1.2.1; omega
          have hl2 : lt ≤ 100 := by rw [← hlt]; have := thgL_length W2 κ; have := HQ.out.1.2.1; omega
          have HLL := Lib.hid (And.intro hlw hlt)
          clear hlw hlt
          have G0 := Lib.hid (World.grownBy.refl wr none)
          go_wp2_with fail
          refine (said_ag wr lo hi hi V ms2 W2 HQ.out.1.1 HQ.out.1.2.1 (HQ.out.2.1 _ G0.out).2 (by have := HNV.out; omega) (by have := HQ.out.1.2.2; omega) κ).mono ?_
          rintro e q11 ⟨A1, c1, A2, c2, rfl, i1, i2, l1, k9⟩
          have G1 := Lib.hid (grown_trans G0.out k9)
          have I1 := Lib.hid (And.intro i1 l1)
          have I2 := Lib.hid i2
          rw [HLL.out.1, HLL.out.2]
          clear i1 i2 l1
          clear k9
          go_wp2_with fail
          have HRS := Lib.hid (rsum_is q11 A A1 c c1 V (whoL W2 κ) (HQ.out.2.2.1 _ G1.out) HV.out.2.1 hl30 HV.out.2.2 I1.out.1 (by rw [HLL.out.1]; omega) I1.out.2)
          rw [HNV.out, HLL.out.1] at HRS
          refine (HRS.out).mono ?_
          rintro e q12 ⟨rfl, k9⟩
          have G2 := Lib.hid (grown_trans G1.out k9)
          have I1b := Lib.hid (I1.out.1.above (grown_above k9))
          have I2b := Lib.hid (I2.out.above (grown_above k9))
          clear k9
          go_wp2_with fail
          refine (whoI_is q12 t b V.length W2 HQ.out.1.2.1 (by omega) (HQ.out.2.1 _ G2.out).1.words (HQ.out.2.1 _ G2.out).1.2.2.2.2.2.2.1 κ).mono ?_
          rintro e q13 ⟨A3, c3, rfl, i3, _, k9⟩
          have G3 := Lib.hid (grown_trans G2.out k9)
          have I3 := Lib.hid i3
          have I1c := Lib.hid (I1b.out.above (grown_above k9))
          have I2c := Lib.hid (I2b.out.above (grown_above k9))
          rw [HLL.out.1]
          clear i3
          clear k9
          go_wp2_with fail
          refine (sameints_is q13 A3 A1 c3 c1 lw (whoL W2 κ) HLL.out.1 (by omega) I3.out I1c.out).mono ?_
          rintro e q14 ⟨rfl, k9⟩
          have G4 := Lib.hid (grown_trans G3.out k9)
          have I2d := Lib.hid (I2c.out.above (grown_above k9))
          clear k9
          go_wp2_with fail
          refine (thgI_is q14 t b V.length W2 HQ.out.1.2.1 (by omega) (HQ.out.2.1 _ G4.out).1.words (HQ.out.2.1 _ G4.out).1.2.2.2.2.2.2.1 κ).mono ?_
          rintro e q15 ⟨A4, c4, rfl, i4, _, k9⟩
          have G5 := Lib.hid (grown_trans G4.out k9)
          have I4 := Lib.hid i4
          have I2e := Lib.hid (I2d.out.above (grown_above k9))
          rw [HLL.out.2]
          clear i4
          clear k9
          go_wp2_with fail
          refine (sameints_is q15 A4 A2 c4 c2 lt (thgL W2 κ) HLL.out.2 (by omega) I4.out I2e.out).mono ?_
          rintro e q16 ⟨rfl, k9⟩
          have G6 := Lib.hid (grown_trans G5.out k9)
          clear k9
          go_wp2_with fail
          refine (powerI_is q16 (fun k => lo ≤ k ∧ k < hi) t b w.heap.size V W2 (HQ.out.2.1 _ G6.out).1 κ (E 10) (E 0) (E 16) (HQ.out.2.2.2 _ G6.out).1 ((HQ.out.2.2.2 _ G6.out).2.var 10 (by omega)) ((HQ.out.2.2.2 _ G6.out).2.var 0 (by omega)) ((HQ.out.2.2.2 _ G6.out).2.var 16 (by omega))).mono ?_
          rintro e q17 ⟨rfl, k9⟩
          have G7 := Lib.hid (grown_trans G6.out k9)
          clear k9
          go_wp2_with fail
          refine (enoughI_is q17 (fun k => lo ≤ k ∧ k < hi) t b w.heap.size V W2 (HQ.out.2.1 _ G7.out).1 κ (E 10) (E 0) (E 16) (HQ.out.2.2.2 _ G7.out).1 ((HQ.out.2.2.2 _ G7.out).2.var 10 (by omega)) ((HQ.out.2.2.2 _ G7.out).2.var 0 (by omega)) ((HQ.out.2.2.2 _ G7.out).2.var 16 (by omega))).mono ?_
          rintro e q18 ⟨rfl, k9⟩
          have G8 := Lib.hid (grown_trans G7.out k9)
          clear k9
          go_wp2_with fail
          refine (menough_ag q18 lo hi hi V ms2 W2 HQ.out.1.1 HQ.out.1.2.1 (HQ.out.2.1 _ G8.out).2 (by have := HNV.out; omega) (by have := HQ.out.1.2.2; omega) κ).mono ?_
          rintro e q19 ⟨rfl, k9⟩
          have G9 := Lib.hid (grown_trans G8.out k9)
          clear k9
          go_wp2_with fail
          go_roundw
          case rel => exact ⟨j + 1, by have := HI.out.2.1; omega, by rw [HI.out.1]; rfl, grown_trans HI.out.2.2.1 G9.out, HI.out.2.2.2.grown G9.out (by simp)⟩
          case measure => obtain ⟨hI, hjl, _⟩ := HI.out; simp [intOf]; omega
        · have e1 : decide (I < 2) = false := by simp; omega
          have HI := Lib.hid (grown_trans HG2.out hK)
          clear hI hjl hj hK hb
          go_wp2_with fail
          go_roundw
          case rel => exact ⟨k + 1, by have := HJ.out.2.1; omega, by rw [HJ.out.1]; rfl, HS6.out.1.next (Kept.of_grown (F := fun _ => False) HI.out fun _ e => by cases e) (fun _ _ h => h.elim), W2, ms2, HS6.out.2.2.1, HS6.out.2.2.2.2.2.1, HS6.out.2.2.2.2.2.2.1, HS6.out.2.2.2.1.grown HI.out, HS6.out.2.2.2.2.1.grown HI.out, Nat.le_trans HS6.out.2.2.2.2.2.2.2 HI.out.size⟩
          case measure => obtain ⟨hJ, hlt, _⟩ := HJ.out; simp [intOf]; omega
    · have e3 : decide (J < (n : Int)) = false := by simp; omega
      have HK9 := Lib.hid hK
      clear hJ hlt hk hK hT hMo hAg
      go_wp2_with fail
      go_ret
      exact ⟨rfl, HK9.out.grownNone (fun k h1 (h2 : w.heap.size ≤ k) => by omega)⟩
end Go.Proofs.YthcilpfcdblmkaaDoor
