/-
  TallyTurned, walked.
-/
import Derived.Test.YthcilpfcdblmkaaDoorTaJI
import Derived.Test.YthcilpfcdblmkaaDoorTaDI
import Derived.Test.YthcilpfcdblmkaaDoorTaEI
import Derived.Test.YthcilpfcdblmkaaDoorTaAl
import Derived.Test.YthcilpfcdblmkaaDoorTaW
import Derived.Test.YthcilpfcdblmkaaDoorSi
namespace Go.Proofs.YthcilpfcdblmkaaDoor
open Go.RowKit

theorem putI_step (w : World) (S : Nat → Prop) (t b B : Nat) (V0 : List Vd) (W0 : List (Wd Int)) (h : TalI w S t b V0 W0) (m : Wm) (es er et : Addr) (hB : B ≤ w.heap.size) (hBb : B ≤ b) (he : ErrAt w B 10 es) (her : ErrAt w B 0 er) (het : ErrAt w B 16 et) :
    Calls Tryd.prog 11 #[.pointer (some ⟨t, 0, none⟩), .int .i64 m.key, .int .i64 m.who, .int .i64 m.thing] w fun e w' =>
      (∃ v1 v2, e = .returned (.tuple #[v1, v2])) ∧ TalI w' S t b V0 (stepW W0 m) ∧ Kept (fun j => j = b) w w' :=
  (putI_is w S t b B V0 W0 h m.key m.who m.thing es er et hB hBb he her het).mono fun e w' hp => by
    have hl := h.2.2.2.1
    rcases hp with ⟨hr, rfl, hg⟩ | ⟨i, hi, hw, ⟨hs, rfl, hg⟩ | ⟨hs, rfl, hT, hK⟩⟩
    · refine ⟨⟨_, _, rfl⟩, ?_, Kept.of_grown (F := fun j => j = b) hg fun _ e => by cases e⟩
      have e : stepW W0 m = W0 := by unfold stepW; rw [dif_neg (by omega)]
      rw [e]; exact h.grown hg
    · refine ⟨⟨_, _, rfl⟩, ?_, Kept.of_grown (F := fun j => j = b) hg fun _ e => by cases e⟩
      have e : m.who.toNat = i := by omega
      have e : stepW W0 m = W0 := by unfold stepW; rw [dif_pos (by omega), if_pos (by simp only [e]; exact hs)]
      rw [e]; exact h.grown hg
    · refine ⟨⟨_, _, rfl⟩, ?_, hK⟩
      have e : m.who.toNat = i := by omega
      have e : stepW W0 m = W0.set i ⟨true, m.key, m.thing⟩ := by unfold stepW; rw [dif_pos (by omega), if_neg (by simp only [e, hs]; simp), e]
      rw [e]; exact hT

set_option maxRecDepth 100000 in
set_option maxHeartbeats 4000000 in
theorem turned_any (w : World) (A Aw : Option Addr) (c cw n : Nat) (V : List Vd) (ms : List Wm) (asked : Int) (es er et : Addr) (hV : VdsAt w A V) (ok : keysOk V) (hn : ms.length = n) (hnc : n ≤ cw) (hM : WmsAt w Aw ms) (he : ErrAt w w.heap.size 10 es) (her : ErrAt w w.heap.size 0 er) (het : ErrAt w w.heap.size 16 et) :
    Calls Tryd.prog 5 #[.slice A V.length c, .slice Aw n cw, .int .i64 asked] w fun e w' => e = .returned (.bool true) ∧ w.grownBy w' none := by
  have HE := Lib.hid (And.intro he (And.intro her het))
  have HV := Lib.hid (And.intro hV ok)
  have HM := Lib.hid (And.intro hn hM)
  have HA := Lib.hid (alive10_is w w.heap.size es er et (Nat.le_refl _) he her het)
  clear he her het hV ok hM hn
  obtain ⟨nv, hnv⟩ : ∃ nv, V.length = nv := ⟨_, rfl⟩
  rw [hnv]
  have HNV := Lib.hid hnv
  clear hnv
  go_enter Tryd.func5, Tryd.ntmps5
  go_wp2_with fail
  refine HA.out.mono ?_
  rintro e w1 ⟨rfl, k1⟩
  have K1 := Lib.hid k1
  clear k1
  by_cases h30 : 30 < nv ∨ 30 < n
  · by_cases h1 : 30 < nv
    · have d1 : decide ((30 : Int) < (nv : Int)) = true := by simp; omega
      go_wp2_with fail
      go_ret
      exact ⟨rfl, K1.out⟩
    · have d1 : decide ((30 : Int) < (nv : Int)) = false := by simp; omega
      have d2 : decide ((30 : Int) < (n : Int)) = true := by simp; omega
      go_wp2_with fail
      go_ret
      exact ⟨rfl, K1.out⟩
  have d1 : decide ((30 : Int) < (nv : Int)) = false := by simp; omega
  have d2 : decide ((30 : Int) < (n : Int)) = false := by simp; omega
  have hb30 : nv ≤ 30 ∧ n ≤ 30 := by omega
  clear h30
  go_wp2_with fail
  go_loopw [30] (fun i wr => ∃ k : Nat, k ≤ n ∧ i = .int .i64 (k : Int) ∧ w.grownBy wr none ∧ ((ms.take k).map (·.who)).Nodup) (fun i _ => n - (intOf i).toNat)
  case atStart => exact ⟨0, by omega, rfl, K1.out, by simp⟩
  case round =>
    obtain ⟨k, hk, hi, hK, hD⟩ := hrel
    obtain ⟨I, hI⟩ : ∃ I : Int, I = (k : Int) := ⟨_, rfl⟩
    rw [← hI] at hi
    subst hi
    by_cases hlt : k < n
    · have d3 : decide (I < (n : Int)) = true := by simp; omega
      have hkm : k < ms.length := by have := HM.out.1; omega
      obtain ⟨bw, ow, hAw, hcw⟩ := HM.out.2 (by rintro rfl; simp at hkm)
      subst hAw
      have hkI : I.toNat = k := by omega
      have x0 := hK.cell (hcw k hkm 0 _ rfl) (by simp)
      have x1 := hK.cell (hcw k hkm 1 _ rfl) (by simp)
      have x2 := hK.cell (hcw k hkm 2 _ rfl) (by simp)
      obtain ⟨⟨mk, mw, mt⟩, hm⟩ : ∃ m, ms[k] = m := ⟨_, rfl⟩
      simp only [hm, Nat.add_zero] at x0 x1 x2
      rw [← hkI] at x0 x1 x2
      have hI2 : 0 ≤ I ∧ I < (n : Int) := by omega
      have HI := Lib.hid (And.intro hI (And.intro hlt (And.intro hK (And.intro hD hm))))
      obtain ⟨ga, hga⟩ : ∃ ga, wr.heap.size = ga := ⟨_, rfl⟩
      obtain ⟨W1, hW1⟩ : ∃ W1, wr.alloc (.cells #[.int .i64 mk, .int .i64 mw, .int .i64 mt] 36) = W1 := ⟨_, rfl⟩
      have hb1 : Blk W1 ga 36 #[.int .i64 mk, .int .i64 mw, .int .i64 mt] := by rw [← hW1, ← hga]; exact Blk.new _ _ _
      have hg1 : w.grownBy W1 none := by rw [← hW1]; exact grown_trans hK (World.grownBy_alloc _ _ none)
      have H1 := Lib.hid (And.intro hb1 hg1)
      clear hI hlt hK hD hm hkI hk hb1 hg1
      go_wp2_with fail
      (try rw [hW1])
      (try rw [hga])
      clear x0 x1 x2 hW1 hga
      go_loopw [39] (fun i wr => ∃ j : Nat, j ≤ I.toNat ∧ i = .int .i64 (j : Int) ∧ w.grownBy wr none ∧ Blk wr ga 36 #[.int .i64 mk, .int .i64 mw, .int .i64 mt] ∧ ∀ m ∈ ms.take j, m.who ≠ mw) (fun i _ => I.toNat - (intOf i).toNat)
      case atStart => exact ⟨0, by omega, rfl, H1.out.2, H1.out.1, by simp⟩
      case round =>
        obtain ⟨j, hj, hi, hK, hb, hD⟩ := hrel
        obtain ⟨J, hJ⟩ : ∃ J : Int, J = (j : Int) := ⟨_, rfl⟩
        rw [← hJ] at hi
        subst hi
        by_cases hjl : j < I.toNat
        · have e3 : decide (J < (I : Int)) = true := by simp; omega
          have hjm : j < ms.length := by have := HM.out.1; omega
          obtain ⟨b', o', e', hcw'⟩ := HM.out.2 (by rintro rfl; simp at hjm)
          injection e' with e'
          injection e' with e1 e2
          subst e1 e2
          have hJJ : J.toNat = j := by omega
          have y0 := hK.cell (hcw' j hjm 0 _ rfl) (by simp)
          have y1 := hK.cell (hcw' j hjm 1 _ rfl) (by simp)
          have y2 := hK.cell (hcw' j hjm 2 _ rfl) (by simp)
          obtain ⟨⟨nk, nw, nt⟩, hm⟩ : ∃ m, ms[j] = m := ⟨_, rfl⟩
          simp only [hm, Nat.add_zero] at y0 y1 y2
          rw [← hJJ] at y0 y1 y2
          have hJ2 : 0 ≤ J ∧ J < I := by omega
          obtain ⟨gb, hgb⟩ : ∃ gb, wr.heap.size = gb := ⟨_, rfl⟩
          obtain ⟨W2, hW2⟩ : ∃ W2, wr.alloc (.cells #[.int .i64 nk, .int .i64 nw, .int .i64 nt] 36) = W2 := ⟨_, rfl⟩
          have hb2 : Blk W2 gb 36 #[.int .i64 nk, .int .i64 nw, .int .i64 nt] := by rw [← hW2, ← hgb]; exact Blk.new _ _ _
          have hg2 : wr.grownBy W2 none := by rw [← hW2]; exact World.grownBy_alloc _ _ none
          have hb3 := hb.grown hg2 (by simp)
          have z1 := hb3.cell 1
          have z2 := hb2.cell 1
          simp only [List.getElem?_toArray, List.getElem?_cons_zero, List.getElem?_cons_succ] at z1 z2
          have hstep : ¬ nw = mw → ∀ m ∈ ms.take (j + 1), m.who ≠ mw := fun hne m hmm => by
            rw [← List.take_append_getElem hjm, hm] at hmm
            rcases List.mem_append.1 hmm with h | h
            · exact hD m h
            · rw [List.mem_singleton.1 h]; exact hne
          have HJ := Lib.hid (And.intro hJ (And.intro hjl (And.intro (grown_trans hK hg2) (And.intro hb3 hstep))))
          clear hJ hjl hK hb hD hm hJJ hj hb2 hg2 hb3 hstep hcw'
          by_cases heq : mw = nw
          · have e4 : (mw == nw) = true := by simpa using heq
            clear heq
            go_wp2_with fail
            (try rw [hW2])
            (try rw [hgb])
            clear y0 y1 y2 hW2 hgb
            go_wp2_with fail
            go_ret
            exact ⟨rfl, HJ.out.2.2.1⟩
          · have e4 : (mw == nw) = false := by simpa using heq
            have HNE := Lib.hid heq
            clear heq
            go_wp2_with fail
            (try rw [hW2])
            (try rw [hgb])
            clear y0 y1 y2 hW2 hgb
            go_wp2_with fail
            go_roundw
            case rel =>
              obtain ⟨hJ, hjl, hg, hb, hs⟩ := HJ.out
              exact ⟨j + 1, by omega, by rw [hJ]; rfl, hg, hb, hs (fun e => HNE.out e.symm)⟩
            case measure => obtain ⟨hJ, hjl, _⟩ := HJ.out; simp [intOf]; omega
        · have e3 : decide (J < (I : Int)) = false := by simp; omega
          have e5 : decide (J < max I 0) = false := by simp; omega
          obtain rfl : j = I.toNat := by omega
          have HJ := Lib.hid (And.intro hK hD)
          clear hJ hjl hj hK hb hD
          go_wp2_with fail
          go_roundw
          case rel =>
            obtain ⟨hI, hlt, _, hD0, hm⟩ := HI.out
            have hkm : k < ms.length := by have := HM.out.1; omega
            refine ⟨k + 1, by omega, by rw [hI]; rfl, HJ.out.1, ?_⟩
            rw [← List.take_append_getElem hkm, List.map_append, List.nodup_append]
            refine ⟨hD0, by simp, fun a ha b hb => ?_⟩
            obtain ⟨m, hm2, rfl⟩ := List.mem_map.1 ha
            have hb : b = mw := by rw [hm] at hb; simpa using hb
            rw [hb]
            exact HJ.out.2 m (by rwa [show I.toNat = k by omega])
          case measure => obtain ⟨hI, hlt, _⟩ := HI.out; simp [intOf]; omega
    · have d3 : decide (I < (n : Int)) = false := by simp; omega
      have HI := Lib.hid (And.intro hK (show (ms.map (·.who)).Nodup by rw [List.take_of_length_le (by have := HM.out.1; omega)] at hD; exact hD))
      clear hI hlt hK hD hk
      go_wp2_with fail
      have hV1 := HV.out.1.grown HI.out.1
      have hl30 : V.length < 1000 := by have := HNV.out; omega
      have HN1 := Lib.hid (newI_is wr A c w.heap.size V es hV1 HV.out.2 hl30 (HE.out.1.grown HI.out.1 (by simp)))
      rw [HNV.out] at HN1
      clear hV1
      refine HN1.out.mono ?_
      rintro e w3 ⟨k3, ⟨hr, rfl⟩ | ⟨hr, t1, b1, rfl, hT1⟩⟩
      · have K3 := Lib.hid (And.intro (grown_trans HI.out.1 k3) hr)
        clear k3 hr
        go_wp2_with fail
        have HN2 := Lib.hid (newI_is w3 A c w.heap.size V es (HV.out.1.grown K3.out.1) HV.out.2 hl30 (HE.out.1.grown K3.out.1 (by simp)))
        rw [HNV.out] at HN2
        refine HN2.out.mono ?_
        rintro e w4 ⟨k4, ⟨hr, rfl⟩ | ⟨hr, t2, b2, rfl, hT2⟩⟩
        · have K4 := Lib.hid (grown_trans K3.out.1 k4)
          clear k4 hr
          go_wp2_with fail
          go_ret
          exact ⟨rfl, K4.out⟩
        · rw [K3.out.2] at hr; cases hr
      have K3 := Lib.hid (And.intro (grown_trans HI.out.1 k3) (And.intro hr (And.intro hT1 HI.out.1.size)))
      clear k3 hr hT1
      go_wp2_with fail
      have HN2 := Lib.hid (newI_is w3 A c w.heap.size V es (HV.out.1.grown K3.out.1) HV.out.2 hl30 (HE.out.1.grown K3.out.1 (by simp)))
      rw [HNV.out] at HN2
      refine HN2.out.mono ?_
      rintro e w4 ⟨k4, ⟨hr, rfl⟩ | ⟨hr, t2, b2, rfl, hT2⟩⟩
      · rw [K3.out.2.1] at hr; cases hr
      obtain ⟨lo, hlo⟩ : ∃ lo, wr.heap.size = lo := ⟨_, rfl⟩
      have hne : V ≠ [] := by rintro rfl; have := (right_powers hr).2.1; simp at this
      have hTa := (K3.out.2.2.1.mono (T := fun k => lo ≤ k ∧ k < w3.heap.size) (fun k hk h => ⟨by have h : wr.heap.size ≤ k := h; omega, hk⟩) hne).grown k4
      have K4 := Lib.hid (And.intro (grown_trans K3.out.1 k4) (And.intro hTa hT2))
      have hb1 : lo ≤ b1 ∧ b1 < w3.heap.size := hTa.2.1
      have hb2 : w3.heap.size ≤ b2 := hT2.2.1
      have hwr : w.heap.size ≤ lo := by rw [← hlo]; exact HI.out.1.size
      have hw3 : lo ≤ w3.heap.size := by omega
      have HB := Lib.hid (And.intro hb1 (And.intro hb2 (And.intro hwr hw3)))
      obtain ⟨Z0, hZ0⟩ : ∃ Z0 : List (Wd Int), List.replicate nv ⟨false, 0, 0⟩ = Z0 := ⟨_, rfl⟩
      have HZ := Lib.hid hZ0
      clear k4 hr hT2 hne hTa hb1 hb2 hwr hw3 hZ0 hlo
      go_wp2_with fail
      go_loopw [68] (fun i wr => ∃ k : Nat, k ≤ n ∧ i = .int .i64 (k : Int) ∧ Kept (fun j => w.heap.size ≤ j) w wr ∧ TalI wr (fun k => lo ≤ k ∧ k < w3.heap.size) t1 b1 V (putsW Z0 (ms.take k)) ∧ TalI wr (fun k => w3.heap.size ≤ k) t2 b2 V (putsW Z0 (ms.reverse.take k))) (fun i _ => n - (intOf i).toNat)
      case atStart => exact ⟨0, by omega, rfl, Kept.of_grown (F := fun j => w.heap.size ≤ j) K4.out.1 (fun _ e => by cases e), by rw [← HZ.out]; exact K4.out.2.1, by rw [← HZ.out]; exact K4.out.2.2⟩
      case round =>
        obtain ⟨k, hk, hi, hK, hTa, hTb⟩ := hrel
        obtain ⟨J, hJ⟩ : ∃ J : Int, J = (k : Int) := ⟨_, rfl⟩
        rw [← hJ] at hi
        subst hi
        by_cases hlt : k < n
        · have e3 : decide (J < (n : Int)) = true := by simp; omega
          have hkm : k < ms.length := by have := HM.out.1; omega
          have hrm : k < ms.reverse.length := by simpa using hkm
          obtain ⟨bw, ow, hAw, hcw⟩ := HM.out.2 (by rintro rfl; simp at hkm)
          subst hAw
          have hkJ : J.toNat = k := by omega
          have nof : ∀ {q : Addr} {v : Value}, w.cell? q = some v → ¬ (w.heap.size ≤ q.block) := fun h => by have := World.block_lt_of_cell? w _ h; omega
          have x0 := hK.cell (hcw k hkm 0 _ rfl) (nof (hcw k hkm 0 _ rfl))
          have x1 := hK.cell (hcw k hkm 1 _ rfl) (nof (hcw k hkm 1 _ rfl))
          have x2 := hK.cell (hcw k hkm 2 _ rfl) (nof (hcw k hkm 2 _ rfl))
          obtain ⟨⟨mk, mw, mt⟩, hm⟩ : ∃ m, ms[k] = m := ⟨_, rfl⟩
          simp only [hm, Nat.add_zero] at x0 x1 x2
          rw [← hkJ] at x0 x1 x2
          have hq : n - 1 - k < ms.length := by have := HM.out.1; omega
          have hqJ : ((n : Int) - 1 - J).toNat = n - 1 - k := by omega
          have y0 := hcw (n - 1 - k) hq 0 _ rfl
          have y1 := hcw (n - 1 - k) hq 1 _ rfl
          have y2 := hcw (n - 1 - k) hq 2 _ rfl
          obtain ⟨⟨nk, nw, nt⟩, hn2⟩ : ∃ m, ms[n - 1 - k] = m := ⟨_, rfl⟩
          simp only [hn2, Nat.add_zero] at y0 y1 y2
          rw [← hqJ] at y0 y1 y2
          have hrev : ms.reverse[k] = ⟨nk, nw, nt⟩ := by rw [List.getElem_reverse, ← hn2]; congr 1; have := HM.out.1; omega
          have hJ2 : 0 ≤ J ∧ J < (n : Int) := by omega
          obtain ⟨ga, hga⟩ : ∃ ga, wr.heap.size = ga := ⟨_, rfl⟩
          obtain ⟨W1, hW1⟩ : ∃ W1, wr.alloc (.cells #[.int .i64 mk, .int .i64 mw, .int .i64 mt] 36) = W1 := ⟨_, rfl⟩
          have hb1 : Blk W1 ga 36 #[.int .i64 mk, .int .i64 mw, .int .i64 mt] := by rw [← hW1, ← hga]; exact Blk.new _ _ _
          have hg1 : wr.grownBy W1 none := by rw [← hW1]; exact World.grownBy_alloc _ _ none
          have hK1 : Kept (fun j => w.heap.size ≤ j) w W1 := hK.next (Kept.of_grown (F := fun _ => False) hg1 fun _ e => by cases e) (fun _ _ h => h.elim)
          have z0 := hb1.cell 0
          have z1 := hb1.cell 1
          have z2 := hb1.cell 2
          simp only [List.getElem?_toArray, List.getElem?_cons_zero, List.getElem?_cons_succ] at z0 z1 z2
          have hbel : ∀ W : World, Kept (fun j => w.heap.size ≤ j) w W → Below w.heap.size w W := fun _ h => h.below (Nat.le_refl _) (fun _ h => h)
          have HBE := Lib.hid hbel
          have HY0 := Lib.hid (And.intro y0 (And.intro y1 y2))
          have HJ := Lib.hid (And.intro hJ (And.intro hlt (And.intro hK1 (And.intro (hTa.grown hg1) (And.intro (hTb.grown hg1) (And.intro hm hrev))))))
          clear hJ hlt hK hTa hTb hm hkJ hk hb1 hg1 hK1 hrev hn2 hqJ hq y0 y1 y2 hcw nof hbel
          go_wp2_with fail
          (try rw [hW1])
          (try rw [hga])
          clear x0 x1 x2 hW1 hga
          go_wp2_with fail
          refine (putI_step W1 (fun k => lo ≤ k ∧ k < w3.heap.size) t1 b1 w.heap.size V _ HJ.out.2.2.2.1 ⟨mk, mw, mt⟩ es er et HJ.out.2.2.1.size (by have := HB.out; omega) (HE.out.1.below (HBE.out _ HJ.out.2.2.1) (Nat.le_refl _)) (HE.out.2.1.below (HBE.out _ HJ.out.2.2.1) (Nat.le_refl _)) (HE.out.2.2.below (HBE.out _ HJ.out.2.2.1) (Nat.le_refl _))).mono ?_
          rintro e w5 ⟨⟨v1, v2, rfl⟩, hT5, hk5⟩
          have hK5 : Kept (fun j => w.heap.size ≤ j) w w5 := HJ.out.2.2.1.next hk5 (fun j _ h => by have h : j = b1 := h; have := HB.out; show w.heap.size ≤ j; omega)
          have hTb5 := HJ.out.2.2.2.2.1.kept hk5 (fun j h h2 => by have h : j = b1 := h; have := HB.out; have h2 : w3.heap.size ≤ j := h2; omega)
          rw [← HJ.out.2.2.2.2.2.1, ← putsW_take hkm] at hT5
          have nof : ∀ {q : Addr} {v : Value}, w.cell? q = some v → ¬ (w.heap.size ≤ q.block) := fun h => by have := World.block_lt_of_cell? w _ h; omega
          have y0 := hK5.cell HY0.out.1 (nof HY0.out.1)
          have y1 := hK5.cell HY0.out.2.1 (nof HY0.out.2.1)
          have y2 := hK5.cell HY0.out.2.2 (nof HY0.out.2.2)
          obtain ⟨gb, hgb⟩ : ∃ gb, w5.heap.size = gb := ⟨_, rfl⟩
          obtain ⟨W2, hW2⟩ : ∃ W2, w5.alloc (.cells #[.int .i64 nk, .int .i64 nw, .int .i64 nt] 36) = W2 := ⟨_, rfl⟩
          have hb2 : Blk W2 gb 36 #[.int .i64 nk, .int .i64 nw, .int .i64 nt] := by rw [← hW2, ← hgb]; exact Blk.new _ _ _
          have hg2 : w5.grownBy W2 none := by rw [← hW2]; exact World.grownBy_alloc _ _ none
          have u0 := hb2.cell 0
          have u1 := hb2.cell 1
          have u2 := hb2.cell 2
          simp only [List.getElem?_toArray, List.getElem?_cons_zero, List.getElem?_cons_succ] at u0 u1 u2
          have H5 := Lib.hid (And.intro (hK5.next (Kept.of_grown (F := fun _ => False) hg2 fun _ e => by cases e) (fun _ _ h => h.elim)) (And.intro (hT5.grown hg2) (hTb5.grown hg2)))
          have hnn : (n : Int) ≤ 30 := by omega
          clear hT5 hk5 hK5 hTb5 nof hb2 hg2 z0 z1 z2
          go_wp2_with fail
          (try rw [hW2])
          (try rw [hgb])
          clear y0 y1 y2 hW2 hgb
          go_wp2_with fail
          refine (putI_step W2 (fun k => w3.heap.size ≤ k) t2 b2 w.heap.size V _ H5.out.2.2 ⟨nk, nw, nt⟩ es er et H5.out.1.size (by have := HB.out; omega) (HE.out.1.below (HBE.out _ H5.out.1) (Nat.le_refl _)) (HE.out.2.1.below (HBE.out _ H5.out.1) (Nat.le_refl _)) (HE.out.2.2.below (HBE.out _ H5.out.1) (Nat.le_refl _))).mono ?_
          rintro e w6 ⟨⟨v3, v4, rfl⟩, hT6, hk6⟩
          have hK6 : Kept (fun j => w.heap.size ≤ j) w w6 := H5.out.1.next hk6 (fun j _ h => by have h : j = b2 := h; have := HB.out; show w.heap.size ≤ j; omega)
          have hTa6 := H5.out.2.1.kept hk6 (fun j h h2 => by have h : j = b2 := h; have := HB.out; have h2 : lo ≤ j ∧ j < w3.heap.size := h2; omega)
          rw [← HJ.out.2.2.2.2.2.2, ← putsW_take hrm] at hT6
          have H6 := Lib.hid (And.intro hK6 (And.intro hTa6 hT6))
          clear hT6 hk6 hK6 hTa6 u0 u1 u2
          go_wp2_with fail
          go_roundw
          case rel => exact ⟨k + 1, by have := HJ.out.2.1; omega, by rw [HJ.out.1]; rfl, H6.out.1, H6.out.2.1, H6.out.2.2⟩
          case measure => obtain ⟨hJ, hjl, _⟩ := HJ.out; simp [intOf]; omega
        · have e3 : decide (J < (n : Int)) = false := by simp; omega
          obtain ⟨Z, hZ⟩ : ∃ Z, putsW Z0 ms = Z := ⟨_, rfl⟩
          have hk1 : ms.take k = ms := List.take_of_length_le (by have := HM.out.1; omega)
          have hk2 : ms.reverse.take k = ms.reverse := List.take_of_length_le (by have := HM.out.1; simp; omega)
          rw [hk1, hZ] at hTa
          rw [hk2, putsW_reverse HI.out.2, hZ] at hTb
          have HJ := Lib.hid (And.intro hK (And.intro hTa hTb))
          clear hJ hlt hk hK hTa hTb hZ hk1 hk2
          have hbe : Below w.heap.size w wr := HJ.out.1.below (Nat.le_refl _) (fun _ h => h)
          have hB : ∀ W, wr.grownBy W none → w.heap.size ≤ W.heap.size := fun W h => Nat.le_trans HJ.out.1.size h.size
          have hE1 : ∀ W, wr.grownBy W none → ErrAt W w.heap.size 10 es ∧ ErrAt W w.heap.size 0 er ∧ ErrAt W w.heap.size 16 et := fun W h => ⟨(HE.out.1.below hbe (Nat.le_refl _)).grown h (by simp), (HE.out.2.1.below hbe (Nat.le_refl _)).grown h (by simp), (HE.out.2.2.below hbe (Nat.le_refl _)).grown h (by simp)⟩
          have hT : ∀ W, wr.grownBy W none → TalI W (fun k => lo ≤ k ∧ k < w3.heap.size) t1 b1 V Z ∧ TalI W (fun k => w3.heap.size ≤ k) t2 b2 V Z := fun W h => ⟨HJ.out.2.1.grown h, HJ.out.2.2.grown h⟩
          have hZl : Z.length = V.length := HJ.out.2.1.2.2.2.1
          have HQ := Lib.hid (And.intro hB (And.intro hE1 (And.intro hT hZl)))
          clear hbe hB hE1 hT hZl
          obtain ⟨lw, hlw⟩ : ∃ lw, (whoL Z asked).length = lw := ⟨_, rfl⟩
          obtain ⟨lt, hlt⟩ : ∃ lt, (thgL Z asked).length = lt := ⟨_, rfl⟩
          have hl1 : lw ≤ 1000 := by rw [← hlw]; have := whoL_length Z asked; have := HQ.out.2.2.2; omega
          have hl2 : lt ≤ 1000 := by rw [← hlt]; have := thgL_length Z asked; have := HQ.out.2.2.2; omega
          have HLL := Lib.hid (And.intro hlw hlt)
          clear hlw hlt
          have G0 := Lib.hid (World.grownBy.refl wr none)
          go_wp2_with fail
          refine (lenI_is wr t1 b1 V.length Z HQ.out.2.2.2 (by omega) (HQ.out.2.2.1 _ G0.out).1.words (HQ.out.2.2.1 _ G0.out).1.2.2.2.2.2.2.1).mono ?_
          rintro e q1 ⟨rfl, k9⟩
          have G1 := Lib.hid (grown_trans G0.out k9)
          clear k9
          go_wp2_with fail
          refine (lenI_is q1 t2 b2 V.length Z HQ.out.2.2.2 (by omega) (HQ.out.2.2.1 _ G1.out).2.words (HQ.out.2.2.1 _ G1.out).2.2.2.2.2.2.2.1).mono ?_
          rintro e q2 ⟨rfl, k9⟩
          have G2 := Lib.hid (grown_trans G1.out k9)
          clear k9
          go_wp2_with fail
          refine (powerI_is q2 (fun k => lo ≤ k ∧ k < w3.heap.size) t1 b1 w.heap.size V Z (HQ.out.2.2.1 _ G2.out).1 asked es er et (HQ.out.1 _ G2.out) (HQ.out.2.1 _ G2.out).1 (HQ.out.2.1 _ G2.out).2.1 (HQ.out.2.1 _ G2.out).2.2).mono ?_
          rintro e q3 ⟨rfl, k9⟩
          have G3 := Lib.hid (grown_trans G2.out k9)
          clear k9
          go_wp2_with fail
          refine (powerI_is q3 (fun k => w3.heap.size ≤ k) t2 b2 w.heap.size V Z (HQ.out.2.2.1 _ G3.out).2 asked es er et (HQ.out.1 _ G3.out) (HQ.out.2.1 _ G3.out).1 (HQ.out.2.1 _ G3.out).2.1 (HQ.out.2.1 _ G3.out).2.2).mono ?_
          rintro e q4 ⟨rfl, k9⟩
          have G4 := Lib.hid (grown_trans G3.out k9)
          clear k9
          go_wp2_with fail
          refine (enoughI_is q4 (fun k => lo ≤ k ∧ k < w3.heap.size) t1 b1 w.heap.size V Z (HQ.out.2.2.1 _ G4.out).1 asked es er et (HQ.out.1 _ G4.out) (HQ.out.2.1 _ G4.out).1 (HQ.out.2.1 _ G4.out).2.1 (HQ.out.2.1 _ G4.out).2.2).mono ?_
          rintro e q5 ⟨rfl, k9⟩
          have G5 := Lib.hid (grown_trans G4.out k9)
          clear k9
          go_wp2_with fail
          refine (enoughI_is q5 (fun k => w3.heap.size ≤ k) t2 b2 w.heap.size V Z (HQ.out.2.2.1 _ G5.out).2 asked es er et (HQ.out.1 _ G5.out) (HQ.out.2.1 _ G5.out).1 (HQ.out.2.1 _ G5.out).2.1 (HQ.out.2.1 _ G5.out).2.2).mono ?_
          rintro e q6 ⟨rfl, k9⟩
          have G6 := Lib.hid (grown_trans G5.out k9)
          clear k9
          go_wp2_with fail
          refine (whoI_is q6 t1 b1 V.length Z HQ.out.2.2.2 (by omega) (HQ.out.2.2.1 _ G6.out).1.words (HQ.out.2.2.1 _ G6.out).1.2.2.2.2.2.2.1 asked).mono ?_
          rintro e q7 ⟨A7, c7, rfl, hi9, _, k9⟩
          have G7 := Lib.hid (grown_trans G6.out k9)
          have I7 := Lib.hid hi9
          clear hi9
          rw [HLL.out.1]
          clear k9
          go_wp2_with fail
          refine (whoI_is q7 t2 b2 V.length Z HQ.out.2.2.2 (by omega) (HQ.out.2.2.1 _ G7.out).2.words (HQ.out.2.2.1 _ G7.out).2.2.2.2.2.2.2.1 asked).mono ?_
          rintro e q8 ⟨A8, c8, rfl, hi9, _, k9⟩
          have G8 := Lib.hid (grown_trans G7.out k9)
          have I8 := Lib.hid hi9
          have I7b := Lib.hid (I7.out.above (grown_above k9))
          clear hi9
          rw [HLL.out.1]
          clear k9
          go_wp2_with fail
          refine (sameints_is q8 A7 A8 c7 c8 lw (whoL Z asked) HLL.out.1 (by omega) I7b.out I8.out).mono ?_
          rintro e q9 ⟨rfl, k9⟩
          have G9 := Lib.hid (grown_trans G8.out k9)
          clear k9
          go_wp2_with fail
          refine (thgI_is q9 t1 b1 V.length Z HQ.out.2.2.2 (by omega) (HQ.out.2.2.1 _ G9.out).1.words (HQ.out.2.2.1 _ G9.out).1.2.2.2.2.2.2.1 asked).mono ?_
          rintro e q10 ⟨A10, c10, rfl, hi9, _, k9⟩
          have G10 := Lib.hid (grown_trans G9.out k9)
          have I10 := Lib.hid hi9
          clear hi9
          rw [HLL.out.2]
          clear k9
          go_wp2_with fail
          refine (thgI_is q10 t2 b2 V.length Z HQ.out.2.2.2 (by omega) (HQ.out.2.2.1 _ G10.out).2.words (HQ.out.2.2.1 _ G10.out).2.2.2.2.2.2.2.1 asked).mono ?_
          rintro e q11 ⟨A11, c11, rfl, hi9, _, k9⟩
          have G11 := Lib.hid (grown_trans G10.out k9)
          have I11 := Lib.hid hi9
          have I10b := Lib.hid (I10.out.above (grown_above k9))
          clear hi9
          rw [HLL.out.2]
          clear k9
          go_wp2_with fail
          refine (sameints_is q11 A10 A11 c10 c11 lt (thgL Z asked) HLL.out.2 (by omega) I10b.out I11.out).mono ?_
          rintro e q12 ⟨rfl, k9⟩
          have G12 := Lib.hid (grown_trans G11.out k9)
          clear k9
          go_wp2_with fail
          go_ret
          exact ⟨rfl, (HJ.out.1.next (Kept.of_grown (F := fun _ => False) G12.out fun _ e => by cases e) (fun _ _ h => h.elim)).grownNone (fun k h1 (h2 : w.heap.size ≤ k) => by omega)⟩
end Go.Proofs.YthcilpfcdblmkaaDoor
