/-
  Slots: the document's reading of a slot (quorateref07.Read).
-/
import Derived.Test.YtilfapibfadbfaaDoorSlM
import Derived.Test.YtilfapibfadbfaaDoorSlH
namespace Go.Proofs.YtilfapibfadbfaaDoor
open Go.RowKit Go.Maps

attribute [local go_sem] Oper.semAt_some
/-- What the document reads out of a sector at a place. -/
def readR (bs : List UInt8) (k : Int) : Option (Nat × List UInt8) :=
  if (bs.getD 0 0).toNat ≤ 127 ∧ (bs.getD 8 0).toNat ≤ 31 ∧ (valOf (bs.take 8) : Int) % 2 = k ∧ slotL (valOf (bs.take 8)) ((bs.drop 9).take (bs.getD 8 0).toNat) = intsB bs then
    some (valOf (bs.take 8), (bs.drop 9).take (bs.getD 8 0).toNat) else none
theorem valOf_small {bs : List UInt8} (h : (bs.getD 0 0).toNat ≤ 127) : ∀ {j : Nat}, j ≤ 8 → valOf (bs.take j) < 9223372036854775808 := by
  intro j hj
  cases bs with
  | nil => simp [valOf]
  | cons b l =>
    cases j with
    | zero => simp [valOf]
    | succ j =>
      have hb : b.toNat ≤ 127 := by simpa using h
      rw [List.take_succ_cons]
      have e : valOf (b :: l.take j) = b.toNat * 256 ^ (l.take j).length + valOf (l.take j) := by
        have := valOf_consn (l.take j) b.toNat
        rw [← this]; simp [valOf]
      have h1 : valOf (l.take j) < 256 ^ (l.take j).length := by
        have := valOf_take_lt (l.take j) (l.take j).length (Nat.le_refl _)
        rwa [List.take_length] at this
      have h2 : (l.take j).length ≤ 7 := by simp; omega
      have h3 : 256 ^ (l.take j).length ≤ 256 ^ 7 := Nat.pow_le_pow_right (by omega) h2
      have h4 : b.toNat * 256 ^ (l.take j).length ≤ 127 * 256 ^ (l.take j).length := Nat.mul_le_mul_right _ hb
      generalize 256 ^ (l.take j).length = P at *
      omega
set_option maxRecDepth 100000 in
set_option maxHeartbeats 1000000 in
theorem rread_is (w : World) (bs : List UInt8) (hb : bs.length = 64) (k : Int) :
    Calls Tryd.prog 25 #[secV (intsB bs), .int .i64 k] w fun e w' => w.grownBy w' none ∧ ((readR bs k = none ∧ e = .returned (.tuple #[.int .i64 0, .slice none 0 0, .bool false])) ∨
      (∃ cn rc, readR bs k = some (cn, rc) ∧ ∃ A cap, e = .returned (.tuple #[.int .i64 (cn : Int), .slice A rc.length cap, .bool true]) ∧ BytesAt w' A rc ∧ ∀ ad, A = some ad → w.heap.size ≤ ad.block)) := by
  obtain ⟨cs, hcs⟩ : ∃ cs, arrV .u8 (intsB bs) = cs := ⟨_, rfl⟩
  have hsec : secV (intsB bs) = .agg cs := by rw [← hcs]; rfl
  have hcz : cs.size = 64 := by rw [← hcs]; simpa [intsB, arrV] using hb
  have hcell : ∀ j, j < 64 → cs[j]? = some (.int .u8 ((bs.getD j 0).toNat : Int)) := fun j hj => by
    rw [← hcs, getD_arr (by simp [intsB]; omega)]
    simp [intsB, List.getD, List.getElem?_eq_getElem (show j < bs.length by omega)]
  obtain ⟨w0, hw0⟩ : ∃ w0, w.alloc (.cells cs 23) = w0 := ⟨_, rfl⟩
  have g0 : w.grownBy w0 none := by rw [← hw0]; exact World.grownBy_alloc _ _ none
  have b0 : Blk w0 w.heap.size 23 cs := by rw [← hw0]; exact Blk.new _ _ _
  obtain ⟨q, hq⟩ : ∃ q, w.heap.size = q := ⟨_, rfl⟩
  have hc : ∀ j, j < 64 → w0.cell? ⟨q, j, none⟩ = some (.int .u8 ((bs.getD j 0).toNat : Int)) := fun j hj => by rw [← hq, b0.cell]; exact hcell j hj
  have HS := Lib.hid (And.intro hcz (And.intro g0 (And.intro b0 (And.intro hq (And.intro hc (And.intro hb hcs))))))
  have x0 := hc 0 (by omega)
  have x8 := hc 8 (by omega)
  rw [hsec]
  obtain ⟨B0, hB0⟩ : ∃ B : Int, ((bs.getD 0 0).toNat : Int) = B := ⟨_, rfl⟩
  obtain ⟨B8, hB8⟩ : ∃ B : Int, ((bs.getD 8 0).toNat : Int) = B := ⟨_, rfl⟩
  rw [hB0] at x0
  rw [hB8] at x8
  clear hcs hsec hcz hcell g0 b0 hc hb
  refine (callsIn_wide (n := 6)).1 ?_
  refine callsIn_of_wp Tryd.func25 rfl trivial ?_ rfl
  simp only [Tryd.ntmps25, List.size_toArray, List.length_cons, List.length_nil, Nat.reduceAdd, Nat.reduceSub, Array.replicate_succ, Array.replicate_zero, List.push_toArray, List.append_toArray, List.nil_append, List.cons_append]
  gi_upto_region 1 with fail
  try rw [hw0]
  try rw [hq]
  by_cases h0 : 127 < B0
  · have e0 : decide (127 < B0) = true := by simpa using h0
    have HN := Lib.hid (show readR bs k = none by rw [readR, if_neg (by omega)])
    gi_wp2
    exact ⟨rfl, _, results_tmp3 rfl _ _ _, HS.out.2.1, .inl ⟨HN.out, rfl⟩⟩
  have e0 : decide (127 < B0) = false := by simpa using h0
  by_cases h8 : 31 < B8
  · have e8 : decide (31 < B8) = true := by simpa using h8
    have HN := Lib.hid (show readR bs k = none by rw [readR, if_neg (by omega)])
    gi_wp2
    exact ⟨rfl, _, results_tmp3 rfl _ _ _, HS.out.2.1, .inl ⟨HN.out, rfl⟩⟩
  have e8 : decide (31 < B8) = false := by simpa using h8
  have hsm : ∀ {j : Nat}, j ≤ 8 → valOf (bs.take j) < 9223372036854775808 := valOf_small (by omega)
  have HM := Lib.hid (And.intro @hsm (And.intro hB0 (And.intro hB8 h8)))
  clear hsm h0 h8 hB0 hB8
  gi_wp2
  gi_loopw [7, 8] (fun ct i wr => ∃ j : Nat, j ≤ 8 ∧ i = .int .i64 (j : Int) ∧ ct = .int .i64 (valOf (bs.take j) : Int) ∧ wr = w0) (fun _ i _ => 8 - (intOf i).toNat)
  case atStart => exact ⟨0, by omega, rfl, by simp [valOf], rfl⟩
  case round =>
    obtain ⟨j, hj, rfl, rfl, hw⟩ := hrel
    rename World => wx
    obtain rfl : w0 = wx := hw.symm
    clear hw
    by_cases hlt : j < 8
    · have e1 : decide ((j : Int) < 8) = true := by simp; omega
      have xj := HS.out.2.2.2.2.1 j (by omega)
      obtain ⟨V, hV⟩ : ∃ V : Int, ((bs.getD j 0).toNat : Int) = V := ⟨_, rfl⟩
      obtain ⟨C, hC⟩ : ∃ C : Int, (valOf (bs.take j) : Int) = C := ⟨_, rfl⟩
      rw [hV] at xj
      rw [hC]
      have hst : (valOf (bs.take (j + 1)) : Int) = 256 * C + V := by
        rw [valOf_take bs j (by have := HS.out.2.2.2.2.2.1; omega), ← hC, ← hV, List.getD, List.getElem?_eq_getElem (by have := HS.out.2.2.2.2.2.1; omega), Option.getD_some]
        push_cast
        omega
      have hb1 := HM.out.1 (show j + 1 ≤ 8 by omega)
      have hbd : 0 ≤ C ∧ 0 ≤ V ∧ V < 256 ∧ 256 * C + V < 9223372036854775808 := by
        have := (bs.getD j 0).toNat_lt
        omega
      have HW := Lib.hid hst
      clear hst hb1 hV hC
      gi_wp2
      go_roundw
      case rel => exact ⟨j + 1, by omega, by simp, by rw [HW.out], trivial⟩
      case measure => simp [intOf]; omega
    · have e1 : decide ((j : Int) < 8) = false := by simp; omega
      obtain ⟨J, hJ⟩ : ∃ J : Int, (j : Int) = J := ⟨_, rfl⟩
      rw [hJ] at e1 ⊢
      obtain rfl : j = 8 := by omega
      obtain ⟨i0, hi, hz0, hz1, hz2⟩ := info_parts (P := Tryd.prog) (e := 5) (z := .int .u8 0) (size := 1) (bytes := 1) (by kernel_rfl)
      have HI0 := Lib.hid (And.intro hi (And.intro hz0 (And.intro hz1 hz2)))
      clear hi hz0 hz1 hz2
      obtain ⟨C, hC⟩ : ∃ C : Int, (valOf (bs.take 8) : Int) = C := ⟨_, rfl⟩
      obtain ⟨n8, hn8⟩ : ∃ n8, (bs.getD 8 0).toNat = n8 := ⟨_, rfl⟩
      have h31 : n8 ≤ 31 := by have := HM.out.2.2.1; have := HM.out.2.2.2; omega
      obtain rfl : B8 = (n8 : Int) := by rw [← HM.out.2.2.1, hn8]
      have hC0 : 0 ≤ C ∧ C < 9223372036854775808 := by have := HM.out.1 (show 8 ≤ 8 by omega); omega
      obtain ⟨w1, hw1⟩ : ∃ w1, w0.alloc (.cells #[] 5) = w1 := ⟨_, rfl⟩
      have g1 : w0.grownBy w1 none := by rw [← hw1]; exact World.grownBy_alloc _ _ none
      have o1 : w1.ownsRow w0.heap.size 5 1 (.slice (some ⟨w0.heap.size, 0, none⟩) 0 0) 0 (Lib.byteCells ((bs.drop 9).take 0)) := by rw [← hw1]; exact World.ownsRow_made w0 #[] 0 (Nat.le_refl _) (Nat.zero_le _) rfl
      have HC := Lib.hid (And.intro hC (And.intro hn8 (And.intro g1 o1)))
      rw [hC]
      have x0b : B0 ≤ 127 := by have := e0; simp at this; omega
      clear hC hn8 g1 o1 x0
      gi_wp2
      try rw [hw1]
      gi_loopw [9, 10] (fun out i wr => ∃ k : Nat, k ≤ n8 ∧ i = .int .i64 (k : Int) ∧ (∃ A c, out = .slice A k c ∧ wr.ownsRow w0.heap.size 5 1 (.slice A k c) k (Lib.byteCells ((bs.drop 9).take k))) ∧ w0.grownBy wr none) (fun _ i _ => n8 - (intOf i).toNat)
      case atStart => exact ⟨0, by omega, rfl, ⟨_, _, rfl, HC.out.2.2.2⟩, HC.out.2.2.1⟩
      case round =>
        obtain ⟨k2, hk2, rfl, ⟨A, c, rfl, hown⟩, hgx⟩ := hrel
        rename World => wx
        have y8 := hgx.cell x8 (by simp)
        obtain ⟨xs, hxs⟩ : ∃ xs, Lib.byteCells ((bs.drop 9).take k2) = xs := ⟨_, rfl⟩
        by_cases hlt2 : k2 < n8
        · have e2 : decide ((k2 : Int) < (n8 : Int)) = true := by simp; omega
          have hl9 : 9 + k2 < bs.length := by have := HS.out.2.2.2.2.2.1; omega
          have x9 := hgx.cell (HS.out.2.2.2.2.1 (9 + k2) (by omega)) (by simp)
          obtain ⟨V, hV⟩ : ∃ V : Int, ((bs.getD (9 + k2) 0).toNat : Int) = V := ⟨_, rfl⟩
          rw [hV] at x9
          have hst : Lib.byteCells ((bs.drop 9).take (k2 + 1)) = xs ++ [.int .u8 V] := by
            rw [List.take_succ_eq_append_getElem (by simp; omega), ← hxs, ← hV]
            simp [Lib.byteCells, List.getD, List.getElem?_eq_getElem hl9]
          rw [hxs] at hown
          have hga := World.grownBy_alloc wx (.cells #[.int .u8 V] 5) none
          have HO := Lib.hid (hown.alloc (.cells #[.int .u8 V] 5))
          have HW := Lib.hid (And.intro hst (And.intro (grown_trans hgx hga) hgx.size))
          clear hst hga hown hgx hxs hV hl9
          gi_wp2_with (first
            | (gi_at_builtin; refine wpListIn_push_one _ rfl _ _ 22 rfl w0.heap.size 5 i0 _ 1 Tryd.underlying22 HI0.out.1 HI0.out.2.1 HI0.out.2.2.1 HI0.out.2.2.2 rfl (.slice A k2 c) k2 xs rfl HO.out ⟨wx.heap.size, 0, none⟩ 1 (.int .u8 V) rfl (Blk.cell (Blk.new _ _ _) 0) rfl (by omega) (by omega) (by have := HW.out.2.2; simp only [World.size_alloc]; omega) ?_; intro A' c' w3 hown3 hg3 hat3; have q3 := Lib.hid hown3; have q4 := Lib.hid (grown_own HW.out.2.1 hg3 HO.out (Nat.le_refl _)); clear hown3 hg3 hat3)
            | gi_in)
          go_roundw
          case rel => exact ⟨k2 + 1, by omega, by simp, ⟨A', c', rfl, by rw [HW.out.1]; exact q3.out⟩, q4.out⟩
          case measure => simp [intOf]; omega
        · have e2 : decide ((k2 : Int) < (n8 : Int)) = false := by simp; omega
          obtain rfl : k2 = n8 := by omega
          obtain ⟨rc, hrc⟩ : ∃ rc, (bs.drop 9).take k2 = rc := ⟨_, rfl⟩
          have hrl : rc.length = k2 := by rw [← hrc]; have := HS.out.2.2.2.2.2.1; simp; omega
          rw [hrc] at hown
          have hbr := own_bytesAt hown
          have HO := Lib.hid hown
          have HB := Lib.hid (And.intro hbr (And.intro hrl (And.intro hrc hgx)))
          have gd : w0.grownBy wx.drew none := grown_drew hgx
          have HG0 := Lib.hid (And.intro gd (HS.out.2.2.1.grown gd (by simp)))
          clear hown hbr hrl hrc hgx hxs gd
          by_cases hpar : C % 2 = k
          · obtain ⟨fs, hfs⟩ : ∃ fs, arrV .u8 (slotL (valOf (bs.take 8)) rc) = fs := ⟨_, rfl⟩
            have hsl := rslot_is wx.drew (valOf (bs.take 8)) rc A k2 c (HM.out.1 (by omega)) HB.out.2.1 (by rw [HB.out.2.1]; omega) (HB.out.1.grown (grown_drew (World.grownBy.refl wx none)) (fun _ _ => by simp))
            rw [HC.out.1, show secV (slotL (valOf (bs.take 8)) rc) = .agg fs from by rw [← hfs]; rfl] at hsl
            have hrd : readR bs k = if slotL (valOf (bs.take 8)) rc = intsB bs then some (valOf (bs.take 8), rc) else none := by
              have q1 : (bs.getD 0 0).toNat ≤ 127 := by have := HM.out.2.1; have := x0b; omega
              unfold readR
              rw [HC.out.2.1, HB.out.2.2.1]
              by_cases hh : slotL (valOf (bs.take 8)) rc = intsB bs
              · rw [if_pos hh, if_pos ⟨q1, h31, by rw [HC.out.1]; exact hpar, hh⟩]
              · rw [if_neg hh, if_neg (fun h => hh h.2.2.2)]
            have heq0 := fun V : World => eq_arr (P := Tryd.prog) V 9998 Tryd.underlying23 (by kernel_rfl) Tryd.underlying5 (by kernel_rfl) (by kernel_rfl) (slotL (valOf (bs.take 8)) rc) (intsB bs) (slotL_len _ _) (by rw [intsB_length]; exact HS.out.2.2.2.2.2.1)
            rw [hfs, HS.out.2.2.2.2.2.2] at heq0
            have HR := Lib.hid hsl
            clear hsl hfs
            by_cases hEq : slotL (valOf (bs.take 8)) rc = intsB bs
            · rw [if_pos hEq] at hrd
              rw [decide_eq_true hEq] at heq0
              have HEQ := Lib.hid heq0
              have HRD := Lib.hid hrd
              clear heq0 hrd hEq
              gi_upto_region 13 with fail
              rename_i K8 hK8
              refine wpIn_normal ?_
              refine wpIn_region_held_wide (S := fun Y => Y.rangeAt q 0 cs.toList) (by kernel_rfl) (by kernel_rfl) (by rintro ⟨_, _, h, _⟩; cases h) (by have h := HG0.out.2; rw [HS.out.2.2.2.1] at h; exact range_of_blk h) (fun hHeld => ?_)
              refine wpAnyH_take (i := 0) (oi := _) (v := ?vy0) rfl (by kernel_rfl) (by kernel_rfl) (by kernel_rfl) (fun _ _ _ h => by cases h.1) (Or.inl ⟨by rfl, ?hyy0⟩) (by assumption) ?resty0
              case hyy0 => (intro V hSw; (try dsimp only at hSw); go_simp) <;> with_reducible rfl
              try simp only [Act.put, List.getElem_toArray, List.getElem_cons_succ, List.getElem_cons_zero, List.setIfInBounds_toArray, List.set_cons_zero, List.set_cons_succ]
              refine wpAnyH_take (i := 1) (oi := _) (v := ?vy1) rfl (by kernel_rfl) (by kernel_rfl) (by kernel_rfl) (fun _ _ _ h => by cases h.1) (Or.inl ⟨by rfl, ?hyy1⟩) (by assumption) ?resty1
              case hyy1 => (intro V hSw; (try dsimp only at hSw); go_simp) <;> with_reducible rfl
              try simp only [Act.put, List.getElem_toArray, List.getElem_cons_succ, List.getElem_cons_zero, List.setIfInBounds_toArray, List.set_cons_zero, List.set_cons_succ]
              refine wpAnyH_take (i := 2) (oi := _) (v := ?vy2) rfl (by kernel_rfl) (by kernel_rfl) (by kernel_rfl) (fun _ _ _ h => by cases h.1) (Or.inl ⟨by rfl, ?hyy2⟩) (by assumption) ?resty2
              case hyy2 => (intro V hSw; (try dsimp only at hSw); go_simp) <;> with_reducible rfl
              try simp only [Act.put, List.getElem_toArray, List.getElem_cons_succ, List.getElem_cons_zero, List.setIfInBounds_toArray, List.set_cons_zero, List.set_cons_succ]
              refine wpAnyH_take (i := 3) (oi := _) (v := .bool false) rfl (by kernel_rfl) (by kernel_rfl) (by kernel_rfl) (fun _ _ _ h => by cases h.1) (Or.inl ⟨by rfl, ?hyy3⟩) (by assumption) ?resty3
              case hyy3 => (intro V hSw; (try dsimp only at hSw); go_simp) <;> first | with_reducible rfl | (rw [Int.tmod_eq_emod_of_nonneg hC0.1]; simpa using hpar)
              try simp only [Act.put, List.getElem_toArray, List.getElem_cons_succ, List.getElem_cons_zero, List.setIfInBounds_toArray, List.set_cons_zero, List.set_cons_succ]
              refine wpAnyH_take (i := 4) (oi := _) (v := ?vy4) rfl (by kernel_rfl) (by kernel_rfl) (by kernel_rfl) (fun _ _ _ h => by cases h.1) (Or.inl ⟨by rfl, ?hyy4⟩) (by assumption) ?resty4
              case hyy4 => (intro V hSw; (try dsimp only at hSw); go_simp) <;> with_reducible rfl
              try simp only [Act.put, List.getElem_toArray, List.getElem_cons_succ, List.getElem_cons_zero, List.setIfInBounds_toArray, List.set_cons_zero, List.set_cons_succ]
              refine wpAnyH_take (i := 5) (oi := _) (v := ?vy5) rfl (by kernel_rfl) (by kernel_rfl) (by kernel_rfl) (fun _ _ _ h => by cases h.1) (Or.inl ⟨by rfl, ?hyy5⟩) (by assumption) ?resty5
              case hyy5 => (intro V hSw; (try dsimp only at hSw); go_simp) <;> with_reducible rfl
              try simp only [Act.put, List.getElem_toArray, List.getElem_cons_succ, List.getElem_cons_zero, List.setIfInBounds_toArray, List.set_cons_zero, List.set_cons_succ]
              refine wpAnyH_take (i := 6) (oi := _) (v := ?vy6) rfl (by kernel_rfl) (by kernel_rfl) (by kernel_rfl) (fun _ _ _ h => by cases h.1) (Or.inl ⟨by rfl, ?hyy6⟩) (by assumption) ?resty6
              case hyy6 => (intro V hSw; (try dsimp only at hSw); go_simp) <;> with_reducible rfl
              try simp only [Act.put, List.getElem_toArray, List.getElem_cons_succ, List.getElem_cons_zero, List.setIfInBounds_toArray, List.set_cons_zero, List.set_cons_succ]
              refine wpAnyH_take (i := 8) (oi := _) (v := .agg cs) rfl (by kernel_rfl) (by kernel_rfl) (by kernel_rfl) (fun _ _ _ h => by cases h.1) (yieldsIf_load_mid (by rfl) _ _ rfl q 0 rfl cs.toList _ (fun V hSw => hSw) Tryd.underlying23 rfl (by rw [Array.length_toList, HS.out.1]; kernel_rfl)) (by assumption) ?resty8
              try simp only [Act.put, List.getElem_toArray, List.getElem_cons_succ, List.getElem_cons_zero, List.setIfInBounds_toArray, List.set_cons_zero, List.set_cons_succ]
              refine wpAnyH_ready (rs := [7]) (by kernel_rfl) (by simp) ?_
              refine (AllReadyH.cons (o := _) rfl (fun K9 hK => ?_) AllReadyH.nil)
              go_simp
              refine HR.out.mono ?_
              rintro e w5 ⟨rfl, g5⟩
              have H5 := Lib.hid (And.intro (grown_trans HG0.out.1 g5) (And.intro (grown_trans (grown_drew (World.grownBy.refl wx none)) g5) (HG0.out.2.grown g5 (by simp))))
              clear g5
              (try go_wp2_with fail)
              refine hK.out _ _ (by have h := H5.out.2.2; rw [HS.out.2.2.2.1] at h; exact range_of_blk h) (fun hHeld => ?_)
              clear hK K9
              have heq := HEQ.out
              try simp only [Act.put, List.getElem_toArray, List.getElem_cons_succ, List.getElem_cons_zero, List.setIfInBounds_toArray, List.set_cons_zero, List.set_cons_succ]
              refine wpAnyH_take (i := 9) (oi := _) (v := ?vy9) rfl (by kernel_rfl) (by kernel_rfl) (by kernel_rfl) (fun _ _ _ h => by cases h.1) (Or.inl ⟨by rfl, ?hyy9⟩) (by assumption) ?resty9
              case hyy9 => (intro V hSw; (try dsimp only at hSw); go_simp) <;> with_reducible rfl
              try simp only [Act.put, List.getElem_toArray, List.getElem_cons_succ, List.getElem_cons_zero, List.setIfInBounds_toArray, List.set_cons_zero, List.set_cons_succ]
              clear heq
              refine wpAnyH_take (i := 10) (oi := _) (v := ?vy10) rfl (by kernel_rfl) (by kernel_rfl) (by kernel_rfl) (fun _ _ _ h => by cases h.1) (Or.inl ⟨by rfl, ?hyy10⟩) (by assumption) ?resty10
              case hyy10 => (intro V hSw; (try dsimp only at hSw); go_simp) <;> with_reducible rfl
              try simp only [Act.put, List.getElem_toArray, List.getElem_cons_succ, List.getElem_cons_zero, List.setIfInBounds_toArray, List.set_cons_zero, List.set_cons_succ]
              refine wpAnyH_done (by kernel_rfl) ?_ _
              refine ⟨rfl, hK8 _ _ ?_⟩
              gi_wp2
              exact ⟨rfl, _, results_tmp3 rfl _ _ _, grown_trans HS.out.2.1 H5.out.1, .inr ⟨_, rc, HRD.out, A, c, by rw [HB.out.2.1, HC.out.1]; rfl, HB.out.1.grown H5.out.2.1 (fun _ _ => by simp), fun ad e => by
                have h := (HO.out.lt ad.block (by rw [e]; rfl)).1
                have := HS.out.2.1.size
                omega⟩⟩
            · rw [if_neg hEq] at hrd
              rw [decide_eq_false hEq] at heq0
              have HEQ := Lib.hid heq0
              have HRD := Lib.hid hrd
              clear heq0 hrd hEq
              gi_upto_region 13 with fail
              rename_i K8 hK8
              refine wpIn_normal ?_
              refine wpIn_region_held_wide (S := fun Y => Y.rangeAt q 0 cs.toList) (by kernel_rfl) (by kernel_rfl) (by rintro ⟨_, _, h, _⟩; cases h) (by have h := HG0.out.2; rw [HS.out.2.2.2.1] at h; exact range_of_blk h) (fun hHeld => ?_)
              refine wpAnyH_take (i := 0) (oi := _) (v := ?vz0) rfl (by kernel_rfl) (by kernel_rfl) (by kernel_rfl) (fun _ _ _ h => by cases h.1) (Or.inl ⟨by rfl, ?hyz0⟩) (by assumption) ?restz0
              case hyz0 => (intro V hSw; (try dsimp only at hSw); go_simp) <;> with_reducible rfl
              try simp only [Act.put, List.getElem_toArray, List.getElem_cons_succ, List.getElem_cons_zero, List.setIfInBounds_toArray, List.set_cons_zero, List.set_cons_succ]
              refine wpAnyH_take (i := 1) (oi := _) (v := ?vz1) rfl (by kernel_rfl) (by kernel_rfl) (by kernel_rfl) (fun _ _ _ h => by cases h.1) (Or.inl ⟨by rfl, ?hyz1⟩) (by assumption) ?restz1
              case hyz1 => (intro V hSw; (try dsimp only at hSw); go_simp) <;> with_reducible rfl
              try simp only [Act.put, List.getElem_toArray, List.getElem_cons_succ, List.getElem_cons_zero, List.setIfInBounds_toArray, List.set_cons_zero, List.set_cons_succ]
              refine wpAnyH_take (i := 2) (oi := _) (v := ?vz2) rfl (by kernel_rfl) (by kernel_rfl) (by kernel_rfl) (fun _ _ _ h => by cases h.1) (Or.inl ⟨by rfl, ?hyz2⟩) (by assumption) ?restz2
              case hyz2 => (intro V hSw; (try dsimp only at hSw); go_simp) <;> with_reducible rfl
              try simp only [Act.put, List.getElem_toArray, List.getElem_cons_succ, List.getElem_cons_zero, List.setIfInBounds_toArray, List.set_cons_zero, List.set_cons_succ]
              refine wpAnyH_take (i := 3) (oi := _) (v := .bool false) rfl (by kernel_rfl) (by kernel_rfl) (by kernel_rfl) (fun _ _ _ h => by cases h.1) (Or.inl ⟨by rfl, ?hyz3⟩) (by assumption) ?restz3
              case hyz3 => (intro V hSw; (try dsimp only at hSw); go_simp) <;> first | with_reducible rfl | (rw [Int.tmod_eq_emod_of_nonneg hC0.1]; simpa using hpar)
              try simp only [Act.put, List.getElem_toArray, List.getElem_cons_succ, List.getElem_cons_zero, List.setIfInBounds_toArray, List.set_cons_zero, List.set_cons_succ]
              refine wpAnyH_take (i := 4) (oi := _) (v := ?vz4) rfl (by kernel_rfl) (by kernel_rfl) (by kernel_rfl) (fun _ _ _ h => by cases h.1) (Or.inl ⟨by rfl, ?hyz4⟩) (by assumption) ?restz4
              case hyz4 => (intro V hSw; (try dsimp only at hSw); go_simp) <;> with_reducible rfl
              try simp only [Act.put, List.getElem_toArray, List.getElem_cons_succ, List.getElem_cons_zero, List.setIfInBounds_toArray, List.set_cons_zero, List.set_cons_succ]
              refine wpAnyH_take (i := 5) (oi := _) (v := ?vz5) rfl (by kernel_rfl) (by kernel_rfl) (by kernel_rfl) (fun _ _ _ h => by cases h.1) (Or.inl ⟨by rfl, ?hyz5⟩) (by assumption) ?restz5
              case hyz5 => (intro V hSw; (try dsimp only at hSw); go_simp) <;> with_reducible rfl
              try simp only [Act.put, List.getElem_toArray, List.getElem_cons_succ, List.getElem_cons_zero, List.setIfInBounds_toArray, List.set_cons_zero, List.set_cons_succ]
              refine wpAnyH_take (i := 6) (oi := _) (v := ?vz6) rfl (by kernel_rfl) (by kernel_rfl) (by kernel_rfl) (fun _ _ _ h => by cases h.1) (Or.inl ⟨by rfl, ?hyz6⟩) (by assumption) ?restz6
              case hyz6 => (intro V hSw; (try dsimp only at hSw); go_simp) <;> with_reducible rfl
              try simp only [Act.put, List.getElem_toArray, List.getElem_cons_succ, List.getElem_cons_zero, List.setIfInBounds_toArray, List.set_cons_zero, List.set_cons_succ]
              refine wpAnyH_take (i := 8) (oi := _) (v := .agg cs) rfl (by kernel_rfl) (by kernel_rfl) (by kernel_rfl) (fun _ _ _ h => by cases h.1) (yieldsIf_load_mid (by rfl) _ _ rfl q 0 rfl cs.toList _ (fun V hSw => hSw) Tryd.underlying23 rfl (by rw [Array.length_toList, HS.out.1]; kernel_rfl)) (by assumption) ?restz8
              try simp only [Act.put, List.getElem_toArray, List.getElem_cons_succ, List.getElem_cons_zero, List.setIfInBounds_toArray, List.set_cons_zero, List.set_cons_succ]
              refine wpAnyH_ready (rs := [7]) (by kernel_rfl) (by simp) ?_
              refine (AllReadyH.cons (o := _) rfl (fun K9 hK => ?_) AllReadyH.nil)
              go_simp
              refine HR.out.mono ?_
              rintro e w5 ⟨rfl, g5⟩
              have H5 := Lib.hid (And.intro (grown_trans HG0.out.1 g5) (And.intro (grown_trans (grown_drew (World.grownBy.refl wx none)) g5) (HG0.out.2.grown g5 (by simp))))
              clear g5
              (try go_wp2_with fail)
              refine hK.out _ _ (by have h := H5.out.2.2; rw [HS.out.2.2.2.1] at h; exact range_of_blk h) (fun hHeld => ?_)
              clear hK K9
              have heq := HEQ.out
              try simp only [Act.put, List.getElem_toArray, List.getElem_cons_succ, List.getElem_cons_zero, List.setIfInBounds_toArray, List.set_cons_zero, List.set_cons_succ]
              refine wpAnyH_take (i := 9) (oi := _) (v := ?vz9) rfl (by kernel_rfl) (by kernel_rfl) (by kernel_rfl) (fun _ _ _ h => by cases h.1) (Or.inl ⟨by rfl, ?hyz9⟩) (by assumption) ?restz9
              case hyz9 => (intro V hSw; (try dsimp only at hSw); go_simp) <;> with_reducible rfl
              try simp only [Act.put, List.getElem_toArray, List.getElem_cons_succ, List.getElem_cons_zero, List.setIfInBounds_toArray, List.set_cons_zero, List.set_cons_succ]
              clear heq
              refine wpAnyH_take (i := 10) (oi := _) (v := ?vz10) rfl (by kernel_rfl) (by kernel_rfl) (by kernel_rfl) (fun _ _ _ h => by cases h.1) (Or.inl ⟨by rfl, ?hyz10⟩) (by assumption) ?restz10
              case hyz10 => (intro V hSw; (try dsimp only at hSw); go_simp) <;> with_reducible rfl
              try simp only [Act.put, List.getElem_toArray, List.getElem_cons_succ, List.getElem_cons_zero, List.setIfInBounds_toArray, List.set_cons_zero, List.set_cons_succ]
              refine wpAnyH_done (by kernel_rfl) ?_ _
              refine ⟨rfl, hK8 _ _ ?_⟩
              gi_wp2
              exact ⟨rfl, _, results_tmp3 rfl _ _ _, grown_trans HS.out.2.1 H5.out.1, .inl ⟨HRD.out, rfl⟩⟩
          · have f1 : (C % 2 == k) = false := by simpa using hpar
            have f2 : (C % 2 != k) = true := by simpa using hpar
            have f3 : decide (C % 2 = k) = false := by simpa using hpar
            have HN := Lib.hid (show readR bs k = none by rw [readR, if_neg (by rw [HC.out.1]; exact fun h => hpar h.2.2.1)])
            gi_upto_region 13 with fail
            rename_i K8 hK8
            refine wpIn_normal ?_
            refine wpIn_region_held_wide (S := fun Y => True) (by kernel_rfl) (by kernel_rfl) (by rintro ⟨_, _, h, _⟩; cases h) trivial (fun hHeld => ?_)
            refine wpAnyH_take (i := 0) (oi := _) (v := ?vn0) rfl (by kernel_rfl) (by kernel_rfl) (by kernel_rfl) (fun _ _ _ h => by cases h.1) (Or.inl ⟨by rfl, ?hyn0⟩) (by assumption) ?restn0
            case hyn0 => (intro V hSw; (try dsimp only at hSw); go_simp) <;> with_reducible rfl
            try simp only [Act.put, List.getElem_toArray, List.getElem_cons_succ, List.getElem_cons_zero, List.setIfInBounds_toArray, List.set_cons_zero, List.set_cons_succ]
            refine wpAnyH_take (i := 1) (oi := _) (v := ?vn1) rfl (by kernel_rfl) (by kernel_rfl) (by kernel_rfl) (fun _ _ _ h => by cases h.1) (Or.inl ⟨by rfl, ?hyn1⟩) (by assumption) ?restn1
            case hyn1 => (intro V hSw; (try dsimp only at hSw); go_simp) <;> with_reducible rfl
            try simp only [Act.put, List.getElem_toArray, List.getElem_cons_succ, List.getElem_cons_zero, List.setIfInBounds_toArray, List.set_cons_zero, List.set_cons_succ]
            refine wpAnyH_take (i := 2) (oi := _) (v := ?vn2) rfl (by kernel_rfl) (by kernel_rfl) (by kernel_rfl) (fun _ _ _ h => by cases h.1) (Or.inl ⟨by rfl, ?hyn2⟩) (by assumption) ?restn2
            case hyn2 => (intro V hSw; (try dsimp only at hSw); go_simp) <;> with_reducible rfl
            try simp only [Act.put, List.getElem_toArray, List.getElem_cons_succ, List.getElem_cons_zero, List.setIfInBounds_toArray, List.set_cons_zero, List.set_cons_succ]
            refine wpAnyH_take (i := 3) (oi := _) (v := .bool true) rfl (by kernel_rfl) (by kernel_rfl) (by kernel_rfl) (fun _ _ _ h => by cases h.1) (Or.inl ⟨by rfl, ?hyn3⟩) (by assumption) ?restn3
            case hyn3 => (intro V hSw; (try dsimp only at hSw); go_simp) <;> first | with_reducible rfl | (rw [Int.tmod_eq_emod_of_nonneg hC0.1]; simpa using hpar)
            try simp only [Act.put, List.getElem_toArray, List.getElem_cons_succ, List.getElem_cons_zero, List.setIfInBounds_toArray, List.set_cons_zero, List.set_cons_succ]
            refine wpAnyH_take (i := 4) (oi := _) (v := ?vn4) rfl (by kernel_rfl) (by kernel_rfl) (by kernel_rfl) (fun _ _ _ h => by cases h.1) (Or.inl ⟨by rfl, ?hyn4⟩) (by assumption) ?restn4
            case hyn4 => (intro V hSw; (try dsimp only at hSw); go_simp) <;> with_reducible rfl
            try simp only [Act.put, List.getElem_toArray, List.getElem_cons_succ, List.getElem_cons_zero, List.setIfInBounds_toArray, List.set_cons_zero, List.set_cons_succ]
            refine wpAnyH_take (i := 5) (oi := _) (v := undef) rfl (by kernel_rfl) (by kernel_rfl) (by kernel_rfl) (fun _ _ _ h => by cases h.1) (Or.inr ⟨by rfl, rfl⟩) (by assumption) ?restn5
            try simp only [Act.put, List.getElem_toArray, List.getElem_cons_succ, List.getElem_cons_zero, List.setIfInBounds_toArray, List.set_cons_zero, List.set_cons_succ]
            refine wpAnyH_take (i := 6) (oi := _) (v := undef) rfl (by kernel_rfl) (by kernel_rfl) (by kernel_rfl) (fun _ _ _ h => by cases h.1) (Or.inr ⟨by rfl, rfl⟩) (by assumption) ?restn6
            try simp only [Act.put, List.getElem_toArray, List.getElem_cons_succ, List.getElem_cons_zero, List.setIfInBounds_toArray, List.set_cons_zero, List.set_cons_succ]
            refine wpAnyH_take (i := 7) (oi := _) (v := undef) rfl (by kernel_rfl) (by kernel_rfl) (by kernel_rfl) (fun _ _ _ h => by cases h.1) (Or.inr ⟨by rfl, rfl⟩) (by assumption) ?restn7
            try simp only [Act.put, List.getElem_toArray, List.getElem_cons_succ, List.getElem_cons_zero, List.setIfInBounds_toArray, List.set_cons_zero, List.set_cons_succ]
            refine wpAnyH_take (i := 8) (oi := _) (v := undef) rfl (by kernel_rfl) (by kernel_rfl) (by kernel_rfl) (fun _ _ _ h => by cases h.1) (Or.inr ⟨by rfl, rfl⟩) (by assumption) ?restn8
            try simp only [Act.put, List.getElem_toArray, List.getElem_cons_succ, List.getElem_cons_zero, List.setIfInBounds_toArray, List.set_cons_zero, List.set_cons_succ]
            refine wpAnyH_take (i := 9) (oi := _) (v := undef) rfl (by kernel_rfl) (by kernel_rfl) (by kernel_rfl) (fun _ _ _ h => by cases h.1) (Or.inr ⟨by rfl, rfl⟩) (by assumption) ?restn9
            try simp only [Act.put, List.getElem_toArray, List.getElem_cons_succ, List.getElem_cons_zero, List.setIfInBounds_toArray, List.set_cons_zero, List.set_cons_succ]
            refine wpAnyH_take (i := 10) (oi := _) (v := ?vn10) rfl (by kernel_rfl) (by kernel_rfl) (by kernel_rfl) (fun _ _ _ h => by cases h.1) (Or.inl ⟨by rfl, ?hyn10⟩) (by assumption) ?restn10
            case hyn10 => (intro V hSw; (try dsimp only at hSw); go_simp) <;> with_reducible rfl
            try simp only [Act.put, List.getElem_toArray, List.getElem_cons_succ, List.getElem_cons_zero, List.setIfInBounds_toArray, List.set_cons_zero, List.set_cons_succ]
            refine wpAnyH_done (by kernel_rfl) ?_ _
            refine ⟨rfl, hK8 _ _ ?_⟩
            gi_wp2
            exact ⟨rfl, _, results_tmp3 rfl _ _ _, grown_trans HS.out.2.1 (grown_drew HB.out.2.2.2), .inl ⟨HN.out, rfl⟩⟩
end Go.Proofs.YtilfapibfadbfaaDoor
