/-
  Several texts in one: PwR, PwV.
-/
import Derived.Test.YtpdfkgmgmndcfaaGreatDoorM20G
/-
  The document's powers: Right, Total.
-/

namespace Go.Proofs.YtpdfkgmgmndcfaaGreatDoor
open Go.RowKit

theorem findS_le {key : List Int} : ∀ {V : List Vd} {m : Nat} (h : m < V.length), V[m].key = key → 0 ≤ findS key V ∧ findS key V ≤ (m : Int)
  | x :: V, 0, _, e => by
    have e' : x.key = key := e
    rw [findS, if_pos e']; simp
  | x :: V, m + 1, h, e => by
    rw [findS]
    by_cases hx : x.key = key
    · rw [if_pos hx]; omega
    · rw [if_neg hx]
      have ih := findS_le (V := V) (m := m) (by simpa using h) e
      rw [if_neg (by omega)]; omega

set_option maxRecDepth 100000 in
set_option maxHeartbeats 1000000 in
theorem rright_is (w : World) (A : Option Addr) (c : Nat) (V : List Vd) (hV : VdsAt w A V) (ok : keysOk V) (hl : V.length < 1000) (hc : V.length ≤ c) :
    Calls Tryz.prog 13 #[.slice A V.length c] w fun e w' => e = .returned (.bool (rightS V)) ∧ w.grownBy w' none := by
  by_cases h7 : 1 ≤ V.length ∧ V.length ≤ 7
  · have g1 : ((V.length : Int) == 0) = false := by simp; intro h; rw [h] at h7; simp at h7
    have g3 : (1 : Int) ≤ (V.length : Int) := by omega
    have g4 : (V.length : Int) ≤ 7 := by omega
    obtain ⟨zs, hzs⟩ : ∃ zs : Array Value, zs = (List.replicate 16 (Value.int .u8 0) ++ [Value.int .i64 0]).toArray := ⟨_, rfl⟩
    have hz : ∀ w, Sem.run Tryz.prog (zeroValue 50) w = .ok (.agg zs) w := fun w => by rw [hzs]; exact zero_run w (by kernel_rfl)
    have HZ := Lib.hid hzs
    have HC7 := Lib.hid (And.intro h7 hc)
    clear hzs hc
    go_enter Tryz.func13, Tryz.ntmps13
    go_wp2_with fail
    go_loopw [17] (fun i wr => ∃ k : Nat, k ≤ V.length ∧ i = .int .i64 (k : Int) ∧ (∀ j (h : j < V.length), j < k → 1 ≤ V[j].p ∧ V[j].p ≤ 1099511627776 ∧ findS V[j].key V = (j : Int)) ∧ w.grownBy wr none) (fun i _ => V.length - (intOf i).toNat)
    case atStart => exact ⟨0, by omega, rfl, fun j _ h => absurd h (by omega), World.grownBy.refl w none⟩
    case round =>
      obtain ⟨k, hkl, hi, hno, hK⟩ := hrel
      obtain ⟨I, hI⟩ : ∃ I : Int, I = (k : Int) := ⟨_, rfl⟩
      rw [← hI] at hi
      subst hi
      by_cases hlt : k < V.length
      · have hne : V ≠ [] := by rintro rfl; simp at hlt
        obtain ⟨b, off, rfl, hc⟩ := hV hne
        have d1 : decide (I < (V.length : Int)) = true := by simp; omega
        have hIV : I < (V.length : Int) := by omega
        have hI0 : 0 ≤ I ∧ I < 1000 := by omega
        have hIc : I ≤ (c : Int) := by have := HC7.out.2; omega
        have hkI : I.toNat = k := by omega
        have r1 := range_kept (hc k hlt) hK
        have hx := ok _ (List.getElem_mem hlt)
        obtain ⟨x, hxe⟩ : ∃ x, x = V[k] := ⟨_, rfl⟩
        rw [← hxe] at r1 hx
        rw [← hkI] at r1
        have i1 := vdSize hx
        have HR := Lib.hid (And.intro r1 (show ∃ h : k < V.length, x = V[k] from ⟨hlt, hxe⟩))
        have HI := Lib.hid (And.intro i1 hx)
        have HN := Lib.hid (And.intro hno (And.intro hK (And.intro hl hI)))
        have HV := Lib.hid (And.intro hV ok)
        have HCC := Lib.hid hc
        obtain ⟨cs, hcs⟩ : ∃ cs, cs = x.cells.toArray := ⟨_, rfl⟩
        obtain ⟨hsz, hall, hinf⟩ := cells_facts hx hcs
        obtain ⟨W0, hW0⟩ : ∃ W0, W0 = (wr.alloc (.cells zs 50)).setRow wr.heap.size cs := ⟨_, rfl⟩
        obtain ⟨hG0, hr0, c16⟩ := box_facts hx hcs hW0
        have HC := Lib.hid (And.intro hcs (And.intro hsz (And.intro hall hinf)))
        have HW := Lib.hid hW0
        have HG := Lib.hid (And.intro hG0 hr0)
        have HK := Lib.hid (keySize hx)
        obtain ⟨p, hp⟩ : ∃ p, p = x.p := ⟨_, rfl⟩
        rw [← hp] at c16
        have HP := Lib.hid hp
        have HNot := Lib.hid (show (p < 1 ∨ 1099511627776 < p ∨ ¬ findS x.key V = I) → rightS V = false from fun h => by
          cases hr : rightS V with
          | false => rfl
          | true =>
            obtain ⟨q1, q2, q3⟩ := ((rightS_iff V).1 hr).2 k hlt
            rw [← hxe] at q1 q2 q3
            exfalso; omega)
        clear r1 hxe i1 hx hno hc ok hne hK hV hkl hl hI hkI hcs hsz hall hinf hp hG0 hr0 hW0 hlt h7
        by_cases p1 : p < 1
        · have p1' : decide (p < 1) = true := by simpa using p1
          have hnot := Lib.hid (HNot.out (.inl p1))
          clear p1
          go_wp2_with (first
            | (refine wpList_load_mid rfl 50 _ rfl b (off + I.toNat * 17) rfl x.cells _ HR.out.1 Tryz.underlying50 rfl HI.out.1 ?_; rw [← HC.out.1])
            | (refine wpList_store_row rfl 50 _ _ rfl wr.heap.size cs rfl rfl 50 _ (heap_alloc_new wr _) HC.out.2.2.2 (by rw [HC.out.2.1, HZ.out]; simp) HC.out.2.2.1 ?_
               rw [← HW.out]))
          go_ret
          exact ⟨by rw [hnot.out]; rfl, grown_trans HN.out.2.1 HG.out.1⟩
        · have p1' : decide (p < 1) = false := by simpa using p1
          have p1'' : 1 ≤ p := by omega
          by_cases p2 : 1099511627776 < p
          · have p2' : decide (1099511627776 < p) = true := by simpa using p2
            have hnot := Lib.hid (HNot.out (.inr (.inl p2)))
            clear p1
            go_wp2_with (first
              | (refine wpList_load_mid rfl 50 _ rfl b (off + I.toNat * 17) rfl x.cells _ HR.out.1 Tryz.underlying50 rfl HI.out.1 ?_; rw [← HC.out.1])
              | (refine wpList_store_row rfl 50 _ _ rfl wr.heap.size cs rfl rfl 50 _ (heap_alloc_new wr _) HC.out.2.2.2 (by rw [HC.out.2.1, HZ.out]; simp) HC.out.2.2.1 ?_
                 rw [← HW.out]))
            go_ret
            exact ⟨by rw [hnot.out]; rfl, grown_trans HN.out.2.1 HG.out.1⟩
          · have p2' : decide (1099511627776 < p) = false := by simpa using p2
            have p2'' : p ≤ 1099511627776 := by omega
            have HP2 := Lib.hid (And.intro p1 p2)
            clear p1 p2
            go_wp2_with (first
              | (refine wpList_load_mid rfl 50 _ rfl b (off + I.toNat * 17) rfl x.cells _ HR.out.1 Tryz.underlying50 rfl HI.out.1 ?_; rw [← HC.out.1])
              | (refine wpList_store_row rfl 50 _ _ rfl wr.heap.size cs rfl rfl 50 _ (heap_alloc_new wr _) HC.out.2.2.2 (by rw [HC.out.2.1, HZ.out]; simp) HC.out.2.2.1 ?_
                 rw [← HW.out]))
            obtain ⟨B0, hB0⟩ : ∃ B0, B0 = wr.heap.size := ⟨_, rfl⟩
            rw [← hB0] at HG ⊢
            have HGK := Lib.hid (grown_trans HN.out.2.1 HG.out.1)
            have HNK := Lib.hid (show ∃ h : k < V.length, x = V[k] from HR.out.2)
            have hk17 := Lib.hid HN.out.2.2.2
            have HNN := Lib.hid HN.out.1
            clear c16 HW HR HN hB0
            go_loopw [34] (fun i wr2 => ∃ m : Nat, m ≤ k ∧ i = .int .i64 (m : Int) ∧ (∀ j (h : j < V.length), j < m → V[j].key ≠ x.key) ∧ W0.grownBy wr2 none) (fun i _ => k - (intOf i).toNat)
            case atStart => exact ⟨0, by omega, rfl, fun j _ h => absurd h (by omega), World.grownBy.refl W0 none⟩
            case round =>
              obtain ⟨m, hmk, hi, hno, hK⟩ := hrel
              obtain ⟨J, hJ⟩ : ∃ J : Int, J = (m : Int) := ⟨_, rfl⟩
              rw [← hJ] at hi
              subst hi
              by_cases hmt : m < k
              · obtain ⟨hlt, hxe⟩ := HNK.out
                have hIk := hk17.out
                have hmV : m < V.length := by omega
                have d2 : decide (J < I) = true := by simp; omega
                have hJI : J < I := by omega
                have hJ0 : 0 ≤ J ∧ J < 1000 := by omega
                have hJm : J.toNat = m := by omega
                have r2 := range_kept (HCC.out m hmV) (grown_trans HGK.out hK)
                have rx := range_kept HG.out.2 hK
                have hy := HV.out.2 _ (List.getElem_mem hmV)
                obtain ⟨y, hye⟩ : ∃ y, y = V[m] := ⟨_, rfl⟩
                rw [← hye] at r2 hy
                rw [← hJm] at r2
                obtain ⟨cy, hcy⟩ : ∃ cy, cy = y.cells.toArray := ⟨_, rfl⟩
                obtain ⟨ysz, yall, yinf⟩ := cells_facts hy hcy
                obtain ⟨W1, hW1⟩ : ∃ W1, W1 = (wr.alloc (.cells zs 50)).setRow wr.heap.size cy := ⟨_, rfl⟩
                obtain ⟨hG1, hr1, _⟩ := box_facts hy hcy hW1
                have rx1 := range_kept rx hG1
                have heq : ∀ w, Sem.run Tryz.prog (Op.equalIn 10000 24 (.agg (arrV .u8 y.key)) (.agg (arrV .u8 x.key))) w = .ok (decide (y.key = x.key)) w := fun w => eqD w y.key x.key hy HI.out.2
                obtain ⟨r, hr⟩ : ∃ r, r = decide (y.key = x.key) := ⟨_, rfl⟩
                rw [← hr] at heq
                have i1 := keySize hy
                have i2 := keySize HI.out.2
                obtain ⟨ky, hky⟩ : ∃ ky, ky = y.key.map (Value.int .u8) := ⟨_, rfl⟩
                obtain ⟨kx, hkx⟩ : ∃ kx, kx = x.key.map (Value.int .u8) := ⟨_, rfl⟩
                unfold arrV at heq
                rw [← hky] at hr1 i1 heq
                rw [← hkx] at rx1 i2 heq
                have HY := Lib.hid (And.intro r2 (And.intro (vdSize hy) (And.intro hcy (And.intro ysz (And.intro yall yinf)))))
                have HY1 := Lib.hid (And.intro hr1 (And.intro rx1 (And.intro i1 i2)))
                have HW1 := Lib.hid hW1
                have HM := Lib.hid (And.intro hno (And.intro (grown_trans hK hG1) (And.intro hJ hmt)))
                have HQ := Lib.hid (show ∃ h : m < V.length, r = decide (V[m].key = x.key) from ⟨hmV, by rw [hr, hye]⟩)
                clear r2 rx hye hy hcy ysz yall yinf hW1 hG1 hr1 rx1 i1 i2 hky hkx hno hK hJ hmt hmk hlt hxe hIk hmV hJm hr
                cases r with
                | true =>
                  have hnot := Lib.hid (HNot.out (.inr (.inr (by
                    obtain ⟨h1, h2⟩ := HQ.out
                    have h3 := findS_le h1 (by simpa using h2.symm)
                    have h4 := HM.out.2.2
                    have h5 := hk17.out
                    omega))))
                  go_wp2_with (first
                    | (refine wpList_load_mid rfl 50 _ rfl b (off + J.toNat * 17) rfl y.cells _ HY.out.1 Tryz.underlying50 rfl HY.out.2.1 ?_; rw [← HY.out.2.2.1])
                    | (refine wpList_store_row rfl 50 _ _ rfl wr.heap.size cy rfl rfl 50 _ (heap_alloc_new wr _) HY.out.2.2.2.2.2 (by rw [HY.out.2.2.2.1, HZ.out]; simp) HY.out.2.2.2.2.1 ?_
                       rw [← HW1.out])
                    | (refine wpList_load_mid rfl 24 _ rfl wr.heap.size 0 rfl ky _ HY1.out.1 Tryz.underlying24 rfl HY1.out.2.2.1 ?_)
                    | (refine wpList_load_mid rfl 24 _ rfl B0 0 rfl kx _ HY1.out.2.1 Tryz.underlying24 rfl HY1.out.2.2.2 ?_))
                  go_ret
                  exact ⟨by rw [hnot.out]; rfl, grown_trans HGK.out HM.out.2.1⟩
                | false =>
                  go_wp2_with (first
                    | (refine wpList_load_mid rfl 50 _ rfl b (off + J.toNat * 17) rfl y.cells _ HY.out.1 Tryz.underlying50 rfl HY.out.2.1 ?_; rw [← HY.out.2.2.1])
                    | (refine wpList_store_row rfl 50 _ _ rfl wr.heap.size cy rfl rfl 50 _ (heap_alloc_new wr _) HY.out.2.2.2.2.2 (by rw [HY.out.2.2.2.1, HZ.out]; simp) HY.out.2.2.2.2.1 ?_
                       rw [← HW1.out])
                    | (refine wpList_load_mid rfl 24 _ rfl wr.heap.size 0 rfl ky _ HY1.out.1 Tryz.underlying24 rfl HY1.out.2.2.1 ?_)
                    | (refine wpList_load_mid rfl 24 _ rfl B0 0 rfl kx _ HY1.out.2.1 Tryz.underlying24 rfl HY1.out.2.2.2 ?_))
                  go_roundw
                  case rel =>
                    obtain ⟨m1, m2, m3, m4⟩ := HM.out
                    obtain ⟨h1, h2⟩ := HQ.out
                    refine ⟨m + 1, by omega, by rw [m3]; rfl, fun j hj hjk => ?_, m2⟩
                    by_cases hjk' : j < m
                    · exact m1 j hj hjk'
                    · obtain rfl : j = m := by omega
                      simpa using h2.symm
                  case measure => obtain ⟨m1, m2, m3, m4⟩ := HM.out; simp [intOf]; omega
              · have hIk := hk17.out
                have d2 : decide (J < I) = false := by simp; omega
                have hJI : I ≤ J := by omega
                have hf : findS x.key V = I := by
                  obtain ⟨h1, h2⟩ := HNK.out
                  rw [h2, hIk]
                  exact findS_at h1 (fun j hj hjk => by rw [← h2]; exact hno j hj (by omega)) rfl
                have HF := Lib.hid (And.intro hf hK)
                clear hno hK hJ hmt hmk hIk hf
                go_wp2_with fail
                go_roundw
                case rel =>
                  obtain ⟨f1, f2⟩ := HF.out
                  obtain ⟨h1, h2⟩ := HNK.out
                  have h3 := HP2.out
                  have h4 := HP.out
                  have h5 := hk17.out
                  refine ⟨k + 1, by omega, by rw [h5]; rfl, fun j hj hjk => ?_, grown_trans HGK.out f2⟩
                  by_cases hjk' : j < k
                  · exact HNN.out j hj hjk'
                  · obtain rfl : j = k := by omega
                    rw [← h2]; omega
                case measure => have := hk17.out; obtain ⟨h1, h2⟩ := HNK.out; simp [intOf]; omega
      · have d1 : decide (I < (V.length : Int)) = false := by simp; omega
        have HN := Lib.hid (And.intro hno (And.intro hK (And.intro hkl hlt)))
        have H7 := Lib.hid h7
        clear hno hK hkl hlt hI h7
        go_wp2_with fail
        go_ret
        exact ⟨by rw [(rightS_iff V).2 ⟨H7.out, fun j hj => HN.out.1 j hj (by have := HN.out.2.2.2; omega)⟩]; rfl, HN.out.2.1⟩
  · have hnot : rightS V = false := by
      cases hr : rightS V with
      | false => rfl
      | true => exact absurd ((rightS_iff V).1 hr).1 h7
    rw [hnot]
    by_cases h1 : 1 ≤ V.length
    · have g1 : ((V.length : Int) == 0) = false := by simp; intro h; rw [h] at h1; simp at h1
      have g3 : (1 : Int) ≤ (V.length : Int) := by omega
      have g4 : (7 : Int) < (V.length : Int) := by omega
      clear hnot h7 h1 hV ok
      go_enter Tryz.func13, Tryz.ntmps13
      go_wp2_with fail
      go_ret
      exact ⟨rfl, World.grownBy.refl w none⟩
    · obtain rfl : V = [] := List.length_eq_zero_iff.1 (by omega)
      clear hnot h7 h1 hV ok hl
      go_enter Tryz.func13, Tryz.ntmps13
      go_wp2_with fail
      go_ret
      exact ⟨rfl, World.grownBy.refl w none⟩
end Go.Proofs.YtpdfkgmgmndcfaaGreatDoor
/-
  The document's powers: Total, Sum, Enough, Few.
-/

namespace Go.Proofs.YtpdfkgmgmndcfaaGreatDoor
open Go.RowKit

/-- The numbers of the errors that Sum answers. -/
def codeN : Nat → Int
  | 0 => 0
  | 1 => 11
  | 2 => 1
  | _ => 17

theorem right_sumW {V : List Vd} (hr : rightS V = true) : sumW (powersOf V) = (powersOf V).sum :=
  sumW_sum _ (right_powers hr).2.2 (by have := (right_powers hr).1; simp [powersOf]; omega)
theorem code_right {V : List Vd} {who : List Int} (h : sumCode V who = 0) : rightS V = true := by
  cases h1 : rightS V with
  | true => rfl
  | false => simp [sumCode, h1] at h
theorem codeN_zero {k : Nat} : codeN k = 0 ↔ k = 0 := by
  match k with
  | 0 => simp [codeN]
  | 1 => simp [codeN]
  | 2 => simp [codeN]
  | k + 3 => simp [codeN]

end Go.Proofs.YtpdfkgmgmndcfaaGreatDoor
