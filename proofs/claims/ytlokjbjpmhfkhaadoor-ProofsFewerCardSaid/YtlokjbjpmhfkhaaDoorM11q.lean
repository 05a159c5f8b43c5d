/-
  Several texts in one: PwR, PwV, PwLb.
-/
import Derived.Test.YtlokjbjpmhfkhaaDoorM11p
import Derived.Great.BuildSlice
/-
  The document's powers: Right, Total.
-/

namespace Go.Proofs.YtlokjbjpmhfkhaaDoor
open Go.RowKit

theorem findS_le {key : List Int} : ∀ {V : List Vd} {m : Nat} (h : m < V.length), V[m].key = key → 0 ≤ findS key V ∧ findS key V ≤ (m : Int)
  | x :: V, 0, _, e => by
    have e' : x.key = key := e
    rw [findS, if_pos e']; simp
  | x :: V, m + 1, h, e => by
    rw [findS]
    by_cases hx : x.key = key
    · rw [if_pos hx]; omega
    · rw [if_neg hx]
      have ih := findS_le (V := V) (m := m) (by simpa using h) e
      rw [if_neg (by omega)]; omega

set_option maxRecDepth 100000 in
set_option maxHeartbeats 1000000 in
theorem rright_is (w : World) (A : Option Addr) (c : Nat) (V : List Vd) (hV : VdsAt w A V) (ok : keysOk V) (hl : V.length < 1000) (hc : V.length ≤ c) :
    Calls Tryd.prog 8 #[.slice A V.length c] w fun e w' => e = .returned (.bool (rightS V)) ∧ w.grownBy w' none := by
  by_cases h7 : 1 ≤ V.length ∧ V.length ≤ 7
  · have g1 : ((V.length : Int) == 0) = false := by simp; intro h; rw [h] at h7; simp at h7
    have g3 : (1 : Int) ≤ (V.length : Int) := by omega
    have g4 : (V.length : Int) ≤ 7 := by omega
    obtain ⟨zs, hzs⟩ : ∃ zs : Array Value, zs = (List.replicate 16 (Value.int .u8 0) ++ [Value.int .i64 0]).toArray := ⟨_, rfl⟩
    have hz : ∀ w, Sem.run Tryd.prog (zeroValue 62) w = .ok (.agg zs) w := fun w => by rw [hzs]; exact zero_run w (by kernel_rfl)
    have HZ := Lib.hid hzs
    have HC7 := Lib.hid (And.intro h7 hc)
    clear hzs hc
    go_enter Tryd.func8, Tryd.ntmps8
    go_wp2_with fail
    go_loopw [17] (fun i wr => ∃ k : Nat, k ≤ V.length ∧ i = .int .i64 (k : Int) ∧ (∀ j (h : j < V.length), j < k → 1 ≤ V[j].p ∧ V[j].p ≤ 1099511627776 ∧ findS V[j].key V = (j : Int)) ∧ w.grownBy wr none) (fun i _ => V.length - (intOf i).toNat)
    case atStart => exact ⟨0, by omega, rfl, fun j _ h => absurd h (by omega), World.grownBy.refl w none⟩
    case round =>
      obtain ⟨k, hkl, hi, hno, hK⟩ := hrel
      obtain ⟨I, hI⟩ : ∃ I : Int, I = (k : Int) := ⟨_, rfl⟩
      rw [← hI] at hi
      subst hi
      by_cases hlt : k < V.length
      · have hne : V ≠ [] := by rintro rfl; simp at hlt
        obtain ⟨b, off, rfl, hc⟩ := hV hne
        have d1 : decide (I < (V.length : Int)) = true := by simp; omega
        have hIV : I < (V.length : Int) := by omega
        have hI0 : 0 ≤ I ∧ I < 1000 := by omega
        have hIc : I ≤ (c : Int) := by have := HC7.out.2; omega
        have hkI : I.toNat = k := by omega
        have r1 := range_kept (hc k hlt) hK
        have hx := ok _ (List.getElem_mem hlt)
        obtain ⟨x, hxe⟩ : ∃ x, x = V[k] := ⟨_, rfl⟩
        rw [← hxe] at r1 hx
        rw [← hkI] at r1
        have i1 := vdSize hx
        have HR := Lib.hid (And.intro r1 (show ∃ h : k < V.length, x = V[k] from ⟨hlt, hxe⟩))
        have HI := Lib.hid (And.intro i1 hx)
        have HN := Lib.hid (And.intro hno (And.intro hK (And.intro hl hI)))
        have HV := Lib.hid (And.intro hV ok)
        have HCC := Lib.hid hc
        obtain ⟨cs, hcs⟩ : ∃ cs, cs = x.cells.toArray := ⟨_, rfl⟩
        obtain ⟨hsz, hall, hinf⟩ := cells_facts hx hcs
        obtain ⟨W0, hW0⟩ : ∃ W0, W0 = (wr.alloc (.cells zs 62)).setRow wr.heap.size cs := ⟨_, rfl⟩
        obtain ⟨hG0, hr0, c16⟩ := box_facts hx hcs hW0
        have HC := Lib.hid (And.intro hcs (And.intro hsz (And.intro hall hinf)))
        have HW := Lib.hid hW0
        have HG := Lib.hid (And.intro hG0 hr0)
        have HK := Lib.hid (keySize hx)
        obtain ⟨p, hp⟩ : ∃ p, p = x.p := ⟨_, rfl⟩
        rw [← hp] at c16
        have HP := Lib.hid hp
        have HNot := Lib.hid (show (p < 1 ∨ 1099511627776 < p ∨ ¬ findS x.key V = I) → rightS V = false from fun h => by
          cases hr : rightS V with
          | false => rfl
          | true =>
            obtain ⟨q1, q2, q3⟩ := ((rightS_iff V).1 hr).2 k hlt
            rw [← hxe] at q1 q2 q3
            exfalso; omega)
        clear r1 hxe i1 hx hno hc ok hne hK hV hkl hl hI hkI hcs hsz hall hinf hp hG0 hr0 hW0 hlt h7
        by_cases p1 : p < 1
        · have p1' : decide (p < 1) = true := by simpa using p1
          have hnot := Lib.hid (HNot.out (.inl p1))
          clear p1
          go_wp2_with (first
            | (refine wpList_load_mid rfl 62 _ rfl b (off + I.toNat * 17) rfl x.cells _ HR.out.1 Tryd.underlying62 rfl HI.out.1 ?_; rw [← HC.out.1])
            | (refine wpList_store_row rfl 62 _ _ rfl wr.heap.size cs rfl rfl 62 _ (heap_alloc_new wr _) HC.out.2.2.2 (by rw [HC.out.2.1, HZ.out]; simp) HC.out.2.2.1 ?_
               rw [← HW.out]))
          go_ret
          exact ⟨by rw [hnot.out]; rfl, grown_trans HN.out.2.1 HG.out.1⟩
        · have p1' : decide (p < 1) = false := by simpa using p1
          have p1'' : 1 ≤ p := by omega
          by_cases p2 : 1099511627776 < p
          · have p2' : decide (1099511627776 < p) = true := by simpa using p2
            have hnot := Lib.hid (HNot.out (.inr (.inl p2)))
            clear p1
            go_wp2_with (first
              | (refine wpList_load_mid rfl 62 _ rfl b (off + I.toNat * 17) rfl x.cells _ HR.out.1 Tryd.underlying62 rfl HI.out.1 ?_; rw [← HC.out.1])
              | (refine wpList_store_row rfl 62 _ _ rfl wr.heap.size cs rfl rfl 62 _ (heap_alloc_new wr _) HC.out.2.2.2 (by rw [HC.out.2.1, HZ.out]; simp) HC.out.2.2.1 ?_
                 rw [← HW.out]))
            go_ret
            exact ⟨by rw [hnot.out]; rfl, grown_trans HN.out.2.1 HG.out.1⟩
          · have p2' : decide (1099511627776 < p) = false := by simpa using p2
            have p2'' : p ≤ 1099511627776 := by omega
            have HP2 := Lib.hid (And.intro p1 p2)
            clear p1 p2
            go_wp2_with (first
              | (refine wpList_load_mid rfl 62 _ rfl b (off + I.toNat * 17) rfl x.cells _ HR.out.1 Tryd.underlying62 rfl HI.out.1 ?_; rw [← HC.out.1])
              | (refine wpList_store_row rfl 62 _ _ rfl wr.heap.size cs rfl rfl 62 _ (heap_alloc_new wr _) HC.out.2.2.2 (by rw [HC.out.2.1, HZ.out]; simp) HC.out.2.2.1 ?_
                 rw [← HW.out]))
            obtain ⟨B0, hB0⟩ : ∃ B0, B0 = wr.heap.size := ⟨_, rfl⟩
            rw [← hB0] at HG ⊢
            have HGK := Lib.hid (grown_trans HN.out.2.1 HG.out.1)
            have HNK := Lib.hid (show ∃ h : k < V.length, x = V[k] from HR.out.2)
            have hk17 := Lib.hid HN.out.2.2.2
            have HNN := Lib.hid HN.out.1
            clear c16 HW HR HN hB0
            go_loopw [34] (fun i wr2 => ∃ m : Nat, m ≤ k ∧ i = .int .i64 (m : Int) ∧ (∀ j (h : j < V.length), j < m → V[j].key ≠ x.key) ∧ W0.grownBy wr2 none) (fun i _ => k - (intOf i).toNat)
            case atStart => exact ⟨0, by omega, rfl, fun j _ h => absurd h (by omega), World.grownBy.refl W0 none⟩
            case round =>
              obtain ⟨m, hmk, hi, hno, hK⟩ := hrel
              obtain ⟨J, hJ⟩ : ∃ J : Int, J = (m : Int) := ⟨_, rfl⟩
              rw [← hJ] at hi
              subst hi
              by_cases hmt : m < k
              · obtain ⟨hlt, hxe⟩ := HNK.out
                have hIk := hk17.out
                have hmV : m < V.length := by omega
                have d2 : decide (J < I) = true := by simp; omega
                have hJI : J < I := by omega
                have hJ0 : 0 ≤ J ∧ J < 1000 := by omega
                have hJm : J.toNat = m := by omega
                have r2 := range_kept (HCC.out m hmV) (grown_trans HGK.out hK)
                have rx := range_kept HG.out.2 hK
                have hy := HV.out.2 _ (List.getElem_mem hmV)
                obtain ⟨y, hye⟩ : ∃ y, y = V[m] := ⟨_, rfl⟩
                rw [← hye] at r2 hy
                rw [← hJm] at r2
                obtain ⟨cy, hcy⟩ : ∃ cy, cy = y.cells.toArray := ⟨_, rfl⟩
                obtain ⟨ysz, yall, yinf⟩ := cells_facts hy hcy
                obtain ⟨W1, hW1⟩ : ∃ W1, W1 = (wr.alloc (.cells zs 62)).setRow wr.heap.size cy := ⟨_, rfl⟩
                obtain ⟨hG1, hr1, _⟩ := box_facts hy hcy hW1
                have rx1 := range_kept rx hG1
                have heq : ∀ w, Sem.run Tryd.prog (Op.equalIn 10000 32 (.agg (arrV .u8 y.key)) (.agg (arrV .u8 x.key))) w = .ok (decide (y.key = x.key)) w := fun w => eqD w y.key x.key hy HI.out.2
                obtain ⟨r, hr⟩ : ∃ r, r = decide (y.key = x.key) := ⟨_, rfl⟩
                rw [← hr] at heq
                have i1 := keySize hy
                have i2 := keySize HI.out.2
                obtain ⟨ky, hky⟩ : ∃ ky, ky = y.key.map (Value.int .u8) := ⟨_, rfl⟩
                obtain ⟨kx, hkx⟩ : ∃ kx, kx = x.key.map (Value.int .u8) := ⟨_, rfl⟩
                unfold arrV at heq
                rw [← hky] at hr1 i1 heq
                rw [← hkx] at rx1 i2 heq
                have HY := Lib.hid (And.intro r2 (And.intro (vdSize hy) (And.intro hcy (And.intro ysz (And.intro yall yinf)))))
                have HY1 := Lib.hid (And.intro hr1 (And.intro rx1 (And.intro i1 i2)))
                have HW1 := Lib.hid hW1
                have HM := Lib.hid (And.intro hno (And.intro (grown_trans hK hG1) (And.intro hJ hmt)))
                have HQ := Lib.hid (show ∃ h : m < V.length, r = decide (V[m].key = x.key) from ⟨hmV, by rw [hr, hye]⟩)
                clear r2 rx hye hy hcy ysz yall yinf hW1 hG1 hr1 rx1 i1 i2 hky hkx hno hK hJ hmt hmk hlt hxe hIk hmV hJm hr
                cases r with
                | true =>
                  have hnot := Lib.hid (HNot.out (.inr (.inr (by
                    obtain ⟨h1, h2⟩ := HQ.out
                    have h3 := findS_le h1 (by simpa using h2.symm)
                    have h4 := HM.out.2.2
                    have h5 := hk17.out
                    omega))))
                  go_wp2_with (first
                    | (refine wpList_load_mid rfl 62 _ rfl b (off + J.toNat * 17) rfl y.cells _ HY.out.1 Tryd.underlying62 rfl HY.out.2.1 ?_; rw [← HY.out.2.2.1])
                    | (refine wpList_store_row rfl 62 _ _ rfl wr.heap.size cy rfl rfl 62 _ (heap_alloc_new wr _) HY.out.2.2.2.2.2 (by rw [HY.out.2.2.2.1, HZ.out]; simp) HY.out.2.2.2.2.1 ?_
                       rw [← HW1.out])
                    | (refine wpList_load_mid rfl 32 _ rfl wr.heap.size 0 rfl ky _ HY1.out.1 Tryd.underlying32 rfl HY1.out.2.2.1 ?_)
                    | (refine wpList_load_mid rfl 32 _ rfl B0 0 rfl kx _ HY1.out.2.1 Tryd.underlying32 rfl HY1.out.2.2.2 ?_))
                  go_ret
                  exact ⟨by rw [hnot.out]; rfl, grown_trans HGK.out HM.out.2.1⟩
                | false =>
                  go_wp2_with (first
                    | (refine wpList_load_mid rfl 62 _ rfl b (off + J.toNat * 17) rfl y.cells _ HY.out.1 Tryd.underlying62 rfl HY.out.2.1 ?_; rw [← HY.out.2.2.1])
                    | (refine wpList_store_row rfl 62 _ _ rfl wr.heap.size cy rfl rfl 62 _ (heap_alloc_new wr _) HY.out.2.2.2.2.2 (by rw [HY.out.2.2.2.1, HZ.out]; simp) HY.out.2.2.2.2.1 ?_
                       rw [← HW1.out])
                    | (refine wpList_load_mid rfl 32 _ rfl wr.heap.size 0 rfl ky _ HY1.out.1 Tryd.underlying32 rfl HY1.out.2.2.1 ?_)
                    | (refine wpList_load_mid rfl 32 _ rfl B0 0 rfl kx _ HY1.out.2.1 Tryd.underlying32 rfl HY1.out.2.2.2 ?_))
                  go_roundw
                  case rel =>
                    obtain ⟨m1, m2, m3, m4⟩ := HM.out
                    obtain ⟨h1, h2⟩ := HQ.out
                    refine ⟨m + 1, by omega, by rw [m3]; rfl, fun j hj hjk => ?_, m2⟩
                    by_cases hjk' : j < m
                    · exact m1 j hj hjk'
                    · obtain rfl : j = m := by omega
                      simpa using h2.symm
                  case measure => obtain ⟨m1, m2, m3, m4⟩ := HM.out; simp [intOf]; omega
              · have hIk := hk17.out
                have d2 : decide (J < I) = false := by simp; omega
                have hJI : I ≤ J := by omega
                have hf : findS x.key V = I := by
                  obtain ⟨h1, h2⟩ := HNK.out
                  rw [h2, hIk]
                  exact findS_at h1 (fun j hj hjk => by rw [← h2]; exact hno j hj (by omega)) rfl
                have HF := Lib.hid (And.intro hf hK)
                clear hno hK hJ hmt hmk hIk hf
                go_wp2_with fail
                go_roundw
                case rel =>
                  obtain ⟨f1, f2⟩ := HF.out
                  obtain ⟨h1, h2⟩ := HNK.out
                  have h3 := HP2.out
                  have h4 := HP.out
                  have h5 := hk17.out
                  refine ⟨k + 1, by omega, by rw [h5]; rfl, fun j hj hjk => ?_, grown_trans HGK.out f2⟩
                  by_cases hjk' : j < k
                  · exact HNN.out j hj hjk'
                  · obtain rfl : j = k := by omega
                    rw [← h2]; omega
                case measure => have := hk17.out; obtain ⟨h1, h2⟩ := HNK.out; simp [intOf]; omega
      · have d1 : decide (I < (V.length : Int)) = false := by simp; omega
        have HN := Lib.hid (And.intro hno (And.intro hK (And.intro hkl hlt)))
        have H7 := Lib.hid h7
        clear hno hK hkl hlt hI h7
        go_wp2_with fail
        go_ret
        exact ⟨by rw [(rightS_iff V).2 ⟨H7.out, fun j hj => HN.out.1 j hj (by have := HN.out.2.2.2; omega)⟩]; rfl, HN.out.2.1⟩
  · have hnot : rightS V = false := by
      cases hr : rightS V with
      | false => rfl
      | true => exact absurd ((rightS_iff V).1 hr).1 h7
    rw [hnot]
    by_cases h1 : 1 ≤ V.length
    · have g1 : ((V.length : Int) == 0) = false := by simp; intro h; rw [h] at h1; simp at h1
      have g3 : (1 : Int) ≤ (V.length : Int) := by omega
      have g4 : (7 : Int) < (V.length : Int) := by omega
      clear hnot h7 h1 hV ok
      go_enter Tryd.func8, Tryd.ntmps8
      go_wp2_with fail
      go_ret
      exact ⟨rfl, World.grownBy.refl w none⟩
    · obtain rfl : V = [] := List.length_eq_zero_iff.1 (by omega)
      clear hnot h7 h1 hV ok hl
      go_enter Tryd.func8, Tryd.ntmps8
      go_wp2_with fail
      go_ret
      exact ⟨rfl, World.grownBy.refl w none⟩
end Go.Proofs.YtlokjbjpmhfkhaaDoor
/-
  The document's powers: Total, Sum, Enough, Few.
-/

namespace Go.Proofs.YtlokjbjpmhfkhaaDoor
open Go.RowKit

set_option maxRecDepth 100000 in
set_option maxHeartbeats 1000000 in
theorem rtotal_is (w : World) (A : Option Addr) (c : Nat) (V : List Vd) (hV : VdsAt w A V) (ok : keysOk V) (hl : V.length < 1000) :
    Calls Tryd.prog 26 #[.slice A V.length c] w fun e w' => e = .returned (.int .i64 (sumW (powersOf V))) ∧ w.grownBy w' none := by
  obtain ⟨zs, hzs⟩ : ∃ zs : Array Value, zs = (List.replicate 16 (Value.int .u8 0) ++ [Value.int .i64 0]).toArray := ⟨_, rfl⟩
  have hz : ∀ w, Sem.run Tryd.prog (zeroValue 62) w = .ok (.agg zs) w := fun w => by rw [hzs]; exact zero_run w (by kernel_rfl)
  have HZ := Lib.hid hzs
  clear hzs
  go_enter Tryd.func26, Tryd.ntmps26
  go_wp2_with fail
  go_loopw [3, 8] (fun s i wr => ∃ k : Nat, k ≤ V.length ∧ i = .int .i64 (k : Int) ∧ s = .int .i64 (sumW (powersOf (V.take k))) ∧ w.grownBy wr none) (fun _ i _ => V.length - (intOf i).toNat)
  case atStart => exact ⟨0, by omega, rfl, rfl, World.grownBy.refl w none⟩
  case round =>
    obtain ⟨k, hkl, hi, hs, hK⟩ := hrel
    obtain ⟨I, hI⟩ : ∃ I : Int, I = (k : Int) := ⟨_, rfl⟩
    rw [← hI] at hi
    subst hi
    obtain ⟨s, hsv⟩ : ∃ s, s = sumW (powersOf (V.take k)) := ⟨_, rfl⟩
    rw [← hsv] at hs
    subst hs
    by_cases hlt : k < V.length
    · obtain ⟨b, off, rfl, hc⟩ := hV (by rintro rfl; simp at hlt)
      have d1 : decide (I < (V.length : Int)) = true := by simp; omega
      have hIV : I < (V.length : Int) := by omega
      have hI0 : 0 ≤ I ∧ I < 1000 := by omega
      have hkI : I.toNat = k := by omega
      have r1 := range_kept (hc k hlt) hK
      have hx := ok _ (List.getElem_mem hlt)
      obtain ⟨x, hxe⟩ : ∃ x, x = V[k] := ⟨_, rfl⟩
      rw [← hxe] at r1 hx
      rw [← hkI] at r1
      have i1 := vdSize hx
      obtain ⟨cs, hcs⟩ : ∃ cs, cs = x.cells.toArray := ⟨_, rfl⟩
      obtain ⟨hsz, hall, hinf⟩ := cells_facts hx hcs
      obtain ⟨W0, hW0⟩ : ∃ W0, W0 = (wr.alloc (.cells zs 62)).setRow wr.heap.size cs := ⟨_, rfl⟩
      obtain ⟨hG0, _, c16⟩ := box_facts hx hcs hW0
      obtain ⟨p, hp⟩ : ∃ p, p = x.p := ⟨_, rfl⟩
      rw [← hp] at c16
      have hsn : wrap64 (s + p) = sumW (powersOf (V.take (k + 1))) := by
        rw [hsv, hp, hxe, ← sumW_snoc, show powersOf (V.take (k + 1)) = powersOf (V.take k) ++ [V[k].p] by rw [← List.take_append_getElem hlt, powersOf, List.map_append]; rfl]
      have HR := Lib.hid (And.intro r1 i1)
      have HC := Lib.hid (And.intro hcs (And.intro hsz (And.intro hall hinf)))
      have HW := Lib.hid hW0
      have HN := Lib.hid (And.intro (grown_trans hK hG0) (And.intro hI (And.intro hlt hsn)))
      clear r1 i1 hcs hsz hall hinf hG0 hxe hx hp hsn hsv hK hc hV ok hkI hI hkl hlt hW0
      go_wp2_with (first
        | (refine wpList_load_mid rfl 62 _ rfl b (off + I.toNat * 17) rfl x.cells _ HR.out.1 Tryd.underlying62 rfl HR.out.2 ?_; rw [← HC.out.1])
        | (refine wpList_store_row rfl 62 _ _ rfl wr.heap.size cs rfl rfl 62 _ (heap_alloc_new wr _) HC.out.2.2.2 (by rw [HC.out.2.1, HZ.out]; simp) HC.out.2.2.1 ?_
           rw [← HW.out]))
      go_roundw
      case rel =>
        obtain ⟨n1, n2, n3, n4⟩ := HN.out
        exact ⟨k + 1, by omega, by rw [n2]; rfl, by rw [n4], n1⟩
      case measure => obtain ⟨n1, n2, n3, n4⟩ := HN.out; simp [intOf]; omega
    · have d1 : decide (I < (V.length : Int)) = false := by simp; omega
      obtain rfl : k = V.length := by omega
      rw [List.take_length] at hsv
      have HN := Lib.hid (And.intro hsv hK)
      clear hsv hK hI hkl hlt
      go_wp2_with fail
      go_ret
      exact ⟨by rw [← HN.out.1]; rfl, HN.out.2⟩

/-- The numbers of the errors that Sum answers. -/
def codeN : Nat → Int
  | 0 => 0
  | 1 => 11
  | 2 => 1
  | _ => 17

set_option maxRecDepth 100000 in
set_option maxHeartbeats 1000000 in
theorem rsum_is (w : World) (A A2 : Option Addr) (c c2 : Nat) (V : List Vd) (who : List Int) (hV : VdsAt w A V) (ok : keysOk V) (hl : V.length < 1000) (hc : V.length ≤ c) (hU : IntsAt w A2 who) (hwl : who.length ≤ 100) (hc2 : who.length ≤ c2) :
    Calls Tryd.prog 25 #[.slice A V.length c, .slice A2 who.length c2] w fun e w' => e = .returned (.tuple #[.int .i64 (sumVal V who), .int .i64 (codeN (sumCode V who))]) ∧ w.grownBy w' none := by
  have HV := Lib.hid (And.intro hV (And.intro ok (And.intro hl hc)))
  have HU := Lib.hid (And.intro hU (And.intro hwl hc2))
  clear hV ok hc hU
  cases hr : rightS V with
  | false =>
    have h1 : sumCode V who = 1 := by simp [sumCode, hr]
    rw [show sumVal V who = 0 by simp [sumVal, h1], h1, codeN]
    have HR := Lib.hid hr
    clear hr h1 hl hwl
    go_enter Tryd.func25, Tryd.ntmps25
    go_wp2_with fail
    refine (rright_is w A c V HV.out.1 HV.out.2.1 HV.out.2.2.1 HV.out.2.2.2).mono ?_
    rintro e w1 ⟨rfl, hk1⟩
    rw [HR.out]
    have HK := Lib.hid hk1
    clear hk1
    go_wp2_with fail
    go_ret2
    exact ⟨rfl, HK.out⟩
  | true =>
    have HR := Lib.hid hr
    clear hr
    go_enter Tryd.func25, Tryd.ntmps25
    go_wp2_with fail
    refine (rright_is w A c V HV.out.1 HV.out.2.1 HV.out.2.2.1 HV.out.2.2.2).mono ?_
    rintro e w1 ⟨rfl, hk1⟩
    rw [HR.out]
    have hU1 := HU.out.1.above (grown_above hk1)
    have HK := Lib.hid hk1
    clear hk1
    go_wp2_with fail
    go_loop [16] (fun i => ∃ k : Nat, k ≤ who.length ∧ i = .int .i64 (k : Int) ∧ (∀ j (h : j < who.length), j < k → 0 ≤ who[j] ∧ who[j] < (V.length : Int))) (fun i => who.length - (intOf i).toNat)
    case atStart => exact ⟨0, Nat.zero_le _, rfl, fun j _ h => absurd h (by omega)⟩
    case round =>
      obtain ⟨k, hkl, hi, hno⟩ := hrel
      obtain ⟨I, hI⟩ : ∃ I : Int, I = (k : Int) := ⟨_, rfl⟩
      rw [← hI] at hi
      subst hi
      have HN := Lib.hid (And.intro hno (And.intro hkl hI))
      have HU1 := Lib.hid hU1
      by_cases hlt : k < who.length
      · have d1 : decide (I < (who.length : Int)) = true := by simp; omega
        have hne : who ≠ [] := by rintro rfl; simp at hlt
        have hIV : I < (who.length : Int) := by omega
        have hI0 : 0 ≤ I ∧ I < 1000 := by omega
        obtain ⟨b2, off2, rfl, hcs⟩ := hU1.get hne
        obtain ⟨z, hz⟩ : ∃ z, z = who[k] := ⟨_, rfl⟩
        have c1 : w1.cell? ⟨b2, off2 + I.toNat, none⟩ = some (.int .i64 z) := by rw [show I.toNat = k by omega, hz]; exact hcs k hlt
        have hbad := Lib.hid (show ¬ (0 ≤ z ∧ z < (V.length : Int)) → sumCode V who = 2 from fun h => by
          have h2 : inR V who = false := by
            cases h3 : inR V who with
            | false => rfl
            | true => exact absurd (inR_iff.1 h3 z (by rw [hz]; exact List.getElem_mem hlt)) h
          simp [sumCode, HR.out, h2])
        have HZ := Lib.hid (show ∃ h : k < who.length, z = who[k] from ⟨hlt, hz⟩)
        clear hno hkl hI hne hcs hz hU1 hlt hwl hc2 hl
        by_cases z1 : z < 0
        · have z1' : decide (z < 0) = true := by simpa using z1
          have Hb := Lib.hid (hbad.out (by omega))
          clear z1
          go_wp2_with fail
          go_ret2
          exact ⟨by rw [show sumVal V who = 0 by simp [sumVal, Hb.out], Hb.out]; rfl, HK.out⟩
        · have z1' : decide (z < 0) = false := by simpa using z1
          by_cases z2 : (V.length : Int) ≤ z
          · have z2' : decide ((V.length : Int) ≤ z) = true := by simpa using z2
            have Hb := Lib.hid (hbad.out (by omega))
            clear z1 z2
            go_wp2_with fail
            go_ret2
            exact ⟨by rw [show sumVal V who = 0 by simp [sumVal, Hb.out], Hb.out]; rfl, HK.out⟩
          · have z2' : decide ((V.length : Int) ≤ z) = false := by simpa using z2
            have HZ1 := Lib.hid (And.intro z1 z2)
            clear z1 z2
            go_wp2_with fail
            go_round
            case rel =>
              obtain ⟨n1, n2, n3⟩ := HN.out
              obtain ⟨n5, n4⟩ := HZ.out
              refine ⟨k + 1, by omega, by rw [n3]; rfl, fun j hj hjk => ?_⟩
              by_cases hjk' : j < k
              · exact n1 j hj hjk'
              · obtain rfl : j = k := by omega
                rw [← n4]; have := HZ1.out; omega
            case measure => obtain ⟨n1, n2, n3⟩ := HN.out; obtain ⟨n5, n4⟩ := HZ.out; simp [intOf]; omega
      · have d1 : decide (I < (who.length : Int)) = false := by simp; omega
        have hin : inR V who = true := inR_iff.2 fun i hi => by
          obtain ⟨j, hj, rfl⟩ := List.getElem_of_mem hi
          exact hno j hj (by omega)
        have HI := Lib.hid hin
        clear hno hkl hI hlt hin hU1 HN hl
        go_wp2_with fail
        clear d1
        go_loop [8, 31] (fun s i => ∃ k : Nat, k ≤ who.length ∧ i = .int .i64 (k : Int) ∧ s = .int .i64 (sumW (powersAt V (who.take k))) ∧ (who.take k).Nodup) (fun _ i => who.length - (intOf i).toNat)
        case atStart => exact ⟨0, Nat.zero_le _, rfl, rfl, by simp⟩
        case round =>
          obtain ⟨k, hkl, hi, hs, hno⟩ := hrel
          obtain ⟨I, hI⟩ : ∃ I : Int, I = (k : Int) := ⟨_, rfl⟩
          rw [← hI] at hi
          subst hi
          obtain ⟨s, hsv⟩ : ∃ s, s = sumW (powersAt V (who.take k)) := ⟨_, rfl⟩
          rw [← hsv] at hs
          subst hs
          have HN := Lib.hid (And.intro hno (And.intro hkl hI))
          by_cases hlt : k < who.length
          · have d1 : decide (I < (who.length : Int)) = true := by simp; omega
            have hne : who ≠ [] := by rintro rfl; simp at hlt
            have hIV : I < (who.length : Int) := by omega
            have hI0 : 0 ≤ I ∧ I < 1000 := by omega
            have hIc : I ≤ (c2 : Int) := by omega
            obtain ⟨b2, off2, rfl, hcs⟩ := HU1.out.get hne
            obtain ⟨z, hz⟩ : ∃ z, z = who[k] := ⟨_, rfl⟩
            have c1 : w1.cell? ⟨b2, off2 + I.toNat, none⟩ = some (.int .i64 z) := by rw [show I.toNat = k by omega, hz]; exact hcs k hlt
            have hzr := inR_iff.1 HI.out z (by rw [hz]; exact List.getElem_mem hlt)
            have hzt : z.toNat < V.length := by omega
            obtain ⟨b, off, rfl, hcv⟩ := HV.out.1 (by rintro rfl; simp at hzt)
            have hz0 : 0 ≤ z ∧ z < (V.length : Int) := hzr
            have c16 := vd_power (HV.out.2.1 _ (List.getElem_mem hzt)) (range_kept (hcv z.toNat hzt) HK.out)
            obtain ⟨p, hp⟩ : ∃ p, p = V[z.toNat].p := ⟨_, rfl⟩
            rw [← hp] at c16
            have hsn : wrap64 (s + p) = sumW (powersAt V (who.take (k + 1))) := by
              rw [powersAt_snoc V who k hlt (by rw [← hz]; exact hzt), sumW_snoc, hsv, hp]
              simp only [← hz]
            have HZ := Lib.hid (show ∃ h : k < who.length, z = who[k] from ⟨hlt, hz⟩)
            have HWL := Lib.hid (And.intro hwl hsn)
            clear hno hkl hI hne hcs hz hlt hwl hc2 hsn hsv hp hcv hzt hzr
            go_wp2_with fail
            obtain ⟨bb, hbb⟩ : ∃ bb, decide (z ∈ who.take k) = bb := ⟨_, rfl⟩
            have HBB := Lib.hid hbb
            refine (in_is w1 (some ⟨b2, off2, none⟩) I.toNat c2 (who.take k) z bb hbb (by obtain ⟨n1, n2, n3⟩ := HN.out; obtain ⟨n4, n5⟩ := HZ.out; simp; omega) (by have := HWL.out.1; omega) (HU1.out.take k)).mono ?_
            rintro e w2 ⟨rfl, rfl⟩
            clear hbb
            cases bb with
            | true =>
              have Hb := Lib.hid (show sumCode V who = 3 by
                obtain ⟨n4, n5⟩ := HZ.out
                have h1 : z ∈ who.take k := by simpa using HBB.out
                rw [n5] at h1
                simp [sumCode, HR.out, HI.out, not_nodup n4 h1])
              go_wp2_with fail
              go_ret2
              exact ⟨by rw [show sumVal V who = 0 by simp [sumVal, Hb.out], Hb.out]; rfl, HK.out⟩
            | false =>
              go_wp2_with fail
              go_round
              case rel =>
                obtain ⟨n1, n2, n3⟩ := HN.out
                obtain ⟨n4, n5⟩ := HZ.out
                exact ⟨k + 1, by omega, by rw [n3]; rfl, by rw [HWL.out.2], nodup_snoc n4 n1 (by rw [← n5]; simpa using HBB.out)⟩
              case measure => obtain ⟨n1, n2, n3⟩ := HN.out; obtain ⟨n4, n5⟩ := HZ.out; simp [intOf]; omega
          · have d1 : decide (I < (who.length : Int)) = false := by simp; omega
            obtain rfl : k = who.length := by omega
            rw [List.take_length] at hno hsv
            have hc0 : sumCode V who = 0 := by simp [sumCode, HR.out, HI.out, hno]
            have hv0 : sumVal V who = s := by
              rw [sumVal, if_pos hc0, hsv, sumW_sum _ (powersAt_range HR.out HI.out) (by simp [powersAt]; omega)]
            have HC := Lib.hid (And.intro hc0 hv0)
            clear hno hkl hI hlt hc0 hv0 hwl hc2 HN hsv
            go_wp2_with fail
            go_ret2
            exact ⟨by rw [HC.out.1, HC.out.2]; rfl, HK.out⟩

theorem right_sumW {V : List Vd} (hr : rightS V = true) : sumW (powersOf V) = (powersOf V).sum :=
  sumW_sum _ (right_powers hr).2.2 (by have := (right_powers hr).1; simp [powersOf]; omega)
theorem code_right {V : List Vd} {who : List Int} (h : sumCode V who = 0) : rightS V = true := by
  cases h1 : rightS V with
  | true => rfl
  | false => simp [sumCode, h1] at h
theorem codeN_zero {k : Nat} : codeN k = 0 ↔ k = 0 := by
  match k with
  | 0 => simp [codeN]
  | 1 => simp [codeN]
  | 2 => simp [codeN]
  | k + 3 => simp [codeN]

set_option maxRecDepth 100000 in
set_option maxHeartbeats 1000000 in
theorem renough_is (w : World) (A A2 : Option Addr) (c c2 : Nat) (V : List Vd) (who : List Int) (hV : VdsAt w A V) (ok : keysOk V) (hl : V.length < 1000) (hc : V.length ≤ c) (hU : IntsAt w A2 who) (hwl : who.length ≤ 100) (hc2 : who.length ≤ c2) :
    Calls Tryd.prog 13 #[.slice A V.length c, .slice A2 who.length c2] w fun e w' => e = .returned (.bool (enoughS V who)) ∧ w.grownBy w' none := by
  have hb := sumVal_bound (V := V) hwl
  have HV := Lib.hid (And.intro hV (And.intro ok (And.intro hl hc)))
  have HS := Lib.hid (rsum_is w A A2 c c2 V who hV ok hl hc hU hwl hc2)
  clear hV ok hl hc hU hwl hc2
  go_enter Tryd.func13, Tryd.ntmps13
  go_wp2_with fail
  refine HS.out.mono ?_
  rintro e w1 ⟨rfl, hk1⟩
  have HK := Lib.hid hk1
  clear hk1 HS
  obtain ⟨s, hs⟩ : ∃ s, s = sumVal V who := ⟨_, rfl⟩
  rw [← hs] at hb ⊢
  obtain ⟨q, hq⟩ : ∃ q, q = codeN (sumCode V who) := ⟨_, rfl⟩
  rw [← hq]
  by_cases h0 : sumCode V who = 0
  · have hr := code_right h0
    have hts := right_sumW hr
    have htb := total_bound hr
    obtain ⟨t, ht⟩ : ∃ t, t = sumW (powersOf V) := ⟨_, rfl⟩
    rw [← hts, ← ht] at htb
    have q0 : (q == 0) = true := by rw [hq, h0]; rfl
    have s1 : wrap64 (3 * s) = 3 * s := w64 _ ⟨by omega, by omega⟩
    have s2 : wrap64 (2 * t) = 2 * t := w64 _ ⟨by omega, by omega⟩
    have hE : enoughS V who = decide (2 * t < 3 * s) := by
      rw [enoughS, h0, quorumS, if_pos hr, ← hts, ← ht, ← hs]
      by_cases h : 2 * t < 3 * s
      · rw [decide_eq_true h]; simp; omega
      · rw [decide_eq_false h]; simp; omega
    have HT := Lib.hid (And.intro ht (And.intro s1 (And.intro s2 hE)))
    clear hr hts htb ht hb hs hq h0 hE s1 s2
    go_wp2_with fail
    refine (rtotal_is w1 A c V (HV.out.1.grown HK.out) HV.out.2.1 HV.out.2.2.1).mono ?_
    rintro e w2 ⟨rfl, hk2⟩
    rw [← HT.out.1]
    have HK2 := Lib.hid (grown_trans HK.out hk2)
    clear hk2
    go_wp2_with fail
    go_ret
    exact ⟨by rw [HT.out.2.2.2, HT.out.2.1, HT.out.2.2.1]; rfl, HK2.out⟩
  · have q0 : (q == 0) = false := by rw [hq]; simpa using fun h => h0 (codeN_zero.1 h)
    have HE := Lib.hid (show enoughS V who = false by simp [enoughS, h0])
    clear hb hs hq h0
    go_wp2_with fail
    go_ret
    exact ⟨by rw [HE.out]; rfl, HK.out⟩

end Go.Proofs.YtlokjbjpmhfkhaaDoor
/-
  Rows of validators and of numbers that the code lays.
-/
namespace Go.Proofs.YtlokjbjpmhfkhaaDoor
open Go.RowKit

section
variable {P : Program} {w : World} {ops : Array Oper} {rest : List Oper} {o : Oper} {a : Act} {Q : Exit → Act → World → Prop}
theorem wpList_build_at (hw : Region.wanted o (yielded ops a.tmps) = true) (t : TypeId) (parts : Array (Nat × Operand)) (ho : o.op = .build t parts) (ps : Array (Nat × Value)) (hp : (parts.map fun (i, x) => (i, a.eval x)) = ps) (V : Value)
    (hr : Sem.run P (Instr.build t ps) w = .ok V w) (h : wpList P ops Q rest (a.put o.dst V) w) : wpList P ops Q (o :: rest) a w :=
  BigFrame.wpList_want hw fun _ hK => by
    unfold Oper.wp execOp
    simp only [ho, hp, Sem.run_bind, hr, Result.andThen_ok, Sem.run_pure]
    exact hK _ _ h
theorem wpList_row_at (hw : Region.wanted o (yielded ops a.tmps) = true) (t : TypeId) (len : Nat) (parts : Array (Nat × Operand)) (ho : o.op = .buildSlice t len parts) (ps : Array (Nat × Value)) (hp : (parts.map fun (i, x) => (i, a.eval x)) = ps) (V : Value) (W : World)
    (hr : Sem.run P (Instr.buildSlice t len ps) w = .ok V W) (h : wpList P ops Q rest (a.put o.dst V) W) : wpList P ops Q (o :: rest) a w :=
  BigFrame.wpList_want hw fun _ hK => by
    unfold Oper.wp execOp
    simp only [ho, hp, Sem.run_bind, hr, Result.andThen_ok, Sem.run_pure]
    exact hK _ _ h
end

theorem flat_get : ∀ {V : List Vd} (_ : keysOk V) {k : Nat} (hk : k < V.length) {j : Nat} {v : Value}, V[k].cells[j]? = some v → (V.flatMap Vd.cells)[k * 17 + j]? = some v
  | x :: V, ok, 0, _, j, v, h => by
    have h' : x.cells[j]? = some v := h
    rw [List.flatMap_cons, List.getElem?_append_left (by have := (List.getElem?_eq_some_iff.1 h').1; omega)]
    simpa using h'
  | x :: V, ok, k + 1, hk, j, v, h => by
    have hx := Vd.cells_length (ok x (by simp))
    rw [List.flatMap_cons, List.getElem?_append_right (by omega), hx, show (k + 1) * 17 + j - 17 = k * 17 + j by omega]
    exact flat_get (fun y hy => ok y (by simp [hy])) (by simpa using hk) h
theorem vds_new (w : World) (V : List Vd) (ok : keysOk V) (t : TypeId) : VdsAt (w.alloc (.cells (V.flatMap Vd.cells).toArray t)) (some ⟨w.heap.size, 0, none⟩) V := fun _ =>
  ⟨w.heap.size, 0, rfl, fun k hk j v hv => by
    rw [Nat.zero_add, (Blk.new w t _).cell]; simpa using flat_get ok hk hv⟩
theorem ints_new (w : World) (l : List Int) (t : TypeId) : IntsAt (w.alloc (.cells (l.map (Value.int .i64)).toArray t)) (some ⟨w.heap.size, 0, none⟩) l := fun _ =>
  ⟨_, rfl, fun j hj => by
    have h := (Blk.new w t (l.map (Value.int .i64)).toArray).cell (i := 0 + j)
    rw [Go.WideShapes.add_plain, h]
    simp [List.getElem?_eq_getElem hj]⟩

def key4 (n : Int) : List Int := n :: List.replicate 15 0
def v4 : List Vd := [⟨key4 1, 1⟩, ⟨key4 2, 1⟩, ⟨key4 3, 1⟩, ⟨key4 4, 1⟩]
theorem v4_ok : keysOk v4 := by intro x hx; simp [v4] at hx; rcases hx with rfl | rfl | rfl | rfl <;> rfl
theorem v4_right : rightS v4 = true := by kernel_rfl
theorem v4_q : quorumS v4 = 3 := by kernel_rfl
theorem v4_t : totalS v4 = 4 := by kernel_rfl
theorem v4_e1 : enoughS v4 [0, 2, 3] = true := by kernel_rfl
theorem v4_e2 : enoughS v4 [0, 1] = false := by kernel_rfl

theorem key_run (w : World) (n : Int) : Sem.run Tryd.prog (Instr.build 32 #[(0, .int .u8 n)]) w = .ok (.agg (arrV .u8 (key4 n))) w := by kernel_rfl
theorem vd_run (w : World) (n p : Int) : Sem.run Tryd.prog (Instr.build 62 #[(0, .agg (arrV .u8 (key4 n))), (1, .int .i64 p)]) w = .ok (.agg (Vd.cells ⟨key4 n, p⟩).toArray) w := by kernel_rfl
theorem row4_run (w : World) : Sem.run Tryd.prog (Instr.buildSlice 22 4 #[(0, .agg (Vd.cells ⟨key4 1, 1⟩).toArray), (1, .agg (Vd.cells ⟨key4 2, 1⟩).toArray), (2, .agg (Vd.cells ⟨key4 3, 1⟩).toArray), (3, .agg (Vd.cells ⟨key4 4, 1⟩).toArray)]) w
    = .ok (.slice (some ⟨w.heap.size, 0, none⟩) 4 4) (w.alloc (.cells (v4.flatMap Vd.cells).toArray 62)) := by kernel_rfl
theorem who3_run (w : World) : Sem.run Tryd.prog (Instr.buildSlice 48 3 #[(0, .int .i64 0), (1, .int .i64 2), (2, .int .i64 3)]) w
    = .ok (.slice (some ⟨w.heap.size, 0, none⟩) 3 3) (w.alloc (.cells (([0, 2, 3] : List Int).map (Value.int .i64)).toArray 3)) := by kernel_rfl
theorem who2_run (w : World) : Sem.run Tryd.prog (Instr.buildSlice 48 2 #[(0, .int .i64 0), (1, .int .i64 1)]) w
    = .ok (.slice (some ⟨w.heap.size, 0, none⟩) 2 2) (w.alloc (.cells (([0, 1] : List Int).map (Value.int .i64)).toArray 3)) := by kernel_rfl

end Go.Proofs.YtlokjbjpmhfkhaaDoor
