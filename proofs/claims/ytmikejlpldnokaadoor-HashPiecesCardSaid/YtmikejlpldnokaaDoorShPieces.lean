/-
  HashPieces, walked.
-/
import Derived.Test.YtmikejlpldnokaaDoorRfOf
import Derived.Test.YtmikejlpldnokaaDoorShAlive
import Derived.Test.YtmikejlpldnokaaDoorShSums
import Derived.Test.YtmikejlpldnokaaDoorShConv
import Derived.Test.YtmikejlpldnokaaDoorArgL
namespace Go.Proofs.YtmikejlpldnokaaDoor
open Go.RowKit

theorem flat_succ (ps : List (List UInt8)) (k : Nat) (h : k < ps.length) : (ps.take (k + 1)).flatten = (ps.take k).flatten ++ ps.getD k [] := by
  rw [take_push' ps k [] h]; simp
theorem flat_le : ∀ (ps : List (List UInt8)), (∀ p ∈ ps, p.length ≤ 200) → ps.flatten.length ≤ ps.length * 200
  | [], _ => by simp
  | p :: ps, h => by
    have ih := flat_le ps (fun q hq => h q (by simp [hq]))
    have h1 := h p (by simp)
    simp only [List.flatten_cons, List.length_append, List.length_cons, Nat.succ_mul]
    omega
set_option maxRecDepth 100000 in
set_option maxHeartbeats 4000000 in
theorem pieces_any (w : World) (hR : Rounds w) (A : Option Addr) (n c : Nat) (ps : List (List UInt8)) (hn : ps.length = n) (hP : ListsAt w A ps) :
    Calls Tryd.prog 5 #[.slice A n c] w fun e w' => e = .returned (.bool true) ∧ w.grownBy w' none := by
  have HX := Lib.hid (And.intro hn hP)
  have HR := Lib.hid hR
  clear hn hP hR
  go_enter Tryd.func5, Tryd.ntmps5
  go_wp2_with fail
  refine (alive_is w HR.out).mono ?_
  rintro e w1 ⟨rfl, hk1⟩
  have HK1 := Lib.hid hk1
  clear hk1
  by_cases hbig : 20 < n
  · have d1 : decide (20 < (n : Int)) = true := by simp; omega
    go_wp2_with fail
    go_ret
    exact ⟨rfl, HK1.out⟩
  · have d1 : decide (20 < (n : Int)) = false := by simp; omega
    have HN := Lib.hid hbig
    clear hbig
    go_wp2_with fail
    refine (new_is w1).mono ?_
    rintro e w2 ⟨gh, rfl, hH2, hg2, hk2⟩
    have HM := Lib.hid (And.intro (show w.heap.size ≤ gh from Nat.le_trans HK1.out.size hg2) HR.out.lt)
    have HH2 := Lib.hid hH2
    have HK2 := Lib.hid (grown_trans HK1.out hk2)
    clear hH2 hg2 hk2 d1
    go_wp2_with fail
    refine (sum_is w2 gh startS HH2.out (HR.out.grown HK2.out (by simp)) (by show 0 ≤ _; omega)).mono ?_
    rintro e w3 ⟨rfl, hk3⟩
    obtain ⟨ds, hds⟩ : ∃ ds, ds = arrV .u8 (hashS []) := ⟨_, rfl⟩
    rw [show arrV .u8 (digS startS) = ds from hds.symm]
    have HDS := Lib.hid hds
    have HH3 := Lib.hid (HH2.out.grown hk3 (by simp))
    have HK3 := Lib.hid (grown_trans HK2.out hk3)
    clear hds hk3
    go_wp2_with fail
    refine (rsum_v w3 ⟨#[]⟩ (by show 0 ≤ _; omega) (.agg ds) (by rw [HDS.out]; rfl)).mono ?_
    rintro e w4 ⟨rfl, hk4⟩
    have HH4 := Lib.hid (HH3.out.grown hk4 (by simp))
    have HK4 := Lib.hid (grown_trans HK3.out hk4)
    clear hk4
    have heq : ∀ w, Sem.run Tryd.prog (Op.equalIn 10000 25 (.agg ds) (.agg ds)) w = .ok true w := fun w => by rw [HDS.out]; exact eqS w _ (hashS_length _)
    go_wp2_with fail
    clear heq
    go_loopw [4, 25] (fun s i wr => ∃ (k : Nat) (S : ByteArray), k ≤ n ∧ i = .int .i64 (k : Int) ∧ s = .string S ∧ S.data.toList = (ps.take k).flatten ∧ (∀ p ∈ ps.take k, p.length ≤ 200) ∧ HashIs wr gh (writeS startS (xsOf S)) ∧ w.grownBy wr none) (fun _ i _ => n - (intOf i).toNat)
    case atStart => exact ⟨0, ⟨#[]⟩, by omega, rfl, rfl, rfl, by simp, HH4.out, HK4.out⟩
    case round =>
      obtain ⟨k, S, hk, hi, hs, hS, hlen, hH, hK⟩ := hrel
      obtain ⟨I, hI⟩ : ∃ I : Int, I = (k : Int) := ⟨_, rfl⟩
      rw [← hI] at hi
      subst hi hs
      by_cases hlt : k < n
      · have d2 : decide (I < (n : Int)) = true := by simp; omega
        obtain ⟨ad, B, cp, rfl, hcell, hmc, hpb⟩ := HX.out.2.get k (by rw [HX.out.1]; exact hlt)
        obtain ⟨p, hp⟩ : ∃ p, p = ps.getD k [] := ⟨_, rfl⟩
        rw [← hp] at hcell hmc hpb
        have hkI : I.toNat = k := by omega
        have hcy : wr.cell? (ad.add I.toNat) = some (.slice B p.length cp) := by rw [hkI]; exact hK.cell hcell (by simp)
        have hx0 : 0 ≤ I ∧ I < (n : Int) := by omega
        have hnx : ps.take (k + 1) = ps.take k ++ [p] := by rw [hp]; exact take_push' ps k [] (by rw [HX.out.1]; exact hlt)
        have hfl : (ps.take (k + 1)).flatten = S.data.toList ++ p := by rw [hp, hS]; exact flat_succ ps k (by rw [HX.out.1]; exact hlt)
        have hSz : S.size ≤ 4000 := by
          have h1 := flat_le (ps.take k) hlen
          rw [← hS, List.length_take, HX.out.1] at h1
          have h2 : S.data.toList.length = S.size := rfl
          have := HN.out
          omega
        have HI := Lib.hid (And.intro hI (And.intro hlt (And.intro hnx (And.intro hlen (And.intro hfl hSz)))))
        have HP := Lib.hid (show BytesAt w B p from hpb)
        have HH := Lib.hid hH
        have HK := Lib.hid hK
        clear hI hlt hcell hmc hpb hp hkI hnx hlen hfl hSz hS hH hK hk
        by_cases hlong : 200 < p.length
        · have d3 : decide (200 < (p.length : Int)) = true := by simp; omega
          go_wp2_with fail
          go_ret
          exact ⟨rfl, HK.out⟩
        · have d3 : decide (200 < (p.length : Int)) = false := by simp; omega
          have HL := Lib.hid hlong
          clear hlong
          go_wp2_with fail
          obtain ⟨m, hm⟩ : ∃ m, m = p.length := ⟨_, rfl⟩
          rw [← hm] at d3 ⊢
          have HMM := Lib.hid hm
          clear hm
          refine (nbytes_is wr B m cp p (HP.out.grown HK.out (by simp)) HMM.out.symm (by have := HL.out; have := HMM.out; omega)).mono ?_
          rintro e w5 ⟨g, cap, rfl, hg5, hM5, hk5⟩
          have HM5 := Lib.hid (And.intro hM5 (show gh < g from Nat.lt_of_lt_of_le HH.out.1.lt hg5))
          have HH5 := Lib.hid (HH.out.grown hk5 (by simp))
          have HK5 := Lib.hid (grown_trans HK.out hk5)
          have HC5 := Lib.hid (show m ≤ cap by have := hM5.cap_le; have := HMM.out; omega)
          have HG5 := Lib.hid (show w.heap.size ≤ g from Nat.le_trans HK.out.size hg5)
          clear hg5 hM5 hk5 HH HK
          go_wp2_with fail
          refine (write_is w5 gh _ HH5.out (by have := HM.out; omega) (HR.out.grown HK5.out (by simp)) (some ⟨g, 0, none⟩) m cap (intsB p) (by rw [intsB_length]; exact HMM.out.symm) (BytesI.of HM5.out.1.bytes) (fun ad e _ => by obtain rfl := Option.some.inj e; have := HM5.out.2; dsimp only; omega) HC5.out (by rw [writeS_n, xsOf_length]; have := HI.out.2.2.2.2.2; have := HL.out; have := HMM.out; show 0 + _ + _ ≤ _; omega)).mono ?_
          rintro e w6 ⟨rfl, hH6, hk6⟩
          have HH6 := Lib.hid hH6
          have HM6 := Lib.hid (HM5.out.1.grown hk6 (by intro e; have := Option.some.inj e; have := HM5.out.2; omega))
          have HK6 := Lib.hid (grown_off HK5.out hk6 HM.out.1)
          clear hH6 hk6 HH5 HK5
          obtain ⟨s', hs'⟩ : ∃ s', s' = writeS (writeS startS (xsOf S)) (intsB p) := ⟨_, rfl⟩
          rw [← hs'] at HH6
          have HS' := Lib.hid hs'
          clear hs'
          go_wp2_with fail
          go_loopw [39] (fun i wr => ∃ k : Nat, k ≤ m ∧ i = .int .i64 (k : Int) ∧ (∃ cs, Blk wr g 5 cs ∧ cs.size = cap) ∧ HashIs wr gh s' ∧ w.grownBy wr none) (fun i _ => m - (intOf i).toNat)
          case atStart => exact ⟨0, by omega, rfl, by obtain ⟨cs, h1, h2, _⟩ := HM6.out; exact ⟨cs, h1, h2⟩, HH6.out, HK6.out⟩
          case round =>
            obtain ⟨k2, hk2, hi2, hB2, hH2, hK2⟩ := hrel
            obtain ⟨J, hJ⟩ : ∃ J : Int, J = (k2 : Int) := ⟨_, rfl⟩
            rw [← hJ] at hi2
            subst hi2
            by_cases hlt2 : k2 < m
            · have d4 : decide (J < (m : Int)) = true := by simp; omega
              have hx4 : 0 ≤ J ∧ J < (m : Int) := by omega
              obtain ⟨cs, hb, hz⟩ := hB2
              obtain ⟨old, hold⟩ : ∃ v, cs[J.toNat]? = some v := ⟨_, Array.getElem?_eq_getElem (show J.toNat < cs.size by have := HC5.out; omega)⟩
              have c4 : wr.cell? ⟨g, J.toNat, none⟩ = some old := by rw [hb.cell]; exact hold
              have f4 := hb.frozen J.toNat
              have HJ := Lib.hid (And.intro hJ (And.intro hlt2 (And.intro hb (And.intro hz (And.intro hH2 hK2)))))
              clear hJ hlt2 hb hz hold hH2 hK2 hk2
              go_wp2_with fail
              go_roundw
              case rel =>
                obtain ⟨hJ, hlt2, hb, hz, hH2, hK2⟩ := HJ.out
                have := HL.out
                have := HMM.out
                refine ⟨k2 + 1, by omega, by rw [hJ, w64 _ ⟨by omega, by omega⟩]; rfl, ⟨_, hb.set J.toNat _, by rw [Array.size_setIfInBounds]; exact hz⟩, ⟨hH2.1.far (p := ⟨g, J.toNat, none⟩) (by have := HM5.out.2; dsimp only; omega) _, hH2.2⟩, grown_far hK2 (p := ⟨g, J.toNat, none⟩) (.inl HG5.out) _⟩
              case measure => obtain ⟨hJ, hlt2, _⟩ := HJ.out; have := HL.out; have := HMM.out; simp only [intOf]; rw [w64 _ ⟨by omega, by omega⟩]; omega
            · have d4 : decide (J < (m : Int)) = false := by simp; omega
              have HH7 := Lib.hid hH2
              have HK7 := Lib.hid hK2
              clear hJ hlt2 hB2 hH2 hK2 hk2
              have hcv := BytesAt.str (show BytesAt wr B p from HP.out.grown HK7.out (by simp)) cp m HMM.out.symm
              obtain ⟨T, hT⟩ : ∃ T, T = S ++ ⟨p.toArray⟩ := ⟨_, rfl⟩
              have c1 : ∀ w, (Op.stringOp .add S ⟨p.toArray⟩).run Tryd.prog w = .ok (.string T) w := fun w => by
                rw [hT]; exact cat_run w S _ (by have := HI.out.2.2.2.2.2; omega) (by have := HL.out; show p.toArray.size ≤ _; simp; omega)
              have hTl : T.data.toList = S.data.toList ++ p := by rw [hT, ByteArray.data_append]; simp
              have hTx : writeS startS (xsOf T) = s' := by rw [HS'.out, xsOf_ints, hTl, ← writeS_append]; simp [intsB, xsOf_ints]
              have hTs : T.size ≤ 5000 := by
                have h2 : T.data.toList.length = T.size := rfl
                rw [hTl, List.length_append] at h2
                have h3 : S.data.toList.length = S.size := rfl
                have := HI.out.2.2.2.2.2
                have := HL.out
                omega
              have HT := Lib.hid (And.intro hTl (And.intro hTx hTs))
              clear hT hTl hTx hTs
              go_wp2_with fail
              clear hcv c1
              refine (sum_is wr gh s' HH7.out (HR.out.grown HK7.out (by simp)) (by rw [← HT.out.2.1, writeS_n, xsOf_length]; have := HT.out.2.2; show 0 + _ ≤ _; omega)).mono ?_
              rintro e w8 ⟨rfl, hk8⟩
              obtain ⟨ds, hds⟩ : ∃ ds, ds = arrV .u8 (hashS (xsOf T)) := ⟨_, rfl⟩
              rw [show arrV .u8 (digS s') = ds by rw [hds, hashS, HT.out.2.1]]
              have HDS := Lib.hid hds
              have HH8 := Lib.hid (HH7.out.grown hk8 (by simp))
              have HK8 := Lib.hid (grown_trans HK7.out hk8)
              clear hds hk8
              go_wp2_with fail
              refine (rsum_v w8 T (by have := HT.out.2.2; omega) (.agg ds) (by rw [HDS.out])).mono ?_
              rintro e w9 ⟨rfl, hk9⟩
              have HH9 := Lib.hid (HH8.out.grown hk9 (by simp))
              have HK9 := Lib.hid (grown_trans HK8.out hk9)
              clear hk9
              have heq : ∀ w, Sem.run Tryd.prog (Op.equalIn 10000 25 (.agg ds) (.agg ds)) w = .ok true w := fun w => by rw [HDS.out]; exact eqS w _ (hashS_length _)
              go_wp2_with fail
              refine (sum_is w9 gh s' HH9.out (HR.out.grown HK9.out (by simp)) (by rw [← HT.out.2.1, writeS_n, xsOf_length]; have := HT.out.2.2; show 0 + _ ≤ _; omega)).mono ?_
              rintro e w10 ⟨rfl, hk10⟩
              rw [show arrV .u8 (digS s') = ds by rw [HDS.out, hashS, HT.out.2.1]]
              have HH10 := Lib.hid (HH9.out.grown hk10 (by simp))
              have HK10 := Lib.hid (grown_trans HK9.out hk10)
              clear hk10
              obtain ⟨cc, w11, hcv, hcc, hcb, hk11, hlt11⟩ := conv_is w10 T
              have hcv := hcv w10 rfl
              have HH11 := Lib.hid (HH10.out.grown hk11 (by simp))
              have HK11 := Lib.hid (grown_trans HK10.out hk11)
              have HCB := Lib.hid (And.intro hcc (And.intro hcb hlt11))
              clear hcc hcb hk11 hlt11
              go_wp2_with fail
              clear hcv
              refine (sumf_is w11 (HR.out.grown HK11.out (by simp)) (some ⟨w10.heap.size, 0, none⟩) T.size cc (intsB T.data.toList) (by rw [intsB_length]; rfl) HCB.out.2.1 (fun ad e _ => by obtain rfl := Option.some.inj e; exact HCB.out.2.2) HCB.out.1 (by have := HT.out.2.2; omega)).mono ?_
              rintro e w12 ⟨rfl, hk12⟩
              rw [show arrV .u8 (hashS (intsB T.data.toList)) = ds by rw [HDS.out]; rfl]
              have HH12 := Lib.hid (HH11.out.grown hk12 (by simp))
              have HK12 := Lib.hid (grown_trans HK11.out hk12)
              clear hk12
              go_wp2_with fail
              clear heq
              go_roundw
              case rel =>
                obtain ⟨hI, hlt, hnx, hlen, hfl, _⟩ := HI.out
                have := HN.out
                refine ⟨k + 1, T, by omega, by rw [hI, w64 _ ⟨by omega, by omega⟩]; rfl, rfl, by rw [hfl]; exact HT.out.1, ?_, by rw [HT.out.2.1]; exact HH12.out, HK12.out⟩
                rw [hnx]
                intro q hq
                rcases List.mem_append.1 hq with h | h
                · exact hlen q h
                · rw [List.mem_singleton.1 h]; have := HL.out; omega
              case measure => obtain ⟨hI, hlt, _⟩ := HI.out; have := HN.out; simp only [intOf]; rw [w64 _ ⟨by omega, by omega⟩]; omega
      · have d2 : decide (I < (n : Int)) = false := by simp; omega
        have HK := Lib.hid hK
        clear hI hlt hk hS hlen hH hK
        go_wp2_with fail
        go_ret
        exact ⟨rfl, HK.out⟩
end Go.Proofs.YtmikejlpldnokaaDoor
