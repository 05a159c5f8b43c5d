/- EpN, CdBig, CdBigT, CdMi, CdBig2 -/
import Derived.Test.YtigafnbofmiknaaGreatDoorW20F
import Derived.Test.YtigafnbofmiknaaGreatDoorW20p
import Derived.Test.YtigafnbofmiknaaGreatDoorW20E
import Derived.Deep.DeepCutAuto
import Derived.Test.YtigafnbofmiknaaGreatDoorW20y
import Derived.Test.YtigafnbofmiknaaGreatDoorW20A
import Derived.Test.YtigafnbofmiknaaGreatDoorW20z
namespace Go.Proofs.YtigafnbofmiknaaGreatDoor
set_option maxRecDepth 100000
set_option maxHeartbeats 10000000
open Go.RowKit
section
theorem num_evN (w : World) (B : Nat) (E : Nat -> Addr) (he : ErrEnv w B E) (k : Nat) (hk : k <= 18) : Calls Tryz.prog 7 #[evOf E k] w fun en w' => en = .returned (.int .i64 (k : Int)) /\ w.grownBy w' none := by
 rcases k with _ | k
 · refine (num_nil w).mono ?_
   rintro e w' ⟨rfl, rfl⟩
   exact ⟨rfl, World.grownBy.refl _ _⟩
 · refine (num_err w B E k (by omega) he).mono ?_
   rintro e w' ⟨rfl, g⟩
   exact ⟨rfl, g⟩
end
section
attribute [local go_sem] Oper.semAt_some
def bigN (n1 n2 : Nat) : Bool := decide (100 < (n1 : Int)) || decide (20 < (n2 : Int))
def bigSg (s : Sg) : Bool := bigN s.n1 s.n2
def bigQc (q : Qc) : Bool := decide (12 < q.L.length) || q.L.any bigSg
def bigBk (b : Bk) : Bool := decide (12 < b.T.length) || (decide (12 < b.V.length) || (b.T.any (fun t => decide (100 < t.l.length)) || bigQc b.q))
theorem Qc.cell18 {w : World} {g : Nat} {t : TypeId} {q : Qc} (h : q.Bl.length = 16) (hb : Blk w g t q.val) : w.cell? ⟨g, 18, none⟩ = some (.slice q.A q.L.length q.c) := by
 have r := zd hb
 have := r 18 (.slice q.A q.L.length q.c) (by simp [Qc.val, arrV, h])
 rwa [Nat.zero_add] at this
theorem sz_QCb : (Tryz.prog.info? 29).map (·.size) = some 19 := by kernel_rfl
theorem rbigV_is (w : World) (lf : Int) (A1 A2 : Option Addr) (n1 c1 n2 c2 : Nat) : Calls Tryz.prog 32 #[.agg (sigV lf (.slice A1 n1 c1) (.slice A2 n2 c2))] w fun e w' => e = .returned (.bool (bigN n1 n2)) /\ w.grownBy w' none := by
 obtain ⟨r, hr⟩ : ∃ r, r = bigN n1 n2 := ⟨_, rfl⟩
 rw [<- hr]
 simp only [sigV]
 by_cases h1 : 100 < (n1 : Int)
 · have d1 : decide (100 < (n1 : Int)) = true := by simp; omega
   have HR := hQ_ (show r = true by rw [hr, bigN, d1]; rfl)
   clear hr h1
   go_enter Tryz.func32, Tryz.ntmps32
   go_wp2_with fail
   go_ret
   exact ⟨by rw [HR.out]; rfl, gQ⟩
 · have d1 : decide (100 < (n1 : Int)) = false := by simp; omega
   obtain ⟨b, hb⟩ : ∃ b, b = decide (20 < (n2 : Int)) := ⟨_, rfl⟩
   have HR := hQ_ (show r = b by rw [hr, bigN, d1, <- hb]; rfl)
   have d2 := hb.symm
   clear hr h1 hb
   cases b
   all_goals
    go_enter Tryz.func32, Tryz.ntmps32
    go_wp2_with fail
    go_ret
    exact ⟨by rw [HR.out]; rfl, gQ⟩
theorem rbigSg_is (w : World) (s : Sg) : Calls Tryz.prog 32 #[.agg s.sig] w fun e w' => e = .returned (.bool (bigSg s)) /\ w.grownBy w' none := rbigV_is w _ _ _ _ _ _ _
theorem rbigQ_is (w : World) (q0 : Qc) (hq0 : q0.At w) (qv : Array Value) (hqv : qv = q0.val) :
    Calls Tryz.prog 17 #[.agg qv] w fun e' w' => e' = .returned (.bool (bigQc q0)) /\ w.grownBy w' none := by
 obtain ⟨q, hq⟩ : ∃ q, w.heap.size = q := ⟨_, rfl⟩
 obtain ⟨w1, hw1⟩ : ∃ w1, w.alloc (.cells qv 29) = w1 := ⟨_, rfl⟩
 have g1 : w.grownBy w1 none := by rw [<- hw1]; exact gQ
 have b1 : Blk w1 q 29 q0.val := by rw [<- hw1, <- hq, <- hqv]; exact Blk.new _ _ _
 have x3 := Qc.cell18 hq0.1.1 b1
 have hA := hq0.2.1
 obtain ⟨e, r, Bl, A2, c2, L⟩ := q0
 simp only at x3 hA
 obtain ⟨sZ, hsZ, hz4⟩ : ∃ Z : Array Value, Z.size = 4 /\ ∀ w : World, Sem.run Tryz.prog (zeroValue 89) w = .ok (.agg Z) w := ⟨zv_Sg, rfl, zz_Sg⟩
 have HSZ := hQ_ hsZ
 clear hsZ
 obtain ⟨n, hn⟩ : ∃ n, L.length = n := ⟨_, rfl⟩
 rw [hn] at x3
 obtain ⟨R, hR⟩ : ∃ R, R = bigQc ⟨e, r, Bl, A2, c2, L⟩ := ⟨_, rfl⟩
 rw [<- hR]
 have HW := hQ_ (aQ hw1 hq)
 have HX := hQ_ (aQ g1 (aQ (hA.grown g1) (aQ hn hR)))
 clear g1 b1 hA hn hR hqv hw1 hq hq0
 by_cases h12 : 12 < (n : Int)
 · have d1 : decide (12 < (n : Int)) = true := by simp; omega
   have HN := hQ_ (show R = true by rw [HX.out.2.2.2, bigQc, decide_eq_true (show 12 < L.length by have := HX.out.2.2.1; omega)]; rfl)
   clear h12
   go_enter Tryz.func17, Tryz.ntmps17
   go_upto_region 1 with (fail)
   rw [HW.out.1, HW.out.2]
   go_wp2_with fail
   go_ret
   exact ⟨by rw [HN.out]; rfl, HX.out.1⟩
 · have d1 : decide (12 < (n : Int)) = false := by simp; omega
   have hn12 : n <= 12 := by omega
   have HD := hQ_ (show R = L.any bigSg by rw [HX.out.2.2.2, bigQc, decide_eq_false (show ¬ 12 < L.length by have := HX.out.2.2.1; omega)]; rfl)
   clear h12
   go_enter Tryz.func17, Tryz.ntmps17
   go_upto_region 1 with (fail)
   rw [HW.out.1, HW.out.2]
   go_wp2_with fail
   clear x3
   go_loopw [12] (fun i wr => ∃ k : Nat, k <= n /\ i = .int .i64 (k : Int) /\ Hid (∀ s ∈ L.take k, bigSg s = false) /\ w1.grownBy wr none) (fun i _ => n - (intOf i).toNat)
   case atStart => exact ⟨0, Nat.zero_le _, rfl, hQ_ (by simp), World.grownBy.refl w1 none⟩
   case round =>
    obtain ⟨k, hk, hi, hno, hK⟩ := hrel
    obtain ⟨I, hI⟩ : ∃ I : Int, I = (k : Int) := ⟨_, rfl⟩
    rw [<- hI] at hi
    subst hi
    rename World => wr
    by_cases hlt : k < n
    · have hlt' : k < L.length := by have := HX.out.2.2.1; omega
      have hne : L ≠ [] := by rintro rfl; simp at hlt'
      obtain ⟨b, off, rfl, hc⟩ := HX.out.2.1 hne
      have d2 : decide (I < (n : Int)) = true := by simp; omega
      have hIV : I < (n : Int) := by omega
      have hI0 : 0 <= I /\ I < 1000 := by omega
      have hkI : I.toNat = k := by omega
      have r1 := ze (hc k hlt') hK
      obtain ⟨x, hxe⟩ : ∃ x, x = L[k] := ⟨_, rfl⟩
      rw [<- hxe] at r1
      rw [<- hkI] at r1
      obtain ⟨cs, hcs⟩ : ∃ cs, cs = x.cells := ⟨_, rfl⟩
      have hc4 : cs.size = 4 := by rw [hcs]; rfl
      have hc1 : (cs.all fun v => v.oneCell') = true := by rw [hcs]; exact sg_one x
      rw [<- hcs] at r1
      obtain ⟨W0, hW0⟩ : ∃ W0, W0 = (wr.alloc (.cells sZ 89)).setRow wr.heap.size cs := ⟨_, rfl⟩
      have hG0 : wr.grownBy W0 none := by rw [hW0]; exact zc (World.grownBy_alloc wr _ none) (.inl (Nat.le_refl _)) cs
      have bS : Blk W0 wr.heap.size 89 cs := by rw [hW0]; exact (Blk.new wr 89 sZ).row cs
      have rS := zd bS
      have rg : W0.rangeAt wr.heap.size 1 x.sig.toList := by
       rw [show cs.toList = [.int .i64 x.who] ++ (x.sig.toList ++ []) by rw [hcs]; simp [Sg.cells]] at rS
       have := zx rS
       rwa [Nat.zero_add] at this
      have HC := hQ_ (aQ hc4 (aQ hc1 (aQ r1 rg)))
      have HN := hQ_ (aQ hno (aQ (za hK hG0) (aQ hI (aQ hlt' (aQ hxe hlt)))))
      have HW2 := hQ_ hW0
      have HS := hQ_ (rbigSg_is W0 x)
      obtain ⟨sg, hse⟩ : ∃ sg, sg = x.sig := ⟨_, rfl⟩
      rw [<- hse] at HS
      have HSE := hQ_ hse
      clear r1 rg hxe hcs hc4 hc1 hG0 bS rS hc hne hI hkI hlt hK hW0 hno hse
      go_wp2_with (first
       | (refine wpList_load_mid rfl 89 _ rfl b (off + I.toNat * 4) rfl cs.toList _ HC.out.2.2.1 Tryz.underlying89 rfl (by rw [Array.length_toList, HC.out.1]; exact sz_Sg) ?_; rw [Array.toArray_toList])
       | (refine wpList_store_row rfl 89 _ _ rfl wr.heap.size cs rfl rfl 89 _ (heap_alloc_new wr _) (by rw [HC.out.1]; exact sz_Sg) (by rw [HC.out.1]; first | exact HSZ.out | exact HSZ.out.symm) HC.out.2.1 ?_
          rw [<- HW2.out])
       | (refine wpList_load_mid rfl 87 _ rfl wr.heap.size 1 rfl x.sig.toList _ HC.out.2.2.2 Tryz.underlying87 rfl (by exact sz_Sig) ?_; rw [Array.toArray_toList, <- HSE.out]))
      refine HS.out.mono ?_
      rintro e3 W3 ⟨rfl, g3⟩
      have HG3 := hQ_ (za HN.out.2.1 g3)
      clear g3
      obtain ⟨bb, hbb⟩ : ∃ bb, bb = bigSg x := ⟨_, rfl⟩
      rw [<- hbb]
      have HBB := hQ_ hbb
      clear hbb
      cases bb
      · go_wp2_with fail
        go_roundw
        case rel =>
         obtain ⟨n1, n2, n3, n4, n5, n6⟩ := HN.out
         refine ⟨k + 1, by omega, by rw [n3]; rfl, hQ_ (fun s hs => ?_), HG3.out⟩
         rw [<- List.take_append_getElem n4, List.mem_append] at hs
         rcases hs with hs | hs
         · exact n1.out s hs
         · simp at hs; rw [hs, <- n5]; exact HBB.out.symm
        case measure => obtain ⟨n1, n2, n3, n4, n5, n6⟩ := HN.out; simp [intOf]; omega
      · have HRR := hQ_ (show R = true by
          obtain ⟨n1, n2, n3, n4, n5, n6⟩ := HN.out
          rw [HD.out, List.any_eq_true]
          exact ⟨x, by rw [n5]; exact List.getElem_mem n4, HBB.out.symm⟩)
        go_wp2_with fail
        go_ret
        exact ⟨by rw [HRR.out]; rfl, za HX.out.1 HG3.out⟩
    · have d2 : decide (I < (n : Int)) = false := by simp; omega
      obtain rfl : k = n := by omega
      have HK := hQ_ (aQ hK (show R = false by
       rw [HD.out, List.any_eq_false]
       intro s hs
       have := hno.out s (by rw [<- HX.out.2.2.1, List.take_length]; exact hs)
       simp [this]))
      clear hK hno hI hlt hk
      go_wp2_with fail
      go_ret
      exact ⟨by rw [HK.out.2]; rfl, za HX.out.1 HK.out.1⟩
theorem rbigB_is (w : World) (b : Bk) (hb : b.At w) (cs : Array Value) (hcs : cs = b.val) :
    Calls Tryz.prog 16 #[.agg cs] w fun e' w' => e' = .returned (.bool (bigBk b)) /\ w.grownBy w' none := by
 obtain ⟨w1, hw1⟩ : ∃ w1, w.alloc (.cells cs 32) = w1 := ⟨_, rfl⟩
 have g1 : w.grownBy w1 none := by rw [<- hw1]; exact gQ
 have b1 : Blk w1 w.heap.size 32 cs := by rw [<- hw1]; exact Blk.new _ _ _
 obtain ⟨qv, hqv⟩ : ∃ z, z = b.q.val := ⟨_, rfl⟩
 have hqs : qv.size = 19 := by rw [hqv]; exact Qc.size hb.2.1
 have hcl : cs.toList = ([Value.int .i64 b.e, .int .i64 b.r] ++ (arrV .u8 b.P).toList) ++ (qv.toList ++ [.slice b.A b.T.length b.c, .slice b.A2 b.V.length b.c2]) := by rw [hcs, hqv]; simp [Bk.val]
 have hl18 : ([Value.int .i64 b.e, .int .i64 b.r] ++ (arrV .u8 b.P).toList).length = 18 := by simp [hb.1.1]
 have HK := hQ_ (fun (V : World) (hV : w1.grownBy V none) => (show V.cell? ⟨w.heap.size, 37, none⟩ = some (.slice b.A b.T.length b.c) /\ V.cell? ⟨w.heap.size, 38, none⟩ = some (.slice b.A2 b.V.length b.c2) /\ V.rangeAt w.heap.size 18 qv.toList from by
  have r := zd (b1.grown hV (by simp))
  rw [hcl] at r
  refine ⟨?_, ?_, ?_⟩
  · have := r 37 (.slice b.A b.T.length b.c) (by rw [List.getElem?_append_right (by rw [hl18]; omega), hl18, List.getElem?_append_right (by simp [hqs])]; simp [hqs]); simpa using this
  · have := r 38 (.slice b.A2 b.V.length b.c2) (by rw [List.getElem?_append_right (by rw [hl18]; omega), hl18, List.getElem?_append_right (by simp [hqs])]; simp [hqs]); simpa using this
  · have := zx r; rw [hl18] at this; simpa using this))
 obtain ⟨n, hn⟩ : ∃ n, b.T.length = n := ⟨_, rfl⟩
 obtain ⟨m, hm⟩ : ∃ m, b.V.length = m := ⟨_, rfl⟩
 obtain ⟨R, hR⟩ : ∃ R, R = bigBk b := ⟨_, rfl⟩
 rw [hn, hm] at HK
 rw [<- hR]
 obtain ⟨k1, k2, _⟩ := HK.out w1 (World.grownBy.refl _ _)
 have HW := hQ_ hw1
 have HX := hQ_ (aQ g1 (aQ (hb.2.2.1.1.grown g1) (aQ hn (aQ hR (aQ hqs (aQ hqv (hb.2.1)))))))
 clear g1 b1 hcl hl18 hqs hqv hn hR hw1 hcs
 by_cases h12 : 12 < (n : Int)
 · have d1 : decide (12 < (n : Int)) = true := by simp; omega
   have HN := hQ_ (show R = true by rw [HX.out.2.2.2.1, bigBk, decide_eq_true (by have := HX.out.2.2.1; omega)]; rfl)
   clear h12 hb hm
   go_enter Tryz.func16, Tryz.ntmps16
   go_upto_region 1 with (fail)
   rw [HW.out]
   go_wp2_with fail
   go_ret
   exact ⟨by rw [HN.out]; rfl, HX.out.1⟩
 · have d1 : decide (12 < (n : Int)) = false := by simp; omega
   have h12' : ¬ 12 < b.T.length := by have := HX.out.2.2.1; omega
   by_cases h13 : 12 < (m : Int)
   · have d2 : decide (12 < (m : Int)) = true := by simp; omega
     have HN := hQ_ (show R = true by rw [HX.out.2.2.2.1, bigBk, decide_eq_false h12', decide_eq_true (by omega)]; rfl)
     clear h12 h13 hb hm h12'
     go_enter Tryz.func16, Tryz.ntmps16
     go_upto_region 1 with (fail)
     rw [HW.out]
     go_wp2_with fail
     go_ret
     exact ⟨by rw [HN.out]; rfl, HX.out.1⟩
   · have d2 : decide (12 < (m : Int)) = false := by simp; omega
     have hn12 : n <= 12 := by omega
     have HD := hQ_ (show R = (b.T.any (fun t => decide (100 < t.l.length)) || bigQc b.q) by rw [HX.out.2.2.2.1, bigBk, decide_eq_false h12', decide_eq_false (by omega)]; rfl)
     clear h12 h13 hb hm h12'
     go_enter Tryz.func16, Tryz.ntmps16
     go_upto_region 1 with (fail)
     rw [HW.out]
     go_wp2_with fail
     clear k1 k2
     go_loopw [18] (fun i wr => ∃ k : Nat, k <= n /\ i = .int .i64 (k : Int) /\ Hid (∀ t ∈ b.T.take k, ¬ 100 < t.l.length) /\ w1.grownBy wr none) (fun i _ => n - (intOf i).toNat)
     case atStart => exact ⟨0, Nat.zero_le _, rfl, hQ_ (by simp), World.grownBy.refl w1 none⟩
     case round =>
      obtain ⟨k, hk, hi, hno, hK⟩ := hrel
      obtain ⟨I, hI⟩ : ∃ I : Int, I = (k : Int) := ⟨_, rfl⟩
      rw [<- hI] at hi
      subst hi
      rename World => wr
      by_cases hlt : k < n
      · have hlt' : k < b.T.length := by have := HX.out.2.2.1; omega
        have hne : b.T ≠ [] := by intro h; rw [h] at hlt'; simp at hlt'
        obtain ⟨bb, off, hA, hc⟩ := HX.out.2.1 hne
        have d3 : decide (I < (n : Int)) = true := by simp; omega
        have hIV : I < (n : Int) := by omega
        have hI0 : 0 <= I /\ I < 1000 := by omega
        have hkI : I.toNat = k := by omega
        have r1 := ze (hc k hlt') hK
        obtain ⟨x, hxe⟩ : ∃ x, x = b.T[k] := ⟨_, rfl⟩
        rw [<- hxe] at r1
        have c0 : wr.cell? ⟨bb, off + I.toNat, none⟩ = some (.slice x.B x.l.length x.c) := by rw [hkI]; have := r1 0 _ rfl; simpa using this
        rw [hA]
        have HN := hQ_ (aQ hno (aQ hK (aQ hI (aQ hlt' (aQ hxe hlt)))))
        obtain ⟨N, hN⟩ : ∃ N, N = x.l.length := ⟨_, rfl⟩
        rw [<- hN] at c0
        have HNN := hQ_ hN
        clear r1 hxe hc hne hI hkI hlt hK hno hA hN
        by_cases h100 : 100 < (N : Int)
        · have d4 : decide (100 < (N : Int)) = true := by simp; omega
          have HRR := hQ_ (show R = true by
           obtain ⟨n1, n2, n3, n4, n5, n6⟩ := HN.out
           rw [HD.out, Bool.or_eq_true]
           exact .inl (List.any_eq_true.2 ⟨x, by rw [n5]; exact List.getElem_mem n4, decide_eq_true (by have := HNN.out; omega)⟩))
          clear h100
          go_wp2_with fail
          go_ret
          exact ⟨by rw [HRR.out]; rfl, za HX.out.1 HN.out.2.1⟩
        · have d4 : decide (100 < (N : Int)) = false := by simp; omega
          have HNO := hQ_ h100
          clear h100
          go_wp2_with fail
          go_roundw
          case rel =>
           obtain ⟨n1, n2, n3, n4, n5, n6⟩ := HN.out
           refine ⟨k + 1, by omega, by rw [n3]; rfl, hQ_ (fun s hs => ?_), n2⟩
           rw [<- List.take_append_getElem n4, List.mem_append] at hs
           rcases hs with hs | hs
           · exact n1.out s hs
           · simp at hs; rw [hs, <- n5]; have h1 := HNO.out; have h2 := HNN.out; omega
          case measure => obtain ⟨n1, n2, n3, n4, n5, n6⟩ := HN.out; simp [intOf]; omega
      · have d3 : decide (I < (n : Int)) = false := by simp; omega
        obtain rfl : k = n := by omega
        obtain ⟨_, _, r18⟩ := HK.out wr hK
        have HRR := hQ_ (show R = bigQc b.q by
         rw [HD.out, List.any_eq_false.2 ?_, Bool.false_or]
         intro s hs
         have := hno.out s (by rw [<- HX.out.2.2.1, List.take_length]; exact hs)
         simpa using this)
        have HQ := hQ_ (rbigQ_is wr b.q (HX.out.2.2.2.2.2.2.grown (za HX.out.1 hK)) qv HX.out.2.2.2.2.2.1)
        have HR18 := hQ_ r18
        have HK2 := hQ_ hK
        clear hK hno hI hlt hk r18
        go_wp2_with (refine wpList_load_mid rfl 29 _ rfl w.heap.size 18 rfl qv.toList _ HR18.out Tryz.underlying29 rfl (by rw [Array.length_toList, HX.out.2.2.2.2.1]; exact sz_QCb) ?_; rw [Array.toArray_toList])
        refine HQ.out.mono ?_
        rintro e3 W3 ⟨rfl, g3⟩
        have HG3 := hQ_ g3
        clear g3
        go_wp2_with fail
        go_ret
        exact ⟨by rw [HRR.out]; rfl, za HX.out.1 (za HK2.out HG3.out)⟩
end
section
attribute [local go_sem] Oper.semAt_some
end
section
theorem range_head {w : World} {g o : Nat} {a b : List Value} (h : w.rangeAt g o (a ++ b)) : w.rangeAt g o a := fun j v hv => h j v (by
 have hj := (List.getElem?_eq_some_iff.1 hv).1
 rw [List.getElem?_append_left hj]; exact hv)
theorem range_tail {w : World} {g o : Nat} {a b : List Value} (h : w.rangeAt g o (a ++ b)) : w.rangeAt g (o + a.length) b := fun j v hv => by
 have := h (a.length + j) v (by rw [List.getElem?_append_right (by omega), Nat.add_sub_cancel_left]; exact hv)
 rwa [<- Nat.add_assoc] at this
theorem sz_Bk : (Tryz.prog.info? 32).map (·.size) = some 39 := by kernel_rfl
theorem index_st {P : Program} (w : World) {t e : TypeId} {m n : Nat} {fs : Array Field} (ht : P.underlying t = some (.array n e)) (he : P.underlying e = some (.struct fs)) (hs : (P.info? e).map (·.size) = some m) (cs vs : Array Value) (I : Int) (k : Nat) (hI : I = (k : Int)) (hk : k < n) (hv : (cs.toList.drop (k * m)).take m = vs.toList) :
    Sem.run P (Instr.index t (.agg cs) (.int .i64 I)) w = .ok (.agg vs) w := by
 cases hq : P.info? e with
 | none => simp [hq] at hs
 | some i =>
  have hi : i.size = m := by simpa [hq] using hs
  have hb : 0 <= I /\ I < (n : Int) := by omega
  have hn : I.toNat = k := by omega
  have hv' : cs.extract (k * m) (k * m + m) = vs := by
   apply Array.toList_inj.1
   rw [<- hv, Array.toList_extract, List.extract_eq_take_drop, Nat.add_sub_cancel_left]
  simp [Instr.index, run_underlying ht, asIntOf, hb, hn, sizeOf, typeInfo, hq, hi, part, isAgg, run_underlying he, hv']
theorem zBk_run : ∃ Z : Array Value, Z.size = 39 /\ ∀ w : World, Sem.run Tryz.prog (zeroValue 32) w = .ok (.agg Z) w :=
 ⟨(Bk.val ⟨0, 0, List.replicate 16 0, ⟨0, 0, List.replicate 16 0, none, 0, []⟩, none, 0, [], none, 0, []⟩), rfl, fun w => vu w (by kernel_rfl)⟩
theorem Bk.one (b : Bk) : (b.val.all fun v => v.oneCell') = true := by simp [Bk.val, Qc.val, arrV, Value.oneCell']
def Cg.row (x : Cg) : List Bk := [x.b1, x.b2, x.b3]
theorem sz_arr3 : (Tryz.prog.info? 33).map (·.size) = some 117 := by kernel_rfl
theorem Cg.drop {w : World} {x : Cg} (h : x.At w) (k : Nat) (hk : k < 3) (bl : Array Value) (hbl : bl = x.b1.val ++ (x.b2.val ++ x.b3.val)) : (bl.toList.drop (k * 39)).take 39 = (x.row.getD k x.b1).val.toList := by
 have h1 := Bk.size h.1
 have h2 := Bk.size h.2.1
 have h3 := Bk.size h.2.2.1
 have e1 : x.b1.val.toList.length = 39 := by rw [Array.length_toList, h1]
 have e2 : x.b2.val.toList.length = 39 := by rw [Array.length_toList, h2]
 have e3 : x.b3.val.toList.length = 39 := by rw [Array.length_toList, h3]
 rw [hbl, Array.toList_append, Array.toList_append]
 have hk3 : k = 0 \/ k = 1 \/ k = 2 := by omega
 rcases hk3 with rfl | rfl | rfl
 · show (List.drop 0 _).take 39 = x.b1.val.toList
   rw [List.drop_zero, List.take_append_of_le_length (by omega), List.take_of_length_le (by omega)]
 · show (List.drop 39 _).take 39 = x.b2.val.toList
   rw [List.drop_append_of_le_length (by omega), List.drop_of_length_le (by omega), List.nil_append, List.take_append_of_le_length (by omega), List.take_of_length_le (by omega)]
 · show (List.drop 78 _).take 39 = x.b3.val.toList
   rw [List.drop_append, List.drop_append, List.drop_of_length_le (by omega), List.drop_of_length_le (by omega), List.nil_append, List.nil_append, e1, e2, List.drop_zero, List.take_of_length_le (by omega)]
end
section
attribute [local go_sem] Oper.semAt_some
def bigCg (x : Cg) : Bool := x.row.any bigBk || bigQc x.q
theorem wpList_load_mid_w {P : Program} {ops : Array Oper} {rest : List Oper} {op : Oper} {a : Act} {w : World} {Q : Exit -> Act -> World -> Prop} (hw : Region.wanted op (yielded ops a.tmps) = true) (ty : TypeId) (x : Operand) (ho : op.op = .load ty x)
    (b o : Nat) (hx : a.eval x = .pointer (some ⟨b, o, none⟩)) (cs : List Value) (d : TypeDesc) (hc : w.rangeAt b o cs)
    (hu : P.underlying ty = some d) (hd : d.isRow = true) (hi : (P.info? ty).map (·.size) = some cs.length)
    (h : wpList P ops Q rest (a.put op.dst (.agg cs.toArray)) w) : wpList P ops Q (op :: rest) a w :=
 wpList_step fun K hK => by
  rw [if_pos hw]
  exact wp_load_mid ty x ho b o hx cs d hc hu hd hi (hK _ _ h)
theorem rbigC_is (w : World) (x : Cg) (hx : x.At w) (cs : Array Value) (hcs : cs = x.val) :
    Calls Tryz.prog 6 #[.agg cs] w fun e' w' => e' = .returned (.bool (bigCg x)) /\ w.grownBy w' none := by
 obtain ⟨ZZ, hZs, hzz⟩ := zBk_run
 have HZ := hQ_ hZs
 clear hZs
 obtain ⟨bl, hbl⟩ : ∃ z, z = x.b1.val ++ (x.b2.val ++ x.b3.val) := ⟨_, rfl⟩
 obtain ⟨qv, hqv⟩ : ∃ z, z = x.q.val := ⟨_, rfl⟩
 have sbl : bl.size = 117 := by rw [hbl]; simp [Bk.size hx.1, Bk.size hx.2.1, Bk.size hx.2.2.1]
 have sqv : qv.size = 19 := by rw [hqv]; exact Qc.size hx.2.2.2
 have hcl : cs.toList = bl.toList ++ qv.toList := by rw [hcs, hbl, hqv]; simp [Cg.val]
 have hix : ∀ k : Nat, k < 3 -> ∀ (I : Int) (V : World), I = (k : Int) -> Sem.run Tryz.prog (Instr.index 33 (.agg bl) (.int .i64 I)) V = .ok (.agg (x.row.getD k x.b1).val) V := fun k hk I V hI =>
  index_st V Tryz.underlying33 Tryz.underlying32 sz_Bk bl _ I k hI hk (Cg.drop hx k hk bl hbl)
 have hrow : ∀ k : Nat, k < 3 -> (x.row.getD k x.b1).At w /\ x.row.getD k x.b1 ∈ x.row := fun k hk => by
  have hk3 : k = 0 \/ k = 1 \/ k = 2 := by omega
  rcases hk3 with rfl | rfl | rfl
  · exact ⟨hx.1, by simp [Cg.row]⟩
  · exact ⟨hx.2.1, by simp [Cg.row]⟩
  · exact ⟨hx.2.2.1, by simp [Cg.row]⟩
 have htk : ∀ k : Nat, k < 3 -> x.row.take (k + 1) = x.row.take k ++ [x.row.getD k x.b1] := fun k hk => by
  have hk3 : k = 0 \/ k = 1 \/ k = 2 := by omega
  rcases hk3 with rfl | rfl | rfl <;> rfl
 obtain ⟨w1, hw1⟩ : ∃ w1, w.alloc (.cells cs 35) = w1 := ⟨_, rfl⟩
 have g1 : w.grownBy w1 none := by rw [<- hw1]; exact gQ
 have b1 : Blk w1 w.heap.size 35 cs := by rw [<- hw1]; exact Blk.new _ _ _
 have HB := hQ_ (fun (V : World) (hV : w1.grownBy V none) => (show V.rangeAt w.heap.size 0 bl.toList /\ V.rangeAt w.heap.size 117 qv.toList from by
  have r := zd (b1.grown hV (by simp))
  rw [hcl] at r
  exact ⟨range_head r, by have := range_tail r; simpa only [Array.length_toList, sbl, Nat.zero_add] using this⟩))
 obtain ⟨R, hR⟩ : ∃ R, R = bigCg x := ⟨_, rfl⟩
 rw [<- hR]
 have HW := hQ_ hw1
 have HX := hQ_ (aQ g1 (aQ hix (aQ hrow (aQ htk (aQ sbl (aQ sqv (aQ hqv (aQ hx hR))))))))
 clear g1 b1 hix hrow htk sbl sqv hqv hx hR hcl hcs hbl hw1
 go_enter Tryz.func6, Tryz.ntmps6
 go_upto_region 1 with (fail)
 rw [HW.out]
 go_wp2_with (refine wpList_load_mid rfl 33 _ rfl w.heap.size 0 rfl bl.toList _ (HB.out _ (World.grownBy.refl _ _)).1 Tryz.underlying33 rfl (by rw [Array.length_toList, HX.out.2.2.2.2.1]; exact sz_arr3) ?_; rw [Array.toArray_toList])
 go_loopw [7] (fun i wr => ∃ k : Nat, k <= 3 /\ i = .int .i64 (k : Int) /\ Hid (∀ t ∈ x.row.take k, bigBk t = false) /\ w1.grownBy wr none) (fun i _ => 3 - (intOf i).toNat)
 case atStart => exact ⟨0, Nat.zero_le _, rfl, hQ_ (by simp), World.grownBy.refl w1 none⟩
 case round =>
  obtain ⟨k, hk, hi, hno, hK⟩ := hrel
  obtain ⟨I, hI⟩ : ∃ I : Int, I = (k : Int) := ⟨_, rfl⟩
  rw [<- hI] at hi
  subst hi
  rename World => wr
  by_cases hlt : k < 3
  · have d2 : decide (I < (3 : Int)) = true := by simp; omega
    have hIV : I < (3 : Int) := by omega
    have hI0 : 0 <= I /\ I < 1000 := by omega
    obtain ⟨bk, hbk⟩ : ∃ bk, bk = x.row.getD k x.b1 := ⟨_, rfl⟩
    obtain ⟨cv, hcv⟩ : ∃ cv, cv = bk.val := ⟨_, rfl⟩
    have hat : bk.At w := by rw [hbk]; exact (HX.out.2.2.1 k hlt).1
    have hmem : bk ∈ x.row := by rw [hbk]; exact (HX.out.2.2.1 k hlt).2
    have hcz : cv.size = 39 := by rw [hcv]; exact Bk.size hat
    have hc1 : (cv.all fun v => v.oneCell') = true := by rw [hcv]; exact bk.one
    have hix : ∀ V : World, Sem.run Tryz.prog (Instr.index 33 (.agg bl) (.int .i64 I)) V = .ok (.agg cv) V := fun V => by rw [hcv, hbk]; exact HX.out.2.1 k hlt I V hI
    obtain ⟨W0, hW0⟩ : ∃ W0, W0 = (wr.alloc (.cells ZZ 32)).setRow wr.heap.size cv := ⟨_, rfl⟩
    have hG0 : wr.grownBy W0 none := by rw [hW0]; exact zc (World.grownBy_alloc wr _ none) (.inl (Nat.le_refl _)) cv
    have bS : Blk W0 wr.heap.size 32 cv := by rw [hW0]; exact (Blk.new wr 32 ZZ).row cv
    have HS := hQ_ (rbigB_is W0 bk (hat.grown (za HX.out.1 (za hK hG0))) cv hcv)
    have HP := hQ_ (aQ hno (aQ (za hK hG0) (aQ (show x.row.take (k + 1) = x.row.take k ++ [bk] by rw [HX.out.2.2.2.1 k hlt, <- hbk]) (aQ hI hmem))))
    have HY := hQ_ (aQ hcz (aQ hc1 (zd bS)))
    have HW0 := hQ_ hW0
    clear hno hK hcz hc1 hW0 hG0 bS hcv hbk hat hI hmem
    go_wp2_with (first
     | (refine wpList_store_row rfl 32 _ _ rfl wr.heap.size cv rfl rfl 32 _ (heap_alloc_new wr _) (by rw [HY.out.1]; exact sz_Bk) (by rw [HY.out.1]; first | exact HZ.out | exact HZ.out.symm) HY.out.2.1 ?_
        rw [<- HW0.out])
     | (refine wpList_load_mid rfl 32 _ rfl wr.heap.size 0 rfl cv.toList _ HY.out.2.2 Tryz.underlying32 rfl (by rw [Array.length_toList, HY.out.1]; exact sz_Bk) ?_; rw [Array.toArray_toList]))
    refine HS.out.mono ?_
    rintro e3 W3 ⟨rfl, g3⟩
    have HG3 := hQ_ (za HP.out.2.1 g3)
    clear g3
    obtain ⟨bb, hbb⟩ : ∃ bb, bb = bigBk bk := ⟨_, rfl⟩
    rw [<- hbb]
    have HBB := hQ_ hbb
    clear hbb
    cases bb
    · go_wp2_with fail
      go_roundw
      case rel =>
       refine ⟨k + 1, by omega, by rw [HP.out.2.2.2.1]; rfl, hQ_ (fun s hs => ?_), HG3.out⟩
       rw [HP.out.2.2.1, List.mem_append] at hs
       rcases hs with hs | hs
       · exact HP.out.1.out s hs
       · rw [List.mem_singleton.1 hs]; exact HBB.out.symm
      case measure => have := HP.out.2.2.2.1; simp [intOf]; omega
    · have HRR := hQ_ (show R = true by
        rw [HX.out.2.2.2.2.2.2.2.2, bigCg, Bool.or_eq_true]
        exact .inl (List.any_eq_true.2 ⟨bk, HP.out.2.2.2.2, HBB.out.symm⟩))
      go_wp2_with fail
      go_ret
      exact ⟨by rw [HRR.out]; rfl, za HX.out.1 HG3.out⟩
  · have d2 : decide (I < (3 : Int)) = false := by simp; omega
    obtain rfl : k = 3 := by omega
    have HR := hQ_ (HB.out _ hK).2
    have HRR := hQ_ (show R = bigQc x.q by
     rw [HX.out.2.2.2.2.2.2.2.2, bigCg, List.any_eq_false.2 ?_, Bool.false_or]
     intro s hs
     have := hno.out s hs
     simp [this])
    have HQ := hQ_ (rbigQ_is wr x.q (HX.out.2.2.2.2.2.2.2.1.2.2.2.grown (za HX.out.1 hK)) qv HX.out.2.2.2.2.2.2.1)
    have HK2 := hQ_ hK
    clear hK hlt hI hk hno
    go_wp2_with (refine wpList_load_mid rfl 29 _ rfl w.heap.size 117 rfl qv.toList _ HR.out Tryz.underlying29 rfl (by rw [Array.length_toList, HX.out.2.2.2.2.2.1]; exact sz_QCb) ?_; rw [Array.toArray_toList])
    refine HQ.out.mono ?_
    rintro e3 W3 ⟨rfl, g3⟩
    have HG3 := hQ_ g3
    clear g3
    go_wp2_with fail
    go_ret
    exact ⟨by rw [HRR.out]; rfl, za HX.out.1 (za HK2.out HG3.out)⟩
end
end Go.Proofs.YtigafnbofmiknaaGreatDoor
