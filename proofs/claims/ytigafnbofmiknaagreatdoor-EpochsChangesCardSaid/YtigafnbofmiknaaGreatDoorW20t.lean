/- PwV, PwLb, Pf3, Pf4, ChH -/
import Derived.Test.YtigafnbofmiknaaGreatDoorW20s
import Derived.Great.BuildSlice
import Derived.Test.YtigafnbofmiknaaGreatDoorW20r
import Derived.Test.YtigafnbofmiknaaGreatDoorW20k
import Derived.Test.YtigafnbofmiknaaGreatDoorW20p
namespace Go.Proofs.YtigafnbofmiknaaGreatDoor
set_option maxRecDepth 100000
set_option maxHeartbeats 10000000
open Go.RowKit
section
theorem rtotal_is (w : World) (A : Option Addr) (c : Nat) (V : List Vd) (hV : VdsAt w A V) (ok : keysOk V) (hl : V.length < 1000) :
    Calls Tryz.prog 61 #[.slice A V.length c] w fun e w' => e = .returned (.int .i64 (sumW (yc V))) /\ w.grownBy w' none := by
 obtain ⟨zs, hzs⟩ : ∃ zs : Array Value, zs = (List.replicate 16 (Value.int .u8 0) ++ [Value.int .i64 0]).toArray := ⟨_, rfl⟩
 have hz : ∀ w, Sem.run Tryz.prog (zeroValue 55) w = .ok (.agg zs) w := fun w => by rw [hzs]; exact zbr w (by kernel_rfl)
 have HZ := hQ_ hzs
 clear hzs
 go_enter Tryz.func61, Tryz.ntmps61
 go_wp2_with fail
 go_loopw [3, 8] (fun s i wr => ∃ k : Nat, k <= V.length /\ i = .int .i64 (k : Int) /\ s = .int .i64 (sumW (yc (V.take k))) /\ w.grownBy wr none) (fun _ i _ => V.length - (intOf i).toNat)
 case atStart => exact ⟨0, by omega, rfl, rfl, World.grownBy.refl w none⟩
 case round =>
  obtain ⟨k, hkl, hi, hs, hK⟩ := hrel
  obtain ⟨I, hI⟩ : ∃ I : Int, I = (k : Int) := ⟨_, rfl⟩
  rw [<- hI] at hi
  subst hi
  obtain ⟨s, hsv⟩ : ∃ s, s = sumW (yc (V.take k)) := ⟨_, rfl⟩
  rw [<- hsv] at hs
  subst hs
  by_cases hlt : k < V.length
  · obtain ⟨b, off, rfl, hc⟩ := hV (by rintro rfl; simp at hlt)
    have d1 : decide (I < (V.length : Int)) = true := by simp; omega
    have hIV : I < (V.length : Int) := by omega
    have hI0 : 0 <= I /\ I < 1000 := by omega
    have hkI : I.toNat = k := by omega
    have r1 := ze (hc k hlt) hK
    have hx := ok _ (List.getElem_mem hlt)
    obtain ⟨x, hxe⟩ : ∃ x, x = V[k] := ⟨_, rfl⟩
    rw [<- hxe] at r1 hx
    rw [<- hkI] at r1
    have i1 := vdSize hx
    obtain ⟨cs, hcs⟩ : ∃ cs, cs = x.cells.toArray := ⟨_, rfl⟩
    obtain ⟨hsz, hall, hinf⟩ := zbg hx hcs
    obtain ⟨W0, hW0⟩ : ∃ W0, W0 = (wr.alloc (.cells zs 55)).setRow wr.heap.size cs := ⟨_, rfl⟩
    obtain ⟨hG0, _, c16⟩ := zcn hx hcs hW0
    obtain ⟨p, hp⟩ : ∃ p, p = x.p := ⟨_, rfl⟩
    rw [<- hp] at c16
    have hsn : wrap64 (s + p) = sumW (yc (V.take (k + 1))) := by
     rw [hsv, hp, hxe, <- zdi, show yc (V.take (k + 1)) = yc (V.take k) ++ [V[k].p] by rw [<- List.take_append_getElem hlt, yc, List.map_append]; rfl]
    have HR := hQ_ (aQ r1 i1)
    have HC := hQ_ (aQ hcs (aQ hsz (aQ hall hinf)))
    have HW := hQ_ hW0
    have HN := hQ_ (aQ (za hK hG0) (aQ hI (aQ hlt hsn)))
    clear r1 i1 hcs hsz hall hinf hG0 hxe hx hp hsn hsv hK hc hV ok hkI hI hkl hlt hW0
    go_wp2_with (first
     | (refine wpList_load_mid rfl 55 _ rfl b (off + I.toNat * 17) rfl x.cells _ HR.out.1 Tryz.underlying55 rfl HR.out.2 ?_; rw [<- HC.out.1])
     | (refine wpList_store_row rfl 55 _ _ rfl wr.heap.size cs rfl rfl 55 _ (heap_alloc_new wr _) HC.out.2.2.2 (by rw [HC.out.2.1, HZ.out]; simp) HC.out.2.2.1 ?_
        rw [<- HW.out]))
    go_roundw
    case rel =>
     obtain ⟨n1, n2, n3, n4⟩ := HN.out
     exact ⟨k + 1, by omega, by rw [n2]; rfl, by rw [n4], n1⟩
    case measure => obtain ⟨n1, n2, n3, n4⟩ := HN.out; simp [intOf]; omega
  · have d1 : decide (I < (V.length : Int)) = false := by simp; omega
    obtain rfl : k = V.length := by omega
    rw [List.take_length] at hsv
    have HN := hQ_ (aQ hsv hK)
    clear hsv hK hI hkl hlt
    go_wp2_with fail
    go_ret
    exact ⟨by rw [<- HN.out.1]; rfl, HN.out.2⟩
def codeN : Nat -> Int
 | 0 => 0
 | 1 => 11
 | 2 => 1
 | _ => 17
theorem rsum_is (w : World) (A A2 : Option Addr) (c c2 : Nat) (V : List Vd) (who : List Int) (hV : VdsAt w A V) (ok : keysOk V) (hl : V.length < 1000) (hc : V.length <= c) (hU : IntsAt w A2 who) (hwl : who.length <= 100) (hc2 : who.length <= c2) :
    Calls Tryz.prog 60 #[.slice A V.length c, .slice A2 who.length c2] w fun e w' => e = .returned (.tuple #[.int .i64 (sumVal V who), .int .i64 (codeN (yf V who))]) /\ w.grownBy w' none := by
 have HV := hQ_ (aQ hV (aQ ok (aQ hl hc)))
 have HU := hQ_ (aQ hU (aQ hwl hc2))
 clear hV ok hc hU
 cases hr : rightS V with
 | false =>
  have h1 : yf V who = 1 := by simp [yf, hr]
  rw [show sumVal V who = 0 by simp [sumVal, h1], h1, codeN]
  have HR := hQ_ hr
  clear hr h1 hl hwl
  go_enter Tryz.func60, Tryz.ntmps60
  go_wp2_with fail
  refine (zbm w A c V HV.out.1 HV.out.2.1 HV.out.2.2.1 HV.out.2.2.2).mono ?_
  rintro e w1 ⟨rfl, hk1⟩
  rw [HR.out]
  have HK := hQ_ hk1
  clear hk1
  go_wp2_with fail
  go_ret2
  exact ⟨rfl, HK.out⟩
 | true =>
  have HR := hQ_ hr
  clear hr
  go_enter Tryz.func60, Tryz.ntmps60
  go_wp2_with fail
  refine (zbm w A c V HV.out.1 HV.out.2.1 HV.out.2.2.1 HV.out.2.2.2).mono ?_
  rintro e w1 ⟨rfl, hk1⟩
  rw [HR.out]
  have hU1 := HU.out.1.above (z9 hk1)
  have HK := hQ_ hk1
  clear hk1
  go_wp2_with fail
  go_loop [16] (fun i => ∃ k : Nat, k <= who.length /\ i = .int .i64 (k : Int) /\ (∀ j (h : j < who.length), j < k -> 0 <= who[j] /\ who[j] < (V.length : Int))) (fun i => who.length - (intOf i).toNat)
  case atStart => exact ⟨0, Nat.zero_le _, rfl, fun j _ h => absurd h (by omega)⟩
  case round =>
   obtain ⟨k, hkl, hi, hno⟩ := hrel
   obtain ⟨I, hI⟩ : ∃ I : Int, I = (k : Int) := ⟨_, rfl⟩
   rw [<- hI] at hi
   subst hi
   have HN := hQ_ (aQ hno (aQ hkl hI))
   have HU1 := hQ_ hU1
   by_cases hlt : k < who.length
   · have d1 : decide (I < (who.length : Int)) = true := by simp; omega
     have hne : who ≠ [] := by rintro rfl; simp at hlt
     have hIV : I < (who.length : Int) := by omega
     have hI0 : 0 <= I /\ I < 1000 := by omega
     obtain ⟨b2, off2, rfl, hcs⟩ := hU1.get hne
     obtain ⟨z, hz⟩ : ∃ z, z = who[k] := ⟨_, rfl⟩
     have c1 : w1.cell? ⟨b2, off2 + I.toNat, none⟩ = some (.int .i64 z) := by rw [show I.toNat = k by omega, hz]; exact hcs k hlt
     have hbad := hQ_ (show ¬ (0 <= z /\ z < (V.length : Int)) -> yf V who = 2 from fun h => by
      have h2 : inR V who = false := by
       cases h3 : inR V who with
       | false => rfl
       | true => exact absurd (zb7.1 h3 z (by rw [hz]; exact List.getElem_mem hlt)) h
      simp [yf, HR.out, h2])
     have HZ := hQ_ (show ∃ h : k < who.length, z = who[k] from ⟨hlt, hz⟩)
     clear hno hkl hI hne hcs hz hU1 hlt hwl hc2 hl
     by_cases z1 : z < 0
     · have z1' : decide (z < 0) = true := by simpa using z1
       have Hb := hQ_ (hbad.out (by omega))
       clear z1
       go_wp2_with fail
       go_ret2
       exact ⟨by rw [show sumVal V who = 0 by simp [sumVal, Hb.out], Hb.out]; rfl, HK.out⟩
     · have z1' : decide (z < 0) = false := by simpa using z1
       by_cases z2 : (V.length : Int) <= z
       · have z2' : decide ((V.length : Int) <= z) = true := by simpa using z2
         have Hb := hQ_ (hbad.out (by omega))
         clear z1 z2
         go_wp2_with fail
         go_ret2
         exact ⟨by rw [show sumVal V who = 0 by simp [sumVal, Hb.out], Hb.out]; rfl, HK.out⟩
       · have z2' : decide ((V.length : Int) <= z) = false := by simpa using z2
         have HZ1 := hQ_ (aQ z1 z2)
         clear z1 z2
         go_wp2_with fail
         go_round
         case rel =>
          obtain ⟨n1, n2, n3⟩ := HN.out
          obtain ⟨n5, n4⟩ := HZ.out
          refine ⟨k + 1, by omega, by rw [n3]; rfl, fun j hj hjk => ?_⟩
          by_cases hjk' : j < k
          · exact n1 j hj hjk'
          · obtain rfl : j = k := by omega
            rw [<- n4]; have := HZ1.out; omega
         case measure => obtain ⟨n1, n2, n3⟩ := HN.out; obtain ⟨n5, n4⟩ := HZ.out; simp [intOf]; omega
   · have d1 : decide (I < (who.length : Int)) = false := by simp; omega
     have hin : inR V who = true := zb7.2 fun i hi => by
      obtain ⟨j, hj, rfl⟩ := List.getElem_of_mem hi
      exact hno j hj (by omega)
     have HI := hQ_ hin
     clear hno hkl hI hlt hin hU1 HN hl
     go_wp2_with fail
     clear d1
     go_loop [8, 31] (fun s i => ∃ k : Nat, k <= who.length /\ i = .int .i64 (k : Int) /\ s = .int .i64 (sumW (yd V (who.take k))) /\ (who.take k).Nodup) (fun _ i => who.length - (intOf i).toNat)
     case atStart => exact ⟨0, Nat.zero_le _, rfl, rfl, by simp⟩
     case round =>
      obtain ⟨k, hkl, hi, hs, hno⟩ := hrel
      obtain ⟨I, hI⟩ : ∃ I : Int, I = (k : Int) := ⟨_, rfl⟩
      rw [<- hI] at hi
      subst hi
      obtain ⟨s, hsv⟩ : ∃ s, s = sumW (yd V (who.take k)) := ⟨_, rfl⟩
      rw [<- hsv] at hs
      subst hs
      have HN := hQ_ (aQ hno (aQ hkl hI))
      by_cases hlt : k < who.length
      · have d1 : decide (I < (who.length : Int)) = true := by simp; omega
        have hne : who ≠ [] := by rintro rfl; simp at hlt
        have hIV : I < (who.length : Int) := by omega
        have hI0 : 0 <= I /\ I < 1000 := by omega
        have hIc : I <= (c2 : Int) := by omega
        obtain ⟨b2, off2, rfl, hcs⟩ := HU1.out.get hne
        obtain ⟨z, hz⟩ : ∃ z, z = who[k] := ⟨_, rfl⟩
        have c1 : w1.cell? ⟨b2, off2 + I.toNat, none⟩ = some (.int .i64 z) := by rw [show I.toNat = k by omega, hz]; exact hcs k hlt
        have hzr := zb7.1 HI.out z (by rw [hz]; exact List.getElem_mem hlt)
        have hzt : z.toNat < V.length := by omega
        obtain ⟨b, off, rfl, hcv⟩ := HV.out.1 (by rintro rfl; simp at hzt)
        have hz0 : 0 <= z /\ z < (V.length : Int) := hzr
        have c16 := zc4 (HV.out.2.1 _ (List.getElem_mem hzt)) (ze (hcv z.toNat hzt) HK.out)
        obtain ⟨p, hp⟩ : ∃ p, p = V[z.toNat].p := ⟨_, rfl⟩
        rw [<- hp] at c16
        have hsn : wrap64 (s + p) = sumW (yd V (who.take (k + 1))) := by
         rw [powersAt_snoc V who k hlt (by rw [<- hz]; exact hzt), zdi, hsv, hp]
         simp only [<- hz]
        have HZ := hQ_ (show ∃ h : k < who.length, z = who[k] from ⟨hlt, hz⟩)
        have HWL := hQ_ (aQ hwl hsn)
        clear hno hkl hI hne hcs hz hlt hwl hc2 hsn hsv hp hcv hzt hzr
        go_wp2_with fail
        obtain ⟨bb, hbb⟩ : ∃ bb, decide (z ∈ who.take k) = bb := ⟨_, rfl⟩
        have HBB := hQ_ hbb
        refine (in_is w1 (some ⟨b2, off2, none⟩) I.toNat c2 (who.take k) z bb hbb (by obtain ⟨n1, n2, n3⟩ := HN.out; obtain ⟨n4, n5⟩ := HZ.out; simp; omega) (by have := HWL.out.1; omega) (HU1.out.take k)).mono ?_
        rintro e w2 ⟨rfl, rfl⟩
        clear hbb
        cases bb with
        | true =>
         have Hb := hQ_ (show yf V who = 3 by
          obtain ⟨n4, n5⟩ := HZ.out
          have h1 : z ∈ who.take k := by simpa using HBB.out
          rw [n5] at h1
          simp [yf, HR.out, HI.out, not_nodup n4 h1])
         go_wp2_with fail
         go_ret2
         exact ⟨by rw [show sumVal V who = 0 by simp [sumVal, Hb.out], Hb.out]; rfl, HK.out⟩
        | false =>
         go_wp2_with fail
         go_round
         case rel =>
          obtain ⟨n1, n2, n3⟩ := HN.out
          obtain ⟨n4, n5⟩ := HZ.out
          exact ⟨k + 1, by omega, by rw [n3]; rfl, by rw [HWL.out.2], nodup_snoc n4 n1 (by rw [<- n5]; simpa using HBB.out)⟩
         case measure => obtain ⟨n1, n2, n3⟩ := HN.out; obtain ⟨n4, n5⟩ := HZ.out; simp [intOf]; omega
      · have d1 : decide (I < (who.length : Int)) = false := by simp; omega
        obtain rfl : k = who.length := by omega
        rw [List.take_length] at hno hsv
        have hc0 : yf V who = 0 := by simp [yf, HR.out, HI.out, hno]
        have hv0 : sumVal V who = s := by
         rw [sumVal, if_pos hc0, hsv, zc5 _ (zaz HR.out HI.out) (by simp [yd]; omega)]
        have HC := hQ_ (aQ hc0 hv0)
        clear hno hkl hI hlt hc0 hv0 hwl hc2 HN hsv
        go_wp2_with fail
        go_ret2
        exact ⟨by rw [HC.out.1, HC.out.2]; rfl, HK.out⟩
theorem right_sumW {V : List Vd} (hr : rightS V = true) : sumW (yc V) = (yc V).sum :=
 zc5 _ (u9 hr).2.2 (by have := (u9 hr).1; simp [yc]; omega)
theorem code_right {V : List Vd} {who : List Int} (h : yf V who = 0) : rightS V = true := by
 cases h1 : rightS V with
 | true => rfl
 | false => simp [yf, h1] at h
theorem codeN_zero {k : Nat} : codeN k = 0 ↔ k = 0 := by
 match k with
 | 0 => simp [codeN]
 | 1 => simp [codeN]
 | 2 => simp [codeN]
 | k + 3 => simp [codeN]
theorem renough_is (w : World) (A A2 : Option Addr) (c c2 : Nat) (V : List Vd) (who : List Int) (hV : VdsAt w A V) (ok : keysOk V) (hl : V.length < 1000) (hc : V.length <= c) (hU : IntsAt w A2 who) (hwl : who.length <= 100) (hc2 : who.length <= c2) :
    Calls Tryz.prog 42 #[.slice A V.length c, .slice A2 who.length c2] w fun e w' => e = .returned (.bool (u1 V who)) /\ w.grownBy w' none := by
 have hb := sumVal_bound (V := V) hwl
 have HV := hQ_ (aQ hV (aQ ok (aQ hl hc)))
 have HS := hQ_ (rsum_is w A A2 c c2 V who hV ok hl hc hU hwl hc2)
 clear hV ok hl hc hU hwl hc2
 go_enter Tryz.func42, Tryz.ntmps42
 go_wp2_with fail
 refine HS.out.mono ?_
 rintro e w1 ⟨rfl, hk1⟩
 have HK := hQ_ hk1
 clear hk1 HS
 obtain ⟨s, hs⟩ : ∃ s, s = sumVal V who := ⟨_, rfl⟩
 rw [<- hs] at hb ⊢
 obtain ⟨q, hq⟩ : ∃ q, q = codeN (yf V who) := ⟨_, rfl⟩
 rw [<- hq]
 by_cases h0 : yf V who = 0
 · have hr := code_right h0
   have hts := right_sumW hr
   have htb := total_bound hr
   obtain ⟨t, ht⟩ : ∃ t, t = sumW (yc V) := ⟨_, rfl⟩
   rw [<- hts, <- ht] at htb
   have q0 : (q == 0) = true := by rw [hq, h0]; rfl
   have s1 : wrap64 (3 * s) = 3 * s := w64 _ ⟨by omega, by omega⟩
   have s2 : wrap64 (2 * t) = 2 * t := w64 _ ⟨by omega, by omega⟩
   have hE : u1 V who = decide (2 * t < 3 * s) := by
    rw [u1, h0, zbo, if_pos hr, <- hts, <- ht, <- hs]
    by_cases h : 2 * t < 3 * s
    · rw [decide_eq_true h]; simp; omega
    · rw [decide_eq_false h]; simp; omega
   have HT := hQ_ (aQ ht (aQ s1 (aQ s2 hE)))
   clear hr hts htb ht hb hs hq h0 hE s1 s2
   go_wp2_with fail
   refine (rtotal_is w1 A c V (HV.out.1.grown HK.out) HV.out.2.1 HV.out.2.2.1).mono ?_
   rintro e w2 ⟨rfl, hk2⟩
   rw [<- HT.out.1]
   have HK2 := hQ_ (za HK.out hk2)
   clear hk2
   go_wp2_with fail
   go_ret
   exact ⟨by rw [HT.out.2.2.2, HT.out.2.1, HT.out.2.2.1]; rfl, HK2.out⟩
 · have q0 : (q == 0) = false := by rw [hq]; simpa using fun h => h0 (codeN_zero.1 h)
   have HE := hQ_ (show u1 V who = false by simp [u1, h0])
   clear hb hs hq h0
   go_wp2_with fail
   go_ret
   exact ⟨by rw [HE.out]; rfl, HK.out⟩
end
section
section
variable {P : Program} {w : World} {ops : Array Oper} {rest : List Oper} {o : Oper} {a : Act} {Q : Exit -> Act -> World -> Prop}
theorem yg (hw : Region.wanted o (yielded ops a.tmps) = true) (t : TypeId) (parts : Array (Nat × Operand)) (ho : o.op = .build t parts) (ps : Array (Nat × Value)) (hp : (parts.map fun (i, x) => (i, a.eval x)) = ps) (V : Value)
    (hr : Sem.run P (Instr.build t ps) w = .ok V w) (h : wpList P ops Q rest (a.put o.dst V) w) : wpList P ops Q (o :: rest) a w :=
 BigFrame.wpList_want hw fun _ hK => by
  unfold Oper.wp execOp
  simp only [ho, hp, Sem.run_bind, hr, Result.andThen_ok, Sem.run_pure]
  exact hK _ _ h
theorem wpList_row_at (hw : Region.wanted o (yielded ops a.tmps) = true) (t : TypeId) (len : Nat) (parts : Array (Nat × Operand)) (ho : o.op = .buildSlice t len parts) (ps : Array (Nat × Value)) (hp : (parts.map fun (i, x) => (i, a.eval x)) = ps) (V : Value) (W : World)
    (hr : Sem.run P (Instr.buildSlice t len ps) w = .ok V W) (h : wpList P ops Q rest (a.put o.dst V) W) : wpList P ops Q (o :: rest) a w :=
 BigFrame.wpList_want hw fun _ hK => by
  unfold Oper.wp execOp
  simp only [ho, hp, Sem.run_bind, hr, Result.andThen_ok, Sem.run_pure]
  exact hK _ _ h
end
theorem flat_get : ∀ {V : List Vd} (_ : keysOk V) {k : Nat} (hk : k < V.length) {j : Nat} {v : Value}, V[k].cells[j]? = some v -> (V.flatMap Vd.cells)[k * 17 + j]? = some v
 | x :: V, ok, 0, _, j, v, h => by
  have h' : x.cells[j]? = some v := h
  rw [List.flatMap_cons, List.getElem?_append_left (by have := (List.getElem?_eq_some_iff.1 h').1; omega)]
  simpa using h'
 | x :: V, ok, k + 1, hk, j, v, h => by
  have hx := Vd.cells_length (ok x (by simp))
  rw [List.flatMap_cons, List.getElem?_append_right (by omega), hx, show (k + 1) * 17 + j - 17 = k * 17 + j by omega]
  exact flat_get (fun y hy => ok y (by simp [hy])) (by simpa using hk) h
theorem vds_new (w : World) (V : List Vd) (ok : keysOk V) (t : TypeId) : VdsAt (w.alloc (.cells (V.flatMap Vd.cells).toArray t)) (some ⟨w.heap.size, 0, none⟩) V := fun _ =>
 ⟨w.heap.size, 0, rfl, fun k hk j v hv => by
  rw [Nat.zero_add, (Blk.new w t _).cell]; simpa using flat_get ok hk hv⟩
def key4 (n : Int) : List Int := n :: List.replicate 15 0
def v4 : List Vd := [⟨key4 1, 1⟩, ⟨key4 2, 1⟩, ⟨key4 3, 1⟩, ⟨key4 4, 1⟩]
theorem key_run (w : World) (n : Int) : Sem.run Tryz.prog (Instr.build 24 #[(0, .int .u8 n)]) w = .ok (.agg (arrV .u8 (key4 n))) w := by kernel_rfl
theorem vd_run (w : World) (n p : Int) : Sem.run Tryz.prog (Instr.build 55 #[(0, .agg (arrV .u8 (key4 n))), (1, .int .i64 p)]) w = .ok (.agg (Vd.cells ⟨key4 n, p⟩).toArray) w := by kernel_rfl
end
section
theorem arr16p (sd : Array Value) (h : sd.size = 16) : ∃ a0 a1 a2 a3 a4 a5 a6 a7 a8 a9 a10 a11 a12 a13 a14 a15 : Value, sd = #[a0, a1, a2, a3, a4, a5, a6, a7, a8, a9, a10, a11, a12, a13, a14, a15] := by
 obtain ⟨l⟩ := sd
 have h : l.length = 16 := h
 match l, h with
 | [a0, a1, a2, a3, a4, a5, a6, a7, a8, a9, a10, a11, a12, a13, a14, a15], _ => exact ⟨a0, a1, a2, a3, a4, a5, a6, a7, a8, a9, a10, a11, a12, a13, a14, a15, rfl⟩
def z16v : Array Value := #[.int .u8 0, .int .u8 0, .int .u8 0, .int .u8 0, .int .u8 0, .int .u8 0, .int .u8 0, .int .u8 0, .int .u8 0, .int .u8 0, .int .u8 0, .int .u8 0, .int .u8 0, .int .u8 0, .int .u8 0, .int .u8 0]
def sZ : Array Value := #[.int .i64 0, .int .i64 0, .slice none 0 0, .slice none 0 0]
def v1 : List Vd := [⟨key4 1, 1⟩]
end
section
theorem ya (V : World) (g o : Nat) (ty : TypeId) (cs : Array Value) (d : TypeDesc) (h : V.rangeAt g o cs.toList) (hu : Tryz.prog.underlying ty = some d) (hd : d.isRow = true) (hi : (Tryz.prog.info? ty).map (·.size) = some cs.size) : Sem.run Tryz.prog (Instr.loadAt ty (.pointer (some ⟨g, o, none⟩))) V = .ok (.agg cs) V := by
 have := run_loadAt_mid (P := Tryz.prog) V g o ty cs.toList d h hu hd (by rw [Array.length_toList]; exact hi)
 rwa [Array.toArray_toList] at this
end
section
theorem recover_no (w : World) (B : Nat) (a : Addr) (hE : ErrAt w B (gix.getD 0 0) a) (lf : Int) (hlf : lf < 0 \/ 32 <= lf) (A : Option Addr) (n c : Nat) (ds : Array Value) (hds : ds.size = 16) (zs : Array Value) (hzs : zs = arrV .u8 (List.replicate 16 0)) :
    Calls Tryz.prog 117 #[.int .i64 lf, .slice A n c, .agg ds] w fun e w' => e = .returned (.tuple #[.agg zs, errV a]) /\ w.grownBy w' none := by
 obtain ⟨zl, hzl⟩ : ∃ l, l = zs.toList := ⟨_, rfl⟩
 have hz : zs = zl.toArray := by rw [hzl, Array.toArray_toList]
 have hz16 : ∀ w, Sem.run Tryz.prog (zeroValue 24) w = .ok (.agg zl.toArray) w := fun w => by rw [<- hz, hzs]; exact z16run w
 have hzn : zl.length = 16 := by rw [hzl, Array.length_toList, hzs]; rfl
 have hi6 : (Tryz.prog.info? 24).map (·.size) = some zl.length := by rw [hzn]; exact info16
 have ho6 : ∀ v ∈ zl, v.oneCell' = true := by rw [hzl, hzs]; simp [Value.oneCell']
 have HZ := hQ_ (aQ hz (aQ hzn (show (zs.all fun v => v.oneCell') = true by rw [hzs]; exact zu _ _)))
 have HLF := hQ_ hlf
 have HE := hQ_ hE
 have HDS := hQ_ hds
 have HZL := hQ_ hzl
 clear hzl hzs hlf hE hds
 go_enter Tryz.func117, Tryz.ntmps117
 obtain ⟨w0, hw0⟩ : ∃ w0, w0 = (w.alloc (.cells ds 24)).alloc (.cells zl.toArray 24) := ⟨_, rfl⟩
 have HZ0 := hQ_ (show Blk w0 (w.heap.size + 1) 24 zs by rw [hw0, hz]; have := Blk.new (w.alloc (.cells ds 24)) 24 zl.toArray; rwa [World.size_alloc] at this)
 have HG0 := hQ_ (show w.grownBy w0 none by rw [hw0]; exact za (gQ) (gQ))
 have HW0 := hQ_ hw0
 clear hw0
 go_wp2_with fail
 rw [<- HW0.out]
 refine (isleaf_no w0 lf HLF.out).mono ?_
 rintro e w9 ⟨rfl, h9⟩
 rw [h9]
 clear h9
 go_wp2_with fail
 have hT : w0.drew.there (w.heap.size + 1) 0 16 := zw HZ0.out.drew (by rw [HZ.out.1, List.size_toArray, HZ.out.2.1]; exact Nat.le_refl _)
 have hc : w0.drew.cell? ⟨gix.getD 0 0, 0, none⟩ = some (errV a) := by
  rw [World.cell?_drew]; exact HG0.out.cell HE.out.1 (by simp)
 simp only [gix, List.getD_cons_zero] at hc
 have hS := aQ hT hc
 have hgb : ¬ 0 = w.heap.size + 1 := by omega
 clear hT hc
 go_region_held3 (fun W => W.there (w.heap.size + 1) 0 16 /\ W.cell? ⟨0, 0, none⟩ = some (errV a)) (first | exact hS | assumption | exact ⟨World.there_setCells hS.1 _ _ _, (World.cell?_setCells_out _ _ _ _ _ (fun e => absurd e hgb)).trans hS.2⟩)
  (fail)
 have HB9 := hQ_ HZ0.out.drew
 have HG9 := hQ_ (show w.grownBy w0.drew none from za HG0.out (zh (World.grownBy.refl w0 none)))
 have HEQ := hQ_ (show w0.drew.setCells (w.heap.size + 1) 0 zl = w0.drew.setRow (w.heap.size + 1) zs by
  rw [HZL.out]
  exact zi (P := Tryz.prog) HB9.out (by rw [HZ.out.1, List.size_toArray, HZ.out.2.1]; exact info16) rfl HZ.out.2.2)
 rw [HEQ.out]
 go_wp2_with fail
 refine bodyPost_ret (zr rfl _ _ _ ⟨w.heap.size + 1, 0, none⟩ (.agg zs) rfl (run_loadVar_row _ (w.heap.size + 1) 24 24 zs (0, 0) _ (HB9.out.row zs) Tryz.underlying24 rfl (by rw [HZ.out.1, List.size_toArray, HZ.out.2.1]; exact info16))) rfl ?_
 exact ⟨rfl, zc HG9.out (.inl (Nat.le_succ _)) zs⟩
theorem recover_form (w : World) (B : Nat) (a : Addr) (hE : ErrAt w B (gix.getD 3 0) a) (lf : Int) (hlf : 0 <= lf /\ lf < 32) (A : Option Addr) (n c : Nat) (hn68 : n ≠ 68) (hB3 : 4 <= w.heap.size) (ds : Array Value) (hds : ds.size = 16) (zs : Array Value) (hzs : zs = arrV .u8 (List.replicate 16 0)) :
    Calls Tryz.prog 117 #[.int .i64 lf, .slice A n c, .agg ds] w fun e w' => e = .returned (.tuple #[.agg zs, errV a]) /\ w.grownBy w' none := by
 obtain ⟨zl, hzl⟩ : ∃ l, l = zs.toList := ⟨_, rfl⟩
 have hz : zs = zl.toArray := by rw [hzl, Array.toArray_toList]
 have hz16 : ∀ w, Sem.run Tryz.prog (zeroValue 24) w = .ok (.agg zl.toArray) w := fun w => by rw [<- hz, hzs]; exact z16run w
 have hzn : zl.length = 16 := by rw [hzl, Array.length_toList, hzs]; rfl
 have hi6 : (Tryz.prog.info? 24).map (·.size) = some zl.length := by rw [hzn]; exact info16
 have ho6 : ∀ v ∈ zl, v.oneCell' = true := by rw [hzl, hzs]; simp [Value.oneCell']
 have HZ := hQ_ (aQ hz (aQ hzn (show (zs.all fun v => v.oneCell') = true by rw [hzs]; exact zu _ _)))
 have HLF := hQ_ hlf
 have HE := hQ_ hE
 have HDS := hQ_ hds
 have HZL := hQ_ hzl
 clear hzl hzs hlf hE hds
 go_enter Tryz.func117, Tryz.ntmps117
 obtain ⟨w0, hw0⟩ : ∃ w0, w0 = (w.alloc (.cells ds 24)).alloc (.cells zl.toArray 24) := ⟨_, rfl⟩
 have HZ0 := hQ_ (show Blk w0 (w.heap.size + 1) 24 zs by rw [hw0, hz]; have := Blk.new (w.alloc (.cells ds 24)) 24 zl.toArray; rwa [World.size_alloc] at this)
 have HG0 := hQ_ (show w.grownBy w0 none by rw [hw0]; exact za (gQ) (gQ))
 have HW0 := hQ_ hw0
 clear hw0
 go_wp2_with fail
 rw [<- HW0.out]
 refine (isleaf_yes w0 lf HLF.out).mono ?_
 rintro e w9 ⟨rfl, h9⟩
 rw [h9]
 clear h9
 have d68 : ¬ ((n : Int) = 68) := by omega
 go_wp2_with fail
 have hT : w0.drew.there (w.heap.size + 1) 0 16 := zw HZ0.out.drew (by rw [HZ.out.1, List.size_toArray, HZ.out.2.1]; exact Nat.le_refl _)
 have hc : w0.drew.cell? ⟨gix.getD 3 0, 0, none⟩ = some (errV a) := by
  rw [World.cell?_drew]; exact HG0.out.cell HE.out.1 (by simp)
 simp only [gix, List.getD_cons_zero, List.getD_cons_succ] at hc
 have hS := aQ hT hc
 have hgb : ¬ 3 = w.heap.size + 1 := by omega
 clear hT hc
 go_region_held3 (fun W => W.there (w.heap.size + 1) 0 16 /\ W.cell? ⟨3, 0, none⟩ = some (errV a)) (first | exact hS | assumption | exact ⟨World.there_setCells hS.1 _ _ _, (World.cell?_setCells_out _ _ _ _ _ (fun e => absurd e hgb)).trans hS.2⟩)
  (fail)
 have HB9 := hQ_ HZ0.out.drew
 have HG9 := hQ_ (show w.grownBy w0.drew none from za HG0.out (zh (World.grownBy.refl w0 none)))
 have HEQ := hQ_ (show w0.drew.setCells (w.heap.size + 1) 0 zl = w0.drew.setRow (w.heap.size + 1) zs by
  rw [HZL.out]
  exact zi (P := Tryz.prog) HB9.out (by rw [HZ.out.1, List.size_toArray, HZ.out.2.1]; exact info16) rfl HZ.out.2.2)
 rw [HEQ.out]
 go_wp2_with fail
 refine bodyPost_ret (zr rfl _ _ _ ⟨w.heap.size + 1, 0, none⟩ (.agg zs) rfl (run_loadVar_row _ (w.heap.size + 1) 24 24 zs (0, 0) _ (HB9.out.row zs) Tryz.underlying24 rfl (by rw [HZ.out.1, List.size_toArray, HZ.out.2.1]; exact info16))) rfl ?_
 exact ⟨rfl, zc HG9.out (.inl (Nat.le_succ _)) zs⟩
end
end Go.Proofs.YtigafnbofmiknaaGreatDoor
