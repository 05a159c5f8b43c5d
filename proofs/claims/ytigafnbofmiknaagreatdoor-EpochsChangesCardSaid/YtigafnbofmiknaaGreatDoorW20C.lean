/- RqB, OuN, OuI, OuO, Vc -/
import Derived.Test.YtigafnbofmiknaaGreatDoorW20w
import Derived.Test.YtigafnbofmiknaaGreatDoorW20t
import Derived.Test.YtigafnbofmiknaaGreatDoorW20u
import Derived.Test.YtigafnbofmiknaaGreatDoorW20B
import Derived.Test.YtigafnbofmiknaaGreatDoorW20f
import Derived.Test.YtigafnbofmiknaaGreatDoorW20k
namespace Go.Proofs.YtigafnbofmiknaaGreatDoor
set_option maxRecDepth 100000
set_option maxHeartbeats 10000000
open Go.RowKit
section
attribute [local go_sem] Oper.semAt_some
section
variable {e : Int} {A : Option Addr} {c : Nat} {V : List Vd} {G : Array Value} {Bl Gl : List Int} {L : List Sg} {qe qr : Int}
theorem qcN_beg (h : rbegN V e qe qr 0 ≠ 0) : qcN V e qe qr Bl Gl L = rbegN V e qe qr 0 := by
 unfold rbegN at h ⊢
 unfold qcN firstN turnN beginN
 by_cases h1 : rightS V = false
 · simp [h1]
 · have h1' : rightS V = true := by cases h : rightS V <;> simp_all
   by_cases h2 : qe = e
   · subst h2
     by_cases h3 : qr < 0 \/ 1099511627776 < qr
     · have h4 : qr ≠ 0 := by omega
       have h5 : qr < 1 \/ 1099511627776 < qr := by omega
       simp [h1', h3, h4, h5]
     · exact absurd (by simp [h1', h3]) h
   · simp [h1', h2]
theorem qcN_first (h : rbegN V e qe qr 0 = 0) (h0 : qr = 0) : qcN V e qe qr Bl Gl L = if Bl = Gl /\ L.length = 0 then 0 else 12 := by
 unfold rbegN at h
 unfold qcN firstN beginN
 by_cases h1 : rightS V = false
 · simp [h1] at h
 · have h1' : rightS V = true := by cases h : rightS V <;> simp_all
   by_cases h2 : qe = e
   · subst h2
     simp [h1', h0]
   · simp [h1', h2] at h
theorem qcN_turn (h : rbegN V e qe qr 0 = 0) (h0 : qr ≠ 0) : qcN V e qe qr Bl Gl L = holdN (ug V (fun _ => forV qe qr Bl) id L) := by
 unfold rbegN at h
 unfold qcN turnN beginN
 by_cases h1 : rightS V = false
 · simp [h1] at h
 · have h1' : rightS V = true := by cases h : rightS V <;> simp_all
   by_cases h2 : qe = e
   · subst h2
     by_cases h3 : qr < 0 \/ 1099511627776 < qr
     · simp [h1', h3] at h
     · have h5 : ¬ (qr < 1 \/ 1099511627776 < qr) := by omega
       simp [h1', h0, h5]
   · simp [h1', h2] at h
theorem zg {P : Program} {C : World -> Prop} {a : Act} {o : Oper} {K : Act -> Prop} (ty : TypeId) (x : Operand) (p : Addr) (v : Value) (ho : o.op = .load ty x) (hx : a.eval x = .pointer (some p))
    (hr : ∀ V, C V -> (Instr.loadAt ty (.pointer (some p))).run P V = .ok v V) (hk : K (a.put o.dst v)) : o.quiet P a C K :=
 ⟨v, fun w hC => by
  unfold Oper.quietAt execOp
  simp only [ho, hx, Sem.run_bind, hr w hC, Result.andThen_ok, Sem.run_pure]
  exact ⟨rfl, rfl⟩, hk⟩
theorem quorum_bad {α : Type} {dg : α -> List Int} {sg : α -> Sg} {M : List α} {k : Nat} (hk : k < M.length) (h : ¬ stepOk V dg sg M k) : ug V dg sg M = false := by
 have hn : ¬ goodTo V dg sg M M.length := fun hg => h (hg k hk)
 unfold ug
 simp [hn]
theorem quorum_all {α : Type} {dg : α -> List Int} {sg : α -> Sg} {M : List α} (h : goodTo V dg sg M M.length) : ug V dg sg M = u1 V (whoL sg M) := by
 unfold ug
 simp [h]
theorem rqc_is (w : World) (hV : VdsAt w A V) (ok : keysOk V) (hl : V.length < 1000) (hc : V.length <= c) (hG : G = arrV .u8 Gl) (hGl : Gl.length = 16) (gv : Array Value) (hgv : gv = grC e (.slice A V.length c) G)
    (hqe : -9223372036854775808 <= qe /\ qe < 9223372036854775808) (hqr : -9223372036854775808 <= qr /\ qr < 9223372036854775808) (hBl : isDig Bl) (Bv : Array Value) (hB : Bv = arrV .u8 Bl) (A2 : Option Addr) (c2 : Nat) (hL : L.length <= 100) (hA : SgsAt w A2 L) (hok : SgsOk w L) (qv : Array Value) (hqv : qv = qcC qe qr Bv (.slice A2 L.length c2)) :
    Calls Tryz.prog 24 #[.agg gv, .agg qv] w fun e' w' => e' = .returned (.int .i64 ((qcN V e qe qr Bl Gl L : Nat) : Int)) /\ w.grownBy w' none := by
 obtain ⟨q, hq⟩ : ∃ q, w.heap.size = q := ⟨_, rfl⟩
 obtain ⟨w1, hw1⟩ : ∃ w1, (w.alloc (.cells gv 43)).alloc (.cells qv 29) = w1 := ⟨_, rfl⟩
 have g1 : w.grownBy w1 none := by rw [<- hw1]; exact za (gQ) (gQ)
 obtain ⟨n, hn⟩ : ∃ n, L.length = n := ⟨_, rfl⟩
 rw [hn] at hqv hL
 have hG16 : G.size = 16 := by rw [hG, zf, hGl]
 have hB16 : Bv.size = 16 := by rw [hB, zf, hBl.1]
 have hgs : gv.size = 18 := by rw [hgv]; simp [grC, hG16]
 have hqs : qv.size = 19 := by rw [hqv]; exact zeb hB16
 have b1 : Blk w1 q 43 gv := by rw [<- hw1, <- hq]; exact (Blk.new _ _ _).alloc _
 have b2 : Blk w1 (q + 1) 29 (qcC qe qr Bv (.slice A2 n c2)) := by
  have h := Blk.new (w.alloc (.cells gv 43)) 29 qv
  rw [World.size_alloc, hq, hw1, hqv] at h
  exact h
 have HB := hQ_ (fun (z : World) (hz : w1.grownBy z none) => (show (z.cell? ⟨q, 1, none⟩ = some (.slice A V.length c) /\ z.rangeAt q 2 G.toList /\ z.rangeAt q 0 gv.toList) /\ (z.cell? ⟨q + 1, 0, none⟩ = some (.int .i64 qe) /\ z.cell? ⟨q + 1, 1, none⟩ = some (.int .i64 qr) /\ z.rangeAt (q + 1) 2 Bv.toList /\ z.cell? ⟨q + 1, 18, none⟩ = some (.slice A2 n c2)) from by
  have d1 := b1.grown hz (by simp)
  have d3 := yy d1
  rw [hgv] at d1
  exact ⟨⟨(y8 d1).2.1, (y8 d1).2.2, d3⟩, zbs hB16 (b2.grown hz (by simp))⟩))
 have HBEG := hQ_ (rbegin_is w1 (hV.grown g1) ok hl hc hG16 gv hgv qe qr 0)
 have HFV := hQ_ (fun z : World => rforV_is z qe qr hqe hqr Bl hBl Bv hB)
 have HSN := hQ_ (fun (z : World) (hz : w1.grownBy z none) (x : Sg) (hx : x ∈ L) (D : Array Value) (hD : D = arrV .u8 (forV qe qr Bl)) (sv : Array Value) (hsv : sv = sigV x.lf (.slice x.A1 x.n1 x.c1) (.slice x.A2 x.n2 x.c2)) =>
  rsigned_is z (hV.grown (za g1 hz)) ok hG16 gv hgv x.who x.lf (forV qe qr Bl) (zbb _ _) D hD x.A1 x.A2 x.n1 x.c1 x.n2 x.c2 x.cs x.ps ((hok x hx).1.grown (za g1 hz)) ((hok x hx).2.grown (za g1 hz)) sv hsv)
 have HEN := hQ_ (fun (z : World) (hz : w1.grownBy z none) (A5 : Option Addr) (who : List Int) (c5 : Nat) (hU : IntsAt z A5 who) (hw : who.length <= 100) (h5 : who.length <= c5) => renough_is z A A5 c c5 V who (hV.grown (za g1 hz)) ok hl hc hU hw h5)
 have HLK := hQ_ (fun (z : World) (hz : w1.grownBy z none) (k : Nat) (x : Sg) (hk : L[k]? = some x) => (show ∃ b off, A2 = some ⟨b, off, none⟩ /\ z.rangeAt b (off + k * 4) x.cells.toList from by
  obtain ⟨hlt, hx⟩ := List.getElem?_eq_some_iff.1 hk
  obtain ⟨b, off, e, hc⟩ := hA (by rintro e; rw [e] at hlt; simp at hlt)
  have := hc k hlt
  rw [hx] at this
  exact ⟨b, off, e, ze this (za g1 hz)⟩))
 have HC := hQ_ (aQ hn (aQ hL (aQ (show (Tryz.prog.info? 43).map (·.size) = some gv.size by rw [hgs]; exact info18R) (aQ hB16 hG16))))
 obtain ⟨r0, hr0⟩ : ∃ r0, r0 = decide (Bl = Gl) := ⟨_, rfl⟩
 have hq9 : ∀ z, Sem.run Tryz.prog (Op.equalIn 10000 24 (.agg Bv) (.agg G)) z = .ok r0 z := fun z => by rw [hB, hG, hr0]; exact eqDK20 z _ _ hBl.1 hGl
 obtain ⟨N, hN⟩ : ∃ N, qcN V e qe qr Bl Gl L = N := ⟨_, rfl⟩
 rw [hN]
 have HN := hQ_ hN
 have HR0 := hQ_ hr0
 have HW := hQ_ (aQ hw1 (aQ hq g1))
 clear hV ok hl hc hG hGl hgv hqe hqr hBl hB hL hA hok hqv hn hG16 hB16 hgs hqs b1 b2 hr0 hN hw1 hq g1
 go_enter Tryz.func24, Tryz.ntmps24
 go_upto_region 1 with (fail)
 rw [HW.out.1, HW.out.2.1]
 obtain ⟨⟨x1, x2, x0⟩, y0, y1, y2, y3⟩ := HB.out w1 (World.grownBy.refl _ _)
 have HX0 := hQ_ x0
 clear x0 x1 x2 y2 y3
 go_wp2_with (refine wpList_load_mid rfl 43 _ rfl q 0 rfl gv.toList _ HX0.out Tryz.underlying43 rfl (by rw [Array.length_toList]; exact HC.out.2.2.1) ?_; rw [Array.toArray_toList])
 refine HBEG.out.mono ?_
 rintro e' w2 ⟨rfl, g2⟩
 have HG2 := hQ_ g2
 clear g2 y0 y1
 obtain ⟨nb, hnb⟩ : ∃ nb, rbegN V e qe qr 0 = nb := ⟨_, rfl⟩
 rw [hnb]
 by_cases hz : nb = 0
 rotate_left
 · have d1 : ((nb : Int) != 0) = true := by simp; omega
   have hnn : N = nb := by rw [<- HN.out, <- hnb]; exact qcN_beg (by rw [hnb]; exact hz)
   subst hnn
   clear hz hnb
   go_wp2_with fail
   go_ret
   exact ⟨rfl, za HW.out.2.2 HG2.out⟩
 subst hz
 have HNB := hQ_ hnb
 clear hnb
 obtain ⟨⟨x1, x2, x0⟩, y0, y1, y2, y3⟩ := HB.out w2 HG2.out
 by_cases hr : qr = 0
 · have d1 : (qr == 0) = true := by simpa using hr
   have hnn : N = if Bl = Gl /\ n = 0 then 0 else 12 := by rw [<- HN.out, qcN_first HNB.out hr, HC.out.1]
   have HY2 := hQ_ (aQ x2 y2)
   clear x0 x1 x2 y0 y2 hr
   cases r0 with
   | false =>
    have hbg : ¬ Bl = Gl := of_decide_eq_false HR0.out.symm
    rw [if_neg (fun h => hbg h.1)] at hnn
    subst hnn
    clear hbg
    go_wp2_with (first
     | (refine wpList_load_mid rfl 24 _ rfl (q + 1) 2 rfl Bv.toList _ HY2.out.2 Tryz.underlying24 rfl (by rw [Array.length_toList, HC.out.2.2.2.1]; exact sz_Dg) ?_; rw [Array.toArray_toList])
     | (refine wpList_load_mid rfl 24 _ rfl q 2 rfl G.toList _ HY2.out.1 Tryz.underlying24 rfl (by rw [Array.length_toList, HC.out.2.2.2.2]; exact sz_Dg) ?_; rw [Array.toArray_toList]))
    go_ret
    exact ⟨rfl, za HW.out.2.2 HG2.out⟩
   | true =>
    have hbg : Bl = Gl := of_decide_eq_true HR0.out.symm
    by_cases hn0 : n = 0
    · rw [if_pos ⟨hbg, hn0⟩] at hnn
      have d2 : ((n : Int) != 0) = false := by simp; omega
      subst hnn
      clear hbg hn0
      go_wp2_with (first
       | (refine wpList_load_mid rfl 24 _ rfl (q + 1) 2 rfl Bv.toList _ HY2.out.2 Tryz.underlying24 rfl (by rw [Array.length_toList, HC.out.2.2.2.1]; exact sz_Dg) ?_; rw [Array.toArray_toList])
       | (refine wpList_load_mid rfl 24 _ rfl q 2 rfl G.toList _ HY2.out.1 Tryz.underlying24 rfl (by rw [Array.length_toList, HC.out.2.2.2.2]; exact sz_Dg) ?_; rw [Array.toArray_toList]))
      go_ret
      exact ⟨rfl, za HW.out.2.2 HG2.out⟩
    · rw [if_neg (fun h => hn0 h.2)] at hnn
      have d2 : ((n : Int) != 0) = true := by simp; omega
      subst hnn
      clear hbg hn0
      go_wp2_with (first
       | (refine wpList_load_mid rfl 24 _ rfl (q + 1) 2 rfl Bv.toList _ HY2.out.2 Tryz.underlying24 rfl (by rw [Array.length_toList, HC.out.2.2.2.1]; exact sz_Dg) ?_; rw [Array.toArray_toList])
       | (refine wpList_load_mid rfl 24 _ rfl q 2 rfl G.toList _ HY2.out.1 Tryz.underlying24 rfl (by rw [Array.length_toList, HC.out.2.2.2.2]; exact sz_Dg) ?_; rw [Array.toArray_toList]))
      go_ret
      exact ⟨rfl, za HW.out.2.2 HG2.out⟩
 have d1 : (qr == 0) = false := by simpa using hr
 have HNQ := hQ_ (show holdN (ug V (fun _ => forV qe qr Bl) id L) = N from by rw [<- HN.out]; exact (qcN_turn HNB.out hr).symm)
 clear x0 x1 x2 y0 y2 hr hq9
 obtain ⟨i1, hi1, hz0, hz1, hz2⟩ := info_parts int_info
 have HI1 := hQ_ (aQ hi1 (aQ hz0 (aQ hz1 hz2)))
 obtain ⟨SZ, hSZ, hzs⟩ := zSGo
 have HSZ := hQ_ hSZ
 obtain ⟨D0, hD0⟩ : ∃ D0, w2.heap.size = D0 := ⟨_, rfl⟩
 obtain ⟨W3, hW3⟩ : ∃ W3, w2.alloc (.cells #[] 3) = W3 := ⟨_, rfl⟩
 have g3 : w2.grownBy W3 none := by rw [<- hW3]; exact gQ
 have o3 : W3.ownsRow D0 3 1 (.slice (some ⟨D0, 0, none⟩) 0 0) 0 [] := by rw [<- hW3, <- hD0]; exact World.ownsRow_made w2 #[] 0 (Nat.le_refl _) (Nat.zero_le _) rfl
 have H3 := hQ_ (aQ g3 (aQ o3 (aQ hD0 (aQ hW3 (show w2.heap.size <= D0 by rw [hD0]; exact Nat.le_refl _)))))
 clear hi1 hz0 hz1 hz2 g3 o3 hSZ
 go_upto_region 9 with (fail)
 try rw [H3.out.2.2.2.1]
 try rw [H3.out.2.2.1]
 have y33 := H3.out.1.cell y3 (by simp)
 clear y1 y3 hD0 hW3
 go_wp2_with fail
 clear y33
 obtain ⟨dv, hdv⟩ : ∃ dv, dv = arrV .u8 (forV qe qr Bl) := ⟨_, rfl⟩
 rw [<- hdv] at HFV
 have HDV := hQ_ hdv
 have hdgd := HC.out.2.1
 clear hdv
 go_loopw [36, 6] (fun i out wr => ∃ k : Nat, k <= n /\ i = .int .i64 (k : Int) /\ wr.ownsRow D0 3 1 out k ((whoL id (L.take k)).map (Value.int .i64)) /\ w2.grownBy wr none /\ goodTo V (fun _ => forV qe qr Bl) id L k) (fun i _ _ => n - (intOf i).toNat)
 case atStart => exact ⟨0, Nat.zero_le _, rfl, by simpa [whoL] using H3.out.2.1, H3.out.1, fun j hj => by omega⟩
 case round =>
  obtain ⟨k, hk, hi, hown, hKr, hgt⟩ := hrel
  obtain ⟨I, hI⟩ : ∃ I : Int, I = (k : Int) := ⟨_, rfl⟩
  rw [<- hI] at hi
  subst hi
  rename World => wr
  by_cases hlt : k < n
  · have hlt' : k < L.length := by rw [HC.out.1]; exact hlt
    have e1 : decide (I < (n : Int)) = true := by simp; omega
    have hIV : I < (n : Int) := by omega
    have hI0 : 0 <= I /\ I < 1000 := by omega
    have hkI : I.toNat = k := by omega
    obtain ⟨x, hxe⟩ : ∃ x, L[k] = x := ⟨_, rfl⟩
    have hmem : x ∈ L := by rw [<- hxe]; exact List.getElem_mem hlt'
    have hLk : L[k]? = some x := by rw [List.getElem?_eq_getElem hlt', hxe]
    obtain ⟨b3, off3, hA2, r1⟩ := HLK.out wr (za HG2.out hKr) k x hLk
    rw [<- hkI] at r1
    obtain ⟨cs, hcs⟩ : ∃ cs, cs = x.cells := ⟨_, rfl⟩
    obtain ⟨sv, hsv⟩ : ∃ sv, sv = sigV x.lf (.slice x.A1 x.n1 x.c1) (.slice x.A2 x.n2 x.c2) := ⟨_, rfl⟩
    have hc4 : cs.size = 4 := by rw [hcs]; rfl
    have hc1 : (cs.all fun v => v.oneCell') = true := by rw [hcs]; exact sg_one x
    rw [<- hcs] at r1
    obtain ⟨o, ho⟩ : ∃ o, wr.heap.size = o := ⟨_, rfl⟩
    obtain ⟨Wa, hWa⟩ : ∃ Wa, Wa = (wr.alloc (.cells SZ 89)).setRow o cs := ⟨_, rfl⟩
    have hG0 : wr.grownBy Wa none := by rw [hWa]; exact zc (World.grownBy_alloc wr _ none) (.inl (by rw [ho]; exact Nat.le_refl _)) cs
    have bS : Blk Wa o 89 cs := by rw [hWa, <- ho]; exact (Blk.new wr 89 SZ).row cs
    have rS := yy bS
    obtain ⟨who, hwho⟩ : ∃ who, who = x.who := ⟨_, rfl⟩
    have c0 : Wa.cell? ⟨o, 0, none⟩ = some (.int .i64 who) := by have := rS 0 (.int .i64 who) (by rw [hcs, hwho]; rfl); simpa using this
    have rsv : Wa.rangeAt o 1 sv.toList := by
     have e9 : cs.toList = [.int .i64 x.who] ++ (sv.toList ++ []) := by rw [hcs, hsv]; simp [Sg.cells, Sg.sig]
     rw [e9] at rS
     have := zx rS
     simpa using this
    have gwa : w1.grownBy Wa none := za (za HG2.out hKr) hG0
    obtain ⟨⟨x1, x2, x0⟩, y0, y1, y2, y3⟩ := HB.out Wa gwa
    obtain ⟨rb, hrb⟩ : ∃ rb, rb = holdsB V who (forV qe qr Bl) x.lf x.n1 x.n2 x.cs x.ps := ⟨_, rfl⟩
    have T1 := hQ_ (show ∀ z : Gr Wa, Calls Tryz.prog 41 #[.int .i64 qe, .int .i64 qr, .agg Bv] z.1 fun e w' => e = .returned (.agg dv) /\ z.1.grownBy w' none from fun z => HFV.out z.1)
    have T2 := hQ_ (show ∀ z : Gr Wa, Calls Tryz.prog 40 #[.agg gv, .int .i64 who, .agg dv, .agg sv] z.1 fun e w' => e = .returned (.bool rb) /\ z.1.grownBy w' none from fun z => by
     rw [hrb, hwho]
     exact HSN.out z.1 (za gwa z.2) x hmem dv HDV.out sv hsv)
    have V1 := hQ_ (show ∀ z : Gr Wa, Sem.run Tryz.prog (Instr.loadAt 43 (.pointer (some ⟨q, 0, none⟩))) z.1 = .ok (.agg gv) z.1 from fun z => ya z.1 q 0 43 gv _ (ze x0 z.2) Tryz.underlying43 rfl HC.out.2.2.1)
    have V2 := hQ_ (show ∀ z : Gr Wa, Sem.run Tryz.prog (Instr.loadAt 24 (.pointer (some ⟨q + 1, 2, none⟩))) z.1 = .ok (.agg Bv) z.1 from fun z => ya z.1 (q + 1) 2 24 Bv _ (ze y2 z.2) Tryz.underlying24 rfl (by rw [HC.out.2.2.2.1]; exact sz_Dg))
    have V3 := hQ_ (show ∀ z : Gr Wa, Sem.run Tryz.prog (Instr.loadAt 87 (.pointer (some ⟨o, 1, none⟩))) z.1 = .ok (.agg sv) z.1 from fun z => ya z.1 o 1 87 sv _ (ze rsv z.2) Tryz.underlying87 rfl (by rw [hsv]; exact info3s))
    have hstep : stepOk V (fun _ => forV qe qr Bl) id L k ↔ rb = true /\ ∀ y, 0 < k -> L[k - 1]? = some y -> y.who < who := by
     constructor
     · intro h
       have := h x hLk
       refine ⟨by rw [hrb, hwho]; exact this.1, fun y h0 hy => by rw [hwho]; exact this.2 y h0 hy⟩
     · rintro ⟨h1, h2⟩ x' hx'
       rw [hLk] at hx'
       obtain rfl := Option.some.inj hx'
       exact ⟨by rw [hrb, hwho] at h1; exact h1, fun y h0 hy => by have := h2 y h0 hy; rw [hwho] at this; exact this⟩
    have hbad : ¬ stepOk V (fun _ => forV qe qr Bl) id L k -> N = 12 := fun h => by rw [<- HNQ.out, quorum_bad hlt' h]; rfl
    have htk : whoL id (L.take (k + 1)) = whoL id (L.take k) ++ [who] := by rw [<- List.take_append_getElem hlt', whoL, List.map_append, hxe, hwho]; rfl
    have HC4 := hQ_ (aQ hc4 (aQ hc1 (aQ r1 (show SZ.size = cs.size by rw [hc4]; exact HSZ.out))))
    have HWa := hQ_ (aQ ho (aQ hWa (aQ hG0 (za hKr hG0))))
    have HOW := hQ_ hown
    have HGT := hQ_ hgt
    have HTK := hQ_ (aQ htk (aQ hI hlt))
    have HST := hQ_ hstep
    have HBAD := hQ_ hbad
    have HC0 := hQ_ c0
    have k0 := Gr.cell c0
    have k1 := Gr.cell y3
    have k2 := Gr.cell y0
    have k3 := Gr.cell y1
    have fin : ∀ W7, Wa.grownBy W7 none -> w.grownBy W7 none := fun W7 h => za HW.out.2.2 (za gwa h)
    have FIN := hQ_ fin
    clear fin r1 hc4 hc1 hcs hG0 bS rS rsv gwa x0 x1 x2 y0 y1 y2 y3 hrb hxe hmem hwho hsv hown hgt htk hbad hstep hKr hWa c0
    rw [hA2]
    rw [hA2] at k1
    have prevC : 0 < k -> ∃ y, L[k - 1]? = some y /\ Wa.cell? ⟨b3, off3 + (I.toNat - 1) * 4, none⟩ = some (.int .i64 y.who) := fun h0 => by
     have hl1 : k - 1 < L.length := by omega
     obtain ⟨b4, off4, h4, r4⟩ := HLK.out Wa (za HG2.out HWa.out.2.2.2) (k - 1) L[k - 1] (List.getElem?_eq_getElem hl1)
     rw [hA2] at h4
     obtain ⟨rfl, rfl⟩ : b3 = b4 /\ off3 = off4 := by
      have := Option.some.inj h4
      exact ⟨congrArg Addr.block this, congrArg Addr.off this⟩
     refine ⟨L[k - 1], List.getElem?_eq_getElem hl1, ?_⟩
     have := r4 0 (.int .i64 L[k - 1].who) rfl
     rw [show I.toNat - 1 = k - 1 by omega]
     simpa using this
    have PRV := hQ_ prevC
    clear prevC hlt' hLk hkI hI hlt ho
    go_upto_region 12 with (first
     | (refine wpList_load_mid rfl 89 _ rfl b3 (off3 + I.toNat * 4) rfl cs.toList _ HC4.out.2.2.1 Tryz.underlying89 rfl (by rw [Array.length_toList, HC4.out.1]; exact info4s) ?_; rw [Array.toArray_toList])
     | (refine wpList_store_row rfl 89 _ _ rfl wr.heap.size cs rfl rfl 89 _ (heap_alloc_new wr _) (by rw [HC4.out.1]; exact info4s) HC4.out.2.2.2 HC4.out.2.1 ?_))
    rw [HWa.out.1, <- HWa.out.2.1]
    try simp only [Act.put]
    by_cases h0 : 0 < k
    · obtain ⟨y, hy, cy⟩ := PRV.out h0
      have d2 : decide (0 < I) = true := by have := HTK.out.2.1; simp; omega
      have hJ0 : 0 <= I - 1 /\ I - 1 < (n : Int) := by have := HTK.out.2.1; omega
      have hw1 := w64 (I - 1) ⟨by omega, by omega⟩
      have hJ1 := hJ0.1
      have hJ2 := hJ0.2
      have k4 := Gr.cell cy
      clear cy
      by_cases hle : who <= y.who
      · have d3 : decide (who <= y.who) = true := by simpa using hle
        have hnn : N = 12 := HBAD.out (fun hs => by have := (HST.out.1 hs).2 y h0 hy; omega)
        subst hnn
        obtain ⟨yw, hyw⟩ : ∃ yw, y.who = yw := ⟨_, rfl⟩
        rw [hyw] at k4 d3
        clear hle hy h0 hyw
        refine zj (by kernel_rfl) (by kernel_rfl) ?_
        repeat (first
         | go_big_quiet_skip
         | (go_big_quiet_want; first
          | (refine zg 43 _ ⟨q, 0, none⟩ (.agg gv) rfl rfl (by rintro _ ⟨z, rfl⟩; exact V1.out z) ?_; simp only [Act.put, List.setIfInBounds_toArray, List.set_cons_zero, List.set_cons_succ]; go_big_quiet_on)
          | (refine zg 24 _ ⟨q + 1, 2, none⟩ (.agg Bv) rfl rfl (by rintro _ ⟨z, rfl⟩; exact V2.out z) ?_; simp only [Act.put, List.setIfInBounds_toArray, List.set_cons_zero, List.set_cons_succ]; go_big_quiet_on)
          | (refine zg 87 _ ⟨o, 1, none⟩ (.agg sv) rfl rfl (by rintro _ ⟨z, rfl⟩; exact V3.out z) ?_; simp only [Act.put, List.setIfInBounds_toArray, List.set_cons_zero, List.set_cons_succ]; go_big_quiet_on)
          | (go_big_quiet_op; first | go_big_quiet_on | go_big_quiet_call (first | (go_at_call 41; with_reducible exact Calls.grown _ (T1.out _)) | (go_at_call 40; with_reducible exact Calls.grown _ (T2.out _))))))
        refine wpQuiet_nil ?_
        rintro w7 ⟨⟨_, k7⟩, rfl⟩
        have HF7 := hQ_ (FIN.out _ k7)
        clear k7 k0 k1 k2 k3 k4
        go_wp2_with fail
        go_ret
        exact ⟨rfl, HF7.out⟩
      · have d3 : decide (who <= y.who) = false := by simpa using hle
        have HPV := hQ_ (show ∀ y', 0 < k -> L[k - 1]? = some y' -> y'.who < who from fun y' _ h' => by
         rw [hy] at h'
         obtain rfl := Option.some.inj h'
         omega)
        obtain ⟨yw, hyw⟩ : ∃ yw, y.who = yw := ⟨_, rfl⟩
        rw [hyw] at k4 d3
        clear hle hy h0 hyw
        cases rb with
        | false =>
         have hnn : N = 12 := HBAD.out (fun hs => by have := (HST.out.1 hs).1; cases this)
         subst hnn
         refine zj (by kernel_rfl) (by kernel_rfl) ?_
         repeat (first
          | go_big_quiet_skip
          | (go_big_quiet_want; first
           | (refine zg 43 _ ⟨q, 0, none⟩ (.agg gv) rfl rfl (by rintro _ ⟨z, rfl⟩; exact V1.out z) ?_; simp only [Act.put, List.setIfInBounds_toArray, List.set_cons_zero, List.set_cons_succ]; go_big_quiet_on)
           | (refine zg 24 _ ⟨q + 1, 2, none⟩ (.agg Bv) rfl rfl (by rintro _ ⟨z, rfl⟩; exact V2.out z) ?_; simp only [Act.put, List.setIfInBounds_toArray, List.set_cons_zero, List.set_cons_succ]; go_big_quiet_on)
           | (refine zg 87 _ ⟨o, 1, none⟩ (.agg sv) rfl rfl (by rintro _ ⟨z, rfl⟩; exact V3.out z) ?_; simp only [Act.put, List.setIfInBounds_toArray, List.set_cons_zero, List.set_cons_succ]; go_big_quiet_on)
           | (go_big_quiet_op; first | go_big_quiet_on | go_big_quiet_call (first | (go_at_call 41; with_reducible exact Calls.grown _ (T1.out _)) | (go_at_call 40; with_reducible exact Calls.grown _ (T2.out _))))))
         refine wpQuiet_nil ?_
         rintro w7 ⟨⟨_, k7⟩, rfl⟩
         have HF7 := hQ_ (FIN.out _ k7)
         clear k7 k0 k1 k2 k3 k4
         go_wp2_with fail
         go_ret
         exact ⟨rfl, HF7.out⟩
        | true =>
         refine zj (by kernel_rfl) (by kernel_rfl) ?_
         repeat (first
          | go_big_quiet_skip
          | (go_big_quiet_want; first
           | (refine zg 43 _ ⟨q, 0, none⟩ (.agg gv) rfl rfl (by rintro _ ⟨z, rfl⟩; exact V1.out z) ?_; simp only [Act.put, List.setIfInBounds_toArray, List.set_cons_zero, List.set_cons_succ]; go_big_quiet_on)
           | (refine zg 24 _ ⟨q + 1, 2, none⟩ (.agg Bv) rfl rfl (by rintro _ ⟨z, rfl⟩; exact V2.out z) ?_; simp only [Act.put, List.setIfInBounds_toArray, List.set_cons_zero, List.set_cons_succ]; go_big_quiet_on)
           | (refine zg 87 _ ⟨o, 1, none⟩ (.agg sv) rfl rfl (by rintro _ ⟨z, rfl⟩; exact V3.out z) ?_; simp only [Act.put, List.setIfInBounds_toArray, List.set_cons_zero, List.set_cons_succ]; go_big_quiet_on)
           | (go_big_quiet_op; first | go_big_quiet_on | go_big_quiet_call (first | (go_at_call 41; with_reducible exact Calls.grown _ (T1.out _)) | (go_at_call 40; with_reducible exact Calls.grown _ (T2.out _))))))
         refine wpQuiet_nil ?_
         rintro w7 ⟨⟨_, k7⟩, rfl⟩
         have c07 := k7.cell HC0.out (by simp)
         clear k0 k1 k2 k3 k4
         have HO1 := hQ_ (show (Go.World.alloc _ (.cells #[.int .i64 who] 3)).ownsRow D0 3 1 _ k ((whoL id (L.take k)).map (Value.int .i64)) from (vt HOW.out (za HWa.out.2.2.1 k7)).alloc _)
         rename World => w8
         have HO2 := hQ_ (fun (j : Nat) (u : Value) (hu : [Value.int .i64 who][j]? = some u) => (show (w8.alloc (.cells #[.int .i64 who] 3)).cell? ((⟨w8.heap.size, 0, none⟩ : Addr).add j) = some u from by rw [zbj, (Blk.new w8 3 #[.int .i64 who]).cell j]; simpa using hu))
         have HK7 := hQ_ (aQ k7 (za HWa.out.2.2.2 k7))
         have hsz := H3.out.2.2.2.2
         clear k7
         go_wp2_with (at_builtin; refine wpList_append_own _ rfl _ _ 102 rfl D0 3 i1 (.int .i64 0) 1 8 Tryz.underlying102 HI1.out.1 HI1.out.2.1 HI1.out.2.2.1 HI1.out.2.2.2 rfl (by decide) _ _ _ rfl HO1.out ⟨w8.heap.size, 0, none⟩ 1 1 [.int .i64 who] rfl rfl (fun j u hu => HO2.out j u hu) (by simp [Value.oneCell']) (by simp only [maxLen]; omega) (by omega) (by have := HK7.out.2.size; have := H3.out.2.2.1; rw [World.size_alloc]; omega) ?_; intro v13 W13 o13 g13 _; have q13 := hQ_ (aQ o13 (ul (za HK7.out.2 (World.grownBy_alloc w8 _ none)) g13 HO1.out (by exact H3.out.2.2.2.2))); clear o13 g13)
         have hw2 := w64 (I + 1) ⟨by omega, by omega⟩
         go_wp2_with fail
         go_roundw
         case rel =>
          obtain ⟨n1, n3, n4⟩ := HTK.out
          refine ⟨k + 1, by omega, by rw [n3]; rfl, ?_, q13.out.2, zcj HGT.out (HST.out.2 ⟨rfl, HPV.out⟩)⟩
          rw [n1, List.map_append]
          exact q13.out.1
         case measure => obtain ⟨n1, n3, n4⟩ := HTK.out; simp only [intOf]; omega
    · have d2 : decide (0 < I) = false := by have := HTK.out.2.1; simp; omega
      have HPV := hQ_ (show ∀ y', 0 < k -> L[k - 1]? = some y' -> y'.who < who from fun y' h' _ => absurd h' h0)
      clear h0
      cases rb with
      | false =>
       have hnn : N = 12 := HBAD.out (fun hs => by have := (HST.out.1 hs).1; cases this)
       subst hnn
       refine zj (by kernel_rfl) (by kernel_rfl) ?_
       repeat (first
        | go_big_quiet_skip
        | (go_big_quiet_want; first
         | (refine zg 43 _ ⟨q, 0, none⟩ (.agg gv) rfl rfl (by rintro _ ⟨z, rfl⟩; exact V1.out z) ?_; simp only [Act.put, List.setIfInBounds_toArray, List.set_cons_zero, List.set_cons_succ]; go_big_quiet_on)
         | (refine zg 24 _ ⟨q + 1, 2, none⟩ (.agg Bv) rfl rfl (by rintro _ ⟨z, rfl⟩; exact V2.out z) ?_; simp only [Act.put, List.setIfInBounds_toArray, List.set_cons_zero, List.set_cons_succ]; go_big_quiet_on)
         | (refine zg 87 _ ⟨o, 1, none⟩ (.agg sv) rfl rfl (by rintro _ ⟨z, rfl⟩; exact V3.out z) ?_; simp only [Act.put, List.setIfInBounds_toArray, List.set_cons_zero, List.set_cons_succ]; go_big_quiet_on)
         | (go_big_quiet_op; first | go_big_quiet_on | go_big_quiet_call (first | (go_at_call 41; with_reducible exact Calls.grown _ (T1.out _)) | (go_at_call 40; with_reducible exact Calls.grown _ (T2.out _))))))
       refine wpQuiet_nil ?_
       rintro w7 ⟨⟨_, k7⟩, rfl⟩
       have HF7 := hQ_ (FIN.out _ k7)
       clear k7 k0 k1 k2 k3
       go_wp2_with fail
       go_ret
       exact ⟨rfl, HF7.out⟩
      | true =>
       refine zj (by kernel_rfl) (by kernel_rfl) ?_
       repeat (first
        | go_big_quiet_skip
        | (go_big_quiet_want; first
         | (refine zg 43 _ ⟨q, 0, none⟩ (.agg gv) rfl rfl (by rintro _ ⟨z, rfl⟩; exact V1.out z) ?_; simp only [Act.put, List.setIfInBounds_toArray, List.set_cons_zero, List.set_cons_succ]; go_big_quiet_on)
         | (refine zg 24 _ ⟨q + 1, 2, none⟩ (.agg Bv) rfl rfl (by rintro _ ⟨z, rfl⟩; exact V2.out z) ?_; simp only [Act.put, List.setIfInBounds_toArray, List.set_cons_zero, List.set_cons_succ]; go_big_quiet_on)
         | (refine zg 87 _ ⟨o, 1, none⟩ (.agg sv) rfl rfl (by rintro _ ⟨z, rfl⟩; exact V3.out z) ?_; simp only [Act.put, List.setIfInBounds_toArray, List.set_cons_zero, List.set_cons_succ]; go_big_quiet_on)
         | (go_big_quiet_op; first | go_big_quiet_on | go_big_quiet_call (first | (go_at_call 41; with_reducible exact Calls.grown _ (T1.out _)) | (go_at_call 40; with_reducible exact Calls.grown _ (T2.out _))))))
       refine wpQuiet_nil ?_
       rintro w7 ⟨⟨_, k7⟩, rfl⟩
       have c07 := k7.cell HC0.out (by simp)
       clear k0 k1 k2 k3
       have HO1 := hQ_ (show (Go.World.alloc _ (.cells #[.int .i64 who] 3)).ownsRow D0 3 1 _ k ((whoL id (L.take k)).map (Value.int .i64)) from (vt HOW.out (za HWa.out.2.2.1 k7)).alloc _)
       rename World => w8
       have HO2 := hQ_ (fun (j : Nat) (u : Value) (hu : [Value.int .i64 who][j]? = some u) => (show (w8.alloc (.cells #[.int .i64 who] 3)).cell? ((⟨w8.heap.size, 0, none⟩ : Addr).add j) = some u from by rw [zbj, (Blk.new w8 3 #[.int .i64 who]).cell j]; simpa using hu))
       have HK7 := hQ_ (aQ k7 (za HWa.out.2.2.2 k7))
       have hsz := H3.out.2.2.2.2
       clear k7
       go_wp2_with (at_builtin; refine wpList_append_own _ rfl _ _ 102 rfl D0 3 i1 (.int .i64 0) 1 8 Tryz.underlying102 HI1.out.1 HI1.out.2.1 HI1.out.2.2.1 HI1.out.2.2.2 rfl (by decide) _ _ _ rfl HO1.out ⟨w8.heap.size, 0, none⟩ 1 1 [.int .i64 who] rfl rfl (fun j u hu => HO2.out j u hu) (by simp [Value.oneCell']) (by simp only [maxLen]; omega) (by omega) (by have := HK7.out.2.size; have := H3.out.2.2.1; rw [World.size_alloc]; omega) ?_; intro v13 W13 o13 g13 _; have q13 := hQ_ (aQ o13 (ul (za HK7.out.2 (World.grownBy_alloc w8 _ none)) g13 HO1.out (by exact H3.out.2.2.2.2))); clear o13 g13)
       have hw2 := w64 (I + 1) ⟨by omega, by omega⟩
       go_wp2_with fail
       go_roundw
       case rel =>
        obtain ⟨n1, n3, n4⟩ := HTK.out
        refine ⟨k + 1, by omega, by rw [n3]; rfl, ?_, q13.out.2, zcj HGT.out (HST.out.2 ⟨rfl, HPV.out⟩)⟩
        rw [n1, List.map_append]
        exact q13.out.1
       case measure => obtain ⟨n1, n3, n4⟩ := HTK.out; simp only [intOf]; omega
  · have e1 : decide (I < (n : Int)) = false := by simp; omega
    obtain rfl : k = n := by omega
    have hlen := HC.out.1
    rw [<- hlen, List.take_length, hlen] at hown
    obtain ⟨A5, c5, hv5, hc5, hi5⟩ := own_ints hown
    subst hv5
    have hwlen : (whoL id L).length = L.length := by simp [whoL]
    have hnn : N = holdN (u1 V (whoL id L)) := by rw [<- HNQ.out, quorum_all (by rw [hlen]; exact hgt)]
    have HE := hQ_ (HEN.out wr (za HG2.out hKr) A5 (whoL id L) c5 hi5 (by rw [hwlen, hlen]; exact HC.out.2.1) hc5)
    obtain ⟨⟨x1, x2, x0⟩, y0, y1, y2, y3⟩ := HB.out wr (za HG2.out hKr)
    have HFG := hQ_ (za HW.out.2.2 (za HG2.out hKr))
    obtain ⟨wl, hwl⟩ : ∃ wl, (whoL id L).length = wl := ⟨_, rfl⟩
    obtain ⟨rb, hrb⟩ : ∃ rb, u1 V (whoL id L) = rb := ⟨_, rfl⟩
    rw [hwl] at HE ⊢
    rw [hrb] at HE hnn
    clear hown hi5 hc5 hwlen hgt hKr hI hlt hwl hrb x0 x2 y0 y1 y2 y3 hlen
    go_wp2_with fail
    refine HE.out.mono ?_
    rintro e' w9 ⟨rfl, g9⟩
    have HF9 := hQ_ (za HFG.out g9)
    clear g9 x1
    cases rb
    · subst hnn
      go_wp2_with fail
      go_ret
      exact ⟨rfl, HF9.out⟩
    · subst hnn
      go_wp2_with fail
      go_ret
      exact ⟨rfl, HF9.out⟩
end
end
section
attribute [local go_sem] Oper.semAt_some
theorem zd5 (t : Tx) (k : Nat) (l : List UInt8) : sTx t (k + 1, l) = (k + 1, l) := by
 unfold sTx sBytes
 split
 · exact zdl _ k l
 · rw [u4, zc8]
theorem sVd_errO (x : Vd) (k : Nat) (l : List UInt8) : sVd x (k + 1, l) = (k + 1, l) := by
 unfold sVd
 rw [zan, u4]
theorem sTx_big {t : Tx} (h : 16 < t.l.length) (l : List UInt8) : sTx t (0, l) = (1, l) := by
 unfold sTx sBytes
 rw [if_pos (.inl (by omega))]
 rfl
theorem sTx_fit {t : Tx} (h : ¬ 16 < t.l.length) (l : List UInt8) : sTx t (0, l) = sFix t.l (sNum (t.l.length : Int) 2 (0, l)) := by
 unfold sTx sBytes
 rw [if_neg (by omega)]
theorem sNum_two {n : Nat} (h : ¬ 16 < n) (l : List UInt8) : ∃ l2, sNum (n : Int) 2 (0, l) = (0, l2) := by
 have hb : badNum (n : Int) 2 = false := by
  unfold badNum
  have h1 : decide ((n : Int) < 0) = false := by simp
  have h2 : ((n : Int) / 2 ^ (8 * (2 : Int).toNat)) = 0 := Int.ediv_eq_zero_of_lt (by omega) (by
   have : (2 : Int) ^ (8 * (2 : Int).toNat) = 65536 := by decide
   omega)
  rw [h1, h2]
  rfl
 unfold sNum sFix
 rw [if_neg (by rw [hb]; simp)]
 exact ⟨_, rfl⟩
theorem bytesAt_keptO {w0 w : World} {A : Option Addr} {l : List UInt8} (h : zt w0 A l) (k : Kept (fun k => w0.heap.size <= k) w0 w) : zt w A l := fun hne => by
 obtain ⟨ad, e, hc⟩ := h hne
 refine ⟨ad, e, fun j hj => ?_⟩
 have hb := World.block_lt_of_cell? w0 _ (hc j hj)
 exact k.cell (hc j hj) (fun hle => absurd hb (Nat.not_lt.2 hle))
theorem zVdo : ∃ Z : Array Value, Z.size = 17 /\ ∀ w : World, Sem.run Tryz.prog (zeroValue 55) w = .ok (.agg Z) w := ⟨zv_Vd, rfl, zz_Vd⟩
theorem sQc_addsO {w : World} {q : Qc} (h : QcFit w q) (s : WSt) : (sQc q s).2.length <= s.2.length + 2000000 := by
 have e : sQc q s = sPut q.L.length ((7 : Nat) : Int) (sAll sSg q.L) (sDig q.Bl (sNum q.r 6 (sNum q.e 4 s))) := rfl
 rw [e, <- za2 zd6 q.L 7 (by omega)]
 have h1 := sgs_addsO (w := w) q.L h.2.2.2.1 (sMany q.L.length ((7 : Nat) : Int) (sDig q.Bl (sNum q.r 6 (sNum q.e 4 s))))
 have h2 := zac q.L.length ((7 : Nat) : Int) (sDig q.Bl (sNum q.r 6 (sNum q.e 4 s)))
 have h3 := ym h.2.1.1 (sNum q.r 6 (sNum q.e 4 s))
 have h4 := vo (z := 6) (k := 6) rfl q.r (sNum q.e 4 s)
 have h5 := vo (z := 4) (k := 4) rfl q.e s
 have h6 := h.2.2.2.2
 omega
def BkFit (w : World) (b : Bk) : Prop := (b.e <= 9223372036854775807 /\ b.r <= 9223372036854775807) /\ isDig b.P /\ QcFit w b.q /\ (RowAt w b.A Tx.cells 1 b.T /\ ∀ t ∈ b.T, zt w t.B t.l /\ t.l.length <= 1000) /\ (VdsAt w b.A2 b.V /\ ∀ x ∈ b.V, isDig x.key /\ x.p <= 9223372036854775807) /\ b.T.length <= 1000 /\ b.V.length <= 1000
section
variable {w0 w w' w'' : World} {g : Nat} {F : Nat -> Prop} {s s' : WSt}
theorem oblk_st (w : World) (F : Nat -> Prop) (s : WSt) (h : OI w0 g F s w) (hs : s.2.length <= 30000000) (b : Bk) (hb : BkFit w0 b) (bv : Array Value) (hbv : bv = b.val) :
    Calls Tryz.prog 45 #[.pointer (some ⟨g, 0, none⟩), .agg bv] w fun e w' => e = .returned (.tuple #[]) /\ OP w0 g F (sBk b s) w w' := by
 obtain ⟨i0, hi00, hz00, hz01, hz02⟩ := info_parts zdg
 obtain ⟨Z, hZs, hz⟩ := zVdo
 obtain ⟨n, hn⟩ : ∃ n, b.T.length = n := ⟨_, rfl⟩
 obtain ⟨m, hm⟩ : ∃ m, b.V.length = m := ⟨_, rfl⟩
 obtain ⟨kd, hkd⟩ : ∃ kd, kd = arrV .u8 b.P := ⟨_, rfl⟩
 obtain ⟨qv, hqv⟩ : ∃ qv, qv = b.q.val := ⟨_, rfl⟩
 have hks : kd.size = 16 := by rw [hkd, zf, hb.2.1.1]
 have hqs : qv.size = 19 := by rw [hqv]; simp [Qc.val, zf, hb.2.2.1.2.1.1]
 obtain ⟨W1, hW1⟩ : ∃ W1, w.alloc (.cells bv 32) = W1 := ⟨_, rfl⟩
 have g1 : w.grownBy W1 none := by rw [<- hW1]; exact gQ
 have bx : Blk W1 w.heap.size 32 bv := by rw [<- hW1]; exact Blk.new w _ _
 have hi := h.opened g1
 have HCl := hQ_ (fun (w2 : World) (s2 : WSt) (P : OP w0 g (fun k => F k /\ k < w.heap.size) s2 W1 w2) => OP.closed (F := F) h g1 P)
 have HB := hQ_ (fun (V : World) (s' : WSt) (P : OP w0 g (fun k => F k /\ k < w.heap.size) s' W1 V) => (show V.cell? ⟨w.heap.size, 0, none⟩ = some (.int .i64 b.e) /\ V.cell? ⟨w.heap.size, 1, none⟩ = some (.int .i64 b.r) /\ V.rangeAt w.heap.size 2 kd.toList /\ V.rangeAt w.heap.size 18 qv.toList /\ V.cell? ⟨w.heap.size, 37, none⟩ = some (.slice b.A n b.c) /\ V.cell? ⟨w.heap.size, 38, none⟩ = some (.slice b.A2 m b.c2) from by
  have bx : Blk V w.heap.size 32 bv := bx.kept P.fine (fun h => absurd h.2 (by omega))
  have r := zd bx
  have hcl : bv.toList = [.int .i64 b.e, .int .i64 b.r] ++ (kd.toList ++ (qv.toList ++ [.slice b.A n b.c, .slice b.A2 m b.c2])) := by rw [hbv, hkd, hqv]; simp [Bk.val, hn, hm]
  have hcl2 : bv.toList = ([.int .i64 b.e, .int .i64 b.r] ++ kd.toList) ++ (qv.toList ++ [.slice b.A n b.c, .slice b.A2 m b.c2]) := by rw [hcl]; simp
  have hl18 : ([Value.int .i64 b.e, Value.int .i64 b.r] ++ kd.toList).length = 18 := by simp [hks]
  refine ⟨?_, ?_, ?_, ?_, ?_, ?_⟩
  · have := r 0 (.int .i64 b.e) (by rw [hcl]; rfl); simpa using this
  · have := r 1 (.int .i64 b.r) (by rw [hcl]; rfl); simpa using this
  · rw [hcl] at r; have := zx r; simpa using this
  · rw [hcl2] at r; have := zx r; rw [hl18] at this; simpa using this
  · have := r 37 (.slice b.A n b.c) (by rw [hcl2, List.getElem?_append_right (by rw [hl18]; omega), hl18, List.getElem?_append_right (by simp [hqs])]; simp [hqs]); simpa using this
  · have := r 38 (.slice b.A2 m b.c2) (by rw [hcl2, List.getElem?_append_right (by rw [hl18]; omega), hl18, List.getElem?_append_right (by simp [hqs])]; simp [hqs]); simpa using this))
 have HRT := hQ_ (fun (V : World) (hV : Kept (fun k => w0.heap.size <= k) w0 V) (k : Nat) (x : Tx) (hk : b.T[k]? = some x) => (show ∃ ad, b.A = some ad /\ V.cell? (ad.add k) = some (.slice x.B x.l.length x.c) from by
  obtain ⟨hlt, hx⟩ := List.getElem?_eq_some_iff.1 hk
  obtain ⟨b0, off, e, hc⟩ := hb.2.2.2.1.1 (by rintro e; rw [e] at hlt; simp at hlt)
  have := zap (hc k hlt) hV
  rw [hx] at this
  have := this 0 _ rfl
  exact ⟨_, e, by rw [Go.WideShapes.add_plain]; simpa using this⟩))
 have HRV := hQ_ (fun (V : World) (hV : Kept (fun k => w0.heap.size <= k) w0 V) (k : Nat) (x : Vd) (hk : b.V[k]? = some x) => (show ∃ b0 off, b.A2 = some ⟨b0, off, none⟩ /\ V.rangeAt b0 (off + k * 17) x.cells.toArray.toList from by
  obtain ⟨hlt, hx⟩ := List.getElem?_eq_some_iff.1 hk
  obtain ⟨b0, off, e, hc⟩ := hb.2.2.2.2.1.1 (by rintro e; rw [e] at hlt; simp at hlt)
  have := hc k hlt
  rw [hx] at this
  exact ⟨b0, off, e, zap this hV⟩))
 have HBT := hQ_ (fun (V : World) (hV : Kept (fun k => w0.heap.size <= k) w0 V) (t : Tx) (ht : t ∈ b.T) => bytesAt_keptO (hb.2.2.2.1.2 t ht).1 hV)
 have HI := hQ_ (aQ hi00 (aQ hz00 (aQ hz01 hz02)))
 have HC := hQ_ (aQ hn (aQ hm (aQ hb (aQ hks (aQ hkd (aQ hqs hqv))))))
 have HE := hQ_ (show sAll sVd b.V (sMany m 7 (sAll sTx b.T (sMany n 4 (sQc b.q (sDig b.P (sNum b.r 6 (sNum b.e 4 s))))))) = sBk b s from by
  have e : sBk b s = sPut b.V.length ((7 : Nat) : Int) (sAll sVd b.V) (sPut b.T.length ((4 : Nat) : Int) (sAll sTx b.T) (sQc b.q (sDig b.P (sNum b.r 6 (sNum b.e 4 s))))) := rfl
  rw [e, <- za2 sVd_errO b.V 7 (by omega), <- za2 zd5 b.T 4 (by omega), hn, hm]
  rfl)
 have HP0 := hQ_ hi.same
 have HS0 := hQ_ hs
 have HW := hQ_ hW1
 have HZ := hQ_ hZs
 clear h hi bx g1 hW1 hs hbv hZs hks hkd hqs hqv hn hm hb hi00 hz00 hz01 hz02
 go_enter Tryz.func45, Tryz.ntmps45
 go_upto_region 1 with (fail)
 rw [HW.out]
 obtain ⟨k0, k1, k2, k3, k4, k5⟩ := HB.out _ _ HP0.out
 clear k1 k2 k3 k4 k5
 go_wp2_with fail
 refine (yz (z := 4) (k := 4) rfl HP0.out.wi (Nat.le_trans HS0.out (by omega)) (n := b.e) HC.out.2.2.1.1.1 (by omega) (by omega)).mono ?_
 rintro e V1 ⟨rfl, q0⟩
 have HP1 := hQ_ (HP0.out.trans q0)
 clear q0 k0
 have HS1 := hQ_ (show (sNum b.e 4 s).2.length <= 30000004 from by have h1 := vo (z := 4) (k := 4) rfl b.e s; have h2 := HS0.out; omega)
 obtain ⟨k0, k1, k2, k3, k4, k5⟩ := HB.out _ _ HP1.out
 clear k0 k2 k3 k4 k5
 go_wp2_with fail
 refine (yz (z := 6) (k := 6) rfl HP1.out.wi (Nat.le_trans HS1.out (by omega)) (n := b.r) HC.out.2.2.1.1.2 (by omega) (by omega)).mono ?_
 rintro e V2 ⟨rfl, q1⟩
 have HP2 := hQ_ (HP1.out.trans q1)
 clear q1 k1
 have HS2 := hQ_ (show (sNum b.r 6 (sNum b.e 4 s)).2.length <= 30000010 from by have h1 := vo (z := 6) (k := 6) rfl b.r (sNum b.e 4 s); have h2 := HS1.out; omega)
 obtain ⟨k0, k1, k2, k3, k4, k5⟩ := HB.out _ _ HP2.out
 clear k0 k1 k3 k4 k5
 have HR2 := hQ_ k2
 clear k2
 go_wp2_with (refine wpList_load_mid rfl 24 _ rfl w.heap.size 2 rfl (kd.toList) _ HR2.out Tryz.underlying24 rfl (by rw [Array.length_toList, HC.out.2.2.2.1]; exact sz_Dg) ?_; rw [Array.toArray_toList])
 refine (zb5 HP2.out.wi (Nat.le_trans HS2.out (by omega)) b.P HC.out.2.2.1.2.1 kd HC.out.2.2.2.2.1).mono ?_
 rintro e V3 ⟨rfl, q2⟩
 have HP3 := hQ_ (HP2.out.trans q2)
 clear q2
 have HS3 := hQ_ (show (sDig b.P (sNum b.r 6 (sNum b.e 4 s))).2.length <= 30000026 from by have h1 := ym HC.out.2.2.1.2.1.1 (sNum b.r 6 (sNum b.e 4 s)); have h2 := HS2.out; omega)
 obtain ⟨k0, k1, k2, k3, k4, k5⟩ := HB.out _ _ HP3.out
 clear k0 k1 k2 k4 k5
 have HR3 := hQ_ k3
 clear k3
 go_wp2_with (refine wpList_load_mid rfl 29 _ rfl w.heap.size 18 rfl (qv.toList) _ HR3.out Tryz.underlying29 rfl (by rw [Array.length_toList, HC.out.2.2.2.2.2.1]; exact sz_QCo) ?_; rw [Array.toArray_toList])
 refine (oqc_st V3 _ _ HP3.out.wi (Nat.le_trans HS3.out (by omega)) b.q HC.out.2.2.1.2.2.1 qv HC.out.2.2.2.2.2.2).mono ?_
 rintro e V3q ⟨rfl, q3⟩
 have HP4 := hQ_ (HP3.out.trans q3)
 clear q3
 have HS4 := hQ_ (show (sQc b.q (sDig b.P (sNum b.r 6 (sNum b.e 4 s)))).2.length <= 32000026 from by have h1 := sQc_addsO HC.out.2.2.1.2.2.1 (sDig b.P (sNum b.r 6 (sNum b.e 4 s))); have h2 := HS3.out; omega)
 obtain ⟨k0, k1, k2, k3, k4, k5⟩ := HB.out _ _ HP4.out
 clear k0 k1 k2 k3 k5
 go_wp2_with fail
 refine (zaa (zn := n) (n := n) rfl (zm := 4) (most := 4) rfl HP4.out.wi (Nat.le_trans HS4.out (by omega)) (by have := HC.out.1; have := HC.out.2.2.1.2.2.2.2.2.1; omega) (by omega)).mono ?_
 rintro e V4 ⟨rfl, q4⟩
 have HP5 := hQ_ (HP4.out.trans q4)
 clear q4 k4
 have HS5 := hQ_ (show (sMany n 4 (sQc b.q (sDig b.P (sNum b.r 6 (sNum b.e 4 s))))).2.length <= 32000027 from by have h1 := zac n 4 (sQc b.q (sDig b.P (sNum b.r 6 (sNum b.e 4 s)))); have h2 := HS4.out; omega)
 obtain ⟨s5, hs5⟩ : ∃ s5, sMany n 4 (sQc b.q (sDig b.P (sNum b.r 6 (sNum b.e 4 s)))) = s5 := ⟨_, rfl⟩
 rw [hs5] at HP5 HS5 HE
 clear hs5 HP1 HP2 HP3 HP4 HS1 HS2 HS3 HS4
 obtain ⟨k0, k1, k2, k3, k4, k5⟩ := HB.out _ _ HP5.out
 clear k0 k1 k2 k3 k5
 go_wp2_with fail
 clear k4
 have hnn : n <= 1000 := by rw [<- HC.out.1]; exact HC.out.2.2.1.2.2.2.2.2.1
 go_loopw [32] (fun i wr => ∃ k : Nat, k <= n /\ i = .int .i64 (k : Int) /\ Hid (OP w0 g (fun k => F k /\ k < w.heap.size) (sAll sTx (b.T.take k) s5) W1 wr)) (fun i _ => n - (intOf i).toNat)
 case atStart => exact ⟨0, Nat.zero_le _, rfl, HP5⟩
 case round =>
  obtain ⟨k, hk, hi, HH⟩ := hrel
  obtain ⟨I, hI⟩ : ∃ I : Int, I = (k : Int) := ⟨_, rfl⟩
  rw [<- hI] at hi
  subst hi
  by_cases hlt : k < n
  · have d1 : decide (I < (n : Int)) = true := by simp; omega
    have hIV : I < (n : Int) := by omega
    have hI0 : 0 <= I /\ I < 1000000 := by omega
    have hkI : I.toNat = k := by omega
    have hkl : k < b.T.length := by rw [HC.out.1]; exact hlt
    obtain ⟨t, ht⟩ : ∃ t, b.T[k] = t := ⟨_, rfl⟩
    have hmem : t ∈ b.T := by rw [<- ht]; exact List.getElem_mem hkl
    obtain ⟨ad, hA, hct⟩ := HRT.out wr HH.out.wi.kept k t (by rw [List.getElem?_eq_getElem hkl, ht])
    have htk : b.T.take (k + 1) = b.T.take k ++ [t] := by rw [<- List.take_append_getElem hkl, ht]
    have hsl : (sAll sTx (b.T.take k) s5).2.length <= 32019000 := by
     have h1 := sAll_one (f := sTx) 18 (fun x s => zdx x s) (b.T.take k) s5
     have h2 := HS5.out
     have h3 : (b.T.take k).length <= k := List.length_take_le _ _
     omega
    rw [<- hkI] at hct
    obtain ⟨sc, hsc⟩ : ∃ sc, sAll sTx (b.T.take k) s5 = sc := ⟨_, rfl⟩
    rw [hsc] at HH hsl
    have HTK := hQ_ (show sAll sTx (b.T.take (k + 1)) s5 = sTx t sc from by rw [htk, ut, hsc])
    have HSL := hQ_ hsl
    have HTL := hQ_ (aQ hmem (HC.out.2.2.1.2.2.2.1.2 t hmem).2)
    have HA := hQ_ (aQ hI hlt)
    clear hsc htk hsl hkl ht hmem hI hkI hlt
    rw [hA]
    obtain ⟨e0, l⟩ := sc
    obtain ⟨hBg, bA, bc, hbk, hown, hF⟩ := HH.out.wi.wr
    have c0 := hbk.cell 0
    have c1 := hbk.cell 1
    simp at c0 c1
    rcases e0 with _ | e0
    · by_cases hbig : 16 < t.l.length
      · have d2 : decide (16 < (t.l.length : Int)) = true := by simp; omega
        have HR := hQ_ (show OP w0 g (upTo (fun k => F k /\ k < w.heap.size) W1.heap.size wr.heap.size) (0 + 1, l) wr (wr.setCell ⟨g, 1, none⟩ (.int .i64 1)) from HH.out.wi.step ((Kept.refl _ wr).set (.inl hBg) _) ⟨.inl hBg, bA, bc, by simpa using hbk.set 1 (.int .i64 1), zcw hown hbk (by decide) 1 _, fun ad e => .inl (hF ad e)⟩)
        have d1x : (wr.setCell ⟨g, 1, none⟩ (.int .i64 1)).cell? ⟨g, 1, none⟩ = some (.int .i64 1) := by
         have := (hbk.set 1 (.int .i64 1)).cell 1
         simpa using this
        have f1 := hbk.frozen 1
        have HT1 := hQ_ (sTx_big hbig l)
        clear hbig hBg hbk hown hF c0
        go_wp2_with fail
        refine (yz (z := 2) (k := 2) rfl HR.out.wi (Nat.le_trans HSL.out (by omega)) (n := (t.l.length : Int)) (by have := HTL.out.2; omega) (by omega) (by omega)).mono ?_
        rintro e V9 ⟨rfl, q9⟩
        rw [u4] at q9
        have H10 := hQ_ (show OP w0 g (fun k => F k /\ k < w.heap.size) (sTx t (0, l)) W1 V9 from by rw [HT1.out]; exact HH.out.trans (HR.out.trans q9))
        obtain ⟨_, bA2, bc2, hb2, _, _⟩ := q9.wi.wr
        have c2 := hb2.cell 1
        simp at c2
        clear q9 hb2 c1 f1 d1x
        have hw1 := w64 (I + 1) ⟨by omega, by omega⟩
        go_wp2_with fail
        go_roundw
        case rel =>
         have h1 := HA.out
         have h3 : ((k + 1 : Nat) : Int) = I + 1 := by omega
         exact ⟨k + 1, by omega, by rw [h3], hQ_ (by rw [HTK.out]; exact H10.out)⟩
        case measure =>
         have h1 := HA.out
         simp only [intOf]
         omega
      · have d2 : decide (16 < (t.l.length : Int)) = false := by simp; omega
        obtain ⟨l2, hl2⟩ := sNum_two hbig l
        have HT1 := hQ_ (show sTx t (0, l) = (0, l2 ++ t.l) from by rw [sTx_fit hbig, hl2]; rfl)
        have HL2 := hQ_ (show l2.length <= 32020000 from by have h1 := vo (z := 2) (k := 2) rfl (t.l.length : Int) (0, l); rw [hl2] at h1; have h2 := HSL.out; simp only at h1 h2; omega)
        have HN2 := hQ_ (show sNum (t.l.length : Int) 2 (0, l) = (0, l2) from hl2)
        clear hBg hbk hown hF hl2 c0
        go_wp2_with fail
        refine (yz (z := 2) (k := 2) rfl HH.out.wi (Nat.le_trans HSL.out (by omega)) (n := (t.l.length : Int)) (by have := HTL.out.2; omega) (by omega) (by omega)).mono ?_
        rintro e V9 ⟨rfl, q9⟩
        rw [HN2.out] at q9
        have H9 := hQ_ (HH.out.trans q9)
        have hx9 := HBT.out V9 q9.wi.kept t HTL.out.1
        clear q9 c1
        obtain ⟨hBg, bA2, bc2, hb2, hown, hF⟩ := H9.out.wi.wr
        have c0 := hb2.cell 0
        have c1 := hb2.cell 1
        simp at c0 c1
        go_wp2_with (at_builtin; refine uk _ rfl _ _ 81 rfl 0 5 i0 _ Tryz.underlying81 HI.out.1 HI.out.2.1 HI.out.2.2.1 HI.out.2.2.2 rfl _ _ _ rfl hown t.B t.c t.l rfl hx9 (by have h1 := HL2.out; have h2 := HTL.out.2; omega) (Nat.zero_le _) ?_)
        intro A' cap' w9 hown1 hgrow hat
        have hb3 := hb2.grown hgrow (own_ne hown hb2 (by decide)).symm
        have f0 := hb3.frozen 0
        have HPU := hQ_ (OutIs.pushed hBg hb2 hown hF hown1 hgrow hat)
        have H10 := hQ_ (show OP w0 g (fun k => F k /\ k < w.heap.size) (sTx t (0, l)) W1 (w9.setCell ⟨g, 0, none⟩ (.slice A' (l2.length + t.l.length) cap')) from by
         rw [HT1.out]
         refine H9.out.trans (H9.out.wi.step HPU.out.2 (HPU.out.1.mono fun j _ hj => ?_))
         rcases hj with h1 | ⟨h1, h2⟩
         · exact .inl h1
         · exact .inr ⟨h1, by simpa [World.setCell] using h2⟩)
        have d0 : w9.cell? ⟨g, 0, none⟩ = some (.slice bA2 l2.length bc2) := hb3.cell 0
        clear hown1 hgrow hat hb3 hBg hb2 hown hF c0 c1 hx9 hbig
        have hw1 := w64 (I + 1) ⟨by omega, by omega⟩
        go_wp2_with fail
        go_roundw
        case rel =>
         have h1 := HA.out
         have h3 : ((k + 1 : Nat) : Int) = I + 1 := by omega
         exact ⟨k + 1, by omega, by rw [h3], hQ_ (by rw [HTK.out]; exact H10.out)⟩
        case measure =>
         have h1 := HA.out
         simp only [intOf]
         omega
    · have hne : (((e0 + 1 : Nat) : Int) == 0) = false := by simp; omega
      have HT1 := hQ_ (zd5 t e0 l)
      clear hBg hbk hown hF c0
      go_wp2_with fail
      refine (yz (z := 2) (k := 2) rfl HH.out.wi (Nat.le_trans HSL.out (by omega)) (n := (t.l.length : Int)) (by have := HTL.out.2; omega) (by omega) (by omega)).mono ?_
      rintro e V9 ⟨rfl, q9⟩
      rw [u4] at q9
      have H10 := hQ_ (show OP w0 g (fun k => F k /\ k < w.heap.size) (sTx t (e0 + 1, l)) W1 V9 from by rw [HT1.out]; exact HH.out.trans q9)
      obtain ⟨_, bA2, bc2, hb2, _, _⟩ := q9.wi.wr
      have c2 := hb2.cell 1
      simp at c2
      clear q9 hb2 c1
      have hw1 := w64 (I + 1) ⟨by omega, by omega⟩
      go_wp2_with fail
      go_roundw
      case rel =>
       have h1 := HA.out
       have h3 : ((k + 1 : Nat) : Int) = I + 1 := by omega
       exact ⟨k + 1, by omega, by rw [h3], hQ_ (by rw [HTK.out]; exact H10.out)⟩
      case measure =>
       have h1 := HA.out
       simp only [intOf]
       omega
  · have d1 : decide (I < (n : Int)) = false := by simp; omega
    have hkn : k = b.T.length := by rw [HC.out.1]; omega
    have HPy := hQ_ (show OP w0 g (fun k => F k /\ k < w.heap.size) (sAll sTx b.T s5) W1 wr from by
     have := HH.out
     rw [hkn, List.take_length] at this
     exact this)
    clear hlt hI hkn
    have HS6 := hQ_ (show (sAll sTx b.T s5).2.length <= 32019000 from by
     have h1 := sAll_one (f := sTx) 18 (fun x s => zdx x s) b.T s5
     have h2 := HS5.out
     have h3 := HC.out.1
     omega)
    obtain ⟨s6, hs6⟩ : ∃ s6, sAll sTx b.T s5 = s6 := ⟨_, rfl⟩
    rw [hs6] at HPy HS6 HE
    clear hs6
    obtain ⟨k0, k1, k2, k3, k4, k5⟩ := HB.out _ _ HPy.out
    clear k0 k1 k2 k3 k4
    go_wp2_with fail
    have hmm : m <= 1000 := by rw [<- HC.out.2.1]; exact HC.out.2.2.1.2.2.2.2.2.2
    refine (zaa (zn := m) (n := m) rfl (zm := 7) (most := 7) rfl HPy.out.wi (Nat.le_trans HS6.out (by omega)) (by omega) (by omega)).mono ?_
    rintro e V5 ⟨rfl, q1⟩
    have HP7 := hQ_ (HPy.out.trans q1)
    clear q1 k5
    have HS7 := hQ_ (show (sMany m 7 s6).2.length <= 32019001 from by have h1 := zac m 7 s6; have h2 := HS6.out; omega)
    obtain ⟨s7, hs7⟩ : ∃ s7, sMany m 7 s6 = s7 := ⟨_, rfl⟩
    rw [hs7] at HP7 HS7 HE
    clear hs7
    obtain ⟨k0, k1, k2, k3, k4, k5⟩ := HB.out _ _ HP7.out
    clear k0 k1 k2 k3 k4
    go_wp2_with fail
    clear k5
    go_loopw [76] (fun i wr => ∃ k : Nat, k <= m /\ i = .int .i64 (k : Int) /\ Hid (OP w0 g (fun k => F k /\ k < w.heap.size) (sAll sVd (b.V.take k) s7) W1 wr)) (fun i _ => m - (intOf i).toNat)
    case atStart => exact ⟨0, Nat.zero_le _, rfl, HP7⟩
    case round =>
     obtain ⟨k, hk, hi, HH⟩ := hrel
     obtain ⟨I, hI⟩ : ∃ I : Int, I = (k : Int) := ⟨_, rfl⟩
     rw [<- hI] at hi
     subst hi
     by_cases hlt : k < m
     · have d1 : decide (I < (m : Int)) = true := by simp; omega
       have hIV : I < (m : Int) := by omega
       have hI0 : 0 <= I /\ I < 1000000 := by omega
       have hkI : I.toNat = k := by omega
       have hkl : k < b.V.length := by rw [HC.out.2.1]; exact hlt
       obtain ⟨x, hx⟩ : ∃ x, b.V[k] = x := ⟨_, rfl⟩
       have hmem : x ∈ b.V := by rw [<- hx]; exact List.getElem_mem hkl
       obtain ⟨b0, off, hA, hr⟩ := HRV.out wr HH.out.wi.kept k x (by rw [List.getElem?_eq_getElem hkl, hx])
       have htk : b.V.take (k + 1) = b.V.take k ++ [x] := by rw [<- List.take_append_getElem hkl, hx]
       have hxd := HC.out.2.2.1.2.2.2.2.1.2 x hmem
       have hsl : (sAll sVd (b.V.take k) s7).2.length <= 32100000 := by
        have h1 : (sAll sVd (b.V.take k) s7).2.length <= s7.2.length + (b.V.take k).length * 22 := by
         have : ∀ (L : List Vd) (hL : ∀ y ∈ L, y.key.length = 16) (s : WSt), (sAll sVd L s).2.length <= s.2.length + L.length * 22 := by
          intro L hL
          induction L with
          | nil => intro s; simp [sAll]
          | cons y L ih =>
           intro s
           have h1 := ih (fun z hz => hL z (List.mem_cons_of_mem y hz)) (sVd y s)
           have h2 := ze9 (hL y List.mem_cons_self) s
           rw [sAll, List.foldl_cons]
           rw [sAll] at h1
           rw [List.length_cons, Nat.add_mul]
           omega
         exact this _ (fun y hy => (HC.out.2.2.1.2.2.2.2.1.2 y (List.mem_of_mem_take hy)).1.1) s7
        have h2 := HS7.out
        have h3 : (b.V.take k).length <= k := List.length_take_le _ _
        omega
       rw [<- hkI] at hr
       obtain ⟨xv, hxv⟩ : ∃ xv, xv = x.cells.toArray := ⟨_, rfl⟩
       obtain ⟨kx, hkx⟩ : ∃ kx, kx = arrV .u8 x.key := ⟨_, rfl⟩
       replace hr : wr.rangeAt b0 (off + I.toNat * 17) xv.toList := by rw [hxv]; simpa using hr
       have hxs : xv.size = 17 := by rw [hxv]; simp [Vd.cells, hxd.1.1]
       have hkxs : kx.size = 16 := by rw [hkx, zf, hxd.1.1]
       have hxl : xv.toList = kx.toList ++ [.int .i64 x.p] := by rw [hxv, hkx]; simp [Vd.cells, arrV]
       have HA := hQ_ (aQ hr (aQ (show (Tryz.prog.info? 55).map (·.size) = some xv.size by rw [hxs]; exact sz_Vd) (aQ (show Z.size = xv.size by rw [hxs, HZ.out]) (aQ (show (xv.all fun v => v.oneCell') = true by rw [hxv]; simp [Vd.cells, Value.oneCell']) (aQ hxd (aQ hkx (aQ hkxs (aQ hsl (aQ hI hlt)))))))))
       have HXL := hQ_ (fun (V : World) (q9 : Nat) (r : V.rangeAt q9 0 xv.toList) => (show V.rangeAt q9 0 kx.toList /\ V.cell? ⟨q9, 16, none⟩ = some (.int .i64 x.p) from by
        rw [hxl] at r
        exact ⟨fun j v hv => r j v (by rw [List.getElem?_append_left (List.getElem?_eq_some_iff.1 hv).1]; exact hv), by
         have := r 16 (.int .i64 x.p) (by rw [List.getElem?_append_right (by simp [hkxs])]; simp [hkxs]); simpa using this⟩))
       have HTK := hQ_ (show sAll sVd (b.V.take (k + 1)) s7 = sNum x.p 6 (sDig x.key (sAll sVd (b.V.take k) s7)) from by rw [htk, ut]; rfl)
       clear hr hxs hx hkl hmem htk hsl hxv hkx hkxs hxl hI hkI hlt hxd
       rw [hA]
       go_upto_region 18 with (fail)
       obtain ⟨q9, hq9⟩ : ∃ q, wr.heap.size = q := ⟨_, rfl⟩
       obtain ⟨W9, hW9⟩ : ∃ W, (wr.alloc (.cells Z 55)).setRow q9 xv = W := ⟨_, rfl⟩
       have bn9 : Blk (wr.alloc (.cells Z 55)) q9 55 Z := by rw [<- hq9]; exact Blk.new wr 55 Z
       have b9 : Blk W9 q9 55 xv := by rw [<- hW9]; exact bn9.row _
       have g9 : wr.grownBy W9 none := by rw [<- hW9]; exact zc (gQ) (.inl (by rw [hq9]; exact Nat.le_refl _)) _
       have H9 := hQ_ (aQ bn9 (aQ hW9 (aQ b9 (aQ g9 hq9))))
       clear bn9 hW9 b9 g9
       go_upto_region 19 with (first
        | (refine wpList_load_mid rfl 55 _ rfl b0 (off + I.toNat * 17) rfl xv.toList _ HA.out.1 Tryz.underlying55 rfl (by rw [Array.length_toList]; exact HA.out.2.1) ?_; rw [Array.toArray_toList])
        | (refine wpList_store_row rfl 55 _ _ rfl q9 xv rfl rfl 55 _ H9.out.1 HA.out.2.1 HA.out.2.2.1 HA.out.2.2.2.1 ?_))
       rw [H9.out.2.1]
       clear hq9
       go_wp2_with (refine wpList_load_mid rfl 24 _ rfl q9 0 rfl kx.toList _ (HXL.out W9 q9 (zd H9.out.2.2.1)).1 Tryz.underlying24 rfl (by rw [Array.length_toList, HA.out.2.2.2.2.2.2.1]; exact sz_Dg) ?_; rw [Array.toArray_toList])
       have HO9 := hQ_ (HH.out.wi.opened H9.out.2.2.2.1)
       refine (zb5 HO9.out (Nat.le_trans HA.out.2.2.2.2.2.2.2.1 (by omega)) x.key HA.out.2.2.2.2.1.1 kx HA.out.2.2.2.2.2.1).mono ?_
       rintro e V9 ⟨rfl, q10⟩
       have bk9 : Blk V9 q9 55 xv := H9.out.2.2.1.kept q10.fine (fun h => absurd h.2 (by have := H9.out.2.2.2.2; omega))
       have kp := (HXL.out V9 q9 (zd bk9)).2
       clear bk9
       have H10a := hQ_ q10
       clear q10
       go_wp2_with fail
       refine (yz (z := 6) (k := 6) rfl H10a.out.wi (by have h1 := ym HA.out.2.2.2.2.1.1.1 (sAll sVd (b.V.take k) s7); have h2 := HA.out.2.2.2.2.2.2.2.1; omega) (n := x.p) HA.out.2.2.2.2.1.2 (by omega) (by omega)).mono ?_
       rintro e V10 ⟨rfl, q11⟩
       have H10 := hQ_ (HH.out.trans (OP.closed HH.out.wi H9.out.2.2.2.1 (H10a.out.trans q11)))
       clear q11 kp
       have hw1 := w64 (I + 1) ⟨by omega, by omega⟩
       go_wp2_with fail
       go_roundw
       case rel =>
        have h1 := HA.out.2.2.2.2.2.2.2.2
        have h3 : ((k + 1 : Nat) : Int) = I + 1 := by have := h1.1; omega
        exact ⟨k + 1, by omega, by rw [h3], hQ_ (by rw [HTK.out]; exact H10.out)⟩
       case measure =>
        have h1 := HA.out.2.2.2.2.2.2.2.2
        simp only [intOf]
        omega
     · have d1 : decide (I < (m : Int)) = false := by simp; omega
       have hkn : k = b.V.length := by rw [HC.out.2.1]; omega
       have HPz := hQ_ (show OP w0 g (fun k => F k /\ k < w.heap.size) (sAll sVd b.V s7) W1 wr from by
        have := HH.out
        rw [hkn, List.take_length] at this
        exact this)
       clear hlt hI hkn
       go_wp2_with fail
       go_end0
       exact ⟨rfl, by have := HCl.out _ _ HPz.out; rw [HE.out] at this; exact this⟩
end
end
section
theorem zcv {most : Int} (hm : 0 <= most) (s : WSt) : sMany 0 most s = sNum 0 1 s := by
 unfold sMany
 rw [if_neg (by omega)]
 rfl
theorem genS_many (e : Int) (p : List Int) (s : WSt) : sMany 0 7 (sMany 0 4 (sMany 0 7 (sDig (List.replicate 16 0) (sNum 0 6 (sNum 0 4 (sDig p (sNum 0 6 (sNum e 4 s)))))))) = sBk (genB e p) s := by
 rw [genS_is, zcv (by omega), zcv (by omega), zcv (by omega)]
 rfl
theorem out_build (w : World) : Sem.run Tryz.prog (Instr.build 109 #[]) w = .ok (.agg #[.slice none 0 0, .int .i64 0]) w := by
 refine run_build w 109 _ _ ?_
 kernel_rfl
theorem sz_Bko : (Tryz.prog.info? 32).map (·.size) = some 39 := by kernel_rfl
theorem genV_size (e : Int) {D : Array Value} (h : D.size = 16) : (genV e D).size = 39 := by simp [genV, h, zf]
theorem odone_ok {w : World} {F : Nat -> Prop} {g : Nat} {l : List UInt8} (h : OutIs w F g (0, l)) :
    Calls Tryz.prog 46 #[.pointer (some ⟨g, 0, none⟩)] w fun e w' => w = w' /\ ∃ A c, e = .returned (.tuple #[.slice A l.length c, .int .i64 0]) /\ l.length <= c /\ zt w A l := by
 obtain ⟨_, bA, bc, hb, hown, _⟩ := h
 have c0 := hb.cell 0
 have c1 := hb.cell 1
 simp at c0 c1
 have HO := hQ_ (aQ (own_cap hown) (zba hown))
 clear hb hown
 go_enter Tryz.func46, Tryz.ntmps46
 go_wp2_with fail
 go_ret2
 exact ⟨rfl, bA, bc, rfl, HO.out.1, HO.out.2⟩
theorem rbytes_gen (w : World) (a : Int) (h0 : 0 <= a) (ha : a < 4294967296) (p : List Int) (hp : isDig p) (cs : Array Value) (hcs : cs = genV a (arrV .u8 p)) :
    Calls Tryz.prog 30 #[.agg cs] w fun e w' => w.grownBy w' none /\ ∃ A c, e = .returned (.tuple #[.slice A (bkS (genB a p)).2.length c, .int .i64 0]) /\ (bkS (genB a p)).2.length <= c /\ zt w' A (bkS (genB a p)).2 := by
 have hob := out_build
 have hsz : cs.size = 39 := by rw [hcs]; exact genV_size a (by rw [zf, hp.1])
 obtain ⟨W2, hW2⟩ : ∃ W2, (w.alloc (.cells cs 32)).alloc (.cells #[.slice none 0 0, .int .i64 0] 109) = W2 := ⟨_, rfl⟩
 have g2 : w.grownBy W2 none := by rw [<- hW2]; exact za (gQ) (gQ)
 have bx : Blk W2 w.heap.size 32 cs := by rw [<- hW2]; exact (Blk.new w _ _).alloc _
 have bo : Blk W2 (w.heap.size + 1) 109 #[.slice none 0 0, .int .i64 0] := by
  have := Blk.new (w.alloc (.cells cs 32)) 109 #[.slice none 0 0, .int .i64 0]
  rw [<- hW2]; simpa using this
 have hi : OI w (w.heap.size + 1) (fun k => w.heap.size + 1 <= k) (0, []) W2 :=
  ⟨⟨Nat.le_refl _, none, 0, bo, World.ownsRow_nil _ _ _ _, fun _ h => by cases h⟩, fun k hk => by omega, Kept.of_grown g2 fun _ e => by cases e⟩
 have HB := hQ_ (oblk0_st W2 _ _ hi (by simp) a (by omega) p hp cs hcs)
 have HX := hQ_ (aQ hsz (zd bx))
 have HW := hQ_ hW2
 have HG := hQ_ g2
 obtain ⟨l, hl⟩ : ∃ l, bkS (genB a p) = (0, l) := ⟨(bkS (genB a p)).2, by rw [<- (gen_ok hp.1 h0 ha).1]⟩
 have HK := hQ_ (show sBk (genB a p) (0, []) = (0, l) from hl)
 rw [hl]
 clear hi hsz bx bo g2 hW2 hcs hl
 go_enter Tryz.func30, Tryz.ntmps30
 go_upto_region 2 with (fail)
 rw [HW.out]
 go_wp2_with (refine wpList_load_mid rfl 32 _ rfl w.heap.size 0 rfl cs.toList _ HX.out.2 Tryz.underlying32 rfl (by rw [Array.length_toList, HX.out.1]; exact sz_Bko) ?_; rw [Array.toArray_toList])
 refine HB.out.mono ?_
 rintro e W3 ⟨rfl, P⟩
 obtain ⟨F9, hP⟩ : ∃ F9, OI w (w.heap.size + 1) F9 (0, l) W3 := ⟨_, by
  have := P.wi
  rw [genS_many, HK.out] at this
  exact this⟩
 have g3 : w.grownBy W3 none := hP.kept.grownNone fun k hk hn => by show False; exact absurd hk (by simpa using hn)
 have HD := hQ_ (aQ (odone_ok hP.wr) g3)
 clear P hP g3
 go_wp2_with fail
 refine HD.out.1.mono ?_
 rintro e W4 ⟨rfl, A, c, rfl, hc, hb⟩
 have HE := hQ_ (aQ hc hb)
 clear hc hb
 go_wp2_with fail
 go_ret2
 exact ⟨HD.out.2, A, c, rfl, HE.out.1, HE.out.2⟩
theorem rid_gen (w : World) (a : Int) (h0 : 0 <= a) (ha : a < 4294967296) (p : List Int) (hp : isDig p) (cs : Array Value) (hcs : cs = genV a (arrV .u8 p)) (dv : Array Value) (hdv : dv = arrV .u8 (idD (genB a p))) :
    Calls Tryz.prog 14 #[.agg cs] w fun e w' => e = .returned (.tuple #[.agg dv, .int .i64 0]) /\ w.grownBy w' none := by
 obtain ⟨Z, hZ⟩ : ∃ Z, Z = arrV .u8 (List.replicate 16 0) := ⟨_, rfl⟩
 have hz : ∀ w, Sem.run Tryz.prog (zeroValue 24) w = .ok (.agg Z) w := fun w => by rw [hZ]; exact z16run w
 have hZ16 : Z.size = 16 := by rw [hZ]; rfl
 have hd16 : dv.size = 16 := by rw [hdv, zf, z7]
 have hd1 : (dv.all fun v => v.oneCell') = true := by rw [hdv]; exact zu _ _
 have hsz : cs.size = 39 := by rw [hcs]; exact genV_size a (by rw [zf, hp.1])
 obtain ⟨W1, hW1⟩ : ∃ W1, (w.alloc (.cells cs 32)).alloc (.cells Z 24) = W1 := ⟨_, rfl⟩
 have g1 : w.grownBy W1 none := by rw [<- hW1]; exact za (gQ) (gQ)
 have bx : Blk W1 w.heap.size 32 cs := by rw [<- hW1]; exact (Blk.new w _ _).alloc _
 have bd : Blk W1 (w.heap.size + 1) 24 Z := by
  have := Blk.new (w.alloc (.cells cs 32)) 24 Z
  rw [<- hW1]; simpa using this
 obtain ⟨hk0, hkl⟩ := gen_ok hp.1 h0 ha
 obtain ⟨L, hL⟩ : ∃ L, (bkS (genB a p)).2 = L := ⟨_, rfl⟩
 have HR := hQ_ (rbytes_gen W1 a h0 ha p hp cs hcs)
 have hid : idD (genB a p) = ofS 6 [intsB L] := by rw [idD_ok hk0, hL]
 rw [hL] at HR hkl
 obtain ⟨S, hS⟩ : ∃ S : ByteArray, xsOf S = intsB L := ⟨⟨L.toArray⟩, zey L⟩
 have hSs : S.size = 55 := by
  have := congrArg List.length hS
  rw [z4, intsB, List.length_map, hkl] at this
  exact this
 have HX := hQ_ (aQ hsz (zd bx))
 have HS := hQ_ (aQ hS (aQ hSs hkl))
 have HD := hQ_ (aQ (hdv.trans (by rw [hid])) (aQ hd16 (aQ hd1 hZ16)))
 have HW := hQ_ hW1
 have HG := hQ_ (aQ g1 bd)
 clear hsz bx hS hSs hkl hdv hd16 hd1 hZ16 hW1 g1 bd hid hk0 hL hcs hZ
 go_enter Tryz.func14, Tryz.ntmps14
 go_upto_region 1 with (fail)
 rw [HW.out]
 go_wp2_with (refine wpList_load_mid rfl 32 _ rfl w.heap.size 0 rfl cs.toList _ HX.out.2 Tryz.underlying32 rfl (by rw [Array.length_toList, HX.out.1]; exact sz_Bko) ?_; rw [Array.toArray_toList])
 refine HR.out.mono ?_
 rintro e W2 ⟨g2, A, c, rfl, hc, hb⟩
 have hcv := zb2 W2 A L.length c S (by rw [HS.out.2.1, HS.out.2.2]) (by rw [HS.out.1]; exact BytesI.of hb)
 obtain ⟨W3, hW3⟩ : ∃ W3, W2.alloc (.cells #[.string S] 9) = W3 := ⟨_, rfl⟩
 have g3 : W2.grownBy W3 none := by rw [<- hW3]; exact gQ
 have b3 : Blk W3 W2.heap.size 9 #[.string S] := by rw [<- hW3]; exact Blk.new _ _ _
 have HO := hQ_ (rof_is W3 6 (some ⟨W2.heap.size, 0, none⟩) 1 1 [S] rfl (fun j hj => by
     obtain rfl : j = 0 := by simpa using hj
     exact ⟨_, rfl, by rw [Go.WideShapes.add_plain, b3.cell]; rfl⟩) (by omega) (fun t ht => by obtain rfl := List.mem_singleton.1 ht; rw [HS.out.2.1]; omega) (by
     have := uo 6 55 ([S].map xsOf) (fun q hq => by
      obtain rfl := List.mem_singleton.1 hq
      rw [z4, HS.out.2.1]; omega)
     simp only [List.map_cons, List.map_nil, List.length_cons, List.length_nil] at this ⊢
     omega))
 have HW3 := hQ_ hW3
 have HG3 := hQ_ (aQ (za (za HG.out.1 g2) g3) (HG.out.2.grown (za g2 g3) (by simp)))
 have hv : arrV .u8 (ofS 6 ([S].map xsOf)) = dv := by rw [HD.out.1]; simp [HS.out.1]
 rw [hv] at HO
 clear g2 g3 hc hb b3 hW3 hv
 go_wp2_with fail
 rw [HW3.out]
 refine HO.out.mono ?_
 rintro e W4 ⟨rfl, g4⟩
 have HG4 := hQ_ (aQ (za HG3.out.1 g4) (HG3.out.2.grown g4 (by simp)))
 clear g4
 go_wp2_with (refine wpList_store_row rfl 24 _ _ rfl (w.heap.size + 1) dv rfl rfl 24 _ HG4.out.2 (by rw [HD.out.2.1]; exact sz_Dg) (by rw [HD.out.2.1, HD.out.2.2.2]) HD.out.2.2.1 ?_)
 refine bodyPost_ret (zr rfl _ _ _ ⟨w.heap.size + 1, 0, none⟩ (.agg dv) rfl (run_loadVar_row _ (w.heap.size + 1) 24 24 _ (0, 0) _ (HG4.out.2.row _) Tryz.underlying24 rfl (by rw [HD.out.2.1]; exact sz_Dg))) rfl ?_
 exact ⟨rfl, zc HG4.out.1 (.inl (by omega)) _⟩
end
section
theorem bk_sizeO {w : World} {b : Bk} (h : BkFit w b) : b.val.size = 39 := by simp [Bk.val, Qc.val, zf, h.2.1.1, h.2.2.1.2.1.1]
theorem bk_addsO {w : World} {b : Bk} (h : BkFit w b) : Adds 8486 (sBk b) := adds_bk h.2.1.1 h.2.2.1.2.1.1 (fun x hx => ⟨(h.2.2.1.2.2.2.1 x hx).1.1.sixteen, (h.2.2.1.2.2.2.1 x hx).1.2.sixteen⟩) fun x hx => (h.2.2.2.2.1.2 x hx).1.1
theorem odone_bad {w : World} {F : Nat -> Prop} {g k : Nat} {l : List UInt8} (h : OutIs w F g (k + 1, l)) (z : Int) (hz : z = ((k + 1 : Nat) : Int)) :
    Calls Tryz.prog 46 #[.pointer (some ⟨g, 0, none⟩)] w fun e w' => w.grownBy w' none /\ e = .returned (.tuple #[.slice none 0 0, .int .i64 z]) := by
 obtain ⟨_, bA, bc, hb, hown, _⟩ := h
 have c0 := hb.cell 0
 have c1 : w.cell? ⟨g, 1, none⟩ = some (.int .i64 z) := by rw [hz]; exact hb.cell 1
 have d1 : (z != 0) = true := by simp; omega
 simp at c0
 clear hb hown hz
 go_enter Tryz.func46, Tryz.ntmps46
 go_wp2_with fail
 have k1 := Gr.cell c1
 refine zj (by kernel_rfl) (by kernel_rfl) ?_
 repeat (go_big_quiet_step (fail))
 refine wpQuiet_nil ?_
 rintro w7 ⟨⟨_, k7⟩, rfl⟩
 clear k1
 go_wp2_with fail
 go_ret2
 exact ⟨k7, rfl⟩
theorem SgFit.grown {w w' : World} {x : Sg} (h : SgFit w x) (k : w.grownBy w' none) : SgFit w' x := ⟨⟨h.1.1.grown k, h.1.2.grown k⟩, h.2⟩
theorem QcFit.grown {w w' : World} {q : Qc} (h : QcFit w q) (k : w.grownBy w' none) : QcFit w' q := ⟨h.1, h.2.1, h.2.2.1.grown k, fun x hx => (h.2.2.2.1 x hx).grown k, h.2.2.2.2⟩
theorem bytesAt_grownO {w w' : World} {A : Option Addr} {l : List UInt8} (h : zt w A l) (k : w.grownBy w' none) : zt w' A l := fun hne => by
 obtain ⟨ad, e, hc⟩ := h hne
 exact ⟨ad, e, fun j hj => k.cell (hc j hj) (by simp)⟩
theorem BkFit.grown {w w' : World} {b : Bk} (h : BkFit w b) (k : w.grownBy w' none) : BkFit w' b := ⟨h.1, h.2.1, h.2.2.1.grown k, ⟨h.2.2.2.1.1.grown k, fun t ht => ⟨bytesAt_grownO (h.2.2.2.1.2 t ht).1 k, (h.2.2.2.1.2 t ht).2⟩⟩, ⟨h.2.2.2.2.1.1.grown k, h.2.2.2.2.1.2⟩, h.2.2.2.2.2⟩
theorem rbytes_any (w : World) (b : Bk) (hb : BkFit w b) (cs : Array Value) (hcs : cs = b.val) :
    Calls Tryz.prog 30 #[.agg cs] w fun e w' => w.grownBy w' none /\ (((bkS b).1 = 0 /\ ∃ A c, e = .returned (.tuple #[.slice A (bkS b).2.length c, .int .i64 0]) /\ (bkS b).2.length <= c /\ zt w' A (bkS b).2) \/ ((bkS b).1 ≠ 0 /\ e = .returned (.tuple #[.slice none 0 0, .int .i64 ((bkS b).1 : Int)]))) := by
 have hob := out_build
 have hsz : cs.size = 39 := by rw [hcs]; exact bk_sizeO hb
 obtain ⟨W2, hW2⟩ : ∃ W2, (w.alloc (.cells cs 32)).alloc (.cells #[.slice none 0 0, .int .i64 0] 109) = W2 := ⟨_, rfl⟩
 have g2 : w.grownBy W2 none := by rw [<- hW2]; exact za (gQ) (gQ)
 have bx : Blk W2 w.heap.size 32 cs := by rw [<- hW2]; exact (Blk.new w _ _).alloc _
 have bo : Blk W2 (w.heap.size + 1) 109 #[.slice none 0 0, .int .i64 0] := by
  have := Blk.new (w.alloc (.cells cs 32)) 109 #[.slice none 0 0, .int .i64 0]
  rw [<- hW2]; simpa using this
 have hi : OI w (w.heap.size + 1) (fun k => w.heap.size + 1 <= k) (0, []) W2 :=
  ⟨⟨Nat.le_refl _, none, 0, bo, World.ownsRow_nil _ _ _ _, fun _ h => by cases h⟩, fun k hk => by omega, Kept.of_grown g2 fun _ e => by cases e⟩
 have HB := hQ_ (oblk_st W2 _ _ hi (by simp) b hb cs hcs)
 have HX := hQ_ (aQ hsz (zd bx))
 have HW := hQ_ hW2
 have HG := hQ_ g2
 obtain ⟨r, hr⟩ : ∃ r, bkS b = r := ⟨_, rfl⟩
 have HK := hQ_ (show sBk b (0, []) = r from hr)
 rw [hr]
 clear hi hsz bx bo g2 hW2 hcs hr
 go_enter Tryz.func30, Tryz.ntmps30
 go_upto_region 2 with (fail)
 rw [HW.out]
 go_wp2_with (refine wpList_load_mid rfl 32 _ rfl w.heap.size 0 rfl cs.toList _ HX.out.2 Tryz.underlying32 rfl (by rw [Array.length_toList, HX.out.1]; exact sz_Bko) ?_; rw [Array.toArray_toList])
 refine HB.out.mono ?_
 rintro e W3 ⟨rfl, P⟩
 obtain ⟨F9, hP⟩ : ∃ F9, OI w (w.heap.size + 1) F9 r W3 := ⟨_, by
  have := P.wi
  rw [HK.out] at this
  exact this⟩
 have g3 : w.grownBy W3 none := hP.kept.grownNone fun k hk hn => by show False; exact absurd hk (by simpa using hn)
 obtain ⟨k0, l⟩ := r
 rcases k0 with _ | k0
 · have HD := hQ_ (aQ (odone_ok hP.wr) g3)
   clear P hP g3
   go_wp2_with fail
   refine HD.out.1.mono ?_
   rintro e W4 ⟨rfl, A, c, rfl, hc, hb⟩
   have HE := hQ_ (aQ hc hb)
   clear hc hb
   go_wp2_with fail
   go_ret2
   exact ⟨HD.out.2, A, c, rfl, HE.out.1, HE.out.2⟩
 · obtain ⟨z, hz⟩ : ∃ z : Int, z = ((k0 + 1 : Nat) : Int) := ⟨_, rfl⟩
   have HD := hQ_ (aQ (odone_bad hP.wr z hz) g3)
   have HZ := hQ_ hz
   clear hz
   clear P hP g3
   go_wp2_with fail
   refine HD.out.1.mono ?_
   rintro e W4 ⟨g4, rfl⟩
   have HG4 := hQ_ (za HD.out.2 g4)
   clear g4
   go_wp2_with fail
   go_ret2
   rw [HZ.out]
   exact ⟨HG4.out, by simp⟩
theorem ze1 (w : World) (b : Bk) (hb : BkFit w b) (cs : Array Value) (hcs : cs = b.val) (dv : Array Value) (hdv : dv = arrV .u8 (idD b)) :
    Calls Tryz.prog 14 #[.agg cs] w fun e w' => e = .returned (.tuple #[.agg dv, .int .i64 ((bkS b).1 : Int)]) /\ w.grownBy w' none := by
 obtain ⟨Z, hZ⟩ : ∃ Z, Z = arrV .u8 (List.replicate 16 0) := ⟨_, rfl⟩
 have hz : ∀ w, Sem.run Tryz.prog (zeroValue 24) w = .ok (.agg Z) w := fun w => by rw [hZ]; exact z16run w
 have hZ16 : Z.size = 16 := by rw [hZ]; rfl
 have hd16 : dv.size = 16 := by rw [hdv, zf, z7]
 have hd1 : (dv.all fun v => v.oneCell') = true := by rw [hdv]; exact zu _ _
 have hsz : cs.size = 39 := by rw [hcs]; exact bk_sizeO hb
 obtain ⟨W1, hW1⟩ : ∃ W1, (w.alloc (.cells cs 32)).alloc (.cells Z 24) = W1 := ⟨_, rfl⟩
 have g1 : w.grownBy W1 none := by rw [<- hW1]; exact za (gQ) (gQ)
 have bx : Blk W1 w.heap.size 32 cs := by rw [<- hW1]; exact (Blk.new w _ _).alloc _
 have bd : Blk W1 (w.heap.size + 1) 24 Z := by
  have := Blk.new (w.alloc (.cells cs 32)) 24 Z
  rw [<- hW1]; simpa using this
 obtain ⟨k, hk⟩ : ∃ k, (bkS b).1 = k := ⟨_, rfl⟩
 obtain ⟨L, hL⟩ : ∃ L, (bkS b).2 = L := ⟨_, rfl⟩
 have hkl : L.length <= 8486 := by
  have := bk_addsO hb (0, [])
  rw [<- hL]
  simpa [bkS] using this
 have HR := hQ_ (rbytes_any W1 b (hb.grown g1) cs hcs)
 rw [hk, hL] at HR
 rw [hk]
 have HID0 := hQ_ (fun h : k = 0 => (show idD b = ofS 6 [intsB L] by rw [idD_ok (by rw [hk, h]), hL]))
 have HID1 := hQ_ (fun h : k ≠ 0 => (show idD b = List.replicate 16 0 from idD_no (by rw [hk]; exact h)))
 obtain ⟨S, hS⟩ : ∃ S : ByteArray, xsOf S = intsB L := ⟨⟨L.toArray⟩, zey L⟩
 have hSs : S.size = L.length := by
  have := congrArg List.length hS
  rw [z4, intsB, List.length_map] at this
  exact this
 have HX := hQ_ (aQ hsz (zd bx))
 have HS := hQ_ (aQ hS (aQ hSs hkl))
 have HD := hQ_ (aQ hdv (aQ hd16 (aQ hd1 (aQ hZ16 hZ))))
 have HW := hQ_ hW1
 have HG := hQ_ (aQ g1 bd)
 have hzb : Sem.run Tryz.prog (Instr.build 24 #[]) = Sem.run Tryz.prog (Instr.build 24 #[]) := rfl
 clear hzb hsz bx hS hSs hkl hdv hd16 hd1 hZ16 hW1 g1 bd hL hk hcs hZ hb
 go_enter Tryz.func14, Tryz.ntmps14
 go_upto_region 1 with (fail)
 rw [HW.out]
 go_wp2_with (refine wpList_load_mid rfl 32 _ rfl w.heap.size 0 rfl cs.toList _ HX.out.2 Tryz.underlying32 rfl (by rw [Array.length_toList, HX.out.1]; exact sz_Bko) ?_; rw [Array.toArray_toList])
 refine HR.out.mono ?_
 rintro e W2 ⟨g2, ⟨hk0, A, c, rfl, hc, hb⟩ | ⟨hk0, rfl⟩⟩
 rotate_left
 · have d0 : ((k : Int) != 0) = true := by simp; omega
   have HK0 := hQ_ hk0
   have HG2 := hQ_ (aQ (za HG.out.1 g2) (HG.out.2.grown g2 (by simp)))
   have hv : dv = Z := by rw [HD.out.1, HID1.out hk0, HD.out.2.2.2.2]
   clear g2 hk0
   go_wp2_with (first
    | (refine yi rfl 24 #[] rfl (.agg Z) (by rw [HD.out.2.2.2.2]; kernel_rfl) ?_)
    | (refine wpList_store_row rfl 24 _ _ rfl (w.heap.size + 1) Z rfl rfl 24 _ HG2.out.2 (by rw [HD.out.2.2.2.1]; exact sz_Dg) rfl (by rw [<- hv]; exact HD.out.2.2.1) ?_))
   refine bodyPost_ret (zr rfl _ _ _ ⟨w.heap.size + 1, 0, none⟩ (.agg Z) rfl (run_loadVar_row _ (w.heap.size + 1) 24 24 _ (0, 0) _ (HG2.out.2.row _) Tryz.underlying24 rfl (by rw [HD.out.2.2.2.1]; exact sz_Dg))) rfl ?_
   exact ⟨by rw [hv]; rfl, zc HG2.out.1 (.inl (by omega)) _⟩
 have HK0 := hQ_ hk0
 subst hk0
 have hcv := zb2 W2 A L.length c S (by rw [HS.out.2.1]) (by rw [HS.out.1]; exact BytesI.of hb)
 obtain ⟨W3, hW3⟩ : ∃ W3, W2.alloc (.cells #[.string S] 9) = W3 := ⟨_, rfl⟩
 have g3 : W2.grownBy W3 none := by rw [<- hW3]; exact gQ
 have b3 : Blk W3 W2.heap.size 9 #[.string S] := by rw [<- hW3]; exact Blk.new _ _ _
 have HO := hQ_ (rof_isB W3 6 (some ⟨W2.heap.size, 0, none⟩) 1 1 [S] rfl (fun j hj => by
     obtain rfl : j = 0 := by simpa using hj
     exact ⟨_, rfl, by rw [Go.WideShapes.add_plain, b3.cell]; rfl⟩) (by omega) (fun t ht => by obtain rfl := List.mem_singleton.1 ht; rw [HS.out.2.1]; have := HS.out.2.2; omega) (by
     have := uo 6 8486 ([S].map xsOf) (fun q hq => by
      obtain rfl := List.mem_singleton.1 hq
      rw [z4, HS.out.2.1]; have := HS.out.2.2; omega)
     simp only [List.map_cons, List.map_nil, List.length_cons, List.length_nil] at this ⊢
     omega))
 have HW3 := hQ_ hW3
 have HG3 := hQ_ (aQ (za (za HG.out.1 g2) g3) (HG.out.2.grown (za g2 g3) (by simp)))
 have hv : arrV .u8 (ofS 6 ([S].map xsOf)) = dv := by rw [HD.out.1, HID0.out rfl]; simp [HS.out.1]
 rw [hv] at HO
 clear g2 g3 hc hb b3 hW3 hv
 go_wp2_with fail
 rw [HW3.out]
 refine HO.out.mono ?_
 rintro e W4 ⟨rfl, g4⟩
 have HG4 := hQ_ (aQ (za HG3.out.1 g4) (HG3.out.2.grown g4 (by simp)))
 clear g4
 go_wp2_with (refine wpList_store_row rfl 24 _ _ rfl (w.heap.size + 1) dv rfl rfl 24 _ HG4.out.2 (by rw [HD.out.2.1]; exact sz_Dg) (by rw [HD.out.2.1, HD.out.2.2.2.1]) HD.out.2.2.1 ?_)
 refine bodyPost_ret (zr rfl _ _ _ ⟨w.heap.size + 1, 0, none⟩ (.agg dv) rfl (run_loadVar_row _ (w.heap.size + 1) 24 24 _ (0, 0) _ (HG4.out.2.row _) Tryz.underlying24 rfl (by rw [HD.out.2.1]; exact sz_Dg))) rfl ?_
 exact ⟨rfl, zc HG4.out.1 (.inl (by omega)) _⟩
end
section
theorem VdsAt.kept {w w' : World} {F : Nat -> Prop} {A : Option Addr} {V : List Vd} (h : VdsAt w A V) (hk : Kept F w w') (hF : ∀ a, A = some a -> ¬ F a.block) : VdsAt w' A V := fun hne => by
 obtain ⟨b, off, e, hc⟩ := h hne
 exact ⟨b, off, e, fun k hl j v hj => hk.cell (hc k hl j v hj) (hF ⟨b, off, none⟩ e)⟩
theorem flat_cells_at {w : World} {b : Nat} : ∀ (V : List Vd) (off : Nat) (_ : keysOk V), (∀ k (h : k < V.length), w.rangeAt b (off + k * 17) V[k].cells) -> ∀ j u, (V.flatMap Vd.cells)[j]? = some u -> w.cell? ⟨b, off + j, none⟩ = some u
 | [], _, _, _, j, u, h => by simp at h
 | x :: V, off, ok, hR, j, u, h => by
  have hx := Vd.cells_length (ok x (by simp))
  rw [List.flatMap_cons] at h
  by_cases hj : j < 17
  · rw [List.getElem?_append_left (by omega)] at h
    have := hR 0 (by simp) j u (by simpa using h)
    simpa using this
  · rw [List.getElem?_append_right (by omega), hx] at h
    have := flat_cells_at V (off + 17) (fun y hy => ok y (by simp [hy])) (fun k hk => by
     have := hR (k + 1) (by simpa using hk)
     rw [show off + 17 + k * 17 = off + (k + 1) * 17 by omega]
     simpa using this) (j - 17) u h
    rwa [show off + 17 + (j - 17) = off + j by omega] at this
theorem flat_len {V : List Vd} (ok : keysOk V) : (V.flatMap Vd.cells).length = V.length * 17 := by
 induction V with
 | nil => rfl
 | cons x V ih =>
  rw [List.flatMap_cons, List.length_append, Vd.cells_length (ok x (by simp)), ih (fun y hy => ok y (by simp [hy])), List.length_cons]
  omega
theorem flat_one {V : List Vd} : ∀ u ∈ V.flatMap Vd.cells, u.oneCell' = true := fun u hu => by
 obtain ⟨x, _, hu⟩ := List.mem_flatMap.1 hu
 rw [Vd.cells] at hu
 rcases List.mem_append.1 hu with h | h
 · obtain ⟨z, _, rfl⟩ := List.mem_map.1 h; rfl
 · rw [List.mem_singleton.1 h]; rfl
theorem vd_info : (Tryz.prog.info? 55).map (fun i => (i.zero, i.size, i.bytes)) = some (some (.agg (List.replicate 16 (Value.int .u8 0) ++ [Value.int .i64 0]).toArray), 17, 24) := by kernel_rfl
end
end Go.Proofs.YtigafnbofmiknaaGreatDoor
