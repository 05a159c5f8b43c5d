/-
  Several texts in one: CdSm, CdSq.
-/
import Derived.Deep.DeepCutAuto
import Derived.Test.YtpdfkgmgmndcfaaGreatDoorM20P
import Derived.Test.YtpdfkgmgmndcfaaGreatDoorM20v
import Derived.Test.YtpdfkgmgmndcfaaGreatDoorM20x
import Derived.Test.YtpdfkgmgmndcfaaGreatDoorM20y
/-
  The document's Same: rows of digests, signatures, those who signed.
-/
namespace Go.Proofs.YtpdfkgmgmndcfaaGreatDoor
open Go.RowKit

attribute [local go_sem] Oper.semAt_some

theorem digrow_same (w : World) (A1 A2 : Option Addr) (n1 c1 n2 c2 : Nat) (ps qs : List (List Int)) (h1 : DigRow w A1 n1 ps) (h2 : DigRow w A2 n2 qs) (hn : n1 ≤ 1000) (r : Bool) (hr : r = decide (ps = qs)) :
    Calls Tryz.prog 51 #[.slice A1 n1 c1, .slice A2 n2 c2] w fun e w' => e = .returned (.bool r) ∧ w.grownBy w' none := by
  by_cases hne : n1 = n2
  · subst hne
    obtain ⟨l1, d1, h1⟩ := h1
    obtain ⟨l2, d2, h2⟩ := h2
    rcases h1 with h0 | ⟨b1, o1, rfl, D1⟩
    · subst h0
      have e1 : ps = [] := List.length_eq_zero_iff.1 l1
      have e2 : qs = [] := List.length_eq_zero_iff.1 l2
      rw [hr, e1, e2]
      exact digs_none w A1 A2 c1 c2
    · rcases h2 with h0 | ⟨b2, o2, rfl, D2⟩
      · subst h0
        have e1 : ps = [] := List.length_eq_zero_iff.1 l1
        have e2 : qs = [] := List.length_eq_zero_iff.1 l2
        rw [hr, e1, e2]
        exact digs_none w _ A2 c1 c2
      · exact digs_same w b1 o1 c1 b2 o2 c2 n1 ps qs l1 l2 hn d1 d2 D1 D2 r hr
  · have hp : decide (ps = qs) = false := decide_eq_false (fun h => hne (by rw [← h1.1, ← h2.1, h]))
    rw [hr, hp]
    exact digs_len w A1 A2 n1 n2 c1 c2 hne
set_option maxRecDepth 100000 in
theorem rsame5_is (w : World) (la lb : Int) (A1 A2 B1 B2 : Option Addr) (n1 c1 n2 c2 m1 d1 m2 d2 : Nat) (r1 r2 : Bool)
    (H1 : ∀ z, w.grownBy z none → Calls Tryz.prog 51 #[.slice A1 n1 c1, .slice B1 m1 d1] z fun e w' => e = .returned (.bool r1) ∧ z.grownBy w' none)
    (H2 : ∀ z, w.grownBy z none → Calls Tryz.prog 51 #[.slice A2 n2 c2, .slice B2 m2 d2] z fun e w' => e = .returned (.bool r2) ∧ z.grownBy w' none) :
    Calls Tryz.prog 38 #[.agg (sigV la (.slice A1 n1 c1) (.slice A2 n2 c2)), .agg (sigV lb (.slice B1 m1 d1) (.slice B2 m2 d2))] w fun e w' => e = .returned (.bool (decide (la = lb) && r1 && r2)) ∧ w.grownBy w' none := by
  have K1 := Lib.hid H1
  have K2 := Lib.hid H2
  clear H1 H2
  have hg := grown_trans (World.grownBy_alloc w (.cells (sigV la (.slice A1 n1 c1) (.slice A2 n2 c2)) 99) none) (World.grownBy_alloc _ (.cells (sigV lb (.slice B1 m1 d1) (.slice B2 m2 d2)) 99) none)
  simp only [sigV] at hg
  have HG := Lib.hid hg
  clear hg
  simp only [sigV]
  by_cases hab : la = lb
  · subst hab
    have dab : (la == la) = true := by simp
    cases r1
    · go_enter Tryz.func38, Tryz.ntmps38
      go_wp2_with fail
      refine (K1.out _ HG.out).mono ?_
      rintro e w2 ⟨rfl, hk2⟩
      have HK2 := Lib.hid (grown_trans HG.out hk2)
      clear hk2
      go_wp2_with fail
      go_ret
      exact ⟨by simp, HK2.out⟩
    · go_enter Tryz.func38, Tryz.ntmps38
      go_wp2_with fail
      refine (K1.out _ HG.out).mono ?_
      rintro e w2 ⟨rfl, hk2⟩
      have HK2 := Lib.hid (grown_trans HG.out hk2)
      have HC := Lib.hid hk2
      have c1' : w2.cell? ⟨w.heap.size, 2, none⟩ = some (.slice A2 n2 c2) := by
        have b1 := (Blk.new w 99 #[.int .i64 la, .slice A1 n1 c1, .slice A2 n2 c2]).alloc (.cells #[.int .i64 la, .slice B1 m1 d1, .slice B2 m2 d2] 99)
        exact ((b1.grown hk2 (by simp)).cell 2)
      have c2' : w2.cell? ⟨w.heap.size + 1, 2, none⟩ = some (.slice B2 m2 d2) := by
        have b1 := Blk.new (w.alloc (.cells #[.int .i64 la, .slice A1 n1 c1, .slice A2 n2 c2] 99)) 99 #[.int .i64 la, .slice B1 m1 d1, .slice B2 m2 d2]
        rw [World.size_alloc] at b1
        exact ((b1.grown hk2 (by simp)).cell 2)
      clear hk2
      go_wp2_with fail
      refine (K2.out _ HK2.out).mono ?_
      rintro e w3 ⟨rfl, hk3⟩
      have HK3 := Lib.hid (grown_trans HK2.out hk3)
      clear hk3 c1' c2'
      go_wp2_with fail
      go_ret
      exact ⟨by simp, HK3.out⟩
  · have dab : (la == lb) = false := by simp [hab]
    have dd : decide (la = lb) = false := decide_eq_false hab
    clear hab
    go_enter Tryz.func38, Tryz.ntmps38
    go_wp2_with fail
    go_ret
    exact ⟨by simp [dd], HG.out⟩
def sgEq (x y : Sg) : Bool := decide (x.lf = y.lf) && decide (x.cs = y.cs) && decide (x.ps = y.ps)
theorem sig_same (w : World) (x y : Sg) (hx : x.At w) (hy : y.At w) (h1 : x.n1 ≤ 1000) (h2 : x.n2 ≤ 1000) :
    Calls Tryz.prog 38 #[.agg x.sig, .agg y.sig] w fun e w' => e = .returned (.bool (sgEq x y)) ∧ w.grownBy w' none :=
  rsame5_is w x.lf y.lf x.A1 x.A2 y.A1 y.A2 x.n1 x.c1 x.n2 x.c2 y.n1 y.c1 y.n2 y.c2 _ _ (fun z hz => digrow_same z _ _ _ _ _ _ _ _ (hx.1.grown hz) (hy.1.grown hz) h1 _ rfl) (fun z hz => digrow_same z _ _ _ _ _ _ _ _ (hx.2.grown hz) (hy.2.grown hz) h2 _ rfl)
def sgsEqP (L M : List Sg) : Prop := L.length = M.length ∧ ∀ j (h1 : j < L.length) (h2 : j < M.length), L[j].who = M[j].who ∧ sgEq L[j] M[j] = true
noncomputable def sgsEq (L M : List Sg) : Bool := @decide (sgsEqP L M) (Classical.propDecidable _)
theorem sgsEq_true {L M : List Sg} (h : sgsEqP L M) : sgsEq L M = true := by unfold sgsEq; exact @decide_eq_true _ (Classical.propDecidable _) h
theorem sgsEq_false {L M : List Sg} (h : ¬ sgsEqP L M) : sgsEq L M = false := by unfold sgsEq; exact @decide_eq_false _ (Classical.propDecidable _) h
theorem mid_loadS (b o : Nat) (cs : Array Value) (Y : World) (h : Y.rangeAt b o cs.toList) (hs : cs.size = 3) : Sem.run Tryz.prog (Instr.loadAt 99 (.pointer (some ⟨b, o, none⟩))) Y = .ok (.agg cs) Y := by
  have := run_loadAt_mid (P := Tryz.prog) Y b o 99 cs.toList _ h Tryz.underlying99 rfl (by rw [Array.length_toList, hs]; exact sz_Sig)
  rwa [Array.toArray_toList] at this
set_option maxRecDepth 100000 in
set_option maxHeartbeats 2000000 in
theorem signed_same (w : World) (A1 A2 : Option Addr) (c1 c2 : Nat) (L M : List Sg) (hL : SgsAt w A1 L) (hM : SgsAt w A2 M) (okL : SgsOk w L) (okM : SgsOk w M) (hl : L.length ≤ 1000) (hb : ∀ x ∈ L, x.n1 ≤ 1000 ∧ x.n2 ≤ 1000) :
    Calls Tryz.prog 29 #[.slice A1 L.length c1, .slice A2 M.length c2] w fun e w' => e = .returned (.bool (sgsEq L M)) ∧ w.grownBy w' none := by
  obtain ⟨n, hn⟩ : ∃ n, L.length = n := ⟨_, rfl⟩
  obtain ⟨m, hm⟩ : ∃ m, M.length = m := ⟨_, rfl⟩
  obtain ⟨R, hR⟩ : ∃ R, R = sgsEq L M := ⟨_, rfl⟩
  rw [hn, hm, ← hR]
  have HX := Lib.hid (And.intro hL (And.intro hM (And.intro okL (And.intro okM (And.intro hb (And.intro hn (And.intro hm hR)))))))
  have hn1 : n ≤ 1000 := by omega
  by_cases hnm : n = m
  · clear hL hM okL okM hb hn hm hR hl
    subst hnm
    have dnm : ((n : Int) != (n : Int)) = false := by simp
    go_enter Tryz.func29, Tryz.ntmps29
    go_wp2_with fail
    go_loopw [13] (fun i wr => ∃ k : Nat, k ≤ n ∧ i = .int .i64 (k : Int) ∧ Hid (∀ j (h1 : j < L.length) (h2 : j < M.length), j < k → L[j].who = M[j].who ∧ sgEq L[j] M[j] = true) ∧ w.grownBy wr none) (fun i _ => n - (intOf i).toNat)
    case atStart => exact ⟨0, Nat.zero_le _, rfl, Lib.hid (fun j _ _ h => absurd h (by omega)), World.grownBy.refl w none⟩
    case round =>
      obtain ⟨k, hk, hi, hno, hK⟩ := hrel
      obtain ⟨I, hI⟩ : ∃ I : Int, I = (k : Int) := ⟨_, rfl⟩
      rw [← hI] at hi
      subst hi
      rename World => wr
      obtain ⟨hL, hM, okL, okM, hb, hn, hm, hR⟩ := HX.out
      by_cases hlt : k < n
      · have h1 : k < L.length := by omega
        have h2 : k < M.length := by omega
        obtain ⟨b1, o1, rfl, hc1⟩ := hL (by rintro rfl; simp at h1)
        obtain ⟨b2, o2, rfl, hc2⟩ := hM (by rintro rfl; simp at h2)
        have d1 : decide (I < (n : Int)) = true := by simp; omega
        have hIV : I < (n : Int) := by omega
        have hI0 : 0 ≤ I ∧ I < 1001 := by omega
        have hkI : I.toNat = k := by omega
        have r1 := range_kept (hc1 k h1) hK
        have r2 := range_kept (hc2 k h2) hK
        obtain ⟨x, hxe⟩ : ∃ x, x = L[k] := ⟨_, rfl⟩
        obtain ⟨y, hye⟩ : ∃ y, y = M[k] := ⟨_, rfl⟩
        rw [← hxe] at r1
        rw [← hye] at r2
        have hxm : x ∈ L := by rw [hxe]; exact List.getElem_mem h1
        have hym : y ∈ M := by rw [hye]; exact List.getElem_mem h2
        have c1' : wr.cell? ⟨b1, o1 + I.toNat * 4, none⟩ = some (.int .i64 x.who) := by rw [hkI]; have := r1 0 (.int .i64 x.who) rfl; simpa using this
        have c2' : wr.cell? ⟨b2, o2 + I.toNat * 4, none⟩ = some (.int .i64 y.who) := by rw [hkI]; have := r2 0 (.int .i64 y.who) rfl; simpa using this
        have s1 : wr.rangeAt b1 (o1 + I.toNat * 4 + 1) x.sig.toList := by rw [hkI]; exact fun j v hv => by have := r1 (1 + j) v (by simp only [Sg.cells, Array.toList_append]; rw [List.getElem?_append_right (by simp)]; simpa using hv); rwa [← Nat.add_assoc] at this
        have s2 : wr.rangeAt b2 (o2 + I.toNat * 4 + 1) y.sig.toList := by rw [hkI]; exact fun j v hv => by have := r2 (1 + j) v (by simp only [Sg.cells, Array.toList_append]; rw [List.getElem?_append_right (by simp)]; simpa using hv); rwa [← Nat.add_assoc] at this
        obtain ⟨sx, hsx⟩ : ∃ z, z = x.sig := ⟨_, rfl⟩
        obtain ⟨sy, hsy⟩ : ∃ z, z = y.sig := ⟨_, rfl⟩
        have zx : sx.size = 3 := by rw [hsx]; rfl
        have zy : sy.size = 3 := by rw [hsy]; rfl
        rw [← hsx] at s1
        rw [← hsy] at s2
        obtain ⟨r, hr⟩ : ∃ r, r = sgEq x y := ⟨_, rfl⟩
        have S1 := Lib.hid (fun z : Gr wr => (show Calls Tryz.prog 38 #[.agg sx, .agg sy] z.1 fun e w' => e = .returned (.bool r) ∧ z.1.grownBy w' none from by
          rw [hsx, hsy, hr]
          have hg := grown_trans hK z.2
          exact sig_same z.1 x y ⟨(okL x hxm).1.grown hg, (okL x hxm).2.grown hg⟩ ⟨(okM y hym).1.grown hg, (okM y hym).2.grown hg⟩ (hb x hxm).1 (hb x hxm).2))
        have L1 := Lib.hid (fun z : Gr wr => mid_loadS b1 (o1 + I.toNat * 4 + 1) sx z.1 (range_kept s1 z.2) zx)
        have L2 := Lib.hid (fun z : Gr wr => mid_loadS b2 (o2 + I.toNat * 4 + 1) sy z.1 (range_kept s2 z.2) zy)
        have k1 := Gr.cell c1'
        have k2 := Gr.cell c2'
        obtain ⟨xw, hxw⟩ : ∃ z, z = x.who := ⟨_, rfl⟩
        obtain ⟨yw, hyw⟩ : ∃ z, z = y.who := ⟨_, rfl⟩
        rw [← hxw] at k1
        rw [← hyw] at k2
        have HN := Lib.hid (And.intro hno (And.intro hK (And.intro hI (And.intro hlt (And.intro (show ∃ (a : k < L.length) (b : k < M.length), xw = L[k].who ∧ yw = M[k].who ∧ r = sgEq L[k] M[k] from ⟨h1, h2, by rw [hxw, hxe], by rw [hyw, hye], by rw [hr, hxe, hye]⟩) hR)))))
        clear r1 r2 hxe hye hxm hym c1' c2' s1 s2 hsx hsy zx zy hr hxw hyw hc1 hc2 hL hM okL okM hb hn hm hR hno hK hI hkI hlt h1 h2 hk
        by_cases hw : xw = yw
        · subst hw
          have dw : (xw != xw) = false := by simp
          cases r
          all_goals
            go_wp2_with fail
            refine wp_region_grown (by kernel_rfl) (by kernel_rfl) ?_
            repeat (first
              | go_big_quiet_skip
              | (refine wpQuiet_load_row 99 _ ⟨b1, o1 + I.toNat * 4 + 1, none⟩ (.agg sx) (by rfl) rfl rfl (by rintro _ ⟨z, rfl⟩; exact L1.out z) ?_; simp only [Act.put, List.setIfInBounds_toArray, List.set_cons_zero, List.set_cons_succ])
              | (refine wpQuiet_load_row 99 _ ⟨b2, o2 + I.toNat * 4 + 1, none⟩ (.agg sy) (by rfl) rfl rfl (by rintro _ ⟨z, rfl⟩; exact L2.out z) ?_; simp only [Act.put, List.setIfInBounds_toArray, List.set_cons_zero, List.set_cons_succ])
              | go_big_quiet_step (first
              | (go_at_call 38; with_reducible exact Calls.grown _ (S1.out _))))
            refine wpQuiet_nil ?_
            rintro w7 ⟨⟨_, k7⟩, rfl⟩
            have HK := Lib.hid (grown_trans HN.out.2.1 k7)
            clear k7
            go_wp2_with fail
          · go_ret
            have hF := sgsEq_false (L := L) (M := M) (fun h => by
              obtain ⟨a, b, _, _, hrr⟩ := HN.out.2.2.2.2.1
              have := (h.2 k a b).2
              rw [← hrr] at this
              cases this)
            exact ⟨by rw [HN.out.2.2.2.2.2, hF]; rfl, HK.out⟩
          · go_roundw
            case rel =>
              obtain ⟨n1, n2, n3, n4, ⟨a, b, e1, e2, e3⟩, n6⟩ := HN.out
              refine ⟨k + 1, by omega, by rw [n3]; rfl, Lib.hid (fun j q1 q2 hj => ?_), HK.out⟩
              by_cases hjk : j = k
              · subst hjk; exact ⟨by rw [← e1, ← e2], e3.symm⟩
              · exact n1.out j q1 q2 (by omega)
            case measure => obtain ⟨n1, n2, n3, n4, _, n6⟩ := HN.out; simp [intOf]; omega
        · have dw : (xw != yw) = true := by simp [hw]
          have HWW := Lib.hid hw
          go_wp2_with fail
          refine wp_region_grown (by kernel_rfl) (by kernel_rfl) ?_
          repeat (first
            | go_big_quiet_skip
            | go_big_quiet_step (fail))
          refine wpQuiet_nil ?_
          rintro w7 ⟨⟨_, k7⟩, rfl⟩
          have HK := Lib.hid (grown_trans HN.out.2.1 k7)
          clear k7
          go_wp2_with fail
          go_ret
          have hF := sgsEq_false (L := L) (M := M) (fun h => by
            obtain ⟨a, b, e1, e2, _⟩ := HN.out.2.2.2.2.1
            exact HWW.out (by rw [e1, e2]; exact (h.2 k a b).1))
          exact ⟨by rw [HN.out.2.2.2.2.2, hF]; rfl, HK.out⟩
      · have d1 : decide (I < (n : Int)) = false := by simp; omega
        have hT := sgsEq_true (L := L) (M := M) ⟨by omega, fun j h1 h2 => hno.out j h1 h2 (by omega)⟩
        have HK := Lib.hid (And.intro hK (show R = true by rw [hR, hT]))
        clear hK hno hI hlt hk hT hL hM okL okM hb hn hm hR
        go_wp2_with fail
        go_ret
        exact ⟨by rw [HK.out.2]; rfl, HK.out.1⟩
  · have dnm : ((n : Int) != (m : Int)) = true := by simp; omega
    have hne : ¬ (n : Int) = (m : Int) := by omega
    have HF := Lib.hid (show R = false by rw [hR]; exact sgsEq_false (fun h => hnm (by rw [← hn, ← hm]; exact h.1)))
    clear hL hM okL okM hb hn hm hR hl hnm
    go_enter Tryz.func29, Tryz.ntmps29
    go_wp2_with fail
    go_ret
    exact ⟨by rw [HF.out]; rfl, World.grownBy.refl w none⟩
end Go.Proofs.YtpdfkgmgmndcfaaGreatDoor
/-
  The document's SameQC.
-/
namespace Go.Proofs.YtpdfkgmgmndcfaaGreatDoor
open Go.RowKit

attribute [local go_sem] Oper.semAt_some

theorem wpList_load_mid_g {P : Program} {ops : Array Oper} {rest : List Oper} {op : Oper} {a : Act} {w : World} {Q : Exit → Act → World → Prop} (hw : Region.wanted op (yielded ops a.tmps) = true) (ty : TypeId) (x : Operand) (ho : op.op = .load ty x)
    (b o : Nat) (hx : a.eval x = .pointer (some ⟨b, o, none⟩)) (cs : List Value) (d : TypeDesc) (hc : w.rangeAt b o cs)
    (hu : P.underlying ty = some d) (hd : d.isRow = true) (hi : (P.info? ty).map (·.size) = some cs.length)
    (h : wpList P ops Q rest (a.put op.dst (.agg cs.toArray)) w) : wpList P ops Q (op :: rest) a w :=
  wpList_step fun K hK => by
    rw [if_pos hw]
    exact wp_load_mid ty x ho b o hx cs d hc hu hd hi (hK _ _ h)
noncomputable def qcEq (x y : Qc) : Bool := decide (x.e = y.e) && (decide (x.r = y.r) && (decide (x.Bl = y.Bl) && sgsEq x.L y.L))
set_option maxRecDepth 100000 in
set_option maxHeartbeats 2000000 in
theorem qc_same (w : World) (x y : Qc) (hx : x.At w) (hy : y.At w) (hl : x.L.length ≤ 1000) (hb : ∀ s ∈ x.L, s.n1 ≤ 1000 ∧ s.n2 ≤ 1000) (xv yv : Array Value) (hxv : xv = x.val) (hyv : yv = y.val) :
    Calls Tryz.prog 20 #[.agg xv, .agg yv] w fun e w' => e = .returned (.bool (qcEq x y)) ∧ w.grownBy w' none := by
  obtain ⟨w1, hw1⟩ : ∃ w1, (w.alloc (.cells xv 41)).alloc (.cells yv 41) = w1 := ⟨_, rfl⟩
  obtain ⟨q, hq⟩ : ∃ q, w.heap.size = q := ⟨_, rfl⟩
  have g1 : w.grownBy w1 none := by rw [← hw1]; exact grown_trans (World.grownBy_alloc _ _ none) (World.grownBy_alloc _ _ none)
  have b1 : Blk w1 q 41 xv := by rw [← hw1, ← hq]; exact (Blk.new _ _ _).alloc _
  have b2 : Blk w1 (q + 1) 41 yv := by
    have h := Blk.new (w.alloc (.cells xv 41)) 41 yv
    rw [World.size_alloc, hw1, hq] at h
    exact h
  obtain ⟨xb, hxb⟩ : ∃ z, z = arrV .u8 x.Bl := ⟨_, rfl⟩
  obtain ⟨yb, hyb⟩ : ∃ z, z = arrV .u8 y.Bl := ⟨_, rfl⟩
  have sx : xb.size = 16 := by rw [hxb, arr_size, hx.1.1]
  have sy : yb.size = 16 := by rw [hyb, arr_size, hy.1.1]
  have hclx : xv.toList = [Value.int .i64 x.e, .int .i64 x.r] ++ (xb.toList ++ [.slice x.A x.L.length x.c]) := by rw [hxv, hxb]; simp [Qc.val]
  have hcly : yv.toList = [Value.int .i64 y.e, .int .i64 y.r] ++ (yb.toList ++ [.slice y.A y.L.length y.c]) := by rw [hyv, hyb]; simp [Qc.val]
  have r1 := range_blk0 b1
  have r2 := range_blk0 b2
  rw [hclx] at r1
  rw [hcly] at r2
  have k0 : w1.cell? ⟨q, 0, none⟩ = some (.int .i64 x.e) := by have := r1 0 _ rfl; simpa using this
  have k1 : w1.cell? ⟨q, 1, none⟩ = some (.int .i64 x.r) := by have := r1 1 _ rfl; simpa using this
  have k2 : w1.rangeAt q 2 xb.toList := by have := range_seg r1; simpa only [List.length_cons, List.length_nil, Nat.zero_add, Nat.reduceAdd] using this
  have k3 : w1.cell? ⟨q, 18, none⟩ = some (.slice x.A x.L.length x.c) := by have := range_tail (range_tail r1) 0 _ rfl; simpa only [Array.length_toList, sx, List.length_cons, List.length_nil, Nat.zero_add, Nat.reduceAdd, Nat.add_zero] using this
  have m0 : w1.cell? ⟨q + 1, 0, none⟩ = some (.int .i64 y.e) := by have := r2 0 _ rfl; simpa using this
  have m1 : w1.cell? ⟨q + 1, 1, none⟩ = some (.int .i64 y.r) := by have := r2 1 _ rfl; simpa using this
  have m2 : w1.rangeAt (q + 1) 2 yb.toList := by have := range_seg r2; simpa only [List.length_cons, List.length_nil, Nat.zero_add, Nat.reduceAdd] using this
  have m3 : w1.cell? ⟨q + 1, 18, none⟩ = some (.slice y.A y.L.length y.c) := by have := range_tail (range_tail r2) 0 _ rfl; simpa only [Array.length_toList, sy, List.length_cons, List.length_nil, Nat.zero_add, Nat.reduceAdd, Nat.add_zero] using this
  have heq : ∀ V, Sem.run Tryz.prog (Op.equalIn 10000 24 (.agg xb) (.agg yb)) V = .ok (decide (x.Bl = y.Bl)) V := fun V => by rw [hxb, hyb]; exact eqDK20 V x.Bl y.Bl hx.1.1 hy.1.1
  have HS := Lib.hid (signed_same w1 x.A y.A x.c y.c x.L y.L (hx.2.1.grown g1) (hy.2.1.grown g1) (hx.2.2.grown g1) (hy.2.2.grown g1) hl hb)
  have HR := Lib.hid (And.intro k2 (And.intro m2 (And.intro sx sy)))
  have HG := Lib.hid g1
  have HW := Lib.hid (And.intro hw1 hq)
  obtain ⟨R, hR⟩ : ∃ R, R = qcEq x y := ⟨_, rfl⟩
  rw [← hR]
  have HRR := Lib.hid hR
  obtain ⟨xe, hxe⟩ : ∃ z, z = x.e := ⟨_, rfl⟩
  obtain ⟨ye, hye⟩ : ∃ z, z = y.e := ⟨_, rfl⟩
  obtain ⟨xr, hxr⟩ : ∃ z, z = x.r := ⟨_, rfl⟩
  obtain ⟨yr, hyr⟩ : ∃ z, z = y.r := ⟨_, rfl⟩
  rw [← hxe] at k0
  rw [← hye] at m0
  rw [← hxr] at k1
  rw [← hyr] at m1
  obtain ⟨d, hd⟩ : ∃ d, d = decide (x.Bl = y.Bl) := ⟨_, rfl⟩
  rw [← hd] at heq
  have HE := Lib.hid (And.intro hxe (And.intro hye (And.intro hxr (And.intro hyr hd))))
  clear k2 m2 sx sy g1 hw1 hq hR b1 b2 r1 r2 hclx hcly hxb hyb hxv hyv hx hy hl hb hxe hye hxr hyr hd
  by_cases h1 : xe = ye
  · subst h1
    have e1 : (xe == xe) = true := by simp
    by_cases h2 : xr = yr
    · subst h2
      have e2 : (xr == xr) = true := by simp
      cases d
      · have HF := Lib.hid (show R = false by rw [HRR.out, qcEq, ← HE.out.2.2.2.2]; simp)
        go_enter Tryz.func20, Tryz.ntmps20
        go_upto_region 1 with (fail)
        rw [HW.out.1, HW.out.2]
        go_wp2_with (first
          | (refine wpList_load_mid_g (by rfl) 24 _ rfl q 2 rfl xb.toList _ HR.out.1 Tryz.underlying24 rfl (by rw [Array.length_toList, HR.out.2.2.1]; exact sz_Dg) ?_; rw [Array.toArray_toList])
          | (refine wpList_load_mid_g (by rfl) 24 _ rfl (q + 1) 2 rfl yb.toList _ HR.out.2.1 Tryz.underlying24 rfl (by rw [Array.length_toList, HR.out.2.2.2]; exact sz_Dg) ?_; rw [Array.toArray_toList]))
        go_ret
        exact ⟨by rw [HF.out]; rfl, HG.out⟩
      · have HF := Lib.hid (show R = sgsEq x.L y.L by rw [HRR.out, qcEq, ← HE.out.2.2.2.2, ← HE.out.1, ← HE.out.2.1, ← HE.out.2.2.1, ← HE.out.2.2.2.1]; simp)
        go_enter Tryz.func20, Tryz.ntmps20
        go_upto_region 1 with (fail)
        rw [HW.out.1, HW.out.2]
        go_wp2_with (first
          | (refine wpList_load_mid_g (by rfl) 24 _ rfl q 2 rfl xb.toList _ HR.out.1 Tryz.underlying24 rfl (by rw [Array.length_toList, HR.out.2.2.1]; exact sz_Dg) ?_; rw [Array.toArray_toList])
          | (refine wpList_load_mid_g (by rfl) 24 _ rfl (q + 1) 2 rfl yb.toList _ HR.out.2.1 Tryz.underlying24 rfl (by rw [Array.length_toList, HR.out.2.2.2]; exact sz_Dg) ?_; rw [Array.toArray_toList]))
        refine HS.out.mono ?_
        rintro e w3 ⟨rfl, g3⟩
        obtain ⟨b, hb⟩ : ∃ b, b = sgsEq x.L y.L := ⟨_, rfl⟩
        rw [← hb]
        have HB := Lib.hid (show R = b by rw [HF.out, hb])
        have HG3 := Lib.hid (grown_trans HG.out g3)
        clear hb g3
        go_wp2_with fail
        go_ret
        exact ⟨by rw [HB.out]; rfl, HG3.out⟩
    · have e2 : (xr == yr) = false := by simp [h2]
      have HF := Lib.hid (show R = false by rw [HRR.out, qcEq, ← HE.out.2.2.1, ← HE.out.2.2.2.1, decide_eq_false h2]; simp)
      clear h2
      go_enter Tryz.func20, Tryz.ntmps20
      go_upto_region 1 with (fail)
      rw [HW.out.1, HW.out.2]
      go_wp2_with fail
      go_ret
      exact ⟨by rw [HF.out]; rfl, HG.out⟩
  · have e1 : (xe == ye) = false := by simp [h1]
    have HF := Lib.hid (show R = false by rw [HRR.out, qcEq, ← HE.out.1, ← HE.out.2.1, decide_eq_false h1]; simp)
    clear h1
    go_enter Tryz.func20, Tryz.ntmps20
    go_upto_region 1 with (fail)
    rw [HW.out.1, HW.out.2]
    go_wp2_with fail
    go_ret
    exact ⟨by rw [HF.out]; rfl, HG.out⟩
end Go.Proofs.YtpdfkgmgmndcfaaGreatDoor
