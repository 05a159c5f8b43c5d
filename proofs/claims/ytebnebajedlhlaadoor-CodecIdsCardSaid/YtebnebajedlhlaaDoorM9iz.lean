/-
  Several texts in one: CdS, CdSm.
-/
import Derived.Deep.DeepCutAuto
import Derived.Test.YtebnebajedlhlaaDoorM9iy
import Derived.Test.YtebnebajedlhlaaDoorM9is
import Derived.Test.YtebnebajedlhlaaDoorM9ix
/-
  A signature that is written, and who signed.
-/
namespace Go.Proofs.YtebnebajedlhlaaDoor
open Go.RowKit

theorem sz_Sig : (Tryd.prog.info? 46).map (·.size) = some 3 := by kernel_rfl
section
variable {w0 : World} {E : Nat → Addr} {g : Nat} (he : ErrAt w0 w0.heap.size 1 (E 0))
include he
set_option maxRecDepth 100000 in
set_option maxHeartbeats 1000000 in
theorem sig_st (w : World) (F : Nat → Prop) (s : WSt) (h : WI w0 E g F s w) (hs : s.2.length ≤ 2100000) (lf : Int) (A1 A2 : Option Addr) (n1 c1 n2 c2 : Nat) (cs ps : List (List Int)) (hC : DigRow w0 A1 n1 cs) (hP : DigRow w0 A2 n2 ps) (sv : Array Value) (hsv : sv = sigV lf (.slice A1 n1 c1) (.slice A2 n2 c2)) :
    Calls Tryd.prog 57 #[.agg #[.pointer (some ⟨g, 0, none⟩)], .agg sv] w fun e w' => e = .returned (.tuple #[]) ∧ WP w0 E g F (sSig lf cs ps s) w w' := by
  subst hsv
  unfold sigV
  have e1 : sSig lf cs ps s = sPut n2 5 (sAll sDig ps) (sPut n1 68 (sAll sDig cs) (sNum lf 1 s)) := by rw [sSig, hC.1, hP.1]
  rw [e1]
  have HD := Lib.hid (And.intro hC hP)
  clear e1 hC hP
  obtain ⟨W1, hW1⟩ : ∃ W1, ((w.alloc (.cells #[.pointer (some ⟨g, 0, none⟩)] 71)).alloc (.cells #[.int .i64 lf, .slice A1 n1 c1, .slice A2 n2 c2] 46)) = W1 := ⟨_, rfl⟩
  have g1 : w.grownBy W1 none := by rw [← hW1]; exact grown_trans (World.grownBy_alloc _ _ none) (World.grownBy_alloc _ _ none)
  have bw : Blk W1 w.heap.size 71 #[.pointer (some ⟨g, 0, none⟩)] := by rw [← hW1]; exact (Blk.new w _ _).alloc _
  have bx : Blk W1 (w.heap.size + 1) 46 #[.int .i64 lf, .slice A1 n1 c1, .slice A2 n2 c2] := by
    have := Blk.new (w.alloc (.cells #[.pointer (some ⟨g, 0, none⟩)] 71)) 46 #[.int .i64 lf, .slice A1 n1 c1, .slice A2 n2 c2]
    rw [← hW1]; simpa using this
  have hi := h.opened g1
  have HCl := Lib.hid (fun (w2 : World) (s2 : WSt) (P : WP w0 E g (fun k => F k ∧ k < w.heap.size) s2 W1 w2) => WP.closed (F := F) h g1 P)
  have HB := Lib.hid (fun (V : World) (s' : WSt) (P : WP w0 E g (fun k => F k ∧ k < w.heap.size) s' W1 V) => (show V.cell? ⟨w.heap.size, 0, none⟩ = some (.pointer (some ⟨g, 0, none⟩)) ∧ V.cell? ⟨w.heap.size + 1, 0, none⟩ = some (.int .i64 lf) ∧ V.cell? ⟨w.heap.size + 1, 1, none⟩ = some (.slice A1 n1 c1) ∧ V.cell? ⟨w.heap.size + 1, 2, none⟩ = some (.slice A2 n2 c2) from
    by
      have kw : Blk V w.heap.size 71 #[.pointer (some ⟨g, 0, none⟩)] := bw.kept P.fine (fun h => absurd h.2 (by omega))
      have bx : Blk V (w.heap.size + 1) 46 #[.int .i64 lf, .slice A1 n1 c1, .slice A2 n2 c2] := bx.kept P.fine (fun h => absurd h.2 (by omega))
      exact ⟨by simpa using kw.cell 0, by have := bx.cell 0; simpa using this, by have := bx.cell 1; simpa using this, by have := bx.cell 2; simpa using this⟩))
  have HP0 := Lib.hid hi.same
  have HE := Lib.hid he
  have HS := Lib.hid hs
  have HW := Lib.hid hW1
  clear h hi bw bx g1 hW1 hs he
  go_enter Tryd.func57, Tryd.ntmps57
  go_upto_region 1 with (fail)
  rw [HW.out]
  obtain ⟨k0, k1, k2, k3⟩ := HB.out _ _ HP0.out
  clear k2 k3
  go_wp2_with fail
  refine (number_st HE.out HP0.out.wi (Nat.le_trans HS.out (by omega)) lf 1).mono ?_
  rintro e V1 ⟨rfl, q0⟩
  have HP1 := Lib.hid (HP0.out.trans q0)
  clear q0 k0 k1
  have HS1 := Lib.hid (show (sNum lf 1 s).2.length ≤ 2200000 from by have h1 := adds_num lf 1 s; have h2 := HS.out; have h3 : sNum lf 1 s = sNum lf ((1 : Nat) : Int) s := rfl; rw [h3]; omega)
  obtain ⟨k0, k1, k2, k3⟩ := HB.out _ _ HP1.out
  clear k1 k3
  go_wp2_with fail
  refine (put_Dg HE.out _ _ _ HP1.out.wi (Nat.le_trans HS1.out (by omega)) A1 n1 c1 cs HD.out.1.1 HD.out.1.row HD.out.1.2.1 (fun x hx => (adds_dig (HD.out.1.sixteen x hx)).mono (by omega)) 68).mono ?_
  rintro e V2 ⟨rfl, q1⟩
  have HP2 := Lib.hid (HP1.out.trans q1)
  clear q1 k0 k2
  have HS2 := Lib.hid (show (sPut n1 68 (sAll sDig cs) (sNum lf 1 s)).2.length ≤ 2300000 from by have h1 : (sPut n1 68 (sAll sDig cs) (sNum lf 1 s)).2.length ≤ (sNum lf 1 s).2.length + (1 + 68 * 16) := adds_put (m := 68) (n := n1) (c := 16) rfl (fun _ => HD.out.1.1 ▸ adds_digs HD.out.1.sixteen) (sNum lf 1 s); have h2 := HS1.out; omega)
  obtain ⟨k0, k1, k2, k3⟩ := HB.out _ _ HP2.out
  clear k1 k2
  go_wp2_with fail
  refine (put_Dg HE.out _ _ _ HP2.out.wi (Nat.le_trans HS2.out (by omega)) A2 n2 c2 ps HD.out.2.1 HD.out.2.row HD.out.2.2.1 (fun x hx => (adds_dig (HD.out.2.sixteen x hx)).mono (by omega)) 5).mono ?_
  rintro e V3 ⟨rfl, q2⟩
  have HP3 := Lib.hid (HP2.out.trans q2)
  clear q2 k0 k3
  go_wp2_with fail
  go_end0
  exact ⟨rfl, HCl.out _ _ HP3.out⟩

set_option maxRecDepth 100000 in
set_option maxHeartbeats 1000000 in
theorem el_Sg (w : World) (F : Nat → Prop) (s : WSt) (h : WI w0 E g F s w) (hs : s.2.length ≤ 2000000) (x : Sg) (hx : DigRow w0 x.A1 x.n1 x.cs ∧ DigRow w0 x.A2 x.n2 x.ps) (cs : Array Value) (hcs : cs = x.cells.toList.toArray) :
    Calls Tryd.prog 43 #[.agg #[.pointer (some ⟨g, 0, none⟩)], .agg cs] w fun e w' => e = .returned (.tuple #[]) ∧ WP w0 E g F (sSg x s) w w' := by
  have hc0 : cs = #[.int .i64 x.who] ++ x.sig := by rw [hcs, Array.toArray_toList]; rfl
  obtain ⟨sg, hsg⟩ : ∃ sg, sg = x.sig := ⟨_, rfl⟩
  have hs3 : sg.size = 3 := by rw [hsg]; rfl
  rw [← hsg] at hc0
  have H3 := Lib.hid (And.intro hs3 hsg)
  obtain ⟨W1, hW1⟩ : ∃ W1, ((w.alloc (.cells #[.pointer (some ⟨g, 0, none⟩)] 71)).alloc (.cells cs 48)) = W1 := ⟨_, rfl⟩
  have g1 : w.grownBy W1 none := by rw [← hW1]; exact grown_trans (World.grownBy_alloc _ _ none) (World.grownBy_alloc _ _ none)
  have bw : Blk W1 w.heap.size 71 #[.pointer (some ⟨g, 0, none⟩)] := by rw [← hW1]; exact (Blk.new w _ _).alloc _
  have bx : Blk W1 (w.heap.size + 1) 48 cs := by
    have := Blk.new (w.alloc (.cells #[.pointer (some ⟨g, 0, none⟩)] 71)) 48 cs
    rw [← hW1]; simpa using this
  have hi := h.opened g1
  have HCl := Lib.hid (fun (w2 : World) (s2 : WSt) (P : WP w0 E g (fun k => F k ∧ k < w.heap.size) s2 W1 w2) => WP.closed (F := F) h g1 P)
  have HB := Lib.hid (fun (V : World) (s' : WSt) (P : WP w0 E g (fun k => F k ∧ k < w.heap.size) s' W1 V) => (show V.cell? ⟨w.heap.size, 0, none⟩ = some (.pointer (some ⟨g, 0, none⟩)) ∧ V.cell? ⟨w.heap.size + 1, 0, none⟩ = some (.int .i64 x.who) ∧ V.rangeAt (w.heap.size + 1) 1 sg.toList from
    by
      have kw : Blk V w.heap.size 71 #[.pointer (some ⟨g, 0, none⟩)] := bw.kept P.fine (fun h => absurd h.2 (by omega))
      have bx : Blk V (w.heap.size + 1) 48 cs := bx.kept P.fine (fun h => absurd h.2 (by omega))
      exact ⟨by simpa using kw.cell 0, by have r := range_blk0 bx; have := r 0 (.int .i64 x.who) (by rw [hc0]; simp); simpa using this, by have r := range_blk0 bx; rw [hc0] at r; exact fun j v hv => by have := r (1 + j) v (by simp only [Array.toList_append]; rw [List.getElem?_append_right (by simp)]; simpa using hv); rwa [Nat.zero_add] at this⟩))
  have HP0 := Lib.hid hi.same
  have HE := Lib.hid he
  have HS := Lib.hid hs
  have HW := Lib.hid hW1
  clear h hi bw bx g1 hW1 hs he hcs hc0 hs3 hsg
  go_enter Tryd.func43, Tryd.ntmps43
  go_upto_region 1 with (fail)
  rw [HW.out]
  obtain ⟨k0, k1, k2⟩ := HB.out _ _ HP0.out
  clear k2
  go_wp2_with fail
  refine (number_st HE.out HP0.out.wi (Nat.le_trans HS.out (by omega)) x.who 1).mono ?_
  rintro e V1 ⟨rfl, q0⟩
  have HP1 := Lib.hid (HP0.out.trans q0)
  clear q0 k0 k1
  have HS1 := Lib.hid (show (sNum x.who 1 s).2.length ≤ 2100000 from by have h1 := adds_num x.who 1 s; have h2 := HS.out; have h3 : sNum x.who 1 s = sNum x.who ((1 : Nat) : Int) s := rfl; rw [h3]; omega)
  obtain ⟨k0, k1, k2⟩ := HB.out _ _ HP1.out
  clear k1
  have HR := Lib.hid k2
  clear k2
  go_wp2_with (refine wpList_load_mid rfl 46 _ rfl (w.heap.size + 1) 1 rfl (sg.toList) _ HR.out Tryd.underlying46 rfl (by rw [Array.length_toList, H3.out.1]; exact sz_Sig) ?_; rw [Array.toArray_toList])
  refine (sig_st HE.out _ _ _ HP1.out.wi HS1.out x.lf x.A1 x.A2 x.n1 x.c1 x.n2 x.c2 x.cs x.ps hx.1 hx.2 sg H3.out.2).mono ?_
  rintro e V2 ⟨rfl, q1⟩
  have HP2 := Lib.hid (HP1.out.trans q1)
  clear q1 k0
  go_wp2_with fail
  go_end0
  exact ⟨rfl, HCl.out _ _ HP2.out⟩

end
end Go.Proofs.YtebnebajedlhlaaDoor
/-
  The document's Same: rows of digests, signatures, those who signed.
-/
namespace Go.Proofs.YtebnebajedlhlaaDoor
open Go.RowKit

attribute [local go_sem] Oper.semAt_some

theorem digrow_same (w : World) (A1 A2 : Option Addr) (n1 c1 n2 c2 : Nat) (ps qs : List (List Int)) (h1 : DigRow w A1 n1 ps) (h2 : DigRow w A2 n2 qs) (hn : n1 ≤ 1000) (r : Bool) (hr : r = decide (ps = qs)) :
    Calls Tryd.prog 63 #[.slice A1 n1 c1, .slice A2 n2 c2] w fun e w' => e = .returned (.bool r) ∧ w.grownBy w' none := by
  by_cases hne : n1 = n2
  · subst hne
    obtain ⟨l1, d1, h1⟩ := h1
    obtain ⟨l2, d2, h2⟩ := h2
    rcases h1 with h0 | ⟨b1, o1, rfl, D1⟩
    · subst h0
      have e1 : ps = [] := List.length_eq_zero_iff.1 l1
      have e2 : qs = [] := List.length_eq_zero_iff.1 l2
      rw [hr, e1, e2]
      exact digs_none w A1 A2 c1 c2
    · rcases h2 with h0 | ⟨b2, o2, rfl, D2⟩
      · subst h0
        have e1 : ps = [] := List.length_eq_zero_iff.1 l1
        have e2 : qs = [] := List.length_eq_zero_iff.1 l2
        rw [hr, e1, e2]
        exact digs_none w _ A2 c1 c2
      · exact digs_same w b1 o1 c1 b2 o2 c2 n1 ps qs l1 l2 hn d1 d2 D1 D2 r hr
  · have hp : decide (ps = qs) = false := decide_eq_false (fun h => hne (by rw [← h1.1, ← h2.1, h]))
    rw [hr, hp]
    exact digs_len w A1 A2 n1 n2 c1 c2 hne
set_option maxRecDepth 100000 in
theorem rsame5_is (w : World) (la lb : Int) (A1 A2 B1 B2 : Option Addr) (n1 c1 n2 c2 m1 d1 m2 d2 : Nat) (r1 r2 : Bool)
    (H1 : ∀ z, w.grownBy z none → Calls Tryd.prog 63 #[.slice A1 n1 c1, .slice B1 m1 d1] z fun e w' => e = .returned (.bool r1) ∧ z.grownBy w' none)
    (H2 : ∀ z, w.grownBy z none → Calls Tryd.prog 63 #[.slice A2 n2 c2, .slice B2 m2 d2] z fun e w' => e = .returned (.bool r2) ∧ z.grownBy w' none) :
    Calls Tryd.prog 51 #[.agg (sigV la (.slice A1 n1 c1) (.slice A2 n2 c2)), .agg (sigV lb (.slice B1 m1 d1) (.slice B2 m2 d2))] w fun e w' => e = .returned (.bool (decide (la = lb) && r1 && r2)) ∧ w.grownBy w' none := by
  have K1 := Lib.hid H1
  have K2 := Lib.hid H2
  clear H1 H2
  have hg := grown_trans (World.grownBy_alloc w (.cells (sigV la (.slice A1 n1 c1) (.slice A2 n2 c2)) 46) none) (World.grownBy_alloc _ (.cells (sigV lb (.slice B1 m1 d1) (.slice B2 m2 d2)) 46) none)
  simp only [sigV] at hg
  have HG := Lib.hid hg
  clear hg
  simp only [sigV]
  by_cases hab : la = lb
  · subst hab
    have dab : (la == la) = true := by simp
    cases r1
    · go_enter Tryd.func51, Tryd.ntmps51
      go_wp2_with fail
      refine (K1.out _ HG.out).mono ?_
      rintro e w2 ⟨rfl, hk2⟩
      have HK2 := Lib.hid (grown_trans HG.out hk2)
      clear hk2
      go_wp2_with fail
      go_ret
      exact ⟨by simp, HK2.out⟩
    · go_enter Tryd.func51, Tryd.ntmps51
      go_wp2_with fail
      refine (K1.out _ HG.out).mono ?_
      rintro e w2 ⟨rfl, hk2⟩
      have HK2 := Lib.hid (grown_trans HG.out hk2)
      have HC := Lib.hid hk2
      have c1' : w2.cell? ⟨w.heap.size, 2, none⟩ = some (.slice A2 n2 c2) := by
        have b1 := (Blk.new w 46 #[.int .i64 la, .slice A1 n1 c1, .slice A2 n2 c2]).alloc (.cells #[.int .i64 la, .slice B1 m1 d1, .slice B2 m2 d2] 46)
        exact ((b1.grown hk2 (by simp)).cell 2)
      have c2' : w2.cell? ⟨w.heap.size + 1, 2, none⟩ = some (.slice B2 m2 d2) := by
        have b1 := Blk.new (w.alloc (.cells #[.int .i64 la, .slice A1 n1 c1, .slice A2 n2 c2] 46)) 46 #[.int .i64 la, .slice B1 m1 d1, .slice B2 m2 d2]
        rw [World.size_alloc] at b1
        exact ((b1.grown hk2 (by simp)).cell 2)
      clear hk2
      go_wp2_with fail
      refine (K2.out _ HK2.out).mono ?_
      rintro e w3 ⟨rfl, hk3⟩
      have HK3 := Lib.hid (grown_trans HK2.out hk3)
      clear hk3 c1' c2'
      go_wp2_with fail
      go_ret
      exact ⟨by simp, HK3.out⟩
  · have dab : (la == lb) = false := by simp [hab]
    have dd : decide (la = lb) = false := decide_eq_false hab
    clear hab
    go_enter Tryd.func51, Tryd.ntmps51
    go_wp2_with fail
    go_ret
    exact ⟨by simp [dd], HG.out⟩
def sgEq (x y : Sg) : Bool := decide (x.lf = y.lf) && decide (x.cs = y.cs) && decide (x.ps = y.ps)
theorem sig_same (w : World) (x y : Sg) (hx : x.At w) (hy : y.At w) (h1 : x.n1 ≤ 1000) (h2 : x.n2 ≤ 1000) :
    Calls Tryd.prog 51 #[.agg x.sig, .agg y.sig] w fun e w' => e = .returned (.bool (sgEq x y)) ∧ w.grownBy w' none :=
  rsame5_is w x.lf y.lf x.A1 x.A2 y.A1 y.A2 x.n1 x.c1 x.n2 x.c2 y.n1 y.c1 y.n2 y.c2 _ _ (fun z hz => digrow_same z _ _ _ _ _ _ _ _ (hx.1.grown hz) (hy.1.grown hz) h1 _ rfl) (fun z hz => digrow_same z _ _ _ _ _ _ _ _ (hx.2.grown hz) (hy.2.grown hz) h2 _ rfl)
def sgsEqP (L M : List Sg) : Prop := L.length = M.length ∧ ∀ j (h1 : j < L.length) (h2 : j < M.length), L[j].who = M[j].who ∧ sgEq L[j] M[j] = true
noncomputable def sgsEq (L M : List Sg) : Bool := @decide (sgsEqP L M) (Classical.propDecidable _)
theorem sgsEq_true {L M : List Sg} (h : sgsEqP L M) : sgsEq L M = true := by unfold sgsEq; exact @decide_eq_true _ (Classical.propDecidable _) h
theorem sgsEq_false {L M : List Sg} (h : ¬ sgsEqP L M) : sgsEq L M = false := by unfold sgsEq; exact @decide_eq_false _ (Classical.propDecidable _) h
theorem mid_loadS (b o : Nat) (cs : Array Value) (Y : World) (h : Y.rangeAt b o cs.toList) (hs : cs.size = 3) : Sem.run Tryd.prog (Instr.loadAt 46 (.pointer (some ⟨b, o, none⟩))) Y = .ok (.agg cs) Y := by
  have := run_loadAt_mid (P := Tryd.prog) Y b o 46 cs.toList _ h Tryd.underlying46 rfl (by rw [Array.length_toList, hs]; exact sz_Sig)
  rwa [Array.toArray_toList] at this
set_option maxRecDepth 100000 in
set_option maxHeartbeats 2000000 in
theorem signed_same (w : World) (A1 A2 : Option Addr) (c1 c2 : Nat) (L M : List Sg) (hL : SgsAt w A1 L) (hM : SgsAt w A2 M) (okL : SgsOk w L) (okM : SgsOk w M) (hl : L.length ≤ 1000) (hb : ∀ x ∈ L, x.n1 ≤ 1000 ∧ x.n2 ≤ 1000) :
    Calls Tryd.prog 33 #[.slice A1 L.length c1, .slice A2 M.length c2] w fun e w' => e = .returned (.bool (sgsEq L M)) ∧ w.grownBy w' none := by
  obtain ⟨n, hn⟩ : ∃ n, L.length = n := ⟨_, rfl⟩
  obtain ⟨m, hm⟩ : ∃ m, M.length = m := ⟨_, rfl⟩
  obtain ⟨R, hR⟩ : ∃ R, R = sgsEq L M := ⟨_, rfl⟩
  rw [hn, hm, ← hR]
  have HX := Lib.hid (And.intro hL (And.intro hM (And.intro okL (And.intro okM (And.intro hb (And.intro hn (And.intro hm hR)))))))
  have hn1 : n ≤ 1000 := by omega
  by_cases hnm : n = m
  · clear hL hM okL okM hb hn hm hR hl
    subst hnm
    have dnm : ((n : Int) != (n : Int)) = false := by simp
    go_enter Tryd.func33, Tryd.ntmps33
    go_wp2_with fail
    go_loopw [13] (fun i wr => ∃ k : Nat, k ≤ n ∧ i = .int .i64 (k : Int) ∧ Hid (∀ j (h1 : j < L.length) (h2 : j < M.length), j < k → L[j].who = M[j].who ∧ sgEq L[j] M[j] = true) ∧ w.grownBy wr none) (fun i _ => n - (intOf i).toNat)
    case atStart => exact ⟨0, Nat.zero_le _, rfl, Lib.hid (fun j _ _ h => absurd h (by omega)), World.grownBy.refl w none⟩
    case round =>
      obtain ⟨k, hk, hi, hno, hK⟩ := hrel
      obtain ⟨I, hI⟩ : ∃ I : Int, I = (k : Int) := ⟨_, rfl⟩
      rw [← hI] at hi
      subst hi
      rename World => wr
      obtain ⟨hL, hM, okL, okM, hb, hn, hm, hR⟩ := HX.out
      by_cases hlt : k < n
      · have h1 : k < L.length := by omega
        have h2 : k < M.length := by omega
        obtain ⟨b1, o1, rfl, hc1⟩ := hL (by rintro rfl; simp at h1)
        obtain ⟨b2, o2, rfl, hc2⟩ := hM (by rintro rfl; simp at h2)
        have d1 : decide (I < (n : Int)) = true := by simp; omega
        have hIV : I < (n : Int) := by omega
        have hI0 : 0 ≤ I ∧ I < 1001 := by omega
        have hkI : I.toNat = k := by omega
        have r1 := range_kept (hc1 k h1) hK
        have r2 := range_kept (hc2 k h2) hK
        obtain ⟨x, hxe⟩ : ∃ x, x = L[k] := ⟨_, rfl⟩
        obtain ⟨y, hye⟩ : ∃ y, y = M[k] := ⟨_, rfl⟩
        rw [← hxe] at r1
        rw [← hye] at r2
        have hxm : x ∈ L := by rw [hxe]; exact List.getElem_mem h1
        have hym : y ∈ M := by rw [hye]; exact List.getElem_mem h2
        have c1' : wr.cell? ⟨b1, o1 + I.toNat * 4, none⟩ = some (.int .i64 x.who) := by rw [hkI]; have := r1 0 (.int .i64 x.who) rfl; simpa using this
        have c2' : wr.cell? ⟨b2, o2 + I.toNat * 4, none⟩ = some (.int .i64 y.who) := by rw [hkI]; have := r2 0 (.int .i64 y.who) rfl; simpa using this
        have s1 : wr.rangeAt b1 (o1 + I.toNat * 4 + 1) x.sig.toList := by rw [hkI]; exact fun j v hv => by have := r1 (1 + j) v (by simp only [Sg.cells, Array.toList_append]; rw [List.getElem?_append_right (by simp)]; simpa using hv); rwa [← Nat.add_assoc] at this
        have s2 : wr.rangeAt b2 (o2 + I.toNat * 4 + 1) y.sig.toList := by rw [hkI]; exact fun j v hv => by have := r2 (1 + j) v (by simp only [Sg.cells, Array.toList_append]; rw [List.getElem?_append_right (by simp)]; simpa using hv); rwa [← Nat.add_assoc] at this
        obtain ⟨sx, hsx⟩ : ∃ z, z = x.sig := ⟨_, rfl⟩
        obtain ⟨sy, hsy⟩ : ∃ z, z = y.sig := ⟨_, rfl⟩
        have zx : sx.size = 3 := by rw [hsx]; rfl
        have zy : sy.size = 3 := by rw [hsy]; rfl
        rw [← hsx] at s1
        rw [← hsy] at s2
        obtain ⟨r, hr⟩ : ∃ r, r = sgEq x y := ⟨_, rfl⟩
        have S1 := Lib.hid (fun z : Gr wr => (show Calls Tryd.prog 51 #[.agg sx, .agg sy] z.1 fun e w' => e = .returned (.bool r) ∧ z.1.grownBy w' none from by
          rw [hsx, hsy, hr]
          have hg := grown_trans hK z.2
          exact sig_same z.1 x y ⟨(okL x hxm).1.grown hg, (okL x hxm).2.grown hg⟩ ⟨(okM y hym).1.grown hg, (okM y hym).2.grown hg⟩ (hb x hxm).1 (hb x hxm).2))
        have L1 := Lib.hid (fun z : Gr wr => mid_loadS b1 (o1 + I.toNat * 4 + 1) sx z.1 (range_kept s1 z.2) zx)
        have L2 := Lib.hid (fun z : Gr wr => mid_loadS b2 (o2 + I.toNat * 4 + 1) sy z.1 (range_kept s2 z.2) zy)
        have k1 := Gr.cell c1'
        have k2 := Gr.cell c2'
        obtain ⟨xw, hxw⟩ : ∃ z, z = x.who := ⟨_, rfl⟩
        obtain ⟨yw, hyw⟩ : ∃ z, z = y.who := ⟨_, rfl⟩
        rw [← hxw] at k1
        rw [← hyw] at k2
        have HN := Lib.hid (And.intro hno (And.intro hK (And.intro hI (And.intro hlt (And.intro (show ∃ (a : k < L.length) (b : k < M.length), xw = L[k].who ∧ yw = M[k].who ∧ r = sgEq L[k] M[k] from ⟨h1, h2, by rw [hxw, hxe], by rw [hyw, hye], by rw [hr, hxe, hye]⟩) hR)))))
        clear r1 r2 hxe hye hxm hym c1' c2' s1 s2 hsx hsy zx zy hr hxw hyw hc1 hc2 hL hM okL okM hb hn hm hR hno hK hI hkI hlt h1 h2 hk
        by_cases hw : xw = yw
        · subst hw
          have dw : (xw != xw) = false := by simp
          cases r
          all_goals
            go_wp2_with fail
            refine wp_region_grown (by kernel_rfl) (by kernel_rfl) ?_
            repeat (first
              | go_big_quiet_skip
              | (refine wpQuiet_load_row 46 _ ⟨b1, o1 + I.toNat * 4 + 1, none⟩ (.agg sx) (by rfl) rfl rfl (by rintro _ ⟨z, rfl⟩; exact L1.out z) ?_; simp only [Act.put, List.setIfInBounds_toArray, List.set_cons_zero, List.set_cons_succ])
              | (refine wpQuiet_load_row 46 _ ⟨b2, o2 + I.toNat * 4 + 1, none⟩ (.agg sy) (by rfl) rfl rfl (by rintro _ ⟨z, rfl⟩; exact L2.out z) ?_; simp only [Act.put, List.setIfInBounds_toArray, List.set_cons_zero, List.set_cons_succ])
              | go_big_quiet_step (first
              | (go_at_call 51; with_reducible exact Calls.grown _ (S1.out _))))
            refine wpQuiet_nil ?_
            rintro w7 ⟨⟨_, k7⟩, rfl⟩
            have HK := Lib.hid (grown_trans HN.out.2.1 k7)
            clear k7
            go_wp2_with fail
          · go_ret
            have hF := sgsEq_false (L := L) (M := M) (fun h => by
              obtain ⟨a, b, _, _, hrr⟩ := HN.out.2.2.2.2.1
              have := (h.2 k a b).2
              rw [← hrr] at this
              cases this)
            exact ⟨by rw [HN.out.2.2.2.2.2, hF]; rfl, HK.out⟩
          · go_roundw
            case rel =>
              obtain ⟨n1, n2, n3, n4, ⟨a, b, e1, e2, e3⟩, n6⟩ := HN.out
              refine ⟨k + 1, by omega, by rw [n3]; rfl, Lib.hid (fun j q1 q2 hj => ?_), HK.out⟩
              by_cases hjk : j = k
              · subst hjk; exact ⟨by rw [← e1, ← e2], e3.symm⟩
              · exact n1.out j q1 q2 (by omega)
            case measure => obtain ⟨n1, n2, n3, n4, _, n6⟩ := HN.out; simp [intOf]; omega
        · have dw : (xw != yw) = true := by simp [hw]
          have HWW := Lib.hid hw
          go_wp2_with fail
          refine wp_region_grown (by kernel_rfl) (by kernel_rfl) ?_
          repeat (first
            | go_big_quiet_skip
            | go_big_quiet_step (fail))
          refine wpQuiet_nil ?_
          rintro w7 ⟨⟨_, k7⟩, rfl⟩
          have HK := Lib.hid (grown_trans HN.out.2.1 k7)
          clear k7
          go_wp2_with fail
          go_ret
          have hF := sgsEq_false (L := L) (M := M) (fun h => by
            obtain ⟨a, b, e1, e2, _⟩ := HN.out.2.2.2.2.1
            exact HWW.out (by rw [e1, e2]; exact (h.2 k a b).1))
          exact ⟨by rw [HN.out.2.2.2.2.2, hF]; rfl, HK.out⟩
      · have d1 : decide (I < (n : Int)) = false := by simp; omega
        have hT := sgsEq_true (L := L) (M := M) ⟨by omega, fun j h1 h2 => hno.out j h1 h2 (by omega)⟩
        have HK := Lib.hid (And.intro hK (show R = true by rw [hR, hT]))
        clear hK hno hI hlt hk hT hL hM okL okM hb hn hm hR
        go_wp2_with fail
        go_ret
        exact ⟨by rw [HK.out.2]; rfl, HK.out.1⟩
  · have dnm : ((n : Int) != (m : Int)) = true := by simp; omega
    have hne : ¬ (n : Int) = (m : Int) := by omega
    have HF := Lib.hid (show R = false by rw [hR]; exact sgsEq_false (fun h => hnm (by rw [← hn, ← hm]; exact h.1)))
    clear hL hM okL okM hb hn hm hR hl hnm
    go_enter Tryd.func33, Tryd.ntmps33
    go_wp2_with fail
    go_ret
    exact ⟨by rw [HF.out]; rfl, World.grownBy.refl w none⟩
end Go.Proofs.YtebnebajedlhlaaDoor
