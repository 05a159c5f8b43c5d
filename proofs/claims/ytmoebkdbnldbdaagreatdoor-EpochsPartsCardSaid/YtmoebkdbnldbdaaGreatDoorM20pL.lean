/-
  Several texts in one: PfQ, EpV, EpN, CdA.
-/
import Derived.Test.YtmoebkdbnldbdaaGreatDoorM20pK
import Derived.Test.YtmoebkdbnldbdaaGreatDoorM20pw
import Derived.Deep.DeepCutAuto
import Derived.Test.YtmoebkdbnldbdaaGreatDoorM20pv
import Derived.Test.YtmoebkdbnldbdaaGreatDoorM20pu
import Derived.Test.YtmoebkdbnldbdaaGreatDoorNum
import Derived.Deep.Strs
import Derived.Lib.SmallJoins
import Derived.ChangeSame
import Derived.Test.YtmoebkdbnldbdaaGreatDoorM20pk
import Derived.Test.YtmoebkdbnldbdaaGreatDoorM20pD
import Derived.Test.YtmoebkdbnldbdaaGreatDoorM20ph
/-
  Ground.QC, of any QC.
-/
namespace Go.Proofs.YtmoebkdbnldbdaaGreatDoor
open Go.RowKit Go.Shelf

attribute [local go_sem] Oper.semAt_some

noncomputable def qcN (V : List Vd) (e qe r : Int) (Bl Gl : List Int) (L : List Sg) : Nat := if r = 0 then firstN V e qe Bl Gl L.length else if turnN V e qe r ≠ 0 then turnN V e qe r else holdN (quorumB V (fun _ => forV qe r Bl) id L)
section
variable {B : Nat} {E : Nat → Addr} {e : Int} {A : Option Addr} {c : Nat} {V : List Vd} {Gl : List Int} {G : Array Value}
variable (w : World) (he : ErrEnv w B E) (hV : VdsAt w A V) (ok : keysOk V) (hl : V.length < 1000) (hG : G = arrV .u8 Gl) (hGl : Gl.length = 16) (gv : Array Value) (hgv : gv = grC e (.slice A V.length c) G)
include he hV ok hl hG hGl hgv
set_option maxRecDepth 100000 in
set_option maxHeartbeats 1000000 in
theorem qc_isB (hR : Rounds w) (hB4 : 4 ≤ w.heap.size) (hBw : B ≤ w.heap.size) (qe r : Int) (hqe : -9223372036854775808 ≤ qe ∧ qe < 9223372036854775808) (hr : -9223372036854775808 ≤ r ∧ r < 9223372036854775808) (Bl : List Int) (hBl : isDig Bl) (Bv : Array Value) (hB : Bv = arrV .u8 Bl) (A2 : Option Addr) (c2 : Nat) (L : List Sg) (hL9 : L.length < 9223372036854775808) (hL : L.length ≤ 100 ∨ V.length ≤ 100) (hA : SgsAt w A2 L) (hok : SgsOk w L) (qv : Array Value) (hqv : qv = qcC qe r Bv (.slice A2 L.length c2)) :
    Calls Tryz.prog 43 #[.agg gv, .agg qv] w fun e' w' => e' = .returned (evOf E (qcN V e qe r Bl Gl L)) ∧ w.grownBy w' none := by
  by_cases h0 : r = 0
  · subst h0
    rw [qcN, if_pos rfl]
    exact qc0_is w he hV ok hl hG hGl gv hgv qe Bl hBl.1 Bv hB A2 L.length c2 qv hqv
  rw [qcN, if_neg h0]
  obtain ⟨N, hN⟩ : ∃ N, N = (if turnN V e qe r ≠ 0 then turnN V e qe r else holdN (quorumB V (fun _ => forV qe r Bl) id L)) := ⟨_, rfl⟩
  rw [← hN]
  obtain ⟨q, hq⟩ : ∃ q, w.heap.size = q := ⟨_, rfl⟩
  obtain ⟨w1, hw1⟩ : ∃ w1, (w.alloc (.cells gv 26)).alloc (.cells qv 46) = w1 := ⟨_, rfl⟩
  have g1 : w.grownBy w1 none := by rw [← hw1]; exact grown_trans (World.grownBy_alloc _ _ none) (World.grownBy_alloc _ _ none)
  have b1 : Blk w1 q 26 gv := by rw [← hw1, ← hq]; exact (Blk.new _ _ _).alloc _
  have b2 : Blk w1 (q + 1) 46 qv := by
    have h := Blk.new (w.alloc (.cells gv 26)) 46 qv
    rw [World.size_alloc, hq, hw1] at h
    exact h
  have hG16 : G.size = 16 := by rw [hG, arr_size, hGl]
  have hs : gv.size = 18 := by rw [hgv]; exact grC_size hG16
  have hB16 : Bv.size = 16 := by rw [hB, arr_size, hBl.1]
  have hs2 : qv.size = 19 := by rw [hqv]; exact qcC_size hB16
  have HC := Lib.hid (turn_is w1 (he.grown g1 (fun _ e => by cases e)) (hV.grown g1) ok hl hG hGl gv hgv qe r)
  obtain ⟨x0, x1, _, _⟩ := qc_cells hB16 (hqv ▸ b2)
  have HX := Lib.hid (And.intro g1 (And.intro b1 (And.intro hs (And.intro b2 hs2))))
  have HW := Lib.hid (And.intro hw1 hq)
  have HQ := Lib.hid (show ∀ Y, w.grownBy Y none → Calls Tryz.prog 56 #[.agg gv, .func (.func 73) #[] #[.pointer (some ⟨Y.heap.size, 0, none⟩)]] (Y.alloc (.cells qv 46)) fun e' w' => e' = .returned (evOf E (holdN (quorumB V (fun _ => forV qe r Bl) id L))) ∧ (Y.alloc (.cells qv 46)).grownBy w' none from fun Y hY => by
    have g2 := grown_trans hY (World.grownBy_alloc Y (.cells qv 46) none)
    have bq := Blk.new Y 46 qv
    obtain ⟨Z, hZ⟩ : ∃ Z, Z = Y.alloc (.cells qv 46) := ⟨_, rfl⟩
    rw [← hZ] at g2 bq ⊢
    refine pquorum_is (fun _ => forV qe r Bl) id (fun _ => ofS_dig _ _) Z (hR.grown g2 (by simp)) (he.grown g2 (fun _ e => by cases e)) (Nat.le_trans hB4 g2.size) (Nat.le_trans hBw g2.size) (hV.grown g2) ok hl hG16 gv hgv 73 _ (enters_of Tryz.func73 (by kernel_rfl) rfl) L hL (by rw [List.map_id]; exact hok.grown g2) (fun z hz => ?_)
    exact votes_seq 5 Y.heap.size Z.heap.size qe r hqe hr Bl hBl Bv hB A2 c2 L hL9 (arrV .u8 (forV qe r Bl)) rfl (by omega) z (hqv ▸ bq.grown hz (by simp)) hz.size (hR.grown (grown_trans g2 hz) (by simp)) (hA.grown (grown_trans g2 hz)) (fun a ha hne => by
      obtain ⟨b, off, rfl, hc⟩ := hA hne
      cases ha
      have hpos : 0 < L.length := List.length_pos_iff.2 hne
      have hr0 := hc 0 hpos
      have := range_block (x := .int .i64 (L[0]).who) (l := (L[0]).sig.toList) (by simpa [Sg.cells] using hr0)
      exact Nat.lt_of_lt_of_le this g2.size))
  have d0 : (r == 0) = false := by simp [h0]
  clear he hV ok hl hG hGl hgv g1 b1 b2 hs hs2 hw1 hq hBl hB hqv hB16 hG16 hR hB4 hBw hqe hr hL9 hL hA hok
  go_enter Tryz.func43, Tryz.ntmps43
  go_upto_region 1 with (fail)
  rw [HW.out.1, HW.out.2]
  go_wp2_with (first
    | (refine wpList_load_row rfl 26 _ rfl q rfl 26 gv (0, 0) _ HX.out.2.1 Tryz.underlying26 rfl (by rw [HX.out.2.2.1]; exact info18) ?_))
  refine HC.out.mono ?_
  clear HC
  rintro e' w2 ⟨rfl, g2⟩
  have HG := Lib.hid (grown_trans HX.out.1 g2)
  have r1 := range_blkK21 (HX.out.2.1.grown g2 (by simp))
  have r2 := range_blkK21 (HX.out.2.2.2.1.grown g2 (by simp))
  have HRR := Lib.hid (And.intro r1 r2)
  clear g2 x0 x1 r1 r2
  by_cases hb : turnN V e qe r = 0
  · have HN := Lib.hid (show N = holdN (quorumB V (fun _ => forV qe r Bl) id L) by rw [hN, if_neg (by simp [hb])])
    rw [show evOf E (turnN V e qe r) = .nilIface by rw [hb]; rfl]
    clear hb hN
    go_wp2_with fail
    refine wp_region_held_drew (S := fun Y => Y.rangeAt q 0 gv.toList ∧ Y.rangeAt (q + 1) 0 qv.toList) (by kernel_rfl) ⟨range_kept HRR.out.1 (grown_drew (World.grownBy.refl w2 none)), range_kept HRR.out.2 (grown_drew (World.grownBy.refl w2 none))⟩ (fun _ => ?_)
    refine wpAnyH_take (i := 0) (oi := _) (v := .agg gv.toList.toArray) rfl (by kernel_rfl) (by kernel_rfl) (by kernel_rfl) (fun _ _ _ h => h) (yieldsIf_load_mid (by rfl) _ _ rfl q 0 rfl gv.toList _ (fun V hSw => hSw.1) Tryz.underlying26 rfl (by rw [Array.length_toList, HX.out.2.2.1]; exact info18)) (by assumption) ?rest0
    simp only [Act.put, List.getElem_toArray, List.getElem_cons_zero, List.setIfInBounds_toArray, List.set_cons_zero, List.set_cons_succ]
    rw [Array.toArray_toList]
    refine wpAnyH_take (i := 1) (oi := _) (v := .agg qv.toList.toArray) rfl (by kernel_rfl) (by kernel_rfl) (by kernel_rfl) (fun _ _ _ h => h) (yieldsIf_load_mid (by rfl) _ _ rfl (q + 1) 0 rfl qv.toList _ (fun V hSw => hSw.2) Tryz.underlying46 rfl (by rw [Array.length_toList, HX.out.2.2.2.2]; exact info19)) (by assumption) ?rest1
    simp only [Act.put, List.getElem_toArray, List.getElem_cons_succ, List.getElem_cons_zero, List.setIfInBounds_toArray, List.set_cons_zero, List.set_cons_succ]
    rw [Array.toArray_toList]
    refine wpAnyH_ready (rs := [2]) (by kernel_rfl) (by simp) ?_
    refine AllReadyH.cons (o := _) rfl (fun K hK => ?_) AllReadyH.nil
    go_simp
    refine ((callsIn_wide (n := 5)).1 (votes_in _ 5 _ _ rfl)).mono ?_
    rintro e3 W3 ⟨rfl, rfl⟩
    have hd2 := grown_drew (World.grownBy.refl w2 none)
    have ha2 := World.grownBy_alloc w2.drew (.cells qv 46) none
    refine hK.out _ _ ⟨range_kept HRR.out.1 (grown_trans hd2 ha2), range_kept HRR.out.2 (grown_trans hd2 ha2)⟩ (fun _ => ?_)
    clear hK K
    try simp only [Act.put, List.setIfInBounds_toArray, List.set_cons_zero, List.set_cons_succ]
    refine wpAnyH_ready (rs := [3]) (by kernel_rfl) (by simp) ?_
    refine AllReadyH.cons (o := _) rfl (fun K hK => ?_) AllReadyH.nil
    go_simp
    refine (HQ.out w2.drew (grown_trans HG.out hd2)).mono ?_
    rintro e4 W4 ⟨rfl, g4⟩
    have g24 := grown_trans (grown_trans hd2 ha2) g4
    refine hK.out _ _ ⟨range_kept HRR.out.1 g24, range_kept HRR.out.2 g24⟩ (fun _ => ?_)
    clear hK K
    try simp only [Act.put, List.setIfInBounds_toArray, List.set_cons_zero, List.set_cons_succ]
    refine wpAnyH_ready (rs := [4]) (by kernel_rfl) (by simp) ?_
    refine AllReadyH.cons (o := _) rfl (fun K hK => ?_) AllReadyH.nil
    go_simp
    refine hK.out _ _ ⟨range_kept HRR.out.1 g24, range_kept HRR.out.2 g24⟩ (fun _ => ?_)
    clear hK K
    try simp only [Act.put, List.setIfInBounds_toArray, List.set_cons_zero, List.set_cons_succ]
    refine wpAnyH_done (by kernel_rfl) ?_ _
    have HF := Lib.hid (grown_trans HG.out g24)
    obtain ⟨R, hR⟩ : ∃ R, evOf E (holdN (quorumB V (fun _ => forV qe r Bl) id L)) = R := ⟨_, rfl⟩
    rw [hR]
    have HRE := Lib.hid hR
    clear hd2 ha2 g4 g24 hR
    go_wp2_with fail
    go_ret
    exact ⟨by rw [HN.out, HRE.out]; rfl, HF.out⟩
  · obtain ⟨a, ha⟩ := evOf_pos E hb
    have HN := Lib.hid (And.intro (show N = turnN V e qe r by rw [hN, if_pos hb]) ha)
    rw [ha]
    clear hb ha hN
    go_wp2_with fail
    go_ret
    exact ⟨by rw [HN.out.1, HN.out.2]; rfl, HG.out⟩
theorem qc_is (hR : Rounds w) (hB4 : 4 ≤ w.heap.size) (hBw : B ≤ w.heap.size) (qe r : Int) (hqe : -9223372036854775808 ≤ qe ∧ qe < 9223372036854775808) (hr : -9223372036854775808 ≤ r ∧ r < 9223372036854775808) (Bl : List Int) (hBl : isDig Bl) (Bv : Array Value) (hB : Bv = arrV .u8 Bl) (A2 : Option Addr) (c2 : Nat) (L : List Sg) (hL : L.length ≤ 100) (hA : SgsAt w A2 L) (hok : SgsOk w L) (qv : Array Value) (hqv : qv = qcC qe r Bv (.slice A2 L.length c2)) :
    Calls Tryz.prog 43 #[.agg gv, .agg qv] w fun e' w' => e' = .returned (evOf E (qcN V e qe r Bl Gl L)) ∧ w.grownBy w' none := qc_isB w he hV ok hl hG hGl gv hgv hR hB4 hBw qe r hqe hr Bl hBl Bv hB A2 c2 L (by omega) (.inl hL) hA hok qv hqv
end
end Go.Proofs.YtmoebkdbnldbdaaGreatDoor
/-
  Walks: over a row, and over its two parts; Ground.QC as what a walk asks.
-/
namespace Go.Proofs.YtmoebkdbnldbdaaGreatDoor
open Go.RowKit

theorem walkG_shift (QF : Gd → Qc → Nat) : ∀ (M : List Ch) (k m : Nat) (g : Gd), walkG QF (k + m) g M = ((walkG QF m g M).1, k + (walkG QF m g M).2.1, (walkG QF m g M).2.2)
  | [], _, _, _ => rfl
  | c :: cs, k, m, g => by
    rw [walkG, walkG]
    by_cases h : (stepG QF g c).1 ≠ 0
    · rw [if_pos h, if_pos h]
    · rw [if_neg h, if_neg h, Nat.add_assoc, walkG_shift QF cs k (m + 1)]
theorem walkG_app (QF : Gd → Qc → Nat) : ∀ (M1 : List Ch) (k : Nat) (g : Gd) (M2 : List Ch), walkG QF k g (M1 ++ M2) = if (walkG QF k g M1).2.2 ≠ 0 then walkG QF k g M1 else walkG QF (walkG QF k g M1).2.1 (walkG QF k g M1).1 M2
  | [], k, g, M2 => by rw [List.nil_append, walkG, if_neg (by simp)]
  | c :: cs, k, g, M2 => by
    rw [List.cons_append, walkG, walkG]
    by_cases h : (stepG QF g c).1 ≠ 0
    · rw [if_pos h, if_pos h, if_pos h]
    · rw [if_neg h, if_neg h, walkG_app QF cs (k + 1) _ M2]
theorem walkG_len (QF : Gd → Qc → Nat) : ∀ (M : List Ch) (k : Nat) (g : Gd), (walkG QF k g M).2.2 = 0 → (walkG QF k g M).2.1 = k + M.length
  | [], _, _, _ => rfl
  | c :: cs, k, g, h => by
    rw [walkG] at h ⊢
    by_cases h1 : (stepG QF g c).1 ≠ 0
    · rw [if_pos h1] at h; exact absurd h h1
    · rw [if_neg h1] at h ⊢
      rw [walkG_len QF cs (k + 1) _ h, List.length_cons]
      omega
theorem walkG_ok {QF : Gd → Qc → Nat} {w : World} : ∀ (M : List Ch) (k : Nat) (g : Gd), g.ok → (∀ c ∈ M, c.At w) → (walkG QF k g M).1.ok
  | [], _, _, hg, _ => hg
  | c :: cs, k, g, hg, hM => by
    rw [walkG]
    by_cases h1 : (stepG QF g c).1 ≠ 0
    · rw [if_pos h1]; exact hg
    · rw [if_neg h1]
      exact walkG_ok cs (k + 1) _ (stepG_ok (hM c List.mem_cons_self) (Classical.not_not.1 h1)) (fun d hd => hM d (List.mem_cons_of_mem c hd))
theorem rowN_le (x y z : Bk) : rowN x y z ≤ 18 := by
  unfold rowN
  repeat' split
  all_goals omega
theorem certN_le {qf : Qc → Nat} (h : ∀ p, qf p ≤ 18) (x y z : Bk) (q : Qc) : certN qf x y z q ≤ 18 := by
  unfold certN
  repeat' split
  all_goals first | omega | exact h _
theorem chkN_le {qf : Qc → Nat} (h : ∀ p, qf p ≤ 18) (e : Int) (V : List Vd) (x y z : Bk) (q : Qc) : chkN qf e V x y z q ≤ 18 := by
  unfold chkN
  repeat' split
  all_goals first | omega | exact rowN_le x y z | exact certN_le h x y z q
theorem stepG_le {QF : Gd → Qc → Nat} (h : ∀ g p, QF g p ≤ 18) (g : Gd) (c : Ch) : (stepG QF g c).1 ≤ 18 := by
  unfold stepG
  repeat' split
  all_goals first | exact chkN_le (h g) _ _ _ _ _ _ | (show _ ≤ _; simp)
theorem walkG_le {QF : Gd → Qc → Nat} (h : ∀ g p, QF g p ≤ 18) : ∀ (M : List Ch) (k : Nat) (g : Gd), (walkG QF k g M).2.2 ≤ 18
  | [], _, _ => Nat.zero_le _
  | c :: cs, k, g => by
    rw [walkG]
    by_cases h1 : (stepG QF g c).1 ≠ 0
    · rw [if_pos h1]; exact stepG_le h g c
    · rw [if_neg h1]; exact walkG_le h cs _ _
/-- What Ground.QC answers. -/
noncomputable def QFn (g : Gd) (p : Qc) : Nat := qcN g.V g.e p.e p.r p.Bl g.g p.L
theorem beginN_le (V : List Vd) (e ep : Int) : beginN V e ep ≤ 18 := by
  unfold beginN
  repeat' split
  all_goals omega
theorem QFn_le (g : Gd) (p : Qc) : QFn g p ≤ 18 := by
  unfold QFn qcN firstN turnN holdN
  have := beginN_le g.V g.e p.e
  repeat' split
  all_goals omega
def PQn (p : Qc) : Prop := (-9223372036854775808 ≤ p.e ∧ p.e < 9223372036854775808) ∧ (-9223372036854775808 ≤ p.r ∧ p.r < 9223372036854775808) ∧ p.L.length < 9223372036854775808
theorem ground_qc (w : World) (E : Nat → Addr) (hR : Rounds w) (he : ErrEnv w w.heap.size E) (W : World) (hW : w.grownBy W none) (g : Gd) (A : Option Addr) (c : Nat) (hg : g.ok) (hV : VdsAt W A g.V) (gv : Array Value) (hgv : gv = g.val A c) (p : Qc) (hp : PQn p) (hpW : p.At W) (pv : Array Value) (hpv : pv = p.val) :
    Calls Tryz.prog 43 #[.agg gv, .agg pv] W fun e w' => e = .returned (evOf E (QFn g p)) ∧ W.grownBy w' none := by
  have he2 := env_grown he hW
  have h4 : 4 ≤ W.heap.size := by
    have hb := fun i hi => World.block_lt_of_cell? W _ (he2.var i hi).1
    have h0 := hb 0 (by omega); have h1 := hb 1 (by omega); have h2 := hb 2 (by omega); have h3 := hb 3 (by omega); have h5 := hb 4 (by omega); have h6 := hb 5 (by omega); have h7 := hb 6 (by omega)
    simp only [gix, List.getD_cons_zero, List.getD_cons_succ] at h0 h1 h2 h3 h5 h6 h7
    omega
  exact qc_isB W he2 hV hg.1 (by have := hg.2.1; omega) rfl hg.2.2 gv hgv (hR.grown hW (by simp)) h4 (Nat.le_refl _) p.e p.r hp.1 hp.2.1 p.Bl hpW.1 _ rfl p.A p.c p.L hp.2.2 (.inr (by have := hg.2.1; omega)) hpW.2.1 hpW.2.2 pv hpv
end Go.Proofs.YtmoebkdbnldbdaaGreatDoor
/-
  Numbers of errors; the remainder of an index.
-/
namespace Go.Proofs.YtmoebkdbnldbdaaGreatDoor
open Go.RowKit

theorem sameS_selfN (V : List Vd) : sameS V V = true := sameS_all rfl fun _ _ _ => ⟨rfl, rfl⟩
theorem num_evN (w : World) (B : Nat) (E : Nat → Addr) (he : ErrEnv w B E) (k : Nat) (hk : k ≤ 18) : Calls Tryz.prog 6 #[evOf E k] w fun en w' => en = .returned (.int .i64 (k : Int)) ∧ w.grownBy w' none := by
  rcases k with _ | k
  · refine (num_nil w).mono ?_
    rintro e w' ⟨rfl, rfl⟩
    exact ⟨rfl, World.grownBy.refl _ _⟩
  · refine (num_err w B E k (by omega) he).mono ?_
    rintro e w' ⟨rfl, g⟩
    exact ⟨rfl, g⟩
theorem u64_remN (x : Int) (M : Int) (h1 : 1 ≤ M) (h2 : M ≤ 9) : ∃ K : Nat, (K : Int) < M ∧ IntKind.u64.wrap M = M ∧ IntKind.u64.wrap ((IntKind.u64.wrap x).tmod M) = (K : Int) ∧ (IntKind.u64.wrap x).tmod M = (K : Int) ∧ IntKind.i64.wrap (K : Int) = (K : Int) := by
  have h : IntKind.u64.wrap x = x % 18446744073709551616 := by simp [IntKind.wrap, IntKind.bits, IntKind.signed]
  have h0 : 0 ≤ x % 18446744073709551616 := by omega
  have ht : (IntKind.u64.wrap x).tmod M = (x % 18446744073709551616) % M := by rw [h]; exact Int.tmod_eq_emod_of_nonneg h0
  have hn : 0 ≤ (x % 18446744073709551616) % M := Int.emod_nonneg _ (by omega)
  have hl : (x % 18446744073709551616) % M < M := Int.emod_lt_of_pos _ (by omega)
  obtain ⟨K, hK⟩ := Int.eq_ofNat_of_zero_le hn
  refine ⟨K, by omega, ?_, ?_, ?_, ?_⟩
  · simp [IntKind.wrap, IntKind.bits, IntKind.signed]; omega
  · rw [ht, hK]; simp [IntKind.wrap, IntKind.bits, IntKind.signed]; omega
  · rw [ht, hK]
  · rw [IntKind.wrap_i64]; omega
end Go.Proofs.YtmoebkdbnldbdaaGreatDoor
/-
  An argument opened: a block (api.Block).
-/
namespace Go.Proofs.YtmoebkdbnldbdaaGreatDoor
open Go.ChangeShapes Go.WideShapes Go.ChangeAt Go.RowKit

theorem cellsBkD : Tryz.prog.cellsOf 24 = 16 := by kernel_rfl
theorem cellsBkI : Tryz.prog.cellsOf 3 = 1 := by kernel_rfl
theorem cellsBkU8 : Tryz.prog.cellsOf 5 = 1 := by kernel_rfl
theorem cellsBkSig : Tryz.prog.cellsOf 134 = 3 := by kernel_rfl
theorem cellsBkSg : Tryz.prog.cellsOf 136 = 4 := by kernel_rfl
theorem cellsBkDs : Tryz.prog.cellsOf 132 = 1 := by kernel_rfl
theorem cellsBkSs : Tryz.prog.cellsOf 44 = 1 := by kernel_rfl
theorem cellsBkVs : Tryz.prog.cellsOf 22 = 1 := by kernel_rfl
theorem cellsBkV : Tryz.prog.cellsOf 41 = 17 := by kernel_rfl
theorem cellsBkTs : Tryz.prog.cellsOf 47 = 1 := by kernel_rfl
theorem cellsBkB : Tryz.prog.cellsOf 61 = 1 := by kernel_rfl
theorem cellsBkQ : Tryz.prog.cellsOf 46 = 19 := by kernel_rfl
theorem cellsBk : Tryz.prog.cellsOf 49 = 39 := by kernel_rfl
theorem dig_wfB {l : List Int} (h16 : l.length = 16) (h : ∀ z ∈ l, (Lit.int .u8 z).wf = true) : isDig l := ⟨h16, fun z hz => by
  have := h z hz
  simp [Lit.wf, IntKind.min, IntKind.max, IntKind.signed, IntKind.bits] at this
  omega⟩
section
variable {H : Type} {enc : TypeId × Value → H} {w : World} {base : Nat} {spare : Nat → Bool} {held : Bool} {fuel : Nat} {cs : List Value} {x : DataW H × List MemPlace}
theorem elems_row {α : Type} {k : Nat} {cel : α → List Value} {Ok : α → Prop} {A : Option Addr} {zs : List α} (hk : 0 < k) (h1 : ∀ z, ∀ v, (cel z)[0]? = some v → v.oneCell' = true)
    (hat : zs ≠ [] → ∃ ad, A = some ad ∧ ∀ i (_ : i < zs.length), ∃ es, (es = cel zs[i] ∧ Ok zs[i]) ∧ es.length = k ∧ ∀ j, j < k → w.cell? (ad.add (i * k + j)) = es[j]?) : RowAt w A cel k zs ∧ ∀ z ∈ zs, Ok z := by
  refine ⟨fun hne => ?_, fun z hz => ?_⟩
  · obtain ⟨ad, eA, hat2⟩ := hat hne
    obtain ⟨b, off, rfl⟩ : ∃ b off, ad = ⟨b, off, none⟩ := by
      obtain ⟨es, ⟨e, _⟩, hl, hcell⟩ := hat2 0 (List.length_pos_iff.2 hne)
      have := hcell 0 hk
      rw [Nat.zero_mul, Nat.zero_add] at this
      rw [List.getElem?_eq_getElem (by omega)] at this
      exact addr_form this (by
        have h2 := h1 _ es[0] (by rw [← e]; exact List.getElem?_eq_getElem (by omega))
        first | exact h2 | (revert h2; cases es[0] <;> simp [Value.oneCell']))
    refine ⟨b, off, eA, fun i hi j v hv => ?_⟩
    obtain ⟨es, ⟨rfl, _⟩, h3, hcell⟩ := hat2 i hi
    have hj : j < k := by have := (List.getElem?_eq_some_iff.1 hv).1; omega
    have := hcell j hj
    rw [Go.WideShapes.add_plain, ← Nat.add_assoc, hv] at this
    exact this
  · have hne : zs ≠ [] := by rintro rfl; cases hz
    obtain ⟨ad, _, hat2⟩ := hat hne
    obtain ⟨i, hi, rfl⟩ := List.getElem_of_mem hz
    obtain ⟨es, ⟨_, h2⟩, _⟩ := hat2 i hi
    exact h2
set_option maxRecDepth 100000 in
theorem open_sigB (h : DataW.trod enc Tryz.prog w base spare held fuel 134 cs = some x) :
    ∃ lf A1 n1 c1, ∃ ds : List (List Int), ∃ A2 n2 c2, ∃ ps : List (List Int), cs = (sigV lf (.slice A1 n1 c1) (.slice A2 n2 c2)).toList ∧ DigRow w A1 n1 ds ∧ DigRow w A2 n2 ps := by
  obtain ⟨y0, y1, y2, n, _, hlen, h0, h1, h2⟩ := Go.Deep.trod_struct3 Tryz.underlying134 h
  rw [cellsBkSig] at hlen
  obtain ⟨lf, e0, _, _⟩ := DataW.trod_int Tryz.underlying3 h0
  obtain ⟨A1, n1, c1, ds, e1, hl1, _, hd1, ha1⟩ := open_digs h1
  obtain ⟨A2, n2, c2, ps, e2, hl2, _, hd2, ha2⟩ := open_digs h2
  match cs, hlen with
  | [v0, v1, v2], _ =>
    simp [cellsBkI, cellsBkDs] at e0 e1 e2
    subst e0 e1 e2
    refine ⟨lf, A1, n1, c1, ds, A2, n2, c2, ps, rfl, ⟨hl1, hd1, ?_⟩, ⟨hl2, hd2, ?_⟩⟩
    · by_cases e : n1 = 0
      · exact .inl e
      · exact .inr (digs_at (by rintro rfl; exact e hl1.symm) hd1 ha1)
    · by_cases e : n2 = 0
      · exact .inl e
      · exact .inr (digs_at (by rintro rfl; exact e hl2.symm) hd2 ha2)
set_option maxRecDepth 100000 in
theorem open_sgB (h : DataW.trod enc Tryz.prog w base spare held fuel 136 cs = some x) : ∃ s : Sg, cs = s.cells.toList ∧ (DigRow w s.A1 s.n1 s.cs ∧ DigRow w s.A2 s.n2 s.ps) := by
  obtain ⟨y0, y1, n, _, hlen, h0, h1⟩ := trod_struct2 Tryz.underlying136 h
  rw [cellsBkSg] at hlen
  obtain ⟨p, hp, _, _⟩ := DataW.trod_int Tryz.underlying3 h0
  obtain ⟨lf, A1, n1, c1, ds, A2, n2, c2, ps, e1, hd, hq⟩ := open_sigB h1
  refine ⟨⟨p, lf, A1, n1, c1, ds, A2, n2, c2, ps⟩, ?_, hd, hq⟩
  match cs, hlen with
  | [v0, v1, v2, v3], _ =>
    simp [cellsBkI, cellsBkSig, sigV] at hp e1
    obtain ⟨rfl, rfl, rfl⟩ := e1
    subst hp
    rfl
theorem open_sgsB (h : DataW.trod enc Tryz.prog w base spare held fuel 44 cs = some x) :
    ∃ A n c, ∃ xs : List Sg, cs = [.slice A n c] ∧ xs.length = n ∧ n ≤ c ∧ SgsAt w A xs ∧ SgsOk w xs := by
  obtain ⟨A, n, c, zs, hcs, hn, hc, hat⟩ := open_elems Tryz.underlying44 cellsBkSg (fun (s : Sg) es => es = s.cells.toList ∧ (DigRow w s.A1 s.n1 s.cs ∧ DigRow w s.A2 s.n2 s.ps)) ⟨0, 0, none, 0, 0, [], none, 0, 0, []⟩ (fun h => open_sgB h) h
  obtain ⟨h1, h2⟩ := elems_row (k := 4) (cel := fun s : Sg => s.cells.toList) (Ok := fun s : Sg => DigRow w s.A1 s.n1 s.cs ∧ DigRow w s.A2 s.n2 s.ps) (by omega) (fun s v hv => by
    have : v = .int .i64 s.who := by simpa [Sg.cells] using hv.symm
    rw [this]; rfl) hat
  exact ⟨A, n, c, zs, hcs, hn, hc, h1, h2⟩
theorem open_vdB (h : DataW.trod enc Tryz.prog w base spare held fuel 41 cs = some x) : ∃ y : Vd, cs = y.cells ∧ isDig y.key := by
  obtain ⟨y0, y1, n, _, hlen, h0, h1⟩ := trod_struct2 Tryz.underlying41 h
  rw [cellsBkV] at hlen
  obtain ⟨l, hl, hl16, _, hwf⟩ := arr_of_trod Tryz.underlying24 Tryz.underlying5 cellsBkU8 cellsBkD h0
  obtain ⟨p, hp, _, _⟩ := DataW.trod_int Tryz.underlying3 h1
  dsimp only at hl hp
  rw [cellsBkD] at hl
  rw [cellsBkI] at hp
  refine ⟨⟨l, p⟩, ?_, dig_wfB hl16 hwf⟩
  have e : cs = cs.take 16 ++ (cs.drop 16).take 1 := by
    rw [List.take_of_length_le (l := cs.drop 16) (by simp; omega), List.take_append_drop]
  rw [e, hp, show cs.take 16 = l.map (Value.int .u8) from hl]
  rfl
theorem open_vdsB (h : DataW.trod enc Tryz.prog w base spare held fuel 22 cs = some x) :
    ∃ A n c, ∃ xs : List Vd, cs = [.slice A n c] ∧ xs.length = n ∧ n ≤ c ∧ VdsAt w A xs ∧ ∀ y ∈ xs, isDig y.key := by
  obtain ⟨A, n, c, zs, hcs, hn, hc, hat⟩ := open_elems Tryz.underlying22 cellsBkV (fun (y : Vd) es => es = y.cells ∧ (isDig y.key ∧ ∀ v, y.cells[0]? = some v → v.oneCell' = true)) ⟨[], 0⟩ (fun h => by
    obtain ⟨y, h1, h2⟩ := open_vdB h
    refine ⟨y, h1, h2, fun v hv => ?_⟩
    obtain ⟨k, p⟩ := y
    match k, h2.1 with
    | z :: _, _ => have : v = .int .u8 z := by simpa [Vd.cells] using hv.symm
                   rw [this]; rfl) h
  obtain ⟨h1, h2⟩ := elems_row (k := 17) (cel := fun y : Vd => y.cells) (Ok := fun y : Vd => isDig y.key ∧ ∀ v, y.cells[0]? = some v → v.oneCell' = true) (by omega) (fun y v hv => by
    obtain ⟨k, p⟩ := y
    cases k with
    | nil => have : v = .int .i64 p := by simpa [Vd.cells] using hv.symm
             rw [this]; rfl
    | cons z r => have : v = .int .u8 z := by simpa [Vd.cells] using hv.symm
                  rw [this]; rfl) hat
  exact ⟨A, n, c, zs, hcs, hn, hc, h1, fun y hy => (h2 y hy).1⟩
theorem open_txsB (h : DataW.trod enc Tryz.prog w base spare held fuel 47 cs = some x) :
    ∃ A n c, ∃ xs : List Tx, cs = [.slice A n c] ∧ xs.length = n ∧ n ≤ c ∧ RowAt w A Tx.cells 1 xs ∧ TxsOk w xs := by
  obtain ⟨A, n, c, zs, hcs, hn, hc, hat⟩ := open_elems Tryz.underlying47 cellsBkB (fun (t : Tx) es => es = t.cells ∧ BytesAt w t.B t.l) ⟨none, 0, []⟩ (fun h => by
    obtain ⟨B, m, c, l, h1, h2, _, _, h4, _⟩ := open_bytes h
    subst h2
    exact ⟨⟨B, c, l⟩, h1, h4⟩) h
  obtain ⟨h1, h2⟩ := elems_row (k := 1) (cel := Tx.cells) (Ok := fun t : Tx => BytesAt w t.B t.l) (by omega) (fun t v hv => by
    have : v = .slice t.B t.l.length t.c := by simpa [Tx.cells] using hv.symm
    rw [this]; rfl) hat
  exact ⟨A, n, c, zs, hcs, hn, hc, h1, h2⟩
theorem drop_one (cs : List Value) (i : Nat) : cs.drop i = (cs.drop i).take 1 ++ cs.drop (i + 1) := by
  have := (List.take_append_drop 1 (cs.drop i)).symm
  rwa [List.drop_drop] at this
theorem drop_some (cs : List Value) (i k : Nat) : cs.drop i = (cs.drop i).take k ++ cs.drop (i + k) := by
  have := (List.take_append_drop k (cs.drop i)).symm
  rwa [List.drop_drop] at this
set_option maxRecDepth 100000 in
theorem open_qcB (h : DataW.trod enc Tryz.prog w base spare held fuel 46 cs = some x) : ∃ q : Qc, cs = q.val.toList ∧ q.At w := by
  obtain ⟨y0, y1, y2, y3, n, _, hlen, h0, h1, h2, h3⟩ := Joins.trod_struct4 Tryz.underlying46 h
  rw [cellsBkQ] at hlen
  obtain ⟨qe, e0, _, _⟩ := DataW.trod_int Tryz.underlying3 h0
  obtain ⟨qr, e1, _, _⟩ := DataW.trod_int Tryz.underlying3 h1
  obtain ⟨l, hl, hl16, _, hwf⟩ := arr_of_trod Tryz.underlying24 Tryz.underlying5 cellsBkU8 cellsBkD h2
  obtain ⟨A2, m, c2, L, e3, rfl, hc, hL, hok⟩ := open_sgsB h3
  refine ⟨⟨qe, qr, l, A2, c2, L⟩, ?_, dig_wfB hl16 hwf, hL, hok⟩
  dsimp only at e0 e1 hl e3
  rw [cellsBkI] at e0 e1
  rw [cellsBkSs] at e3
  rw [cellsBkD] at hl
  have t5 : (cs.drop 18).take 1 = cs.drop 18 := List.take_of_length_le (by simp; omega)
  rw [t5] at e3
  have q0 := drop_one cs 0
  rw [List.drop_zero] at q0 e0
  rw [q0, drop_one cs 1, drop_some cs 2 16, e0, e1, hl, e3]
  simp [Qc.val, arrV]
set_option maxRecDepth 100000 in
theorem open_bkB (h : DataW.trod enc Tryz.prog w base spare held fuel 49 cs = some x) : ∃ b : Bk, cs = b.val.toList ∧ b.At w := by
  obtain ⟨xs, n, _, hx, hlen, hxl, hf⟩ := DataW.trod_struct Tryz.underlying49 h
  rw [cellsBk] at hlen
  match xs, hxl with
  | [y0, y1, y2, y3, y4, y5], _ =>
    have f0 : DataW.trod enc Tryz.prog w base spare held n 3 ((cs.drop 0).take (Tryz.prog.cellsOf 3)) = some y0 := hf 0 _ rfl
    have f1 : DataW.trod enc Tryz.prog w base spare held n 3 ((cs.drop 1).take (Tryz.prog.cellsOf 3)) = some y1 := hf 1 _ rfl
    have f2 : DataW.trod enc Tryz.prog w base spare held n 24 ((cs.drop 2).take (Tryz.prog.cellsOf 24)) = some y2 := hf 2 _ rfl
    have f3 : DataW.trod enc Tryz.prog w base spare held n 46 ((cs.drop 18).take (Tryz.prog.cellsOf 46)) = some y3 := hf 3 _ rfl
    have f4 : DataW.trod enc Tryz.prog w base spare held n 47 ((cs.drop 37).take (Tryz.prog.cellsOf 47)) = some y4 := hf 4 _ rfl
    have f5 : DataW.trod enc Tryz.prog w base spare held n 22 ((cs.drop 38).take (Tryz.prog.cellsOf 22)) = some y5 := hf 5 _ rfl
    obtain ⟨e, e0, _, _⟩ := DataW.trod_int Tryz.underlying3 f0
    obtain ⟨r, e1, _, _⟩ := DataW.trod_int Tryz.underlying3 f1
    obtain ⟨l, e2, hl16, _, hwf⟩ := arr_of_trod Tryz.underlying24 Tryz.underlying5 cellsBkU8 cellsBkD f2
    obtain ⟨q, e3, hq⟩ := open_qcB f3
    obtain ⟨A, m, c, T, e4, rfl, hc, hT, hTo⟩ := open_txsB f4
    obtain ⟨A2, m2, c2, V, e5, rfl, hc2, hV, hVo⟩ := open_vdsB f5
    refine ⟨⟨e, r, l, q, A, c, T, A2, c2, V⟩, ?_, dig_wfB hl16 hwf, hq, ⟨hT, hTo⟩, hV, hVo⟩
    rw [cellsBkI] at e0 e1
    rw [cellsBkD] at e2
    rw [cellsBkQ] at e3
    rw [cellsBkTs] at e4
    rw [cellsBkVs] at e5
    have t5 : (cs.drop 38).take 1 = cs.drop 38 := List.take_of_length_le (by simp; omega)
    rw [t5] at e5
    have q0 := drop_one cs 0
    rw [List.drop_zero] at q0 e0
    rw [q0, drop_one cs 1, drop_some cs 2 16, drop_some cs 18 19, drop_one cs 37, e0, e1, e2, e3, e4, e5]
    simp [Bk.val, arrV]
set_option maxRecDepth 100000 in
/-- A block that comes in. -/
theorem arg_block {v : Value} {d : DataW H} {p : List MemPlace} {b0 : Nat} (hv : Value.okWide Tryz.prog w .any b0 49 v) (h : DataW.Trod enc Tryz.prog w base spare held 49 v d p) : ∃ b : Bk, v = .agg b.val ∧ b.At w := by
  obtain ⟨cs, rfl, hsz⟩ := okWide_struct Tryz.underlying49 hv
  obtain ⟨fuel, hf⟩ := h
  obtain ⟨b, e, hb⟩ := open_bkB hf
  refine ⟨b, ?_, hb⟩
  have e2 : cs.toList = b.val.toList := e
  rw [Array.toList_inj.1 e2]
end
end Go.Proofs.YtmoebkdbnldbdaaGreatDoor
