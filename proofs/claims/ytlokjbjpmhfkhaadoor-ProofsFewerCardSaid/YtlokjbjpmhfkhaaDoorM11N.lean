/-
  Several texts in one: ModVal, PfW.
-/
import Derived.Test.YtlokjbjpmhfkhaaDoorM11a
import Derived.Test.YtlokjbjpmhfkhaaDoorM11M
import Derived.Test.YtlokjbjpmhfkhaaDoorM11r
import Derived.Test.YtlokjbjpmhfkhaaDoorM11q
import Derived.Test.YtlokjbjpmhfkhaaDoorM11m
/-
  'int(uint(x) % m)': a number from 0 to m - 1.
-/

namespace Go.Proofs.YtlokjbjpmhfkhaaDoor
open Go.RowKit

theorem mod_val (f : Int) (m : Nat) (h : 0 < m) (hm : m ≤ 1000000000) : ∃ k : Nat, k < m ∧ wrap64 ((IntKind.u64.wrap f).tmod (m : Int)) = (k : Int) := by
  have h0 : 0 ≤ IntKind.u64.wrap f := by simp [IntKind.wrap_u64]; omega
  have h1 : (IntKind.u64.wrap f).tmod m = IntKind.u64.wrap f % m := Int.tmod_eq_emod_of_nonneg h0
  have h2 := Int.emod_nonneg (IntKind.u64.wrap f) (show (m : Int) ≠ 0 by omega)
  have h3 := Int.emod_lt_of_pos (IntKind.u64.wrap f) (show (0 : Int) < m by omega)
  refine ⟨(IntKind.u64.wrap f % m).toNat, by omega, ?_⟩
  rw [h1]
  generalize IntKind.u64.wrap f % (m : Int) = q at *
  unfold wrap64
  omega
theorem u64_small (x : Int) (h0 : 0 ≤ x) (h1 : x ≤ 1000000000) : IntKind.u64.wrap x = x := by rw [IntKind.wrap_u64]; omega
end Go.Proofs.YtlokjbjpmhfkhaaDoor
/-
  ProofsFewer: a right QC without one of its votes.
-/
namespace Go.Proofs.YtlokjbjpmhfkhaaDoor
open Go.RowKit

attribute [local go_sem] Oper.semAt_some

theorem qc_right {V : List Vd} {e qe r : Int} {Bl Gl : List Int} {L : List Sg} (hr : 1 ≤ r) (h : qcN V e qe r Bl Gl L = 0) : turnN V e qe r = 0 ∧ quorumB V (fun _ => forV qe r Bl) id L = true := by
  rw [qcN, if_neg (by omega)] at h
  by_cases ht : turnN V e qe r = 0
  · refine ⟨ht, ?_⟩
    rw [if_neg (by simp [ht])] at h
    cases hq : quorumB V (fun _ => forV qe r Bl) id L with
    | true => rfl
    | false => rw [hq] at h; simp [holdN] at h
  · rw [if_pos ht] at h
    exact absurd h ht
theorem turn_right {V : List Vd} {e qe r : Int} (h : turnN V e qe r = 0) : rightS V = true ∧ qe = e := by
  have hb : beginN V e qe = 0 := by
    by_cases hb : beginN V e qe = 0
    · exact hb
    · rw [turnN, if_pos hb] at h; exact absurd h hb
  rw [beginN] at hb
  by_cases hr : rightS V = false
  · rw [if_pos hr] at hb; cases hb
  · rw [if_neg hr] at hb
    by_cases he : qe = e
    · exact ⟨by simpa using hr, he⟩
    · rw [if_neg he] at hb; cases hb
theorem qc_other {V : List Vd} {e qe ep r : Int} {Bl Gl : List Int} {L : List Sg} (hr : 1 ≤ r) (h : turnN V e qe r = 0) (hne : ep ≠ qe) : qcN V e ep r Bl Gl L = 18 := by
  obtain ⟨h1, rfl⟩ := turn_right h
  have hb : beginN V qe ep = 18 := by rw [beginN, if_neg (by simp [h1]), if_neg hne]
  have ht : turnN V qe ep r = 18 := by rw [turnN, if_pos (by rw [hb]; omega), hb]
  rw [qcN, if_neg (by omega), if_pos (by rw [ht]; omega), ht]
theorem qc_less {V : List Vd} {e qe r : Int} {Bl Gl : List Int} {L : List Sg} {k : Nat} (hr : 1 ≤ r) (hk : k < L.length) (h : qcN V e qe r Bl Gl L = 0) : qcN V e qe r Bl Gl (dropAt L k) = holdN (enoughS V (whoL id (dropAt L k))) := by
  obtain ⟨h1, h2⟩ := qc_right hr h
  rw [qcN, if_neg (by omega), if_neg (by simp [h1]), quorum_drop hk h2]
theorem votes_some {V : List Vd} {e qe r : Int} {Bl Gl : List Int} {L : List Sg} (hr : 1 ≤ r) (h : qcN V e qe r Bl Gl L = 0) : 0 < L.length := by
  obtain ⟨h1, h2⟩ := qc_right hr h
  obtain ⟨h3, _⟩ := turn_right h1
  rcases L with _ | ⟨x, L⟩
  · rw [quorumB] at h2
    simp only [Bool.and_eq_true] at h2
    have h4 := h2.2
    rw [enoughS] at h4
    simp only [Bool.and_eq_true, decide_eq_true_eq] at h4
    have h5 : sumVal V (whoL id ([] : List Sg)) = 0 := by rw [sumVal]; split <;> rfl
    have h6 : 1 ≤ quorumS V := by
      rw [quorumS, if_pos h3]
      have := total_bound h3
      omega
    omega
  · simp
theorem ErrEnv.moreX {w : World} {B B' : Nat} {E : Nat → Addr} (h : ErrEnv w B E) (hB : B ≤ B') : ErrEnv w B' E := ⟨fun i hi => ⟨(h.var i hi).1, Nat.lt_of_lt_of_le (h.var i hi).2 hB⟩, fun i hi => ⟨Nat.lt_of_lt_of_le (h.row i hi).1 hB, (h.row i hi).2⟩, h.inj⟩
theorem sg_info : (Tryd.prog.info? 53).map (fun i => (i.zero, i.size, i.bytes)) = some (some (.agg sZ), 4, 64) := by kernel_rfl
theorem flat4 {α : Type} (f : α → List Value) (hf : ∀ x, (f x).length = 4) : ∀ (W : List α) (k : Nat) (hk : k < W.length) (j : Nat), j < 4 → (W.flatMap f)[k * 4 + j]? = (f W[k])[j]?
  | [], _, hk, _, _ => by simp at hk
  | x :: W, 0, _, j, hj => by
    rw [List.flatMap_cons, Nat.zero_mul, Nat.zero_add, List.getElem?_append_left (by rw [hf]; exact hj)]
    rfl
  | x :: W, k + 1, hk, j, hj => by
    rw [List.flatMap_cons, List.getElem?_append_right (by rw [hf]; omega), hf, show (k + 1) * 4 + j - 4 = k * 4 + j by omega, flat4 f hf W k (by simpa using hk) j hj]
    rfl
theorem sg_len (s : Sg) : s.cells.toList.length = 4 := rfl
theorem flat_len (M : List Sg) : (M.flatMap fun s => s.cells.toList).length = M.length * 4 := by
  induction M with
  | nil => rfl
  | cons x M ih => rw [List.flatMap_cons, List.length_append, ih, sg_len, List.length_cons]; omega
theorem flat_one (M : List Sg) : ∀ u ∈ M.flatMap (fun s => s.cells.toList), u.oneCell' = true := fun u hu => by
  obtain ⟨s, _, hs⟩ := List.mem_flatMap.1 hu
  exact Array.all_eq_true_iff_forall_mem.1 (sg_one s) u (by simpa using hs)
theorem sgs_flat {w : World} {b o : Nat} {M : List Sg} (h : ∀ k (h : k < M.length), w.rangeAt b (o + k * 4) M[k].cells.toList) : ∀ j u, (M.flatMap fun s => s.cells.toList)[j]? = some u → w.cell? ((⟨b, o, none⟩ : Addr).add j) = some u := fun j u hu => by
  have hj := (List.getElem?_eq_some_iff.1 hu).1
  rw [flat_len] at hj
  have hk : j / 4 < M.length := by omega
  have e := flat4 (fun s : Sg => s.cells.toList) sg_len M (j / 4) hk (j % 4) (by omega)
  rw [show j / 4 * 4 + j % 4 = j by omega, hu] at e
  have := h (j / 4) hk (j % 4) u e.symm
  rw [Go.WideShapes.add_plain]
  rwa [show o + j / 4 * 4 + j % 4 = o + j by omega] at this
theorem own_sgs {w : World} {base : Nat} {e : TypeId} {n : Nat} {v : Value} {M : List Sg} (h : w.ownsRow base e 4 v n (M.flatMap fun s => s.cells.toList)) : ∃ A c, v = .slice A M.length c ∧ M.length ≤ c ∧ SgsAt w A M := by
  have hl : M.length = n := by have := h.1; rw [flat_len] at this; omega
  subst hl
  rcases h.2 with ⟨hv, h0⟩ | ⟨g, cap, cur, rfl, hb, hg, hnc, _, hsz, htake⟩
  · obtain rfl : M = [] := List.length_eq_zero_iff.1 h0
    exact ⟨none, 0, hv, Nat.le_refl _, fun h => absurd rfl h⟩
  · refine ⟨_, cap, rfl, hnc, fun _ => ⟨g, 0, rfl, fun j hj i u hu => ?_⟩⟩
    have hi : i < 4 := (List.getElem?_eq_some_iff.1 hu).1
    rw [Joins.cell_of_block hg _, ← Array.getElem?_toList, Nat.zero_add]
    have e1 : (cur.toList.take (M.length * 4))[j * 4 + i]? = cur.toList[j * 4 + i]? := by rw [List.getElem?_take, if_pos (by omega)]
    rw [← e1, htake, flat4 (fun s : Sg => s.cells.toList) sg_len M j hj i hi]
    exact hu
theorem eval_qc {E : Nat → Addr} {b : Bool} : evOf E (holdN b) = if b then .nilIface else errV (E 11) := by cases b <;> rfl
set_option maxRecDepth 100000 in
set_option maxHeartbeats 2000000 in
theorem fewer_any (w : World) (E : Nat → Addr) (he : ErrEnv w w.heap.size E) (hR : Rounds w) (hB4 : 4 ≤ w.heap.size) (a : AskG) (hok : askOk w a) (tc : List Value) (htc : tc.length = 3) (without : Int) (xs : Array Value) (hxs : xs = (a.g.toList ++ (a.q.toList ++ tc)).toArray) :
    Calls Tryd.prog 4 #[.agg xs, .int .i64 without] w fun e w' => e = .returned (.bool true) ∧ w.grownBy w' none := by
  obtain ⟨⟨hV, ok, hc⟩, hGl, ⟨hBl, hqe, hqr⟩, hA, hsg, hc2⟩ := hok
  have hgz := gz_run
  have hqz := qz_run
  have hsz := zs_run
  obtain ⟨GZ, hGZ⟩ : ∃ Z, gZ = Z := ⟨_, rfl⟩
  obtain ⟨QZ, hQZ⟩ : ∃ Z, qZ = Z := ⟨_, rfl⟩
  rw [hGZ] at hgz
  rw [hQZ] at hqz
  have hGs : GZ.size = 18 := by rw [← hGZ]; rfl
  have hQs : QZ.size = 19 := by rw [← hQZ]; rfl
  obtain ⟨e, A, c, V, Gl, qe, qr, Bl, A2, c2, L⟩ := a
  simp only [AskG.g, AskG.q] at hV ok hc hGl hBl hqe hqr hA hsg hc2 hxs
  obtain ⟨G, hG⟩ : ∃ G, G = arrV .u8 Gl := ⟨_, rfl⟩
  obtain ⟨Bv, hBv⟩ : ∃ B, B = arrV .u8 Bl := ⟨_, rfl⟩
  rw [← hG, ← hBv] at hxs
  have hG16 : G.size = 16 := by rw [hG, arr_size, hGl]
  have hB16 : Bv.size = 16 := by rw [hBv, arr_size, hBl.1]
  obtain ⟨n, hn⟩ : ∃ n, V.length = n := ⟨_, rfl⟩
  obtain ⟨m, hm⟩ : ∃ m, L.length = m := ⟨_, rfl⟩
  obtain ⟨gv, hgv⟩ : ∃ gv, gv = grC e (.slice A V.length c) G := ⟨_, rfl⟩
  obtain ⟨qv, hqv⟩ : ∃ qv, qv = qcC qe qr Bv (.slice A2 L.length c2) := ⟨_, rfl⟩
  rw [← hgv, ← hqv] at hxs
  have hgs : gv.size = 18 := by rw [hgv]; exact grC_size hG16
  have hqs : qv.size = 19 := by rw [hqv]; exact qcC_size hB16
  have hg1 : (gv.all fun v => v.oneCell') = true := by rw [hgv, hG]; exact gr_one (arr_one_p _ _)
  have hq1 : (qv.all fun v => v.oneCell') = true := by rw [hqv, hBv]; exact qc_one (arr_one_p _ _)
  obtain ⟨q, hq⟩ : ∃ q, w.heap.size = q := ⟨_, rfl⟩
  obtain ⟨w1, hw1⟩ : ∃ w1, w.alloc (.cells xs 44) = w1 := ⟨_, rfl⟩
  have g1 : w.grownBy w1 none := by rw [← hw1]; exact World.grownBy_alloc _ _ none
  have b1 : Blk w1 q 44 xs := by rw [← hw1, ← hq]; exact Blk.new _ _ _
  have rr : ∀ Y : World, w1.grownBy Y none → Y.rangeAt q 0 gv.toList ∧ Y.rangeAt q 18 qv.toList ∧ Y.cell? ⟨q, 19, none⟩ = some (.int .i64 qr) ∧ Y.cell? ⟨q, 36, none⟩ = some (.slice A2 m c2) := fun Y hY => by
    have r := range_blk (b1.grown hY (by simp))
    rw [hxs] at r
    have r0 : Y.rangeAt q 0 ([] ++ (gv.toList ++ (qv.toList ++ tc))) := r
    have r1 := range_part r0
    rw [Nat.zero_add] at r1
    have r2 := range_part r
    rw [Nat.zero_add, Array.length_toList, hgs] at r2
    have e1 : qv.toList = [.int .i64 qe, .int .i64 qr] ++ (Bv.toList ++ [.slice A2 m c2]) := by rw [hqv, ← hm]; simp [qcC]
    refine ⟨r1, r2, ?_, ?_⟩
    · exact r2 1 _ (by rw [e1]; rfl)
    · exact r2 18 (.slice A2 m c2) (by rw [e1, List.getElem?_append_right (by simp), List.getElem?_append_right (by simp [hB16])]; simp [hB16])
  have HAL := Lib.hid (alive_is w1 w1.heap.size E ((he.grown g1 (fun _ e => by cases e)).moreP g1.size))
  have HX := Lib.hid (And.intro he (And.intro hR (And.intro hB4 (And.intro hV (And.intro ok (And.intro hc (And.intro hA (And.intro hsg hc2))))))))
  have HD := Lib.hid (And.intro hG (And.intro hGl (And.intro hBv (And.intro hBl (And.intro hqe (And.intro hqr (And.intro hgv (And.intro hqv (And.intro hn hm)))))))))
  have HZ := Lib.hid (And.intro hGs (And.intro hQs (And.intro hgs (And.intro hqs (And.intro hg1 hq1)))))
  have HRR := Lib.hid rr
  have HW := Lib.hid (And.intro hw1 (And.intro hq g1))
  clear he hR hB4 hV ok hc hA hsg hc2 hG hGl hBv hBl hqe hqr hgv hqv hn hm hGs hQs hgs hqs hg1 hq1 rr hw1 hq g1 hGZ hQZ hxs htc b1 hG16 hB16
  go_enter Tryd.func4, Tryd.ntmps4
  go_upto_region 1 with (fail)
  rw [HW.out.1, HW.out.2.1]
  go_wp2_with fail
  refine HAL.out.mono ?_
  clear HAL
  rintro e2 w2 ⟨rfl, g2⟩
  have H2 := Lib.hid g2
  obtain ⟨g, hg⟩ : ∃ g, w2.heap.size = g := ⟨_, rfl⟩
  obtain ⟨W3, hW3⟩ : ∃ W3, (w2.alloc (.cells GZ 34)).setRow g gv = W3 := ⟨_, rfl⟩
  have g3 : w2.grownBy W3 none := by rw [← hW3]; exact grown_row (World.grownBy_alloc _ _ none) (.inl (by rw [hg]; exact Nat.le_refl _)) _
  have bg : Blk W3 g 34 gv := by rw [← hW3, ← hg]; exact (Blk.new w2 34 GZ).row _
  have H3 := Lib.hid (And.intro (grown_trans g2 g3) bg)
  have HG := Lib.hid (And.intro hg hW3)
  clear g2 hg hW3 g3 bg
  go_upto_region 4 with (first
    | (refine wpList_load_mid rfl 34 _ rfl q 0 rfl gv.toList _ (HRR.out _ H2.out).1 Tryd.underlying34 rfl (by rw [Array.length_toList, HZ.out.2.2.1]; exact info18) ?_)
    | (refine wpList_store_row rfl 34 _ _ rfl w2.heap.size gv rfl rfl 34 _ (heap_alloc_new w2 _) (by rw [HZ.out.2.2.1]; exact info18) (by rw [HZ.out.2.2.1, HZ.out.1]) HZ.out.2.2.2.2.1 ?_))
  rw [HG.out.1, HG.out.2]
  have hgr := grown_trans HW.out.2.2 H3.out.1
  have c1 : W3.cell? ⟨g, 1, none⟩ = some (.slice A n c) := by
    have := (gr_cells (HD.out.2.2.2.2.2.2.1 ▸ H3.out.2)).2.1
    rwa [HD.out.2.2.2.2.2.2.2.2.1] at this
  have HGR := Lib.hid hgr
  clear hgr
  by_cases h7 : 7 < n
  · have d1 : decide ((7 : Int) < (n : Int)) = true := by simp; omega
    go_wp2_with fail
    go_ret
    exact ⟨rfl, HGR.out⟩
  have d1 : decide ((7 : Int) < (n : Int)) = false := by simp; omega
  have HL := Lib.hid (show V.length < 1000 by have := HD.out.2.2.2.2.2.2.2.2.1; omega)
  clear h7
  have HBQ := Lib.hid (rbigqc_is W3 qe qr Bv (by rw [HD.out.2.2.1, arr_size, HD.out.2.2.2.1.1]) A2 c2 L (HX.out.2.2.2.2.2.2.1.grown HGR.out) qv HD.out.2.2.2.2.2.2.2.1)
  obtain ⟨bb, hbb⟩ : ∃ bb, bb = bigQ L := ⟨_, rfl⟩
  rw [← hbb] at HBQ
  have HBB := Lib.hid hbb
  clear hbb
  go_wp2_with (first
    | (refine wpList_load_mid_want (by rfl) 39 _ rfl q 18 rfl qv.toList _ (HRR.out _ H3.out.1).2.1 Tryd.underlying39 rfl (by rw [Array.length_toList, HZ.out.2.2.2.1]; exact info19) ?_; rw [Array.toArray_toList]))
  refine HBQ.out.mono ?_
  clear HBQ
  rintro e4 W4 ⟨rfl, g4⟩
  have H4 := Lib.hid (And.intro (grown_trans H3.out.1 g4) (And.intro (H3.out.2.grown g4 (by simp)) (grown_trans HGR.out g4)))
  have x19 := (HRR.out _ H4.out.1).2.2.1
  clear g4 c1
  cases bb with
  | true =>
    go_wp2_with fail
    go_ret
    exact ⟨rfl, H4.out.2.2⟩
  | false =>
  by_cases h1 : qr < 1
  · have d2 : decide (qr < 1) = true := by simp; omega
    go_wp2_with fail
    go_ret
    exact ⟨rfl, H4.out.2.2⟩
  have d2 : decide (qr < 1) = false := by simp; omega
  have H1 := Lib.hid (show 1 ≤ qr by omega)
  have hL12 : L.length ≤ 12 := by
    have := HBB.out
    rw [bigQ] at this
    have h2 := (Bool.or_eq_false_iff.1 this.symm).1
    have := of_decide_eq_false h2
    omega
  have HL12 := Lib.hid hL12
  have hok : SgsOk w L := fun s hs => (HX.out.2.2.2.2.2.2.2.1 s hs).1
  have HQC := Lib.hid (fun (Y : World) (hY : w.grownBy Y none) (ep : Int) (hep : -9223372036854775808 ≤ ep ∧ ep < 9223372036854775808) (A3 : Option Addr) (c3 : Nat) (M : List Sg) (hM : M.length ≤ 100) (hMA : SgsAt Y A3 M) (hMo : ∀ s ∈ M, s ∈ L) (q2 : Array Value) (h2 : q2 = qcC ep qr Bv (.slice A3 M.length c3)) =>
    qc_is Y ((HX.out.1.grown hY (fun _ e => by cases e)).moreX hY.size) (HX.out.2.2.2.1.grown hY) HX.out.2.2.2.2.1 HL.out HD.out.1 HD.out.2.1 gv HD.out.2.2.2.2.2.2.1 (HX.out.2.1.grown hY (by simp)) (Nat.le_trans HX.out.2.2.1 hY.size) (Nat.le_refl _) ep qr hep HD.out.2.2.2.2.2.1 Bl HD.out.2.2.2.1 Bv HD.out.2.2.1 A3 c3 M hM hMA (fun s hs => (hok s (hMo s hs)) |> fun h => ⟨h.1.grown hY, h.2.grown hY⟩) q2 h2)
  clear h1 hL12 hok
  go_wp2_with (first
    | (refine wpList_load_mid_want (by rfl) 39 _ rfl q 18 rfl qv.toList _ (HRR.out _ H4.out.1).2.1 Tryd.underlying39 rfl (by rw [Array.length_toList, HZ.out.2.2.2.1]; exact info19) ?_; rw [Array.toArray_toList])
    | (refine wpList_load_row_w (by rfl) 34 _ rfl g rfl 34 gv (0, 0) _ H4.out.2.1 Tryd.underlying34 rfl (by rw [HZ.out.2.2.1]; exact info18) ?_))
  refine (HQC.out W4 H4.out.2.2 qe HD.out.2.2.2.2.1 A2 c2 L (by have := HL12.out; omega) (HX.out.2.2.2.2.2.2.1.grown H4.out.2.2) (fun _ h => h) qv HD.out.2.2.2.2.2.2.2.1).mono ?_
  rintro e5 W5 ⟨rfl, g5⟩
  have H5 := Lib.hid (And.intro (grown_trans H4.out.1 g5) (And.intro (H4.out.2.1.grown g5 (by simp)) (grown_trans H4.out.2.2 g5)))
  clear g5 x19
  by_cases h0 : qcN V e qe qr Bl Gl L = 0
  rotate_left
  · obtain ⟨ad, ha⟩ := evOf_pos E h0
    rw [ha]
    clear h0
    go_wp2_with fail
    go_ret
    exact ⟨rfl, H5.out.2.2⟩
  rw [show evOf E (qcN V e qe qr Bl Gl L) = .nilIface by rw [h0]; rfl]
  have H0 := Lib.hid h0
  have hm0 : 0 < m := by have := votes_some H1.out h0; have := HD.out.2.2.2.2.2.2.2.2.2; omega
  have hm12 : m ≤ 12 := by have := HL12.out; have := HD.out.2.2.2.2.2.2.2.2.2; omega
  obtain ⟨k, hk, hkv⟩ := mod_val without m hm0 (by omega)
  have x36 := (HRR.out _ H5.out.1).2.2.2
  clear h0
  obtain ⟨K, hK⟩ : ∃ K : Int, K = (k : Int) := ⟨_, rfl⟩
  rw [← hK] at hkv
  have hum : IntKind.u64.wrap (m : Int) = (m : Int) := u64_small _ (by omega) (by omega)
  have em : ((m : Int) == 0) = false := by rw [beq_eq_false_iff_ne]; omega
  have hKb : 0 ≤ K ∧ K < (m : Int) ∧ K < 100 := by omega
  have HK := Lib.hid (And.intro hK (And.intro hk (And.intro hm0 hm12)))
  obtain ⟨p, hp⟩ : ∃ p, W5.heap.size = p := ⟨_, rfl⟩
  obtain ⟨W7, hW7⟩ : ∃ W7, (W5.alloc (.cells QZ 39)).setRow p qv = W7 := ⟨_, rfl⟩
  have g7 : W5.grownBy W7 none := by rw [← hW7]; exact grown_row (World.grownBy_alloc _ _ none) (.inl (by rw [hp]; exact Nat.le_refl _)) _
  have bp : Blk W7 p 39 qv := by rw [← hW7, ← hp]; exact (Blk.new W5 39 QZ).row _
  have H7 := Lib.hid (And.intro (grown_trans H5.out.1 g7) (And.intro (H5.out.2.1.grown g7 (by simp)) (And.intro bp (And.intro (grown_trans H5.out.2.2 g7) (show g ≠ p by have := H5.out.2.1.lt; omega)))))
  have HP := Lib.hid (And.intro hp hW7)
  clear hK hk hm0 hm12 hp hW7 g7 bp
  go_upto_region 8 with (first
    | (refine wpList_load_mid rfl 39 _ rfl q 18 rfl qv.toList _ (HRR.out _ H5.out.1).2.1 Tryd.underlying39 rfl (by rw [Array.length_toList, HZ.out.2.2.2.1]; exact info19) ?_; rw [Array.toArray_toList])
    | (refine wpList_store_row rfl 39 _ _ rfl W5.heap.size qv rfl rfl 39 _ (heap_alloc_new W5 _) (by rw [HZ.out.2.2.2.1]; exact info19) (by rw [HZ.out.2.2.2.1, HZ.out.2.1]) HZ.out.2.2.2.2.2 ?_))
  rw [HP.out.1, HP.out.2]
  have hLne : L ≠ [] := by rintro rfl; have := HK.out.2.1; have := HD.out.2.2.2.2.2.2.2.2.2; simp at this; omega
  obtain ⟨b, off, hA2, hLc⟩ := HX.out.2.2.2.2.2.2.1 hLne
  have hmc : (m : Int) ≤ (c2 : Int) := by have := HX.out.2.2.2.2.2.2.2.2; have := HD.out.2.2.2.2.2.2.2.2.2; omega
  have HLC := Lib.hid (And.intro hA2 hLc)
  have x8 := (HRR.out _ H7.out.1).2.2.2
  rw [hA2] at x8
  have hKc : K ≤ (c2 : Int) := by omega
  have hK1 : K + 1 ≤ (m : Int) := by omega
  have hK0 : 0 ≤ K + 1 := by omega
  have hwK : IntKind.i64.wrap (K + 1) = K + 1 := by rw [IntKind.wrap_i64]; omega
  clear hLne hA2 hLc x36
  refine wp_region_held_drew (S := fun Y => Y.cell? ⟨q, 36, none⟩ = some (.slice (some ⟨b, off, none⟩) m c2)) (by kernel_rfl) ((grown_drew (World.grownBy.refl W7 none)).cell x8 (by simp)) (fun _ => ?_)
  refine wpAnyH_take (i := 1) (oi := _) (v := ?v18) rfl (by kernel_rfl) (by kernel_rfl) (by kernel_rfl) (fun _ _ _ h => h) (Or.inl ⟨by rfl, ?hy18⟩) (by assumption) ?rest18
  case hy18 => (intro V hSw; (try dsimp only at hSw); go_simp) <;> with_reducible rfl
  simp only [Act.put, List.getElem_toArray, List.getElem_cons_succ, List.getElem_cons_zero, List.setIfInBounds_toArray, List.set_cons_zero, List.set_cons_succ]
  refine wpAnyH_take (i := 2) (oi := _) (v := ?v28) rfl (by kernel_rfl) (by kernel_rfl) (by kernel_rfl) (fun _ _ _ h => h) (Or.inl ⟨by rfl, ?hy28⟩) (by assumption) ?rest28
  case hy28 => (intro V hSw; (try dsimp only at hSw); go_simp) <;> with_reducible rfl
  simp only [Act.put, List.getElem_toArray, List.getElem_cons_succ, List.getElem_cons_zero, List.setIfInBounds_toArray, List.set_cons_zero, List.set_cons_succ]
  refine wpAnyH_take (i := 3) (oi := _) (v := ?v38) rfl (by kernel_rfl) (by kernel_rfl) (by kernel_rfl) (fun _ _ _ h => h) (Or.inl ⟨by rfl, ?hy38⟩) (by assumption) ?rest38
  case hy38 => (intro V hSw; (try dsimp only at hSw); go_simp) <;> with_reducible rfl
  simp only [Act.put, List.getElem_toArray, List.getElem_cons_succ, List.getElem_cons_zero, List.setIfInBounds_toArray, List.set_cons_zero, List.set_cons_succ]
  refine wpAnyH_take (i := 4) (oi := _) (v := ?v48) rfl (by kernel_rfl) (by kernel_rfl) (by kernel_rfl) (fun _ _ _ h => h) (Or.inl ⟨by rfl, ?hy48⟩) (by assumption) ?rest48
  case hy48 => (intro V hSw; (try dsimp only at hSw); go_simp) <;> with_reducible rfl
  simp only [Act.put, List.getElem_toArray, List.getElem_cons_succ, List.getElem_cons_zero, List.setIfInBounds_toArray, List.set_cons_zero, List.set_cons_succ]
  refine wpAnyH_take (i := 5) (oi := _) (v := ?v58) rfl (by kernel_rfl) (by kernel_rfl) (by kernel_rfl) (fun _ _ _ h => h) (Or.inl ⟨by rfl, ?hy58⟩) (by assumption) ?rest58
  case hy58 => (intro V hSw; (try dsimp only at hSw); go_simp) <;> with_reducible rfl
  simp only [Act.put, List.getElem_toArray, List.getElem_cons_succ, List.getElem_cons_zero, List.setIfInBounds_toArray, List.set_cons_zero, List.set_cons_succ]
  refine wpAnyH_take (i := 7) (oi := _) (v := ?v78) rfl (by kernel_rfl) (by kernel_rfl) (by kernel_rfl) (fun _ _ _ h => h) (Or.inl ⟨by rfl, ?hy78⟩) (by assumption) ?rest78
  case hy78 => (intro V hSw; (try dsimp only at hSw); go_simp) <;> with_reducible rfl
  simp only [Act.put, List.getElem_toArray, List.getElem_cons_succ, List.getElem_cons_zero, List.setIfInBounds_toArray, List.set_cons_zero, List.set_cons_succ]
  refine wpAnyH_take (i := 8) (oi := _) (v := ?v88) rfl (by kernel_rfl) (by kernel_rfl) (by kernel_rfl) (fun _ _ _ h => h) (Or.inl ⟨by rfl, ?hy88⟩) (by assumption) ?rest88
  case hy88 => (intro V hSw; (try dsimp only at hSw); go_simp) <;> with_reducible rfl
  simp only [Act.put, List.getElem_toArray, List.getElem_cons_succ, List.getElem_cons_zero, List.setIfInBounds_toArray, List.set_cons_zero, List.set_cons_succ]
  refine wpAnyH_take (i := 9) (oi := _) (v := ?v98) rfl (by kernel_rfl) (by kernel_rfl) (by kernel_rfl) (fun _ _ _ h => h) (Or.inl ⟨by rfl, ?hy98⟩) (by assumption) ?rest98
  case hy98 => (intro V hSw; (try dsimp only at hSw); go_simp) <;> with_reducible rfl
  simp only [Act.put, List.getElem_toArray, List.getElem_cons_succ, List.getElem_cons_zero, List.setIfInBounds_toArray, List.set_cons_zero, List.set_cons_succ]
  refine wpAnyH_take (i := 10) (oi := _) (v := ?v108) rfl (by kernel_rfl) (by kernel_rfl) (by kernel_rfl) (fun _ _ _ h => h) (Or.inl ⟨by rfl, ?hy108⟩) (by assumption) ?rest108
  case hy108 => (intro V hSw; (try dsimp only at hSw); go_simp) <;> with_reducible rfl
  simp only [Act.put, List.getElem_toArray, List.getElem_cons_succ, List.getElem_cons_zero, List.setIfInBounds_toArray, List.set_cons_zero, List.set_cons_succ]
  refine wpAnyH_take (i := 11) (oi := _) (v := ?v118) rfl (by kernel_rfl) (by kernel_rfl) (by kernel_rfl) (fun _ _ _ h => h) (Or.inl ⟨by rfl, ?hy118⟩) (by assumption) ?rest118
  case hy118 => (intro V hSw; (try dsimp only at hSw); go_simp) <;> with_reducible rfl
  simp only [Act.put, List.getElem_toArray, List.getElem_cons_succ, List.getElem_cons_zero, List.setIfInBounds_toArray, List.set_cons_zero, List.set_cons_succ]
  refine wpAnyH_take (i := 12) (oi := _) (v := ?v128) rfl (by kernel_rfl) (by kernel_rfl) (by kernel_rfl) (fun _ _ _ h => h) (Or.inl ⟨by rfl, ?hy128⟩) (by assumption) ?rest128
  case hy128 => (intro V hSw; (try dsimp only at hSw); go_simp) <;> with_reducible rfl
  simp only [Act.put, List.getElem_toArray, List.getElem_cons_succ, List.getElem_cons_zero, List.setIfInBounds_toArray, List.set_cons_zero, List.set_cons_succ]
  obtain ⟨i4, hi4, hy0, hy1, hy2⟩ := info_parts sg_info
  have HI4 := Lib.hid (And.intro hi4 (And.intro hy0 (And.intro hy1 hy2)))
  obtain ⟨k', hk'⟩ : ∃ k', k' = K.toNat := ⟨_, rfl⟩
  obtain ⟨k1, hk1⟩ : ∃ k1, k1 = (K + 1).toNat := ⟨_, rfl⟩
  have hkk : k' = k ∧ k1 = k + 1 := by have := HK.out.1; omega
  obtain ⟨ad, had⟩ : ∃ ad, (if c2 = (K + 1).toNat then some (⟨b, off, none⟩ : Addr) else some ⟨b, off + (K + 1).toNat * 4, none⟩) = some ad := by split <;> exact ⟨_, rfl⟩
  rw [had, ← hk', ← hk1]
  rw [← hk1] at had
  obtain ⟨B0, hB0⟩ : ∃ B0, W7.heap.size = B0 := ⟨_, rfl⟩
  obtain ⟨W8, hW8⟩ : ∃ W8, (W7.alloc (.cells #[] 53)).drew = W8 := ⟨_, rfl⟩
  have g8 : W7.grownBy W8 none := by rw [← hW8]; exact grown_trans (World.grownBy_alloc W7 _ none) (grown_drew (World.grownBy.refl _ none))
  have o8 : W8.ownsRow B0 53 4 (.slice (some ⟨B0, 0, none⟩) 0 0) 0 [] := by rw [← hW8, ← hB0]; exact own_keep (World.ownsRow_made W7 #[] 0 (Nat.le_refl _) (Nat.zero_le _) rfl) (grown_drew (World.grownBy.refl _ none))
  have H8 := Lib.hid (And.intro g8 (And.intro o8 (And.intro hB0 hW8)))
  have HK8 := Lib.hid (And.intro hkk (And.intro had hk1))
  clear hi4 hy0 hy1 hy2 hkk had g8 o8 hB0 hW8 hk' hk1
  have hsg : ∀ Y : World, w.grownBy Y none → (∀ j u, ((L.take k).flatMap fun s => s.cells.toList)[j]? = some u → Y.cell? ((⟨b, off, none⟩ : Addr).add j) = some u) ∧ (∀ j u, ((L.drop (k + 1)).flatMap fun s => s.cells.toList)[j]? = some u → Y.cell? (ad.add j) = some u) := fun Y hY => by
    have hLc := HLC.out.2
    have hmL := HD.out.2.2.2.2.2.2.2.2.2
    refine ⟨sgs_flat (fun j hj => by
      have hj2 : j < k ∧ j < L.length := by rw [List.length_take] at hj; omega
      rw [List.getElem_take]
      exact range_kept (hLc j hj2.2) hY), ?_⟩
    by_cases he : L.length ≤ k + 1
    · rw [List.drop_eq_nil_of_le he]; intro j u hu; simp at hu
    · have hne : ¬ c2 = k1 := by have := HX.out.2.2.2.2.2.2.2.2; have := HK8.out.1.2; omega
      have h2 := HK8.out.2.1
      rw [if_neg hne] at h2
      have h3 := Option.some.inj h2
      subst h3
      refine sgs_flat (fun j hj => ?_)
      rw [List.length_drop] at hj
      rw [List.getElem_drop, HK8.out.1.2, show off + (k + 1) * 4 + j * 4 = off + (k + 1 + j) * 4 by omega]
      exact range_kept (hLc (k + 1 + j) (by omega)) hY
  have HSG := Lib.hid hsg
  clear hsg
  have x8' := (H8.out.1).cell x8 (by simp)
  refine wpAnyH_ready (rs := [0]) (by kernel_rfl) (by simp) ?_
  refine AllReadyH.cons (o := _) rfl (fun K hK => ?_) AllReadyH.nil
  go_simp
  rw [H8.out.2.2.2]
  try rw [H8.out.2.2.1]
  refine hK.out _ _ x8' (fun _ => ?_)
  clear hK
  try simp only [Act.put, List.setIfInBounds_toArray, List.set_cons_zero, List.set_cons_succ]
  refine wpAnyH_ready (rs := [6]) (by kernel_rfl) (by simp) ?_
  refine AllReadyH.cons (o := _) rfl (fun K hK => ?_) AllReadyH.nil
  rw [if_pos (by rfl)]
  have g18 := grown_trans H7.out.2.2.2.1 H8.out.1
  refine wp_append_own _ _ _ 37 rfl B0 53 i4 _ 4 64 Tryd.underlying37 HI4.out.1 HI4.out.2.1 HI4.out.2.2.1 HI4.out.2.2.2 rfl (by decide) _ _ _ rfl H8.out.2.1 ⟨b, off, none⟩ k' c2 ((L.take k).flatMap fun s => s.cells.toList) rfl (by rw [flat_len]; have := HK.out; have := HK8.out.1.1; have := HD.out.2.2.2.2.2.2.2.2.2; rw [List.length_take]; omega) (HSG.out _ g18).1 (flat_one _) (by have := HK.out; have := HK8.out.1.1; simp only [maxLen]; omega) (by have := HK.out; have := HK8.out.1.1; omega) (by have := H8.out.1.size; have := H8.out.2.2.1; omega) ?_
  intro v9 W9 o9 g9 _
  have g79 := grown_own H8.out.1 g9 H8.out.2.1 (by rw [H8.out.2.2.1]; exact Nat.le_refl _)
  obtain ⟨A9, c9, rfl⟩ := own_slice _ o9
  have x9 := g79.cell x8 (by simp)
  have H9 := Lib.hid (And.intro g79 o9)
  clear g9 o9 g79 g18
  refine hK.out _ _ x9 (fun _ => ?_)
  clear hK
  try simp only [Act.put, List.setIfInBounds_toArray, List.set_cons_zero, List.set_cons_succ]
  refine wpAnyH_ready (rs := [13]) (by kernel_rfl) (by simp) ?_
  refine AllReadyH.cons (o := _) rfl (fun K hK => ?_) AllReadyH.nil
  rw [if_pos (by rfl)]
  have g19 := grown_trans H7.out.2.2.2.1 H9.out.1
  refine wp_append_own _ _ _ 37 rfl B0 53 i4 _ 4 64 Tryd.underlying37 HI4.out.1 HI4.out.2.1 HI4.out.2.2.1 HI4.out.2.2.2 rfl (by decide) _ _ _ rfl H9.out.2 ad (m - k1) (c2 - k1) ((L.drop (k + 1)).flatMap fun s => s.cells.toList) rfl (by rw [flat_len]; have := HK8.out.1.2; have := HD.out.2.2.2.2.2.2.2.2.2; rw [List.length_drop]; omega) (HSG.out _ g19).2 (flat_one _) (by have := HK.out; have := HK8.out.1; simp only [maxLen]; omega) (by have := HK.out; have := HK8.out.1; omega) (by have := H9.out.1.size; have := H8.out.2.2.1; omega) ?_
  intro v10 W10 o10 g10 _
  have g710 := grown_own H9.out.1 g10 H9.out.2 (by rw [H8.out.2.2.1]; exact Nat.le_refl _)
  rw [List.nil_append, ← List.flatMap_append] at o10
  obtain ⟨M, hM⟩ : ∃ M, M = L.take k ++ L.drop (k + 1) := ⟨_, rfl⟩
  rw [← hM] at o10
  have HM := Lib.hid hM
  clear hM
  obtain ⟨A10, c10, hv10, hc10, hM10⟩ := own_sgs o10
  subst hv10
  have x10 := g710.cell x8 (by simp)
  have bp10 := H7.out.2.2.1.grown g710 (by simp)
  have bq10 : Blk W10 p 39 (qcC qe qr Bv (.slice A2 L.length c2)) := HD.out.2.2.2.2.2.2.2.1 ▸ bp10
  have cp10 := (qc_cells (by rw [HD.out.2.2.1, arr_size, HD.out.2.2.2.1.1]) bq10).2.2.2
  have fp10 := bq10.frozen 18
  have H10 := Lib.hid (And.intro g710 (And.intro o10 (And.intro hc10 (And.intro hM10 bq10))))
  clear g10 o10 g710 hc10 hM10 bp10 bq10 g19
  refine hK.out _ _ x10 (fun _ => ?_)
  clear hK
  try simp only [Act.put, List.setIfInBounds_toArray, List.set_cons_zero, List.set_cons_succ]
  refine wpAnyH_ready (rs := [14]) (by kernel_rfl) (by simp) ?_
  refine AllReadyH.cons (o := _) rfl (fun K hK => ?_) AllReadyH.nil
  go_simp
  refine hK.out _ _ x10 (fun _ => ?_)
  clear hK
  try simp only [Act.put, List.setIfInBounds_toArray, List.set_cons_zero, List.set_cons_succ]
  refine wpAnyH_ready (rs := [15]) (by kernel_rfl) (by simp) ?_
  refine AllReadyH.cons (o := _) rfl (fun K hK => ?_) AllReadyH.nil
  go_simp
  have hg11 := grown_set_p (w := W10) p 18 (.slice A10 M.length c10)
  have hpB : p < B0 := by have := H7.out.2.2.1.lt; have := H8.out.2.2.1; omega
  have hown : ∀ z, (Value.slice A10 M.length c10).ownBlock = some z → B0 ≤ z := fun z hz => (H10.out.2.1.lt z hz).1
  obtain ⟨W11, hW11⟩ : ∃ W11, W11 = W10.setCell ⟨p, 18, none⟩ (.slice A10 M.length c10) := ⟨_, rfl⟩
  rw [← hW11] at hg11 ⊢
  have hpw : w1.heap.size ≤ p := by have := H5.out.1.size; have := HP.out.1; omega
  have hqp : q < p := by have := HW.out.2.2.size; have := HW.out.2.1; have := (HRR.out _ H5.out.1).2.2.1; have := World.block_lt_of_cell? _ _ ((HRR.out w1 (World.grownBy.refl w1 none)).2.2.1); dsimp only at this; omega
  have g111 : w1.grownBy W11 none := grown_fresh (grown_trans H7.out.1 H10.out.1) hg11 hpw
  have bg11 := (H7.out.2.1.grown H10.out.1 (by simp)).grown hg11 (fun e => H7.out.2.2.2.2 (Option.some.inj e))
  have bq11 : Blk W11 p 39 (qcC qe qr Bv (.slice A10 M.length c10)) := by
    have := H10.out.2.2.2.2.set 18 (.slice A10 M.length c10)
    rw [← hW11, qc_set _ _ _ (by rw [HD.out.2.2.1, arr_size, HD.out.2.2.2.1.1])] at this
    exact this
  have hM11 : SgsAt W11 A10 M := by
    have h1 := H10.out.2.1
    obtain ⟨A', c', hv', _, hM'⟩ := own_sgs (h1.kept hg11 (.inr (fun e => by have := hown _ e; omega)))
    cases hv'
    exact hM'
  have hMl : M.length + 1 = m := by have := HK.out.2.1; have := HD.out.2.2.2.2.2.2.2.2.2; rw [HM.out, List.length_append, List.length_take, List.length_drop]; omega
  have x11 := hg11.cell x10 (fun e => by have := Option.some.inj e; dsimp only at this; omega)
  have H11 := Lib.hid (And.intro g111 (And.intro bg11 (And.intro bq11 (And.intro hM11 (And.intro hMl (And.intro (grown_trans HW.out.2.2 g111) HM.out))))))
  refine hK.out _ _ x11 (fun _ => ?_)
  clear hK
  refine wpAnyH_done (by kernel_rfl) ?_ _
  clear x8 x9 x10 x11 x8' cp10 fp10 hg11 hpB hown hW11 hpw hqp g111 bg11 bq11 hM11 hMl
  obtain ⟨i1, hi1, hz0, hz1, hz2⟩ := info_parts int_info
  have HI1 := Lib.hid (And.intro hi1 (And.intro hz0 (And.intro hz1 hz2)))
  obtain ⟨D0, hD0⟩ : ∃ D0, W11.heap.size = D0 := ⟨_, rfl⟩
  obtain ⟨W12, hW12⟩ : ∃ W12, W11.alloc (.cells #[] 3) = W12 := ⟨_, rfl⟩
  obtain ⟨mm, hmm⟩ : ∃ mm, M.length = mm := ⟨_, rfl⟩
  have g12 : W11.grownBy W12 none := by rw [← hW12]; exact World.grownBy_alloc _ _ none
  have o12 : W12.ownsRow D0 3 1 (.slice (some ⟨D0, 0, none⟩) 0 0) 0 [] := by rw [← hW12, ← hD0]; exact World.ownsRow_made W11 #[] 0 (Nat.le_refl _) (Nat.zero_le _) rfl
  have x18 : W12.cell? ⟨p, 18, none⟩ = some (.slice A10 mm c10) := by
    have := (qc_cells (by rw [HD.out.2.2.1, arr_size, HD.out.2.2.2.1.1]) (H11.out.2.2.1.grown g12 (by simp))).2.2.2
    rwa [hmm] at this
  have H12 := Lib.hid (And.intro g12 (And.intro o12 (And.intro hD0 (And.intro hW12 (And.intro hmm (show W11.heap.size ≤ D0 by rw [hD0]; exact Nat.le_refl _))))))
  clear hi1 hz0 hz1 hz2 g12 o12 hD0 hW12 hmm
  go_upto_region 10 with (fail)
  rw [H12.out.2.2.2.1]
  try rw [H12.out.2.2.1]
  go_wp2_with fail
  clear x18
  go_loopw [67, 7] (fun i out wr => ∃ k2 : Nat, k2 ≤ mm ∧ i = .int .i64 (k2 : Int) ∧ wr.ownsRow D0 3 1 out k2 ((whoL id (M.take k2)).map (Value.int .i64)) ∧ W11.grownBy wr none) (fun i _ _ => mm - (intV i).toNat)
  case atStart => exact ⟨0, Nat.zero_le _, rfl, by simpa [whoL] using H12.out.2.1, H12.out.1⟩
  case round =>
    obtain ⟨k2, hk2, hi, hown, hKr⟩ := hrel
    obtain ⟨I, hI⟩ : ∃ I : Int, I = (k2 : Int) := ⟨_, rfl⟩
    rw [← hI] at hi
    subst hi
    rename World => wr
    by_cases hlt : k2 < mm
    · have hlt' : k2 < M.length := by have := H12.out.2.2.2.2.1; omega
      have hne : M ≠ [] := by rintro rfl; simp at hlt'
      obtain ⟨b3, off3, hA10, hc3⟩ := H11.out.2.2.2.1 hne
      subst hA10
      have e1 : decide (I < (mm : Int)) = true := by simp; omega
      have hIV : I < (mm : Int) := by omega
      have hI0 : 0 ≤ I ∧ I < 1000 := by have := H11.out.2.2.2.2.1; have := H12.out.2.2.2.2.1; have := HK.out.2.2.2; omega
      have hkI : I.toNat = k2 := by omega
      have hk100 : k2 < 1000 := by omega
      have r1 := range_kept (hc3 k2 hlt') hKr
      obtain ⟨x, hxe⟩ : ∃ x, x = M[k2] := ⟨_, rfl⟩
      rw [← hxe] at r1
      rw [← hkI] at r1
      obtain ⟨cs, hcs⟩ : ∃ cs, cs = x.cells := ⟨_, rfl⟩
      have hc4 : cs.size = 4 := by rw [hcs]; rfl
      have hc1 : (cs.all fun v => v.oneCell') = true := by rw [hcs]; exact sg_one x
      rw [← hcs] at r1
      obtain ⟨Wa, hWa⟩ : ∃ Wa, Wa = (wr.alloc (.cells sZ 53)).setRow wr.heap.size cs := ⟨_, rfl⟩
      have hG0 : wr.grownBy Wa none := by rw [hWa]; exact grown_row (World.grownBy_alloc wr _ none) (.inl (Nat.le_refl _)) cs
      have bS : Blk Wa wr.heap.size 53 cs := by rw [hWa]; exact (Blk.new wr 53 sZ).row cs
      have rS := range_blk bS
      obtain ⟨who, hwho⟩ : ∃ who, who = x.who := ⟨_, rfl⟩
      have c0 : Wa.cell? ⟨wr.heap.size, 0, none⟩ = some (.int .i64 who) := by have := rS 0 (.int .i64 who) (by rw [hcs, hwho]; rfl); simpa using this
      have HC := Lib.hid (And.intro hc4 (And.intro hc1 r1))
      have HO1 := Lib.hid (show (Wa.alloc (.cells #[.int .i64 who] 3)).ownsRow D0 3 1 _ k2 ((whoL id (M.take k2)).map (Value.int .i64)) ∧ (∀ j u, [Value.int .i64 who][j]? = some u → (Wa.alloc (.cells #[.int .i64 who] 3)).cell? ((⟨Wa.heap.size, 0, none⟩ : Addr).add j) = some u) from ⟨(own_keep hown hG0).alloc _, fun j u hu => by rw [addr_zero_add, (Blk.new Wa 3 #[.int .i64 who]).cell j]; simpa using hu⟩)
      have htk : whoL id (M.take (k2 + 1)) = whoL id (M.take k2) ++ [who] := by rw [← List.take_append_getElem hlt', whoL, List.map_append, ← hxe, hwho]; rfl
      have HN := Lib.hid (And.intro htk (And.intro (grown_trans hKr hG0) (And.intro hI hlt)))
      have HW2 := Lib.hid hWa
      clear r1 hxe hcs hc4 hc1 hG0 bS rS hc3 hne hI hkI hlt hlt' hKr hWa htk hwho hown
      go_upto_region 14 with (first
        | (refine wpList_load_mid rfl 53 _ rfl b3 (off3 + I.toNat * 4) rfl cs.toList _ HC.out.2.2 Tryd.underlying53 rfl (by rw [Array.length_toList, HC.out.1]; exact info4s) ?_; rw [Array.toArray_toList])
        | (refine wpList_store_row rfl 53 _ _ rfl wr.heap.size cs rfl rfl 53 _ (heap_alloc_new wr _) (by rw [HC.out.1]; exact info4s) (by rw [HC.out.1]; rfl) HC.out.2.1 ?_
           rw [← HW2.out])
        | (at_builtin; refine wpList_append_own _ rfl _ _ 48 rfl D0 3 i1 (.int .i64 0) 1 8 Tryd.underlying48 HI1.out.1 HI1.out.2.1 HI1.out.2.2.1 HI1.out.2.2.2 rfl (by decide) _ _ _ rfl HO1.out.1 ⟨Wa.heap.size, 0, none⟩ 1 1 [.int .i64 who] rfl rfl (fun j u hu => HO1.out.2 j u hu) (by simp [Value.oneCell']) (by simp only [maxLen]; omega) (by omega) (by have := HN.out.2.1.size; have := H12.out.2.2.1; rw [World.size_alloc]; omega) ?_
           intro v13 W13 o13 g13 _
           have q13 := Lib.hid (And.intro o13 (grown_own (grown_trans HN.out.2.1 (World.grownBy_alloc Wa _ none)) g13 HO1.out.1 (by exact H12.out.2.2.2.2.2)))
           clear o13 g13))
      go_wp2_with fail
      go_roundw
      case rel =>
        obtain ⟨n1, n2, n3, n4⟩ := HN.out
        refine ⟨k2 + 1, by omega, by rw [n3]; rfl, ?_, q13.out.2⟩
        rw [n1, List.map_append]
        exact q13.out.1
      case measure => obtain ⟨n1, n2, n3, n4⟩ := HN.out; simp [intV]; omega
    · have e1 : decide (I < (mm : Int)) = false := by simp; omega
      obtain rfl : k2 = mm := by omega
      have hmm := H12.out.2.2.2.2.1
      rw [← hmm, List.take_length, hmm] at hown
      obtain ⟨A5, c5, hv5, hc5, hi5⟩ := own_ints hown
      subst hv5
      have hwlen : (whoL id M).length = M.length := by simp [whoL]
      have hgw := grown_trans H11.out.2.2.2.2.2.1 hKr
      have hml := H11.out.2.2.2.2.1
      have hb12 := HK.out.2.2.2
      obtain ⟨rb, hrb⟩ : ∃ rb, rb = enoughS V (whoL id M) := ⟨_, rfl⟩
      obtain ⟨q2, hq2⟩ : ∃ q2, q2 = qcC qe qr Bv (.slice A10 M.length c10) := ⟨_, rfl⟩
      have hB16 : Bv.size = 16 := by rw [HD.out.2.2.1, arr_size, HD.out.2.2.2.1.1]
      have hq2s : q2.size = 19 := by rw [hq2]; exact qcC_size hB16
      have hsub : ∀ s ∈ M, s ∈ L := fun s hs => by
        rw [H11.out.2.2.2.2.2.2, List.mem_append] at hs
        exact hs.elim (fun h => List.mem_of_mem_take h) (fun h => List.mem_of_mem_drop h)
      have hkL : k < L.length := by have := HK.out.2.1; have := HD.out.2.2.2.2.2.2.2.2.2; omega
      have hqm : evOf E (qcN V e qe qr Bl Gl M) = if rb then .nilIface else errV (E 11) := by
        have := qc_less H1.out hkL H0.out
        rw [dropAt, ← H11.out.2.2.2.2.2.2, ← hrb] at this
        rw [this, eval_qc]
      have bg := H11.out.2.1.grown hKr (by simp)
      have bp := hq2 ▸ H11.out.2.2.1.grown hKr (by simp)
      have T1 := Lib.hid (show ∀ z : Gr wr, Calls Tryd.prog 12 #[.agg gv, .agg q2] z.1 fun e w' => e = .returned (if rb then .nilIface else errV (E 11)) ∧ z.1.grownBy w' none from fun z => by
        rw [← hqm]
        exact HQC.out z.1 (grown_trans hgw z.2) qe HD.out.2.2.2.2.1 A10 c10 M (by omega) (H11.out.2.2.2.1.grown (grown_trans hKr z.2)) hsub q2 hq2)
      have T2 := Lib.hid (show ∀ z : Gr wr, Calls Tryd.prog 13 #[.slice A n c, .slice A5 (whoL id M).length c5] z.1 fun e w' => e = .returned (.bool rb) ∧ z.1.grownBy w' none from fun z => by
        rw [hrb, ← HD.out.2.2.2.2.2.2.2.2.1]
        have hi6 : IntsAt z.1 A5 (whoL id M) := fun hne => by
          obtain ⟨ad, e1, hcell⟩ := hi5 hne
          exact ⟨ad, e1, fun j hj => z.2.cell (hcell j hj) (by simp)⟩
        exact renough_is z.1 A A5 c c5 V (whoL id M) (HX.out.2.2.2.1.grown (grown_trans hgw z.2)) HX.out.2.2.2.2.1 HL.out HX.out.2.2.2.2.2.1 hi6 (by omega) hc5)
      have V1 := Lib.hid (show ∀ z : Gr wr, Sem.run Tryd.prog (Instr.loadAt 34 (.pointer (some ⟨g, 0, none⟩))) z.1 = .ok (.agg gv) z.1 from fun z => row_loadT z.1 g 0 34 gv _ (range_kept (range_blk bg) z.2) Tryd.underlying34 rfl (by rw [HZ.out.2.2.1]; exact info18))
      have V2 := Lib.hid (show ∀ z : Gr wr, Sem.run Tryd.prog (Instr.loadAt 39 (.pointer (some ⟨p, 0, none⟩))) z.1 = .ok (.agg q2) z.1 from fun z => row_loadT z.1 p 0 39 q2 _ (range_kept (range_blk bp) z.2) Tryd.underlying39 rfl (by rw [hq2s]; exact info19))
      have cg : wr.cell? ⟨g, 1, none⟩ = some (.slice A n c) := by
        have := (gr_cells (HD.out.2.2.2.2.2.2.1 ▸ bg)).2.1
        rwa [HD.out.2.2.2.2.2.2.2.2.1] at this
      have k1' := Gr.cell cg
      have HF := Lib.hid (And.intro bg (And.intro hgw (And.intro hB16 (grown_trans H11.out.1 hKr))))
      obtain ⟨wl, hwl⟩ : ∃ wl, (whoL id M).length = wl := ⟨_, rfl⟩
      rw [hwl] at T2 ⊢
      clear hown hlt hI hk2 hc5 hi5 hwlen hgw hml hb12 hrb hq2 hB16 hq2s hsub hkL hqm bg bp cg hmm hKr hwl
      go_wp2_with fail
      cases rb
      all_goals
        refine wp_region_grown (by kernel_rfl) (by kernel_rfl) ?_
        repeat (first
          | (refine wpQuiet_load_row 34 _ ⟨g, 0, none⟩ (.agg gv) (by rfl) rfl rfl (by rintro _ ⟨z, rfl⟩; exact V1.out z) ?_; simp only [Act.put, List.setIfInBounds_toArray, List.set_cons_zero, List.set_cons_succ])
          | (refine wpQuiet_load_row 39 _ ⟨p, 0, none⟩ (.agg q2) (by rfl) rfl rfl (by rintro _ ⟨z, rfl⟩; exact V2.out z) ?_; simp only [Act.put, List.setIfInBounds_toArray, List.set_cons_zero, List.set_cons_succ])
          | go_big_quiet_step (first
          | (go_at_call 12; with_reducible exact Calls.grown _ (T1.out _))
          | (go_at_call 13; with_reducible exact Calls.grown _ (T2.out _))))
        refine wpQuiet_nil ?_
        rintro w15 ⟨⟨_, g15⟩, rfl⟩
        clear k1'
        have H15 := Lib.hid (And.intro (HF.out.1.grown g15 (by simp)) (And.intro (grown_trans HF.out.2.1 g15) (grown_trans HF.out.2.2.2 g15)))
        obtain ⟨o, ho⟩ : ∃ o, w15.heap.size = o := ⟨_, rfl⟩
        obtain ⟨W17, hW17⟩ : ∃ W17, (w15.alloc (.cells QZ 39)).setRow o qv = W17 := ⟨_, rfl⟩
        have g17 : w15.grownBy W17 none := by rw [← hW17]; exact grown_row (World.grownBy_alloc _ _ none) (.inl (by rw [ho]; exact Nat.le_refl _)) _
        have bo : Blk W17 o 39 (qcC qe qr Bv (.slice A2 L.length c2)) := by rw [← hW17, ← ho, ← HD.out.2.2.2.2.2.2.2.1]; exact (Blk.new w15 39 QZ).row _
        have co := (qc_cells HF.out.2.2.1 bo).1
        have fo := bo.frozen 0
        have H17 := Lib.hid (And.intro bo (And.intro (H15.out.1.grown g17 (by simp)) (And.intro (grown_trans H15.out.2.1 g17) (And.intro (grown_trans H15.out.2.2 g17) (And.intro ho hW17)))))
        clear g15 ho hW17 g17 bo
        go_upto_region 18 with (first
          | (refine wpList_load_mid rfl 39 _ rfl q 18 rfl qv.toList _ (HRR.out _ H15.out.2.2).2.1 Tryd.underlying39 rfl (by rw [Array.length_toList, HZ.out.2.2.2.1]; exact info19) ?_; rw [Array.toArray_toList])
          | (refine wpList_store_row rfl 39 _ _ rfl w15.heap.size qv rfl rfl 39 _ (heap_alloc_new w15 _) (by rw [HZ.out.2.2.2.1]; exact info19) (by rw [HZ.out.2.2.2.1, HZ.out.2.1]) HZ.out.2.2.2.2.2 ?_))
        rw [H17.out.2.2.2.2.1, H17.out.2.2.2.2.2]
        go_upto_region 19 with (fail)
        obtain ⟨ep, hep⟩ : ∃ ep, ep = wrap64 (qe + 1) := ⟨_, rfl⟩
        rw [← hep]
        have hqb := HD.out.2.2.2.2.1
        have hepb : (-9223372036854775808 ≤ ep ∧ ep < 9223372036854775808) ∧ ep ≠ qe := by rw [hep]; unfold wrap64; omega
        obtain ⟨W18, hW18⟩ : ∃ W18, W18 = W17.setCell ⟨o, 0, none⟩ (.int .i64 ep) := ⟨_, rfl⟩
        have hg18 : W17.grownBy W18 (some o) := by rw [hW18]; exact grown_set_p o 0 _
        have bo18 : Blk W18 o 39 (qcC ep qr Bv (.slice A2 L.length c2)) := by
          have := H17.out.1.set 0 (.int .i64 ep)
          rw [← hW18] at this
          rwa [show (qcC qe qr Bv (.slice A2 L.length c2)).setIfInBounds 0 (.int .i64 ep) = qcC ep qr Bv (.slice A2 L.length c2) by simp [qcC]] at this
        obtain ⟨q3, hq3⟩ : ∃ q3, q3 = qcC ep qr Bv (.slice A2 L.length c2) := ⟨_, rfl⟩
        rw [← hq3] at bo18
        have hq3s : q3.size = 19 := by rw [hq3]; exact qcC_size HF.out.2.2.1
        have hgo : g < o := by have := H15.out.1.lt; have := H17.out.2.2.2.2.1; omega
        have gw18 : w.grownBy W18 none := grown_fresh H17.out.2.2.1 hg18 (by have := H15.out.2.1.size; have := H17.out.2.2.2.2.1; omega)
        have H18 := Lib.hid (And.intro bo18 (And.intro (H17.out.2.1.grown hg18 (fun e => by have := Option.some.inj e; omega)) (And.intro gw18 (And.intro hq3s (And.intro hepb (And.intro hq3 (qc_right H1.out H0.out).1))))))
        rw [← hW18]
        clear hep hqb hepb hW18 hg18 bo18 hq3 hq3s hgo gw18 co fo
        go_wp2_with (first
          | (refine wpList_load_row rfl 34 _ rfl g rfl 34 gv (0, 0) _ H18.out.2.1 Tryd.underlying34 rfl (by rw [HZ.out.2.2.1]; exact info18) ?_)
          | (refine wpList_load_row rfl 39 _ rfl o rfl 39 q3 (0, 0) _ H18.out.1 Tryd.underlying39 rfl (by rw [H18.out.2.2.2.1]; exact info19) ?_))
        refine (HQC.out W18 H18.out.2.2.1 ep H18.out.2.2.2.2.1.1 A2 c2 L (by have := HL12.out; omega) (HX.out.2.2.2.2.2.2.1.grown H18.out.2.2.1) (fun _ h => h) q3 H18.out.2.2.2.2.2.1).mono ?_
        rintro e19 W19 ⟨rfl, g19⟩
        rw [show evOf E (qcN V e ep qr Bl Gl L) = errV (E 17) by rw [qc_other H1.out H18.out.2.2.2.2.2.2 H18.out.2.2.2.2.1.2]; rfl]
        have H19 := Lib.hid (grown_trans H18.out.2.2.1 g19)
        clear g19
        go_wp2_with fail
        refine (num_err W19 w.heap.size E 17 (by omega) (HX.out.1.grown H19.out (fun _ e => by cases e))).mono ?_
        rintro e20 W20 ⟨rfl, g20⟩
        have H20 := Lib.hid (grown_trans H19.out g20)
        clear g20
        go_wp2_with fail
        go_ret
        exact ⟨rfl, H20.out⟩
end Go.Proofs.YtlokjbjpmhfkhaaDoor
