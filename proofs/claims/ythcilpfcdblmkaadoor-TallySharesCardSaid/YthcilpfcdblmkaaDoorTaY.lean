/-
  TallyOnce, walked.
-/
import Derived.Test.YthcilpfcdblmkaaDoorTaX
import Derived.Test.YthcilpfcdblmkaaDoorTaU
import Derived.Test.YthcilpfcdblmkaaDoorTaAl
import Derived.Maps.OwnIn
import Derived.Sort.MapsRangeIn
import Derived.Sort.CutIn
namespace Go.Proofs.YthcilpfcdblmkaaDoor
open Go.RowKit Go.Shelf Go.Maps

attribute [local go_sem] Oper.semAt_some

theorem wpListIn_lookup_int_w {H : Type} {P : Program} {F : Fence} {nF : Nat} (w : World) {ops : Array Oper} {rest : List Oper} {o : Oper} {a : Act} {Q : Exit → Act → World → Prop}
    (hw : Region.wanted o (yielded ops a.tmps) = true) (m x : Operand) (t : TypeId) (hop : o.op = Op.lookup t m x false)
    (k e : TypeId) (q : IntKind) (K : Keyed P k) (ht : P.underlying t = some (.map k e)) (he : P.underlying e = some (.int q)) (hz : (zeroValue e).run P w = .ok (.int q 0) w) (b n : Nat) (D : DataW H)
    (hm : a.eval m = .map (some b)) (hown : w.ownsMap P k (plainElem P e) b n D) (key : Value) (kl : Lit) (hx : a.eval x = key) (hkey : keyOf P k key = some kl)
    (hK : ∀ c : Int, D.atKey kl (.lit (.int q 0)) = .lit (.int q c) → (Lit.int q c).wf = true → wpListIn F nF P ops Q rest (a.put o.dst (.int q c)) w) :
    wpListIn F nF P ops Q (o :: rest) a w := by
  refine BigFrame.wpListIn_want hw fun K' hK' => ?_
  obtain ⟨c, hrun, hat, hwc⟩ := hown.lookup_int K ht he hz hkey
  unfold Oper.wpIn
  refine ⟨by simp [Oper.about, hop], ?_⟩
  rw [Oper.semAt_plain F _ _ (by rw [hop]; intro c hc'; cases hc')]
  simp [execOp, hop, hm, hx, hrun, Result.andThen]
  exact hK' _ _ (hK c hat hwc)
theorem ownsMap_kept {W W' : World} {F : Nat → Prop} {P : Program} {k : TypeId} {R : Value → Option (DataW Unit × List MemPlace)} {b n : Nat} {D : DataW Unit} (h : W.ownsMap P k R b n D) (hk : Kept F W W') (hF : ¬ F b) : W'.ownsMap P k R b n D := by
  have hlt := h.lt
  obtain ⟨es, clock, hb, F2, hs, hD⟩ := h
  exact ⟨es, clock, (hk.block b hlt hF).trans hb, F2, hs, hD⟩
/-- The law's counters: the last place, how many. -/
def OnceI (p1 p2 : Nat) (U : World) (pre : List (Nat × Wd Int)) (W : World) : Prop := Kept (fun j => j = p1 ∨ j = p2) U W ∧ Blk W p1 3 #[.int .i64 (lastP pre)] ∧ Blk W p2 3 #[.int .i64 (pre.length : Int)]
theorem onceI_own {p1 p2 : Nat} {U : World} {B : Nat} (hB : U.heap.size ≤ B) : OwnFrom B (fun s W => OnceI p1 p2 U s W) := fun s W W' row hs hg hr => by
  have same := cells_same hg (fun r e => (hr r e).2)
  exact ⟨hs.1.next (Kept.of_grown (F := fun j => U.heap.size ≤ j) hg (fun r e => by have := (hr r e).1; omega)) (fun k hk h => absurd h (by omega)), same _ _ hs.2.1 rfl, same _ _ hs.2.2 rfl⟩
theorem law52 : Keyed Tryd.prog 3 := int_keyed Tryd.underlying3
theorem zero52 (w : World) : (zeroValue 3).run Tryd.prog w = .ok (.int .i64 0) w := by kernel_rfl

theorem load_bool (w : World) (r : Nat) (x : Bool) (h : w.cell? ⟨r, 0, none⟩ = some (.bool x)) : (loadVar 4 ⟨r, 0, none⟩).run Tryd.prog w = .ok (.bool x) w := by
  have h2 : (Tryd.prog.underlying 4) = some .bool := Tryd.underlying4
  go_simp
/-- The law's answer stands in its variable. -/
theorem leaves_bool {W w : World} {r : Nat} {x : Bool} {tmps : Array Value} {R : Ending → World → Prop} (hb : Blk W r 4 #[.bool x]) (ht : tmps.getD 4 undef = .pointer (some ⟨r, 0, none⟩)) (hR : R (.returned (.bool x)) W) :
    ∃ v, (results Tryd.f4 tmps).run Tryd.prog W = .ok v W ∧ R (.returned v) W :=
  ⟨_, results_cell rfl tmps _ W ⟨r, 0, none⟩ (.bool x) ht (load_bool W r x (hb.cell 0)), hR⟩

theorem putI_yes (w : World) (S : Nat → Prop) (t b B : Nat) (V0 : List Vd) (W0 : List (Wd Int)) (h : TalI w S t b V0 W0) (m : Wm) (es er et : Addr) (hB : B ≤ w.heap.size) (hBb : B ≤ b) (he : ErrAt w B 10 es) (her : ErrAt w B 0 er) (het : ErrAt w B 16 et) :
    Calls Tryd.prog 11 #[.pointer (some ⟨t, 0, none⟩), .int .i64 m.key, .int .i64 m.who, .int .i64 m.thing] w fun e w' =>
      ((∃ a, e = .returned (.tuple #[.bool false, errV a]) ∧ yesP V0 W0 m = false ∧ stepW W0 m = W0) ∨ (∃ i, ∃ hi : i < W0.length, m.who = (i : Int) ∧ W0[i].said = false ∧ e = .returned (.tuple #[.bool (yesP V0 W0 m), .nilIface]) ∧ stepW W0 m = W0.set i ⟨true, m.key, m.thing⟩)) ∧ TalI w' S t b V0 (stepW W0 m) ∧ Kept (fun j => j = b) w w' :=
  (putI_is w S t b B V0 W0 h m.key m.who m.thing es er et hB hBb he her het).mono fun e w' hp => by
    have hl := h.2.2.2.1
    rcases hp with ⟨hr, rfl, hg⟩ | ⟨i, hi, hw, ⟨hs, rfl, hg⟩ | ⟨hs, rfl, hT, hK⟩⟩
    · obtain ⟨c1, c2⟩ := code_out (W := W0) (m := m) (by rw [hl]; exact hr)
      exact ⟨.inl ⟨er, rfl, by rw [yesP, c1]; rfl, c2⟩, by rw [c2]; exact h.grown hg, Kept.of_grown (F := fun j => j = b) hg fun _ e => by cases e⟩
    · obtain ⟨c1, c2⟩ := code_twice hi hw hs
      exact ⟨.inl ⟨et, rfl, by rw [yesP, c1]; rfl, c2⟩, by rw [c2]; exact h.grown hg, Kept.of_grown (F := fun j => j = b) hg fun _ e => by cases e⟩
    · obtain ⟨c1, c2⟩ := code_put hi hw hs
      exact ⟨.inr ⟨i, hi, hw, hs, by rw [yesP, if_pos c1, c2], c2⟩, by rw [c2]; exact hT, hK⟩

set_option maxRecDepth 100000 in
set_option maxHeartbeats 4000000 in
theorem once10_any (w : World) (A Aw : Option Addr) (c cw n : Nat) (V : List Vd) (ms : List Wm) (es er et : Addr) (hV : VdsAt w A V) (ok : keysOk V) (hn : ms.length = n) (hM : WmsAt w Aw ms) (hwf : ∀ m ∈ ms, (Lit.int .i64 m.thing).wf = true) (he : ErrAt w w.heap.size 10 es) (her : ErrAt w w.heap.size 0 er) (het : ErrAt w w.heap.size 16 et) :
    Calls Tryd.prog 4 #[.slice A V.length c, .slice Aw n cw] w fun e w' => e = .returned (.bool true) ∧ w.grownBy w' none := by
  have HE := Lib.hid (And.intro he (And.intro her het))
  have HV := Lib.hid (And.intro hV ok)
  have HM := Lib.hid (And.intro hn (And.intro hM hwf))
  clear he her het hV ok hM hn hwf
  obtain ⟨nv, hnv⟩ : ∃ nv, V.length = nv := ⟨_, rfl⟩
  rw [hnv]
  have HNV := Lib.hid hnv
  clear hnv
  have hmm := @run_makeMap Tryd.prog
  refine (callsIn_wide (n := 9)).1 ?_
  refine callsIn_of_wp_marks Tryd.func4 rfl trivial ?_ rfl
  simp only [Tryd.ntmps4, List.size_toArray, List.length_cons, List.length_nil, Nat.reduceAdd, Nat.reduceSub, Array.replicate_succ, Array.replicate_zero, List.push_toArray, List.append_toArray, List.nil_append, List.cons_append]
  obtain ⟨w0, hw0⟩ : ∃ w0, w.alloc (.cells #[.bool false] 4) = w0 := ⟨_, rfl⟩
  obtain ⟨r0, hr0⟩ : ∃ r0, w.heap.size = r0 := ⟨_, rfl⟩
  have g0 : w.grownBy w0 none := by rw [← hw0]; exact World.grownBy_alloc _ _ none
  have b0 : Blk w0 r0 4 #[.bool false] := by rw [← hw0, ← hr0]; exact Blk.new _ _ _
  have H0 := Lib.hid (And.intro g0 b0)
  have hB0 : w.heap.size ≤ w0.heap.size := g0.size
  clear g0 b0
  gi_wp2
  (try rw [hw0])
  (try rw [hr0])
  refine ⟨trivial, ?_⟩
  refine (callsIn_wide.2 (alive10_is w0 w.heap.size es er et hB0 (HE.out.1.grown H0.out.1 (by simp)) (HE.out.2.1.grown H0.out.1 (by simp)) (HE.out.2.2.grown H0.out.1 (by simp)))).mono ?_
  rintro e w1 ⟨rfl, k1⟩
  have K1 := Lib.hid (And.intro (grown_trans H0.out.1 k1) (H0.out.2.grown k1 (by simp)))
  clear k1 hw0
  have RES := Lib.hid hr0
  clear hr0
  by_cases h1 : 30 < nv
  · have d1 : decide ((30 : Int) < (nv : Int)) = true := by simp; omega
    have y0 := K1.out.2.cell 0
    have f0 := K1.out.2.frozen 0
    simp only [List.getElem?_toArray, List.getElem?_cons_zero] at y0
    gi_wp2
    exact ⟨_, results_cell rfl _ _ _ ⟨r0, 0, none⟩ (.bool true) rfl (load_bool _ _ _ ((K1.out.2.set 0 (.bool true)).cell 0)), rfl, grown_far K1.out.1 (.inl (by rw [RES.out]; exact Nat.le_refl _)) _⟩
  have d1 : decide ((30 : Int) < (nv : Int)) = false := by simp; omega
  by_cases h2 : 40 < n
  · have d2 : decide ((40 : Int) < (n : Int)) = true := by simp; omega
    have y0 := K1.out.2.cell 0
    have f0 := K1.out.2.frozen 0
    simp only [List.getElem?_toArray, List.getElem?_cons_zero] at y0
    gi_wp2
    exact ⟨_, results_cell rfl _ _ _ ⟨r0, 0, none⟩ (.bool true) rfl (load_bool _ _ _ ((K1.out.2.set 0 (.bool true)).cell 0)), rfl, grown_far K1.out.1 (.inl (by rw [RES.out]; exact Nat.le_refl _)) _⟩
  have d2 : decide ((40 : Int) < (n : Int)) = false := by simp; omega
  have hb30 : nv ≤ 30 ∧ n ≤ 40 := by omega
  clear h1 h2
  have y0 := K1.out.2.cell 0
  have f0 := K1.out.2.frozen 0
  simp only [List.getElem?_toArray, List.getElem?_cons_zero] at y0
  gi_wp2
  have hl30 : V.length < 1000 := by have := HNV.out; omega
  have HN1 := Lib.hid (newI_is w1 A c w.heap.size V es (HV.out.1.grown K1.out.1) HV.out.2 hl30 (HE.out.1.grown K1.out.1 (by simp)))
  rw [HNV.out] at HN1
  refine ⟨trivial, ?_⟩
  refine (callsIn_wide.2 HN1.out).mono ?_
  clear y0 f0
  rintro e w3 ⟨k3, ⟨hr, rfl⟩ | ⟨hr, t, b, rfl, hT⟩⟩
  · have K3 := Lib.hid (And.intro (grown_trans K1.out.1 k3) (K1.out.2.grown k3 (by simp)))
    have y0 := K3.out.2.cell 0
    have f0 := K3.out.2.frozen 0
    simp only [List.getElem?_toArray, List.getElem?_cons_zero] at y0
    clear k3 hr
    gi_wp2
    exact ⟨_, results_cell rfl _ _ _ ⟨r0, 0, none⟩ (.bool true) rfl (load_bool _ _ _ ((K3.out.2.set 0 (.bool true)).cell 0)), rfl, grown_far K3.out.1 (.inl (by rw [RES.out]; exact Nat.le_refl _)) _⟩
  obtain ⟨lo, hlo⟩ : ∃ lo, w1.heap.size = lo := ⟨_, rfl⟩
  obtain ⟨hi, hhi⟩ : ∃ hi, w3.heap.size = hi := ⟨_, rfl⟩
  have hne : V ≠ [] := by rintro rfl; have := (right_powers hr).2.1; simp at this
  have hv7 := (right_powers hr).1
  have hT3 := hT.mono (T := fun k => lo ≤ k ∧ k < hi) (fun k hk h => ⟨by have h : w1.heap.size ≤ k := h; omega, by omega⟩) hne
  have hw3 := grown_trans K1.out.1 k3
  obtain ⟨w5, hw5⟩ : ∃ w5, (w3.alloc (.map #[] 0)).alloc (.cells #[.map (some hi)] 52) = w5 := ⟨_, rfl⟩
  have gm := World.grownBy_alloc w3 (.map #[] 0) none
  have g5 : w3.grownBy w5 none := by rw [← hw5]; exact grown_trans gm (World.grownBy_alloc _ _ none)
  have b5 : Blk w5 (hi + 1) 52 #[.map (some hi)] := by
    have h := Blk.new (w3.alloc (.map #[] 0)) 52 #[.map (some hi)]
    rw [World.size_alloc, hhi, hw5] at h
    exact h
  have m5 : w5.ownsMap Tryd.prog 3 (plainElem (H := Unit) Tryd.prog 3) hi 0 (.map []) := by
    have h := (World.ownsMap_made (H := Unit) w3 Tryd.prog 3 (plainElem Tryd.prog 3)).alloc (.cells #[.map (some hi)] 52)
    rw [hhi, hw5] at h
    exact h
  have hrep : List.replicate V.length (⟨false, 0, 0⟩ : Wd Int) = List.replicate nv ⟨false, 0, 0⟩ := by rw [HNV.out]
  have hW0 : ∃ W : List (Wd Int), W.length = V.length ∧ Cnt V W 0 ∧ MapT (.map []) W ∧ TalI w5 (fun k => lo ≤ k ∧ k < hi) t b V W := ⟨_, by simp, cnt_start hr, mapT_start V.length, by rw [hrep]; exact hT3.grown g5⟩
  have H5 := Lib.hid (And.intro (grown_trans hw3 g5) (And.intro (K1.out.2.grown (grown_trans k3 g5) (by simp)) (And.intro b5 (And.intro m5 (And.intro hr (show w.heap.size ≤ lo ∧ lo ≤ b ∧ b < hi ∧ r0 < lo ∧ w.heap.size = r0 from ⟨by rw [← hlo]; exact K1.out.1.size, hT3.2.1.1, hT3.2.1.2, by rw [← hlo]; exact K1.out.2.lt, RES.out⟩))))))
  have HW0 := Lib.hid hW0
  clear k3 hr hT hlo hne hT3 hw3 gm g5 b5 m5 hW0 hrep hB0
  gi_wp2
  (try rw [hhi])
  (try rw [hw5])
  clear hw5 hhi
  gi_loopw [37, 8] (fun i v8 wr => ∃ k : Nat, k ≤ n ∧ i = .int .i64 (k : Int) ∧ ∃ (y : Nat) (W : List (Wd Int)) (D : DataW Unit), v8 = .int .i64 (y : Int) ∧ W.length = V.length ∧ Cnt V W y ∧ MapT D W ∧ TalI wr (fun k => lo ≤ k ∧ k < hi) t b V W ∧ wr.ownsMap Tryd.prog 3 (plainElem (H := Unit) Tryd.prog 3) hi k D ∧ Kept (fun j => w.heap.size ≤ j) w wr ∧ Blk wr r0 4 #[.bool false] ∧ Blk wr (hi + 1) 52 #[.map (some hi)]) (fun i _ _ => n - (intOf i).toNat)
  case atStart =>
    obtain ⟨W, q1, q2, q3, q4⟩ := HW0.out
    exact ⟨0, by omega, rfl, 0, W, .map [], rfl, q1, q2, q3, q4, H5.out.2.2.2.1, Kept.of_grown (F := fun j => w.heap.size ≤ j) H5.out.1 (fun _ e => by cases e), H5.out.2.1, H5.out.2.2.1⟩
  case round =>
    obtain ⟨k, hk, hi9, y, W9, D9, hy8, hWl, hC, hMT, hT, hmp, hK, hbr, hbm⟩ := hrel
    obtain ⟨J, hJ⟩ : ∃ J : Int, J = (k : Int) := ⟨_, rfl⟩
    rw [← hJ] at hi9
    subst hi9
    subst hy8
    by_cases hlt : k < n
    · have e3 : decide (J < (n : Int)) = true := by simp; omega
      have hkm : k < ms.length := by have := HM.out.1; omega
      obtain ⟨bw, ow, hAw, hcw⟩ := HM.out.2.1 (by rintro rfl; simp at hkm)
      subst hAw
      have hkJ : J.toNat = k := by omega
      have nof : ∀ {q : Addr} {v : Value}, w.cell? q = some v → ¬ (w.heap.size ≤ q.block) := fun h => by have := World.block_lt_of_cell? w _ h; omega
      have x0 := hK.cell (hcw k hkm 0 _ rfl) (nof (hcw k hkm 0 _ rfl))
      have x1 := hK.cell (hcw k hkm 1 _ rfl) (nof (hcw k hkm 1 _ rfl))
      have x2 := hK.cell (hcw k hkm 2 _ rfl) (nof (hcw k hkm 2 _ rfl))
      have hwf := HM.out.2.2 ms[k] (List.getElem_mem hkm)
      obtain ⟨⟨mk, mw, mt⟩, hm⟩ : ∃ m, ms[k] = m := ⟨_, rfl⟩
      simp only [hm, Nat.add_zero] at x0 x1 x2 hwf
      rw [← hkJ] at x0 x1 x2
      have hJ2 : 0 ≤ J ∧ J < (n : Int) := by omega
      obtain ⟨ga, hga⟩ : ∃ ga, wr.heap.size = ga := ⟨_, rfl⟩
      obtain ⟨W1, hW1⟩ : ∃ W1, wr.alloc (.cells #[.int .i64 mk, .int .i64 mw, .int .i64 mt] 36) = W1 := ⟨_, rfl⟩
      have hb1 : Blk W1 ga 36 #[.int .i64 mk, .int .i64 mw, .int .i64 mt] := by rw [← hW1, ← hga]; exact Blk.new _ _ _
      have hg1 : wr.grownBy W1 none := by rw [← hW1]; exact World.grownBy_alloc _ _ none
      have hK1 : Kept (fun j => w.heap.size ≤ j) w W1 := hK.next (Kept.of_grown (F := fun _ => False) hg1 fun _ e => by cases e) (fun _ _ h => h.elim)
      have hbel : Below w.heap.size w W1 := hK1.below (Nat.le_refl _) (fun _ h => h)
      have z0 := hb1.cell 0
      have z1 := hb1.cell 1
      have z2 := hb1.cell 2
      simp only [List.getElem?_toArray, List.getElem?_cons_zero, List.getElem?_cons_succ] at z0 z1 z2
      have hgaw : hi + 1 < ga := by rw [← hga]; exact hbm.lt
      have HP := Lib.hid (putI_yes W1 (fun k => lo ≤ k ∧ k < hi) t b w.heap.size V W9 (hT.grown hg1) ⟨mk, mw, mt⟩ es er et hK1.size (by have := H5.out.2.2.2.2.2; omega) (HE.out.1.below hbel (Nat.le_refl _)) (HE.out.2.1.below hbel (Nat.le_refl _)) (HE.out.2.2.below hbel (Nat.le_refl _)))
      have HJ := Lib.hid (And.intro hJ (And.intro hlt (And.intro hWl (And.intro (cnt_step H5.out.2.2.2.2.1 hWl hC ⟨mk, mw, mt⟩) (And.intro hMT (And.intro (hmp.kept hg1 (by simp)) (And.intro hK1 (And.intro (hbr.grown hg1 (by simp)) (And.intro (hbm.grown hg1 (by simp)) (And.intro hb1 (And.intro hwf (And.intro hk hC.le))))))))))))
      have hy1 := hC.le
      clear hJ hlt hWl hC hMT hT hmp hK hbr hbm hkJ hk hb1 hg1 hK1 hbel nof hcw hm hwf
      gi_upto_region 13 with fail
      (try rw [hW1])
      (try rw [hga])
      clear x0 x1 x2 hW1 hga
      gi_wp2
      refine ⟨trivial, ?_⟩
      refine (callsIn_wide.2 HP.out).mono ?_
      rintro e w5 ⟨hor, hT5, hk5⟩
      have hg5 : W1.grownBy w5 (some b) := ⟨hk5.os, hk5.tape, hk5.output, hk5.size, fun q h1 h2 => hk5.block q h1 (fun e => h2 (by rw [show q = b from e]))⟩
      have hK5 : Kept (fun j => w.heap.size ≤ j) w w5 := HJ.out.2.2.2.2.2.2.1.next hk5 (fun j _ h => by have h : j = b := h; have := H5.out.2.2.2.2.2; show w.heap.size ≤ j; omega)
      have hm5 := HJ.out.2.2.2.2.2.1.kept hg5 (by have := H5.out.2.2.2.2.2; intro e; injection e with e; omega)
      have hr5 := HJ.out.2.2.2.2.2.2.2.1.kept hk5 (fun h => by have h : r0 = b := h; have := H5.out.2.2.2.2.2; omega)
      have hb5 := HJ.out.2.2.2.2.2.2.2.2.1.kept hk5 (fun h => by have h : hi + 1 = b := h; have := H5.out.2.2.2.2.2; omega)
      have hx5 := HJ.out.2.2.2.2.2.2.2.2.2.1.kept hk5 (fun h => by have h : ga = b := h; have := H5.out.2.2.2.2.2; omega)
      have hlen5 : (stepW W9 ⟨mk, mw, mt⟩).length = V.length := by rw [stepW_length]; exact HJ.out.2.2.1
      have HS5 := Lib.hid (And.intro hT5 (And.intro hK5 (And.intro hm5 (And.intro hr5 (And.intro hb5 (And.intro hx5 hlen5))))))
      clear hT5 hk5 hg5 hK5 hm5 hr5 hb5 hx5 hlen5 z0 z1 z2
      rcases hor with ⟨ea, rfl, hy, hst⟩ | ⟨i7, hi7, hwi, hs7, rfl, hst⟩
      · have HY := Lib.hid (And.intro hy hst)
        clear hy hst
        gi_wp2
        go_roundw
        case rel =>
          have hc := HJ.out.2.2.2.1
          rw [HY.out.1] at hc
          refine ⟨k + 1, by have := HJ.out.2.1; omega, by rw [HJ.out.1]; rfl, y, stepW W9 ⟨mk, mw, mt⟩, D9, rfl, HS5.out.2.2.2.2.2.2, hc, by rw [HY.out.2]; exact HJ.out.2.2.2.2.1, HS5.out.1, HS5.out.2.2.1.mono (by omega), HS5.out.2.1, HS5.out.2.2.2.1, HS5.out.2.2.2.2.1⟩
        case measure => obtain ⟨hJ, hlt, _⟩ := HJ.out; simp [intOf]; omega
      · have hx5 := HS5.out.2.2.2.2.2.1
        have z1 := hx5.cell 1
        have z2 := hx5.cell 2
        have z4 := HS5.out.2.2.2.2.1.cell 0
        simp only [List.getElem?_toArray, List.getElem?_cons_zero, List.getElem?_cons_succ] at z1 z2 z4
        have hi9 : i7 < V.length := by have := HJ.out.2.2.1; omega
        have hmw : mw = (i7 : Int) := hwi
        have hwk : (Lit.int .i64 mw).wf = true := WalkArith.wf_i64 (by omega)
        have HY := Lib.hid (And.intro hst (And.intro hs7 (And.intro hmw (And.intro HJ.out.2.2.2.2.2.2.2.2.2.2.1 (And.intro hwk hi7)))))
        have hkm : k < maxLen := by have := HJ.out.2.1; unfold maxLen; omega
        obtain ⟨yv, hyv⟩ : ∃ yv, yesP V W9 ⟨mk, mw, mt⟩ = yv := ⟨_, rfl⟩
        rw [hyv]
        have HYV := Lib.hid hyv
        clear hx5 hi9 hst hs7 hwk hwi hmw hyv
        have hfin : ∀ w6, w6.ownsMap Tryd.prog 3 (plainElem (H := Unit) Tryd.prog 3) hi (k + 1) (D9.put (.int .i64 mw) (.lit (.int .i64 mt))) → w5.grownBy w6 (some hi) →
            (MapT (D9.put (.int .i64 mw) (.lit (.int .i64 mt))) (stepW W9 ⟨mk, mw, mt⟩) ∧ TalI w6 (fun k => lo ≤ k ∧ k < hi) t b V (stepW W9 ⟨mk, mw, mt⟩) ∧ Kept (fun j => w.heap.size ≤ j) w w6 ∧ Blk w6 r0 4 #[.bool false] ∧ Blk w6 (hi + 1) 52 #[.map (some hi)]) := fun w6 _ h2 => by
          have hk6 : Kept (fun j => j = hi) w5 w6 := Kept.of_grown (F := fun j => j = hi) h2 (fun j e => (Option.some.inj e).symm)
          have ht := HS5.out.2.2.1.tidy law52
          refine ⟨?_, HS5.out.1.kept hk6 (fun q h h3 => by have h : q = hi := h; have h3 : lo ≤ q ∧ q < hi := h3; omega), HS5.out.2.1.next hk6 (fun q _ h => by have h : q = hi := h; have := H5.out.2.2.2.2.2; show w.heap.size ≤ q; omega), HS5.out.2.2.2.1.kept hk6 (fun h => by have h : r0 = hi := h; have := H5.out.2.2.2.2.2; omega), HS5.out.2.2.2.2.1.kept hk6 (fun h => by have h : hi + 1 = hi := h; omega)⟩
          have hp := mapT_put ht HJ.out.2.2.2.2.1 HY.out.2.2.2.2.2 HY.out.2.1 mk mt
          rw [HY.out.1, HY.out.2.2.1]
          exact hp
        have HF := Lib.hid hfin
        clear hfin
        cases yv with
        | true =>
          gi_wp2_with (gi_at_mapUpdate; refine wpListIn_mapUpdate_own _ rfl _ _ _ 52 rfl 3 3 law52 Tryd.underlying52 (plainElem (H := Unit) Tryd.prog 3) hi k _ rfl HS5.out.2.2.1 hkm _ _ (.int .i64 mw) rfl rfl (keyOf_int_mk Tryd.underlying3 HY.out.2.2.2.2.1) _ [] (plainElem_int Tryd.underlying3 HY.out.2.2.2.1) ?_; intro w6 hown6 hgrow6)
          have H6 := Lib.hid (And.intro hown6 (HF.out w6 hown6 hgrow6))
          clear hown6 hgrow6 HF z1 z2 z4
          go_roundw
          case rel =>
            have hc := HJ.out.2.2.2.1
            rw [HYV.out] at hc
            exact ⟨k + 1, by have := HJ.out.2.1; omega, by rw [HJ.out.1]; rfl, y + 1, stepW W9 ⟨mk, mw, mt⟩, _, rfl, HS5.out.2.2.2.2.2.2, hc, H6.out.2.1, H6.out.2.2.1, H6.out.1, H6.out.2.2.2.1, H6.out.2.2.2.2.1, H6.out.2.2.2.2.2⟩
          case measure => obtain ⟨hJ, hlt, _⟩ := HJ.out; simp [intOf]; omega
        | false =>
          gi_wp2_with (gi_at_mapUpdate; refine wpListIn_mapUpdate_own _ rfl _ _ _ 52 rfl 3 3 law52 Tryd.underlying52 (plainElem (H := Unit) Tryd.prog 3) hi k _ rfl HS5.out.2.2.1 hkm _ _ (.int .i64 mw) rfl rfl (keyOf_int_mk Tryd.underlying3 HY.out.2.2.2.2.1) _ [] (plainElem_int Tryd.underlying3 HY.out.2.2.2.1) ?_; intro w6 hown6 hgrow6)
          have H6 := Lib.hid (And.intro hown6 (HF.out w6 hown6 hgrow6))
          clear hown6 hgrow6 HF z1 z2 z4
          go_roundw
          case rel =>
            have hc := HJ.out.2.2.2.1
            rw [HYV.out] at hc
            exact ⟨k + 1, by have := HJ.out.2.1; omega, by rw [HJ.out.1]; rfl, y, stepW W9 ⟨mk, mw, mt⟩, _, rfl, HS5.out.2.2.2.2.2.2, hc, H6.out.2.1, H6.out.2.2.1, H6.out.1, H6.out.2.2.2.1, H6.out.2.2.2.2.1, H6.out.2.2.2.2.2⟩
          case measure => obtain ⟨hJ, hlt, _⟩ := HJ.out; simp [intOf]; omega
    · have e3 : decide (J < (n : Int)) = false := by simp; omega
      obtain rfl : k = n := by omega
      obtain ⟨p1, hp1⟩ : ∃ p1, wr.heap.size = p1 := ⟨_, rfl⟩
      obtain ⟨Z0, hZ0⟩ : ∃ Z0, (wr.alloc (.cells #[.int .i64 0] 3)).alloc (.cells #[.int .i64 0] 3) = Z0 := ⟨_, rfl⟩
      have gZ : wr.grownBy Z0 none := by rw [← hZ0]; exact grown_trans (World.grownBy_alloc _ _ none) (World.grownBy_alloc _ _ none)
      have zZ : Z0.heap.size = p1 + 2 := by rw [← hZ0, ← hp1]; simp
      have b1 : Blk Z0 p1 3 #[.int .i64 0] := by rw [← hZ0, ← hp1]; exact (Blk.new wr _ _).alloc _
      have b2 : Blk Z0 (p1 + 1) 3 #[.int .i64 0] := by
        have h := Blk.new (wr.alloc (.cells #[.int .i64 0] 3)) 3 #[.int .i64 0]
        rw [World.size_alloc, hp1, hZ0] at h
        exact h
      have b3 := b1.set 0 (.int .i64 (-1))
      have b4 : Blk (Z0.setCell ⟨p1, 0, none⟩ (.int .i64 (-1))) (p1 + 1) 3 #[.int .i64 0] := b2.kept ((Kept.refl (fun j => j = p1) Z0).set (p := ⟨p1, 0, none⟩) (.inl rfl) _) (fun h => by have h : p1 + 1 = p1 := h; omega)
      have y1 := b1.cell 0
      have y2 := b4.cell 0
      have f1 := b1.frozen 0
      have f2 := b4.frozen 0
      simp only [List.getElem?_toArray, List.getElem?_cons_zero] at y1 y2
      obtain ⟨U0, hU0⟩ : ∃ U0, (Z0.setCell ⟨p1, 0, none⟩ (.int .i64 (-1))).setCell ⟨p1 + 1, 0, none⟩ (.int .i64 0) = U0 := ⟨_, rfl⟩
      obtain ⟨U, hU⟩ : ∃ U, U0.alloc (.cells #[.pointer (some ⟨t, 0, none⟩)] 25) = U := ⟨_, rfl⟩
      have gU0 : wr.grownBy U0 none := by rw [← hU0]; exact grown_far (grown_far gZ (.inl (by rw [← hp1]; exact Nat.le_refl _)) _) (.inl (by rw [← hp1]; exact Nat.le_succ _)) _
      have zU0 : U0.heap.size = p1 + 2 := by rw [← hU0]; simp [zZ]
      have gU : wr.grownBy U none := by rw [← hU]; exact grown_trans gU0 (World.grownBy_alloc _ _ none)
      have zU : U.heap.size = p1 + 3 := by rw [← hU]; simp [zU0]
      have bl0 : Blk U0 p1 3 #[.int .i64 (-1)] := by
        rw [← hU0]
        exact Blk.kept (by simpa using b3) ((Kept.refl (fun j => j = p1 + 1) _).set (p := ⟨p1 + 1, 0, none⟩) (.inl rfl) _) (fun h => by have h : p1 = p1 + 1 := h; omega)
      have bn0 : Blk U0 (p1 + 1) 3 #[.int .i64 0] := by rw [← hU0]; simpa using b4.set 0 (.int .i64 0)
      have ba : Blk U (p1 + 2) 25 #[.pointer (some ⟨t, 0, none⟩)] := by
        have h := Blk.new U0 25 #[.pointer (some ⟨t, 0, none⟩)]
        rw [hU, zU0] at h
        exact h
      have bl : Blk U p1 3 #[.int .i64 (-1)] := by rw [← hU]; exact bl0.alloc _
      have bn : Blk U (p1 + 1) 3 #[.int .i64 0] := by rw [← hU]; exact bn0.alloc _
      have hTU := hT.grown gU
      have hbT : b < p1 := by rw [← hp1]; exact Blk.lt hT.2.2.2.2.2.2.1
      have htT : t < p1 := by rw [← hp1]; exact World.block_lt_of_cell? wr _ hT.words
      have hrT : r0 < p1 := by rw [← hp1]; exact hbr.lt
      have hmT : hi + 1 < p1 := by rw [← hp1]; exact hbm.lt
      have hKU := hK.next (Kept.of_grown (F := fun _ => False) gU fun _ e => by cases e) (fun _ _ h => h.elim)
      have HU := Lib.hid (And.intro hTU (And.intro (hmp.kept gU (by simp)) (And.intro hKU (And.intro (hbr.grown gU (by simp)) (And.intro (hbm.grown gU (by simp)) (And.intro hC (And.intro hMT (And.intro hWl (And.intro zU (And.intro hbT (And.intro htT (And.intro hrT (And.intro hmT (show w.heap.size ≤ p1 by rw [← hp1]; exact hK.size))))))))))))))
      have HBA := Lib.hid (And.intro bl (And.intro bn ba))
      have h40 : k ≤ 40 := by omega
      have hy1 := hC.le
      clear hJ hlt hk hWl hC hMT hT hmp hK hbr hbm gU0 gU zU bl0 bn0 ba bl bn b1 b2 b3 b4 gZ zZ hTU hbT htT hrT hmT hKU
      gi_upto_region 20 with ((try rw [hp1]); (try rw [hZ0]); fail)
      (try rw [hp1])
      (try rw [hU0])
      gi_wp2
      refine ⟨trivial, ?_⟩
      refine (all_in _ _ _ _ rfl).mono ?_
      rintro e w7 ⟨rfl, rfl⟩
      gi_wp2
      (try rw [hU])
      (try rw [zU0])
      have hst : OnceI p1 (p1 + 1) U [] U := ⟨Kept.refl _ _, HBA.out.1, HBA.out.2.1⟩
      have hzU := HU.out.2.2.2.2.2.2.2.2.1
      have hWn : W9.length ≤ 1000 := by have := HU.out.2.2.2.2.2.2.2.1; omega
      clear hU zU0
      refine wpIn_rangeFunc_toldO rfl (by omega) (gf := 36) (lb := #[.pointer (some ⟨p1 + 2, 0, none⟩)]) rfl trivial (enters_of Tryd.func36 (by kernel_rfl) rfl)
        (all_seq 8 (by omega) (p1 + 2) t b V.length W9 HU.out.2.2.2.2.2.2.2.1 (by omega) U (by have := HU.out.2.2.2.2.2.2.2.2.2.2.1; omega) HU.out.1.words HU.out.1.2.2.2.2.2.2.1 HBA.out.2.2) (fun h1 h2 => KpA.trans h1 h2)
        (fun x X l o o' hl ho hc _ => KpA.put ho hc) PhiA.mono (Below.refl _ _) (fun _ => rfl)
        (fun pre X => OnceI p1 (p1 + 1) U pre X)
        (fun _ _ _ => False)
        (onceI_own (Nat.le_refl _))
        (fun _ s X X' row h _ _ => h)
        hst
        (fun pre x a' X => a' = { tmps := #[.slice A nv c, .slice Aw k cw, undef, undef, .pointer (some ⟨r0, 0, none⟩), .pointer (some ⟨t, 0, none⟩), .nilIface, .pointer (some ⟨hi + 1, 0, none⟩), .int .i64 (y : Int), undef, u10, u11, u12, .pointer (some ⟨p1, 0, none⟩), .pointer (some ⟨p1 + 1, 0, none⟩), .int .i64 (x.1 : Int), .int .i64 x.2.thing, .bool true, .bool false, .slice A nv c, .int .i64 (nv : Int), .bool false, .bool false, .slice Aw k cw, .int .i64 (k : Int), .bool false, .bool false, .tuple #[.pointer (some ⟨t, 0, none⟩), .nilIface], .slice A nv c, .tuple #[.pointer (some ⟨t, 0, none⟩), .nilIface], .pointer (some ⟨t, 0, none⟩), .nilIface, .nilIface, .bool false, .map (some hi), .slice Aw k cw, .int .i64 (k : Int), .int .i64 J, .bool false, u39, u40, u41, u42, u43, u44, u45, u46, u47, u48, u49, u50, u51, u52, u53, u54, u55, u56, u57, u58, u59, u60, u61, u62, .pointer (some ⟨t, 0, none⟩), .func (.func 36) #[] #[.pointer (some ⟨p1 + 2, 0, none⟩)], .int .i64 (x.1 : Int), .int .i64 x.2.thing, undef, undef, undef, undef, undef, undef, undef, undef, undef, undef, undef, undef, undef, undef, undef, undef, undef, undef, undef, undef, undef], defers := [] } ∧ PhiPI W9 pre x)
        (fun pre x a' => ownFrom_pure _) ?assign ?body ?done ?stop
      case assign =>
        rintro l pre x X K hI hphi hK9
        have HK := Lib.hid (hK9 _ X ((keeps_grown (World.grownBy.refl X none)).from _) (KpA.refl _) hI ⟨rfl, hphi⟩)
        clear hK9 hI hphi
        simp only [thE]
        gi_wp2
        exact HK.out
      case stop => rintro Dd c' pre X _ _ h; exact h.elim
      case body =>
        rintro l pre x a' X hl0 hl1 hI ⟨rfl, hphi⟩
        obtain ⟨kk, hkk, hpre, hx, hsd⟩ := hphi
        have hlt9 : lastP pre < (kk : Int) := by rw [hpre]; exact lastP_lt
        have hpl : pre.length ≤ 1000 := by rw [hpre]; exact Nat.le_trans (toldK_length_le _ _) (by omega)
        have hsn : lastP (pre ++ [x]) = (kk : Int) := by rw [lastP_snoc, hx]
        have hMTk := (HU.out.2.2.2.2.2.2.1.2 kk hkk).2 hsd
        have hkw : kk ≤ 1000 := by omega
        obtain ⟨th, hth⟩ : ∃ th, W9[kk].thing = th := ⟨_, rfl⟩
        obtain ⟨L, hL⟩ : ∃ L, lastP pre = L := ⟨_, rfl⟩
        obtain ⟨N, hN⟩ : ∃ N, pre.length = N := ⟨_, rfl⟩
        obtain ⟨I, hII⟩ : ∃ I : Int, (kk : Int) = I := ⟨_, rfl⟩
        have hx1 : ((x.1 : Nat) : Int) = I := by rw [hx, ← hII]
        have hx2 : x.2.thing = th := by rw [hx, ← hth]
        simp only [hx1, hx2]
        rw [hth] at hMTk
        rw [keyI, hII] at hMTk
        have hKX := hI.1
        have hmap := ownsMap_kept HU.out.2.1 hKX (fun h => by have h : hi = p1 ∨ hi = p1 + 1 := h; have := HU.out.2.2.2.2.2.2.2.2.2.2.2.2.1; omega)
        have hbm9 := HU.out.2.2.2.2.1.kept hKX (fun h => by have h : hi + 1 = p1 ∨ hi + 1 = p1 + 1 := h; have := HU.out.2.2.2.2.2.2.2.2.2.2.2.2.1; omega)
        have c13 := hI.2.1.cell 0
        have f13 := hI.2.1.frozen 0
        have c7 := hbm9.cell 0
        rw [hL] at c13
        have hb14 := hI.2.2
        rw [hN] at hb14
        have hs13 := hI.2.1.set 0 (.int .i64 I)
        have hb14' : Blk (X.setCell ⟨p1, 0, none⟩ (.int .i64 I)) (p1 + 1) 3 #[.int .i64 (N : Int)] := hb14.kept ((Kept.refl (fun j => j = p1) X).set (p := ⟨p1, 0, none⟩) (.inl rfl) _) (fun h => by have h : p1 + 1 = p1 := h; omega)
        have c14 := hb14'.cell 0
        have f14 := hb14'.frozen 0
        simp only [List.getElem?_toArray, List.getElem?_cons_zero] at c13 c7 c14
        have d1 : decide (I ≤ L) = false := by rw [← hL, ← hII]; simp; omega
        have hwk : (Lit.int .i64 I).wf = true := WalkArith.wf_i64 (by omega)
        have hKe : Kept (fun j => j = p1 ∨ j = p1 + 1) X ((X.setCell ⟨p1, 0, none⟩ (.int .i64 I)).setCell ⟨p1 + 1, 0, none⟩ (.int .i64 ((N : Int) + 1))) :=
          ((Kept.refl (fun j => j = p1 ∨ j = p1 + 1) X).set (p := ⟨p1, 0, none⟩) (.inl (.inl rfl)) _).set (p := ⟨p1 + 1, 0, none⟩) (.inl (.inr rfl)) _
        have hfin : OnceI p1 (p1 + 1) U (pre ++ [x]) ((X.setCell ⟨p1, 0, none⟩ (.int .i64 I)).setCell ⟨p1 + 1, 0, none⟩ (.int .i64 ((N : Int) + 1))) := by
          refine ⟨hKX.next hKe (fun _ _ h => h), ?_, ?_⟩
          · rw [hsn, hII]
            exact Blk.kept (by simpa using hs13) ((Kept.refl (fun j => j = p1 + 1) _).set (p := ⟨p1 + 1, 0, none⟩) (.inl rfl) _) (fun h => by have h : p1 = p1 + 1 := h; omega)
          · rw [List.length_append, hN, List.length_singleton]
            simpa using hb14'.set 0 (.int .i64 ((N : Int) + 1))
        have hkp : KpA U.heap.size b x X ((X.setCell ⟨p1, 0, none⟩ (.int .i64 I)).setCell ⟨p1 + 1, 0, none⟩ (.int .i64 ((N : Int) + 1))) :=
          KpA.of_kept hKe (fun j h => by have h : j = p1 ∨ j = p1 + 1 := h; have := HU.out.2.2.2.2.2.2.2.2.1; have := HU.out.2.2.2.2.2.2.2.2.2.1; omega)
        have HF := Lib.hid (And.intro hmap (And.intro hMTk (And.intro hwk (And.intro hfin hkp))))
        have hNN : N ≤ 1000 := by omega
        clear hlt9 hpl hsn hMTk hkw hth hL hN hII hx1 hx2 hKX hmap hbm9 hb14 hs13 hb14' hwk hKe hfin hkp hI hx hpre hsd
        gi_wp2_with (gi_at_lookup; refine wpListIn_lookup_int_w _ (by rfl) _ _ 52 rfl 3 3 .i64 law52 Tryd.underlying52 Tryd.underlying3 (zero52 _) hi k _ rfl HF.out.1 (.int .i64 I) (.int .i64 I) rfl (keyOf_int_mk Tryd.underlying3 HF.out.2.2.1) ?_; intro cc hat hwc; have hcc : cc = th := (by have h := (HF.out.2.1 _).symm.trans hat; injection h with h; injection h with _ h; exact h.symm); clear hat hwc; subst hcc)
        exact ⟨((KeepsOthers.setCell _ _ _).trans (KeepsOthers.setCell _ _ _)).from _, HF.out.2.2.2.2, HF.out.2.2.2.1⟩
      case done =>
        rintro Dd xs X hD hS hI hK9
        subst hS
        have hKX := hI.1
        have hmap := ownsMap_kept HU.out.2.1 hKX (fun h => by have h : hi = p1 ∨ hi = p1 + 1 := h; have := HU.out.2.2.2.2.2.2.2.2.2.2.2.2.1; omega)
        have hbm9 := HU.out.2.2.2.2.1.kept hKX (fun h => by have h : hi + 1 = p1 ∨ hi + 1 = p1 + 1 := h; have := HU.out.2.2.2.2.2.2.2.2.2.2.2.2.1; omega)
        have hbr9 := HU.out.2.2.2.1.kept hKX (fun h => by have h : r0 = p1 ∨ r0 = p1 + 1 := h; have := HU.out.2.2.2.2.2.2.2.2.2.2.2.1; omega)
        have c7 := hbm9.cell 0
        have c14 := hI.2.2.cell 0
        have c4 := hbr9.cell 0
        have f4 := hbr9.frozen 0
        have hsz := HU.out.2.2.2.2.2.2.1.1
        rw [← hsz] at c14
        simp only [List.getElem?_toArray, List.getElem?_cons_zero] at c7 c14 c4
        have hKr : Kept (fun j => j = r0) X (X.setCell ⟨r0, 0, none⟩ (.bool true)) := (Kept.refl (fun j => j = r0) X).set (p := ⟨r0, 0, none⟩) (.inl rfl) _
        have hbr0 : Blk (X.setCell ⟨r0, 0, none⟩ (.bool true)) r0 4 #[.bool true] := by simpa using hbr9.set 0 (.bool true)
        have hDr : Dd ≠ r0 := by have := HU.out.2.2.2.2.2.2.2.2.1; have := HU.out.2.2.2.2.2.2.2.2.2.2.2.1; omega
        have hDX : (X.setCell ⟨r0, 0, none⟩ (.bool true)).heap[Dd]? = some (.deferred (some [])) := (hKr.block Dd (Array.getElem?_eq_some_iff.1 hK9).1 (fun h => hDr h)).trans hK9
        have hall : Kept (fun j => w.heap.size ≤ j) w (X.setCell ⟨r0, 0, none⟩ (.bool true)) := (HU.out.2.2.1.next hKX (fun j _ h => by have h : j = p1 ∨ j = p1 + 1 := h; have := HU.out.2.2.2.2.2.2.2.2.2.2.2.2.2; show w.heap.size ≤ j; omega)).next hKr (fun j _ h => by have h : j = r0 := h; have := RES.out; show w.heap.size ≤ j; omega)
        have d1 : decide ((y : Int) ≤ 1) = true := by simp; omega
        have HF := Lib.hid (And.intro hmap (And.intro hbr0 (And.intro hDX (And.intro hall (And.intro hD hDr)))))
        obtain ⟨sz, hsz2⟩ : ∃ sz, Maps.size D9 = sz := ⟨_, rfl⟩
        rw [hsz2] at c14
        have HSZ := Lib.hid hsz2
        clear hKX hmap hbm9 hbr9 hsz hKr hbr0 hDX hall hD hI hK9 hsz2 hDr
        (try dsimp only)
        have hlen := HF.out.1.len Tryd.underlying52 3
        rw [HSZ.out] at hlen
        gi_wp2
        refine ⟨by simp, .inl ⟨_, _, rfl, run_takeDeferred HF.out.2.2.1, ?_⟩⟩
        have hp := Kept.of_grown (F := fun j => j = Dd) (grownBy_putObj' (X.setCell ⟨r0, 0, none⟩ (.bool true)) Dd (.deferred none)) (fun j e => (Option.some.inj e).symm)
        have hbe := HF.out.2.1.kept hp (fun h => HF.out.2.2.2.2.2 h.symm)
        exact ⟨_, results_cell rfl _ _ _ ⟨r0, 0, none⟩ (.bool true) rfl (load_bool _ _ _ (hbe.cell 0)), rfl, (HF.out.2.2.2.1.next hp (fun j _ h => by have h : j = Dd := h; have := HF.out.2.2.2.2.1; have := HU.out.2.2.2.2.2.2.2.2.1; have := HU.out.2.2.2.2.2.2.2.2.2.2.2.2.2; show w.heap.size ≤ j; omega)).grownNone (fun j h1 (h2 : w.heap.size ≤ j) => by omega)⟩
end Go.Proofs.YthcilpfcdblmkaaDoor
