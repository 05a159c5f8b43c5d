/-
  Proofs: a ground and what is asked of it, as far as no signature is asked.
-/
import Derived.Test.YtlokjbjpmhfkhaaDoorPwC
import Derived.Test.YtlokjbjpmhfkhaaDoorErr
import Derived.Test.YtlokjbjpmhfkhaaDoorNum
import Derived.Test.YtlokjbjpmhfkhaaDoorGrow
import Derived.Deep.DeepCutAuto
namespace Go.Proofs.YtlokjbjpmhfkhaaDoor
open Go.RowKit

def grC (e : Int) (vs : Value) (G : Array Value) : Array Value := #[.int .i64 e, vs] ++ G
def qcC (e r : Int) (B : Array Value) (vs : Value) : Array Value := #[.int .i64 e, .int .i64 r] ++ (B ++ #[vs])
def tcC (e r : Int) (vs : Value) : Array Value := #[.int .i64 e, .int .i64 r, vs]
theorem grC_size {e : Int} {vs : Value} {G : Array Value} (h : G.size = 16) : (grC e vs G).size = 18 := by simp [grC, h]
theorem qcC_size {e r : Int} {vs : Value} {B : Array Value} (h : B.size = 16) : (qcC e r B vs).size = 19 := by simp [qcC, h]
theorem info18 : (Tryd.prog.info? 34).map (·.size) = some 18 := by kernel_rfl
theorem info19 : (Tryd.prog.info? 39).map (·.size) = some 19 := by kernel_rfl
theorem info16p : (Tryd.prog.info? 32).map (·.size) = some 16 := by kernel_rfl
theorem range_blk {w : World} {g : Nat} {t : TypeId} {cs : Array Value} (h : Blk w g t cs) : w.rangeAt g 0 cs.toList := fun j v hv => by
  rw [Nat.zero_add, h.cell, ← Array.getElem?_toList]; exact hv
theorem range_part {w : World} {g o : Nat} {a b c : List Value} (h : w.rangeAt g o (a ++ (b ++ c))) : w.rangeAt g (o + a.length) b := fun j v hv => by
  have hj := (List.getElem?_eq_some_iff.1 hv).1
  have := h (a.length + j) v (by rw [List.getElem?_append_right (by omega), Nat.add_sub_cancel_left, List.getElem?_append_left hj]; exact hv)
  rwa [← Nat.add_assoc] at this
theorem gr_cells {w : World} {q : Nat} {t : TypeId} {e : Int} {vs : Value} {G : Array Value} (h : Blk w q t (grC e vs G)) :
    w.cell? ⟨q, 0, none⟩ = some (.int .i64 e) ∧ w.cell? ⟨q, 1, none⟩ = some vs ∧ w.rangeAt q 2 G.toList := by
  have r := range_blk h
  rw [show (grC e vs G).toList = [.int .i64 e, vs] ++ (G.toList ++ []) by simp [grC]] at r
  refine ⟨by have := r 0 _ rfl; simpa using this, by have := r 1 _ rfl; simpa using this, ?_⟩
  have := range_part r
  rwa [Nat.zero_add] at this
theorem qc_cells {w : World} {q : Nat} {t : TypeId} {e r : Int} {vs : Value} {B : Array Value} (hB : B.size = 16) (h : Blk w q t (qcC e r B vs)) :
    w.cell? ⟨q, 0, none⟩ = some (.int .i64 e) ∧ w.cell? ⟨q, 1, none⟩ = some (.int .i64 r) ∧ w.rangeAt q 2 B.toList ∧ w.cell? ⟨q, 18, none⟩ = some vs := by
  have r0 := range_blk h
  have e1 : (qcC e r B vs).toList = [.int .i64 e, .int .i64 r] ++ (B.toList ++ [vs]) := by simp [qcC]
  rw [e1] at r0
  refine ⟨by have := r0 0 _ rfl; simpa using this, by have := r0 1 _ rfl; simpa using this, ?_, ?_⟩
  · have := range_part r0
    rwa [Nat.zero_add] at this
  · have := r0 18 vs (by rw [List.getElem?_append_right (by simp), List.getElem?_append_right (by simp [hB])]; simp [hB])
    rwa [Nat.zero_add] at this
/-- The errors' numbers. -/
def beginN (V : List Vd) (e ep : Int) : Nat := if rightS V = false then 11 else if ep = e then 0 else 18
def turnN (V : List Vd) (e ep r : Int) : Nat := if beginN V e ep ≠ 0 then beginN V e ep else if r < 1 ∨ 1099511627776 < r then 14 else 0
def firstN (V : List Vd) (e qe : Int) (Bl Gl : List Int) (n2 : Nat) : Nat := if beginN V e qe ≠ 0 then beginN V e qe else if Bl = Gl ∧ n2 = 0 then 0 else 12
theorem evOf_pos (E : Nat → Addr) {k : Nat} (h : k ≠ 0) : ∃ a, evOf E k = errV a := by
  cases k with
  | zero => exact absurd rfl h
  | succ k => exact ⟨E k, rfl⟩
section
variable {B : Nat} {E : Nat → Addr} {e : Int} {A : Option Addr} {c : Nat} {V : List Vd} {Gl : List Int} {G : Array Value}
variable (w : World) (he : ErrEnv w B E) (hV : VdsAt w A V) (ok : keysOk V) (hl : V.length < 1000) (hG : G = arrV .u8 Gl) (hGl : Gl.length = 16) (gv : Array Value) (hgv : gv = grC e (.slice A V.length c) G)
include he hV ok hl hG hGl hgv
set_option maxRecDepth 100000 in
set_option maxHeartbeats 1000000 in
theorem begin_is (ep : Int) : Calls Tryd.prog 34 #[.agg gv, .int .i64 ep] w fun e' w' => e' = .returned (evOf E (beginN V e ep)) ∧ w.grownBy w' none := by
  obtain ⟨q, hq⟩ : ∃ q, w.heap.size = q := ⟨_, rfl⟩
  obtain ⟨w1, hw1⟩ : ∃ w1, w.alloc (.cells gv 34) = w1 := ⟨_, rfl⟩
  have g1 : w.grownBy w1 none := by rw [← hw1]; exact World.grownBy_alloc _ _ none
  have b1 : Blk w1 q 34 (grC e (.slice A V.length c) G) := by rw [← hw1, ← hq, ← hgv]; exact Blk.new _ _ _
  obtain ⟨x0, x1, _⟩ := gr_cells b1
  have HC := Lib.hid (check_is w1 A c B V (E 10) (fun hne => by
    obtain ⟨b, off, eA, hc⟩ := hV hne
    exact ⟨b, off, eA, fun k hk => range_kept (hc k hk) g1⟩) ok hl ((he.grown g1 (fun _ e => by cases e)).var 10 (by omega)))
  have HX := Lib.hid (And.intro he (And.intro g1 b1))
  have HW := Lib.hid (And.intro hw1 hq)
  obtain ⟨n, hn⟩ : ∃ n, V.length = n := ⟨_, rfl⟩
  rw [hn] at HC x1
  have hG2 := And.intro hG hGl
  clear hG2
  clear he hV ok hl hG hGl hgv g1 b1 hw1 hq hn
  go_enter Tryd.func34, Tryd.ntmps34
  go_upto_region 1 with (fail)
  rw [HW.out.1, HW.out.2]
  go_wp2_with fail
  refine HC.out.mono ?_
  clear HC
  rintro e' w2 ⟨g2, ⟨hr, rfl⟩ | ⟨hr, rfl⟩⟩
  · have g12 := grown_trans HX.out.2.1 g2
    obtain ⟨y0, y1, _⟩ := gr_cells (HX.out.2.2.grown g2 (by simp))
    by_cases hep : ep = e
    · have HN := Lib.hid (And.intro g12 (show beginN V e ep = 0 by rw [beginN, if_neg (by simp [hr]), if_pos hep]))
      have d1 : (ep == e) = true := by simp [hep]
      clear hep g2 g12 hr x0 x1
      go_wp2_with fail
      go_ret
      exact ⟨by rw [HN.out.2]; rfl, HN.out.1⟩
    · have HN := Lib.hid (And.intro g12 (show beginN V e ep = 18 by rw [beginN, if_neg (by simp [hr]), if_neg hep]))
      have d1 : (ep == e) = false := by simp [hep]
      have ve : w2.cell? ⟨17, 0, none⟩ = some (errV (E 17)) := ((HX.out.1.grown g12 (fun _ e => by cases e)).var 17 (by omega)).1
      clear hep g2 g12 hr x0 x1
      go_wp2_with fail
      go_ret
      exact ⟨by rw [HN.out.2]; rfl, HN.out.1⟩
  · have HN := Lib.hid (And.intro (grown_trans HX.out.2.1 g2) (show beginN V e ep = 11 by rw [beginN, if_pos hr]))
    clear g2 hr x0 x1
    go_wp2_with fail
    go_ret
    exact ⟨by rw [HN.out.2]; rfl, HN.out.1⟩
set_option maxRecDepth 100000 in
set_option maxHeartbeats 1000000 in
theorem turn_is (ep r : Int) : Calls Tryd.prog 22 #[.agg gv, .int .i64 ep, .int .i64 r] w fun e' w' => e' = .returned (evOf E (turnN V e ep r)) ∧ w.grownBy w' none := by
  obtain ⟨q, hq⟩ : ∃ q, w.heap.size = q := ⟨_, rfl⟩
  obtain ⟨w1, hw1⟩ : ∃ w1, w.alloc (.cells gv 34) = w1 := ⟨_, rfl⟩
  have g1 : w.grownBy w1 none := by rw [← hw1]; exact World.grownBy_alloc _ _ none
  have b1 : Blk w1 q 34 gv := by rw [← hw1, ← hq]; exact Blk.new _ _ _
  have hs : gv.size = 18 := by rw [hgv]; exact grC_size (by rw [hG, arr_size, hGl])
  have HC := Lib.hid (begin_is w1 (he.grown g1 (fun _ e => by cases e)) (fun hne => by
    obtain ⟨b, off, eA, hc⟩ := hV hne
    exact ⟨b, off, eA, fun k hk => range_kept (hc k hk) g1⟩) ok hl hG hGl gv hgv ep)
  have HX := Lib.hid (And.intro he (And.intro g1 (And.intro b1 hs)))
  have HW := Lib.hid (And.intro hw1 hq)
  clear he hV ok hl hG hGl hgv g1 b1 hs hw1 hq
  go_enter Tryd.func22, Tryd.ntmps22
  go_upto_region 1 with (fail)
  rw [HW.out.1, HW.out.2]
  go_wp2_with (first
    | (refine wpList_load_row rfl 34 _ rfl q rfl 34 gv (0, 0) _ HX.out.2.2.1 Tryd.underlying34 rfl (by rw [HX.out.2.2.2]; exact info18) ?_))
  refine HC.out.mono ?_
  clear HC
  rintro e' w2 ⟨rfl, g2⟩
  have HG := Lib.hid (grown_trans HX.out.2.1 g2)
  clear g2
  by_cases hb : beginN V e ep = 0
  · have hE : evOf E (beginN V e ep) = .nilIface := by rw [hb]; rfl
    rw [hE]
    by_cases hr : r < 1 ∨ 1099511627776 < r
    · have HN := Lib.hid (show turnN V e ep r = 14 by rw [turnN, if_neg (by simp [hb]), if_pos hr])
      have ve : w2.cell? ⟨13, 0, none⟩ = some (errV (E 13)) := ((HX.out.1.grown HG.out (fun _ e => by cases e)).var 13 (by omega)).1
      have dd : decide (r < 1) = true ∨ (decide (r < 1) = false ∧ decide (1099511627776 < r) = true) := by simp; omega
      clear hb hE hr
      rcases dd with d1 | ⟨d1, d2⟩
      · go_wp2_with fail
        go_ret
        exact ⟨by rw [HN.out]; rfl, HG.out⟩
      · go_wp2_with fail
        go_ret
        exact ⟨by rw [HN.out]; rfl, HG.out⟩
    · have HN := Lib.hid (show turnN V e ep r = 0 by rw [turnN, if_neg (by simp [hb]), if_neg hr])
      have d1 : decide (r < 1) = false := by simp; omega
      have d2 : decide (1099511627776 < r) = false := by simp; omega
      clear hb hE hr
      go_wp2_with fail
      go_ret
      exact ⟨by rw [HN.out]; rfl, HG.out⟩
  · obtain ⟨a, ha⟩ := evOf_pos E hb
    have HN := Lib.hid (And.intro (show turnN V e ep r = beginN V e ep by rw [turnN, if_pos hb]) ha)
    rw [ha]
    clear hb ha
    go_wp2_with fail
    go_ret
    exact ⟨by rw [HN.out.1, HN.out.2]; rfl, HG.out⟩
set_option maxRecDepth 100000 in
set_option maxHeartbeats 1000000 in
theorem first_is (qe qr : Int) (Bl : List Int) (hBl : Bl.length = 16) (Bv : Array Value) (hB : Bv = arrV .u8 Bl) (A2 : Option Addr) (n2 c2 : Nat) (qv : Array Value) (hqv : qv = qcC qe qr Bv (.slice A2 n2 c2)) :
    Calls Tryd.prog 21 #[.agg gv, .agg qv] w fun e' w' => e' = .returned (evOf E (firstN V e qe Bl Gl n2)) ∧ w.grownBy w' none := by
  obtain ⟨q, hq⟩ : ∃ q, w.heap.size = q := ⟨_, rfl⟩
  obtain ⟨w1, hw1⟩ : ∃ w1, (w.alloc (.cells gv 34)).alloc (.cells qv 39) = w1 := ⟨_, rfl⟩
  have g1 : w.grownBy w1 none := by rw [← hw1]; exact grown_trans (World.grownBy_alloc _ _ none) (World.grownBy_alloc _ _ none)
  have b1 : Blk w1 q 34 gv := by rw [← hw1, ← hq]; exact (Blk.new _ _ _).alloc _
  have b2 : Blk w1 (q + 1) 39 qv := by
    have h := Blk.new (w.alloc (.cells gv 34)) 39 qv
    rw [World.size_alloc, hq, hw1] at h
    exact h
  have hG16 : G.size = 16 := by rw [hG, arr_size, hGl]
  have hB16 : Bv.size = 16 := by rw [hB, arr_size, hBl]
  have hs : gv.size = 18 := by rw [hgv]; exact grC_size hG16
  have HC := Lib.hid (begin_is w1 (he.grown g1 (fun _ e => by cases e)) (fun hne => by
    obtain ⟨b, off, eA, hc⟩ := hV hne
    exact ⟨b, off, eA, fun k hk => range_kept (hc k hk) g1⟩) ok hl hG hGl gv hgv qe)
  have heq : ∀ V, Sem.run Tryd.prog (Op.equalIn 10000 32 (.agg Bv) (.agg G)) V = .ok (decide (Bl = Gl)) V := fun V => by
    rw [hB, hG]
    exact eq_arr V 9998 Tryd.underlying32 (by kernel_rfl) Tryd.underlying5 (by kernel_rfl) (by kernel_rfl) Bl Gl hBl hGl
  obtain ⟨x0, _, _, _⟩ := qc_cells hB16 (hqv ▸ b2)
  have HX := Lib.hid (And.intro he (And.intro g1 (And.intro b1 (And.intro hs (And.intro (show Blk w1 q 34 (grC e (.slice A V.length c) G) by rw [← hgv]; exact b1) (And.intro (show Blk w1 (q + 1) 39 (qcC qe qr Bv (.slice A2 n2 c2)) by rw [← hqv]; exact b2) (And.intro hG16 hB16)))))))
  have HQ := Lib.hid heq
  have HW := Lib.hid (And.intro hw1 hq)
  clear he hV ok hl hG hGl hgv g1 b1 b2 hs hw1 hq hBl hB hqv hG16 hB16 heq
  go_enter Tryd.func21, Tryd.ntmps21
  go_upto_region 1 with (fail)
  rw [HW.out.1, HW.out.2]
  go_wp2_with (first
    | (refine wpList_load_row rfl 34 _ rfl q rfl 34 gv (0, 0) _ HX.out.2.2.1 Tryd.underlying34 rfl (by rw [HX.out.2.2.2.1]; exact info18) ?_))
  refine HC.out.mono ?_
  clear HC x0
  rintro e' w2 ⟨rfl, g2⟩
  obtain ⟨_, _, rG⟩ := gr_cells (HX.out.2.2.2.2.1.grown g2 (by simp))
  obtain ⟨_, _, rB, y18⟩ := qc_cells HX.out.2.2.2.2.2.2.2 (HX.out.2.2.2.2.2.1.grown g2 (by simp))
  have HG := Lib.hid (And.intro (grown_trans HX.out.2.1 g2) (And.intro rG rB))
  clear g2 rG rB
  by_cases hb : beginN V e qe = 0
  · have hE : evOf E (beginN V e qe) = .nilIface := by rw [hb]; rfl
    rw [hE]
    have ve : w2.cell? ⟨11, 0, none⟩ = some (errV (E 11)) := ((HX.out.1.grown HG.out.1 (fun _ e => by cases e)).var 11 (by omega)).1
    have hq2 := HQ.out
    obtain ⟨r, hr⟩ : ∃ r, decide (Bl = Gl) = r := ⟨_, rfl⟩
    rw [hr] at hq2
    have HR := Lib.hid (And.intro hb hr)
    clear hb hE hr
    cases r with
    | false =>
      have HN := Lib.hid (show firstN V e qe Bl Gl n2 = 12 by
        have := HR.out.2
        rw [decide_eq_false_iff_not] at this
        rw [firstN, if_neg (by simp [HR.out.1]), if_neg (fun h => this h.1)])
      go_wp2_with (first
        | (refine wpList_load_mid rfl 32 _ rfl (q + 1) 2 rfl Bv.toList _ HG.out.2.2 Tryd.underlying32 rfl (by rw [Array.length_toList, HX.out.2.2.2.2.2.2.2]; exact info16p) ?_)
        | (refine wpList_load_mid rfl 32 _ rfl q 2 rfl G.toList _ HG.out.2.1 Tryd.underlying32 rfl (by rw [Array.length_toList, HX.out.2.2.2.2.2.2.1]; exact info16p) ?_))
      go_ret
      exact ⟨by rw [HN.out]; rfl, HG.out.1⟩
    | true =>
      by_cases hn2 : n2 = 0
      · have HN := Lib.hid (show firstN V e qe Bl Gl n2 = 0 by rw [firstN, if_neg (by simp [HR.out.1]), if_pos ⟨of_decide_eq_true HR.out.2, hn2⟩])
        have d1 : decide ((0 : Int) < (n2 : Int)) = false := by simp; omega
        have d2 : decide (0 < n2) = false := by simp; omega
        go_wp2_with (first
          | (refine wpList_load_mid rfl 32 _ rfl (q + 1) 2 rfl Bv.toList _ HG.out.2.2 Tryd.underlying32 rfl (by rw [Array.length_toList, HX.out.2.2.2.2.2.2.2]; exact info16p) ?_)
          | (refine wpList_load_mid rfl 32 _ rfl q 2 rfl G.toList _ HG.out.2.1 Tryd.underlying32 rfl (by rw [Array.length_toList, HX.out.2.2.2.2.2.2.1]; exact info16p) ?_))
        go_ret
        exact ⟨by rw [HN.out]; rfl, HG.out.1⟩
      · have HN := Lib.hid (show firstN V e qe Bl Gl n2 = 12 by rw [firstN, if_neg (by simp [HR.out.1]), if_neg (fun h => hn2 h.2)])
        have d1 : decide ((0 : Int) < (n2 : Int)) = true := by simp; omega
        have d2 : decide (0 < n2) = true := by simp; omega
        go_wp2_with (first
          | (refine wpList_load_mid rfl 32 _ rfl (q + 1) 2 rfl Bv.toList _ HG.out.2.2 Tryd.underlying32 rfl (by rw [Array.length_toList, HX.out.2.2.2.2.2.2.2]; exact info16p) ?_)
          | (refine wpList_load_mid rfl 32 _ rfl q 2 rfl G.toList _ HG.out.2.1 Tryd.underlying32 rfl (by rw [Array.length_toList, HX.out.2.2.2.2.2.2.1]; exact info16p) ?_))
        go_ret
        exact ⟨by rw [HN.out]; rfl, HG.out.1⟩
  · obtain ⟨a, ha⟩ := evOf_pos E hb
    have HN := Lib.hid (And.intro (show firstN V e qe Bl Gl n2 = beginN V e qe by rw [firstN, if_pos hb]) ha)
    rw [ha]
    clear hb ha
    go_wp2_with fail
    go_ret
    exact ⟨by rw [HN.out.1, HN.out.2]; rfl, HG.out.1⟩
end
end Go.Proofs.YtlokjbjpmhfkhaaDoor
