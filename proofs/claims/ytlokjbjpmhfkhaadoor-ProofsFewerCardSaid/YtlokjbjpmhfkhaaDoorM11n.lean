/-
  Several texts in one: Pf1, Pf2, ArgI.
-/
import Derived.Test.YtlokjbjpmhfkhaaDoorM11l
import Derived.Test.YtlokjbjpmhfkhaaDoorM11m
import Derived.Deep.DeepCutAuto
import Derived.Test.YtlokjbjpmhfkhaaDoorM11h
/-
  Proofs: a ground and what is asked of it, as far as no signature is asked.
-/
namespace Go.Proofs.YtlokjbjpmhfkhaaDoor
open Go.RowKit

def grC (e : Int) (vs : Value) (G : Array Value) : Array Value := #[.int .i64 e, vs] ++ G
def qcC (e r : Int) (B : Array Value) (vs : Value) : Array Value := #[.int .i64 e, .int .i64 r] ++ (B ++ #[vs])
def tcC (e r : Int) (vs : Value) : Array Value := #[.int .i64 e, .int .i64 r, vs]
theorem grC_size {e : Int} {vs : Value} {G : Array Value} (h : G.size = 16) : (grC e vs G).size = 18 := by simp [grC, h]
theorem qcC_size {e r : Int} {vs : Value} {B : Array Value} (h : B.size = 16) : (qcC e r B vs).size = 19 := by simp [qcC, h]
theorem info18 : (Tryd.prog.info? 34).map (·.size) = some 18 := by kernel_rfl
theorem info19 : (Tryd.prog.info? 39).map (·.size) = some 19 := by kernel_rfl
theorem info16g : (Tryd.prog.info? 32).map (·.size) = some 16 := by kernel_rfl
theorem range_blk {w : World} {g : Nat} {t : TypeId} {cs : Array Value} (h : Blk w g t cs) : w.rangeAt g 0 cs.toList := fun j v hv => by
  rw [Nat.zero_add, h.cell, ← Array.getElem?_toList]; exact hv
theorem range_part {w : World} {g o : Nat} {a b c : List Value} (h : w.rangeAt g o (a ++ (b ++ c))) : w.rangeAt g (o + a.length) b := fun j v hv => by
  have hj := (List.getElem?_eq_some_iff.1 hv).1
  have := h (a.length + j) v (by rw [List.getElem?_append_right (by omega), Nat.add_sub_cancel_left, List.getElem?_append_left hj]; exact hv)
  rwa [← Nat.add_assoc] at this
theorem gr_cells {w : World} {q : Nat} {t : TypeId} {e : Int} {vs : Value} {G : Array Value} (h : Blk w q t (grC e vs G)) :
    w.cell? ⟨q, 0, none⟩ = some (.int .i64 e) ∧ w.cell? ⟨q, 1, none⟩ = some vs ∧ w.rangeAt q 2 G.toList := by
  have r := range_blk h
  rw [show (grC e vs G).toList = [.int .i64 e, vs] ++ (G.toList ++ []) by simp [grC]] at r
  refine ⟨by have := r 0 _ rfl; simpa using this, by have := r 1 _ rfl; simpa using this, ?_⟩
  have := range_part r
  rwa [Nat.zero_add] at this
theorem qc_cells {w : World} {q : Nat} {t : TypeId} {e r : Int} {vs : Value} {B : Array Value} (hB : B.size = 16) (h : Blk w q t (qcC e r B vs)) :
    w.cell? ⟨q, 0, none⟩ = some (.int .i64 e) ∧ w.cell? ⟨q, 1, none⟩ = some (.int .i64 r) ∧ w.rangeAt q 2 B.toList ∧ w.cell? ⟨q, 18, none⟩ = some vs := by
  have r0 := range_blk h
  have e1 : (qcC e r B vs).toList = [.int .i64 e, .int .i64 r] ++ (B.toList ++ [vs]) := by simp [qcC]
  rw [e1] at r0
  refine ⟨by have := r0 0 _ rfl; simpa using this, by have := r0 1 _ rfl; simpa using this, ?_, ?_⟩
  · have := range_part r0
    rwa [Nat.zero_add] at this
  · have := r0 18 vs (by rw [List.getElem?_append_right (by simp), List.getElem?_append_right (by simp [hB])]; simp [hB])
    rwa [Nat.zero_add] at this
/-- The errors' numbers. -/
def beginN (V : List Vd) (e ep : Int) : Nat := if rightS V = false then 11 else if ep = e then 0 else 18
def turnN (V : List Vd) (e ep r : Int) : Nat := if beginN V e ep ≠ 0 then beginN V e ep else if r < 1 ∨ 1099511627776 < r then 14 else 0
def firstN (V : List Vd) (e qe : Int) (Bl Gl : List Int) (n2 : Nat) : Nat := if beginN V e qe ≠ 0 then beginN V e qe else if Bl = Gl ∧ n2 = 0 then 0 else 12
theorem evOf_pos (E : Nat → Addr) {k : Nat} (h : k ≠ 0) : ∃ a, evOf E k = errV a := by
  cases k with
  | zero => exact absurd rfl h
  | succ k => exact ⟨E k, rfl⟩
section
variable {B : Nat} {E : Nat → Addr} {e : Int} {A : Option Addr} {c : Nat} {V : List Vd} {Gl : List Int} {G : Array Value}
variable (w : World) (he : ErrEnv w B E) (hV : VdsAt w A V) (ok : keysOk V) (hl : V.length < 1000) (hG : G = arrV .u8 Gl) (hGl : Gl.length = 16) (gv : Array Value) (hgv : gv = grC e (.slice A V.length c) G)
include he hV ok hl hG hGl hgv
set_option maxRecDepth 100000 in
set_option maxHeartbeats 1000000 in
theorem begin_is (ep : Int) : Calls Tryd.prog 34 #[.agg gv, .int .i64 ep] w fun e' w' => e' = .returned (evOf E (beginN V e ep)) ∧ w.grownBy w' none := by
  obtain ⟨q, hq⟩ : ∃ q, w.heap.size = q := ⟨_, rfl⟩
  obtain ⟨w1, hw1⟩ : ∃ w1, w.alloc (.cells gv 34) = w1 := ⟨_, rfl⟩
  have g1 : w.grownBy w1 none := by rw [← hw1]; exact World.grownBy_alloc _ _ none
  have b1 : Blk w1 q 34 (grC e (.slice A V.length c) G) := by rw [← hw1, ← hq, ← hgv]; exact Blk.new _ _ _
  obtain ⟨x0, x1, _⟩ := gr_cells b1
  have HC := Lib.hid (check_is w1 A c B V (E 10) (fun hne => by
    obtain ⟨b, off, eA, hc⟩ := hV hne
    exact ⟨b, off, eA, fun k hk => range_kept (hc k hk) g1⟩) ok hl ((he.grown g1 (fun _ e => by cases e)).var 10 (by omega)))
  have HX := Lib.hid (And.intro he (And.intro g1 b1))
  have HW := Lib.hid (And.intro hw1 hq)
  obtain ⟨n, hn⟩ : ∃ n, V.length = n := ⟨_, rfl⟩
  rw [hn] at HC x1
  have hG2 := And.intro hG hGl
  clear hG2
  clear he hV ok hl hG hGl hgv g1 b1 hw1 hq hn
  go_enter Tryd.func34, Tryd.ntmps34
  go_upto_region 1 with (fail)
  rw [HW.out.1, HW.out.2]
  go_wp2_with fail
  refine HC.out.mono ?_
  clear HC
  rintro e' w2 ⟨g2, ⟨hr, rfl⟩ | ⟨hr, rfl⟩⟩
  · have g12 := grown_trans HX.out.2.1 g2
    obtain ⟨y0, y1, _⟩ := gr_cells (HX.out.2.2.grown g2 (by simp))
    by_cases hep : ep = e
    · have HN := Lib.hid (And.intro g12 (show beginN V e ep = 0 by rw [beginN, if_neg (by simp [hr]), if_pos hep]))
      have d1 : (ep == e) = true := by simp [hep]
      clear hep g2 g12 hr x0 x1
      go_wp2_with fail
      go_ret
      exact ⟨by rw [HN.out.2]; rfl, HN.out.1⟩
    · have HN := Lib.hid (And.intro g12 (show beginN V e ep = 18 by rw [beginN, if_neg (by simp [hr]), if_neg hep]))
      have d1 : (ep == e) = false := by simp [hep]
      have ve : w2.cell? ⟨17, 0, none⟩ = some (errV (E 17)) := ((HX.out.1.grown g12 (fun _ e => by cases e)).var 17 (by omega)).1
      clear hep g2 g12 hr x0 x1
      go_wp2_with fail
      go_ret
      exact ⟨by rw [HN.out.2]; rfl, HN.out.1⟩
  · have HN := Lib.hid (And.intro (grown_trans HX.out.2.1 g2) (show beginN V e ep = 11 by rw [beginN, if_pos hr]))
    clear g2 hr x0 x1
    go_wp2_with fail
    go_ret
    exact ⟨by rw [HN.out.2]; rfl, HN.out.1⟩
set_option maxRecDepth 100000 in
set_option maxHeartbeats 1000000 in
theorem turn_is (ep r : Int) : Calls Tryd.prog 22 #[.agg gv, .int .i64 ep, .int .i64 r] w fun e' w' => e' = .returned (evOf E (turnN V e ep r)) ∧ w.grownBy w' none := by
  obtain ⟨q, hq⟩ : ∃ q, w.heap.size = q := ⟨_, rfl⟩
  obtain ⟨w1, hw1⟩ : ∃ w1, w.alloc (.cells gv 34) = w1 := ⟨_, rfl⟩
  have g1 : w.grownBy w1 none := by rw [← hw1]; exact World.grownBy_alloc _ _ none
  have b1 : Blk w1 q 34 gv := by rw [← hw1, ← hq]; exact Blk.new _ _ _
  have hs : gv.size = 18 := by rw [hgv]; exact grC_size (by rw [hG, arr_size, hGl])
  have HC := Lib.hid (begin_is w1 (he.grown g1 (fun _ e => by cases e)) (fun hne => by
    obtain ⟨b, off, eA, hc⟩ := hV hne
    exact ⟨b, off, eA, fun k hk => range_kept (hc k hk) g1⟩) ok hl hG hGl gv hgv ep)
  have HX := Lib.hid (And.intro he (And.intro g1 (And.intro b1 hs)))
  have HW := Lib.hid (And.intro hw1 hq)
  clear he hV ok hl hG hGl hgv g1 b1 hs hw1 hq
  go_enter Tryd.func22, Tryd.ntmps22
  go_upto_region 1 with (fail)
  rw [HW.out.1, HW.out.2]
  go_wp2_with (first
    | (refine wpList_load_row rfl 34 _ rfl q rfl 34 gv (0, 0) _ HX.out.2.2.1 Tryd.underlying34 rfl (by rw [HX.out.2.2.2]; exact info18) ?_))
  refine HC.out.mono ?_
  clear HC
  rintro e' w2 ⟨rfl, g2⟩
  have HG := Lib.hid (grown_trans HX.out.2.1 g2)
  clear g2
  by_cases hb : beginN V e ep = 0
  · have hE : evOf E (beginN V e ep) = .nilIface := by rw [hb]; rfl
    rw [hE]
    by_cases hr : r < 1 ∨ 1099511627776 < r
    · have HN := Lib.hid (show turnN V e ep r = 14 by rw [turnN, if_neg (by simp [hb]), if_pos hr])
      have ve : w2.cell? ⟨13, 0, none⟩ = some (errV (E 13)) := ((HX.out.1.grown HG.out (fun _ e => by cases e)).var 13 (by omega)).1
      have dd : decide (r < 1) = true ∨ (decide (r < 1) = false ∧ decide (1099511627776 < r) = true) := by simp; omega
      clear hb hE hr
      rcases dd with d1 | ⟨d1, d2⟩
      · go_wp2_with fail
        go_ret
        exact ⟨by rw [HN.out]; rfl, HG.out⟩
      · go_wp2_with fail
        go_ret
        exact ⟨by rw [HN.out]; rfl, HG.out⟩
    · have HN := Lib.hid (show turnN V e ep r = 0 by rw [turnN, if_neg (by simp [hb]), if_neg hr])
      have d1 : decide (r < 1) = false := by simp; omega
      have d2 : decide (1099511627776 < r) = false := by simp; omega
      clear hb hE hr
      go_wp2_with fail
      go_ret
      exact ⟨by rw [HN.out]; rfl, HG.out⟩
  · obtain ⟨a, ha⟩ := evOf_pos E hb
    have HN := Lib.hid (And.intro (show turnN V e ep r = beginN V e ep by rw [turnN, if_pos hb]) ha)
    rw [ha]
    clear hb ha
    go_wp2_with fail
    go_ret
    exact ⟨by rw [HN.out.1, HN.out.2]; rfl, HG.out⟩
set_option maxRecDepth 100000 in
set_option maxHeartbeats 1000000 in
theorem first_is (qe qr : Int) (Bl : List Int) (hBl : Bl.length = 16) (Bv : Array Value) (hB : Bv = arrV .u8 Bl) (A2 : Option Addr) (n2 c2 : Nat) (qv : Array Value) (hqv : qv = qcC qe qr Bv (.slice A2 n2 c2)) :
    Calls Tryd.prog 21 #[.agg gv, .agg qv] w fun e' w' => e' = .returned (evOf E (firstN V e qe Bl Gl n2)) ∧ w.grownBy w' none := by
  obtain ⟨q, hq⟩ : ∃ q, w.heap.size = q := ⟨_, rfl⟩
  obtain ⟨w1, hw1⟩ : ∃ w1, (w.alloc (.cells gv 34)).alloc (.cells qv 39) = w1 := ⟨_, rfl⟩
  have g1 : w.grownBy w1 none := by rw [← hw1]; exact grown_trans (World.grownBy_alloc _ _ none) (World.grownBy_alloc _ _ none)
  have b1 : Blk w1 q 34 gv := by rw [← hw1, ← hq]; exact (Blk.new _ _ _).alloc _
  have b2 : Blk w1 (q + 1) 39 qv := by
    have h := Blk.new (w.alloc (.cells gv 34)) 39 qv
    rw [World.size_alloc, hq, hw1] at h
    exact h
  have hG16 : G.size = 16 := by rw [hG, arr_size, hGl]
  have hB16 : Bv.size = 16 := by rw [hB, arr_size, hBl]
  have hs : gv.size = 18 := by rw [hgv]; exact grC_size hG16
  have HC := Lib.hid (begin_is w1 (he.grown g1 (fun _ e => by cases e)) (fun hne => by
    obtain ⟨b, off, eA, hc⟩ := hV hne
    exact ⟨b, off, eA, fun k hk => range_kept (hc k hk) g1⟩) ok hl hG hGl gv hgv qe)
  have heq : ∀ V, Sem.run Tryd.prog (Op.equalIn 10000 32 (.agg Bv) (.agg G)) V = .ok (decide (Bl = Gl)) V := fun V => by
    rw [hB, hG]
    exact eq_arr V 9998 Tryd.underlying32 (by kernel_rfl) Tryd.underlying5 (by kernel_rfl) (by kernel_rfl) Bl Gl hBl hGl
  obtain ⟨x0, _, _, _⟩ := qc_cells hB16 (hqv ▸ b2)
  have HX := Lib.hid (And.intro he (And.intro g1 (And.intro b1 (And.intro hs (And.intro (show Blk w1 q 34 (grC e (.slice A V.length c) G) by rw [← hgv]; exact b1) (And.intro (show Blk w1 (q + 1) 39 (qcC qe qr Bv (.slice A2 n2 c2)) by rw [← hqv]; exact b2) (And.intro hG16 hB16)))))))
  have HQ := Lib.hid heq
  have HW := Lib.hid (And.intro hw1 hq)
  clear he hV ok hl hG hGl hgv g1 b1 b2 hs hw1 hq hBl hB hqv hG16 hB16 heq
  go_enter Tryd.func21, Tryd.ntmps21
  go_upto_region 1 with (fail)
  rw [HW.out.1, HW.out.2]
  go_wp2_with (first
    | (refine wpList_load_row rfl 34 _ rfl q rfl 34 gv (0, 0) _ HX.out.2.2.1 Tryd.underlying34 rfl (by rw [HX.out.2.2.2.1]; exact info18) ?_))
  refine HC.out.mono ?_
  clear HC x0
  rintro e' w2 ⟨rfl, g2⟩
  obtain ⟨_, _, rG⟩ := gr_cells (HX.out.2.2.2.2.1.grown g2 (by simp))
  obtain ⟨_, _, rB, y18⟩ := qc_cells HX.out.2.2.2.2.2.2.2 (HX.out.2.2.2.2.2.1.grown g2 (by simp))
  have HG := Lib.hid (And.intro (grown_trans HX.out.2.1 g2) (And.intro rG rB))
  clear g2 rG rB
  by_cases hb : beginN V e qe = 0
  · have hE : evOf E (beginN V e qe) = .nilIface := by rw [hb]; rfl
    rw [hE]
    have ve : w2.cell? ⟨11, 0, none⟩ = some (errV (E 11)) := ((HX.out.1.grown HG.out.1 (fun _ e => by cases e)).var 11 (by omega)).1
    have hq2 := HQ.out
    obtain ⟨r, hr⟩ : ∃ r, decide (Bl = Gl) = r := ⟨_, rfl⟩
    rw [hr] at hq2
    have HR := Lib.hid (And.intro hb hr)
    clear hb hE hr
    cases r with
    | false =>
      have HN := Lib.hid (show firstN V e qe Bl Gl n2 = 12 by
        have := HR.out.2
        rw [decide_eq_false_iff_not] at this
        rw [firstN, if_neg (by simp [HR.out.1]), if_neg (fun h => this h.1)])
      go_wp2_with (first
        | (refine wpList_load_mid rfl 32 _ rfl (q + 1) 2 rfl Bv.toList _ HG.out.2.2 Tryd.underlying32 rfl (by rw [Array.length_toList, HX.out.2.2.2.2.2.2.2]; exact info16g) ?_)
        | (refine wpList_load_mid rfl 32 _ rfl q 2 rfl G.toList _ HG.out.2.1 Tryd.underlying32 rfl (by rw [Array.length_toList, HX.out.2.2.2.2.2.2.1]; exact info16g) ?_))
      go_ret
      exact ⟨by rw [HN.out]; rfl, HG.out.1⟩
    | true =>
      by_cases hn2 : n2 = 0
      · have HN := Lib.hid (show firstN V e qe Bl Gl n2 = 0 by rw [firstN, if_neg (by simp [HR.out.1]), if_pos ⟨of_decide_eq_true HR.out.2, hn2⟩])
        have d1 : decide ((0 : Int) < (n2 : Int)) = false := by simp; omega
        have d2 : decide (0 < n2) = false := by simp; omega
        go_wp2_with (first
          | (refine wpList_load_mid rfl 32 _ rfl (q + 1) 2 rfl Bv.toList _ HG.out.2.2 Tryd.underlying32 rfl (by rw [Array.length_toList, HX.out.2.2.2.2.2.2.2]; exact info16g) ?_)
          | (refine wpList_load_mid rfl 32 _ rfl q 2 rfl G.toList _ HG.out.2.1 Tryd.underlying32 rfl (by rw [Array.length_toList, HX.out.2.2.2.2.2.2.1]; exact info16g) ?_))
        go_ret
        exact ⟨by rw [HN.out]; rfl, HG.out.1⟩
      · have HN := Lib.hid (show firstN V e qe Bl Gl n2 = 12 by rw [firstN, if_neg (by simp [HR.out.1]), if_neg (fun h => hn2 h.2)])
        have d1 : decide ((0 : Int) < (n2 : Int)) = true := by simp; omega
        have d2 : decide (0 < n2) = true := by simp; omega
        go_wp2_with (first
          | (refine wpList_load_mid rfl 32 _ rfl (q + 1) 2 rfl Bv.toList _ HG.out.2.2 Tryd.underlying32 rfl (by rw [Array.length_toList, HX.out.2.2.2.2.2.2.2]; exact info16g) ?_)
          | (refine wpList_load_mid rfl 32 _ rfl q 2 rfl G.toList _ HG.out.2.1 Tryd.underlying32 rfl (by rw [Array.length_toList, HX.out.2.2.2.2.2.2.1]; exact info16g) ?_))
        go_ret
        exact ⟨by rw [HN.out]; rfl, HG.out.1⟩
  · obtain ⟨a, ha⟩ := evOf_pos E hb
    have HN := Lib.hid (And.intro (show firstN V e qe Bl Gl n2 = beginN V e qe by rw [firstN, if_pos hb]) ha)
    rw [ha]
    clear hb ha
    go_wp2_with fail
    go_ret
    exact ⟨by rw [HN.out.1, HN.out.2]; rfl, HG.out.1⟩
end
end Go.Proofs.YtlokjbjpmhfkhaaDoor
/-
  Proofs: a 39 of round 0; a timeout that comes from nowhere.
-/

namespace Go.Proofs.YtlokjbjpmhfkhaaDoor
open Go.RowKit

theorem info3t : (Tryd.prog.info? 42).map (·.size) = some 3 := by kernel_rfl
theorem info28 : (Tryd.prog.info? 58).map (·.size) = some 28 := by kernel_rfl
theorem tc_cells {w : World} {q o : Nat} {e r : Int} {vs : Value} (h : w.rangeAt q o (tcC e r vs).toList) : w.cell? ⟨q, o, none⟩ = some (.int .i64 e) ∧ w.cell? ⟨q, o + 1, none⟩ = some (.int .i64 r) ∧ w.cell? ⟨q, o + 2, none⟩ = some vs := ⟨h 0 _ rfl, h 1 _ rfl, h 2 _ rfl⟩
/-- A timeout's cells: its epoch and round, its 39, its 42, who. -/
def toC (e r : Int) (q t f : Array Value) : Array Value := #[.int .i64 e, .int .i64 r] ++ (q ++ (t ++ f))
theorem to_cells {w : World} {g : Nat} {t0 : TypeId} {e r : Int} {q t f : Array Value} (hq : q.size = 19) (h : Blk w g t0 (toC e r q t f)) :
    w.cell? ⟨g, 0, none⟩ = some (.int .i64 e) ∧ w.cell? ⟨g, 1, none⟩ = some (.int .i64 r) ∧ w.rangeAt g 2 q.toList ∧ w.rangeAt g 21 t.toList := by
  have r0 := range_blk h
  have e1 : (toC e r q t f).toList = [.int .i64 e, .int .i64 r] ++ (q.toList ++ (t.toList ++ f.toList)) := by simp [toC]
  rw [e1] at r0
  refine ⟨by have := r0 0 _ rfl; simpa using this, by have := r0 1 _ rfl; simpa using this, ?_, ?_⟩
  · have := range_part r0
    rwa [Nat.zero_add] at this
  · have r1 : w.rangeAt g 0 (([.int .i64 e, .int .i64 r] ++ q.toList) ++ (t.toList ++ f.toList)) := by rw [List.append_assoc]; exact r0
    have := range_part r1
    rwa [Nat.zero_add, show ([Value.int .i64 e, .int .i64 r] ++ q.toList).length = 21 by simp [hq]] at this
def toN (V : List Vd) (e : Int) (Bl Gl : List Int) (n2 : Nat) (te tr : Int) : Nat := if turnN V e e 2 ≠ 0 then turnN V e e 2 else if firstN V e e Bl Gl n2 ≠ 0 then firstN V e e Bl Gl n2 else turnN V e te tr
section
variable {B : Nat} {E : Nat → Addr} {e : Int} {A : Option Addr} {c : Nat} {V : List Vd} {Gl : List Int} {G : Array Value}
variable (w : World) (he : ErrEnv w B E) (hV : VdsAt w A V) (ok : keysOk V) (hl : V.length < 1000) (hG : G = arrV .u8 Gl) (hGl : Gl.length = 16) (gv : Array Value) (hgv : gv = grC e (.slice A V.length c) G)
include he hV ok hl hG hGl hgv
set_option maxRecDepth 100000 in
set_option maxHeartbeats 1000000 in
theorem qc0_is (qe : Int) (Bl : List Int) (hBl : Bl.length = 16) (Bv : Array Value) (hB : Bv = arrV .u8 Bl) (A2 : Option Addr) (n2 c2 : Nat) (qv : Array Value) (hqv : qv = qcC qe 0 Bv (.slice A2 n2 c2)) :
    Calls Tryd.prog 12 #[.agg gv, .agg qv] w fun e' w' => e' = .returned (evOf E (firstN V e qe Bl Gl n2)) ∧ w.grownBy w' none := by
  obtain ⟨q, hq⟩ : ∃ q, w.heap.size = q := ⟨_, rfl⟩
  obtain ⟨w1, hw1⟩ : ∃ w1, (w.alloc (.cells gv 34)).alloc (.cells qv 39) = w1 := ⟨_, rfl⟩
  have g1 : w.grownBy w1 none := by rw [← hw1]; exact grown_trans (World.grownBy_alloc _ _ none) (World.grownBy_alloc _ _ none)
  have b1 : Blk w1 q 34 gv := by rw [← hw1, ← hq]; exact (Blk.new _ _ _).alloc _
  have b2 : Blk w1 (q + 1) 39 qv := by
    have h := Blk.new (w.alloc (.cells gv 34)) 39 qv
    rw [World.size_alloc, hq, hw1] at h
    exact h
  have hs : gv.size = 18 := by rw [hgv]; exact grC_size (by rw [hG, arr_size, hGl])
  have hB16 : Bv.size = 16 := by rw [hB, arr_size, hBl]
  have hs2 : qv.size = 19 := by rw [hqv]; exact qcC_size hB16
  have HC := Lib.hid (first_is w1 (he.grown g1 (fun _ e => by cases e)) (fun hne => by
    obtain ⟨b, off, eA, hc⟩ := hV hne
    exact ⟨b, off, eA, fun k hk => range_kept (hc k hk) g1⟩) ok hl hG hGl gv hgv qe 0 Bl hBl Bv hB A2 n2 c2 qv hqv)
  obtain ⟨_, x1, _, _⟩ := qc_cells hB16 (hqv ▸ b2)
  have HX := Lib.hid (And.intro g1 (And.intro b1 (And.intro hs (And.intro b2 hs2))))
  have HW := Lib.hid (And.intro hw1 hq)
  clear he hV ok hl hG hGl hgv g1 b1 b2 hs hs2 hw1 hq hBl hB hqv hB16
  go_enter Tryd.func12, Tryd.ntmps12
  go_upto_region 1 with (fail)
  rw [HW.out.1, HW.out.2]
  go_wp2_with (first
    | (refine wpList_load_row rfl 34 _ rfl q rfl 34 gv (0, 0) _ HX.out.2.1 Tryd.underlying34 rfl (by rw [HX.out.2.2.1]; exact info18) ?_)
    | (refine wpList_load_row rfl 39 _ rfl (q + 1) rfl 39 qv (0, 0) _ HX.out.2.2.2.1 Tryd.underlying39 rfl (by rw [HX.out.2.2.2.2]; exact info19) ?_))
  refine HC.out.mono ?_
  clear HC
  rintro e' w2 ⟨rfl, g2⟩
  obtain ⟨R, hR⟩ : ∃ R, evOf E (firstN V e qe Bl Gl n2) = R := ⟨_, rfl⟩
  rw [hR]
  have HG := Lib.hid (And.intro (grown_trans HX.out.1 g2) hR)
  clear g2 hR
  go_wp2_with fail
  go_ret
  exact ⟨by rw [HG.out.2]; rfl, HG.out.1⟩
set_option maxRecDepth 100000 in
set_option maxHeartbeats 1000000 in
theorem tc_bad (te tr : Int) (vs : Value) (hbad : turnN V e te tr ≠ 0) (tv : Array Value) (htv : tv = tcC te tr vs) :
    Calls Tryd.prog 40 #[.agg gv, .agg tv] w fun e' w' => e' = .returned (evOf E (turnN V e te tr)) ∧ w.grownBy w' none := by
  obtain ⟨q, hq⟩ : ∃ q, w.heap.size = q := ⟨_, rfl⟩
  obtain ⟨w1, hw1⟩ : ∃ w1, (w.alloc (.cells gv 34)).alloc (.cells tv 42) = w1 := ⟨_, rfl⟩
  have g1 : w.grownBy w1 none := by rw [← hw1]; exact grown_trans (World.grownBy_alloc _ _ none) (World.grownBy_alloc _ _ none)
  have b1 : Blk w1 q 34 gv := by rw [← hw1, ← hq]; exact (Blk.new _ _ _).alloc _
  have b2 : Blk w1 (q + 1) 42 tv := by
    have h := Blk.new (w.alloc (.cells gv 34)) 42 tv
    rw [World.size_alloc, hq, hw1] at h
    exact h
  have hs : gv.size = 18 := by rw [hgv]; exact grC_size (by rw [hG, arr_size, hGl])
  have HC := Lib.hid (turn_is w1 (he.grown g1 (fun _ e => by cases e)) (fun hne => by
    obtain ⟨b, off, eA, hc⟩ := hV hne
    exact ⟨b, off, eA, fun k hk => range_kept (hc k hk) g1⟩) ok hl hG hGl gv hgv te tr)
  obtain ⟨x0, x1, _⟩ := tc_cells (range_blk (htv ▸ b2))
  have HX := Lib.hid (And.intro g1 (And.intro b1 hs))
  have HW := Lib.hid (And.intro hw1 hq)
  obtain ⟨a, ha⟩ := evOf_pos E hbad
  rw [ha] at HC ⊢
  clear he hV ok hl hG hGl hgv g1 b1 b2 hs hw1 hq htv hbad ha
  go_enter Tryd.func40, Tryd.ntmps40
  go_upto_region 1 with (fail)
  rw [HW.out.1, HW.out.2]
  go_wp2_with (first
    | (refine wpList_load_row rfl 34 _ rfl q rfl 34 gv (0, 0) _ HX.out.2.1 Tryd.underlying34 rfl (by rw [HX.out.2.2]; exact info18) ?_))
  refine HC.out.mono ?_
  clear HC
  rintro e' w2 ⟨rfl, g2⟩
  have HG := Lib.hid (grown_trans HX.out.1 g2)
  clear g2
  go_wp2_with fail
  go_ret
  exact ⟨rfl, HG.out⟩
set_option maxRecDepth 100000 in
set_option maxHeartbeats 1000000 in
theorem way_bad (te tr : Int) (vs : Value) (hbad : turnN V e te tr ≠ 0) (tv : Array Value) (htv : tv = tcC te tr vs) :
    Calls Tryd.prog 27 #[.agg gv, .int .i64 2, .int .i64 0, .agg tv] w fun e' w' => e' = .returned (evOf E (turnN V e te tr)) ∧ w.grownBy w' none := by
  obtain ⟨q, hq⟩ : ∃ q, w.heap.size = q := ⟨_, rfl⟩
  obtain ⟨w1, hw1⟩ : ∃ w1, (w.alloc (.cells gv 34)).alloc (.cells tv 42) = w1 := ⟨_, rfl⟩
  have g1 : w.grownBy w1 none := by rw [← hw1]; exact grown_trans (World.grownBy_alloc _ _ none) (World.grownBy_alloc _ _ none)
  have b1 : Blk w1 q 34 gv := by rw [← hw1, ← hq]; exact (Blk.new _ _ _).alloc _
  have b2 : Blk w1 (q + 1) 42 tv := by
    have h := Blk.new (w.alloc (.cells gv 34)) 42 tv
    rw [World.size_alloc, hq, hw1] at h
    exact h
  have hs : gv.size = 18 := by rw [hgv]; exact grC_size (by rw [hG, arr_size, hGl])
  have HC := Lib.hid (tc_bad w1 (he.grown g1 (fun _ e => by cases e)) (fun hne => by
    obtain ⟨b, off, eA, hc⟩ := hV hne
    exact ⟨b, off, eA, fun k hk => range_kept (hc k hk) g1⟩) ok hl hG hGl gv hgv te tr vs hbad tv htv)
  have HX := Lib.hid (And.intro g1 (And.intro b1 (And.intro hs (And.intro b2 (show tv.size = 3 by rw [htv]; rfl)))))
  have HW := Lib.hid (And.intro hw1 hq)
  obtain ⟨a, ha⟩ := evOf_pos E hbad
  rw [ha] at HC ⊢
  clear he hV ok hl hG hGl hgv g1 b1 b2 hs hw1 hq htv hbad ha
  go_enter Tryd.func27, Tryd.ntmps27
  go_upto_region 1 with (fail)
  rw [HW.out.1, HW.out.2]
  go_wp2_with (first
    | (refine wpList_load_row rfl 34 _ rfl q rfl 34 gv (0, 0) _ HX.out.2.1 Tryd.underlying34 rfl (by rw [HX.out.2.2.1]; exact info18) ?_)
    | (refine wpList_load_row rfl 42 _ rfl (q + 1) rfl 42 tv (0, 0) _ HX.out.2.2.2.1 Tryd.underlying42 rfl (by rw [HX.out.2.2.2.2]; exact info3t) ?_))
  refine HC.out.mono ?_
  clear HC
  rintro e' w2 ⟨rfl, g2⟩
  have HG := Lib.hid (grown_trans HX.out.1 g2)
  clear g2
  go_wp2_with fail
  go_ret
  exact ⟨rfl, HG.out⟩
set_option maxRecDepth 100000 in
set_option maxHeartbeats 1000000 in
theorem timeout_bad (Bl : List Int) (hBl : Bl.length = 16) (Bv : Array Value) (hB : Bv = arrV .u8 Bl) (A2 : Option Addr) (n2 c2 : Nat) (te tr : Int) (vs : Value) (hbad : turnN V e te tr ≠ 0) (f : Array Value) (qv tv ov : Array Value) (hqv : qv = qcC e 0 Bv (.slice A2 n2 c2)) (htv : tv = tcC te tr vs) (hov : ov = toC e 2 qv tv f) (hos : ov.size = 28) :
    Calls Tryd.prog 14 #[.agg gv, .agg ov] w fun e' w' => e' = .returned (evOf E (toN V e Bl Gl n2 te tr)) ∧ w.grownBy w' none := by
  obtain ⟨q, hq⟩ : ∃ q, w.heap.size = q := ⟨_, rfl⟩
  obtain ⟨w1, hw1⟩ : ∃ w1, (w.alloc (.cells gv 34)).alloc (.cells ov 58) = w1 := ⟨_, rfl⟩
  have g1 : w.grownBy w1 none := by rw [← hw1]; exact grown_trans (World.grownBy_alloc _ _ none) (World.grownBy_alloc _ _ none)
  have b1 : Blk w1 q 34 gv := by rw [← hw1, ← hq]; exact (Blk.new _ _ _).alloc _
  have b2 : Blk w1 (q + 1) 58 ov := by
    have h := Blk.new (w.alloc (.cells gv 34)) 58 ov
    rw [World.size_alloc, hq, hw1] at h
    exact h
  have hs : gv.size = 18 := by rw [hgv]; exact grC_size (by rw [hG, arr_size, hGl])
  have hB16 : Bv.size = 16 := by rw [hB, arr_size, hBl]
  have hs2 : qv.size = 19 := by rw [hqv]; exact qcC_size hB16
  have hvd : ∀ Y : World, w.grownBy Y none → VdsAt Y A V := fun Y hY hne => by
    obtain ⟨b, off, eA, hc⟩ := hV hne
    exact ⟨b, off, eA, fun k hk => range_kept (hc k hk) hY⟩
  have HT := Lib.hid (turn_is w1 (he.grown g1 (fun _ e => by cases e)) (hvd _ g1) ok hl hG hGl gv hgv e 2)
  have HQ := Lib.hid (fun (Y : World) (hY : w.grownBy Y none) => qc0_is Y (he.grown hY (fun _ e => by cases e)) (hvd _ hY) ok hl hG hGl gv hgv e Bl hBl Bv hB A2 n2 c2 qv hqv)
  have HY := Lib.hid (fun (Y : World) (hY : w.grownBy Y none) => way_bad Y (he.grown hY (fun _ e => by cases e)) (hvd _ hY) ok hl hG hGl gv hgv te tr vs hbad tv htv)
  have hb2 : Blk w1 (q + 1) 58 (toC e 2 qv tv f) := hov ▸ b2
  obtain ⟨x0, x1, rq, rt⟩ := to_cells hs2 hb2
  have HX := Lib.hid (And.intro g1 (And.intro b1 (And.intro hs (And.intro hb2 (And.intro hs2 (show tv.size = 3 by rw [htv]; rfl))))))
  have HW := Lib.hid (And.intro hw1 hq)
  have HB := Lib.hid (And.intro hbad (show ∀ Y : World, Blk Y (q + 1) 58 (toC e 2 qv tv f) → Y.cell? ⟨q + 1, 3, none⟩ = some (.int .i64 0) from fun Y hY => by
    obtain ⟨_, _, r, _⟩ := to_cells hs2 hY
    have := r 1 (.int .i64 0) (by rw [hqv]; simp [qcC])
    exact this))
  clear he hV ok hl hG hGl hgv g1 b1 b2 hb2 hs hs2 hw1 hq htv hqv hov hos hBl hB hB16 hbad hvd rq rt
  go_enter Tryd.func14, Tryd.ntmps14
  go_upto_region 1 with (fail)
  rw [HW.out.1, HW.out.2]
  go_wp2_with (first
    | (refine wpList_load_row rfl 34 _ rfl q rfl 34 gv (0, 0) _ HX.out.2.1 Tryd.underlying34 rfl (by rw [HX.out.2.2.1]; exact info18) ?_))
  refine HT.out.mono ?_
  clear HT x0 x1
  rintro e' w2 ⟨rfl, g2⟩
  by_cases ht : turnN V e e 2 = 0
  · have hE : evOf E (turnN V e e 2) = .nilIface := by rw [ht]; rfl
    rw [hE]
    have H2 := Lib.hid (And.intro (grown_trans HX.out.1 g2) (And.intro (HX.out.2.1.grown g2 (by simp)) (HX.out.2.2.2.1.grown g2 (by simp))))
    have HT0 := Lib.hid ht
    clear hE ht g2
    go_wp2_with (first
      | (refine wpList_load_row rfl 34 _ rfl q rfl 34 gv (0, 0) _ H2.out.2.1 Tryd.underlying34 rfl (by rw [HX.out.2.2.1]; exact info18) ?_)
      | (refine wpList_load_mid rfl 39 _ rfl (q + 1) 2 rfl qv.toList _ (to_cells HX.out.2.2.2.2.1 H2.out.2.2).2.2.1 Tryd.underlying39 rfl (by rw [Array.length_toList, HX.out.2.2.2.2.1]; exact info19) ?_))
    refine (HQ.out w2 H2.out.1).mono ?_
    clear HQ
    rintro e' w3 ⟨rfl, g3⟩
    by_cases hf : firstN V e e Bl Gl n2 = 0
    · have hE : evOf E (firstN V e e Bl Gl n2) = .nilIface := by rw [hf]; rfl
      rw [hE]
      have H3 := Lib.hid (And.intro (grown_trans H2.out.1 g3) (And.intro (H2.out.2.1.grown g3 (by simp)) (H2.out.2.2.grown g3 (by simp))))
      have HF0 := Lib.hid hf
      clear hE hf g3
      obtain ⟨y0, y1, _, rt⟩ := to_cells HX.out.2.2.2.2.1 H3.out.2.2
      have y3 := HB.out.2 w3 H3.out.2.2
      have HRT := Lib.hid rt
      clear rt
      go_wp2_with (first
        | (refine wpList_load_row rfl 34 _ rfl q rfl 34 gv (0, 0) _ H3.out.2.1 Tryd.underlying34 rfl (by rw [HX.out.2.2.1]; exact info18) ?_)
        | (refine wpList_load_mid rfl 42 _ rfl (q + 1) 21 rfl tv.toList _ HRT.out Tryd.underlying42 rfl (by rw [Array.length_toList, HX.out.2.2.2.2.2]; exact info3t) ?_))
      refine (HY.out w3 H3.out.1).mono ?_
      clear HY y0 y1 y3
      rintro e' w4 ⟨rfl, g4⟩
      obtain ⟨a, ha⟩ := evOf_pos E HB.out.1
      rw [ha]
      have H4 := Lib.hid (And.intro (grown_trans H3.out.1 g4) (show evOf E (toN V e Bl Gl n2 te tr) = errV a by rw [toN, if_neg (by simp [HT0.out]), if_neg (by simp [HF0.out]), ha]))
      clear ha g4
      go_wp2_with fail
      go_ret
      exact ⟨by rw [H4.out.2]; rfl, H4.out.1⟩
    · obtain ⟨a, ha⟩ := evOf_pos E hf
      rw [ha]
      have H3 := Lib.hid (And.intro (grown_trans H2.out.1 g3) (show evOf E (toN V e Bl Gl n2 te tr) = errV a by rw [toN, if_neg (by simp [HT0.out]), if_pos hf, ha]))
      clear hf ha g3
      go_wp2_with fail
      go_ret
      exact ⟨by rw [H3.out.2]; rfl, H3.out.1⟩
  · obtain ⟨a, ha⟩ := evOf_pos E ht
    rw [ha]
    have H2 := Lib.hid (And.intro (grown_trans HX.out.1 g2) (show evOf E (toN V e Bl Gl n2 te tr) = errV a by rw [toN, if_pos ht, ha]))
    clear ht ha g2
    go_wp2_with fail
    go_ret
    exact ⟨by rw [H2.out.2]; rfl, H2.out.1⟩
end
end Go.Proofs.YtlokjbjpmhfkhaaDoor
/-
  An argument opened: a slice of ints, as a list.
-/

namespace Go.Proofs.YtlokjbjpmhfkhaaDoor
open Go.ChangeShapes Go.WideShapes Go.ChangeAt Go.RowKit

section
variable {H : Type} {enc : TypeId × Value → H} {w : World} {base : Nat} {spare : Nat → Bool} {held : Bool} {fuel : Nat} {cs : List Value} {x : DataW H × List MemPlace}

/-- The ints zs lie at A. -/
def IntsAt (w : World) (A : Option Addr) (zs : List Int) : Prop :=
  zs ≠ [] → ∃ ad, A = some ad ∧ ∀ j (h : j < zs.length), w.cell? (ad.add j) = some (.int .i64 zs[j])
theorem open_nums (h : DataW.trod enc Tryd.prog w base spare held fuel 48 cs = some x) :
    ∃ A n c, ∃ l : List Int, cs = [.slice A n c] ∧ l.length = n ∧ n ≤ c ∧ c ≤ maxLen ∧ IntsAt w A l ∧ (∀ z ∈ l, (Lit.int .i64 z).wf = true) ∧ ∀ ad, A = some ad → l ≠ [] → ad.block < w.heap.size := by
  rcases open_ints Tryd.underlying48 Tryd.underlying3 (by kernel_rfl) h with ⟨hcs, _⟩ | ⟨a, len, cap, zs, hcs, _, hl, hm, hz, _, hcell, hwf⟩
  · exact ⟨none, 0, 0, [], hcs, rfl, Nat.le_refl _, by simp [maxLen], fun h => absurd rfl h, (by simp), fun _ e => by cases e⟩
  · have hlz : len ≤ zs.length := by rw [hz]; split <;> omega
    have hc : ∀ j (hj : j < (zs.take len).length), w.cell? (a.add j) = some (.int .i64 (zs.take len)[j]) := by
      intro j hj
      have hj' : j < len := by simp at hj; omega
      rw [hcell j (by omega)]
      simp only [List.getElem_take]
      simp [List.getD, List.getElem?_eq_getElem (show j < zs.length by omega)]
    refine ⟨some a, len, cap, zs.take len, hcs, by simp; omega, hl, hm, fun _ => ⟨a, rfl, hc⟩, fun z hz => hwf z (List.mem_of_mem_take hz), ?_⟩
    intro ad e hne
    injection e with e
    subst e
    have h0 := hc 0 (List.length_pos_iff.2 hne)
    have := World.block_lt_of_cell? w _ h0
    rwa [block_add] at this
theorem IntsAt.get {A : Option Addr} {l : List Int} (h : IntsAt w A l) (hl : l ≠ []) : ∃ b off, A = some ⟨b, off, none⟩ ∧ ∀ j (hj : j < l.length), w.cell? ⟨b, off + j, none⟩ = some (.int .i64 l[j]) := by
  obtain ⟨ad, rfl, hc⟩ := h hl
  obtain ⟨b, off, rfl⟩ := addr_form (hc 0 (List.length_pos_iff.2 hl)) rfl
  exact ⟨b, off, rfl, fun j hj => by rw [← Go.WideShapes.add_plain]; exact hc j hj⟩
theorem IntsAt.keep {w' : World} {A : Option Addr} {l : List Int} (h : IntsAt w A l) (hk : ∀ ad : Addr, A = some ad → w.cell? (ad.add 0) ≠ none → ∀ i, w'.cell? (ad.add i) = w.cell? (ad.add i)) : IntsAt w' A l := fun hl => by
  obtain ⟨ad, rfl, hc⟩ := h hl
  refine ⟨ad, rfl, fun j hj => ?_⟩
  have h0 : 0 < l.length := by omega
  rw [hk ad rfl (by rw [hc 0 h0]; simp) j, hc j hj]
theorem IntsAt.kept {F : Nat → Prop} {w' : World} {A : Option Addr} {l : List Int} (h : IntsAt w A l) (hk : Kept F w w') (hA : ∀ ad, A = some ad → ¬ F ad.block) : IntsAt w' A l :=
  h.keep fun ad e h0 i => World.cell?_of_block (hk.block _ (by
    rw [block_add]
    obtain ⟨v, hv⟩ := Option.ne_none_iff_exists'.1 h0
    have := World.block_lt_of_cell? w _ hv
    rwa [block_add] at this) (by rw [block_add]; exact hA ad e))
set_option maxRecDepth 100000 in
theorem arg_nums {v : Value} {d : DataW H} {p : List MemPlace} {b0 : Nat} (hv : Value.okWide Tryd.prog w .any b0 48 v) (h : DataW.Trod enc Tryd.prog w base spare held 48 v d p) :
    ∃ A n c, ∃ l : List Int, v = .slice A n c ∧ l.length = n ∧ n ≤ c ∧ IntsAt w A l ∧ ∀ z ∈ l, (Lit.int .i64 z).wf = true := by
  obtain ⟨a0, len, cap, rfl⟩ := okWide_slice Tryd.underlying48 hv
  obtain ⟨fuel, hf⟩ := h
  obtain ⟨A, n, c, l, hcs, hn, hc, _, hb, hw, _⟩ := open_nums hf
  have e : Value.slice a0 len cap = .slice A n c := (List.cons.inj (show [Value.slice a0 len cap] = [Value.slice A n c] from hcs)).1
  exact ⟨A, n, c, l, e, hn, hc, hb, hw⟩

end
end Go.Proofs.YtlokjbjpmhfkhaaDoor
