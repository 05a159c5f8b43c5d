/- Pf1, Pf2, ArgI, PwS, PwA -/
import Derived.Test.YtigafnbofmiknaaGreatDoorW20q
import Derived.Test.YtigafnbofmiknaaGreatDoorW20p
import Derived.Test.YtigafnbofmiknaaGreatDoorW20k
import Derived.Deep.DeepCutAuto
import Derived.Test.YtigafnbofmiknaaGreatDoorW20f
import Derived.RangeFuncNested
import Derived.RangeFuncBound
import Derived.RangeFuncBox
import Derived.RangeFuncCalls
import Derived.RangeFuncLeaves
import Derived.Shelf.Abstract
import Derived.Shelf.RegionOpen
import Derived.OwnWalkIn
import Derived.TacticsInMore
import Derived.LoopNIn
import Derived.LoopIn
import Derived.BigRegionIn
import Derived.Test.YtigafnbofmiknaaGreatDoorW20g
import Derived.WalkKit
import Derived.RangeFuncFrom
namespace Go.Proofs.YtigafnbofmiknaaGreatDoor
set_option maxRecDepth 100000
set_option maxHeartbeats 10000000
open Go.RowKit
section
def grC (e : Int) (vs : Value) (G : Array Value) : Array Value := #[.int .i64 e, vs] ++ G
def qcC (e r : Int) (B : Array Value) (vs : Value) : Array Value := #[.int .i64 e, .int .i64 r] ++ (B ++ #[vs])
theorem zci {e : Int} {vs : Value} {G : Array Value} (h : G.size = 16) : (grC e vs G).size = 18 := by simp [grC, h]
theorem zeb {e r : Int} {vs : Value} {B : Array Value} (h : B.size = 16) : (qcC e r B vs).size = 19 := by simp [qcC, h]
theorem info18 : (Tryz.prog.info? 26).map (·.size) = some 18 := by kernel_rfl
theorem info19 : (Tryz.prog.info? 29).map (·.size) = some 19 := by kernel_rfl
theorem zas : (Tryz.prog.info? 24).map (·.size) = some 16 := by kernel_rfl
theorem yy {w : World} {g : Nat} {t : TypeId} {cs : Array Value} (h : Blk w g t cs) : w.rangeAt g 0 cs.toList := fun j v hv => by
 rw [Nat.zero_add, h.cell, <- Array.getElem?_toList]; exact hv
theorem za3 {w : World} {g o : Nat} {a b c : List Value} (h : w.rangeAt g o (a ++ (b ++ c))) : w.rangeAt g (o + a.length) b := fun j v hv => by
 have hj := (List.getElem?_eq_some_iff.1 hv).1
 have := h (a.length + j) v (by rw [List.getElem?_append_right (by omega), Nat.add_sub_cancel_left, List.getElem?_append_left hj]; exact hv)
 rwa [<- Nat.add_assoc] at this
theorem y8 {w : World} {q : Nat} {t : TypeId} {e : Int} {vs : Value} {G : Array Value} (h : Blk w q t (grC e vs G)) :
    w.cell? ⟨q, 0, none⟩ = some (.int .i64 e) /\ w.cell? ⟨q, 1, none⟩ = some vs /\ w.rangeAt q 2 G.toList := by
 have r := yy h
 rw [show (grC e vs G).toList = [.int .i64 e, vs] ++ (G.toList ++ []) by simp [grC]] at r
 refine ⟨by have := r 0 _ rfl; simpa using this, by have := r 1 _ rfl; simpa using this, ?_⟩
 have := za3 r
 rwa [Nat.zero_add] at this
theorem zbs {w : World} {q : Nat} {t : TypeId} {e r : Int} {vs : Value} {B : Array Value} (hB : B.size = 16) (h : Blk w q t (qcC e r B vs)) :
    w.cell? ⟨q, 0, none⟩ = some (.int .i64 e) /\ w.cell? ⟨q, 1, none⟩ = some (.int .i64 r) /\ w.rangeAt q 2 B.toList /\ w.cell? ⟨q, 18, none⟩ = some vs := by
 have r0 := yy h
 have e1 : (qcC e r B vs).toList = [.int .i64 e, .int .i64 r] ++ (B.toList ++ [vs]) := by simp [qcC]
 rw [e1] at r0
 refine ⟨by have := r0 0 _ rfl; simpa using this, by have := r0 1 _ rfl; simpa using this, ?_, ?_⟩
 · have := za3 r0
   rwa [Nat.zero_add] at this
 · have := r0 18 vs (by rw [List.getElem?_append_right (by simp), List.getElem?_append_right (by simp [hB])]; simp [hB])
   rwa [Nat.zero_add] at this
def beginN (V : List Vd) (e ep : Int) : Nat := if rightS V = false then 11 else if ep = e then 0 else 18
def turnN (V : List Vd) (e ep r : Int) : Nat := if beginN V e ep ≠ 0 then beginN V e ep else if r < 1 \/ 1099511627776 < r then 14 else 0
def firstN (V : List Vd) (e qe : Int) (Bl Gl : List Int) (n2 : Nat) : Nat := if beginN V e qe ≠ 0 then beginN V e qe else if Bl = Gl /\ n2 = 0 then 0 else 12
theorem zep (E : Nat -> Addr) {k : Nat} (h : k ≠ 0) : ∃ a, evOf E k = errV a := by
 cases k with
 | zero => exact absurd rfl h
 | succ k => exact ⟨E k, rfl⟩
section
variable {B : Nat} {E : Nat -> Addr} {e : Int} {A : Option Addr} {c : Nat} {V : List Vd} {Gl : List Int} {G : Array Value}
variable (w : World) (he : ErrEnv w B E) (hV : VdsAt w A V) (ok : keysOk V) (hl : V.length < 1000) (hG : G = arrV .u8 Gl) (hGl : Gl.length = 16) (gv : Array Value) (hgv : gv = grC e (.slice A V.length c) G)
include he hV ok hl hG hGl hgv
theorem begin_is (ep : Int) : Calls Tryz.prog 74 #[.agg gv, .int .i64 ep] w fun e' w' => e' = .returned (evOf E (beginN V e ep)) /\ w.grownBy w' none := by
 obtain ⟨q, hq⟩ : ∃ q, w.heap.size = q := ⟨_, rfl⟩
 obtain ⟨w1, hw1⟩ : ∃ w1, w.alloc (.cells gv 26) = w1 := ⟨_, rfl⟩
 have g1 : w.grownBy w1 none := by rw [<- hw1]; exact gQ
 have b1 : Blk w1 q 26 (grC e (.slice A V.length c) G) := by rw [<- hw1, <- hq, <- hgv]; exact Blk.new _ _ _
 obtain ⟨x0, x1, _⟩ := y8 b1
 have HC := hQ_ (u6 w1 A c B V (E 10) (fun hne => by
  obtain ⟨b, off, eA, hc⟩ := hV hne
  exact ⟨b, off, eA, fun k hk => ze (hc k hk) g1⟩) ok hl ((he.grown g1 (fun _ e => by cases e)).var 10 (by omega)))
 have HX := hQ_ (aQ he (aQ g1 b1))
 have HW := hQ_ (aQ hw1 hq)
 obtain ⟨n, hn⟩ : ∃ n, V.length = n := ⟨_, rfl⟩
 rw [hn] at HC x1
 have hG2 := aQ hG hGl
 clear hG2
 clear he hV ok hl hG hGl hgv g1 b1 hw1 hq hn
 go_enter Tryz.func74, Tryz.ntmps74
 go_upto_region 1 with (fail)
 rw [HW.out.1, HW.out.2]
 go_wp2_with fail
 refine HC.out.mono ?_
 clear HC
 rintro e' w2 ⟨g2, ⟨hr, rfl⟩ | ⟨hr, rfl⟩⟩
 · have g12 := za HX.out.2.1 g2
   obtain ⟨y0, y1, _⟩ := y8 (HX.out.2.2.grown g2 (by simp))
   by_cases hep : ep = e
   · have HN := hQ_ (aQ g12 (show beginN V e ep = 0 by rw [beginN, if_neg (by simp [hr]), if_pos hep]))
     have d1 : (ep == e) = true := by simp [hep]
     clear hep g2 g12 hr x0 x1
     go_wp2_with fail
     go_ret
     exact ⟨by rw [HN.out.2]; rfl, HN.out.1⟩
   · have HN := hQ_ (aQ g12 (show beginN V e ep = 18 by rw [beginN, if_neg (by simp [hr]), if_neg hep]))
     have d1 : (ep == e) = false := by simp [hep]
     have ve : w2.cell? ⟨17, 0, none⟩ = some (errV (E 17)) := ((HX.out.1.grown g12 (fun _ e => by cases e)).var 17 (by omega)).1
     clear hep g2 g12 hr x0 x1
     go_wp2_with fail
     go_ret
     exact ⟨by rw [HN.out.2]; rfl, HN.out.1⟩
 · have HN := hQ_ (aQ (za HX.out.2.1 g2) (show beginN V e ep = 11 by rw [beginN, if_pos hr]))
   clear g2 hr x0 x1
   go_wp2_with fail
   go_ret
   exact ⟨by rw [HN.out.2]; rfl, HN.out.1⟩
theorem turn_is (ep r : Int) : Calls Tryz.prog 54 #[.agg gv, .int .i64 ep, .int .i64 r] w fun e' w' => e' = .returned (evOf E (turnN V e ep r)) /\ w.grownBy w' none := by
 obtain ⟨q, hq⟩ : ∃ q, w.heap.size = q := ⟨_, rfl⟩
 obtain ⟨w1, hw1⟩ : ∃ w1, w.alloc (.cells gv 26) = w1 := ⟨_, rfl⟩
 have g1 : w.grownBy w1 none := by rw [<- hw1]; exact gQ
 have b1 : Blk w1 q 26 gv := by rw [<- hw1, <- hq]; exact Blk.new _ _ _
 have hs : gv.size = 18 := by rw [hgv]; exact zci (by rw [hG, zf, hGl])
 have HC := hQ_ (begin_is w1 (he.grown g1 (fun _ e => by cases e)) (fun hne => by
  obtain ⟨b, off, eA, hc⟩ := hV hne
  exact ⟨b, off, eA, fun k hk => ze (hc k hk) g1⟩) ok hl hG hGl gv hgv ep)
 have HX := hQ_ (aQ he (aQ g1 (aQ b1 hs)))
 have HW := hQ_ (aQ hw1 hq)
 clear he hV ok hl hG hGl hgv g1 b1 hs hw1 hq
 go_enter Tryz.func54, Tryz.ntmps54
 go_upto_region 1 with (fail)
 rw [HW.out.1, HW.out.2]
 go_wp2_with (first
  | (refine wpList_load_row rfl 26 _ rfl q rfl 26 gv (0, 0) _ HX.out.2.2.1 Tryz.underlying26 rfl (by rw [HX.out.2.2.2]; exact info18) ?_))
 refine HC.out.mono ?_
 clear HC
 rintro e' w2 ⟨rfl, g2⟩
 have HG := hQ_ (za HX.out.2.1 g2)
 clear g2
 by_cases hb : beginN V e ep = 0
 · have hE : evOf E (beginN V e ep) = .nilIface := by rw [hb]; rfl
   rw [hE]
   by_cases hr : r < 1 \/ 1099511627776 < r
   · have HN := hQ_ (show turnN V e ep r = 14 by rw [turnN, if_neg (by simp [hb]), if_pos hr])
     have ve : w2.cell? ⟨13, 0, none⟩ = some (errV (E 13)) := ((HX.out.1.grown HG.out (fun _ e => by cases e)).var 13 (by omega)).1
     have dd : decide (r < 1) = true \/ (decide (r < 1) = false /\ decide (1099511627776 < r) = true) := by simp; omega
     clear hb hE hr
     rcases dd with d1 | ⟨d1, d2⟩
     · go_wp2_with fail
       go_ret
       exact ⟨by rw [HN.out]; rfl, HG.out⟩
     · go_wp2_with fail
       go_ret
       exact ⟨by rw [HN.out]; rfl, HG.out⟩
   · have HN := hQ_ (show turnN V e ep r = 0 by rw [turnN, if_neg (by simp [hb]), if_neg hr])
     have d1 : decide (r < 1) = false := by simp; omega
     have d2 : decide (1099511627776 < r) = false := by simp; omega
     clear hb hE hr
     go_wp2_with fail
     go_ret
     exact ⟨by rw [HN.out]; rfl, HG.out⟩
 · obtain ⟨a, ha⟩ := zep E hb
   have HN := hQ_ (aQ (show turnN V e ep r = beginN V e ep by rw [turnN, if_pos hb]) ha)
   rw [ha]
   clear hb ha
   go_wp2_with fail
   go_ret
   exact ⟨by rw [HN.out.1, HN.out.2]; rfl, HG.out⟩
theorem first_isK21 (qe qr : Int) (Bl : List Int) (hBl : Bl.length = 16) (Bv : Array Value) (hB : Bv = arrV .u8 Bl) (A2 : Option Addr) (n2 c2 : Nat) (qv : Array Value) (hqv : qv = qcC qe qr Bv (.slice A2 n2 c2)) :
    Calls Tryz.prog 53 #[.agg gv, .agg qv] w fun e' w' => e' = .returned (evOf E (firstN V e qe Bl Gl n2)) /\ w.grownBy w' none := by
 obtain ⟨q, hq⟩ : ∃ q, w.heap.size = q := ⟨_, rfl⟩
 obtain ⟨w1, hw1⟩ : ∃ w1, (w.alloc (.cells gv 26)).alloc (.cells qv 29) = w1 := ⟨_, rfl⟩
 have g1 : w.grownBy w1 none := by rw [<- hw1]; exact za (gQ) (gQ)
 have b1 : Blk w1 q 26 gv := by rw [<- hw1, <- hq]; exact (Blk.new _ _ _).alloc _
 have b2 : Blk w1 (q + 1) 29 qv := by
  have h := Blk.new (w.alloc (.cells gv 26)) 29 qv
  rw [World.size_alloc, hq, hw1] at h
  exact h
 have hG16 : G.size = 16 := by rw [hG, zf, hGl]
 have hB16 : Bv.size = 16 := by rw [hB, zf, hBl]
 have hs : gv.size = 18 := by rw [hgv]; exact zci hG16
 have HC := hQ_ (begin_is w1 (he.grown g1 (fun _ e => by cases e)) (fun hne => by
  obtain ⟨b, off, eA, hc⟩ := hV hne
  exact ⟨b, off, eA, fun k hk => ze (hc k hk) g1⟩) ok hl hG hGl gv hgv qe)
 have heq : ∀ V, Sem.run Tryz.prog (Op.equalIn 10000 24 (.agg Bv) (.agg G)) V = .ok (decide (Bl = Gl)) V := fun V => by
  rw [hB, hG]
  exact eq_arr V 9998 Tryz.underlying24 (by kernel_rfl) Tryz.underlying5 (by kernel_rfl) (by kernel_rfl) Bl Gl hBl hGl
 obtain ⟨x0, _, _, _⟩ := zbs hB16 (hqv ▸ b2)
 have HX := hQ_ (aQ he (aQ g1 (aQ b1 (aQ hs (aQ (show Blk w1 q 26 (grC e (.slice A V.length c) G) by rw [<- hgv]; exact b1) (aQ (show Blk w1 (q + 1) 29 (qcC qe qr Bv (.slice A2 n2 c2)) by rw [<- hqv]; exact b2) (aQ hG16 hB16)))))))
 have HQ := hQ_ heq
 have HW := hQ_ (aQ hw1 hq)
 clear he hV ok hl hG hGl hgv g1 b1 b2 hs hw1 hq hBl hB hqv hG16 hB16 heq
 go_enter Tryz.func53, Tryz.ntmps53
 go_upto_region 1 with (fail)
 rw [HW.out.1, HW.out.2]
 go_wp2_with (first
  | (refine wpList_load_row rfl 26 _ rfl q rfl 26 gv (0, 0) _ HX.out.2.2.1 Tryz.underlying26 rfl (by rw [HX.out.2.2.2.1]; exact info18) ?_))
 refine HC.out.mono ?_
 clear HC x0
 rintro e' w2 ⟨rfl, g2⟩
 obtain ⟨_, _, rG⟩ := y8 (HX.out.2.2.2.2.1.grown g2 (by simp))
 obtain ⟨_, _, rB, y18⟩ := zbs HX.out.2.2.2.2.2.2.2 (HX.out.2.2.2.2.2.1.grown g2 (by simp))
 have HG := hQ_ (aQ (za HX.out.2.1 g2) (aQ rG rB))
 clear g2 rG rB
 by_cases hb : beginN V e qe = 0
 · have hE : evOf E (beginN V e qe) = .nilIface := by rw [hb]; rfl
   rw [hE]
   have ve : w2.cell? ⟨11, 0, none⟩ = some (errV (E 11)) := ((HX.out.1.grown HG.out.1 (fun _ e => by cases e)).var 11 (by omega)).1
   have hq2 := HQ.out
   obtain ⟨r, hr⟩ : ∃ r, decide (Bl = Gl) = r := ⟨_, rfl⟩
   rw [hr] at hq2
   have HR := hQ_ (aQ hb hr)
   clear hb hE hr
   cases r with
   | false =>
    have HN := hQ_ (show firstN V e qe Bl Gl n2 = 12 by
     have := HR.out.2
     rw [decide_eq_false_iff_not] at this
     rw [firstN, if_neg (by simp [HR.out.1]), if_neg (fun h => this h.1)])
    go_wp2_with (first
     | (refine wpList_load_mid rfl 24 _ rfl (q + 1) 2 rfl Bv.toList _ HG.out.2.2 Tryz.underlying24 rfl (by rw [Array.length_toList, HX.out.2.2.2.2.2.2.2]; exact zas) ?_)
     | (refine wpList_load_mid rfl 24 _ rfl q 2 rfl G.toList _ HG.out.2.1 Tryz.underlying24 rfl (by rw [Array.length_toList, HX.out.2.2.2.2.2.2.1]; exact zas) ?_))
    go_ret
    exact ⟨by rw [HN.out]; rfl, HG.out.1⟩
   | true =>
    by_cases hn2 : n2 = 0
    · have HN := hQ_ (show firstN V e qe Bl Gl n2 = 0 by rw [firstN, if_neg (by simp [HR.out.1]), if_pos ⟨of_decide_eq_true HR.out.2, hn2⟩])
      have d1 : decide ((0 : Int) < (n2 : Int)) = false := by simp; omega
      have d2 : decide (0 < n2) = false := by simp; omega
      go_wp2_with (first
       | (refine wpList_load_mid rfl 24 _ rfl (q + 1) 2 rfl Bv.toList _ HG.out.2.2 Tryz.underlying24 rfl (by rw [Array.length_toList, HX.out.2.2.2.2.2.2.2]; exact zas) ?_)
       | (refine wpList_load_mid rfl 24 _ rfl q 2 rfl G.toList _ HG.out.2.1 Tryz.underlying24 rfl (by rw [Array.length_toList, HX.out.2.2.2.2.2.2.1]; exact zas) ?_))
      go_ret
      exact ⟨by rw [HN.out]; rfl, HG.out.1⟩
    · have HN := hQ_ (show firstN V e qe Bl Gl n2 = 12 by rw [firstN, if_neg (by simp [HR.out.1]), if_neg (fun h => hn2 h.2)])
      have d1 : decide ((0 : Int) < (n2 : Int)) = true := by simp; omega
      have d2 : decide (0 < n2) = true := by simp; omega
      go_wp2_with (first
       | (refine wpList_load_mid rfl 24 _ rfl (q + 1) 2 rfl Bv.toList _ HG.out.2.2 Tryz.underlying24 rfl (by rw [Array.length_toList, HX.out.2.2.2.2.2.2.2]; exact zas) ?_)
       | (refine wpList_load_mid rfl 24 _ rfl q 2 rfl G.toList _ HG.out.2.1 Tryz.underlying24 rfl (by rw [Array.length_toList, HX.out.2.2.2.2.2.2.1]; exact zas) ?_))
      go_ret
      exact ⟨by rw [HN.out]; rfl, HG.out.1⟩
 · obtain ⟨a, ha⟩ := zep E hb
   have HN := hQ_ (aQ (show firstN V e qe Bl Gl n2 = beginN V e qe by rw [firstN, if_pos hb]) ha)
   rw [ha]
   clear hb ha
   go_wp2_with fail
   go_ret
   exact ⟨by rw [HN.out.1, HN.out.2]; rfl, HG.out.1⟩
end
end
section
section
variable {B : Nat} {E : Nat -> Addr} {e : Int} {A : Option Addr} {c : Nat} {V : List Vd} {Gl : List Int} {G : Array Value}
variable (w : World) (he : ErrEnv w B E) (hV : VdsAt w A V) (ok : keysOk V) (hl : V.length < 1000) (hG : G = arrV .u8 Gl) (hGl : Gl.length = 16) (gv : Array Value) (hgv : gv = grC e (.slice A V.length c) G)
include he hV ok hl hG hGl hgv
theorem qc0_is (qe : Int) (Bl : List Int) (hBl : Bl.length = 16) (Bv : Array Value) (hB : Bv = arrV .u8 Bl) (A2 : Option Addr) (n2 c2 : Nat) (qv : Array Value) (hqv : qv = qcC qe 0 Bv (.slice A2 n2 c2)) :
    Calls Tryz.prog 38 #[.agg gv, .agg qv] w fun e' w' => e' = .returned (evOf E (firstN V e qe Bl Gl n2)) /\ w.grownBy w' none := by
 obtain ⟨q, hq⟩ : ∃ q, w.heap.size = q := ⟨_, rfl⟩
 obtain ⟨w1, hw1⟩ : ∃ w1, (w.alloc (.cells gv 26)).alloc (.cells qv 29) = w1 := ⟨_, rfl⟩
 have g1 : w.grownBy w1 none := by rw [<- hw1]; exact za (gQ) (gQ)
 have b1 : Blk w1 q 26 gv := by rw [<- hw1, <- hq]; exact (Blk.new _ _ _).alloc _
 have b2 : Blk w1 (q + 1) 29 qv := by
  have h := Blk.new (w.alloc (.cells gv 26)) 29 qv
  rw [World.size_alloc, hq, hw1] at h
  exact h
 have hs : gv.size = 18 := by rw [hgv]; exact zci (by rw [hG, zf, hGl])
 have hB16 : Bv.size = 16 := by rw [hB, zf, hBl]
 have hs2 : qv.size = 19 := by rw [hqv]; exact zeb hB16
 have HC := hQ_ (first_isK21 w1 (he.grown g1 (fun _ e => by cases e)) (fun hne => by
  obtain ⟨b, off, eA, hc⟩ := hV hne
  exact ⟨b, off, eA, fun k hk => ze (hc k hk) g1⟩) ok hl hG hGl gv hgv qe 0 Bl hBl Bv hB A2 n2 c2 qv hqv)
 obtain ⟨_, x1, _, _⟩ := zbs hB16 (hqv ▸ b2)
 have HX := hQ_ (aQ g1 (aQ b1 (aQ hs (aQ b2 hs2))))
 have HW := hQ_ (aQ hw1 hq)
 clear he hV ok hl hG hGl hgv g1 b1 b2 hs hs2 hw1 hq hBl hB hqv hB16
 go_enter Tryz.func38, Tryz.ntmps38
 go_upto_region 1 with (fail)
 rw [HW.out.1, HW.out.2]
 go_wp2_with (first
  | (refine wpList_load_row rfl 26 _ rfl q rfl 26 gv (0, 0) _ HX.out.2.1 Tryz.underlying26 rfl (by rw [HX.out.2.2.1]; exact info18) ?_)
  | (refine wpList_load_row rfl 29 _ rfl (q + 1) rfl 29 qv (0, 0) _ HX.out.2.2.2.1 Tryz.underlying29 rfl (by rw [HX.out.2.2.2.2]; exact info19) ?_))
 refine HC.out.mono ?_
 clear HC
 rintro e' w2 ⟨rfl, g2⟩
 obtain ⟨R, hR⟩ : ∃ R, evOf E (firstN V e qe Bl Gl n2) = R := ⟨_, rfl⟩
 rw [hR]
 have HG := hQ_ (aQ (za HX.out.1 g2) hR)
 clear g2 hR
 go_wp2_with fail
 go_ret
 exact ⟨by rw [HG.out.2]; rfl, HG.out.1⟩
end
end
section
open Go.ChangeShapes Go.WideShapes Go.ChangeAt Go.RowKit
section
variable {H : Type} {enc : TypeId × Value -> H} {w : World} {base : Nat} {spare : Nat -> Bool} {held : Bool} {fuel : Nat} {cs : List Value} {x : DataW H × List MemPlace}
def IntsAt (w : World) (A : Option Addr) (zs : List Int) : Prop :=
 zs ≠ [] -> ∃ ad, A = some ad /\ ∀ j (h : j < zs.length), w.cell? (ad.add j) = some (.int .i64 zs[j])
theorem IntsAt.get {A : Option Addr} {l : List Int} (h : IntsAt w A l) (hl : l ≠ []) : ∃ b off, A = some ⟨b, off, none⟩ /\ ∀ j (hj : j < l.length), w.cell? ⟨b, off + j, none⟩ = some (.int .i64 l[j]) := by
 obtain ⟨ad, rfl, hc⟩ := h hl
 obtain ⟨b, off, rfl⟩ := zcq (hc 0 (List.length_pos_iff.2 hl)) rfl
 exact ⟨b, off, rfl, fun j hj => by rw [<- Go.WideShapes.add_plain]; exact hc j hj⟩
theorem IntsAt.keep {w' : World} {A : Option Addr} {l : List Int} (h : IntsAt w A l) (hk : ∀ ad : Addr, A = some ad -> w.cell? (ad.add 0) ≠ none -> ∀ i, w'.cell? (ad.add i) = w.cell? (ad.add i)) : IntsAt w' A l := fun hl => by
 obtain ⟨ad, rfl, hc⟩ := h hl
 refine ⟨ad, rfl, fun j hj => ?_⟩
 have h0 : 0 < l.length := by omega
 rw [hk ad rfl (by rw [hc 0 h0]; simp) j, hc j hj]
theorem IntsAt.kept {F : Nat -> Prop} {w' : World} {A : Option Addr} {l : List Int} (h : IntsAt w A l) (hk : Kept F w w') (hA : ∀ ad, A = some ad -> ¬ F ad.block) : IntsAt w' A l :=
 h.keep fun ad e h0 i => World.cell?_of_block (hk.block _ (by
  rw [yk]
  obtain ⟨v, hv⟩ := Option.ne_none_iff_exists'.1 h0
  have := World.block_lt_of_cell? w _ hv
  rwa [yk] at this) (by rw [yk]; exact hA ad e))
end
end
section
open Go.RowKit Go.Shelf
attribute [local go_sem] Oper.semAt_some
theorem Below.trans' {n : Nat} {a b c d : World} (k : Below n b c) (h : Below n a b) (l : Below n c d) : Below n a d := (h.trans k).trans l
theorem zar {w w' : World} {n b o : Nat} {cs : List Value} (h : w.rangeAt b o cs) (hk : Below n w w') (hb : b < n) : w'.rangeAt b o cs := fun j v hv => (hk.cell (p := ⟨b, o + j, none⟩) hb).trans (h j v hv)
theorem zcn {wr W0 : World} {zs cs : Array Value} {x : Vd} (hx : x.key.length = 16) (hcs : cs = x.cells.toArray) (e : W0 = (wr.alloc (.cells zs 55)).setRow wr.heap.size cs) :
    wr.grownBy W0 none /\ W0.rangeAt wr.heap.size 0 (x.key.map (Value.int .u8)) /\ W0.cell? ⟨wr.heap.size, 16, none⟩ = some (.int .i64 x.p) := by
 have hb := (Blk.new wr 55 zs).row cs
 rw [<- e] at hb
 have hr : W0.rangeAt wr.heap.size 0 x.cells := fun j v hv => by
  rw [Nat.zero_add, hb.cell, hcs]; simpa using hv
 refine ⟨?_, zcd hr, by simpa using zc4 hx hr⟩
 rw [e]
 exact zc (World.grownBy_alloc wr _ none) (.inl (Nat.le_refl _)) cs
theorem zbg {x : Vd} (hx : x.key.length = 16) {cs : Array Value} (hcs : cs = x.cells.toArray) : cs.size = 17 /\ (cs.all fun v => v.oneCell') = true /\ (Tryz.prog.info? 55).map (·.size) = some cs.size := by
 have hsz : cs.size = 17 := by rw [hcs, List.size_toArray, Vd.cells_length hx]
 exact ⟨hsz, by rw [hcs]; simp [Vd.cells, Value.oneCell'], by rw [hsz]; kernel_rfl⟩
theorem every1_in (m l B1 n₀ : Nat) (A : Option Addr) (c : Nat) (V : List Vd) (ok : keysOk V) (hl : V.length < 1000) (J Jx : List Int -> World -> Prop) (hm : 1 <= m) (W : World)
    (hJ : AbidesFrom W.heap.size J)
    (hY : ∀ pre x W, J pre W -> pre.length < V.length -> YieldAt Fence.wide (m - 1) Tryz.prog l #[.int .i64 x] W fun e W' =>
     (e = .returned (.bool true) /\ J (pre ++ [x]) W' /\ Below n₀ W W') \/ (e = .returned (.bool false) /\ Jx (pre ++ [x]) W'))
    (hB1 : B1 < n₀) (hn : n₀ <= W.heap.size) (h1 : W.cell? ⟨B1, 0, none⟩ = some (.slice A V.length c)) (hV : VdsAt W A V) (hA : ∀ a, A = some a -> V ≠ [] -> a.block < n₀) (h0 : J [] W) :
    CallsIn Fence.wide m Tryz.prog 148 #[.func (.yield l) #[] #[], .pointer (some ⟨B1, 0, none⟩)] W fun e W' => (∃ v, e = .returned v) /\
     ((∃ ys, ys = V.map Vd.p /\ J ys W') \/ (∃ pre, True /\ Jx pre W')) := by
 obtain ⟨zs, hzs⟩ : ∃ zs : Array Value, zs = (List.replicate 16 (Value.int .u8 0) ++ [Value.int .i64 0]).toArray := ⟨_, rfl⟩
 have hz : ∀ w, Sem.run Tryz.prog (zeroValue 55) w = .ok (.agg zs) w := fun w => by rw [hzs]; exact zbr w (by kernel_rfl)
 have HZ := hQ_ hzs
 have HY := hQ_ hY
 have HJ := hQ_ hJ
 have H0 := hQ_ h0
 have HV := hQ_ (aQ hV (aQ ok (aQ hA (aQ hl (aQ hB1 hn)))))
 clear hzs hY hJ h0 hV ok hA hl hB1 hn
 refine callsIn_of_wp Tryz.func148 rfl trivial ?_ rfl
 simp only [Tryz.ntmps148, List.size_toArray, List.length_cons, List.length_nil, Nat.reduceAdd, Nat.reduceSub, Array.replicate_succ, Array.replicate_zero, List.push_toArray, List.append_toArray, List.nil_append, List.cons_append]
 gi_wp2
 gi_loopw [7] (fun i wr => ∃ k : Nat, k <= V.length /\ i = .int .i64 (k : Int) /\ J ((V.take k).map Vd.p) wr /\ Below n₀ W wr /\ W.heap.size <= wr.heap.size) (fun i _ => V.length - (intOf i).toNat)
 case atStart => exact ⟨0, Nat.zero_le _, rfl, by simpa using H0.out, Below.refl _ _, Nat.le_refl _⟩
 case round =>
  obtain ⟨k, hkl, hi, hJk, hK, hsz⟩ := hrel
  obtain ⟨I, hI⟩ : ∃ I : Int, I = (k : Int) := ⟨_, rfl⟩
  rw [<- hI] at hi
  subst hi
  by_cases hlt : k < V.length
  · have hne : V ≠ [] := by rintro rfl; simp at hlt
    obtain ⟨b, off, rfl, hc⟩ := HV.out.1 hne
    have hbn : b < n₀ := HV.out.2.2.1 _ rfl hne
    have d1 : decide (I < (V.length : Int)) = true := by simp; omega
    have hIV : I < (V.length : Int) := by omega
    have hI0 : 0 <= I /\ I < 1000 := by have := HV.out.2.2.2.1; omega
    have hkI : I.toNat = k := by omega
    have r1 := zar (hc k hlt) hK hbn
    have hx := HV.out.2.1 _ (List.getElem_mem hlt)
    obtain ⟨x, hxe⟩ : ∃ x, x = V[k] := ⟨_, rfl⟩
    rw [<- hxe] at r1 hx
    rw [<- hkI] at r1
    have i1 := vdSize hx
    have htake : (V.take (k + 1)).map Vd.p = (V.take k).map Vd.p ++ [x.p] := by rw [<- List.take_append_getElem hlt, List.map_append, hxe]; rfl
    have HR := hQ_ (aQ r1 (aQ i1 htake))
    obtain ⟨cs, hcs⟩ : ∃ cs, cs = x.cells.toArray := ⟨_, rfl⟩
    obtain ⟨W0, hW0⟩ : ∃ W0, W0 = (wr.alloc (.cells zs 55)).setRow wr.heap.size cs := ⟨_, rfl⟩
    obtain ⟨hG0, _, c16⟩ := zcn hx hcs hW0
    have hJ0 := HJ.out _ _ _ none hJk hG0 (fun _ e => by cases e)
    have hlen : ((V.take k).map Vd.p).length < V.length := by rw [List.length_map, List.length_take]; omega
    obtain ⟨p, hp⟩ : ∃ p, p = x.p := ⟨_, rfl⟩
    rw [<- hp] at c16
    obtain ⟨fn, tmps, assign, body, hy, hR⟩ := HY.out _ p W0 hJ0 hlen
    have HC := hQ_ (aQ hcs (zbg hx hcs))
    have HN := hQ_ (aQ hK (aQ hG0 (aQ hI (aQ hsz (aQ hlt hp)))))
    have HW := hQ_ hW0
    clear r1 i1 hx hxe htake hcs hG0 hJ0 hlen hp hJk hc hne hbn hI hkI hkl hlt hK hsz hW0
    gi_wp2_with (first
     | (refine uc rfl 55 _ rfl b (off + I.toNat * 17) rfl x.cells _ HR.out.1 Tryz.underlying55 rfl HR.out.2.1 ?_; rw [<- HC.out.1])
     | (refine yx rfl 55 _ _ rfl wr.heap.size cs rfl rfl 55 _ (heap_alloc_new wr _) HC.out.2.2.2 (by rw [HC.out.2.1, HZ.out]; simp) HC.out.2.2.1 ?_
        rw [<- HW.out]))
    refine hR.mono ?_
    rintro e W3 (⟨rfl, hJ3, hk3⟩ | ⟨rfl, hJx3⟩)
    · have H3 := hQ_ (aQ hJ3 hk3)
      clear hJ3 hk3
      gi_wp2
      go_roundw
      case rel =>
       obtain ⟨n1, n2, n3, n4, n5, n6⟩ := HN.out
       obtain ⟨_, _, _, _, _, n7⟩ := HV.out
       refine ⟨k + 1, by omega, by rw [n3]; rfl, by rw [HR.out.2.2, <- n6]; exact H3.out.1, Below.trans' (ua n2 (by omega) (fun _ e => by cases e)) n1 H3.out.2, Nat.le_trans n4 (Nat.le_trans n2.size H3.out.2.size)⟩
      case measure => obtain ⟨n1, n2, n3, n4, n5, n6⟩ := HN.out; simp [intOf]; omega
    · have H3 := hQ_ hJx3
      clear hJx3
      gi_wp2
      refine bodyPost_ret (results_none rfl _ _ _) rfl ?_
      exact ⟨⟨_, rfl⟩, .inr ⟨_, trivial, H3.out⟩⟩
  · have d1 : decide (I < (V.length : Int)) = false := by simp; omega
    obtain rfl : k = V.length := by omega
    rw [List.take_length] at hJk
    have HJk := hQ_ hJk
    clear hlt hI hkl hJk hK hsz
    gi_wp2
    go_end0
    exact ⟨⟨_, rfl⟩, .inl ⟨_, rfl, HJk.out⟩⟩
def yd (V : List Vd) (who : List Int) : List Int := who.map fun i => ((V[i.toNat]?).map Vd.p).getD 0
theorem powersAt_snoc (V : List Vd) (who : List Int) (k : Nat) (h : k < who.length) (hv : (who[k]).toNat < V.length) : yd V (who.take (k + 1)) = yd V (who.take k) ++ [V[(who[k]).toNat].p] := by
 rw [<- List.take_append_getElem h, yd, yd, List.map_append]
 simp [List.getElem?_eq_getElem hv]
theorem those1_in (m l B1 B2 n₀ : Nat) (A A2 : Option Addr) (c c2 : Nat) (V : List Vd) (who : List Int) (ok : keysOk V) (hl : V.length < 1000) (hw : who.length < 1000) (hin : ∀ i ∈ who, 0 <= i /\ i < V.length) (J Jx : List Int -> World -> Prop) (hm : 1 <= m) (W : World)
    (hY : ∀ pre x W, J pre W -> pre.length < who.length -> YieldAt Fence.wide (m - 1) Tryz.prog l #[.int .i64 x] W fun e W' =>
     (e = .returned (.bool true) /\ J (pre ++ [x]) W' /\ Below n₀ W W') \/ (e = .returned (.bool false) /\ Jx (pre ++ [x]) W'))
    (hB2 : B2 < n₀) (hn : n₀ <= W.heap.size) (h1 : W.cell? ⟨B1, 0, none⟩ = some (.slice A2 who.length c2)) (h2 : W.cell? ⟨B2, 0, none⟩ = some (.slice A V.length c)) (hV : VdsAt W A V) (hA : ∀ a, A = some a -> V ≠ [] -> a.block < n₀)
    (hW : IntsAt W A2 who) (hA2 : ∀ a, A2 = some a -> who ≠ [] -> a.block < n₀) (h0 : J [] W) :
    CallsIn Fence.wide m Tryz.prog 140 #[.func (.yield l) #[] #[], .pointer (some ⟨B1, 0, none⟩), .pointer (some ⟨B2, 0, none⟩)] W fun e W' => (∃ v, e = .returned v) /\
     ((∃ ys, ys = yd V who /\ J ys W') \/ (∃ pre, True /\ Jx pre W')) := by
 have HY := hQ_ hY
 have H0 := hQ_ h0
 have HV := hQ_ (aQ hV (aQ ok (aQ hA (aQ hl (aQ hB2 hn)))))
 have HU := hQ_ (aQ hW (aQ hA2 (aQ hw hin)))
 clear hY h0 hV ok hA hl hn hW hA2 hw hin
 refine callsIn_of_wp Tryz.func140 rfl trivial ?_ rfl
 simp only [Tryz.ntmps140, List.size_toArray, List.length_cons, List.length_nil, Nat.reduceAdd, Nat.reduceSub, Array.replicate_succ, Array.replicate_zero, List.push_toArray, List.append_toArray, List.nil_append, List.cons_append]
 gi_wp2
 gi_loopw [8] (fun i wr => ∃ k : Nat, k <= who.length /\ i = .int .i64 (k : Int) /\ J (yd V (who.take k)) wr /\ Below n₀ W wr) (fun i _ => who.length - (intOf i).toNat)
 case atStart => exact ⟨0, Nat.zero_le _, rfl, by simpa [yd] using H0.out, Below.refl _ _⟩
 case round =>
  obtain ⟨k, hkl, hi, hJk, hK⟩ := hrel
  obtain ⟨I, hI⟩ : ∃ I : Int, I = (k : Int) := ⟨_, rfl⟩
  rw [<- hI] at hi
  subst hi
  clear h1
  by_cases hlt : k < who.length
  · have hne : who ≠ [] := by rintro rfl; simp at hlt
    obtain ⟨b2, off2, rfl, hc2⟩ := HU.out.1.get hne
    obtain ⟨z, hz⟩ : ∃ z, z = who[k] := ⟨_, rfl⟩
    have hzr := HU.out.2.2.2 z (by rw [hz]; exact List.getElem_mem hlt)
    have hneV : V ≠ [] := by rintro rfl; simp at hzr; omega
    obtain ⟨b, off, rfl, hc⟩ := HV.out.1 hneV
    have hb2n : b2 < n₀ := HU.out.2.1 _ rfl hne
    have hbn : b < n₀ := HV.out.2.2.1 _ rfl hneV
    have d1 : decide (I < (who.length : Int)) = true := by simp; omega
    have hIV : I < (who.length : Int) := by omega
    have hI0 : 0 <= I /\ I < 1000 := by have := HU.out.2.2.1; omega
    have hkI : I.toNat = k := by omega
    have hzt : z.toNat < V.length := by omega
    have hx := HV.out.2.1 _ (List.getElem_mem hzt)
    have c2' : wr.cell? ⟨b2, off2 + I.toNat, none⟩ = some (.int .i64 z) := by rw [hkI, hz]; exact (hK.cell (p := ⟨b2, off2 + k, none⟩) hb2n).trans (hc2 k hlt)
    have c16 := zc4 hx (zar (hc z.toNat hzt) hK hbn)
    have hB2' := (hK.cell (p := ⟨B2, 0, none⟩) hB2).trans h2
    obtain ⟨p, hp⟩ : ∃ p, p = V[z.toNat].p := ⟨_, rfl⟩
    rw [<- hp] at c16
    have htake : yd V (who.take (k + 1)) = yd V (who.take k) ++ [p] := by
     rw [powersAt_snoc V who k hlt (by rw [<- hz]; exact hzt), hp]
     simp only [<- hz]
    have hlen : (yd V (who.take k)).length < who.length := by rw [yd, List.length_map, List.length_take]; omega
    obtain ⟨fn, tmps, assign, body, hy, hR⟩ := HY.out _ p wr hJk hlen
    have HN := hQ_ (aQ hK (aQ hI (aQ hlt htake)))
    have hz0 : 0 <= z /\ z < (V.length : Int) := hzr
    clear hx htake hlen hp hJk hc hc2 hne hneV hbn hb2n hI hkI hkl hlt hK hzr hz h2 hzt
    gi_wp2
    refine hR.mono ?_
    rintro e W3 (⟨rfl, hJ3, hk3⟩ | ⟨rfl, hJx3⟩)
    · have H3 := hQ_ (aQ hJ3 hk3)
      clear hJ3 hk3
      gi_wp2
      go_roundw
      case rel =>
       obtain ⟨n1, n3, n5, ht⟩ := HN.out
       exact ⟨k + 1, by omega, by rw [n3]; rfl, by rw [ht]; exact H3.out.1, n1.trans H3.out.2⟩
      case measure => obtain ⟨n1, n3, n5, ht⟩ := HN.out; simp [intOf]; omega
    · have H3 := hQ_ hJx3
      clear hJx3
      gi_wp2
      refine bodyPost_ret (results_none rfl _ _ _) rfl ?_
      exact ⟨⟨_, rfl⟩, .inr ⟨_, trivial, H3.out⟩⟩
  · have d1 : decide (I < (who.length : Int)) = false := by simp; omega
    obtain rfl : k = who.length := by omega
    rw [List.take_length] at hJk
    have HJk := hQ_ hJk
    clear hlt hI hkl hJk hK
    gi_wp2
    go_end0
    exact ⟨⟨_, rfl⟩, .inl ⟨_, rfl, HJk.out⟩⟩
end
section
open Go.RowKit Go.Shelf
attribute [local go_sem] Oper.semAt_some
theorem everyone_is (x : Value) (A : Option Addr) (n c : Nat) (w : World) (hx : x = .slice A n c) :
    Calls Tryz.prog 141 #[x] w fun e w' => e = .returned (.func (.func 148) #[] #[.pointer (some ⟨w.heap.size, 0, none⟩)]) /\
     w' = w.alloc (.cells #[x] 22) := by
 subst hx
 go_enter Tryz.func141, Tryz.ntmps141
 go_wp2_with fail
 go_ret
 exact ⟨rfl, rfl⟩
theorem those_is (A A2 : Option Addr) (n c n2 c2 : Nat) (w : World) :
    Calls Tryz.prog 121 #[.slice A n c, .slice A2 n2 c2] w fun e w' => e = .returned (.func (.func 140) #[] #[.pointer (some ⟨w.heap.size + 1, 0, none⟩), .pointer (some ⟨w.heap.size, 0, none⟩)]) /\
     w' = (w.alloc (.cells #[.slice A n c] 22)).alloc (.cells #[.slice A2 n2 c2] 102) := by
 go_enter Tryz.func121, Tryz.ntmps121
 go_wp2_with fail
 go_ret
 exact ⟨rfl, rfl⟩
theorem everyone_stops (m n₀ : Nat) (hm : 1 <= m) (A : Option Addr) (c : Nat) (V : List Vd) (ok : keysOk V) (hl : V.length < 1000) (w : World) (hV : VdsAt w A V) (hA : ∀ a, A = some a -> V ≠ [] -> a.block < n₀) (hn : n₀ <= w.heap.size) (B : Nat) (hB : B < n₀) (h1 : w.cell? ⟨B, 0, none⟩ = some (.slice A V.length c)) :
    SeqStopsK Fence.wide m Tryz.prog 148 #[.pointer (some ⟨B, 0, none⟩)] (fun x : Int => #[.int .i64 x]) (Below n₀) (fun ys => ys = V.map Vd.p) (fun _ => True) V.length w := fun l J Jx W hW hJ _ hY h0 =>
 every1_in m l B n₀ A c V ok hl J Jx hm W hJ hY hB (Nat.le_trans hn hW.size) ((hW.cell (p := ⟨B, 0, none⟩) (by dsimp only; omega)).trans h1)
  (fun hne => by obtain ⟨b, off, rfl, hc⟩ := hV hne; exact ⟨b, off, rfl, fun k hk => zar (hc k hk) hW (by have := hA _ rfl hne; dsimp only at this; omega)⟩) hA h0
theorem ints_below {n : Nat} {w w' : World} {A : Option Addr} {l : List Int} (h : IntsAt w A l) (hk : Below n w w') (hA : ∀ a, A = some a -> l ≠ [] -> a.block < n) : IntsAt w' A l := fun hl => by
 obtain ⟨ad, rfl, hc⟩ := h hl
 exact ⟨ad, rfl, fun j hj => (hk.cell (by rw [yk]; exact hA ad rfl hl)).trans (hc j hj)⟩
theorem those_stops (m n₀ : Nat) (hm : 1 <= m) (A A2 : Option Addr) (c c2 : Nat) (V : List Vd) (who : List Int) (ok : keysOk V) (hl : V.length < 1000) (hw : who.length < 1000) (hin : ∀ i ∈ who, 0 <= i /\ i < V.length) (w : World) (hV : VdsAt w A V) (hA : ∀ a, A = some a -> V ≠ [] -> a.block < n₀) (hU : IntsAt w A2 who) (hA2 : ∀ a, A2 = some a -> who ≠ [] -> a.block < n₀) (hn : n₀ <= w.heap.size) (B1 B2 : Nat) (hB1 : B1 < n₀) (hB2 : B2 < n₀) (h1 : w.cell? ⟨B1, 0, none⟩ = some (.slice A2 who.length c2)) (h2 : w.cell? ⟨B2, 0, none⟩ = some (.slice A V.length c)) :
    SeqStopsK Fence.wide m Tryz.prog 140 #[.pointer (some ⟨B1, 0, none⟩), .pointer (some ⟨B2, 0, none⟩)] (fun x : Int => #[.int .i64 x]) (Below n₀) (fun ys => ys = yd V who) (fun _ => True) who.length w := fun l J Jx W hW hJ _ hY h0 =>
 those1_in m l B1 B2 n₀ A A2 c c2 V who ok hl hw hin J Jx hm W hY hB2 (Nat.le_trans hn hW.size) ((hW.cell (p := ⟨B1, 0, none⟩) (by dsimp only; omega)).trans h1) ((hW.cell (p := ⟨B2, 0, none⟩) (by dsimp only; omega)).trans h2)
  (fun hne => by obtain ⟨b, off, rfl, hc⟩ := hV hne; exact ⟨b, off, rfl, fun k hk => zar (hc k hk) hW (by have := hA _ rfl hne; dsimp only at this; omega)⟩) hA
  (ints_below hU hW (fun a ha hne => by have := hA2 a ha hne; omega)) hA2 h0
def sumW (zs : List Int) : Int := zs.foldl (fun s x => wrap64 (s + x)) 0
theorem zdi (zs : List Int) (x : Int) : sumW (zs ++ [x]) = wrap64 (sumW zs + x) := by simp [sumW]
theorem add_is (w : World) (gf : Nat) (lb : Array Value) (eg : ∀ args w, (callFunc gf args).run Tryz.prog w = .ok (.enter gf args) w) (zs : List Int) (N : Nat)
    (hS : SeqStopsK Fence.wide 4 Tryz.prog gf lb (fun x : Int => #[.int .i64 x]) (Below w.heap.size) (fun ys => ys = zs) (fun _ => True) N (w.alloc (.cells #[.int .i64 0] 3))) :
    Calls Tryz.prog 120 #[.func (.func gf) #[] lb] w fun e w' => e = .returned (.int .i64 (sumW zs)) /\ Below w.heap.size w w' := by
 refine (callsIn_wide (n := 5)).1 ?_
 refine callsIn_of_wp_marks Tryz.func120 rfl trivial ?_ rfl
 simp only [Tryz.ntmps120, List.size_toArray, List.length_cons, List.length_nil, Nat.reduceAdd, Nat.reduceSub, Array.replicate_succ, Array.replicate_zero, List.push_toArray, List.append_toArray, List.nil_append, List.cons_append]
 gi_wp2
 have b0 := Boxed.new w 3 (.int .i64 0)
 have hBl := (Below.refl w.heap.size w).alloc (Nat.le_refl _) (.cells #[.int .i64 0] 3)
 obtain ⟨W0, hW0⟩ : ∃ W0, w.alloc (.cells #[.int .i64 0] 3) = W0 := ⟨_, rfl⟩
 have hsz : W0.heap.size = w.heap.size + 1 := by rw [<- hW0]; simp
 rw [hW0] at hBl b0 hS ⊢
 clear hW0
 refine wpIn_rangeFunc_ownF rfl (by omega) (gf := gf) (lb := lb) rfl trivial eg hS (fun h1 h2 => belowK_t h1 h2) (belowK_b (by omega)) (Below.refl _ _) (fun _ => rfl)
  (fun pre W => (W.cell? ⟨w.heap.size, 0, none⟩ = some (.int .i64 (sumW pre)) /\ W.frozen? ⟨w.heap.size, 0, none⟩ = false) /\ Below w.heap.size w W)
  (fun _ _ _ => False)
  (OwnFrom.and (Own.from (fun s A B row hs hg hr => ⟨cell_kept hs.1 hg hr, (frozen_kept hs.1 hg hr).trans hs.2⟩) _) (ownFrom_below (Nat.le_refl _) (by omega)))
  (fun _ _ _ _ _ hs _ _ => hs)
  ⟨⟨b0.cell, b0.frozen⟩, hBl⟩
  (fun x => { tmps := #[.func (.func gf) #[] lb, undef, .int .i64 0, .pointer (some ⟨w.heap.size, 0, none⟩), .int .i64 x, .func (.func gf) #[] lb, .int .i64 x, undef, undef, undef, undef], defers := [] }) ?assign ?body ?done ?stop
 case assign =>
  intro l x W K hK
  gi_wp2
  exact hK
 case body =>
  rintro l pre x W ⟨⟨hc, hf⟩, hbl⟩ _
  gi_wp2
  exact ⟨KeepsOthers.setCell _ _ _, (Below.refl w.heap.size W).setCell (p := ⟨w.heap.size, 0, none⟩) (Nat.le_refl _) _, ⟨by rw [zdi]; exact World.cell?_setCell_same' _ _ _ (by rw [hc]; rfl), by rw [World.frozen?_setCell]; exact hf⟩, hbl.setCell (p := ⟨w.heap.size, 0, none⟩) (Nat.le_refl _) _⟩
 case done =>
  rintro D ys W hD rfl ⟨⟨hc, _⟩, hbl⟩ hK
  gi_wp2
  refine ⟨by simp, .inl ⟨_, _, rfl, run_takeDeferred hK, ?_⟩⟩
  exact ⟨_, results_tmp rfl _ _ _, rfl, hbl.trans (belowK_b (w := w) (Nat.le_refl _) W D _ _ (by omega) hK rfl rfl)⟩
 case stop =>
  rintro D c pre W _ _ h _
  exact h.elim
end
end Go.Proofs.YtigafnbofmiknaaGreatDoor
