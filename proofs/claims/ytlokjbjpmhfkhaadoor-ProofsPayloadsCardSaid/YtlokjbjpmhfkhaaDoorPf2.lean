/-
  Proofs: a 39 of round 0; a timeout that comes from nowhere.
-/
import Derived.Test.YtlokjbjpmhfkhaaDoorPf1
namespace Go.Proofs.YtlokjbjpmhfkhaaDoor
open Go.RowKit

theorem info3t : (Tryd.prog.info? 42).map (·.size) = some 3 := by kernel_rfl
theorem info28 : (Tryd.prog.info? 58).map (·.size) = some 28 := by kernel_rfl
theorem tc_cells {w : World} {q o : Nat} {e r : Int} {vs : Value} (h : w.rangeAt q o (tcC e r vs).toList) : w.cell? ⟨q, o, none⟩ = some (.int .i64 e) ∧ w.cell? ⟨q, o + 1, none⟩ = some (.int .i64 r) ∧ w.cell? ⟨q, o + 2, none⟩ = some vs := ⟨h 0 _ rfl, h 1 _ rfl, h 2 _ rfl⟩
/-- A timeout's cells: its epoch and round, its 39, its 42, who. -/
def toC (e r : Int) (q t f : Array Value) : Array Value := #[.int .i64 e, .int .i64 r] ++ (q ++ (t ++ f))
theorem to_cells {w : World} {g : Nat} {t0 : TypeId} {e r : Int} {q t f : Array Value} (hq : q.size = 19) (h : Blk w g t0 (toC e r q t f)) :
    w.cell? ⟨g, 0, none⟩ = some (.int .i64 e) ∧ w.cell? ⟨g, 1, none⟩ = some (.int .i64 r) ∧ w.rangeAt g 2 q.toList ∧ w.rangeAt g 21 t.toList := by
  have r0 := range_blk h
  have e1 : (toC e r q t f).toList = [.int .i64 e, .int .i64 r] ++ (q.toList ++ (t.toList ++ f.toList)) := by simp [toC]
  rw [e1] at r0
  refine ⟨by have := r0 0 _ rfl; simpa using this, by have := r0 1 _ rfl; simpa using this, ?_, ?_⟩
  · have := range_part r0
    rwa [Nat.zero_add] at this
  · have r1 : w.rangeAt g 0 (([.int .i64 e, .int .i64 r] ++ q.toList) ++ (t.toList ++ f.toList)) := by rw [List.append_assoc]; exact r0
    have := range_part r1
    rwa [Nat.zero_add, show ([Value.int .i64 e, .int .i64 r] ++ q.toList).length = 21 by simp [hq]] at this
def toN (V : List Vd) (e : Int) (Bl Gl : List Int) (n2 : Nat) (te tr : Int) : Nat := if turnN V e e 2 ≠ 0 then turnN V e e 2 else if firstN V e e Bl Gl n2 ≠ 0 then firstN V e e Bl Gl n2 else turnN V e te tr
section
variable {B : Nat} {E : Nat → Addr} {e : Int} {A : Option Addr} {c : Nat} {V : List Vd} {Gl : List Int} {G : Array Value}
variable (w : World) (he : ErrEnv w B E) (hV : VdsAt w A V) (ok : keysOk V) (hl : V.length < 1000) (hG : G = arrV .u8 Gl) (hGl : Gl.length = 16) (gv : Array Value) (hgv : gv = grC e (.slice A V.length c) G)
include he hV ok hl hG hGl hgv
set_option maxRecDepth 100000 in
set_option maxHeartbeats 1000000 in
theorem qc0_is (qe : Int) (Bl : List Int) (hBl : Bl.length = 16) (Bv : Array Value) (hB : Bv = arrV .u8 Bl) (A2 : Option Addr) (n2 c2 : Nat) (qv : Array Value) (hqv : qv = qcC qe 0 Bv (.slice A2 n2 c2)) :
    Calls Tryd.prog 12 #[.agg gv, .agg qv] w fun e' w' => e' = .returned (evOf E (firstN V e qe Bl Gl n2)) ∧ w.grownBy w' none := by
  obtain ⟨q, hq⟩ : ∃ q, w.heap.size = q := ⟨_, rfl⟩
  obtain ⟨w1, hw1⟩ : ∃ w1, (w.alloc (.cells gv 34)).alloc (.cells qv 39) = w1 := ⟨_, rfl⟩
  have g1 : w.grownBy w1 none := by rw [← hw1]; exact grown_trans (World.grownBy_alloc _ _ none) (World.grownBy_alloc _ _ none)
  have b1 : Blk w1 q 34 gv := by rw [← hw1, ← hq]; exact (Blk.new _ _ _).alloc _
  have b2 : Blk w1 (q + 1) 39 qv := by
    have h := Blk.new (w.alloc (.cells gv 34)) 39 qv
    rw [World.size_alloc, hq, hw1] at h
    exact h
  have hs : gv.size = 18 := by rw [hgv]; exact grC_size (by rw [hG, arr_size, hGl])
  have hB16 : Bv.size = 16 := by rw [hB, arr_size, hBl]
  have hs2 : qv.size = 19 := by rw [hqv]; exact qcC_size hB16
  have HC := Lib.hid (first_is w1 (he.grown g1 (fun _ e => by cases e)) (fun hne => by
    obtain ⟨b, off, eA, hc⟩ := hV hne
    exact ⟨b, off, eA, fun k hk => range_kept (hc k hk) g1⟩) ok hl hG hGl gv hgv qe 0 Bl hBl Bv hB A2 n2 c2 qv hqv)
  obtain ⟨_, x1, _, _⟩ := qc_cells hB16 (hqv ▸ b2)
  have HX := Lib.hid (And.intro g1 (And.intro b1 (And.intro hs (And.intro b2 hs2))))
  have HW := Lib.hid (And.intro hw1 hq)
  clear he hV ok hl hG hGl hgv g1 b1 b2 hs hs2 hw1 hq hBl hB hqv hB16
  go_enter Tryd.func12, Tryd.ntmps12
  go_upto_region 1 with (fail)
  rw [HW.out.1, HW.out.2]
  go_wp2_with (first
    | (refine wpList_load_row rfl 34 _ rfl q rfl 34 gv (0, 0) _ HX.out.2.1 Tryd.underlying34 rfl (by rw [HX.out.2.2.1]; exact info18) ?_)
    | (refine wpList_load_row rfl 39 _ rfl (q + 1) rfl 39 qv (0, 0) _ HX.out.2.2.2.1 Tryd.underlying39 rfl (by rw [HX.out.2.2.2.2]; exact info19) ?_))
  refine HC.out.mono ?_
  clear HC
  rintro e' w2 ⟨rfl, g2⟩
  obtain ⟨R, hR⟩ : ∃ R, evOf E (firstN V e qe Bl Gl n2) = R := ⟨_, rfl⟩
  rw [hR]
  have HG := Lib.hid (And.intro (grown_trans HX.out.1 g2) hR)
  clear g2 hR
  go_wp2_with fail
  go_ret
  exact ⟨by rw [HG.out.2]; rfl, HG.out.1⟩
set_option maxRecDepth 100000 in
set_option maxHeartbeats 1000000 in
theorem tc_bad (te tr : Int) (vs : Value) (hbad : turnN V e te tr ≠ 0) (tv : Array Value) (htv : tv = tcC te tr vs) :
    Calls Tryd.prog 40 #[.agg gv, .agg tv] w fun e' w' => e' = .returned (evOf E (turnN V e te tr)) ∧ w.grownBy w' none := by
  obtain ⟨q, hq⟩ : ∃ q, w.heap.size = q := ⟨_, rfl⟩
  obtain ⟨w1, hw1⟩ : ∃ w1, (w.alloc (.cells gv 34)).alloc (.cells tv 42) = w1 := ⟨_, rfl⟩
  have g1 : w.grownBy w1 none := by rw [← hw1]; exact grown_trans (World.grownBy_alloc _ _ none) (World.grownBy_alloc _ _ none)
  have b1 : Blk w1 q 34 gv := by rw [← hw1, ← hq]; exact (Blk.new _ _ _).alloc _
  have b2 : Blk w1 (q + 1) 42 tv := by
    have h := Blk.new (w.alloc (.cells gv 34)) 42 tv
    rw [World.size_alloc, hq, hw1] at h
    exact h
  have hs : gv.size = 18 := by rw [hgv]; exact grC_size (by rw [hG, arr_size, hGl])
  have HC := Lib.hid (turn_is w1 (he.grown g1 (fun _ e => by cases e)) (fun hne => by
    obtain ⟨b, off, eA, hc⟩ := hV hne
    exact ⟨b, off, eA, fun k hk => range_kept (hc k hk) g1⟩) ok hl hG hGl gv hgv te tr)
  obtain ⟨x0, x1, _⟩ := tc_cells (range_blk (htv ▸ b2))
  have HX := Lib.hid (And.intro g1 (And.intro b1 hs))
  have HW := Lib.hid (And.intro hw1 hq)
  obtain ⟨a, ha⟩ := evOf_pos E hbad
  rw [ha] at HC ⊢
  clear he hV ok hl hG hGl hgv g1 b1 b2 hs hw1 hq htv hbad ha
  go_enter Tryd.func40, Tryd.ntmps40
  go_upto_region 1 with (fail)
  rw [HW.out.1, HW.out.2]
  go_wp2_with (first
    | (refine wpList_load_row rfl 34 _ rfl q rfl 34 gv (0, 0) _ HX.out.2.1 Tryd.underlying34 rfl (by rw [HX.out.2.2]; exact info18) ?_))
  refine HC.out.mono ?_
  clear HC
  rintro e' w2 ⟨rfl, g2⟩
  have HG := Lib.hid (grown_trans HX.out.1 g2)
  clear g2
  go_wp2_with fail
  go_ret
  exact ⟨rfl, HG.out⟩
set_option maxRecDepth 100000 in
set_option maxHeartbeats 1000000 in
theorem way_bad (te tr : Int) (vs : Value) (hbad : turnN V e te tr ≠ 0) (tv : Array Value) (htv : tv = tcC te tr vs) :
    Calls Tryd.prog 27 #[.agg gv, .int .i64 2, .int .i64 0, .agg tv] w fun e' w' => e' = .returned (evOf E (turnN V e te tr)) ∧ w.grownBy w' none := by
  obtain ⟨q, hq⟩ : ∃ q, w.heap.size = q := ⟨_, rfl⟩
  obtain ⟨w1, hw1⟩ : ∃ w1, (w.alloc (.cells gv 34)).alloc (.cells tv 42) = w1 := ⟨_, rfl⟩
  have g1 : w.grownBy w1 none := by rw [← hw1]; exact grown_trans (World.grownBy_alloc _ _ none) (World.grownBy_alloc _ _ none)
  have b1 : Blk w1 q 34 gv := by rw [← hw1, ← hq]; exact (Blk.new _ _ _).alloc _
  have b2 : Blk w1 (q + 1) 42 tv := by
    have h := Blk.new (w.alloc (.cells gv 34)) 42 tv
    rw [World.size_alloc, hq, hw1] at h
    exact h
  have hs : gv.size = 18 := by rw [hgv]; exact grC_size (by rw [hG, arr_size, hGl])
  have HC := Lib.hid (tc_bad w1 (he.grown g1 (fun _ e => by cases e)) (fun hne => by
    obtain ⟨b, off, eA, hc⟩ := hV hne
    exact ⟨b, off, eA, fun k hk => range_kept (hc k hk) g1⟩) ok hl hG hGl gv hgv te tr vs hbad tv htv)
  have HX := Lib.hid (And.intro g1 (And.intro b1 (And.intro hs (And.intro b2 (show tv.size = 3 by rw [htv]; rfl)))))
  have HW := Lib.hid (And.intro hw1 hq)
  obtain ⟨a, ha⟩ := evOf_pos E hbad
  rw [ha] at HC ⊢
  clear he hV ok hl hG hGl hgv g1 b1 b2 hs hw1 hq htv hbad ha
  go_enter Tryd.func27, Tryd.ntmps27
  go_upto_region 1 with (fail)
  rw [HW.out.1, HW.out.2]
  go_wp2_with (first
    | (refine wpList_load_row rfl 34 _ rfl q rfl 34 gv (0, 0) _ HX.out.2.1 Tryd.underlying34 rfl (by rw [HX.out.2.2.1]; exact info18) ?_)
    | (refine wpList_load_row rfl 42 _ rfl (q + 1) rfl 42 tv (0, 0) _ HX.out.2.2.2.1 Tryd.underlying42 rfl (by rw [HX.out.2.2.2.2]; exact info3t) ?_))
  refine HC.out.mono ?_
  clear HC
  rintro e' w2 ⟨rfl, g2⟩
  have HG := Lib.hid (grown_trans HX.out.1 g2)
  clear g2
  go_wp2_with fail
  go_ret
  exact ⟨rfl, HG.out⟩
set_option maxRecDepth 100000 in
set_option maxHeartbeats 1000000 in
theorem timeout_bad (Bl : List Int) (hBl : Bl.length = 16) (Bv : Array Value) (hB : Bv = arrV .u8 Bl) (A2 : Option Addr) (n2 c2 : Nat) (te tr : Int) (vs : Value) (hbad : turnN V e te tr ≠ 0) (f : Array Value) (qv tv ov : Array Value) (hqv : qv = qcC e 0 Bv (.slice A2 n2 c2)) (htv : tv = tcC te tr vs) (hov : ov = toC e 2 qv tv f) (hos : ov.size = 28) :
    Calls Tryd.prog 14 #[.agg gv, .agg ov] w fun e' w' => e' = .returned (evOf E (toN V e Bl Gl n2 te tr)) ∧ w.grownBy w' none := by
  obtain ⟨q, hq⟩ : ∃ q, w.heap.size = q := ⟨_, rfl⟩
  obtain ⟨w1, hw1⟩ : ∃ w1, (w.alloc (.cells gv 34)).alloc (.cells ov 58) = w1 := ⟨_, rfl⟩
  have g1 : w.grownBy w1 none := by rw [← hw1]; exact grown_trans (World.grownBy_alloc _ _ none) (World.grownBy_alloc _ _ none)
  have b1 : Blk w1 q 34 gv := by rw [← hw1, ← hq]; exact (Blk.new _ _ _).alloc _
  have b2 : Blk w1 (q + 1) 58 ov := by
    have h := Blk.new (w.alloc (.cells gv 34)) 58 ov
    rw [World.size_alloc, hq, hw1] at h
    exact h
  have hs : gv.size = 18 := by rw [hgv]; exact grC_size (by rw [hG, arr_size, hGl])
  have hB16 : Bv.size = 16 := by rw [hB, arr_size, hBl]
  have hs2 : qv.size = 19 := by rw [hqv]; exact qcC_size hB16
  have hvd : ∀ Y : World, w.grownBy Y none → VdsAt Y A V := fun Y hY hne => by
    obtain ⟨b, off, eA, hc⟩ := hV hne
    exact ⟨b, off, eA, fun k hk => range_kept (hc k hk) hY⟩
  have HT := Lib.hid (turn_is w1 (he.grown g1 (fun _ e => by cases e)) (hvd _ g1) ok hl hG hGl gv hgv e 2)
  have HQ := Lib.hid (fun (Y : World) (hY : w.grownBy Y none) => qc0_is Y (he.grown hY (fun _ e => by cases e)) (hvd _ hY) ok hl hG hGl gv hgv e Bl hBl Bv hB A2 n2 c2 qv hqv)
  have HY := Lib.hid (fun (Y : World) (hY : w.grownBy Y none) => way_bad Y (he.grown hY (fun _ e => by cases e)) (hvd _ hY) ok hl hG hGl gv hgv te tr vs hbad tv htv)
  have hb2 : Blk w1 (q + 1) 58 (toC e 2 qv tv f) := hov ▸ b2
  obtain ⟨x0, x1, rq, rt⟩ := to_cells hs2 hb2
  have HX := Lib.hid (And.intro g1 (And.intro b1 (And.intro hs (And.intro hb2 (And.intro hs2 (show tv.size = 3 by rw [htv]; rfl))))))
  have HW := Lib.hid (And.intro hw1 hq)
  have HB := Lib.hid (And.intro hbad (show ∀ Y : World, Blk Y (q + 1) 58 (toC e 2 qv tv f) → Y.cell? ⟨q + 1, 3, none⟩ = some (.int .i64 0) from fun Y hY => by
    obtain ⟨_, _, r, _⟩ := to_cells hs2 hY
    have := r 1 (.int .i64 0) (by rw [hqv]; simp [qcC])
    exact this))
  clear he hV ok hl hG hGl hgv g1 b1 b2 hb2 hs hs2 hw1 hq htv hqv hov hos hBl hB hB16 hbad hvd rq rt
  go_enter Tryd.func14, Tryd.ntmps14
  go_upto_region 1 with (fail)
  rw [HW.out.1, HW.out.2]
  go_wp2_with (first
    | (refine wpList_load_row rfl 34 _ rfl q rfl 34 gv (0, 0) _ HX.out.2.1 Tryd.underlying34 rfl (by rw [HX.out.2.2.1]; exact info18) ?_))
  refine HT.out.mono ?_
  clear HT x0 x1
  rintro e' w2 ⟨rfl, g2⟩
  by_cases ht : turnN V e e 2 = 0
  · have hE : evOf E (turnN V e e 2) = .nilIface := by rw [ht]; rfl
    rw [hE]
    have H2 := Lib.hid (And.intro (grown_trans HX.out.1 g2) (And.intro (HX.out.2.1.grown g2 (by simp)) (HX.out.2.2.2.1.grown g2 (by simp))))
    have HT0 := Lib.hid ht
    clear hE ht g2
    go_wp2_with (first
      | (refine wpList_load_row rfl 34 _ rfl q rfl 34 gv (0, 0) _ H2.out.2.1 Tryd.underlying34 rfl (by rw [HX.out.2.2.1]; exact info18) ?_)
      | (refine wpList_load_mid rfl 39 _ rfl (q + 1) 2 rfl qv.toList _ (to_cells HX.out.2.2.2.2.1 H2.out.2.2).2.2.1 Tryd.underlying39 rfl (by rw [Array.length_toList, HX.out.2.2.2.2.1]; exact info19) ?_))
    refine (HQ.out w2 H2.out.1).mono ?_
    clear HQ
    rintro e' w3 ⟨rfl, g3⟩
    by_cases hf : firstN V e e Bl Gl n2 = 0
    · have hE : evOf E (firstN V e e Bl Gl n2) = .nilIface := by rw [hf]; rfl
      rw [hE]
      have H3 := Lib.hid (And.intro (grown_trans H2.out.1 g3) (And.intro (H2.out.2.1.grown g3 (by simp)) (H2.out.2.2.grown g3 (by simp))))
      have HF0 := Lib.hid hf
      clear hE hf g3
      obtain ⟨y0, y1, _, rt⟩ := to_cells HX.out.2.2.2.2.1 H3.out.2.2
      have y3 := HB.out.2 w3 H3.out.2.2
      have HRT := Lib.hid rt
      clear rt
      go_wp2_with (first
        | (refine wpList_load_row rfl 34 _ rfl q rfl 34 gv (0, 0) _ H3.out.2.1 Tryd.underlying34 rfl (by rw [HX.out.2.2.1]; exact info18) ?_)
        | (refine wpList_load_mid rfl 42 _ rfl (q + 1) 21 rfl tv.toList _ HRT.out Tryd.underlying42 rfl (by rw [Array.length_toList, HX.out.2.2.2.2.2]; exact info3t) ?_))
      refine (HY.out w3 H3.out.1).mono ?_
      clear HY y0 y1 y3
      rintro e' w4 ⟨rfl, g4⟩
      obtain ⟨a, ha⟩ := evOf_pos E HB.out.1
      rw [ha]
      have H4 := Lib.hid (And.intro (grown_trans H3.out.1 g4) (show evOf E (toN V e Bl Gl n2 te tr) = errV a by rw [toN, if_neg (by simp [HT0.out]), if_neg (by simp [HF0.out]), ha]))
      clear ha g4
      go_wp2_with fail
      go_ret
      exact ⟨by rw [H4.out.2]; rfl, H4.out.1⟩
    · obtain ⟨a, ha⟩ := evOf_pos E hf
      rw [ha]
      have H3 := Lib.hid (And.intro (grown_trans H2.out.1 g3) (show evOf E (toN V e Bl Gl n2 te tr) = errV a by rw [toN, if_neg (by simp [HT0.out]), if_pos hf, ha]))
      clear hf ha g3
      go_wp2_with fail
      go_ret
      exact ⟨by rw [H3.out.2]; rfl, H3.out.1⟩
  · obtain ⟨a, ha⟩ := evOf_pos E ht
    rw [ha]
    have H2 := Lib.hid (And.intro (grown_trans HX.out.1 g2) (show evOf E (toN V e Bl Gl n2 te tr) = errV a by rw [toN, if_pos ht, ha]))
    clear ht ha g2
    go_wp2_with fail
    go_ret
    exact ⟨by rw [H2.out.2]; rfl, H2.out.1⟩
end
end Go.Proofs.YtlokjbjpmhfkhaaDoor
