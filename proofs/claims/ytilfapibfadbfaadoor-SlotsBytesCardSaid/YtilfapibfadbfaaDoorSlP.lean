/-
  Slots: the document's opening of two sectors (quorateref07.Open).
-/
import Derived.Test.YtilfapibfadbfaaDoorSlO
import Derived.Test.YtilfapibfadbfaaDoorSlG
namespace Go.Proofs.YtilfapibfadbfaaDoor
open Go.RowKit Go.Maps

attribute [local go_sem] Oper.semAt_some
def openR (ba bb : List UInt8) : Option (Nat × List UInt8) :=
  match readR bb 1 with
  | none => readR ba 0
  | some cx => match readR ba 0 with
    | none => some cx
    | some c0 => if c0.1 < cx.1 then some cx else some c0
/-- What the document opens is what the program's two steps select. -/
theorem open_sel {bb : Nat → List UInt8} (h0 : (bb 0).length = 64) (h1 : (bb 1).length = 64) : openR (bb 0) (bb 1) = selK bb 2 := by
  have e0 := read_parse h0 0
  have e1 := read_parse h1 1
  unfold openR
  rw [show readR (bb 0) 0 = _ from e0, show readR (bb 1) 1 = _ from e1]
  show _ = selStep 1 (parseS (bb 1)) (selStep 0 (parseS (bb 0)) none)
  cases p0 : parseS (bb 0) with
  | none =>
    cases p1 : parseS (bb 1) with
    | none => rfl
    | some c1 =>
      by_cases q1 : c1.1 % 2 = 1
      · simp [selStep, q1, Option.filter]
      · simp [selStep, q1, Option.filter]
  | some c0 =>
    by_cases q0 : c0.1 % 2 = 0
    · cases p1 : parseS (bb 1) with
      | none => simp [selStep, q0, Option.filter]
      | some c1 =>
        by_cases q1 : c1.1 % 2 = 1
        · have hne : c0.1 ≠ c1.1 := by omega
          by_cases hl : c0.1 < c1.1
          · have hl2 : ¬ c1.1 < c0.1 := by omega
            simp [selStep, q0, q1, Option.filter, hl, hl2]
          · have hl2 : c1.1 < c0.1 := by omega
            simp [selStep, q0, q1, Option.filter, hl, hl2]
        · simp [selStep, q0, q1, Option.filter]
    · cases p1 : parseS (bb 1) with
      | none => simp [selStep, q0, Option.filter]
      | some c1 =>
        by_cases q1 : c1.1 % 2 = 1
        · simp [selStep, q0, q1, Option.filter]
        · simp [selStep, q0, q1, Option.filter]
set_option maxRecDepth 100000 in
set_option maxHeartbeats 1000000 in
theorem ropen_is (w : World) (ba bb : List UInt8) (ha : ba.length = 64) (hb : bb.length = 64) :
    Calls Tryd.prog 15 #[secV (intsB ba), secV (intsB bb)] w fun e w' => w.grownBy w' none ∧ ((openR ba bb = none ∧ e = .returned (.tuple #[.int .i64 0, .slice none 0 0, .bool false])) ∨
      (∃ cn rc, openR ba bb = some (cn, rc) ∧ ∃ A cap, e = .returned (.tuple #[.int .i64 (cn : Int), .slice A rc.length cap, .bool true]) ∧ BytesAt w' A rc ∧ ∀ ad, A = some ad → w.heap.size ≤ ad.block)) := by
  obtain ⟨cs, hcs⟩ : ∃ cs, secV (intsB ba) = .agg cs := ⟨_, rfl⟩
  obtain ⟨ds, hds⟩ : ∃ ds, secV (intsB bb) = .agg ds := ⟨_, rfl⟩
  have hcz : cs.size = 64 := by injection hcs with e; rw [← e]; simpa [intsB] using ha
  have hdz : ds.size = 64 := by injection hds with e; rw [← e]; simpa [intsB] using hb
  have hr1 := fun V : World => rread_is V ba ha 0
  have hr2 := fun V : World => rread_is V bb hb 1
  rw [hcs] at hr1 ⊢
  rw [hds] at hr2 ⊢
  obtain ⟨q, hq⟩ : ∃ q, w.heap.size = q := ⟨_, rfl⟩
  obtain ⟨W2, hW2⟩ : ∃ W2, (w.alloc (.cells cs 23)).alloc (.cells ds 23) = W2 := ⟨_, rfl⟩
  have g2 : w.grownBy W2 none := by rw [← hW2]; exact grown_trans (World.grownBy_alloc _ _ none) (World.grownBy_alloc _ _ none)
  have b1 : Blk W2 q 23 cs := by rw [← hW2, ← hq]; exact (Blk.new w _ _).alloc _
  have b2 : Blk W2 (q + 1) 23 ds := by
    rw [← hW2, ← hq]
    have h := Blk.new (w.alloc (.cells cs 23)) 23 ds
    rwa [World.size_alloc] at h
  have HX := Lib.hid (And.intro g2 (And.intro hcz (And.intro hdz (And.intro b1 b2))))
  have HR1 := Lib.hid hr1
  have HR2 := Lib.hid hr2
  clear hr1 hr2 hcs hds hcz hdz g2 b1 b2
  refine (callsIn_wide (n := 6)).1 ?_
  refine callsIn_of_wp Tryd.func15 rfl trivial ?_ rfl
  simp only [Tryd.ntmps15, List.size_toArray, List.length_cons, List.length_nil, Nat.reduceAdd, Nat.reduceSub, Array.replicate_succ, Array.replicate_zero, List.push_toArray, List.append_toArray, List.nil_append, List.cons_append]
  gi_upto_region 1 with fail
  try rw [hq]
  try rw [hW2]
  gi_wp2_with (first
    | (refine wpListIn_load_row rfl 23 _ rfl q rfl 23 cs (0, 0) _ HX.out.2.2.2.1 Tryd.underlying23 rfl (by rw [HX.out.2.1]; kernel_rfl) ?_)
    | gi_in)
  refine ⟨trivial, ?_⟩
  refine (callsIn_wide.2 (HR1.out W2)).mono ?_
  rintro e w3 ⟨g3, hor⟩
  have H3 := Lib.hid (And.intro (grown_trans HX.out.1 g3) (HX.out.2.2.2.2.grown g3 (by simp)))
  rcases hor with ⟨hn1, rfl⟩ | ⟨c1, x1, hs1, A1, k1, rfl, hb1, hf1⟩
  · have HN1 := Lib.hid hn1
    clear hn1 g3
    gi_wp2_with (first
      | (refine wpListIn_load_row rfl 23 _ rfl (q + 1) rfl 23 ds (0, 0) _ H3.out.2 Tryd.underlying23 rfl (by rw [HX.out.2.2.1]; kernel_rfl) ?_)
      | gi_in)
    refine ⟨trivial, ?_⟩
    refine (callsIn_wide.2 (HR2.out w3)).mono ?_
    rintro e w4 ⟨g4, hor⟩
    rcases hor with ⟨hn2, rfl⟩ | ⟨c2, x2, hs2, A2, k2, rfl, hb2, hf2⟩
    · have HF := Lib.hid (And.intro (grown_trans H3.out.1 g4) (show openR ba bb = none by rw [openR, HN1.out, hn2]))
      clear g4 hn2
      gi_wp2
      exact ⟨rfl, _, results_tmp3 rfl _ _ _, HF.out.1, .inl ⟨HF.out.2, rfl⟩⟩
    · have HF := Lib.hid (And.intro (grown_trans H3.out.1 g4) (And.intro (show openR ba bb = some (c2, x2) by rw [openR, HN1.out, hs2]) (And.intro hb2 (fun ad e => Nat.le_trans H3.out.1.size (hf2 ad e)))))
      clear g4 hs2 hb2 hf2
      gi_wp2
      exact ⟨rfl, _, results_tmp3 rfl _ _ _, HF.out.1, .inr ⟨c2, x2, HF.out.2.1, A2, k2, rfl, HF.out.2.2⟩⟩
  · have HS1 := Lib.hid (And.intro hs1 (And.intro hb1 (fun ad e => Nat.le_trans HX.out.1.size (hf1 ad e))))
    clear hs1 hb1 hf1 g3
    gi_wp2_with (first
      | (refine wpListIn_load_row rfl 23 _ rfl (q + 1) rfl 23 ds (0, 0) _ H3.out.2 Tryd.underlying23 rfl (by rw [HX.out.2.2.1]; kernel_rfl) ?_)
      | gi_in)
    refine ⟨trivial, ?_⟩
    refine (callsIn_wide.2 (HR2.out w3)).mono ?_
    rintro e w4 ⟨g4, hor⟩
    rcases hor with ⟨hn2, rfl⟩ | ⟨c2, x2, hs2, A2, k2, rfl, hb2, hf2⟩
    · have HF := Lib.hid (And.intro (grown_trans H3.out.1 g4) (And.intro (show openR ba bb = some (c1, x1) by rw [openR, HS1.out.1, hn2]) (HS1.out.2.1.grown g4 (fun _ _ => by simp))))
      clear g4 hn2
      gi_wp2
      exact ⟨rfl, _, results_tmp3 rfl _ _ _, HF.out.1, .inr ⟨c1, x1, HF.out.2.1, A1, k1, rfl, HF.out.2.2, HS1.out.2.2⟩⟩
    · by_cases hlt : c1 < c2
      · have f1 : decide (c1 < c2) = true := by simpa using hlt
        have HF := Lib.hid (And.intro (grown_trans H3.out.1 g4) (And.intro (show openR ba bb = some (c2, x2) by rw [openR, HS1.out.1, hs2]; exact if_pos hlt) (And.intro hb2 (fun ad e => Nat.le_trans H3.out.1.size (hf2 ad e)))))
        clear g4 hs2 hb2 hf2 hlt
        gi_wp2
        exact ⟨rfl, _, results_tmp3 rfl _ _ _, HF.out.1, .inr ⟨c2, x2, HF.out.2.1, A2, k2, rfl, HF.out.2.2⟩⟩
      · have f1 : decide (c1 < c2) = false := by simpa using hlt
        have HF := Lib.hid (And.intro (grown_trans H3.out.1 g4) (And.intro (show openR ba bb = some (c1, x1) by rw [openR, HS1.out.1, hs2]; exact if_neg hlt) (HS1.out.2.1.grown g4 (fun _ _ => by simp))))
        clear g4 hs2 hb2 hf2 hlt
        gi_wp2
        exact ⟨rfl, _, results_tmp3 rfl _ _ _, HF.out.1, .inr ⟨c1, x1, HF.out.2.1, A1, k1, rfl, HF.out.2.2, HS1.out.2.2⟩⟩
end Go.Proofs.YtilfapibfadbfaaDoor
