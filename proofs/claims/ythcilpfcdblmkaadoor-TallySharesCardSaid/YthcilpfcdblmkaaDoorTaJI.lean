/-
  Tally, keys of type int: Put.
-/
import Derived.Test.YthcilpfcdblmkaaDoorTaGI
import Derived.Sort.CutIn
namespace Go.Proofs.YthcilpfcdblmkaaDoor
open Go.RowKit Go.Shelf

set_option maxRecDepth 100000 in
set_option maxHeartbeats 2000000 in
theorem putI_is (w : World) (S : Nat → Prop) (t b B : Nat) (V0 : List Vd) (W0 : List (Wd Int)) (h : TalI w S t b V0 W0) (key : Int) (who x : Int) (es er et : Addr) (hB : B ≤ w.heap.size) (hBb : B ≤ b) (he : ErrAt w B 10 es) (her : ErrAt w B 0 er) (het : ErrAt w B 16 et) :
    Calls Tryd.prog 11 #[.pointer (some ⟨t, 0, none⟩), (.int .i64 key), .int .i64 who, .int .i64 x] w fun e w' =>
      (¬ (0 ≤ who ∧ who < (V0.length : Int)) ∧ e = .returned (.tuple #[.bool false, errV er]) ∧ w.grownBy w' none) ∨
      (∃ (i : Nat) (hi : i < W0.length), who = (i : Int) ∧ ((W0[i].said = true ∧ e = .returned (.tuple #[.bool false, errV et]) ∧ w.grownBy w' none) ∨
        (W0[i].said = false ∧ e = .returned (.tuple #[.bool (!enoughS V0 (whoL W0 key) && enoughS V0 (whoL (W0.set i ⟨true, key, x⟩) key)), .nilIface]) ∧ TalI w' S t b V0 (W0.set i ⟨true, key, x⟩) ∧ Kept (fun j => j = b) w w'))) := by
  have hcw := h.words
  have hlen := h.len
  have hwn := h.2.2.2.1
  obtain ⟨n, hn⟩ : ∃ n, V0.length = n := ⟨_, rfl⟩
  have er0 := her.1
  have et0 := het.1
  have H := Lib.hid (And.intro h (And.intro hB (And.intro he (And.intro her (And.intro het (And.intro hwn (And.intro hn hBb)))))))
  rw [hn] at hcw hlen hwn ⊢
  have hn7 : n ≤ 7 := hlen.2
  clear h hB he her het hn hlen
  by_cases h0 : who < 0
  · have d0 : decide (who < 0) = true := by simpa using h0
    go_enter Tryd.func11, Tryd.ntmps11
    go_wp2_with fail
    go_quiet (fail)
    go_wp2_with fail
    refine bodyPost_ret (results_tmp2 rfl _ _ _) rfl ?_
    exact .inl ⟨by omega, rfl, ⟨rfl, rfl, rfl, Nat.le_refl _, fun _ _ _ => rfl⟩⟩
  have d0 : decide (who < 0) = false := by simpa using h0
  by_cases h1 : (n : Int) ≤ who
  · have d1 : decide ((n : Int) ≤ who) = true := by simpa using h1
    go_enter Tryd.func11, Tryd.ntmps11
    go_wp2_with fail
    go_quiet (fail)
    go_wp2_with fail
    refine bodyPost_ret (results_tmp2 rfl _ _ _) rfl ?_
    exact .inl ⟨by omega, rfl, ⟨rfl, rfl, rfl, Nat.le_refl _, fun _ _ _ => rfl⟩⟩
  have d1 : decide ((n : Int) ≤ who) = false := by simpa using h1
  obtain ⟨i, hi⟩ : ∃ i : Nat, who = (i : Int) := ⟨who.toNat, by omega⟩
  have hiw : i < W0.length := by omega
  have hwi : who.toNat = i := by omega
  have h2w : 0 ≤ who ∧ who < (n : Int) := by omega
  have x0 := wdsI_cell H.out.1.2.2.2.2.2.2.1 hiw (j := 0) rfl
  have hset := flat3_set cellI cellI_length W0 i hiw ⟨true, key, x⟩
  have hsz := flat3_length cellI cellI_length W0
  cases hs : W0[i].said with
  | true =>
    rw [hs, Nat.add_zero, ← hwi] at x0
    have HI := Lib.hid (And.intro hi (And.intro hiw hs))
    clear hi hs hwi hset hsz h0 h1
    go_enter Tryd.func11, Tryd.ntmps11
    go_wp2_with fail
    go_quiet (fail)
    go_wp2_with fail
    refine bodyPost_ret (results_tmp2 rfl _ _ _) rfl ?_
    exact .inr ⟨i, HI.out.2.1, HI.out.1, .inl ⟨HI.out.2.2, rfl, ⟨rfl, rfl, rfl, Nat.le_refl _, fun _ _ _ => rfl⟩⟩⟩
  | false =>
    rw [hs, Nat.add_zero, ← hwi] at x0
    have HI := Lib.hid (And.intro hi (And.intro hiw (And.intro hs (And.intro hset (And.intro hsz hwi)))))
    clear hi hs hset hsz h0 h1 hwi
    have HE1 := Lib.hid (enoughI_is w S t b B V0 W0 H.out.1 key es er et H.out.2.1 H.out.2.2.1 H.out.2.2.2.1 H.out.2.2.2.2.1)
    go_enter Tryd.func11, Tryd.ntmps11
    go_wp2_with fail
    refine HE1.out.mono ?_
    rintro e w1 ⟨rfl, k1⟩
    have hcw1 := k1.cell hcw (by simp)
    have hT1 := H.out.1.grown k1
    obtain ⟨j, hj⟩ : ∃ j, j = who.toNat := ⟨_, rfl⟩
    obtain ⟨C, hC⟩ : ∃ C, (W0.flatMap cellI).toArray = C := ⟨_, rfl⟩
    have hb1 : Blk w1 b 77 C := by rw [← hC]; exact hT1.2.2.2.2.2.2.1
    have hCs : C.size = W0.length * 3 := by rw [← hC, List.size_toArray]; exact HI.out.2.2.2.2.1
    have hjl : j < W0.length := by have := HI.out.2.2.2.2.2; have := HI.out.2.1; omega
    have hb2 := hb1.set (j * 3) (.bool true)
    have hb3 := hb2.set (j * 3 + 1) (.int .i64 key)
    have hb4 := hb3.set (j * 3 + 2) (.int .i64 x)
    have y0 : ∃ z, w1.cell? ⟨b, j * 3, none⟩ = some z := ⟨C[j * 3]'(by omega), by rw [hb1.cell, Array.getElem?_eq_getElem]⟩
    have y1 : ∃ z, (w1.setCell ⟨b, j * 3, none⟩ (.bool true)).cell? ⟨b, j * 3 + 1, none⟩ = some z := ⟨_, by rw [hb2.cell, Array.getElem?_eq_getElem (by simp only [Array.size_setIfInBounds]; omega)]⟩
    have y2 : ∃ z, ((w1.setCell ⟨b, j * 3, none⟩ (.bool true)).setCell ⟨b, j * 3 + 1, none⟩ (.int .i64 key)).cell? ⟨b, j * 3 + 2, none⟩ = some z := ⟨_, by rw [hb3.cell, Array.getElem?_eq_getElem (by simp only [Array.size_setIfInBounds]; omega)]⟩
    have f0 := hb1.frozen (j * 3)
    have f1 := hb2.frozen (j * 3 + 1)
    have f2 := hb3.frozen (j * 3 + 2)
    have hk4 : Kept (fun k => k = b) w1 (((w1.setCell ⟨b, j * 3, none⟩ (.bool true)).setCell ⟨b, j * 3 + 1, none⟩ (.int .i64 key)).setCell ⟨b, j * 3 + 2, none⟩ (.int .i64 x)) :=
      (((Kept.refl (fun k => k = b) w1).set (p := ⟨b, j * 3, none⟩) (.inl rfl) _).set (p := ⟨b, j * 3 + 1, none⟩) (.inl rfl) _).set (p := ⟨b, j * 3 + 2, none⟩) (.inl rfl) _
    obtain ⟨z0, y0⟩ := y0
    obtain ⟨z1, y1⟩ := y1
    obtain ⟨z2, y2⟩ := y2
    have hfin : (((C.setIfInBounds (j * 3) (.bool true)).setIfInBounds (j * 3 + 1) (.int .i64 key)).setIfInBounds (j * 3 + 2) (.int .i64 x)) = ((W0.set i ⟨true, key, x⟩).flatMap cellI).toArray := by
      rw [HI.out.2.2.2.1, ← HI.out.2.2.2.2.2, ← hj, ← hC]
      simp [cellI]
    rw [hfin] at hb4
    have hk5 : Kept (fun k => k = b) w (((w1.setCell ⟨b, j * 3, none⟩ (.bool true)).setCell ⟨b, j * 3 + 1, none⟩ (.int .i64 key)).setCell ⟨b, j * 3 + 2, none⟩ (.int .i64 x)) :=
      (Kept.of_grown (F := fun k => k = b) k1 fun _ e => by cases e).next hk4 (fun _ _ h => h)
    have hT2 : TalI (((w1.setCell ⟨b, j * 3, none⟩ (.bool true)).setCell ⟨b, j * 3 + 1, none⟩ (.int .i64 key)).setCell ⟨b, j * 3 + 2, none⟩ (.int .i64 x)) S t b V0 (W0.set i ⟨true, key, x⟩) := by
      obtain ⟨q1, q2, q3, q4, q5, q6, q7, A, c, q8, q9, q10⟩ := hT1
      exact ⟨q1, q2, q3, by rw [List.length_set]; exact q4, q5, q6, hb4, A, c, Blk.kept q8 hk4 (fun h => q3 h.symm), q9.kept hk4 (fun a e => (q10 a e).2), q10⟩
    rw [hj] at y0 y1 y2 f0 f1 f2 hk5 hT2
    have H1 := Lib.hid (And.intro hT2 hk5)
    clear k1 hcw hT1 hj hb1 hb2 hb3 hb4 hk4 hfin hC hCs hjl hk5 hT2
    obtain ⟨bf, hbf⟩ : ∃ bf, enoughS V0 (whoL W0 key) = bf := ⟨_, rfl⟩
    rw [hbf]
    have HBF := Lib.hid hbf
    clear hbf
    cases bf with
    | true =>
      go_wp2_with fail
      refine bodyPost_ret (results_tmp2 rfl _ _ _) rfl ?_
      refine .inr ⟨i, HI.out.2.1, HI.out.1, .inr ⟨HI.out.2.2.1, ?_, H1.out.1, H1.out.2⟩⟩
      rw [HBF.out]; rfl
    | false =>
      go_wp2_with fail
      have hT2 := H1.out.1
      have hk5 := H1.out.2
      generalize (((w1.setCell ⟨b, who.toNat * 3, none⟩ (.bool true)).setCell ⟨b, who.toNat * 3 + 1, none⟩ (.int .i64 key)).setCell ⟨b, who.toNat * 3 + 2, none⟩ (.int .i64 x)) = w2 at hT2 hk5 ⊢
      have H2 := Lib.hid (And.intro hT2 hk5)
      have hbb : Below B w w2 := hk5.below H.out.2.1 (fun k h => by have h : k = b := h; have := H.out.2.2.2.2.2.2.2; omega)
      refine (enoughI_is w2 S t b B V0 (W0.set i ⟨true, key, x⟩) hT2 key es er et (Nat.le_trans H.out.2.1 hk5.size) (H.out.2.2.1.below hbb (Nat.le_refl _)) (H.out.2.2.2.1.below hbb (Nat.le_refl _)) (H.out.2.2.2.2.1.below hbb (Nat.le_refl _))).mono ?_
      rintro e w3 ⟨rfl, k3⟩
      have H3 := Lib.hid k3
      clear k3 hT2 hk5 hbb
      go_wp2_with fail
      refine bodyPost_ret (results_tmp2 rfl _ _ _) rfl ?_
      refine .inr ⟨i, HI.out.2.1, HI.out.1, .inr ⟨HI.out.2.2.1, ?_, H2.out.1.grown H3.out, H2.out.2.next (Kept.of_grown (F := fun _ => False) H3.out fun _ e => by cases e) (fun _ _ h => h.elim)⟩⟩
      rw [HBF.out]; rfl
end Go.Proofs.YthcilpfcdblmkaaDoor
