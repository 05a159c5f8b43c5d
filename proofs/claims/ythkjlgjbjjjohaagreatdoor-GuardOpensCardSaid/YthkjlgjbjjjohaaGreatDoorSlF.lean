/-
  Slots: Put.
-/
import Derived.Test.YthkjlgjbjjjohaaGreatDoorSlE
namespace Go.Proofs.YthkjlgjbjjjohaaGreatDoor
open Go.RowKit Go.Maps

def putE (z : DkS) (base : Int) (cn : Nat) (l : List UInt8) : Nat :=
  if wE z (base + (((cn + 1) % 2 : Nat) : Int)) ≠ 0 then wE z (base + (((cn + 1) % 2 : Nat) : Int)) else sE (wS z (base + (((cn + 1) % 2 : Nat) : Int)) (slotL (cn + 1) l))
def putZ (z : DkS) (base : Int) (cn : Nat) (l : List UInt8) : DkS :=
  if wE z (base + (((cn + 1) % 2 : Nat) : Int)) ≠ 0 then wS z (base + (((cn + 1) % 2 : Nat) : Int)) (slotL (cn + 1) l) else sS (wS z (base + (((cn + 1) % 2 : Nat) : Int)) (slotL (cn + 1) l))
/-- The record of s lies beside block g. -/
def SlFar (w : World) (s g : Nat) : Prop := ∃ A n cap, w.cell? ⟨s, 3, none⟩ = some (.slice A n cap) ∧ ∀ ad : Addr, A = some ad → n ≠ 0 → ad.block ≠ g
theorem SlFar.kept {w w' : World} {F : Nat → Prop} {s g : Nat} (h : SlFar w s g) (hk : Kept F w w') (hs : ¬ F s) : SlFar w' s g := by
  obtain ⟨A, n, cap, h1, h2⟩ := h
  exact ⟨A, n, cap, hk.cell h1 hs, h2⟩
theorem SlAt.far {w w' : World} {s d b m g : Nat} {base : Int} {cn : Nat} {rc : List UInt8} (h : SlAt w s d b m base cn rc) (hf : SlFar w s g) (hg : g ≠ s) (hk : Kept (fun j => j = g) w w') : SlAt w' s d b m base cn rc := by
  obtain ⟨hs, A, cap, h1, h2, h4⟩ := h
  obtain ⟨A', n', cap', e1, e2⟩ := hf
  have e0 := h1.cell 3
  simp only [List.getElem?_toArray, List.getElem?_cons_zero, List.getElem?_cons_succ] at e0
  rw [e1] at e0
  injection e0 with e0
  injection e0 with ea en ec
  subst ea en ec
  exact ⟨hs, _, _, h1.kept hk (fun e => hg e.symm), h2.kept' hk (fun ad e hne hF => e2 ad e (fun h0 => hne (List.length_eq_zero_iff.1 h0)) hF), h4⟩
/-- What is made behind lies beside the record. -/
theorem SlAt.farNew {w : World} {s d b m : Nat} {base : Int} {cn : Nat} {rc : List UInt8} (h : SlAt w s d b m base cn rc) {g : Nat} (hg : w.heap.size ≤ g) : SlFar w s g := by
  obtain ⟨hs, A, cap, h1, h2, h4⟩ := h
  have e0 := h1.cell 3
  simp only [List.getElem?_toArray, List.getElem?_cons_zero, List.getElem?_cons_succ] at e0
  refine ⟨A, rc.length, cap, e0, fun ad e hne => ?_⟩
  have hne : rc ≠ [] := fun h => hne (by rw [h]; rfl)
  obtain ⟨ad', e', hc⟩ := h2 hne
  rw [e] at e'
  injection e' with e'
  subst e'
  have := World.block_lt_of_cell? w _ (hc 0 (List.length_pos_iff.2 hne))
  rw [block_add] at this
  omega
set_option maxRecDepth 100000 in
set_option maxHeartbeats 1000000 in
theorem sput_any (w0 w : World) (d b m s : Nat) (z : DkS) (base : Int) (cn : Nat) (rc : List UInt8) (h : Dsk w0 w d b m z) (hsl : SlAt w s d b m base cn rc) (hR : Rounds w0) (A : Option Addr) (n c : Nat) (l : List UInt8) (hn : l.length = n) (hl : BytesAt w A l) (er ep ef : Addr) (her : ErrAt w0 w0.heap.size 0 er) (hep : ErrAt w0 w0.heap.size 6 ep)
    (hs : w0.heap.size ≤ s) (hA : ∀ ad, A = some ad → l ≠ [] → ¬ (ad.block = d ∨ ad.block = b ∨ ad.block = m ∨ ad.block = s)) (hef : ErrAt w0 w0.heap.size 7 ef) (hcn : cn < 9223372036854775808) (hb : 0 ≤ base ∧ base < 1000000) :
    Calls Tryz.prog 20 #[.pointer (some ⟨s, 0, none⟩), .slice A n c] w fun e w' =>
      ((31 < l.length ∧ e = .returned (errV er) ∧ Dsk w0 w' d b m z ∧ SlAt w' s d b m base cn rc) ∨
      (l.length ≤ 31 ∧ cn = 9223372036854775807 ∧ e = .returned (errV ef) ∧ Dsk w0 w' d b m z ∧ SlAt w' s d b m base cn rc) ∨
      (l.length ≤ 31 ∧ cn < 9223372036854775807 ∧ Dsk w0 w' d b m (putZ z base cn l) ∧
        ((putE z base cn l ≠ 0 ∧ e = .returned (eV er ep (putE z base cn l)) ∧ SlAt w' s d b m base cn rc) ∨
         (putE z base cn l = 0 ∧ e = .returned .nilIface ∧ SlAt w' s d b m base (cn + 1) l)))) ∧ Kept (fun j => j = d ∨ j = b ∨ j = m ∨ j = s) w w' ∧ ∀ g, g < w.heap.size → SlFar w s g → SlFar w' s g := by
  have er0 := (her.below h.below (Nat.le_refl _)).1
  have ef0 := (hef.below h.below (Nat.le_refl _)).1
  have c2 : w.cell? ⟨s, 2, none⟩ = some (.int .i64 (cn : Int)) := by obtain ⟨_, A, cap, h1, _⟩ := hsl; exact h1.cell 2
  have HX := Lib.hid (And.intro h (And.intro hsl (And.intro hR (And.intro hn (And.intro hl (And.intro her (And.intro hep (And.intro hs (And.intro hA hef)))))))))
  rw [hn]
  clear h hsl hR hn hl her hep hs hA hef
  by_cases h31 : 31 < n
  · have d1 : decide ((31 : Int) < (n : Int)) = true := by simp; omega
    go_enter Tryz.func20, Tryz.ntmps20
    go_wp2_with fail
    go_ret
    exact ⟨.inl ⟨h31, rfl, HX.out.1, HX.out.2.1⟩, Kept.refl _ _, fun _ _ h => h⟩
  have d1 : decide ((31 : Int) < (n : Int)) = false := by simp; omega
  have h31 : n ≤ 31 := by omega
  by_cases hful : cn = 9223372036854775807
  · have d2 : ((cn : Int) == 9223372036854775807) = true := by rw [beq_iff_eq]; omega
    have HN := Lib.hid (And.intro h31 hful)
    clear hful h31
    go_enter Tryz.func20, Tryz.ntmps20
    go_wp2_with fail
    go_ret
    exact ⟨.inr (.inl ⟨HN.out.1, HN.out.2, rfl, HX.out.1, HX.out.2.1⟩), Kept.refl _ _, fun _ _ h => h⟩
  · have d2 : ((cn : Int) == 9223372036854775807) = false := by rw [beq_eq_false_iff_ne]; omega
    have HN := Lib.hid (And.intro h31 (show cn < 9223372036854775807 by omega))
    have hcn2 : 0 ≤ (cn : Int) ∧ (cn : Int) + 1 < 9223372036854775808 := by omega
    clear hful er0 ef0
    go_enter Tryz.func20, Tryz.ntmps20
    go_wp2_with fail
    have g0 := grown_drew (World.grownBy.refl w none)
    obtain ⟨V2, hV2⟩ : ∃ V2, w.drew = V2 := ⟨_, rfl⟩
    rw [hV2] at g0
    have HG := Lib.hid (And.intro g0 (And.intro (HX.out.1.grown g0) (HX.out.2.1.grown g0)))
    clear g0
    have hS : ∀ Y, SlAt Y s d b m base cn rc → Y.cell? ⟨s, 0, none⟩ = some (.pointer (some ⟨d, 0, none⟩)) := fun Y h => by obtain ⟨_, A, cap, h1, _⟩ := h; exact h1.cell 0
    have HSS := Lib.hid hS
    clear hS
    refine wp_region_held_drew (S := fun Y => Y.cell? ⟨s, 0, none⟩ = some (.pointer (some ⟨d, 0, none⟩))) (by kernel_rfl) (by rw [hV2]; exact HSS.out _ HG.out.2.2) (fun hHeld => ?_)
    rw [hV2] at hHeld ⊢
    refine wpAnyH_take (i := 0) (oi := _) (v := ?vp0) rfl (by kernel_rfl) (by kernel_rfl) (by kernel_rfl) (fun _ _ _ h => h) (Or.inl ⟨by rfl, ?hyp0⟩) (by assumption) ?restp0
    case hyp0 => (intro V hSw; (try dsimp only at hSw); go_simp) <;> with_reducible rfl
    try simp only [Act.put, List.getElem_toArray, List.getElem_cons_succ, List.getElem_cons_zero, List.setIfInBounds_toArray, List.set_cons_zero, List.set_cons_succ]
    refine wpAnyH_take (i := 1) (oi := _) (v := ?vp1) rfl (by kernel_rfl) (by kernel_rfl) (by kernel_rfl) (fun _ _ _ h => h) (Or.inl ⟨by rfl, ?hyp1⟩) (by assumption) ?restp1
    case hyp1 => (intro V hSw; (try dsimp only at hSw); go_simp) <;> with_reducible rfl
    try simp only [Act.put, List.getElem_toArray, List.getElem_cons_succ, List.getElem_cons_zero, List.setIfInBounds_toArray, List.set_cons_zero, List.set_cons_succ]
    refine wpAnyH_take (i := 2) (oi := _) (v := ?vp2) rfl (by kernel_rfl) (by kernel_rfl) (by kernel_rfl) (fun _ _ _ h => h) (Or.inl ⟨by rfl, ?hyp2⟩) (by assumption) ?restp2
    case hyp2 => (intro V hSw; (try dsimp only at hSw); go_simp) <;> with_reducible rfl
    try simp only [Act.put, List.getElem_toArray, List.getElem_cons_succ, List.getElem_cons_zero, List.setIfInBounds_toArray, List.set_cons_zero, List.set_cons_succ]
    refine wpAnyH_take (i := 3) (oi := _) (v := ?vp3) rfl (by kernel_rfl) (by kernel_rfl) (by kernel_rfl) (fun _ _ _ h => h) (Or.inl ⟨by rfl, ?hyp3⟩) (by assumption) ?restp3
    case hyp3 => (intro V hSw; (try dsimp only at hSw); go_simp) <;> with_reducible rfl
    try simp only [Act.put, List.getElem_toArray, List.getElem_cons_succ, List.getElem_cons_zero, List.setIfInBounds_toArray, List.set_cons_zero, List.set_cons_succ]
    refine wpAnyH_take (i := 4) (oi := _) (v := ?vp4) rfl (by kernel_rfl) (by kernel_rfl) (by kernel_rfl) (fun _ _ _ h => h) (Or.inl ⟨by rfl, ?hyp4⟩) (by assumption) ?restp4
    case hyp4 => (intro V hSw; (try dsimp only at hSw); go_simp) <;> with_reducible rfl
    try simp only [Act.put, List.getElem_toArray, List.getElem_cons_succ, List.getElem_cons_zero, List.setIfInBounds_toArray, List.set_cons_zero, List.set_cons_succ]
    refine wpAnyH_take (i := 5) (oi := _) (v := ?vp5) rfl (by kernel_rfl) (by kernel_rfl) (by kernel_rfl) (fun _ _ _ h => h) (Or.inl ⟨by rfl, ?hyp5⟩) (by assumption) ?restp5
    case hyp5 => (intro V hSw; (try dsimp only at hSw); go_simp) <;> with_reducible rfl
    try simp only [Act.put, List.getElem_toArray, List.getElem_cons_succ, List.getElem_cons_zero, List.setIfInBounds_toArray, List.set_cons_zero, List.set_cons_succ]
    refine wpAnyH_take (i := 7) (oi := _) (v := ?vp7) rfl (by kernel_rfl) (by kernel_rfl) (by kernel_rfl) (fun _ _ _ h => h) (Or.inl ⟨by rfl, ?hyp7⟩) (by assumption) ?restp7
    case hyp7 => (intro V hSw; (try dsimp only at hSw); go_simp) <;> with_reducible rfl
    try simp only [Act.put, List.getElem_toArray, List.getElem_cons_succ, List.getElem_cons_zero, List.setIfInBounds_toArray, List.set_cons_zero, List.set_cons_succ]
    refine wpAnyH_take (i := 8) (oi := _) (v := ?vp8) rfl (by kernel_rfl) (by kernel_rfl) (by kernel_rfl) (fun _ _ _ h => h) (Or.inl ⟨by rfl, ?hyp8⟩) (by assumption) ?restp8
    case hyp8 => (intro V hSw; (try dsimp only at hSw); go_simp) <;> with_reducible rfl
    try simp only [Act.put, List.getElem_toArray, List.getElem_cons_succ, List.getElem_cons_zero, List.setIfInBounds_toArray, List.set_cons_zero, List.set_cons_succ]
    refine wpAnyH_ready (rs := [6]) (by kernel_rfl) (by simp) ?_
    refine (AllReadyH.cons (o := _) rfl (fun K9 hK => ?_) AllReadyH.nil)
    go_simp
    rw [show (cn : Int) + 1 = ((cn + 1 : Nat) : Int) by omega]
    refine (place_is HG.out.2.2 (cn + 1) (by omega) hb).mono ?_
    rintro e w1 ⟨rfl, hw1⟩
    obtain rfl : V2 = w1 := hw1.symm
    obtain ⟨p, hp⟩ : ∃ p : Int, base + (((cn + 1) % 2 : Nat) : Int) = p := ⟨_, rfl⟩
    rw [hp]
    go_wp2_with fail
    refine hK.out _ _ (HSS.out _ HG.out.2.2) (fun hHeld => ?_)
    clear hK K9
    try simp only [Act.put, List.getElem_toArray, List.getElem_cons_succ, List.getElem_cons_zero, List.setIfInBounds_toArray, List.set_cons_zero, List.set_cons_succ]
    refine wpAnyH_ready (rs := [9]) (by kernel_rfl) (by simp) ?_
    refine (AllReadyH.cons (o := _) rfl (fun K9 hK => ?_) AllReadyH.nil)
    go_simp
    refine (slot_is V2 (HX.out.2.2.1.kept HG.out.2.1.2.1 (fun _ h => h)) ((cn + 1 : Nat) : Int) (by omega) A n c l HX.out.2.2.2.1 (HX.out.2.2.2.2.1.kept (F := fun _ => False) (Kept.of_grown HG.out.1 fun _ e => by cases e) (fun _ _ h => h)) (by omega)).mono ?_
    rintro e w2 ⟨rfl, g2⟩
    rw [Int.toNat_natCast]
    have H2 := Lib.hid (And.intro (HG.out.2.1.grown g2) (And.intro (HG.out.2.2.grown g2) (grown_trans HG.out.1 g2)))
    clear g2
    go_wp2_with fail
    refine hK.out _ _ (HSS.out _ H2.out.2.1) (fun hHeld => ?_)
    clear hK K9
    try simp only [Act.put, List.getElem_toArray, List.getElem_cons_succ, List.getElem_cons_zero, List.setIfInBounds_toArray, List.set_cons_zero, List.set_cons_succ]
    refine wpAnyH_ready (rs := [10]) (by kernel_rfl) (by simp) ?_
    refine (AllReadyH.cons (o := _) rfl (fun K9 hK => ?_) AllReadyH.nil)
    go_simp
    refine (dsk_write H2.out.1 HX.out.2.2.2.2.2.1 HX.out.2.2.2.2.2.2.1 p (slotL (cn + 1) l) (slotL_len _ _)).mono ?_
    rintro e w3 ⟨rfl, hd3, ht3⟩
    have H3 := Lib.hid (And.intro hd3 (And.intro (H2.out.2.1.turn ht3) (Kept.next (Kept.of_grown (F := fun j => j = d ∨ j = b ∨ j = m) H2.out.2.2 (fun _ e => by cases e)) ht3 (fun _ _ h => h))))
    clear hd3 ht3
    obtain ⟨e1, he1⟩ : ∃ e1, wE z p = e1 := ⟨_, rfl⟩
    obtain ⟨z1, hz1⟩ : ∃ z1, wS z p (slotL (cn + 1) l) = z1 := ⟨_, rfl⟩
    have hfE : putE z base cn l = if e1 ≠ 0 then e1 else sE z1 := by rw [putE, hp, he1, hz1]
    have hfZ : putZ z base cn l = if e1 ≠ 0 then z1 else sS z1 := by rw [putZ, hp, he1, hz1]
    rw [he1]
    have HE := Lib.hid (And.intro hfE (And.intro hfZ hz1))
    clear hfE hfZ he1 hp hz1
    obtain ⟨ev, hev⟩ : ∃ ev, eV er ep e1 = ev := ⟨_, rfl⟩
    rw [hev]
    have HEV := Lib.hid hev
    clear hev
    go_wp2_with fail
    refine hK.out _ _ (HSS.out _ H3.out.2.1) (fun hHeld => ?_)
    clear hK K9
    try simp only [Act.put, List.getElem_toArray, List.getElem_cons_succ, List.getElem_cons_zero, List.setIfInBounds_toArray, List.set_cons_zero, List.set_cons_succ]
    refine wpAnyH_take (i := 11) (oi := _) (v := ?vp11) rfl (by kernel_rfl) (by kernel_rfl) (by kernel_rfl) (fun _ _ _ h => h) (Or.inl ⟨by rfl, ?hyp11⟩) (by assumption) ?restp11
    case hyp11 => (intro V hSw; (try dsimp only at hSw); go_simp) <;> with_reducible rfl
    try simp only [Act.put, List.getElem_toArray, List.getElem_cons_succ, List.getElem_cons_zero, List.setIfInBounds_toArray, List.set_cons_zero, List.set_cons_succ]
    refine wpAnyH_done (by kernel_rfl) ?_ _
    rw [← HEV.out]
    by_cases he0 : e1 = 0
    · subst he0
      rw [eV_zero]
      have hd3 := H3.out.1
      rw [HE.out.2.2] at hd3
      have hfE := HE.out.1
      have hfZ := HE.out.2.1
      rw [if_neg (by omega)] at hfE hfZ
      have x0 := HSS.out _ H3.out.2.1
      have HD := Lib.hid (And.intro hd3 (And.intro hfE hfZ))
      clear hd3 hfE hfZ
      go_wp2_with fail
      refine (dsk_sync HD.out.1 HX.out.2.2.2.2.2.2.1 er).mono ?_
      rintro e w6 ⟨rfl, hd6, ht6⟩
      obtain ⟨e3, he3⟩ : ∃ e3, sE z1 = e3 := ⟨_, rfl⟩
      have hfE := HD.out.2.1
      rw [he3] at hfE ⊢
      rw [← HD.out.2.2] at hd6
      have k6 := H3.out.2.2.next ht6 (fun _ _ h => h)
      have hbA : BytesAt w6 A l := HX.out.2.2.2.2.1.kept' k6 (fun ad e hne hf => HX.out.2.2.2.2.2.2.2.2.1 ad e hne (by rcases hf with h | h | h; exact .inl h; exact .inr (.inl h); exact .inr (.inr (.inl h))))
      have H6 := Lib.hid (And.intro hd6 (And.intro (H3.out.2.1.turn ht6) (And.intro hfE hbA)))
      have HK6 := Lib.hid (show Kept (fun j => j = d ∨ j = b ∨ j = m ∨ j = s) w w6 from k6.mono (fun j _ h => by rcases h with h | h | h; exact .inl h; exact .inr (.inl h); exact .inr (.inr (.inl h))))
      have HFA := Lib.hid (show ∀ g, SlFar w s g → SlFar w6 s g from fun g h => h.kept k6 (show ¬ (s = d ∨ s = b ∨ s = m) by have := HX.out.2.1.1; omega))
      clear hd6 ht6 hfE he3 k6 hbA x0
      by_cases he0 : e3 = 0
      · subst he0
        rw [eV_zero]
        go_wp2_with fail
        refine (clone_any w6 A n c l HX.out.2.2.2.1 H6.out.2.2.2 (by omega)).mono ?_
        rintro e w7 ⟨A7, c7, rfl, ho7, g7⟩
        have hsl := H6.out.2.1.grown g7
        obtain ⟨hne, A0, cap0, hbs, hba, hap⟩ := hsl
        have f2 := hbs.frozen 2
        have f3 := hbs.frozen 3
        have x2 := hbs.cell 2
        have x3 := hbs.cell 3
        simp only [List.getElem?_toArray, List.getElem?_cons_zero, List.getElem?_cons_succ] at x2 x3
        have hk : Kept (fun j => j = s) w7 ((w7.setCell ⟨s, 2, none⟩ (.int .i64 ((cn : Int) + 1))).setCell ⟨s, 3, none⟩ (.slice A7 n c7)) := ((Kept.refl (fun j => j = s) w7).set (p := ⟨s, 2, none⟩) (.inl rfl) _).set (p := ⟨s, 3, none⟩) (.inl rfl) _
        have hb8 := (hbs.set 2 (.int .i64 ((cn : Int) + 1))).set 3 (.slice A7 n c7)
        simp only [List.setIfInBounds_toArray, List.set_cons_zero, List.set_cons_succ] at hb8
        have hlow := own_low ho7
        have h8 := own_bytesAt ho7
        have hd8 : Dsk w0 ((w7.setCell ⟨s, 2, none⟩ (.int .i64 ((cn : Int) + 1))).setCell ⟨s, 3, none⟩ (.slice A7 n c7)) d b m (putZ z base cn l) := by
          have hd7 := H6.out.1.grown g7
          exact ⟨hd7.1.kept hk ⟨fun e => hne.1 e.symm, fun e => hne.2.1 e.symm, fun e => hne.2.2 e.symm⟩, hd7.2.1.next hk (fun j _ h => by have h : j = s := h; have := HX.out.2.2.2.2.2.2.2.1; show w0.heap.size ≤ j; omega), hd7.2.2⟩
        have hlt : d < w6.heap.size ∧ b < w6.heap.size ∧ m < w6.heap.size ∧ s < w6.heap.size := by
          refine ⟨H6.out.1.1.1.lt, H6.out.1.1.2.1.lt, ?_, ?_⟩
          · obtain ⟨D, hD, _⟩ := H6.out.1.1.2.2.1; exact hD.lt
          · obtain ⟨_, _, _, hq, _⟩ := H6.out.2.1; exact hq.lt
        have hs8 : SlAt ((w7.setCell ⟨s, 2, none⟩ (.int .i64 ((cn : Int) + 1))).setCell ⟨s, 3, none⟩ (.slice A7 n c7)) s d b m base (cn + 1) l := by
          refine ⟨hne, A7, c7, ?_, h8.kept' hk (fun ad e _ hf => by have hf : ad.block = s := hf; have := hlow ad e; omega), fun ad e _ hf => by have := hlow ad e; omega⟩
          rw [HX.out.2.2.2.1]; exact hb8
        have hkk : Kept (fun j => j = d ∨ j = b ∨ j = m ∨ j = s) w ((w7.setCell ⟨s, 2, none⟩ (.int .i64 ((cn : Int) + 1))).setCell ⟨s, 3, none⟩ (.slice A7 n c7)) := (HK6.out.next (Kept.of_grown (F := fun _ => False) g7 fun _ e => by cases e) (fun _ _ h => h.elim)).next hk (fun j _ h => .inr (.inr (.inr h)))
        have hf8 : ∀ g, g < w.heap.size → SlFar ((w7.setCell ⟨s, 2, none⟩ (.int .i64 ((cn : Int) + 1))).setCell ⟨s, 3, none⟩ (.slice A7 n c7)) s g := fun g hg => by
          have e0 := hb8.cell 3
          simp only [List.getElem?_toArray, List.getElem?_cons_zero, List.getElem?_cons_succ] at e0
          refine ⟨A7, n, c7, e0, fun ad e _ => ?_⟩
          have h1 := hlow ad e
          have h2 := HK6.out.size
          omega
        have HF := Lib.hid (And.intro hd8 (And.intro hs8 (And.intro hkk hf8)))
        clear hbs hba hap hk hb8 hlow h8 hd8 hlt hs8 ho7 g7 hkk hf8
        go_wp2_with fail
        go_ret
        exact ⟨.inr (.inr ⟨HN.out.1, HN.out.2, HF.out.1, .inr ⟨H6.out.2.2.1, rfl, HF.out.2.1⟩⟩), HF.out.2.2.1, fun g hg _ => HF.out.2.2.2 g hg⟩
      · obtain ⟨a, ha⟩ := eV_ne (er := er) (ep := ep) he0
        have HA := Lib.hid (And.intro ha he0)
        rw [ha]
        clear ha he0
        go_wp2_with fail
        go_ret
        exact ⟨.inr (.inr ⟨HN.out.1, HN.out.2, H6.out.1, .inl ⟨by rw [H6.out.2.2.1]; exact HA.out.2, by rw [H6.out.2.2.1, HA.out.1]; rfl, H6.out.2.1⟩⟩), HK6.out, fun g _ h => HFA.out g h⟩
    · obtain ⟨a, ha⟩ := eV_ne (er := er) (ep := ep) he0
      have HA := Lib.hid (And.intro ha he0)
      rw [ha]
      clear ha he0
      go_wp2_with fail
      go_ret
      have hfE := HE.out.1
      have hfZ := HE.out.2.1
      rw [if_pos HA.out.2] at hfE hfZ
      exact ⟨.inr (.inr ⟨HN.out.1, HN.out.2, by rw [hfZ, ← HE.out.2.2]; exact H3.out.1, .inl ⟨by rw [hfE]; exact HA.out.2, by rw [hfE, HA.out.1]; rfl, H3.out.2.1⟩⟩), H3.out.2.2.mono (fun j _ h => by rcases h with h | h | h; exact .inl h; exact .inr (.inl h); exact .inr (.inr (.inl h))), fun g _ h => h.kept H3.out.2.2 (show ¬ (s = d ∨ s = b ∨ s = m) by have := HX.out.2.1.1; omega)⟩
theorem sput_is (w0 w : World) (d b m s : Nat) (z : DkS) (base : Int) (cn : Nat) (rc : List UInt8) (h : Dsk w0 w d b m z) (hsl : SlAt w s d b m base cn rc) (hR : Rounds w0) (A : Option Addr) (n c : Nat) (l : List UInt8) (hn : l.length = n) (hl : BytesAt w A l) (er ep ef : Addr) (her : ErrAt w0 w0.heap.size 0 er) (hep : ErrAt w0 w0.heap.size 6 ep)
    (hs : w0.heap.size ≤ s) (hA : ∀ ad, A = some ad → l ≠ [] → ¬ (ad.block = d ∨ ad.block = b ∨ ad.block = m ∨ ad.block = s)) (hef : ErrAt w0 w0.heap.size 7 ef) (hcn : cn < 9223372036854775808) (hb : 0 ≤ base ∧ base < 1000000) :
    Calls Tryz.prog 20 #[.pointer (some ⟨s, 0, none⟩), .slice A n c] w fun e w' =>
      (31 < l.length ∧ e = .returned (errV er) ∧ Dsk w0 w' d b m z ∧ SlAt w' s d b m base cn rc) ∨
      (l.length ≤ 31 ∧ cn = 9223372036854775807 ∧ e = .returned (errV ef) ∧ Dsk w0 w' d b m z ∧ SlAt w' s d b m base cn rc) ∨
      (l.length ≤ 31 ∧ cn < 9223372036854775807 ∧ Dsk w0 w' d b m (putZ z base cn l) ∧
        ((putE z base cn l ≠ 0 ∧ e = .returned (eV er ep (putE z base cn l)) ∧ SlAt w' s d b m base cn rc) ∨
         (putE z base cn l = 0 ∧ e = .returned .nilIface ∧ SlAt w' s d b m base (cn + 1) l)))  :=
  (sput_any w0 w d b m s z base cn rc h hsl hR A n c l hn hl er ep ef her hep hs hA hef hcn hb).mono fun _ _ h => h.1
end Go.Proofs.YthkjlgjbjjjohaaGreatDoor
