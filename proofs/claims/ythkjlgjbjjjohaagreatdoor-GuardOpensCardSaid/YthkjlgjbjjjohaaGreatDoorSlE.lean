/-
  Slots: Format and Put.
-/
import Derived.Test.YthkjlgjbjjjohaaGreatDoorSlD
namespace Go.Proofs.YthkjlgjbjjjohaaGreatDoor
open Go.RowKit Go.Maps

/-- The error and the disk behind Format. -/
def fmtE (z : DkS) (base : Int) : Nat :=
  if wE z (base + ((0 % 2 : Nat) : Int)) ≠ 0 then wE z (base + ((0 % 2 : Nat) : Int))
  else if wE (wS z (base + ((0 % 2 : Nat) : Int)) (slotL 0 [])) (base + ((1 % 2 : Nat) : Int)) ≠ 0 then wE (wS z (base + ((0 % 2 : Nat) : Int)) (slotL 0 [])) (base + ((1 % 2 : Nat) : Int))
  else sE (wS (wS z (base + ((0 % 2 : Nat) : Int)) (slotL 0 [])) (base + ((1 % 2 : Nat) : Int)) zeroR)
def fmtZ (z : DkS) (base : Int) : DkS :=
  if wE z (base + ((0 % 2 : Nat) : Int)) ≠ 0 then wS z (base + ((0 % 2 : Nat) : Int)) (slotL 0 [])
  else if wE (wS z (base + ((0 % 2 : Nat) : Int)) (slotL 0 [])) (base + ((1 % 2 : Nat) : Int)) ≠ 0 then wS (wS z (base + ((0 % 2 : Nat) : Int)) (slotL 0 [])) (base + ((1 % 2 : Nat) : Int)) zeroR
  else sS (wS (wS z (base + ((0 % 2 : Nat) : Int)) (slotL 0 [])) (base + ((1 % 2 : Nat) : Int)) zeroR)
theorem eV_zero (er ep : Addr) : eV er ep 0 = .nilIface := rfl
theorem eV_ne {er ep : Addr} {k : Nat} (h : k ≠ 0) : ∃ a, eV er ep k = errV a := by
  match k, h with
  | 1, _ => exact ⟨er, rfl⟩
  | k + 2, _ => exact ⟨ep, rfl⟩
theorem SlAt.turn {w w' : World} {s d b m : Nat} {base : Int} {cn : Nat} {rc : List UInt8} (h : SlAt w s d b m base cn rc) (ht : DTurn d b m w w') : SlAt w' s d b m base cn rc := h.kept ht
theorem wS_len (z : DkS) (i : Int) (r : List Int) : (wS z i r).syn.length = z.syn.length := by
  unfold wS wrS opS
  split <;> (try split) <;> (try split) <;> (try split) <;> (try split) <;> rfl
set_option maxRecDepth 100000 in
set_option maxHeartbeats 1000000 in
theorem format_any (w0 w : World) (d b m : Nat) (z : DkS) (h : Dsk w0 w d b m z) (hR : Rounds w0) (er ep : Addr) (her : ErrAt w0 w0.heap.size 0 er) (hep : ErrAt w0 w0.heap.size 6 ep) (base : Int) :
    Calls Tryz.prog 19 #[.pointer (some ⟨d, 0, none⟩), .int .i64 base] w fun e w' =>
      ((¬ (0 ≤ base ∧ base + 2 ≤ (z.syn.length : Int)) ∧ e = .returned (.tuple #[.pointer none, errV er]) ∧ Dsk w0 w' d b m z) ∨
      ((0 ≤ base ∧ base + 2 ≤ (z.syn.length : Int)) ∧ Dsk w0 w' d b m (fmtZ z base) ∧
        ((fmtE z base ≠ 0 ∧ e = .returned (.tuple #[.pointer none, eV er ep (fmtE z base)])) ∨
         (fmtE z base = 0 ∧ ∃ s, e = .returned (.tuple #[.pointer (some ⟨s, 0, none⟩), .nilIface]) ∧ SlAt w' s d b m base 0 [] ∧ w.heap.size = s)))) ∧ Kept (fun j => j = d ∨ j = b ∨ j = m) w w' := by
  obtain ⟨zs, hzs⟩ : ∃ zs : Array Value, zs = (zeroR.map (Value.int .u8)).toArray := ⟨_, rfl⟩
  have hz : ∀ w, Sem.run Tryz.prog (zeroValue 105) w = .ok (.agg zs) w := fun w => by rw [hzs]; exact zero_sec w (by kernel_rfl)
  have hzv : secV zeroR = .agg zs := by rw [secV, hzs]
  obtain ⟨N, hN⟩ : ∃ N, z.syn.length = N := ⟨_, rfl⟩
  have hN2 : N ≤ 4096 := by rw [← hN]; exact h.1.2.2.2.2.2.1.2
  have HON := Lib.hid (on_is z h.1 w0.heap.size er (her.below h.below (Nat.le_refl _)) base)
  have HX := Lib.hid (And.intro h (And.intro hR (And.intro her (And.intro hep (And.intro hzv (And.intro hN h.2.1.size))))))
  rw [hN] at HON ⊢
  clear h hR her hep hzs hzv hN
  go_enter Tryz.func19, Tryz.ntmps19
  go_wp2_with fail
  refine HON.out.mono ?_
  rintro e w1 ⟨g1, ⟨hbad, rfl⟩ | ⟨hok, rfl, hsl⟩⟩
  · have HF := Lib.hid (And.intro g1 hbad)
    clear g1 hbad
    go_wp2_with fail
    refine bodyPost_ret (results_tmp2S7 rfl _ _ _) rfl ?_
    exact ⟨.inl ⟨HF.out.2, rfl, HX.out.1.grown HF.out.1⟩, Kept.of_grown (F := fun j => j = d ∨ j = b ∨ j = m) HF.out.1 fun _ e => by cases e⟩
  · obtain ⟨s, hs⟩ : ∃ s, w.heap.size = s := ⟨_, rfl⟩
    rw [hs] at hsl ⊢
    have H1 := Lib.hid (And.intro (HX.out.1.grown g1) (And.intro hsl (And.intro hok hs)))
    have HK1 := Lib.hid (Kept.of_grown (F := fun j => j = d ∨ j = b ∨ j = m) g1 fun _ e => by cases e)
    have hb : 0 ≤ base ∧ base < 1000000 := by omega
    clear g1 hsl hok hs
    go_wp2_with fail
    refine (place_is H1.out.2.1 0 (by omega) hb).mono ?_
    rintro e w2 ⟨rfl, hw2⟩
    obtain rfl : w1 = w2 := hw2.symm
    obtain ⟨p0, hp0⟩ : ∃ p0 : Int, base + ((0 % 2 : Nat) : Int) = p0 := ⟨_, rfl⟩
    rw [hp0]
    go_wp2_with fail
    refine (slot_is w1 (HX.out.2.1.kept H1.out.1.2.1 (fun _ h => h)) 0 (by omega) none 0 0 [] rfl (BytesAt.nil _ _) (by omega)).mono ?_
    rintro e w2 ⟨rfl, g2⟩
    have H2 := Lib.hid (And.intro (H1.out.1.grown g2) (H1.out.2.1.grown g2))
    have HK2 := Lib.hid (HK1.out.next (Kept.of_grown (F := fun j => j = d ∨ j = b ∨ j = m) g2 fun _ e => by cases e) (fun _ _ h => h))
    clear g2
    go_wp2_with fail
    refine (dsk_write H2.out.1 HX.out.2.2.1 HX.out.2.2.2.1 p0 (slotL 0 []) (slotL_len _ _)).mono ?_
    rintro e w3 ⟨rfl, hd3, ht3⟩
    have H3 := Lib.hid (And.intro hd3 (H2.out.2.turn ht3))
    have HK3 := Lib.hid (HK2.out.next ht3 (fun _ _ h => h))
    clear hd3 ht3
    obtain ⟨e1, he1⟩ : ∃ e1, wE z p0 = e1 := ⟨_, rfl⟩
    obtain ⟨z1, hz1⟩ : ∃ z1, wS z p0 (slotL 0 []) = z1 := ⟨_, rfl⟩
    have hfE : fmtE z base = if e1 ≠ 0 then e1 else if wE z1 (base + ((1 % 2 : Nat) : Int)) ≠ 0 then wE z1 (base + ((1 % 2 : Nat) : Int)) else sE (wS z1 (base + ((1 % 2 : Nat) : Int)) zeroR) := by rw [fmtE, hp0, he1, hz1]
    have hfZ : fmtZ z base = if e1 ≠ 0 then z1 else if wE z1 (base + ((1 % 2 : Nat) : Int)) ≠ 0 then wS z1 (base + ((1 % 2 : Nat) : Int)) zeroR else sS (wS z1 (base + ((1 % 2 : Nat) : Int)) zeroR) := by rw [fmtZ, hp0, he1, hz1]
    rw [he1]
    have HE := Lib.hid (And.intro hfE (And.intro hfZ hz1))
    clear hfE hfZ he1 hp0 hz1
    by_cases he0 : e1 = 0
    · subst he0
      rw [eV_zero]
      go_wp2_with fail
      refine (place_is H3.out.2 1 (by omega) hb).mono ?_
      rintro e w4 ⟨rfl, hw4⟩
      obtain rfl : w3 = w4 := hw4.symm
      obtain ⟨p1, hp1⟩ : ∃ p1 : Int, base + ((1 % 2 : Nat) : Int) = p1 := ⟨_, rfl⟩
      rw [hp1]
      have hfE := HE.out.1
      have hfZ := HE.out.2.1
      rw [if_neg (by omega), hp1] at hfE hfZ
      have hd3 := H3.out.1
      rw [HE.out.2.2] at hd3
      have hw := dsk_write hd3 HX.out.2.2.1 HX.out.2.2.2.1 p1 zeroR (by simp [zeroR])
      rw [HX.out.2.2.2.2.1] at hw
      have HW := Lib.hid (And.intro hw (And.intro hfE hfZ))
      clear hw hfE hfZ hd3 hp1
      go_wp2_with fail
      refine HW.out.1.mono ?_
      rintro e w5 ⟨rfl, hd5, ht5⟩
      obtain ⟨e2, he2⟩ : ∃ e2, wE z1 p1 = e2 := ⟨_, rfl⟩
      obtain ⟨z2, hz2⟩ : ∃ z2, wS z1 p1 zeroR = z2 := ⟨_, rfl⟩
      have hfE := HW.out.2.1
      have hfZ := HW.out.2.2
      rw [he2, hz2] at hfE hfZ
      rw [hz2] at hd5
      rw [he2]
      have H5 := Lib.hid (And.intro hd5 (And.intro (H3.out.2.turn ht5) (And.intro hfE hfZ)))
      have HK5 := Lib.hid (HK3.out.next ht5 (fun _ _ h => h))
      clear hd5 ht5 hfE hfZ he2 hz2 HW
      by_cases he0 : e2 = 0
      · subst he0
        rw [eV_zero]
        go_wp2_with fail
        refine (dsk_sync H5.out.1 HX.out.2.2.2.1 er).mono ?_
        rintro e w6 ⟨rfl, hd6, ht6⟩
        have hfE := H5.out.2.2.1
        have hfZ := H5.out.2.2.2
        rw [if_neg (by omega)] at hfE hfZ
        obtain ⟨e3, he3⟩ : ∃ e3, sE z2 = e3 := ⟨_, rfl⟩
        rw [he3] at hfE ⊢
        rw [← hfZ] at hd6
        have H6 := Lib.hid (And.intro hd6 (And.intro (H5.out.2.1.turn ht6) hfE))
        have HK6 := Lib.hid (HK5.out.next ht6 (fun _ _ h => h))
        clear hd6 ht6 hfE hfZ he3
        by_cases he0 : e3 = 0
        · subst he0
          rw [eV_zero]
          go_wp2_with fail
          refine bodyPost_ret (results_tmp2S7 rfl _ _ _) rfl ?_
          exact ⟨.inr ⟨H1.out.2.2.1, H6.out.1, .inr ⟨H6.out.2.2, s, rfl, H6.out.2.1, H1.out.2.2.2⟩⟩, HK6.out⟩
        · obtain ⟨a, ha⟩ := eV_ne (er := er) (ep := ep) he0
          have HA := Lib.hid (And.intro ha he0)
          rw [ha]
          clear ha he0
          go_wp2_with fail
          refine bodyPost_ret (results_tmp2S7 rfl _ _ _) rfl ?_
          exact ⟨.inr ⟨H1.out.2.2.1, H6.out.1, .inl ⟨by rw [H6.out.2.2]; exact HA.out.2, by rw [H6.out.2.2, HA.out.1]; rfl⟩⟩, HK6.out⟩
      · obtain ⟨a, ha⟩ := eV_ne (er := er) (ep := ep) he0
        have HA := Lib.hid (And.intro ha he0)
        rw [ha]
        clear ha he0
        go_wp2_with fail
        refine bodyPost_ret (results_tmp2S7 rfl _ _ _) rfl ?_
        have hfE := H5.out.2.2.1
        have hfZ := H5.out.2.2.2
        rw [if_pos HA.out.2] at hfE hfZ
        exact ⟨.inr ⟨H1.out.2.2.1, by rw [hfZ]; exact H5.out.1, .inl ⟨by rw [hfE]; exact HA.out.2, by rw [hfE, HA.out.1]; rfl⟩⟩, HK5.out⟩
    · obtain ⟨a, ha⟩ := eV_ne (er := er) (ep := ep) he0
      have HA := Lib.hid (And.intro ha he0)
      rw [ha]
      clear ha he0
      go_wp2_with fail
      refine bodyPost_ret (results_tmp2S7 rfl _ _ _) rfl ?_
      have hfE := HE.out.1
      have hfZ := HE.out.2.1
      rw [if_pos HA.out.2] at hfE hfZ
      exact ⟨.inr ⟨H1.out.2.2.1, by rw [hfZ, ← HE.out.2.2]; exact H3.out.1, .inl ⟨by rw [hfE]; exact HA.out.2, by rw [hfE, HA.out.1]; rfl⟩⟩, HK3.out⟩
theorem format_is (w0 w : World) (d b m : Nat) (z : DkS) (h : Dsk w0 w d b m z) (hR : Rounds w0) (er ep : Addr) (her : ErrAt w0 w0.heap.size 0 er) (hep : ErrAt w0 w0.heap.size 6 ep) (base : Int) :
    Calls Tryz.prog 19 #[.pointer (some ⟨d, 0, none⟩), .int .i64 base] w fun e w' =>
      (¬ (0 ≤ base ∧ base + 2 ≤ (z.syn.length : Int)) ∧ e = .returned (.tuple #[.pointer none, errV er]) ∧ Dsk w0 w' d b m z) ∨
      ((0 ≤ base ∧ base + 2 ≤ (z.syn.length : Int)) ∧ Dsk w0 w' d b m (fmtZ z base) ∧
        ((fmtE z base ≠ 0 ∧ e = .returned (.tuple #[.pointer none, eV er ep (fmtE z base)])) ∨
         (fmtE z base = 0 ∧ ∃ s, e = .returned (.tuple #[.pointer (some ⟨s, 0, none⟩), .nilIface]) ∧ SlAt w' s d b m base 0 [] ∧ w0.heap.size ≤ s))) :=
  (format_any w0 w d b m z h hR er ep her hep base).mono fun _ _ ⟨hor, _⟩ => by
    rcases hor with h1 | ⟨h1, h2, h3 | ⟨h3, s, h4, h5, h6⟩⟩
    · exact .inl h1
    · exact .inr ⟨h1, h2, .inl h3⟩
    · exact .inr ⟨h1, h2, .inr ⟨h3, s, h4, h5, by rw [← h6]; exact h.2.1.size⟩⟩
end Go.Proofs.YthkjlgjbjjjohaaGreatDoor
