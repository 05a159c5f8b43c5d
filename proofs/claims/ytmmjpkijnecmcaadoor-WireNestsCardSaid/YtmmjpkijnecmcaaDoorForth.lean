/-
  WireForth: the walk.
-/
import Derived.Test.YtmmjpkijnecmcaaDoorAlive
import Derived.Test.YtmmjpkijnecmcaaDoorRead2
import Derived.Test.YtmmjpkijnecmcaaDoorArgs
namespace Go.Proofs.YtmmjpkijnecmcaaDoor
open Go.RowKit

theorem Kept.then {F G : Nat → Prop} {a b c : World} (h : Kept F a b) (k : Kept G b c) (hF : ∀ k, k < a.heap.size → G k → F k) : Kept F a c :=
  ⟨k.os.trans h.os, k.tape.trans h.tape, k.output.trans h.output, Nat.le_trans h.size k.size, fun i hi hn => (k.block i (Nat.lt_of_lt_of_le hi h.size) (fun hg => hn (hF i hi hg))).trans (h.block i hi hn)⟩
theorem valOf_cons : ∀ (l : List UInt8) (n : Nat), l.foldl (fun n c => n * 256 + c.toNat) n = n * 256 ^ l.length + valOf l := by
  have key : ∀ (l : List UInt8) (n : Nat), l.foldl (fun n c => n * 256 + c.toNat) n = n * 256 ^ l.length + l.foldl (fun n c => n * 256 + c.toNat) 0 := by
    intro l
    induction l with
    | nil => intro n; simp
    | cons d l ih =>
      intro n
      rw [List.foldl_cons, ih, List.foldl_cons, ih (0 * 256 + d.toNat), List.length_cons, Nat.pow_succ]
      rw [Nat.add_mul, Nat.mul_assoc, Nat.mul_comm 256]
      simp; omega
  exact fun l n => key l n
theorem valOf_bound (l : List UInt8) : valOf l < 256 ^ l.length := by
  have := valOf_take_lt l l.length (Nat.le_refl _)
  rwa [List.take_of_length_le (Nat.le_refl _)] at this
theorem be_low (k : Nat) : ∀ a b : Nat, be k (a * 256 ^ k + b) = be k b := by
  induction k with
  | zero => intro a b; rfl
  | succ k ih =>
    intro a b
    have e : a * 256 ^ (k + 1) + b = (a * 256) * 256 ^ k + b := by rw [Nat.pow_succ, Nat.mul_comm (256 ^ k) 256, Nat.mul_assoc]
    have hp : 0 < 256 ^ k := Nat.pow_pos (by omega)
    simp only [be]
    rw [e, ih, Nat.add_comm, Nat.add_mul_div_right _ _ hp]
    congr 1
    apply UInt8.toNat_inj.1
    simp
theorem be_valOf : ∀ (X : List UInt8), be X.length (valOf X) = X
  | [] => rfl
  | c :: l => by
    have h : valOf (c :: l) = c.toNat * 256 ^ l.length + valOf l := by
      show (c :: l).foldl (fun n c => n * 256 + c.toNat) 0 = _
      rw [List.foldl_cons, valOf_cons]; simp
    have hb := valOf_bound l
    have hp : 0 < 256 ^ l.length := Nat.pow_pos (by omega)
    rw [h, List.length_cons]
    simp only [be]
    rw [be_low, be_valOf l, Nat.add_comm, Nat.add_mul_div_right _ _ hp, Nat.div_eq_of_lt hb]
    simp

theorem rnum_any (w : World) (B g s : Nat) (l : List UInt8) (a0 a1 : Addr) (x : Int) (hr : RdIs w g s .nilIface l) (he0 : ErrAt w B 2 a0) (he1 : ErrAt w B 3 a1) (hg : B ≤ g) :
    (∃ width : Nat, x = (width : Int) ∧ 1 ≤ width ∧ width ≤ 8 ∧ width ≤ l.length ∧ valOf (l.take width) < 9223372036854775808 ∧
      Calls Tryd.prog 24 #[.pointer (some ⟨g, 0, none⟩), .int .i64 (width : Int)] w fun e w' => e = .returned (.int .i64 (valOf (l.take width) : Nat)) ∧ RdIs w' g s .nilIface (l.drop width) ∧ w.grownBy w' (some g)) ∨
    Calls Tryd.prog 24 #[.pointer (some ⟨g, 0, none⟩), .int .i64 x] w fun e w' => e = .returned (.int .i64 0) ∧ (∃ a l', RdIs w' g s (errV a) l') ∧ w.grownBy w' (some g) := by
  by_cases hbad : x < 1 ∨ 8 < x
  · exact .inr ((rnum_bad w B g s l a0 x hr he0 hbad).mono fun _ _ ⟨h1, h2, h3⟩ => ⟨h1, ⟨_, _, h2⟩, h3⟩)
  · obtain ⟨width, rfl⟩ := Int.eq_ofNat_of_zero_le (show 0 ≤ x by omega)
    by_cases hn : width ≤ l.length
    · by_cases hv : valOf (l.take width) < 9223372036854775808
      · exact .inl ⟨width, rfl, by omega, by omega, hn, hv, rnum_ok w g s l width hr (by omega) (by omega) hn hv⟩
      · exact .inr ((rnum_big w B g s l a0 width he0 hg hr (by omega) (by omega) hn (by omega)).mono fun _ _ ⟨h1, h2, h3⟩ => ⟨h1, ⟨_, _, h2⟩, h3⟩)
    · exact .inr ((rnum_short w B g s l a1 width hr he1 (by omega) (by omega) (by omega)).mono fun _ _ ⟨h1, h2, h3⟩ => ⟨h1, ⟨_, _, h2⟩, h3⟩)

theorem done_n (w : World) (F : Nat → Prop) (g n : Nat) (l : List UInt8) (hn : l.length = n) (hw : WrIs w F g .nilIface l) (hl : n ≤ 140737488355328) :
    Calls Tryd.prog 15 #[.pointer (some ⟨g, 0, none⟩)] w fun e w' => ∃ A c, e = .returned (.tuple #[.slice A n c, .nilIface]) ∧ w'.ownsRow w.heap.size 5 1 (.slice A n c) n (Lib.byteCells l) ∧ w.grownBy w' none := by
  subst hn
  exact done_ok w F g l hw hl
def outside (g B : Nat) : Nat → Prop := fun k => k = g ∨ B ≤ k

set_option maxHeartbeats 1000000 in
theorem forth_any (w : World) (A : Option Addr) (n c : Nat) (bs : List UInt8) (Aw : Option Addr) (nw cw : Nat) (zs : List Int) (a0 a1 : Addr)
    (hn : bs.length = n) (hnc : n ≤ c) (hb : BytesAt w A bs) (hnw : zs.length = nw) (hz : IntsAt w Aw zs)
    (he0 : ErrAt w w.heap.size 2 a0) (he1 : ErrAt w w.heap.size 3 a1) :
    Calls Tryd.prog 6 #[.slice A n c, .slice Aw nw cw] w fun e w' => e = .returned (.bool true) ∧ Below w.heap.size w w' := by
  by_cases hbig : 500 < n ∨ 60 < nw
  · have hd : decide ((500 : Int) < (n : Int)) = true ∨ (decide ((500 : Int) < (n : Int)) = false ∧ decide ((60 : Int) < (nw : Int)) = true) := by
      by_cases h : 500 < n
      · exact .inl (by simp; omega)
      · exact .inr ⟨by simp; omega, by simp; omega⟩
    clear hn hnw hbig
    rcases hd with d1 | ⟨d1, d2⟩
    all_goals
      go_enter Tryd.func6, Tryd.ntmps6
      go_wp2_with (go_at_call 10; refine (alive_any _).mono ?_; rintro e w1 ⟨rfl, k1⟩)
      go_ret
      exact ⟨rfl, below_grown k1 (Nat.le_refl _) (fun _ e => by cases e)⟩
  · have d1 : decide ((500 : Int) < (n : Int)) = false := by simp; omega
    have d2 : decide ((60 : Int) < (nw : Int)) = false := by simp; omega
    have Hn := Lib.hid hn
    have Hnw := Lib.hid hnw
    clear hn hnw
    go_enter Tryd.func6, Tryd.ntmps6
    go_wp2_with (go_at_call 10; refine (alive_any _).mono ?_; rintro e w1 ⟨rfl, k1⟩)
    have K1 : Kept (fun _ => False) w w1 := Kept.of_grown k1 fun _ e => by cases e
    have b1 : BytesAt w1 A bs := hb.kept' K1 (fun _ _ _ h => h)
    refine (reader_new _ A n c bs Hn.out b1 (by omega)).mono ?_
    rintro e w2 ⟨g, s, rfl, hr2, hg1, hg2, hs1, hs2, k2⟩
    have K2 : Kept (fun _ => False) w w2 := K1.trans (Kept.of_grown k2 fun _ e => by cases e)
    go_wp2_with fail
    refine (new_ok _).mono ?_
    rintro e w3 ⟨rfl, rfl⟩
    have K3 := K2.alloc (.cells #[.nilIface, .slice none 0 0] 64)
    have hw3 := WrIs.new w2 (F := fun k => w2.heap.size ≤ k) (Nat.le_refl _)
    have hr3 := hr2.grown (World.grownBy_alloc w2 (.cells #[.nilIface, .slice none 0 0] 64) none)
    have z3 : (w2.alloc (.cells #[.nilIface, .slice none 0 0] 64)).heap.size = w2.heap.size + 1 := by simp
    have z1 := k1.size
    have z2 := k2.size
    generalize w2.alloc (.cells #[.nilIface, .slice none 0 0] 64) = w3 at *
    generalize w2.heap.size = G at *
    have Z3 := Lib.hid z3
    clear z3
    go_wp2_with fail
    go_loopw [7, 28] (fun m i wr => ∃ k q : Nat, k ≤ nw ∧ q ≤ n ∧ q ≤ 8 * k ∧ i = .int .i64 (k : Int) ∧ m = .int .i64 (q : Int) ∧ RdIs wr g s .nilIface (bs.drop q) ∧ WrIs wr (fun k => G ≤ k) G .nilIface (bs.take q) ∧ Kept (outside g G) w3 wr) (fun _ i _ => nw - (intOf i).toNat)
    case atStart => exact ⟨0, 0, Nat.zero_le _, Nat.zero_le _, Nat.zero_le _, rfl, rfl, by simpa using hr3, by simpa using hw3, Kept.refl _ _⟩
    case round =>
      obtain ⟨k, q, hk, hq, hqk, rfl, rfl, hr, hw, K4⟩ := hrel
      have z3 := Z3.out
      have KW : Kept (fun _ => False) w wr := K3.trans (K4.mono fun j hj h => by
        rcases h with h | h
        · exact .inr ⟨by omega, by omega⟩
        · exact .inr ⟨by omega, hj⟩)
      have hbl : Below w.heap.size w wr := KW.below (Nat.le_refl _) (fun _ h => h.elim)
      by_cases hlt : k < nw
      · have hlt' : decide ((k : Int) < (nw : Int)) = true := by simp; omega
        have hkz : k < zs.length := by have := Hnw.out; omega
        obtain ⟨zb, zo, rfl, hc⟩ := (hz.kept KW (fun _ _ h => h)).get (by intro e; rw [e] at hkz; simp at hkz)
        have hcell := hc k hkz
        clear hc
        generalize zs[k] = x at hcell
        rcases rnum_any wr _ g s _ a0 a1 x hr (he0.below hbl (Nat.le_refl _)) (he1.below hbl (Nat.le_refl _)) (by omega) with ⟨width, rfl, h1, h8, hl, hv, hcl⟩ | hcl
        · go_wp2_with fail
          refine hcl.mono ?_
          rintro e w4 ⟨rfl, hr4, k4⟩
          go_wp2_with fail
          refine (err_any _ g s _ _ hr4).mono ?_
          rintro e w5 ⟨rfl, rfl⟩
          go_wp2_with fail
          have z4 := k4.size
          have zr := K4.size
          have hX : ((bs.drop q).take width).length = width := by simp at hl ⊢; omega
          have hv2 := valOf_bound ((bs.drop q).take width)
          rw [hX] at hv2
          have hw4 := hw.kept (G := fun k => k = g) (Kept.of_grown k4 (fun g' e => by injection e with e; exact e.symm)) (fun k h e => by omega)
          have hlq : (bs.take q).length ≤ 500 := by have := Hn.out; simp; omega
          refine (number_ok w4 (fun k => G ≤ k) G (bs.take q) (valOf ((bs.drop q).take width)) width hw4 h1 h8 hv2 (by omega)).mono ?_
          rintro e w5 ⟨rfl, hw5, k5⟩
          have hbe : be width (valOf ((bs.drop q).take width)) = (bs.drop q).take width := by
            have := be_valOf ((bs.drop q).take width)
            rwa [hX] at this
          rw [hbe, ← List.take_add] at hw5
          have hq2 : q + width ≤ n := by have := Hn.out; simp at hl; omega
          clear hX hbe hv2 hlq hv hlt'
          go_wp2_with fail
          go_roundw
          case rel =>
            refine ⟨k + 1, q + width, by omega, hq2, by omega, by go_num, by go_num, ?_, hw5.mono fun j _ h => upTo_low (fun _ h => h) (by omega) j h, ?_⟩
            · rw [← List.drop_drop]
              exact hr4.kept k5 (by omega) (by omega)
            · exact (K4.then (Kept.of_grown (F := outside g G) k4 (fun g' e => by injection e with e; exact .inl e.symm)) (fun _ _ h => h)).then k5 (fun _ _ h => .inr h)
          case measure => simp [intOf]; omega
        · go_wp2_with fail
          refine hcl.mono ?_
          rintro e w4 ⟨rfl, ⟨a, l', hr4⟩, k4⟩
          go_wp2_with fail
          refine (err_any _ g s _ _ hr4).mono ?_
          rintro e w5 ⟨rfl, rfl⟩
          go_wp2_with fail
          have hwt := hw.kept (G := fun k => k = g) (Kept.of_grown k4 (fun g' e => by injection e with e; exact e.symm)) (fun k h e => by omega)
          have KX : Kept (fun _ => False) w w4 := KW.trans (Kept.of_grown k4 fun g' e => by injection e with e; exact .inr ⟨by omega, by have := K4.size; omega⟩)
          have hq9 : (bs.take q).length = q := by have := Hn.out; simp; omega
          refine (done_n _ _ _ q _ hq9 hwt (by omega)).mono ?_
          rintro e w9 ⟨A9, c9, rfl, hown9, k9⟩
          have K9 := KX.then (Kept.of_grown (F := fun _ => False) k9 fun _ e => by cases e) (fun _ _ h => h)
          have b9 := (hb.kept' K9 (fun _ _ _ h => h)).take q
          have t1 : ∀ r, (convert 27 9 (.slice A9 q c9)).run Tryd.prog (w9.drewN r) = .ok (.string ⟨(bs.take q).toArray⟩) (w9.drewN r) := fun r => toString_any (w := w9.drewN r) (own_bytesAt hown9) hq9
          have t2 : ∀ r, (convert 27 9 (.slice A q c)).run Tryd.prog (w9.drewN r) = .ok (.string ⟨(bs.take q).toArray⟩) (w9.drewN r) := fun r => toString_any (w := w9.drewN r) b9 hq9
          have s1 := slice_to A n c q (by omega)
          have hle : decide ((q : Int) ≤ (n : Int)) = true := by simp; omega
          have HQ := Lib.hid hq9
          clear hq9 hcl
          go_wp2_with fail
          go_quiet (fail)
          go_wp2
          go_ret
          exact ⟨rfl, below_drewN (K9.below (Nat.le_refl _) (fun _ h => h.elim)) _⟩
      · have hlt' : decide ((k : Int) < (nw : Int)) = false := by simp; omega
        go_wp2_with fail
        have hwt := hw
        have KX := KW
        have hq9 : (bs.take q).length = q := by have := Hn.out; simp; omega
        refine (done_n _ _ _ q _ hq9 hwt (by omega)).mono ?_
        rintro e w9 ⟨A9, c9, rfl, hown9, k9⟩
        have K9 := KX.then (Kept.of_grown (F := fun _ => False) k9 fun _ e => by cases e) (fun _ _ h => h)
        have b9 := (hb.kept' K9 (fun _ _ _ h => h)).take q
        have t1 : ∀ r, (convert 27 9 (.slice A9 q c9)).run Tryd.prog (w9.drewN r) = .ok (.string ⟨(bs.take q).toArray⟩) (w9.drewN r) := fun r => toString_any (w := w9.drewN r) (own_bytesAt hown9) hq9
        have t2 : ∀ r, (convert 27 9 (.slice A q c)).run Tryd.prog (w9.drewN r) = .ok (.string ⟨(bs.take q).toArray⟩) (w9.drewN r) := fun r => toString_any (w := w9.drewN r) b9 hq9
        have s1 := slice_to A n c q (by omega)
        have hle : decide ((q : Int) ≤ (n : Int)) = true := by simp; omega
        have HQ := Lib.hid hq9
        clear hq9
        go_wp2_with fail
        go_quiet (fail)
        go_wp2
        go_ret
        exact ⟨rfl, below_drewN (K9.below (Nat.le_refl _) (fun _ h => h.elim)) _⟩
end Go.Proofs.YtmmjpkijnecmcaaDoor
