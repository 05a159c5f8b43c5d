/-
  RulesBytes: the walk.
-/
import Derived.Test.YtjmdlpefacbmmaaDoorRb2
import Derived.Test.YtjmdlpefacbmmaaDoorRb4
import Derived.Test.YtjmdlpefacbmmaaDoorAlive
namespace Go.Proofs.YtjmdlpefacbmmaaDoor
open Go.RowKit

theorem valOf_be : ∀ k n, valOf (be k n) = n % 256 ^ k
  | 0, n => by simp [be, valOf, Nat.mod_one]
  | k + 1, n => by
    have h1 : valOf (be (k + 1) n) = (n / 256 ^ k % 256) * 256 ^ k + valOf (be k n) := by
      have h := valOf_cons (be k n) (n / 256 ^ k % 256)
      rw [be_length] at h
      rw [← h]
      simp [be, valOf]
    rw [h1, valOf_be k n, Nat.pow_succ, Nat.mod_mul, Nat.mul_comm (256 ^ k), Nat.add_comm]
theorem pNum_be (k m : Nat) (r : List UInt8) (h1 : 1 ≤ k) (h8 : k ≤ 8) (hm : m < 256 ^ k) (h63 : m < 9223372036854775808) : pNum (k : Int) 0 (be k m ++ r) = (m, 0, r) := by
  have hl : (be k m).length = k := be_length k m
  have ht : (be k m ++ r).take k = be k m := by rw [List.take_append_of_le_length (by omega), List.take_of_length_le (by omega)]
  have hd : (be k m ++ r).drop k = r := by
    have h := List.drop_left (l₁ := be k m) (l₂ := r)
    rw [hl] at h
    exact h
  have hv : valOf (be k m) = m := by rw [valOf_be, Nat.mod_eq_of_lt hm]
  unfold pNum
  rw [if_neg (by simp), if_neg (by omega), if_neg (by rw [List.length_append, hl]; omega), Int.toNat_natCast, ht, hd, hv, if_neg (by omega)]
theorem pNum_le {width : Int} {e n1 e1 : Nat} {l l1 : List UInt8} (h : pNum width e l = (n1, e1, l1)) (he : e ≤ 18) : e1 ≤ 18 := by
  have h2 : (pNum width e l).2.1 = e1 := by rw [h]
  rw [← h2]
  unfold pNum
  repeat' split
  all_goals simp
  all_goals omega
theorem num_of (w : World) (B : Nat) (E : Nat → Addr) (e : Nat) (he : e ≤ 18) (hE : ErrEnv w B E) : Calls Tryd.prog 17 #[evOf E e] w fun en w' => en = .returned (.int .i64 (e : Int)) ∧ w.grownBy w' none := by
  rcases e with _ | k
  · exact (num_nil w).mono fun _ _ ⟨h1, h2⟩ => ⟨h1, h2 ▸ World.grownBy.refl w none⟩
  · exact (num_err w B E k (by omega) hE).mono fun _ _ ⟨h1, h2⟩ => ⟨h1, h2⟩
theorem rdV_form (d n1 n2 n3 n4 n5 : Nat) : ∃ x1 x2 x3 x4 x5 : Int, rdV d n1 n2 n3 n4 n5 = stC x1 x2 x3 x4 x5 := by
  unfold rdV
  split
  · exact ⟨_, _, _, _, _, rfl⟩
  · exact ⟨_, _, _, _, _, rfl⟩

set_option maxRecDepth 100000 in
set_option maxHeartbeats 8000000 in
theorem rulesbytes_any (w : World) (E : Nat → Addr) (he : ErrEnv w w.heap.size E) (s : St) (Ab : Option Addr) (nb cb : Nat) (bs : List UInt8) (hnb : bs.length = nb) (hcb : nb ≤ cb) (hbs : BytesAt w Ab bs) :
    Calls Tryd.prog 5 #[s.val, .slice Ab nb cb] w fun en w' => en = .returned (.bool true) ∧ w.grownBy w' none := by
  have HE := Lib.hid he
  have HBS := Lib.hid (And.intro hnb (And.intro hcb hbs))
  obtain ⟨se, sv, sl, sp, sf⟩ := s
  have ka := World.grownBy_alloc w (.cells (stC se sv sl sp sf) 23) none
  have HA := Lib.hid (Blk.new w 23 (stC se sv sl sp sf))
  have Ka := Lib.hid ka
  clear he hnb hcb hbs ka
  by_cases hbig : 200 < nb
  · have d1 : decide ((200 : Int) < (nb : Int)) = true := by simp; omega
    go_enter Tryd.func5, Tryd.ntmps5
    go_wp2_with fail
    refine (rules_alive _ w.heap.size E (HE.out.grown Ka.out (by simp))).mono ?_
    rintro en w1 ⟨rfl, k1⟩
    go_wp2_with fail
    go_ret
    exact ⟨rfl, grown_trans Ka.out k1⟩
  have d1 : decide ((200 : Int) < (nb : Int)) = false := by simp; omega
  have hm : nb ≤ 1000 := by omega
  obtain ⟨n1, e1, l1, q1⟩ : ∃ n e l, pNum 4 0 bs = (n, e, l) := ⟨_, _, _, rfl⟩
  obtain ⟨n2, e2, l2, q2⟩ : ∃ n e l, pNum 6 e1 l1 = (n, e, l) := ⟨_, _, _, rfl⟩
  obtain ⟨n3, e3, l3, q3⟩ : ∃ n e l, pNum 6 e2 l2 = (n, e, l) := ⟨_, _, _, rfl⟩
  obtain ⟨n4, e4, l4, q4⟩ : ∃ n e l, pNum 6 e3 l3 = (n, e, l) := ⟨_, _, _, rfl⟩
  obtain ⟨n5, e5, l5, q5⟩ : ∃ n e l, pNum 1 e4 l4 = (n, e, l) := ⟨_, _, _, rfl⟩
  obtain ⟨d, q6⟩ : ∃ d, pDone e5 l5 = d := ⟨_, rfl⟩
  obtain ⟨x1, x2, x3, x4, x5, hV⟩ := rdV_form d n1 n2 n3 n4 n5
  obtain ⟨r, hr⟩ : ∃ r, rdE d n1 n2 n3 n4 n5 = r := ⟨_, rfl⟩
  have hr18 : r ≤ 18 := by
    have h5 : e5 ≤ 18 := pNum_le q5 (pNum_le q4 (pNum_le q3 (pNum_le q2 (pNum_le q1 (by omega)))))
    have hd : d ≤ 18 := by
      rw [← q6]
      unfold pDone
      split <;> omega
    rw [← hr]
    unfold rdE
    repeat' split
    all_goals omega
  have RP := Lib.hid (show ∀ z : World, w.grownBy z none → Calls Tryd.prog 18 #[.slice Ab nb cb] z fun en w' => en = .returned (.tuple #[.agg (stC x1 x2 x3 x4 x5), evOf E r]) ∧ z.grownBy w' none from fun z hz =>
    read_is z w.heap.size hz.size E (HE.out.grown hz (by simp)) Ab nb cb bs HBS.out.1 (HBS.out.2.2.grown hz (by simp)) hm n1 e1 l1 q1 n2 e2 l2 q2 n3 e3 l3 q3 n4 e4 l4 q4 n5 e5 l5 q5 d q6 _ hV _ (by rw [hr]))
  have RR := Lib.hid (show ∀ z : World, w.grownBy z none → Calls Tryd.prog 20 #[.slice Ab nb cb] z fun en w' => en = .returned (.tuple #[.agg (stC x1 x2 x3 x4 x5), .int .i64 (r : Int)]) ∧ z.grownBy w' none from fun z hz =>
    rread_is z Ab nb cb bs HBS.out.1 (HBS.out.2.2.grown hz (by simp)) hm HBS.out.2.1 n1 e1 l1 q1 n2 e2 l2 q2 n3 e3 l3 q3 n4 e4 l4 q4 n5 e5 l5 q5 d q6 _ hV _ (by rw [hr]))
  have RN := Lib.hid (show ∀ z : World, w.grownBy z none → Calls Tryd.prog 17 #[evOf E r] z fun en w' => en = .returned (.int .i64 (r : Int)) ∧ z.grownBy w' none from fun z hz =>
    num_of z w.heap.size E r hr18 (HE.out.grown hz (by simp)))
  clear q1 q2 q3 q4 q5 q6 hV hr hr18 hbig hm
  cases hright : rightB se sv sl sp sf
  · go_enter Tryd.func5, Tryd.ntmps5
    go_wp2_with fail
    refine (rules_alive _ w.heap.size E (HE.out.grown Ka.out (by simp))).mono ?_
    rintro en w1 ⟨rfl, k1⟩
    have HA1 := Lib.hid (HA.out.grown k1 (by simp))
    have Kb := Lib.hid (grown_trans Ka.out k1)
    have a0 := HA1.out.cell 0
    have a1 := HA1.out.cell 1
    have a2 := HA1.out.cell 2
    have a3 := HA1.out.cell 3
    have a4 := HA1.out.cell 4
    simp at a0 a1 a2 a3 a4
    clear k1
    go_wp2_with fail
    refine (sbytes_bad w1 w.heap.size E (HE.out.grown Kb.out (by simp)) _ _ _ _ _ hright).mono ?_
    rintro en w2 ⟨rfl, k2⟩
    have HA2 := Lib.hid (HA1.out.grown k2 (by simp))
    have Kc := Lib.hid (grown_trans Kb.out k2)
    clear a0 a1 a2 a3 a4 k2
    have a0 := HA2.out.cell 0
    have a1 := HA2.out.cell 1
    have a2 := HA2.out.cell 2
    have a3 := HA2.out.cell 3
    have a4 := HA2.out.cell 4
    simp at a0 a1 a2 a3 a4
    have HM := Lib.hid (Blk.new w2 29 (stC se sv sl sp sf))
    have Kd := Lib.hid (grown_trans Kc.out (World.grownBy_alloc w2 (.cells (stC se sv sl sp sf) 29) none))
    go_wp2_with fail
    refine (refRight_is _ _ _ _ _ _).mono ?_
    rw [hright]
    rintro en w3 ⟨rfl, k3⟩
    have Ke := Lib.hid (grown_trans Kd.out k3)
    clear a0 a1 a2 a3 a4 k3
    go_wp2_with fail
    refine (num_err w3 w.heap.size E 3 (by omega) (HE.out.grown Ke.out (by simp))).mono ?_
    rintro en w4 ⟨rfl, k4⟩
    have Kf := Lib.hid (grown_trans Ke.out k4)
    clear k4
    go_wp2_with fail
    refine (RP.out w4 Kf.out).mono ?_
    rintro en u1 ⟨rfl, k1⟩
    have kU := grown_trans k1 (World.grownBy_alloc u1 (.cells (stC x1 x2 x3 x4 x5) 23) none)
    have Ku := Lib.hid (grown_trans Kf.out kU)
    have HX := Lib.hid (Blk.new u1 23 (stC x1 x2 x3 x4 x5))
    clear k1 kU
    go_wp2_with fail
    generalize u1.alloc (.cells (stC x1 x2 x3 x4 x5) 23) = u2 at *
    refine (RR.out u2 Ku.out).mono ?_
    rintro en u3 ⟨rfl, k3⟩
    have kY := World.grownBy_alloc u3 (.cells (stC x1 x2 x3 x4 x5) 29) none
    have Kv := Lib.hid (grown_trans Ku.out (grown_trans k3 kY))
    have HX3 := Lib.hid (HX.out.grown (grown_trans k3 kY) (by simp))
    have HY := Lib.hid (Blk.new u3 29 (stC x1 x2 x3 x4 x5))
    clear k3 kY
    have c0 := HX3.out.cell 0
    have c1 := HX3.out.cell 1
    have c2 := HX3.out.cell 2
    have c3 := HX3.out.cell 3
    have c4 := HX3.out.cell 4
    have y0 := HY.out.cell 0
    have y1 := HY.out.cell 1
    have y2 := HY.out.cell 2
    have y3 := HY.out.cell 3
    have y4 := HY.out.cell 4
    simp at c0 c1 c2 c3 c4 y0 y1 y2 y3 y4
    go_wp2_with fail
    refine (RN.out _ Kv.out).mono ?_
    rintro en u5 ⟨rfl, k5⟩
    go_wp2_with fail
    go_ret
    exact ⟨rfl, grown_trans Kv.out k5⟩
  · have hp := right_yes _ _ _ _ _ hright
    obtain ⟨e, rfl⟩ := Int.eq_ofNat_of_zero_le hp.2.2.2.2.2.2.1
    obtain ⟨v, rfl⟩ := Int.eq_ofNat_of_zero_le hp.1
    obtain ⟨l, rfl⟩ := Int.eq_ofNat_of_zero_le hp.2.2.1
    obtain ⟨p, rfl⟩ := Int.eq_ofNat_of_zero_le hp.2.2.2.2.1
    obtain ⟨f, rfl⟩ := Int.eq_ofNat_of_zero_le hp.2.2.2.2.2.2.2.2.1
    obtain ⟨L, hL⟩ : ∃ L, L = stB e v l p f := ⟨_, rfl⟩
    have hlen : L.length = 23 := by rw [hL]; exact stB_len _ _ _ _ _
    have g1 : pNum 4 0 L = (e, 0, be 6 v ++ (be 6 l ++ (be 6 p ++ be 1 f))) := by rw [hL]; exact pNum_be 4 e _ (by omega) (by omega) (by omega) (by omega)
    have g2 : pNum 6 0 (be 6 v ++ (be 6 l ++ (be 6 p ++ be 1 f))) = (v, 0, be 6 l ++ (be 6 p ++ be 1 f)) := pNum_be 6 v _ (by omega) (by omega) (by omega) (by omega)
    have g3 : pNum 6 0 (be 6 l ++ (be 6 p ++ be 1 f)) = (l, 0, be 6 p ++ be 1 f) := pNum_be 6 l _ (by omega) (by omega) (by omega) (by omega)
    have g4 : pNum 6 0 (be 6 p ++ be 1 f) = (p, 0, be 1 f) := pNum_be 6 p _ (by omega) (by omega) (by omega) (by omega)
    have g5 : pNum 1 0 (be 1 f) = (f, 0, []) := by
      have := pNum_be 1 f [] (by omega) (by omega) (by omega) (by omega)
      rwa [List.append_nil] at this
    have g7 : rdE 0 e v l p f = 0 := by simp [rdE, hright]
    have RB := Lib.hid (show ∀ z : World, w.grownBy z none → ∀ A c, BytesAt z A L → Calls Tryd.prog 18 #[.slice A 23 c] z fun en w' => en = .returned (.tuple #[.agg (stC e v l p f), .nilIface]) ∧ z.grownBy w' none from fun z hz A c hA =>
      read_is z w.heap.size hz.size E (HE.out.grown hz (by simp)) A 23 c L hlen hA (by omega) e 0 _ g1 v 0 _ g2 l 0 _ g3 p 0 _ g4 f 0 _ g5 0 rfl _ (by rw [rdV, g7, if_pos rfl]) _ (by rw [g7]; rfl))
    have RW := Lib.hid (show ∀ z : World, Calls Tryd.prog 16 #[stV e v l p f] z fun en w' => ∃ A c, en = .returned (.tuple #[.slice A 23 c, .nilIface]) ∧ BytesAt w' A L ∧ z.grownBy w' none from fun z => by rw [hL]; exact sbytes_ok z e v l p f hright)
    have RV := Lib.hid (show ∀ z : World, Calls Tryd.prog 19 #[stV e v l p f] z fun en w' => ∃ A c, en = .returned (.slice A 23 c) ∧ BytesAt w' A L ∧ z.grownBy w' none from fun z => by rw [hL]; exact rbytes_ok z e v l p f hright)
    have HL := Lib.hid hlen
    clear hp g1 g2 g3 g4 g5 g7 hL hlen
    go_enter Tryd.func5, Tryd.ntmps5
    go_wp2_with fail
    refine (rules_alive _ w.heap.size E (HE.out.grown Ka.out (by simp))).mono ?_
    rintro en w1 ⟨rfl, k1⟩
    have HA1 := Lib.hid (HA.out.grown k1 (by simp))
    have Kb := Lib.hid (grown_trans Ka.out k1)
    have a0 := HA1.out.cell 0
    have a1 := HA1.out.cell 1
    have a2 := HA1.out.cell 2
    have a3 := HA1.out.cell 3
    have a4 := HA1.out.cell 4
    simp at a0 a1 a2 a3 a4
    clear k1
    go_wp2_with fail
    refine (RW.out w1).mono ?_
    rintro en w2 ⟨A2, c2, rfl, hb2, k2⟩
    have HA2 := Lib.hid (HA1.out.grown k2 (by simp))
    have Kc := Lib.hid (grown_trans Kb.out k2)
    have HB2 := Lib.hid hb2
    clear a0 a1 a2 a3 a4 k2 hb2
    have a0 := HA2.out.cell 0
    have a1 := HA2.out.cell 1
    have a2 := HA2.out.cell 2
    have a3 := HA2.out.cell 3
    have a4 := HA2.out.cell 4
    simp at a0 a1 a2 a3 a4
    have kM := World.grownBy_alloc w2 (.cells (stC e v l p f) 29) none
    have HM := Lib.hid (Blk.new w2 29 (stC e v l p f))
    have Kd := Lib.hid (grown_trans Kc.out kM)
    have HB3 := Lib.hid (HB2.out.grown kM (by simp))
    have HA3 := Lib.hid (HA2.out.grown kM (by simp))
    clear kM
    go_wp2_with fail
    refine (refRight_is _ _ _ _ _ _).mono ?_
    rw [hright]
    rintro en w3 ⟨rfl, k3⟩
    have Ke := Lib.hid (grown_trans Kd.out k3)
    have HB4 := Lib.hid (HB3.out.grown k3 (by simp))
    have HA4 := Lib.hid (HA3.out.grown k3 (by simp))
    have HM4 := Lib.hid (HM.out.grown k3 (by simp))
    clear a0 a1 a2 a3 a4 k3
    go_wp2_with fail
    refine (RB.out w3 Ke.out A2 c2 HB4.out).mono ?_
    rintro en w4 ⟨rfl, k4⟩
    have kN := grown_trans k4 (World.grownBy_alloc w4 (.cells (stC e v l p f) 23) none)
    have Kf := Lib.hid (grown_trans Ke.out kN)
    have HB5 := Lib.hid (HB4.out.grown kN (by simp))
    have HA5 := Lib.hid (HA4.out.grown kN (by simp))
    have HM5 := Lib.hid (HM4.out.grown kN (by simp))
    have HN5 := Lib.hid (Blk.new w4 23 (stC e v l p f))
    clear k4 kN
    go_wp2_with fail
    generalize w4.alloc (.cells (stC e v l p f) 23) = w5 at *
    generalize w4.heap.size = bb at *
    generalize w2.heap.size = mb at *
    have a0 := HA5.out.cell 0
    have a1 := HA5.out.cell 1
    have a2 := HA5.out.cell 2
    have a3 := HA5.out.cell 3
    have a4 := HA5.out.cell 4
    have b0 := HM5.out.cell 0
    have b1 := HM5.out.cell 1
    have b2 := HM5.out.cell 2
    have b3 := HM5.out.cell 3
    have b4 := HM5.out.cell 4
    have m0 := HN5.out.cell 0
    have m1 := HN5.out.cell 1
    have m2 := HN5.out.cell 2
    have m3 := HN5.out.cell 3
    have m4 := HN5.out.cell 4
    simp at a0 a1 a2 a3 a4 b0 b1 b2 b3 b4 m0 m1 m2 m3 m4
    have hS0 : ∀ V, w5.grownBy V none → (V.cell? ⟨w.heap.size, 0, none⟩ = some (.int .i64 (e : Int)) ∧ V.cell? ⟨w.heap.size, 1, none⟩ = some (.int .i64 (v : Int)) ∧ V.cell? ⟨w.heap.size, 2, none⟩ = some (.int .i64 (l : Int)) ∧ V.cell? ⟨w.heap.size, 3, none⟩ = some (.int .i64 (p : Int)) ∧ V.cell? ⟨w.heap.size, 4, none⟩ = some (.int .i64 (f : Int)) ∧ V.cell? ⟨mb, 0, none⟩ = some (.int .i64 (e : Int)) ∧ V.cell? ⟨mb, 1, none⟩ = some (.int .i64 (v : Int)) ∧ V.cell? ⟨mb, 2, none⟩ = some (.int .i64 (l : Int)) ∧ V.cell? ⟨mb, 3, none⟩ = some (.int .i64 (p : Int)) ∧ V.cell? ⟨mb, 4, none⟩ = some (.int .i64 (f : Int)) ∧ V.cell? ⟨bb, 0, none⟩ = some (.int .i64 (e : Int)) ∧ V.cell? ⟨bb, 1, none⟩ = some (.int .i64 (v : Int)) ∧ V.cell? ⟨bb, 2, none⟩ = some (.int .i64 (l : Int)) ∧ V.cell? ⟨bb, 3, none⟩ = some (.int .i64 (p : Int)) ∧ V.cell? ⟨bb, 4, none⟩ = some (.int .i64 (f : Int))) ∧ BytesAt V A2 L := fun V hV => ⟨⟨hV.cell a0 (by simp), hV.cell a1 (by simp), hV.cell a2 (by simp), hV.cell a3 (by simp), hV.cell a4 (by simp), hV.cell b0 (by simp), hV.cell b1 (by simp), hV.cell b2 (by simp), hV.cell b3 (by simp), hV.cell b4 (by simp), hV.cell m0 (by simp), hV.cell m1 (by simp), hV.cell m2 (by simp), hV.cell m3 (by simp), hV.cell m4 (by simp)⟩, HB5.out.grown hV (by simp)⟩
    have HS := Lib.hid hS0
    clear a0 a1 a2 a3 a4 b0 b1 b2 b3 b4 m0 m1 m2 m3 m4 hS0
    refine wp_region_held_drew (S := fun V => (V.cell? ⟨w.heap.size, 0, none⟩ = some (.int .i64 (e : Int)) ∧ V.cell? ⟨w.heap.size, 1, none⟩ = some (.int .i64 (v : Int)) ∧ V.cell? ⟨w.heap.size, 2, none⟩ = some (.int .i64 (l : Int)) ∧ V.cell? ⟨w.heap.size, 3, none⟩ = some (.int .i64 (p : Int)) ∧ V.cell? ⟨w.heap.size, 4, none⟩ = some (.int .i64 (f : Int)) ∧ V.cell? ⟨mb, 0, none⟩ = some (.int .i64 (e : Int)) ∧ V.cell? ⟨mb, 1, none⟩ = some (.int .i64 (v : Int)) ∧ V.cell? ⟨mb, 2, none⟩ = some (.int .i64 (l : Int)) ∧ V.cell? ⟨mb, 3, none⟩ = some (.int .i64 (p : Int)) ∧ V.cell? ⟨mb, 4, none⟩ = some (.int .i64 (f : Int)) ∧ V.cell? ⟨bb, 0, none⟩ = some (.int .i64 (e : Int)) ∧ V.cell? ⟨bb, 1, none⟩ = some (.int .i64 (v : Int)) ∧ V.cell? ⟨bb, 2, none⟩ = some (.int .i64 (l : Int)) ∧ V.cell? ⟨bb, 3, none⟩ = some (.int .i64 (p : Int)) ∧ V.cell? ⟨bb, 4, none⟩ = some (.int .i64 (f : Int))) ∧ BytesAt V A2 L) (by kernel_rfl) (HS.out _ (grown_drew (World.grownBy.refl w5 none))) (fun hHeld => ?_)
    refine wpAnyH_take (i := 0) (oi := _) (v := ?v0z) rfl (by kernel_rfl) (by kernel_rfl) (by kernel_rfl) (fun _ _ _ h => h) (Or.inl ⟨by rfl, ?hy0z⟩) (by assumption) ?rest0z
    case hy0z => (intro V hSw; (try dsimp only at hSw); go_simp) <;> with_reducible rfl
    simp only [Act.put, List.getElem_toArray, List.getElem_cons_zero, List.setIfInBounds_toArray, List.set_cons_zero, List.set_cons_succ]
    refine wpAnyH_take (i := 1) (oi := _) (v := ?v1z) rfl (by kernel_rfl) (by kernel_rfl) (by kernel_rfl) (fun _ _ _ h => h) (Or.inl ⟨by rfl, ?hy1z⟩) (by assumption) ?rest1z
    case hy1z => (intro V hSw; (try dsimp only at hSw); go_simp) <;> with_reducible rfl
    simp only [Act.put, List.getElem_toArray, List.getElem_cons_succ, List.getElem_cons_zero, List.setIfInBounds_toArray, List.set_cons_zero, List.set_cons_succ]
    refine wpAnyH_take (i := 2) (oi := _) (v := ?v2z) rfl (by kernel_rfl) (by kernel_rfl) (by kernel_rfl) (fun _ _ _ h => h) (Or.inl ⟨by rfl, ?hy2z⟩) (by assumption) ?rest2z
    case hy2z => (intro V hSw; (try dsimp only at hSw); go_simp) <;> with_reducible rfl
    simp only [Act.put, List.getElem_toArray, List.getElem_cons_succ, List.getElem_cons_zero, List.setIfInBounds_toArray, List.set_cons_zero, List.set_cons_succ]
    refine wpAnyH_take (i := 3) (oi := _) (v := ?v3z) rfl (by kernel_rfl) (by kernel_rfl) (by kernel_rfl) (fun _ _ _ h => h) (Or.inl ⟨by rfl, ?hy3z⟩) (by assumption) ?rest3z
    case hy3z => (intro V hSw; (try dsimp only at hSw); go_simp) <;> with_reducible rfl
    simp only [Act.put, List.getElem_toArray, List.getElem_cons_succ, List.getElem_cons_zero, List.setIfInBounds_toArray, List.set_cons_zero, List.set_cons_succ]
    refine wpAnyH_take (i := 4) (oi := _) (v := .string ⟨L.toArray⟩) rfl (by kernel_rfl) (by kernel_rfl) (by kernel_rfl) (fun _ _ _ h => h) (Or.inl ⟨by rfl, ?hy4z⟩) (by assumption) ?rest4z
    case hy4z => (intro V hSw; have hcv := toString_any (c := c2) hSw.2 HL.out; (try dsimp only at hSw); go_simp) <;> with_reducible rfl
    simp only [Act.put, List.getElem_toArray, List.getElem_cons_succ, List.getElem_cons_zero, List.setIfInBounds_toArray, List.set_cons_zero, List.set_cons_succ]
    refine wpAnyH_take (i := 5) (oi := _) (v := ?v5z) rfl (by kernel_rfl) (by kernel_rfl) (by kernel_rfl) (fun _ _ _ h => h) (Or.inl ⟨by rfl, ?hy5z⟩) (by assumption) ?rest5z
    case hy5z => (intro V hSw; (try dsimp only at hSw); go_simp) <;> with_reducible rfl
    simp only [Act.put, List.getElem_toArray, List.getElem_cons_succ, List.getElem_cons_zero, List.setIfInBounds_toArray, List.set_cons_zero, List.set_cons_succ]
    refine wpAnyH_ready (rs := [6]) (by kernel_rfl) (by simp) ?_
    refine AllReadyH.cons (o := _) rfl (fun K hK => ?_) AllReadyH.nil
    rw [if_pos (by rfl)]
    go_simp
    refine (RV.out _).mono ?_
    rintro en w6 ⟨A6, c6, rfl, hb6, k6⟩
    have kk : w5.grownBy w6 none := grown_trans (grown_drew (World.grownBy.refl w5 none)) k6
    have s1 := toString_any (c := c6) hb6 HL.out
    have Kg := Lib.hid (grown_trans Kf.out kk)
    have HS6 := Lib.hid (HS.out _ kk)
    clear hb6 k6 kk
    dsimp only
    refine hK.out _ _ HS6.out (fun hHeld => ?_)
    clear hK K
    try simp only [Act.put, List.getElem_toArray, List.getElem_cons_succ, List.getElem_cons_zero, List.setIfInBounds_toArray, List.set_cons_zero, List.set_cons_succ]
    refine wpAnyH_ready (rs := [7]) (by kernel_rfl) (by simp) ?_
    refine AllReadyH.cons (o := _) rfl (fun K hK => ?_) AllReadyH.nil
    rw [if_pos (by rfl)]
    go_simp
    refine hK.out _ _ HS6.out (fun hHeld => ?_)
    clear hK K s1
    try simp only [Act.put, List.getElem_toArray, List.getElem_cons_succ, List.getElem_cons_zero, List.setIfInBounds_toArray, List.set_cons_zero, List.set_cons_succ]
    refine wpAnyH_take (i := 8) (oi := _) (v := ?v8z) rfl (by kernel_rfl) (by kernel_rfl) (by kernel_rfl) (fun _ _ _ h => h) (Or.inl ⟨by rfl, ?hy8z⟩) (by assumption) ?rest8z
    case hy8z => (intro V hSw; (try dsimp only at hSw); go_simp) <;> with_reducible rfl
    simp only [Act.put, List.getElem_toArray, List.getElem_cons_succ, List.getElem_cons_zero, List.setIfInBounds_toArray, List.set_cons_zero, List.set_cons_succ]
    refine wpAnyH_take (i := 9) (oi := _) (v := ?v9z) rfl (by kernel_rfl) (by kernel_rfl) (by kernel_rfl) (fun _ _ _ h => h) (Or.inl ⟨by rfl, ?hy9z⟩) (by assumption) ?rest9z
    case hy9z => (intro V hSw; (try dsimp only at hSw); go_simp) <;> with_reducible rfl
    simp only [Act.put, List.getElem_toArray, List.getElem_cons_succ, List.getElem_cons_zero, List.setIfInBounds_toArray, List.set_cons_zero, List.set_cons_succ]
    refine wpAnyH_take (i := 10) (oi := _) (v := ?v10z) rfl (by kernel_rfl) (by kernel_rfl) (by kernel_rfl) (fun _ _ _ h => h) (Or.inl ⟨by rfl, ?hy10z⟩) (by assumption) ?rest10z
    case hy10z => (intro V hSw; (try dsimp only at hSw); go_simp) <;> with_reducible rfl
    simp only [Act.put, List.getElem_toArray, List.getElem_cons_succ, List.getElem_cons_zero, List.setIfInBounds_toArray, List.set_cons_zero, List.set_cons_succ]
    refine wpAnyH_take (i := 11) (oi := _) (v := ?v11z) rfl (by kernel_rfl) (by kernel_rfl) (by kernel_rfl) (fun _ _ _ h => h) (Or.inl ⟨by rfl, ?hy11z⟩) (by assumption) ?rest11z
    case hy11z => (intro V hSw; (try dsimp only at hSw); go_simp) <;> with_reducible rfl
    simp only [Act.put, List.getElem_toArray, List.getElem_cons_succ, List.getElem_cons_zero, List.setIfInBounds_toArray, List.set_cons_zero, List.set_cons_succ]
    refine wpAnyH_take (i := 12) (oi := _) (v := ?v12z) rfl (by kernel_rfl) (by kernel_rfl) (by kernel_rfl) (fun _ _ _ h => h) (Or.inl ⟨by rfl, ?hy12z⟩) (by assumption) ?rest12z
    case hy12z => (intro V hSw; (try dsimp only at hSw); go_simp) <;> with_reducible rfl
    simp only [Act.put, List.getElem_toArray, List.getElem_cons_succ, List.getElem_cons_zero, List.setIfInBounds_toArray, List.set_cons_zero, List.set_cons_succ]
    refine wpAnyH_take (i := 13) (oi := _) (v := ?v13z) rfl (by kernel_rfl) (by kernel_rfl) (by kernel_rfl) (fun _ _ _ h => h) (Or.inl ⟨by rfl, ?hy13z⟩) (by assumption) ?rest13z
    case hy13z => (intro V hSw; (try dsimp only at hSw); go_simp) <;> with_reducible rfl
    simp only [Act.put, List.getElem_toArray, List.getElem_cons_succ, List.getElem_cons_zero, List.setIfInBounds_toArray, List.set_cons_zero, List.set_cons_succ]
    refine wpAnyH_take (i := 14) (oi := _) (v := ?v14z) rfl (by kernel_rfl) (by kernel_rfl) (by kernel_rfl) (fun _ _ _ h => h) (Or.inl ⟨by rfl, ?hy14z⟩) (by assumption) ?rest14z
    case hy14z => (intro V hSw; (try dsimp only at hSw); go_simp) <;> with_reducible rfl
    simp only [Act.put, List.getElem_toArray, List.getElem_cons_succ, List.getElem_cons_zero, List.setIfInBounds_toArray, List.set_cons_zero, List.set_cons_succ]
    refine wpAnyH_take (i := 15) (oi := _) (v := ?v15z) rfl (by kernel_rfl) (by kernel_rfl) (by kernel_rfl) (fun _ _ _ h => h) (Or.inl ⟨by rfl, ?hy15z⟩) (by assumption) ?rest15z
    case hy15z => (intro V hSw; (try dsimp only at hSw); go_simp) <;> with_reducible rfl
    simp only [Act.put, List.getElem_toArray, List.getElem_cons_succ, List.getElem_cons_zero, List.setIfInBounds_toArray, List.set_cons_zero, List.set_cons_succ]
    refine wpAnyH_take (i := 16) (oi := _) (v := ?v16z) rfl (by kernel_rfl) (by kernel_rfl) (by kernel_rfl) (fun _ _ _ h => h) (Or.inl ⟨by rfl, ?hy16z⟩) (by assumption) ?rest16z
    case hy16z => (intro V hSw; (try dsimp only at hSw); go_simp) <;> with_reducible rfl
    simp only [Act.put, List.getElem_toArray, List.getElem_cons_succ, List.getElem_cons_zero, List.setIfInBounds_toArray, List.set_cons_zero, List.set_cons_succ]
    refine wpAnyH_take (i := 17) (oi := _) (v := ?v17z) rfl (by kernel_rfl) (by kernel_rfl) (by kernel_rfl) (fun _ _ _ h => h) (Or.inl ⟨by rfl, ?hy17z⟩) (by assumption) ?rest17z
    case hy17z => (intro V hSw; (try dsimp only at hSw); go_simp) <;> with_reducible rfl
    simp only [Act.put, List.getElem_toArray, List.getElem_cons_succ, List.getElem_cons_zero, List.setIfInBounds_toArray, List.set_cons_zero, List.set_cons_succ]
    refine wpAnyH_take (i := 18) (oi := _) (v := ?v18z) rfl (by kernel_rfl) (by kernel_rfl) (by kernel_rfl) (fun _ _ _ h => h) (Or.inl ⟨by rfl, ?hy18z⟩) (by assumption) ?rest18z
    case hy18z => (intro V hSw; (try dsimp only at hSw); go_simp) <;> with_reducible rfl
    simp only [Act.put, List.getElem_toArray, List.getElem_cons_succ, List.getElem_cons_zero, List.setIfInBounds_toArray, List.set_cons_zero, List.set_cons_succ]
    refine wpAnyH_take (i := 19) (oi := _) (v := ?v19z) rfl (by kernel_rfl) (by kernel_rfl) (by kernel_rfl) (fun _ _ _ h => h) (Or.inl ⟨by rfl, ?hy19z⟩) (by assumption) ?rest19z
    case hy19z => (intro V hSw; (try dsimp only at hSw); go_simp) <;> with_reducible rfl
    simp only [Act.put, List.getElem_toArray, List.getElem_cons_succ, List.getElem_cons_zero, List.setIfInBounds_toArray, List.set_cons_zero, List.set_cons_succ]
    refine wpAnyH_take (i := 20) (oi := _) (v := ?v20z) rfl (by kernel_rfl) (by kernel_rfl) (by kernel_rfl) (fun _ _ _ h => h) (Or.inl ⟨by rfl, ?hy20z⟩) (by assumption) ?rest20z
    case hy20z => (intro V hSw; (try dsimp only at hSw); go_simp) <;> with_reducible rfl
    simp only [Act.put, List.getElem_toArray, List.getElem_cons_succ, List.getElem_cons_zero, List.setIfInBounds_toArray, List.set_cons_zero, List.set_cons_succ]
    refine wpAnyH_take (i := 21) (oi := _) (v := ?v21z) rfl (by kernel_rfl) (by kernel_rfl) (by kernel_rfl) (fun _ _ _ h => h) (Or.inl ⟨by rfl, ?hy21z⟩) (by assumption) ?rest21z
    case hy21z => (intro V hSw; (try dsimp only at hSw); go_simp) <;> with_reducible rfl
    simp only [Act.put, List.getElem_toArray, List.getElem_cons_succ, List.getElem_cons_zero, List.setIfInBounds_toArray, List.set_cons_zero, List.set_cons_succ]
    refine wpAnyH_take (i := 22) (oi := _) (v := ?v22z) rfl (by kernel_rfl) (by kernel_rfl) (by kernel_rfl) (fun _ _ _ h => h) (Or.inl ⟨by rfl, ?hy22z⟩) (by assumption) ?rest22z
    case hy22z => (intro V hSw; (try dsimp only at hSw); go_simp) <;> with_reducible rfl
    simp only [Act.put, List.getElem_toArray, List.getElem_cons_succ, List.getElem_cons_zero, List.setIfInBounds_toArray, List.set_cons_zero, List.set_cons_succ]
    refine wpAnyH_take (i := 23) (oi := _) (v := ?v23z) rfl (by kernel_rfl) (by kernel_rfl) (by kernel_rfl) (fun _ _ _ h => h) (Or.inl ⟨by rfl, ?hy23z⟩) (by assumption) ?rest23z
    case hy23z => (intro V hSw; (try dsimp only at hSw); go_simp) <;> with_reducible rfl
    simp only [Act.put, List.getElem_toArray, List.getElem_cons_succ, List.getElem_cons_zero, List.setIfInBounds_toArray, List.set_cons_zero, List.set_cons_succ]
    refine wpAnyH_done (by kernel_rfl) ?_ _
    go_wp2_with fail
    refine (RP.out w6 Kg.out).mono ?_
    rintro en u1 ⟨rfl, k1⟩
    have kU := grown_trans k1 (World.grownBy_alloc u1 (.cells (stC x1 x2 x3 x4 x5) 23) none)
    have Ku := Lib.hid (grown_trans Kg.out kU)
    have HX := Lib.hid (Blk.new u1 23 (stC x1 x2 x3 x4 x5))
    clear k1 kU
    go_wp2_with fail
    generalize u1.alloc (.cells (stC x1 x2 x3 x4 x5) 23) = u2 at *
    refine (RR.out u2 Ku.out).mono ?_
    rintro en u3 ⟨rfl, k3⟩
    have kY := World.grownBy_alloc u3 (.cells (stC x1 x2 x3 x4 x5) 29) none
    have Kv := Lib.hid (grown_trans Ku.out (grown_trans k3 kY))
    have HX3 := Lib.hid (HX.out.grown (grown_trans k3 kY) (by simp))
    have HY := Lib.hid (Blk.new u3 29 (stC x1 x2 x3 x4 x5))
    clear k3 kY
    have c0 := HX3.out.cell 0
    have c1 := HX3.out.cell 1
    have c2 := HX3.out.cell 2
    have c3 := HX3.out.cell 3
    have c4 := HX3.out.cell 4
    have y0 := HY.out.cell 0
    have y1 := HY.out.cell 1
    have y2 := HY.out.cell 2
    have y3 := HY.out.cell 3
    have y4 := HY.out.cell 4
    simp at c0 c1 c2 c3 c4 y0 y1 y2 y3 y4
    go_wp2_with fail
    refine (RN.out _ Kv.out).mono ?_
    rintro en u5 ⟨rfl, k5⟩
    go_wp2_with fail
    go_ret
    exact ⟨rfl, grown_trans Kv.out k5⟩
end Go.Proofs.YtjmdlpefacbmmaaDoor
