/-
  WireReads: the walk.
-/
import Derived.Test.YtmmjpkijnecmcaaDoorRs3
import Derived.Test.YtmmjpkijnecmcaaDoorRs4
import Derived.Test.YtmmjpkijnecmcaaDoorRs5
import Derived.Test.YtmmjpkijnecmcaaDoorAlive
import Derived.Test.YtmmjpkijnecmcaaDoorNum
import Derived.Test.YtmmjpkijnecmcaaDoorWrites
namespace Go.Proofs.YtmmjpkijnecmcaaDoor
open Go.RowKit

theorem kinds6 (k : Int) : (k == 1) = true ∨ ((k == 1) = false ∧ (k == 2) = true) ∨ ((k == 1) = false ∧ (k == 2) = false ∧ (k == 3) = true) ∨ ((k == 1) = false ∧ (k == 2) = false ∧ (k == 3) = false ∧ (k == 4) = true) ∨
    ((k == 1) = false ∧ (k == 2) = false ∧ (k == 3) = false ∧ (k == 4) = false ∧ (k == 5) = true) ∨ ((k == 1) = false ∧ (k == 2) = false ∧ (k == 3) = false ∧ (k == 4) = false ∧ (k == 5) = false ∧ (k == 6) = true) ∨ ((k == 1) = false ∧ (k == 2) = false ∧ (k == 3) = false ∧ (k == 4) = false ∧ (k == 5) = false ∧ (k == 6) = false) := by
  cases (k == 1) <;> cases (k == 2) <;> cases (k == 3) <;> cases (k == 4) <;> cases (k == 5) <;> cases (k == 6) <;> simp
theorem reads_is (w : World) (B g s m : Nat) (E : Nat → Addr) (A : Option Addr) (c : Nat) (b : List UInt8) (e : Nat) (l : List UInt8) (kind nn width most : Int) (Ab : Option Addr) (nb cb : Nat) (h : RS w B g s m E A c b e l) :
    Calls Tryd.prog 19 #[.pointer (some ⟨g, 0, none⟩), .pointer (some ⟨m, 0, none⟩), .agg #[.int .i64 kind, .int .i64 nn, .int .i64 width, .int .i64 most, .slice Ab nb cb]] w fun en w' => en = .returned (.bool true) ∧ RSP w w' B g s m E A c b := by
  rcases kinds6 kind with t | ⟨t, t2⟩ | ⟨t, t2, t3⟩ | ⟨t, t2, t3, t4⟩ | ⟨t, t2, t3, t4, t5⟩ | ⟨t, t2, t3, t4, t5, t6⟩ | ⟨t, t2, t3, t4, t5, t6⟩
  · exact reads_num w B g s m E A c b e l kind nn width most Ab nb cb h t
  · exact reads_flag w B g s m E A c b e l kind nn width most Ab nb cb h t t2
  · exact reads_fixed w B g s m E A c b e l kind nn width most Ab nb cb h t t2 t3
  · exact reads_bytes w B g s m E A c b e l kind nn width most Ab nb cb h t t2 t3 t4
  · exact reads_list w B g s m E A c b e l kind nn width most Ab nb cb h t t2 t3 t4 t5
  · exact reads_fail w B g s m E A c b e l kind nn width most Ab nb cb h t t2 t3 t4 t5 t6
  · exact reads_none w B g s m E A c b e l kind nn width most Ab nb cb h t t2 t3 t4 t5 t6
theorem num_of (w : World) (B : Nat) (E : Nat → Addr) (e : Nat) (he : e ≤ 18) (hE : ErrEnv w B E) : Calls Tryd.prog 16 #[evOf E e] w fun en w' => en = .returned (.int .i64 (e : Int)) ∧ w.grownBy w' none := by
  rcases e with _ | k
  · exact (num_nil w).mono fun _ _ ⟨h1, h2⟩ => ⟨h1, h2 ▸ World.grownBy.refl w none⟩
  · exact (num_err w B E k (by omega) hE).mono fun _ _ ⟨h1, h2⟩ => ⟨h1, h2⟩
theorem Marked.kept {w w' : World} {F : Nat → Prop} {g cap : Nat} {xb : List UInt8} (h : Marked w g cap xb) (hk : Kept F w w') (hF : ¬ F g) : Marked w' g cap xb := by
  obtain ⟨cs, h1, h2⟩ := h
  exact ⟨cs, h1.kept hk hF, h2⟩
theorem ErrEnv.keptL {w w' : World} {F : Nat → Prop} {B : Nat} {E : Nat → Addr} (h : ErrEnv w B E) (hk : Kept F w w') (hB : B ≤ w.heap.size) (hF : ∀ k, F k → B ≤ k) : ErrEnv w' B E := h.below (hk.below hB hF) (Nat.le_refl _)

set_option maxRecDepth 100000 in
set_option maxHeartbeats 2000000 in
theorem wreads_any (w : World) (Ab : Option Addr) (nb cb : Nat) (bs : List UInt8) (A : Option Addr) (n c : Nat) (ops : List OpV) (E : Nat → Addr) (hnb : bs.length = nb) (hcb : nb ≤ cb) (hbs : BytesAt w Ab bs) (hn : ops.length = n) (ho : OpsAt w A ops) (he : ErrEnv w w.heap.size E) :
    Calls Tryd.prog 4 #[.slice Ab nb cb, .slice A n c] w fun e w' => e = .returned (.bool true) ∧ Below w.heap.size w w' := by
  have Hn := Lib.hid hn
  have Hnb := Lib.hid hnb
  have Hcb := Lib.hid hcb
  clear hn hnb hcb
  by_cases hbig : 1000 < nb
  · have d1 : decide ((1000 : Int) < (nb : Int)) = true := by simp; omega
    clear hbig
    go_enter Tryd.func4, Tryd.ntmps4
    go_wp2_with fail
    refine (alive_any _).mono ?_
    rintro e w1 ⟨rfl, k1⟩
    go_wp2_with fail
    go_ret
    exact ⟨rfl, below_grown k1 (Nat.le_refl _) (fun _ e => by cases e)⟩
  have d1 : decide ((1000 : Int) < (nb : Int)) = false := by simp; omega
  cases hlong : longB ops
  · obtain ⟨hl1, _⟩ := (show ops.length ≤ 40 ∧ True from ⟨by
      unfold longB at hlong
      rw [Bool.or_eq_false_iff] at hlong
      simpa using hlong.1, trivial⟩)
    have h40 : n ≤ 40 := by have := Hn.out; omega
    have hb2 : nb ≤ 1000 := by omega
    clear hl1
    go_enter Tryd.func4, Tryd.ntmps4
    go_wp2_with fail
    refine (alive_any _).mono ?_
    rintro e w1 ⟨rfl, k1⟩
    have K1 : Kept (fun _ => False) w w1 := Kept.of_grown k1 fun _ e => by cases e
    go_wp2_with fail
    refine (long_any w1 A n c ops Hn.out (ho.kept K1)).mono ?_
    rw [hlong]
    rintro e w2 ⟨rfl, k2⟩
    have K2 : Kept (fun _ => False) w w2 := K1.follow (Kept.of_grown (F := fun _ => False) k2 fun _ e => by cases e) fun _ _ h => h
    go_wp2_with fail
    refine (nbytes_is w2 Ab nb cb bs (hbs.kept' K2 (fun _ _ _ h => h)) Hnb.out (by omega)).mono ?_
    rintro e w3 ⟨gi, cap, rfl, hgi, hM3, k3⟩
    have K3 : Kept (fun _ => False) w w3 := K2.follow (Kept.of_grown (F := fun _ => False) k3 fun _ e => by cases e) fun _ _ h => h
    go_wp2_with fail
    refine (reader_new w3 (some ⟨gi, 0, none⟩) nb cap bs Hnb.out hM3.bytes (by omega)).mono ?_
    rintro e w4 ⟨g, s, rfl, hr4, hg1, hg2, hs1, hs2, k4⟩
    have K4 : Kept (fun _ => False) w w4 := K3.follow (Kept.of_grown (F := fun _ => False) k4 fun _ e => by cases e) fun _ _ h => h
    have KA : Kept (fun _ => False) w4 (w4.alloc (.cells #[.slice Ab nb cb, .int .i64 0, .int .i64 0] 43)) := (Kept.refl (fun _ => False) w4).alloc _
    have z2 := K2.size
    have z4 := k4.size
    have hgi3 := hM3.lt
    have hbx := Blk.new w4 43 #[.slice Ab nb cb, .int .i64 0, .int .i64 0]
    have hsz : (w4.alloc (.cells #[.slice Ab nb cb, .int .i64 0, .int .i64 0] 43)).heap.size = w4.heap.size + 1 := by simp
    have hRS : RS (w4.alloc (.cells #[.slice Ab nb cb, .int .i64 0, .int .i64 0] 43)) w.heap.size g s w4.heap.size E Ab cb bs 0 bs :=
      ⟨hr4.kept KA (fun h => h) (fun h => h), ⟨0, ⟨by rw [Hnb.out]; exact hbx, (hbs.kept' K4 (fun _ _ _ h => h)).kept' KA (fun _ _ _ h => h), Nat.zero_le _, by rw [Hnb.out]; exact Hcb.out, fun ad e hne => by have := (hbs.kept' K4 (fun _ _ _ h => h)).lt ad e hne; omega⟩, fun _ => rfl⟩,
        ((he.vars [0, 1, 3, 9] (by decide)).kept K4 (fun _ h => h.elim)).kept KA (fun _ h => h.elim), ⟨by simp, by have := Hnb.out; simp only; omega⟩, by omega, by omega, by omega, by omega, ⟨by omega, by omega, by omega⟩, by have := Hnb.out; omega, fun ad e hne => by have := hbs.lt ad e hne; omega⟩
    have hKK : Kept (fun _ => False) w (w4.alloc (.cells #[.slice Ab nb cb, .int .i64 0, .int .i64 0] 43)) := K4.follow KA (fun _ _ h => h)
    have hMM : Marked (w4.alloc (.cells #[.slice Ab nb cb, .int .i64 0, .int .i64 0] 43)) gi cap bs := (hM3.grown k4 (by simp)).kept KA (fun h => h)
    have hdist : gi ≠ g ∧ gi ≠ w4.heap.size ∧ w.heap.size ≤ g ∧ w.heap.size ≤ w4.heap.size := by omega
    have HRS := Lib.hid hRS
    have HKK := Lib.hid hKK
    have HMM := Lib.hid hMM
    have HD := Lib.hid hdist
    clear hRS hKK hMM hdist hbx hsz hr4 hg1 hg2 hs1 hs2 hM3 hgi hgi3 k3 k4 z2 z4 K1 K2 K3 K4 KA k1 k2 hbig
    go_wp2_with fail
    generalize w4.alloc (.cells #[.slice Ab nb cb, .int .i64 0, .int .i64 0] 43) = w5 at *
    generalize w4.heap.size = m at *
    go_loopw [28] (fun i wr => ∃ (k e : Nat) (l : List UInt8), k ≤ n ∧ i = .int .i64 (k : Int) ∧ RS wr w.heap.size g s m E Ab cb bs e l ∧ Marked wr gi cap bs ∧ Kept (fun _ => False) w wr) (fun i _ => n - (intOf i).toNat)
    case atStart => exact ⟨0, 0, bs, Nat.zero_le _, rfl, HRS.out, HMM.out, HKK.out⟩
    case round =>
      obtain ⟨k, e, l, hk, rfl, hS, hM, K⟩ := hrel
      have hE := he.keptL K (Nat.le_refl _) (fun _ h => h.elim)
      by_cases hlt : k < n
      · have hb : decide ((k : Int) < (n : Int)) = true := by simp; omega
        have hko : k < ops.length := by have := Hn.out; omega
        obtain ⟨b, off, rfl, hc⟩ := ho (by intro e; rw [e] at hko; simp at hko)
        obtain ⟨x0, x1, x2, x3, hmx, Ab', cb', x4, hbw, _⟩ := hc k hko
        have c0 := K.cell x0 (fun h => h)
        have c1 := K.cell x1 (fun h => h)
        have c2 := K.cell x2 (fun h => h)
        have c3 := K.cell x3 (fun h => h)
        have c4' := K.cell x4 (fun h => h)
        clear x0 x1 x2 x3 x4 hc
        generalize ops[k] = o at *
        have HS := Lib.hid hS
        have HM := Lib.hid hM
        have HK := Lib.hid K
        have HE := Lib.hid hE
        clear hS hM K hE hk hbw
        go_wp2_with fail
        have hbox := Blk.new wr 29 #[.int .i64 o.kind, .int .i64 o.n, .int .i64 o.width, .int .i64 o.most, .slice Ab' o.bytes.length cb']
        have KA : Kept (fun _ => False) wr (wr.alloc (.cells #[.int .i64 o.kind, .int .i64 o.n, .int .i64 o.width, .int .i64 o.most, .slice Ab' o.bytes.length cb'] 29)) := (Kept.refl (fun _ => False) wr).alloc _
        have HSA := Lib.hid (HS.out.old KA)
        have HMA := Lib.hid (HM.out.kept KA (fun h => h))
        have HKA := Lib.hid (HK.out.follow KA (fun _ _ h => h))
        have q0 : (wr.alloc (.cells #[.int .i64 o.kind, .int .i64 o.n, .int .i64 o.width, .int .i64 o.most, .slice Ab' o.bytes.length cb'] 29)).cell? ⟨wr.heap.size, 0, none⟩ = some (.int .i64 o.kind) := hbox.cell 0
        have q1 : (wr.alloc (.cells #[.int .i64 o.kind, .int .i64 o.n, .int .i64 o.width, .int .i64 o.most, .slice Ab' o.bytes.length cb'] 29)).cell? ⟨wr.heap.size, 1, none⟩ = some (.int .i64 o.n) := hbox.cell 1
        have q2 : (wr.alloc (.cells #[.int .i64 o.kind, .int .i64 o.n, .int .i64 o.width, .int .i64 o.most, .slice Ab' o.bytes.length cb'] 29)).cell? ⟨wr.heap.size, 2, none⟩ = some (.int .i64 o.width) := hbox.cell 2
        have q3 : (wr.alloc (.cells #[.int .i64 o.kind, .int .i64 o.n, .int .i64 o.width, .int .i64 o.most, .slice Ab' o.bytes.length cb'] 29)).cell? ⟨wr.heap.size, 3, none⟩ = some (.int .i64 o.most) := hbox.cell 3
        have q4 : (wr.alloc (.cells #[.int .i64 o.kind, .int .i64 o.n, .int .i64 o.width, .int .i64 o.most, .slice Ab' o.bytes.length cb'] 29)).cell? ⟨wr.heap.size, 4, none⟩ = some (.slice Ab' o.bytes.length cb') := hbox.cell 4
        clear hbox KA c0 c1 c2 c3 c4'
        generalize wr.alloc (.cells #[.int .i64 o.kind, .int .i64 o.n, .int .i64 o.width, .int .i64 o.most, .slice Ab' o.bytes.length cb'] 29) = wA at *
        go_region_with (first
          | (go_at_call 19; refine (reads_is _ w.heap.size g s m E Ab cb bs e l o.kind o.n o.width o.most Ab' o.bytes.length cb' (HSA.out.old (Kept.refl (fun _ => False) wA).drew)).mono ?_; rintro en w7 ⟨rfl, e', l', hS7, K7⟩; have p2 : w7.cell? ⟨m, 2, none⟩ = some (.int .i64 (e' : Int)) := (by obtain ⟨kk, h1, _⟩ := hS7.md; exact h1.1.cell 2); have KW := Lib.hid (HKA.out.drew.follow K7 (fun j hj h => by have := HD.out; rcases h with h | h <;> omega)); have HS7 := Lib.hid hS7; have HM7 := Lib.hid ((HMA.out.kept (Kept.refl (fun _ => False) wA).drew (fun h => h)).kept K7 (fun h => by have := HD.out; rcases h with h | h <;> omega)); clear hS7 K7)
          | (go_at_call 20; refine (err_any w7 g s _ _ HS7.out.rd).mono ?_; rintro en w8 ⟨rfl, rfl⟩)
          | (go_at_call 16; refine (num_of w7 w.heap.size E e' HS7.out.gd.1 (he.keptL KW.out (Nat.le_refl _) (fun _ h => h.elim))).mono ?_; rintro en w9 ⟨rfl, k9⟩; have p2' : w9.cell? ⟨m, 2, none⟩ = some (.int .i64 (e' : Int)) := k9.cell p2 (by simp)))
        all_goals
          have K9 : Kept (fun _ => False) w7 w9 := Kept.of_grown k9 (fun _ e => by cases e)
          have Fin := Lib.hid (And.intro (HS7.out.old K9) (And.intro (HM7.out.kept K9 (fun h => h)) (KW.out.follow K9 (fun _ _ h => h))))
          clear K9 k9
          go_wp2_with fail
          go_roundw
          case rel => exact ⟨k + 1, e', l', by omega, by go_num, Fin.out.1, Fin.out.2.1, Fin.out.2.2⟩
          case measure => simp [intOf]; omega
      · obtain rfl : k = n := by omega
        have hb : decide ((k : Int) < (k : Int)) = false := by simp
        obtain ⟨d, hd⟩ : ∃ d, pDone e l = d := ⟨_, rfl⟩
        have hd18 : d ≤ 18 := by
          have := hS.gd.1
          rw [← hd]
          unfold pDone
          split <;> simp_all
        obtain ⟨kk, hm, hdrop⟩ := hS.md
        have hd2 : pDone e (bs.drop kk) = d := by
          rw [← hd]
          by_cases h0 : e = 0
          · rw [hdrop h0]
          · unfold pDone; rw [if_neg (fun h => h0 h.1), if_neg (fun h => h0 h.1)]
        have HS := Lib.hid hS
        have Hm := Lib.hid hm
        have HM := Lib.hid hM
        have HK := Lib.hid K
        have HE := Lib.hid hE
        have Hd := Lib.hid (And.intro hd (And.intro hd18 hd2))
        clear hS hm hdrop hM K hE hd hd18 hd2
        go_wp2_with fail
        refine (rdone_is wr w.heap.size g s E e l d Hd.out.1 HS.out.rd ((he.vars [2] (by decide)).kept HK.out (fun _ h => h.elim))).mono ?_
        rintro en w6 ⟨rfl, rfl⟩
        go_wp2_with fail
        refine (num_of _ w.heap.size E d Hd.out.2.1 HE.out).mono ?_
        rintro en w7 ⟨rfl, k7⟩
        have K7 := Lib.hid (show Kept (fun _ => False) _ w7 from Kept.of_grown k7 (fun _ e => by cases e))
        clear k7
        go_wp2_with fail
        refine (mdone w7 m Ab cb bs kk e d Hd.out.2.2 (Hm.out.kept K7.out (fun h => h) (fun _ _ _ h => h)) (by have := Hnb.out; omega)).mono ?_
        rintro en w8 ⟨rfl, k8⟩
        have K8 := Lib.hid k8
        clear k8
        go_wp2_with fail
        have KZ := Lib.hid ((HK.out.follow K7.out (fun _ _ h => h)).follow K8.out (fun _ _ h => h))
        refine (nkept_is w8 gi cap Ab nb cb bs (hbs.kept' KZ.out (fun _ _ _ h => h)) Hnb.out (by omega) ((HM.out.kept K7.out (fun h => h)).kept K8.out (fun h => h))).mono ?_
        rintro en w9 ⟨rfl, k9⟩
        go_wp2_with fail
        go_ret
        exact ⟨rfl, (KZ.out.follow (Kept.of_grown (F := fun _ => False) k9 fun _ e => by cases e) (fun _ _ h => h)).below (Nat.le_refl _) (fun _ h => h.elim)⟩
  · clear hbig
    go_enter Tryd.func4, Tryd.ntmps4
    go_wp2_with fail
    refine (alive_any _).mono ?_
    rintro e w1 ⟨rfl, k1⟩
    have K1 : Kept (fun _ => False) w w1 := Kept.of_grown k1 fun _ e => by cases e
    go_wp2_with fail
    refine (long_any w1 A n c ops Hn.out (ho.kept K1)).mono ?_
    rw [hlong]
    rintro e w2 ⟨rfl, k2⟩
    go_wp2_with fail
    go_ret
    exact ⟨rfl, below_grown (grown_trans k1 k2) (Nat.le_refl _) (fun _ e => by cases e)⟩
end Go.Proofs.YtmmjpkijnecmcaaDoor
