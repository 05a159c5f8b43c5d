/-
  WireStops: the walk.
-/
import Derived.Test.YtlkhbklmngaebaaDoorScript
import Derived.Test.YtlkhbklmngaebaaDoorReadErr
import Derived.Test.YtlkhbklmngaebaaDoorAlive
namespace Go.Proofs.YtlkhbklmngaebaaDoor
open Go.RowKit

set_option maxRecDepth 100000 in
set_option maxHeartbeats 2000000 in
theorem stops_any (w : World) (Ab : Option Addr) (nb cb : Nat) (bs : List UInt8) (A : Option Addr) (n c : Nat) (ops : List OpV) (E : Nat → Addr) (hnb : bs.length = nb) (hbs : BytesAt w Ab bs) (hn : ops.length = n) (ho : OpsAt w A ops) (he : ErrEnv w w.heap.size E) :
    Calls Tryd.prog 8 #[.slice Ab nb cb, .slice A n c] w fun e w' => e = .returned (.bool true) ∧ Below w.heap.size w w' := by
  have Hn := Lib.hid hn
  have Hnb := Lib.hid hnb
  clear hn hnb
  by_cases hbig : 500 < nb
  · have d1 : decide ((500 : Int) < (nb : Int)) = true := by simp; omega
    clear hbig
    go_enter Tryd.func8, Tryd.ntmps8
    go_wp2_with fail
    refine (alive_any _).mono ?_
    rintro e w1 ⟨rfl, k1⟩
    go_wp2_with fail
    go_ret
    exact ⟨rfl, below_grown k1 (Nat.le_refl _) (fun _ e => by cases e)⟩
  have d1 : decide ((500 : Int) < (nb : Int)) = false := by simp; omega
  cases hlong : longB ops
  · obtain ⟨hl1, _⟩ := (show ops.length ≤ 40 ∧ True from ⟨by
      unfold longB at hlong
      rw [Bool.or_eq_false_iff] at hlong
      simpa using hlong.1, trivial⟩)
    have h40 : n ≤ 40 := by have := Hn.out; omega
    clear hl1
    go_enter Tryd.func8, Tryd.ntmps8
    go_wp2_with fail
    refine (alive_any _).mono ?_
    rintro e w1 ⟨rfl, k1⟩
    have K1 : Kept (fun _ => False) w w1 := Kept.of_grown k1 fun _ e => by cases e
    go_wp2_with fail
    refine (long_any w1 A n c ops Hn.out (ho.kept K1)).mono ?_
    rw [hlong]
    rintro e w2 ⟨rfl, k2⟩
    have K2 : Kept (fun _ => False) w w2 := K1.follow (Kept.of_grown (F := fun _ => False) k2 fun _ e => by cases e) fun _ _ h => h
    go_wp2_with fail
    refine (new_ok _).mono ?_
    rintro e w3 ⟨rfl, rfl⟩
    have K3 := K2.alloc (.cells #[.nilIface, .slice none 0 0] 64)
    have hw3 := WrIs.new w2 (F := fun k => k = w2.heap.size) rfl
    have z3 : (w2.alloc (.cells #[.nilIface, .slice none 0 0] 64)).heap.size = w2.heap.size + 1 := by simp
    have z2 := K2.size
    generalize w2.alloc (.cells #[.nilIface, .slice none 0 0] 64) = w3 at *
    generalize w2.heap.size = gw at *
    go_wp2_with fail
    refine (reader_new w3 Ab nb cb bs Hnb.out (hbs.kept' K3 (fun _ _ _ h => h)) (by omega)).mono ?_
    rintro e w4 ⟨g, s, rfl, hr4, hg1, hg2, hs1, hs2, k4⟩
    have hw4 := hw3.grown k4
    have K4 := K3.follow (Kept.of_grown (F := fun _ => False) k4 fun _ e => by cases e) fun _ _ h => h
    have b4 := K4.below (Nat.le_refl _) (fun _ h => h.elim)
    have v9 : w4.cell? ⟨0, 0, none⟩ = some (errV (E 9)) := ((he.below b4 (Nat.le_refl _)).var 9 (by omega)).1
    have hw4' := hw4
    have hr4' := hr4
    obtain ⟨_, bA, bc, hb, _, _⟩ := hw4'
    obtain ⟨rA, rc, hrb, _, _, _⟩ := hr4'
    go_wp2_with fail
    go_region_with (go_at_call 32; refine (fail_new _ gw 64 _ _ (.slice bA ([] : List UInt8).length bc) ?_).mono ?_; exact hb.drew; rintro e w5 ⟨rfl, q5⟩; replace q5 := Lib.hid q5)
    have hw5 := (hw4.drew).failed (u := errV (E 9))
    have hr5 : RdIs (w4.drew.setCell ⟨gw, 0, none⟩ (errV (E 9))) g s .nilIface bs := hr4.drew.kept (F := fun k => k = gw) ((Kept.refl (fun k => k = gw) w4.drew).set (p := ⟨gw, 0, none⟩) (.inl rfl) _) (by omega) (by omega)
    have K5 : Kept (fun _ => False) w (w4.drew.setCell ⟨gw, 0, none⟩ (errV (E 9))) := K4.drew.set (.inr (by show w.heap.size ≤ gw; omega)) _
    clear hb hrb v9
    rw [← q5.out] at hw5 hr5 K5
    clear q5
    have v9 : w5.cell? ⟨0, 0, none⟩ = some (errV (E 9)) := ((he.below (K5.below (Nat.le_refl _) (fun _ h => h.elim)) (Nat.le_refl _)).var 9 (by omega)).1
    have hr5' := hr5
    obtain ⟨rA, rc, hrb, _, _, _⟩ := hr5'
    go_wp2_with fail
    go_region_with (go_at_call 32; refine (fail_new _ g 66 _ _ (.slice rA bs.length rc) ?_).mono ?_; exact hrb.drew; rintro e w6 ⟨rfl, q6⟩; replace q6 := Lib.hid q6)
    have hr6 := (hr5.drew).failed (u := errV (E 9))
    have hw6 : WrIs (w5.drew.setCell ⟨g, 0, none⟩ (errV (E 9))) (fun k => k = gw) gw (errV (E 9)) [] := hw5.drew.kept (G := fun k => k = g) ((Kept.refl (fun k => k = g) w5.drew).set (p := ⟨g, 0, none⟩) (.inl rfl) _) (by rintro k rfl; omega)
    have K6 : Kept (fun _ => False) w (w5.drew.setCell ⟨g, 0, none⟩ (errV (E 9))) := K5.drew.set (.inr (by show w.heap.size ≤ g; omega)) _
    clear hrb v9
    rw [← q6.out] at hw6 hr6 K6
    clear q6
    go_wp2_with fail
    go_loopw [35] (fun i wr => ∃ k, k ≤ n ∧ i = .int .i64 (k : Int) ∧ WrIs wr (fun k => k = gw) gw (errV (E 9)) [] ∧ RdIs wr g s (errV (E 9)) bs ∧ Kept (fun _ => False) w wr) (fun i _ => n - (intOf i).toNat)
    case atStart => exact ⟨0, Nat.zero_le _, rfl, hw6, hr6, K6⟩
    case round =>
      obtain ⟨k, hk, rfl, hw, hr, K⟩ := hrel
      have hbl : Below w.heap.size w wr := K.below (Nat.le_refl _) (fun _ h => h.elim)
      have he1 := he.below hbl (Nat.le_refl _)
      by_cases hlt : k < n
      · have hb : decide ((k : Int) < (n : Int)) = true := by simp; omega
        have hko : k < ops.length := by have := Hn.out; omega
        obtain ⟨b, off, rfl, hc⟩ := ho (by intro e; rw [e] at hko; simp at hko)
        obtain ⟨x0, x1, x2, x3, hmx, Ab', cb', x4, hbw, _⟩ := hc k hko
        have c0 := K.cell x0 (fun h => h)
        have c1 := K.cell x1 (fun h => h)
        have c2 := K.cell x2 (fun h => h)
        have c3 := K.cell x3 (fun h => h)
        have c4' := K.cell x4 (fun h => h)
        have hbx := hbw.kept' K (fun _ _ _ h => h)
        clear x0 x1 x2 x3 x4 hc
        generalize ops[k] = o at *
        go_wp2_with fail
        have hbox := Blk.new wr 29 #[.int .i64 o.kind, .int .i64 o.n, .int .i64 o.width, .int .i64 o.most, .slice Ab' o.bytes.length cb']
        have KA := (Kept.refl (fun _ => False) wr).alloc (.cells #[.int .i64 o.kind, .int .i64 o.n, .int .i64 o.width, .int .i64 o.most, .slice Ab' o.bytes.length cb'] 29)
        have hwA := hw.kept KA (fun _ _ h => h)
        have hrA := hr.kept KA (fun h => h) (fun h => h)
        have heA := he1.grown KA.none_grown (fun _ e => by cases e)
        have hbA := hbx.kept' KA (fun _ _ _ h => h)
        have KB := K.follow KA (fun _ _ h => h)
        generalize wr.alloc (.cells #[.int .i64 o.kind, .int .i64 o.n, .int .i64 o.width, .int .i64 o.most, .slice Ab' o.bytes.length cb'] 29) = wA at *
        refine (write_op_err wA (fun k => k = gw) _ gw _ _ [] _ _ o Ab' cb' hwA (heA.var 0 (by omega)) (heA.var 9 (by omega)) hbA).mono ?_
        rintro e w7 ⟨rfl, k7⟩
        have hbox7 := hbox.grown k7 (by simp)
        have hw7 := hwA.grown k7
        have hr7 := hrA.grown k7
        have he7 := heA.grown k7 (fun _ e => by cases e)
        have K7 := KB.follow (Kept.of_grown (F := fun _ => False) k7 fun _ e => by cases e) (fun _ _ h => h)
        clear c0 c1 c2 c3 c4'
        go_wp2_with fail
        refine (rnum_err w7 _ g s _ _ bs _ _ 1 hr7 (he7.var 0 (by omega)) (he7.var 1 (by omega))).mono ?_
        rintro e w8 ⟨rfl, k8⟩
        have hbox8 := hbox7.grown k8 (by simp)
        have hw8 := hw7.grown k8
        have hr8 := hr7.grown k8
        have he8 := he7.grown k8 (fun _ e => by cases e)
        have K8 := K7.follow (Kept.of_grown (F := fun _ => False) k8 fun _ e => by cases e) (fun _ _ h => h)
        go_wp2_with fail
        refine (rflag_err w8 _ g s _ _ bs _ _ hr8 (he8.var 0 (by omega)) (he8.var 1 (by omega))).mono ?_
        rintro e w9 ⟨rfl, k9⟩
        have hbox9 := hbox8.grown k9 (by simp)
        have d3 := hbox9.cell 3
        simp at d3
        have hw9 := hw8.grown k9
        have hr9 := hr8.grown k9
        have he9 := he8.grown k9 (fun _ e => by cases e)
        have K9 := K8.follow (Kept.of_grown (F := fun _ => False) k9 fun _ e => by cases e) (fun _ _ h => h)
        go_wp2_with fail
        refine (rbytes_err w9 _ g s _ _ bs _ _ _ hr9 (he9.var 0 (by omega)) (he9.var 1 (by omega))).mono ?_
        rintro e w10 ⟨A10, c10, rfl, k10⟩
        have hw10 := hw9.grown k10
        have hr10 := hr9.grown k10
        have he10 := he9.grown k10 (fun _ e => by cases e)
        have K10 := K9.follow (Kept.of_grown (F := fun _ => False) k10 fun _ e => by cases e) (fun _ _ h => h)
        have v13 : w10.cell? ⟨1, 0, none⟩ = some (errV (E 13)) := (he10.var 13 (by omega)).1
        have hw10' := hw10
        have hr10' := hr10
        obtain ⟨_, bA', bc', hb', _, _⟩ := hw10'
        obtain ⟨rA', rc', hrb', _, _, _⟩ := hr10'
        clear d3
        go_wp2_with fail
        go_region_with (go_at_call 32; refine (fail_old _ gw 64 _ _ _ _ hb'.drew).mono ?_; rintro e w11 ⟨rfl, q11⟩; replace q11 := Lib.hid q11)
        have hw11 := hw10.drew
        have hr11 := hr10.drew
        have K11 := K10.drew
        rw [q11.out] at hw11 hr11 K11
        have v13' : w11.cell? ⟨1, 0, none⟩ = some (errV (E 13)) := by rw [← q11.out]; exact v13
        clear q11 v13 hb' hrb'
        have hr11' := hr11
        obtain ⟨rA', rc', hrb', _, _, _⟩ := hr11'
        go_wp2_with fail
        go_region_with (go_at_call 32; refine (fail_old _ g 66 _ _ _ _ hrb'.drew).mono ?_; rintro e w12 ⟨rfl, q12⟩; replace q12 := Lib.hid q12)
        have hw12 := hw11.drew
        have hr12 := hr11.drew
        have K12 := K11.drew
        rw [q12.out] at hw12 hr12 K12
        clear q12 v13'
        go_wp2_with fail
        go_roundw
        case rel => exact ⟨k + 1, by omega, by go_num, hw12, hr12, K12⟩
        case measure => simp [intOf]; omega
      · obtain rfl : k = n := by omega
        have hb : decide ((k : Int) < (k : Int)) = false := by simp
        go_wp2_with fail
        refine (done_err _ _ _ _ _ _ hw).mono ?_
        rintro e w7 ⟨rfl, k7⟩
        have hr7 := hr.grown k7
        have he7 := he1.grown k7 (fun _ e => by cases e)
        have K7 := K.follow (Kept.of_grown (F := fun _ => False) k7 fun _ e => by cases e) (fun _ _ h => h)
        go_wp2_with fail
        refine (num_err _ _ E 9 (by omega) he7).mono ?_
        rintro e w8 ⟨rfl, k8⟩
        have hr8 := hr7.grown k8
        have he8 := he7.grown k8 (fun _ e => by cases e)
        have K8 := K7.follow (Kept.of_grown (F := fun _ => False) k8 fun _ e => by cases e) (fun _ _ h => h)
        go_wp2_with fail
        refine (err_any w8 g s _ _ hr8).mono ?_
        rintro e w9 ⟨rfl, rfl⟩
        go_wp2_with fail
        refine (num_err _ _ E 9 (by omega) he8).mono ?_
        rintro e w9 ⟨rfl, k9⟩
        have hr9 := hr8.grown k9
        have he9 := he8.grown k9 (fun _ e => by cases e)
        have K9 := K8.follow (Kept.of_grown (F := fun _ => False) k9 fun _ e => by cases e) (fun _ _ h => h)
        go_wp2_with fail
        refine (rdone_err w9 g s _ _ _ hr9).mono ?_
        rintro e w10 ⟨rfl, rfl⟩
        go_wp2_with fail
        refine (num_err _ _ E 9 (by omega) he9).mono ?_
        rintro e w10 ⟨rfl, k10⟩
        have K10 := K9.follow (Kept.of_grown (F := fun _ => False) k10 fun _ e => by cases e) (fun _ _ h => h)
        go_wp2_with fail
        go_ret
        exact ⟨rfl, K10.below (Nat.le_refl _) (fun _ h => h.elim)⟩
  · go_enter Tryd.func8, Tryd.ntmps8
    go_wp2_with fail
    refine (alive_any _).mono ?_
    rintro e w1 ⟨rfl, k1⟩
    have K1 : Kept (fun _ => False) w w1 := Kept.of_grown k1 fun _ e => by cases e
    go_wp2_with fail
    refine (long_any w1 A n c ops Hn.out (ho.kept K1)).mono ?_
    rw [hlong]
    rintro e w2 ⟨rfl, k2⟩
    go_wp2_with fail
    go_ret
    exact ⟨rfl, below_grown (grown_trans k1 k2) (Nat.le_refl _) (fun _ e => by cases e)⟩
end Go.Proofs.YtlkhbklmngaebaaDoor
