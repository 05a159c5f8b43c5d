/-
  A Reader with an error: every read answers a zero value, and nothing is turned.
-/
import Derived.Test.YtmmjpkijnecmcaaDoorRead2
namespace Go.Proofs.YtmmjpkijnecmcaaDoor
open Go.RowKit

section
variable (w : World) (B g s : Nat) (t : TypeId) (v : Value) (l : List UInt8) (a0 a1 : Addr)

theorem rflag_err (hr : RdIs w g s (.iface t v) l) (he0 : ErrAt w B 2 a0) (he1 : ErrAt w B 3 a1) :
    Calls Tryd.prog 25 #[.pointer (some ⟨g, 0, none⟩)] w fun e w' => e = .returned (.bool false) ∧ w.grownBy w' none := by
  go_enter Tryd.func25, Tryd.ntmps25
  go_wp2_with fail
  refine (rnum_err w B g s t v l a0 a1 1 hr he0 he1).mono ?_
  rintro e w1 ⟨rfl, k1⟩
  go_wp2_with fail
  go_ret
  exact ⟨rfl, k1⟩

set_option maxHeartbeats 400000 in
theorem rfixed_err (n : Int) (hr : RdIs w g s (.iface t v) l) (he0 : ErrAt w B 2 a0) (he1 : ErrAt w B 3 a1) :
    Calls Tryd.prog 26 #[.pointer (some ⟨g, 0, none⟩), .int .i64 n] w fun e w' => ∃ A c, e = .returned (.slice A 0 c) ∧ w.grownBy w' none := by
  have hr' := hr
  obtain ⟨A, c, hb, hl, hc, hA⟩ := hr'
  have hs := he0.1
  by_cases hn : n < 0
  · have b1 : decide (n < 0) = true := by simpa using hn
    clear hn
    go_enter Tryd.func26, Tryd.ntmps26
    go_wp2_with fail
    go_region_with (go_at_call 32; refine (fail_old _ g 66 t v (.slice A l.length c) _ ?_).mono ?_; exact hb.drew; rintro e w1 ⟨rfl, rfl⟩)
    all_goals
      go_wp2
      go_ret
      exact ⟨none, 0, rfl, rfl, rfl, rfl, Nat.le_refl _, fun _ _ _ => rfl⟩
  · have b1 : decide (n < 0) = false := by simpa using hn
    clear hn
    go_enter Tryd.func26, Tryd.ntmps26
    go_wp2_with fail
    refine (next_err w B g s t v l a1 n hr he1).mono ?_
    rintro e w1 ⟨rfl, k1⟩
    go_wp2_with fail
    refine (clone_any w1 none 0 0 [] rfl (BytesAt.nil _ _) (by omega)).mono ?_
    rintro e w2 ⟨A', c', rfl, _, k2⟩
    go_wp2_with fail
    go_ret
    exact ⟨A', c', rfl, grown_trans k1 k2⟩

set_option maxHeartbeats 400000 in
theorem rbytes_err (most : Int) (hr : RdIs w g s (.iface t v) l) (he0 : ErrAt w B 2 a0) (he1 : ErrAt w B 3 a1) :
    Calls Tryd.prog 27 #[.pointer (some ⟨g, 0, none⟩), .int .i64 most] w fun e w' => ∃ A c, e = .returned (.slice A 0 c) ∧ w.grownBy w' none := by
  by_cases hn : most < 0
  · have b1 : decide (most < 0) = true := by simpa using hn
    clear hn
    go_enter Tryd.func27, Tryd.ntmps27
    go_wp2_with fail
    refine (rnum_err w B g s t v l a0 a1 2 hr he0 he1).mono ?_
    rintro e w1 ⟨rfl, k1⟩
    have hr1 := hr.grown k1
    have he0' := he0.grown k1 (fun _ e => by cases e)
    have he1' := he1.grown k1 (fun _ e => by cases e)
    have hr1' := hr1
    obtain ⟨A, c, hb, hl, hc, hA⟩ := hr1'
    have hs := he0'.1
    go_wp2_with fail
    go_region_with (go_at_call 32; refine (fail_old _ g 66 t v (.slice A l.length c) _ ?_).mono ?_; exact hb.drew; rintro e w2 ⟨rfl, rfl⟩)
    all_goals
      go_wp2_with fail
      refine (rfixed_err w1.drew B g s t v l a0 a1 0 hr1 he0' he1').mono ?_
      rintro e w3 ⟨A3, c3, rfl, k3⟩
      go_wp2_with fail
      go_ret
      exact ⟨A3, c3, rfl, grown_trans (grown_drew k1) k3⟩
  · have b1 : decide (most < 0) = false := by simpa using hn
    clear hn
    go_enter Tryd.func27, Tryd.ntmps27
    go_wp2_with fail
    refine (rnum_err w B g s t v l a0 a1 2 hr he0 he1).mono ?_
    rintro e w1 ⟨rfl, k1⟩
    go_wp2_with fail
    refine (rfixed_err w1 B g s t v l a0 a1 0 (hr.grown k1) (he0.grown k1 (fun _ e => by cases e)) (he1.grown k1 (fun _ e => by cases e))).mono ?_
    rintro e w3 ⟨A3, c3, rfl, k3⟩
    go_wp2_with fail
    go_ret
    exact ⟨A3, c3, rfl, grown_trans k1 k3⟩

theorem rdone_err (hr : RdIs w g s (.iface t v) l) :
    Calls Tryd.prog 21 #[.pointer (some ⟨g, 0, none⟩)] w fun e w' => e = .returned (.iface t v) ∧ w = w' := by
  obtain ⟨A, c, hb, hl, hc, hA⟩ := hr
  have c0 := hb.cell 0
  simp at c0
  go_enter Tryd.func21, Tryd.ntmps21
  go_wp2
  go_ret
  exact ⟨rfl, rfl⟩
end
end Go.Proofs.YtmmjpkijnecmcaaDoor
