/-
  Put at bytes: a list that is too long; a Writer with an error.
-/
import Derived.Test.YtmmjpkijnecmcaaDoorPut2
namespace Go.Proofs.YtmmjpkijnecmcaaDoor
open Go.RowKit

theorem long_cases {m : Nat} {most : Int} (h : most < (m : Int) ∨ 255 < m) : decide (most < (m : Int)) = true ∨ (decide (most < (m : Int)) = false ∧ decide ((255 : Int) < (m : Int)) = true) := by
  by_cases h1 : most < (m : Int)
  · exact .inl (by simpa using h1)
  · exact .inr ⟨by simpa using h1, by simp; omega⟩

set_option maxHeartbeats 400000 in
theorem put_bad (w : World) (F : Nat → Prop) (B g : Nat) (l : List UInt8) (a : Addr) (A : Option Addr) (m c : Nat) (most : Int) (hw : WrIs w F g .nilIface l) (he : ErrAt w B 2 a) (hlong : most < (m : Int) ∨ 255 < m) :
    Calls Tryd.prog 35 #[.pointer (some ⟨g, 0, none⟩), .slice A m c, .int .i64 most, .func (.func 44) #[] #[]] w fun e w' => e = .returned (.tuple #[]) ∧ WrIs w' F g (errV a) l ∧ Kept (fun k => k = g) w w' := by
  have k1 := boxed_kept w g m c A
  have d1 := boxed_w w g m c A
  have d2 := boxed_l w g m c A
  have hw1 := hw.kept k1 (fun _ _ h => h)
  have hr := k1.cell he.1 (fun h => h)
  have hw1' := hw1
  obtain ⟨hBg, bA, bc, hb, hown, hF⟩ := hw1'
  have Hw := Lib.hid hw1
  clear hw1
  rcases long_cases hlong with a1 | ⟨a1, a2⟩
  all_goals
    clear hlong
    go_enter Tryd.func35, Tryd.ntmps35
    go_wp2_with fail
    rw [boxed_eq]
    generalize boxed w g m c A = W1 at *
    go_wp2_with fail
    go_region_with (go_at_call 32; refine (fail_new _ g 64 _ _ (.slice bA l.length bc) ?_).mono ?_; exact hb.drew; rintro e w1 ⟨rfl, rfl⟩)
    all_goals
      go_wp2
      first | go_end0 | refine bodyPost_ret (results_none rfl _ _ _) rfl ?_
      exact ⟨rfl, Hw.out.failed, (k1.mono (G := fun k => k = g) fun _ _ h => h.elim).follow (Kept.of_grown (F := fun k => k = g) (grown_set (w := W1) g (errV a)) (fun g' e => by injection e with e; exact e.symm)) (fun _ _ h => h)⟩

set_option maxHeartbeats 400000 in
theorem put_err (w : World) (F : Nat → Prop) (B g : Nat) (t : TypeId) (v : Value) (l : List UInt8) (a : Addr) (A : Option Addr) (m c : Nat) (most : Int) (x : List UInt8) (hm : x.length = m) (hw : WrIs w F g (.iface t v) l) (he : ErrAt w B 2 a) (hx : BytesAt w A x) :
    Calls Tryd.prog 35 #[.pointer (some ⟨g, 0, none⟩), .slice A m c, .int .i64 most, .func (.func 44) #[] #[]] w fun e w' => e = .returned (.tuple #[]) ∧ w.grownBy w' none := by
  have k1 := boxed_kept w g m c A
  have d1 := boxed_w w g m c A
  have d2 := boxed_l w g m c A
  have d3 := boxed_f w g m c A
  have hw1 := hw.kept k1 (fun _ _ h => h)
  have hr := k1.cell he.1 (fun h => h)
  have hmf : ∀ (fn : Fn) (first cap : Array Value) (w : World), (Instr.makeFunc fn first cap).run Tryd.prog w = .ok (.func fn first cap) w := fun _ _ _ _ => rfl
  by_cases hlong : most < (m : Int) ∨ 255 < m
  · obtain ⟨hBg, bA, bc, hb, hown, hF⟩ := hw1
    rcases long_cases hlong with a1 | ⟨a1, a2⟩
    all_goals
      clear hlong hm
      go_enter Tryd.func35, Tryd.ntmps35
      go_wp2_with fail
      rw [boxed_eq]
      generalize boxed w g m c A = W1 at *
      go_wp2_with fail
      go_region_with (go_at_call 32; refine (fail_old _ g 64 t v (.slice bA l.length bc) _ ?_).mono ?_; exact hb.drew; rintro e w1 ⟨rfl, rfl⟩)
      all_goals
        go_wp2
        first | go_end0 | refine bodyPost_ret (results_none rfl _ _ _) rfl ?_
        exact ⟨rfl, grown_drew k1.none_grown⟩
  · have a1 : decide (most < (m : Int)) = false := by simp; omega
    have a2 : decide ((255 : Int) < (m : Int)) = false := by simp; omega
    have h255 : m ≤ 255 := by omega
    have Hm := Lib.hid hm
    clear hm hlong
    have He := Lib.hid (he.grown k1.none_grown (fun _ e => by cases e))
    have Hw := Lib.hid hw1
    clear hw1
    have hx1 := hx.kept' k1 (fun _ _ _ h => h)
    go_enter Tryd.func35, Tryd.ntmps35
    go_wp2_with fail
    rw [boxed_eq]
    generalize boxed w g m c A = W1 at *
    refine (number_err W1 F B g t v l a _ 1 Hw.out He.out).mono ?_
    rintro e w2 ⟨rfl, k2⟩
    have e1 := k2.cell d1 (by simp)
    have e2 := k2.cell d2 (by simp)
    have e3 := k2.cell d3 (by simp)
    go_wp2_with fail
    have g3 := World.grownBy_alloc w2 (.cells #[.pointer (some ⟨g, 0, none⟩)] 90) none
    refine (attempt_ok ⟨g, 0, none⟩ 64 _ w2 _ enter_put (loop_err _ F B g t v l a _ _ _ A m c x Hm.out (by omega) ((Hw.out.grown k2).alloc _) ((He.out.grown k2 (fun _ e => by cases e)).grown g3 (fun _ e => by cases e)) (g3.cell e2 (by simp)) (g3.cell e3 (by simp)) (g3.cell e1 (by simp)) ((hx1.grown k2 (fun _ _ => by simp)).alloc _))).mono ?_
    rintro e w4 ⟨rfl, k4⟩
    go_wp2_with fail
    go_end0
    exact ⟨rfl, grown_trans k1.none_grown (grown_trans k2 (grown_trans g3 k4))⟩
end Go.Proofs.YtmmjpkijnecmcaaDoor
