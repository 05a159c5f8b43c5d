/-
  attempt: a call that ends without a panic ends so, and its deferred closure does nothing.
-/
import Derived.Test.YthjcgdcmbedhnaaDoorWire2
import Derived.Recover
import Derived.Defers
namespace Go.Proofs.YthjcgdcmbedhnaaDoor
open Go.RowKit

theorem catch_idle0 (p : Addr) (w : World) :
    CallsD Tryd.prog 83 #[.pointer (some p)] .returning w fun e u' w' => e = .returned (.tuple #[]) ∧ u' = .returning ∧ w' = w := by
  refine callsD_of_wpS Tryd.func83 rfl fun c₀ cs hu => ?_
  apply wpS_seq
  apply wpS_region
  simp [wpOpsS, go_sem, recoverD, hu, Tryd.ntmps83, Exit.thenS]
  refine wpS_cond (t := false) (by simp [Act.eval, Array.replicate]) ?_
  simp only [Bool.false_eq_true, if_false]
  refine wpS_of_wp (wp_skip ?_)
  cases c₀
  simp_all [bodyPostS, results, Tryd.results83]

set_option maxRecDepth 100000 in
theorem attempt_ok0 (p : Addr) (fn : FuncId) (caps : Array Value) (w : World) (R : World → Prop) (hE : ∀ (args : Array Value) (w : World), (callFunc fn args).run Tryd.prog w = .ok (.enter fn args) w)
    (hC : Calls Tryd.prog fn caps (w.alloc (.cells #[.pointer (some p)] 153)) fun e w' => e = .returned (.tuple #[]) ∧ R w') :
    Calls Tryd.prog 75 #[.pointer (some p), .func (.func fn) #[] caps] w fun e w' => e = .returned (.tuple #[]) ∧ R w' := by
  have HC := Lib.hid hC
  clear hC
  have hmf : ∀ (fn : Fn) (first cap : Array Value) (w : World), (Instr.makeFunc fn first cap).run Tryd.prog w = .ok (.func fn first cap) w := fun _ _ _ _ => rfl
  go_enter_defers Tryd.func75, Tryd.ntmps75
  go_wp2_with fail
  refine HC.out.mono ?_
  rintro e w1 ⟨rfl, hR⟩
  go_wp2_with fail
  refine leaves_cons (f := 83) (args := #[.pointer (some ⟨w.heap.size, 0, none⟩)]) (by simp) (by simp [go_sem]) ?_
  refine (catch_idle0 ⟨w.heap.size, 0, none⟩ _).mono ?_
  rintro e u' w'' ⟨rfl, rfl, rfl⟩
  exact ⟨_, results_none rfl _ _ _, rfl, hR⟩
end Go.Proofs.YthjcgdcmbedhnaaDoor
