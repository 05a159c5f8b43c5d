/-
  Tally, keys of type int: same; told, as an iterator.
-/
import Derived.Test.YthcilpfcdblmkaaDoorTaP
import Derived.Test.YthcilpfcdblmkaaDoorGe
import Derived.Recover
import Derived.Defers
namespace Go.Proofs.YthcilpfcdblmkaaDoor
open Go.RowKit Go.Shelf

attribute [local go_sem] Oper.semAt_some

theorem catchI (w : World) :
    CallsD Tryd.prog 43 #[] .returning w fun e u' w' => (∃ v, e = .returned v) ∧ u' = .returning ∧ w' = w := by
  refine callsD_of_wpS Tryd.func43 rfl fun c₀ cs hu => ?_
  apply wpS_region
  simp [wpOpsS, go_sem, recoverD, hu, Tryd.ntmps43, Exit.thenS]
  cases c₀
  simp_all [bodyPostS, results, Tryd.results43]

set_option maxRecDepth 100000 in
theorem sameI_is (w : World) (a b : Int) :
    Calls Tryd.prog 32 #[(.int .i64 a), (.int .i64 b)] w fun e w' => e = .returned (.bool (decide (a = b))) ∧ w = w' := by
  have hd : (decide (a = b)) = (a == b) := by rw [Bool.eq_iff_iff]; simp
  go_enter_defers Tryd.func32, Tryd.ntmps32
  go_wp2_with fail
  refine leaves_cons (f := 43) (args := #[]) (by simp) (by simp [go_sem]) ?_
  refine (catchI _).mono ?_
  rintro e u' w'' ⟨⟨v, rfl⟩, rfl, rfl⟩
  exact ⟨_, results_tmp rfl _ _ _, by rw [hd]; rfl, rfl⟩
end Go.Proofs.YthcilpfcdblmkaaDoor
