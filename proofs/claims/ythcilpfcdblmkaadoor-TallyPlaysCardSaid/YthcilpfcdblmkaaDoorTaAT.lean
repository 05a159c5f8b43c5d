/-
  Tally, keys of type string: same; told, as an iterator.
-/
import Derived.Test.YthcilpfcdblmkaaDoorTaP
import Derived.Test.YthcilpfcdblmkaaDoorGe
import Derived.Recover
import Derived.Defers
namespace Go.Proofs.YthcilpfcdblmkaaDoor
open Go.RowKit Go.Shelf

attribute [local go_sem] Oper.semAt_some

theorem catchT (w : World) :
    CallsD Tryd.prog 57 #[] .returning w fun e u' w' => (∃ v, e = .returned v) ∧ u' = .returning ∧ w' = w := by
  refine callsD_of_wpS Tryd.func57 rfl fun c₀ cs hu => ?_
  apply wpS_region
  simp [wpOpsS, go_sem, recoverD, hu, Tryd.ntmps57, Exit.thenS]
  cases c₀
  simp_all [bodyPostS, results, Tryd.results57]

set_option maxRecDepth 100000 in
theorem sameT_is (w : World) (a b : (List UInt8)) :
    Calls Tryd.prog 50 #[(.string ⟨(a).toArray⟩), (.string ⟨(b).toArray⟩)] w fun e w' => e = .returned (.bool (decide (a = b))) ∧ w = w' := by
  have hd : (decide (a = b)) = (a == b) := by rw [Bool.eq_iff_iff]; simp
  go_enter_defers Tryd.func50, Tryd.ntmps50
  go_wp2_with fail
  refine leaves_cons (f := 57) (args := #[]) (by simp) (by simp [go_sem]) ?_
  refine (catchT _).mono ?_
  rintro e u' w'' ⟨⟨v, rfl⟩, rfl, rfl⟩
  exact ⟨_, results_tmp rfl _ _ _, by rw [hd]; rfl, rfl⟩
end Go.Proofs.YthcilpfcdblmkaaDoor
