/-
  PaceRises, for every input: the law answers true and leaves its arguments. Its condition: the errors of package api that the row lists read as the program's text lays them (the card ties that).
-/
import Derived.Test.YtfpjocinbnipgaaDoorPaRises
import Derived.Test.YtfpjocinbnipgaaDoorLaw
import Derived.Test.YtfpjocinbnipgaaDoorLaid
import Derived.Test.YtfpjocinbnipgaaDoorArgI
namespace Go.Proofs.YtfpjocinbnipgaaDoor.rises
open Go.ChangeShapes Go.WideShapes Go.ChangeAt Go.RowKit

def theErrs : List (String × DataW Unit) := Rows.paceRisesRow.laid
theorem start_met (os : Os) (args : Array Value) : laidMetH Tryd.prog theErrs ((World.doorLaid Tryd.prog 2000 os).forCall (fun _ _ => 0) ⟨#[], args, []⟩).memory :=
  laidMetH_of_parts3 (fuel := 8) (laidMet_of_run' 8 (by kernel_rfl) (by kernel_rfl)) (by kernel_rfl) (by kernel_rfl)
theorem sub_errs : ∀ x ∈ theErrs, x ∈ allErrs := by
  have e : theErrs = [0, 13].map (fun i => allErrs.getD i (default, .nil)) := rfl
  intro x hx
  rw [e] at hx
  obtain ⟨i, hi, rfl⟩ := List.mem_map.1 hx
  have h18 : i < allErrs.length := by
    have : allErrs.length = 18 := rfl
    simp at hi
    omega
  rw [List.getD, List.getElem?_eq_getElem h18]
  exact List.getElem_mem h18

set_option maxRecDepth 100000 in
theorem lifted (os : Os) (started : os.Started) (H : Type) (enc : TypeId × Value → H) :
    ReturnsInHanded {} Tryd.checked os 4 .any (fun w args => (Rows.paceRisesSpec.pre enc Tryd.prog Tryd.f4 [] false w args ∧ laidMetH Tryd.prog theErrs w) ∧ sizedMet enc Tryd.prog Tryd.f4 (OpenSpec.ofChange Rows.paceRisesSpec) false w args)
      (Rows.paceRisesSpec.post enc Tryd.prog Tryd.f4 false true false false) := by
  refine returnsInHanded_of_change_and (C := Tryd.checked) (X := fun w _ => laidMetH Tryd.prog theErrs w) (fun _ _ _ hh h => h.of_heap hh) own started (by kernel_rfl) Tryd.func4
    (ChangeSpec.witness_shaped (enc := enc) (C := Tryd.checked) (os := os) (X := fun w _ => laidMetH Tryd.prog theErrs w) false (World.doorLaid Tryd.prog 2000 os) #[.slice none 0 0, .int .i64 0] 8 rfl (World.shaped_of_RefB (by kernel_rfl) (by kernel_rfl)) (by kernel_rfl) (by kernel_rfl) (by kernel_rfl) (start_met os _)) ?_
  intro W base args ds gs before hval0 hW _ _ hL _
  have hval : ∀ (j : Nat) t v, Tryd.f4.params[j]? = some t → args[j]? = some v → Value.okWide Tryd.prog W .any base t v := hval0
  have hW' := hW
  obtain ⟨p, q, hA0, hV, rfl, hfz, hnd⟩ := hW
  have hA : DataW.TrodAll enc Tryd.prog W 0 (fun _ => true) true Tryd.f4.params.toList args.toList ds p := hA0
  rw [Tryd.params4] at hA hval
  obtain ⟨v0, v1, d0, d1, p0, p1, rfl, rfl, rfl, h0, h1⟩ := trodAll_two hA
  obtain ⟨rfl, rfl⟩ := trodVars_none hV
  obtain ⟨A0, n0, c0, l0, rfl, hn0, hc0, hb0, hwf0⟩ := arg_nums (hval 0 43 v0 rfl rfl) h0
  obtain ⟨a1, rfl, rfl, rfl, wf1⟩ := open_int Tryd.underlying3 (hval 1 3 v1 rfl rfl) h1
  clear hA0 hval0
  simp only [List.append_nil] at hW'
  obtain ⟨e0, he0⟩ := err_of_laid hL (by kernel_rfl) sub_errs 0 (by omega) (fun _ => List.mem_cons_self)
  obtain ⟨e13, he13⟩ := err_of_laid hL (by kernel_rfl) sub_errs 13 (by omega) (fun _ => (List.mem_cons_of_mem _ List.mem_cons_self))
  refine (rises_any W W.heap.size e0 e13 he0 he13 A0 n0 c0 l0 a1 hn0 hb0).mono fun e W' ⟨he, hx⟩ => ?_
  have hb : Below W.heap.size W W' := below_grown hx (Nat.le_refl _) (fun _ h => by cases h)
  subst he
  exact ⟨_, rfl, law_post hW' rfl rfl (by kernel_rfl) (by kernel_rfl) hb⟩

theorem said : Rows.PaceRisesSaid :=
  OpenClaim.holds_of_wide 4 Tryd.f4 rfl rfl rfl rfl rfl rfl rfl ⟨rfl, rfl, rfl, rfl, rfl⟩ rfl rfl rfl rfl rfl (by kernel_rfl) Tryd.func4 (by kernel_rfl)
    (of_decide_eq_true (by kernel_rfl)) (by unfold Func.isWrapper; rw [if_neg (of_decide_eq_false (by kernel_rfl))]; exact ⟨rfl, rfl⟩)
    (fun os started H enc _ => lifted os started H enc)

theorem plain (f : FuncId) (fn : Func) (hf : Tryd.pinned.checked.prog.funcNamed Rows.paceRisesRow.func = some f) (hfn : Tryd.pinned.checked.prog.funcs[f]? = some fn) :
    Rows.paceRisesCard.stood.looks = Tryd.pinned.checked.prog.looks [] ∧ ∀ (j : Nat) t, fn.params[j]? = some t → Tryd.pinned.checked.prog.wantsStandIn t = false := by
  obtain rfl : f = 4 := Option.some.inj ((show Tryd.prog.funcNamed Rows.paceRisesRow.func = some 4 by kernel_rfl).symm.trans hf) |>.symm
  obtain rfl : fn = Tryd.f4 := (Option.some.inj (Tryd.func4.symm.trans hfn)).symm
  refine ⟨by kernel_rfl, fun j t ht => ?_⟩
  rw [Tryd.params4] at ht
  have hm : t ∈ [43, 3] := by simpa using Array.mem_of_getElem? ht
  have hall : ([43, 3].all fun u => !Tryd.prog.wantsStandIn u) = true := by kernel_rfl
  exact (show Tryd.prog.wantsStandIn t = false by simpa using List.all_eq_true.1 hall t hm)

theorem card : Rows.PaceRisesCardSaid :=
  Claim7.holds_tied_plain_at .later [] _ _ _ _ said (fun _ h => by cases h) (by kernel_rfl) (fun _ h => by cases h) paceRises_row_tie rfl ⟨rfl, rfl⟩ (by kernel_rfl) rfl plain (by kernel_rfl)
end Go.Proofs.YtfpjocinbnipgaaDoor.rises
