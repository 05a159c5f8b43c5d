/-
  What the listed variables give: each error's cell, that they differ; a start that meets the condition.
-/
import Derived.Test.YtmecimhlnajaoaaDoorErr
import Derived.Test.YtmecimhlnajaoaaDoorCards
import Derived.Test.YtmecimhlnajaoaaDoorTie
import Derived.ProofKit
import Derived.OpenShut
import Derived.LaidMore
import Derived.MakeChecks
import Derived.Stop.Joined
import Derived.Stop.LaidErr
import Derived.SevenTiedAt
namespace Go.Proofs.YtmecimhlnajaoaaDoor
open Go.RowKit Go.ChangeShapes Go.WideShapes

theorem own : ownKnob Tryd.prog.godebug = none := by kernel_rfl

/-- The text behind a listed error; the name of its type. -/
def sentText : DataW Unit → List UInt8
  | .iface _ (.ptr (.agg [.lit (.string t)])) => t
  | _ => []
def sentName : String := match (Rows.laid_quorate_api_ErrRange : DataW Unit) with
  | .iface n _ => n
  | _ => default
def sent (t : List UInt8) : DataW Unit := .iface sentName (.ptr (.agg [.lit (.string t)]))

theorem sentType (u : TypeId) (h : Tryd.prog.typeName? 3 u = some sentName) : u = 109 :=
  typeName_ptr_named (nm := "errors.errorString") (by kernel_rfl) (by kernel_rfl) (by decide) u (h.trans (by decide +kernel))
theorem cellsStr : Tryd.prog.cellsOf 133 = 1 := by kernel_rfl
theorem cellsString : Tryd.prog.cellsOf 9 = 1 := by kernel_rfl

set_option maxRecDepth 100000 in
theorem laid_head {n : String} {text : List UInt8} {r : List (String × DataW Unit)} {W : World} {g : Nat}
    (h : laidMet Tryd.prog ((n, sent text) :: r) W) (hg : Tryd.prog.globalNamed n = some g) (ht : (Tryd.prog.globals[g]?).map (·.type) = some 26) :
    ∃ (a : Addr) (s : ByteArray) (c : Array Value) (t : TypeId), W.cell? ⟨g, 0, none⟩ = some (errV a) ∧ W.cell? a = some (.string s) ∧ s.data.toList = text ∧ W.heap[a.block]? = some (.cells c t (0, 0)) := by
  obtain ⟨ps, ⟨g0, t0, cs0, f0, p0, q0, hg0, ht0, hv0, hd0, _, e0⟩, _, hrows⟩ := h
  obtain rfl := Option.some.inj (hg.symm.trans hg0)
  obtain rfl := Option.some.inj (ht.symm.trans ht0)
  subst e0
  obtain ⟨l0⟩ := cs0
  have ok0 : ∀ u v, l0 = [.iface u v] → Value.okWide Tryd.prog W .any 0 u v := fun u v e => by
    subst e
    exact (hrows g 0 (by simp [MemPlace.row])).2 u v (by simpa using World.var?_cell hg0 hv0 0)
  obtain ⟨a0, s0, rfl, hc0, hs0, hz0, rfl⟩ := errorString_of_trod Tryd.underlying26 sentType Tryd.underlying109 Tryd.underlying133 rfl rfl Tryd.underlying9 cellsStr cellsString hd0 ok0
  obtain ⟨c0, t0, hb0⟩ := (hrows a0.block a0.off (by simp [MemPlace.row])).1
  exact ⟨a0, s0, c0, t0, by simpa using World.var?_cell hg0 hv0 0, hc0, hs0, hb0⟩

theorem laid_each {W : World} : ∀ (L : List (String × DataW Unit)), laidMet Tryd.prog L W → (∀ x ∈ L, x.2 = sent (sentText x.2) ∧ ∃ g, Tryd.prog.globalNamed x.1 = some g ∧ (Tryd.prog.globals[g]?).map (·.type) = some 26) →
    ∀ x ∈ L, ∃ (g : Nat) (a : Addr) (s : ByteArray) (c : Array Value) (t : TypeId), Tryd.prog.globalNamed x.1 = some g ∧ W.cell? ⟨g, 0, none⟩ = some (errV a) ∧ W.cell? a = some (.string s) ∧ s.data.toList = sentText x.2 ∧ W.heap[a.block]? = some (.cells c t (0, 0))
  | [], _, _, _, hx => by cases hx
  | y :: r, h, hL, x, hx => by
    rcases List.mem_cons.1 hx with rfl | hx
    · obtain ⟨e, g, hg, ht⟩ := hL x (by simp)
      obtain ⟨n, d⟩ := x
      simp only at e hg
      rw [e] at h
      obtain ⟨a, s, c, t, h1, h2, h3, h4⟩ := laid_head h hg ht
      exact ⟨g, a, s, c, t, hg, h1, h2, h3, h4⟩
    · exact laid_each r h.tail (fun z hz => hL z (by simp [hz])) x hx

/-- All errors of package api, in the order of their numbers. -/
def allErrs : List (String × DataW Unit) := Rows.diskPlaysRow.laid
theorem all_names : (allErrs.map fun x => Tryd.prog.globalNamed x.1) = gix.map some := by kernel_rfl
theorem all_types : (gix.all fun g => (Tryd.prog.globals[g]?).map (·.type) == some 26) = true := by kernel_rfl
theorem all_texts : (allErrs.map fun x => sentText x.2).Nodup := by decide +kernel
theorem all_sent : ∀ x ∈ allErrs, x.2 = sent (sentText x.2) := by
  intro x hx
  simp only [allErrs, Rows.diskPlaysRow, List.mem_cons, List.not_mem_nil, or_false] at hx
  rcases hx with rfl | rfl | rfl | rfl | rfl | rfl | rfl | rfl | rfl | rfl | rfl | rfl | rfl | rfl | rfl | rfl | rfl | rfl <;> rfl

theorem addr_head {a : Addr} {W : World} {v : Value} (h : W.cell? a = some v) : a.block < W.heap.size := World.block_lt_of_cell? W a h

/-- WHAT THE LIST OF ALL ERRORS GIVES. -/
theorem errs_of_laid {W : World} (h : laidMetH Tryd.prog allErrs W) : ∃ E, ErrEnv W W.heap.size E := by
  rw [MakeChecks.laidMetH_plain _ _ _ (by kernel_rfl)] at h
  have hl : allErrs.length = 18 := rfl
  have key : ∀ i, i < 18 → ∃ (a : Addr) (s : ByteArray) (c : Array Value) (t : TypeId), W.cell? ⟨gix.getD i 0, 0, none⟩ = some (errV a) ∧ W.cell? a = some (.string s) ∧ some s.data.toList = (allErrs.map fun x => sentText x.2)[i]? ∧ W.heap[a.block]? = some (.cells c t (0, 0)) := by
    intro i hi
    have hi' : i < allErrs.length := by omega
    have hn : (allErrs.map fun x => Tryd.prog.globalNamed x.1)[i]? = (gix.map some)[i]? := by rw [all_names]
    have hgl : i < gix.length := by simpa [gix] using hi
    simp only [List.getElem?_map, List.getElem?_eq_getElem hi', List.getElem?_eq_getElem hgl, Option.map_some, Option.some.injEq] at hn
    obtain ⟨g, a, s, c, t, h1, h2, h3, h4, h5⟩ := laid_each allErrs h (fun x hx => ⟨all_sent x hx, by
      obtain ⟨j, hj, rfl⟩ := List.mem_iff_getElem.1 hx
      have hn : (allErrs.map fun x => Tryd.prog.globalNamed x.1)[j]? = (gix.map some)[j]? := by rw [all_names]
      have hgj : j < gix.length := by simpa [gix, hl] using hj
      simp only [List.getElem?_map, List.getElem?_eq_getElem hj, List.getElem?_eq_getElem hgj, Option.map_some, Option.some.injEq] at hn
      exact ⟨gix[j], hn, by simpa using List.all_eq_true.1 all_types gix[j] (List.getElem_mem hgj)⟩⟩) allErrs[i] (List.getElem_mem hi')
    have h1 : gix[i] = g := Option.some.inj (hn.symm.trans h1)
    refine ⟨a, s, c, t, ?_, h3, ?_, h5⟩
    · rw [List.getD, List.getElem?_eq_getElem hgl, h1]; exact h2
    · rw [h4, List.getElem?_map, List.getElem?_eq_getElem hi']; rfl
  let E : Nat → Addr := fun i => if h : i < 18 then (key i h).choose else ⟨0, 0, none⟩
  have hE : ∀ i (h : i < 18), ∃ (s : ByteArray) (c : Array Value) (t : TypeId), W.cell? ⟨gix.getD i 0, 0, none⟩ = some (errV (E i)) ∧ W.cell? (E i) = some (.string s) ∧ some s.data.toList = (allErrs.map fun x => sentText x.2)[i]? ∧ W.heap[(E i).block]? = some (.cells c t (0, 0)) := by
    intro i h
    have := (key i h).choose_spec
    simpa [E, h] using this
  refine ⟨E, fun i hi => ?_, fun i hi => ?_, fun i j hi hj e => ?_⟩
  · obtain ⟨s, c, t, h1, _⟩ := hE i hi
    exact ⟨h1, addr_head h1⟩
  · obtain ⟨s, c, t, _, h2, _, h4⟩ := hE i hi
    exact ⟨addr_head h2, c, t, h4⟩
  · obtain ⟨s, _, _, _, h2, h3, _⟩ := hE i hi
    obtain ⟨s', _, _, _, h2', h3', _⟩ := hE j hj
    rw [e, h2'] at h2
    injection h2 with h2
    injection h2 with h2
    subst h2
    exact (List.getElem?_inj (by simpa [hl] using hi) all_texts).1 (h3.symm.trans h3')

/-- What a part of that list gives: each error that stands in it. -/
theorem err_of_laid {L : List (String × DataW Unit)} {W : World} (h : laidMetH Tryd.prog L W) (hp : (L.all fun x => x.2.handleName?.isNone) = true) (hs : ∀ x ∈ L, x ∈ allErrs) (i : Nat) (hi : i < 18) (hm : ∀ h : i < allErrs.length, allErrs[i] ∈ L) :
    ∃ a, ErrAt W W.heap.size (gix.getD i 0) a := by
  rw [MakeChecks.laidMetH_plain _ _ _ hp] at h
  have hl : allErrs.length = 18 := rfl
  have hi' : i < allErrs.length := by omega
  have hgl : i < gix.length := by simpa [gix] using hi
  have name : ∀ j (hj : j < allErrs.length) (hgj : j < gix.length), Tryd.prog.globalNamed allErrs[j].1 = some gix[j] := by
    intro j hj hgj
    have hn : (allErrs.map fun x => Tryd.prog.globalNamed x.1)[j]? = (gix.map some)[j]? := by rw [all_names]
    simp only [List.getElem?_map, List.getElem?_eq_getElem hj, List.getElem?_eq_getElem hgj, Option.map_some, Option.some.injEq] at hn
    exact hn
  obtain ⟨g, a, s, c, t, h1, h2, h3, h4, h5⟩ := laid_each L h (fun x hx => ⟨all_sent x (hs x hx), by
    obtain ⟨j, hj, rfl⟩ := List.mem_iff_getElem.1 (hs x hx)
    have hgj : j < gix.length := by simpa [gix, hl] using hj
    exact ⟨gix[j], name j hj hgj, by simpa using List.all_eq_true.1 all_types gix[j] (List.getElem_mem hgj)⟩⟩) allErrs[i] (hm hi')
  have h1 : gix[i] = g := Option.some.inj ((name i hi' hgl).symm.trans h1)
  refine ⟨a, ?_, ?_⟩
  · rw [List.getD, List.getElem?_eq_getElem hgl, h1]; exact h2
  · rw [List.getD, List.getElem?_eq_getElem hgl, h1]; exact addr_head h2

/-- A start that meets the condition: what the door's run leaves. -/
theorem door_met (os : Os) (args : Array Value) : laidMetH Tryd.prog allErrs ((World.doorLaid Tryd.prog 2000 os).forCall (fun _ _ => 0) ⟨#[], args, []⟩).memory :=
  laidMetH_of_parts3 (fuel := 8) (laidMet_of_run' 8 (by kernel_rfl) (by kernel_rfl)) (by kernel_rfl) (by kernel_rfl)
end Go.Proofs.YtmecimhlnajaoaaDoor
