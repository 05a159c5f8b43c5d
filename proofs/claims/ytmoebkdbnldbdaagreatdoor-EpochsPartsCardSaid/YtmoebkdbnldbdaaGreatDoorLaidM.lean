/-
  What the listed variables give where errors AND the table of the rounds are listed (the 18 errors first): each error's cell, that they differ; the table; a start that meets the condition.
-/
import Derived.Test.YtmoebkdbnldbdaaGreatDoorM20pu
import Derived.Test.YtmoebkdbnldbdaaGreatDoorM20pd
import Derived.Test.YtmoebkdbnldbdaaGreatDoorM20ph
import Derived.Test.YtmoebkdbnldbdaaGreatDoorCards
import Derived.Test.YtmoebkdbnldbdaaGreatDoorTie
import Derived.ProofKit
import Derived.OpenShut
import Derived.LaidMore
import Derived.MakeChecks
import Derived.Stop.Joined
import Derived.Stop.LaidErr
import Derived.SevenTiedAt
namespace Go.Proofs.YtmoebkdbnldbdaaGreatDoor
open Go.RowKit Go.ChangeShapes Go.WideShapes

theorem own : ownKnob Tryz.prog.godebug = none := by kernel_rfl

/-- The text behind a listed error; the name of its type. -/
def sentText : DataW Unit → List UInt8
  | .iface _ (.ptr (.agg [.lit (.string t)])) => t
  | _ => []
def sentName : String := match (Rows.laid_quorate_api_ErrRange : DataW Unit) with
  | .iface n _ => n
  | _ => default
def sent (t : List UInt8) : DataW Unit := .iface sentName (.ptr (.agg [.lit (.string t)]))

theorem sentType (u : TypeId) (h : Tryz.prog.typeName? 3 u = some sentName) : u = 207 :=
  typeName_ptr_named (nm := "errors.errorString") (by kernel_rfl) (by kernel_rfl) (by decide) u (h.trans (by decide +kernel))
theorem cellsStr : Tryz.prog.cellsOf 234 = 1 := by kernel_rfl
theorem cellsString : Tryz.prog.cellsOf 9 = 1 := by kernel_rfl

set_option maxRecDepth 100000 in
theorem laid_head {n : String} {text : List UInt8} {r : List (String × DataW Unit)} {W : World} {g : Nat}
    (h : laidMet Tryz.prog ((n, sent text) :: r) W) (hg : Tryz.prog.globalNamed n = some g) (ht : (Tryz.prog.globals[g]?).map (·.type) = some 31) :
    ∃ (a : Addr) (s : ByteArray) (c : Array Value) (t : TypeId), W.cell? ⟨g, 0, none⟩ = some (errV a) ∧ W.cell? a = some (.string s) ∧ s.data.toList = text ∧ W.heap[a.block]? = some (.cells c t (0, 0)) := by
  obtain ⟨ps, ⟨g0, t0, cs0, f0, p0, q0, hg0, ht0, hv0, hd0, _, e0⟩, _, hrows⟩ := h
  obtain rfl := Option.some.inj (hg.symm.trans hg0)
  obtain rfl := Option.some.inj (ht.symm.trans ht0)
  subst e0
  obtain ⟨l0⟩ := cs0
  have ok0 : ∀ u v, l0 = [.iface u v] → Value.okWide Tryz.prog W .any 0 u v := fun u v e => by
    subst e
    exact (hrows g 0 (by simp [MemPlace.row])).2 u v (by simpa using World.var?_cell hg0 hv0 0)
  obtain ⟨a0, s0, rfl, hc0, hs0, hz0, rfl⟩ := errorString_of_trod Tryz.underlying31 sentType Tryz.underlying207 Tryz.underlying234 rfl rfl Tryz.underlying9 cellsStr cellsString hd0 ok0
  obtain ⟨c0, t0, hb0⟩ := (hrows a0.block a0.off (by simp [MemPlace.row])).1
  exact ⟨a0, s0, c0, t0, by simpa using World.var?_cell hg0 hv0 0, hc0, hs0, hb0⟩

theorem laid_each {W : World} : ∀ (L : List (String × DataW Unit)), laidMet Tryz.prog L W → ∀ x ∈ L, x.2 = sent (sentText x.2) → (∃ g, Tryz.prog.globalNamed x.1 = some g ∧ (Tryz.prog.globals[g]?).map (·.type) = some 31) →
    ∃ (g : Nat) (a : Addr) (s : ByteArray) (c : Array Value) (t : TypeId), Tryz.prog.globalNamed x.1 = some g ∧ W.cell? ⟨g, 0, none⟩ = some (errV a) ∧ W.cell? a = some (.string s) ∧ s.data.toList = sentText x.2 ∧ W.heap[a.block]? = some (.cells c t (0, 0))
  | [], _, _, hx, _, _ => by cases hx
  | y :: r, h, x, hx, e, hg => by
    rcases List.mem_cons.1 hx with rfl | hx
    · obtain ⟨g, hg, ht⟩ := hg
      obtain ⟨n, d⟩ := x
      simp only at e hg
      rw [e] at h
      obtain ⟨a, s, c, t, h1, h2, h3, h4⟩ := laid_head h hg ht
      exact ⟨g, a, s, c, t, hg, h1, h2, h3, h4⟩
    · exact laid_each r h.tail x hx e hg

/-- All errors of package api, in the order of their numbers. -/
def allErrs : List (String × DataW Unit) := Rows.epochsPartsRow.laid.take 18
theorem all_names : (allErrs.map fun x => Tryz.prog.globalNamed x.1) = gix.map some := by kernel_rfl
theorem all_types : (gix.all fun g => (Tryz.prog.globals[g]?).map (·.type) == some 31) = true := by kernel_rfl
theorem all_texts : (allErrs.map fun x => sentText x.2).Nodup := by decide +kernel
theorem all_sent : ∀ x ∈ allErrs, x.2 = sent (sentText x.2) := by
  intro x hx
  simp only [allErrs, Rows.epochsPartsRow, List.take_succ_cons, List.take_zero, List.mem_cons, List.not_mem_nil, or_false] at hx
  rcases hx with rfl | rfl | rfl | rfl | rfl | rfl | rfl | rfl | rfl | rfl | rfl | rfl | rfl | rfl | rfl | rfl | rfl | rfl <;> rfl

theorem addr_head {a : Addr} {W : World} {v : Value} (h : W.cell? a = some v) : a.block < W.heap.size := World.block_lt_of_cell? W a h

theorem err_key {L : List (String × DataW Unit)} {W : World} (h : laidMet Tryz.prog L W) (i : Nat) (hi : i < 18) (hm : ∀ h : i < allErrs.length, allErrs[i] ∈ L) :
    ∃ (a : Addr) (s : ByteArray) (c : Array Value) (t : TypeId), W.cell? ⟨gix.getD i 0, 0, none⟩ = some (errV a) ∧ W.cell? a = some (.string s) ∧ some s.data.toList = (allErrs.map fun x => sentText x.2)[i]? ∧ W.heap[a.block]? = some (.cells c t (0, 0)) := by
  have hl : allErrs.length = 18 := rfl
  have hi' : i < allErrs.length := by omega
  have hgl : i < gix.length := by simpa [gix] using hi
  have hn : (allErrs.map fun x => Tryz.prog.globalNamed x.1)[i]? = (gix.map some)[i]? := by rw [all_names]
  simp only [List.getElem?_map, List.getElem?_eq_getElem hi', List.getElem?_eq_getElem hgl, Option.map_some, Option.some.injEq] at hn
  obtain ⟨g, a, s, c, t, h1, h2, h3, h4, h5⟩ := laid_each L h allErrs[i] (hm hi') (all_sent _ (List.getElem_mem hi')) ⟨gix[i], hn, by simpa using List.all_eq_true.1 all_types gix[i] (List.getElem_mem hgl)⟩
  have h1 : gix[i] = g := Option.some.inj (hn.symm.trans h1)
  refine ⟨a, s, c, t, ?_, h3, ?_, h5⟩
  · rw [List.getD, List.getElem?_eq_getElem hgl, h1]; exact h2
  · rw [h4, List.getElem?_map, List.getElem?_eq_getElem hi']; rfl

/-- WHAT THE LIST OF ALL ERRORS GIVES. -/
theorem errs_of_laid {L : List (String × DataW Unit)} {W : World} (h : laidMetH Tryz.prog L W) (hp : (L.all fun x => x.2.handleName?.isNone) = true) (hm : ∀ x ∈ allErrs, x ∈ L) : ∃ E, ErrEnv W W.heap.size E := by
  rw [MakeChecks.laidMetH_plain _ _ _ hp] at h
  have hl : allErrs.length = 18 := rfl
  have key := fun i hi => err_key (W := W) h i hi (fun hh => hm _ (List.getElem_mem hh))
  let E : Nat → Addr := fun i => if h : i < 18 then (key i h).choose else ⟨0, 0, none⟩
  have hE : ∀ i (h : i < 18), ∃ (s : ByteArray) (c : Array Value) (t : TypeId), W.cell? ⟨gix.getD i 0, 0, none⟩ = some (errV (E i)) ∧ W.cell? (E i) = some (.string s) ∧ some s.data.toList = (allErrs.map fun x => sentText x.2)[i]? ∧ W.heap[(E i).block]? = some (.cells c t (0, 0)) := by
    intro i h
    have := (key i h).choose_spec
    simpa [E, h] using this
  refine ⟨E, fun i hi => ?_, fun i hi => ?_, fun i j hi hj e => ?_⟩
  · obtain ⟨s, c, t, h1, _⟩ := hE i hi
    exact ⟨h1, addr_head h1⟩
  · obtain ⟨s, c, t, _, h2, _, h4⟩ := hE i hi
    exact ⟨addr_head h2, c, t, h4⟩
  · obtain ⟨s, _, _, _, h2, h3, _⟩ := hE i hi
    obtain ⟨s', _, _, _, h2', h3', _⟩ := hE j hj
    rw [e, h2'] at h2
    injection h2 with h2
    injection h2 with h2
    subst h2
    exact (List.getElem?_inj (by simpa [hl] using hi) all_texts).1 (h3.symm.trans h3')

/-- What a part of that list gives: each error that stands in it. -/
theorem err_of_laid {L : List (String × DataW Unit)} {W : World} (h : laidMetH Tryz.prog L W) (hp : (L.all fun x => x.2.handleName?.isNone) = true) (i : Nat) (hi : i < 18) (hm : ∀ h : i < allErrs.length, allErrs[i] ∈ L) :
    ∃ a, ErrAt W W.heap.size (gix.getD i 0) a := by
  rw [MakeChecks.laidMetH_plain _ _ _ hp] at h
  obtain ⟨a, s, c, t, h1, _⟩ := err_key (W := W) h i hi hm
  exact ⟨a, h1, addr_head h1⟩

theorem rounds_head {r : List (String × DataW Unit)} {W : World} (h : laidMet Tryz.prog (("quorate/hash.rounds", Rows.laid_quorate_hash_rounds) :: r) W) : Rounds W := by
  obtain ⟨ps, ⟨g0, t0, cs0, f0, p0, q0, hg0, ht0, hv0, hd0, _, e0⟩, _, hrows⟩ := h
  obtain rfl : g0 = 18 := Option.some.inj (hg0.symm.trans (show Tryz.prog.globalNamed "quorate/hash.rounds" = some 18 by kernel_rfl))
  obtain rfl : t0 = 107 := Option.some.inj (ht0.symm.trans (show (Tryz.prog.globals[18]?).map (·.type) = some 107 by kernel_rfl))
  obtain ⟨l, hcs, hl, hx, _⟩ := arr_of_trod Tryz.underlying107 Tryz.underlying106 (by kernel_rfl) (by kernel_rfl) hd0
  have hk : l = kS := by
    have h1 := congrArg Prod.fst hx
    dsimp only at h1
    have h2 : (Rows.laid_quorate_hash_rounds : DataW Unit) = .agg (kS.map fun z => .lit (.int .u32 z)) := rfl
    rw [h2] at h1
    injection h1 with h1
    have hinj : ∀ a b : List Int, (a.map fun z => (DataW.lit (.int .u32 z) : DataW Unit)) = b.map (fun z => .lit (.int .u32 z)) → a = b := by
      intro a
      induction a with
      | nil => intro b hb; cases b with
        | nil => rfl
        | cons y r => cases hb
      | cons x s ih => intro b hb; cases b with
        | nil => cases hb
        | cons y r =>
          simp only [List.map_cons, List.cons.injEq] at hb
          obtain ⟨hb1, hb2⟩ := hb
          injection hb1 with hb1
          injection hb1 with _ hb1
          rw [hb1, ih r hb2]
    exact (hinj _ _ h1).symm
  have harr : cs0 = arrV .u32 kS := by
    rw [← hk]
    apply Array.ext'
    rw [hcs]
  subst harr
  have h0 := (hrows 18 0 (by subst e0; simp [MemPlace.row, kS_length])).1
  obtain ⟨c, t, hc⟩ := h0
  have hcv : W.var? Tryz.prog "quorate/hash.rounds" = some c := by
    simp [World.var?, hg0, hc]
  rw [hcv] at hv0
  obtain rfl := Option.some.inj hv0
  exact ⟨t, hc⟩

/-- WHAT THE TABLE OF THE ROUNDS GIVES, wherever it stands in the list. -/
theorem rounds_in {W : World} : ∀ (L : List (String × DataW Unit)), laidMet Tryz.prog L W → ("quorate/hash.rounds", Rows.laid_quorate_hash_rounds) ∈ L → Rounds W
  | [], _, hx => by cases hx
  | y :: r, h, hx => by
    rcases List.mem_cons.1 hx with e | hx
    · subst e; exact rounds_head h
    · exact rounds_in r h.tail hx
theorem rounds_of_laid {L : List (String × DataW Unit)} {W : World} (h : laidMetH Tryz.prog L W) (hp : (L.all fun x => x.2.handleName?.isNone) = true) (hm : ("quorate/hash.rounds", Rows.laid_quorate_hash_rounds) ∈ L) : Rounds W := by
  rw [MakeChecks.laidMetH_plain _ _ _ hp] at h
  exact rounds_in L h hm

/-- A start that meets the condition: what the door's run leaves. -/
theorem door_met (os : Os) (args : Array Value) : laidMetH Tryz.prog Rows.epochsPartsRow.laid ((World.doorLaid Tryz.prog 2000 os).forCall (fun _ _ => 0) ⟨#[], args, []⟩).memory :=
  laidMetH_of_parts3 (fuel := 8) (laidMet_of_run' 8 (by kernel_rfl) (by kernel_rfl)) (by kernel_rfl) (by kernel_rfl)
end Go.Proofs.YtmoebkdbnldbdaaGreatDoor
