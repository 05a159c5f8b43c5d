/-
  A wrap that hands the listed variables and the world's shape; what the rows' lists give.
-/
import Derived.Test.YtonkdcbmmdhjgaaGreatDoorScU
import Derived.Test.YtonkdcbmmdhjgaaGreatDoorErr
import Derived.Test.YtonkdcbmmdhjgaaGreatDoorCards
import Derived.Test.YtonkdcbmmdhjgaaGreatDoorTie
import Derived.ProofKit
import Derived.OpenShut
import Derived.LaidMore
import Derived.MakeChecks
import Derived.Stop.Joined
import Derived.Stop.LaidErr
import Derived.SevenTiedAt
import Derived.HandedShaped
import Derived.Lib.LaidTab
import Derived.Lib.LaidU8
import Derived.Shelf.LaysM
namespace Go.Proofs
open Go.RowKit Go.Shelf
shelf_lay LaysM.n146 Nm 146 at Tryz as Tryz.splitMSc
end Go.Proofs
namespace Go.Proofs.YtonkdcbmmdhjgaaGreatDoor
open Go.RowKit Go.Shelf Go.ChangeShapes Go.WideShapes

theorem own : ownKnob Tryz.prog.godebug = none := by kernel_rfl
theorem max_of_shape (W : World) (h : W.ShapedOpen Tryz.prog) : ∃ m, W.cell? ⟨18, 0, none⟩ = some (.int .i64 m) := Tryz.splitMSc.s1_3 W h
/-- The wrap: a row with listed variables; the contract is handed these and the world's shape. -/
theorem returns_shaped {H : Type} {enc : TypeId × Value → H} {a : Assume} {C : Checked} {os : Os} {f : FuncId} {fn : Func} {s : ChangeSpec} {conds : List PathCond} {apart fresh handsOn again : Bool} {X : World → Array Value → Prop}
    (hX : ∀ (w w' : World) (args : Array Value), w.heap = w'.heap → X w args → X w' args) (own : ownKnob C.prog.godebug = none) (started : os.Started) (noInit : C.prog.inits.idxOf? f = none) (hfn : C.prog.funcs[f]? = some fn)
    (witness : ∃ (w : World) (tape : Tape) (i : Input), w.os = os ∧ (w.forCall tape i).Shaped C.prog ∧ i.vars = [] ∧ Input.okWide C.prog (w.forCall tape i) .any w.heap.size f i ∧
      ((s.pre enc C.prog fn conds apart (w.forCall tape i).memory i.args ∧ X (w.forCall tape i).memory i.args) ∧ sizedMet enc C.prog fn (OpenSpec.ofChange s) apart (w.forCall tape i).memory i.args) ∧ a.holds C.prog (lone (Frame.enter C.prog f i.args .normal) [] (w.forCall tape i)))
    (contract : ∀ (W : World) (base : Nat) (args : Array Value) (ds gs : List (DataW H)) (before : List MemPlace),
      (∀ (j : Nat) t v, fn.params[j]? = some t → args[j]? = some v → Value.okWide C.prog W .any base t v) → DataW.Whole enc C.prog fn.params.toList s.vars apart W args.toList ds gs before → X W args → W.ShapedOpen C.prog →
      Calls C.prog f args W fun e W' => ∃ v, e = .returned v ∧ s.post enc C.prog fn apart fresh handsOn again W args v W') :
    ReturnsInHanded a C os f .any (fun w args => (s.pre enc C.prog fn conds apart w args ∧ X w args) ∧ sizedMet enc C.prog fn (OpenSpec.ofChange s) apart w args) (s.post enc C.prog fn apart fresh handsOn again) := by
  refine returnsInHanded_of_calls own started noInit witness ?_
  intro w tape i _ hsh _ hok hpre _
  obtain ⟨_, _, _, fn', hfn', _, _, _, _, hval⟩ := hok
  obtain rfl : fn' = fn := Option.some.inj (hfn'.symm.trans hfn)
  obtain ⟨⟨⟨ds, gs, before, hw, _⟩, hx⟩, _⟩ := hpre
  refine (contract (w.forCall tape i) w.heap.size i.args ds gs before hval (DataW.Whole.of_heap (w' := w.forCall tape i) (by rfl) hw) (hX _ _ _ (by rfl) hx) hsh).mono fun e W' ⟨v, he, hp⟩ => ?_
  subst he
  exact ChangeSpec.post_blind hp

/-- The text behind a listed error; the name of its type. -/
def sentText : DataW Unit → List UInt8
  | .iface _ (.ptr (.agg [.lit (.string t)])) => t
  | _ => []
def sentName : String := match (Rows.laid_quorate_api_ErrRange : DataW Unit) with
  | .iface n _ => n
  | _ => default
def sent (t : List UInt8) : DataW Unit := .iface sentName (.ptr (.agg [.lit (.string t)]))

theorem sentType (u : TypeId) (h : Tryz.prog.typeName? 3 u = some sentName) : u = 142 :=
  typeName_ptr_named (nm := "errors.errorString") (by kernel_rfl) (by kernel_rfl) (by decide) u (h.trans (by decide +kernel))
theorem cellsStr : Tryz.prog.cellsOf 144 = 1 := by kernel_rfl
theorem cellsString : Tryz.prog.cellsOf 9 = 1 := by kernel_rfl

set_option maxRecDepth 100000 in
theorem laid_head {n : String} {text : List UInt8} {r : List (String × DataW Unit)} {W : World} {g : Nat}
    (h : laidMet Tryz.prog ((n, sent text) :: r) W) (hg : Tryz.prog.globalNamed n = some g) (ht : (Tryz.prog.globals[g]?).map (·.type) = some 34) :
    ∃ (a : Addr) (s : ByteArray) (c : Array Value) (t : TypeId), W.cell? ⟨g, 0, none⟩ = some (errV a) ∧ W.cell? a = some (.string s) ∧ s.data.toList = text ∧ W.heap[a.block]? = some (.cells c t (0, 0)) := by
  obtain ⟨ps, ⟨g0, t0, cs0, f0, p0, q0, hg0, ht0, hv0, hd0, _, e0⟩, _, hrows⟩ := h
  obtain rfl := Option.some.inj (hg.symm.trans hg0)
  obtain rfl := Option.some.inj (ht.symm.trans ht0)
  subst e0
  obtain ⟨l0⟩ := cs0
  have ok0 : ∀ u v, l0 = [.iface u v] → Value.okWide Tryz.prog W .any 0 u v := fun u v e => by
    subst e
    exact (hrows g 0 (by simp [MemPlace.row])).2 u v (by simpa using World.var?_cell hg0 hv0 0)
  obtain ⟨a0, s0, rfl, hc0, hs0, hz0, rfl⟩ := errorString_of_trod Tryz.underlying34 sentType Tryz.underlying142 Tryz.underlying144 rfl rfl Tryz.underlying9 cellsStr cellsString hd0 ok0
  obtain ⟨c0, t0, hb0⟩ := (hrows a0.block a0.off (by simp [MemPlace.row])).1
  exact ⟨a0, s0, c0, t0, by simpa using World.var?_cell hg0 hv0 0, hc0, hs0, hb0⟩

theorem laid_each {W : World} : ∀ (L : List (String × DataW Unit)), laidMet Tryz.prog L W → ∀ x ∈ L, x.2 = sent (sentText x.2) → (∃ g, Tryz.prog.globalNamed x.1 = some g ∧ (Tryz.prog.globals[g]?).map (·.type) = some 34) →
    ∃ (g : Nat) (a : Addr) (s : ByteArray) (c : Array Value) (t : TypeId), Tryz.prog.globalNamed x.1 = some g ∧ W.cell? ⟨g, 0, none⟩ = some (errV a) ∧ W.cell? a = some (.string s) ∧ s.data.toList = sentText x.2 ∧ W.heap[a.block]? = some (.cells c t (0, 0))
  | [], _, _, hx, _, _ => by cases hx
  | y :: r, h, x, hx, e, hg => by
    rcases List.mem_cons.1 hx with rfl | hx
    · obtain ⟨g, hg, ht⟩ := hg
      obtain ⟨n, d⟩ := x
      simp only at e hg
      rw [e] at h
      obtain ⟨a, s, c, t, h1, h2, h3, h4⟩ := laid_head h hg ht
      exact ⟨g, a, s, c, t, hg, h1, h2, h3, h4⟩
    · exact laid_each r h.tail x hx e hg

/-- All errors of package api, in the order of their numbers. -/
def allErrs : List (String × DataW Unit) := (Rows.scriptTextsRow.laid.drop 4).take 18
theorem all_names : (allErrs.map fun x => Tryz.prog.globalNamed x.1) = gix.map some := by kernel_rfl
theorem all_types : (gix.all fun g => (Tryz.prog.globals[g]?).map (·.type) == some 34) = true := by kernel_rfl
theorem all_texts : (allErrs.map fun x => sentText x.2).Nodup := by decide +kernel
theorem all_sent : ∀ x ∈ allErrs, x.2 = sent (sentText x.2) := by
  intro x hx
  simp only [allErrs, Rows.scriptTextsRow, List.drop_succ_cons, List.drop_zero, List.take_succ_cons, List.take_zero, List.mem_cons, List.not_mem_nil, or_false] at hx
  rcases hx with rfl | rfl | rfl | rfl | rfl | rfl | rfl | rfl | rfl | rfl | rfl | rfl | rfl | rfl | rfl | rfl | rfl | rfl <;> rfl

theorem addr_head {a : Addr} {W : World} {v : Value} (h : W.cell? a = some v) : a.block < W.heap.size := World.block_lt_of_cell? W a h

theorem err_key {L : List (String × DataW Unit)} {W : World} (h : laidMet Tryz.prog L W) (i : Nat) (hi : i < 18) (hm : ∀ h : i < allErrs.length, allErrs[i] ∈ L) :
    ∃ (a : Addr) (s : ByteArray) (c : Array Value) (t : TypeId), W.cell? ⟨gix.getD i 0, 0, none⟩ = some (errV a) ∧ W.cell? a = some (.string s) ∧ some s.data.toList = (allErrs.map fun x => sentText x.2)[i]? ∧ W.heap[a.block]? = some (.cells c t (0, 0)) := by
  have hl : allErrs.length = 18 := rfl
  have hi' : i < allErrs.length := by omega
  have hgl : i < gix.length := by simpa [gix] using hi
  have hn : (allErrs.map fun x => Tryz.prog.globalNamed x.1)[i]? = (gix.map some)[i]? := by rw [all_names]
  simp only [List.getElem?_map, List.getElem?_eq_getElem hi', List.getElem?_eq_getElem hgl, Option.map_some, Option.some.injEq] at hn
  obtain ⟨g, a, s, c, t, h1, h2, h3, h4, h5⟩ := laid_each L h allErrs[i] (hm hi') (all_sent _ (List.getElem_mem hi')) ⟨gix[i], hn, by simpa using List.all_eq_true.1 all_types gix[i] (List.getElem_mem hgl)⟩
  have h1 : gix[i] = g := Option.some.inj (hn.symm.trans h1)
  refine ⟨a, s, c, t, ?_, h3, ?_, h5⟩
  · rw [List.getD, List.getElem?_eq_getElem hgl, h1]; exact h2
  · rw [h4, List.getElem?_map, List.getElem?_eq_getElem hi']; rfl

/-- WHAT THE LIST OF ALL ERRORS GIVES. -/
theorem errs_of_laid {L : List (String × DataW Unit)} {W : World} (h : laidMetH Tryz.prog L W) (hp : (L.all fun x => x.2.handleName?.isNone) = true) (hm : ∀ x ∈ allErrs, x ∈ L) : ∃ E, ErrEnv W W.heap.size E := by
  rw [MakeChecks.laidMetH_plain _ _ _ hp] at h
  have hl : allErrs.length = 18 := rfl
  have key := fun i hi => err_key (W := W) h i hi (fun hh => hm _ (List.getElem_mem hh))
  let E : Nat → Addr := fun i => if h : i < 18 then (key i h).choose else ⟨0, 0, none⟩
  have hE : ∀ i (h : i < 18), ∃ (s : ByteArray) (c : Array Value) (t : TypeId), W.cell? ⟨gix.getD i 0, 0, none⟩ = some (errV (E i)) ∧ W.cell? (E i) = some (.string s) ∧ some s.data.toList = (allErrs.map fun x => sentText x.2)[i]? ∧ W.heap[(E i).block]? = some (.cells c t (0, 0)) := by
    intro i h
    have := (key i h).choose_spec
    simpa [E, h] using this
  refine ⟨E, fun i hi => ?_, fun i hi => ?_, fun i j hi hj e => ?_⟩
  · obtain ⟨s, c, t, h1, _⟩ := hE i hi
    exact ⟨h1, addr_head h1⟩
  · obtain ⟨s, c, t, _, h2, _, h4⟩ := hE i hi
    exact ⟨addr_head h2, c, t, h4⟩
  · obtain ⟨s, _, _, _, h2, h3, _⟩ := hE i hi
    obtain ⟨s', _, _, _, h2', h3', _⟩ := hE j hj
    rw [e, h2'] at h2
    injection h2 with h2
    injection h2 with h2
    subst h2
    exact (List.getElem?_inj (by simpa [hl] using hi) all_texts).1 (h3.symm.trans h3')

/-- What a part of that list gives: each error that stands in it. -/
theorem err_of_laid {L : List (String × DataW Unit)} {W : World} (h : laidMetH Tryz.prog L W) (hp : (L.all fun x => x.2.handleName?.isNone) = true) (i : Nat) (hi : i < 18) (hm : ∀ h : i < allErrs.length, allErrs[i] ∈ L) :
    ∃ a, ErrAt W W.heap.size (gix.getD i 0) a := by
  rw [MakeChecks.laidMetH_plain _ _ _ hp] at h
  obtain ⟨a, s, c, t, h1, _⟩ := err_key (W := W) h i hi hm
  exact ⟨a, h1, addr_head h1⟩

/-- What the library's part of the list gives. -/
theorem env_of_laid {L : List (String × DataW Unit)} {W : World} {x y : String × DataW Unit} {r : List (String × DataW Unit)} (h : laidMetH Tryz.prog L W) (hp : (L.all fun x => x.2.handleName?.isNone) = true) (hL : L = x :: y :: ("internal/strconv.uint64pow10", Rows.laid_internal_strconv_uint64pow10) :: r)
    (h1 : ("strconv.ErrRange", Rows.laid_strconv_ErrRange) ∈ L) (h2 : ("strconv.ErrSyntax", Rows.laid_strconv_ErrSyntax) ∈ L) (hsh : W.ShapedOpen Tryz.prog) : ScEnv W := by
  rw [MakeChecks.laidMetH_plain _ _ _ hp] at h
  have ht : Lib.TabIs Tryz.prog W "internal/strconv.uint64pow10" .u64 Lib.pow10Tab := by
    have h' := h
    rw [hL] at h'
    have h' := h'.tail.tail
    rw [show (Rows.laid_internal_strconv_uint64pow10 : DataW Unit) = Lib.tabData .u64 Lib.pow10Tab from rfl] at h'
    exact Lib.tabIs_of_head (show Tryz.prog.globalNamed "internal/strconv.uint64pow10" = some 19 by kernel_rfl) (show (Tryz.prog.globals[19]?).map (·.type) = some 129 by kernel_rfl) Tryz.underlying129 Tryz.underlying113 (by kernel_rfl) (by kernel_rfl) h'
  obtain ⟨g1, a1, _, _, _, e1, c1, _⟩ := laid_each L h _ h1 rfl ⟨21, by kernel_rfl, by kernel_rfl⟩
  obtain ⟨g2, a2, _, _, _, e2, c2, _⟩ := laid_each L h _ h2 rfl ⟨20, by kernel_rfl, by kernel_rfl⟩
  obtain rfl : 21 = g1 := Option.some.inj ((show Tryz.prog.globalNamed "strconv.ErrRange" = some 21 by kernel_rfl).symm.trans e1)
  obtain rfl : 20 = g2 := Option.some.inj ((show Tryz.prog.globalNamed "strconv.ErrSyntax" = some 20 by kernel_rfl).symm.trans e2)
  exact ⟨Lib.tabBelow_of_tabIs ht, ⟨_, _, c2⟩, ⟨_, _, c1⟩, max_of_shape W hsh⟩
/-- A start that meets the rows' conditions: what the door's run leaves, and the table whose text is pinned. -/
noncomputable def startW (os : Os) : World :=
  let w0 := World.doorLaid Tryz.prog 2000 os
  { w0 with heap := w0.heap.modify 22 fun
    | .cells _ t frozen => .cells (Lib.firstTab.map fun z => Value.int .u8 z).toArray t frozen
    | o => o }
end Go.Proofs.YtonkdcbmmdhjgaaGreatDoor
