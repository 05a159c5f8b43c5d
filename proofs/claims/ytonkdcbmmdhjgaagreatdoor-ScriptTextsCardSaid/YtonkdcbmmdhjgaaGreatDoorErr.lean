/-
  errors.Is and quoratenum.Num over the errors of package api: what they answer, nothing turned.
-/
import Derived.Test.YtonkdcbmmdhjgaaGreatDoorEv
import Derived.LaidEql
import Derived.Stop.Asserts
import Derived.RowKitTokens
namespace Go.Proofs.YtonkdcbmmdhjgaaGreatDoor
open Go.RowKit Go.Extern.Stop Go.Stop Go.Extern

/-! ### errors.Is -/
theorem isTypeOf (v : Value) (w : World) : (Extern.ReflectliteType.typeOf #[.iface 142 v]).run Tryz.prog w = .ok (.iface 92 (.agg #[.pointer (some ⟨26, 142, none⟩)])) w := by kernel_rfl
theorem callTypeOf (v : Value) (w : World) : (callFunc 29 #[.iface 142 v]).run Tryz.prog w = .ok (.value (.iface 92 (.agg #[.pointer (some ⟨26, 142, none⟩)]))) w := by
  rw [@run_callFunc_extern Tryz.prog 29 _ Extern.ReflectliteType.typeOf Tryz.func29 (by kernel_rfl) (by kernel_rfl) (by kernel_rfl) (by kernel_rfl), isTypeOf]; rfl
theorem callComparable (w : World) : (callFunc 108 #[.agg #[.pointer (some ⟨26, 142, none⟩)]]).run Tryz.prog w = .ok (.value (.bool true)) w := by kernel_rfl
theorem isMethod (v : Value) (w : World) : (Go.method 283 92 v "Comparable").run Tryz.prog w = .ok (108, v) w := by kernel_rfl
theorem isComp : (Tryz.prog.info? 142).map (·.comparable) = some true := by kernel_rfl
theorem isSize : (Tryz.prog.info? 144).map (·.size) = some 1 := by kernel_rfl
theorem noIsE (v : Value) (xT : TypeId) (w : World) : (Instr.typeAssert (.iface 142 v) xT 94 true).run Tryz.prog w = .ok (.tuple #[.nilIface, .bool false]) w := run_typeAssert_lacksB Tryz.underlying94 (by kernel_rfl) (by kernel_rfl) v xT w
theorem noUnwrapE (v : Value) (xT : TypeId) (w : World) : (Instr.typeAssert (.iface 142 v) xT 97 true).run Tryz.prog w = .ok (.tuple #[.nilIface, .bool false]) w := run_typeAssert_lacksB Tryz.underlying97 (by kernel_rfl) (by kernel_rfl) v xT w
theorem noUnwrapsE (v : Value) (xT : TypeId) (w : World) : (Instr.typeAssert (.iface 142 v) xT 99 true).run Tryz.prog w = .ok (.tuple #[.nilIface, .bool false]) w := run_typeAssert_lacksB Tryz.underlying99 (by kernel_rfl) (by kernel_rfl) v xT w

set_option maxRecDepth 100000 in
theorem is_same (a : Addr) (w : World) :
    Calls Tryz.prog 15 #[errV a, errV a] w fun e w' => e = .returned (.bool true) ∧ w' = w := by
  obtain ⟨i, hi, hcmp⟩ := Option.map_eq_some_iff.1 isComp
  obtain ⟨j, hj, hjs⟩ := Option.map_eq_some_iff.1 isSize
  have tT := callTypeOf
  have cT := callComparable
  have mR := isMethod
  have heq := run_eql_iface_ptr_same (P := Tryz.prog) w a Tryz.underlying34 Tryz.underlying142 hi hcmp hj
  go_enter Tryz.func15, Tryz.ntmps15
  go_wp2
  refine wp_loop_rounds 1 ?_
  rw [rounds_succ]
  go_wp2
  go_ret
  exact ⟨rfl, rfl⟩

set_option maxRecDepth 100000 in
theorem is_other (a b : Addr) (ca cb : Array Value) (ta tb : TypeId) (w : World) (hne : a ≠ b) (ha : w.heap[a.block]? = some (.cells ca ta (0, 0))) (hb : w.heap[b.block]? = some (.cells cb tb (0, 0))) :
    Calls Tryz.prog 15 #[errV a, errV b] w fun e w' => e = .returned (.bool false) ∧ w' = w := by
  obtain ⟨i, hi, hcmp⟩ := Option.map_eq_some_iff.1 isComp
  obtain ⟨j, hj, hjs⟩ := Option.map_eq_some_iff.1 isSize
  have tT := callTypeOf
  have cT := callComparable
  have mR := isMethod
  have nE := noIsE
  have uE := noUnwrapE
  have vE := noUnwrapsE
  have heq := run_eql_iface_ptr_other (P := Tryz.prog) w Tryz.underlying34 Tryz.underlying142 hi hcmp hj (by rw [hjs]; decide) hne ha hb
  clear ha hb
  go_enter Tryz.func15, Tryz.ntmps15
  go_wp2
  refine wp_loop_rounds 1 ?_
  rw [rounds_succ]
  go_wp2
  go_ret
  exact ⟨rfl, rfl⟩

/-! ### The errors of package api, in the order of their numbers -/
def gix : List Nat := [1, 2, 3, 0, 4, 5, 6, 7, 8, 9, 10, 11, 12, 13, 14, 15, 16, 17]

/-- Error number k + 1 is the value of the k-th variable, a pointer to E k; all of it lies below B. -/
structure ErrEnv (w : World) (B : Nat) (E : Nat → Addr) : Prop where
  var : ∀ i, i < 18 → ErrAt w B (gix.getD i 0) (E i)
  row : ∀ i, i < 18 → (E i).block < B ∧ ∃ c t, w.heap[(E i).block]? = some (.cells c t (0, 0))
  inj : ∀ i j, i < 18 → j < 18 → E i = E j → i = j
theorem ErrEnv.below {w w' : World} {B B' : Nat} {E : Nat → Addr} (h : ErrEnv w B E) (hb : Below B' w w') (hB : B ≤ B') : ErrEnv w' B E :=
  ⟨fun i hi => (h.var i hi).below hb hB, fun i hi => ⟨(h.row i hi).1, by obtain ⟨c, t, hc⟩ := (h.row i hi).2; exact ⟨c, t, (hb.block _ (Nat.lt_of_lt_of_le (h.row i hi).1 hB)).trans hc⟩⟩, h.inj⟩
theorem ErrEnv.grown {w w' : World} {B : Nat} {E : Nat → Addr} {row : Option Nat} (h : ErrEnv w B E) (hb : w.grownBy w' row) (hr : ∀ g, row = some g → B ≤ g) : ErrEnv w' B E :=
  ⟨fun i hi => (h.var i hi).grown hb hr, fun i hi => ⟨(h.row i hi).1, by
    obtain ⟨c, t, hc⟩ := (h.row i hi).2
    exact ⟨c, t, (hb.block _ (Array.getElem?_eq_some_iff.1 hc).1 (by intro e; have := hr _ e.symm; have := (h.row i hi).1; omega)).trans hc⟩⟩, h.inj⟩
theorem ErrEnv.alloc {w : World} {B : Nat} {E : Nat → Addr} (h : ErrEnv w B E) (o : Obj) : ErrEnv (w.alloc o) B E := h.grown (World.grownBy_alloc w o none) (fun _ e => by simp at e)

set_option maxHeartbeats 400000 in
theorem num_nil (w : World) : Calls Tryz.prog 8 #[.nilIface] w fun e w' => e = .returned (.int .i64 0) ∧ w = w' := by
  go_enter Tryz.func8, Tryz.ntmps8
  go_wp2
  go_ret
  exact ⟨rfl, rfl⟩

theorem list18 (f : Nat → Value) (i : Nat) (h : i < 18) : (#[f 0, f 1, f 2, f 3, f 4, f 5, f 6, f 7, f 8, f 9, f 10, f 11, f 12, f 13, f 14, f 15, f 16, f 17] : Array Value)[i]? = some (f i) := by
  have : i = 0 ∨ i = 1 ∨ i = 2 ∨ i = 3 ∨ i = 4 ∨ i = 5 ∨ i = 6 ∨ i = 7 ∨ i = 8 ∨ i = 9 ∨ i = 10 ∨ i = 11 ∨ i = 12 ∨ i = 13 ∨ i = 14 ∨ i = 15 ∨ i = 16 ∨ i = 17 := by omega
  rcases this with rfl | rfl | rfl | rfl | rfl | rfl | rfl | rfl | rfl | rfl | rfl | rfl | rfl | rfl | rfl | rfl | rfl | rfl <;> rfl

end Go.Proofs.YtonkdcbmmdhjgaaGreatDoor
