/-
  Several texts in one: Ev, Err, Num, Vars.
-/
import Derived.Test.YthkjlgjbjjjohaaGreatDoorBaseA
import Derived.Deep.QuietTactic
import Derived.BigQuiet
import Derived.Deep.RegionWith
import Derived.LaidEql
import Derived.Stop.Asserts
import Derived.RowKitTokens
/-
  An error's value, and a variable that holds one.
-/
namespace Go.Proofs.YthkjlgjbjjjohaaGreatDoor
open Go.RowKit

/-- The error value at address a. -/
abbrev errV (a : Addr) : Value := .iface 250 (.pointer (some a))
/-- The variable k holds the error at a; both lie below B. -/
def ErrAt (w : World) (B k : Nat) (a : Addr) : Prop := w.cell? ⟨k, 0, none⟩ = some (errV a) ∧ k < B
theorem ErrAt.below {w w' : World} {B B' k : Nat} {a : Addr} (h : ErrAt w B k a) (hb : Below B' w w') (hB : B ≤ B') : ErrAt w' B k a :=
  ⟨(hb.cell (p := ⟨k, 0, none⟩) (Nat.lt_of_lt_of_le h.2 hB)).trans h.1, h.2⟩
theorem ErrAt.grown {w w' : World} {B k : Nat} {a : Addr} {row : Option Nat} (h : ErrAt w B k a) (hb : w.grownBy w' row) (hr : ∀ g, row = some g → B ≤ g) : ErrAt w' B k a :=
  ⟨hb.cell h.1 (by intro e; have := hr k e.symm; have := h.2; omega), h.2⟩
end Go.Proofs.YthkjlgjbjjjohaaGreatDoor
/-
  errors.Is and quoratenum.Num over the errors of package api: what they answer, nothing turned.
-/
namespace Go.Proofs.YthkjlgjbjjjohaaGreatDoor
open Go.RowKit Go.Extern.Stop Go.Stop Go.Extern

/-! ### errors.Is -/
theorem isTypeOf (v : Value) (w : World) : (Extern.ReflectliteType.typeOf #[.iface 250 v]).run Tryz.prog w = .ok (.iface 184 (.agg #[.pointer (some ⟨19, 250, none⟩)])) w := by kernel_rfl
theorem callTypeOf (v : Value) (w : World) : (callFunc 77 #[.iface 250 v]).run Tryz.prog w = .ok (.value (.iface 184 (.agg #[.pointer (some ⟨19, 250, none⟩)]))) w := by
  rw [@run_callFunc_extern Tryz.prog 77 _ Extern.ReflectliteType.typeOf Tryz.func77 (by kernel_rfl) (by kernel_rfl) (by kernel_rfl) (by kernel_rfl), isTypeOf]; rfl
theorem callComparable (w : World) : (callFunc 183 #[.agg #[.pointer (some ⟨19, 250, none⟩)]]).run Tryz.prog w = .ok (.value (.bool true)) w := by kernel_rfl
theorem isMethod (v : Value) (w : World) : (Go.method 387 184 v "Comparable").run Tryz.prog w = .ok (183, v) w := by kernel_rfl
theorem isComp : (Tryz.prog.info? 250).map (·.comparable) = some true := by kernel_rfl
theorem isSize : (Tryz.prog.info? 275).map (·.size) = some 1 := by kernel_rfl
theorem noIsE (v : Value) (xT : TypeId) (w : World) : (Instr.typeAssert (.iface 250 v) xT 186 true).run Tryz.prog w = .ok (.tuple #[.nilIface, .bool false]) w := run_typeAssert_lacksB Tryz.underlying186 (by kernel_rfl) (by kernel_rfl) v xT w
theorem noUnwrapE (v : Value) (xT : TypeId) (w : World) : (Instr.typeAssert (.iface 250 v) xT 189 true).run Tryz.prog w = .ok (.tuple #[.nilIface, .bool false]) w := run_typeAssert_lacksB Tryz.underlying189 (by kernel_rfl) (by kernel_rfl) v xT w
theorem noUnwrapsE (v : Value) (xT : TypeId) (w : World) : (Instr.typeAssert (.iface 250 v) xT 190 true).run Tryz.prog w = .ok (.tuple #[.nilIface, .bool false]) w := run_typeAssert_lacksB Tryz.underlying190 (by kernel_rfl) (by kernel_rfl) v xT w

set_option maxRecDepth 100000 in
theorem is_same (a : Addr) (w : World) :
    Calls Tryz.prog 39 #[errV a, errV a] w fun e w' => e = .returned (.bool true) ∧ w' = w := by
  obtain ⟨i, hi, hcmp⟩ := Option.map_eq_some_iff.1 isComp
  obtain ⟨j, hj, hjs⟩ := Option.map_eq_some_iff.1 isSize
  have tT := callTypeOf
  have cT := callComparable
  have mR := isMethod
  have heq := run_eql_iface_ptr_same (P := Tryz.prog) w a Tryz.underlying51 Tryz.underlying250 hi hcmp hj
  go_enter Tryz.func39, Tryz.ntmps39
  go_wp2
  refine wp_loop_rounds 1 ?_
  rw [rounds_succ]
  go_wp2
  go_ret
  exact ⟨rfl, rfl⟩

set_option maxRecDepth 100000 in
theorem is_other (a b : Addr) (ca cb : Array Value) (ta tb : TypeId) (w : World) (hne : a ≠ b) (ha : w.heap[a.block]? = some (.cells ca ta (0, 0))) (hb : w.heap[b.block]? = some (.cells cb tb (0, 0))) :
    Calls Tryz.prog 39 #[errV a, errV b] w fun e w' => e = .returned (.bool false) ∧ w' = w := by
  obtain ⟨i, hi, hcmp⟩ := Option.map_eq_some_iff.1 isComp
  obtain ⟨j, hj, hjs⟩ := Option.map_eq_some_iff.1 isSize
  have tT := callTypeOf
  have cT := callComparable
  have mR := isMethod
  have nE := noIsE
  have uE := noUnwrapE
  have vE := noUnwrapsE
  have heq := run_eql_iface_ptr_other (P := Tryz.prog) w Tryz.underlying51 Tryz.underlying250 hi hcmp hj (by rw [hjs]; decide) hne ha hb
  clear ha hb
  go_enter Tryz.func39, Tryz.ntmps39
  go_wp2
  refine wp_loop_rounds 1 ?_
  rw [rounds_succ]
  go_wp2
  go_ret
  exact ⟨rfl, rfl⟩

/-! ### The errors of package api, in the order of their numbers -/
def gix : List Nat := [0, 3, 4, 1, 5, 6, 2, 7, 8, 9, 10, 11, 12, 13, 14, 15, 16, 17]

/-- Error number k + 1 is the value of the k-th variable, a pointer to E k; all of it lies below B. -/
structure ErrEnv (w : World) (B : Nat) (E : Nat → Addr) : Prop where
  var : ∀ i, i < 18 → ErrAt w B (gix.getD i 0) (E i)
  row : ∀ i, i < 18 → (E i).block < B ∧ ∃ c t, w.heap[(E i).block]? = some (.cells c t (0, 0))
  inj : ∀ i j, i < 18 → j < 18 → E i = E j → i = j
theorem ErrEnv.below {w w' : World} {B B' : Nat} {E : Nat → Addr} (h : ErrEnv w B E) (hb : Below B' w w') (hB : B ≤ B') : ErrEnv w' B E :=
  ⟨fun i hi => (h.var i hi).below hb hB, fun i hi => ⟨(h.row i hi).1, by obtain ⟨c, t, hc⟩ := (h.row i hi).2; exact ⟨c, t, (hb.block _ (Nat.lt_of_lt_of_le (h.row i hi).1 hB)).trans hc⟩⟩, h.inj⟩
theorem ErrEnv.grown {w w' : World} {B : Nat} {E : Nat → Addr} {row : Option Nat} (h : ErrEnv w B E) (hb : w.grownBy w' row) (hr : ∀ g, row = some g → B ≤ g) : ErrEnv w' B E :=
  ⟨fun i hi => (h.var i hi).grown hb hr, fun i hi => ⟨(h.row i hi).1, by
    obtain ⟨c, t, hc⟩ := (h.row i hi).2
    exact ⟨c, t, (hb.block _ (Array.getElem?_eq_some_iff.1 hc).1 (by intro e; have := hr _ e.symm; have := (h.row i hi).1; omega)).trans hc⟩⟩, h.inj⟩
theorem ErrEnv.alloc {w : World} {B : Nat} {E : Nat → Addr} (h : ErrEnv w B E) (o : Obj) : ErrEnv (w.alloc o) B E := h.grown (World.grownBy_alloc w o none) (fun _ e => by simp at e)

/-- What stands in a variable of type error: nil, or the error of that number. -/
def evOf (E : Nat → Addr) : Nat → Value
  | 0 => .nilIface
  | k + 1 => errV (E k)

set_option maxHeartbeats 400000 in
theorem num_nil (w : World) : Calls Tryz.prog 18 #[.nilIface] w fun e w' => e = .returned (.int .i64 0) ∧ w = w' := by
  go_enter Tryz.func18, Tryz.ntmps18
  go_wp2
  go_ret
  exact ⟨rfl, rfl⟩

theorem list18 (f : Nat → Value) (i : Nat) (h : i < 18) : (#[f 0, f 1, f 2, f 3, f 4, f 5, f 6, f 7, f 8, f 9, f 10, f 11, f 12, f 13, f 14, f 15, f 16, f 17] : Array Value)[i]? = some (f i) := by
  have : i = 0 ∨ i = 1 ∨ i = 2 ∨ i = 3 ∨ i = 4 ∨ i = 5 ∨ i = 6 ∨ i = 7 ∨ i = 8 ∨ i = 9 ∨ i = 10 ∨ i = 11 ∨ i = 12 ∨ i = 13 ∨ i = 14 ∨ i = 15 ∨ i = 16 ∨ i = 17 := by omega
  rcases this with rfl | rfl | rfl | rfl | rfl | rfl | rfl | rfl | rfl | rfl | rfl | rfl | rfl | rfl | rfl | rfl | rfl | rfl <;> rfl

end Go.Proofs.YthkjlgjbjjjohaaGreatDoor
/-
  quoratenum.Num: the number of an error of package api; nothing that was there is turned.
-/

namespace Go.Proofs.YthkjlgjbjjjohaaGreatDoor
open Go.RowKit

set_option maxHeartbeats 1000000 in
theorem num_err (w : World) (B : Nat) (E : Nat → Addr) (k : Nat) (hk : k < 18) (he : ErrEnv w B E) : Calls Tryz.prog 18 #[errV (E k)] w fun e w' => e = .returned (.int .i64 ((k : Int) + 1)) ∧ w.grownBy w' none := by
  have v0 := (he.var 0 (by omega)).1
  have v1 := (he.var 1 (by omega)).1
  have v2 := (he.var 2 (by omega)).1
  have v3 := (he.var 3 (by omega)).1
  have v4 := (he.var 4 (by omega)).1
  have v5 := (he.var 5 (by omega)).1
  have v6 := (he.var 6 (by omega)).1
  have v7 := (he.var 7 (by omega)).1
  have v8 := (he.var 8 (by omega)).1
  have v9 := (he.var 9 (by omega)).1
  have v10 := (he.var 10 (by omega)).1
  have v11 := (he.var 11 (by omega)).1
  have v12 := (he.var 12 (by omega)).1
  have v13 := (he.var 13 (by omega)).1
  have v14 := (he.var 14 (by omega)).1
  have v15 := (he.var 15 (by omega)).1
  have v16 := (he.var 16 (by omega)).1
  have v17 := (he.var 17 (by omega)).1
  simp only [gix, List.getD_cons_zero, List.getD_cons_succ] at v0 v1 v2 v3 v4 v5 v6 v7 v8 v9 v10 v11 v12 v13 v14 v15 v16 v17
  go_enter Tryz.func18, Tryz.ntmps18
  go_wp2_with fail
  clear v0 v1 v2 v3 v4 v5 v6 v7 v8 v9 v10 v11 v12 v13 v14 v15 v16 v17
  have hg := World.grownBy_alloc w (.cells #[errV (E 0), errV (E 1), errV (E 2), errV (E 3), errV (E 4), errV (E 5), errV (E 6), errV (E 7), errV (E 8), errV (E 9), errV (E 10), errV (E 11), errV (E 12), errV (E 13), errV (E 14), errV (E 15), errV (E 16), errV (E 17)] 51) none
  have hb := Blk.new w 51 #[errV (E 0), errV (E 1), errV (E 2), errV (E 3), errV (E 4), errV (E 5), errV (E 6), errV (E 7), errV (E 8), errV (E 9), errV (E 10), errV (E 11), errV (E 12), errV (E 13), errV (E 14), errV (E 15), errV (E 16), errV (E 17)]
  have he1 := he.alloc (.cells #[errV (E 0), errV (E 1), errV (E 2), errV (E 3), errV (E 4), errV (E 5), errV (E 6), errV (E 7), errV (E 8), errV (E 9), errV (E 10), errV (E 11), errV (E 12), errV (E 13), errV (E 14), errV (E 15), errV (E 16), errV (E 17)] 51)
  generalize w.alloc (.cells #[errV (E 0), errV (E 1), errV (E 2), errV (E 3), errV (E 4), errV (E 5), errV (E 6), errV (E 7), errV (E 8), errV (E 9), errV (E 10), errV (E 11), errV (E 12), errV (E 13), errV (E 14), errV (E 15), errV (E 16), errV (E 17)] 51) = W at *
  have hcell : ∀ i, i < 18 → W.cell? ⟨w.heap.size, i, none⟩ = some (errV (E i)) := fun i hi => (hb.cell i).trans (list18 (fun i => errV (E i)) i hi)
  have Hcell := Lib.hid hcell
  clear hcell hb
  go_loop [29] (fun t => ∃ i : Nat, i ≤ k ∧ t = .int .i64 (i : Int)) (fun t => 18 - (intOf t).toNat)
  case atStart => exact ⟨0, Nat.zero_le _, rfl⟩
  case round =>
    obtain ⟨i, hi, rfl⟩ := hrel
    have hc := Hcell.out i (by omega)
    have hlt : decide ((i : Int) < 18) = true := by simp; omega
    by_cases hik : i = k
    · subst hik
      go_wp2_with (go_at_call 39; refine (is_same (E i) _).mono ?_; rintro e w' ⟨rfl, rfl⟩)
      go_ret
      exact ⟨rfl, hg⟩
    · have hne : E k ≠ E i := fun e => hik (he.inj k i hk (by omega) e).symm
      obtain ⟨ca, ta, ha⟩ := (he1.row k hk).2
      obtain ⟨cb, tb, hb⟩ := (he1.row i (by omega)).2
      go_wp2_with (go_at_call 39; refine (is_other (E k) (E i) ca cb ta tb _ hne ha hb).mono ?_; rintro e w' ⟨rfl, rfl⟩)
      go_round
      case rel => exact ⟨i + 1, by omega, by go_num⟩
      case measure => simp [intOf]; omega
end Go.Proofs.YthkjlgjbjjjohaaGreatDoor
/-
  Some of package api's errors, by their numbers.
-/

namespace Go.Proofs.YthkjlgjbjjjohaaGreatDoor
open Go.RowKit

/-- Each variable of the list holds its error. -/
structure ErrVars (S : List Nat) (w : World) (B : Nat) (E : Nat → Addr) : Prop where
  var : ∀ i, i ∈ S → ErrAt w B (gix.getD i 0) (E i)
theorem ErrVars.below {S : List Nat} {w w' : World} {B B' : Nat} {E : Nat → Addr} (h : ErrVars S w B E) (hb : Below B' w w') (hB : B ≤ B') : ErrVars S w' B E := ⟨fun i hi => (h.var i hi).below hb hB⟩
theorem ErrVars.grown {S : List Nat} {w w' : World} {B : Nat} {E : Nat → Addr} {row : Option Nat} (h : ErrVars S w B E) (hb : w.grownBy w' row) (hr : ∀ g, row = some g → B ≤ g) : ErrVars S w' B E := ⟨fun i hi => (h.var i hi).grown hb hr⟩
theorem ErrVars.sub {S T : List Nat} {w : World} {B : Nat} {E : Nat → Addr} (h : ErrVars S w B E) (hs : ∀ i ∈ T, i ∈ S) : ErrVars T w B E := ⟨fun i hi => h.var i (hs i hi)⟩
theorem ErrEnv.vars {w : World} {B : Nat} {E : Nat → Addr} (h : ErrEnv w B E) (S : List Nat) (hs : ∀ i ∈ S, i < 18) : ErrVars S w B E := ⟨fun i hi => h.var i (hs i hi)⟩
theorem ErrVars.kept {S : List Nat} {w w' : World} {F : Nat → Prop} {B : Nat} {E : Nat → Addr} (h : ErrVars S w B E) (hk : Kept F w w') (hF : ∀ k, F k → B ≤ k) : ErrVars S w' B E :=
  ⟨fun i hi => ⟨hk.cell (h.var i hi).1 (fun hf => absurd (hF _ hf) (by have := (h.var i hi).2; simp only; omega)), (h.var i hi).2⟩⟩
end Go.Proofs.YthkjlgjbjjjohaaGreatDoor
