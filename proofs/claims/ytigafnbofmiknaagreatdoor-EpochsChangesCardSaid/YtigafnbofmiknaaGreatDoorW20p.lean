/- Err, ChY, Num, ChZ, Ks -/
import Derived.Test.YtigafnbofmiknaaGreatDoorW20e
import Derived.LaidEql
import Derived.Stop.Asserts
import Derived.RowKitTokens
import Derived.Test.YtigafnbofmiknaaGreatDoorW20k
import Derived.Test.YtigafnbofmiknaaGreatDoorW20h
import Derived.Test.YtigafnbofmiknaaGreatDoorW20o
namespace Go.Proofs.YtigafnbofmiknaaGreatDoor
set_option maxRecDepth 100000
set_option maxHeartbeats 10000000
open Go.RowKit
section
open Go.RowKit Go.Extern.Stop Go.Stop Go.Extern
/-! ### errors.Is -/
theorem isTypeOf (v : Value) (w : World) : (Extern.ReflectliteType.typeOf #[.iface 234 v]).run Tryz.prog w = .ok (.iface 117 (.agg #[.pointer (some ⟨19, 234, none⟩)])) w := by kernel_rfl
theorem callTypeOf (v : Value) (w : World) : (callFunc 33 #[.iface 234 v]).run Tryz.prog w = .ok (.value (.iface 117 (.agg #[.pointer (some ⟨19, 234, none⟩)]))) w := by
 rw [@run_callFunc_extern Tryz.prog 33 _ Extern.ReflectliteType.typeOf Tryz.func33 (by kernel_rfl) (by kernel_rfl) (by kernel_rfl) (by kernel_rfl), isTypeOf]; rfl
theorem callComparable (w : World) : (callFunc 171 #[.agg #[.pointer (some ⟨19, 234, none⟩)]]).run Tryz.prog w = .ok (.value (.bool true)) w := by kernel_rfl
theorem isMethod (v : Value) (w : World) : (Go.method 372 117 v "Comparable").run Tryz.prog w = .ok (171, v) w := by kernel_rfl
theorem isComp : (Tryz.prog.info? 234).map (·.comparable) = some true := by kernel_rfl
theorem isSize : (Tryz.prog.info? 260).map (·.size) = some 1 := by kernel_rfl
theorem noIsE (v : Value) (xT : TypeId) (w : World) : (Instr.typeAssert (.iface 234 v) xT 119 true).run Tryz.prog w = .ok (.tuple #[.nilIface, .bool false]) w := run_typeAssert_lacksB Tryz.underlying119 (by kernel_rfl) (by kernel_rfl) v xT w
theorem noUnwrapE (v : Value) (xT : TypeId) (w : World) : (Instr.typeAssert (.iface 234 v) xT 122 true).run Tryz.prog w = .ok (.tuple #[.nilIface, .bool false]) w := run_typeAssert_lacksB Tryz.underlying122 (by kernel_rfl) (by kernel_rfl) v xT w
theorem noUnwrapsE (v : Value) (xT : TypeId) (w : World) : (Instr.typeAssert (.iface 234 v) xT 124 true).run Tryz.prog w = .ok (.tuple #[.nilIface, .bool false]) w := run_typeAssert_lacksB Tryz.underlying124 (by kernel_rfl) (by kernel_rfl) v xT w
theorem is_same (a : Addr) (w : World) :
    Calls Tryz.prog 18 #[errV a, errV a] w fun e w' => e = .returned (.bool true) /\ w' = w := by
 obtain ⟨i, hi, hcmp⟩ := Option.map_eq_some_iff.1 isComp
 obtain ⟨j, hj, hjs⟩ := Option.map_eq_some_iff.1 isSize
 have tT := callTypeOf
 have cT := callComparable
 have mR := isMethod
 have heq := run_eql_iface_ptr_same (P := Tryz.prog) w a Tryz.underlying40 Tryz.underlying234 hi hcmp hj
 go_enter Tryz.func18, Tryz.ntmps18
 go_wp2
 refine wp_loop_rounds 1 ?_
 rw [rounds_succ]
 go_wp2
 go_ret
 exact ⟨rfl, rfl⟩
theorem is_other (a b : Addr) (ca cb : Array Value) (ta tb : TypeId) (w : World) (hne : a ≠ b) (ha : w.heap[a.block]? = some (.cells ca ta (0, 0))) (hb : w.heap[b.block]? = some (.cells cb tb (0, 0))) :
    Calls Tryz.prog 18 #[errV a, errV b] w fun e w' => e = .returned (.bool false) /\ w' = w := by
 obtain ⟨i, hi, hcmp⟩ := Option.map_eq_some_iff.1 isComp
 obtain ⟨j, hj, hjs⟩ := Option.map_eq_some_iff.1 isSize
 have tT := callTypeOf
 have cT := callComparable
 have mR := isMethod
 have nE := noIsE
 have uE := noUnwrapE
 have vE := noUnwrapsE
 have heq := run_eql_iface_ptr_other (P := Tryz.prog) w Tryz.underlying40 Tryz.underlying234 hi hcmp hj (by rw [hjs]; decide) hne ha hb
 clear ha hb
 go_enter Tryz.func18, Tryz.ntmps18
 go_wp2
 refine wp_loop_rounds 1 ?_
 rw [rounds_succ]
 go_wp2
 go_ret
 exact ⟨rfl, rfl⟩
/-! ### The errors of package api, in the order of their numbers -/
def gix : List Nat := [0, 1, 2, 3, 4, 5, 6, 7, 8, 9, 10, 11, 12, 13, 14, 15, 16, 17]
structure ErrEnv (w : World) (B : Nat) (E : Nat -> Addr) : Prop where
 var : ∀ i, i < 18 -> ErrAt w B (gix.getD i 0) (E i)
 row : ∀ i, i < 18 -> (E i).block < B /\ ∃ c t, w.heap[(E i).block]? = some (.cells c t (0, 0))
 inj : ∀ i j, i < 18 -> j < 18 -> E i = E j -> i = j
theorem ErrEnv.below {w w' : World} {B B' : Nat} {E : Nat -> Addr} (h : ErrEnv w B E) (hb : Below B' w w') (hB : B <= B') : ErrEnv w' B E :=
 ⟨fun i hi => (h.var i hi).below hb hB, fun i hi => ⟨(h.row i hi).1, by obtain ⟨c, t, hc⟩ := (h.row i hi).2; exact ⟨c, t, (hb.block _ (Nat.lt_of_lt_of_le (h.row i hi).1 hB)).trans hc⟩⟩, h.inj⟩
theorem ErrEnv.grown {w w' : World} {B : Nat} {E : Nat -> Addr} {row : Option Nat} (h : ErrEnv w B E) (hb : w.grownBy w' row) (hr : ∀ g, row = some g -> B <= g) : ErrEnv w' B E :=
 ⟨fun i hi => (h.var i hi).grown hb hr, fun i hi => ⟨(h.row i hi).1, by
  obtain ⟨c, t, hc⟩ := (h.row i hi).2
  exact ⟨c, t, (hb.block _ (Array.getElem?_eq_some_iff.1 hc).1 (by intro e; have := hr _ e.symm; have := (h.row i hi).1; omega)).trans hc⟩⟩, h.inj⟩
theorem ErrEnv.alloc {w : World} {B : Nat} {E : Nat -> Addr} (h : ErrEnv w B E) (o : Obj) : ErrEnv (w.alloc o) B E := h.grown (World.grownBy_alloc w o none) (fun _ e => by simp at e)
theorem num_nil (w : World) : Calls Tryz.prog 7 #[.nilIface] w fun e w' => e = .returned (.int .i64 0) /\ w = w' := by
 go_enter Tryz.func7, Tryz.ntmps7
 go_wp2
 go_ret
 exact ⟨rfl, rfl⟩
theorem list18 (f : Nat -> Value) (i : Nat) (h : i < 18) : (#[f 0, f 1, f 2, f 3, f 4, f 5, f 6, f 7, f 8, f 9, f 10, f 11, f 12, f 13, f 14, f 15, f 16, f 17] : Array Value)[i]? = some (f i) := by
 have : i = 0 \/ i = 1 \/ i = 2 \/ i = 3 \/ i = 4 \/ i = 5 \/ i = 6 \/ i = 7 \/ i = 8 \/ i = 9 \/ i = 10 \/ i = 11 \/ i = 12 \/ i = 13 \/ i = 14 \/ i = 15 \/ i = 16 \/ i = 17 := by omega
 rcases this with rfl | rfl | rfl | rfl | rfl | rfl | rfl | rfl | rfl | rfl | rfl | rfl | rfl | rfl | rfl | rfl | rfl | rfl <;> rfl
end
section
open Go.RowKit
end
section
theorem num_err (w : World) (B : Nat) (E : Nat -> Addr) (k : Nat) (hk : k < 18) (he : ErrEnv w B E) : Calls Tryz.prog 7 #[errV (E k)] w fun e w' => e = .returned (.int .i64 ((k : Int) + 1)) /\ w.grownBy w' none := by
 have v0 := (he.var 0 (by omega)).1
 have v1 := (he.var 1 (by omega)).1
 have v2 := (he.var 2 (by omega)).1
 have v3 := (he.var 3 (by omega)).1
 have v4 := (he.var 4 (by omega)).1
 have v5 := (he.var 5 (by omega)).1
 have v6 := (he.var 6 (by omega)).1
 have v7 := (he.var 7 (by omega)).1
 have v8 := (he.var 8 (by omega)).1
 have v9 := (he.var 9 (by omega)).1
 have v10 := (he.var 10 (by omega)).1
 have v11 := (he.var 11 (by omega)).1
 have v12 := (he.var 12 (by omega)).1
 have v13 := (he.var 13 (by omega)).1
 have v14 := (he.var 14 (by omega)).1
 have v15 := (he.var 15 (by omega)).1
 have v16 := (he.var 16 (by omega)).1
 have v17 := (he.var 17 (by omega)).1
 simp only [gix, List.getD_cons_zero, List.getD_cons_succ] at v0 v1 v2 v3 v4 v5 v6 v7 v8 v9 v10 v11 v12 v13 v14 v15 v16 v17
 go_enter Tryz.func7, Tryz.ntmps7
 go_wp2_with fail
 clear v0 v1 v2 v3 v4 v5 v6 v7 v8 v9 v10 v11 v12 v13 v14 v15 v16 v17
 have hg := World.grownBy_alloc w (.cells #[errV (E 0), errV (E 1), errV (E 2), errV (E 3), errV (E 4), errV (E 5), errV (E 6), errV (E 7), errV (E 8), errV (E 9), errV (E 10), errV (E 11), errV (E 12), errV (E 13), errV (E 14), errV (E 15), errV (E 16), errV (E 17)] 40) none
 have hb := Blk.new w 40 #[errV (E 0), errV (E 1), errV (E 2), errV (E 3), errV (E 4), errV (E 5), errV (E 6), errV (E 7), errV (E 8), errV (E 9), errV (E 10), errV (E 11), errV (E 12), errV (E 13), errV (E 14), errV (E 15), errV (E 16), errV (E 17)]
 have he1 := he.alloc (.cells #[errV (E 0), errV (E 1), errV (E 2), errV (E 3), errV (E 4), errV (E 5), errV (E 6), errV (E 7), errV (E 8), errV (E 9), errV (E 10), errV (E 11), errV (E 12), errV (E 13), errV (E 14), errV (E 15), errV (E 16), errV (E 17)] 40)
 generalize w.alloc (.cells #[errV (E 0), errV (E 1), errV (E 2), errV (E 3), errV (E 4), errV (E 5), errV (E 6), errV (E 7), errV (E 8), errV (E 9), errV (E 10), errV (E 11), errV (E 12), errV (E 13), errV (E 14), errV (E 15), errV (E 16), errV (E 17)] 40) = W at *
 have hcell : ∀ i, i < 18 -> W.cell? ⟨w.heap.size, i, none⟩ = some (errV (E i)) := fun i hi => (hb.cell i).trans (list18 (fun i => errV (E i)) i hi)
 have Hcell := hQ_ hcell
 clear hcell hb
 go_loop [29] (fun t => ∃ i : Nat, i <= k /\ t = .int .i64 (i : Int)) (fun t => 18 - (intOf t).toNat)
 case atStart => exact ⟨0, Nat.zero_le _, rfl⟩
 case round =>
  obtain ⟨i, hi, rfl⟩ := hrel
  have hc := Hcell.out i (by omega)
  have hlt : decide ((i : Int) < 18) = true := by simp; omega
  by_cases hik : i = k
  · subst hik
    go_wp2_with (go_at_call 18; refine (is_same (E i) _).mono ?_; rintro e w' ⟨rfl, rfl⟩)
    go_ret
    exact ⟨rfl, hg⟩
  · have hne : E k ≠ E i := fun e => hik (he.inj k i hk (by omega) e).symm
    obtain ⟨ca, ta, ha⟩ := (he1.row k hk).2
    obtain ⟨cb, tb, hb⟩ := (he1.row i (by omega)).2
    go_wp2_with (go_at_call 18; refine (is_other (E k) (E i) ca cb ta tb _ hne ha hb).mono ?_; rintro e w' ⟨rfl, rfl⟩)
    go_round
    case rel => exact ⟨i + 1, by omega, by go_num⟩
    case measure => simp [intOf]; omega
end
section
open Go.RowKit
end
section
structure SigAt (w : World) (seed : List Int) (lf : Int) (i : Nat) (d : List Int) (b p : Nat) : Prop where
 chains : DigsAt w b 0 (sigsS seed lf d)
 path : DigsAt w p 0 (upto (wayC (leavesC seed) i) 5)
 bthere : w.there b 0 1088
 pthere : w.there p 0 80
 apart : b ≠ p
theorem SigAt.to {w w' : World} {seed d : List Int} {lf : Int} {i b p : Nat} {row : Option Nat} (h : SigAt w seed lf i d b p) (hg : w.grownBy w' row) (h1 : some b ≠ row) (h2 : some p ≠ row) : SigAt w' seed lf i d b p :=
 ⟨fun j hj => zda (h.chains j hj) hg h1, fun j hj => zda (h.path j hj) hg h2, zd2 h.bthere hg h1, zd2 h.pthere hg h2, h.apart⟩
theorem SigAt.grown {w w' : World} {seed d : List Int} {lf : Int} {i b p : Nat} (h : SigAt w seed lf i d b p) (hg : w.grownBy w' none) : SigAt w' seed lf i d b p := h.to hg (by simp) (by simp)
end
end Go.Proofs.YtigafnbofmiknaaGreatDoor
