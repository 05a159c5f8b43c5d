/-
  A region that draws its order and holds calls which only make new memory: one walk in the order of the text serves every order. The class of worlds: those that have grown from the one at the region's head.
-/
import Derived.Test.YtonkdcbmmdhjgaaGreatDoorBase
import Derived.BigQuiet
namespace Go.Proofs.YtonkdcbmmdhjgaaGreatDoor
open Go.RowKit

def Gr (w : World) : Type := { z : World // w.grownBy z none }
instance (w : World) : Nonempty (Gr w) := ⟨⟨w, World.grownBy.refl w none⟩⟩
theorem Gr.cell {w : World} {a : Addr} {v : Value} (h : w.cell? a = some v) : ∀ z : Gr w, z.1.cell? a = some v := fun z => z.2.cell h (by simp)
theorem wp_region_grown {P : Program} {id : Nat} {Q : Exit → Act → World → Prop} {a : Act} {w : World} {l : List Oper} (hm : P.follows .mixedOrders = true) (hB : Region.lexB .any l.toArray = true)
    (h : wpQuiet P l.toArray (fun w' => ∃ z : Gr w, w' = z.1) (fun a' => ∀ w', (∃ z : Gr w, w' = z.1) → Q .normal a' w') l a) : (Code.region id l.toArray true).wp P Q a w :=
  wp_region_quiet (C := fun w' => ∃ z : Gr w, w' = z.1) hm hB ⟨⟨w.drew, grown_drew (World.grownBy.refl w none)⟩, rfl⟩ (by simpa using h)
theorem Calls.grown {P : Program} {f : FuncId} {args : Array Value} {w : World} (z : Gr w) {v : Value} (h : Calls P f args z.1 fun e w' => e = .returned v ∧ z.1.grownBy w' none) :
    Calls P f args z.1 fun e w'' => e = .returned v ∧ ∃ z' : Gr w, w'' = z'.1 :=
  h.mono fun _ w' ⟨he, hk⟩ => ⟨he, ⟨w', grown_trans z.2 hk⟩, rfl⟩
/-- A row by value, in such a region: its value in every world of the class. -/
theorem wpQuiet_load_row {P : Program} {ops : Array Oper} {C : World → Prop} {Q : Act → Prop} {a : Act} {o : Oper} {rest : List Oper} (ty : TypeId) (x : Operand) (p : Addr) (v : Value) (hw : Region.wanted o (yielded ops a.tmps) = true) (ho : o.op = .load ty x) (hx : a.eval x = .pointer (some p))
    (hr : ∀ V, C V → (Instr.loadAt ty (.pointer (some p))).run P V = .ok v V) (h : wpQuiet P ops C Q rest (a.put o.dst v)) : wpQuiet P ops C Q (o :: rest) a := by
  refine wpQuiet_step fun K hK => ?_
  rw [if_pos hw]
  refine ⟨v, fun w hC => ?_, hK _ h⟩
  unfold Oper.quietAt execOp
  simp only [ho, hx, Sem.run_bind, hr w hC, Result.andThen_ok, Sem.run_pure]
  exact ⟨rfl, rfl⟩
end Go.Proofs.YtonkdcbmmdhjgaaGreatDoor
