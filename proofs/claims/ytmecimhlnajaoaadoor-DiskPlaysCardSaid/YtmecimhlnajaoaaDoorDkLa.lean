/-
  DiskLast (pure), and laws on whole rows loaded under a guard and compared.
-/
import Derived.Test.YtmecimhlnajaoaaDoorDkA
import Derived.Test.YtmecimhlnajaoaaDoorArrEq
import Derived.Test.YtmecimhlnajaoaaDoorArgBl
import Derived.Test.YtmecimhlnajaoaaDoorArgB
import Derived.BigFrameIn
namespace Go.Proofs.YtmecimhlnajaoaaDoor
open Go.RowKit Go.Maps

theorem wpListIn_load_row_w {F : Fence} {nF : Nat} {P : Program} {ops : Array Oper} {rest : List Oper} {o : Oper} {a : Act} {w : World} {Q : Exit → Act → World → Prop} (hw : Region.wanted o (yielded ops a.tmps) = true) (ty : TypeId) (x : Operand) (ho : o.op = .load ty x)
    (g : Nat) (hx : a.eval x = .pointer (some ⟨g, 0, none⟩)) (t : TypeId) (cs : Array Value) (fr : Nat × Nat) (d : TypeDesc) (hg : w.heap[g]? = some (.cells cs t fr))
    (hu : P.underlying ty = some d) (hd : (match d with | .struct _ | .array _ _ => true | _ => false) = true) (hi : (P.info? ty).map (·.size) = some cs.size)
    (h : wpListIn F nF P ops Q rest (a.put o.dst (.agg cs)) w) : wpListIn F nF P ops Q (o :: rest) a w := by
  refine BigFrame.wpListIn_want hw fun K hK => ?_
  unfold Oper.wpIn
  refine ⟨by simp [Oper.about, ho], ?_⟩
  rw [Oper.semAt_plain F _ _ (by rw [ho]; intro c hc'; cases hc')]
  unfold execOp
  simp only [ho, hx, Instr.loadAt, Instr.sureAddr, Sem.run_bind, Sem.run_pure, Result.andThen_ok, run_loadVar_row w g t ty cs fr d hg hu hd hi]
  exact hK _ _ h
/-- Three sectors, the middle one written with one byte. -/
def laZ (x : Int) : DkS := wrS (newS 3) 1 (firstR x)
def lastZ (l : List UInt8) : Nat → DkS
  | 0 => newS 3
  | k + 1 => laZ ((l.getD k 0).toNat : Int)
theorem laZ_write (x y : Int) : wS (laZ x) 1 (firstR y) = laZ y := by kernel_rfl
theorem newS_write (y : Int) : wS (newS 3) 1 (firstR y) = laZ y := by kernel_rfl
theorem lastZ_write (l : List UInt8) (k : Nat) (h : k < l.length) : wE (lastZ l k) 1 = 0 ∧ wS (lastZ l k) 1 (firstR (l[k].toNat : Int)) = lastZ l (k + 1) := by
  have e : l.getD k 0 = l[k] := by simp [List.getD, List.getElem?_eq_getElem h]
  rw [lastZ, e]
  cases k with
  | zero => exact ⟨by kernel_rfl, newS_write _⟩
  | succ k => exact ⟨by show wE (laZ _) 1 = 0; generalize (((l.getD k 0).toNat : Nat) : Int) = x; kernel_rfl, laZ_write _ _⟩
theorem laZ_read (x : Int) : rE (laZ x) 1 = 0 ∧ rV (laZ x) 1 = firstR x ∧ sE (laZ x) = 0 := ⟨by kernel_rfl, by kernel_rfl, by kernel_rfl⟩
/-- What the middle sector is behind the crash. -/
def laW (x : Int) (synced : Bool) (keep : List Bool) : Int := if synced || keep.headD false then x else 0
def laS (x : Int) (synced : Bool) : DkS := if synced then sS (laZ x) else laZ x
theorem laS_crash (x : Int) (synced : Bool) (keep : List Bool) : rE (crashS (laS x synced) keep) 1 = 0 ∧ rV (crashS (laS x synced) keep) 1 = firstR (laW x synced keep) ∧
    rE (crashS (crashS (laS x synced) keep) [true, true, true]) 1 = 0 ∧ rV (crashS (crashS (laS x synced) keep) [true, true, true]) 1 = firstR (laW x synced keep) := by
  match synced, keep with
  | true, [] => exact ⟨by kernel_rfl, by kernel_rfl, by kernel_rfl, by kernel_rfl⟩
  | true, a :: t => exact ⟨by kernel_rfl, by kernel_rfl, by kernel_rfl, by kernel_rfl⟩
  | false, [] => exact ⟨by kernel_rfl, by kernel_rfl, by kernel_rfl, by kernel_rfl⟩
  | false, true :: t => exact ⟨by kernel_rfl, by kernel_rfl, by kernel_rfl, by kernel_rfl⟩
  | false, false :: t => exact ⟨by kernel_rfl, by kernel_rfl, by kernel_rfl, by kernel_rfl⟩
end Go.Proofs.YtmecimhlnajaoaaDoor
