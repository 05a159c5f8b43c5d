/-
  Several texts in one: ChY, ChZ, Ks.
-/
import Derived.Test.YtlokjbjpmhfkhaaDoorM11x
import Derived.Test.YtlokjbjpmhfkhaaDoorM11m
import Derived.Test.YtlokjbjpmhfkhaaDoorM11r
import Derived.Test.YtlokjbjpmhfkhaaDoorM11D
import Derived.Test.YtlokjbjpmhfkhaaDoorM11k
import Derived.Test.YtlokjbjpmhfkhaaDoorM11C
/-
  chains.Public and chains.Sign by no leaf.
-/
namespace Go.Proofs.YtlokjbjpmhfkhaaDoor
open Go.RowKit

end Go.Proofs.YtlokjbjpmhfkhaaDoor
/-
  ChainsSigns, walked.
-/
namespace Go.Proofs.YtlokjbjpmhfkhaaDoor
open Go.RowKit

theorem back_v (w : World) (hR : Rounds w) (lf : Int) (hlf : 0 ≤ lf ∧ lf < 32) (b off c : Nat) (seed : List Int) (d : List Int) (hd : isDig d) (hD : DigsAt w b off (sigsS seed lf d)) (dd rs : Array Value) (h2 : dd = arrV .u8 d) (hrs : rs = arrV .u8 (pubS seed lf)) :
    Calls Tryd.prog 49 #[.int .i64 lf, .slice (some ⟨b, off, none⟩) 68 c, .agg dd] w fun e w' => e = .returned (.tuple #[.agg rs, .nilIface]) ∧ w.grownBy w' none := by
  subst h2; exact recover_ok w hR lf hlf b off c (sigsS seed lf d) (sigsS_length _ _ _) (sigsS_dig _ _ _) hD d hd rs (by rw [hrs, recC_sigs])
end Go.Proofs.YtlokjbjpmhfkhaaDoor
/-
  (*Key).Sign by a leaf.
-/
namespace Go.Proofs.YtlokjbjpmhfkhaaDoor
open Go.RowKit

def sigZ : Array Value := #[.int .i64 0, .slice none 0 0, .slice none 0 0]
theorem sigz_build (w : World) : Sem.run Tryd.prog (Instr.build 51 #[]) w = .ok (.agg sigZ) w := by
  refine run_build w 51 _ _ ?_
  kernel_rfl
theorem sigz_run (w : World) : Sem.run Tryd.prog (zeroValue 51) w = .ok (.agg sigZ) w := zrun w (by kernel_rfl)
theorem info3 : (Tryd.prog.info? 51).map (·.size) = some 3 := by kernel_rfl
theorem build_sig (w : World) (lf : Int) (A1 A2 : Option Addr) (n1 c1 n2 c2 : Nat) : Sem.run Tryd.prog (Instr.build 51 #[(0, .int .i64 lf), (1, .slice A1 n1 c1), (2, .slice A2 n2 c2)]) w = .ok (.agg (sigV lf (.slice A1 n1 c1) (.slice A2 n2 c2))) w := by
  refine run_build w 51 _ _ ?_
  kernel_rfl
theorem wpList_build3 {P : Program} {ops : Array Oper} {rest : List Oper} {o : Oper} {a : Act} {w : World} {Q : Exit → Act → World → Prop} (hgd : o.guard = none) (t : TypeId) (x y z : Operand) (ho : o.op = .build t #[(0, x), (1, y), (2, z)]) (u v t' V : Value) (hx : a.eval x = u) (hy : a.eval y = v) (hz : a.eval z = t')
    (hr : Sem.run P (Instr.build t #[(0, u), (1, v), (2, t')]) w = .ok V w) (h : wpList P ops Q rest (a.put o.dst V) w) : wpList P ops Q (o :: rest) a w :=
  wpList_plain hgd fun K hK => by
    have hm : (#[(0, x), (1, y), (2, z)] : Array (Nat × Operand)).map (fun (i, x) => (i, a.eval x)) = #[(0, u), (1, v), (2, t')] := by simp [hx, hy, hz]
    unfold Oper.wp execOp
    simp only [ho, Sem.run_bind, hm, hr, Result.andThen_ok]
    exact hK _ _ h

/-- A signature that a key made, in memory. -/
structure SigAt (w : World) (seed : List Int) (lf : Int) (i : Nat) (d : List Int) (b p : Nat) : Prop where
  chains : DigsAt w b 0 (sigsS seed lf d)
  path : DigsAt w p 0 (upto (wayC (leavesC seed) i) 5)
  bthere : w.there b 0 1088
  pthere : w.there p 0 80
  apart : b ≠ p
theorem SigAt.to {w w' : World} {seed d : List Int} {lf : Int} {i b p : Nat} {row : Option Nat} (h : SigAt w seed lf i d b p) (hg : w.grownBy w' row) (h1 : some b ≠ row) (h2 : some p ≠ row) : SigAt w' seed lf i d b p :=
  ⟨fun j hj => range_to (h.chains j hj) hg h1, fun j hj => range_to (h.path j hj) hg h2, there_to h.bthere hg h1, there_to h.pthere hg h2, h.apart⟩
theorem SigAt.grown {w w' : World} {seed d : List Int} {lf : Int} {i b p : Nat} (h : SigAt w seed lf i d b p) (hg : w.grownBy w' none) : SigAt w' seed lf i d b p := h.to hg (by simp) (by simp)

end Go.Proofs.YtlokjbjpmhfkhaaDoor
