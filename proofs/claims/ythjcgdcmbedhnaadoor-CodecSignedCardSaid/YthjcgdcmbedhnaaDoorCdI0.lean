/-
  What codec.write leaves.
-/
import Derived.Test.YthjcgdcmbedhnaaDoorCdW
import Derived.Test.YthjcgdcmbedhnaaDoorDi
namespace Go.Proofs.YthjcgdcmbedhnaaDoor
open Go.RowKit

/-- What a call leaves that answers bytes or an error. -/
def WOut (w w' : World) (E : Nat → Addr) (s : WSt) (e : Ending) : Prop :=
  w.grownBy w' none ∧ ((s.1 = 0 ∧ ∃ A c, e = .returned (.tuple #[.slice A s.2.length c, .nilIface]) ∧ w'.ownsRow w.heap.size 5 1 (.slice A s.2.length c) s.2.length (Lib.byteCells s.2)) ∨
    (s.1 ≠ 0 ∧ e = .returned (.tuple #[.slice none 0 0, evOf E s.1])))
theorem wr_build (w : World) (g : Nat) : Sem.run Tryd.prog (Instr.build 80 #[(0, .pointer (some ⟨g, 0, none⟩))]) w = .ok (.agg #[.pointer (some ⟨g, 0, none⟩)]) w := by
  refine run_build w 80 _ _ ?_
  kernel_rfl
theorem wr_zero (w : World) : Sem.run Tryd.prog (zeroValue 80) w = .ok (.agg #[.pointer none]) w := zero_run3 w (by kernel_rfl)
end Go.Proofs.YthjcgdcmbedhnaaDoor
