/-
  Several texts in one: ChX, ChV, ChW, ChY.
-/
import Derived.Test.YtmoebkdbnldbdaaGreatDoorM20pw
import Derived.Test.YtmoebkdbnldbdaaGreatDoorM20pB
import Derived.Laws.MakeOwn
import Derived.Test.YtmoebkdbnldbdaaGreatDoorM20pA
import Derived.Deep.MidRow
import Derived.Deep.RegionHeld3
import Derived.Test.YtmoebkdbnldbdaaGreatDoorM20pu
/-
  chains.Sign by a leaf.
-/
namespace Go.Proofs.YtmoebkdbnldbdaaGreatDoor
open Go.RowKit Go.Shelf

attribute [local go_sem] Oper.semAt_some

theorem sig_of (w : World) (hR : Rounds w) (seed : List Int) (lf i : Int) (d : List Int) (k : Nat) (hi : i = (k : Int)) (x : Int) (hx : x = (digitsS d).getD k 0) (cs es : Array Value) (h1 : cs = arrV .u8 (secC seed lf k)) (h2 : es = arrV .u8 (sigS seed lf d k)) :
    Calls Tryz.prog 110 #[.agg cs, .int .i64 lf, .int .i64 i, .int .i64 0, .int .i64 x] w fun e w' => e = .returned (.agg es) ∧ w.grownBy w' none := by
  subst hi
  have := dig_range d k
  exact run_v w hR (secC seed lf k) (secC_dig _ _ _) lf k 0 x (by omega) (by omega) (digN d k) (by rw [digN, ← hx]; omega) cs es h1 (by rw [h2, sigS])
theorem digits_v (w : World) (d : List Int) (hd : isDig d) (dd : Array Value) (h : dd = arrV .u8 d) : Calls Tryz.prog 109 #[.agg dd] w fun e w' =>
    ∃ g cap, e = .returned (.slice (some ⟨g, 0, none⟩) 68 cap) ∧ (∀ j, j < 68 → w'.cell? ⟨g, j, none⟩ = some (.int .i64 ((digitsS d).getD j 0))) ∧ w.heap.size ≤ g ∧ w.grownBy w' none := by
  subst h; exact digits_is w d hd.1 hd.2
theorem made68 : ∃ M : Array Value, M.size = 1088 ∧ ∀ V : World, Sem.run Tryz.prog (Instr.makeSlice 132 (.int .i64 68) (.int .i64 68)) V = .ok (.slice (some ⟨V.heap.size, 0, none⟩) 68 68) (V.alloc (.cells M 24)) := by
  cases hq : Tryz.prog.info? 24 with
  | none => exact absurd info16 (by rw [hq]; simp)
  | some i =>
    have hs : i.size = 16 := by have := info16; simpa [hq] using this
    have hz : ∃ z, i.zero = some z := by
      have : (Tryz.prog.info? 24).bind (·.zero) = some (.agg (arrV .u8 (List.replicate 16 0))) := by kernel_rfl
      exact ⟨_, by simpa [hq] using this⟩
    have hb : i.bytes = 16 := by
      have : (Tryz.prog.info? 24).map (·.bytes) = some 16 := by kernel_rfl
      simpa [hq] using this
    obtain ⟨z, hz⟩ := hz
    exact ⟨madeCells z.cells (68 * 16), size_madeCells _ _, fun V => by
      have := run_make (P := Tryz.prog) V 132 24 i z Tryz.underlying132 hq hz .i64 .i64 68 68 (by omega) (by omega) (by rw [hb]; omega) (by omega)
      rw [hs] at this
      exact this⟩

end Go.Proofs.YtmoebkdbnldbdaaGreatDoor
/-
  quorateref03.Public.
-/

namespace Go.Proofs.YtmoebkdbnldbdaaGreatDoor
open Go.RowKit

end Go.Proofs.YtmoebkdbnldbdaaGreatDoor
/-
  quorateref03.Sign and quorateref03.Same.
-/
namespace Go.Proofs.YtmoebkdbnldbdaaGreatDoor
open Go.RowKit

end Go.Proofs.YtmoebkdbnldbdaaGreatDoor
/-
  chains.Public and chains.Sign by no leaf.
-/
namespace Go.Proofs.YtmoebkdbnldbdaaGreatDoor
open Go.RowKit

end Go.Proofs.YtmoebkdbnldbdaaGreatDoor
