/-
  Several texts in one: DkM, DkW, DkC.
-/
import Derived.Test.YtlokjbjpmhfkhaaDoorM11H
import Derived.Test.YtlokjbjpmhfkhaaDoorM11l
import Derived.Deep.MidRow
import Derived.Maps.OwnSet
import Derived.MapFrom
/-
  Disk: a disk in memory; what asks it, and its power.
-/
namespace Go.Proofs.YtlokjbjpmhfkhaaDoor
open Go.RowKit Go.Maps

/-- A disk: what was synced, what was written and isn't synced, whether the power is off, how long it lasts. -/
structure DkS where
  syn : List (List Int)
  wr : List (Option (List Int))
  off : Bool
  lasts : Int
def DkS.cells (z : DkS) : Array Value := (z.syn.flatMap fun r => r.map (Value.int .u8)).toArray
theorem own_tight {w : World} {P : Program} {k : TypeId} {R : Value → Option (DataW Unit × List MemPlace)} {b n : Nat} {D : DataW Unit} (h : w.ownsMap P k R b n D) : w.ownsMap P k R b (Maps.size D) D := by
  obtain ⟨es, clock, hb, F, _, hD⟩ := h
  exact ⟨es, clock, hb, F, by rw [hD, Maps.size_eq, length_read]; exact Nat.le_refl _, hD⟩
/-- The number of operations is told. -/
def armS (z : DkS) (k : Int) : DkS := { z with lasts := if k < -1 then -1 else k }
/-- One operation of the power. -/
def opOk (z : DkS) : Bool := !(z.off || z.lasts == 0)
def opS (z : DkS) : DkS := if z.lasts = 0 then { z with off := true } else if z.off then z else if 0 < z.lasts then { z with lasts := z.lasts - 1 } else z
end Go.Proofs.YtlokjbjpmhfkhaaDoor
/-
  Disk: Write.
-/
namespace Go.Proofs.YtlokjbjpmhfkhaaDoor
open Go.RowKit Go.Maps

def wrS (z : DkS) (k : Nat) (r : List Int) : DkS := { z with wr := z.wr.set k (some r) }
theorem keyed_i : Keyed Tryd.prog 3 := int_keyed Tryd.underlying3
theorem range_of_blk {w : World} {g : Nat} {t : TypeId} {cs : Array Value} (h : Blk w g t cs) : w.rangeAt g 0 cs.toList := fun j v hv => by
  rw [Nat.zero_add, h.cell, ← Array.getElem?_toList]; exact hv
end Go.Proofs.YtlokjbjpmhfkhaaDoor
/-
  Disk: a map is cleared.
-/
namespace Go.Proofs.YtlokjbjpmhfkhaaDoor
open Go.RowKit Go.Maps Go.ChangeMaps Go.MapKept

theorem clear_own {P : Program} {w : World} {t k e : TypeId} {R : Value → Option (DataW Unit × List MemPlace)} {b n : Nat} {D : DataW Unit} (h : w.ownsMap P k R b n D) (ht : P.underlying t = some (.map k e)) (ty : TypeId) :
    ∃ w', (Builtin.clear_ #[t] ty #[.map (some b)]).run P w = .ok (.tuple #[]) w' ∧ w'.ownsMap P k R b 0 (.map []) ∧ w.mapTurned w' b := by
  obtain ⟨es, clock, hb, F, hs, rfl⟩ := h
  refine ⟨setBlock w b (.map #[] clock), ?_, ⟨#[], clock, heap_setBlock_same hb _, ⟨by simp, stamped_empty clock, by simp⟩, Nat.le_refl _, rfl⟩, ⟨es, clock, #[], clock, hb, rfl⟩⟩
  simp [Builtin.clear_, run_underlying ht, MapKept.run_getObj_map hb, MapKept.run_setObj_map _ hb, Result.andThen, setBlock]
theorem results_sec_tmp {fn : Func} {s u : Tmp} {ty : TypeId} (h : fn.results = #[.cell s ty, .tmp u]) (tmps : Array Value) {P : Program} (w : World) (a : Addr) (v : Value) (ha : tmps.getD s undef = .pointer (some a)) (hv : (loadVar ty a).run P w = .ok v w) :
    (results fn tmps).run P w = .ok (.tuple #[v, tmps.getD u undef]) w := by
  have ha2 : tmps[s]?.getD undef = .pointer (some a) := by simpa using ha
  simp [results, h, ha2, asAddr, hv, Result.andThen]
end Go.Proofs.YtlokjbjpmhfkhaaDoor
