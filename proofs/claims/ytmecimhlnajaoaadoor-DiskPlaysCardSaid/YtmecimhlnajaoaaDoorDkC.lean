/-
  Disk: a map is cleared.
-/
import Derived.Test.YtmecimhlnajaoaaDoorDkM
import Derived.Maps.OwnSet
import Derived.MapFrom
namespace Go.Proofs.YtmecimhlnajaoaaDoor
open Go.RowKit Go.Maps Go.ChangeMaps Go.MapKept

theorem clear_own {P : Program} {w : World} {t k e : TypeId} {R : Value → Option (DataW Unit × List MemPlace)} {b n : Nat} {D : DataW Unit} (h : w.ownsMap P k R b n D) (ht : P.underlying t = some (.map k e)) (ty : TypeId) :
    ∃ w', (Builtin.clear_ #[t] ty #[.map (some b)]).run P w = .ok (.tuple #[]) w' ∧ w'.ownsMap P k R b 0 (.map []) ∧ w.mapTurned w' b := by
  obtain ⟨es, clock, hb, F, hs, rfl⟩ := h
  refine ⟨setBlock w b (.map #[] clock), ?_, ⟨#[], clock, heap_setBlock_same hb _, ⟨by simp, stamped_empty clock, by simp⟩, Nat.le_refl _, rfl⟩, ⟨es, clock, #[], clock, hb, rfl⟩⟩
  simp [Builtin.clear_, run_underlying ht, MapKept.run_getObj_map hb, MapKept.run_setObj_map _ hb, Result.andThen, setBlock]
theorem results_sec_tmp {fn : Func} {s u : Tmp} {ty : TypeId} (h : fn.results = #[.cell s ty, .tmp u]) (tmps : Array Value) {P : Program} (w : World) (a : Addr) (v : Value) (ha : tmps.getD s undef = .pointer (some a)) (hv : (loadVar ty a).run P w = .ok v w) :
    (results fn tmps).run P w = .ok (.tuple #[v, tmps.getD u undef]) w := by
  have ha2 : tmps[s]?.getD undef = .pointer (some a) := by simpa using ha
  simp [results, h, ha2, asAddr, hv, Result.andThen]
end Go.Proofs.YtmecimhlnajaoaaDoor
