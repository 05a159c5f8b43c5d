/-
  Several texts in one: PwG, GixS.
-/
import Derived.ChangeSame
import Derived.Test.YtpdfkgmgmndcfaaDoorM20H
import Derived.Test.YtpdfkgmgmndcfaaDoorM20n
import Derived.Test.YtpdfkgmgmndcfaaDoorM20a
/-
  An argument opened: a row of validators.
-/
namespace Go.Proofs.YtpdfkgmgmndcfaaDoor
open Go.ChangeShapes Go.WideShapes Go.ChangeAt Go.RowKit

theorem cellsVd : Tryd.prog.cellsOf 45 = 17 := by kernel_rfl
theorem cellsDig : Tryd.prog.cellsOf 24 = 16 := by kernel_rfl
theorem cellsI : Tryd.prog.cellsOf 3 = 1 := by kernel_rfl
theorem cellsU8 : Tryd.prog.cellsOf 5 = 1 := by kernel_rfl

section
variable {H : Type} {enc : TypeId × Value → H} {w : World} {base : Nat} {spare : Nat → Bool} {held : Bool} {fuel : Nat} {cs : List Value} {x : DataW H × List MemPlace}
theorem open_vd (h : DataW.trod enc Tryd.prog w base spare held fuel 45 cs = some x) :
    ∃ y : Vd, cs = y.cells ∧ y.key.length = 16 ∧ (Lit.int .i64 y.p).wf = true := by
  obtain ⟨y0, y1, n, _, hlen, h0, h1⟩ := trod_struct2 Tryd.underlying45 h
  rw [cellsVd] at hlen
  obtain ⟨l, hl, hl16, _, _⟩ := arr_of_trod Tryd.underlying24 Tryd.underlying5 cellsU8 cellsDig h0
  obtain ⟨p, hp, _, hwf⟩ := DataW.trod_int Tryd.underlying3 h1
  dsimp only at hl hp
  rw [cellsDig] at hl
  rw [cellsI] at hp
  refine ⟨⟨l, p⟩, ?_, hl16, hwf⟩
  have e : cs = cs.take 16 ++ (cs.drop 16).take 1 := by
    rw [List.take_of_length_le (l := cs.drop 16) (by simp; omega), List.take_append_drop]
  rw [e, hp, show cs.take 16 = l.map (Value.int .u8) from hl]
  rfl
theorem open_vds (h : DataW.trod enc Tryd.prog w base spare held fuel 22 cs = some x) :
    ∃ A n c, ∃ xs : List Vd, cs = [.slice A n c] ∧ xs.length = n ∧ n ≤ c ∧ VdsAt w A xs ∧ keysOk xs ∧ ∀ y ∈ xs, (Lit.int .i64 y.p).wf = true := by
  rcases DataW.trod_slice Tryd.underlying22 h with ⟨hcs, _⟩ | ⟨a, len, cap, elems, rest, n, _, hcs, _, _, hl, _, hlen, hel, _⟩
  · exact ⟨none, 0, 0, [], hcs, rfl, Nat.le_refl _, fun h => absurd rfl h, fun _ h => by simp at h, fun _ h => by simp at h⟩
  · rw [cellsVd] at hel
    have each : ∀ i, i < len → ∃ o : Vd, o.key.length = 16 ∧ (Lit.int .i64 o.p).wf = true ∧ ∀ j v, o.cells[j]? = some v → w.cell? (a.add (i * 17 + j)) = some v := by
      intro i hi
      have hE := hel i hi
      have hi' : i < elems.length := by omega
      rw [List.getElem?_eq_getElem hi'] at hE
      simp only [Option.bind_eq_some_iff] at hE
      obtain ⟨cs', hc', ht⟩ := hE
      obtain ⟨y, rfl, h16, hwf⟩ := open_vd ht
      obtain ⟨_, _, hat⟩ := World.cells?_some hc'
      refine ⟨y, h16, hwf, fun j v hv => ?_⟩
      rw [← Go.Deep.add_add]
      have hj : j < 17 := by have := (List.getElem?_eq_some_iff.1 hv).1; rwa [Vd.cells_length h16] at this
      rw [hat j hj, hv]
    let ops : List Vd := (List.range len).map fun i => if h : i < len then (each i h).choose else ⟨[], 0⟩
    have hops : ops.length = len := by simp [ops]
    have hget : ∀ k (hk : k < ops.length), ∃ hk' : k < len, ops[k] = (each k hk').choose := fun k hk => ⟨by omega, by simp [ops, show k < len by omega]⟩
    refine ⟨some a, len, cap, ops, hcs, hops, hl, fun hne => ?_, fun y hy => ?_, fun y hy => ?_⟩
    · have h0 : 0 < len := by rw [← hops]; exact List.length_pos_iff.2 hne
      have hspot : ∃ b off, a = ⟨b, off, none⟩ := by
        obtain ⟨o, h16, _, hc⟩ := each 0 h0
        have h1 : 0 < o.cells.length := by rw [Vd.cells_length h16]; omega
        exact addr_form (hc 0 _ (List.getElem?_eq_getElem h1)) rfl
      obtain ⟨b, off, rfl⟩ := hspot
      refine ⟨b, off, rfl, fun k hk j v hv => ?_⟩
      obtain ⟨hk', e⟩ := hget k hk
      rw [e] at hv
      have := (each k hk').choose_spec.2.2 j v hv
      rw [Go.WideShapes.add_plain, ← Nat.add_assoc] at this
      exact this
    · obtain ⟨k, hk, rfl⟩ := List.getElem_of_mem hy
      obtain ⟨hk', e⟩ := hget k hk
      rw [e]
      exact (each k hk').choose_spec.1
    · obtain ⟨k, hk, rfl⟩ := List.getElem_of_mem hy
      obtain ⟨hk', e⟩ := hget k hk
      rw [e]
      exact (each k hk').choose_spec.2.1
set_option maxRecDepth 100000 in
theorem arg_vds {v : Value} {d : DataW H} {p : List MemPlace} {b0 : Nat} (hv : Value.okWide Tryd.prog w .any b0 22 v) (h : DataW.Trod enc Tryd.prog w base spare held 22 v d p) :
    ∃ A c, ∃ xs : List Vd, v = .slice A xs.length c ∧ xs.length ≤ c ∧ VdsAt w A xs ∧ keysOk xs ∧ ∀ y ∈ xs, (Lit.int .i64 y.p).wf = true := by
  obtain ⟨a0, len, cap, rfl⟩ := okWide_slice Tryd.underlying22 hv
  obtain ⟨fuel, hf⟩ := h
  obtain ⟨A, n, c, xs, hcs, rfl, hc, hb⟩ := open_vds hf
  have e : Value.slice a0 len cap = .slice A xs.length c := (List.cons.inj (show [Value.slice a0 len cap] = [Value.slice A xs.length c] from hcs)).1
  exact ⟨A, c, xs, e, hc, hb⟩
end
end Go.Proofs.YtpdfkgmgmndcfaaDoor
/-
  The four errors that are listed: where their variables are.
-/

namespace Go.Proofs.YtpdfkgmgmndcfaaDoor
def gix : List Nat := [3, 4, 1, 0]
end Go.Proofs.YtpdfkgmgmndcfaaDoor
