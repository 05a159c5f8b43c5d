/-
  Slots: a row of calls as an argument.
-/
import Derived.Test.YtilfapibfadbfaaDoorArgBl
import Derived.Test.YtilfapibfadbfaaDoorArgA
import Derived.Test.YtilfapibfadbfaaDoorSlB
namespace Go.Proofs.YtilfapibfadbfaaDoor
open Go.ChangeShapes Go.WideShapes Go.ChangeAt Go.RowKit

/-- A call: its kind, its place, its record (where it lies, its room), its list (where it lies, its room). -/
structure OpT where
  k : Int
  i : Int
  A : Option Addr
  c : Nat
  l : List UInt8
  B : Option Addr
  e : Nat
  kp : List Bool
def OpT.cells (z : OpT) : List Value := [.int .i64 z.k, .int .i64 z.i, .slice z.A z.l.length z.c, .slice z.B z.kp.length z.e]
def OtR (w : World) (z : OpT) (cs : List Value) : Prop := cs = z.cells ∧ BytesAt w z.A z.l ∧ BoolsAt w z.B z.kp ∧ z.i < 9223372036854775808
/-- The calls zs lie at A. -/
def OtsAt (w : World) (A : Option Addr) (zs : List OpT) : Prop := zs ≠ [] → ∃ b off, A = some ⟨b, off, none⟩ ∧ ∀ k (h : k < zs.length), (∀ j v, zs[k].cells[j]? = some v → w.cell? ⟨b, off + k * 4 + j, none⟩ = some v) ∧ BytesAt w zs[k].A zs[k].l ∧ BoolsAt w zs[k].B zs[k].kp ∧ zs[k].i < 9223372036854775808
theorem wf_ltT {z : Int} (h : (Lit.int .i64 z).wf = true) : z < 9223372036854775808 := by
  have h3 : z ≤ 9223372036854775807 := of_decide_eq_true (Bool.and_eq_true_iff.1 (show (decide (_ ≤ z) && decide (z ≤ _)) = true from h)).2
  omega
section
variable {H : Type} {enc : TypeId × Value → H} {w : World} {base : Nat} {spare : Nat → Bool} {held : Bool} {fuel : Nat} {cs : List Value} {x : DataW H × List MemPlace}
theorem cellsIntT : Tryd.prog.cellsOf 3 = 1 := by kernel_rfl
theorem cellsBytesT : Tryd.prog.cellsOf 22 = 1 := by kernel_rfl
theorem cellsBoolsT : Tryd.prog.cellsOf 43 = 1 := by kernel_rfl
theorem cellsOpT : Tryd.prog.cellsOf 45 = 4 := by kernel_rfl
set_option maxRecDepth 100000 in
theorem open_OpT {cs : List Value} (h : DataW.trod enc Tryd.prog w base spare held fuel 45 cs = some x) : ∃ z : OpT, OtR w z cs := by
  obtain ⟨xs, n, _, hx, hlen, hxl, hf⟩ := DataW.trod_struct Tryd.underlying45 h
  rw [cellsOpT] at hlen
  match cs, hlen with
  | [v0, v1, v2, v3], _ =>
    match xs, hxl with
    | [y0, y1, y2, y3], _ =>
      have f0 : DataW.trod enc Tryd.prog w base spare held n 3 ((([v0, v1, v2, v3] : List Value).drop 0).take (Tryd.prog.cellsOf 3)) = some y0 := hf 0 _ rfl
      rw [cellsIntT] at f0
      obtain ⟨z0, e0, _, _⟩ := DataW.trod_int Tryd.underlying3 (show DataW.trod enc Tryd.prog w base spare held n 3 [v0] = some y0 from f0)
      injection e0 with e0 _
      have f1 : DataW.trod enc Tryd.prog w base spare held n 3 ((([v0, v1, v2, v3] : List Value).drop 1).take (Tryd.prog.cellsOf 3)) = some y1 := hf 1 _ rfl
      rw [cellsIntT] at f1
      obtain ⟨z1, e1, _, w1⟩ := DataW.trod_int Tryd.underlying3 (show DataW.trod enc Tryd.prog w base spare held n 3 [v1] = some y1 from f1)
      injection e1 with e1 _
      have f2 : DataW.trod enc Tryd.prog w base spare held n 22 ((([v0, v1, v2, v3] : List Value).drop 2).take (Tryd.prog.cellsOf 22)) = some y2 := hf 2 _ rfl
      rw [cellsBytesT] at f2
      obtain ⟨A2, m2, c2, l2, e2, h4, _, _, h5, _⟩ := open_bytes (show DataW.trod enc Tryd.prog w base spare held n 22 [v2] = some y2 from f2)
      injection e2 with e2 _
      subst h4
      have f3 : DataW.trod enc Tryd.prog w base spare held n 43 ((([v0, v1, v2, v3] : List Value).drop 3).take (Tryd.prog.cellsOf 43)) = some y3 := hf 3 _ rfl
      rw [cellsBoolsT] at f3
      obtain ⟨A, m3, c3, ps, e3, h7, _, h6⟩ := open_bls (show DataW.trod enc Tryd.prog w base spare held n 43 [v3] = some y3 from f3)
      injection e3 with e3 _
      subst h7
      exact ⟨⟨z0, z1, A2, c2, l2, A, c3, ps⟩, by rw [OpT.cells, e0, e1, e2, e3], h5, h6, by have := wf_ltT w1; exact this⟩
theorem open_ots (h : DataW.trod enc Tryd.prog w base spare held fuel 42 cs = some x) :
    ∃ A n c, ∃ zs : List OpT, cs = [.slice A n c] ∧ zs.length = n ∧ n ≤ c ∧ OtsAt w A zs := by
  obtain ⟨A, n, c, zs, hcs, hn, hc, hat⟩ := open_elems Tryd.underlying42 cellsOpT (OtR w) ⟨0, 0, none, 0, [], none, 0, []⟩ (fun h => open_OpT h) h
  refine ⟨A, n, c, zs, hcs, hn, hc, fun hne => ?_⟩
  obtain ⟨ad, eA, hat2⟩ := hat hne
  obtain ⟨b, off, rfl⟩ : ∃ b off, ad = ⟨b, off, none⟩ := by
    obtain ⟨es, ⟨rfl, _⟩, _, hcell⟩ := hat2 0 (List.length_pos_iff.2 hne)
    have := hcell 0 (by omega)
    rw [Nat.zero_mul, Nat.zero_add] at this
    exact addr_form this rfl
  refine ⟨b, off, eA, fun k hk => ?_⟩
  obtain ⟨es, ⟨rfl, h1, h2, h0⟩, h3, hcell⟩ := hat2 k hk
  refine ⟨fun j v hj => ?_, h1, h2, h0⟩
  have hj4 : j < 4 := by rw [← h3]; exact (List.getElem?_eq_some_iff.1 hj).1
  have := hcell j hj4
  rw [Go.WideShapes.add_plain, ← Nat.add_assoc, hj] at this
  exact this
set_option maxRecDepth 100000 in
theorem arg_ots {v : Value} {d : DataW H} {p : List MemPlace} {b0 : Nat} (hv : Value.okWide Tryd.prog w .any b0 42 v) (h : DataW.Trod enc Tryd.prog w base spare held 42 v d p) :
    ∃ A n c, ∃ zs : List OpT, v = .slice A n c ∧ zs.length = n ∧ n ≤ c ∧ OtsAt w A zs := by
  obtain ⟨a0, len, cap, rfl⟩ := okWide_slice Tryd.underlying42 hv
  obtain ⟨fuel, hf⟩ := h
  obtain ⟨A, n, c, xs, hcs, hn, hc, hb⟩ := open_ots hf
  have e : Value.slice a0 len cap = .slice A n c := (List.cons.inj (show [Value.slice a0 len cap] = [Value.slice A n c] from hcs)).1
  exact ⟨A, n, c, xs, e, hn, hc, hb⟩
end
theorem OtsAt.low {w w' : World} {F : Nat → Prop} {A : Option Addr} {zs : List OpT} (h : OtsAt w A zs) (hk : Kept F w w') (hF : ∀ k, F k → w.heap.size ≤ k) : OtsAt w' A zs := fun hne => by
  obtain ⟨b, off, e, hc⟩ := h hne
  refine ⟨b, off, e, fun k hk' => ?_⟩
  obtain ⟨h1, h2, h3, h4⟩ := hc k hk'
  have no : ∀ {j : Nat}, j < w.heap.size → ¬ F j := fun hj hf => by have := hF _ hf; omega
  exact ⟨fun j v hj => hk.cell (h1 j v hj) (no (World.block_lt_of_cell? w _ (h1 j v hj))), h2.low hk hF, h3.low hk hF, h4⟩
end Go.Proofs.YtilfapibfadbfaaDoor
