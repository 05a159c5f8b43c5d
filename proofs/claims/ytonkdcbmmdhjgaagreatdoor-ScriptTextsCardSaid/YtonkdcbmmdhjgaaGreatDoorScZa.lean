/-
  The argument: a list of ops, opened.
-/
import Derived.Test.YtonkdcbmmdhjgaaGreatDoorScZt
import Derived.Test.YtonkdcbmmdhjgaaGreatDoorArgB
import Derived.Test.YtonkdcbmmdhjgaaGreatDoorArgBl
namespace Go.Proofs.YtonkdcbmmdhjgaaGreatDoor
open Go.ChangeShapes Go.WideShapes Go.ChangeAt Go.RowKit

section
variable {H : Type} {enc : TypeId × Value → H} {w : World} {base : Nat} {spare : Nat → Bool} {held : Bool} {fuel : Nat} {cs : List Value} {x : DataW H × List MemPlace}
theorem cellsOpS : Tryz.prog.cellsOf 29 = 6 := by kernel_rfl
theorem cellsI : Tryz.prog.cellsOf 3 = 1 := by kernel_rfl
theorem cellsIs : Tryz.prog.cellsOf 25 = 1 := by kernel_rfl
theorem cellsBs : Tryz.prog.cellsOf 26 = 1 := by kernel_rfl
theorem cellsU8s : Tryz.prog.cellsOf 27 = 1 := by kernel_rfl
theorem i64_wf {z : Int} (h : (Lit.int .i64 z).wf = true) : i64 z := by
  have : -9223372036854775808 ≤ z ∧ z ≤ 9223372036854775807 := by simpa [Lit.wf, IntKind.min, IntKind.max, IntKind.signed, IntKind.bits] using h
  exact this
set_option maxRecDepth 100000 in
theorem open_opS (h : DataW.trod enc Tryz.prog w base spare held fuel 29 cs = some x) : ∃ o : OpM, cs = o.val.toList ∧ o.At w ∧ Ints o.v := by
  obtain ⟨xs, n, _, hx, hlen, hxl, hf⟩ := DataW.trod_struct Tryz.underlying29 h
  rw [cellsOpS] at hlen
  match cs, hlen with
  | [v0, v1, v2, v3, v4, v5], _ =>
    match xs, hxl with
    | [y0, y1, y2, y3, y4, y5], _ =>
      have f0 : DataW.trod enc Tryz.prog w base spare held n 3 ((([v0, v1, v2, v3, v4, v5] : List Value).drop 0).take (Tryz.prog.cellsOf 3)) = some y0 := hf 0 _ rfl
      rw [cellsI] at f0
      have f1 : DataW.trod enc Tryz.prog w base spare held n 3 ((([v0, v1, v2, v3, v4, v5] : List Value).drop 1).take (Tryz.prog.cellsOf 3)) = some y1 := hf 1 _ rfl
      rw [cellsI] at f1
      have f2 : DataW.trod enc Tryz.prog w base spare held n 3 ((([v0, v1, v2, v3, v4, v5] : List Value).drop 2).take (Tryz.prog.cellsOf 3)) = some y2 := hf 2 _ rfl
      rw [cellsI] at f2
      have f3 : DataW.trod enc Tryz.prog w base spare held n 25 ((([v0, v1, v2, v3, v4, v5] : List Value).drop 3).take (Tryz.prog.cellsOf 25)) = some y3 := hf 3 _ rfl
      rw [cellsIs] at f3
      have f4 : DataW.trod enc Tryz.prog w base spare held n 26 ((([v0, v1, v2, v3, v4, v5] : List Value).drop 4).take (Tryz.prog.cellsOf 26)) = some y4 := hf 4 _ rfl
      rw [cellsBs] at f4
      have f5 : DataW.trod enc Tryz.prog w base spare held n 27 ((([v0, v1, v2, v3, v4, v5] : List Value).drop 5).take (Tryz.prog.cellsOf 27)) = some y5 := hf 5 _ rfl
      rw [cellsU8s] at f5
      obtain ⟨z0, e0, _, _⟩ := DataW.trod_int Tryz.underlying3 (show DataW.trod enc Tryz.prog w base spare held n 3 [v0] = some y0 from f0)
      obtain ⟨z1, e1, _, w1⟩ := DataW.trod_int Tryz.underlying3 (show DataW.trod enc Tryz.prog w base spare held n 3 [v1] = some y1 from f1)
      obtain ⟨z2, e2, _, w2⟩ := DataW.trod_int Tryz.underlying3 (show DataW.trod enc Tryz.prog w base spare held n 3 [v2] = some y2 from f2)
      obtain ⟨A3, n3, c3, l3, e3, h3, _, _, hb3, hw3, _⟩ := open_nums (show DataW.trod enc Tryz.prog w base spare held n 25 [v3] = some y3 from f3)
      obtain ⟨A4, n4, c4, l4, e4, h4, _, hb4⟩ := open_bls (show DataW.trod enc Tryz.prog w base spare held n 26 [v4] = some y4 from f4)
      obtain ⟨A5, n5, c5, l5, e5, h5, _, _, hb5, _⟩ := open_bytes (show DataW.trod enc Tryz.prog w base spare held n 27 [v5] = some y5 from f5)
      injection e0 with e0 _
      injection e1 with e1 _
      injection e2 with e2 _
      injection e3 with e3 _
      injection e4 with e4 _
      injection e5 with e5 _
      subst h3 h4 h5 e0 e1 e2 e3 e4 e5
      exact ⟨⟨⟨z0, z1, z2, l3, l4, l5⟩, A3, c3, A4, c4, A5, c5⟩, rfl, ⟨hb3, hb4, hb5⟩, i64_wf w1, i64_wf w2, fun z hz => i64_wf (hw3 z hz)⟩
theorem open_opsS (h : DataW.trod enc Tryz.prog w base spare held fuel 22 cs = some x) :
    ∃ A n c, ∃ os : List OpM, cs = [.slice A n c] ∧ os.length = n ∧ n ≤ c ∧ OpRow w A os ∧ (∀ o ∈ os, o.At w) ∧ ∀ o ∈ os, Ints o.v := by
  obtain ⟨A, n, c, zs, hcs, hn, hc, hat⟩ := open_elems Tryz.underlying22 cellsOpS (fun (o : OpM) es => es = o.val.toList ∧ o.At w ∧ Ints o.v) OpM.zero (fun h => open_opS h) h
  have each : ∀ o ∈ zs, o.At w ∧ Ints o.v := fun o ho => by
    have hne : zs ≠ [] := by intro e; rw [e] at ho; cases ho
    obtain ⟨k, hk, rfl⟩ := List.getElem_of_mem ho
    obtain ⟨ad, eA, hat2⟩ := hat hne
    obtain ⟨es, ⟨_, h1, h2⟩, _⟩ := hat2 k hk
    exact ⟨h1, h2⟩
  refine ⟨A, n, c, zs, hcs, hn, hc, fun hne => ?_, fun o ho => (each o ho).1, fun o ho => (each o ho).2⟩
  obtain ⟨ad, eA, hat2⟩ := hat hne
  obtain ⟨b, off, rfl⟩ : ∃ b off, ad = ⟨b, off, none⟩ := by
    obtain ⟨es, ⟨rfl, _⟩, _, hcell⟩ := hat2 0 (List.length_pos_iff.2 hne)
    have := hcell 0 (by omega)
    rw [Nat.zero_mul, Nat.zero_add] at this
    exact addr_form this rfl
  refine ⟨b, off, eA, fun k hk j v hv => ?_⟩
  obtain ⟨es, ⟨rfl, _⟩, h3, hcell⟩ := hat2 k hk
  have hj : j < 6 := (List.getElem?_eq_some_iff.1 hv).1
  have := hcell j hj
  rw [Go.WideShapes.add_plain, ← Nat.add_assoc, hv] at this
  exact this
set_option maxRecDepth 100000 in
theorem arg_opsS {v : Value} {d : DataW H} {p : List MemPlace} {b0 : Nat} (hv : Value.okWide Tryz.prog w .any b0 22 v) (h : DataW.Trod enc Tryz.prog w base spare held 22 v d p) :
    ∃ A n c, ∃ os : List OpM, v = .slice A n c ∧ os.length = n ∧ OpRow w A os ∧ (∀ o ∈ os, o.At w) ∧ ∀ o ∈ os, Ints o.v := by
  obtain ⟨a0, len, cap, rfl⟩ := okWide_slice Tryz.underlying22 hv
  obtain ⟨fuel, hf⟩ := h
  obtain ⟨A, n, c, os, hcs, hn, hc, hb, ha, hi⟩ := open_opsS hf
  have e : Value.slice a0 len cap = .slice A n c := (List.cons.inj (show [Value.slice a0 len cap] = [Value.slice A n c] from hcs)).1
  exact ⟨A, n, c, os, e, hn, hb, ha, hi⟩
end
end Go.Proofs.YtonkdcbmmdhjgaaGreatDoor
