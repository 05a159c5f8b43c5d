/-
  Arguments of layer 13: a State, a Step, a row of Steps.
-/
import Derived.Test.YtjmdlpefacbmmaaDoorRu7
import Derived.Test.YtjmdlpefacbmmaaDoorArg0
namespace Go.Proofs.YtjmdlpefacbmmaaDoor
open Go.ChangeShapes Go.WideShapes Go.ChangeAt Go.RowKit

section
variable {H : Type} {enc : TypeId × Value → H} {w : World} {base : Nat} {spare : Nat → Bool} {held : Bool} {fuel : Nat} {cs : List Value} {x : DataW H × List MemPlace}
theorem cellsInt : Tryd.prog.cellsOf 3 = 1 := by kernel_rfl

theorem cellsSt : Tryd.prog.cellsOf 23 = 5 := by kernel_rfl
set_option maxRecDepth 100000 in
theorem open_St {cs : List Value} (h : DataW.trod enc Tryd.prog w base spare held fuel 23 cs = some x) :
    ∃ z0 z1 z2 z3 z4 : Int, cs = [.int .i64 z0, .int .i64 z1, .int .i64 z2, .int .i64 z3, .int .i64 z4] := by
  obtain ⟨xs, n, _, hx, hlen, hxl, hf⟩ := DataW.trod_struct Tryd.underlying23 h
  rw [cellsSt] at hlen
  match cs, hlen with
  | [v0, v1, v2, v3, v4], _ =>
    match xs, hxl with
    | [y0, y1, y2, y3, y4], _ =>
      have f0 : DataW.trod enc Tryd.prog w base spare held n 3 ((([v0, v1, v2, v3, v4] : List Value).drop 0).take (Tryd.prog.cellsOf 3)) = some y0 := hf 0 _ rfl
      rw [cellsInt] at f0
      obtain ⟨z0, e0, _, _⟩ := DataW.trod_int Tryd.underlying3 (show DataW.trod enc Tryd.prog w base spare held n 3 [v0] = some y0 from f0)
      injection e0 with e0 _
      have f1 : DataW.trod enc Tryd.prog w base spare held n 3 ((([v0, v1, v2, v3, v4] : List Value).drop 1).take (Tryd.prog.cellsOf 3)) = some y1 := hf 1 _ rfl
      rw [cellsInt] at f1
      obtain ⟨z1, e1, _, _⟩ := DataW.trod_int Tryd.underlying3 (show DataW.trod enc Tryd.prog w base spare held n 3 [v1] = some y1 from f1)
      injection e1 with e1 _
      have f2 : DataW.trod enc Tryd.prog w base spare held n 3 ((([v0, v1, v2, v3, v4] : List Value).drop 2).take (Tryd.prog.cellsOf 3)) = some y2 := hf 2 _ rfl
      rw [cellsInt] at f2
      obtain ⟨z2, e2, _, _⟩ := DataW.trod_int Tryd.underlying3 (show DataW.trod enc Tryd.prog w base spare held n 3 [v2] = some y2 from f2)
      injection e2 with e2 _
      have f3 : DataW.trod enc Tryd.prog w base spare held n 3 ((([v0, v1, v2, v3, v4] : List Value).drop 3).take (Tryd.prog.cellsOf 3)) = some y3 := hf 3 _ rfl
      rw [cellsInt] at f3
      obtain ⟨z3, e3, _, _⟩ := DataW.trod_int Tryd.underlying3 (show DataW.trod enc Tryd.prog w base spare held n 3 [v3] = some y3 from f3)
      injection e3 with e3 _
      have f4 : DataW.trod enc Tryd.prog w base spare held n 3 ((([v0, v1, v2, v3, v4] : List Value).drop 4).take (Tryd.prog.cellsOf 3)) = some y4 := hf 4 _ rfl
      rw [cellsInt] at f4
      obtain ⟨z4, e4, _, _⟩ := DataW.trod_int Tryd.underlying3 (show DataW.trod enc Tryd.prog w base spare held n 3 [v4] = some y4 from f4)
      injection e4 with e4 _
      exact ⟨z0, z1, z2, z3, z4, by rw [e0, e1, e2, e3, e4]⟩
set_option maxRecDepth 100000 in
theorem arg_St {v : Value} {d : DataW H} {p : List MemPlace} {b0 : Nat} (hv : Value.okWide Tryd.prog w .any b0 23 v) (h : DataW.Trod enc Tryd.prog w base spare held 23 v d p) : ∃ s : St, v = s.val := by
  obtain ⟨cs, rfl, hsz⟩ := okWide_struct Tryd.underlying23 hv
  obtain ⟨fuel, hf⟩ := h
  have hlen : cs.size = 5 := hsz.trans cellsSt
  obtain ⟨l⟩ := cs
  match l, hlen with
  | [c0, c1, c2, c3, c4], _ =>
    obtain ⟨z0, z1, z2, z3, z4, e⟩ := open_St (cs := [c0, c1, c2, c3, c4]) (show DataW.trod enc Tryd.prog w base spare held fuel 23 [c0, c1, c2, c3, c4] = some (d, p) from hf)
    injection e with e0 e
    injection e with e1 e
    injection e with e2 e
    injection e with e3 e
    injection e with e4 _
    subst e0 e1 e2 e3 e4
    exact ⟨⟨z0, z1, z2, z3, z4⟩, rfl⟩

theorem cellsStp : Tryd.prog.cellsOf 25 = 5 := by kernel_rfl
set_option maxRecDepth 100000 in
theorem open_Stp {cs : List Value} (h : DataW.trod enc Tryd.prog w base spare held fuel 25 cs = some x) :
    ∃ z0 z1 z2 z3 z4 : Int, cs = [.int .i64 z0, .int .i64 z1, .int .i64 z2, .int .i64 z3, .int .i64 z4] := by
  obtain ⟨xs, n, _, hx, hlen, hxl, hf⟩ := DataW.trod_struct Tryd.underlying25 h
  rw [cellsStp] at hlen
  match cs, hlen with
  | [v0, v1, v2, v3, v4], _ =>
    match xs, hxl with
    | [y0, y1, y2, y3, y4], _ =>
      have f0 : DataW.trod enc Tryd.prog w base spare held n 3 ((([v0, v1, v2, v3, v4] : List Value).drop 0).take (Tryd.prog.cellsOf 3)) = some y0 := hf 0 _ rfl
      rw [cellsInt] at f0
      obtain ⟨z0, e0, _, _⟩ := DataW.trod_int Tryd.underlying3 (show DataW.trod enc Tryd.prog w base spare held n 3 [v0] = some y0 from f0)
      injection e0 with e0 _
      have f1 : DataW.trod enc Tryd.prog w base spare held n 3 ((([v0, v1, v2, v3, v4] : List Value).drop 1).take (Tryd.prog.cellsOf 3)) = some y1 := hf 1 _ rfl
      rw [cellsInt] at f1
      obtain ⟨z1, e1, _, _⟩ := DataW.trod_int Tryd.underlying3 (show DataW.trod enc Tryd.prog w base spare held n 3 [v1] = some y1 from f1)
      injection e1 with e1 _
      have f2 : DataW.trod enc Tryd.prog w base spare held n 3 ((([v0, v1, v2, v3, v4] : List Value).drop 2).take (Tryd.prog.cellsOf 3)) = some y2 := hf 2 _ rfl
      rw [cellsInt] at f2
      obtain ⟨z2, e2, _, _⟩ := DataW.trod_int Tryd.underlying3 (show DataW.trod enc Tryd.prog w base spare held n 3 [v2] = some y2 from f2)
      injection e2 with e2 _
      have f3 : DataW.trod enc Tryd.prog w base spare held n 3 ((([v0, v1, v2, v3, v4] : List Value).drop 3).take (Tryd.prog.cellsOf 3)) = some y3 := hf 3 _ rfl
      rw [cellsInt] at f3
      obtain ⟨z3, e3, _, _⟩ := DataW.trod_int Tryd.underlying3 (show DataW.trod enc Tryd.prog w base spare held n 3 [v3] = some y3 from f3)
      injection e3 with e3 _
      have f4 : DataW.trod enc Tryd.prog w base spare held n 3 ((([v0, v1, v2, v3, v4] : List Value).drop 4).take (Tryd.prog.cellsOf 3)) = some y4 := hf 4 _ rfl
      rw [cellsInt] at f4
      obtain ⟨z4, e4, _, _⟩ := DataW.trod_int Tryd.underlying3 (show DataW.trod enc Tryd.prog w base spare held n 3 [v4] = some y4 from f4)
      injection e4 with e4 _
      exact ⟨z0, z1, z2, z3, z4, by rw [e0, e1, e2, e3, e4]⟩
set_option maxRecDepth 100000 in
theorem arg_Stp {v : Value} {d : DataW H} {p : List MemPlace} {b0 : Nat} (hv : Value.okWide Tryd.prog w .any b0 25 v) (h : DataW.Trod enc Tryd.prog w base spare held 25 v d p) : ∃ s : Stp, v = s.val := by
  obtain ⟨cs, rfl, hsz⟩ := okWide_struct Tryd.underlying25 hv
  obtain ⟨fuel, hf⟩ := h
  have hlen : cs.size = 5 := hsz.trans cellsStp
  obtain ⟨l⟩ := cs
  match l, hlen with
  | [c0, c1, c2, c3, c4], _ =>
    obtain ⟨z0, z1, z2, z3, z4, e⟩ := open_Stp (cs := [c0, c1, c2, c3, c4]) (show DataW.trod enc Tryd.prog w base spare held fuel 25 [c0, c1, c2, c3, c4] = some (d, p) from hf)
    injection e with e0 e
    injection e with e1 e
    injection e with e2 e
    injection e with e3 e
    injection e with e4 _
    subst e0 e1 e2 e3 e4
    exact ⟨⟨z0, z1, z2, z3, z4⟩, rfl⟩

end
/-- The steps xs lie at A. -/
def StpAt (w : World) (b off : Nat) (x : Stp) : Prop :=
  w.cell? ⟨b, off, none⟩ = some (.int .i64 x.k) ∧ w.cell? ⟨b, off + 1, none⟩ = some (.int .i64 x.ep) ∧ w.cell? ⟨b, off + 2, none⟩ = some (.int .i64 x.r) ∧ w.cell? ⟨b, off + 3, none⟩ = some (.int .i64 x.q) ∧ w.cell? ⟨b, off + 4, none⟩ = some (.int .i64 x.g)
def StpsAt (w : World) (A : Option Addr) (xs : List Stp) : Prop := xs ≠ [] → ∃ b off, A = some ⟨b, off, none⟩ ∧ ∀ k (h : k < xs.length), StpAt w b (off + k * 5) xs[k]
theorem StpAt.kept {w w' : World} {b off : Nat} {x : Stp} (h : StpAt w b off x) (hk : Kept (fun _ => False) w w') : StpAt w' b off x := by
  obtain ⟨h0, h1, h2, h3, h4⟩ := h
  exact ⟨hk.cell h0 (fun h => h), hk.cell h1 (fun h => h), hk.cell h2 (fun h => h), hk.cell h3 (fun h => h), hk.cell h4 (fun h => h)⟩
theorem StpsAt.kept {w w' : World} {A : Option Addr} {xs : List Stp} (h : StpsAt w A xs) (hk : Kept (fun _ => False) w w') : StpsAt w' A xs := fun hne => by
  obtain ⟨b, off, rfl, hc⟩ := h hne
  exact ⟨b, off, rfl, fun k h => (hc k h).kept hk⟩

section
variable {H : Type} {enc : TypeId × Value → H} {w : World} {base : Nat} {spare : Nat → Bool} {held : Bool} {fuel : Nat} {cs : List Value} {x : DataW H × List MemPlace}
theorem open_stps (h : DataW.trod enc Tryd.prog w base spare held fuel 33 cs = some x) :
    ∃ A n c, ∃ xs : List Stp, cs = [.slice A n c] ∧ xs.length = n ∧ n ≤ c ∧ StpsAt w A xs := by
  rcases DataW.trod_slice Tryd.underlying33 h with ⟨hcs, _⟩ | ⟨a, len, cap, elems, rest, n, _, hcs, _, _, hl, _, hlen, hel, _⟩
  · exact ⟨none, 0, 0, [], hcs, rfl, Nat.le_refl _, fun h => absurd rfl h⟩
  · rw [cellsStp] at hel
    have each : ∀ i, i < len → ∃ o : Stp, ∀ j, j < 5 → w.cell? (a.add (i * 5 + j)) = [Value.int .i64 o.k, .int .i64 o.ep, .int .i64 o.r, .int .i64 o.q, .int .i64 o.g][j]? := by
      intro i hi
      have hE := hel i hi
      have hi' : i < elems.length := by omega
      rw [List.getElem?_eq_getElem hi'] at hE
      simp only [Option.bind_eq_some_iff] at hE
      obtain ⟨cs', hc', ht⟩ := hE
      obtain ⟨z0, z1, z2, z3, z4, rfl⟩ := open_Stp ht
      obtain ⟨_, _, hat⟩ := World.cells?_some hc'
      refine ⟨⟨z0, z1, z2, z3, z4⟩, fun j hj => ?_⟩
      rw [← Go.Deep.add_add]
      exact hat j hj
    let ops : List Stp := (List.range len).map fun i => if h : i < len then (each i h).choose else ⟨0, 0, 0, 0, 0⟩
    have hops : ops.length = len := by simp [ops]
    refine ⟨some a, len, cap, ops, hcs, hops, hl, fun hne => ?_⟩
    have h0 : 0 < len := by rw [← hops]; exact List.length_pos_iff.2 hne
    have hspot : ∃ b off, a = ⟨b, off, none⟩ := by
      obtain ⟨o, hc⟩ := each 0 h0
      have := hc 0 (by omega)
      simp only [Nat.zero_mul, Nat.zero_add, List.getElem?_cons_zero] at this
      exact addr_form this rfl
    obtain ⟨b, off, rfl⟩ := hspot
    refine ⟨b, off, rfl, fun k hk => ?_⟩
    have hk' : k < len := by omega
    have e : ops[k] = (each k hk').choose := by simp [ops, hk']
    rw [e]
    have hc := (each k hk').choose_spec
    have hcell : ∀ j, j < 5 → w.cell? ⟨b, off + k * 5 + j, none⟩ = [Value.int .i64 (each k hk').choose.k, .int .i64 (each k hk').choose.ep, .int .i64 (each k hk').choose.r, .int .i64 (each k hk').choose.q, .int .i64 (each k hk').choose.g][j]? := fun j hj => by
      have := hc j hj
      rw [Go.WideShapes.add_plain, ← Nat.add_assoc] at this
      exact this
    exact ⟨hcell 0 (by omega), hcell 1 (by omega), hcell 2 (by omega), hcell 3 (by omega), hcell 4 (by omega)⟩
set_option maxRecDepth 100000 in
theorem arg_stps {v : Value} {d : DataW H} {p : List MemPlace} {b0 : Nat} (hv : Value.okWide Tryd.prog w .any b0 33 v) (h : DataW.Trod enc Tryd.prog w base spare held 33 v d p) :
    ∃ A n c, ∃ xs : List Stp, v = .slice A n c ∧ xs.length = n ∧ n ≤ c ∧ StpsAt w A xs := by
  obtain ⟨a0, len, cap, rfl⟩ := okWide_slice Tryd.underlying33 hv
  obtain ⟨fuel, hf⟩ := h
  obtain ⟨A, n, c, xs, hcs, hn, hc, hb⟩ := open_stps hf
  have e : Value.slice a0 len cap = .slice A n c := (List.cons.inj (show [Value.slice a0 len cap] = [Value.slice A n c] from hcs)).1
  exact ⟨A, n, c, xs, e, hn, hc, hb⟩
end
end Go.Proofs.YtjmdlpefacbmmaaDoor
