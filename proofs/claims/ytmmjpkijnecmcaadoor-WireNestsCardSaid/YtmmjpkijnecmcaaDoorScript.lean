/-
  A script of ops as an argument: opened; 'long'.
-/
import Derived.Test.YtmmjpkijnecmcaaDoorOps2
import Derived.Test.YtmmjpkijnecmcaaDoorArgs
namespace Go.Proofs.YtmmjpkijnecmcaaDoor
open Go.ChangeShapes Go.WideShapes Go.ChangeAt Go.RowKit

/-- The op o stands in five cells from off on, its bytes somewhere. -/
def OpAt (w : World) (b off : Nat) (o : OpV) : Prop :=
  w.cell? ⟨b, off, none⟩ = some (.int .i64 o.kind) ∧ w.cell? ⟨b, off + 1, none⟩ = some (.int .i64 o.n) ∧ w.cell? ⟨b, off + 2, none⟩ = some (.int .i64 o.width) ∧ w.cell? ⟨b, off + 3, none⟩ = some (.int .i64 o.most) ∧
  o.n ≤ 9223372036854775807 ∧ ∃ A c, w.cell? ⟨b, off + 4, none⟩ = some (.slice A o.bytes.length c) ∧ BytesAt w A o.bytes ∧ o.bytes.length ≤ c
def OpsAt (w : World) (A : Option Addr) (ops : List OpV) : Prop :=
  ops ≠ [] → ∃ b off, A = some ⟨b, off, none⟩ ∧ ∀ k (h : k < ops.length), OpAt w b (off + k * 5) ops[k]
theorem OpAt.kept {w w' : World} {b off : Nat} {o : OpV} (h : OpAt w b off o) (hk : Kept (fun _ => False) w w') : OpAt w' b off o := by
  obtain ⟨h0, h1, h2, h3, hm, A, c, h4, h5, h6⟩ := h
  exact ⟨hk.cell h0 (fun h => h), hk.cell h1 (fun h => h), hk.cell h2 (fun h => h), hk.cell h3 (fun h => h), hm, A, c, hk.cell h4 (fun h => h), h5.kept' hk (fun _ _ _ h => h), h6⟩
theorem OpsAt.kept {w w' : World} {A : Option Addr} {ops : List OpV} (h : OpsAt w A ops) (hk : Kept (fun _ => False) w w') : OpsAt w' A ops := fun hne => by
  obtain ⟨b, off, rfl, hc⟩ := h hne
  exact ⟨b, off, rfl, fun k h => (hc k h).kept hk⟩

section
variable {H : Type} {enc : TypeId × Value → H} {w : World} {base : Nat} {spare : Nat → Bool} {held : Bool} {fuel : Nat} {cs : List Value} {x : DataW H × List MemPlace}

theorem cellsOp : Tryd.prog.cellsOf 29 = 5 := by kernel_rfl
theorem cellsInt : Tryd.prog.cellsOf 3 = 1 := by kernel_rfl
theorem cellsBytes : Tryd.prog.cellsOf 27 = 1 := by kernel_rfl

set_option maxRecDepth 100000 in
theorem open_op {cs : List Value} (h : DataW.trod enc Tryd.prog w base spare held fuel 29 cs = some x) :
    ∃ (o : OpV) (A : Option Addr) (c : Nat), cs = [.int .i64 o.kind, .int .i64 o.n, .int .i64 o.width, .int .i64 o.most, .slice A o.bytes.length c] ∧ o.n ≤ 9223372036854775807 ∧ BytesAt w A o.bytes ∧ o.bytes.length ≤ c := by
  obtain ⟨xs, n, _, hx, hlen, hxl, hf⟩ := DataW.trod_struct Tryd.underlying29 h
  rw [cellsOp] at hlen
  match cs, hlen with
  | [v0, v1, v2, v3, v4], _ =>
    match xs, hxl with
    | [y0, y1, y2, y3, y4], _ =>
      have f0 : DataW.trod enc Tryd.prog w base spare held n 3 ((([v0, v1, v2, v3, v4] : List Value).drop 0).take (Tryd.prog.cellsOf 3)) = some y0 := hf 0 _ rfl
      rw [cellsInt] at f0
      have f1 : DataW.trod enc Tryd.prog w base spare held n 3 ((([v0, v1, v2, v3, v4] : List Value).drop 1).take (Tryd.prog.cellsOf 3)) = some y1 := hf 1 _ rfl
      rw [cellsInt] at f1
      have f2 : DataW.trod enc Tryd.prog w base spare held n 3 ((([v0, v1, v2, v3, v4] : List Value).drop 2).take (Tryd.prog.cellsOf 3)) = some y2 := hf 2 _ rfl
      rw [cellsInt] at f2
      have f3 : DataW.trod enc Tryd.prog w base spare held n 3 ((([v0, v1, v2, v3, v4] : List Value).drop 3).take (Tryd.prog.cellsOf 3)) = some y3 := hf 3 _ rfl
      rw [cellsInt] at f3
      have f4 : DataW.trod enc Tryd.prog w base spare held n 27 ((([v0, v1, v2, v3, v4] : List Value).drop 4).take (Tryd.prog.cellsOf 27)) = some y4 := hf 4 _ rfl
      rw [cellsBytes] at f4
      obtain ⟨z0, e0, _, _⟩ := DataW.trod_int Tryd.underlying3 (show DataW.trod enc Tryd.prog w base spare held n 3 [v0] = some y0 from f0)
      obtain ⟨z1, e1, _, w1⟩ := DataW.trod_int Tryd.underlying3 (show DataW.trod enc Tryd.prog w base spare held n 3 [v1] = some y1 from f1)
      obtain ⟨z2, e2, _, _⟩ := DataW.trod_int Tryd.underlying3 (show DataW.trod enc Tryd.prog w base spare held n 3 [v2] = some y2 from f2)
      obtain ⟨z3, e3, _, _⟩ := DataW.trod_int Tryd.underlying3 (show DataW.trod enc Tryd.prog w base spare held n 3 [v3] = some y3 from f3)
      obtain ⟨A, m, c, l, e4, hl, hc, _, hb, _⟩ := open_bytes (show DataW.trod enc Tryd.prog w base spare held n 27 [v4] = some y4 from f4)
      injection e0 with e0 _
      injection e1 with e1 _
      injection e2 with e2 _
      injection e3 with e3 _
      injection e4 with e4 _
      subst hl
      have hz1 : z1 ≤ 9223372036854775807 := by
        have : -9223372036854775808 ≤ z1 ∧ z1 ≤ 9223372036854775807 := by simpa [Lit.wf, IntKind.min, IntKind.max, IntKind.signed, IntKind.bits] using w1
        exact this.2
      refine ⟨⟨z0, z1, z2, z3, l⟩, A, c, ?_, hz1, hb, hc⟩
      rw [e0, e1, e2, e3, e4]

theorem open_ops (h : DataW.trod enc Tryd.prog w base spare held fuel 22 cs = some x) :
    ∃ A n c, ∃ ops : List OpV, cs = [.slice A n c] ∧ ops.length = n ∧ n ≤ c ∧ OpsAt w A ops := by
  rcases DataW.trod_slice Tryd.underlying22 h with ⟨hcs, _⟩ | ⟨a, len, cap, elems, rest, n, _, hcs, _, _, hl, _, hlen, hel, _⟩
  · exact ⟨none, 0, 0, [], hcs, rfl, Nat.le_refl _, fun h => absurd rfl h⟩
  · rw [cellsOp] at hel
    have each : ∀ i, i < len → ∃ o : OpV, ∃ (A : Option Addr) (c : Nat), (∀ j, j < 5 → w.cell? (a.add (i * 5 + j)) = [Value.int .i64 o.kind, .int .i64 o.n, .int .i64 o.width, .int .i64 o.most, .slice A o.bytes.length c][j]?) ∧ o.n ≤ 9223372036854775807 ∧ BytesAt w A o.bytes ∧ o.bytes.length ≤ c := by
      intro i hi
      have hE := hel i hi
      have hi' : i < elems.length := by omega
      rw [List.getElem?_eq_getElem hi'] at hE
      simp only [Option.bind_eq_some_iff] at hE
      obtain ⟨cs', hc', ht⟩ := hE
      obtain ⟨o, A, c, rfl, hmx, hb, hcc⟩ := open_op ht
      obtain ⟨_, _, hat⟩ := World.cells?_some hc'
      refine ⟨o, A, c, fun j hj => ?_, hmx, hb, hcc⟩
      rw [← Go.Deep.add_add]
      exact hat j hj
    let ops : List OpV := (List.range len).map fun i => if h : i < len then (each i h).choose else ⟨0, 0, 0, 0, []⟩
    have hops : ops.length = len := by simp [ops]
    refine ⟨some a, len, cap, ops, hcs, hops, hl, fun hne => ?_⟩
    have h0 : 0 < len := by rw [← hops]; exact List.length_pos_iff.2 hne
    have hspot : ∃ b off, a = ⟨b, off, none⟩ := by
      obtain ⟨o, A, c, hc, _⟩ := each 0 h0
      have := hc 0 (by omega)
      simp only [Nat.zero_mul, Nat.zero_add, List.getElem?_cons_zero] at this
      exact addr_form this rfl
    obtain ⟨b, off, rfl⟩ := hspot
    refine ⟨b, off, rfl, fun k hk => ?_⟩
    have hk' : k < len := by omega
    have e : ops[k] = (each k hk').choose := by simp [ops, hk']
    rw [e]
    obtain ⟨A, c, hc, hmx, hb, hcc⟩ := (each k hk').choose_spec
    have hcell : ∀ j, j < 5 → w.cell? ⟨b, off + k * 5 + j, none⟩ = [Value.int .i64 (each k hk').choose.kind, .int .i64 (each k hk').choose.n, .int .i64 (each k hk').choose.width, .int .i64 (each k hk').choose.most, .slice A (each k hk').choose.bytes.length c][j]? := fun j hj => by
      have := hc j hj
      rw [Go.WideShapes.add_plain, ← Nat.add_assoc] at this
      exact this
    exact ⟨hcell 0 (by omega), hcell 1 (by omega), hcell 2 (by omega), hcell 3 (by omega), hmx, A, c, hcell 4 (by omega), hb, hcc⟩
set_option maxRecDepth 100000 in
theorem arg_ops {v : Value} {d : DataW H} {p : List MemPlace} {b0 : Nat} (hv : Value.okWide Tryd.prog w .any b0 22 v) (h : DataW.Trod enc Tryd.prog w base spare held 22 v d p) :
    ∃ A n c, ∃ ops : List OpV, v = .slice A n c ∧ ops.length = n ∧ n ≤ c ∧ OpsAt w A ops := by
  obtain ⟨a0, len, cap, rfl⟩ := okWide_slice Tryd.underlying22 hv
  obtain ⟨fuel, hf⟩ := h
  obtain ⟨A, n, c, ops, hcs, hn, hc, hb⟩ := open_ops hf
  have e : Value.slice a0 len cap = .slice A n c := (List.cons.inj (show [Value.slice a0 len cap] = [Value.slice A n c] from hcs)).1
  exact ⟨A, n, c, ops, e, hn, hc, hb⟩
end

/-- More than is asked. -/
def longB (ops : List OpV) : Bool := decide (40 < ops.length) || ops.any fun o => decide (400 < o.bytes.length)
set_option maxHeartbeats 400000 in
theorem long_any (w : World) (A : Option Addr) (n c : Nat) (ops : List OpV) (hn : ops.length = n) (ho : OpsAt w A ops) :
    Calls Tryd.prog 11 #[.slice A n c] w fun e w' => e = .returned (.bool (longB ops)) ∧ w.grownBy w' none := by
  by_cases hbig : 40 < n
  · have d1 : decide ((40 : Int) < (n : Int)) = true := by simp; omega
    have hr : longB ops = true := by unfold longB; rw [hn]; simp [hbig]
    rw [hr]
    clear hr
    go_enter Tryd.func11, Tryd.ntmps11
    go_wp2
    go_ret
    exact ⟨rfl, World.grownBy.refl _ _⟩
  · have d1 : decide ((40 : Int) < (n : Int)) = false := by simp; omega
    have Hn := Lib.hid hn
    clear hn
    go_enter Tryd.func11, Tryd.ntmps11
    go_wp2_with fail
    go_loopw [10] (fun i wr => ∃ k : Nat, k ≤ n ∧ i = .int .i64 (k : Int) ∧ ((ops.take k).any fun o => decide (400 < o.bytes.length)) = false ∧ Kept (fun _ => False) w wr) (fun i _ => n - (intOf i).toNat)
    case atStart => exact ⟨0, Nat.zero_le _, rfl, rfl, Kept.refl _ _⟩
    case round =>
      obtain ⟨k, hk, rfl, hany, hK⟩ := hrel
      by_cases hlt : k < n
      · have hb : decide ((k : Int) < (n : Int)) = true := by simp; omega
        have hko : k < ops.length := by have := Hn.out; omega
        obtain ⟨b, off, rfl, hc⟩ := (ho.kept hK) (by intro e; rw [e] at hko; simp at hko)
        obtain ⟨c0, c1, c2, c3, _, Ab, cb, c4, _, _⟩ := hc k hko
        clear hc
        have htk : ops.take (k + 1) = ops.take k ++ [ops[k]] := List.take_succ_eq_append_getElem hko
        by_cases hlong : 400 < ops[k].bytes.length
        · have d2 : decide ((400 : Int) < (ops[k].bytes.length : Int)) = true := by simp; omega
          have hr : longB ops = true := by
            unfold longB
            rw [Bool.or_eq_true]
            exact .inr (List.any_eq_true.2 ⟨ops[k], List.getElem_mem hko, by simpa using hlong⟩)
          have Hr := Lib.hid hr
          clear hr htk hany
          go_wp2_with fail
          go_ret
          rw [Hr.out]
          exact ⟨rfl, (hK.alloc _).none_grown⟩
        · have d2 : decide ((400 : Int) < (ops[k].bytes.length : Int)) = false := by simp; omega
          have hany' : ((ops.take (k + 1)).any fun o => decide (400 < o.bytes.length)) = false := by
            rw [htk, List.any_append, hany]
            simp; omega
          have Hany := Lib.hid hany'
          clear hany hany' htk
          go_wp2_with fail
          go_roundw
          case rel => exact ⟨k + 1, by omega, by go_num, Hany.out, hK.alloc _⟩
          case measure => simp [intOf]; omega
      · have hb : decide ((k : Int) < (n : Int)) = false := by simp; omega
        have hr : longB ops = false := by
          have e : ops.take k = ops := List.take_of_length_le (by have := Hn.out; omega)
          rw [e] at hany
          have h1 : decide (40 < ops.length) = false := by have := Hn.out; simp; omega
          unfold longB
          rw [h1, hany]; rfl
        have Hr := Lib.hid hr
        clear hr hany
        go_wp2_with fail
        go_ret
        rw [Hr.out]
        exact ⟨rfl, hK.none_grown⟩
end Go.Proofs.YtmmjpkijnecmcaaDoor
