/-
  Several texts in one: EpX, PwG, EpJ, EpY.
-/
import Derived.OpenShut
import Derived.Test.YtmoebkdbnldbdaaGreatDoorM20pL
import Derived.ChangeSame
import Derived.Test.YtmoebkdbnldbdaaGreatDoorM20pr
import Derived.Test.YtmoebkdbnldbdaaGreatDoorM20ph
import Derived.Deep.Strs
import Derived.Test.YtmoebkdbnldbdaaGreatDoorM20ps
/-
  An argument opened: a row of Changes.
-/
namespace Go.Proofs.YtmoebkdbnldbdaaGreatDoor
open Go.ChangeShapes Go.WideShapes Go.ChangeAt Go.RowKit

theorem cellsXB3 : Tryz.prog.cellsOf 52 = 117 := by kernel_rfl
theorem cellsXC : Tryz.prog.cellsOf 54 = 136 := by kernel_rfl
theorem wf_inX {z : Int} (h : (Lit.int .i64 z).wf = true) : -9223372036854775808 ≤ z ∧ z < 9223372036854775808 := by
  have h2 : decide (-9223372036854775808 ≤ z) = true ∧ decide (z ≤ 9223372036854775807) = true := Bool.and_eq_true_iff.1 h
  have h3 := of_decide_eq_true h2.1
  have h4 := of_decide_eq_true h2.2
  exact ⟨h3, by omega⟩
section
variable {H : Type} {enc : TypeId × Value → H} {w : World} {base : Nat} {spare : Nat → Bool} {held : Bool} {fuel : Nat} {cs : List Value} {x : DataW H × List MemPlace}
theorem slice_lenX {t e : TypeId} (ht : Tryz.prog.underlying t = some (.slice e)) (h : DataW.trod enc Tryz.prog w base spare held fuel t cs = some x) {A : Option Addr} {n c : Nat} (hcs : cs = [.slice A n c]) : n ≤ c ∧ c < 9223372036854775808 := by
  rcases DataW.trod_slice ht h with ⟨h1, _⟩ | ⟨a, len, cap, elems, rest, m, _, h1, _, _, hl, hcap, _⟩
  · rw [h1] at hcs
    injection hcs with e1 _
    injection e1 with _ e2 e3
    omega
  · rw [h1] at hcs
    injection hcs with e1 _
    injection e1 with _ e2 e3
    have : maxLen = 9223372036854775807 := by decide
    omega
set_option maxRecDepth 100000 in
theorem open_qcX (h : DataW.trod enc Tryz.prog w base spare held fuel 46 cs = some x) : ∃ q : Qc, cs = q.val.toList ∧ q.At w ∧ PQn q := by
  obtain ⟨y0, y1, y2, y3, n, _, hlen, h0, h1, h2, h3⟩ := Joins.trod_struct4 Tryz.underlying46 h
  rw [cellsBkQ] at hlen
  obtain ⟨qe, e0, _, hw0⟩ := DataW.trod_int Tryz.underlying3 h0
  obtain ⟨qr, e1, _, hw1⟩ := DataW.trod_int Tryz.underlying3 h1
  obtain ⟨l, hl, hl16, _, hwf⟩ := arr_of_trod Tryz.underlying24 Tryz.underlying5 cellsBkU8 cellsBkD h2
  obtain ⟨A2, m, c2, L, e3, rfl, hc, hL, hok⟩ := open_sgsB h3
  have hlen2 := slice_lenX Tryz.underlying44 h3 e3
  refine ⟨⟨qe, qr, l, A2, c2, L⟩, ?_, ⟨dig_wfB hl16 hwf, hL, hok⟩, wf_inX hw0, wf_inX hw1, Nat.lt_of_le_of_lt hlen2.1 hlen2.2⟩
  dsimp only at e0 e1 hl e3
  rw [cellsBkI] at e0 e1
  rw [cellsBkSs] at e3
  rw [cellsBkD] at hl
  have t5 : (cs.drop 18).take 1 = cs.drop 18 := List.take_of_length_le (by simp; omega)
  rw [t5] at e3
  have q0 := drop_one cs 0
  rw [List.drop_zero] at q0 e0
  rw [q0, drop_one cs 1, drop_some cs 2 16, e0, e1, hl, e3]
  simp [Qc.val, arrV]
set_option maxRecDepth 100000 in
theorem open_bkX (h : DataW.trod enc Tryz.prog w base spare held fuel 49 cs = some x) : ∃ b : Bk, cs = b.val.toList ∧ b.At w ∧ PQn b.q := by
  obtain ⟨xs, n, _, hx, hlen, hxl, hf⟩ := DataW.trod_struct Tryz.underlying49 h
  rw [cellsBk] at hlen
  match xs, hxl with
  | [y0, y1, y2, y3, y4, y5], _ =>
    have f0 : DataW.trod enc Tryz.prog w base spare held n 3 ((cs.drop 0).take (Tryz.prog.cellsOf 3)) = some y0 := hf 0 _ rfl
    have f1 : DataW.trod enc Tryz.prog w base spare held n 3 ((cs.drop 1).take (Tryz.prog.cellsOf 3)) = some y1 := hf 1 _ rfl
    have f2 : DataW.trod enc Tryz.prog w base spare held n 24 ((cs.drop 2).take (Tryz.prog.cellsOf 24)) = some y2 := hf 2 _ rfl
    have f3 : DataW.trod enc Tryz.prog w base spare held n 46 ((cs.drop 18).take (Tryz.prog.cellsOf 46)) = some y3 := hf 3 _ rfl
    have f4 : DataW.trod enc Tryz.prog w base spare held n 47 ((cs.drop 37).take (Tryz.prog.cellsOf 47)) = some y4 := hf 4 _ rfl
    have f5 : DataW.trod enc Tryz.prog w base spare held n 22 ((cs.drop 38).take (Tryz.prog.cellsOf 22)) = some y5 := hf 5 _ rfl
    obtain ⟨e, e0, _, _⟩ := DataW.trod_int Tryz.underlying3 f0
    obtain ⟨r, e1, _, _⟩ := DataW.trod_int Tryz.underlying3 f1
    obtain ⟨l, e2, hl16, _, hwf⟩ := arr_of_trod Tryz.underlying24 Tryz.underlying5 cellsBkU8 cellsBkD f2
    obtain ⟨q, e3, hq, hpq⟩ := open_qcX f3
    obtain ⟨A, m, c, T, e4, rfl, hc, hT, hTo⟩ := open_txsB f4
    obtain ⟨A2, m2, c2, V, e5, rfl, hc2, hV, hVo⟩ := open_vdsB f5
    refine ⟨⟨e, r, l, q, A, c, T, A2, c2, V⟩, ?_, ⟨dig_wfB hl16 hwf, hq, ⟨hT, hTo⟩, hV, hVo⟩, hpq⟩
    rw [cellsBkI] at e0 e1
    rw [cellsBkD] at e2
    rw [cellsBkQ] at e3
    rw [cellsBkTs] at e4
    rw [cellsBkVs] at e5
    have t5 : (cs.drop 38).take 1 = cs.drop 38 := List.take_of_length_le (by simp; omega)
    rw [t5] at e5
    have q0 := drop_one cs 0
    rw [List.drop_zero] at q0 e0
    rw [q0, drop_one cs 1, drop_some cs 2 16, drop_some cs 18 19, drop_one cs 37, e0, e1, e2, e3, e4, e5]
    simp [Bk.val, arrV]
set_option maxRecDepth 100000 in
theorem open_chX (h : DataW.trod enc Tryz.prog w base spare held fuel 54 cs = some x) : ∃ c : Ch, cs = c.val.toList ∧ c.At w ∧ (PQn c.y.q ∧ PQn c.z.q ∧ PQn c.q) := by
  obtain ⟨y0, y1, n, _, hlen, h0, h1⟩ := trod_struct2 Tryz.underlying54 h
  rw [cellsXC] at hlen
  obtain ⟨xs, m, _, _, hl3, hx3, hi⟩ := DataW.trod_array Tryz.underlying52 h0
  obtain ⟨q, e3, hq, hpq⟩ := open_qcX h1
  match xs, hx3 with
  | [z0, z1, z2], _ =>
    have f0 := hi 0 (by omega)
    have f1 := hi 1 (by omega)
    have f2 := hi 2 (by omega)
    obtain ⟨a, ea, ha, _⟩ := open_bkX f0
    obtain ⟨b, eb, hb, hpb⟩ := open_bkX f1
    obtain ⟨d, ed, hd, hpd⟩ := open_bkX f2
    refine ⟨⟨a, b, d, q⟩, ?_, ⟨ha, hb, hd, hq⟩, hpb, hpd, hpq⟩
    dsimp only at ea eb ed e3
    rw [cellsBkQ] at e3
    rw [cellsXB3, cellsBk] at ea eb ed
    have t5 : (cs.drop 117).take 19 = cs.drop 117 := List.take_of_length_le (by simp; omega)
    rw [t5] at e3
    have k0 : cs.take 39 = a.val.toList := by
      rw [← ea]; simp [List.take_take]
    have k1 : (cs.drop 39).take 39 = b.val.toList := by
      rw [← eb]; simp [List.drop_take, List.take_take]
    have k2 : (cs.drop 78).take 39 = d.val.toList := by
      rw [← ed]; simp [List.drop_take, List.take_take]
    have e : cs = cs.take 39 ++ ((cs.drop 39).take 39 ++ ((cs.drop 78).take 39 ++ cs.drop 117)) := by
      have q1 := drop_some cs 0 39
      have q2 := drop_some cs 39 39
      have q3 := drop_some cs 78 39
      rw [List.drop_zero] at q1
      exact q1.trans (congrArg (cs.take 39 ++ ·) (q2.trans (congrArg ((cs.drop 39).take 39 ++ ·) q3)))
    rw [e, k0, k1, k2, e3]
    simp [Ch.val, cgV]
set_option maxRecDepth 100000 in
theorem arg_chs {v : Value} {d : DataW H} {p : List MemPlace} {b0 : Nat} (hv : Value.okWide Tryz.prog w .any b0 27 v) (h : DataW.Trod enc Tryz.prog w base spare held 27 v d p) :
    ∃ A c, ∃ L : List Ch, v = .slice A L.length c ∧ L.length ≤ c ∧ ChsAt w A L ∧ ∀ ch ∈ L, PQn ch.y.q ∧ PQn ch.z.q ∧ PQn ch.q := by
  obtain ⟨a0, len, cap, rfl⟩ := okWide_slice Tryz.underlying27 hv
  obtain ⟨fuel, hf⟩ := h
  obtain ⟨A, n, c, zs, hcs, hn, hc, hat⟩ := open_elems Tryz.underlying27 cellsXC (fun (s : Ch) es => es = s.val.toList ∧ (s.At w ∧ (PQn s.y.q ∧ PQn s.z.q ∧ PQn s.q))) ⟨⟨0, 0, [], ⟨0, 0, [], none, 0, []⟩, none, 0, [], none, 0, []⟩, ⟨0, 0, [], ⟨0, 0, [], none, 0, []⟩, none, 0, [], none, 0, []⟩, ⟨0, 0, [], ⟨0, 0, [], none, 0, []⟩, none, 0, [], none, 0, []⟩, ⟨0, 0, [], none, 0, []⟩⟩ (fun h => open_chX h) hf
  obtain ⟨h1, h2⟩ := elems_row (k := 136) (cel := fun s : Ch => s.val.toList) (Ok := fun s : Ch => s.At w ∧ (PQn s.y.q ∧ PQn s.z.q ∧ PQn s.q)) (by omega) (fun s v hv => by
    have : v = .int .i64 s.x.e := by simpa [Ch.val, cgV, Bk.val] using hv.symm
    rw [this]; rfl) hat
  subst hn
  exact ⟨A, c, zs, (List.cons.inj (show [Value.slice a0 len cap] = [Value.slice A zs.length c] from hcs)).1, hc, ⟨fun hne => h1 hne, fun ch hch => (h2 ch hch).1⟩, fun ch hch => (h2 ch hch).2⟩
end
end Go.Proofs.YtmoebkdbnldbdaaGreatDoor
/-
  An argument opened: a row of validators.
-/
namespace Go.Proofs.YtmoebkdbnldbdaaGreatDoor
open Go.ChangeShapes Go.WideShapes Go.ChangeAt Go.RowKit

theorem cellsVd : Tryz.prog.cellsOf 41 = 17 := by kernel_rfl
theorem cellsDig : Tryz.prog.cellsOf 24 = 16 := by kernel_rfl
theorem cellsI : Tryz.prog.cellsOf 3 = 1 := by kernel_rfl
theorem cellsU8 : Tryz.prog.cellsOf 5 = 1 := by kernel_rfl

section
variable {H : Type} {enc : TypeId × Value → H} {w : World} {base : Nat} {spare : Nat → Bool} {held : Bool} {fuel : Nat} {cs : List Value} {x : DataW H × List MemPlace}
theorem open_vd (h : DataW.trod enc Tryz.prog w base spare held fuel 41 cs = some x) :
    ∃ y : Vd, cs = y.cells ∧ y.key.length = 16 ∧ (Lit.int .i64 y.p).wf = true := by
  obtain ⟨y0, y1, n, _, hlen, h0, h1⟩ := trod_struct2 Tryz.underlying41 h
  rw [cellsVd] at hlen
  obtain ⟨l, hl, hl16, _, _⟩ := arr_of_trod Tryz.underlying24 Tryz.underlying5 cellsU8 cellsDig h0
  obtain ⟨p, hp, _, hwf⟩ := DataW.trod_int Tryz.underlying3 h1
  dsimp only at hl hp
  rw [cellsDig] at hl
  rw [cellsI] at hp
  refine ⟨⟨l, p⟩, ?_, hl16, hwf⟩
  have e : cs = cs.take 16 ++ (cs.drop 16).take 1 := by
    rw [List.take_of_length_le (l := cs.drop 16) (by simp; omega), List.take_append_drop]
  rw [e, hp, show cs.take 16 = l.map (Value.int .u8) from hl]
  rfl
theorem open_vds (h : DataW.trod enc Tryz.prog w base spare held fuel 22 cs = some x) :
    ∃ A n c, ∃ xs : List Vd, cs = [.slice A n c] ∧ xs.length = n ∧ n ≤ c ∧ VdsAt w A xs ∧ keysOk xs ∧ ∀ y ∈ xs, (Lit.int .i64 y.p).wf = true := by
  rcases DataW.trod_slice Tryz.underlying22 h with ⟨hcs, _⟩ | ⟨a, len, cap, elems, rest, n, _, hcs, _, _, hl, _, hlen, hel, _⟩
  · exact ⟨none, 0, 0, [], hcs, rfl, Nat.le_refl _, fun h => absurd rfl h, fun _ h => by simp at h, fun _ h => by simp at h⟩
  · rw [cellsVd] at hel
    have each : ∀ i, i < len → ∃ o : Vd, o.key.length = 16 ∧ (Lit.int .i64 o.p).wf = true ∧ ∀ j v, o.cells[j]? = some v → w.cell? (a.add (i * 17 + j)) = some v := by
      intro i hi
      have hE := hel i hi
      have hi' : i < elems.length := by omega
      rw [List.getElem?_eq_getElem hi'] at hE
      simp only [Option.bind_eq_some_iff] at hE
      obtain ⟨cs', hc', ht⟩ := hE
      obtain ⟨y, rfl, h16, hwf⟩ := open_vd ht
      obtain ⟨_, _, hat⟩ := World.cells?_some hc'
      refine ⟨y, h16, hwf, fun j v hv => ?_⟩
      rw [← Go.Deep.add_add]
      have hj : j < 17 := by have := (List.getElem?_eq_some_iff.1 hv).1; rwa [Vd.cells_length h16] at this
      rw [hat j hj, hv]
    let ops : List Vd := (List.range len).map fun i => if h : i < len then (each i h).choose else ⟨[], 0⟩
    have hops : ops.length = len := by simp [ops]
    have hget : ∀ k (hk : k < ops.length), ∃ hk' : k < len, ops[k] = (each k hk').choose := fun k hk => ⟨by omega, by simp [ops, show k < len by omega]⟩
    refine ⟨some a, len, cap, ops, hcs, hops, hl, fun hne => ?_, fun y hy => ?_, fun y hy => ?_⟩
    · have h0 : 0 < len := by rw [← hops]; exact List.length_pos_iff.2 hne
      have hspot : ∃ b off, a = ⟨b, off, none⟩ := by
        obtain ⟨o, h16, _, hc⟩ := each 0 h0
        have h1 : 0 < o.cells.length := by rw [Vd.cells_length h16]; omega
        exact addr_form (hc 0 _ (List.getElem?_eq_getElem h1)) rfl
      obtain ⟨b, off, rfl⟩ := hspot
      refine ⟨b, off, rfl, fun k hk j v hv => ?_⟩
      obtain ⟨hk', e⟩ := hget k hk
      rw [e] at hv
      have := (each k hk').choose_spec.2.2 j v hv
      rw [Go.WideShapes.add_plain, ← Nat.add_assoc] at this
      exact this
    · obtain ⟨k, hk, rfl⟩ := List.getElem_of_mem hy
      obtain ⟨hk', e⟩ := hget k hk
      rw [e]
      exact (each k hk').choose_spec.1
    · obtain ⟨k, hk, rfl⟩ := List.getElem_of_mem hy
      obtain ⟨hk', e⟩ := hget k hk
      rw [e]
      exact (each k hk').choose_spec.2.1
set_option maxRecDepth 100000 in
theorem arg_vds {v : Value} {d : DataW H} {p : List MemPlace} {b0 : Nat} (hv : Value.okWide Tryz.prog w .any b0 22 v) (h : DataW.Trod enc Tryz.prog w base spare held 22 v d p) :
    ∃ A c, ∃ xs : List Vd, v = .slice A xs.length c ∧ xs.length ≤ c ∧ VdsAt w A xs ∧ keysOk xs ∧ ∀ y ∈ xs, (Lit.int .i64 y.p).wf = true := by
  obtain ⟨a0, len, cap, rfl⟩ := okWide_slice Tryz.underlying22 hv
  obtain ⟨fuel, hf⟩ := h
  obtain ⟨A, n, c, xs, hcs, rfl, hc, hb⟩ := open_vds hf
  have e : Value.slice a0 len cap = .slice A xs.length c := (List.cons.inj (show [Value.slice a0 len cap] = [Value.slice A xs.length c] from hcs)).1
  exact ⟨A, c, xs, e, hc, hb⟩
end
end Go.Proofs.YtmoebkdbnldbdaaGreatDoor
/-
  An argument opened: a ground.
-/
namespace Go.Proofs.YtmoebkdbnldbdaaGreatDoor
open Go.ChangeShapes Go.WideShapes Go.ChangeAt Go.RowKit

theorem cellsVdsJ : Tryz.prog.cellsOf 22 = 1 := by kernel_rfl
theorem cellsGrJ : Tryz.prog.cellsOf 26 = 18 := by kernel_rfl
section
variable {H : Type} {enc : TypeId × Value → H} {w : World} {base : Nat} {spare : Nat → Bool} {held : Bool} {fuel : Nat} {cs : List Value} {x : DataW H × List MemPlace}
set_option maxRecDepth 100000 in
theorem open_grJ (h : DataW.trod enc Tryz.prog w base spare held fuel 26 cs = some x) :
    ∃ e A c, ∃ V : List Vd, ∃ Gl : List Int, cs = (grV e (.slice A V.length c) (arrV .u8 Gl)).toList ∧ VdsAt w A V ∧ keysOk V ∧ V.length ≤ c ∧ Gl.length = 16 := by
  obtain ⟨y0, y1, y2, n, _, hlen, h0, h1, h2⟩ := Go.Deep.trod_struct3 Tryz.underlying26 h
  rw [cellsGrJ] at hlen
  obtain ⟨e, e0, _, _⟩ := DataW.trod_int Tryz.underlying3 h0
  obtain ⟨A, m, c, V, e1, rfl, hc, hV, ok, _⟩ := open_vds h1
  obtain ⟨l, hl, hl16, _, _⟩ := arr_of_trod Tryz.underlying24 Tryz.underlying5 cellsU8 cellsDig h2
  refine ⟨e, A, c, V, l, ?_, hV, ok, hc, hl16⟩
  dsimp only at e0 e1 hl
  rw [cellsI] at e0
  rw [cellsVdsJ] at e1
  rw [cellsDig] at hl
  have q (i : Nat) : cs.drop i = (cs.drop i).take 1 ++ cs.drop (i + 1) := by
    have := (List.take_append_drop 1 (cs.drop i)).symm
    rwa [List.drop_drop] at this
  have t5 : (cs.drop 2).take 16 = cs.drop 2 := List.take_of_length_le (by simp; omega)
  rw [t5] at hl
  have q0 := q 0
  rw [List.drop_zero] at q0 e0
  rw [q0, q 1, e0, e1, hl]
  simp [grV, arrV]
set_option maxRecDepth 100000 in
theorem arg_gr {v : Value} {d : DataW H} {p : List MemPlace} {b0 : Nat} (hv : Value.okWide Tryz.prog w .any b0 26 v) (h : DataW.Trod enc Tryz.prog w base spare held 26 v d p) :
    ∃ e A c, ∃ V : List Vd, ∃ Gl : List Int, v = .agg (grV e (.slice A V.length c) (arrV .u8 Gl)) ∧ VdsAt w A V ∧ keysOk V ∧ V.length ≤ c ∧ Gl.length = 16 := by
  obtain ⟨cs, rfl, hsz⟩ := okWide_struct Tryz.underlying26 hv
  obtain ⟨fuel, hf⟩ := h
  obtain ⟨e, A, c, V, Gl, e2, h1, h2, h3, h4⟩ := open_grJ hf
  refine ⟨e, A, c, V, Gl, ?_, h1, h2, h3, h4⟩
  have e3 : cs.toList = (grV e (.slice A V.length c) (arrV .u8 Gl)).toList := e2
  rw [Array.toList_inj.1 e3]
end
end Go.Proofs.YtmoebkdbnldbdaaGreatDoor
/-
  Parts of a row of Changes; a walk, for the law.
-/
namespace Go.Proofs.YtmoebkdbnldbdaaGreatDoor
open Go.RowKit

attribute [local go_sem] Oper.semAt_some

theorem yieldsIf_slice {P : Program} {ops : Array Oper} {S : World → Prop} {o : Oper} {a : Act} (hw : Region.wanted o (yielded ops a.tmps) = true) (t : TypeId) (x : Operand) (lo hi mx : Option Operand) (ho : o.op = .slice t x lo hi mx) (V : Value)
    (hr : ∀ w, Sem.run P (Instr.sliceAt t (a.eval x) (lo.map a.eval) (hi.map a.eval) (mx.map a.eval)) w = .ok V w) : YieldsIf P ops S o V a := .inl ⟨hw, fun w _ => by
  unfold execOp
  simp only [ho]
  simp [hr w]⟩
def ptrLo (A : Option Addr) (c K : Nat) : Option Addr := if c = K then A else A.map (·.add (K * 136))
theorem wpList_load_mid_g {P : Program} {ops : Array Oper} {rest : List Oper} {op : Oper} {a : Act} {w : World} {Q : Exit → Act → World → Prop} (hw : Region.wanted op (yielded ops a.tmps) = true) (ty : TypeId) (x : Operand) (ho : op.op = .load ty x)
    (b o : Nat) (hx : a.eval x = .pointer (some ⟨b, o, none⟩)) (cs : List Value) (d : TypeDesc) (hc : w.rangeAt b o cs)
    (hu : P.underlying ty = some d) (hd : d.isRow = true) (hi : (P.info? ty).map (·.size) = some cs.length)
    (h : wpList P ops Q rest (a.put op.dst (.agg cs.toArray)) w) : wpList P ops Q (op :: rest) a w := by
  rw [wpList, if_pos hw]
  exact .inl (wp_load_mid ty x ho b o hx cs d hc hu hd hi h)
theorem walkG_num (QF : Gd → Qc → Nat) : ∀ (M : List Ch) (k : Nat) (g : Gd), (walkG QF k g M).2.1 ≤ k + M.length
  | [], _, _ => Nat.le_refl _
  | c :: cs, k, g => by
    rw [walkG]
    by_cases h1 : (stepG QF g c).1 ≠ 0
    · rw [if_pos h1]; exact Nat.le_add_right _ _
    · rw [if_neg h1, List.length_cons]
      have := walkG_num QF cs (k + 1) (stepG QF g c).2
      omega
theorem walkG_parts (QF : Gd → Qc → Nat) (g : Gd) (L : List Ch) (K : Nat) (hK : K ≤ L.length) {ga gh gr : Gd} {na ea kh eh jr er : Nat} (h1 : walkG QF 0 g L = (ga, na, ea)) (h2 : walkG QF 0 g (L.take K) = (gh, kh, eh)) (h3 : walkG QF 0 gh (L.drop K) = (gr, jr, er)) :
    (eh ≠ 0 → ga = gh ∧ na = kh ∧ ea = eh) ∧ (eh = 0 → kh = K ∧ ga = gr ∧ na = K + jr ∧ ea = er ∧ jr ≤ L.length - K) := by
  have e := walkG_app QF (L.take K) 0 g (L.drop K)
  rw [List.take_append_drop, h1, h2] at e
  dsimp only at e
  refine ⟨fun h => ?_, fun h => ?_⟩
  · rw [if_pos h] at e
    injection e with e1 e2
    injection e2 with e2 e3
    exact ⟨e1, e2, e3⟩
  · rw [if_neg (by omega)] at e
    have hk := walkG_len QF (L.take K) 0 g (by rw [h2]; exact h)
    rw [h2, List.length_take] at hk
    have hk' : kh = K := by have : kh = 0 + min K L.length := hk; omega
    have h4 := walkG_shift QF (L.drop K) kh 0 gh
    rw [h3, Nat.add_zero] at h4
    rw [h4] at e
    injection e with e1 e2
    injection e2 with e2 e3
    have h5 := walkG_num QF (L.drop K) 0 gh
    rw [h3, List.length_drop] at h5
    have h6 : jr ≤ 0 + (L.length - K) := h5
    exact ⟨hk', e1, by rw [e2, hk'], e3, by omega⟩
theorem chs_take {w : World} {A : Option Addr} {L : List Ch} (h : ChsAt w A L) (K : Nat) : ChsAt w A (L.take K) := by
  refine ⟨fun hne => ?_, fun ch hch => h.2 ch (List.mem_of_mem_take hch)⟩
  have hL : L ≠ [] := by rintro rfl; simp at hne
  obtain ⟨b, off, rfl, hat⟩ := h.1 hL
  refine ⟨b, off, rfl, fun k hk => ?_⟩
  rw [List.getElem_take]
  rw [List.length_take] at hk
  exact hat k (by omega)
theorem chs_drop {w : World} {A : Option Addr} {L : List Ch} (h : ChsAt w A L) (c K : Nat) (hc : L.length ≤ c) : ChsAt w (ptrLo A c K) (L.drop K) := by
  refine ⟨fun hne => ?_, fun ch hch => h.2 ch (List.mem_of_mem_drop hch)⟩
  have hl := List.length_pos_iff.2 hne
  rw [List.length_drop] at hl
  obtain ⟨b, off, rfl, hat⟩ := h.1 (by rintro rfl; simp at hl)
  refine ⟨b, off + K * 136, ?_, fun k hk => ?_⟩
  · rw [ptrLo, if_neg (by omega), Option.map_some, Go.WideShapes.add_plain]
  · rw [List.getElem_drop]
    rw [List.length_drop] at hk
    have := hat (K + k) (by omega)
    rw [Nat.add_mul, ← Nat.add_assoc] at this
    exact this
theorem run_hi (A : Option Addr) (N c K : Nat) (hK : K ≤ c) (w : World) : Sem.run Tryz.prog (Instr.sliceAt 27 (.slice A N c) none (some (.int .i64 (K : Int))) none) w = .ok (.slice A K c) w := by
  have hs : (Tryz.prog.info? 54).map (·.size) = some 136 := sz_CGq
  have hu := Tryz.underlying27
  have h1 : (0 : Int) ≤ (K : Int) := by omega
  have h2 : (K : Int) ≤ (c : Int) := by omega
  go_simp
theorem run_lo (A : Option Addr) (N c K : Nat) (hK : K ≤ N) (hc : N ≤ c) (w : World) : Sem.run Tryz.prog (Instr.sliceAt 27 (.slice A N c) (some (.int .i64 (K : Int))) none none) w = .ok (.slice (ptrLo A c K) (N - K) (c - K)) w := by
  have hs : (Tryz.prog.info? 54).map (·.size) = some 136 := sz_CGq
  have h1 : (0 : Int) ≤ (K : Int) := by omega
  have h2 : (K : Int) ≤ (N : Int) := by omega
  go_simp
  rfl
set_option maxRecDepth 100000 in
theorem same_gd (w : World) (g : Gd) (A1 A2 : Option Addr) (c1 c2 : Nat) (hg : g.ok) (h1 : VdsAt w A1 g.V) (h2 : VdsAt w A2 g.V) (x y : Array Value) (hx : x = g.val A1 c1) (hy : y = g.val A2 c2) :
    Calls Tryz.prog 7 #[.agg x, .agg y] w fun e w' => e = .returned (.bool true) ∧ w.grownBy w' none := by
  have := rgsame_is w g.e g.e A1 A2 g.V.length c1 g.V.length c2 g.V g.V rfl rfl h1 h2 hg.1 hg.1 (by have := hg.2.1; omega) g.g g.g hg.2.2 hg.2.2 x y hx hy
  rw [sameS_selfN] at this
  simpa using this
theorem walk_st (w : World) (E : Nat → Addr) (hR : Rounds w) (he : ErrEnv w w.heap.size E) (g : Gd) (A : Option Addr) (c : Nat) (hg : g.ok) (hV : VdsAt w A g.V) (gv : Array Value) (hgv : g.val A c = gv) (L : List Ch) (A2 : Option Addr) (c2 N : Nat) (hN : L.length = N) (hL : ChsAt w A2 L) (hPQ : ∀ ch ∈ L, PQn ch.y.q ∧ PQn ch.z.q ∧ PQn ch.q) (h8 : N ≤ 8) :
    Calls Tryz.prog 5 #[.agg gv, .slice A2 N c2] w fun e' w' => w.grownBy w' none ∧ ∃ A' c' rv, e' = .returned (.tuple #[.agg rv, .int .i64 ((walkG QFn 0 g L).2.1 : Nat), evOf E (walkG QFn 0 g L).2.2]) ∧ rv = (walkG QFn 0 g L).1.val A' c' ∧ VdsAt w' A' (walkG QFn 0 g L).1.V ∧ FarV w.heap.size A' (walkG QFn 0 g L).1.V ∧ (walkG QFn 0 g L).1.ok := by
  have h := walk_is w E hR he QFn PQn (fun W hW => ground_qc w E hR he W hW) g A c hg hV gv hgv L A2 c2 hL hPQ
  rw [hN] at h
  have e1 : walkF QFn g L = walkG QFn 0 g L := by rw [walkF, if_neg (by omega)]
  rw [e1] at h
  refine h.mono ?_
  rintro e' w' ⟨g1, A', c', rfl, hv, hf⟩
  exact ⟨g1, A', c', _, rfl, rfl, hv, hf, walkG_ok L 0 g hg hL.2⟩
end Go.Proofs.YtmoebkdbnldbdaaGreatDoor
