/-
  Guard: a row of steps as an argument.
-/
import Derived.Test.YthkjlgjbjjjohaaGreatDoorGdK
import Derived.Test.YthkjlgjbjjjohaaGreatDoorDkG2
namespace Go.Proofs.YthkjlgjbjjjohaaGreatDoor
open Go.ChangeShapes Go.WideShapes Go.ChangeAt Go.RowKit

/-- A step of a script: what is asked and its digest, its kind, its number, its list (where it lies, its room). -/
structure GOp where
  x : Stp
  d : List Int
  k : Int
  n : Int
  A : Option Addr
  c : Nat
  l : List Bool
def GOp.cells (o : GOp) : List Value := (askC o.x (arrV .u8 o.d)).toList ++ [.int .i64 o.k, .int .i64 o.n, .slice o.A o.l.length o.c]
def in64 (z : Int) : Prop := -9223372036854775808 ≤ z ∧ z < 9223372036854775808
def GOp.fits (o : GOp) : Prop := isDig o.d ∧ in64 o.x.ep ∧ in64 o.x.r ∧ in64 o.x.q ∧ in64 o.n
def GOpR (w : World) (o : GOp) (cs : List Value) : Prop := cs = o.cells ∧ BoolsAt w o.A o.l ∧ o.fits
/-- The steps zs lie at A. -/
def GOpsAt (w : World) (A : Option Addr) (zs : List GOp) : Prop := zs ≠ [] → ∃ b off, A = some ⟨b, off, none⟩ ∧ ∀ k (h : k < zs.length), w.rangeAt b (off + k * 24) zs[k].cells ∧ BoolsAt w zs[k].A zs[k].l ∧ zs[k].fits
theorem wf_in {z : Int} (h : (Lit.int .i64 z).wf = true) : in64 z := by
  have h2 : decide (-9223372036854775808 ≤ z) = true ∧ decide (z ≤ 9223372036854775807) = true := Bool.and_eq_true_iff.1 h
  have h3 := of_decide_eq_true h2.1
  have h4 := of_decide_eq_true h2.2
  exact ⟨h3, by omega⟩
theorem GOp.cells_len {o : GOp} (h : isDig o.d) : o.cells.length = 24 := by
  simp only [GOp.cells, List.length_append, Array.length_toList, List.length_cons, List.length_nil]
  rw [askC_size _ (by rw [arr_size, h.1])]
section
variable {H : Type} {enc : TypeId × Value → H} {w : World} {base : Nat} {spare : Nat → Bool} {held : Bool} {fuel : Nat} {cs : List Value} {x : DataW H × List MemPlace}
theorem cellsInt14 : Tryz.prog.cellsOf 3 = 1 := by kernel_rfl
theorem cellsU814 : Tryz.prog.cellsOf 5 = 1 := by kernel_rfl
theorem cellsDig14 : Tryz.prog.cellsOf 23 = 16 := by kernel_rfl
theorem cellsBools14 : Tryz.prog.cellsOf 31 = 1 := by kernel_rfl
theorem cellsAsk14 : Tryz.prog.cellsOf 30 = 21 := by kernel_rfl
theorem cellsGOp : Tryz.prog.cellsOf 33 = 24 := by kernel_rfl
set_option maxRecDepth 100000 in
theorem open_Ask {cs : List Value} (h : DataW.trod enc Tryz.prog w base spare held fuel 30 cs = some x) : ∃ (z : Stp) (d : List Int), cs = (askC z (arrV .u8 d)).toList ∧ isDig d ∧ in64 z.ep ∧ in64 z.r ∧ in64 z.q := by
  obtain ⟨xs, n, _, hx, hlen, hxl, hf⟩ := DataW.trod_struct Tryz.underlying30 h
  rw [cellsAsk14] at hlen
  match xs, hxl with
  | [y0, y1, y2, y3, y4, y5], _ =>
    have f0 : DataW.trod enc Tryz.prog w base spare held n 3 ((cs.drop 0).take (Tryz.prog.cellsOf 3)) = some y0 := hf 0 _ rfl
    have f1 : DataW.trod enc Tryz.prog w base spare held n 3 ((cs.drop 1).take (Tryz.prog.cellsOf 3)) = some y1 := hf 1 _ rfl
    have f2 : DataW.trod enc Tryz.prog w base spare held n 3 ((cs.drop 2).take (Tryz.prog.cellsOf 3)) = some y2 := hf 2 _ rfl
    have f3 : DataW.trod enc Tryz.prog w base spare held n 3 ((cs.drop 3).take (Tryz.prog.cellsOf 3)) = some y3 := hf 3 _ rfl
    have f4 : DataW.trod enc Tryz.prog w base spare held n 3 ((cs.drop 4).take (Tryz.prog.cellsOf 3)) = some y4 := hf 4 _ rfl
    have f5 : DataW.trod enc Tryz.prog w base spare held n 23 ((cs.drop 5).take (Tryz.prog.cellsOf 23)) = some y5 := hf 5 _ rfl
    rw [cellsInt14] at f0 f1 f2 f3 f4
    rw [cellsDig14] at f5
    obtain ⟨z0, e0, _, _⟩ := DataW.trod_int Tryz.underlying3 f0
    obtain ⟨z1, e1, _, w1⟩ := DataW.trod_int Tryz.underlying3 f1
    obtain ⟨z2, e2, _, w2⟩ := DataW.trod_int Tryz.underlying3 f2
    obtain ⟨z3, e3, _, w3⟩ := DataW.trod_int Tryz.underlying3 f3
    obtain ⟨z4, e4, _, _⟩ := DataW.trod_int Tryz.underlying3 f4
    obtain ⟨l, hl, hl16, _, hwf⟩ := arr_of_trod Tryz.underlying23 Tryz.underlying5 cellsU814 cellsDig14 f5
    refine ⟨⟨z0, z1, z2, z3, z4⟩, l, ?_, ⟨hl16, fun z hz => ?_⟩, wf_in w1, wf_in w2, wf_in w3⟩
    · rw [askC_list]
      have t5 : (cs.drop 5).take 16 = cs.drop 5 := List.take_of_length_le (by simp; omega)
      rw [t5] at hl
      have d0 : cs = cs.take 1 ++ (((cs.drop 1).take 1) ++ (((cs.drop 2).take 1) ++ (((cs.drop 3).take 1) ++ (((cs.drop 4).take 1) ++ cs.drop 5)))) := by
        have q (i : Nat) : cs.drop i = (cs.drop i).take 1 ++ cs.drop (i + 1) := by
          have := (List.take_append_drop 1 (cs.drop i)).symm
          rwa [List.drop_drop] at this
        have q0 := q 0
        rw [List.drop_zero] at q0
        conv => lhs; rw [q0, q 1, q 2, q 3, q 4]
      rw [d0, show cs.take 1 = [Value.int .i64 z0] from e0, e1, e2, e3, e4, hl]
      simp
    · have := hwf z hz
      have hz : 0 ≤ z ∧ z ≤ 255 := by simpa [Lit.wf, IntKind.min, IntKind.max, IntKind.signed, IntKind.bits] using this
      omega
set_option maxRecDepth 100000 in
theorem open_GOp {cs : List Value} (h : DataW.trod enc Tryz.prog w base spare held fuel 33 cs = some x) : ∃ z : GOp, GOpR w z cs := by
  obtain ⟨xs, n, _, hx, hlen, hxl, hf⟩ := DataW.trod_struct Tryz.underlying33 h
  rw [cellsGOp] at hlen
  match xs, hxl with
  | [y0, y1, y2, y3], _ =>
    have f0 : DataW.trod enc Tryz.prog w base spare held n 30 ((cs.drop 0).take (Tryz.prog.cellsOf 30)) = some y0 := hf 0 _ rfl
    have f1 : DataW.trod enc Tryz.prog w base spare held n 3 ((cs.drop 21).take (Tryz.prog.cellsOf 3)) = some y1 := hf 1 _ rfl
    have f2 : DataW.trod enc Tryz.prog w base spare held n 3 ((cs.drop 22).take (Tryz.prog.cellsOf 3)) = some y2 := hf 2 _ rfl
    have f3 : DataW.trod enc Tryz.prog w base spare held n 31 ((cs.drop 23).take (Tryz.prog.cellsOf 31)) = some y3 := hf 3 _ rfl
    rw [cellsAsk14] at f0
    rw [cellsInt14] at f1 f2
    rw [cellsBools14] at f3
    obtain ⟨z, d, e0, hd, h1, h2, h3⟩ := open_Ask f0
    obtain ⟨k, e1, _, _⟩ := DataW.trod_int Tryz.underlying3 f1
    obtain ⟨m, e2, _, w2⟩ := DataW.trod_int Tryz.underlying3 f2
    obtain ⟨A, m3, c3, ps, e3, h5, _, h6⟩ := open_bls f3
    subst h5
    refine ⟨⟨z, d, k, m, A, c3, ps⟩, ?_, h6, hd, h1, h2, h3, wf_in w2⟩
    show cs = (askC z (arrV .u8 d)).toList ++ [.int .i64 k, .int .i64 m, .slice A ps.length c3]
    rw [← e0]
    have q (i : Nat) : cs.drop i = (cs.drop i).take 1 ++ cs.drop (i + 1) := by
      have := (List.take_append_drop 1 (cs.drop i)).symm
      rwa [List.drop_drop] at this
    have d0 : cs = cs.take 21 ++ cs.drop 21 := (List.take_append_drop 21 cs).symm
    have e24 : cs.drop 24 = [] := List.drop_of_length_le (by omega)
    conv => lhs; rw [d0, q 21, q 22, q 23, e24, e1, e2, e3]
    rfl
theorem open_gops (h : DataW.trod enc Tryz.prog w base spare held fuel 24 cs = some x) :
    ∃ A n c, ∃ zs : List GOp, cs = [.slice A n c] ∧ zs.length = n ∧ n ≤ c ∧ GOpsAt w A zs := by
  obtain ⟨A, n, c, zs, hcs, hn, hc, hat⟩ := open_elems Tryz.underlying24 cellsGOp (GOpR w) ⟨⟨0, 0, 0, 0, 0⟩, [], 0, 0, none, 0, []⟩ (fun h => open_GOp h) h
  refine ⟨A, n, c, zs, hcs, hn, hc, fun hne => ?_⟩
  obtain ⟨ad, eA, hat2⟩ := hat hne
  obtain ⟨b, off, rfl⟩ : ∃ b off, ad = ⟨b, off, none⟩ := by
    obtain ⟨es, ⟨rfl, _⟩, hl, hcell⟩ := hat2 0 (List.length_pos_iff.2 hne)
    have := hcell 0 (by omega)
    rw [Nat.zero_mul, Nat.zero_add, List.getElem?_eq_getElem (by omega)] at this
    exact addr_form this rfl
  refine ⟨b, off, eA, fun k hk => ?_⟩
  obtain ⟨es, ⟨rfl, h1, h2⟩, h3, hcell⟩ := hat2 k hk
  refine ⟨fun j v hj => ?_, h1, h2⟩
  have hj4 : j < 24 := by rw [← h3]; exact (List.getElem?_eq_some_iff.1 hj).1
  have := hcell j hj4
  rw [Go.WideShapes.add_plain, ← Nat.add_assoc, hj] at this
  exact this
set_option maxRecDepth 100000 in
theorem arg_gops {v : Value} {d : DataW H} {p : List MemPlace} {b0 : Nat} (hv : Value.okWide Tryz.prog w .any b0 24 v) (h : DataW.Trod enc Tryz.prog w base spare held 24 v d p) :
    ∃ A n c, ∃ zs : List GOp, v = .slice A n c ∧ zs.length = n ∧ n ≤ c ∧ GOpsAt w A zs := by
  obtain ⟨a0, len, cap, rfl⟩ := okWide_slice Tryz.underlying24 hv
  obtain ⟨fuel, hf⟩ := h
  obtain ⟨A, n, c, xs, hcs, hn, hc, hb⟩ := open_gops hf
  have e : Value.slice a0 len cap = .slice A n c := (List.cons.inj (show [Value.slice a0 len cap] = [Value.slice A n c] from hcs)).1
  exact ⟨A, n, c, xs, e, hn, hc, hb⟩
end
theorem GOpsAt.grown {w w' : World} {A : Option Addr} {zs : List GOp} (h : GOpsAt w A zs) (hg : w.grownBy w' none) : GOpsAt w' A zs := fun hne => by
  obtain ⟨b, off, eA, hc⟩ := h hne
  exact ⟨b, off, eA, fun k hk => ⟨fun j v hv => hg.cell ((hc k hk).1 j v hv) (by simp), (hc k hk).2.1.grown hg, (hc k hk).2.2⟩⟩
end Go.Proofs.YthkjlgjbjjjohaaGreatDoor
