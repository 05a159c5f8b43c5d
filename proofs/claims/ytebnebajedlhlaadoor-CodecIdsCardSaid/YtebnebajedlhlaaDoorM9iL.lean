/-
  Several texts in one: DiK, CdA.
-/
import Derived.Test.YtebnebajedlhlaaDoorM9ir
import Derived.Test.YtebnebajedlhlaaDoorM9iK
import Derived.Test.YtebnebajedlhlaaDoorM9il
import Derived.Deep.Strs
import Derived.Lib.SmallJoins
import Derived.ChangeSame
import Derived.Test.YtebnebajedlhlaaDoorM9iu
/-
  An argument opened: a row of digests.
-/
namespace Go.Proofs.YtebnebajedlhlaaDoor
open Go.ChangeShapes Go.WideShapes Go.ChangeAt Go.RowKit

section
variable {H : Type} {enc : TypeId × Value → H} {w : World} {base : Nat} {spare : Nat → Bool} {held : Bool} {fuel : Nat} {cs : List Value} {x : DataW H × List MemPlace}
theorem cellsOf_digest : Tryd.prog.cellsOf 23 = 16 := by kernel_rfl
theorem open_digs (h : DataW.trod enc Tryd.prog w base spare held fuel 44 cs = some x) :
    ∃ A n c, ∃ ps : List (List Int), cs = [.slice A n c] ∧ ps.length = n ∧ n ≤ c ∧ (∀ p ∈ ps, isDig p) ∧ (ps ≠ [] → ∃ ad, A = some ad ∧ ∀ i (_ : i < ps.length), ∀ j, j < 16 → w.cell? (ad.add (i * 16 + j)) = (ps[i].map (Value.int .u8))[j]?) := by
  obtain ⟨A, n, c, ps, hcs, hn, hc, hat⟩ := open_elems Tryd.underlying44 cellsOf_digest (fun (l : List Int) es => es = l.map (Value.int .u8) ∧ isDig l) zeroC (fun h => by
    obtain ⟨l, h1, h2, _, h4⟩ := arr_of_trod (n := 16) Tryd.underlying23 Tryd.underlying5 (by kernel_rfl) (by kernel_rfl) h
    exact ⟨l, h1, h2, fun z hz => by
      have := h4 z hz
      simp [Lit.wf, IntKind.min, IntKind.max, IntKind.signed, IntKind.bits] at this
      omega⟩) h
  refine ⟨A, n, c, ps, hcs, hn, hc, fun p hp => ?_, fun hne => ?_⟩
  · have hne : ps ≠ [] := by rintro rfl; cases hp
    obtain ⟨ad, _, hat2⟩ := hat hne
    obtain ⟨i, hi, rfl⟩ := List.mem_iff_getElem.1 hp
    obtain ⟨es, ⟨_, h2⟩, _⟩ := hat2 i hi
    exact h2
  · obtain ⟨ad, eA, hat2⟩ := hat hne
    refine ⟨ad, eA, fun i hi j hj => ?_⟩
    obtain ⟨es, ⟨rfl, _⟩, _, h3⟩ := hat2 i hi
    exact h3 j hj
set_option maxRecDepth 100000 in
theorem arg_digs {v : Value} {d : DataW H} {p : List MemPlace} {b0 : Nat} (hv : Value.okWide Tryd.prog w .any b0 44 v) (h : DataW.Trod enc Tryd.prog w base spare held 44 v d p) :
    ∃ A n c, ∃ ps : List (List Int), v = .slice A n c ∧ ps.length = n ∧ n ≤ c ∧ (∀ p ∈ ps, isDig p) ∧ (ps ≠ [] → ∃ ad, A = some ad ∧ ∀ i (_ : i < ps.length), ∀ j, j < 16 → w.cell? (ad.add (i * 16 + j)) = (ps[i].map (Value.int .u8))[j]?) := by
  obtain ⟨a0, len, cap, rfl⟩ := okWide_slice Tryd.underlying44 hv
  obtain ⟨fuel, hf⟩ := h
  obtain ⟨A, n, c, xs, hcs, hn, hc, hb⟩ := open_digs hf
  have e : Value.slice a0 len cap = .slice A n c := (List.cons.inj (show [Value.slice a0 len cap] = [Value.slice A n c] from hcs)).1
  exact ⟨A, n, c, xs, e, hn, hc, hb⟩
end
/-- Its place: a block and an offset. -/
theorem digs_at {w : World} {A : Option Addr} {ps : List (List Int)} (hne : ps ≠ []) (hd : ∀ p ∈ ps, isDig p) (h : ps ≠ [] → ∃ ad, A = some ad ∧ ∀ i (_ : i < ps.length), ∀ j, j < 16 → w.cell? (ad.add (i * 16 + j)) = (ps[i].map (Value.int .u8))[j]?) :
    ∃ b off, A = some ⟨b, off, none⟩ ∧ DigsAt w b off ps := by
  obtain ⟨⟨b, off, spot⟩, rfl, hc⟩ := h hne
  have hl : 0 < ps.length := List.length_pos_iff.2 hne
  have h0 := hc 0 hl 0 (by omega)
  have hl16 := (hd _ (List.getElem_mem hl)).1
  rw [List.getElem?_eq_getElem (by rw [List.length_map, hl16]; omega)] at h0
  have hspot : spot = none := by simpa [Addr.add] using World.cell?_spot h0
  subst hspot
  refine ⟨b, off, rfl, fun j hj i v hv => ?_⟩
  have hg : ps.getD j zeroC = ps[j] := by rw [List.getD, List.getElem?_eq_getElem hj]; rfl
  rw [hg] at hv
  have hi : i < 16 := by
    have := (List.getElem?_eq_some_iff.1 hv).1
    rw [Array.length_toList, arr_size, (hd _ (List.getElem_mem hj)).1] at this
    exact this
  have := hc j hj i hi
  rw [Addr.add_mid] at this
  rw [Nat.add_assoc, this]
  simpa [arrV] using hv
end Go.Proofs.YtebnebajedlhlaaDoor
/-
  An argument opened: a block (api.Block).
-/
namespace Go.Proofs.YtebnebajedlhlaaDoor
open Go.ChangeShapes Go.WideShapes Go.ChangeAt Go.RowKit

theorem cellsBkD : Tryd.prog.cellsOf 23 = 16 := by kernel_rfl
theorem cellsBkI : Tryd.prog.cellsOf 3 = 1 := by kernel_rfl
theorem cellsBkU8 : Tryd.prog.cellsOf 5 = 1 := by kernel_rfl
theorem cellsBkSig : Tryd.prog.cellsOf 46 = 3 := by kernel_rfl
theorem cellsBkSg : Tryd.prog.cellsOf 48 = 4 := by kernel_rfl
theorem cellsBkDs : Tryd.prog.cellsOf 44 = 1 := by kernel_rfl
theorem cellsBkSs : Tryd.prog.cellsOf 24 = 1 := by kernel_rfl
theorem cellsBkVs : Tryd.prog.cellsOf 28 = 1 := by kernel_rfl
theorem cellsBkV : Tryd.prog.cellsOf 90 = 17 := by kernel_rfl
theorem cellsBkTs : Tryd.prog.cellsOf 27 = 1 := by kernel_rfl
theorem cellsBkB : Tryd.prog.cellsOf 33 = 1 := by kernel_rfl
theorem cellsBkQ : Tryd.prog.cellsOf 26 = 19 := by kernel_rfl
theorem cellsBk : Tryd.prog.cellsOf 30 = 39 := by kernel_rfl
theorem dig_wfB {l : List Int} (h16 : l.length = 16) (h : ∀ z ∈ l, (Lit.int .u8 z).wf = true) : isDig l := ⟨h16, fun z hz => by
  have := h z hz
  simp [Lit.wf, IntKind.min, IntKind.max, IntKind.signed, IntKind.bits] at this
  omega⟩
section
variable {H : Type} {enc : TypeId × Value → H} {w : World} {base : Nat} {spare : Nat → Bool} {held : Bool} {fuel : Nat} {cs : List Value} {x : DataW H × List MemPlace}
theorem elems_row {α : Type} {k : Nat} {cel : α → List Value} {Ok : α → Prop} {A : Option Addr} {zs : List α} (hk : 0 < k) (h1 : ∀ z, ∀ v, (cel z)[0]? = some v → v.oneCell' = true)
    (hat : zs ≠ [] → ∃ ad, A = some ad ∧ ∀ i (_ : i < zs.length), ∃ es, (es = cel zs[i] ∧ Ok zs[i]) ∧ es.length = k ∧ ∀ j, j < k → w.cell? (ad.add (i * k + j)) = es[j]?) : RowAt w A cel k zs ∧ ∀ z ∈ zs, Ok z := by
  refine ⟨fun hne => ?_, fun z hz => ?_⟩
  · obtain ⟨ad, eA, hat2⟩ := hat hne
    obtain ⟨b, off, rfl⟩ : ∃ b off, ad = ⟨b, off, none⟩ := by
      obtain ⟨es, ⟨e, _⟩, hl, hcell⟩ := hat2 0 (List.length_pos_iff.2 hne)
      have := hcell 0 hk
      rw [Nat.zero_mul, Nat.zero_add] at this
      rw [List.getElem?_eq_getElem (by omega)] at this
      exact addr_form this (by
        have h2 := h1 _ es[0] (by rw [← e]; exact List.getElem?_eq_getElem (by omega))
        first | exact h2 | (revert h2; cases es[0] <;> simp [Value.oneCell']))
    refine ⟨b, off, eA, fun i hi j v hv => ?_⟩
    obtain ⟨es, ⟨rfl, _⟩, h3, hcell⟩ := hat2 i hi
    have hj : j < k := by have := (List.getElem?_eq_some_iff.1 hv).1; omega
    have := hcell j hj
    rw [Go.WideShapes.add_plain, ← Nat.add_assoc, hv] at this
    exact this
  · have hne : zs ≠ [] := by rintro rfl; cases hz
    obtain ⟨ad, _, hat2⟩ := hat hne
    obtain ⟨i, hi, rfl⟩ := List.getElem_of_mem hz
    obtain ⟨es, ⟨_, h2⟩, _⟩ := hat2 i hi
    exact h2
set_option maxRecDepth 100000 in
theorem open_sigB (h : DataW.trod enc Tryd.prog w base spare held fuel 46 cs = some x) :
    ∃ lf A1 n1 c1, ∃ ds : List (List Int), ∃ A2 n2 c2, ∃ ps : List (List Int), cs = (sigV lf (.slice A1 n1 c1) (.slice A2 n2 c2)).toList ∧ DigRow w A1 n1 ds ∧ DigRow w A2 n2 ps := by
  obtain ⟨y0, y1, y2, n, _, hlen, h0, h1, h2⟩ := Go.Deep.trod_struct3 Tryd.underlying46 h
  rw [cellsBkSig] at hlen
  obtain ⟨lf, e0, _, _⟩ := DataW.trod_int Tryd.underlying3 h0
  obtain ⟨A1, n1, c1, ds, e1, hl1, _, hd1, ha1⟩ := open_digs h1
  obtain ⟨A2, n2, c2, ps, e2, hl2, _, hd2, ha2⟩ := open_digs h2
  match cs, hlen with
  | [v0, v1, v2], _ =>
    simp [cellsBkI, cellsBkDs] at e0 e1 e2
    subst e0 e1 e2
    refine ⟨lf, A1, n1, c1, ds, A2, n2, c2, ps, rfl, ⟨hl1, hd1, ?_⟩, ⟨hl2, hd2, ?_⟩⟩
    · by_cases e : n1 = 0
      · exact .inl e
      · exact .inr (digs_at (by rintro rfl; exact e hl1.symm) hd1 ha1)
    · by_cases e : n2 = 0
      · exact .inl e
      · exact .inr (digs_at (by rintro rfl; exact e hl2.symm) hd2 ha2)
set_option maxRecDepth 100000 in
theorem open_sgB (h : DataW.trod enc Tryd.prog w base spare held fuel 48 cs = some x) : ∃ s : Sg, cs = s.cells.toList ∧ (DigRow w s.A1 s.n1 s.cs ∧ DigRow w s.A2 s.n2 s.ps) := by
  obtain ⟨y0, y1, n, _, hlen, h0, h1⟩ := trod_struct2 Tryd.underlying48 h
  rw [cellsBkSg] at hlen
  obtain ⟨p, hp, _, _⟩ := DataW.trod_int Tryd.underlying3 h0
  obtain ⟨lf, A1, n1, c1, ds, A2, n2, c2, ps, e1, hd, hq⟩ := open_sigB h1
  refine ⟨⟨p, lf, A1, n1, c1, ds, A2, n2, c2, ps⟩, ?_, hd, hq⟩
  match cs, hlen with
  | [v0, v1, v2, v3], _ =>
    simp [cellsBkI, cellsBkSig, sigV] at hp e1
    obtain ⟨rfl, rfl, rfl⟩ := e1
    subst hp
    rfl
theorem open_sgsB (h : DataW.trod enc Tryd.prog w base spare held fuel 24 cs = some x) :
    ∃ A n c, ∃ xs : List Sg, cs = [.slice A n c] ∧ xs.length = n ∧ n ≤ c ∧ SgsAt w A xs ∧ SgsOk w xs := by
  obtain ⟨A, n, c, zs, hcs, hn, hc, hat⟩ := open_elems Tryd.underlying24 cellsBkSg (fun (s : Sg) es => es = s.cells.toList ∧ (DigRow w s.A1 s.n1 s.cs ∧ DigRow w s.A2 s.n2 s.ps)) ⟨0, 0, none, 0, 0, [], none, 0, 0, []⟩ (fun h => open_sgB h) h
  obtain ⟨h1, h2⟩ := elems_row (k := 4) (cel := fun s : Sg => s.cells.toList) (Ok := fun s : Sg => DigRow w s.A1 s.n1 s.cs ∧ DigRow w s.A2 s.n2 s.ps) (by omega) (fun s v hv => by
    have : v = .int .i64 s.who := by simpa [Sg.cells] using hv.symm
    rw [this]; rfl) hat
  exact ⟨A, n, c, zs, hcs, hn, hc, h1, h2⟩
theorem open_vdB (h : DataW.trod enc Tryd.prog w base spare held fuel 90 cs = some x) : ∃ y : Vd, cs = y.cells ∧ isDig y.key := by
  obtain ⟨y0, y1, n, _, hlen, h0, h1⟩ := trod_struct2 Tryd.underlying90 h
  rw [cellsBkV] at hlen
  obtain ⟨l, hl, hl16, _, hwf⟩ := arr_of_trod Tryd.underlying23 Tryd.underlying5 cellsBkU8 cellsBkD h0
  obtain ⟨p, hp, _, _⟩ := DataW.trod_int Tryd.underlying3 h1
  dsimp only at hl hp
  rw [cellsBkD] at hl
  rw [cellsBkI] at hp
  refine ⟨⟨l, p⟩, ?_, dig_wfB hl16 hwf⟩
  have e : cs = cs.take 16 ++ (cs.drop 16).take 1 := by
    rw [List.take_of_length_le (l := cs.drop 16) (by simp; omega), List.take_append_drop]
  rw [e, hp, show cs.take 16 = l.map (Value.int .u8) from hl]
  rfl
theorem open_vdsB (h : DataW.trod enc Tryd.prog w base spare held fuel 28 cs = some x) :
    ∃ A n c, ∃ xs : List Vd, cs = [.slice A n c] ∧ xs.length = n ∧ n ≤ c ∧ VdsAt w A xs ∧ ∀ y ∈ xs, isDig y.key := by
  obtain ⟨A, n, c, zs, hcs, hn, hc, hat⟩ := open_elems Tryd.underlying28 cellsBkV (fun (y : Vd) es => es = y.cells ∧ (isDig y.key ∧ ∀ v, y.cells[0]? = some v → v.oneCell' = true)) ⟨[], 0⟩ (fun h => by
    obtain ⟨y, h1, h2⟩ := open_vdB h
    refine ⟨y, h1, h2, fun v hv => ?_⟩
    obtain ⟨k, p⟩ := y
    match k, h2.1 with
    | z :: _, _ => have : v = .int .u8 z := by simpa [Vd.cells] using hv.symm
                   rw [this]; rfl) h
  obtain ⟨h1, h2⟩ := elems_row (k := 17) (cel := fun y : Vd => y.cells) (Ok := fun y : Vd => isDig y.key ∧ ∀ v, y.cells[0]? = some v → v.oneCell' = true) (by omega) (fun y v hv => by
    obtain ⟨k, p⟩ := y
    cases k with
    | nil => have : v = .int .i64 p := by simpa [Vd.cells] using hv.symm
             rw [this]; rfl
    | cons z r => have : v = .int .u8 z := by simpa [Vd.cells] using hv.symm
                  rw [this]; rfl) hat
  exact ⟨A, n, c, zs, hcs, hn, hc, h1, fun y hy => (h2 y hy).1⟩
theorem open_txsB (h : DataW.trod enc Tryd.prog w base spare held fuel 27 cs = some x) :
    ∃ A n c, ∃ xs : List Tx, cs = [.slice A n c] ∧ xs.length = n ∧ n ≤ c ∧ RowAt w A Tx.cells 1 xs ∧ TxsOk w xs := by
  obtain ⟨A, n, c, zs, hcs, hn, hc, hat⟩ := open_elems Tryd.underlying27 cellsBkB (fun (t : Tx) es => es = t.cells ∧ BytesAt w t.B t.l) ⟨none, 0, []⟩ (fun h => by
    obtain ⟨B, m, c, l, h1, h2, _, _, h4, _⟩ := open_bytes h
    subst h2
    exact ⟨⟨B, c, l⟩, h1, h4⟩) h
  obtain ⟨h1, h2⟩ := elems_row (k := 1) (cel := Tx.cells) (Ok := fun t : Tx => BytesAt w t.B t.l) (by omega) (fun t v hv => by
    have : v = .slice t.B t.l.length t.c := by simpa [Tx.cells] using hv.symm
    rw [this]; rfl) hat
  exact ⟨A, n, c, zs, hcs, hn, hc, h1, h2⟩
theorem drop_one (cs : List Value) (i : Nat) : cs.drop i = (cs.drop i).take 1 ++ cs.drop (i + 1) := by
  have := (List.take_append_drop 1 (cs.drop i)).symm
  rwa [List.drop_drop] at this
theorem drop_some (cs : List Value) (i k : Nat) : cs.drop i = (cs.drop i).take k ++ cs.drop (i + k) := by
  have := (List.take_append_drop k (cs.drop i)).symm
  rwa [List.drop_drop] at this
set_option maxRecDepth 100000 in
theorem open_qcB (h : DataW.trod enc Tryd.prog w base spare held fuel 26 cs = some x) : ∃ q : Qc, cs = q.val.toList ∧ q.At w := by
  obtain ⟨y0, y1, y2, y3, n, _, hlen, h0, h1, h2, h3⟩ := Joins.trod_struct4 Tryd.underlying26 h
  rw [cellsBkQ] at hlen
  obtain ⟨qe, e0, _, _⟩ := DataW.trod_int Tryd.underlying3 h0
  obtain ⟨qr, e1, _, _⟩ := DataW.trod_int Tryd.underlying3 h1
  obtain ⟨l, hl, hl16, _, hwf⟩ := arr_of_trod Tryd.underlying23 Tryd.underlying5 cellsBkU8 cellsBkD h2
  obtain ⟨A2, m, c2, L, e3, rfl, hc, hL, hok⟩ := open_sgsB h3
  refine ⟨⟨qe, qr, l, A2, c2, L⟩, ?_, dig_wfB hl16 hwf, hL, hok⟩
  dsimp only at e0 e1 hl e3
  rw [cellsBkI] at e0 e1
  rw [cellsBkSs] at e3
  rw [cellsBkD] at hl
  have t5 : (cs.drop 18).take 1 = cs.drop 18 := List.take_of_length_le (by simp; omega)
  rw [t5] at e3
  have q0 := drop_one cs 0
  rw [List.drop_zero] at q0 e0
  rw [q0, drop_one cs 1, drop_some cs 2 16, e0, e1, hl, e3]
  simp [Qc.val, arrV]
set_option maxRecDepth 100000 in
theorem open_bkB (h : DataW.trod enc Tryd.prog w base spare held fuel 30 cs = some x) : ∃ b : Bk, cs = b.val.toList ∧ b.At w := by
  obtain ⟨xs, n, _, hx, hlen, hxl, hf⟩ := DataW.trod_struct Tryd.underlying30 h
  rw [cellsBk] at hlen
  match xs, hxl with
  | [y0, y1, y2, y3, y4, y5], _ =>
    have f0 : DataW.trod enc Tryd.prog w base spare held n 3 ((cs.drop 0).take (Tryd.prog.cellsOf 3)) = some y0 := hf 0 _ rfl
    have f1 : DataW.trod enc Tryd.prog w base spare held n 3 ((cs.drop 1).take (Tryd.prog.cellsOf 3)) = some y1 := hf 1 _ rfl
    have f2 : DataW.trod enc Tryd.prog w base spare held n 23 ((cs.drop 2).take (Tryd.prog.cellsOf 23)) = some y2 := hf 2 _ rfl
    have f3 : DataW.trod enc Tryd.prog w base spare held n 26 ((cs.drop 18).take (Tryd.prog.cellsOf 26)) = some y3 := hf 3 _ rfl
    have f4 : DataW.trod enc Tryd.prog w base spare held n 27 ((cs.drop 37).take (Tryd.prog.cellsOf 27)) = some y4 := hf 4 _ rfl
    have f5 : DataW.trod enc Tryd.prog w base spare held n 28 ((cs.drop 38).take (Tryd.prog.cellsOf 28)) = some y5 := hf 5 _ rfl
    obtain ⟨e, e0, _, _⟩ := DataW.trod_int Tryd.underlying3 f0
    obtain ⟨r, e1, _, _⟩ := DataW.trod_int Tryd.underlying3 f1
    obtain ⟨l, e2, hl16, _, hwf⟩ := arr_of_trod Tryd.underlying23 Tryd.underlying5 cellsBkU8 cellsBkD f2
    obtain ⟨q, e3, hq⟩ := open_qcB f3
    obtain ⟨A, m, c, T, e4, rfl, hc, hT, hTo⟩ := open_txsB f4
    obtain ⟨A2, m2, c2, V, e5, rfl, hc2, hV, hVo⟩ := open_vdsB f5
    refine ⟨⟨e, r, l, q, A, c, T, A2, c2, V⟩, ?_, dig_wfB hl16 hwf, hq, ⟨hT, hTo⟩, hV, hVo⟩
    rw [cellsBkI] at e0 e1
    rw [cellsBkD] at e2
    rw [cellsBkQ] at e3
    rw [cellsBkTs] at e4
    rw [cellsBkVs] at e5
    have t5 : (cs.drop 38).take 1 = cs.drop 38 := List.take_of_length_le (by simp; omega)
    rw [t5] at e5
    have q0 := drop_one cs 0
    rw [List.drop_zero] at q0 e0
    rw [q0, drop_one cs 1, drop_some cs 2 16, drop_some cs 18 19, drop_one cs 37, e0, e1, e2, e3, e4, e5]
    simp [Bk.val, arrV]
set_option maxRecDepth 100000 in
/-- A block that comes in. -/
theorem arg_block {v : Value} {d : DataW H} {p : List MemPlace} {b0 : Nat} (hv : Value.okWide Tryd.prog w .any b0 30 v) (h : DataW.Trod enc Tryd.prog w base spare held 30 v d p) : ∃ b : Bk, v = .agg b.val ∧ b.At w := by
  obtain ⟨cs, rfl, hsz⟩ := okWide_struct Tryd.underlying30 hv
  obtain ⟨fuel, hf⟩ := h
  obtain ⟨b, e, hb⟩ := open_bkB hf
  refine ⟨b, ?_, hb⟩
  have e2 : cs.toList = b.val.toList := e
  rw [Array.toList_inj.1 e2]
end
end Go.Proofs.YtebnebajedlhlaaDoor
