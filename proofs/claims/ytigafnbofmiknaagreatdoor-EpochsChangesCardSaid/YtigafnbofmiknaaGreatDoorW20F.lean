/- CdA, EpX, EpXr, PwEf, EpG -/
import Derived.Deep.Strs
import Derived.Lib.SmallJoins
import Derived.ChangeSame
import Derived.Test.YtigafnbofmiknaaGreatDoorW20y
import Derived.Test.YtigafnbofmiknaaGreatDoorW20m
import Derived.Test.YtigafnbofmiknaaGreatDoorW20n
import Derived.Test.YtigafnbofmiknaaGreatDoorW20e
import Derived.OpenShut
import Derived.Test.YtigafnbofmiknaaGreatDoorW20E
import Derived.Test.YtigafnbofmiknaaGreatDoorW20s
import Derived.Test.YtigafnbofmiknaaGreatDoorW20D
namespace Go.Proofs.YtigafnbofmiknaaGreatDoor
set_option maxRecDepth 100000
set_option maxHeartbeats 10000000
open Go.RowKit
section
open Go.ChangeShapes Go.WideShapes Go.ChangeAt Go.RowKit
theorem zbw : Tryz.prog.cellsOf 24 = 16 := by kernel_rfl
theorem zcm : Tryz.prog.cellsOf 3 = 1 := by kernel_rfl
theorem zdw : Tryz.prog.cellsOf 5 = 1 := by kernel_rfl
theorem cellsBkSig : Tryz.prog.cellsOf 87 = 3 := by kernel_rfl
theorem cellsBkSg : Tryz.prog.cellsOf 89 = 4 := by kernel_rfl
theorem cellsBkDs : Tryz.prog.cellsOf 85 = 1 := by kernel_rfl
theorem cellsBkSs : Tryz.prog.cellsOf 27 = 1 := by kernel_rfl
theorem cellsBkVs : Tryz.prog.cellsOf 22 = 1 := by kernel_rfl
theorem cellsBkV : Tryz.prog.cellsOf 55 = 17 := by kernel_rfl
theorem cellsBkTs : Tryz.prog.cellsOf 30 = 1 := by kernel_rfl
theorem cellsBkB : Tryz.prog.cellsOf 81 = 1 := by kernel_rfl
theorem zet : Tryz.prog.cellsOf 29 = 19 := by kernel_rfl
theorem cellsBk : Tryz.prog.cellsOf 32 = 39 := by kernel_rfl
theorem ze7 {l : List Int} (h16 : l.length = 16) (h : ∀ z ∈ l, (Lit.int .u8 z).wf = true) : isDig l := ⟨h16, fun z hz => by
 have := h z hz
 simp [Lit.wf, IntKind.min, IntKind.max, IntKind.signed, IntKind.bits] at this
 omega⟩
section
variable {H : Type} {enc : TypeId × Value -> H} {w : World} {base : Nat} {spare : Nat -> Bool} {held : Bool} {fuel : Nat} {cs : List Value} {x : DataW H × List MemPlace}
theorem zdv {α : Type} {k : Nat} {cel : α -> List Value} {Ok : α -> Prop} {A : Option Addr} {zs : List α} (hk : 0 < k) (h1 : ∀ z, ∀ v, (cel z)[0]? = some v -> v.oneCell' = true)
    (hat : zs ≠ [] -> ∃ ad, A = some ad /\ ∀ i (_ : i < zs.length), ∃ es, (es = cel zs[i] /\ Ok zs[i]) /\ es.length = k /\ ∀ j, j < k -> w.cell? (ad.add (i * k + j)) = es[j]?) : RowAt w A cel k zs /\ ∀ z ∈ zs, Ok z := by
 refine ⟨fun hne => ?_, fun z hz => ?_⟩
 · obtain ⟨ad, eA, hat2⟩ := hat hne
   obtain ⟨b, off, rfl⟩ : ∃ b off, ad = ⟨b, off, none⟩ := by
    obtain ⟨es, ⟨e, _⟩, hl, hcell⟩ := hat2 0 (List.length_pos_iff.2 hne)
    have := hcell 0 hk
    rw [Nat.zero_mul, Nat.zero_add] at this
    rw [List.getElem?_eq_getElem (by omega)] at this
    exact zcq this (by
     have h2 := h1 _ es[0] (by rw [<- e]; exact List.getElem?_eq_getElem (by omega))
     first | exact h2 | (revert h2; cases es[0] <;> simp [Value.oneCell']))
   refine ⟨b, off, eA, fun i hi j v hv => ?_⟩
   obtain ⟨es, ⟨rfl, _⟩, h3, hcell⟩ := hat2 i hi
   have hj : j < k := by have := (List.getElem?_eq_some_iff.1 hv).1; omega
   have := hcell j hj
   rw [Go.WideShapes.add_plain, <- Nat.add_assoc, hv] at this
   exact this
 · have hne : zs ≠ [] := by rintro rfl; cases hz
   obtain ⟨ad, _, hat2⟩ := hat hne
   obtain ⟨i, hi, rfl⟩ := List.getElem_of_mem hz
   obtain ⟨es, ⟨_, h2⟩, _⟩ := hat2 i hi
   exact h2
theorem open_txsB (h : DataW.trod enc Tryz.prog w base spare held fuel 30 cs = some x) :
    ∃ A n c, ∃ xs : List Tx, cs = [.slice A n c] /\ xs.length = n /\ n <= c /\ RowAt w A Tx.cells 1 xs /\ TxsOk w xs := by
 obtain ⟨A, n, c, zs, hcs, hn, hc, hat⟩ := zbt Tryz.underlying30 cellsBkB (fun (t : Tx) es => es = t.cells /\ zt w t.B t.l) ⟨none, 0, []⟩ (fun h => by
  obtain ⟨B, m, c, l, h1, h2, _, _, h4, _⟩ := open_bytes h
  subst h2
  exact ⟨⟨B, c, l⟩, h1, h4⟩) h
 obtain ⟨h1, h2⟩ := zdv (k := 1) (cel := Tx.cells) (Ok := fun t : Tx => zt w t.B t.l) (by omega) (fun t v hv => by
  have : v = .slice t.B t.l.length t.c := by simpa [Tx.cells] using hv.symm
  rw [this]; rfl) hat
 exact ⟨A, n, c, zs, hcs, hn, hc, h1, h2⟩
theorem zck (cs : List Value) (i : Nat) : cs.drop i = (cs.drop i).take 1 ++ cs.drop (i + 1) := by
 have := (List.take_append_drop 1 (cs.drop i)).symm
 rwa [List.drop_drop] at this
theorem za6 (cs : List Value) (i k : Nat) : cs.drop i = (cs.drop i).take k ++ cs.drop (i + k) := by
 have := (List.take_append_drop k (cs.drop i)).symm
 rwa [List.drop_drop] at this
end
end
section
open Go.ChangeShapes Go.WideShapes Go.ChangeAt Go.RowKit
theorem cellsXB3 : Tryz.prog.cellsOf 33 = 117 := by kernel_rfl
theorem cellsXC : Tryz.prog.cellsOf 35 = 136 := by kernel_rfl
theorem wf_inX {z : Int} (h : (Lit.int .i64 z).wf = true) : -9223372036854775808 <= z /\ z < 9223372036854775808 := by
 have h2 : decide (-9223372036854775808 <= z) = true /\ decide (z <= 9223372036854775807) = true := Bool.and_eq_true_iff.1 h
 have h3 := of_decide_eq_true h2.1
 have h4 := of_decide_eq_true h2.2
 exact ⟨h3, by omega⟩
section
variable {H : Type} {enc : TypeId × Value -> H} {w : World} {base : Nat} {spare : Nat -> Bool} {held : Bool} {fuel : Nat} {cs : List Value} {x : DataW H × List MemPlace}
theorem zct {t e : TypeId} (ht : Tryz.prog.underlying t = some (.slice e)) (h : DataW.trod enc Tryz.prog w base spare held fuel t cs = some x) {A : Option Addr} {n c : Nat} (hcs : cs = [.slice A n c]) : n <= c /\ c < 9223372036854775808 := by
 rcases DataW.trod_slice ht h with ⟨h1, _⟩ | ⟨a, len, cap, elems, rest, m, _, h1, _, _, hl, hcap, _⟩
 · rw [h1] at hcs
   injection hcs with e1 _
   injection e1 with _ e2 e3
   omega
 · rw [h1] at hcs
   injection hcs with e1 _
   injection e1 with _ e2 e3
   have : maxLen = 9223372036854775807 := by decide
   omega
end
end
section
open Go.ChangeShapes Go.WideShapes Go.ChangeAt Go.RowKit
def inRX (n : Int) : Prop := -9223372036854775808 <= n /\ n < 9223372036854775808
def SgR (s : Sg) : Prop := inRX s.who /\ inRX s.lf
def QcR (q : Qc) : Prop := PQn q /\ ∀ s ∈ q.L, SgR s
def BkR (b : Bk) : Prop := inRX b.e /\ inRX b.r /\ QcR b.q /\ (∀ y ∈ b.V, inRX y.p) /\ b.T.length < 9223372036854775808 /\ b.V.length < 9223372036854775808 /\ b.V.length <= b.c2
def ChR (c : Ch) : Prop := BkR c.x /\ BkR c.y /\ BkR c.z /\ QcR c.q
section
variable {H : Type} {enc : TypeId × Value -> H} {w : World} {base : Nat} {spare : Nat -> Bool} {held : Bool} {fuel : Nat} {cs : List Value} {x : DataW H × List MemPlace}
theorem open_sigR (h : DataW.trod enc Tryz.prog w base spare held fuel 87 cs = some x) :
    ∃ lf A1 n1 c1, ∃ ds : List (List Int), ∃ A2 n2 c2, ∃ ps : List (List Int), cs = (sigV lf (.slice A1 n1 c1) (.slice A2 n2 c2)).toList /\ DigRow w A1 n1 ds /\ DigRow w A2 n2 ps /\ inRX lf := by
 obtain ⟨y0, y1, y2, n, _, hlen, h0, h1, h2⟩ := Go.Deep.trod_struct3 Tryz.underlying87 h
 rw [cellsBkSig] at hlen
 obtain ⟨lf, e0, _, hwl⟩ := DataW.trod_int Tryz.underlying3 h0
 obtain ⟨A1, n1, c1, ds, e1, hl1, _, hd1, ha1⟩ := open_digs h1
 obtain ⟨A2, n2, c2, ps, e2, hl2, _, hd2, ha2⟩ := open_digs h2
 match cs, hlen with
 | [v0, v1, v2], _ =>
  simp [zcm, cellsBkDs] at e0 e1 e2
  subst e0 e1 e2
  refine ⟨lf, A1, n1, c1, ds, A2, n2, c2, ps, rfl, ⟨hl1, hd1, ?_⟩, ⟨hl2, hd2, ?_⟩, wf_inX hwl⟩
  · by_cases e : n1 = 0
    · exact .inl e
    · exact .inr (digs_at (by rintro rfl; exact e hl1.symm) hd1 ha1)
  · by_cases e : n2 = 0
    · exact .inl e
    · exact .inr (digs_at (by rintro rfl; exact e hl2.symm) hd2 ha2)
theorem open_sgR (h : DataW.trod enc Tryz.prog w base spare held fuel 89 cs = some x) : ∃ s : Sg, cs = s.cells.toList /\ ((DigRow w s.A1 s.n1 s.cs /\ DigRow w s.A2 s.n2 s.ps) /\ SgR s) := by
 obtain ⟨y0, y1, n, _, hlen, h0, h1⟩ := trod_struct2 Tryz.underlying89 h
 rw [cellsBkSg] at hlen
 obtain ⟨p, hp, _, hwp⟩ := DataW.trod_int Tryz.underlying3 h0
 obtain ⟨lf, A1, n1, c1, ds, A2, n2, c2, ps, e1, hd, hq, hlf⟩ := open_sigR h1
 refine ⟨⟨p, lf, A1, n1, c1, ds, A2, n2, c2, ps⟩, ?_, ⟨hd, hq⟩, wf_inX hwp, hlf⟩
 match cs, hlen with
 | [v0, v1, v2, v3], _ =>
  simp [zcm, cellsBkSig, sigV] at hp e1
  obtain ⟨rfl, rfl, rfl⟩ := e1
  subst hp
  rfl
theorem open_sgsR (h : DataW.trod enc Tryz.prog w base spare held fuel 27 cs = some x) :
    ∃ A n c, ∃ xs : List Sg, cs = [.slice A n c] /\ xs.length = n /\ n <= c /\ SgsAt w A xs /\ SgsOk w xs /\ ∀ s ∈ xs, SgR s := by
 obtain ⟨A, n, c, zs, hcs, hn, hc, hat⟩ := zbt Tryz.underlying27 cellsBkSg (fun (s : Sg) es => es = s.cells.toList /\ ((DigRow w s.A1 s.n1 s.cs /\ DigRow w s.A2 s.n2 s.ps) /\ SgR s)) ⟨0, 0, none, 0, 0, [], none, 0, 0, []⟩ (fun h => open_sgR h) h
 obtain ⟨h1, h2⟩ := zdv (k := 4) (cel := fun s : Sg => s.cells.toList) (Ok := fun s : Sg => (DigRow w s.A1 s.n1 s.cs /\ DigRow w s.A2 s.n2 s.ps) /\ SgR s) (by omega) (fun s v hv => by
  have : v = .int .i64 s.who := by simpa [Sg.cells] using hv.symm
  rw [this]; rfl) hat
 exact ⟨A, n, c, zs, hcs, hn, hc, h1, fun s hs => (h2 s hs).1, fun s hs => (h2 s hs).2⟩
theorem open_vdR (h : DataW.trod enc Tryz.prog w base spare held fuel 55 cs = some x) : ∃ y : Vd, cs = y.cells /\ (isDig y.key /\ inRX y.p) := by
 obtain ⟨y0, y1, n, _, hlen, h0, h1⟩ := trod_struct2 Tryz.underlying55 h
 rw [cellsBkV] at hlen
 obtain ⟨l, hl, hl16, _, hwf⟩ := um Tryz.underlying24 Tryz.underlying5 zdw zbw h0
 obtain ⟨p, hp, _, hwp⟩ := DataW.trod_int Tryz.underlying3 h1
 dsimp only at hl hp
 rw [zbw] at hl
 rw [zcm] at hp
 refine ⟨⟨l, p⟩, ?_, ze7 hl16 hwf, wf_inX hwp⟩
 have e : cs = cs.take 16 ++ (cs.drop 16).take 1 := by
  rw [List.take_of_length_le (l := cs.drop 16) (by simp; omega), List.take_append_drop]
 rw [e, hp, show cs.take 16 = l.map (Value.int .u8) from hl]
 rfl
theorem open_vdsR (h : DataW.trod enc Tryz.prog w base spare held fuel 22 cs = some x) :
    ∃ A n c, ∃ xs : List Vd, cs = [.slice A n c] /\ xs.length = n /\ n <= c /\ VdsAt w A xs /\ (∀ y ∈ xs, isDig y.key) /\ ∀ y ∈ xs, inRX y.p := by
 obtain ⟨A, n, c, zs, hcs, hn, hc, hat⟩ := zbt Tryz.underlying22 cellsBkV (fun (y : Vd) es => es = y.cells /\ ((isDig y.key /\ inRX y.p) /\ ∀ v, y.cells[0]? = some v -> v.oneCell' = true)) ⟨[], 0⟩ (fun h => by
  obtain ⟨y, h1, h2⟩ := open_vdR h
  refine ⟨y, h1, h2, fun v hv => ?_⟩
  obtain ⟨k, p⟩ := y
  match k, h2.1.1 with
  | z :: _, _ => have : v = .int .u8 z := by simpa [Vd.cells] using hv.symm
                 rw [this]; rfl) h
 obtain ⟨h1, h2⟩ := zdv (k := 17) (cel := fun y : Vd => y.cells) (Ok := fun y : Vd => (isDig y.key /\ inRX y.p) /\ ∀ v, y.cells[0]? = some v -> v.oneCell' = true) (by omega) (fun y v hv => by
  obtain ⟨k, p⟩ := y
  cases k with
  | nil => have : v = .int .i64 p := by simpa [Vd.cells] using hv.symm
           rw [this]; rfl
  | cons z r => have : v = .int .u8 z := by simpa [Vd.cells] using hv.symm
                rw [this]; rfl) hat
 exact ⟨A, n, c, zs, hcs, hn, hc, h1, fun y hy => (h2 y hy).1.1, fun y hy => (h2 y hy).1.2⟩
theorem open_qcR (h : DataW.trod enc Tryz.prog w base spare held fuel 29 cs = some x) : ∃ q : Qc, cs = q.val.toList /\ q.At w /\ QcR q := by
 obtain ⟨y0, y1, y2, y3, n, _, hlen, h0, h1, h2, h3⟩ := Joins.trod_struct4 Tryz.underlying29 h
 rw [zet] at hlen
 obtain ⟨qe, e0, _, hw0⟩ := DataW.trod_int Tryz.underlying3 h0
 obtain ⟨qr, e1, _, hw1⟩ := DataW.trod_int Tryz.underlying3 h1
 obtain ⟨l, hl, hl16, _, hwf⟩ := um Tryz.underlying24 Tryz.underlying5 zdw zbw h2
 obtain ⟨A2, m, c2, L, e3, rfl, hc, hL, hok, hrs⟩ := open_sgsR h3
 have hlen2 := zct Tryz.underlying27 h3 e3
 refine ⟨⟨qe, qr, l, A2, c2, L⟩, ?_, ⟨ze7 hl16 hwf, hL, hok⟩, ⟨wf_inX hw0, wf_inX hw1, Nat.lt_of_le_of_lt hlen2.1 hlen2.2⟩, hrs⟩
 dsimp only at e0 e1 hl e3
 rw [zcm] at e0 e1
 rw [cellsBkSs] at e3
 rw [zbw] at hl
 have t5 : (cs.drop 18).take 1 = cs.drop 18 := List.take_of_length_le (by simp; omega)
 rw [t5] at e3
 have q0 := zck cs 0
 rw [List.drop_zero] at q0 e0
 rw [q0, zck cs 1, za6 cs 2 16, e0, e1, hl, e3]
 simp [Qc.val, arrV]
theorem zeg (h : DataW.trod enc Tryz.prog w base spare held fuel 32 cs = some x) : ∃ b : Bk, cs = b.val.toList /\ b.At w /\ BkR b := by
 obtain ⟨xs, n, _, hx, hlen, hxl, hf⟩ := DataW.trod_struct Tryz.underlying32 h
 rw [cellsBk] at hlen
 match xs, hxl with
 | [y0, y1, y2, y3, y4, y5], _ =>
  have f0 : DataW.trod enc Tryz.prog w base spare held n 3 ((cs.drop 0).take (Tryz.prog.cellsOf 3)) = some y0 := hf 0 _ rfl
  have f1 : DataW.trod enc Tryz.prog w base spare held n 3 ((cs.drop 1).take (Tryz.prog.cellsOf 3)) = some y1 := hf 1 _ rfl
  have f2 : DataW.trod enc Tryz.prog w base spare held n 24 ((cs.drop 2).take (Tryz.prog.cellsOf 24)) = some y2 := hf 2 _ rfl
  have f3 : DataW.trod enc Tryz.prog w base spare held n 29 ((cs.drop 18).take (Tryz.prog.cellsOf 29)) = some y3 := hf 3 _ rfl
  have f4 : DataW.trod enc Tryz.prog w base spare held n 30 ((cs.drop 37).take (Tryz.prog.cellsOf 30)) = some y4 := hf 4 _ rfl
  have f5 : DataW.trod enc Tryz.prog w base spare held n 22 ((cs.drop 38).take (Tryz.prog.cellsOf 22)) = some y5 := hf 5 _ rfl
  obtain ⟨e, e0, _, hwe⟩ := DataW.trod_int Tryz.underlying3 f0
  obtain ⟨r, e1, _, hwr⟩ := DataW.trod_int Tryz.underlying3 f1
  obtain ⟨l, e2, hl16, _, hwf⟩ := um Tryz.underlying24 Tryz.underlying5 zdw zbw f2
  obtain ⟨q, e3, hq, hpq⟩ := open_qcR f3
  obtain ⟨A, m, c, T, e4, rfl, hc, hT, hTo⟩ := open_txsB f4
  obtain ⟨A2, m2, c2, V, e5, rfl, hc2, hV, hVo, hVr⟩ := open_vdsR f5
  have hcapT := zct Tryz.underlying30 f4 e4
  have hcapV := zct Tryz.underlying22 f5 e5
  refine ⟨⟨e, r, l, q, A, c, T, A2, c2, V⟩, ?_, ⟨ze7 hl16 hwf, hq, ⟨hT, hTo⟩, hV, hVo⟩, wf_inX hwe, wf_inX hwr, hpq, hVr, Nat.lt_of_le_of_lt hcapT.1 hcapT.2, Nat.lt_of_le_of_lt hcapV.1 hcapV.2, hc2⟩
  rw [zcm] at e0 e1
  rw [zbw] at e2
  rw [zet] at e3
  rw [cellsBkTs] at e4
  rw [cellsBkVs] at e5
  have t5 : (cs.drop 38).take 1 = cs.drop 38 := List.take_of_length_le (by simp; omega)
  rw [t5] at e5
  have q0 := zck cs 0
  rw [List.drop_zero] at q0 e0
  rw [q0, zck cs 1, za6 cs 2 16, za6 cs 18 19, zck cs 37, e0, e1, e2, e3, e4, e5]
  simp [Bk.val, arrV]
theorem open_chR (h : DataW.trod enc Tryz.prog w base spare held fuel 35 cs = some x) : ∃ c : Ch, cs = c.val.toList /\ c.At w /\ ChR c := by
 obtain ⟨y0, y1, n, _, hlen, h0, h1⟩ := trod_struct2 Tryz.underlying35 h
 rw [cellsXC] at hlen
 obtain ⟨xs, m, _, _, hl3, hx3, hi⟩ := DataW.trod_array Tryz.underlying33 h0
 obtain ⟨q, e3, hq, hpq⟩ := open_qcR h1
 match xs, hx3 with
 | [z0, z1, z2], _ =>
  have f0 := hi 0 (by omega)
  have f1 := hi 1 (by omega)
  have f2 := hi 2 (by omega)
  obtain ⟨a, ea, ha, hpa⟩ := zeg f0
  obtain ⟨b, eb, hb, hpb⟩ := zeg f1
  obtain ⟨d, ed, hd, hpd⟩ := zeg f2
  refine ⟨⟨a, b, d, q⟩, ?_, ⟨ha, hb, hd, hq⟩, hpa, hpb, hpd, hpq⟩
  dsimp only at ea eb ed e3
  rw [zet] at e3
  rw [cellsXB3, cellsBk] at ea eb ed
  have t5 : (cs.drop 117).take 19 = cs.drop 117 := List.take_of_length_le (by simp; omega)
  rw [t5] at e3
  have k0 : cs.take 39 = a.val.toList := by
   rw [<- ea]; simp [List.take_take]
  have k1 : (cs.drop 39).take 39 = b.val.toList := by
   rw [<- eb]; simp [List.drop_take, List.take_take]
  have k2 : (cs.drop 78).take 39 = d.val.toList := by
   rw [<- ed]; simp [List.drop_take, List.take_take]
  have e : cs = cs.take 39 ++ ((cs.drop 39).take 39 ++ ((cs.drop 78).take 39 ++ cs.drop 117)) := by
   have q1 := za6 cs 0 39
   have q2 := za6 cs 39 39
   have q3 := za6 cs 78 39
   rw [List.drop_zero] at q1
   exact q1.trans (congrArg (cs.take 39 ++ ·) (q2.trans (congrArg ((cs.drop 39).take 39 ++ ·) q3)))
  rw [e, k0, k1, k2, e3]
  simp [Ch.val, cgV]
theorem arg_chR {v : Value} {d : DataW H} {p : List MemPlace} {b0 : Nat} (hv : Value.okWide Tryz.prog w .any b0 35 v) (h : DataW.Trod enc Tryz.prog w base spare held 35 v d p) : ∃ c : Ch, v = .agg c.val /\ c.At w /\ ChR c := by
 obtain ⟨cs, rfl, hsz⟩ := okWide_struct Tryz.underlying35 hv
 obtain ⟨fuel, hf⟩ := h
 obtain ⟨c, e, hc, hr⟩ := open_chR hf
 refine ⟨c, ?_, hc, hr⟩
 have e2 : cs.toList = c.val.toList := e
 rw [Array.toList_inj.1 e2]
end
end
section
open Go.RowKit
end
section
open Go.RowKit
end
end Go.Proofs.YtigafnbofmiknaaGreatDoor
