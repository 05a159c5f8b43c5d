/- CdQ, CdD, ShConv, CdL, OuD -/
import Derived.Test.YtigafnbofmiknaaGreatDoorW20x
import Derived.Test.YtigafnbofmiknaaGreatDoorW20h
import Derived.Deep.DeepCutAuto
import Derived.Test.YtigafnbofmiknaaGreatDoorW20f
import Derived.Test.YtigafnbofmiknaaGreatDoorW20a
import Derived.Lib.ConvBytes
import Derived.Test.YtigafnbofmiknaaGreatDoorW20g
namespace Go.Proofs.YtigafnbofmiknaaGreatDoor
set_option maxRecDepth 100000
set_option maxHeartbeats 10000000
open Go.RowKit
section
def RowAt {α : Type} (w : World) (A : Option Addr) (cel : α -> List Value) (size : Nat) (L : List α) : Prop := L ≠ [] -> ∃ b off, A = some ⟨b, off, none⟩ /\ ∀ k (h : k < L.length), w.rangeAt b (off + k * size) (cel L[k])
theorem RowAt.grown {α : Type} {w w' : World} {A : Option Addr} {cel : α -> List Value} {size : Nat} {L : List α} (h : RowAt w A cel size L) (hk : w.grownBy w' none) : RowAt w' A cel size L := fun hne => by
 obtain ⟨b, off, rfl, hc⟩ := h hne
 exact ⟨b, off, rfl, fun k hk' => ze (hc k hk') hk⟩
def dgV (d : List Int) : List Value := d.map (Value.int .u8)
theorem dgV_arr (d : List Int) : (dgV d).toArray = arrV .u8 d := by simp [dgV, arrV]
theorem dgV_length (d : List Int) : (dgV d).length = d.length := by simp [dgV]
theorem DigRow.row {w : World} {A : Option Addr} {n : Nat} {ps : List (List Int)} (h : DigRow w A n ps) : RowAt w A dgV 16 ps := fun hne => by
 obtain ⟨h1, h2, h0 | ⟨b, off, e, hD⟩⟩ := h
 · exact absurd (List.length_eq_zero_iff.1 (h1.trans h0)) hne
 · refine ⟨b, off, e, fun k hk => ?_⟩
   have := hD k hk
   rw [List.getD_eq_getElem?_getD, List.getElem?_eq_getElem hk] at this
   simpa [dgV, arrV] using this
structure Lt where
 who : Int
 high : Int
 lf : Int
 A1 : Option Addr
 n1 : Nat
 c1 : Nat
 cs : List (List Int)
 A2 : Option Addr
 n2 : Nat
 c2 : Nat
 ps : List (List Int)
def Lt.sig (s : Lt) : Array Value := sigV s.lf (.slice s.A1 s.n1 s.c1) (.slice s.A2 s.n2 s.c2)
def Lt.cells (s : Lt) : Array Value := #[.int .i64 s.who, .int .i64 s.high] ++ s.sig
def LtsOk (w : World) (L : List Lt) : Prop := ∀ s ∈ L, DigRow w s.A1 s.n1 s.cs /\ DigRow w s.A2 s.n2 s.ps
structure Tx where
 B : Option Addr
 c : Nat
 l : List UInt8
def Tx.cells (t : Tx) : List Value := [.slice t.B t.l.length t.c]
def TxsOk (w : World) (L : List Tx) : Prop := ∀ t ∈ L, zt w t.B t.l
structure Qc where
 e : Int
 r : Int
 Bl : List Int
 A : Option Addr
 c : Nat
 L : List Sg
def Qc.val (q : Qc) : Array Value := #[.int .i64 q.e, .int .i64 q.r] ++ (arrV .u8 q.Bl ++ #[.slice q.A q.L.length q.c])
def Qc.At (w : World) (q : Qc) : Prop := isDig q.Bl /\ SgsAt w q.A q.L /\ SgsOk w q.L
structure Tc where
 e : Int
 r : Int
 A : Option Addr
 c : Nat
 L : List Lt
def Tc.val (t : Tc) : Array Value := #[.int .i64 t.e, .int .i64 t.r, .slice t.A t.L.length t.c]
def Tc.At (w : World) (t : Tc) : Prop := RowAt w t.A (fun s => s.cells.toList) 5 t.L /\ LtsOk w t.L
structure Bk where
 e : Int
 r : Int
 P : List Int
 q : Qc
 A : Option Addr
 c : Nat
 T : List Tx
 A2 : Option Addr
 c2 : Nat
 V : List Vd
def Bk.val (b : Bk) : Array Value := #[.int .i64 b.e, .int .i64 b.r] ++ (arrV .u8 b.P ++ (b.q.val ++ #[.slice b.A b.T.length b.c, .slice b.A2 b.V.length b.c2]))
def Bk.At (w : World) (b : Bk) : Prop := isDig b.P /\ b.q.At w /\ (RowAt w b.A Tx.cells 1 b.T /\ TxsOk w b.T) /\ VdsAt w b.A2 b.V /\ ∀ x ∈ b.V, isDig x.key
def sSg (x : Sg) (s : WSt) : WSt := sSig x.lf x.cs x.ps (sNum x.who 1 s)
def sLt (x : Lt) (s : WSt) : WSt := sSig x.lf x.cs x.ps (sNum x.high 6 (sNum x.who 1 s))
def sVd (x : Vd) (s : WSt) : WSt := sNum x.p 6 (sDig x.key s)
def sTx (t : Tx) (s : WSt) : WSt := sBytes t.l 16 s
def sTurn (e r : Int) (s : WSt) : WSt := sNum r 6 (sNum e 4 s)
def sQc (q : Qc) (s : WSt) : WSt := sPut q.L.length 7 (sAll sSg q.L) (sDig q.Bl (sTurn q.e q.r s))
def sTc (t : Tc) (s : WSt) : WSt := sPut t.L.length 7 (sAll sLt t.L) (sTurn t.e t.r s)
def sBk (b : Bk) (s : WSt) : WSt := sPut b.V.length 7 (sAll sVd b.V) (sPut b.T.length 4 (sAll sTx b.T) (sQc b.q (sDig b.P (sTurn b.e b.r s))))
def sgDig (x : Sg) : Prop := (∀ d ∈ x.cs, d.length = 16) /\ ∀ d ∈ x.ps, d.length = 16
theorem zc2 {x : Sg} (h : sgDig x) : Adds 1172 (sSg x) := ((yl x.who 1).comp (adds_sig (lf := x.lf) h.1 h.2)).mono (by omega)
theorem adds_lt {x : Lt} (h : (∀ d ∈ x.cs, d.length = 16) /\ ∀ d ∈ x.ps, d.length = 16) : Adds 1178 (sLt x) := (((yl x.who 1).comp (yl x.high 6)).comp (adds_sig (lf := x.lf) h.1 h.2)).mono (by omega)
theorem ze9 {x : Vd} (h : x.key.length = 16) : Adds 22 (sVd x) := ((ym h).comp (yl x.p 6)).mono (by omega)
theorem zdx (t : Tx) : Adds 18 (sTx t) := (adds_bytes t.l 16).mono (by omega)
theorem zav (e r : Int) : Adds 10 (sTurn e r) := ((yl e 4).comp (yl r 6)).mono (by omega)
theorem adds_qc {q : Qc} (h : q.Bl.length = 16) (hl : ∀ x ∈ q.L, sgDig x) : Adds 8231 (sQc q) :=
 (((zav q.e q.r).comp (ym h)).comp (zax (m := 7) rfl fun _ => u7 q.L fun x hx => zc2 (hl x hx))).mono (by omega)
theorem adds_tc {t : Tc} (hl : ∀ x ∈ t.L, (∀ d ∈ x.cs, d.length = 16) /\ ∀ d ∈ x.ps, d.length = 16) : Adds 8257 (sTc t) :=
 ((zav t.e t.r).comp (zax (m := 7) rfl fun _ => u7 t.L fun x hx => adds_lt (hl x hx))).mono (by omega)
theorem adds_bk {b : Bk} (h : b.P.length = 16) (hq : b.q.Bl.length = 16) (hl : ∀ x ∈ b.q.L, sgDig x) (hv : ∀ x ∈ b.V, x.key.length = 16) : Adds 8486 (sBk b) :=
 (((((zav b.e b.r).comp (ym h)).comp (adds_qc hq hl)).comp (zax (m := 4) rfl fun _ => u7 b.T fun x _ => zdx x)).comp (zax (m := 7) rfl fun _ => u7 b.V fun x hx => ze9 (hv x hx))).mono (by omega)
theorem DigRow.sixteen {w : World} {A : Option Addr} {n : Nat} {ps : List (List Int)} (h : DigRow w A n ps) : ∀ d ∈ ps, d.length = 16 := fun d hd => (h.2.1 d hd).1
theorem SgsOk.dig {w : World} {L : List Sg} (h : SgsOk w L) : ∀ x ∈ L, sgDig x := fun x hx => ⟨(h x hx).1.sixteen, (h x hx).2.sixteen⟩
theorem Bk.At.adds {w : World} {b : Bk} (h : b.At w) : Adds 8486 (sBk b) := adds_bk h.1.1 h.2.1.1.1 h.2.1.2.2.dig fun x hx => (h.2.2.2.2 x hx).1
theorem Qc.At.adds {w : World} {q : Qc} (h : q.At w) : Adds 8231 (sQc q) := adds_qc h.1.1 h.2.2.dig
def bkS (b : Bk) : WSt := sBk b (0, [])
end
section
theorem dg_bytes {w : World} {q : Nat} {t : TypeId} {d : List Int} (hd : isDig d) (h : Blk w q t (arrV .u8 d)) : zt w (some ⟨q, 0, none⟩) (dgB d) := fun _ => ⟨_, rfl, fun j hj => by
 have hj2 : j < d.length := by rwa [zah] at hj
 rw [yj, h.cell]
 have hz := hd.2 d[j] (List.getElem_mem hj2)
 have e : (((UInt8.ofNat d[j].toNat).toNat : Nat) : Int) = d[j] := by
  rw [UInt8.toNat_ofNat', Nat.mod_eq_of_lt (by omega)]
  omega
 simp only [dgB, List.getElem_map, e]
 simp [arrV, List.getElem?_eq_getElem hj2]⟩
theorem zt.drew {w : World} {A : Option Addr} {l : List UInt8} (h : zt w A l) : zt w.drew A l := h
section
variable {w0 w : World} {E : Nat -> Addr} {g : Nat} {F : Nat -> Prop} {s : WSt}
theorem zcl (h : WI w0 E g F s w) (hs : s.2.length <= 70368744177664) (d : List Int) (hd : isDig d) (dd : Array Value) (hdd : dd = arrV .u8 d) :
    Calls Tryz.prog 88 #[.agg #[.pointer (some ⟨g, 0, none⟩)], .agg dd] w fun e w' => e = .returned (.tuple #[]) /\ WP w0 E g F (sDig d s) w w' := by
 have h16 : dd.size = 16 := by rw [hdd, zf, hd.1]
 obtain ⟨W1, hW1⟩ : ∃ W1, (w.alloc (.cells #[.pointer (some ⟨g, 0, none⟩)] 156)).alloc (.cells dd 24) = W1 := ⟨_, rfl⟩
 have g1 : w.grownBy W1 none := by rw [<- hW1]; exact za (gQ) (gQ)
 have bw : Blk W1 w.heap.size 156 #[.pointer (some ⟨g, 0, none⟩)] := by rw [<- hW1]; exact (Blk.new w _ _).alloc _
 have bx : Blk W1 (w.heap.size + 1) 24 dd := by
  have := Blk.new (w.alloc (.cells #[.pointer (some ⟨g, 0, none⟩)] 156)) 24 dd
  rw [<- hW1]; simpa using this
 have hx : zt W1 (some ⟨w.heap.size + 1, 0, none⟩) (dgB d) := dg_bytes hd (hdd ▸ bx)
 have P1 := h.grown g1
 have c0 : W1.cell? ⟨w.heap.size, 0, none⟩ = some (.pointer (some ⟨g, 0, none⟩)) := by simpa using bw.cell 0
 have hsl := zbq
 have hl16 : (dgB d).length = 16 := by rw [zah, hd.1]
 have HQ := hQ_ (fixed_st P1.drew.wi hs (some ⟨w.heap.size + 1, 0, none⟩) 16 16 (dgB d) hl16 (by omega) hx.drew)
 have HP := hQ_ P1
 have HW := hQ_ hW1
 clear hx P1 hd hdd bx bw g1 hW1 h hl16
 go_enter Tryz.func88, Tryz.ntmps88
 go_upto_region 1 with (fail)
 rw [HW.out]
 go_region_with (go_at_call 107; refine HQ.out.mono ?_; rintro e w1 ⟨rfl, q⟩; replace q := hQ_ q)
 all_goals
  go_wp2
  first | go_end0 | refine bodyPost_ret (results_none rfl _ _ _) rfl ?_
  exact ⟨rfl, HP.out.drew.trans q.out⟩
theorem el_Dg (_he : ErrAt w0 w0.heap.size 0 (E 0)) (h : WI w0 E g F s w) (hs : s.2.length <= 3500000) (x : List Int) (hx : isDig x) (cs : Array Value) (hcs : cs = (dgV x).toArray) :
    Calls Tryz.prog 88 #[.agg #[.pointer (some ⟨g, 0, none⟩)], .agg cs] w fun e w' => e = .returned (.tuple #[]) /\ WP w0 E g F (sDig x s) w w' :=
 zcl h (by omega) x hx cs (by rw [hcs, dgV_arr])
end
end
section
theorem conv_is (w : World) (s : ByteArray) : ∃ c w', (∀ t, t = w -> Sem.run Tryz.prog (convert 9 81 (.string s)) t = .ok (.slice (some ⟨w.heap.size, 0, none⟩) s.size c) w') /\ s.size <= c /\ BytesI w' (some ⟨w.heap.size, 0, none⟩) (intsB s.data.toList) /\ w.grownBy w' none /\ w.heap.size < w'.heap.size := by
 refine ⟨_, _, fun t e => by rw [e]; exact Lib.run_convert_string_bytes w 9 81 5 s Tryz.underlying9 Tryz.underlying81 Tryz.underlying5, grownCap_ge _ _ _ _, fun _ => ⟨_, rfl, fun j hj => ?_⟩, ⟨?_, ?_, ?_, ?_, ?_⟩, ?_⟩
 · rw [intsB_length] at hj
   rw [show (⟨w.heap.size, 0, none⟩ : Addr).add j = ⟨w.heap.size, j, none⟩ by have := zdf w.heap.size 0 j; rwa [Nat.zero_add] at this]
   have hj2 : j < s.size := by rw [Array.length_toList] at hj; exact hj
   rw [Lib.bytesWorld_cell w 5 s j hj2]
   congr 2
   simp only [intsB, List.getD, List.getElem?_map, List.getElem?_eq_getElem hj, Option.map_some, Option.getD_some]
 · simp [Lib.bytesWorld, World.freeze, World.alloc, World.drew, -World.alloc_eq, -World.drew_eq]
 · simp [Lib.bytesWorld, World.freeze, World.alloc, World.drew, -World.alloc_eq, -World.drew_eq]
 · simp [Lib.bytesWorld, World.freeze, World.alloc, World.drew, -World.alloc_eq, -World.drew_eq]
 · rw [Lib.bytesWorld_size]; omega
 · exact fun k hk _ => Lib.bytesWorld_at_old w _ s k hk
 · rw [Lib.bytesWorld_size]; omega
end
section
theorem zcg {w0 w : World} {b o : Nat} {cs : List Value} (k : Kept (newF w0) w0 w) (h : w0.rangeAt b o cs) : w.rangeAt b o cs := fun j v hv => k.cell (h j v hv) (by
 have := World.block_lt_of_cell? w0 _ (h j v hv)
 show ¬ w0.heap.size <= b
 simp only at this
 omega)
theorem zd {w : World} {g : Nat} {t : TypeId} {cs : Array Value} (h : Blk w g t cs) : w.rangeAt g 0 cs.toList := fun j v hv => by
 rw [Nat.zero_add, h.cell, <- Array.getElem?_toList]; exact hv
theorem zbc {m : Nat} {most : Int} (h : most < (m : Int) \/ 255 < m) : decide (most < (m : Int)) = true \/ (decide (most < (m : Int)) = false /\ decide ((255 : Int) < (m : Int)) = true) := by
 by_cases h1 : most < (m : Int)
 · exact .inl (by simpa using h1)
 · exact .inr ⟨by simpa using h1, by simp; omega⟩
section
variable {w0 w w1 w2 : World} {E : Nat -> Addr} {g : Nat} {F : Nat -> Prop} {s s' : WSt}
theorem vi {o : Obj} {j a : Nat} (h : ¬ upTo F a w.heap.size j) (hj : j < a) (ha : a <= w.heap.size) : ¬ upTo (upTo F a w.heap.size) w.heap.size (w.alloc o).heap.size j := fun hu => by
 rcases hu with hu | hu
 · exact h hu
 · omega
theorem zbv (h : WI w0 E g F s w) (k : WP w0 E g F s' w.drew w1) : WP w0 E g F s' w w1 := ⟨k.wi, (Kept.refl F w).drew.follow k.fine fun _ _ h => h⟩
theorem WP.trans' (h : WP w0 E g F s w w1) (k : WP w0 E g (upTo F w.heap.size w1.heap.size) s' w1 w2) : WP w0 E g F s' w w2 := h.trans k
end
theorem sz_Dg : (Tryz.prog.info? 24).map (·.size) = some 16 := by kernel_rfl
theorem cz_Dg {x : List Int} (h : isDig x) : (dgV x).toArray.size = 16 := by rw [List.size_toArray, dgV_length, h.1]
theorem c1_Dg (x : List Int) : ((dgV x).toArray.all fun v => v.oneCell') = true := by rw [dgV_arr]; exact zu _ _
def zv_Dg : Array Value := arrV .u8 (List.replicate 16 0)
theorem zz_Dg (w : World) : Sem.run Tryz.prog (zeroValue 24) w = .ok (.agg zv_Dg) w := z16run w
theorem sz_Sg : (Tryz.prog.info? 89).map (·.size) = some 4 := by kernel_rfl
theorem cz_Sg {x : Sg} {P : Prop} (_ : P) : (x.cells.toList).toArray.size = 4 := by rw [Array.toArray_toList]; rfl
theorem c1_Sg (x : Sg) : ((x.cells.toList).toArray.all fun v => v.oneCell') = true := by rw [Array.toArray_toList]; exact sg_one x
def zv_Sg : Array Value := #[.int .i64 0, .int .i64 0, .slice none 0 0, .slice none 0 0]
theorem zz_Sg (w : World) : Sem.run Tryz.prog (zeroValue 89) w = .ok (.agg zv_Sg) w := vu w (by kernel_rfl)
theorem sz_Vd : (Tryz.prog.info? 55).map (·.size) = some 17 := by kernel_rfl
theorem cz_Vd {x : Vd} (h : isDig x.key) : x.cells.toArray.size = 17 := by rw [List.size_toArray, Vd.cells_length h.1]
theorem c1_Vd (x : Vd) : (x.cells.toArray.all fun v => v.oneCell') = true := by simp [Vd.cells, Value.oneCell']
def zv_Vd : Array Value := (List.replicate 16 (Value.int .u8 0) ++ [Value.int .i64 0]).toArray
theorem zz_Vd (w : World) : Sem.run Tryz.prog (zeroValue 55) w = .ok (.agg zv_Vd) w := vu w (by kernel_rfl)
end
section
theorem bytesAt_ofI {w : World} {A : Option Addr} {l : List UInt8} (h : BytesI w A (intsB l)) : zt w A l := fun hne => by
 obtain ⟨ad, e, hat⟩ := h (by simpa [intsB] using hne)
 refine ⟨ad, e, fun j hj => ?_⟩
 have := hat j (by simpa [intsB] using hj)
 rw [this]
 simp [intsB, List.getD, List.getElem?_eq_getElem hj]
theorem intsB_dgB' : ∀ {d : List Int}, (∀ z ∈ d, 0 <= z /\ z < 256) -> intsB (dgB d) = d
 | [], _ => rfl
 | z :: r, h => by
  have hz := h z (by simp)
  have e : (((UInt8.ofNat z.toNat).toNat : Nat) : Int) = z := by
   rw [UInt8.toNat_ofNat', Nat.mod_eq_of_lt (by omega)]
   omega
  have := intsB_dgB' (d := r) (fun y hy => h y (by simp [hy]))
  simp only [intsB, dgB, List.map_cons] at this ⊢
  rw [e, this]
theorem intsB_dgB {d : List Int} (hd : isDig d) : intsB (dgB d) = d := intsB_dgB' hd.2
theorem zbn {w : World} {b g : Nat} {cs : List Value} (h : w.rangeAt b 0 cs) (hne : g ≠ b) (v : Value) : (w.setCell ⟨g, 0, none⟩ v).rangeAt b 0 cs := fun j u hu => by
 rw [World.cell?_setCell_far _ _ _ _ (by simpa using hne)]
 exact h j u hu
theorem dig_strB (d : List Int) (hd : isDig d) : ∃ s : ByteArray, xsOf s = d /\ s.data.toList = dgB d /\ s.size = (dgB d).length := by
 obtain ⟨s, hs⟩ := zbd d hd.2
 have e : s.data.toList = dgB d := zdq (by rw [intsB_dgB hd, <- hs]; rfl)
 exact ⟨s, hs, e, by rw [<- e, Array.length_toList]; rfl⟩
section
variable {w0 w w' w'' : World} {g : Nat} {F : Nat -> Prop} {s s' : WSt}
theorem zb5 (h : OI w0 g F s w) (hs : s.2.length <= 70368744177664) (d : List Int) (hd : isDig d) (dd : Array Value) (hdd : dd = arrV .u8 d) :
    Calls Tryz.prog 63 #[.pointer (some ⟨g, 0, none⟩), .agg dd] w fun e w' => e = .returned (.tuple #[]) /\ OP w0 g F (sDig d s) w w' := by
 obtain ⟨e0, l⟩ := s
 obtain ⟨i0, hi, hz0, hz1, hz2⟩ := info_parts zdg
 simp only at hs
 obtain ⟨W1, hW1⟩ : ∃ W1, w.alloc (.cells dd 24) = W1 := ⟨_, rfl⟩
 have g1 : w.grownBy W1 none := by rw [<- hW1]; exact gQ
 have bx : Blk W1 w.heap.size 24 dd := by rw [<- hW1]; exact Blk.new w _ _
 have hsz : dd.size = 16 := by rw [hdd, zf, hd.1]
 have hgq : g ≠ w.heap.size := by
  obtain ⟨_, bA, bc, hb, _⟩ := h.wr
  have := hb.lt
  omega
 have P1 := h.grown g1
 obtain ⟨hBg, bA, bc, hb, hown, hF⟩ := P1.wi.wr
 have c0 := hb.cell 0
 have c1 := hb.cell 1
 simp at c0 c1
 have HP1 := hQ_ P1
 have HW := hQ_ hW1
 have HQ := hQ_ hgq
 rcases e0 with _ | e0
 · obtain ⟨S, hs1, hs2, hs3⟩ := dig_strB d hd
   obtain ⟨x, hx⟩ : ∃ x, dgB d = x := ⟨_, rfl⟩
   have hr : sDig d (0, l) = (0, l ++ x) := by rw [<- hx]; rfl
   rw [hx] at hs2 hs3
   have hxl : x.length = 16 := by rw [<- hx, zah, hd.1]
   have HXL := hQ_ (aQ hxl hs)
   have HT := hQ_ (show ∀ W : World, Calls Tryz.prog 59 #[.agg dd] W fun e w' => e = .returned (.string S) /\ W.grownBy w' none from fun W => by rw [hdd]; exact zd3 W d hd.1 S hs1)
   have HS := hQ_ (aQ hs3 hs2)
   have HD := hQ_ (aQ hdd (aQ hsz bx))
   have HI := hQ_ (aQ hi (aQ hz0 (aQ hz1 hz2)))
   have HH := hQ_ P1.wi
   have HB := hQ_ (aQ hBg (aQ hb (aQ hown hF)))
   have HR := hQ_ (show W1.drew.rangeAt w.heap.size 0 dd.toList from zd bx)
   have HX := hQ_ (fun (w1 : World) (A : Option Addr) (hbI : BytesI w1 A (intsB S.data.toList)) (gn : W1.drew.grownBy w1 none) =>
    aQ (show zt w1 A x by rw [<- hs2]; exact bytesAt_ofI hbI) (aQ (World.ownsRow.kept (show W1.drew.ownsRow 0 5 1 (.slice bA l.length bc) l.length (Lib.byteCells l) from hown) gn (by cases hv : (Value.slice bA l.length bc).ownBlock <;> simp)) (aQ (Blk.grown (show Blk W1.drew g 109 #[.slice bA l.length bc, .int .i64 0] from hb) gn (by simp)) (Blk.grown (show Blk W1.drew w.heap.size 24 dd from bx) gn (by simp)))))
   rw [hr]
   clear hr hx hxl hs hs1 hs2 hs3 hdd hsz bx hi hz0 hz1 hz2 hBg hb hown hF P1 hW1 hgq g1 h hd
   go_enter Tryz.func63, Tryz.ntmps63
   go_upto_region 1 with (fail)
   rw [HW.out]
   go_upto_region 2 with (fail)
   have c0d : W1.drew.cell? ⟨g, 0, none⟩ = some (.slice bA l.length bc) := c0
   refine wp_region_held_drew (S := fun V => V.rangeAt w.heap.size 0 dd.toList) (by kernel_rfl) HR.out (fun hHeld => ?_)
   refine wpAnyH_take (i := 0) (oi := _) (v := ?vn0) rfl (by kernel_rfl) (by kernel_rfl) (by kernel_rfl) (fun _ _ _ h => h) (Or.inl ⟨by rfl, ?hyn0⟩) (by assumption) ?restn0
   case hyn0 => (intro V hSw; (try dsimp only at hSw); go_simp) <;> with_reducible rfl
   try simp only [Act.put, List.getElem_toArray, List.getElem_cons_succ, List.getElem_cons_zero, List.setIfInBounds_toArray, List.set_cons_zero, List.set_cons_succ]
   refine wpAnyH_take (i := 1) (oi := _) (v := ?vn1) rfl (by kernel_rfl) (by kernel_rfl) (by kernel_rfl) (fun _ _ _ h => h) (Or.inl ⟨by rfl, ?hyn1⟩) (by assumption) ?restn1
   case hyn1 => (intro V hSw; (try dsimp only at hSw); go_simp) <;> with_reducible rfl
   try simp only [Act.put, List.getElem_toArray, List.getElem_cons_succ, List.getElem_cons_zero, List.setIfInBounds_toArray, List.set_cons_zero, List.set_cons_succ]
   refine wpAnyH_take (i := 2) (oi := _) (v := ?vn2) rfl (by kernel_rfl) (by kernel_rfl) (by kernel_rfl) (fun _ _ _ h => h) (Or.inl ⟨by rfl, ?hyn2⟩) (by assumption) ?restn2
   case hyn2 => (intro V hSw; (try dsimp only at hSw); go_simp) <;> with_reducible rfl
   try simp only [Act.put, List.getElem_toArray, List.getElem_cons_succ, List.getElem_cons_zero, List.setIfInBounds_toArray, List.set_cons_zero, List.set_cons_succ]
   refine wpAnyH_take (i := 3) (oi := _) (v := ?vn3) rfl (by kernel_rfl) (by kernel_rfl) (by kernel_rfl) (fun _ _ _ h => h) (Or.inl ⟨by rfl, ?hyn3⟩) (by assumption) ?restn3
   case hyn3 => (intro V hSw; (try dsimp only at hSw); go_simp) <;> with_reducible rfl
   try simp only [Act.put, List.getElem_toArray, List.getElem_cons_succ, List.getElem_cons_zero, List.setIfInBounds_toArray, List.set_cons_zero, List.set_cons_succ]
   refine wpAnyH_take (i := 5) (oi := _) (v := .agg dd) rfl (by kernel_rfl) (by kernel_rfl) (by kernel_rfl) (fun _ _ _ h => h) (yieldsIf_load_mid (by rfl) _ _ rfl w.heap.size 0 rfl dd.toList _ (fun V hSw => hSw) Tryz.underlying24 rfl (by rw [Array.length_toList, HD.out.2.1]; exact info16b)) (by assumption) ?restn5
   try simp only [Act.put, List.getElem_toArray, List.getElem_cons_succ, List.getElem_cons_zero, List.setIfInBounds_toArray, List.set_cons_zero, List.set_cons_succ]
   refine wpAnyH_ready (rs := [4, 6]) (by kernel_rfl) (by simp) ?_
   refine (AllReadyH.cons (o := _) rfl (fun K9 hK => ?_) (AllReadyH.cons (o := _) rfl (fun K9 hK => ?_) AllReadyH.nil))
   · go_simp
     refine hK.out _ _ hHeld (fun hHeld => ?_)
     clear hK K9
     try simp only [Act.put, List.getElem_toArray, List.getElem_cons_succ, List.getElem_cons_zero, List.setIfInBounds_toArray, List.set_cons_zero, List.set_cons_succ]
     refine wpAnyH_ready (rs := [6]) (by kernel_rfl) (by simp) ?_
     refine (AllReadyH.cons (o := _) rfl (fun K9 hK => ?_) AllReadyH.nil)
     go_simp
     refine (HT.out W1.drew).mono ?_
     rintro e w2 ⟨rfl, gt⟩
     have d0 := gt.cell c0d (by simp)
     obtain ⟨cv, w3, hcv0, _, hbI, gc, _⟩ := conv_is w2 S
     have hcv := hcv0 _ rfl
     rw [HS.out.1] at hcv
     have f3 := gc.cell d0 (by simp)
     have HG := hQ_ (za gt gc)
     have HY := hQ_ (HX.out w3 (some ⟨w2.heap.size, 0, none⟩) hbI (za gt gc))
     have HR2 := hQ_ (ze HR.out gt)
     have HR3 := hQ_ (ze HR.out (za gt gc))
     clear gt gc hcv0 hbI
     (try go_wp2_with fail)
     refine hK.out _ _ HR2.out (fun hHeld => ?_)
     clear hK K9
     try simp only [Act.put, List.getElem_toArray, List.getElem_cons_succ, List.getElem_cons_zero, List.setIfInBounds_toArray, List.set_cons_zero, List.set_cons_succ]
     refine wpAnyH_ready (rs := [7]) (by kernel_rfl) (by simp) ?_
     refine (AllReadyH.cons (o := _) rfl (fun K9 hK => ?_) AllReadyH.nil)
     go_simp
     refine hK.out _ _ HR3.out (fun hHeld => ?_)
     clear hK K9
     try simp only [Act.put, List.getElem_toArray, List.getElem_cons_succ, List.getElem_cons_zero, List.setIfInBounds_toArray, List.set_cons_zero, List.set_cons_succ]
     refine wpAnyH_ready (rs := [8]) (by kernel_rfl) (by simp) ?_
     refine (AllReadyH.cons (o := _) rfl (fun K9 hK => ?_) AllReadyH.nil)
     refine vj _ (by rfl) _ _ _ (by rfl) 0 5 i0 _ Tryz.underlying81 HI.out.1 HI.out.2.1 HI.out.2.2.1 HI.out.2.2.2 rfl (.slice bA l.length bc) l.length (Lib.byteCells l) (by rfl) HY.out.2.1 (some ⟨w2.heap.size, 0, none⟩) _ x (by rfl) HY.out.1 (by have := HXL.out; omega) (Nat.zero_le _) ?_
     intro A' cap' w3 hown1 hgrow hat
     have hb3 := HY.out.2.2.1.grown hgrow (own_ne HY.out.2.1 HY.out.2.2.1 (by decide)).symm
     have f0 := hb3.frozen 0
     have d3 : w3.cell? ⟨g, 0, none⟩ = some (.slice bA l.length bc) := hb3.cell 0
     clear hb3
     have HP := hQ_ (OutIs.pushed (F := Proofs.YtigafnbofmiknaaGreatDoor.upTo F w.heap.size W1.heap.size) HB.out.1 HY.out.2.2.1 HY.out.2.1 HB.out.2.2.2 hown1 hgrow hat)
     have HR4 := hQ_ (zd (HY.out.2.2.2.grown hgrow (own_ne HY.out.2.1 HY.out.2.2.2 (by decide)).symm))
     clear hown1 hgrow hat
     refine hK.out _ _ HR4.out (fun hHeld => ?_)
     clear hK K9
     try simp only [Act.put, List.getElem_toArray, List.getElem_cons_succ, List.getElem_cons_zero, List.setIfInBounds_toArray, List.set_cons_zero, List.set_cons_succ]
     refine wpAnyH_take (i := 9) (oi := _) (v := ?va9) rfl (by kernel_rfl) (by kernel_rfl) (by kernel_rfl) (fun _ _ _ h => h) (Or.inl ⟨by rfl, ?hya9⟩) (by assumption) ?resta9
     case hya9 => (intro V hSw; (try dsimp only at hSw); go_simp) <;> with_reducible rfl
     try simp only [Act.put, List.getElem_toArray, List.getElem_cons_succ, List.getElem_cons_zero, List.setIfInBounds_toArray, List.set_cons_zero, List.set_cons_succ]
     refine wpAnyH_take (i := 10) (oi := _) (v := ?va10) rfl (by kernel_rfl) (by kernel_rfl) (by kernel_rfl) (fun _ _ _ h => h) (Or.inl ⟨by rfl, ?hya10⟩) (by assumption) ?resta10
     case hya10 => (intro V hSw; (try dsimp only at hSw); go_simp) <;> with_reducible rfl
     try simp only [Act.put, List.getElem_toArray, List.getElem_cons_succ, List.getElem_cons_zero, List.setIfInBounds_toArray, List.set_cons_zero, List.set_cons_succ]
     refine wpAnyH_ready (rs := [11]) (by kernel_rfl) (by simp) ?_
     refine (AllReadyH.cons (o := _) rfl (fun K9 hK => ?_) AllReadyH.nil)
     go_simp
     refine hK.out _ _ (zbn HR4.out HQ.out _) (fun hHeld => ?_)
     clear hK K9
     try simp only [Act.put, List.getElem_toArray, List.getElem_cons_succ, List.getElem_cons_zero, List.setIfInBounds_toArray, List.set_cons_zero, List.set_cons_succ]
     refine wpAnyH_done (by kernel_rfl) ?_ _
     go_wp2
     go_end0
     refine ⟨rfl, HP1.out.trans ((HH.out.same.drew).trans (OI.step HH.out.same.drew.wi ?_ ?_))⟩
     · exact (Kept.of_grown HG.out fun _ e => by cases e).follow_ou HP.out.2 fun j _ hj => .inl hj
     · refine HP.out.1.mono fun j _ hj => ?_
       have := HG.out.size
       rcases hj with h1 | ⟨h1, h2⟩
       · exact .inl (.inl h1)
       · exact .inr ⟨by omega, by simpa [World.setCell] using h2⟩
   · go_simp
     refine (HT.out W1.drew).mono ?_
     rintro e w2 ⟨rfl, gt⟩
     have d0 := gt.cell c0d (by simp)
     obtain ⟨cv, w3, hcv0, _, hbI, gc, _⟩ := conv_is w2 S
     have hcv := hcv0 _ rfl
     rw [HS.out.1] at hcv
     have f3 := gc.cell d0 (by simp)
     have HG := hQ_ (za gt gc)
     have HY := hQ_ (HX.out w3 (some ⟨w2.heap.size, 0, none⟩) hbI (za gt gc))
     have HR2 := hQ_ (ze HR.out gt)
     have HR3 := hQ_ (ze HR.out (za gt gc))
     clear gt gc hcv0 hbI
     (try go_wp2_with fail)
     refine hK.out _ _ HR2.out (fun hHeld => ?_)
     clear hK K9
     try simp only [Act.put, List.getElem_toArray, List.getElem_cons_succ, List.getElem_cons_zero, List.setIfInBounds_toArray, List.set_cons_zero, List.set_cons_succ]
     refine wpAnyH_ready (rs := [4, 7]) (by kernel_rfl) (by simp) ?_
     refine (AllReadyH.cons (o := _) rfl (fun K9 hK => ?_) (AllReadyH.cons (o := _) rfl (fun K9 hK => ?_) AllReadyH.nil))
     · go_simp
       refine hK.out _ _ HR2.out (fun hHeld => ?_)
       clear hK K9
       try simp only [Act.put, List.getElem_toArray, List.getElem_cons_succ, List.getElem_cons_zero, List.setIfInBounds_toArray, List.set_cons_zero, List.set_cons_succ]
       refine wpAnyH_ready (rs := [7]) (by kernel_rfl) (by simp) ?_
       refine (AllReadyH.cons (o := _) rfl (fun K9 hK => ?_) AllReadyH.nil)
       go_simp
       refine hK.out _ _ HR3.out (fun hHeld => ?_)
       clear hK K9
       try simp only [Act.put, List.getElem_toArray, List.getElem_cons_succ, List.getElem_cons_zero, List.setIfInBounds_toArray, List.set_cons_zero, List.set_cons_succ]
       refine wpAnyH_ready (rs := [8]) (by kernel_rfl) (by simp) ?_
       refine (AllReadyH.cons (o := _) rfl (fun K9 hK => ?_) AllReadyH.nil)
       refine vj _ (by rfl) _ _ _ (by rfl) 0 5 i0 _ Tryz.underlying81 HI.out.1 HI.out.2.1 HI.out.2.2.1 HI.out.2.2.2 rfl (.slice bA l.length bc) l.length (Lib.byteCells l) (by rfl) HY.out.2.1 (some ⟨w2.heap.size, 0, none⟩) _ x (by rfl) HY.out.1 (by have := HXL.out; omega) (Nat.zero_le _) ?_
       intro A' cap' w3 hown1 hgrow hat
       have hb3 := HY.out.2.2.1.grown hgrow (own_ne HY.out.2.1 HY.out.2.2.1 (by decide)).symm
       have f0 := hb3.frozen 0
       have d3 : w3.cell? ⟨g, 0, none⟩ = some (.slice bA l.length bc) := hb3.cell 0
       clear hb3
       have HP := hQ_ (OutIs.pushed (F := Proofs.YtigafnbofmiknaaGreatDoor.upTo F w.heap.size W1.heap.size) HB.out.1 HY.out.2.2.1 HY.out.2.1 HB.out.2.2.2 hown1 hgrow hat)
       have HR4 := hQ_ (zd (HY.out.2.2.2.grown hgrow (own_ne HY.out.2.1 HY.out.2.2.2 (by decide)).symm))
       clear hown1 hgrow hat
       refine hK.out _ _ HR4.out (fun hHeld => ?_)
       clear hK K9
       try simp only [Act.put, List.getElem_toArray, List.getElem_cons_succ, List.getElem_cons_zero, List.setIfInBounds_toArray, List.set_cons_zero, List.set_cons_succ]
       refine wpAnyH_take (i := 9) (oi := _) (v := ?vb9) rfl (by kernel_rfl) (by kernel_rfl) (by kernel_rfl) (fun _ _ _ h => h) (Or.inl ⟨by rfl, ?hyb9⟩) (by assumption) ?restb9
       case hyb9 => (intro V hSw; (try dsimp only at hSw); go_simp) <;> with_reducible rfl
       try simp only [Act.put, List.getElem_toArray, List.getElem_cons_succ, List.getElem_cons_zero, List.setIfInBounds_toArray, List.set_cons_zero, List.set_cons_succ]
       refine wpAnyH_take (i := 10) (oi := _) (v := ?vb10) rfl (by kernel_rfl) (by kernel_rfl) (by kernel_rfl) (fun _ _ _ h => h) (Or.inl ⟨by rfl, ?hyb10⟩) (by assumption) ?restb10
       case hyb10 => (intro V hSw; (try dsimp only at hSw); go_simp) <;> with_reducible rfl
       try simp only [Act.put, List.getElem_toArray, List.getElem_cons_succ, List.getElem_cons_zero, List.setIfInBounds_toArray, List.set_cons_zero, List.set_cons_succ]
       refine wpAnyH_ready (rs := [11]) (by kernel_rfl) (by simp) ?_
       refine (AllReadyH.cons (o := _) rfl (fun K9 hK => ?_) AllReadyH.nil)
       go_simp
       refine hK.out _ _ (zbn HR4.out HQ.out _) (fun hHeld => ?_)
       clear hK K9
       try simp only [Act.put, List.getElem_toArray, List.getElem_cons_succ, List.getElem_cons_zero, List.setIfInBounds_toArray, List.set_cons_zero, List.set_cons_succ]
       refine wpAnyH_done (by kernel_rfl) ?_ _
       go_wp2
       go_end0
       refine ⟨rfl, HP1.out.trans ((HH.out.same.drew).trans (OI.step HH.out.same.drew.wi ?_ ?_))⟩
       · exact (Kept.of_grown HG.out fun _ e => by cases e).follow_ou HP.out.2 fun j _ hj => .inl hj
       · refine HP.out.1.mono fun j _ hj => ?_
         have := HG.out.size
         rcases hj with h1 | ⟨h1, h2⟩
         · exact .inl (.inl h1)
         · exact .inr ⟨by omega, by simpa [World.setCell] using h2⟩
     · go_simp
       refine hK.out _ _ HR3.out (fun hHeld => ?_)
       clear hK K9
       try simp only [Act.put, List.getElem_toArray, List.getElem_cons_succ, List.getElem_cons_zero, List.setIfInBounds_toArray, List.set_cons_zero, List.set_cons_succ]
       refine wpAnyH_ready (rs := [4]) (by kernel_rfl) (by simp) ?_
       refine (AllReadyH.cons (o := _) rfl (fun K9 hK => ?_) AllReadyH.nil)
       go_simp
       refine hK.out _ _ HR3.out (fun hHeld => ?_)
       clear hK K9
       try simp only [Act.put, List.getElem_toArray, List.getElem_cons_succ, List.getElem_cons_zero, List.setIfInBounds_toArray, List.set_cons_zero, List.set_cons_succ]
       refine wpAnyH_ready (rs := [8]) (by kernel_rfl) (by simp) ?_
       refine (AllReadyH.cons (o := _) rfl (fun K9 hK => ?_) AllReadyH.nil)
       refine vj _ (by rfl) _ _ _ (by rfl) 0 5 i0 _ Tryz.underlying81 HI.out.1 HI.out.2.1 HI.out.2.2.1 HI.out.2.2.2 rfl (.slice bA l.length bc) l.length (Lib.byteCells l) (by rfl) HY.out.2.1 (some ⟨w2.heap.size, 0, none⟩) _ x (by rfl) HY.out.1 (by have := HXL.out; omega) (Nat.zero_le _) ?_
       intro A' cap' w3 hown1 hgrow hat
       have hb3 := HY.out.2.2.1.grown hgrow (own_ne HY.out.2.1 HY.out.2.2.1 (by decide)).symm
       have f0 := hb3.frozen 0
       have d3 : w3.cell? ⟨g, 0, none⟩ = some (.slice bA l.length bc) := hb3.cell 0
       clear hb3
       have HP := hQ_ (OutIs.pushed (F := Proofs.YtigafnbofmiknaaGreatDoor.upTo F w.heap.size W1.heap.size) HB.out.1 HY.out.2.2.1 HY.out.2.1 HB.out.2.2.2 hown1 hgrow hat)
       have HR4 := hQ_ (zd (HY.out.2.2.2.grown hgrow (own_ne HY.out.2.1 HY.out.2.2.2 (by decide)).symm))
       clear hown1 hgrow hat
       refine hK.out _ _ HR4.out (fun hHeld => ?_)
       clear hK K9
       try simp only [Act.put, List.getElem_toArray, List.getElem_cons_succ, List.getElem_cons_zero, List.setIfInBounds_toArray, List.set_cons_zero, List.set_cons_succ]
       refine wpAnyH_take (i := 9) (oi := _) (v := ?vc9) rfl (by kernel_rfl) (by kernel_rfl) (by kernel_rfl) (fun _ _ _ h => h) (Or.inl ⟨by rfl, ?hyc9⟩) (by assumption) ?restc9
       case hyc9 => (intro V hSw; (try dsimp only at hSw); go_simp) <;> with_reducible rfl
       try simp only [Act.put, List.getElem_toArray, List.getElem_cons_succ, List.getElem_cons_zero, List.setIfInBounds_toArray, List.set_cons_zero, List.set_cons_succ]
       refine wpAnyH_take (i := 10) (oi := _) (v := ?vc10) rfl (by kernel_rfl) (by kernel_rfl) (by kernel_rfl) (fun _ _ _ h => h) (Or.inl ⟨by rfl, ?hyc10⟩) (by assumption) ?restc10
       case hyc10 => (intro V hSw; (try dsimp only at hSw); go_simp) <;> with_reducible rfl
       try simp only [Act.put, List.getElem_toArray, List.getElem_cons_succ, List.getElem_cons_zero, List.setIfInBounds_toArray, List.set_cons_zero, List.set_cons_succ]
       refine wpAnyH_ready (rs := [11]) (by kernel_rfl) (by simp) ?_
       refine (AllReadyH.cons (o := _) rfl (fun K9 hK => ?_) AllReadyH.nil)
       go_simp
       refine hK.out _ _ (zbn HR4.out HQ.out _) (fun hHeld => ?_)
       clear hK K9
       try simp only [Act.put, List.getElem_toArray, List.getElem_cons_succ, List.getElem_cons_zero, List.setIfInBounds_toArray, List.set_cons_zero, List.set_cons_succ]
       refine wpAnyH_done (by kernel_rfl) ?_ _
       go_wp2
       go_end0
       refine ⟨rfl, HP1.out.trans ((HH.out.same.drew).trans (OI.step HH.out.same.drew.wi ?_ ?_))⟩
       · exact (Kept.of_grown HG.out fun _ e => by cases e).follow_ou HP.out.2 fun j _ hj => .inl hj
       · refine HP.out.1.mono fun j _ hj => ?_
         have := HG.out.size
         rcases hj with h1 | ⟨h1, h2⟩
         · exact .inl (.inl h1)
         · exact .inr ⟨by omega, by simpa [World.setCell] using h2⟩
 · have hr : sDig d (e0 + 1, l) = (e0 + 1, l) := rfl
   have hne : (((e0 + 1 : Nat) : Int) == 0) = false := by simp; omega
   rw [hr]
   clear hr P1 h hdd hsz bx hi hz0 hz1 hz2 hBg hb hown hF hW1 hgq g1 hd
   go_enter Tryz.func63, Tryz.ntmps63
   go_upto_region 1 with (fail)
   rw [HW.out]
   go_wp2_with fail
   go_end0
   exact ⟨rfl, HP1.out⟩
theorem yz {z : Int} {k : Nat} (hz : z = (k : Int)) (h : OI w0 g F s w) (hs : s.2.length <= 70368744177664) {n : Int} (hmax : n <= 9223372036854775807) (h1 : 1 <= k) (h8 : k <= 8) :
    Calls Tryz.prog 62 #[.pointer (some ⟨g, 0, none⟩), .int .i64 n, .int .i64 z] w fun e w' => e = .returned (.tuple #[]) /\ OP w0 g F (sNum n z s) w w' := by
 subst hz
 exact onum_st h hs n hmax k h1 h8
def sMany (n : Nat) (most : Int) (s : WSt) : WSt := if most < (n : Int) then sFail 1 s else sNum (n : Int) 1 s
theorem omany_st (h : OI w0 g F s w) (hs : s.2.length <= 70368744177664) (n : Nat) (hn : n <= 1000000) (most : Nat) (hm : most <= 255) :
    Calls Tryz.prog 65 #[.pointer (some ⟨g, 0, none⟩), .int .i64 (n : Int), .int .i64 (most : Int)] w fun e w' => e = .returned (.tuple #[]) /\ OP w0 g F (sMany n (most : Int) s) w w' := by
 obtain ⟨e0, l⟩ := s
 obtain ⟨hBg, bA, bc, hb, hown, hF⟩ := h.wr
 have c0 := hb.cell 0
 have c1 := hb.cell 1
 simp at c0 c1
 simp only at hs
 rcases e0 with _ | e0
 · by_cases hlt : (most : Int) < (n : Int)
   · have hr : sMany n (most : Int) (0, l) = (1, l) := by unfold sMany sFail; rw [if_pos hlt]; rfl
     have hb1 : decide (most < n) = true := by simpa using hlt
     have f1 := hb.frozen 1
     have hP : OP w0 g F (1, l) w (w.setCell ⟨g, 1, none⟩ (.int .i64 1)) := h.step ((Kept.refl F w).set (.inl hBg) _) ⟨.inl hBg, bA, bc, by simpa using hb.set 1 (.int .i64 1), zcw hown hb (by decide) 1 _, fun ad e => .inl (hF ad e)⟩
     have HN := hQ_ (yz (n := (n : Int)) (z := 1) (k := 1) rfl hP.wi hs (by omega) (by omega) (by omega))
     have HP := hQ_ hP
     have hsn : sNum (n : Int) 1 (1, l) = (1, l) := by unfold sNum; split <;> rfl
     have HSN := hQ_ hsn
     rw [hr]
     clear hP hr hsn h hb hown hF hBg hs hn hm hlt
     go_enter Tryz.func65, Tryz.ntmps65
     go_wp2_with fail
     refine HN.out.mono ?_
     rintro e w1 ⟨rfl, q⟩
     have Q := hQ_ q
     clear q
     go_wp2_with fail
     go_end0
     refine ⟨rfl, HP.out.trans ?_⟩
     have := Q.out
     rwa [HSN.out] at this
   · have hr : sMany n (most : Int) (0, l) = sNum (n : Int) 1 (0, l) := by unfold sMany; rw [if_neg hlt]
     have hb1 : decide (most < n) = false := by simpa using hlt
     have HN := hQ_ (yz (n := (n : Int)) (z := 1) (k := 1) rfl h hs (by omega) (by omega) (by omega))
     rw [hr]
     clear hr h hb hown hF hBg hs hn hm hlt
     go_enter Tryz.func65, Tryz.ntmps65
     go_wp2_with fail
     refine HN.out.mono ?_
     rintro e w1 ⟨rfl, q⟩
     have Q := hQ_ q
     clear q
     go_wp2_with fail
     go_end0
     exact ⟨rfl, Q.out⟩
 · have hr : sMany n (most : Int) (e0 + 1, l) = (e0 + 1, l) := by
     unfold sMany sNum
     split
     · rfl
     · split <;> rfl
   have hr2 : sNum (n : Int) 1 (e0 + 1, l) = (e0 + 1, l) := by unfold sNum; split <;> rfl
   have hne : (((e0 + 1 : Nat) : Int) == 0) = false := by simp; omega
   have HN := hQ_ (yz (n := (n : Int)) (z := 1) (k := 1) rfl h hs (by omega) (by omega) (by omega))
   have HR := hQ_ hr2
   rw [hr]
   clear hr hr2 h hb hown hF hBg hs hn hm
   go_enter Tryz.func65, Tryz.ntmps65
   go_wp2_with fail
   refine HN.out.mono ?_
   rintro e w1 ⟨rfl, q⟩
   have Q := hQ_ q
   clear q
   go_wp2_with fail
   go_end0
   refine ⟨rfl, ?_⟩
   have := Q.out
   rwa [HR.out] at this
end
end
end Go.Proofs.YtigafnbofmiknaaGreatDoor
