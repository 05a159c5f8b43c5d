/-
  Several texts in one: PfS, PwG, PfA.
-/
import Derived.Test.YtlokjbjpmhfkhaaDoorM11L
import Derived.ChangeSame
import Derived.Test.YtlokjbjpmhfkhaaDoorM11q
import Derived.Test.YtlokjbjpmhfkhaaDoorM11g
import Derived.Deep.Strs
import Derived.Lib.SmallJoins
import Derived.Test.YtlokjbjpmhfkhaaDoorM11A
/-
  The document's BigQC.
-/

namespace Go.Proofs.YtlokjbjpmhfkhaaDoor
open Go.RowKit Go.Shelf

attribute [local go_sem] Oper.semAt_some

set_option maxRecDepth 100000 in
set_option maxHeartbeats 1000000 in
theorem rbigqc_is (w : World) (e r : Int) (Bv : Array Value) (hB : Bv.size = 16) (A2 : Option Addr) (c2 : Nat) (L : List Sg) (hA : SgsAt w A2 L) (qv : Array Value) (hqv : qv = qcC e r Bv (.slice A2 L.length c2)) :
    Calls Tryd.prog 11 #[.agg qv] w fun e' w' => e' = .returned (.bool (bigQ L)) ∧ w.grownBy w' none := by
  obtain ⟨q, hq⟩ : ∃ q, w.heap.size = q := ⟨_, rfl⟩
  obtain ⟨w1, hw1⟩ : ∃ w1, w.alloc (.cells qv 39) = w1 := ⟨_, rfl⟩
  have g1 : w.grownBy w1 none := by rw [← hw1]; exact World.grownBy_alloc _ _ none
  have b1 : Blk w1 q 39 (qcC e r Bv (.slice A2 L.length c2)) := by rw [← hw1, ← hq, ← hqv]; exact Blk.new _ _ _
  obtain ⟨_, _, _, x3⟩ := qc_cells hB b1
  have hz4 := zs_run
  obtain ⟨n, hn⟩ : ∃ n, L.length = n := ⟨_, rfl⟩
  rw [hn] at x3
  obtain ⟨R, hR⟩ : ∃ R, R = bigQ L := ⟨_, rfl⟩
  rw [← hR]
  have HW := Lib.hid (And.intro hw1 hq)
  have HX := Lib.hid (And.intro g1 (And.intro (hA.grown g1) (And.intro hn hR)))
  clear g1 b1 hA hn hR hB hqv hw1 hq
  by_cases h12 : 12 < (n : Int)
  · have d1 : decide (12 < (n : Int)) = true := by simp; omega
    have HN := Lib.hid (show R = true by rw [HX.out.2.2.2, bigQ, decide_eq_true (by have := HX.out.2.2.1; omega)]; rfl)
    clear h12
    go_enter Tryd.func11, Tryd.ntmps11
    go_upto_region 1 with (fail)
    rw [HW.out.1, HW.out.2]
    go_wp2_with fail
    go_ret
    exact ⟨by rw [HN.out]; rfl, HX.out.1⟩
  · have d1 : decide (12 < (n : Int)) = false := by simp; omega
    have hn12 : n ≤ 12 := by omega
    have HD := Lib.hid (show R = L.any bigS by rw [HX.out.2.2.2, bigQ, decide_eq_false (by have := HX.out.2.2.1; omega)]; rfl)
    clear h12
    go_enter Tryd.func11, Tryd.ntmps11
    go_upto_region 1 with (fail)
    rw [HW.out.1, HW.out.2]
    go_wp2_with fail
    clear x3
    go_loopw [12] (fun i wr => ∃ k : Nat, k ≤ n ∧ i = .int .i64 (k : Int) ∧ Hid (∀ s ∈ L.take k, bigS s = false) ∧ w1.grownBy wr none) (fun i _ => n - (intV i).toNat)
    case atStart => exact ⟨0, Nat.zero_le _, rfl, Lib.hid (by simp), World.grownBy.refl w1 none⟩
    case round =>
      obtain ⟨k, hk, hi, hno, hK⟩ := hrel
      obtain ⟨I, hI⟩ : ∃ I : Int, I = (k : Int) := ⟨_, rfl⟩
      rw [← hI] at hi
      subst hi
      rename World => wr
      by_cases hlt : k < n
      · have hlt' : k < L.length := by have := HX.out.2.2.1; omega
        have hne : L ≠ [] := by rintro rfl; simp at hlt'
        obtain ⟨b, off, rfl, hc⟩ := HX.out.2.1 hne
        have d2 : decide (I < (n : Int)) = true := by simp; omega
        have hIV : I < (n : Int) := by omega
        have hI0 : 0 ≤ I ∧ I < 1000 := by omega
        have hkI : I.toNat = k := by omega
        have r1 := range_kept (hc k hlt') hK
        obtain ⟨x, hxe⟩ : ∃ x, x = L[k] := ⟨_, rfl⟩
        rw [← hxe] at r1
        rw [← hkI] at r1
        obtain ⟨cs, hcs⟩ : ∃ cs, cs = x.cells := ⟨_, rfl⟩
        have hc4 : cs.size = 4 := by rw [hcs]; rfl
        have hc1 : (cs.all fun v => v.oneCell') = true := by rw [hcs]; exact sg_one x
        rw [← hcs] at r1
        obtain ⟨W0, hW0⟩ : ∃ W0, W0 = (wr.alloc (.cells sZ 53)).setRow wr.heap.size cs := ⟨_, rfl⟩
        have hG0 : wr.grownBy W0 none := by rw [hW0]; exact grown_row (World.grownBy_alloc wr _ none) (.inl (Nat.le_refl _)) cs
        have bS : Blk W0 wr.heap.size 53 cs := by rw [hW0]; exact (Blk.new wr 53 sZ).row cs
        have rS := range_blk bS
        have rg : W0.rangeAt wr.heap.size 1 x.sig.toList := by
          rw [show cs.toList = [.int .i64 x.who] ++ (x.sig.toList ++ []) by rw [hcs]; simp [Sg.cells]] at rS
          have := range_part rS
          rwa [Nat.zero_add] at this
        have HC := Lib.hid (And.intro hc4 (And.intro hc1 (And.intro r1 rg)))
        have HN := Lib.hid (And.intro hno (And.intro (grown_trans hK hG0) (And.intro hI (And.intro hlt' (And.intro hxe hlt)))))
        have HW2 := Lib.hid hW0
        have HS := Lib.hid (rbigsig_is W0 x)
        obtain ⟨sg, hse⟩ : ∃ sg, sg = x.sig := ⟨_, rfl⟩
        rw [← hse] at HS
        have HSE := Lib.hid hse
        clear r1 rg hxe hcs hc4 hc1 hG0 bS rS hc hne hI hkI hlt hK hW0 hno hse
        go_wp2_with (first
          | (refine wpList_load_mid rfl 53 _ rfl b (off + I.toNat * 4) rfl cs.toList _ HC.out.2.2.1 Tryd.underlying53 rfl (by rw [Array.length_toList, HC.out.1]; exact info4s) ?_; rw [Array.toArray_toList])
          | (refine wpList_store_row rfl 53 _ _ rfl wr.heap.size cs rfl rfl 53 _ (heap_alloc_new wr _) (by rw [HC.out.1]; exact info4s) (by rw [HC.out.1]; rfl) HC.out.2.1 ?_
             rw [← HW2.out])
          | (refine wpList_load_mid rfl 51 _ rfl wr.heap.size 1 rfl x.sig.toList _ HC.out.2.2.2 Tryd.underlying51 rfl (by exact info3s) ?_; rw [Array.toArray_toList, ← HSE.out]))
        refine HS.out.mono ?_
        rintro e3 W3 ⟨rfl, g3⟩
        have HG3 := Lib.hid (grown_trans HN.out.2.1 g3)
        clear g3
        obtain ⟨bb, hbb⟩ : ∃ bb, bb = bigS x := ⟨_, rfl⟩
        rw [← hbb]
        have HBB := Lib.hid hbb
        clear hbb
        cases bb
        · go_wp2_with fail
          go_roundw
          case rel =>
            obtain ⟨n1, n2, n3, n4, n5, n6⟩ := HN.out
            refine ⟨k + 1, by omega, by rw [n3]; rfl, Lib.hid (fun s hs => ?_), HG3.out⟩
            rw [← List.take_append_getElem n4, List.mem_append] at hs
            rcases hs with hs | hs
            · exact n1.out s hs
            · simp at hs; rw [hs, ← n5]; exact HBB.out.symm
          case measure => obtain ⟨n1, n2, n3, n4, n5, n6⟩ := HN.out; simp [intV]; omega
        · have HRR := Lib.hid (show R = true by
            obtain ⟨n1, n2, n3, n4, n5, n6⟩ := HN.out
            rw [HD.out, List.any_eq_true]
            exact ⟨x, by rw [n5]; exact List.getElem_mem n4, HBB.out.symm⟩)
          go_wp2_with fail
          go_ret
          exact ⟨by rw [HRR.out]; rfl, grown_trans HX.out.1 HG3.out⟩
      · have d2 : decide (I < (n : Int)) = false := by simp; omega
        obtain rfl : k = n := by omega
        have HK := Lib.hid (And.intro hK (show R = false by
          rw [HD.out, List.any_eq_false]
          intro s hs
          have := hno.out s (by rw [← HX.out.2.2.1, List.take_length]; exact hs)
          simp [this]))
        clear hK hno hI hlt hk
        go_wp2_with fail
        go_ret
        exact ⟨by rw [HK.out.2]; rfl, grown_trans HX.out.1 HK.out.1⟩
end Go.Proofs.YtlokjbjpmhfkhaaDoor
/-
  An argument opened: a row of validators.
-/
namespace Go.Proofs.YtlokjbjpmhfkhaaDoor
open Go.ChangeShapes Go.WideShapes Go.ChangeAt Go.RowKit

theorem cellsVd : Tryd.prog.cellsOf 62 = 17 := by kernel_rfl
theorem cellsDig : Tryd.prog.cellsOf 32 = 16 := by kernel_rfl
theorem cellsI : Tryd.prog.cellsOf 3 = 1 := by kernel_rfl
theorem cellsU8 : Tryd.prog.cellsOf 5 = 1 := by kernel_rfl

section
variable {H : Type} {enc : TypeId × Value → H} {w : World} {base : Nat} {spare : Nat → Bool} {held : Bool} {fuel : Nat} {cs : List Value} {x : DataW H × List MemPlace}
theorem open_vd (h : DataW.trod enc Tryd.prog w base spare held fuel 62 cs = some x) :
    ∃ y : Vd, cs = y.cells ∧ y.key.length = 16 ∧ (Lit.int .i64 y.p).wf = true := by
  obtain ⟨y0, y1, n, _, hlen, h0, h1⟩ := trod_struct2 Tryd.underlying62 h
  rw [cellsVd] at hlen
  obtain ⟨l, hl, hl16, _, _⟩ := arr_of_trod Tryd.underlying32 Tryd.underlying5 cellsU8 cellsDig h0
  obtain ⟨p, hp, _, hwf⟩ := DataW.trod_int Tryd.underlying3 h1
  dsimp only at hl hp
  rw [cellsDig] at hl
  rw [cellsI] at hp
  refine ⟨⟨l, p⟩, ?_, hl16, hwf⟩
  have e : cs = cs.take 16 ++ (cs.drop 16).take 1 := by
    rw [List.take_of_length_le (l := cs.drop 16) (by simp; omega), List.take_append_drop]
  rw [e, hp, show cs.take 16 = l.map (Value.int .u8) from hl]
  rfl
theorem open_vds (h : DataW.trod enc Tryd.prog w base spare held fuel 22 cs = some x) :
    ∃ A n c, ∃ xs : List Vd, cs = [.slice A n c] ∧ xs.length = n ∧ n ≤ c ∧ VdsAt w A xs ∧ keysOk xs ∧ ∀ y ∈ xs, (Lit.int .i64 y.p).wf = true := by
  rcases DataW.trod_slice Tryd.underlying22 h with ⟨hcs, _⟩ | ⟨a, len, cap, elems, rest, n, _, hcs, _, _, hl, _, hlen, hel, _⟩
  · exact ⟨none, 0, 0, [], hcs, rfl, Nat.le_refl _, fun h => absurd rfl h, fun _ h => by simp at h, fun _ h => by simp at h⟩
  · rw [cellsVd] at hel
    have each : ∀ i, i < len → ∃ o : Vd, o.key.length = 16 ∧ (Lit.int .i64 o.p).wf = true ∧ ∀ j v, o.cells[j]? = some v → w.cell? (a.add (i * 17 + j)) = some v := by
      intro i hi
      have hE := hel i hi
      have hi' : i < elems.length := by omega
      rw [List.getElem?_eq_getElem hi'] at hE
      simp only [Option.bind_eq_some_iff] at hE
      obtain ⟨cs', hc', ht⟩ := hE
      obtain ⟨y, rfl, h16, hwf⟩ := open_vd ht
      obtain ⟨_, _, hat⟩ := World.cells?_some hc'
      refine ⟨y, h16, hwf, fun j v hv => ?_⟩
      rw [← Go.Deep.add_add]
      have hj : j < 17 := by have := (List.getElem?_eq_some_iff.1 hv).1; rwa [Vd.cells_length h16] at this
      rw [hat j hj, hv]
    let ops : List Vd := (List.range len).map fun i => if h : i < len then (each i h).choose else ⟨[], 0⟩
    have hops : ops.length = len := by simp [ops]
    have hget : ∀ k (hk : k < ops.length), ∃ hk' : k < len, ops[k] = (each k hk').choose := fun k hk => ⟨by omega, by simp [ops, show k < len by omega]⟩
    refine ⟨some a, len, cap, ops, hcs, hops, hl, fun hne => ?_, fun y hy => ?_, fun y hy => ?_⟩
    · have h0 : 0 < len := by rw [← hops]; exact List.length_pos_iff.2 hne
      have hspot : ∃ b off, a = ⟨b, off, none⟩ := by
        obtain ⟨o, h16, _, hc⟩ := each 0 h0
        have h1 : 0 < o.cells.length := by rw [Vd.cells_length h16]; omega
        exact addr_form (hc 0 _ (List.getElem?_eq_getElem h1)) rfl
      obtain ⟨b, off, rfl⟩ := hspot
      refine ⟨b, off, rfl, fun k hk j v hv => ?_⟩
      obtain ⟨hk', e⟩ := hget k hk
      rw [e] at hv
      have := (each k hk').choose_spec.2.2 j v hv
      rw [Go.WideShapes.add_plain, ← Nat.add_assoc] at this
      exact this
    · obtain ⟨k, hk, rfl⟩ := List.getElem_of_mem hy
      obtain ⟨hk', e⟩ := hget k hk
      rw [e]
      exact (each k hk').choose_spec.1
    · obtain ⟨k, hk, rfl⟩ := List.getElem_of_mem hy
      obtain ⟨hk', e⟩ := hget k hk
      rw [e]
      exact (each k hk').choose_spec.2.1
set_option maxRecDepth 100000 in
theorem arg_vds {v : Value} {d : DataW H} {p : List MemPlace} {b0 : Nat} (hv : Value.okWide Tryd.prog w .any b0 22 v) (h : DataW.Trod enc Tryd.prog w base spare held 22 v d p) :
    ∃ A c, ∃ xs : List Vd, v = .slice A xs.length c ∧ xs.length ≤ c ∧ VdsAt w A xs ∧ keysOk xs ∧ ∀ y ∈ xs, (Lit.int .i64 y.p).wf = true := by
  obtain ⟨a0, len, cap, rfl⟩ := okWide_slice Tryd.underlying22 hv
  obtain ⟨fuel, hf⟩ := h
  obtain ⟨A, n, c, xs, hcs, rfl, hc, hb⟩ := open_vds hf
  have e : Value.slice a0 len cap = .slice A xs.length c := (List.cons.inj (show [Value.slice a0 len cap] = [Value.slice A xs.length c] from hcs)).1
  exact ⟨A, c, xs, e, hc, hb⟩
end
end Go.Proofs.YtlokjbjpmhfkhaaDoor
/-
  What is asked of a ground, as an argument.
-/
namespace Go.Proofs.YtlokjbjpmhfkhaaDoor
open Go.ChangeShapes Go.WideShapes Go.ChangeAt Go.RowKit

theorem cellsSig11 : Tryd.prog.cellsOf 51 = 3 := by kernel_rfl
theorem cellsSg11 : Tryd.prog.cellsOf 53 = 4 := by kernel_rfl
theorem cellsDigs11 : Tryd.prog.cellsOf 49 = 1 := by kernel_rfl
theorem cellsVds11 : Tryd.prog.cellsOf 22 = 1 := by kernel_rfl
theorem cellsSgs11 : Tryd.prog.cellsOf 37 = 1 := by kernel_rfl
theorem cellsGr11 : Tryd.prog.cellsOf 34 = 18 := by kernel_rfl
theorem cellsQC11 : Tryd.prog.cellsOf 39 = 19 := by kernel_rfl
theorem cellsTC11 : Tryd.prog.cellsOf 42 = 3 := by kernel_rfl
theorem cellsAs11 : Tryd.prog.cellsOf 44 = 40 := by kernel_rfl
theorem wf_in11 {z : Int} (h : (Lit.int .i64 z).wf = true) : -9223372036854775808 ≤ z ∧ z < 9223372036854775808 := by
  have h2 : decide (-9223372036854775808 ≤ z) = true ∧ decide (z ≤ 9223372036854775807) = true := Bool.and_eq_true_iff.1 h
  have h3 := of_decide_eq_true h2.1
  have h4 := of_decide_eq_true h2.2
  exact ⟨h3, by omega⟩
section
variable {H : Type} {enc : TypeId × Value → H} {w : World} {base : Nat} {spare : Nat → Bool} {held : Bool} {fuel : Nat} {cs : List Value} {x : DataW H × List MemPlace}
def sgOk (w : World) (s : Sg) : Prop := (DigRow w s.A1 s.n1 s.cs ∧ DigRow w s.A2 s.n2 s.ps) ∧ (-9223372036854775808 ≤ s.who ∧ s.who < 9223372036854775808)
set_option maxRecDepth 100000 in
theorem open_sig11 (h : DataW.trod enc Tryd.prog w base spare held fuel 51 cs = some x) :
    ∃ lf A1 n1 c1, ∃ ds : List (List Int), ∃ A2 n2 c2, ∃ ps : List (List Int), cs = (sigV lf (.slice A1 n1 c1) (.slice A2 n2 c2)).toList ∧ DigRow w A1 n1 ds ∧ DigRow w A2 n2 ps := by
  obtain ⟨y0, y1, y2, n, _, hlen, h0, h1, h2⟩ := Go.Deep.trod_struct3 Tryd.underlying51 h
  rw [cellsSig11] at hlen
  obtain ⟨lf, e0, _, _⟩ := DataW.trod_int Tryd.underlying3 h0
  obtain ⟨A1, n1, c1, ds, e1, hl1, _, hd1, ha1⟩ := open_digs h1
  obtain ⟨A2, n2, c2, ps, e2, hl2, _, hd2, ha2⟩ := open_digs h2
  match cs, hlen with
  | [v0, v1, v2], _ =>
    simp [cellsI, cellsDigs11] at e0 e1 e2
    subst e0 e1 e2
    refine ⟨lf, A1, n1, c1, ds, A2, n2, c2, ps, rfl, ⟨hl1, hd1, ?_⟩, ⟨hl2, hd2, ?_⟩⟩
    · by_cases e : n1 = 0
      · exact .inl e
      · exact .inr (digs_at (by rintro rfl; exact e hl1.symm) hd1 ha1)
    · by_cases e : n2 = 0
      · exact .inl e
      · exact .inr (digs_at (by rintro rfl; exact e hl2.symm) hd2 ha2)
set_option maxRecDepth 100000 in
theorem open_sg (h : DataW.trod enc Tryd.prog w base spare held fuel 53 cs = some x) : ∃ s : Sg, cs = s.cells.toList ∧ sgOk w s := by
  obtain ⟨y0, y1, n, _, hlen, h0, h1⟩ := trod_struct2 Tryd.underlying53 h
  rw [cellsSg11] at hlen
  obtain ⟨p, hp, _, hwf⟩ := DataW.trod_int Tryd.underlying3 h0
  obtain ⟨lf, A1, n1, c1, ds, A2, n2, c2, ps, e1, hd, hq⟩ := open_sig11 h1
  refine ⟨⟨p, lf, A1, n1, c1, ds, A2, n2, c2, ps⟩, ?_, ⟨hd, hq⟩, wf_in11 hwf⟩
  match cs, hlen with
  | [v0, v1, v2, v3], _ =>
    simp [cellsI, cellsSig11, sigV] at hp e1
    obtain ⟨rfl, rfl, rfl⟩ := e1
    subst hp
    rfl
set_option maxRecDepth 100000 in
theorem open_sgs (h : DataW.trod enc Tryd.prog w base spare held fuel 37 cs = some x) :
    ∃ A n c, ∃ xs : List Sg, cs = [.slice A n c] ∧ xs.length = n ∧ n ≤ c ∧ SgsAt w A xs ∧ ∀ s ∈ xs, sgOk w s := by
  rcases DataW.trod_slice Tryd.underlying37 h with ⟨hcs, _⟩ | ⟨a, len, cap, elems, rest, n, _, hcs, _, _, hl, _, hlen, hel, _⟩
  · exact ⟨none, 0, 0, [], hcs, rfl, Nat.le_refl _, fun h => absurd rfl h, fun _ h => by simp at h⟩
  · rw [cellsSg11] at hel
    have each : ∀ i, i < len → ∃ o : Sg, sgOk w o ∧ ∀ j v, o.cells.toList[j]? = some v → w.cell? (a.add (i * 4 + j)) = some v := by
      intro i hi
      have hE := hel i hi
      have hi' : i < elems.length := by omega
      rw [List.getElem?_eq_getElem hi'] at hE
      simp only [Option.bind_eq_some_iff] at hE
      obtain ⟨cs', hc', ht⟩ := hE
      obtain ⟨y, rfl, hy⟩ := open_sg ht
      obtain ⟨_, _, hat⟩ := World.cells?_some hc'
      refine ⟨y, hy, fun j v hv => ?_⟩
      rw [← Go.Deep.add_add]
      have hj : j < 4 := (List.getElem?_eq_some_iff.1 hv).1
      rw [hat j hj, hv]
    let ops : List Sg := (List.range len).map fun i => if h : i < len then (each i h).choose else ⟨0, 0, none, 0, 0, [], none, 0, 0, []⟩
    have hops : ops.length = len := by simp [ops]
    have hget : ∀ k (hk : k < ops.length), ∃ hk' : k < len, ops[k] = (each k hk').choose := fun k hk => ⟨by omega, by simp [ops, show k < len by omega]⟩
    refine ⟨some a, len, cap, ops, hcs, hops, hl, fun hne => ?_, fun y hy => ?_⟩
    · have h0 : 0 < len := by rw [← hops]; exact List.length_pos_iff.2 hne
      have hspot : ∃ b off, a = ⟨b, off, none⟩ := by
        obtain ⟨o, _, hc⟩ := each 0 h0
        exact addr_form (hc 0 (.int .i64 o.who) rfl) rfl
      obtain ⟨b, off, rfl⟩ := hspot
      refine ⟨b, off, rfl, fun k hk j v hv => ?_⟩
      obtain ⟨hk', e⟩ := hget k hk
      rw [e] at hv
      have := (each k hk').choose_spec.2 j v hv
      rw [Go.WideShapes.add_plain, ← Nat.add_assoc] at this
      exact this
    · obtain ⟨k, hk, rfl⟩ := List.getElem_of_mem hy
      obtain ⟨hk', e⟩ := hget k hk
      rw [e]
      exact (each k hk').choose_spec.1
/-- A ground and a QC that came in. -/
structure AskG where
  e : Int
  A : Option Addr
  c : Nat
  V : List Vd
  Gl : List Int
  qe : Int
  qr : Int
  Bl : List Int
  A2 : Option Addr
  c2 : Nat
  L : List Sg
def AskG.g (a : AskG) : Array Value := grC a.e (.slice a.A a.V.length a.c) (arrV .u8 a.Gl)
def AskG.q (a : AskG) : Array Value := qcC a.qe a.qr (arrV .u8 a.Bl) (.slice a.A2 a.L.length a.c2)
def askOk (w : World) (a : AskG) : Prop := (VdsAt w a.A a.V ∧ keysOk a.V ∧ a.V.length ≤ a.c) ∧ a.Gl.length = 16 ∧ (isDig a.Bl ∧ (-9223372036854775808 ≤ a.qe ∧ a.qe < 9223372036854775808) ∧ (-9223372036854775808 ≤ a.qr ∧ a.qr < 9223372036854775808)) ∧ SgsAt w a.A2 a.L ∧ (∀ s ∈ a.L, sgOk w s) ∧ a.L.length ≤ a.c2
theorem dig_wf {l : List Int} (h16 : l.length = 16) (h : ∀ z ∈ l, (Lit.int .u8 z).wf = true) : isDig l := ⟨h16, fun z hz => by
  have := h z hz
  simp [Lit.wf, IntKind.min, IntKind.max, IntKind.signed, IntKind.bits] at this
  omega⟩
set_option maxRecDepth 100000 in
theorem open_gr (h : DataW.trod enc Tryd.prog w base spare held fuel 34 cs = some x) :
    ∃ e A c, ∃ V : List Vd, ∃ Gl : List Int, cs = (grC e (.slice A V.length c) (arrV .u8 Gl)).toList ∧ VdsAt w A V ∧ keysOk V ∧ V.length ≤ c ∧ Gl.length = 16 := by
  obtain ⟨y0, y1, y2, n, _, hlen, h0, h1, h2⟩ := Go.Deep.trod_struct3 Tryd.underlying34 h
  rw [cellsGr11] at hlen
  obtain ⟨e, e0, _, _⟩ := DataW.trod_int Tryd.underlying3 h0
  obtain ⟨A, m, c, V, e1, rfl, hc, hV, ok, _⟩ := open_vds h1
  obtain ⟨l, hl, hl16, _, _⟩ := arr_of_trod Tryd.underlying32 Tryd.underlying5 cellsU8 cellsDig h2
  refine ⟨e, A, c, V, l, ?_, hV, ok, hc, hl16⟩
  dsimp only at e0 e1 hl
  rw [cellsI] at e0
  rw [cellsVds11] at e1
  rw [cellsDig] at hl
  have q (i : Nat) : cs.drop i = (cs.drop i).take 1 ++ cs.drop (i + 1) := by
    have := (List.take_append_drop 1 (cs.drop i)).symm
    rwa [List.drop_drop] at this
  have t5 : (cs.drop 2).take 16 = cs.drop 2 := List.take_of_length_le (by simp; omega)
  rw [t5] at hl
  have q0 := q 0
  rw [List.drop_zero] at q0 e0
  rw [q0, q 1, e0, e1, hl]
  simp [grC]
set_option maxRecDepth 100000 in
theorem open_qc11 (h : DataW.trod enc Tryd.prog w base spare held fuel 39 cs = some x) :
    ∃ qe qr, ∃ Bl : List Int, ∃ A2 c2, ∃ L : List Sg, cs = (qcC qe qr (arrV .u8 Bl) (.slice A2 L.length c2)).toList ∧ (isDig Bl ∧ (-9223372036854775808 ≤ qe ∧ qe < 9223372036854775808) ∧ (-9223372036854775808 ≤ qr ∧ qr < 9223372036854775808)) ∧ SgsAt w A2 L ∧ (∀ s ∈ L, sgOk w s) ∧ L.length ≤ c2 := by
  obtain ⟨y0, y1, y2, y3, n, _, hlen, h0, h1, h2, h3⟩ := Joins.trod_struct4 Tryd.underlying39 h
  rw [cellsQC11] at hlen
  obtain ⟨qe, e0, _, w0⟩ := DataW.trod_int Tryd.underlying3 h0
  obtain ⟨qr, e1, _, w1⟩ := DataW.trod_int Tryd.underlying3 h1
  obtain ⟨l, hl, hl16, _, hwf⟩ := arr_of_trod Tryd.underlying32 Tryd.underlying5 cellsU8 cellsDig h2
  obtain ⟨A2, m, c2, L, e3, rfl, hc, hL, hok⟩ := open_sgs h3
  refine ⟨qe, qr, l, A2, c2, L, ?_, ⟨dig_wf hl16 hwf, wf_in11 w0, wf_in11 w1⟩, hL, hok, hc⟩
  dsimp only at e0 e1 hl e3
  rw [cellsI] at e0 e1
  rw [cellsSgs11] at e3
  rw [cellsDig] at hl
  have q (i : Nat) : cs.drop i = (cs.drop i).take 1 ++ cs.drop (i + 1) := by
    have := (List.take_append_drop 1 (cs.drop i)).symm
    rwa [List.drop_drop] at this
  have t5 : (cs.drop 18).take 1 = cs.drop 18 := List.take_of_length_le (by simp; omega)
  rw [t5] at e3
  have q2 : cs.drop 2 = (cs.drop 2).take 16 ++ cs.drop 18 := by
    have := (List.take_append_drop 16 (cs.drop 2)).symm
    rwa [List.drop_drop] at this
  have q0 := q 0
  rw [List.drop_zero] at q0 e0
  rw [q0, q 1, q2, e0, e1, hl, e3]
  simp [qcC]
set_option maxRecDepth 100000 in
theorem arg_asked {v : Value} {d : DataW H} {p : List MemPlace} {b0 : Nat} (hv : Value.okWide Tryd.prog w .any b0 44 v) (h : DataW.Trod enc Tryd.prog w base spare held 44 v d p) :
    ∃ a : AskG, ∃ tc : List Value, v = .agg (a.g.toList ++ (a.q.toList ++ tc)).toArray ∧ tc.length = 3 ∧ askOk w a := by
  obtain ⟨cs, rfl, hsz⟩ := okWide_struct Tryd.underlying44 hv
  obtain ⟨fuel, hf⟩ := h
  obtain ⟨y0, y1, y2, n, _, hlen, h0, h1, h2⟩ := Go.Deep.trod_struct3 Tryd.underlying44 hf
  obtain ⟨e, A, c, V, Gl, e0, hV, ok, hc, hGl⟩ := open_gr h0
  obtain ⟨qe, qr, Bl, A2, c2, L, e1, hB, hA, hok, hc2⟩ := open_qc11 h1
  rw [cellsAs11] at hlen
  dsimp only at e0 e1
  rw [cellsGr11] at e0
  rw [cellsQC11] at e1
  refine ⟨⟨e, A, c, V, Gl, qe, qr, Bl, A2, c2, L⟩, (Value.agg cs).cells.toList.drop 37, ?_, by simp [hlen], ⟨hV, ok, hc⟩, hGl, hB, hA, hok, hc2⟩
  have e3 : cs.toList = (cs.toList.take 18) ++ ((cs.toList.drop 18).take 19 ++ cs.toList.drop 37) := by
    have h1 := (List.take_append_drop 18 cs.toList).symm
    have h2 := (List.take_append_drop 19 (cs.toList.drop 18)).symm
    rw [List.drop_drop] at h2
    rw [← h2, ← h1]
  simp only [AskG.g, AskG.q]
  rw [← e0, ← e1]
  simp only [Value.cells, List.drop_zero]
  rw [← e3]
end
end Go.Proofs.YtlokjbjpmhfkhaaDoor
