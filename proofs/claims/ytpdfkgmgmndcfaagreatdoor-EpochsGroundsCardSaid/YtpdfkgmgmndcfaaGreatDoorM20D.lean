/-
  Several texts in one: PwC, ArgI.
-/
import Derived.Test.YtpdfkgmgmndcfaaGreatDoorM20C
import Derived.Test.YtpdfkgmgmndcfaaGreatDoorM20a
import Derived.Test.YtpdfkgmgmndcfaaGreatDoorM20m
/-
  Which validators are right; Check.
-/
namespace Go.Proofs.YtpdfkgmgmndcfaaGreatDoor
open Go.RowKit

def okAt (V : List Vd) (k : Nat) : Bool := match V[k]? with
  | none => false
  | some x => !decide (x.p < 1) && !decide (1099511627776 < x.p) && decide (findS x.key V = (k : Int))
def rightS (V : List Vd) : Bool := decide (1 ≤ V.length) && decide (V.length ≤ 7) && (List.range V.length).all (okAt V)
theorem rightS_iff (V : List Vd) : rightS V = true ↔ (1 ≤ V.length ∧ V.length ≤ 7) ∧ ∀ k (h : k < V.length), 1 ≤ V[k].p ∧ V[k].p ≤ 1099511627776 ∧ findS V[k].key V = (k : Int) := by
  simp only [rightS, Bool.and_eq_true, decide_eq_true_eq, List.all_eq_true, List.mem_range]
  refine and_congr_right fun _ => forall_congr' fun k => ⟨fun h hk => ?_, fun h hk => ?_⟩
  · have := h hk
    simp only [okAt, List.getElem?_eq_getElem hk, Bool.and_eq_true, Bool.not_eq_true', decide_eq_false_iff_not, decide_eq_true_eq] at this
    exact ⟨by omega, by omega, this.2⟩
  · simp only [okAt, List.getElem?_eq_getElem hk, Bool.and_eq_true, Bool.not_eq_true', decide_eq_false_iff_not, decide_eq_true_eq]
    have := h hk
    exact ⟨⟨by omega, by omega⟩, this.2.2⟩

theorem zero_run {P : Program} {t : TypeId} {v : Value} (w : World) (h : (P.info? t).bind (·.zero) = some v) : Sem.run P (zeroValue t) w = .ok v w := by
  cases hq : P.info? t with
  | none => simp [hq] at h
  | some i =>
    have h1 : i.zero = some v := by simpa [hq] using h
    simp [zeroValue, typeInfo, hq, h1]

theorem wpList_load_mid_want {P : Program} {ops : Array Oper} {rest : List Oper} {op : Oper} {a : Act} {w : World} {Q : Exit → Act → World → Prop} (hw : Region.wanted op (yielded ops a.tmps) = true) (ty : TypeId) (x : Operand) (ho : op.op = .load ty x)
    (b o : Nat) (hx : a.eval x = .pointer (some ⟨b, o, none⟩)) (cs : List Value) (d : TypeDesc) (hc : w.rangeAt b o cs)
    (hu : P.underlying ty = some d) (hd : d.isRow = true) (hi : (P.info? ty).map (·.size) = some cs.length)
    (h : wpList P ops Q rest (a.put op.dst (.agg cs.toArray)) w) : wpList P ops Q (op :: rest) a w :=
  BigFrame.wpList_want hw fun _ hK => wp_load_mid ty x ho b o hx cs d hc hu hd hi (hK _ _ h)

set_option maxRecDepth 100000 in
set_option maxHeartbeats 1000000 in
theorem check_is (w : World) (A : Option Addr) (c B : Nat) (V : List Vd) (es : Addr) (hV : VdsAt w A V) (ok : keysOk V) (hl : V.length < 1000) (he : ErrAt w B 11 es) :
    Calls Tryz.prog 16 #[.slice A V.length c] w fun e w' => w.grownBy w' none ∧ ((rightS V = true ∧ e = .returned .nilIface) ∨ (rightS V = false ∧ e = .returned (errV es))) := by
  by_cases h7 : 1 ≤ V.length ∧ V.length ≤ 7
  · have g1 : ¬ (V.length : Int) < 1 := by omega
    have g2 : ¬ (7 : Int) < (V.length : Int) := by omega
    have g3 : (1 : Int) ≤ (V.length : Int) := by omega
    have g4 : (V.length : Int) ≤ 7 := by omega
    obtain ⟨zs, hzs⟩ : ∃ zs : Array Value, zs = (List.replicate 16 (Value.int .u8 0) ++ [Value.int .i64 0]).toArray := ⟨_, rfl⟩
    have hz : ∀ w, Sem.run Tryz.prog (zeroValue 50) w = .ok (.agg zs) w := fun w => by rw [hzs]; exact zero_run w (by kernel_rfl)
    have HZ := Lib.hid hzs
    clear hzs
    go_enter Tryz.func16, Tryz.ntmps16
    go_wp2_with fail
    go_loopw [16] (fun i wr => ∃ k : Nat, k ≤ V.length ∧ i = .int .i64 (k : Int) ∧ (∀ j (h : j < V.length), j < k → 1 ≤ V[j].p ∧ V[j].p ≤ 1099511627776 ∧ findS V[j].key V = (j : Int)) ∧ w.grownBy wr none) (fun i _ => V.length - (intOf i).toNat)
    case atStart => exact ⟨0, by omega, rfl, fun j _ h => absurd h (by omega), World.grownBy.refl w none⟩
    case round =>
      obtain ⟨k, hkl, hi, hno, hK⟩ := hrel
      obtain ⟨I, hI⟩ : ∃ I : Int, I = (k : Int) := ⟨_, rfl⟩
      rw [← hI] at hi
      subst hi
      by_cases hlt : k < V.length
      · have hne : V ≠ [] := by rintro rfl; simp at hlt
        obtain ⟨b, off, rfl, hc⟩ := hV hne
        have d1 : decide (I < (V.length : Int)) = true := by simp; omega
        have hIV : I < (V.length : Int) := by omega
        have hI0 : 0 ≤ I ∧ I < 1000 := by omega
        have hkI : I.toNat = k := by omega
        have r1 := range_kept (hc k hlt) hK
        have hx := ok _ (List.getElem_mem hlt)
        obtain ⟨x, hxe⟩ : ∃ x, x = V[k] := ⟨_, rfl⟩
        rw [← hxe] at r1 hx
        rw [← hkI] at r1
        have i1 := vdSize hx
        have HR := Lib.hid (And.intro r1 (show ∃ h : k < V.length, x = V[k] from ⟨hlt, hxe⟩))
        have HI := Lib.hid (And.intro i1 hx)
        have HN := Lib.hid (And.intro hno (And.intro hK (And.intro hl hI)))
        have HV := Lib.hid (And.intro hV (And.intro ok he))
        obtain ⟨cs, hcs⟩ : ∃ cs, cs = x.cells.toArray := ⟨_, rfl⟩
        have hsz : cs.size = 17 := by rw [hcs, List.size_toArray, Vd.cells_length hx]
        have hall : (cs.all fun v => v.oneCell') = true := by rw [hcs]; simp [Vd.cells, Value.oneCell']
        have hW : ∀ W, W = (wr.alloc (.cells zs 50)).setRow wr.heap.size cs → wr.grownBy W none ∧ W.rangeAt wr.heap.size 0 (x.key.map (Value.int .u8)) ∧ W.cell? ⟨wr.heap.size, 16, none⟩ = some (.int .i64 x.p) := fun W e => by
          have hb := (Blk.new wr 50 zs).row cs
          rw [← e] at hb
          have hr : W.rangeAt wr.heap.size 0 x.cells := fun j v hv => by
            rw [Nat.zero_add, hb.cell, hcs]; simpa using hv
          refine ⟨?_, vd_range hr, by simpa using vd_power hx hr⟩
          rw [e]
          exact grown_row (World.grownBy_alloc wr _ none) (.inl (Nat.le_refl _)) cs
        have HC := Lib.hid (And.intro hcs (And.intro hsz (And.intro hall (show (Tryz.prog.info? 50).map (·.size) = some cs.size by rw [hsz]; kernel_rfl))))
        have HW := Lib.hid hW
        have HK := Lib.hid (keySize hx)
        obtain ⟨p, hp⟩ : ∃ p, p = x.p := ⟨_, rfl⟩
        rw [← hp] at HW
        have HP := Lib.hid hp
        clear r1 hxe i1 hx hno hc ok hne hK hV hkl hl hI hkI he hcs hsz hall hW hp
        have HF := Lib.hid (show ∀ W, wr.grownBy W none → W.cell? ⟨11, 0, none⟩ = some (errV es) from fun W hW => ((HV.out.2.2.grown HN.out.2.1 (fun _ e => by cases e)).grown hW (fun _ e => by cases e)).1)
        have HNot := Lib.hid (show (p < 1 ∨ 1099511627776 < p ∨ ¬ findS x.key V = I) → rightS V = false from fun h => by
          cases hr : rightS V with
          | false => rfl
          | true =>
            obtain ⟨h1, h3, h2⟩ := HR.out
            obtain ⟨q1, q2, q3⟩ := ((rightS_iff V).1 hr).2 k h3
            rw [← h2] at q1 q2 q3
            have hp := HP.out
            have hI := HN.out.2.2.2
            exfalso; omega)
        by_cases p1 : p < 1
        · have p1' : decide (p < 1) = true := by simpa using p1
          have hnot := Lib.hid (HNot.out (.inl p1))
          clear p1
          go_wp2_with (first
            | (refine wpList_load_mid rfl 50 _ rfl b (off + I.toNat * 17) rfl x.cells _ HR.out.1 Tryz.underlying50 rfl HI.out.1 ?_; rw [← HC.out.1])
            | (refine wpList_store_row rfl 50 _ _ rfl wr.heap.size cs rfl rfl 50 _ (heap_alloc_new wr _) HC.out.2.2.2 (by rw [HC.out.2.1, HZ.out]; simp) HC.out.2.2.1 ?_
               obtain ⟨W0, hW0⟩ : ∃ W0, W0 = (wr.alloc (.cells zs 50)).setRow wr.heap.size cs := ⟨_, rfl⟩
               rw [← hW0]
               have c16 := (HW.out W0 hW0).2.2
               have e16 := HF.out W0 (HW.out W0 hW0).1
               have HG := Lib.hid (HW.out W0 hW0).1
               clear hW0))
          go_ret
          exact ⟨grown_trans HN.out.2.1 HG.out, .inr ⟨hnot.out, rfl⟩⟩
        · have p1' : decide (p < 1) = false := by simpa using p1
          have p1'' : 1 ≤ p := by omega
          by_cases p2 : 1099511627776 < p
          · have p2' : decide (1099511627776 < p) = true := by simpa using p2
            have hnot := Lib.hid (HNot.out (.inr (.inl p2)))
            clear p1
            go_wp2_with (first
              | (refine wpList_load_mid rfl 50 _ rfl b (off + I.toNat * 17) rfl x.cells _ HR.out.1 Tryz.underlying50 rfl HI.out.1 ?_; rw [← HC.out.1])
              | (refine wpList_store_row rfl 50 _ _ rfl wr.heap.size cs rfl rfl 50 _ (heap_alloc_new wr _) HC.out.2.2.2 (by rw [HC.out.2.1, HZ.out]; simp) HC.out.2.2.1 ?_
                 obtain ⟨W0, hW0⟩ : ∃ W0, W0 = (wr.alloc (.cells zs 50)).setRow wr.heap.size cs := ⟨_, rfl⟩
                 rw [← hW0]
                 have c16 := (HW.out W0 hW0).2.2
                 have e16 := HF.out W0 (HW.out W0 hW0).1
                 have HG := Lib.hid (HW.out W0 hW0).1
                 clear hW0))
            go_ret
            exact ⟨grown_trans HN.out.2.1 HG.out, .inr ⟨hnot.out, rfl⟩⟩
          · have p2' : decide (1099511627776 < p) = false := by simpa using p2
            have p2'' : p ≤ 1099511627776 := by omega
            have HP2 := Lib.hid (And.intro p1 p2)
            clear p1 p2
            go_wp2_with (first
              | (refine wpList_load_mid rfl 50 _ rfl b (off + I.toNat * 17) rfl x.cells _ HR.out.1 Tryz.underlying50 rfl HI.out.1 ?_; rw [← HC.out.1])
              | (refine wpList_load_mid_want (by rfl) 24 _ rfl wr.heap.size 0 rfl (x.key.map (Value.int .u8)) _ HG.out.2.1 Tryz.underlying24 rfl HK.out ?_)
              | (refine wpList_store_row rfl 50 _ _ rfl wr.heap.size cs rfl rfl 50 _ (heap_alloc_new wr _) HC.out.2.2.2 (by rw [HC.out.2.1, HZ.out]; simp) HC.out.2.2.1 ?_
                 obtain ⟨W0, hW0⟩ : ∃ W0, W0 = (wr.alloc (.cells zs 50)).setRow wr.heap.size cs := ⟨_, rfl⟩
                 rw [← hW0]
                 have c16 := (HW.out W0 hW0).2.2
                 have HG := Lib.hid (HW.out W0 hW0)
                 clear hW0))
            refine (find_is W0 (some ⟨b, off, none⟩) c V ((HV.out.1.grown HN.out.2.1).grown HG.out.1) HV.out.2.1 HN.out.2.2.1 x.key HI.out.2).mono ?_
            rintro e w1 ⟨rfl, hk1⟩
            obtain ⟨f, hf⟩ : ∃ f, f = findS x.key V := ⟨_, rfl⟩
            rw [← hf]
            by_cases hfk : f = I
            · have f1 : (f != I) = false := by simpa using hfk
              have HFK := Lib.hid (And.intro hf hfk)
              have HK1 := Lib.hid hk1
              clear hf hfk hk1 c16
              go_wp2_with fail
              go_roundw
              case rel =>
                obtain ⟨h1, h3, h2⟩ := HR.out
                have hI := HN.out.2.2.2
                obtain ⟨q1, q2⟩ := HFK.out
                obtain ⟨z1, z2⟩ := HP2.out
                have hp := HP.out
                refine ⟨k + 1, by omega, by rw [hI]; rfl, fun j hj hjk => ?_, grown_trans (grown_trans HN.out.2.1 HG.out.1) HK1.out⟩
                by_cases hjk' : j < k
                · exact HN.out.1 j hj hjk'
                · obtain rfl : j = k := by omega
                  rw [← h2]; omega
              case measure => have := HN.out.2.2.2; simp [intOf]; omega
            · have f1 : (f != I) = true := by simpa using hfk
              have hnot := Lib.hid (HNot.out (.inr (.inr (by rw [← hf]; exact hfk))))
              have e16 := HF.out w1 (grown_trans HG.out.1 hk1)
              have HK1 := Lib.hid hk1
              clear hf hfk hk1 c16
              go_wp2_with fail
              go_ret
              exact ⟨grown_trans (grown_trans HN.out.2.1 HG.out.1) HK1.out, .inr ⟨hnot.out, rfl⟩⟩
      · have d1 : decide (I < (V.length : Int)) = false := by simp; omega
        have HN := Lib.hid (And.intro hno (And.intro hK (And.intro hkl hlt)))
        have H7 := Lib.hid h7
        clear hno hK hkl hlt hI h7
        go_wp2_with fail
        go_ret
        exact ⟨HN.out.2.1, .inl ⟨(rightS_iff V).2 ⟨H7.out, fun j hj => HN.out.1 j hj (by have := HN.out.2.2.2; omega)⟩, rfl⟩⟩
  · have hnot : rightS V = false := by
      cases hr : rightS V with
      | false => rfl
      | true => exact absurd ((rightS_iff V).1 hr).1 h7
    have HNot := Lib.hid hnot
    have e16 := he.1
    by_cases h1 : 1 ≤ V.length
    · have g3 : (1 : Int) ≤ (V.length : Int) := by omega
      have g4 : (7 : Int) < (V.length : Int) := by omega
      clear hnot h7 h1 he hV ok
      go_enter Tryz.func16, Tryz.ntmps16
      go_wp2_with fail
      go_ret
      exact ⟨World.grownBy.refl w none, .inr ⟨HNot.out, rfl⟩⟩
    · have g3 : (V.length : Int) < 1 := by omega
      clear hnot h7 h1 he hV ok
      go_enter Tryz.func16, Tryz.ntmps16
      go_wp2_with fail
      go_ret
      exact ⟨World.grownBy.refl w none, .inr ⟨HNot.out, rfl⟩⟩
end Go.Proofs.YtpdfkgmgmndcfaaGreatDoor
/-
  An argument opened: a slice of ints, as a list.
-/

namespace Go.Proofs.YtpdfkgmgmndcfaaGreatDoor
open Go.ChangeShapes Go.WideShapes Go.ChangeAt Go.RowKit

section
variable {H : Type} {enc : TypeId × Value → H} {w : World} {base : Nat} {spare : Nat → Bool} {held : Bool} {fuel : Nat} {cs : List Value} {x : DataW H × List MemPlace}

/-- The ints zs lie at A. -/
def IntsAt (w : World) (A : Option Addr) (zs : List Int) : Prop :=
  zs ≠ [] → ∃ ad, A = some ad ∧ ∀ j (h : j < zs.length), w.cell? (ad.add j) = some (.int .i64 zs[j])
theorem IntsAt.get {A : Option Addr} {l : List Int} (h : IntsAt w A l) (hl : l ≠ []) : ∃ b off, A = some ⟨b, off, none⟩ ∧ ∀ j (hj : j < l.length), w.cell? ⟨b, off + j, none⟩ = some (.int .i64 l[j]) := by
  obtain ⟨ad, rfl, hc⟩ := h hl
  obtain ⟨b, off, rfl⟩ := addr_form (hc 0 (List.length_pos_iff.2 hl)) rfl
  exact ⟨b, off, rfl, fun j hj => by rw [← Go.WideShapes.add_plain]; exact hc j hj⟩
theorem IntsAt.keep {w' : World} {A : Option Addr} {l : List Int} (h : IntsAt w A l) (hk : ∀ ad : Addr, A = some ad → w.cell? (ad.add 0) ≠ none → ∀ i, w'.cell? (ad.add i) = w.cell? (ad.add i)) : IntsAt w' A l := fun hl => by
  obtain ⟨ad, rfl, hc⟩ := h hl
  refine ⟨ad, rfl, fun j hj => ?_⟩
  have h0 : 0 < l.length := by omega
  rw [hk ad rfl (by rw [hc 0 h0]; simp) j, hc j hj]
theorem IntsAt.kept {F : Nat → Prop} {w' : World} {A : Option Addr} {l : List Int} (h : IntsAt w A l) (hk : Kept F w w') (hA : ∀ ad, A = some ad → ¬ F ad.block) : IntsAt w' A l :=
  h.keep fun ad e h0 i => World.cell?_of_block (hk.block _ (by
    rw [block_add]
    obtain ⟨v, hv⟩ := Option.ne_none_iff_exists'.1 h0
    have := World.block_lt_of_cell? w _ hv
    rwa [block_add] at this) (by rw [block_add]; exact hA ad e))
end
end Go.Proofs.YtpdfkgmgmndcfaaGreatDoor
