/-
  Several texts in one: CdSn, CdSv.
-/
import Derived.Test.YtebnebajedlhlaaDoorM9ix
import Derived.Test.YtebnebajedlhlaaDoorM9ir
import Derived.Laws.BytesArg
import Derived.DeepKeys
import Derived.Deep.RegionHeld3
import Derived.BigQuiet
import Derived.Deep.MidRow
/-
  SameLists, of any two rows of transactions.
-/
namespace Go.Proofs.YtebnebajedlhlaaDoor
open Go.RowKit

theorem str_tx {w : World} {A : Option Addr} {n c : Nat} {l : List UInt8} (hb : BytesAt w A l) (hn : l.length = n) :
    (convert 33 9 (.slice A n c)).run Tryd.prog w = .ok (.string ⟨l.toArray⟩) w := by
  subst hn
  rcases A with _ | ad
  · have hl0 : l = [] := by
      rcases l with _ | ⟨x, r⟩
      · rfl
      · obtain ⟨_, h, _⟩ := hb (by simp)
        cases h
    subst hl0
    exact run_convert_bytes_nil w 33 5 Tryd.underlying33 Tryd.underlying5 _ _ 9 Tryd.underlying9
  · refine run_convert_bytes_back w 33 9 5 ad c l Tryd.underlying33 Tryd.underlying5 Tryd.underlying9 fun j hj => ?_
    obtain ⟨ad', h, hc⟩ := hb (by intro e; subst e; simp at hj)
    injection h with h
    subst h
    exact hc j hj
def txsEqP (S T : List Tx) : Prop := S.length = T.length ∧ ∀ j (h1 : j < S.length) (h2 : j < T.length), S[j].l = T[j].l
noncomputable def txsEq (S T : List Tx) : Bool := @decide (txsEqP S T) (Classical.propDecidable _)
theorem txsEq_true {S T : List Tx} (h : txsEqP S T) : txsEq S T = true := by unfold txsEq; exact @decide_eq_true _ (Classical.propDecidable _) h
theorem txsEq_false {S T : List Tx} (h : ¬ txsEqP S T) : txsEq S T = false := by unfold txsEq; exact @decide_eq_false _ (Classical.propDecidable _) h
set_option maxRecDepth 100000 in
set_option maxHeartbeats 1000000 in
theorem lists_same (w : World) (A1 A2 : Option Addr) (c1 c2 : Nat) (S T : List Tx) (hS : RowAt w A1 Tx.cells 1 S) (hT : RowAt w A2 Tx.cells 1 T) (okS : TxsOk w S) (okT : TxsOk w T) (hl : S.length ≤ 1000) :
    Calls Tryd.prog 15 #[.slice A1 S.length c1, .slice A2 T.length c2] w fun e w' => e = .returned (.bool (txsEq S T)) ∧ w.grownBy w' none := by
  obtain ⟨n, hn⟩ : ∃ n, S.length = n := ⟨_, rfl⟩
  obtain ⟨m, hm⟩ : ∃ m, T.length = m := ⟨_, rfl⟩
  obtain ⟨R, hR⟩ : ∃ R, R = txsEq S T := ⟨_, rfl⟩
  rw [hn, hm, ← hR]
  have HX := Lib.hid (And.intro hS (And.intro hT (And.intro okS (And.intro okT (And.intro hn (And.intro hm hR))))))
  have hn1 : n ≤ 1000 := by omega
  by_cases hnm : n = m
  · clear hS hT okS okT hn hm hR hl
    subst hnm
    have dnm : ((n : Int) != (n : Int)) = false := by simp
    go_enter Tryd.func15, Tryd.ntmps15
    go_wp2_with fail
    go_loopw [13] (fun i wr => ∃ k : Nat, k ≤ n ∧ i = .int .i64 (k : Int) ∧ Hid (∀ j (h1 : j < S.length) (h2 : j < T.length), j < k → S[j].l = T[j].l) ∧ w.grownBy wr none) (fun i _ => n - (intOf i).toNat)
    case atStart => exact ⟨0, Nat.zero_le _, rfl, Lib.hid (fun j _ _ h => absurd h (by omega)), World.grownBy.refl w none⟩
    case round =>
      obtain ⟨k, hk, hi, hno, hK⟩ := hrel
      obtain ⟨I, hI⟩ : ∃ I : Int, I = (k : Int) := ⟨_, rfl⟩
      rw [← hI] at hi
      subst hi
      rename World => wr
      obtain ⟨hS, hT, okS, okT, hn, hm, hR⟩ := HX.out
      by_cases hlt : k < n
      · have h1 : k < S.length := by omega
        have h2 : k < T.length := by omega
        obtain ⟨b1, o1, rfl, hc1⟩ := hS (by rintro rfl; simp at h1)
        obtain ⟨b2, o2, rfl, hc2⟩ := hT (by rintro rfl; simp at h2)
        have d1 : decide (I < (n : Int)) = true := by simp; omega
        have hIV : I < (n : Int) := by omega
        have hI0 : 0 ≤ I ∧ I < 1001 := by omega
        have hkI : I.toNat = k := by omega
        have r1 := range_kept (hc1 k h1) hK
        have r2 := range_kept (hc2 k h2) hK
        obtain ⟨x, hxe⟩ : ∃ x, x = S[k] := ⟨_, rfl⟩
        obtain ⟨y, hye⟩ : ∃ y, y = T[k] := ⟨_, rfl⟩
        rw [← hxe] at r1
        rw [← hye] at r2
        have x1 := (okS x (by rw [hxe]; exact List.getElem_mem h1)).grown hK (fun _ _ => by simp)
        have x2 := (okT y (by rw [hye]; exact List.getElem_mem h2)).grown hK (fun _ _ => by simp)
        have f1 : wr.cell? ⟨b1, o1 + I.toNat, none⟩ = some (.slice x.B x.l.length x.c) := by rw [hkI]; have := r1 0 _ rfl; simpa using this
        have f2 : wr.cell? ⟨b2, o2 + I.toNat, none⟩ = some (.slice y.B y.l.length y.c) := by rw [hkI]; have := r2 0 _ rfl; simpa using this
        have g1 := Gr.cell f1
        have g2 := Gr.cell f2
        obtain ⟨sx, hsx⟩ : ∃ s : ByteArray, s = ⟨x.l.toArray⟩ := ⟨_, rfl⟩
        obtain ⟨sy, hsy⟩ : ∃ s : ByteArray, s = ⟨y.l.toArray⟩ := ⟨_, rfl⟩
        have v1 : ∀ z : Gr wr, Sem.run Tryd.prog (convert 33 9 (.slice x.B x.l.length x.c)) z.1 = .ok (.string sx) z.1 := fun z => by rw [hsx]; exact str_tx (x1.grown z.2 (by simp)) rfl
        have v2 : ∀ z : Gr wr, Sem.run Tryd.prog (convert 33 9 (.slice y.B y.l.length y.c)) z.1 = .ok (.string sy) z.1 := fun z => by rw [hsy]; exact str_tx (x2.grown z.2 (by simp)) rfl
        have hiff : sx = sy ↔ x.l = y.l := by
          rw [hsx, hsy]
          constructor
          · intro h
            have : x.l.toArray = y.l.toArray := by injection h
            simpa using this
          · intro h; rw [h]
        have hiff2 : sx.toList = sy.toList → sx = sy := by
          rw [hsx, hsy, ByteArray.toList_mk, ByteArray.toList_mk]
          intro h
          have h' : x.l = y.l := by simpa using h
          rw [h']
        have HN := Lib.hid (And.intro hno (And.intro hK (And.intro hI (And.intro hlt (And.intro (show ∃ (a : k < S.length) (b : k < T.length), sx = sy ↔ S[k].l = T[k].l from ⟨h1, h2, by rw [← hxe, ← hye]; exact hiff⟩) hR)))))
        clear r1 r2 hxe hye f1 f2 x1 x2 hsx hsy hiff hc1 hc2 hS hT okS okT hn hm hR hno hK hI hkI hlt h1 h2 hk
        by_cases hw : sx = sy
        · subst hw
          go_wp2_with fail
          refine wp_region_grown (by kernel_rfl) (by kernel_rfl) ?_
          repeat (go_big_quiet_step (fail))
          refine wpQuiet_nil ?_
          rintro w2 ⟨⟨_, k2⟩, rfl⟩
          have HK := Lib.hid (grown_trans HN.out.2.1 k2)
          clear k2 v1 v2 g1 g2
          go_wp2_with fail
          go_roundw
          case rel =>
            obtain ⟨n1, n2, n3, n4, ⟨a, b, e1⟩, n6⟩ := HN.out
            refine ⟨k + 1, by omega, by rw [n3]; rfl, Lib.hid (fun j q1 q2 hj => ?_), HK.out⟩
            by_cases hjk : j = k
            · subst hjk; first | exact e1.1 rfl | exact e1.1 trivial | exact e1.1 True.intro
            · exact n1.out j q1 q2 (by omega)
          case measure => obtain ⟨n1, n2, n3, n4, _, n6⟩ := HN.out; simp [intOf]; omega
        · have HWW := Lib.hid hw
          have dw3 : ¬ sx.toList = sy.toList := fun h => hw (hiff2 h)
          have dw4 : (sx.toList == sy.toList) = false := by simpa using dw3
          clear hw
          go_wp2_with fail
          refine wp_region_grown (by kernel_rfl) (by kernel_rfl) ?_
          repeat (go_big_quiet_step (fail))
          refine wpQuiet_nil ?_
          rintro w2 ⟨⟨_, k2⟩, rfl⟩
          have HK := Lib.hid (grown_trans HN.out.2.1 k2)
          clear k2 v1 v2 g1 g2
          go_wp2_with fail
          go_ret
          have hF := txsEq_false (S := S) (T := T) (fun h => by
            obtain ⟨a, b, e1⟩ := HN.out.2.2.2.2.1
            exact HWW.out (e1.2 (h.2 k a b)))
          exact ⟨by rw [HN.out.2.2.2.2.2, hF]; rfl, HK.out⟩
      · have d1 : decide (I < (n : Int)) = false := by simp; omega
        have hTT := txsEq_true (S := S) (T := T) ⟨by omega, fun j h1 h2 => hno.out j h1 h2 (by omega)⟩
        have HK := Lib.hid (And.intro hK (show R = true by rw [hR, hTT]))
        clear hK hno hI hlt hk hTT hS hT okS okT hn hm hR
        go_wp2_with fail
        go_ret
        exact ⟨by rw [HK.out.2]; rfl, HK.out.1⟩
  · have dnm : ((n : Int) != (m : Int)) = true := by simp; omega
    have hne : ¬ (n : Int) = (m : Int) := by omega
    have HF := Lib.hid (show R = false by rw [hR]; exact txsEq_false (fun h => hnm (by rw [← hn, ← hm]; exact h.1)))
    clear hS hT okS okT hn hm hR hl hnm
    go_enter Tryd.func15, Tryd.ntmps15
    go_wp2_with fail
    go_ret
    exact ⟨by rw [HF.out]; rfl, World.grownBy.refl w none⟩
end Go.Proofs.YtebnebajedlhlaaDoor
/-
  The document's Same of validators.
-/
namespace Go.Proofs.YtebnebajedlhlaaDoor
open Go.RowKit

def sameS (a b : List Vd) : Bool := decide (a.map Vd.key = b.map Vd.key) && decide (a.map Vd.p = b.map Vd.p)
theorem sameS_len {a b : List Vd} (h : a.length ≠ b.length) : sameS a b = false := by
  have h1 : ¬ (a.map Vd.key = b.map Vd.key) := fun e => h (by simpa using congrArg List.length e)
  simp [sameS, h1]
theorem sameS_all {a b : List Vd} (hn : a.length = b.length) (h : ∀ j (h1 : j < a.length) (h2 : j < b.length), a[j].key = b[j].key ∧ a[j].p = b[j].p) : sameS a b = true := by
  have h1 : a.map Vd.key = b.map Vd.key := List.ext_getElem (by simp [hn]) fun j g1 g2 => by simpa using (h j (by simpa using g1) (by simpa using g2)).1
  have h2 : a.map Vd.p = b.map Vd.p := List.ext_getElem (by simp [hn]) fun j g1 g2 => by simpa using (h j (by simpa using g1) (by simpa using g2)).2
  simp [sameS, h1, h2]
theorem sameS_not {a b : List Vd} {j : Nat} (h1 : j < a.length) (h2 : j < b.length) (h : ¬ (a[j].key = b[j].key ∧ a[j].p = b[j].p)) : sameS a b = false := by
  cases hs : sameS a b with
  | false => rfl
  | true =>
    exfalso
    simp only [sameS, Bool.and_eq_true, decide_eq_true_eq] at hs
    refine h ⟨?_, ?_⟩
    · have := congrArg (fun l => l[j]?) hs.1
      simpa [List.getElem?_eq_getElem h1, List.getElem?_eq_getElem h2] using this
    · have := congrArg (fun l => l[j]?) hs.2
      simpa [List.getElem?_eq_getElem h1, List.getElem?_eq_getElem h2] using this
theorem vd_range {w : World} {b o : Nat} {x : Vd} (h : w.rangeAt b o x.cells) : w.rangeAt b o (x.key.map (Value.int .u8)) := fun j v hv => h j v (by
  have hj := (List.getElem?_eq_some_iff.1 hv).1
  rw [Vd.cells, List.getElem?_append_left hj]; exact hv)
theorem vd_power {w : World} {b o : Nat} {x : Vd} (hx : x.key.length = 16) (h : w.rangeAt b o x.cells) : w.cell? ⟨b, o + 16, none⟩ = some (.int .i64 x.p) := h 16 _ (by
  rw [Vd.cells, List.getElem?_append_right (by simp [hx])]; simp [hx])
theorem keySize {l : List Int} (h : l.length = 16) : (Tryd.prog.info? 23).map (·.size) = some (l.map (Value.int .u8)).length := by rw [List.length_map, h]; kernel_rfl
def keysOk (V : List Vd) : Prop := ∀ x ∈ V, x.key.length = 16
section
variable {P : Program} {C : World → Prop} {a : Act} {o : Oper}
theorem quiet_load_mid {K : Act → Prop} (ty : TypeId) (x : Operand) (ho : o.op = .load ty x) (b off : Nat) (hx : a.eval x = .pointer (some ⟨b, off, none⟩)) (cs : List Value) (d : TypeDesc) (hc : ∀ w, C w → w.rangeAt b off cs)
    (hu : P.underlying ty = some d) (hd : d.isRow = true) (hi : (P.info? ty).map (·.size) = some cs.length) (hk : K (a.put o.dst (.agg cs.toArray))) : o.quiet P a C K :=
  ⟨_, fun w hw => by
    unfold Oper.quietAt execOp
    simp only [ho, hx, Instr.loadAt, Instr.sureAddr, Sem.run_bind, Sem.run_pure, Result.andThen_ok, run_loadVar_mid w b off ty cs d (hc w hw) hu hd hi]
    exact ⟨rfl, rfl⟩, hk⟩
end
set_option maxRecDepth 100000 in
set_option maxHeartbeats 1000000 in
theorem rsame8_is (w : World) (A1 A2 : Option Addr) (c1 c2 : Nat) (V U : List Vd) (hV : VdsAt w A1 V) (hU : VdsAt w A2 U) (okV : keysOk V) (okU : keysOk U) (hl : V.length < 1000) :
    Calls Tryd.prog 16 #[.slice A1 V.length c1, .slice A2 U.length c2] w fun e w' => e = .returned (.bool (sameS V U)) ∧ w.grownBy w' none := by
  by_cases hn : V.length = U.length
  · rw [← hn]
    have HL := Lib.hid hn
    clear hn
    go_enter Tryd.func16, Tryd.ntmps16
    go_wp2_with fail
    go_loopw [13] (fun i wr => ∃ k : Nat, k ≤ V.length ∧ i = .int .i64 (k : Int) ∧ (∀ j (h1 : j < V.length) (h2 : j < U.length), j < k → V[j].key = U[j].key ∧ V[j].p = U[j].p) ∧ w.grownBy wr none) (fun i _ => V.length - (intOf i).toNat)
    case atStart => exact ⟨0, by omega, rfl, fun j _ _ h => absurd h (by omega), World.grownBy.refl w none⟩
    case round =>
      obtain ⟨k, hkl, hi, hno, hK⟩ := hrel
      obtain ⟨I, hI⟩ : ∃ I : Int, I = (k : Int) := ⟨_, rfl⟩
      rw [← hI] at hi
      subst hi
      by_cases hlt : k < V.length
      · have hn := HL.out
        have hlt2 : k < U.length := by omega
        obtain ⟨b1, off1, rfl, hc1⟩ := hV (by rintro rfl; simp at hlt)
        obtain ⟨b2, off2, rfl, hc2⟩ := hU (by rintro rfl; simp at hlt2)
        have d1 : decide (I < (V.length : Int)) = true := by simp; omega
        have hIV : I < (V.length : Int) := by omega
        have hI0 : 0 ≤ I ∧ I < 1000 := by omega
        have hkI : I.toNat = k := by omega
        have r1 := range_kept (hc1 k hlt) hK
        have r2 := range_kept (hc2 k hlt2) hK
        have hx := okV _ (List.getElem_mem hlt)
        have hy := okU _ (List.getElem_mem hlt2)
        obtain ⟨x, hxe⟩ : ∃ x, x = V[k] := ⟨_, rfl⟩
        obtain ⟨y, hye⟩ : ∃ y, y = U[k] := ⟨_, rfl⟩
        rw [← hxe] at r1 hx
        rw [← hye] at r2 hy
        rw [← hkI] at r1 r2
        have p1 := vd_power hx r1
        have p2 := vd_power hy r2
        have q1 := vd_range r1
        have q2 := vd_range r2
        have heq : ∀ w, Sem.run Tryd.prog (Op.equalIn 10000 23 (.agg (arrV .u8 x.key)) (.agg (arrV .u8 y.key))) w = .ok (decide (x.key = y.key)) w := fun w => eqD w x.key y.key hx hy
        obtain ⟨px, hpx⟩ : ∃ px, px = x.p := ⟨_, rfl⟩
        obtain ⟨py, hpy⟩ : ∃ py, py = y.p := ⟨_, rfl⟩
        rw [← hpx] at p1
        rw [← hpy] at p2
        obtain ⟨r, hr⟩ : ∃ r, r = decide (x.key = y.key) := ⟨_, rfl⟩
        rw [← hr] at heq
        have i1 := keySize hx
        have i2 := keySize hy
        obtain ⟨cx, hcx⟩ : ∃ cx, cx = x.key.map (Value.int .u8) := ⟨_, rfl⟩
        obtain ⟨cy, hcy⟩ : ∃ cy, cy = y.key.map (Value.int .u8) := ⟨_, rfl⟩
        unfold arrV at heq
        rw [← hcx] at q1 i1 heq
        rw [← hcy] at q2 i2 heq
        have HR := Lib.hid (And.intro q1 q2)
        have HI := Lib.hid (And.intro i1 i2)
        have HN := Lib.hid (And.intro hno (And.intro hK (And.intro hl (And.intro hI hn))))
        have HX := Lib.hid (show ∃ (h1 : k < V.length) (h2 : k < U.length), r = (decide (V[k].key = U[k].key)) ∧ px = V[k].p ∧ py = U[k].p from ⟨hlt, hlt2, by rw [hr, hxe, hye], by rw [hpx, hxe], by rw [hpy, hye]⟩)
        clear r1 r2 q1 q2 i1 i2 hxe hye hx hy hno hc1 hc2 okV okU hK hV hU hkl hl hI hkI hn hlt hlt2 hcx hcy hr hpx hpy
        go_wp2_with fail
        cases r with
        | true =>
          refine wp_region_quiet_lit (by kernel_rfl) (by kernel_rfl) ?_
          repeat (first
            | go_big_quiet_skip
            | (go_big_quiet_want; first
                | (refine quiet_load_mid 23 _ rfl b1 (off1 + I.toNat * 17) rfl cx _ (fun W hW => by obtain ⟨n, rfl⟩ := hW; exact HR.out.1) Tryd.underlying23 rfl HI.out.1 ?_; simp only [Act.put, List.setIfInBounds_toArray, List.set_cons_zero, List.set_cons_succ]; go_big_quiet_on)
                | (refine quiet_load_mid 23 _ rfl b2 (off2 + I.toNat * 17) rfl cy _ (fun W hW => by obtain ⟨n, rfl⟩ := hW; exact HR.out.2) Tryd.underlying23 rfl HI.out.2 ?_; simp only [Act.put, List.setIfInBounds_toArray, List.set_cons_zero, List.set_cons_succ]; go_big_quiet_on)
                | (go_big_quiet_op; go_big_quiet_on)))
          refine wpQuiet_nil ?_
          intro W hW
          obtain ⟨n, rfl⟩ := hW
          by_cases hp : px = py
          · have hp' : (px != py) = false := by simpa using hp
            have HP := Lib.hid hp
            clear hp
            go_wp2_with fail
            go_roundw
            case rel =>
              obtain ⟨n1, n2, n3, n4, n5⟩ := HN.out
              obtain ⟨x1, x2, x3, x4, x5⟩ := HX.out
              have := HP.out
              refine ⟨k + 1, by omega, by rw [n4]; rfl, fun j h1 h2 hjk => ?_, ⟨n2.os, n2.tape, n2.output, n2.size, n2.block⟩⟩
              by_cases hjk' : j < k
              · exact n1 j h1 h2 hjk'
              · obtain rfl : j = k := by omega
                exact ⟨by simpa using x3.symm, by rw [← x4, ← x5, this]⟩
            case measure => obtain ⟨n1, n2, n3, n4, n5⟩ := HN.out; obtain ⟨x1, x2, x3⟩ := HX.out; simp [intOf]; omega
          · have hp' : (px != py) = true := by simpa using hp
            have HP := Lib.hid hp
            clear hp
            go_wp2_with fail
            go_ret
            obtain ⟨n1, n2, n3, n4, n5⟩ := HN.out
            obtain ⟨x1, x2, x3, x4, x5⟩ := HX.out
            refine ⟨?_, ⟨n2.os, n2.tape, n2.output, n2.size, n2.block⟩⟩
            rw [sameS_not x1 x2 (by rintro ⟨e1, e2⟩; exact HP.out (by rw [x4, x5, e2]))]
            rfl
        | false =>
          refine wp_region_quiet_lit (by kernel_rfl) (by kernel_rfl) ?_
          repeat (first
            | go_big_quiet_skip
            | (go_big_quiet_want; first
                | (refine quiet_load_mid 23 _ rfl b1 (off1 + I.toNat * 17) rfl cx _ (fun W hW => by obtain ⟨n, rfl⟩ := hW; exact HR.out.1) Tryd.underlying23 rfl HI.out.1 ?_; simp only [Act.put, List.setIfInBounds_toArray, List.set_cons_zero, List.set_cons_succ]; go_big_quiet_on)
                | (refine quiet_load_mid 23 _ rfl b2 (off2 + I.toNat * 17) rfl cy _ (fun W hW => by obtain ⟨n, rfl⟩ := hW; exact HR.out.2) Tryd.underlying23 rfl HI.out.2 ?_; simp only [Act.put, List.setIfInBounds_toArray, List.set_cons_zero, List.set_cons_succ]; go_big_quiet_on)
                | (go_big_quiet_op; go_big_quiet_on)))
          refine wpQuiet_nil ?_
          intro W hW
          obtain ⟨n, rfl⟩ := hW
          go_wp2_with fail
          go_ret
          obtain ⟨n1, n2, n3, n4, n5⟩ := HN.out
          obtain ⟨x1, x2, x3, x4, x5⟩ := HX.out
          refine ⟨?_, ⟨n2.os, n2.tape, n2.output, n2.size, n2.block⟩⟩
          rw [sameS_not x1 x2 (by rintro ⟨e1, e2⟩; simp [e1] at x3)]
          rfl
      · have d1 : decide (I < (V.length : Int)) = false := by simp; omega
        have hs : sameS V U = true := sameS_all HL.out fun j h1 h2 => hno j h1 h2 (by omega)
        have HN := Lib.hid (And.intro hs hK)
        clear hno hkl hI hlt hs hK
        go_wp2_with fail
        go_ret
        exact ⟨by rw [HN.out.1]; rfl, HN.out.2⟩
  · have d0 : ((V.length : Int) != (U.length : Int)) = true := by simp; omega
    rw [sameS_len hn]
    clear hn
    go_enter Tryd.func16, Tryd.ntmps16
    go_wp2_with fail
    go_ret
    exact ⟨rfl, World.grownBy.refl w none⟩
end Go.Proofs.YtebnebajedlhlaaDoor
