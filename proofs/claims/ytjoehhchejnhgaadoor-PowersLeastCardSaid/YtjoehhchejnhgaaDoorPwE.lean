/-
  Rows of validators, compared: Same, and the document's Same.
-/
import Derived.DeepKeys
import Derived.Test.YtjoehhchejnhgaaDoorPwU
namespace Go.Proofs.YtjoehhchejnhgaaDoor
open Go.RowKit

section
variable {P : Program} {C : World → Prop} {a : Act} {o : Oper}
theorem quiet_load_mid {K : Act → Prop} (ty : TypeId) (x : Operand) (ho : o.op = .load ty x) (b off : Nat) (hx : a.eval x = .pointer (some ⟨b, off, none⟩)) (cs : List Value) (d : TypeDesc) (hc : ∀ w, C w → w.rangeAt b off cs)
    (hu : P.underlying ty = some d) (hd : d.isRow = true) (hi : (P.info? ty).map (·.size) = some cs.length) (hk : K (a.put o.dst (.agg cs.toArray))) : o.quiet P a C K :=
  ⟨_, fun w hw => by
    unfold Oper.quietAt execOp
    simp only [ho, hx, Instr.loadAt, Instr.sureAddr, Sem.run_bind, Sem.run_pure, Result.andThen_ok, run_loadVar_mid w b off ty cs d (hc w hw) hu hd hi]
    exact ⟨rfl, rfl⟩, hk⟩
end

section
variable {P : Program}
theorem part_agg (w : World) {t e : TypeId} {n : Nat} (hu : P.underlying t = some (.array n e)) (xs ys : Array Value) (o : Nat) (hi : (P.info? t).isSome = true) (h : xs.extract o (o + P.cellsOf t) = ys) :
    Sem.run P (part t xs o) w = .ok (.agg ys) w := by
  obtain ⟨i, hi⟩ := Option.isSome_iff_exists.1 hi
  simp [part, isAgg, run_underlying hu, run_sizeOf w hi, h]
theorem eqFields2 (w : World) (d : Nat) (xs ys : Array Value) (f g : Field) (hf : (f.name != "_") = true) (hg : (g.name != "_") = true) {a b c e : Value} {r1 r2 : Bool}
    (p1 : Sem.run P (part f.type xs f.offset) w = .ok a w) (p2 : Sem.run P (part f.type ys f.offset) w = .ok b w) (p3 : Sem.run P (part g.type xs g.offset) w = .ok c w) (p4 : Sem.run P (part g.type ys g.offset) w = .ok e w)
    (q1 : Sem.run P (Op.equalIn d f.type a b) w = .ok r1 w) (q2 : Sem.run P (Op.equalIn d g.type c e) w = .ok r2 w) : Sem.run P (Op.eqFields d xs ys [f, g]) w = .ok (r1 && r2) w := by
  have hf' : f.name ≠ "_" := by simpa using hf
  have hg' : g.name ≠ "_" := by simpa using hg
  simp only [Op.eqFields, hf', hg', ne_eq, not_false_eq_true, if_true, Sem.run_bind, p1, p2, q1, Result.andThen_ok]
  cases r1 <;> cases r2 <;> simp [p3, p4, q2]
end

theorem part_key (w : World) {x : Vd} (hx : x.key.length = 16) : Sem.run Tryd.prog (part 38 x.cells.toArray 0) w = .ok (.agg (arrV .u8 x.key)) w := by
  refine part_agg w Tryd.underlying38 _ _ 0 (by kernel_rfl) ?_
  rw [show Tryd.prog.cellsOf 38 = 16 by kernel_rfl]
  apply Array.toList_inj.1
  simp [Vd.cells, hx]
theorem part_power (w : World) {x : Vd} (hx : x.key.length = 16) : Sem.run Tryd.prog (part 3 x.cells.toArray 16) w = .ok (.int .i64 x.p) w :=
  run_part_plain w (by kernel_rfl) (by rw [List.getElem?_toArray, Vd.cells, List.getElem?_append_right (by simp [hx])]; simp [hx])

theorem eqV_at (w : World) (d : Nat) {x y : Vd} (hx : x.key.length = 16) (hy : y.key.length = 16) :
    Sem.run Tryd.prog (Op.equalIn (d + 3) 40 (.agg x.cells.toArray) (.agg y.cells.toArray)) w = .ok (decide (x.key = y.key) && (x.p == y.p)) w := by
  have hu := Tryd.underlying40
  have hf : Tryd.prog.underlying 40 = some (.struct (Tryd.prog.fieldsOf 40)) := by rw [Program.fieldsOf, hu]
  rw [run_equalIn_struct w (d + 2) _ _ _ hf (by kernel_rfl), Program.fieldsOf, hu]
  exact eqFields2 w (d + 2) _ _ _ _ rfl rfl (part_key w hx) (part_key w hy) (part_power w hx) (part_power w hy)
    (eq_arr w d Tryd.underlying38 (by kernel_rfl) Tryd.underlying5 (by kernel_rfl) (by kernel_rfl) _ _ hx hy) (run_equalIn_int w (d + 1) _ _ _ _ _ Tryd.underlying3)
theorem eqV (w : World) {x y : Vd} (hx : x.key.length = 16) (hy : y.key.length = 16) :
    Sem.run Tryd.prog (Op.equalIn 10000 40 (.agg x.cells.toArray) (.agg y.cells.toArray)) w = .ok (decide (x.key = y.key) && (x.p == y.p)) w := eqV_at w 9997 hx hy

/-- Are two rows the same? -/
def sameS (a b : List Vd) : Bool := decide (a.map Vd.key = b.map Vd.key) && decide (a.map Vd.p = b.map Vd.p)
theorem sameS_len {a b : List Vd} (h : a.length ≠ b.length) : sameS a b = false := by
  have h1 : ¬ (a.map Vd.key = b.map Vd.key) := fun e => h (by simpa using congrArg List.length e)
  simp [sameS, h1]
theorem sameS_all {a b : List Vd} (hn : a.length = b.length) (h : ∀ j (h1 : j < a.length) (h2 : j < b.length), a[j].key = b[j].key ∧ a[j].p = b[j].p) : sameS a b = true := by
  have h1 : a.map Vd.key = b.map Vd.key := List.ext_getElem (by simp [hn]) fun j g1 g2 => by simpa using (h j (by simpa using g1) (by simpa using g2)).1
  have h2 : a.map Vd.p = b.map Vd.p := List.ext_getElem (by simp [hn]) fun j g1 g2 => by simpa using (h j (by simpa using g1) (by simpa using g2)).2
  simp [sameS, h1, h2]
theorem sameS_not {a b : List Vd} {j : Nat} (h1 : j < a.length) (h2 : j < b.length) (h : ¬ (a[j].key = b[j].key ∧ a[j].p = b[j].p)) : sameS a b = false := by
  cases hs : sameS a b with
  | false => rfl
  | true =>
    exfalso
    simp only [sameS, Bool.and_eq_true, decide_eq_true_eq] at hs
    refine h ⟨?_, ?_⟩
    · have := congrArg (fun l => l[j]?) hs.1
      simpa [List.getElem?_eq_getElem h1, List.getElem?_eq_getElem h2] using this
    · have := congrArg (fun l => l[j]?) hs.2
      simpa [List.getElem?_eq_getElem h1, List.getElem?_eq_getElem h2] using this

set_option maxRecDepth 100000 in
set_option maxHeartbeats 1000000 in
theorem equal_is (w : World) (A1 A2 : Option Addr) (c1 c2 : Nat) (V U : List Vd) (hV : VdsAt w A1 V) (hU : VdsAt w A2 U) (okV : keysOk V) (okU : keysOk U) (hl : V.length < 1000) :
    Calls Tryd.prog 33 #[.slice A1 V.length c1, .slice A2 U.length c2] w fun e w' => e = .returned (.bool (sameS V U)) ∧ w.grownBy w' none := by
  by_cases hn : V.length = U.length
  · rw [← hn]
    have HL := Lib.hid hn
    clear hn
    go_enter Tryd.func33, Tryd.ntmps33
    go_wp2_with fail
    go_loopw [13] (fun i wr => ∃ k : Nat, k ≤ V.length ∧ i = .int .i64 (k : Int) ∧ (∀ j (h1 : j < V.length) (h2 : j < U.length), j < k → V[j].key = U[j].key ∧ V[j].p = U[j].p) ∧ w.grownBy wr none) (fun i _ => V.length - (intOf i).toNat)
    case atStart => exact ⟨0, by omega, rfl, fun j _ _ h => absurd h (by omega), World.grownBy.refl w none⟩
    case round =>
      obtain ⟨k, hkl, hi, hno, hK⟩ := hrel
      obtain ⟨I, hI⟩ : ∃ I : Int, I = (k : Int) := ⟨_, rfl⟩
      rw [← hI] at hi
      subst hi
      by_cases hlt : k < V.length
      · have hn := HL.out
        have hlt2 : k < U.length := by omega
        obtain ⟨b1, off1, rfl, hc1⟩ := hV (by rintro rfl; simp at hlt)
        obtain ⟨b2, off2, rfl, hc2⟩ := hU (by rintro rfl; simp at hlt2)
        have d1 : decide (I < (V.length : Int)) = true := by simp; omega
        have hIV : I < (V.length : Int) := by omega
        have hI0 : 0 ≤ I ∧ I < 1000 := by omega
        have hkI : I.toNat = k := by omega
        have r1 := range_kept (hc1 k hlt) hK
        have r2 := range_kept (hc2 k hlt2) hK
        have hx := okV _ (List.getElem_mem hlt)
        have hy := okU _ (List.getElem_mem hlt2)
        obtain ⟨x, hxe⟩ : ∃ x, x = V[k] := ⟨_, rfl⟩
        obtain ⟨y, hye⟩ : ∃ y, y = U[k] := ⟨_, rfl⟩
        rw [← hxe] at r1 hx
        rw [← hye] at r2 hy
        rw [← hkI] at r1 r2
        have heq : ∀ w, Sem.run Tryd.prog (Op.equalIn 10000 40 (.agg x.cells.toArray) (.agg y.cells.toArray)) w = .ok (decide (x.key = y.key) && (x.p == y.p)) w := fun w => eqV w hx hy
        obtain ⟨r, hr⟩ : ∃ r, r = (decide (x.key = y.key) && (x.p == y.p)) := ⟨_, rfl⟩
        rw [← hr] at heq
        obtain ⟨cx, hcx⟩ : ∃ cx, cx = x.cells := ⟨_, rfl⟩
        obtain ⟨cy, hcy⟩ : ∃ cy, cy = y.cells := ⟨_, rfl⟩
        have i1 := vdSize hx
        have i2 := vdSize hy
        rw [← hcx] at r1 i1 heq
        rw [← hcy] at r2 i2 heq
        have HR := Lib.hid (And.intro r1 r2)
        have HI := Lib.hid (And.intro i1 i2)
        have HN := Lib.hid (And.intro hno (And.intro hK (And.intro hl (And.intro hI hn))))
        have HX := Lib.hid (show ∃ (h1 : k < V.length) (h2 : k < U.length), r = (decide (V[k].key = U[k].key) && (V[k].p == U[k].p)) from ⟨hlt, hlt2, by rw [hr, hxe, hye]⟩)
        clear r1 r2 i1 i2 hxe hye hx hy hno hc1 hc2 okV okU hK hV hU hkl hl hI hkI hn hlt hlt2 hcx hcy hr
        go_wp2_with fail
        refine wp_region_quiet_lit (by kernel_rfl) (by kernel_rfl) ?_
        repeat (first
          | go_big_quiet_skip
          | (go_big_quiet_want; first
              | (refine quiet_load_mid 40 _ rfl b1 (off1 + I.toNat * 17) rfl cx _ (fun W hW => by obtain ⟨n, rfl⟩ := hW; exact HR.out.1) Tryd.underlying40 rfl HI.out.1 ?_; simp only [Act.put, List.setIfInBounds_toArray, List.set_cons_zero, List.set_cons_succ]; go_big_quiet_on)
              | (refine quiet_load_mid 40 _ rfl b2 (off2 + I.toNat * 17) rfl cy _ (fun W hW => by obtain ⟨n, rfl⟩ := hW; exact HR.out.2) Tryd.underlying40 rfl HI.out.2 ?_; simp only [Act.put, List.setIfInBounds_toArray, List.set_cons_zero, List.set_cons_succ]; go_big_quiet_on)
              | (go_big_quiet_op; go_big_quiet_on)))
        refine wpQuiet_nil ?_
        intro W hW
        obtain ⟨n, rfl⟩ := hW
        cases r with
        | true =>
          go_wp2_with fail
          go_roundw
          case rel =>
            obtain ⟨n1, n2, n3, n4, n5⟩ := HN.out
            obtain ⟨x1, x2, x3⟩ := HX.out
            refine ⟨k + 1, by omega, by rw [n4]; rfl, fun j h1 h2 hjk => ?_, ⟨n2.os, n2.tape, n2.output, n2.size, n2.block⟩⟩
            by_cases hjk' : j < k
            · exact n1 j h1 h2 hjk'
            · obtain rfl : j = k := by omega
              simpa using x3.symm
          case measure => obtain ⟨n1, n2, n3, n4, n5⟩ := HN.out; obtain ⟨x1, x2, x3⟩ := HX.out; simp [intOf]; omega
        | false =>
          go_wp2_with fail
          go_ret
          obtain ⟨n1, n2, n3, n4, n5⟩ := HN.out
          obtain ⟨x1, x2, x3⟩ := HX.out
          refine ⟨?_, ⟨n2.os, n2.tape, n2.output, n2.size, n2.block⟩⟩
          rw [sameS_not x1 x2 (by rintro ⟨e1, e2⟩; simp [e1, e2] at x3)]
          rfl
      · have d1 : decide (I < (V.length : Int)) = false := by simp; omega
        have hs : sameS V U = true := sameS_all HL.out fun j h1 h2 => hno j h1 h2 (by omega)
        have HN := Lib.hid (And.intro hs hK)
        clear hno hkl hI hlt hs hK
        go_wp2_with fail
        go_ret
        exact ⟨by rw [HN.out.1]; rfl, HN.out.2⟩
  · have d0 : ((V.length : Int) != (U.length : Int)) = true := by simp; omega
    rw [sameS_len hn]
    clear hn
    go_enter Tryd.func33, Tryd.ntmps33
    go_wp2_with fail
    go_ret
    exact ⟨rfl, World.grownBy.refl w none⟩

set_option maxHeartbeats 1000000 in
theorem same_is (w : World) (A1 A2 : Option Addr) (c1 c2 : Nat) (V U : List Vd) (hV : VdsAt w A1 V) (hU : VdsAt w A2 U) (okV : keysOk V) (okU : keysOk U) (hl : V.length < 1000) :
    Calls Tryd.prog 22 #[.slice A1 V.length c1, .slice A2 U.length c2] w fun e w' => e = .returned (.bool (sameS V U)) ∧ w.grownBy w' none := by
  have HV := Lib.hid (equal_is w A1 A2 c1 c2 V U hV hU okV okU hl)
  clear hV hU okV okU hl
  go_enter Tryd.func22, Tryd.ntmps22
  go_wp2_with fail
  refine HV.out.mono ?_
  rintro e w1 ⟨rfl, hk1⟩
  have HK := Lib.hid hk1
  clear hk1
  go_wp2_with fail
  go_ret
  exact ⟨rfl, HK.out⟩

set_option maxRecDepth 100000 in
set_option maxHeartbeats 1000000 in
theorem rsame_is (w : World) (A1 A2 : Option Addr) (c1 c2 : Nat) (V U : List Vd) (hV : VdsAt w A1 V) (hU : VdsAt w A2 U) (okV : keysOk V) (okU : keysOk U) (hl : V.length < 1000) :
    Calls Tryd.prog 23 #[.slice A1 V.length c1, .slice A2 U.length c2] w fun e w' => e = .returned (.bool (sameS V U)) ∧ w.grownBy w' none := by
  by_cases hn : V.length = U.length
  · rw [← hn]
    have HL := Lib.hid hn
    clear hn
    go_enter Tryd.func23, Tryd.ntmps23
    go_wp2_with fail
    go_loopw [13] (fun i wr => ∃ k : Nat, k ≤ V.length ∧ i = .int .i64 (k : Int) ∧ (∀ j (h1 : j < V.length) (h2 : j < U.length), j < k → V[j].key = U[j].key ∧ V[j].p = U[j].p) ∧ w.grownBy wr none) (fun i _ => V.length - (intOf i).toNat)
    case atStart => exact ⟨0, by omega, rfl, fun j _ _ h => absurd h (by omega), World.grownBy.refl w none⟩
    case round =>
      obtain ⟨k, hkl, hi, hno, hK⟩ := hrel
      obtain ⟨I, hI⟩ : ∃ I : Int, I = (k : Int) := ⟨_, rfl⟩
      rw [← hI] at hi
      subst hi
      by_cases hlt : k < V.length
      · have hn := HL.out
        have hlt2 : k < U.length := by omega
        obtain ⟨b1, off1, rfl, hc1⟩ := hV (by rintro rfl; simp at hlt)
        obtain ⟨b2, off2, rfl, hc2⟩ := hU (by rintro rfl; simp at hlt2)
        have d1 : decide (I < (V.length : Int)) = true := by simp; omega
        have hIV : I < (V.length : Int) := by omega
        have hI0 : 0 ≤ I ∧ I < 1000 := by omega
        have hkI : I.toNat = k := by omega
        have r1 := range_kept (hc1 k hlt) hK
        have r2 := range_kept (hc2 k hlt2) hK
        have hx := okV _ (List.getElem_mem hlt)
        have hy := okU _ (List.getElem_mem hlt2)
        obtain ⟨x, hxe⟩ : ∃ x, x = V[k] := ⟨_, rfl⟩
        obtain ⟨y, hye⟩ : ∃ y, y = U[k] := ⟨_, rfl⟩
        rw [← hxe] at r1 hx
        rw [← hye] at r2 hy
        rw [← hkI] at r1 r2
        have p1 := vd_power hx r1
        have p2 := vd_power hy r2
        have q1 := vd_range r1
        have q2 := vd_range r2
        have heq : ∀ w, Sem.run Tryd.prog (Op.equalIn 10000 38 (.agg (arrV .u8 x.key)) (.agg (arrV .u8 y.key))) w = .ok (decide (x.key = y.key)) w := fun w => eqD w x.key y.key hx hy
        obtain ⟨px, hpx⟩ : ∃ px, px = x.p := ⟨_, rfl⟩
        obtain ⟨py, hpy⟩ : ∃ py, py = y.p := ⟨_, rfl⟩
        rw [← hpx] at p1
        rw [← hpy] at p2
        obtain ⟨r, hr⟩ : ∃ r, r = decide (x.key = y.key) := ⟨_, rfl⟩
        rw [← hr] at heq
        have i1 := keySize hx
        have i2 := keySize hy
        obtain ⟨cx, hcx⟩ : ∃ cx, cx = x.key.map (Value.int .u8) := ⟨_, rfl⟩
        obtain ⟨cy, hcy⟩ : ∃ cy, cy = y.key.map (Value.int .u8) := ⟨_, rfl⟩
        unfold arrV at heq
        rw [← hcx] at q1 i1 heq
        rw [← hcy] at q2 i2 heq
        have HR := Lib.hid (And.intro q1 q2)
        have HI := Lib.hid (And.intro i1 i2)
        have HN := Lib.hid (And.intro hno (And.intro hK (And.intro hl (And.intro hI hn))))
        have HX := Lib.hid (show ∃ (h1 : k < V.length) (h2 : k < U.length), r = (decide (V[k].key = U[k].key)) ∧ px = V[k].p ∧ py = U[k].p from ⟨hlt, hlt2, by rw [hr, hxe, hye], by rw [hpx, hxe], by rw [hpy, hye]⟩)
        clear r1 r2 q1 q2 i1 i2 hxe hye hx hy hno hc1 hc2 okV okU hK hV hU hkl hl hI hkI hn hlt hlt2 hcx hcy hr hpx hpy
        go_wp2_with fail
        cases r with
        | true =>
          refine wp_region_quiet_lit (by kernel_rfl) (by kernel_rfl) ?_
          repeat (first
            | go_big_quiet_skip
            | (go_big_quiet_want; first
                | (refine quiet_load_mid 38 _ rfl b1 (off1 + I.toNat * 17) rfl cx _ (fun W hW => by obtain ⟨n, rfl⟩ := hW; exact HR.out.1) Tryd.underlying38 rfl HI.out.1 ?_; simp only [Act.put, List.setIfInBounds_toArray, List.set_cons_zero, List.set_cons_succ]; go_big_quiet_on)
                | (refine quiet_load_mid 38 _ rfl b2 (off2 + I.toNat * 17) rfl cy _ (fun W hW => by obtain ⟨n, rfl⟩ := hW; exact HR.out.2) Tryd.underlying38 rfl HI.out.2 ?_; simp only [Act.put, List.setIfInBounds_toArray, List.set_cons_zero, List.set_cons_succ]; go_big_quiet_on)
                | (go_big_quiet_op; go_big_quiet_on)))
          refine wpQuiet_nil ?_
          intro W hW
          obtain ⟨n, rfl⟩ := hW
          by_cases hp : px = py
          · have hp' : (px != py) = false := by simpa using hp
            have HP := Lib.hid hp
            clear hp
            go_wp2_with fail
            go_roundw
            case rel =>
              obtain ⟨n1, n2, n3, n4, n5⟩ := HN.out
              obtain ⟨x1, x2, x3, x4, x5⟩ := HX.out
              have := HP.out
              refine ⟨k + 1, by omega, by rw [n4]; rfl, fun j h1 h2 hjk => ?_, ⟨n2.os, n2.tape, n2.output, n2.size, n2.block⟩⟩
              by_cases hjk' : j < k
              · exact n1 j h1 h2 hjk'
              · obtain rfl : j = k := by omega
                exact ⟨by simpa using x3.symm, by rw [← x4, ← x5, this]⟩
            case measure => obtain ⟨n1, n2, n3, n4, n5⟩ := HN.out; obtain ⟨x1, x2, x3⟩ := HX.out; simp [intOf]; omega
          · have hp' : (px != py) = true := by simpa using hp
            have HP := Lib.hid hp
            clear hp
            go_wp2_with fail
            go_ret
            obtain ⟨n1, n2, n3, n4, n5⟩ := HN.out
            obtain ⟨x1, x2, x3, x4, x5⟩ := HX.out
            refine ⟨?_, ⟨n2.os, n2.tape, n2.output, n2.size, n2.block⟩⟩
            rw [sameS_not x1 x2 (by rintro ⟨e1, e2⟩; exact HP.out (by rw [x4, x5, e2]))]
            rfl
        | false =>
          refine wp_region_quiet_lit (by kernel_rfl) (by kernel_rfl) ?_
          repeat (first
            | go_big_quiet_skip
            | (go_big_quiet_want; first
                | (refine quiet_load_mid 38 _ rfl b1 (off1 + I.toNat * 17) rfl cx _ (fun W hW => by obtain ⟨n, rfl⟩ := hW; exact HR.out.1) Tryd.underlying38 rfl HI.out.1 ?_; simp only [Act.put, List.setIfInBounds_toArray, List.set_cons_zero, List.set_cons_succ]; go_big_quiet_on)
                | (refine quiet_load_mid 38 _ rfl b2 (off2 + I.toNat * 17) rfl cy _ (fun W hW => by obtain ⟨n, rfl⟩ := hW; exact HR.out.2) Tryd.underlying38 rfl HI.out.2 ?_; simp only [Act.put, List.setIfInBounds_toArray, List.set_cons_zero, List.set_cons_succ]; go_big_quiet_on)
                | (go_big_quiet_op; go_big_quiet_on)))
          refine wpQuiet_nil ?_
          intro W hW
          obtain ⟨n, rfl⟩ := hW
          go_wp2_with fail
          go_ret
          obtain ⟨n1, n2, n3, n4, n5⟩ := HN.out
          obtain ⟨x1, x2, x3, x4, x5⟩ := HX.out
          refine ⟨?_, ⟨n2.os, n2.tape, n2.output, n2.size, n2.block⟩⟩
          rw [sameS_not x1 x2 (by rintro ⟨e1, e2⟩; simp [e1] at x3)]
          rfl
      · have d1 : decide (I < (V.length : Int)) = false := by simp; omega
        have hs : sameS V U = true := sameS_all HL.out fun j h1 h2 => hno j h1 h2 (by omega)
        have HN := Lib.hid (And.intro hs hK)
        clear hno hkl hI hlt hs hK
        go_wp2_with fail
        go_ret
        exact ⟨by rw [HN.out.1]; rfl, HN.out.2⟩
  · have d0 : ((V.length : Int) != (U.length : Int)) = true := by simp; omega
    rw [sameS_len hn]
    clear hn
    go_enter Tryd.func23, Tryd.ntmps23
    go_wp2_with fail
    go_ret
    exact ⟨rfl, World.grownBy.refl w none⟩
end Go.Proofs.YtjoehhchejnhgaaDoor
