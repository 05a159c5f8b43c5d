/-
  Several texts in one: PwU, PwE.
-/
import Derived.Test.YtpdfkgmgmndcfaaDoorM20E
import Derived.DeepKeys
/-
  Sum, Enough, Few.
-/

namespace Go.Proofs.YtpdfkgmgmndcfaaDoor
open Go.RowKit

def inR (V : List Vd) (who : List Int) : Bool := who.all fun i => decide (0 ≤ i) && decide (i < (V.length : Int))
def sumCode (V : List Vd) (who : List Int) : Nat := if rightS V then if inR V who then if decide who.Nodup then 0 else 3 else 2 else 1
def sumVal (V : List Vd) (who : List Int) : Int := if sumCode V who = 0 then (powersAt V who).sum else 0
def codeV (es er et : Addr) : Nat → Value
  | 0 => .nilIface
  | 1 => errV es
  | 2 => errV er
  | _ => errV et
theorem inR_iff {V : List Vd} {who : List Int} : inR V who = true ↔ ∀ i ∈ who, 0 ≤ i ∧ i < (V.length : Int) := by
  simp [inR]
theorem nodup_snoc {l : List Int} {k : Nat} (h : k < l.length) (hn : (l.take k).Nodup) (hx : l[k] ∉ l.take k) : (l.take (k + 1)).Nodup := by
  rw [← List.take_append_getElem h, List.nodup_append]
  refine ⟨hn, by simp, fun a ha b hb => ?_⟩
  obtain rfl : b = l[k] := by simpa using hb
  exact fun e => hx (e ▸ ha)
theorem not_nodup {l : List Int} {k : Nat} (h : k < l.length) (hx : l[k] ∈ l.take k) : ¬ l.Nodup := fun hn => by
  have h1 : (l.take (k + 1)).Nodup := hn.sublist (List.take_sublist _ _)
  rw [← List.take_append_getElem h, List.nodup_append] at h1
  exact h1.2.2 _ hx _ (by simp) rfl
theorem powersAt_range {V : List Vd} {who : List Int} (hr : rightS V = true) (hi : inR V who = true) : ∀ z ∈ powersAt V who, 1 ≤ z ∧ z ≤ 1099511627776 := fun z hz => by
  obtain ⟨i, hi', rfl⟩ := List.mem_map.1 hz
  obtain ⟨h1, h2⟩ := inR_iff.1 hi i hi'
  have hk : i.toNat < V.length := by omega
  have := ((rightS_iff V).1 hr).2 _ hk
  simp only [List.getElem?_eq_getElem hk, Option.map_some, Option.getD_some]
  exact ⟨this.1, this.2.1⟩
theorem IntsAt.take {w : World} {A : Option Addr} {l : List Int} (h : IntsAt w A l) (k : Nat) : IntsAt w A (l.take k) := fun hl => by
  obtain ⟨ad, rfl, hc⟩ := h (by rintro rfl; simp at hl)
  exact ⟨ad, rfl, fun j hj => by rw [hc j (by simp at hj; omega)]; simp⟩

theorem sumVal_bound {V : List Vd} {who : List Int} (hwl : who.length ≤ 100) : 0 ≤ sumVal V who ∧ sumVal V who ≤ 109951162777600 := by
  unfold sumVal
  by_cases h : sumCode V who = 0
  · rw [if_pos h]
    have hr : rightS V = true := by
      cases h1 : rightS V with
      | true => rfl
      | false => simp [sumCode, h1] at h
    have hi : inR V who = true := by
      cases h1 : inR V who with
      | true => rfl
      | false => simp [sumCode, hr, h1] at h
    have hb := sum_bounds 1099511627776 (by omega) _ (powersAt_range hr hi)
    have hl : (powersAt V who).length = who.length := by simp [powersAt]
    rw [hl] at hb
    omega
  · rw [if_neg h]; omega
theorem codeV_err {es er et : Addr} {k : Nat} (h : k ≠ 0) : ∃ a, codeV es er et k = errV a := by
  match k with
  | 0 => exact absurd rfl h
  | 1 => exact ⟨_, rfl⟩
  | 2 => exact ⟨_, rfl⟩
  | k + 3 => exact ⟨_, rfl⟩

def enoughS (V : List Vd) (who : List Int) : Bool := decide (sumCode V who = 0) && decide (quorumS V ≤ sumVal V who)
def fewS (V : List Vd) (who : List Int) : Bool := decide (sumCode V who = 0) && decide (3 * sumVal V who < totalS V)

end Go.Proofs.YtpdfkgmgmndcfaaDoor
/-
  Rows of validators, compared: Same, and the document's Same.
-/
namespace Go.Proofs.YtpdfkgmgmndcfaaDoor
open Go.RowKit

section
variable {P : Program} {C : World → Prop} {a : Act} {o : Oper}
theorem quiet_load_mid {K : Act → Prop} (ty : TypeId) (x : Operand) (ho : o.op = .load ty x) (b off : Nat) (hx : a.eval x = .pointer (some ⟨b, off, none⟩)) (cs : List Value) (d : TypeDesc) (hc : ∀ w, C w → w.rangeAt b off cs)
    (hu : P.underlying ty = some d) (hd : d.isRow = true) (hi : (P.info? ty).map (·.size) = some cs.length) (hk : K (a.put o.dst (.agg cs.toArray))) : o.quiet P a C K :=
  ⟨_, fun w hw => by
    unfold Oper.quietAt execOp
    simp only [ho, hx, Instr.loadAt, Instr.sureAddr, Sem.run_bind, Sem.run_pure, Result.andThen_ok, run_loadVar_mid w b off ty cs d (hc w hw) hu hd hi]
    exact ⟨rfl, rfl⟩, hk⟩
end

section
variable {P : Program}
theorem part_agg (w : World) {t e : TypeId} {n : Nat} (hu : P.underlying t = some (.array n e)) (xs ys : Array Value) (o : Nat) (hi : (P.info? t).isSome = true) (h : xs.extract o (o + P.cellsOf t) = ys) :
    Sem.run P (part t xs o) w = .ok (.agg ys) w := by
  obtain ⟨i, hi⟩ := Option.isSome_iff_exists.1 hi
  simp [part, isAgg, run_underlying hu, run_sizeOf w hi, h]
theorem eqFields2 (w : World) (d : Nat) (xs ys : Array Value) (f g : Field) (hf : (f.name != "_") = true) (hg : (g.name != "_") = true) {a b c e : Value} {r1 r2 : Bool}
    (p1 : Sem.run P (part f.type xs f.offset) w = .ok a w) (p2 : Sem.run P (part f.type ys f.offset) w = .ok b w) (p3 : Sem.run P (part g.type xs g.offset) w = .ok c w) (p4 : Sem.run P (part g.type ys g.offset) w = .ok e w)
    (q1 : Sem.run P (Op.equalIn d f.type a b) w = .ok r1 w) (q2 : Sem.run P (Op.equalIn d g.type c e) w = .ok r2 w) : Sem.run P (Op.eqFields d xs ys [f, g]) w = .ok (r1 && r2) w := by
  have hf' : f.name ≠ "_" := by simpa using hf
  have hg' : g.name ≠ "_" := by simpa using hg
  simp only [Op.eqFields, hf', hg', ne_eq, not_false_eq_true, if_true, Sem.run_bind, p1, p2, q1, Result.andThen_ok]
  cases r1 <;> cases r2 <;> simp [p3, p4, q2]
end

theorem part_key (w : World) {x : Vd} (hx : x.key.length = 16) : Sem.run Tryd.prog (part 24 x.cells.toArray 0) w = .ok (.agg (arrV .u8 x.key)) w := by
  refine part_agg w Tryd.underlying24 _ _ 0 (by kernel_rfl) ?_
  rw [show Tryd.prog.cellsOf 24 = 16 by kernel_rfl]
  apply Array.toList_inj.1
  simp [Vd.cells, hx]
theorem part_power (w : World) {x : Vd} (hx : x.key.length = 16) : Sem.run Tryd.prog (part 3 x.cells.toArray 16) w = .ok (.int .i64 x.p) w :=
  run_part_plain w (by kernel_rfl) (by rw [List.getElem?_toArray, Vd.cells, List.getElem?_append_right (by simp [hx])]; simp [hx])

theorem eqV_at (w : World) (d : Nat) {x y : Vd} (hx : x.key.length = 16) (hy : y.key.length = 16) :
    Sem.run Tryd.prog (Op.equalIn (d + 3) 45 (.agg x.cells.toArray) (.agg y.cells.toArray)) w = .ok (decide (x.key = y.key) && (x.p == y.p)) w := by
  have hu := Tryd.underlying45
  have hf : Tryd.prog.underlying 45 = some (.struct (Tryd.prog.fieldsOf 45)) := by rw [Program.fieldsOf, hu]
  rw [run_equalIn_struct w (d + 2) _ _ _ hf (by kernel_rfl), Program.fieldsOf, hu]
  exact eqFields2 w (d + 2) _ _ _ _ rfl rfl (part_key w hx) (part_key w hy) (part_power w hx) (part_power w hy)
    (eq_arr w d Tryd.underlying24 (by kernel_rfl) Tryd.underlying5 (by kernel_rfl) (by kernel_rfl) _ _ hx hy) (run_equalIn_int w (d + 1) _ _ _ _ _ Tryd.underlying3)
theorem eqV (w : World) {x y : Vd} (hx : x.key.length = 16) (hy : y.key.length = 16) :
    Sem.run Tryd.prog (Op.equalIn 10000 45 (.agg x.cells.toArray) (.agg y.cells.toArray)) w = .ok (decide (x.key = y.key) && (x.p == y.p)) w := eqV_at w 9997 hx hy

/-- Are two rows the same? -/
def sameS (a b : List Vd) : Bool := decide (a.map Vd.key = b.map Vd.key) && decide (a.map Vd.p = b.map Vd.p)
theorem sameS_len {a b : List Vd} (h : a.length ≠ b.length) : sameS a b = false := by
  have h1 : ¬ (a.map Vd.key = b.map Vd.key) := fun e => h (by simpa using congrArg List.length e)
  simp [sameS, h1]
theorem sameS_all {a b : List Vd} (hn : a.length = b.length) (h : ∀ j (h1 : j < a.length) (h2 : j < b.length), a[j].key = b[j].key ∧ a[j].p = b[j].p) : sameS a b = true := by
  have h1 : a.map Vd.key = b.map Vd.key := List.ext_getElem (by simp [hn]) fun j g1 g2 => by simpa using (h j (by simpa using g1) (by simpa using g2)).1
  have h2 : a.map Vd.p = b.map Vd.p := List.ext_getElem (by simp [hn]) fun j g1 g2 => by simpa using (h j (by simpa using g1) (by simpa using g2)).2
  simp [sameS, h1, h2]
theorem sameS_not {a b : List Vd} {j : Nat} (h1 : j < a.length) (h2 : j < b.length) (h : ¬ (a[j].key = b[j].key ∧ a[j].p = b[j].p)) : sameS a b = false := by
  cases hs : sameS a b with
  | false => rfl
  | true =>
    exfalso
    simp only [sameS, Bool.and_eq_true, decide_eq_true_eq] at hs
    refine h ⟨?_, ?_⟩
    · have := congrArg (fun l => l[j]?) hs.1
      simpa [List.getElem?_eq_getElem h1, List.getElem?_eq_getElem h2] using this
    · have := congrArg (fun l => l[j]?) hs.2
      simpa [List.getElem?_eq_getElem h1, List.getElem?_eq_getElem h2] using this

end Go.Proofs.YtpdfkgmgmndcfaaDoor
