/-
  Several texts in one: GdN, DkP, DkM, DkW.
-/
import Derived.Test.YtmoebkdbnldbdaaGreatDoorM20pg
import Derived.Lib.SlKeysI
import Derived.Maps.OwnIn
import Derived.Maps.Views
import Derived.Test.YtmoebkdbnldbdaaGreatDoorM20pa
import Derived.Test.YtmoebkdbnldbdaaGreatDoorM20pr
import Derived.Deep.MidRow
import Derived.Maps.OwnSet
/-
  Codec: a number as a part of what is signed.
-/

namespace Go.Proofs.YtmoebkdbnldbdaaGreatDoor
open Go.RowKit

theorem made8 (w : World) : Sem.run Tryz.prog (Instr.makeSlice 61 (.int .i64 8) (.int .i64 8)) w = .ok (.slice (some ⟨w.heap.size, 0, none⟩) 8 8) (w.alloc (.cells #[.int .u8 0, .int .u8 0, .int .u8 0, .int .u8 0, .int .u8 0, .int .u8 0, .int .u8 0, .int .u8 0] 5)) := by
  obtain ⟨i, hi, hz0, hz1, hz2⟩ := info_parts (P := Tryz.prog) (e := 5) (z := .int .u8 0) (size := 1) (bytes := 1) (by kernel_rfl)
  have h := run_make (P := Tryz.prog) w 61 5 i _ Tryz.underlying61 hi hz0 .i64 .i64 8 8 (by omega) (Int.le_refl _) (by rw [hz2]; decide) (by omega)
  rw [hz1] at h
  have e : madeCells (Value.int .u8 0).cells (Int.toNat 8 * 1) = #[.int .u8 0, .int .u8 0, .int .u8 0, .int .u8 0, .int .u8 0, .int .u8 0, .int .u8 0, .int .u8 0] := by kernel_rfl
  rw [e] at h
  exact h
/-- A number's eight bytes, the high one first. -/
def b8 (n : Int) : List Int := [n / 72057594037927936 % 256, n / 281474976710656 % 256, n / 1099511627776 % 256, n / 4294967296 % 256, n / 16777216 % 256, n / 65536 % 256, n / 256 % 256, n % 256]
theorem b8_length (n : Int) : (b8 n).length = 8 := rfl
theorem row_bytesI (w : World) (g : Nat) (xs : List Int) {t : TypeId} (h : Blk w g t (arrV .u8 xs)) : BytesI w (some ⟨g, 0, none⟩) xs := fun _ => ⟨_, rfl, fun j hj => by
  rw [Go.WideShapes.add_plain, Nat.zero_add, h.cell]
  simp [arrV, List.getD, List.getElem?_eq_getElem hj]⟩
set_option maxRecDepth 100000 in
theorem number_is (w : World) (n : Int) (hn : -9223372036854775808 ≤ n ∧ n < 9223372036854775808) :
    Calls Tryz.prog 90 #[.int .i64 n] w fun e w' => e = .returned (.slice (some ⟨w.heap.size, 0, none⟩) 8 8) ∧ BytesI w' (some ⟨w.heap.size, 0, none⟩) (b8 n) ∧ w.grownBy w' none := by
  have hm := made8 w
  go_enter Tryz.func90, Tryz.ntmps90
  go_wp2_with fail
  clear hm
  refine wp_loop_rounds 9 ?_
  rw [rounds_succ]
  go_wp2_with fail
  rw [rounds_succ]
  go_wp2_with fail
  rw [rounds_succ]
  go_wp2_with fail
  rw [rounds_succ]
  go_wp2_with fail
  rw [rounds_succ]
  go_wp2_with fail
  rw [rounds_succ]
  go_wp2_with fail
  rw [rounds_succ]
  go_wp2_with fail
  rw [rounds_succ]
  go_wp2_with fail
  rw [rounds_succ]
  go_wp2_with fail
  go_ret
  exact ⟨rfl, row_bytesI _ _ _ (Blk.new w _ _), World.grownBy_alloc _ _ none⟩
end Go.Proofs.YtmoebkdbnldbdaaGreatDoor
/-
  Disk (pure): a map of sectors by place, and its keys rising.
-/
namespace Go.Proofs.YtmoebkdbnldbdaaGreatDoor
open Go.RowKit Go.Maps

/-- A sector's bytes, as a value and as a datum. -/
def secV (r : List Int) : Value := .agg (r.map (Value.int .u8)).toArray
def secD (r : List Int) : DataW Unit := .agg (r.map fun x => .lit (.int .u8 x))
def u8Of : Value → Option Int
  | .int .u8 x => some x
  | _ => none
def secR (n : Nat) : Value → Option (DataW Unit × List MemPlace)
  | .agg cs => (cs.toList.mapM u8Of).bind fun r => if r.length = n then some (secD r, []) else none
  | _ => none
theorem u8s_mk (r : List Int) : (r.map (Value.int .u8)).mapM u8Of = some r := by
  induction r with
  | nil => rfl
  | cons x r ih => rw [List.map_cons, List.mapM_cons, ih]; rfl
theorem u8s_inv : ∀ {cs : List Value} {r : List Int}, cs.mapM u8Of = some r → cs = r.map (Value.int .u8)
  | [], r, h => by
    rw [List.mapM_nil] at h
    injection h with h
    subst h; rfl
  | c :: cs, r, h => by
    rw [List.mapM_cons] at h
    obtain ⟨x, hx, h⟩ := Option.bind_eq_some_iff.1 h
    obtain ⟨r', hr, h⟩ := Option.bind_eq_some_iff.1 h
    injection h with h
    subst h
    rw [List.map_cons, u8s_inv hr]
    congr 1
    unfold u8Of at hx
    split at hx
    · injection hx with hx; rw [hx]
    · cases hx
theorem secR_mk {n : Nat} {r : List Int} (h : r.length = n) : secR n (secV r) = some (secD r, []) := by
  simp only [secR, secV]
  rw [u8s_mk]
  simp [h]
theorem secR_inv {n : Nat} {v : Value} {z : DataW Unit × List MemPlace} (h : secR n v = some z) : ∃ r, r.length = n ∧ v = secV r ∧ z = (secD r, []) := by
  unfold secR at h
  split at h
  · rename_i cs
    obtain ⟨r, hr, h⟩ := Option.bind_eq_some_iff.1 h
    split at h
    · rename_i hl
      injection h with h
      refine ⟨r, hl, ?_, h.symm⟩
      rw [secV, ← u8s_inv hr]
    · cases h
  · cases h
theorem secD_inj {r s : List Int} (h : secD r = secD s) : r = s := by
  unfold secD at h
  injection h with h
  have hf : (fun x => (DataW.lit (.int .u8 x) : DataW Unit)).Injective := fun a b e => by injection e with e; injection e
  induction r generalizing s with
  | nil => cases s with
    | nil => rfl
    | cons y s => cases h
  | cons x r ih => cases s with
    | nil => cases h
    | cons y s =>
      rw [List.map_cons, List.map_cons] at h
      injection h with h1 h2
      rw [hf h1, ih h2]
/-- What the map holds, place by place. -/
def MapOf (D : DataW Unit) (wr : List (Option (List Int))) : Prop :=
  IsMap D ∧ (∀ x : Int, has D (.int .i64 x) = true → ∃ i : Nat, i < wr.length ∧ x = (i : Int)) ∧
  ∀ i (h : i < wr.length), (wr[i] = none → has D (.int .i64 (i : Int)) = false) ∧ (∀ r, wr[i] = some r → has D (.int .i64 (i : Int)) = true ∧ ∀ z, D.atKey (.int .i64 (i : Int)) z = secD r)
theorem mapOf_empty (n : Nat) : MapOf (.map []) (List.replicate n none) :=
  ⟨⟨_, rfl⟩, fun x h => by simp [has] at h, fun i h => ⟨fun _ => by simp [has], fun r hr => by simp at hr⟩⟩
theorem mapOf_put {D : DataW Unit} {wr : List (Option (List Int))} (h : MapOf D wr) {i : Nat} (hi : i < wr.length) (r : List Int) : MapOf (D.put (.int .i64 (i : Int)) (secD r)) (wr.set i (some r)) := by
  have hk : WideAt.IsKeyLit (.int .i64 (i : Int)) := trivial
  have ne : ∀ {x : Int}, x ≠ (i : Int) → Lit.int .i64 x ≠ .int .i64 (i : Int) := fun hx e => hx (by injection e)
  refine ⟨(by obtain ⟨es, rfl⟩ := h.1; exact ⟨_, rfl⟩), fun x hx => ?_, fun j hj => ?_⟩
  · rw [List.length_set]
    by_cases e : x = (i : Int)
    · exact ⟨i, hi, e⟩
    · rw [has_put_other (ne e)] at hx
      exact h.2.1 x hx
  · rw [List.length_set] at hj
    by_cases e : j = i
    · subst e
      rw [List.getElem_set_self]
      exact ⟨fun h => (by cases h), fun r' hr => by injection hr with hr; subst hr; exact ⟨has_put_same h.1 hk _, fun z => atKey_put_same h.1 hk _ z⟩⟩
    · have e2 : (j : Int) ≠ (i : Int) := fun h => e (by omega)
      rw [List.getElem_set_ne (fun h => e h.symm), has_put_other (ne e2)]
      exact ⟨(h.2.2 j hj).1, fun r' hr => ⟨((h.2.2 j hj).2 r' hr).1, fun z => by rw [atKey_put_other (ne e2)]; exact ((h.2.2 j hj).2 r' hr).2 z⟩⟩
theorem mapOf_has {D : DataW Unit} {wr : List (Option (List Int))} (h : MapOf D wr) {i : Nat} (hi : i < wr.length) : has D (.int .i64 (i : Int)) = wr[i].isSome := by
  cases e : wr[i] with
  | none => rw [(h.2.2 i hi).1 e]; rfl
  | some r => rw [((h.2.2 i hi).2 r e).1]; rfl
/-- The places with something written, rising. -/
def dirtyL (wr : List (Option (List Int))) : List Int := ((List.range wr.length).filter fun i => (wr[i]?.join).isSome).map fun i : Nat => (i : Int)
theorem mem_dirtyL {wr : List (Option (List Int))} {x : Int} : x ∈ dirtyL wr ↔ ∃ i : Nat, ∃ h : i < wr.length, x = (i : Int) ∧ wr[i].isSome = true := by
  unfold dirtyL
  rw [List.mem_map]
  constructor
  · rintro ⟨i, hi, rfl⟩
    obtain ⟨h1, h2⟩ := List.mem_filter.1 hi
    have h1 := List.mem_range.1 h1
    exact ⟨i, h1, rfl, by rwa [List.getElem?_eq_getElem h1] at h2⟩
  · rintro ⟨i, h, rfl, h2⟩
    exact ⟨i, List.mem_filter.2 ⟨List.mem_range.2 h, by rw [List.getElem?_eq_getElem h]; exact h2⟩, rfl⟩
theorem dirtyL_rises (wr : List (Option (List Int))) : (dirtyL wr).Pairwise (· < ·) :=
  List.pairwise_map.2 ((List.pairwise_lt_range.filter _).imp fun h => by omega)
theorem dirtyL_length_le (wr : List (Option (List Int))) : (dirtyL wr).length ≤ wr.length := by
  unfold dirtyL
  rw [List.length_map]
  exact Nat.le_trans (List.length_filter_le _ _) (by simp)
theorem keys_dirty {P : Program} {k : TypeId} {R : Value → Option (DataW Unit × List MemPlace)} {w : World} {b n : Nat} {D : DataW Unit} (hown : w.ownsMap P k R b n D) (K : Keyed P k) (hk : P.underlying k = some (.int .i64)) {wr : List (Option (List Int))} (h : MapOf D wr) {ss : List Int} (hp : ss.Perm (intKeys D)) : ss.mergeSort (fun x y => decide (x ≤ y)) = dirtyL wr := by
  have hc : CollectedI D (fun _ => false) (dirtyL wr) := ⟨(dirtyL_rises wr).imp fun h => by omega, fun x => by
    rw [mem_dirtyL]
    constructor
    · rintro ⟨i, hi, rfl, h2⟩
      exact ⟨by rw [mapOf_has h hi, h2], rfl⟩
    · rintro ⟨h1, _⟩
      obtain ⟨i, hi, rfl⟩ := h.2.1 x h1
      exact ⟨i, hi, rfl, by rw [← mapOf_has h hi]; exact h1⟩⟩
  have hp2 := hc.perm hown K hk (fun _ => rfl)
  have e := mergeSort_of_perm_i (hp.trans hp2.symm)
  show ss.mergeSort leI = _
  rw [e]
  refine List.mergeSort_of_pairwise ((dirtyL_rises wr).imp fun h => ?_)
  simp only [leI, decide_eq_true_eq]
  omega
theorem size_dirty {P : Program} {k : TypeId} {R : Value → Option (DataW Unit × List MemPlace)} {w : World} {b n : Nat} {D : DataW Unit} (hown : w.ownsMap P k R b n D) (K : Keyed P k) (hk : P.underlying k = some (.int .i64)) {wr : List (Option (List Int))} (h : MapOf D wr) : Maps.size D ≤ wr.length := by
  have hl : ∀ ss : List Int, ss.Perm (intKeys D) → ss.length ≤ wr.length := fun ss hp => by
    rw [← List.length_mergeSort (le := fun x y => decide (x ≤ y)) ss, keys_dirty hown K hk h hp]
    exact dirtyL_length_le wr
  obtain ⟨es, rfl⟩ := h.1
  have := hl _ (List.Perm.refl _)
  rwa [intKeys, List.length_map] at this
end Go.Proofs.YtmoebkdbnldbdaaGreatDoor
/-
  Disk: a disk in memory; what asks it, and its power.
-/
namespace Go.Proofs.YtmoebkdbnldbdaaGreatDoor
open Go.RowKit Go.Maps

/-- A disk: what was synced, what was written and isn't synced, whether the power is off, how long it lasts. -/
structure DkS where
  syn : List (List Int)
  wr : List (Option (List Int))
  off : Bool
  lasts : Int
def DkS.cells (z : DkS) : Array Value := (z.syn.flatMap fun r => r.map (Value.int .u8)).toArray
theorem own_tight {w : World} {P : Program} {k : TypeId} {R : Value → Option (DataW Unit × List MemPlace)} {b n : Nat} {D : DataW Unit} (h : w.ownsMap P k R b n D) : w.ownsMap P k R b (Maps.size D) D := by
  obtain ⟨es, clock, hb, F, _, hD⟩ := h
  exact ⟨es, clock, hb, F, by rw [hD, Maps.size_eq, length_read]; exact Nat.le_refl _, hD⟩
/-- The number of operations is told. -/
def armS (z : DkS) (k : Int) : DkS := { z with lasts := if k < -1 then -1 else k }
/-- One operation of the power. -/
def opOk (z : DkS) : Bool := !(z.off || z.lasts == 0)
def opS (z : DkS) : DkS := if z.lasts = 0 then { z with off := true } else if z.off then z else if 0 < z.lasts then { z with lasts := z.lasts - 1 } else z
end Go.Proofs.YtmoebkdbnldbdaaGreatDoor
/-
  Disk: Write.
-/
namespace Go.Proofs.YtmoebkdbnldbdaaGreatDoor
open Go.RowKit Go.Maps

def wrS (z : DkS) (k : Nat) (r : List Int) : DkS := { z with wr := z.wr.set k (some r) }
theorem keyed_i : Keyed Tryz.prog 3 := int_keyed Tryz.underlying3
theorem range_of_blk {w : World} {g : Nat} {t : TypeId} {cs : Array Value} (h : Blk w g t cs) : w.rangeAt g 0 cs.toList := fun j v hv => by
  rw [Nat.zero_add, h.cell, ← Array.getElem?_toList]; exact hv
end Go.Proofs.YtmoebkdbnldbdaaGreatDoor
