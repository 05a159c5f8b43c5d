/-
  Several texts in one: DkP, DkM, DkW, DkC, DkR, DkQ, DkY.
-/
import Derived.Lib.SlKeysI
import Derived.Maps.OwnIn
import Derived.Maps.Views
import Derived.Test.YthkjlgjbjjjohaaGreatDoorBaseA
import Derived.Test.YthkjlgjbjjjohaaGreatDoorGeA
import Derived.Test.YthkjlgjbjjjohaaGreatDoorErrA
import Derived.Deep.MidRow
import Derived.Maps.OwnSet
import Derived.MapFrom
import Derived.Laws.Rows
import Derived.Sort.CutIn
import Derived.Sort.MapsRangeIn
/-
  Disk (pure): a map of sectors by place, and its keys rising.
-/
namespace Go.Proofs.YthkjlgjbjjjohaaGreatDoor
open Go.RowKit Go.Maps

/-- A sector's bytes, as a value and as a datum. -/
def secV (r : List Int) : Value := .agg (r.map (Value.int .u8)).toArray
def secD (r : List Int) : DataW Unit := .agg (r.map fun x => .lit (.int .u8 x))
def u8Of : Value → Option Int
  | .int .u8 x => some x
  | _ => none
def secR (n : Nat) : Value → Option (DataW Unit × List MemPlace)
  | .agg cs => (cs.toList.mapM u8Of).bind fun r => if r.length = n then some (secD r, []) else none
  | _ => none
theorem u8s_mk (r : List Int) : (r.map (Value.int .u8)).mapM u8Of = some r := by
  induction r with
  | nil => rfl
  | cons x r ih => rw [List.map_cons, List.mapM_cons, ih]; rfl
theorem u8s_inv : ∀ {cs : List Value} {r : List Int}, cs.mapM u8Of = some r → cs = r.map (Value.int .u8)
  | [], r, h => by
    rw [List.mapM_nil] at h
    injection h with h
    subst h; rfl
  | c :: cs, r, h => by
    rw [List.mapM_cons] at h
    obtain ⟨x, hx, h⟩ := Option.bind_eq_some_iff.1 h
    obtain ⟨r', hr, h⟩ := Option.bind_eq_some_iff.1 h
    injection h with h
    subst h
    rw [List.map_cons, u8s_inv hr]
    congr 1
    unfold u8Of at hx
    split at hx
    · injection hx with hx; rw [hx]
    · cases hx
theorem secR_mk {n : Nat} {r : List Int} (h : r.length = n) : secR n (secV r) = some (secD r, []) := by
  simp only [secR, secV]
  rw [u8s_mk]
  simp [h]
theorem secR_inv {n : Nat} {v : Value} {z : DataW Unit × List MemPlace} (h : secR n v = some z) : ∃ r, r.length = n ∧ v = secV r ∧ z = (secD r, []) := by
  unfold secR at h
  split at h
  · rename_i cs
    obtain ⟨r, hr, h⟩ := Option.bind_eq_some_iff.1 h
    split at h
    · rename_i hl
      injection h with h
      refine ⟨r, hl, ?_, h.symm⟩
      rw [secV, ← u8s_inv hr]
    · cases h
  · cases h
theorem secD_inj {r s : List Int} (h : secD r = secD s) : r = s := by
  unfold secD at h
  injection h with h
  have hf : (fun x => (DataW.lit (.int .u8 x) : DataW Unit)).Injective := fun a b e => by injection e with e; injection e
  induction r generalizing s with
  | nil => cases s with
    | nil => rfl
    | cons y s => cases h
  | cons x r ih => cases s with
    | nil => cases h
    | cons y s =>
      rw [List.map_cons, List.map_cons] at h
      injection h with h1 h2
      rw [hf h1, ih h2]
/-- What the map holds, place by place. -/
def MapOf (D : DataW Unit) (wr : List (Option (List Int))) : Prop :=
  IsMap D ∧ (∀ x : Int, has D (.int .i64 x) = true → ∃ i : Nat, i < wr.length ∧ x = (i : Int)) ∧
  ∀ i (h : i < wr.length), (wr[i] = none → has D (.int .i64 (i : Int)) = false) ∧ (∀ r, wr[i] = some r → has D (.int .i64 (i : Int)) = true ∧ ∀ z, D.atKey (.int .i64 (i : Int)) z = secD r)
theorem mapOf_empty (n : Nat) : MapOf (.map []) (List.replicate n none) :=
  ⟨⟨_, rfl⟩, fun x h => by simp [has] at h, fun i h => ⟨fun _ => by simp [has], fun r hr => by simp at hr⟩⟩
theorem mapOf_put {D : DataW Unit} {wr : List (Option (List Int))} (h : MapOf D wr) {i : Nat} (hi : i < wr.length) (r : List Int) : MapOf (D.put (.int .i64 (i : Int)) (secD r)) (wr.set i (some r)) := by
  have hk : WideAt.IsKeyLit (.int .i64 (i : Int)) := trivial
  have ne : ∀ {x : Int}, x ≠ (i : Int) → Lit.int .i64 x ≠ .int .i64 (i : Int) := fun hx e => hx (by injection e)
  refine ⟨(by obtain ⟨es, rfl⟩ := h.1; exact ⟨_, rfl⟩), fun x hx => ?_, fun j hj => ?_⟩
  · rw [List.length_set]
    by_cases e : x = (i : Int)
    · exact ⟨i, hi, e⟩
    · rw [has_put_other (ne e)] at hx
      exact h.2.1 x hx
  · rw [List.length_set] at hj
    by_cases e : j = i
    · subst e
      rw [List.getElem_set_self]
      exact ⟨fun h => (by cases h), fun r' hr => by injection hr with hr; subst hr; exact ⟨has_put_same h.1 hk _, fun z => atKey_put_same h.1 hk _ z⟩⟩
    · have e2 : (j : Int) ≠ (i : Int) := fun h => e (by omega)
      rw [List.getElem_set_ne (fun h => e h.symm), has_put_other (ne e2)]
      exact ⟨(h.2.2 j hj).1, fun r' hr => ⟨((h.2.2 j hj).2 r' hr).1, fun z => by rw [atKey_put_other (ne e2)]; exact ((h.2.2 j hj).2 r' hr).2 z⟩⟩
theorem mapOf_has {D : DataW Unit} {wr : List (Option (List Int))} (h : MapOf D wr) {i : Nat} (hi : i < wr.length) : has D (.int .i64 (i : Int)) = wr[i].isSome := by
  cases e : wr[i] with
  | none => rw [(h.2.2 i hi).1 e]; rfl
  | some r => rw [((h.2.2 i hi).2 r e).1]; rfl
/-- The places with something written, rising. -/
def dirtyL (wr : List (Option (List Int))) : List Int := ((List.range wr.length).filter fun i => (wr[i]?.join).isSome).map fun i : Nat => (i : Int)
theorem mem_dirtyL {wr : List (Option (List Int))} {x : Int} : x ∈ dirtyL wr ↔ ∃ i : Nat, ∃ h : i < wr.length, x = (i : Int) ∧ wr[i].isSome = true := by
  unfold dirtyL
  rw [List.mem_map]
  constructor
  · rintro ⟨i, hi, rfl⟩
    obtain ⟨h1, h2⟩ := List.mem_filter.1 hi
    have h1 := List.mem_range.1 h1
    exact ⟨i, h1, rfl, by rwa [List.getElem?_eq_getElem h1] at h2⟩
  · rintro ⟨i, h, rfl, h2⟩
    exact ⟨i, List.mem_filter.2 ⟨List.mem_range.2 h, by rw [List.getElem?_eq_getElem h]; exact h2⟩, rfl⟩
theorem dirtyL_rises (wr : List (Option (List Int))) : (dirtyL wr).Pairwise (· < ·) :=
  List.pairwise_map.2 ((List.pairwise_lt_range.filter _).imp fun h => by omega)
theorem dirtyL_length_le (wr : List (Option (List Int))) : (dirtyL wr).length ≤ wr.length := by
  unfold dirtyL
  rw [List.length_map]
  exact Nat.le_trans (List.length_filter_le _ _) (by simp)
theorem keys_dirty {P : Program} {k : TypeId} {R : Value → Option (DataW Unit × List MemPlace)} {w : World} {b n : Nat} {D : DataW Unit} (hown : w.ownsMap P k R b n D) (K : Keyed P k) (hk : P.underlying k = some (.int .i64)) {wr : List (Option (List Int))} (h : MapOf D wr) {ss : List Int} (hp : ss.Perm (intKeys D)) : ss.mergeSort (fun x y => decide (x ≤ y)) = dirtyL wr := by
  have hc : CollectedI D (fun _ => false) (dirtyL wr) := ⟨(dirtyL_rises wr).imp fun h => by omega, fun x => by
    rw [mem_dirtyL]
    constructor
    · rintro ⟨i, hi, rfl, h2⟩
      exact ⟨by rw [mapOf_has h hi, h2], rfl⟩
    · rintro ⟨h1, _⟩
      obtain ⟨i, hi, rfl⟩ := h.2.1 x h1
      exact ⟨i, hi, rfl, by rw [← mapOf_has h hi]; exact h1⟩⟩
  have hp2 := hc.perm hown K hk (fun _ => rfl)
  have e := mergeSort_of_perm_i (hp.trans hp2.symm)
  show ss.mergeSort leI = _
  rw [e]
  refine List.mergeSort_of_pairwise ((dirtyL_rises wr).imp fun h => ?_)
  simp only [leI, decide_eq_true_eq]
  omega
theorem size_dirty {P : Program} {k : TypeId} {R : Value → Option (DataW Unit × List MemPlace)} {w : World} {b n : Nat} {D : DataW Unit} (hown : w.ownsMap P k R b n D) (K : Keyed P k) (hk : P.underlying k = some (.int .i64)) {wr : List (Option (List Int))} (h : MapOf D wr) : Maps.size D ≤ wr.length := by
  have hl : ∀ ss : List Int, ss.Perm (intKeys D) → ss.length ≤ wr.length := fun ss hp => by
    rw [← List.length_mergeSort (le := fun x y => decide (x ≤ y)) ss, keys_dirty hown K hk h hp]
    exact dirtyL_length_le wr
  obtain ⟨es, rfl⟩ := h.1
  have := hl _ (List.Perm.refl _)
  rwa [intKeys, List.length_map] at this
end Go.Proofs.YthkjlgjbjjjohaaGreatDoor
/-
  Disk: a disk in memory; what asks it, and its power.
-/
namespace Go.Proofs.YthkjlgjbjjjohaaGreatDoor
open Go.RowKit Go.Maps

/-- A disk: what was synced, what was written and isn't synced, whether the power is off, how long it lasts. -/
structure DkS where
  syn : List (List Int)
  wr : List (Option (List Int))
  off : Bool
  lasts : Int
def DkS.cells (z : DkS) : Array Value := (z.syn.flatMap fun r => r.map (Value.int .u8)).toArray
/-- A disk at d: its sectors in block b, its map in block m. -/
def DkIs (w : World) (d b m : Nat) (z : DkS) : Prop :=
  Blk w d 87 #[.slice (some ⟨b, 0, none⟩) z.syn.length z.syn.length, .map (some m), .bool z.off, .int .i64 z.lasts] ∧
  Blk w b 105 z.cells ∧ (∃ D, w.ownsMap Tryz.prog 3 (secR 64) m 5000 D ∧ MapOf D z.wr) ∧
  z.wr.length = z.syn.length ∧ (∀ r ∈ z.syn, r.length = 64) ∧ (1 ≤ z.syn.length ∧ z.syn.length ≤ 4096) ∧ (-1 ≤ z.lasts ∧ z.lasts < 9223372036854775808) ∧ (d ≠ b ∧ d ≠ m ∧ b ≠ m)
theorem own_tight {w : World} {P : Program} {k : TypeId} {R : Value → Option (DataW Unit × List MemPlace)} {b n : Nat} {D : DataW Unit} (h : w.ownsMap P k R b n D) : w.ownsMap P k R b (Maps.size D) D := by
  obtain ⟨es, clock, hb, F, _, hD⟩ := h
  exact ⟨es, clock, hb, F, by rw [hD, Maps.size_eq, length_read]; exact Nat.le_refl _, hD⟩
theorem DkIs.kept {w w' : World} {d b m : Nat} {z : DkS} {F : Nat → Prop} (h : DkIs w d b m z) (hk : Kept F w w') (hF : ¬ F d ∧ ¬ F b ∧ ¬ F m) : DkIs w' d b m z := by
  obtain ⟨h1, h2, ⟨D, h3, h4⟩, h5⟩ := h
  refine ⟨h1.kept hk hF.1, h2.kept hk hF.2.1, ⟨D, ?_, h4⟩, h5⟩
  have hlt := h3.lt
  obtain ⟨es, clock, hb, F2, hs, hD⟩ := h3
  exact ⟨es, clock, (hk.block m hlt hF.2.2).trans hb, F2, hs, hD⟩
theorem DkIs.grown {w w' : World} {d b m : Nat} {z : DkS} (h : DkIs w d b m z) (hg : w.grownBy w' none) : DkIs w' d b m z :=
  h.kept (Kept.of_grown (F := fun _ => False) hg fun _ e => by cases e) ⟨fun h => h, fun h => h, fun h => h⟩
/-- One of the disk's own cells is written. -/
theorem DkIs.turn {w : World} {d b m : Nat} {z y : DkS} (h : DkIs w d b m z) {i : Nat} {u : Value} (hs : y.syn = z.syn) (hw : y.wr = z.wr) (hl : -1 ≤ y.lasts ∧ y.lasts < 9223372036854775808)
    (hc : #[.slice (some ⟨b, 0, none⟩) z.syn.length z.syn.length, .map (some m), .bool z.off, .int .i64 z.lasts].setIfInBounds i u = #[.slice (some ⟨b, 0, none⟩) y.syn.length y.syn.length, .map (some m), .bool y.off, .int .i64 y.lasts]) : DkIs (w.setCell ⟨d, i, none⟩ u) d b m y := by
  have hk : Kept (fun j => j = d) w (w.setCell ⟨d, i, none⟩ u) := (Kept.refl (fun j => j = d) w).set (p := ⟨d, i, none⟩) (.inl rfl) _
  obtain ⟨h1, h2, ⟨D, h3, h4⟩, h5, h6, h7, _, h8⟩ := h
  have hlt := h3.lt
  refine ⟨by rw [← hc]; exact h1.set i u, ?_, ⟨D, ?_, by rw [hw]; exact h4⟩, by rw [hw, hs]; exact h5, by rw [hs]; exact h6, by rw [hs]; exact h7, hl, h8⟩
  · rw [DkS.cells, hs]; exact h2.kept hk (fun e => h8.1 e.symm)
  · obtain ⟨es, clock, hb, F2, hs, hD⟩ := h3
    exact ⟨es, clock, (hk.block m hlt (fun e => h8.2.1 e.symm)).trans hb, F2, hs, hD⟩

theorem dk_size (w : World) (d b m : Nat) (z : DkS) (h : DkIs w d b m z) : Calls Tryz.prog 79 #[.pointer (some ⟨d, 0, none⟩)] w fun e w' => e = .returned (.int .i64 (z.syn.length : Int)) ∧ w' = w := by
  have c0 := h.1.cell 0
  simp only [List.getElem?_toArray, List.getElem?_cons_zero] at c0
  clear h
  go_enter Tryz.func79, Tryz.ntmps79
  go_wp2_with fail
  go_ret
  exact ⟨rfl, rfl⟩
theorem dk_off (w : World) (d b m : Nat) (z : DkS) (h : DkIs w d b m z) : Calls Tryz.prog 10 #[.pointer (some ⟨d, 0, none⟩)] w fun e w' => e = .returned (.bool z.off) ∧ w' = w := by
  have c2 := h.1.cell 2
  simp only [List.getElem?_toArray, List.getElem?_cons_zero, List.getElem?_cons_succ] at c2
  clear h
  go_enter Tryz.func10, Tryz.ntmps10
  go_wp2_with fail
  go_ret
  exact ⟨rfl, rfl⟩
theorem dk_has (w : World) (d b m : Nat) (z : DkS) (h : DkIs w d b m z) (i : Int) : Calls Tryz.prog 80 #[.pointer (some ⟨d, 0, none⟩), .int .i64 i] w fun e w' => e = .returned (.bool (decide (0 ≤ i ∧ i < (z.syn.length : Int)))) ∧ w' = w := by
  have c0 := h.1.cell 0
  simp only [List.getElem?_toArray, List.getElem?_cons_zero] at c0
  clear h
  obtain ⟨n, hn⟩ : ∃ n, z.syn.length = n := ⟨_, rfl⟩
  rw [hn] at c0 ⊢
  clear hn
  by_cases h0 : 0 ≤ i
  · have d0 : decide (0 ≤ i) = true := by simpa using h0
    have hr : decide (0 ≤ i ∧ i < (n : Int)) = decide (i < (n : Int)) := by simp [h0]
    rw [hr]
    clear h0 hr
    go_enter Tryz.func80, Tryz.ntmps80
    go_wp2_with fail
    go_ret
    exact ⟨rfl, rfl⟩
  · have d0 : decide (0 ≤ i) = false := by simpa using h0
    have hr : decide (0 ≤ i ∧ i < (n : Int)) = false := by simp [h0]
    rw [hr]
    clear h0 hr
    go_enter Tryz.func80, Tryz.ntmps80
    go_wp2_with fail
    go_ret
    exact ⟨rfl, rfl⟩
/-- The number of operations is told. -/
def armS (z : DkS) (k : Int) : DkS := { z with lasts := if k < -1 then -1 else k }
theorem dk_arm (w : World) (d b m : Nat) (z : DkS) (h : DkIs w d b m z) (k : Int) (hk : k < 9223372036854775808) : Calls Tryz.prog 11 #[.pointer (some ⟨d, 0, none⟩), .int .i64 k] w fun e w' => e = .returned (.tuple #[]) ∧ DkIs w' d b m (armS z k) ∧ Kept (fun j => j = d) w w' := by
  have c3 := h.1.cell 3
  have f3 := h.1.frozen 3
  simp only [List.getElem?_toArray, List.getElem?_cons_zero, List.getElem?_cons_succ] at c3
  have hfin : DkIs (w.setCell ⟨d, 3, none⟩ (.int .i64 (if k < -1 then -1 else k))) d b m (armS z k) := h.turn (y := armS z k) rfl rfl (by simp only [armS]; split <;> omega) (by simp [armS])
  have HF := Lib.hid (And.intro hfin (show Kept (fun j => j = d) w (w.setCell ⟨d, 3, none⟩ (.int .i64 (if k < -1 then -1 else k))) from (Kept.refl (fun j => j = d) w).set (p := ⟨d, 3, none⟩) (.inl rfl) _))
  clear hfin h
  by_cases h1 : k < -1
  · rw [if_pos h1] at HF
    have d1 : decide (k < -1) = true := by simpa using h1
    go_enter Tryz.func11, Tryz.ntmps11
    go_wp2_with fail
    exact ⟨rfl, _, results_none rfl _ _ _, rfl, HF.out⟩
  · rw [if_neg h1] at HF
    have d1 : decide (k < -1) = false := by simpa using h1
    go_enter Tryz.func11, Tryz.ntmps11
    go_wp2_with fail
    exact ⟨rfl, _, results_none rfl _ _ _, rfl, HF.out⟩
/-- One operation of the power. -/
def opOk (z : DkS) : Bool := !(z.off || z.lasts == 0)
def opS (z : DkS) : DkS := if z.lasts = 0 then { z with off := true } else if z.off then z else if 0 < z.lasts then { z with lasts := z.lasts - 1 } else z
theorem dk_operate (w : World) (d b m B : Nat) (z : DkS) (ep : Addr) (h : DkIs w d b m z) (hB : B ≤ d) (he : ErrAt w B 6 ep) : Calls Tryz.prog 81 #[.pointer (some ⟨d, 0, none⟩)] w fun e w' => e = .returned (if opOk z then .nilIface else errV ep) ∧ DkIs w' d b m (opS z) ∧ Kept (fun j => j = d) w w' := by
  have c3 := h.1.cell 3
  have f3 := h.1.frozen 3
  have c2 := h.1.cell 2
  have f2 := h.1.frozen 2
  have er0 := he.1
  have hkb := he.2
  simp only [List.getElem?_toArray, List.getElem?_cons_zero, List.getElem?_cons_succ] at c3 c2
  have hlb := h.2.2.2.2.2.2.1
  by_cases h0 : z.lasts = 0
  · have e1 : opOk z = false := by simp [opOk, h0]
    have e2 : opS z = { z with off := true } := by simp [opS, h0]
    have hfin : DkIs (w.setCell ⟨d, 2, none⟩ (.bool true)) d b m { z with off := true } := h.turn (y := { z with off := true }) rfl rfl hlb (by simp)
    have er1 : (w.setCell ⟨d, 2, none⟩ (.bool true)).cell? ⟨6, 0, none⟩ = some (errV ep) := (he.below (B' := B) (((Kept.refl (fun j => j = d) w).set (p := ⟨d, 2, none⟩) (.inl rfl) _).below (by have := h.1.lt; omega) (fun k e => by have e : k = d := e; omega)) (Nat.le_refl _)).1
    have c2' := (h.1.set 2 (.bool true)).cell 2
    simp only [List.setIfInBounds_toArray, List.set_cons_succ, List.set_cons_zero, List.getElem?_toArray, List.getElem?_cons_zero, List.getElem?_cons_succ] at c2'
    rw [h0] at c3
    rw [e1, e2]
    have HF := Lib.hid (And.intro hfin (show Kept (fun j => j = d) w (w.setCell ⟨d, 2, none⟩ (.bool true)) from (Kept.refl (fun j => j = d) w).set (p := ⟨d, 2, none⟩) (.inl rfl) _))
    clear hfin h he h0 e1 e2 er0 hkb hlb hB
    go_enter Tryz.func81, Tryz.ntmps81
    go_wp2_with fail
    go_ret
    exact ⟨rfl, HF.out⟩
  have d0 : (z.lasts == 0) = false := by simpa using h0
  obtain ⟨L, hL⟩ : ∃ L, z.lasts = L := ⟨_, rfl⟩
  cases ho : z.off with
  | true =>
    have e1 : opOk z = false := by simp [opOk, ho]
    have e2 : opS z = z := by simp [opS, h0, ho]
    rw [ho] at c2
    rw [e1, e2]
    rw [hL] at c3 d0
    have HF := Lib.hid h
    clear h he h0 e1 e2 hkb hlb hB ho hL
    go_enter Tryz.func81, Tryz.ntmps81
    go_wp2_with fail
    go_ret
    exact ⟨rfl, HF.out, Kept.refl _ _⟩
  | false =>
    have e1 : opOk z = true := by simp [opOk, ho, h0]
    rw [ho] at c2
    rw [e1]
    by_cases h1 : 0 < z.lasts
    · have e2 : opS z = { z with lasts := z.lasts - 1 } := by simp [opS, h0, ho, h1]
      have hfin : DkIs (w.setCell ⟨d, 3, none⟩ (.int .i64 (z.lasts - 1))) d b m { z with lasts := z.lasts - 1 } := h.turn (y := { z with lasts := z.lasts - 1 }) rfl rfl (by simp only; omega) (by simp)
      have HF := Lib.hid (And.intro hfin (show Kept (fun j => j = d) w (w.setCell ⟨d, 3, none⟩ (.int .i64 (z.lasts - 1))) from (Kept.refl (fun j => j = d) w).set (p := ⟨d, 3, none⟩) (.inl rfl) _))
      have d1 : decide (0 < L) = true := by rw [← hL]; simpa using h1
      have hb : 0 < L ∧ L < 9223372036854775808 := by omega
      rw [e2]
      rw [hL] at c3 d0 HF
      rw [hL]
      clear hfin h he h0 e2 e1 er0 hkb hlb hB ho hL h1
      go_enter Tryz.func81, Tryz.ntmps81
      go_wp2_with fail
      go_ret
      exact ⟨rfl, HF.out⟩
    · have e2 : opS z = z := by simp [opS, h0, ho, h1]
      have d1 : decide (0 < L) = false := by rw [← hL]; simpa using h1
      rw [e2]
      rw [hL] at c3 d0
      have HF := Lib.hid h
      clear h he h0 e2 e1 er0 hkb hlb hB ho hL h1
      go_enter Tryz.func81, Tryz.ntmps81
      go_wp2_with fail
      go_ret
      exact ⟨rfl, HF.out, Kept.refl _ _⟩
end Go.Proofs.YthkjlgjbjjjohaaGreatDoor
/-
  Disk: Write.
-/
namespace Go.Proofs.YthkjlgjbjjjohaaGreatDoor
open Go.RowKit Go.Maps

def wrS (z : DkS) (k : Nat) (r : List Int) : DkS := { z with wr := z.wr.set k (some r) }
theorem keyed_i : Keyed Tryz.prog 3 := int_keyed Tryz.underlying3
theorem range_of_blk {w : World} {g : Nat} {t : TypeId} {cs : Array Value} (h : Blk w g t cs) : w.rangeAt g 0 cs.toList := fun j v hv => by
  rw [Nat.zero_add, h.cell, ← Array.getElem?_toList]; exact hv
/-- A write into the map. -/
theorem dk_put (w : World) (d b m : Nat) (z : DkS) (h : DkIs w d b m z) (k : Nat) (hk : k < z.syn.length) (r : List Int) (hr : r.length = 64) : ∃ w', (Instr.mapUpdate 85 (.map (some m)) (.int .i64 (k : Int)) (secV r)).run Tryz.prog w = .ok () w' ∧ DkIs w' d b m (wrS z k r) ∧ Kept (fun j => j = m) w w' := by
  obtain ⟨h1, h2, ⟨D, h3, h4⟩, h5, h6, h7, h8, h9⟩ := h
  have hw : (Lit.int .i64 (k : Int)).wf = true := WalkArith.wf_i64 (by omega)
  have ht := own_tight h3
  have hsz := size_dirty h3 keyed_i Tryz.underlying3 h4
  obtain ⟨w', hrun, hown, hturn⟩ := ht.store keyed_i Tryz.underlying85 (by unfold maxLen; omega) (keyOf_int_mk Tryz.underlying3 hw) (secR_mk hr)
  have hkk : Kept (fun j => j = m) w w' := Kept.of_grown (F := fun j => j = m) hturn.grown (fun j e => (Option.some.inj e).symm)
  refine ⟨w', hrun, ⟨h1.kept hkk (fun e => h9.2.1 e), h2.kept hkk (fun e => h9.2.2 e), ⟨_, hown.mono (by omega), mapOf_put h4 (by omega) r⟩, by simp [wrS, h5], h6, h7, h8, h9⟩, hkk⟩
set_option maxRecDepth 100000 in
set_option maxHeartbeats 1000000 in
theorem dk_write (w : World) (d b m B : Nat) (z : DkS) (h : DkIs w d b m z) (i : Int) (r : List Int) (hr : r.length = 64) (er ep : Addr) (hB : B ≤ d) (hBm : B ≤ m) (her : ErrAt w B 0 er) (hep : ErrAt w B 6 ep) :
    Calls Tryz.prog 41 #[.pointer (some ⟨d, 0, none⟩), .int .i64 i, secV r] w fun e w' => Kept (fun j => j = d ∨ j = m) w w' ∧
      ((¬ (0 ≤ i ∧ i < (z.syn.length : Int)) ∧ e = .returned (errV er) ∧ DkIs w' d b m z) ∨
       (∃ k : Nat, i = (k : Int) ∧ k < z.syn.length ∧ ((opOk z = false ∧ e = .returned (errV ep) ∧ DkIs w' d b m (opS z)) ∨ (opOk z = true ∧ e = .returned .nilIface ∧ DkIs w' d b m (wrS (opS z) k r))))) := by
  obtain ⟨cs, hcs⟩ : ∃ cs, (r.map (Value.int .u8)).toArray = cs := ⟨_, rfl⟩
  have hsz : cs.size = 64 := by rw [← hcs]; simpa using hr
  have hsec : secV r = .agg cs := by rw [secV, hcs]
  obtain ⟨w0, hw0⟩ : ∃ w0, w.alloc (.cells cs 105) = w0 := ⟨_, rfl⟩
  have g0 : w.grownBy w0 none := by rw [← hw0]; exact World.grownBy_alloc _ _ none
  have b0 : Blk w0 w.heap.size 105 cs := by rw [← hw0]; exact Blk.new _ _ _
  have HS := Lib.hid (And.intro hsz (And.intro hsec (And.intro (h.grown g0) (And.intro g0 (And.intro b0 (And.intro hr (And.intro hB (And.intro hBm (And.intro (her.grown g0 (by simp)) (And.intro (hep.grown g0 (by simp)) (And.intro h.1.lt (by obtain ⟨D, hD, _⟩ := h.2.2.1; exact hD.lt))))))))))))
  have er0 := (her.grown g0 (by simp)).1
  have HH := Lib.hid (dk_has w0 d b m z (h.grown g0) i)
  rw [hsec]
  clear hcs hsec h her hep hr hB hBm g0 b0
  go_enter Tryz.func41, Tryz.ntmps41
  go_wp2_with fail
  (try rw [hw0])
  refine HH.out.mono ?_
  rintro e w1 ⟨rfl, hw1⟩
  obtain rfl : w0 = w1 := hw1.symm
  by_cases hi : 0 ≤ i ∧ i < (z.syn.length : Int)
  · obtain ⟨k, rfl⟩ : ∃ k : Nat, i = (k : Int) := ⟨i.toNat, by omega⟩
    have hk : k < z.syn.length := by omega
    have d1 : decide (0 ≤ (k : Int) ∧ (k : Int) < (z.syn.length : Int)) = true := by simp; omega
    rw [d1]
    have HI := Lib.hid hk
    have HOP := Lib.hid (dk_operate w0 d b m B z ep HS.out.2.2.1 HS.out.2.2.2.2.2.2.1 HS.out.2.2.2.2.2.2.2.2.2.1)
    clear d1 hi hk er0
    go_wp2_with fail
    refine HOP.out.mono ?_
    rintro e w2 ⟨rfl, h2, k2⟩
    have hk02 : Kept (fun j => j = d ∨ j = m) w w2 := (Kept.of_grown (F := fun j => j = d ∨ j = m) HS.out.2.2.2.1 (fun _ e => by cases e)).next k2 (fun j _ h => .inl h)
    cases ho : opOk z with
    | false =>
      have HF := Lib.hid (And.intro hk02 h2)
      clear hk02 h2 k2
      simp only [Bool.false_eq_true, if_false]
      go_wp2_with fail
      go_ret
      exact ⟨HF.out.1, .inr ⟨k, rfl, HI.out, .inl ⟨ho, rfl, HF.out.2⟩⟩⟩
    | true =>
      have hb2 : Blk w2 w.heap.size 105 cs := HS.out.2.2.2.2.1.kept k2 (fun e => by have e : w.heap.size = d := e; have := HS.out.2.2.2.2.2.2.2.2.2.2.1; omega)
      have g0 := grown_drew (World.grownBy.refl w2 none)
      obtain ⟨V2, hV2⟩ : ∃ V2, w2.drew = V2 := ⟨_, rfl⟩
      rw [hV2] at g0
      have hV := h2.grown g0
      have hsl : (opS z).syn = z.syn := by unfold opS; split <;> (try split) <;> (try split) <;> rfl
      obtain ⟨w3, hmu, h3, k3⟩ := dk_put V2 d b m (opS z) hV k (by rw [hsl]; exact HI.out) r HS.out.2.2.2.2.2.1
      rw [HS.out.2.1] at hmu
      have hbV := hb2.grown g0 (by simp)
      have hb3 := hbV.kept k3 (fun e => by have e : w.heap.size = m := e; have := HS.out.2.2.2.2.2.2.2.2.2.2.2; omega)
      have hs : ∀ Y, DkIs Y d b m (opS z) → Blk Y w.heap.size 105 cs → Y.cell? ⟨d, 1, none⟩ = some (.map (some m)) ∧ Y.rangeAt w.heap.size 0 cs.toList := fun Y h1 h2 => ⟨h1.1.cell 1, range_of_blk h2⟩
      have hS2 := hs V2 hV hbV
      have HM3 := Lib.hid (And.intro (show w3.cell? ⟨d, 1, none⟩ = some (.map (some m)) ∧ w3.rangeAt w.heap.size 0 cs.toList from ⟨h3.1.cell 1, range_of_blk hb3⟩) (And.intro h3 ((hk02.next (Kept.of_grown (F := fun _ => False) g0 fun _ e => by cases e) (fun _ _ h => h.elim)).next k3 (fun j _ h => .inr h))))
      have HS2 := Lib.hid hS2
      clear hs hS2 h3 k3 hb3 hbV hsl hV g0 hb2 hk02 h2 k2
      simp only [if_true]
      go_wp2_with fail
      refine wp_region_held_drew (S := fun Y => Y.cell? ⟨d, 1, none⟩ = some (.map (some m)) ∧ Y.rangeAt w.heap.size 0 cs.toList) (by kernel_rfl) (by rw [hV2]; exact HS2.out) (fun hHeld => ?_)
      rw [hV2] at hHeld ⊢
      refine wpAnyH_take (i := 0) (oi := _) (v := ?vw0) rfl (by kernel_rfl) (by kernel_rfl) (by kernel_rfl) (fun _ _ _ h => h) (Or.inl ⟨by rfl, ?hyw0⟩) (by assumption) ?restw0
      case hyw0 => (intro V hSw; (try dsimp only at hSw); go_simp) <;> with_reducible rfl
      try simp only [Act.put, List.getElem_toArray, List.getElem_cons_succ, List.getElem_cons_zero, List.setIfInBounds_toArray, List.set_cons_zero, List.set_cons_succ]
      refine wpAnyH_take (i := 1) (oi := _) (v := ?vw1) rfl (by kernel_rfl) (by kernel_rfl) (by kernel_rfl) (fun _ _ _ h => h) (Or.inl ⟨by rfl, ?hyw1⟩) (by assumption) ?restw1
      case hyw1 => (intro V hSw; (try dsimp only at hSw); go_simp) <;> with_reducible rfl
      try simp only [Act.put, List.getElem_toArray, List.getElem_cons_succ, List.getElem_cons_zero, List.setIfInBounds_toArray, List.set_cons_zero, List.set_cons_succ]
      refine wpAnyH_take (i := 2) (oi := _) (v := ?vw2) rfl (by kernel_rfl) (by kernel_rfl) (by kernel_rfl) (fun _ _ _ h => h) (Or.inl ⟨by rfl, ?hyw2⟩) (by assumption) ?restw2
      case hyw2 => (intro V hSw; (try dsimp only at hSw); go_simp) <;> with_reducible rfl
      try simp only [Act.put, List.getElem_toArray, List.getElem_cons_succ, List.getElem_cons_zero, List.setIfInBounds_toArray, List.set_cons_zero, List.set_cons_succ]
      refine wpAnyH_take (i := 3) (oi := _) (v := ?vw3) rfl (by kernel_rfl) (by kernel_rfl) (by kernel_rfl) (fun _ _ _ h => h) (Or.inl ⟨by rfl, ?hyw3⟩) (by assumption) ?restw3
      case hyw3 => (intro V hSw; (try dsimp only at hSw); go_simp) <;> with_reducible rfl
      try simp only [Act.put, List.getElem_toArray, List.getElem_cons_succ, List.getElem_cons_zero, List.setIfInBounds_toArray, List.set_cons_zero, List.set_cons_succ]
      refine wpAnyH_take (i := 4) (oi := _) (v := ?vw4) rfl (by kernel_rfl) (by kernel_rfl) (by kernel_rfl) (fun _ _ _ h => h) (Or.inl ⟨by rfl, ?hyw4⟩) (by assumption) ?restw4
      case hyw4 => (intro V hSw; (try dsimp only at hSw); go_simp) <;> with_reducible rfl
      try simp only [Act.put, List.getElem_toArray, List.getElem_cons_succ, List.getElem_cons_zero, List.setIfInBounds_toArray, List.set_cons_zero, List.set_cons_succ]
      refine wpAnyH_take (i := 5) (oi := _) (v := .agg cs) rfl (by kernel_rfl) (by kernel_rfl) (by kernel_rfl) (fun _ _ _ h => h) (yieldsIf_load_mid (by rfl) _ _ rfl w.heap.size 0 rfl cs.toList _ (fun V hSw => hSw.2) Tryz.underlying105 rfl (by rw [Array.length_toList, HS.out.1]; kernel_rfl)) (by assumption) ?restw5
      try simp only [Act.put, List.getElem_toArray, List.getElem_cons_succ, List.getElem_cons_zero, List.setIfInBounds_toArray, List.set_cons_zero, List.set_cons_succ]
      refine wpAnyH_ready (rs := [6]) (by kernel_rfl) (by simp) ?_
      refine (AllReadyH.cons (o := _) rfl (fun K9 hK => ?_) AllReadyH.nil)
      go_simp
      refine hK.out _ _ (HM3.out.1) (fun hHeld => ?_)
      clear hK K9
      try simp only [Act.put, List.getElem_toArray, List.getElem_cons_succ, List.getElem_cons_zero, List.setIfInBounds_toArray, List.set_cons_zero, List.set_cons_succ]
      refine wpAnyH_done (by kernel_rfl) ?_ _
      go_wp2_with fail
      go_ret
      exact ⟨HM3.out.2.2, .inr ⟨k, rfl, HI.out, .inr ⟨ho, rfl, HM3.out.2.1⟩⟩⟩
  · have d1 : decide (0 ≤ i ∧ i < (z.syn.length : Int)) = false := by simpa using hi
    rw [d1]
    have HI := Lib.hid hi
    clear d1 hi
    go_wp2_with fail
    go_ret
    exact ⟨Kept.of_grown (F := fun j => j = d ∨ j = m) HS.out.2.2.2.1 (fun _ e => by cases e), .inl ⟨HI.out, rfl, HS.out.2.2.1⟩⟩
end Go.Proofs.YthkjlgjbjjjohaaGreatDoor
/-
  Disk: a map is cleared.
-/
namespace Go.Proofs.YthkjlgjbjjjohaaGreatDoor
open Go.RowKit Go.Maps Go.ChangeMaps Go.MapKept

theorem clear_own {P : Program} {w : World} {t k e : TypeId} {R : Value → Option (DataW Unit × List MemPlace)} {b n : Nat} {D : DataW Unit} (h : w.ownsMap P k R b n D) (ht : P.underlying t = some (.map k e)) (ty : TypeId) :
    ∃ w', (Builtin.clear_ #[t] ty #[.map (some b)]).run P w = .ok (.tuple #[]) w' ∧ w'.ownsMap P k R b 0 (.map []) ∧ w.mapTurned w' b := by
  obtain ⟨es, clock, hb, F, hs, rfl⟩ := h
  refine ⟨setBlock w b (.map #[] clock), ?_, ⟨#[], clock, heap_setBlock_same hb _, ⟨by simp, stamped_empty clock, by simp⟩, Nat.le_refl _, rfl⟩, ⟨es, clock, #[], clock, hb, rfl⟩⟩
  simp [Builtin.clear_, run_underlying ht, MapKept.run_getObj_map hb, MapKept.run_setObj_map _ hb, Result.andThen, setBlock]
theorem results_sec_tmp {fn : Func} {s u : Tmp} {ty : TypeId} (h : fn.results = #[.cell s ty, .tmp u]) (tmps : Array Value) {P : Program} (w : World) (a : Addr) (v : Value) (ha : tmps.getD s undef = .pointer (some a)) (hv : (loadVar ty a).run P w = .ok v w) :
    (results fn tmps).run P w = .ok (.tuple #[v, tmps.getD u undef]) w := by
  have ha2 : tmps[s]?.getD undef = .pointer (some a) := by simpa using ha
  simp [results, h, ha2, asAddr, hv, Result.andThen]
end Go.Proofs.YthkjlgjbjjjohaaGreatDoor
/-
  Disk: Read.
-/
namespace Go.Proofs.YthkjlgjbjjjohaaGreatDoor
open Go.RowKit Go.Maps

theorem zero_sec {P : Program} {t : TypeId} {v : Value} (w : World) (h : (P.info? t).bind (·.zero) = some v) : Sem.run P (zeroValue t) w = .ok v w := by
  cases hq : P.info? t with
  | none => simp [hq] at h
  | some i =>
    have h1 : i.zero = some v := by simpa [hq] using h
    simp [zeroValue, typeInfo, hq, h1]
theorem ready_store_row {P : Program} {ops : Array Oper} {o : Oper} {a : Act} {w : World} {K : Act → World → Prop} {Q : Exit → Act → World → Prop} (hw : Region.wanted o (yielded ops a.tmps) = true) (ty : TypeId) (x y : Operand) (ho : o.op = .store ty x y)
    (g : Nat) (cells : Array Value) (hx : a.eval x = .pointer (some ⟨g, 0, none⟩)) (hy : a.eval y = .agg cells)
    (t : TypeId) (old : Array Value) (hg : w.heap[g]? = some (.cells old t (0, 0))) (hi : (P.info? ty).map (·.size) = some cells.size)
    (hold : old.size = cells.size) (h1 : cells.all (·.oneCell') = true)
    (h : K (a.put o.dst undef) (w.setRow g cells)) : if Region.wanted o (yielded ops a.tmps) = true then Oper.wp P o a w K Q else K (a.put o.dst undef) w := by
  rw [if_pos hw]
  unfold Oper.wp execOp
  simp only [ho, hx, hy, Instr.storeAt, Instr.sureAddr, Sem.run_bind, Sem.run_pure, Result.andThen_ok, run_storeVar_row w g t ty old cells hg hi hold h1]
  exact h
def zeroR : List Int := List.replicate 64 0
theorem sec_val {v : Value} {y : DataW Unit} {ps : List MemPlace} (h : secR 64 v = some (y, ps)) : ∃ r : List Int, r.length = 64 ∧ ∃ cs, v = .agg cs ∧ cs = (r.map (Value.int .u8)).toArray ∧ cs.size = 64 ∧ cs.all (·.oneCell') = true ∧ y = secD r := by
  obtain ⟨r, hr, rfl, he⟩ := secR_inv h
  refine ⟨r, hr, _, rfl, rfl, by simpa using hr, by simp [Array.all_eq_true_iff_forall_mem, Value.oneCell'], (Prod.mk.inj he).1⟩
theorem flat64 : ∀ (ls : List (List Int)), (∀ r ∈ ls, r.length = 64) → ∀ (k : Nat) (hk : k < ls.length) (j : Nat) (v : Value), (ls[k].map (Value.int .u8))[j]? = some v → (ls.flatMap fun r => r.map (Value.int .u8))[k * 64 + j]? = some v
  | a :: ls, hr, 0, _, j, v, hj => by
    have hj2 : j < (a.map (Value.int .u8)).length := (List.getElem?_eq_some_iff.1 hj).1
    rw [List.flatMap_cons, Nat.zero_mul, Nat.zero_add, List.getElem?_append_left hj2]
    exact hj
  | a :: ls, hr, k + 1, hk, j, v, hj => by
    have ha : (a.map (Value.int .u8)).length = 64 := by simpa using hr a List.mem_cons_self
    rw [List.flatMap_cons, List.getElem?_append_right (by omega), ha, show (k + 1) * 64 + j - 64 = k * 64 + j by omega]
    exact flat64 ls (fun r h => hr r (List.mem_cons_of_mem _ h)) k (by simpa using hk) j v hj
def readS (z : DkS) (k : Nat) : List Int := (z.wr[k]?.join).getD (z.syn.getD k [])
set_option maxRecDepth 100000 in
set_option maxHeartbeats 1000000 in
theorem dk_read (w : World) (d b m B : Nat) (z : DkS) (h : DkIs w d b m z) (i : Int) (er ep : Addr) (her : ErrAt w B 0 er) (hep : ErrAt w B 6 ep) :
    Calls Tryz.prog 71 #[.pointer (some ⟨d, 0, none⟩), .int .i64 i] w fun e w' => w.grownBy w' none ∧
      ((¬ (0 ≤ i ∧ i < (z.syn.length : Int)) ∧ e = .returned (.tuple #[secV zeroR, errV er])) ∨
       (∃ k : Nat, i = (k : Int) ∧ k < z.syn.length ∧ ((z.off = true ∧ e = .returned (.tuple #[secV zeroR, errV ep])) ∨ (z.off = false ∧ e = .returned (.tuple #[secV (readS z k), .nilIface]))))) := by
  obtain ⟨zs, hzs⟩ : ∃ zs : Array Value, zs = (zeroR.map (Value.int .u8)).toArray := ⟨_, rfl⟩
  have hz : ∀ w, Sem.run Tryz.prog (zeroValue 105) w = .ok (.agg zs) w := fun w => by rw [hzs]; exact zero_sec w (by kernel_rfl)
  have hzz : zs.size = 64 := by rw [hzs]; simp [zeroR]
  have hone : zs.all (·.oneCell') = true := by rw [hzs]; kernel_rfl
  have hsec : secV zeroR = .agg zs := by rw [secV, hzs]
  obtain ⟨w0, hw0⟩ : ∃ w0, w.alloc (.cells zs 105) = w0 := ⟨_, rfl⟩
  have g0 : w.grownBy w0 none := by rw [← hw0]; exact World.grownBy_alloc _ _ none
  have b0 : Blk w0 w.heap.size 105 zs := by rw [← hw0]; exact Blk.new _ _ _
  have HS := Lib.hid (And.intro hzz (And.intro hsec (And.intro (h.grown g0) (And.intro g0 (And.intro b0 (And.intro (her.grown g0 (by simp)) (And.intro (hep.grown g0 (by simp)) hone)))))))
  have HH := Lib.hid (dk_has w0 d b m z (h.grown g0) i)
  rw [hsec]
  clear hzs hsec hone h her hep g0 b0
  refine (callsIn_wide (n := 6)).1 ?_
  refine callsIn_of_wp Tryz.func71 rfl trivial ?_ rfl
  simp only [Tryz.ntmps71, List.size_toArray, List.length_cons, List.length_nil, Nat.reduceAdd, Nat.reduceSub, Array.replicate_succ, Array.replicate_zero, List.push_toArray, List.append_toArray, List.nil_append, List.cons_append]
  gi_wp2
  (try rw [hw0])
  refine ⟨trivial, ?_⟩
  refine (callsIn_wide.2 HH.out).mono ?_
  rintro e w1 ⟨rfl, hw1⟩
  obtain rfl : w0 = w1 := hw1.symm
  by_cases hi : 0 ≤ i ∧ i < (z.syn.length : Int)
  · obtain ⟨k, rfl⟩ : ∃ k : Nat, i = (k : Int) := ⟨i.toNat, by omega⟩
    have hk : k < z.syn.length := by omega
    have d1 : decide (0 ≤ (k : Int) ∧ (k : Int) < (z.syn.length : Int)) = true := by simp; omega
    rw [d1]
    have HI := Lib.hid hk
    clear d1 hi hk
    have c2 := HS.out.2.2.1.1.cell 2
    have c1 := HS.out.2.2.1.1.cell 1
    have c0 := HS.out.2.2.1.1.cell 0
    simp only [List.getElem?_toArray, List.getElem?_cons_zero, List.getElem?_cons_succ] at c2 c1 c0
    cases ho : z.off with
    | true =>
        rw [ho] at c2
        gi_upto_region 4 with fail
        rename_i K8 hK8
        refine wpIn_mono (Q := fun e a' w' => e = .normal ∧ K8 a' w') ?regf (by rintro e a' w' ⟨rfl, h⟩; exact h)
        case regf =>
          have gd := grown_drew (World.grownBy.refl w0 none)
          obtain ⟨V2, hV2⟩ : ∃ V2, w0.drew = V2 := ⟨_, rfl⟩
          rw [hV2] at gd
          have HG := Lib.hid (And.intro gd (HS.out.2.2.2.2.1.grown gd (by simp)))
          clear gd
          refine wpIn_region_held_wide (S := fun Y => Y.cell? ⟨6, 0, none⟩ = some (errV ep)) (by kernel_rfl) (by kernel_rfl) (by rintro ⟨_, _, h, _⟩; cases h) (by rw [hV2]; exact (HS.out.2.2.2.2.2.2.1.grown HG.out.1 (by simp)).1) (fun hHeld => ?_)
          rw [hV2] at hHeld ⊢
          refine wpAnyH_take (i := 0) (oi := _) (v := ?vf0) rfl (by kernel_rfl) (by kernel_rfl) (by kernel_rfl) (fun _ _ _ h => by cases h.1) (Or.inl ⟨by rfl, ?hyf0⟩) (by assumption) ?restf0
          case hyf0 => (intro V hSw; (try dsimp only at hSw); go_simp) <;> with_reducible rfl
          try simp only [Act.put, List.getElem_toArray, List.getElem_cons_succ, List.getElem_cons_zero, List.setIfInBounds_toArray, List.set_cons_zero, List.set_cons_succ]
          refine wpAnyH_take (i := 1) (oi := _) (v := ?vf1) rfl (by kernel_rfl) (by kernel_rfl) (by kernel_rfl) (fun _ _ _ h => by cases h.1) (Or.inl ⟨by rfl, ?hyf1⟩) (by assumption) ?restf1
          case hyf1 => (intro V hSw; (try dsimp only at hSw); go_simp) <;> with_reducible rfl
          try simp only [Act.put, List.getElem_toArray, List.getElem_cons_succ, List.getElem_cons_zero, List.setIfInBounds_toArray, List.set_cons_zero, List.set_cons_succ]
          refine wpAnyH_ready (rs := [2]) (by kernel_rfl) (by simp) ?_
          refine (AllReadyH.cons (o := _) rfl (fun K9 hK => ?_) AllReadyH.nil)
          refine ready_store_row (by rfl) 105 _ _ rfl w.heap.size zs rfl rfl 105 zs HG.out.2 (by rw [HS.out.1]; kernel_rfl) rfl HS.out.2.2.2.2.2.2.2 ?_
          rw [setRow_self _ _ _ _ _ HG.out.2]
          refine hK.out _ _ ((HS.out.2.2.2.2.2.2.1.grown HG.out.1 (by simp)).1) (fun hHeld => ?_)
          clear hK K9
          try simp only [Act.put, List.getElem_toArray, List.getElem_cons_succ, List.getElem_cons_zero, List.setIfInBounds_toArray, List.set_cons_zero, List.set_cons_succ]
          refine wpAnyH_take (i := 3) (oi := _) (v := ?vf3) rfl (by kernel_rfl) (by kernel_rfl) (by kernel_rfl) (fun _ _ _ h => by cases h.1) (Or.inl ⟨by rfl, ?hyf3⟩) (by assumption) ?restf3
          case hyf3 => (intro V hSw; (try dsimp only at hSw); go_simp) <;> with_reducible rfl
          try simp only [Act.put, List.getElem_toArray, List.getElem_cons_succ, List.getElem_cons_zero, List.setIfInBounds_toArray, List.set_cons_zero, List.set_cons_succ]
          refine wpAnyH_done (by kernel_rfl) ?_ _
          refine ⟨rfl, hK8 _ _ ?_⟩
          gi_wp2
          exact ⟨rfl, _, results_sec_tmp rfl _ _ ⟨w.heap.size, 0, none⟩ (.agg zs) rfl (run_loadVar_row V2 w.heap.size 105 105 zs (0, 0) _ HG.out.2 Tryz.underlying105 rfl (by rw [HS.out.1]; kernel_rfl)), grown_trans HS.out.2.2.2.1 HG.out.1, .inr ⟨k, rfl, HI.out, .inl ⟨ho, rfl⟩⟩⟩
    | false =>
        rw [ho] at c2
        obtain ⟨D, hown, hM⟩ := HS.out.2.2.1.2.2.1
        have hwr := HS.out.2.2.1.2.2.2.1
        have hkw : k < z.wr.length := by rw [hwr]; exact HI.out
        have hkey := keyOf_int_mk Tryz.underlying3 (show (Lit.int .i64 (k : Int)).wf = true from WalkArith.wf_i64 (by have := HI.out; have := HS.out.2.2.1.2.2.2.2.2.1; omega))
        have hzd : secR 64 (.agg zs) = some (secD zeroR, []) := by rw [← HS.out.2.1]; exact secR_mk (by simp [zeroR])
        have hhas := mapOf_has hM hkw
        have HL := Lib.hid (And.intro hown (And.intro hM (And.intro hkw (And.intro hkey (And.intro hzd hhas)))))
        clear hown hM hwr hkey hzd hhas
        gi_upto_region 6 with (first
          | (gi_at_lookup; refine wpListIn_lookup_own_ok _ rfl _ _ 85 rfl 3 105 keyed_i Tryz.underlying85 (secR 64) (hz _) (secD zeroR) [] HL.out.2.2.2.2.1 m 5000 D rfl HL.out.1 (.int .i64 (k : Int)) (.int .i64 (k : Int)) rfl HL.out.2.2.2.1 ?_; intro v ps hv; obtain ⟨r, hr, cs, rfl, hcs, hcz, hc1, hze⟩ := sec_val hv; have HV := Lib.hid (And.intro hr (And.intro hcs (And.intro hcz (And.intro hc1 hze)))); clear hv hr hcs hcz hc1 hze; rw [HL.out.2.2.2.2.2])
          | (refine wpListIn_store_row rfl 105 _ _ rfl w0.heap.size cs rfl rfl 105 zs (heap_alloc_new w0 _) (by rw [HV.out.2.2.1]; kernel_rfl) (by rw [HS.out.1, HV.out.2.2.1]) HV.out.2.2.2.1 ?_))
        obtain ⟨W5, hW5⟩ : ∃ W5, (w0.alloc (.cells zs 105)).setRow w0.heap.size cs = W5 := ⟨_, rfl⟩
        rw [hW5]
        have g5 : w0.grownBy W5 none := by rw [← hW5]; exact grown_row (World.grownBy_alloc _ _ none) (.inl (Nat.le_refl _)) _
        have b6 : Blk W5 w0.heap.size 105 cs := by rw [← hW5]; exact (Blk.new w0 _ _).row cs
        have HW := Lib.hid (And.intro g5 (And.intro b6 (And.intro (HS.out.2.2.2.2.1.grown g5 (by simp)) (HS.out.2.2.1.grown g5))))
        have c05 := (HS.out.2.2.1.grown g5).1.cell 0
        simp only [List.getElem?_toArray, List.getElem?_cons_zero] at c05
        clear g5 b6 hW5 c0 c1 c2
        cases hwk : z.wr[k] with
        | some r' =>
          have hrd : secV (readS z k) = .agg cs := by
            have e := secD_inj (HV.out.2.2.2.2.symm.trans (((HL.out.2.1.2.2 k hkw).2 r' hwk).2 (secD zeroR)))
            rw [readS, List.getElem?_eq_getElem hkw, hwk, ← e]
            show secV r = _
            rw [secV, HV.out.2.1]
          have HR := Lib.hid (And.intro hrd ho)
          clear hrd hwk c05
          gi_wp2_with (first
            | (refine wpListIn_load_row rfl 105 _ rfl w0.heap.size rfl 105 cs (0, 0) _ HW.out.2.1 Tryz.underlying105 rfl (by rw [HV.out.2.2.1]; kernel_rfl) ?_)
            | (refine wpListIn_store_row rfl 105 _ _ rfl w.heap.size cs rfl rfl 105 zs HW.out.2.2.1 (by rw [HV.out.2.2.1]; kernel_rfl) (by rw [HS.out.1, HV.out.2.2.1]) HV.out.2.2.2.1 ?_)
            | gi_in)
          exact ⟨rfl, _, results_sec_tmp rfl _ _ ⟨w.heap.size, 0, none⟩ (.agg cs) rfl (run_loadVar_row (W5.setRow w.heap.size cs) w.heap.size 105 105 cs (0, 0) _ (HW.out.2.2.1.row cs) Tryz.underlying105 rfl (by rw [HV.out.2.2.1]; kernel_rfl)), grown_row (grown_trans HS.out.2.2.2.1 HW.out.1) (.inl (Nat.le_refl _)) _, .inr ⟨k, rfl, HI.out, .inr ⟨HR.out.2, by rw [HR.out.1]; rfl⟩⟩⟩
        | none =>
          have hk2 : 0 ≤ (k : Int) ∧ (k : Int) < (z.syn.length : Int) := by have := HI.out; omega
          have hks : k < z.syn.length := HI.out
          obtain ⟨row, hrow⟩ : ∃ row, z.syn[k] = row := ⟨_, rfl⟩
          obtain ⟨csl, hcsl⟩ : ∃ csl, row.map (Value.int .u8) = csl := ⟨_, rfl⟩
          have h64 : row.length = 64 := by rw [← hrow]; exact HW.out.2.2.2.2.2.2.2.1 _ (List.getElem_mem hks)
          have hcl : csl.length = 64 := by rw [← hcsl]; simpa using h64
          have hca : csl.toArray.all (·.oneCell') = true := by rw [← hcsl]; simp [Value.oneCell']
          have hrg : W5.rangeAt b (k * 64) csl := fun j v hj => by
            rw [HW.out.2.2.2.2.1.cell, DkS.cells, List.getElem?_toArray]
            exact flat64 z.syn HW.out.2.2.2.2.2.2.2.1 k hks j v (by rw [hrow, hcsl]; exact hj)
          have hrd : secV (readS z k) = .agg csl.toArray := by
            rw [readS, List.getElem?_eq_getElem hkw, hwk]
            show secV (z.syn.getD k []) = _
            rw [List.getD, List.getElem?_eq_getElem hks, Option.getD_some, hrow, secV, hcsl]
          have HR := Lib.hid (And.intro hrd (And.intro ho (And.intro hcl (And.intro hca hrg))))
          clear hrd hwk hrow hcsl h64 hcl hca hrg hks
          gi_wp2_with (first
            | (refine wpListIn_load_mid rfl 105 _ rfl b _ rfl csl _ (by first | exact HR.out.2.2.2.2 | simpa using HR.out.2.2.2.2) Tryz.underlying105 rfl (by rw [HR.out.2.2.1]; kernel_rfl) ?_)
            | (refine wpListIn_store_row rfl 105 _ _ rfl w.heap.size csl.toArray rfl rfl 105 zs HW.out.2.2.1 (by rw [List.size_toArray, HR.out.2.2.1]; kernel_rfl) (by rw [HS.out.1, List.size_toArray, HR.out.2.2.1]) HR.out.2.2.2.1 ?_)
            | gi_in)
          exact ⟨rfl, _, results_sec_tmp rfl _ _ ⟨w.heap.size, 0, none⟩ (.agg csl.toArray) rfl (run_loadVar_row (W5.setRow w.heap.size csl.toArray) w.heap.size 105 105 csl.toArray (0, 0) _ (HW.out.2.2.1.row csl.toArray) Tryz.underlying105 rfl (by rw [List.size_toArray, HR.out.2.2.1]; kernel_rfl)), grown_row (grown_trans HS.out.2.2.2.1 HW.out.1) (.inl (Nat.le_refl _)) _, .inr ⟨k, rfl, HI.out, .inr ⟨HR.out.2.1, by rw [HR.out.1]; rfl⟩⟩⟩
  · have d1 : decide (0 ≤ i ∧ i < (z.syn.length : Int)) = false := by simpa using hi
    rw [d1]
    have HI := Lib.hid hi
    clear d1 hi
    gi_upto_region 2 with fail
    rename_i K8 hK8
    refine wpIn_mono (Q := fun e a' w' => e = .normal ∧ K8 a' w') ?reg (by rintro e a' w' ⟨rfl, h⟩; exact h)
    case reg =>
      have gd := grown_drew (World.grownBy.refl w0 none)
      obtain ⟨V2, hV2⟩ : ∃ V2, w0.drew = V2 := ⟨_, rfl⟩
      rw [hV2] at gd
      have HG := Lib.hid (And.intro gd (HS.out.2.2.2.2.1.grown gd (by simp)))
      clear gd
      refine wpIn_region_held_wide (S := fun Y => Y.cell? ⟨0, 0, none⟩ = some (errV er)) (by kernel_rfl) (by kernel_rfl) (by rintro ⟨_, _, h, _⟩; cases h) (by rw [hV2]; exact (HS.out.2.2.2.2.2.1.grown HG.out.1 (by simp)).1) (fun hHeld => ?_)
      rw [hV2] at hHeld ⊢
      refine wpAnyH_take (i := 0) (oi := _) (v := ?ve0) rfl (by kernel_rfl) (by kernel_rfl) (by kernel_rfl) (fun _ _ _ h => by cases h.1) (Or.inl ⟨by rfl, ?hye0⟩) (by assumption) ?reste0
      case hye0 => (intro V hSw; (try dsimp only at hSw); go_simp) <;> with_reducible rfl
      try simp only [Act.put, List.getElem_toArray, List.getElem_cons_succ, List.getElem_cons_zero, List.setIfInBounds_toArray, List.set_cons_zero, List.set_cons_succ]
      refine wpAnyH_take (i := 1) (oi := _) (v := ?ve1) rfl (by kernel_rfl) (by kernel_rfl) (by kernel_rfl) (fun _ _ _ h => by cases h.1) (Or.inl ⟨by rfl, ?hye1⟩) (by assumption) ?reste1
      case hye1 => (intro V hSw; (try dsimp only at hSw); go_simp) <;> with_reducible rfl
      try simp only [Act.put, List.getElem_toArray, List.getElem_cons_succ, List.getElem_cons_zero, List.setIfInBounds_toArray, List.set_cons_zero, List.set_cons_succ]
      refine wpAnyH_ready (rs := [2]) (by kernel_rfl) (by simp) ?_
      refine (AllReadyH.cons (o := _) rfl (fun K9 hK => ?_) AllReadyH.nil)
      refine ready_store_row (by rfl) 105 _ _ rfl w.heap.size zs rfl rfl 105 zs HG.out.2 (by rw [HS.out.1]; kernel_rfl) rfl HS.out.2.2.2.2.2.2.2 ?_
      rw [setRow_self _ _ _ _ _ HG.out.2]
      refine hK.out _ _ ((HS.out.2.2.2.2.2.1.grown HG.out.1 (by simp)).1) (fun hHeld => ?_)
      clear hK K9
      try simp only [Act.put, List.getElem_toArray, List.getElem_cons_succ, List.getElem_cons_zero, List.setIfInBounds_toArray, List.set_cons_zero, List.set_cons_succ]
      refine wpAnyH_take (i := 3) (oi := _) (v := ?ve3) rfl (by kernel_rfl) (by kernel_rfl) (by kernel_rfl) (fun _ _ _ h => by cases h.1) (Or.inl ⟨by rfl, ?hye3⟩) (by assumption) ?reste3
      case hye3 => (intro V hSw; (try dsimp only at hSw); go_simp) <;> with_reducible rfl
      try simp only [Act.put, List.getElem_toArray, List.getElem_cons_succ, List.getElem_cons_zero, List.setIfInBounds_toArray, List.set_cons_zero, List.set_cons_succ]
      refine wpAnyH_done (by kernel_rfl) ?_ _
      refine ⟨rfl, hK8 _ _ ?_⟩
      gi_wp2
      exact ⟨rfl, _, results_sec_tmp rfl _ _ ⟨w.heap.size, 0, none⟩ (.agg zs) rfl (run_loadVar_row V2 w.heap.size 105 105 zs (0, 0) _ HG.out.2 Tryz.underlying105 rfl (by rw [HS.out.1]; kernel_rfl)), grown_trans HS.out.2.2.2.1 HG.out.1, .inl ⟨HI.out, rfl⟩⟩
end Go.Proofs.YthkjlgjbjjjohaaGreatDoor
/-
  Disk (pure): some of what was written is moved to the sectors.
-/

namespace Go.Proofs.YthkjlgjbjjjohaaGreatDoor
open Go.RowKit Go.Maps

/-- The sectors where those places that p says have taken what was written there. -/
def mgS (syn : List (List Int)) (wr : List (Option (List Int))) (p : Nat → Bool) : List (List Int) :=
  (List.range syn.length).map fun i => if p i then (wr[i]?.join).getD (syn.getD i []) else syn.getD i []
theorem mgS_length (syn : List (List Int)) (wr : List (Option (List Int))) (p : Nat → Bool) : (mgS syn wr p).length = syn.length := by simp [mgS]
theorem mgS_at {syn : List (List Int)} {wr : List (Option (List Int))} {p : Nat → Bool} {i : Nat} (h : i < (mgS syn wr p).length) : (mgS syn wr p)[i] = if p i then (wr[i]?.join).getD (syn.getD i []) else syn.getD i [] := by
  simp [mgS]
theorem mgS_none {syn : List (List Int)} {wr : List (Option (List Int))} {p : Nat → Bool} (h : ∀ i, i < syn.length → p i = false) : mgS syn wr p = syn := by
  refine List.ext_getElem (mgS_length _ _ _) (fun i h1 h2 => ?_)
  rw [mgS_at h1, h i h2]
  simp [List.getD, List.getElem?_eq_getElem h2]
theorem mgS_congr {syn : List (List Int)} {wr : List (Option (List Int))} {p q : Nat → Bool} (h : ∀ i, i < syn.length → p i = q i) : mgS syn wr p = mgS syn wr q := by
  refine List.ext_getElem (by rw [mgS_length, mgS_length]) (fun i h1 h2 => ?_)
  rw [mgS_at h1, mgS_at h2, h i (by rwa [mgS_length] at h1)]
theorem mgS_step {syn : List (List Int)} {wr : List (Option (List Int))} {p q : Nat → Bool} {k : Nat} {r : List Int} (hw : wr[k]? = some (some r)) (hq : q k = true) (h : ∀ i, i ≠ k → q i = p i) : mgS syn wr q = (mgS syn wr p).set k r := by
  refine List.ext_getElem (by rw [List.length_set, mgS_length, mgS_length]) (fun i h1 h2 => ?_)
  have h3 : i < (mgS syn wr p).length := by rwa [List.length_set] at h2
  rw [mgS_at h1]
  by_cases e : i = k
  · subst e
    rw [List.getElem_set_self, hq, hw]
    rfl
  · rw [List.getElem_set_ne (fun x => e x.symm), mgS_at h3, h i e]
theorem mgS_rows {syn : List (List Int)} {wr : List (Option (List Int))} {p : Nat → Bool} (hs : ∀ r ∈ syn, r.length = 64) (hw : ∀ (i : Nat) (r : List Int), wr[i]? = some (some r) → r.length = 64) : ∀ r ∈ mgS syn wr p, r.length = 64 := fun r hr => by
  obtain ⟨i, hi, rfl⟩ := List.mem_map.1 hr
  have hi := List.mem_range.1 hi
  have h0 : (syn.getD i []).length = 64 := by
    rw [List.getD, List.getElem?_eq_getElem hi]
    exact hs _ (List.getElem_mem hi)
  split
  · cases e : wr[i]? with
    | none => simpa using h0
    | some o => cases o with
      | none => simpa using h0
      | some r => exact hw i r e
  · exact h0
end Go.Proofs.YthkjlgjbjjjohaaGreatDoor
/-
  Disk: Sync.
-/
namespace Go.Proofs.YthkjlgjbjjjohaaGreatDoor
open Go.RowKit Go.Maps

theorem sameKey_int (a b : Int) : (Lit.int .i64 a).sameKey (.int .i64 b) = decide (a = b) := by
  by_cases h : a = b
  · subst h; simp [Lit.sameKey]
  · rw [sameKey_ne (fun e => h (by injection e))]; simp [h]
theorem setCells_cons (w : World) (b o : Nat) (v : Value) (r : List Value) : w.setCells b o (v :: r) = (w.setCell ⟨b, o, none⟩ v).setCells b (o + 1) r := rfl
theorem lay_cons {α : Type} (cs : List α) (o : Nat) (v : α) (vs : List α) (h : o + (v :: vs).length ≤ cs.length) : (cs.set o v).take (o + 1) ++ vs ++ (cs.set o v).drop (o + 1 + vs.length) = cs.take o ++ (v :: vs) ++ cs.drop (o + (v :: vs).length) := by
  rw [List.length_cons] at h ⊢
  have e1 : (cs.set o v).take (o + 1) = cs.take o ++ [v] := by
    rw [List.take_add_one, List.take_set_of_le (Nat.le_refl _), List.getElem?_set_self (by omega)]; rfl
  rw [e1, List.drop_set_of_lt (by omega), show o + 1 + vs.length = o + (vs.length + 1) by omega]
  simp
theorem blk_setCells (b : Nat) (t : TypeId) : ∀ (vs : List Value) (o : Nat) (w : World) (cs : List Value), Blk w b t cs.toArray → o + vs.length ≤ cs.length → Blk (w.setCells b o vs) b t (cs.take o ++ vs ++ cs.drop (o + vs.length)).toArray
  | [], o, w, cs, h, hl => by simpa [World.setCells] using h
  | v :: vs, o, w, cs, h, hl => by
    rw [setCells_cons, ← lay_cons cs o v vs hl]
    refine blk_setCells b t vs (o + 1) _ _ ?_ (by rw [List.length_set]; rw [List.length_cons] at hl; omega)
    simpa using h.set o v
theorem grown_cells {w : World} (b : Nat) : ∀ (vs : List Value) (o : Nat) (w1 : World), w.grownBy w1 (some b) → w.grownBy (w1.setCells b o vs) (some b)
  | [], _, _, h => h
  | v :: r, o, w1, h => by
    rw [setCells_cons]
    exact grown_cells b r (o + 1) _ (grown_far h (.inr rfl) v)
def rowsC (S : List (List Int)) : List Value := S.flatMap fun r => r.map (Value.int .u8)
theorem rowsC_len : ∀ (S : List (List Int)), (∀ r ∈ S, r.length = 64) → (rowsC S).length = S.length * 64
  | [], _ => rfl
  | a :: S, h => by
    have := rowsC_len S (fun r hr => h r (List.mem_cons_of_mem _ hr))
    have h0 := h a List.mem_cons_self
    simp only [rowsC, List.flatMap_cons, List.length_append, List.length_map, List.length_cons] at this ⊢
    omega
theorem rowsC_set : ∀ (S : List (List Int)) (_ : ∀ r ∈ S, r.length = 64) (k : Nat) (_ : k < S.length) (r : List Int) (_ : r.length = 64), rowsC (S.set k r) = (rowsC S).take (k * 64) ++ r.map (Value.int .u8) ++ (rowsC S).drop (k * 64 + (r.map (Value.int .u8)).length)
  | a :: S, h, 0, _, r, hr => by
    have h0 : (a.map (Value.int .u8)).length = 64 := by simpa using h a List.mem_cons_self
    rw [List.length_map, hr]
    simp only [rowsC, List.set_cons_zero, List.flatMap_cons, Nat.zero_mul, List.take_zero, List.nil_append, Nat.zero_add]
    rw [List.drop_append_of_le_length (by omega), List.drop_of_length_le (by omega)]; rfl
  | a :: S, h, k + 1, hk, r, hr => by
    have h0 : (a.map (Value.int .u8)).length = 64 := by simpa using h a List.mem_cons_self
    have ih := rowsC_set S (fun r hr => h r (List.mem_cons_of_mem _ hr)) k (by simpa using hk) r hr
    simp only [rowsC, List.set_cons_succ, List.flatMap_cons] at ih ⊢
    rw [ih, show (k + 1) * 64 = (a.map (Value.int .u8)).length + k * 64 by omega, Nat.add_assoc, List.take_length_add_append, List.drop_length_add_append]
    simp only [List.append_assoc]
theorem wpListIn_clear_own {H : Type} {F : Fence} {n : Nat} {P : Program} (w : World) {ops : Array Oper} {rest : List Oper} {o : Oper} {a : Act} {Q : Exit → Act → World → Prop}
    (hg : o.guard = none) (x : Operand) (t : TypeId) (hop : o.op = Op.call { callee := Callee.builtin Builtin.clear, args := #[x], argTypes := #[t] })
    (k e : TypeId) (ht : P.underlying t = some (.map k e)) (R : Value → Option (DataW Unit × List MemPlace)) (b nn : Nat) (D : DataW Unit) (hm : a.eval x = .map (some b)) (hown : w.ownsMap P k R b nn D)
    (hK : ∀ w', w'.ownsMap P k R b 0 (.map []) → w.mapTurned w' b → wpListIn F n P ops Q rest (a.put o.dst (.tuple #[])) w') :
    wpListIn F n P ops Q (o :: rest) a w := by
  refine wpListIn_plain hg fun K' hK' => ?_
  obtain ⟨w', hrun, h1, h2⟩ := clear_own hown ht o.type
  unfold Oper.wpIn
  refine ⟨?_, ?_⟩
  · simp [Oper.about, hop, resolve, Target.leads, Sem.run_pure]
  · rw [Oper.semAt_plain F _ _ (by rw [hop]; intro c hc'; cases hc')]
    simp [execOp, hop, resolve, invoke, builtin, hm, hrun, Result.andThen]
    exact hK' _ _ (hK w' h1 h2)
theorem ready_store_mid {P : Program} {ops : Array Oper} {o : Oper} {a : Act} {w : World} {K : Act → World → Prop} {Q : Exit → Act → World → Prop} (hw : Region.wanted o (yielded ops a.tmps) = true) (ty : TypeId) (x y : Operand) (ho : o.op = .store ty x y)
    (b off : Nat) (cells : Array Value) (hx : a.eval x = .pointer (some ⟨b, off, none⟩)) (hy : a.eval y = .agg cells)
    (ht : w.there b off cells.size) (hi : (P.info? ty).map (·.size) = some cells.size) (h1 : cells.all (·.oneCell') = true)
    (h : K (a.put o.dst undef) (w.setCells b off cells.toList)) : if Region.wanted o (yielded ops a.tmps) = true then Oper.wp P o a w K Q else K (a.put o.dst undef) w := by
  rw [if_pos hw]
  unfold Oper.wp execOp
  simp only [ho, hx, hy, Sem.run_bind, Sem.run_pure, Result.andThen_ok, run_storeAt_mid w b off ty cells ht hi h1]
  exact h
theorem mgS_id {syn : List (List Int)} {wr : List (Option (List Int))} {p : Nat → Bool} (h : ∀ i, i < syn.length → p i = true → wr[i]?.join = none) : mgS syn wr p = syn := by
  refine List.ext_getElem (mgS_length _ _ _) (fun i h1 h2 => ?_)
  rw [mgS_at h1]
  have e : syn.getD i [] = syn[i] := by simp [List.getD, List.getElem?_eq_getElem h2]
  cases hp : p i with
  | false => simpa using e
  | true => rw [h i h2 hp, e]; rfl
theorem mapOf_at {D : DataW Unit} {wr : List (Option (List Int))} (h : MapOf D wr) {x : Int} {y : DataW Unit} (hx : has D (.int .i64 x) = true) (hy : ∀ zd, D.atKey (.int .i64 x) zd = y) : ∃ i : Nat, ∃ r, x = (i : Int) ∧ i < wr.length ∧ wr[i]? = some (some r) ∧ y = secD r := by
  obtain ⟨i, hi, rfl⟩ := h.2.1 x hx
  rw [mapOf_has h hi] at hx
  obtain ⟨r, hr⟩ := Option.isSome_iff_exists.1 hx
  exact ⟨i, r, rfl, hi, by rw [List.getElem?_eq_getElem hi, hr], by rw [← hy (.map []), ((h.2.2 i hi).2 r hr).2]⟩
theorem wpIn_normal {F : Fence} {n : Nat} {P : Program} {c : Code} {Q : Exit → Act → World → Prop} {a : Act} {w : World} (h : Code.wpIn F n P c (fun e a' w' => e = .normal ∧ Q e a' w') a w) : Code.wpIn F n P c Q a w :=
  wpIn_mono h (by rintro e a' w' ⟨rfl, h⟩; exact h)
def syncS (z : DkS) : DkS := { z with syn := mgS z.syn z.wr (fun _ => true), wr := List.replicate z.wr.length none }
set_option maxRecDepth 100000 in
set_option maxHeartbeats 1000000 in
theorem dk_sync (w : World) (d b m B : Nat) (z : DkS) (h : DkIs w d b m z) (ep : Addr) (hB : B ≤ d) (hep : ErrAt w B 6 ep) :
    Calls Tryz.prog 44 #[.pointer (some ⟨d, 0, none⟩)] w fun e w' => Kept (fun j => j = d ∨ j = b ∨ j = m) w w' ∧
      ((opOk z = false ∧ e = .returned (errV ep) ∧ DkIs w' d b m (opS z)) ∨ (opOk z = true ∧ e = .returned .nilIface ∧ DkIs w' d b m (syncS (opS z)))) := by
  obtain ⟨zs, hzs⟩ : ∃ zs : Array Value, zs = (zeroR.map (Value.int .u8)).toArray := ⟨_, rfl⟩
  have hz : ∀ w, Sem.run Tryz.prog (zeroValue 105) w = .ok (.agg zs) w := fun w => by rw [hzs]; exact zero_sec w (by kernel_rfl)
  have hzz : zs.size = 64 := by rw [hzs]; simp [zeroR]
  have HS := Lib.hid hzz
  have HOP := Lib.hid (dk_operate w d b m B z ep h hB hep)
  clear hzs hzz h hB hep
  refine (callsIn_wide (n := 6)).1 ?_
  refine callsIn_of_wp Tryz.func44 rfl trivial ?_ rfl
  simp only [Tryz.ntmps44, List.size_toArray, List.length_cons, List.length_nil, Nat.reduceAdd, Nat.reduceSub, Array.replicate_succ, Array.replicate_zero, List.push_toArray, List.append_toArray, List.nil_append, List.cons_append]
  gi_wp2
  refine ⟨trivial, ?_⟩
  refine (callsIn_wide.2 HOP.out).mono ?_
  rintro e w1 ⟨rfl, h1, k1⟩
  have k1' : Kept (fun j => j = d ∨ j = b ∨ j = m) w w1 := k1.mono (fun j _ h => .inl h)
  cases ho : opOk z with
  | false =>
    have HF := Lib.hid (And.intro k1' h1)
    clear k1 k1' h1
    simp only [Bool.false_eq_true, if_false]
    gi_wp2
    go_ret
    exact ⟨HF.out.1, .inl ⟨ho, rfl, HF.out.2⟩⟩
  | true =>
    obtain ⟨y, hy⟩ : ∃ y, opS z = y := ⟨_, rfl⟩
    rw [hy] at h1
    obtain ⟨D, hown, hM⟩ := h1.2.2.1
    have c1 := h1.1.cell 1
    simp only [List.getElem?_toArray, List.getElem?_cons_zero, List.getElem?_cons_succ] at c1
    have H1 := Lib.hid (And.intro h1 (And.intro k1' (And.intro hy (And.intro hown (And.intro hM ho)))))
    clear h1 k1 k1' hy hown hM
    simp only [if_true]
    gi_wp2_with (gi_at_range; refine wpListIn_range_own _ rfl _ 85 rfl 3 105 keyed_i Tryz.underlying85 (secR 64) m 5000 _ rfl H1.out.2.2.2.1 ?_; intro wg hrg hgg hsg)
    obtain ⟨ri, hri⟩ : ∃ ri, w1.heap.size = ri := ⟨_, rfl⟩
    rw [hri] at hrg hsg
    try rw [hri]
    go_frame
    have HRI := Lib.hid (And.intro hri (And.intro hrg hgg))
    clear hri hrg hgg hsg c1
    gi_loopw [4] (fun _ wx => ∃ (left : Lit → Bool) (cnt : Nat) (S : List (List Int)), wx.ranges Tryz.prog 3 (secR 64) m ri 5000 D left cnt ∧ Blk wx b 105 (rowsC S).toArray ∧ (∀ r ∈ S, r.length = 64) ∧ S = mgS y.syn y.wr (fun i => !left (.int .i64 (i : Int))) ∧ (∀ kl, left kl = true → has D kl = true) ∧ Kept (fun j => j = b ∨ j = ri) wg wx) (fun _ wx => wx.rangeLeft m ri)
    case atStart =>
      refine ⟨_, _, y.syn, HRI.out.2.1, ?_, H1.out.1.2.2.2.2.1, ?_, fun _ h => h, Kept.refl _ _⟩
      · exact H1.out.1.2.1.grown HRI.out.2.2 (by simp)
      · refine (mgS_id fun i hi hp => ?_).symm
        have hi2 : i < y.wr.length := by rw [H1.out.1.2.2.2.1]; exact hi
        rw [List.getElem?_eq_getElem hi2]
        have h2 : has D (.int .i64 (i : Int)) = false := by simpa using hp
        rw [mapOf_has H1.out.2.2.2.2.1 hi2] at h2
        cases e : y.wr[i] with
        | none => rfl
        | some r => rw [e] at h2; cases h2
    case round =>
      obtain ⟨left, cnt, S, hrg, hbS, hS64, hSe, hlD, hkx⟩ := hrel
      rename World => wx
      gi_wp2_with (first
        | (gi_at_next; refine wpListIn_next_ranges _ rfl _ rfl 3 keyed_i (secR 64) (Value.int .i64) Value.agg (fun key kl hk => by obtain ⟨x, rfl, _⟩ := Maps.keyOf_int_inv Tryz.underlying3 hk; exact ⟨x, rfl⟩) (fun v y hv => by obtain ⟨r, _, cs, rfl, _⟩ := sec_val hv; exact ⟨cs, rfl⟩) m ri 5000 _ _ _ rfl hrg ?_ ?_)
        | gi_in)
      · intro hc0 hl0
        have hd : Blk wx d 87 #[.slice (some ⟨b, 0, none⟩) y.syn.length y.syn.length, .map (some m), .bool y.off, .int .i64 y.lasts] := (H1.out.1.1.grown HRI.out.2.2 (by simp)).kept hkx (by
          have := H1.out.1.1.lt; have := HRI.out.1; have := H1.out.1.2.2.2.2.2.2.2.1; omega)
        have c1 := hd.cell 1
        simp only [List.getElem?_toArray, List.getElem?_cons_zero, List.getElem?_cons_succ] at c1
        have hK : Kept (fun j => j = d ∨ j = b ∨ j = m) w wx := (H1.out.2.1.next (Kept.of_grown (F := fun _ => False) HRI.out.2.2 fun _ e => by cases e) (fun _ _ h => h.elim)).next hkx (fun j hj h => by
          rcases h with h | h
          · exact .inr (.inl h)
          · have := HRI.out.1; have := H1.out.2.1.size; omega)
        have hSend : S = (syncS y).syn := by rw [hSe]; exact mgS_congr (fun i _ => by simp [hl0])
        have HF := Lib.hid (And.intro hd (And.intro hK (And.intro hSend (And.intro hbS (And.intro hS64 hrg.owns)))))
        clear hc0 hl0 hrg hbS hS64 hSe hlD hkx hd hK hSend
        obtain ⟨w5, hrun5, hown5, ht5⟩ := clear_own HF.out.2.2.2.2.2 Tryz.underlying85 0
        have H5 := Lib.hid (And.intro hown5 ht5)
        clear hown5 ht5
        gi_wp2
        go_ret
        obtain ⟨hown5, ht5⟩ := H5.out
        obtain ⟨hd, hK, hSe, hbS, hS64, _⟩ := HF.out
        obtain ⟨h1, _, _, hl, _, hlen, hlasts, hne⟩ := H1.out.1
        have hk5 : Kept (fun j => j = m) wx w5 := Kept.of_grown (F := fun j => j = m) ht5.grown (fun j e => (Option.some.inj e).symm)
        refine ⟨hK.next hk5 (fun j _ h => .inr (.inr h)), .inr ⟨ho, rfl, ?_⟩⟩
        rw [H1.out.2.2.1]
        have hsl : (syncS y).syn.length = y.syn.length := mgS_length _ _ _
        refine ⟨by rw [hsl]; exact hd.kept hk5 (fun e => hne.2.1 e), ?_, ⟨_, hown5.mono (by omega), mapOf_empty _⟩, by rw [hsl, ← hl]; simp [syncS], by rw [← hSe]; exact hS64, by rw [hsl]; exact hlen, hlasts, hne⟩
        show Blk w5 b _ (rowsC (syncS y).syn).toArray
        rw [← hSe]
        exact hbS.kept hk5 (fun e => hne.2.2 e)
      · intro x c kl ya yb w2 cnt2 hkey hlk hv hat hrg2 hlt2 hg2 hs2 hen
        obtain ⟨x', ex, rfl, hwx⟩ := Maps.keyOf_int_inv Tryz.underlying3 hkey
        cases ex
        obtain ⟨r, hr, cs, hcs0, hcs, hcz, hc1, hye⟩ := sec_val hv
        injection hcs0 with hcs0
        subst hcs0
        obtain ⟨k, r', rfl, hk, hwk, hy2⟩ := mapOf_at H1.out.2.2.2.2.1 (hlD _ hlk) hat
        obtain rfl : r = r' := secD_inj (hye.symm.trans hy2)
        have hkn : k < y.syn.length := by rw [← H1.out.1.2.2.2.1]; exact hk
        have hSl : S.length = y.syn.length := by rw [hSe, mgS_length]
        have hne := H1.out.1.2.2.2.2.2.2.2
        have hdw := H1.out.1.1.lt
        have hri := HRI.out.1
        have hb2 := hbS.grown hg2 (by have := H1.out.1.2.1.lt; intro e; injection e with e; omega)
        have hk2 : Kept (fun j => j = b ∨ j = ri) wg w2 := hkx.next (Kept.of_grown (F := fun j => j = ri) hg2 (fun j e => (Option.some.inj e).symm)) (fun j _ h => .inr h)
        have hd2 : Blk w2 d 87 #[.slice (some ⟨b, 0, none⟩) y.syn.length y.syn.length, .map (some m), .bool y.off, .int .i64 y.lasts] := (H1.out.1.1.grown HRI.out.2.2 (by simp)).kept hk2 (by omega)
        obtain ⟨p, hp⟩ : ∃ p, w2.heap.size = p := ⟨_, rfl⟩
        obtain ⟨X, hX⟩ : ∃ X, (w2.alloc (.cells zs 105)).setRow p c = X := ⟨_, rfl⟩
        have gX : w2.grownBy X none := by rw [← hX]; exact grown_row (World.grownBy_alloc _ _ none) (.inl (by omega)) _
        have bX : Blk X p 105 c := by rw [← hX, ← hp]; exact (Blk.new w2 _ _).row c
        have hcz2 : c.toList.length = 64 := by rw [Array.length_toList, hcz]
        have hS1 : Blk (X.drew.setCells b (k * 64) c.toList) b 105 (rowsC (S.set k r)).toArray := by
          rw [rowsC_set S hS64 k (by omega) r hr]
          have e : r.map (Value.int .u8) = c.toList := by rw [hcs]
          rw [e]
          exact blk_setCells b _ c.toList (k * 64) _ _ ((hb2.grown gX (by simp)).drew) (by rw [rowsC_len S hS64, hcz2]; omega)
        have hgS : w2.grownBy (X.drew.setCells b (k * 64) c.toList) (some b) := grown_cells b _ _ _ (grown_drew (grown_weak gX _))
        have hrg3 := hrg2.kept hgS (by intro e; injection e with e; exact hne.2.2 e.symm) (by have := H1.out.1.2.1.lt; intro e; injection e with e; omega)
        have hk3 : Kept (fun j => j = b ∨ j = ri) wg (X.drew.setCells b (k * 64) c.toList) := hk2.next (Kept.of_grown (F := fun j => j = b) hgS (fun j e => (Option.some.inj e).symm)) (fun j _ h => .inl h)
        have hS2 : S.set k r = mgS y.syn y.wr (fun i => !((fun z => left z && !z.sameKey (.int .i64 (k : Int))) (.int .i64 (i : Int)))) := by
          rw [hSe]
          refine (mgS_step hwk ?_ (fun i hi => ?_)).symm
          · simp [sameKey_int]
          · have : ¬ ((i : Int) = (k : Int)) := by omega
            simp [sameKey_int, this]
        have hthere : X.drew.there b (k * 64) 64 := fun j hj => by
          refine ⟨?_, ((hb2.grown gX (by simp)).drew).frozen _⟩
          rw [((hb2.grown gX (by simp)).drew).cell, List.getElem?_toArray, List.getElem?_eq_getElem (by rw [rowsC_len S hS64]; omega)]; rfl
        have HW := Lib.hid (And.intro hS1 (And.intro hrg3 (And.intro hk3 (And.intro hS2 (And.intro hthere (And.intro (show ∀ r' ∈ S.set k r, r'.length = 64 from fun r' h => by rcases List.mem_or_eq_of_mem_set h with h | rfl; exact hS64 _ h; exact hr) hrg))))))
        have HV := Lib.hid (And.intro hr (And.intro hcs (And.intro hcz hc1)))
        have HLt := Lib.hid (And.intro hlt2 hlD)
        have hkb : 0 ≤ (k : Int) ∧ (k : Int) < (y.syn.length : Int) := by omega
        have c0 := (hd2.grown gX (by simp)).cell 0
        simp only [List.getElem?_toArray, List.getElem?_cons_zero] at c0
        have HB := Lib.hid (And.intro c0 (And.intro bX (And.intro hkn (show wg.heap.size ≤ p by rw [← hp]; exact hk2.size))))
        clear hkey hlk hv hat hrg2 hlt2 hg2 hs2 hrg hbS hS64 hSe hlD hkx hwx hcs hcz hc1 hye hwk hy2 hk hkn hSl hb2 hk2 hd2 hdw hri hne gX bX hcz2 hS1 hgS hrg3 hk3 hS2 hthere hr c0
        gi_upto_region 7 with (first
          | (refine wpListIn_store_row rfl 105 _ _ rfl p c (by rw [← hp]; rfl) rfl 105 zs (by rw [← hp]; exact heap_alloc_new w2 _) (by rw [HV.out.2.2.1]; kernel_rfl) (by rw [HS.out, HV.out.2.2.1]) HV.out.2.2.2 ?_)
          | gi_in)
        rw [hX]
        try simp only [Act.put, List.setIfInBounds_toArray, List.set_cons_zero, List.set_cons_succ]
        refine wpIn_normal ?_
        refine wpIn_region_held_wide (S := fun Y => Y.cell? ⟨d, 0, none⟩ = some (.slice (some ⟨b, 0, none⟩) y.syn.length y.syn.length) ∧ Y.rangeAt p 0 c.toList) (by kernel_rfl) (by kernel_rfl) (by rintro ⟨_, _, h, _⟩; cases h) ⟨HB.out.1, range_of_blk HB.out.2.1.drew⟩ (fun hHeld => ?_)
        refine wpAnyH_take (i := 0) (oi := _) (v := ?vs0) rfl (by kernel_rfl) (by kernel_rfl) (by kernel_rfl) (fun _ _ _ h => by cases h.1) (Or.inl ⟨by rfl, ?hys0⟩) (by assumption) ?rests0
        case hys0 => (intro V hSw; (try dsimp only at hSw); go_simp) <;> with_reducible rfl
        try simp only [Act.put, List.getElem_toArray, List.getElem_cons_succ, List.getElem_cons_zero, List.setIfInBounds_toArray, List.set_cons_zero, List.set_cons_succ]
        refine wpAnyH_take (i := 1) (oi := _) (v := ?vs1) rfl (by kernel_rfl) (by kernel_rfl) (by kernel_rfl) (fun _ _ _ h => by cases h.1) (Or.inl ⟨by rfl, ?hys1⟩) (by assumption) ?rests1
        case hys1 => (intro V hSw; (try dsimp only at hSw); go_simp) <;> with_reducible rfl
        try simp only [Act.put, List.getElem_toArray, List.getElem_cons_succ, List.getElem_cons_zero, List.setIfInBounds_toArray, List.set_cons_zero, List.set_cons_succ]
        refine wpAnyH_take (i := 2) (oi := _) (v := ?vs2) rfl (by kernel_rfl) (by kernel_rfl) (by kernel_rfl) (fun _ _ _ h => by cases h.1) (Or.inl ⟨by rfl, ?hys2⟩) (by assumption) ?rests2
        case hys2 => (intro V hSw; (try dsimp only at hSw); go_simp) <;> with_reducible rfl
        try simp only [Act.put, List.getElem_toArray, List.getElem_cons_succ, List.getElem_cons_zero, List.setIfInBounds_toArray, List.set_cons_zero, List.set_cons_succ]
        refine wpAnyH_take (i := 3) (oi := _) (v := ?vs3) rfl (by kernel_rfl) (by kernel_rfl) (by kernel_rfl) (fun _ _ _ h => by cases h.1) (Or.inl ⟨by rfl, ?hys3⟩) (by assumption) ?rests3
        case hys3 => (intro V hSw; (try dsimp only at hSw); go_simp) <;> with_reducible rfl
        try simp only [Act.put, List.getElem_toArray, List.getElem_cons_succ, List.getElem_cons_zero, List.setIfInBounds_toArray, List.set_cons_zero, List.set_cons_succ]
        refine wpAnyH_take (i := 4) (oi := _) (v := ?vs4) rfl (by kernel_rfl) (by kernel_rfl) (by kernel_rfl) (fun _ _ _ h => by cases h.1) (Or.inl ⟨by rfl, ?hys4⟩) (by assumption) ?rests4
        case hys4 => (intro V hSw; (try dsimp only at hSw); go_simp) <;> with_reducible rfl
        try simp only [Act.put, List.getElem_toArray, List.getElem_cons_succ, List.getElem_cons_zero, List.setIfInBounds_toArray, List.set_cons_zero, List.set_cons_succ]
        refine wpAnyH_take (i := 5) (oi := _) (v := .agg c) rfl (by kernel_rfl) (by kernel_rfl) (by kernel_rfl) (fun _ _ _ h => by cases h.1) (yieldsIf_load_mid (by rfl) _ _ rfl p 0 rfl c.toList _ (fun V hSw => hSw.2) Tryz.underlying105 rfl (by rw [Array.length_toList, HV.out.2.2.1]; kernel_rfl)) (by assumption) ?rests5
        try simp only [Act.put, List.getElem_toArray, List.getElem_cons_succ, List.getElem_cons_zero, List.setIfInBounds_toArray, List.set_cons_zero, List.set_cons_succ]
        refine wpAnyH_take (i := 6) (oi := _) (v := ?vs6) rfl (by kernel_rfl) (by kernel_rfl) (by kernel_rfl) (fun _ _ _ h => by cases h.1) (Or.inl ⟨by rfl, ?hys6⟩) (by assumption) ?rests6
        case hys6 => (intro V hSw; (try dsimp only at hSw); go_simp) <;> with_reducible rfl
        try simp only [Act.put, List.getElem_toArray, List.getElem_cons_succ, List.getElem_cons_zero, List.setIfInBounds_toArray, List.set_cons_zero, List.set_cons_succ]
        refine wpAnyH_ready (rs := [7]) (by kernel_rfl) (by simp) ?_
        refine (AllReadyH.cons (o := _) rfl (fun K9 hK => ?_) AllReadyH.nil)
        refine ready_store_mid (by rfl) 105 _ _ rfl b (k * 64) c rfl rfl (by rw [HV.out.2.2.1]; exact HW.out.2.2.2.2.1) (by rw [HV.out.2.2.1]; kernel_rfl) HV.out.2.2.2 ?_
        refine hK.out _ _ ?_ (fun hHeld => ?_)
        · refine ⟨(World.cell?_setCells_out _ _ _ _ _ (fun e => absurd e (by have := H1.out.1.2.2.2.2.2.2.2.1; simpa using this))).trans HB.out.1, ?_⟩
          exact World.rangeAt_setCells_apart (range_of_blk HB.out.2.1.drew) _ _ _ (.inl (fun e => by have := H1.out.1.2.1.lt; have := HRI.out.1; have := HRI.out.2.2.size; have := HB.out.2.2.2; omega))
        clear hK K9
        try simp only [Act.put, List.getElem_toArray, List.getElem_cons_succ, List.getElem_cons_zero, List.setIfInBounds_toArray, List.set_cons_zero, List.set_cons_succ]
        refine wpAnyH_done (by kernel_rfl) ?_ _
        refine ⟨rfl, ?_⟩
        go_roundw
        case rel =>
          refine ⟨_, _, _, _, _, _, _, _, _, _, _, _, _, _, ?_, rfl⟩
          exact ⟨_, cnt2, S.set k r, HW.out.2.1, HW.out.1, HW.out.2.2.2.2.2.1, HW.out.2.2.2.1, fun kl h => HLt.out.2 kl (by simp only [Bool.and_eq_true] at h; exact h.1), HW.out.2.2.1⟩
        case measure =>
          rw [HW.out.2.1.left_eq, HW.out.2.2.2.2.2.2.left_eq]; exact HLt.out.1
end Go.Proofs.YthkjlgjbjjjohaaGreatDoor
