/-
  Disk: a disk in memory; what asks it, and its power.
-/
import Derived.Test.YtmecimhlnajaoaaDoorDkP
import Derived.Test.YtmecimhlnajaoaaDoorGe
import Derived.Test.YtmecimhlnajaoaaDoorEv
namespace Go.Proofs.YtmecimhlnajaoaaDoor
open Go.RowKit Go.Maps

/-- A disk: what was synced, what was written and isn't synced, whether the power is off, how long it lasts. -/
structure DkS where
  syn : List (List Int)
  wr : List (Option (List Int))
  off : Bool
  lasts : Int
def DkS.cells (z : DkS) : Array Value := (z.syn.flatMap fun r => r.map (Value.int .u8)).toArray
/-- A disk at d: its sectors in block b, its map in block m. -/
def DkIs (w : World) (d b m : Nat) (z : DkS) : Prop :=
  Blk w d 62 #[.slice (some ⟨b, 0, none⟩) z.syn.length z.syn.length, .map (some m), .bool z.off, .int .i64 z.lasts] ∧
  Blk w b 36 z.cells ∧ (∃ D, w.ownsMap Tryd.prog 3 (secR 64) m 5000 D ∧ MapOf D z.wr) ∧
  z.wr.length = z.syn.length ∧ (∀ r ∈ z.syn, r.length = 64) ∧ (1 ≤ z.syn.length ∧ z.syn.length ≤ 4096) ∧ (-1 ≤ z.lasts ∧ z.lasts < 9223372036854775808) ∧ (d ≠ b ∧ d ≠ m ∧ b ≠ m)
theorem own_tight {w : World} {P : Program} {k : TypeId} {R : Value → Option (DataW Unit × List MemPlace)} {b n : Nat} {D : DataW Unit} (h : w.ownsMap P k R b n D) : w.ownsMap P k R b (Maps.size D) D := by
  obtain ⟨es, clock, hb, F, _, hD⟩ := h
  exact ⟨es, clock, hb, F, by rw [hD, Maps.size_eq, length_read]; exact Nat.le_refl _, hD⟩
theorem DkIs.kept {w w' : World} {d b m : Nat} {z : DkS} {F : Nat → Prop} (h : DkIs w d b m z) (hk : Kept F w w') (hF : ¬ F d ∧ ¬ F b ∧ ¬ F m) : DkIs w' d b m z := by
  obtain ⟨h1, h2, ⟨D, h3, h4⟩, h5⟩ := h
  refine ⟨h1.kept hk hF.1, h2.kept hk hF.2.1, ⟨D, ?_, h4⟩, h5⟩
  have hlt := h3.lt
  obtain ⟨es, clock, hb, F2, hs, hD⟩ := h3
  exact ⟨es, clock, (hk.block m hlt hF.2.2).trans hb, F2, hs, hD⟩
theorem DkIs.grown {w w' : World} {d b m : Nat} {z : DkS} (h : DkIs w d b m z) (hg : w.grownBy w' none) : DkIs w' d b m z :=
  h.kept (Kept.of_grown (F := fun _ => False) hg fun _ e => by cases e) ⟨fun h => h, fun h => h, fun h => h⟩
/-- One of the disk's own cells is written. -/
theorem DkIs.turn {w : World} {d b m : Nat} {z y : DkS} (h : DkIs w d b m z) {i : Nat} {u : Value} (hs : y.syn = z.syn) (hw : y.wr = z.wr) (hl : -1 ≤ y.lasts ∧ y.lasts < 9223372036854775808)
    (hc : #[.slice (some ⟨b, 0, none⟩) z.syn.length z.syn.length, .map (some m), .bool z.off, .int .i64 z.lasts].setIfInBounds i u = #[.slice (some ⟨b, 0, none⟩) y.syn.length y.syn.length, .map (some m), .bool y.off, .int .i64 y.lasts]) : DkIs (w.setCell ⟨d, i, none⟩ u) d b m y := by
  have hk : Kept (fun j => j = d) w (w.setCell ⟨d, i, none⟩ u) := (Kept.refl (fun j => j = d) w).set (p := ⟨d, i, none⟩) (.inl rfl) _
  obtain ⟨h1, h2, ⟨D, h3, h4⟩, h5, h6, h7, _, h8⟩ := h
  have hlt := h3.lt
  refine ⟨by rw [← hc]; exact h1.set i u, ?_, ⟨D, ?_, by rw [hw]; exact h4⟩, by rw [hw, hs]; exact h5, by rw [hs]; exact h6, by rw [hs]; exact h7, hl, h8⟩
  · rw [DkS.cells, hs]; exact h2.kept hk (fun e => h8.1 e.symm)
  · obtain ⟨es, clock, hb, F2, hs, hD⟩ := h3
    exact ⟨es, clock, (hk.block m hlt (fun e => h8.2.1 e.symm)).trans hb, F2, hs, hD⟩

theorem dk_size (w : World) (d b m : Nat) (z : DkS) (h : DkIs w d b m z) : Calls Tryd.prog 11 #[.pointer (some ⟨d, 0, none⟩)] w fun e w' => e = .returned (.int .i64 (z.syn.length : Int)) ∧ w' = w := by
  have c0 := h.1.cell 0
  simp only [List.getElem?_toArray, List.getElem?_cons_zero] at c0
  clear h
  go_enter Tryd.func11, Tryd.ntmps11
  go_wp2_with fail
  go_ret
  exact ⟨rfl, rfl⟩
theorem dk_off (w : World) (d b m : Nat) (z : DkS) (h : DkIs w d b m z) : Calls Tryd.prog 23 #[.pointer (some ⟨d, 0, none⟩)] w fun e w' => e = .returned (.bool z.off) ∧ w' = w := by
  have c2 := h.1.cell 2
  simp only [List.getElem?_toArray, List.getElem?_cons_zero, List.getElem?_cons_succ] at c2
  clear h
  go_enter Tryd.func23, Tryd.ntmps23
  go_wp2_with fail
  go_ret
  exact ⟨rfl, rfl⟩
theorem dk_has (w : World) (d b m : Nat) (z : DkS) (h : DkIs w d b m z) (i : Int) : Calls Tryd.prog 28 #[.pointer (some ⟨d, 0, none⟩), .int .i64 i] w fun e w' => e = .returned (.bool (decide (0 ≤ i ∧ i < (z.syn.length : Int)))) ∧ w' = w := by
  have c0 := h.1.cell 0
  simp only [List.getElem?_toArray, List.getElem?_cons_zero] at c0
  clear h
  obtain ⟨n, hn⟩ : ∃ n, z.syn.length = n := ⟨_, rfl⟩
  rw [hn] at c0 ⊢
  clear hn
  by_cases h0 : 0 ≤ i
  · have d0 : decide (0 ≤ i) = true := by simpa using h0
    have hr : decide (0 ≤ i ∧ i < (n : Int)) = decide (i < (n : Int)) := by simp [h0]
    rw [hr]
    clear h0 hr
    go_enter Tryd.func28, Tryd.ntmps28
    go_wp2_with fail
    go_ret
    exact ⟨rfl, rfl⟩
  · have d0 : decide (0 ≤ i) = false := by simpa using h0
    have hr : decide (0 ≤ i ∧ i < (n : Int)) = false := by simp [h0]
    rw [hr]
    clear h0 hr
    go_enter Tryd.func28, Tryd.ntmps28
    go_wp2_with fail
    go_ret
    exact ⟨rfl, rfl⟩
/-- The number of operations is told. -/
def armS (z : DkS) (k : Int) : DkS := { z with lasts := if k < -1 then -1 else k }
theorem dk_arm (w : World) (d b m : Nat) (z : DkS) (h : DkIs w d b m z) (k : Int) (hk : k < 9223372036854775808) : Calls Tryd.prog 17 #[.pointer (some ⟨d, 0, none⟩), .int .i64 k] w fun e w' => e = .returned (.tuple #[]) ∧ DkIs w' d b m (armS z k) ∧ Kept (fun j => j = d) w w' := by
  have c3 := h.1.cell 3
  have f3 := h.1.frozen 3
  simp only [List.getElem?_toArray, List.getElem?_cons_zero, List.getElem?_cons_succ] at c3
  have hfin : DkIs (w.setCell ⟨d, 3, none⟩ (.int .i64 (if k < -1 then -1 else k))) d b m (armS z k) := h.turn (y := armS z k) rfl rfl (by simp only [armS]; split <;> omega) (by simp [armS])
  have HF := Lib.hid (And.intro hfin (show Kept (fun j => j = d) w (w.setCell ⟨d, 3, none⟩ (.int .i64 (if k < -1 then -1 else k))) from (Kept.refl (fun j => j = d) w).set (p := ⟨d, 3, none⟩) (.inl rfl) _))
  clear hfin h
  by_cases h1 : k < -1
  · rw [if_pos h1] at HF
    have d1 : decide (k < -1) = true := by simpa using h1
    go_enter Tryd.func17, Tryd.ntmps17
    go_wp2_with fail
    exact ⟨rfl, _, results_none rfl _ _ _, rfl, HF.out⟩
  · rw [if_neg h1] at HF
    have d1 : decide (k < -1) = false := by simpa using h1
    go_enter Tryd.func17, Tryd.ntmps17
    go_wp2_with fail
    exact ⟨rfl, _, results_none rfl _ _ _, rfl, HF.out⟩
/-- One operation of the power. -/
def opOk (z : DkS) : Bool := !(z.off || z.lasts == 0)
def opS (z : DkS) : DkS := if z.lasts = 0 then { z with off := true } else if z.off then z else if 0 < z.lasts then { z with lasts := z.lasts - 1 } else z
theorem dk_operate (w : World) (d b m B : Nat) (z : DkS) (ep : Addr) (h : DkIs w d b m z) (hB : B ≤ d) (he : ErrAt w B 5 ep) : Calls Tryd.prog 29 #[.pointer (some ⟨d, 0, none⟩)] w fun e w' => e = .returned (if opOk z then .nilIface else errV ep) ∧ DkIs w' d b m (opS z) ∧ Kept (fun j => j = d) w w' := by
  have c3 := h.1.cell 3
  have f3 := h.1.frozen 3
  have c2 := h.1.cell 2
  have f2 := h.1.frozen 2
  have er0 := he.1
  have hkb := he.2
  simp only [List.getElem?_toArray, List.getElem?_cons_zero, List.getElem?_cons_succ] at c3 c2
  have hlb := h.2.2.2.2.2.2.1
  by_cases h0 : z.lasts = 0
  · have e1 : opOk z = false := by simp [opOk, h0]
    have e2 : opS z = { z with off := true } := by simp [opS, h0]
    have hfin : DkIs (w.setCell ⟨d, 2, none⟩ (.bool true)) d b m { z with off := true } := h.turn (y := { z with off := true }) rfl rfl hlb (by simp)
    have er1 : (w.setCell ⟨d, 2, none⟩ (.bool true)).cell? ⟨5, 0, none⟩ = some (errV ep) := (he.below (B' := B) (((Kept.refl (fun j => j = d) w).set (p := ⟨d, 2, none⟩) (.inl rfl) _).below (by have := h.1.lt; omega) (fun k e => by have e : k = d := e; omega)) (Nat.le_refl _)).1
    have c2' := (h.1.set 2 (.bool true)).cell 2
    simp only [List.setIfInBounds_toArray, List.set_cons_succ, List.set_cons_zero, List.getElem?_toArray, List.getElem?_cons_zero, List.getElem?_cons_succ] at c2'
    rw [h0] at c3
    rw [e1, e2]
    have HF := Lib.hid (And.intro hfin (show Kept (fun j => j = d) w (w.setCell ⟨d, 2, none⟩ (.bool true)) from (Kept.refl (fun j => j = d) w).set (p := ⟨d, 2, none⟩) (.inl rfl) _))
    clear hfin h he h0 e1 e2 er0 hkb hlb hB
    go_enter Tryd.func29, Tryd.ntmps29
    go_wp2_with fail
    go_ret
    exact ⟨rfl, HF.out⟩
  have d0 : (z.lasts == 0) = false := by simpa using h0
  obtain ⟨L, hL⟩ : ∃ L, z.lasts = L := ⟨_, rfl⟩
  cases ho : z.off with
  | true =>
    have e1 : opOk z = false := by simp [opOk, ho]
    have e2 : opS z = z := by simp [opS, h0, ho]
    rw [ho] at c2
    rw [e1, e2]
    rw [hL] at c3 d0
    have HF := Lib.hid h
    clear h he h0 e1 e2 hkb hlb hB ho hL
    go_enter Tryd.func29, Tryd.ntmps29
    go_wp2_with fail
    go_ret
    exact ⟨rfl, HF.out, Kept.refl _ _⟩
  | false =>
    have e1 : opOk z = true := by simp [opOk, ho, h0]
    rw [ho] at c2
    rw [e1]
    by_cases h1 : 0 < z.lasts
    · have e2 : opS z = { z with lasts := z.lasts - 1 } := by simp [opS, h0, ho, h1]
      have hfin : DkIs (w.setCell ⟨d, 3, none⟩ (.int .i64 (z.lasts - 1))) d b m { z with lasts := z.lasts - 1 } := h.turn (y := { z with lasts := z.lasts - 1 }) rfl rfl (by simp only; omega) (by simp)
      have HF := Lib.hid (And.intro hfin (show Kept (fun j => j = d) w (w.setCell ⟨d, 3, none⟩ (.int .i64 (z.lasts - 1))) from (Kept.refl (fun j => j = d) w).set (p := ⟨d, 3, none⟩) (.inl rfl) _))
      have d1 : decide (0 < L) = true := by rw [← hL]; simpa using h1
      have hb : 0 < L ∧ L < 9223372036854775808 := by omega
      rw [e2]
      rw [hL] at c3 d0 HF
      rw [hL]
      clear hfin h he h0 e2 e1 er0 hkb hlb hB ho hL h1
      go_enter Tryd.func29, Tryd.ntmps29
      go_wp2_with fail
      go_ret
      exact ⟨rfl, HF.out⟩
    · have e2 : opS z = z := by simp [opS, h0, ho, h1]
      have d1 : decide (0 < L) = false := by rw [← hL]; simpa using h1
      rw [e2]
      rw [hL] at c3 d0
      have HF := Lib.hid h
      clear h he h0 e2 e1 er0 hkb hlb hB ho hL h1
      go_enter Tryd.func29, Tryd.ntmps29
      go_wp2_with fail
      go_ret
      exact ⟨rfl, HF.out, Kept.refl _ _⟩
end Go.Proofs.YtmecimhlnajaoaaDoor
