/-
  The document's disk: its memory; Has, begin, Arm, Write, Read.
-/
import Derived.Test.YtmecimhlnajaoaaDoorDkD
namespace Go.Proofs.YtmecimhlnajaoaaDoor
open Go.RowKit Go.Maps

def dirtyC (wr : List (Option (List Int))) : List Value := wr.map fun o => .bool o.isSome
theorem dirtyC_len (wr : List (Option (List Int))) : (dirtyC wr).length = wr.length := by simp [dirtyC]
theorem dirtyC_at {wr : List (Option (List Int))} {i : Nat} (h : i < wr.length) : (dirtyC wr)[i]? = some (.bool (wr[i].isSome)) := by simp [dirtyC, h]
theorem dirtyC_set (wr : List (Option (List Int))) (i : Nat) (o : Option (List Int)) : dirtyC (wr.set i o) = (dirtyC wr).set i (.bool o.isSome) := by simp [dirtyC, List.map_set]
/-- The document's disk at p: what was synced in s, what was written in u, what isn't synced in v. -/
def MdIs (w : World) (p s u v : Nat) (z : DkS) : Prop :=
  Blk w p 49 #[.slice (some ⟨s, 0, none⟩) z.syn.length z.syn.length, .slice (some ⟨u, 0, none⟩) z.syn.length z.syn.length, .slice (some ⟨v, 0, none⟩) z.syn.length z.syn.length, .bool z.off, .int .i64 z.lasts] ∧
  Blk w s 36 (rowsC z.syn).toArray ∧
  (∃ W, Blk w u 36 (rowsC W).toArray ∧ W.length = z.syn.length ∧ (∀ r ∈ W, r.length = 64) ∧ ∀ (i : Nat) (r : List Int), z.wr[i]? = some (some r) → W[i]? = some r) ∧
  Blk w v 4 (dirtyC z.wr).toArray ∧ z.wr.length = z.syn.length ∧ (∀ r ∈ z.syn, r.length = 64) ∧ (1 ≤ z.syn.length ∧ z.syn.length ≤ 4096) ∧ (-1 ≤ z.lasts ∧ z.lasts < 9223372036854775808) ∧
  (p ≠ s ∧ p ≠ u ∧ p ≠ v ∧ s ≠ u ∧ s ≠ v ∧ u ≠ v)
theorem MdIs.kept {w w' : World} {p s u v : Nat} {z : DkS} {F : Nat → Prop} (h : MdIs w p s u v z) (hk : Kept F w w') (hF : ¬ F p ∧ ¬ F s ∧ ¬ F u ∧ ¬ F v) : MdIs w' p s u v z := by
  obtain ⟨h1, h2, ⟨W, h3, h4⟩, h5, h6⟩ := h
  exact ⟨h1.kept hk hF.1, h2.kept hk hF.2.1, ⟨W, h3.kept hk hF.2.2.1, h4⟩, h5.kept hk hF.2.2.2, h6⟩
theorem MdIs.grown {w w' : World} {p s u v : Nat} {z : DkS} (h : MdIs w p s u v z) (hg : w.grownBy w' none) : MdIs w' p s u v z :=
  h.kept (Kept.of_grown (F := fun _ => False) hg fun _ e => by cases e) ⟨fun h => h, fun h => h, fun h => h, fun h => h⟩
/-- The disk's own cells are written. -/
theorem MdIs.turnB {w w' : World} {p s u v : Nat} {z y : DkS} (h : MdIs w p s u v z) (hk : Kept (fun j => j = p) w w') (hs : y.syn = z.syn) (hw : y.wr = z.wr) (hl : -1 ≤ y.lasts ∧ y.lasts < 9223372036854775808)
    (hb : Blk w' p 49 #[.slice (some ⟨s, 0, none⟩) y.syn.length y.syn.length, .slice (some ⟨u, 0, none⟩) y.syn.length y.syn.length, .slice (some ⟨v, 0, none⟩) y.syn.length y.syn.length, .bool y.off, .int .i64 y.lasts]) : MdIs w' p s u v y := by
  obtain ⟨h1, h2, ⟨W, h3, h4⟩, h5, h6, h7, h8, h9, ne⟩ := h
  exact ⟨hb, by rw [hs]; exact h2.kept hk (fun e => ne.1 e.symm), ⟨W, h3.kept hk (fun e => ne.2.1 e.symm), by rw [hs, hw]; exact h4⟩, by rw [hw]; exact h5.kept hk (fun e => ne.2.2.1 e.symm), by rw [hs, hw]; exact h6, by rw [hs]; exact h7, by rw [hs]; exact h8, hl, ne⟩
theorem MdIs.turn {w : World} {p s u v : Nat} {z y : DkS} (h : MdIs w p s u v z) {i : Nat} {c : Value} (hs : y.syn = z.syn) (hw : y.wr = z.wr) (hl : -1 ≤ y.lasts ∧ y.lasts < 9223372036854775808)
    (hc : #[.slice (some ⟨s, 0, none⟩) z.syn.length z.syn.length, .slice (some ⟨u, 0, none⟩) z.syn.length z.syn.length, .slice (some ⟨v, 0, none⟩) z.syn.length z.syn.length, .bool z.off, .int .i64 z.lasts].setIfInBounds i c = #[.slice (some ⟨s, 0, none⟩) y.syn.length y.syn.length, .slice (some ⟨u, 0, none⟩) y.syn.length y.syn.length, .slice (some ⟨v, 0, none⟩) y.syn.length y.syn.length, .bool y.off, .int .i64 y.lasts]) : MdIs (w.setCell ⟨p, i, none⟩ c) p s u v y :=
  h.turnB ((Kept.refl (fun j => j = p) w).set (p := ⟨p, i, none⟩) (.inl rfl) _) hs hw hl (by rw [← hc]; exact h.1.set i c)
/-- A sector is synced. -/
theorem MdIs.row {w : World} {p s u v : Nat} {z : DkS} (h : MdIs w p s u v z) {k : Nat} (hk : k < z.syn.length) {r : List Int} (hr : r.length = 64) : MdIs (w.setCells s (k * 64) (r.map (Value.int .u8))) p s u v { z with syn := z.syn.set k r } := by
  have hg : w.grownBy (w.setCells s (k * 64) (r.map (Value.int .u8))) (some s) := grown_cells s _ _ _ (World.grownBy.refl w _)
  obtain ⟨h1, h2, ⟨W, h3, h4⟩, h5, h6, h7, h8, h9, ne⟩ := h
  have hkk : Kept (fun j => j = s) w (w.setCells s (k * 64) (r.map (Value.int .u8))) := Kept.of_grown hg (fun j e => (Option.some.inj e).symm)
  have hb : Blk (w.setCells s (k * 64) (r.map (Value.int .u8))) s 36 (rowsC (z.syn.set k r)).toArray := by
    rw [rowsC_set z.syn h7 k hk r hr]
    exact blk_setCells s _ _ (k * 64) _ _ h2 (by rw [rowsC_len _ h7, List.length_map]; omega)
  refine ⟨by simpa using h1.kept hkk ne.1, hb, ⟨W, h3.kept hkk (fun e => ne.2.2.2.1 e.symm), h4.1.trans (List.length_set ..).symm, h4.2.1, h4.2.2⟩, h5.kept hkk (fun e => ne.2.2.2.2.1 e.symm), by simpa using h6, fun r' hr' => ?_, by simpa using h8, h9, ne⟩
  rcases List.mem_or_eq_of_mem_set hr' with h | rfl
  · exact h7 _ h
  · exact hr
/-- A sector isn't to be synced any more. -/
theorem MdIs.clean {w : World} {p s u v : Nat} {z : DkS} (h : MdIs w p s u v z) (k : Nat) : MdIs (w.setCell ⟨v, k, none⟩ (.bool false)) p s u v { z with wr := z.wr.set k none } := by
  have hk : Kept (fun j => j = v) w (w.setCell ⟨v, k, none⟩ (.bool false)) := (Kept.refl (fun j => j = v) w).set (p := ⟨v, k, none⟩) (.inl rfl) _
  obtain ⟨h1, h2, ⟨W, h3, h4, h4a, h4b⟩, h5, h6, h7, h8, h9, ne⟩ := h
  refine ⟨h1.kept hk ne.2.2.1, h2.kept hk ne.2.2.2.2.1, ⟨W, h3.kept hk ne.2.2.2.2.2, h4, h4a, fun i r hi => ?_⟩, ?_, by simpa using h6, h7, h8, h9, ne⟩
  · refine h4b i r ?_
    have hi : (z.wr.set k none)[i]? = some (some r) := hi
    rw [List.getElem?_set] at hi
    split at hi
    · split at hi <;> simp at hi
    · exact hi
  · have := h5.set k (.bool false)
    rw [List.setIfInBounds_toArray] at this
    show Blk _ v _ (dirtyC (z.wr.set k none)).toArray
    rw [dirtyC_set]
    exact this
/-- A sector is written. -/
theorem MdIs.put {w : World} {p s u v : Nat} {z : DkS} (h : MdIs w p s u v z) {k : Nat} (hk : k < z.syn.length) {r : List Int} (hr : r.length = 64) : MdIs ((w.setCells u (k * 64) (r.map (Value.int .u8))).setCell ⟨v, k, none⟩ (.bool true)) p s u v (wrS z k r) := by
  have hg : w.grownBy (w.setCells u (k * 64) (r.map (Value.int .u8))) (some u) := grown_cells u _ _ _ (World.grownBy.refl w _)
  obtain ⟨h1, h2, ⟨W, h3, h4, h4a, h4b⟩, h5, h6, h7, h8, h9, ne⟩ := h
  have hkk : Kept (fun j => j = u ∨ j = v) w ((w.setCells u (k * 64) (r.map (Value.int .u8))).setCell ⟨v, k, none⟩ (.bool true)) := (Kept.of_grown (F := fun j => j = u ∨ j = v) hg (fun j e => .inl (Option.some.inj e).symm)).set (p := ⟨v, k, none⟩) (.inl (.inr rfl)) _
  have hk1 : Kept (fun j => j = u) w (w.setCells u (k * 64) (r.map (Value.int .u8))) := Kept.of_grown hg (fun j e => (Option.some.inj e).symm)
  have hb : Blk (w.setCells u (k * 64) (r.map (Value.int .u8))) u 36 (rowsC (W.set k r)).toArray := by
    rw [rowsC_set W h4a k (by omega) r hr]
    exact blk_setCells u _ _ (k * 64) _ _ h3 (by rw [rowsC_len _ h4a, List.length_map]; omega)
  refine ⟨h1.kept hkk (by omega), h2.kept hkk (by omega), ⟨W.set k r, hb.far ne.2.2.2.2.2 _, (List.length_set ..).trans h4, fun r' hr' => ?_, fun i r' hi => ?_⟩, ?_, by simpa [wrS] using h6, h7, h8, h9, ne⟩
  · rcases List.mem_or_eq_of_mem_set hr' with h | rfl
    · exact h4a _ h
    · exact hr
  · have hi2 : (z.wr.set k (some r))[i]? = some (some r') := hi
    clear hi
    rw [List.getElem?_set] at hi2 ⊢
    by_cases e : k = i
    · rw [if_pos e, if_pos (by omega)] at hi2
      rw [if_pos e, if_pos (by omega)]
      exact Option.some.inj hi2
    · rw [if_neg e] at hi2
      rw [if_neg e]
      exact h4b i r' hi2
  · have := (h5.kept hk1 (fun e => ne.2.2.2.2.2 e.symm)).set k (.bool true)
    rw [List.setIfInBounds_toArray] at this
    show Blk _ v _ (dirtyC (z.wr.set k (some r))).toArray
    rw [dirtyC_set]
    exact this
theorem md_has (w : World) (p s u v : Nat) (z : DkS) (h : MdIs w p s u v z) (i : Int) : Calls Tryd.prog 30 #[.pointer (some ⟨p, 0, none⟩), .int .i64 i] w fun e w' => e = .returned (.bool (inR z i)) ∧ w' = w := by
  have c0 := h.1.cell 0
  simp only [List.getElem?_toArray, List.getElem?_cons_zero] at c0
  clear h
  rw [inR]
  obtain ⟨n, hn⟩ : ∃ n, z.syn.length = n := ⟨_, rfl⟩
  rw [hn] at c0 ⊢
  clear hn
  by_cases h0 : 0 ≤ i
  · have d0 : decide (0 ≤ i) = true := by simpa using h0
    have hr : decide (0 ≤ i ∧ i < (n : Int)) = decide (i < (n : Int)) := by simp [h0]
    rw [hr]
    clear h0 hr
    go_enter Tryd.func30, Tryd.ntmps30
    go_wp2_with fail
    go_ret
    exact ⟨rfl, rfl⟩
  · have d0 : decide (0 ≤ i) = false := by simpa using h0
    have hr : decide (0 ≤ i ∧ i < (n : Int)) = false := by simp [h0]
    rw [hr]
    clear h0 hr
    go_enter Tryd.func30, Tryd.ntmps30
    go_wp2_with fail
    go_ret
    exact ⟨rfl, rfl⟩
theorem md_arm (w : World) (p s u v : Nat) (z : DkS) (h : MdIs w p s u v z) (k : Int) (hk : k < 9223372036854775808) : Calls Tryd.prog 18 #[.pointer (some ⟨p, 0, none⟩), .int .i64 k] w fun e w' => e = .returned (.tuple #[]) ∧ MdIs w' p s u v (armS z k) ∧ Kept (fun j => j = p) w w' := by
  have c4 := h.1.cell 4
  have f4 := h.1.frozen 4
  simp only [List.getElem?_toArray, List.getElem?_cons_zero, List.getElem?_cons_succ] at c4
  by_cases h1 : k < 0
  · have hfin : MdIs ((w.setCell ⟨p, 4, none⟩ (.int .i64 k)).setCell ⟨p, 4, none⟩ (.int .i64 (-1))) p s u v (armS z k) := by
      have e : armS z k = { z with lasts := -1 } := by simp only [armS]; congr 1; split <;> omega
      rw [e]
      refine h.turnB (y := { z with lasts := -1 }) (((Kept.refl (fun j => j = p) w).set (p := ⟨p, 4, none⟩) (.inl rfl) _).set (p := ⟨p, 4, none⟩) (.inl rfl) _) rfl rfl (by simp) ?_
      have hb := (h.1.set 4 (.int .i64 k)).set 4 (.int .i64 (-1))
      simpa using hb
    have d1 : decide (k < 0) = true := by simpa using h1
    have HF := Lib.hid (And.intro hfin (show Kept (fun j => j = p) w ((w.setCell ⟨p, 4, none⟩ (.int .i64 k)).setCell ⟨p, 4, none⟩ (.int .i64 (-1))) from ((Kept.refl (fun j => j = p) w).set (p := ⟨p, 4, none⟩) (.inl rfl) _).set (p := ⟨p, 4, none⟩) (.inl rfl) _))
    clear hfin h
    go_enter Tryd.func18, Tryd.ntmps18
    go_wp2_with fail
    exact ⟨rfl, _, results_none rfl _ _ _, rfl, HF.out⟩
  · have hfin : MdIs (w.setCell ⟨p, 4, none⟩ (.int .i64 k)) p s u v (armS z k) := h.turn (y := armS z k) rfl rfl (by simp only [armS]; split <;> omega) (by simp [armS]; omega)
    have d1 : decide (k < 0) = false := by simpa using h1
    have HF := Lib.hid (And.intro hfin (show Kept (fun j => j = p) w (w.setCell ⟨p, 4, none⟩ (.int .i64 k)) from (Kept.refl (fun j => j = p) w).set (p := ⟨p, 4, none⟩) (.inl rfl) _))
    clear hfin h
    go_enter Tryd.func18, Tryd.ntmps18
    go_wp2_with fail
    exact ⟨rfl, _, results_none rfl _ _ _, rfl, HF.out⟩
/-- The number of an answer's error. -/
def nE : Nat → Int
  | 0 => 0
  | 1 => 1
  | _ => 6
theorem md_begin (w : World) (p s u v : Nat) (z : DkS) (h : MdIs w p s u v z) : Calls Tryd.prog 31 #[.pointer (some ⟨p, 0, none⟩)] w fun e w' => e = .returned (.int .i64 (if opOk z then 0 else 6)) ∧ MdIs w' p s u v (opS z) ∧ Kept (fun j => j = p) w w' := by
  have c4 := h.1.cell 4
  have f4 := h.1.frozen 4
  have c3 := h.1.cell 3
  have f3 := h.1.frozen 3
  simp only [List.getElem?_toArray, List.getElem?_cons_zero, List.getElem?_cons_succ] at c4 c3
  have hlb := h.2.2.2.2.2.2.2.1
  by_cases h0 : z.lasts = 0
  · have e1 : opOk z = false := by simp [opOk, h0]
    have e2 : opS z = { z with off := true } := by simp [opS, h0]
    have hfin : MdIs (w.setCell ⟨p, 3, none⟩ (.bool true)) p s u v { z with off := true } := h.turn (y := { z with off := true }) rfl rfl hlb (by simp)
    have c3' := (h.1.set 3 (.bool true)).cell 3
    simp only [List.setIfInBounds_toArray, List.set_cons_succ, List.set_cons_zero, List.getElem?_toArray, List.getElem?_cons_zero, List.getElem?_cons_succ] at c3'
    rw [h0] at c4
    rw [e1, e2]
    have HF := Lib.hid (And.intro hfin (show Kept (fun j => j = p) w (w.setCell ⟨p, 3, none⟩ (.bool true)) from (Kept.refl (fun j => j = p) w).set (p := ⟨p, 3, none⟩) (.inl rfl) _))
    clear hfin h h0 e1 e2 hlb
    go_enter Tryd.func31, Tryd.ntmps31
    go_wp2_with fail
    go_ret
    exact ⟨rfl, HF.out⟩
  have d0 : (z.lasts == 0) = false := by simpa using h0
  obtain ⟨L, hL⟩ : ∃ L, z.lasts = L := ⟨_, rfl⟩
  cases ho : z.off with
  | true =>
    have e1 : opOk z = false := by simp [opOk, ho]
    have e2 : opS z = z := by simp [opS, h0, ho]
    rw [ho] at c3
    rw [e1, e2]
    rw [hL] at c4 d0
    have HF := Lib.hid h
    clear h h0 e1 e2 hlb ho hL
    go_enter Tryd.func31, Tryd.ntmps31
    go_wp2_with fail
    go_ret
    exact ⟨rfl, HF.out, Kept.refl _ _⟩
  | false =>
    have e1 : opOk z = true := by simp [opOk, ho, h0]
    rw [ho] at c3
    rw [e1]
    by_cases h1 : 0 < z.lasts
    · have e2 : opS z = { z with lasts := z.lasts - 1 } := by simp [opS, h0, ho, h1]
      have hfin : MdIs (w.setCell ⟨p, 4, none⟩ (.int .i64 (z.lasts - 1))) p s u v { z with lasts := z.lasts - 1 } := h.turn (y := { z with lasts := z.lasts - 1 }) rfl rfl (by simp only; omega) (by simp)
      have HF := Lib.hid (And.intro hfin (show Kept (fun j => j = p) w (w.setCell ⟨p, 4, none⟩ (.int .i64 (z.lasts - 1))) from (Kept.refl (fun j => j = p) w).set (p := ⟨p, 4, none⟩) (.inl rfl) _))
      have d1 : decide (0 < L) = true := by rw [← hL]; simpa using h1
      have hb : 0 < L ∧ L < 9223372036854775808 := by omega
      rw [e2]
      rw [hL] at c4 d0 HF
      rw [hL]
      clear hfin h h0 e2 e1 hlb ho hL h1
      go_enter Tryd.func31, Tryd.ntmps31
      go_wp2_with fail
      go_ret
      exact ⟨rfl, HF.out⟩
    · have e2 : opS z = z := by simp [opS, h0, ho, h1]
      have d1 : decide (0 < L) = false := by rw [← hL]; simpa using h1
      rw [e2]
      rw [hL] at c4 d0
      have HF := Lib.hid h
      clear h h0 e2 e1 hlb ho hL
      go_enter Tryd.func31, Tryd.ntmps31
      go_wp2_with fail
      go_ret
      exact ⟨rfl, HF.out, Kept.refl _ _⟩
end Go.Proofs.YtmecimhlnajaoaaDoor
