/-
  Disk: Write.
-/
import Derived.Test.YtmecimhlnajaoaaDoorDkM
import Derived.Deep.MidRow
import Derived.Maps.OwnSet
namespace Go.Proofs.YtmecimhlnajaoaaDoor
open Go.RowKit Go.Maps

def wrS (z : DkS) (k : Nat) (r : List Int) : DkS := { z with wr := z.wr.set k (some r) }
theorem keyed_i : Keyed Tryd.prog 3 := int_keyed Tryd.underlying3
theorem range_of_blk {w : World} {g : Nat} {t : TypeId} {cs : Array Value} (h : Blk w g t cs) : w.rangeAt g 0 cs.toList := fun j v hv => by
  rw [Nat.zero_add, h.cell, ← Array.getElem?_toList]; exact hv
/-- A write into the map. -/
theorem dk_put (w : World) (d b m : Nat) (z : DkS) (h : DkIs w d b m z) (k : Nat) (hk : k < z.syn.length) (r : List Int) (hr : r.length = 64) : ∃ w', (Instr.mapUpdate 60 (.map (some m)) (.int .i64 (k : Int)) (secV r)).run Tryd.prog w = .ok () w' ∧ DkIs w' d b m (wrS z k r) ∧ Kept (fun j => j = m) w w' := by
  obtain ⟨h1, h2, ⟨D, h3, h4⟩, h5, h6, h7, h8, h9⟩ := h
  have hw : (Lit.int .i64 (k : Int)).wf = true := WalkArith.wf_i64 (by omega)
  have ht := own_tight h3
  have hsz := size_dirty h3 keyed_i Tryd.underlying3 h4
  obtain ⟨w', hrun, hown, hturn⟩ := ht.store keyed_i Tryd.underlying60 (by unfold maxLen; omega) (keyOf_int_mk Tryd.underlying3 hw) (secR_mk hr)
  have hkk : Kept (fun j => j = m) w w' := Kept.of_grown (F := fun j => j = m) hturn.grown (fun j e => (Option.some.inj e).symm)
  refine ⟨w', hrun, ⟨h1.kept hkk (fun e => h9.2.1 e), h2.kept hkk (fun e => h9.2.2 e), ⟨_, hown.mono (by omega), mapOf_put h4 (by omega) r⟩, by simp [wrS, h5], h6, h7, h8, h9⟩, hkk⟩
set_option maxRecDepth 100000 in
set_option maxHeartbeats 1000000 in
theorem dk_write (w : World) (d b m B : Nat) (z : DkS) (h : DkIs w d b m z) (i : Int) (r : List Int) (hr : r.length = 64) (er ep : Addr) (hB : B ≤ d) (hBm : B ≤ m) (her : ErrAt w B 0 er) (hep : ErrAt w B 5 ep) :
    Calls Tryd.prog 13 #[.pointer (some ⟨d, 0, none⟩), .int .i64 i, secV r] w fun e w' => Kept (fun j => j = d ∨ j = m) w w' ∧
      ((¬ (0 ≤ i ∧ i < (z.syn.length : Int)) ∧ e = .returned (errV er) ∧ DkIs w' d b m z) ∨
       (∃ k : Nat, i = (k : Int) ∧ k < z.syn.length ∧ ((opOk z = false ∧ e = .returned (errV ep) ∧ DkIs w' d b m (opS z)) ∨ (opOk z = true ∧ e = .returned .nilIface ∧ DkIs w' d b m (wrS (opS z) k r))))) := by
  obtain ⟨cs, hcs⟩ : ∃ cs, (r.map (Value.int .u8)).toArray = cs := ⟨_, rfl⟩
  have hsz : cs.size = 64 := by rw [← hcs]; simpa using hr
  have hsec : secV r = .agg cs := by rw [secV, hcs]
  obtain ⟨w0, hw0⟩ : ∃ w0, w.alloc (.cells cs 36) = w0 := ⟨_, rfl⟩
  have g0 : w.grownBy w0 none := by rw [← hw0]; exact World.grownBy_alloc _ _ none
  have b0 : Blk w0 w.heap.size 36 cs := by rw [← hw0]; exact Blk.new _ _ _
  have HS := Lib.hid (And.intro hsz (And.intro hsec (And.intro (h.grown g0) (And.intro g0 (And.intro b0 (And.intro hr (And.intro hB (And.intro hBm (And.intro (her.grown g0 (by simp)) (And.intro (hep.grown g0 (by simp)) (And.intro h.1.lt (by obtain ⟨D, hD, _⟩ := h.2.2.1; exact hD.lt))))))))))))
  have er0 := (her.grown g0 (by simp)).1
  have HH := Lib.hid (dk_has w0 d b m z (h.grown g0) i)
  rw [hsec]
  clear hcs hsec h her hep hr hB hBm g0 b0
  go_enter Tryd.func13, Tryd.ntmps13
  go_wp2_with fail
  (try rw [hw0])
  refine HH.out.mono ?_
  rintro e w1 ⟨rfl, hw1⟩
  obtain rfl : w0 = w1 := hw1.symm
  by_cases hi : 0 ≤ i ∧ i < (z.syn.length : Int)
  · obtain ⟨k, rfl⟩ : ∃ k : Nat, i = (k : Int) := ⟨i.toNat, by omega⟩
    have hk : k < z.syn.length := by omega
    have d1 : decide (0 ≤ (k : Int) ∧ (k : Int) < (z.syn.length : Int)) = true := by simp; omega
    rw [d1]
    have HI := Lib.hid hk
    have HOP := Lib.hid (dk_operate w0 d b m B z ep HS.out.2.2.1 HS.out.2.2.2.2.2.2.1 HS.out.2.2.2.2.2.2.2.2.2.1)
    clear d1 hi hk er0
    go_wp2_with fail
    refine HOP.out.mono ?_
    rintro e w2 ⟨rfl, h2, k2⟩
    have hk02 : Kept (fun j => j = d ∨ j = m) w w2 := (Kept.of_grown (F := fun j => j = d ∨ j = m) HS.out.2.2.2.1 (fun _ e => by cases e)).next k2 (fun j _ h => .inl h)
    cases ho : opOk z with
    | false =>
      have HF := Lib.hid (And.intro hk02 h2)
      clear hk02 h2 k2
      simp only [Bool.false_eq_true, if_false]
      go_wp2_with fail
      go_ret
      exact ⟨HF.out.1, .inr ⟨k, rfl, HI.out, .inl ⟨ho, rfl, HF.out.2⟩⟩⟩
    | true =>
      have hb2 : Blk w2 w.heap.size 36 cs := HS.out.2.2.2.2.1.kept k2 (fun e => by have e : w.heap.size = d := e; have := HS.out.2.2.2.2.2.2.2.2.2.2.1; omega)
      have g0 := grown_drew (World.grownBy.refl w2 none)
      obtain ⟨V2, hV2⟩ : ∃ V2, w2.drew = V2 := ⟨_, rfl⟩
      rw [hV2] at g0
      have hV := h2.grown g0
      have hsl : (opS z).syn = z.syn := by unfold opS; split <;> (try split) <;> (try split) <;> rfl
      obtain ⟨w3, hmu, h3, k3⟩ := dk_put V2 d b m (opS z) hV k (by rw [hsl]; exact HI.out) r HS.out.2.2.2.2.2.1
      rw [HS.out.2.1] at hmu
      have hbV := hb2.grown g0 (by simp)
      have hb3 := hbV.kept k3 (fun e => by have e : w.heap.size = m := e; have := HS.out.2.2.2.2.2.2.2.2.2.2.2; omega)
      have hs : ∀ Y, DkIs Y d b m (opS z) → Blk Y w.heap.size 36 cs → Y.cell? ⟨d, 1, none⟩ = some (.map (some m)) ∧ Y.rangeAt w.heap.size 0 cs.toList := fun Y h1 h2 => ⟨h1.1.cell 1, range_of_blk h2⟩
      have hS2 := hs V2 hV hbV
      have HM3 := Lib.hid (And.intro (show w3.cell? ⟨d, 1, none⟩ = some (.map (some m)) ∧ w3.rangeAt w.heap.size 0 cs.toList from ⟨h3.1.cell 1, range_of_blk hb3⟩) (And.intro h3 ((hk02.next (Kept.of_grown (F := fun _ => False) g0 fun _ e => by cases e) (fun _ _ h => h.elim)).next k3 (fun j _ h => .inr h))))
      have HS2 := Lib.hid hS2
      clear hs hS2 h3 k3 hb3 hbV hsl hV g0 hb2 hk02 h2 k2
      simp only [if_true]
      go_wp2_with fail
      refine wp_region_held_drew (S := fun Y => Y.cell? ⟨d, 1, none⟩ = some (.map (some m)) ∧ Y.rangeAt w.heap.size 0 cs.toList) (by kernel_rfl) (by rw [hV2]; exact HS2.out) (fun hHeld => ?_)
      rw [hV2] at hHeld ⊢
      refine wpAnyH_take (i := 0) (oi := _) (v := ?vw0) rfl (by kernel_rfl) (by kernel_rfl) (by kernel_rfl) (fun _ _ _ h => h) (Or.inl ⟨by rfl, ?hyw0⟩) (by assumption) ?restw0
      case hyw0 => (intro V hSw; (try dsimp only at hSw); go_simp) <;> with_reducible rfl
      try simp only [Act.put, List.getElem_toArray, List.getElem_cons_succ, List.getElem_cons_zero, List.setIfInBounds_toArray, List.set_cons_zero, List.set_cons_succ]
      refine wpAnyH_take (i := 1) (oi := _) (v := ?vw1) rfl (by kernel_rfl) (by kernel_rfl) (by kernel_rfl) (fun _ _ _ h => h) (Or.inl ⟨by rfl, ?hyw1⟩) (by assumption) ?restw1
      case hyw1 => (intro V hSw; (try dsimp only at hSw); go_simp) <;> with_reducible rfl
      try simp only [Act.put, List.getElem_toArray, List.getElem_cons_succ, List.getElem_cons_zero, List.setIfInBounds_toArray, List.set_cons_zero, List.set_cons_succ]
      refine wpAnyH_take (i := 2) (oi := _) (v := ?vw2) rfl (by kernel_rfl) (by kernel_rfl) (by kernel_rfl) (fun _ _ _ h => h) (Or.inl ⟨by rfl, ?hyw2⟩) (by assumption) ?restw2
      case hyw2 => (intro V hSw; (try dsimp only at hSw); go_simp) <;> with_reducible rfl
      try simp only [Act.put, List.getElem_toArray, List.getElem_cons_succ, List.getElem_cons_zero, List.setIfInBounds_toArray, List.set_cons_zero, List.set_cons_succ]
      refine wpAnyH_take (i := 3) (oi := _) (v := ?vw3) rfl (by kernel_rfl) (by kernel_rfl) (by kernel_rfl) (fun _ _ _ h => h) (Or.inl ⟨by rfl, ?hyw3⟩) (by assumption) ?restw3
      case hyw3 => (intro V hSw; (try dsimp only at hSw); go_simp) <;> with_reducible rfl
      try simp only [Act.put, List.getElem_toArray, List.getElem_cons_succ, List.getElem_cons_zero, List.setIfInBounds_toArray, List.set_cons_zero, List.set_cons_succ]
      refine wpAnyH_take (i := 4) (oi := _) (v := ?vw4) rfl (by kernel_rfl) (by kernel_rfl) (by kernel_rfl) (fun _ _ _ h => h) (Or.inl ⟨by rfl, ?hyw4⟩) (by assumption) ?restw4
      case hyw4 => (intro V hSw; (try dsimp only at hSw); go_simp) <;> with_reducible rfl
      try simp only [Act.put, List.getElem_toArray, List.getElem_cons_succ, List.getElem_cons_zero, List.setIfInBounds_toArray, List.set_cons_zero, List.set_cons_succ]
      refine wpAnyH_take (i := 5) (oi := _) (v := .agg cs) rfl (by kernel_rfl) (by kernel_rfl) (by kernel_rfl) (fun _ _ _ h => h) (yieldsIf_load_mid (by rfl) _ _ rfl w.heap.size 0 rfl cs.toList _ (fun V hSw => hSw.2) Tryd.underlying36 rfl (by rw [Array.length_toList, HS.out.1]; kernel_rfl)) (by assumption) ?restw5
      try simp only [Act.put, List.getElem_toArray, List.getElem_cons_succ, List.getElem_cons_zero, List.setIfInBounds_toArray, List.set_cons_zero, List.set_cons_succ]
      refine wpAnyH_ready (rs := [6]) (by kernel_rfl) (by simp) ?_
      refine (AllReadyH.cons (o := _) rfl (fun K9 hK => ?_) AllReadyH.nil)
      go_simp
      refine hK.out _ _ (HM3.out.1) (fun hHeld => ?_)
      clear hK K9
      try simp only [Act.put, List.getElem_toArray, List.getElem_cons_succ, List.getElem_cons_zero, List.setIfInBounds_toArray, List.set_cons_zero, List.set_cons_succ]
      refine wpAnyH_done (by kernel_rfl) ?_ _
      go_wp2_with fail
      go_ret
      exact ⟨HM3.out.2.2, .inr ⟨k, rfl, HI.out, .inr ⟨ho, rfl, HM3.out.2.1⟩⟩⟩
  · have d1 : decide (0 ≤ i ∧ i < (z.syn.length : Int)) = false := by simpa using hi
    rw [d1]
    have HI := Lib.hid hi
    clear d1 hi
    go_wp2_with fail
    go_ret
    exact ⟨Kept.of_grown (F := fun j => j = d ∨ j = m) HS.out.2.2.2.1 (fun _ e => by cases e), .inl ⟨HI.out, rfl, HS.out.2.2.1⟩⟩
end Go.Proofs.YtmecimhlnajaoaaDoor
