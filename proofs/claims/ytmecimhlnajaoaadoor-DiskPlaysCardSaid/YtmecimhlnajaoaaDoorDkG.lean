/-
  The document's disk: Write, Read, Unsynced.
-/
import Derived.Test.YtmecimhlnajaoaaDoorDkF
namespace Go.Proofs.YtmecimhlnajaoaaDoor
open Go.RowKit Go.Maps

theorem opS_syn (z : DkS) : (opS z).syn = z.syn := by unfold opS; split <;> (try split) <;> (try split) <;> rfl
theorem opS_wr (z : DkS) : (opS z).wr = z.wr := by unfold opS; split <;> (try split) <;> (try split) <;> rfl
set_option maxRecDepth 100000 in
set_option maxHeartbeats 1000000 in
theorem md_write (w : World) (p s u v : Nat) (z : DkS) (h : MdIs w p s u v z) (i : Int) (r : List Int) (hr : r.length = 64) :
    Calls Tryd.prog 14 #[.pointer (some ⟨p, 0, none⟩), .int .i64 i, secV r] w fun e w' => e = .returned (.int .i64 (nE (wE z i))) ∧ MdIs w' p s u v (wS z i r) ∧ Kept (fun j => j = p ∨ j = u ∨ j = v) w w' := by
  obtain ⟨cs, hcs⟩ : ∃ cs, (r.map (Value.int .u8)).toArray = cs := ⟨_, rfl⟩
  have hsz : cs.size = 64 := by rw [← hcs]; simpa using hr
  have hone : cs.all (·.oneCell') = true := by rw [← hcs]; simp [Array.all_eq_true_iff_forall_mem, Value.oneCell']
  have hcl : r.map (Value.int .u8) = cs.toList := by rw [← hcs]
  have hsec : secV r = .agg cs := by rw [secV, hcs]
  obtain ⟨w0, hw0⟩ : ∃ w0, w.alloc (.cells cs 36) = w0 := ⟨_, rfl⟩
  have g0 : w.grownBy w0 none := by rw [← hw0]; exact World.grownBy_alloc _ _ none
  have b0 : Blk w0 w.heap.size 36 cs := by rw [← hw0]; exact Blk.new _ _ _
  have HS := Lib.hid (And.intro hsz (And.intro hsec (And.intro (h.grown g0) (And.intro g0 (And.intro b0 (And.intro hr (And.intro hcl (And.intro hone (show p < w.heap.size ∧ s < w.heap.size ∧ u < w.heap.size ∧ v < w.heap.size by obtain ⟨W, hW, _⟩ := h.2.2.1; exact ⟨h.1.lt, h.2.1.lt, hW.lt, h.2.2.2.1.lt⟩)))))))))
  have HH := Lib.hid (md_has w0 p s u v z (h.grown g0) i)
  rw [hsec]
  clear hcs hsec h hr g0 b0 hone hcl
  go_enter Tryd.func14, Tryd.ntmps14
  go_wp2_with fail
  (try rw [hw0])
  refine HH.out.mono ?_
  rintro e w1 ⟨rfl, hw1⟩
  obtain rfl : w0 = w1 := hw1.symm
  cases hi : inR z i with
  | true =>
    obtain ⟨k, rfl, hk⟩ : ∃ k : Nat, i = (k : Int) ∧ k < z.syn.length := by
      have hi2 : 0 ≤ i ∧ i < (z.syn.length : Int) := by simpa [inR] using hi
      exact ⟨i.toNat, by omega, by omega⟩
    have HI := Lib.hid (And.intro hi hk)
    have HOP := Lib.hid (md_begin w0 p s u v z HS.out.2.2.1)
    clear hi hk
    go_wp2_with fail
    refine HOP.out.mono ?_
    rintro e w2 ⟨rfl, h2, k2⟩
    have hk02 : Kept (fun j => j = p ∨ j = u ∨ j = v) w w2 := (Kept.of_grown (F := fun j => j = p ∨ j = u ∨ j = v) HS.out.2.2.2.1 (fun _ e => by cases e)).next k2 (fun j _ h => .inl h)
    cases ho : opOk z with
    | false =>
      have e1 : wE z (k : Int) = 2 := by simp [wE, HI.out.1, ho]
      have e2 : wS z (k : Int) r = opS z := by simp [wS, HI.out.1, ho]
      have HF := Lib.hid (And.intro (by rw [e1]; rfl : (6 : Int) = nE (wE z (k : Int))) (And.intro (by rw [e2]; exact h2 : MdIs w2 p s u v (wS z (k : Int) r)) hk02))
      clear hk02 h2 k2 e1 e2
      simp only [Bool.false_eq_true, if_false]
      go_wp2_with fail
      go_ret
      exact ⟨by rw [← HF.out.1]; rfl, HF.out.2⟩
    | true =>
      have e1 : wE z (k : Int) = 0 := by simp [wE, HI.out.1, ho]
      have e2 : wS z (k : Int) r = wrS (opS z) k r := by simp [wS, HI.out.1, ho]
      have HE := Lib.hid (And.intro e1 e2)
      have hb2 : Blk w2 w.heap.size 36 cs := HS.out.2.2.2.2.1.kept k2 (fun e => by have e : w.heap.size = p := e; have := HS.out.2.2.2.2.2.2.2.2.1; omega)
      have g0 := grown_drew (World.grownBy.refl w2 none)
      obtain ⟨V2, hV2⟩ : ∃ V2, w2.drew = V2 := ⟨_, rfl⟩
      rw [hV2] at g0
      have hV := h2.grown g0
      have hbV := hb2.grown g0 (by simp)
      have hkz : k < (opS z).syn.length := by rw [opS_syn]; exact HI.out.2
      obtain ⟨n, hn⟩ : ∃ n, (opS z).syn.length = n := ⟨_, rfl⟩
      obtain ⟨W, hW, hWl, hW64, _⟩ := hV.2.2.1
      have ne := hV.2.2.2.2.2.2.2.2
      have hc2 : cs.toList.length = 64 := by rw [Array.length_toList]; exact HS.out.1
      have hlow := HS.out.2.2.2.2.2.2.2.2
      have hthere : V2.there u (k * 64) 64 := fun j hj => by
        refine ⟨?_, hW.frozen _⟩
        rw [hW.cell, List.getElem?_toArray, List.getElem?_eq_getElem (by rw [rowsC_len W hW64]; omega)]; rfl
      have hg1 : V2.grownBy (V2.setCells u (k * 64) cs.toList) (some u) := grown_cells u _ _ _ (World.grownBy.refl V2 _)
      have hk1 : Kept (fun j => j = u ∨ j = v) V2 (V2.setCells u (k * 64) cs.toList) := Kept.of_grown hg1 (fun j e => .inl (Option.some.inj e).symm)
      have hk1' : Kept (fun j => j = u) V2 (V2.setCells u (k * 64) cs.toList) := Kept.of_grown hg1 (fun j e => (Option.some.inj e).symm)
      have hk3 : Kept (fun j => j = u ∨ j = v) V2 ((V2.setCells u (k * 64) cs.toList).setCell ⟨v, k, none⟩ (.bool true)) := hk1.set (p := ⟨v, k, none⟩) (.inl (.inr rfl)) _
      have hs : ∀ Y, Kept (fun j => j = u ∨ j = v) V2 Y → Y.cell? ⟨p, 1, none⟩ = some (.slice (some ⟨u, 0, none⟩) n n) ∧ Y.cell? ⟨p, 2, none⟩ = some (.slice (some ⟨v, 0, none⟩) n n) ∧ Y.rangeAt w.heap.size 0 cs.toList := fun Y hY => by
        have hp := hV.1.kept hY (by omega)
        rw [hn] at hp
        exact ⟨hp.cell 1, hp.cell 2, range_of_blk (hbV.kept hY (by omega))⟩
      have hput := hV.put (k := k) hkz HS.out.2.2.2.2.2.1
      rw [HS.out.2.2.2.2.2.2.1] at hput
      have hv1 := hV.2.2.2.1.kept hk1' (fun e => ne.2.2.2.2.2 e.symm)
      have hxv : (V2.setCells u (k * 64) cs.toList).cell? ⟨v, k, none⟩ = some (.bool (((opS z).wr[k]?.join).isSome)) := by
        have hkw : k < (opS z).wr.length := by rw [hV.2.2.2.2.1]; exact hkz
        rw [hv1.cell, List.getElem?_toArray, dirtyC_at hkw, List.getElem?_eq_getElem hkw]; rfl
      have hS2 := hs V2 (Kept.refl _ _)
      have HT := Lib.hid (And.intro hthere (And.intro (hs _ hk1) (And.intro (hs _ hk3) (And.intro hxv (And.intro (hv1.frozen k) (And.intro hput ((hk02.next (Kept.of_grown (F := fun _ => False) g0 fun _ e => by cases e) (fun _ _ h => h.elim)).next hk3 (fun j _ h => .inr h))))))))
      have hkb : 0 ≤ (k : Int) ∧ (k : Int) < (n : Int) := by omega
      have HS2 := Lib.hid hS2
      clear hs hS2 hthere hg1 hk1 hk1' hk3 hput hv1 hxv hlow hc2 ne hW hWl hW64 hkz hbV hV g0 hb2 hk02 h2 k2 e1 e2 hn
      simp only [if_true]
      go_wp2_with fail
      refine wp_region_held_drew (S := fun Y => Y.cell? ⟨p, 1, none⟩ = some (.slice (some ⟨u, 0, none⟩) n n) ∧ Y.cell? ⟨p, 2, none⟩ = some (.slice (some ⟨v, 0, none⟩) n n) ∧ Y.rangeAt w.heap.size 0 cs.toList) (by kernel_rfl) (by rw [hV2]; exact HS2.out) (fun hHeld => ?_)
      rw [hV2] at hHeld ⊢
      refine wpAnyH_take (i := 0) (oi := _) (v := ?vw0) rfl (by kernel_rfl) (by kernel_rfl) (by kernel_rfl) (fun _ _ _ h => h) (Or.inl ⟨by rfl, ?hyw0⟩) (by assumption) ?restw0
      case hyw0 => (intro V hSw; (try dsimp only at hSw); go_simp) <;> with_reducible rfl
      try simp only [Act.put, List.getElem_toArray, List.getElem_cons_succ, List.getElem_cons_zero, List.setIfInBounds_toArray, List.set_cons_zero, List.set_cons_succ]
      refine wpAnyH_take (i := 1) (oi := _) (v := ?vw1) rfl (by kernel_rfl) (by kernel_rfl) (by kernel_rfl) (fun _ _ _ h => h) (Or.inl ⟨by rfl, ?hyw1⟩) (by assumption) ?restw1
      case hyw1 => (intro V hSw; (try dsimp only at hSw); go_simp) <;> with_reducible rfl
      try simp only [Act.put, List.getElem_toArray, List.getElem_cons_succ, List.getElem_cons_zero, List.setIfInBounds_toArray, List.set_cons_zero, List.set_cons_succ]
      refine wpAnyH_take (i := 2) (oi := _) (v := ?vw2) rfl (by kernel_rfl) (by kernel_rfl) (by kernel_rfl) (fun _ _ _ h => h) (Or.inl ⟨by rfl, ?hyw2⟩) (by assumption) ?restw2
      case hyw2 => (intro V hSw; (try dsimp only at hSw); go_simp) <;> with_reducible rfl
      try simp only [Act.put, List.getElem_toArray, List.getElem_cons_succ, List.getElem_cons_zero, List.setIfInBounds_toArray, List.set_cons_zero, List.set_cons_succ]
      refine wpAnyH_take (i := 3) (oi := _) (v := ?vw3) rfl (by kernel_rfl) (by kernel_rfl) (by kernel_rfl) (fun _ _ _ h => h) (Or.inl ⟨by rfl, ?hyw3⟩) (by assumption) ?restw3
      case hyw3 => (intro V hSw; (try dsimp only at hSw); go_simp) <;> with_reducible rfl
      try simp only [Act.put, List.getElem_toArray, List.getElem_cons_succ, List.getElem_cons_zero, List.setIfInBounds_toArray, List.set_cons_zero, List.set_cons_succ]
      refine wpAnyH_take (i := 4) (oi := _) (v := ?vw4) rfl (by kernel_rfl) (by kernel_rfl) (by kernel_rfl) (fun _ _ _ h => h) (Or.inl ⟨by rfl, ?hyw4⟩) (by assumption) ?restw4
      case hyw4 => (intro V hSw; (try dsimp only at hSw); go_simp) <;> with_reducible rfl
      try simp only [Act.put, List.getElem_toArray, List.getElem_cons_succ, List.getElem_cons_zero, List.setIfInBounds_toArray, List.set_cons_zero, List.set_cons_succ]
      refine wpAnyH_take (i := 5) (oi := _) (v := ?vw5) rfl (by kernel_rfl) (by kernel_rfl) (by kernel_rfl) (fun _ _ _ h => h) (Or.inl ⟨by rfl, ?hyw5⟩) (by assumption) ?restw5
      case hyw5 => (intro V hSw; (try dsimp only at hSw); go_simp) <;> with_reducible rfl
      try simp only [Act.put, List.getElem_toArray, List.getElem_cons_succ, List.getElem_cons_zero, List.setIfInBounds_toArray, List.set_cons_zero, List.set_cons_succ]
      refine wpAnyH_take (i := 6) (oi := _) (v := ?vw6) rfl (by kernel_rfl) (by kernel_rfl) (by kernel_rfl) (fun _ _ _ h => h) (Or.inl ⟨by rfl, ?hyw6⟩) (by assumption) ?restw6
      case hyw6 => (intro V hSw; (try dsimp only at hSw); go_simp) <;> with_reducible rfl
      try simp only [Act.put, List.getElem_toArray, List.getElem_cons_succ, List.getElem_cons_zero, List.setIfInBounds_toArray, List.set_cons_zero, List.set_cons_succ]
      refine wpAnyH_take (i := 7) (oi := _) (v := ?vw7) rfl (by kernel_rfl) (by kernel_rfl) (by kernel_rfl) (fun _ _ _ h => h) (Or.inl ⟨by rfl, ?hyw7⟩) (by assumption) ?restw7
      case hyw7 => (intro V hSw; (try dsimp only at hSw); go_simp) <;> with_reducible rfl
      try simp only [Act.put, List.getElem_toArray, List.getElem_cons_succ, List.getElem_cons_zero, List.setIfInBounds_toArray, List.set_cons_zero, List.set_cons_succ]
      refine wpAnyH_take (i := 8) (oi := _) (v := ?vw8) rfl (by kernel_rfl) (by kernel_rfl) (by kernel_rfl) (fun _ _ _ h => h) (Or.inl ⟨by rfl, ?hyw8⟩) (by assumption) ?restw8
      case hyw8 => (intro V hSw; (try dsimp only at hSw); go_simp) <;> with_reducible rfl
      try simp only [Act.put, List.getElem_toArray, List.getElem_cons_succ, List.getElem_cons_zero, List.setIfInBounds_toArray, List.set_cons_zero, List.set_cons_succ]
      refine wpAnyH_take (i := 9) (oi := _) (v := ?vw9) rfl (by kernel_rfl) (by kernel_rfl) (by kernel_rfl) (fun _ _ _ h => h) (Or.inl ⟨by rfl, ?hyw9⟩) (by assumption) ?restw9
      case hyw9 => (intro V hSw; (try dsimp only at hSw); go_simp) <;> with_reducible rfl
      try simp only [Act.put, List.getElem_toArray, List.getElem_cons_succ, List.getElem_cons_zero, List.setIfInBounds_toArray, List.set_cons_zero, List.set_cons_succ]
      refine wpAnyH_take (i := 10) (oi := _) (v := .agg cs) rfl (by kernel_rfl) (by kernel_rfl) (by kernel_rfl) (fun _ _ _ h => h) (yieldsIf_load_mid (by rfl) _ _ rfl w.heap.size 0 rfl cs.toList _ (fun V hSw => hSw.2.2) Tryd.underlying36 rfl (by rw [Array.length_toList, HS.out.1]; kernel_rfl)) (by assumption) ?restw10
      try simp only [Act.put, List.getElem_toArray, List.getElem_cons_succ, List.getElem_cons_zero, List.setIfInBounds_toArray, List.set_cons_zero, List.set_cons_succ]
      refine wpAnyH_take (i := 11) (oi := _) (v := ?vw11) rfl (by kernel_rfl) (by kernel_rfl) (by kernel_rfl) (fun _ _ _ h => h) (Or.inl ⟨by rfl, ?hyw11⟩) (by assumption) ?restw11
      case hyw11 => (intro V hSw; (try dsimp only at hSw); go_simp) <;> with_reducible rfl
      try simp only [Act.put, List.getElem_toArray, List.getElem_cons_succ, List.getElem_cons_zero, List.setIfInBounds_toArray, List.set_cons_zero, List.set_cons_succ]
      refine wpAnyH_ready (rs := [12]) (by kernel_rfl) (by simp) ?_
      refine (AllReadyH.cons (o := _) rfl (fun K9 hK => ?_) AllReadyH.nil)
      refine ready_store_mid (by rfl) 36 _ _ rfl u (k * 64) cs rfl rfl (by rw [HS.out.1]; exact HT.out.1) (by rw [HS.out.1]; kernel_rfl) HS.out.2.2.2.2.2.2.2.1 ?_
      refine hK.out _ _ HT.out.2.1 (fun hHeld => ?_)
      clear hK K9
      obtain ⟨Y1, hY1⟩ : ∃ Y1, V2.setCells u (k * 64) cs.toList = Y1 := ⟨_, rfl⟩
      have xv := HT.out.2.2.2.1
      have fv := HT.out.2.2.2.2.1
      rw [hY1] at hHeld xv fv ⊢
      try simp only [Act.put, List.getElem_toArray, List.getElem_cons_succ, List.getElem_cons_zero, List.setIfInBounds_toArray, List.set_cons_zero, List.set_cons_succ]
      refine wpAnyH_take (i := 13) (oi := _) (v := ?vw13) rfl (by kernel_rfl) (by kernel_rfl) (by kernel_rfl) (fun _ _ _ h => h) (Or.inl ⟨by rfl, ?hyw13⟩) (by assumption) ?restw13
      case hyw13 => (intro V hSw; (try dsimp only at hSw); go_simp) <;> with_reducible rfl
      try simp only [Act.put, List.getElem_toArray, List.getElem_cons_succ, List.getElem_cons_zero, List.setIfInBounds_toArray, List.set_cons_zero, List.set_cons_succ]
      refine wpAnyH_ready (rs := [14]) (by kernel_rfl) (by simp) ?_
      refine (AllReadyH.cons (o := _) rfl (fun K9 hK => ?_) AllReadyH.nil)
      go_simp
      refine hK.out _ _ (by rw [← hY1]; exact HT.out.2.2.1) (fun hHeld => ?_)
      clear hK K9
      try simp only [Act.put, List.getElem_toArray, List.getElem_cons_succ, List.getElem_cons_zero, List.setIfInBounds_toArray, List.set_cons_zero, List.set_cons_succ]
      refine wpAnyH_done (by kernel_rfl) ?_ _
      rw [← hY1]
      go_wp2_with fail
      go_ret
      exact ⟨by rw [HE.out.1]; rfl, by rw [HE.out.2]; exact HT.out.2.2.2.2.2.1, HT.out.2.2.2.2.2.2⟩
  | false =>
    have e1 : wE z i = 1 := by simp [wE, hi]
    have e2 : wS z i r = z := by simp [wS, hi]
    have HE := Lib.hid (And.intro e1 e2)
    clear e1 e2 hi
    go_wp2_with fail
    go_ret
    exact ⟨by rw [HE.out.1]; rfl, by rw [HE.out.2]; exact HS.out.2.2.1, Kept.of_grown (F := fun j => j = p ∨ j = u ∨ j = v) HS.out.2.2.2.1 (fun _ e => by cases e)⟩
end Go.Proofs.YtmecimhlnajaoaaDoor
