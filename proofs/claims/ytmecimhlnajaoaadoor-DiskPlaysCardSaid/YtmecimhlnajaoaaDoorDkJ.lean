/-
  The document's disk: Sync.
-/
import Derived.Test.YtmecimhlnajaoaaDoorDkI
namespace Go.Proofs.YtmecimhlnajaoaaDoor
open Go.RowKit Go.Maps

attribute [local go_sem] Oper.semAt_some
theorem dirtyC_q {wr : List (Option (List Int))} {i : Nat} {o : Option (List Int)} (h : wr[i]? = some o) : (dirtyC wr)[i]? = some (.bool o.isSome) := by simp [dirtyC, h]
theorem set_none {l : List (Option (List Int))} {k : Nat} (h : l[k]? = some none) : l.set k none = l := by
  refine List.ext_getElem? (fun i => ?_)
  rw [List.getElem?_set]
  split
  · rename_i e
    subst e
    rw [if_pos (List.getElem?_eq_some_iff.1 h).1, h]
  · rfl
/-- The disk when the first k places have been looked at. -/
def syN (y : DkS) (k : Nat) : DkS := { y with syn := mgS y.syn y.wr (fun i => decide (i < k)), wr := List.replicate k none ++ y.wr.drop k }
theorem syN_zero (y : DkS) : syN y 0 = y := by
  have h : mgS y.syn y.wr (fun i => decide (i < 0)) = y.syn := mgS_none (fun i _ => by simp)
  unfold syN
  rw [h]
  rfl
theorem syN_all {y : DkS} (h : y.wr.length = y.syn.length) : syN y y.syn.length = syncS y := by
  have h1 : mgS y.syn y.wr (fun i => decide (i < y.syn.length)) = mgS y.syn y.wr (fun _ => true) := mgS_congr (fun i hi => by simpa using hi)
  unfold syN syncS
  rw [h1, ← h, List.drop_length, List.append_nil]
theorem syN_syn (y : DkS) (k : Nat) : (syN y k).syn.length = y.syn.length := mgS_length _ _ _
theorem syN_at {y : DkS} {k : Nat} (h : k < y.wr.length) : (syN y k).wr[k]? = some y.wr[k] := by
  show (List.replicate k none ++ y.wr.drop k)[k]? = _
  rw [List.getElem?_append_right (by simp), List.length_replicate, Nat.sub_self, List.getElem?_drop, Nat.add_zero, List.getElem?_eq_getElem h]
theorem syN_wr {y : DkS} {k : Nat} (h : k < y.wr.length) : (syN y (k + 1)).wr = (syN y k).wr.set k none := by
  show List.replicate (k + 1) none ++ y.wr.drop (k + 1) = (List.replicate k none ++ y.wr.drop k).set k none
  rw [List.set_append_right _ _ (by simp), List.length_replicate, Nat.sub_self, List.drop_eq_getElem_cons h, List.set_cons_zero, List.replicate_succ', List.append_assoc]
  rfl
theorem syN_yes {y : DkS} {k : Nat} {r : List Int} (h : k < y.wr.length) (hr : y.wr[k] = some r) : syN y (k + 1) = { syN y k with syn := (syN y k).syn.set k r, wr := (syN y k).wr.set k none } := by
  have e : mgS y.syn y.wr (fun i => decide (i < k + 1)) = (mgS y.syn y.wr (fun i => decide (i < k))).set k r := mgS_step (by rw [List.getElem?_eq_getElem h, hr]) (by simp) (fun i hi => by
    have : (i < k + 1) ↔ (i < k) := by omega
    simp [this])
  have e2 := syN_wr h
  simp only [syN] at e2 ⊢
  rw [e, e2]
theorem syN_no {y : DkS} {k : Nat} (h : k < y.wr.length) (hl : y.wr.length = y.syn.length) (hr : y.wr[k] = none) : syN y (k + 1) = syN y k := by
  have e : mgS y.syn y.wr (fun i => decide (i < k + 1)) = mgS y.syn y.wr (fun i => decide (i < k)) := by
    refine List.ext_getElem (by rw [mgS_length, mgS_length]) (fun i h1 h2 => ?_)
    rw [mgS_at h1, mgS_at h2]
    by_cases hi : i = k
    · subst hi
      have e3 : y.wr[i]?.join = none := by rw [List.getElem?_eq_getElem h, hr]; rfl
      simp [e3]
    · have : (i < k + 1) ↔ (i < k) := by omega
      simp [this]
  have e2 : (syN y (k + 1)).wr = (syN y k).wr := by
    rw [syN_wr h]
    exact set_none (by rw [syN_at h, hr])
  simp only [syN] at e2 ⊢
  rw [e, e2]
set_option maxRecDepth 100000 in
set_option maxHeartbeats 1000000 in
theorem md_sync (w : World) (p s u v : Nat) (z : DkS) (h : MdIs w p s u v z) :
    Calls Tryd.prog 16 #[.pointer (some ⟨p, 0, none⟩)] w fun e w' => e = .returned (.int .i64 (nE (sE z))) ∧ MdIs w' p s u v (sS z) ∧ Kept (fun j => j = p ∨ j = s ∨ j = v) w w' := by
  have HOP := Lib.hid (md_begin w p s u v z h)
  obtain ⟨n, hn⟩ : ∃ n, (opS z).syn.length = n := ⟨_, rfl⟩
  have HN := Lib.hid (And.intro hn (show n ≤ 4096 by rw [← hn, opS_syn]; exact h.2.2.2.2.2.2.1.2))
  clear h hn
  refine (callsIn_wide (n := 6)).1 ?_
  refine callsIn_of_wp Tryd.func16 rfl trivial ?_ rfl
  simp only [Tryd.ntmps16, List.size_toArray, List.length_cons, List.length_nil, Nat.reduceAdd, Nat.reduceSub, Array.replicate_succ, Array.replicate_zero, List.push_toArray, List.append_toArray, List.nil_append, List.cons_append]
  gi_wp2
  refine ⟨trivial, ?_⟩
  refine (callsIn_wide.2 HOP.out).mono ?_
  rintro e w1 ⟨rfl, h1, k1⟩
  obtain ⟨y, hy⟩ : ∃ y, opS z = y := ⟨_, rfl⟩
  have hyn : y.syn.length = n := by rw [← hy]; exact HN.out.1
  rw [hy] at h1
  have c2 := h1.1.cell 2
  simp only [List.getElem?_toArray, List.getElem?_cons_zero, List.getElem?_cons_succ] at c2
  rw [hyn] at c2
  have H1 := Lib.hid (And.intro h1 (And.intro (k1.mono (G := fun j => j = p ∨ j = s ∨ j = v) (fun j _ h => .inl h)) (And.intro hy hyn)))
  clear h1 k1 hy hyn
  cases ho : opOk z with
  | false =>
    have HE := Lib.hid ho
    clear ho
    simp only [Bool.false_eq_true, if_false]
    gi_wp2
    gi_loopw [12] (fun i wr => ∃ k : Nat, k ≤ n ∧ i = .int .i64 (k : Int) ∧ wr = w1) (fun i _ => n - (intOf i).toNat)
    case atStart => exact ⟨0, by omega, rfl, rfl⟩
    case round =>
      obtain ⟨k, hkn, rfl, hw1⟩ := hrel
      rename World => wx
      obtain rfl : w1 = wx := hw1.symm
      by_cases hlt : k < n
      · have e3 : decide ((k : Int) < (n : Int)) = true := by simp; omega
        have hk4 : k < 4096 := by have := HN.out.2; omega
        gi_wp2
        go_roundw
        case rel => exact ⟨k + 1, by omega, by simp, trivial⟩
        case measure => simp [intOf]; omega
      · have e3 : decide ((k : Int) < (n : Int)) = false := by simp; omega
        gi_wp2
        go_ret
        exact ⟨by rw [sE, HE.out]; rfl, by rw [sS, HE.out, H1.out.2.2.1]; exact H1.out.1, H1.out.2.1⟩
  | true =>
    have HE := Lib.hid ho
    clear ho
    simp only [if_true]
    gi_wp2
    gi_loopw [12] (fun i wr => ∃ k : Nat, k ≤ n ∧ i = .int .i64 (k : Int) ∧ MdIs wr p s u v (syN y k) ∧ Kept (fun j => j = s ∨ j = v) w1 wr) (fun i _ => n - (intOf i).toNat)
    case atStart => exact ⟨0, by omega, rfl, by rw [syN_zero]; exact H1.out.1, Kept.refl _ _⟩
    case round =>
      obtain ⟨k, hkn, rfl, hmx, hkx⟩ := hrel
      rename World => wx
      by_cases hlt : k < n
      · have e3 : decide ((k : Int) < (n : Int)) = true := by simp; omega
        have hk4 : k < 4096 := by have := HN.out.2; omega
        have hkw : k < y.wr.length := by rw [H1.out.1.2.2.2.2.1, H1.out.2.2.2]; exact hlt
        have c2 := hmx.1.cell 2
        have c1 := hmx.1.cell 1
        have c0 := hmx.1.cell 0
        have xv := hmx.2.2.2.1.cell k
        rw [syN_syn, H1.out.2.2.2] at c0 c1 c2
        simp only [List.getElem?_toArray, List.getElem?_cons_zero, List.getElem?_cons_succ] at c0 c1 c2
        rw [List.getElem?_toArray, dirtyC_q (syN_at hkw)] at xv
        have hyl : y.wr.length = y.syn.length := H1.out.1.2.2.2.2.1
        cases hwk : y.wr[k] with
        | none =>
          rw [hwk, Option.isSome_none] at xv
          have HM := Lib.hid (And.intro (by rw [syN_no hkw hyl hwk]; exact hmx : MdIs wx p s u v (syN y (k + 1))) hkx)
          clear hmx hkx hwk hkw hyl c0 c1
          gi_wp2
          go_roundw
          case rel => exact ⟨k + 1, by omega, by simp, HM.out⟩
          case measure => simp [intOf]; omega
        | some row =>
          rw [hwk, Option.isSome_some] at xv
          obtain ⟨hm1, hm2, ⟨W, hW, hWl, hW64, hWw⟩, hm5, hm6, hm7, hm8, hm9, ne⟩ := hmx
          have hWk := hWw k row (by rw [syN_at hkw, hwk])
          have hkW : k < W.length := (List.getElem?_eq_some_iff.1 hWk).1
          have hWe : W[k] = row := (List.getElem?_eq_some_iff.1 hWk).2
          have h64 : row.length = 64 := by rw [← hWe]; exact hW64 _ (List.getElem_mem hkW)
          have hmd : MdIs wx p s u v (syN y k) := ⟨hm1, hm2, ⟨W, hW, hWl, hW64, hWw⟩, hm5, hm6, hm7, hm8, hm9, ne⟩
          have hkS : k < (syN y k).syn.length := by rw [syN_syn]; omega
          obtain ⟨cs, hcs⟩ : ∃ cs, (row.map (Value.int .u8)).toArray = cs := ⟨_, rfl⟩
          have hcl : row.map (Value.int .u8) = cs.toList := by rw [← hcs]
          have hcz : cs.size = 64 := by rw [← hcs]; simpa using h64
          have hc1 : cs.all (·.oneCell') = true := by rw [← hcs]; simp [Array.all_eq_true_iff_forall_mem, Value.oneCell']
          have hc2 : cs.toList.length = 64 := by rw [Array.length_toList, hcz]
          have hgd : wx.grownBy wx.drew none := grown_drew (World.grownBy.refl wx none)
          have hmr := ((hmd.grown hgd).row hkS h64).clean k
          rw [hcl] at hmr
          have hmr2 : MdIs ((wx.drew.setCells s (k * 64) cs.toList).setCell ⟨v, k, none⟩ (.bool false)) p s u v (syN y (k + 1)) := by rw [syN_yes hkw hwk]; exact hmr
          have hthere : wx.drew.there s (k * 64) 64 := fun j hj => by
            refine ⟨?_, hm2.drew.frozen _⟩
            rw [hm2.drew.cell, List.getElem?_toArray, List.getElem?_eq_getElem (by rw [rowsC_len _ hm7]; omega)]; rfl
          have hg1 : wx.drew.grownBy (wx.drew.setCells s (k * 64) cs.toList) (some s) := grown_cells s _ _ _ (World.grownBy.refl _ _)
          have hkd : Kept (fun j => j = s ∨ j = v) wx wx.drew := Kept.of_grown hgd (fun _ e => by cases e)
          have hk1 : Kept (fun j => j = s ∨ j = v) wx (wx.drew.setCells s (k * 64) cs.toList) := hkd.next (Kept.of_grown (F := fun j => j = s ∨ j = v) hg1 (fun j e => .inl (Option.some.inj e).symm)) (fun _ _ h => h)
          have hk1' : Kept (fun j => j = s) wx.drew (wx.drew.setCells s (k * 64) cs.toList) := Kept.of_grown hg1 (fun j e => (Option.some.inj e).symm)
          have hk3 : Kept (fun j => j = s ∨ j = v) wx ((wx.drew.setCells s (k * 64) cs.toList).setCell ⟨v, k, none⟩ (.bool false)) := hk1.set (p := ⟨v, k, none⟩) (.inl (.inr rfl)) _
          have hs : ∀ Y, Kept (fun j => j = s ∨ j = v) wx Y → Y.cell? ⟨p, 0, none⟩ = some (.slice (some ⟨s, 0, none⟩) n n) ∧ Y.cell? ⟨p, 1, none⟩ = some (.slice (some ⟨u, 0, none⟩) n n) ∧ Y.cell? ⟨p, 2, none⟩ = some (.slice (some ⟨v, 0, none⟩) n n) ∧ Y.rangeAt u (k * 64) cs.toList := fun Y hY => by
            have hp := hm1.kept hY (by omega)
            rw [syN_syn, H1.out.2.2.2] at hp
            refine ⟨hp.cell 0, hp.cell 1, hp.cell 2, fun j x hj => ?_⟩
            rw [(hW.kept hY (by omega)).cell, List.getElem?_toArray]
            exact flat64 W hW64 k hkW j x (by rw [hWe, hcl]; exact hj)
          have hv1 := hm5.drew.kept hk1' (fun e => ne.2.2.2.2.1 e.symm)
          have hxv : (wx.drew.setCells s (k * 64) cs.toList).cell? ⟨v, k, none⟩ = some (.bool true) := by
            rw [hv1.cell, List.getElem?_toArray, dirtyC_q (syN_at hkw), hwk]; rfl
          have HS2 := Lib.hid (hs wx.drew hkd)
          have HT := Lib.hid (And.intro hthere (And.intro (hs _ hk1) (And.intro (hs _ hk3) (And.intro hxv (And.intro (hv1.frozen k) (And.intro hmr2 (hkx.next hk3 (fun _ _ h => h))))))))
          have HV := Lib.hid (And.intro hcz hc1)
          have hkb : 0 ≤ (k : Int) ∧ (k : Int) < (n : Int) := by omega
          clear hm1 hm2 hW hWl hW64 hWw hm5 hm6 hm7 hm8 hm9 ne hWk hkW hWe h64 hmd hkS hcs hcl hcz hc1 hc2 hgd hmr hmr2 hthere hg1 hkd hk1 hk1' hk3 hs hv1 hxv hkx hwk hkw hyl c0 c1
          gi_upto_region 6 with fail
          try simp only [Act.put, List.setIfInBounds_toArray, List.set_cons_zero, List.set_cons_succ]
          refine wpIn_normal ?_
          refine wpIn_region_held_wide (S := fun Y => Y.cell? ⟨p, 0, none⟩ = some (.slice (some ⟨s, 0, none⟩) n n) ∧ Y.cell? ⟨p, 1, none⟩ = some (.slice (some ⟨u, 0, none⟩) n n) ∧ Y.cell? ⟨p, 2, none⟩ = some (.slice (some ⟨v, 0, none⟩) n n) ∧ Y.rangeAt u (k * 64) cs.toList) (by kernel_rfl) (by kernel_rfl) (by rintro ⟨_, _, h, _⟩; cases h) HS2.out (fun hHeld => ?_)
          refine wpAnyH_take (i := 0) (oi := _) (v := ?vj0) rfl (by kernel_rfl) (by kernel_rfl) (by kernel_rfl) (fun _ _ _ h => by cases h.1) (Or.inl ⟨by rfl, ?hyj0⟩) (by assumption) ?restj0
          case hyj0 => (intro V hSw; (try dsimp only at hSw); go_simp) <;> with_reducible rfl
          try simp only [Act.put, List.getElem_toArray, List.getElem_cons_succ, List.getElem_cons_zero, List.setIfInBounds_toArray, List.set_cons_zero, List.set_cons_succ]
          refine wpAnyH_take (i := 1) (oi := _) (v := ?vj1) rfl (by kernel_rfl) (by kernel_rfl) (by kernel_rfl) (fun _ _ _ h => by cases h.1) (Or.inl ⟨by rfl, ?hyj1⟩) (by assumption) ?restj1
          case hyj1 => (intro V hSw; (try dsimp only at hSw); go_simp) <;> with_reducible rfl
          try simp only [Act.put, List.getElem_toArray, List.getElem_cons_succ, List.getElem_cons_zero, List.setIfInBounds_toArray, List.set_cons_zero, List.set_cons_succ]
          refine wpAnyH_take (i := 2) (oi := _) (v := ?vj2) rfl (by kernel_rfl) (by kernel_rfl) (by kernel_rfl) (fun _ _ _ h => by cases h.1) (Or.inl ⟨by rfl, ?hyj2⟩) (by assumption) ?restj2
          case hyj2 => (intro V hSw; (try dsimp only at hSw); go_simp) <;> with_reducible rfl
          try simp only [Act.put, List.getElem_toArray, List.getElem_cons_succ, List.getElem_cons_zero, List.setIfInBounds_toArray, List.set_cons_zero, List.set_cons_succ]
          refine wpAnyH_take (i := 3) (oi := _) (v := ?vj3) rfl (by kernel_rfl) (by kernel_rfl) (by kernel_rfl) (fun _ _ _ h => by cases h.1) (Or.inl ⟨by rfl, ?hyj3⟩) (by assumption) ?restj3
          case hyj3 => (intro V hSw; (try dsimp only at hSw); go_simp) <;> with_reducible rfl
          try simp only [Act.put, List.getElem_toArray, List.getElem_cons_succ, List.getElem_cons_zero, List.setIfInBounds_toArray, List.set_cons_zero, List.set_cons_succ]
          refine wpAnyH_take (i := 4) (oi := _) (v := ?vj4) rfl (by kernel_rfl) (by kernel_rfl) (by kernel_rfl) (fun _ _ _ h => by cases h.1) (Or.inl ⟨by rfl, ?hyj4⟩) (by assumption) ?restj4
          case hyj4 => (intro V hSw; (try dsimp only at hSw); go_simp) <;> with_reducible rfl
          try simp only [Act.put, List.getElem_toArray, List.getElem_cons_succ, List.getElem_cons_zero, List.setIfInBounds_toArray, List.set_cons_zero, List.set_cons_succ]
          refine wpAnyH_take (i := 5) (oi := _) (v := ?vj5) rfl (by kernel_rfl) (by kernel_rfl) (by kernel_rfl) (fun _ _ _ h => by cases h.1) (Or.inl ⟨by rfl, ?hyj5⟩) (by assumption) ?restj5
          case hyj5 => (intro V hSw; (try dsimp only at hSw); go_simp) <;> with_reducible rfl
          try simp only [Act.put, List.getElem_toArray, List.getElem_cons_succ, List.getElem_cons_zero, List.setIfInBounds_toArray, List.set_cons_zero, List.set_cons_succ]
          refine wpAnyH_take (i := 6) (oi := _) (v := ?vj6) rfl (by kernel_rfl) (by kernel_rfl) (by kernel_rfl) (fun _ _ _ h => by cases h.1) (Or.inl ⟨by rfl, ?hyj6⟩) (by assumption) ?restj6
          case hyj6 => (intro V hSw; (try dsimp only at hSw); go_simp) <;> with_reducible rfl
          try simp only [Act.put, List.getElem_toArray, List.getElem_cons_succ, List.getElem_cons_zero, List.setIfInBounds_toArray, List.set_cons_zero, List.set_cons_succ]
          refine wpAnyH_take (i := 7) (oi := _) (v := ?vj7) rfl (by kernel_rfl) (by kernel_rfl) (by kernel_rfl) (fun _ _ _ h => by cases h.1) (Or.inl ⟨by rfl, ?hyj7⟩) (by assumption) ?restj7
          case hyj7 => (intro V hSw; (try dsimp only at hSw); go_simp) <;> with_reducible rfl
          try simp only [Act.put, List.getElem_toArray, List.getElem_cons_succ, List.getElem_cons_zero, List.setIfInBounds_toArray, List.set_cons_zero, List.set_cons_succ]
          refine wpAnyH_take (i := 8) (oi := _) (v := ?vj8) rfl (by kernel_rfl) (by kernel_rfl) (by kernel_rfl) (fun _ _ _ h => by cases h.1) (Or.inl ⟨by rfl, ?hyj8⟩) (by assumption) ?restj8
          case hyj8 => (intro V hSw; (try dsimp only at hSw); go_simp) <;> with_reducible rfl
          try simp only [Act.put, List.getElem_toArray, List.getElem_cons_succ, List.getElem_cons_zero, List.setIfInBounds_toArray, List.set_cons_zero, List.set_cons_succ]
          refine wpAnyH_take (i := 9) (oi := _) (v := ?vj9) rfl (by kernel_rfl) (by kernel_rfl) (by kernel_rfl) (fun _ _ _ h => by cases h.1) (Or.inl ⟨by rfl, ?hyj9⟩) (by assumption) ?restj9
          case hyj9 => (intro V hSw; (try dsimp only at hSw); go_simp) <;> with_reducible rfl
          try simp only [Act.put, List.getElem_toArray, List.getElem_cons_succ, List.getElem_cons_zero, List.setIfInBounds_toArray, List.set_cons_zero, List.set_cons_succ]
          refine wpAnyH_take (i := 10) (oi := _) (v := ?vj10) rfl (by kernel_rfl) (by kernel_rfl) (by kernel_rfl) (fun _ _ _ h => by cases h.1) (Or.inl ⟨by rfl, ?hyj10⟩) (by assumption) ?restj10
          case hyj10 => (intro V hSw; (try dsimp only at hSw); go_simp) <;> with_reducible rfl
          try simp only [Act.put, List.getElem_toArray, List.getElem_cons_succ, List.getElem_cons_zero, List.setIfInBounds_toArray, List.set_cons_zero, List.set_cons_succ]
          refine wpAnyH_take (i := 11) (oi := _) (v := ?vj11) rfl (by kernel_rfl) (by kernel_rfl) (by kernel_rfl) (fun _ _ _ h => by cases h.1) (Or.inl ⟨by rfl, ?hyj11⟩) (by assumption) ?restj11
          case hyj11 => (intro V hSw; (try dsimp only at hSw); go_simp) <;> with_reducible rfl
          try simp only [Act.put, List.getElem_toArray, List.getElem_cons_succ, List.getElem_cons_zero, List.setIfInBounds_toArray, List.set_cons_zero, List.set_cons_succ]
          refine wpAnyH_take (i := 12) (oi := _) (v := ?vj12) rfl (by kernel_rfl) (by kernel_rfl) (by kernel_rfl) (fun _ _ _ h => by cases h.1) (Or.inl ⟨by rfl, ?hyj12⟩) (by assumption) ?restj12
          case hyj12 => (intro V hSw; (try dsimp only at hSw); go_simp) <;> with_reducible rfl
          try simp only [Act.put, List.getElem_toArray, List.getElem_cons_succ, List.getElem_cons_zero, List.setIfInBounds_toArray, List.set_cons_zero, List.set_cons_succ]
          refine wpAnyH_take (i := 13) (oi := _) (v := ?vj13) rfl (by kernel_rfl) (by kernel_rfl) (by kernel_rfl) (fun _ _ _ h => by cases h.1) (Or.inl ⟨by rfl, ?hyj13⟩) (by assumption) ?restj13
          case hyj13 => (intro V hSw; (try dsimp only at hSw); go_simp) <;> with_reducible rfl
          try simp only [Act.put, List.getElem_toArray, List.getElem_cons_succ, List.getElem_cons_zero, List.setIfInBounds_toArray, List.set_cons_zero, List.set_cons_succ]
          refine wpAnyH_take (i := 14) (oi := _) (v := ?vj14) rfl (by kernel_rfl) (by kernel_rfl) (by kernel_rfl) (fun _ _ _ h => by cases h.1) (Or.inl ⟨by rfl, ?hyj14⟩) (by assumption) ?restj14
          case hyj14 => (intro V hSw; (try dsimp only at hSw); go_simp) <;> with_reducible rfl
          try simp only [Act.put, List.getElem_toArray, List.getElem_cons_succ, List.getElem_cons_zero, List.setIfInBounds_toArray, List.set_cons_zero, List.set_cons_succ]
          refine wpAnyH_take (i := 15) (oi := _) (v := ?vj15) rfl (by kernel_rfl) (by kernel_rfl) (by kernel_rfl) (fun _ _ _ h => by cases h.1) (Or.inl ⟨by rfl, ?hyj15⟩) (by assumption) ?restj15
          case hyj15 => (intro V hSw; (try dsimp only at hSw); go_simp) <;> with_reducible rfl
          try simp only [Act.put, List.getElem_toArray, List.getElem_cons_succ, List.getElem_cons_zero, List.setIfInBounds_toArray, List.set_cons_zero, List.set_cons_succ]
          refine wpAnyH_take (i := 16) (oi := _) (v := .agg cs) rfl (by kernel_rfl) (by kernel_rfl) (by kernel_rfl) (fun _ _ _ h => by cases h.1) (yieldsIf_load_mid (by rfl) _ _ rfl u (k * 64) rfl cs.toList _ (fun V hSw => hSw.2.2.2) Tryd.underlying36 rfl (by rw [Array.length_toList, HV.out.1]; kernel_rfl)) (by assumption) ?restj16
          try simp only [Act.put, List.getElem_toArray, List.getElem_cons_succ, List.getElem_cons_zero, List.setIfInBounds_toArray, List.set_cons_zero, List.set_cons_succ]
          refine wpAnyH_take (i := 17) (oi := _) (v := ?vj17) rfl (by kernel_rfl) (by kernel_rfl) (by kernel_rfl) (fun _ _ _ h => by cases h.1) (Or.inl ⟨by rfl, ?hyj17⟩) (by assumption) ?restj17
          case hyj17 => (intro V hSw; (try dsimp only at hSw); go_simp) <;> with_reducible rfl
          try simp only [Act.put, List.getElem_toArray, List.getElem_cons_succ, List.getElem_cons_zero, List.setIfInBounds_toArray, List.set_cons_zero, List.set_cons_succ]
          refine wpAnyH_ready (rs := [18]) (by kernel_rfl) (by simp) ?_
          refine (AllReadyH.cons (o := _) rfl (fun K9 hK => ?_) AllReadyH.nil)
          refine ready_store_mid (by rfl) 36 _ _ rfl s (k * 64) cs rfl rfl (by rw [HV.out.1]; exact HT.out.1) (by rw [HV.out.1]; kernel_rfl) HV.out.2 ?_
          refine hK.out _ _ HT.out.2.1 (fun hHeld => ?_)
          clear hK K9
          obtain ⟨Y1, hY1⟩ : ∃ Y1, wx.drew.setCells s (k * 64) cs.toList = Y1 := ⟨_, rfl⟩
          have yv := HT.out.2.2.2.1
          have fv := HT.out.2.2.2.2.1
          rw [hY1] at hHeld yv fv ⊢
          try simp only [Act.put, List.getElem_toArray, List.getElem_cons_succ, List.getElem_cons_zero, List.setIfInBounds_toArray, List.set_cons_zero, List.set_cons_succ]
          refine wpAnyH_take (i := 19) (oi := _) (v := ?vj19) rfl (by kernel_rfl) (by kernel_rfl) (by kernel_rfl) (fun _ _ _ h => by cases h.1) (Or.inl ⟨by rfl, ?hyj19⟩) (by assumption) ?restj19
          case hyj19 => (intro V hSw; (try dsimp only at hSw); go_simp) <;> with_reducible rfl
          try simp only [Act.put, List.getElem_toArray, List.getElem_cons_succ, List.getElem_cons_zero, List.setIfInBounds_toArray, List.set_cons_zero, List.set_cons_succ]
          refine wpAnyH_ready (rs := [20]) (by kernel_rfl) (by simp) ?_
          refine (AllReadyH.cons (o := _) rfl (fun K9 hK => ?_) AllReadyH.nil)
          go_simp
          refine hK.out _ _ (by rw [← hY1]; exact HT.out.2.2.1) (fun hHeld => ?_)
          clear hK K9
          try simp only [Act.put, List.getElem_toArray, List.getElem_cons_succ, List.getElem_cons_zero, List.setIfInBounds_toArray, List.set_cons_zero, List.set_cons_succ]
          refine wpAnyH_done (by kernel_rfl) ?_ _
          rw [← hY1]
          clear hY1 yv fv
          refine ⟨rfl, ?_⟩
          gi_wp2
          go_roundw
          case rel => exact ⟨k + 1, by omega, by simp, HT.out.2.2.2.2.2⟩
          case measure => simp [intOf]; omega
      · have e3 : decide ((k : Int) < (n : Int)) = false := by simp; omega
        obtain rfl : k = n := by omega
        have HF := Lib.hid (And.intro (by rw [sS, if_pos HE.out, H1.out.2.2.1, ← syN_all H1.out.1.2.2.2.2.1, H1.out.2.2.2]; exact hmx : MdIs wx p s u v (sS z)) (H1.out.2.1.next hkx (fun j _ h => .inr h)))
        clear hmx hkx
        gi_wp2
        go_ret
        exact ⟨by rw [sE, HE.out]; rfl, HF.out⟩
end Go.Proofs.YtmecimhlnajaoaaDoor
