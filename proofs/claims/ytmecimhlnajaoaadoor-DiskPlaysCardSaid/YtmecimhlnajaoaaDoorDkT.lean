/-
  The document's disk: Crash.
-/
import Derived.Test.YtmecimhlnajaoaaDoorDkJ
namespace Go.Proofs.YtmecimhlnajaoaaDoor
open Go.RowKit Go.Maps

attribute [local go_sem] Oper.semAt_some
/-- What isn't synced when the first k on the list have been looked at. -/
def clr (wr : List (Option (List Int))) (L : List Int) (k : Nat) : List (Option (List Int)) := (List.range wr.length).map fun i : Nat => if (i : Int) ∈ L.take k then none else wr[i]?.join
theorem clr_len (wr : List (Option (List Int))) (L : List Int) (k : Nat) : (clr wr L k).length = wr.length := by simp [clr]
theorem clr_at {wr : List (Option (List Int))} {L : List Int} {k i : Nat} (h : i < (clr wr L k).length) : (clr wr L k)[i] = if (i : Int) ∈ L.take k then none else wr[i]?.join := by simp [clr]
theorem clr_zero (wr : List (Option (List Int))) (L : List Int) : clr wr L 0 = wr := by
  refine List.ext_getElem (clr_len _ _ _) (fun i h1 h2 => ?_)
  rw [clr_at h1, List.take_zero, if_neg (by simp), List.getElem?_eq_getElem h2]; rfl
theorem clr_step {wr : List (Option (List Int))} {L : List Int} {k p : Nat} (h : L[k]? = some (p : Int)) : clr wr L (k + 1) = (clr wr L k).set p none := by
  refine List.ext_getElem (by rw [List.length_set, clr_len, clr_len]) (fun i h1 h2 => ?_)
  have h3 : i < (clr wr L k).length := by rwa [List.length_set] at h2
  obtain ⟨hk, hp⟩ := List.getElem?_eq_some_iff.1 h
  rw [clr_at h1, List.getElem_set, List.take_succ_eq_append_getElem hk, hp]
  by_cases e : p = i
  · subst e; rw [if_pos (by simp), if_pos rfl]
  · rw [if_neg e, clr_at h3]
    have : ¬ ((i : Int) = (p : Int)) := by omega
    simp [this]
theorem clr_all (wr : List (Option (List Int))) : clr wr (dirtyL wr) (dirtyL wr).length = List.replicate wr.length none := by
  refine List.ext_getElem (by rw [clr_len, List.length_replicate]) (fun i h1 h2 => ?_)
  rw [clr_at h1, List.getElem_replicate, List.take_length]
  have hi : i < wr.length := by simpa using h2
  by_cases e : (i : Int) ∈ dirtyL wr
  · rw [if_pos e]
  · rw [if_neg e, List.getElem?_eq_getElem hi]
    cases hw : wr[i] with
    | none => rfl
    | some r => exact absurd (mem_dirtyL.2 ⟨i, hi, rfl, by rw [hw]; rfl⟩) e
def crN (z : DkS) (keep : List Bool) (L : List Int) (k : Nat) : DkS := { z with syn := mgS z.syn z.wr (keepP L keep k), wr := clr z.wr L k }
theorem crN_zero (z : DkS) (keep : List Bool) (L : List Int) : crN z keep L 0 = z := by
  unfold crN
  rw [clr_zero, keepP_zero, mgS_none (fun _ _ => rfl)]
theorem crN_syn (z : DkS) (keep : List Bool) (L : List Int) (k : Nat) : (crN z keep L k).syn.length = z.syn.length := mgS_length _ _ _
theorem crN_yes {z : DkS} {keep : List Bool} {L : List Int} {k p : Nat} {r : List Int} (hL : L[k]? = some (p : Int)) (hw : z.wr[p]? = some (some r)) (hk : keep[k]? = some true) : crN z keep L (k + 1) = { crN z keep L k with syn := (crN z keep L k).syn.set p r, wr := (crN z keep L k).wr.set p none } := by
  unfold crN
  rw [clr_step hL, mgS_step hw (keepP_yes hL hk) (fun i hi => keepP_other hL hi)]
theorem crN_no {z : DkS} {keep : List Bool} {L : List Int} {k p : Nat} (hL : L[k]? = some (p : Int)) (hk : keep[k]? ≠ some true) : crN z keep L (k + 1) = { crN z keep L k with wr := (crN z keep L k).wr.set p none } := by
  unfold crN
  rw [clr_step hL, keepP_no hk]
theorem crN_all (z : DkS) (keep : List Bool) : { crN z keep (dirtyL z.wr) (dirtyL z.wr).length with off := false, lasts := -1 } = crashS z keep := by
  unfold crN crashS
  rw [clr_all]
set_option maxRecDepth 100000 in
set_option maxHeartbeats 1000000 in
theorem md_crash (w : World) (p s u v : Nat) (z : DkS) (h : MdIs w p s u v z) (A : Option Addr) (n c : Nat) (keep : List Bool) (hkn : keep.length = n) (hk : BoolsAt w A keep) (hka : ∀ a, A = some a → keep ≠ [] → a.block ≠ s ∧ a.block ≠ v) :
    Calls Tryd.prog 20 #[.pointer (some ⟨p, 0, none⟩), .slice A n c] w fun e w' => e = .returned (.tuple #[]) ∧ MdIs w' p s u v (crashS z keep) ∧ Kept (fun j => j = p ∨ j = s ∨ j = v) w w' := by
  have hU := md_unsynced w p s u v z h
  obtain ⟨L, hL⟩ : ∃ L, dirtyL z.wr = L := ⟨_, rfl⟩
  rw [hL] at hU
  have HU := Lib.hid hU
  have H0 := Lib.hid (And.intro h (And.intro hkn (And.intro hk (And.intro hka hL))))
  clear h hkn hk hka hL hU
  refine (callsIn_wide (n := 9)).1 ?_
  refine callsIn_of_wp Tryd.func20 rfl trivial ?_ rfl
  simp only [Tryd.ntmps20, List.size_toArray, List.length_cons, List.length_nil, Nat.reduceAdd, Nat.reduceSub, Array.replicate_succ, Array.replicate_zero, List.push_toArray, List.append_toArray, List.nil_append, List.cons_append]
  gi_wp2
  refine ⟨trivial, ?_⟩
  refine (callsIn_wide.2 HU.out).mono ?_
  rintro e w1 ⟨x, rfl, hrow, g1⟩
  obtain ⟨A2, c2, rfl, hc2, hints⟩ := own_ints hrow
  obtain ⟨N, hN⟩ : ∃ N, L.length = N := ⟨_, rfl⟩
  rw [hN]
  have hL4 : N ≤ 4096 := by rw [← hN, ← H0.out.2.2.2.2]; have := dirtyL_length_le z.wr; have := H0.out.1.2.2.2.2.1; have := H0.out.1.2.2.2.2.2.2.1; omega
  have H1 := Lib.hid (And.intro g1 (And.intro hints (And.intro hN (H0.out.1.grown g1))))
  have HROW := Lib.hid hrow
  clear hrow hints hN g1 hc2
  gi_wp2
  gi_loopw [9] (fun i wr => ∃ k : Nat, k ≤ N ∧ i = .int .i64 (k : Int) ∧ MdIs wr p s u v (crN z keep L k) ∧ Kept (fun j => j = s ∨ j = v) w1 wr) (fun i _ => N - (intOf i).toNat)
  case atStart => exact ⟨0, by omega, rfl, by rw [crN_zero]; exact H1.out.2.2.2, Kept.refl _ _⟩
  case round =>
    obtain ⟨k, hkN, rfl, hmx, hkx⟩ := hrel
    rename World => wx
    by_cases hlt : k < N
    · have hLne : L ≠ [] := by rintro rfl; have := H1.out.2.2.1; simp at this; omega
      obtain ⟨bL, oL, rfl, hcL⟩ := IntsAt.get H1.out.2.1 hLne
      have hbl := (HROW.out.lt bL rfl).1
      have hkl : k < L.length := by rw [H1.out.2.2.1]; exact hlt
      obtain ⟨pk, rk, hpk0, hpl, hwk⟩ := dirty_at (wr := z.wr) (j := k) (by rw [H0.out.2.2.2.2]; exact hkl)
      have hpk : L[k]? = some (pk : Int) := by rw [← hpk0, ← List.getElem?_eq_getElem (l := dirtyL z.wr) (i := k) (by rw [H0.out.2.2.2.2]; exact hkl), H0.out.2.2.2.2]
      have hpn : pk < z.syn.length := by rw [← H0.out.1.2.2.2.2.1]; exact hpl
      have hsl := H0.out.1.2.2.2.2.2.2.1
      obtain ⟨h01, h02, ⟨W, hW0, hWl, hW64, hWw⟩, h05, h06, h07, h08, h09, ne⟩ := H0.out.1
      have hslt := h02.lt
      have hvlt := h05.lt
      have xL := hkx.cell (hcL k hkl) (show ¬ (bL = s ∨ bL = v) by omega)
      rw [show L[k] = (pk : Int) from Option.some.inj ((List.getElem?_eq_getElem hkl).symm.trans hpk)] at xL
      have hk2 : k < N ∧ N ≤ 4096 := ⟨hlt, hL4⟩
      have hwx : Kept (fun j => j = s ∨ j = v) w wx := (Kept.of_grown (F := fun j => j = s ∨ j = v) H1.out.1 (fun _ e => by cases e)).next hkx (fun _ _ h => h)
      have hWx := hW0.kept hwx (show ¬ (u = s ∨ u = v) by omega)
      have hpb : 0 ≤ (pk : Int) ∧ (pk : Int) < (z.syn.length : Int) := by omega
      have e3 : decide ((k : Int) < (N : Int)) = true := by simp; omega
      have c0 := hmx.1.cell 0
      have c1 := hmx.1.cell 1
      have c2' := hmx.1.cell 2
      rw [crN_syn] at c0 c1 c2'
      simp only [List.getElem?_toArray, List.getElem?_cons_zero, List.getElem?_cons_succ] at c0 c1 c2'
      have hpw : pk < (crN z keep L k).wr.length := by rw [hmx.2.2.2.2.1, crN_syn]; exact hpn
      by_cases hy : keep[k]? = some true
      · have hkk : k < n := by rw [← H0.out.2.1]; exact (List.getElem?_eq_some_iff.1 hy).1
        obtain ⟨bK, oK, rfl, hcK⟩ := H0.out.2.2.1 (by rintro rfl; simp at hy)
        have hkb := H0.out.2.2.2.1 _ rfl (by rintro rfl; simp at hy)
        have xK := hwx.cell (hcK k (by rw [H0.out.2.1]; exact hkk)) (show ¬ (bK = s ∨ bK = v) from fun e => e.elim hkb.1 hkb.2)
        rw [show keep[k]'(by rw [H0.out.2.1]; exact hkk) = true from (List.getElem?_eq_some_iff.1 hy).2] at xK
        have hkW : pk < W.length := (List.getElem?_eq_some_iff.1 (hWw pk rk hwk)).1
        have hWe : W[pk] = rk := (List.getElem?_eq_some_iff.1 (hWw pk rk hwk)).2
        have h64 : rk.length = 64 := by rw [← hWe]; exact hW64 _ (List.getElem_mem hkW)
        have hkS : pk < (crN z keep L k).syn.length := by rw [crN_syn]; exact hpn
        obtain ⟨cs, hcs⟩ : ∃ cs, (rk.map (Value.int .u8)).toArray = cs := ⟨_, rfl⟩
        have hcl : rk.map (Value.int .u8) = cs.toList := by rw [← hcs]
        have hcz : cs.size = 64 := by rw [← hcs]; simpa using h64
        have hc1 : cs.all (·.oneCell') = true := by rw [← hcs]; simp [Array.all_eq_true_iff_forall_mem, Value.oneCell']
        have hgd : wx.grownBy wx.drew none := grown_drew (World.grownBy.refl wx none)
        have hmr := ((hmx.grown hgd).row hkS h64).clean pk
        rw [hcl] at hmr
        have hmr2 : MdIs ((wx.drew.setCells s (pk * 64) cs.toList).setCell ⟨v, pk, none⟩ (.bool false)) p s u v (crN z keep L (k + 1)) := by rw [crN_yes hpk hwk hy]; exact hmr
        have hthere : wx.drew.there s (pk * 64) 64 := fun j hj => by
          refine ⟨?_, hmx.2.1.drew.frozen _⟩
          rw [hmx.2.1.drew.cell, List.getElem?_toArray, List.getElem?_eq_getElem (by rw [rowsC_len _ hmx.2.2.2.2.2.1]; omega)]; rfl
        have hg1 : wx.drew.grownBy (wx.drew.setCells s (pk * 64) cs.toList) (some s) := grown_cells s _ _ _ (World.grownBy.refl _ _)
        have hkd : Kept (fun j => j = s ∨ j = v) wx wx.drew := Kept.of_grown hgd (fun _ e => by cases e)
        have hk1 : Kept (fun j => j = s ∨ j = v) wx (wx.drew.setCells s (pk * 64) cs.toList) := hkd.next (Kept.of_grown (F := fun j => j = s ∨ j = v) hg1 (fun j e => .inl (Option.some.inj e).symm)) (fun _ _ h => h)
        have hk1' : Kept (fun j => j = s) wx.drew (wx.drew.setCells s (pk * 64) cs.toList) := Kept.of_grown hg1 (fun j e => (Option.some.inj e).symm)
        have hk3 : Kept (fun j => j = s ∨ j = v) wx ((wx.drew.setCells s (pk * 64) cs.toList).setCell ⟨v, pk, none⟩ (.bool false)) := hk1.set (p := ⟨v, pk, none⟩) (.inl (.inr rfl)) _
        have hs : ∀ Y, Kept (fun j => j = s ∨ j = v) wx Y → Y.cell? ⟨p, 0, none⟩ = some (.slice (some ⟨s, 0, none⟩) z.syn.length z.syn.length) ∧ Y.cell? ⟨p, 1, none⟩ = some (.slice (some ⟨u, 0, none⟩) z.syn.length z.syn.length) ∧ Y.rangeAt u (pk * 64) cs.toList := fun Y hY => by
          have hp := hmx.1.kept hY (show ¬ (p = s ∨ p = v) by omega)
          rw [crN_syn] at hp
          refine ⟨hp.cell 0, hp.cell 1, fun j x hj => ?_⟩
          rw [(hWx.kept hY (show ¬ (u = s ∨ u = v) by omega)).cell, List.getElem?_toArray]
          exact flat64 W hW64 pk hkW j x (by rw [hWe, hcl]; exact hj)
        have hv1 := hmx.2.2.2.1.drew.kept hk1' (fun e => ne.2.2.2.2.1 e.symm)
        have hxv : (wx.drew.setCells s (pk * 64) cs.toList).cell? ⟨v, pk, none⟩ = some (.bool (((crN z keep L k).wr[pk]).isSome)) := by
          rw [hv1.cell, List.getElem?_toArray, dirtyC_at hpw]
        have hp2 : (wx.drew.setCells s (pk * 64) cs.toList).cell? ⟨p, 2, none⟩ = some (.slice (some ⟨v, 0, none⟩) z.syn.length z.syn.length) := hk1.cell c2' (show ¬ (p = s ∨ p = v) by omega)
        obtain ⟨bo, hbo⟩ : ∃ bo, ((crN z keep L k).wr[pk]).isSome = bo := ⟨_, rfl⟩
        rw [hbo] at hxv
        have HS2 := Lib.hid (hs wx.drew hkd)
        have HT := Lib.hid (And.intro hthere (And.intro (hs _ hk1) (And.intro hxv (And.intro (hv1.frozen pk) (And.intro hp2 (And.intro hmr2 (hkx.next hk3 (fun _ _ h => h))))))))
        have HV := Lib.hid (And.intro hcz hc1)
        have e4 : decide ((k : Int) < (n : Int)) = true := by simp; omega
        clear hLne hcL hbl hkl hpk hpk0 hpl hwk hpn hsl hcK hkb hcs hcz hc1 hthere hs hkx hwx hy h01 h02 hW0 hWl hW64 hWw h05 h06 h07 h08 h09 ne hslt hvlt hWx c0 c1 c2' hpw hkW hWe h64 hkS hcl hgd hmr hmr2 hg1 hkd hk1 hk1' hk3 hv1 hxv hp2 hmx hbo
        gi_upto_region 4 with fail
        rename_i K8 hK8
        refine wpIn_normal ?_
        refine wpIn_region_held_wide (S := fun Y => Y.cell? ⟨p, 0, none⟩ = some (.slice (some ⟨s, 0, none⟩) z.syn.length z.syn.length) ∧ Y.cell? ⟨p, 1, none⟩ = some (.slice (some ⟨u, 0, none⟩) z.syn.length z.syn.length) ∧ Y.rangeAt u (pk * 64) cs.toList) (by kernel_rfl) (by kernel_rfl) (by rintro ⟨_, _, h, _⟩; cases h) HS2.out (fun hHeld => ?_)
        refine wpAnyH_take (i := 0) (oi := _) (v := ?vt0) rfl (by kernel_rfl) (by kernel_rfl) (by kernel_rfl) (fun _ _ _ h => by cases h.1) (Or.inl ⟨by rfl, ?hyt0⟩) (by assumption) ?restt0
        case hyt0 => (intro V hSw; (try dsimp only at hSw); go_simp) <;> with_reducible rfl
        try simp only [Act.put, List.getElem_toArray, List.getElem_cons_succ, List.getElem_cons_zero, List.setIfInBounds_toArray, List.set_cons_zero, List.set_cons_succ]
        refine wpAnyH_take (i := 1) (oi := _) (v := ?vt1) rfl (by kernel_rfl) (by kernel_rfl) (by kernel_rfl) (fun _ _ _ h => by cases h.1) (Or.inl ⟨by rfl, ?hyt1⟩) (by assumption) ?restt1
        case hyt1 => (intro V hSw; (try dsimp only at hSw); go_simp) <;> with_reducible rfl
        try simp only [Act.put, List.getElem_toArray, List.getElem_cons_succ, List.getElem_cons_zero, List.setIfInBounds_toArray, List.set_cons_zero, List.set_cons_succ]
        refine wpAnyH_take (i := 2) (oi := _) (v := ?vt2) rfl (by kernel_rfl) (by kernel_rfl) (by kernel_rfl) (fun _ _ _ h => by cases h.1) (Or.inl ⟨by rfl, ?hyt2⟩) (by assumption) ?restt2
        case hyt2 => (intro V hSw; (try dsimp only at hSw); go_simp) <;> with_reducible rfl
        try simp only [Act.put, List.getElem_toArray, List.getElem_cons_succ, List.getElem_cons_zero, List.setIfInBounds_toArray, List.set_cons_zero, List.set_cons_succ]
        refine wpAnyH_take (i := 3) (oi := _) (v := ?vt3) rfl (by kernel_rfl) (by kernel_rfl) (by kernel_rfl) (fun _ _ _ h => by cases h.1) (Or.inl ⟨by rfl, ?hyt3⟩) (by assumption) ?restt3
        case hyt3 => (intro V hSw; (try dsimp only at hSw); go_simp) <;> with_reducible rfl
        try simp only [Act.put, List.getElem_toArray, List.getElem_cons_succ, List.getElem_cons_zero, List.setIfInBounds_toArray, List.set_cons_zero, List.set_cons_succ]
        refine wpAnyH_take (i := 4) (oi := _) (v := ?vt4) rfl (by kernel_rfl) (by kernel_rfl) (by kernel_rfl) (fun _ _ _ h => by cases h.1) (Or.inl ⟨by rfl, ?hyt4⟩) (by assumption) ?restt4
        case hyt4 => (intro V hSw; (try dsimp only at hSw); go_simp) <;> with_reducible rfl
        try simp only [Act.put, List.getElem_toArray, List.getElem_cons_succ, List.getElem_cons_zero, List.setIfInBounds_toArray, List.set_cons_zero, List.set_cons_succ]
        refine wpAnyH_take (i := 5) (oi := _) (v := ?vt5) rfl (by kernel_rfl) (by kernel_rfl) (by kernel_rfl) (fun _ _ _ h => by cases h.1) (Or.inl ⟨by rfl, ?hyt5⟩) (by assumption) ?restt5
        case hyt5 => (intro V hSw; (try dsimp only at hSw); go_simp) <;> with_reducible rfl
        try simp only [Act.put, List.getElem_toArray, List.getElem_cons_succ, List.getElem_cons_zero, List.setIfInBounds_toArray, List.set_cons_zero, List.set_cons_succ]
        refine wpAnyH_take (i := 6) (oi := _) (v := ?vt6) rfl (by kernel_rfl) (by kernel_rfl) (by kernel_rfl) (fun _ _ _ h => by cases h.1) (Or.inl ⟨by rfl, ?hyt6⟩) (by assumption) ?restt6
        case hyt6 => (intro V hSw; (try dsimp only at hSw); go_simp) <;> with_reducible rfl
        try simp only [Act.put, List.getElem_toArray, List.getElem_cons_succ, List.getElem_cons_zero, List.setIfInBounds_toArray, List.set_cons_zero, List.set_cons_succ]
        refine wpAnyH_take (i := 7) (oi := _) (v := ?vt7) rfl (by kernel_rfl) (by kernel_rfl) (by kernel_rfl) (fun _ _ _ h => by cases h.1) (Or.inl ⟨by rfl, ?hyt7⟩) (by assumption) ?restt7
        case hyt7 => (intro V hSw; (try dsimp only at hSw); go_simp) <;> with_reducible rfl
        try simp only [Act.put, List.getElem_toArray, List.getElem_cons_succ, List.getElem_cons_zero, List.setIfInBounds_toArray, List.set_cons_zero, List.set_cons_succ]
        refine wpAnyH_take (i := 8) (oi := _) (v := ?vt8) rfl (by kernel_rfl) (by kernel_rfl) (by kernel_rfl) (fun _ _ _ h => by cases h.1) (Or.inl ⟨by rfl, ?hyt8⟩) (by assumption) ?restt8
        case hyt8 => (intro V hSw; (try dsimp only at hSw); go_simp) <;> with_reducible rfl
        try simp only [Act.put, List.getElem_toArray, List.getElem_cons_succ, List.getElem_cons_zero, List.setIfInBounds_toArray, List.set_cons_zero, List.set_cons_succ]
        refine wpAnyH_take (i := 9) (oi := _) (v := ?vt9) rfl (by kernel_rfl) (by kernel_rfl) (by kernel_rfl) (fun _ _ _ h => by cases h.1) (Or.inl ⟨by rfl, ?hyt9⟩) (by assumption) ?restt9
        case hyt9 => (intro V hSw; (try dsimp only at hSw); go_simp) <;> with_reducible rfl
        try simp only [Act.put, List.getElem_toArray, List.getElem_cons_succ, List.getElem_cons_zero, List.setIfInBounds_toArray, List.set_cons_zero, List.set_cons_succ]
        refine wpAnyH_take (i := 10) (oi := _) (v := ?vt10) rfl (by kernel_rfl) (by kernel_rfl) (by kernel_rfl) (fun _ _ _ h => by cases h.1) (Or.inl ⟨by rfl, ?hyt10⟩) (by assumption) ?restt10
        case hyt10 => (intro V hSw; (try dsimp only at hSw); go_simp) <;> with_reducible rfl
        try simp only [Act.put, List.getElem_toArray, List.getElem_cons_succ, List.getElem_cons_zero, List.setIfInBounds_toArray, List.set_cons_zero, List.set_cons_succ]
        refine wpAnyH_take (i := 11) (oi := _) (v := .agg cs) rfl (by kernel_rfl) (by kernel_rfl) (by kernel_rfl) (fun _ _ _ h => by cases h.1) (yieldsIf_load_mid (by rfl) _ _ rfl u (pk * 64) rfl cs.toList _ (fun V hSw => hSw.2.2) Tryd.underlying36 rfl (by rw [Array.length_toList, HV.out.1]; kernel_rfl)) (by assumption) ?restt11
        try simp only [Act.put, List.getElem_toArray, List.getElem_cons_succ, List.getElem_cons_zero, List.setIfInBounds_toArray, List.set_cons_zero, List.set_cons_succ]
        refine wpAnyH_take (i := 12) (oi := _) (v := ?vt12) rfl (by kernel_rfl) (by kernel_rfl) (by kernel_rfl) (fun _ _ _ h => by cases h.1) (Or.inl ⟨by rfl, ?hyt12⟩) (by assumption) ?restt12
        case hyt12 => (intro V hSw; (try dsimp only at hSw); go_simp) <;> with_reducible rfl
        try simp only [Act.put, List.getElem_toArray, List.getElem_cons_succ, List.getElem_cons_zero, List.setIfInBounds_toArray, List.set_cons_zero, List.set_cons_succ]
        refine wpAnyH_ready (rs := [13]) (by kernel_rfl) (by simp) ?_
        refine (AllReadyH.cons (o := _) rfl (fun K9 hK => ?_) AllReadyH.nil)
        refine ready_store_mid (by rfl) 36 _ _ rfl s (pk * 64) cs rfl rfl (by rw [HV.out.1]; exact HT.out.1) (by rw [HV.out.1]; kernel_rfl) HV.out.2 ?_
        refine hK.out _ _ HT.out.2.1 (fun hHeld => ?_)
        clear hK K9
        try simp only [Act.put, List.getElem_toArray, List.getElem_cons_succ, List.getElem_cons_zero, List.setIfInBounds_toArray, List.set_cons_zero, List.set_cons_succ]
        refine wpAnyH_done (by kernel_rfl) ?_ _
        obtain ⟨Y1, hY1⟩ : ∃ Y1, wx.drew.setCells s (pk * 64) cs.toList = Y1 := ⟨_, rfl⟩
        have yv := HT.out.2.2.1
        have fv := HT.out.2.2.2.1
        have y2 := HT.out.2.2.2.2.1
        rw [hY1] at yv fv y2 ⊢
        refine ⟨rfl, hK8 _ _ ?_⟩
        gi_wp2
        rw [← hY1]
        go_roundw
        case rel => exact ⟨k + 1, by omega, by simp, HT.out.2.2.2.2.2⟩
        case measure => simp [intOf]; omega
      · have hmr := hmx.clean pk
        have hmr2 : MdIs (wx.setCell ⟨v, pk, none⟩ (.bool false)) p s u v (crN z keep L (k + 1)) := by rw [crN_no hpk hy]; exact hmr
        have hk3 : Kept (fun j => j = s ∨ j = v) w1 (wx.setCell ⟨v, pk, none⟩ (.bool false)) := hkx.set (p := ⟨v, pk, none⟩) (.inl (.inr rfl)) _
        have xv := hmx.2.2.2.1.cell pk
        rw [List.getElem?_toArray, dirtyC_at hpw] at xv
        obtain ⟨bo, hbo⟩ : ∃ bo, ((crN z keep L k).wr[pk]).isSome = bo := ⟨_, rfl⟩
        rw [hbo] at xv
        have fv := hmx.2.2.2.1.frozen pk
        have HW := Lib.hid (And.intro hmr2 hk3)
        by_cases hkk : k < n
        · obtain ⟨bK, oK, rfl, hcK⟩ := H0.out.2.2.1 (by rintro rfl; have := H0.out.2.1; simp at this; omega)
          have hkl2 : k < keep.length := by rw [H0.out.2.1]; exact hkk
          have hkb := H0.out.2.2.2.1 _ rfl (by rintro rfl; simp at hkl2)
          have xK := hwx.cell (hcK k hkl2) (show ¬ (bK = s ∨ bK = v) from fun e => e.elim hkb.1 hkb.2)
          rw [show keep[k] = false by cases e : keep[k] with | false => rfl | true => exact absurd ((List.getElem?_eq_getElem hkl2).trans (by rw [e])) hy] at xK
          have e4 : decide ((k : Int) < (n : Int)) = true := by simp; omega
          clear hLne hcL hbl hkl hpk hpk0 hpl hwk hpn hsl hcK hkb hkx hwx hy hkl2 h01 h02 hW0 hWl hW64 hWw h05 h06 h07 h08 h09 ne hslt hvlt hWx c0 c1 hbo hmr hmr2 hk3 hmx
          gi_wp2
          go_roundw
          case rel => exact ⟨k + 1, by omega, by simp, HW.out⟩
          case measure => simp [intOf]; omega
        · have e4 : decide ((k : Int) < (n : Int)) = false := by simp; omega
          clear hLne hcL hbl hkl hpk hpk0 hpl hwk hpn hsl hkx hwx hy h01 h02 hW0 hWl hW64 hWw h05 h06 h07 h08 h09 ne hslt hvlt hWx c0 c1 hbo hmr hmr2 hk3 hmx
          gi_wp2
          go_roundw
          case rel => exact ⟨k + 1, by omega, by simp, HW.out⟩
          case measure => simp [intOf]; omega
    · have e3 : decide ((k : Int) < (N : Int)) = false := by simp; omega
      obtain rfl : k = N := by omega
      have x3 := hmx.1.cell 3
      have x4 := hmx.1.cell 4
      have f3 := hmx.1.frozen 3
      have f4 := hmx.1.frozen 4
      simp only [List.getElem?_toArray, List.getElem?_cons_zero, List.getElem?_cons_succ] at x3 x4
      have hK2 : Kept (fun j => j = p) wx ((wx.setCell ⟨p, 3, none⟩ (.bool false)).setCell ⟨p, 4, none⟩ (.int .i64 (-1))) := ((Kept.refl (fun j => j = p) wx).set (p := ⟨p, 3, none⟩) (.inl rfl) _).set (p := ⟨p, 4, none⟩) (.inl rfl) _
      have hd6 := (hmx.1.set 3 (.bool false)).set 4 (.int .i64 (-1))
      simp only [List.setIfInBounds_toArray, List.set_cons_zero, List.set_cons_succ] at hd6
      have hfin := hmx.turnB (y := { crN z keep L k with off := false, lasts := -1 }) hK2 rfl rfl (by simp) hd6
      have hfin2 : MdIs ((wx.setCell ⟨p, 3, none⟩ (.bool false)).setCell ⟨p, 4, none⟩ (.int .i64 (-1))) p s u v (crashS z keep) := by
        rw [← crN_all, H0.out.2.2.2.2, H1.out.2.2.1]; exact hfin
      have hkw := ((Kept.of_grown (F := fun j => j = p ∨ j = s ∨ j = v) H1.out.1 (fun _ e => by cases e)).next hkx (fun _ _ h => .inr h)).next hK2 (fun _ _ h => .inl h)
      have HF := Lib.hid (And.intro hfin2 hkw)
      clear hmx hkx hK2 hd6 hfin hfin2 hkw hlt hkN
      gi_wp2
      exact ⟨rfl, _, results_none rfl _ _ _, rfl, HF.out⟩
end Go.Proofs.YtmecimhlnajaoaaDoor
