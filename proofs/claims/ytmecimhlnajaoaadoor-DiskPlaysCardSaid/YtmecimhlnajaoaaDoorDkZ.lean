/-
  Disk: Crash.
-/
import Derived.Test.YtmecimhlnajaoaaDoorDkY
import Derived.Test.YtmecimhlnajaoaaDoorDkU
import Derived.Test.YtmecimhlnajaoaaDoorArgI
import Derived.Test.YtmecimhlnajaoaaDoorBl
namespace Go.Proofs.YtmecimhlnajaoaaDoor
open Go.RowKit Go.Maps

/-- What is kept: place i stands on the list, and keep says so. -/
def keepP (L : List Int) (keep : List Bool) (n : Nat) (i : Nat) : Bool := (List.range n).any fun j => L[j]? == some (i : Int) && keep[j]? == some true
theorem keepP_zero (L : List Int) (keep : List Bool) : keepP L keep 0 = fun _ => false := rfl
theorem keepP_succ (L : List Int) (keep : List Bool) (n i : Nat) : keepP L keep (n + 1) i = (keepP L keep n i || (L[n]? == some (i : Int) && keep[n]? == some true)) := by
  simp [keepP, List.range_succ]
theorem keepP_no {L : List Int} {keep : List Bool} {n : Nat} (h : keep[n]? ≠ some true) : keepP L keep (n + 1) = keepP L keep n := by
  funext i
  rw [keepP_succ]
  simp [h]
theorem keepP_yes {L : List Int} {keep : List Bool} {n k : Nat} (hk : L[n]? = some (k : Int)) (h : keep[n]? = some true) : keepP L keep (n + 1) k = true := by
  rw [keepP_succ]; simp [hk, h]
theorem keepP_other {L : List Int} {keep : List Bool} {n k i : Nat} (hk : L[n]? = some (k : Int)) (hi : i ≠ k) : keepP L keep (n + 1) i = keepP L keep n i := by
  rw [keepP_succ, hk]
  have : ¬ ((k : Int) = (i : Int)) := by omega
  simp [this]
def crashS (z : DkS) (keep : List Bool) : DkS := { syn := mgS z.syn z.wr (keepP (dirtyL z.wr) keep (dirtyL z.wr).length), wr := List.replicate z.wr.length none, off := false, lasts := -1 }
theorem dirty_at {wr : List (Option (List Int))} {j : Nat} (hj : j < (dirtyL wr).length) : ∃ k r, (dirtyL wr)[j] = ((k : Nat) : Int) ∧ k < wr.length ∧ wr[k]? = some (some r) := by
  obtain ⟨k, hk, e, hs⟩ := mem_dirtyL.1 (List.getElem_mem hj)
  obtain ⟨r, hr⟩ := Option.isSome_iff_exists.1 hs
  exact ⟨k, r, e, hk, by rw [List.getElem?_eq_getElem hk, hr]⟩
theorem dk_look {Y : World} {m nn : Nat} {D : DataW Unit} {wr : List (Option (List Int))} (h : Y.ownsMap Tryd.prog 3 (secR 64) m nn D) (hM : MapOf D wr) {k : Nat} {r : List Int} (hk : wr[k]? = some (some r)) (hr : (k : Int) < 9223372036854775808) :
    (Instr.lookup 60 (.map (some m)) (.int .i64 (k : Int)) false).run Tryd.prog Y = .ok (secV r) Y ∧ r.length = 64 := by
  obtain ⟨hkl, hkr⟩ := List.getElem?_eq_some_iff.1 hk
  obtain ⟨v, ps, hrun, hv⟩ := h.lookup keyed_i Tryd.underlying60 (zero_sec Y (by kernel_rfl : (Tryd.prog.info? 36).bind (·.zero) = some (secV zeroR))) (secR_mk (by simp [zeroR])) (keyOf_int_mk Tryd.underlying3 (show (Lit.int .i64 (k : Int)).wf = true from WalkArith.wf_i64 (by omega)))
  obtain ⟨r', hr', cs, rfl, hcs, _, _, he⟩ := sec_val hv
  rw [((hM.2.2 k hkl).2 r hkr).2] at he
  obtain rfl : r = r' := secD_inj he
  exact ⟨by rw [hrun, secV, hcs], hr'⟩
set_option maxRecDepth 100000 in
set_option maxHeartbeats 1000000 in
theorem dk_crash (w : World) (d b m : Nat) (z : DkS) (h : DkIs w d b m z) (A : Option Addr) (n c : Nat) (keep : List Bool) (hkn : keep.length = n) (hk : BoolsAt w A keep) (hka : ∀ a, A = some a → keep ≠ [] → a.block ≠ b) :
    Calls Tryd.prog 19 #[.pointer (some ⟨d, 0, none⟩), .slice A n c] w fun e w' => e = .returned (.tuple #[]) ∧ DkIs w' d b m (crashS z keep) ∧ Kept (fun j => j = d ∨ j = b ∨ j = m) w w' := by
  obtain ⟨D, hown, hM⟩ := h.2.2.1
  have hU := unsynced_is w d m 5000 D z.wr (h.1.cell 1) hown hM (by have := h.2.2.2.1; have := h.2.2.2.2.2.1; omega)
  obtain ⟨L, hL⟩ : ∃ L, dirtyL z.wr = L := ⟨_, rfl⟩
  rw [hL] at hU
  have HU := Lib.hid hU
  have H0 := Lib.hid (And.intro h (And.intro hkn (And.intro hk (And.intro hka (And.intro hown (And.intro hM hL))))))
  clear h hkn hk hka hown hM hL hU
  refine (callsIn_wide (n := 9)).1 ?_
  refine callsIn_of_wp Tryd.func19 rfl trivial ?_ rfl
  simp only [Tryd.ntmps19, List.size_toArray, List.length_cons, List.length_nil, Nat.reduceAdd, Nat.reduceSub, Array.replicate_succ, Array.replicate_zero, List.push_toArray, List.append_toArray, List.nil_append, List.cons_append]
  gi_wp2
  refine ⟨trivial, ?_⟩
  refine (callsIn_wide.2 HU.out).mono ?_
  rintro e w1 ⟨v, rfl, hrow, hnil, hb1⟩
  obtain ⟨A2, c2, rfl, hc2, hints⟩ := own_ints hrow
  obtain ⟨N, hN⟩ : ∃ N, L.length = N := ⟨_, rfl⟩
  rw [hN]
  have g1 : w.grownBy w1 none := grown_below0 hb1
  have hL4 : N ≤ 4096 := by rw [← hN, ← H0.out.2.2.2.2.2.2]; have := dirtyL_length_le z.wr; have := H0.out.1.2.2.2.1; have := H0.out.1.2.2.2.2.2.1; omega
  have H1 := Lib.hid (And.intro g1 (And.intro hints (And.intro hN (H0.out.1.grown g1))))
  have HROW := Lib.hid hrow
  clear hrow hnil hb1 hints hN g1 hc2
  gi_wp2
  gi_loopw [9] (fun i wr => ∃ k : Nat, k ≤ N ∧ i = .int .i64 (k : Int) ∧ ∃ S, S = mgS z.syn z.wr (keepP L keep k) ∧ (∀ r ∈ S, r.length = 64) ∧ Blk wr b 36 (rowsC S).toArray ∧ Kept (fun j => j = b) w1 wr) (fun i _ => N - (intOf i).toNat)
  case atStart =>
    refine ⟨0, by omega, rfl, z.syn, ?_, H0.out.1.2.2.2.2.1, H1.out.2.2.2.2.1, Kept.refl _ _⟩
    rw [keepP_zero]
    exact (mgS_none fun _ _ => rfl).symm
  case round =>
    obtain ⟨k, hkN, rfl, S, hS, hS64, hbS, hkx⟩ := hrel
    rename World => wx
    by_cases hlt : k < N
    · have hLne : L ≠ [] := by rintro rfl; have := H1.out.2.2.1; simp at this; omega
      obtain ⟨bL, oL, rfl, hcL⟩ := IntsAt.get H1.out.2.1 hLne
      have hbl := (HROW.out.lt bL rfl).1
      have hkl : k < L.length := by rw [H1.out.2.2.1]; exact hlt
      obtain ⟨pk, rk, hpk0, hpl, hwk⟩ := dirty_at (wr := z.wr) (j := k) (by rw [H0.out.2.2.2.2.2.2]; exact hkl)
      have hpk : L[k]? = some (pk : Int) := by rw [← hpk0, ← List.getElem?_eq_getElem (l := dirtyL z.wr) (i := k) (by rw [H0.out.2.2.2.2.2.2]; exact hkl), H0.out.2.2.2.2.2.2]
      have hpn : pk < z.syn.length := by rw [← H0.out.1.2.2.2.1]; exact hpl
      have hsl := H0.out.1.2.2.2.2.2.1
      have hbw := H0.out.1.2.1.lt
      have hne := H0.out.1.2.2.2.2.2.2.2
      have xL := hkx.cell (hcL k hkl) (show ¬ (bL = b) by omega)
      rw [show L[k] = (pk : Int) from Option.some.inj ((List.getElem?_eq_getElem hkl).symm.trans hpk)] at xL
      have hk2 : k < N ∧ N ≤ 4096 := ⟨hlt, hL4⟩
      have hwx : Kept (fun j => j = b) w wx := (Kept.of_grown (F := fun j => j = b) H1.out.1 (fun _ e => by cases e)).next hkx (fun _ _ h => h)
      by_cases hy : keep[k]? = some true
      · have hkk : k < n := by rw [← H0.out.2.1]; exact (List.getElem?_eq_some_iff.1 hy).1
        obtain ⟨bK, oK, rfl, hcK⟩ := H0.out.2.2.1 (by rintro rfl; simp at hy)
        have hkb := H0.out.2.2.2.1 _ rfl (by rintro rfl; simp at hy)
        have xK := hwx.cell (hcK k (by rw [H0.out.2.1]; exact hkk)) (show ¬ (bK = b) from hkb)
        rw [show keep[k]'(by rw [H0.out.2.1]; exact hkk) = true from (List.getElem?_eq_some_iff.1 hy).2] at xK
        have hownx := (H0.out.2.2.2.2.1.kept H1.out.1 (by simp)).kept (row := some b) ⟨hkx.os, hkx.tape, hkx.output, hkx.size, fun j h1 h2 => hkx.block j h1 (fun e => h2 (by rw [e]))⟩ (by intro e; injection e with e; exact hne.2.2 e.symm)
        have hlook := dk_look hownx H0.out.2.2.2.2.2.1 hwk (by omega)
        obtain ⟨cs, hcs⟩ : ∃ cs, (rk.map (Value.int .u8)).toArray = cs := ⟨_, rfl⟩
        have hsec : secV rk = .agg cs := by rw [secV, hcs]
        have hcz : cs.size = 64 := by rw [← hcs]; simpa using hlook.2
        have hc1 : cs.all (·.oneCell') = true := by rw [← hcs]; simp [Array.all_eq_true_iff_forall_mem, Value.oneCell']
        have hSl : S.length = z.syn.length := by rw [hS, mgS_length]
        have hcz2 : cs.toList.length = 64 := by rw [Array.length_toList, hcz]
        have hS1 : Blk (wx.drew.setCells b (pk * 64) cs.toList) b 36 (rowsC (S.set pk rk)).toArray := by
          rw [rowsC_set S hS64 pk (by omega) rk hlook.2]
          have e : rk.map (Value.int .u8) = cs.toList := by rw [← hcs]
          rw [e]
          exact blk_setCells b _ cs.toList (pk * 64) _ _ hbS.drew (by rw [rowsC_len S hS64, hcz2]; omega)
        have hgS : wx.grownBy (wx.drew.setCells b (pk * 64) cs.toList) (some b) := grown_cells b _ _ _ (grown_drew (World.grownBy.refl wx (some b)))
        have hk3 : Kept (fun j => j = b) w1 (wx.drew.setCells b (pk * 64) cs.toList) := hkx.next (Kept.of_grown (F := fun j => j = b) hgS (fun j e => (Option.some.inj e).symm)) (fun j _ h => h)
        have hS2 : S.set pk rk = mgS z.syn z.wr (keepP L keep (k + 1)) := by
          rw [hS]
          exact (mgS_step hwk (keepP_yes hpk hy) (fun i hi => keepP_other hpk hi)).symm
        have hthere : wx.drew.there b (pk * 64) 64 := fun j hj => by
          refine ⟨?_, hbS.drew.frozen _⟩
          rw [hbS.drew.cell, List.getElem?_toArray, List.getElem?_eq_getElem (by rw [rowsC_len S hS64]; omega)]; rfl
        have hdx := (H0.out.1.1.grown H1.out.1 (by simp)).kept hkx (show ¬ (d = b) from hne.1)
        have hs : ∀ Y, Blk Y d 62 #[.slice (some ⟨b, 0, none⟩) z.syn.length z.syn.length, .map (some m), .bool z.off, .int .i64 z.lasts] → Y.ownsMap Tryd.prog 3 (secR 64) m 5000 D → (Y.cell? ⟨d, 0, none⟩ = some (.slice (some ⟨b, 0, none⟩) z.syn.length z.syn.length) ∧ Y.cell? ⟨d, 1, none⟩ = some (.map (some m)) ∧ (Instr.lookup 60 (.map (some m)) (.int .i64 (pk : Int)) false).run Tryd.prog Y = .ok (.agg cs) Y) := fun Y h1 h2 => ⟨h1.cell 0, h1.cell 1, by rw [(dk_look h2 H0.out.2.2.2.2.2.1 hwk (by omega)).1, hsec]⟩
        have hs1 := hs _ hdx.drew (hownx.kept (grown_drew (World.grownBy.refl wx none)) (by simp))
        have hs2 := hs _ (hdx.grown hgS (by intro e; injection e with e; exact hne.1 e)) (hownx.kept hgS (by intro e; injection e with e; exact hne.2.2 e.symm))
        have HW := Lib.hid (And.intro hS1 (And.intro hk3 (And.intro hS2 (And.intro hthere (And.intro (show ∀ r' ∈ S.set pk rk, r'.length = 64 from fun r' h => by rcases List.mem_or_eq_of_mem_set h with h | rfl; exact hS64 _ h; exact hlook.2) (And.intro hs1 hs2))))))
        have HV := Lib.hid (And.intro hcz hc1)
        have hpb : 0 ≤ (pk : Int) ∧ (pk : Int) < (z.syn.length : Int) := by omega
        have e3 : decide ((k : Int) < (N : Int)) = true := by simp; omega
        have e4 : decide ((k : Int) < (n : Int)) = true := by simp; omega
        clear hLne hcL hbl hkl hpk hpk0 hpl hwk hpn hsl hbw hne hcK hkb hownx hlook hcs hsec hcz hc1 hSl hcz2 hS1 hgS hk3 hS2 hthere hdx hs hs1 hs2 hS hS64 hbS hkx hwx hy
        gi_upto_region 4 with fail
        rename_i K8 hK8
        refine wpIn_normal ?_
        refine wpIn_region_held_wide (S := fun Y => Y.cell? ⟨d, 0, none⟩ = some (.slice (some ⟨b, 0, none⟩) z.syn.length z.syn.length) ∧ Y.cell? ⟨d, 1, none⟩ = some (.map (some m)) ∧ (Instr.lookup 60 (.map (some m)) (.int .i64 (pk : Int)) false).run Tryd.prog Y = .ok (.agg cs) Y) (by kernel_rfl) (by kernel_rfl) (by rintro ⟨_, _, h, _⟩; cases h) HW.out.2.2.2.2.2.1 (fun hHeld => ?_)
        refine wpAnyH_take (i := 0) (oi := _) (v := ?vz0) rfl (by kernel_rfl) (by kernel_rfl) (by kernel_rfl) (fun _ _ _ h => by cases h.1) (Or.inl ⟨by rfl, ?hyz0⟩) (by assumption) ?restz0
        case hyz0 => (intro V hSw; (try dsimp only at hSw); go_simp) <;> with_reducible rfl
        try simp only [Act.put, List.getElem_toArray, List.getElem_cons_succ, List.getElem_cons_zero, List.setIfInBounds_toArray, List.set_cons_zero, List.set_cons_succ]
        refine wpAnyH_take (i := 1) (oi := _) (v := ?vz1) rfl (by kernel_rfl) (by kernel_rfl) (by kernel_rfl) (fun _ _ _ h => by cases h.1) (Or.inl ⟨by rfl, ?hyz1⟩) (by assumption) ?restz1
        case hyz1 => (intro V hSw; (try dsimp only at hSw); go_simp) <;> with_reducible rfl
        try simp only [Act.put, List.getElem_toArray, List.getElem_cons_succ, List.getElem_cons_zero, List.setIfInBounds_toArray, List.set_cons_zero, List.set_cons_succ]
        refine wpAnyH_take (i := 2) (oi := _) (v := ?vz2) rfl (by kernel_rfl) (by kernel_rfl) (by kernel_rfl) (fun _ _ _ h => by cases h.1) (Or.inl ⟨by rfl, ?hyz2⟩) (by assumption) ?restz2
        case hyz2 => (intro V hSw; (try dsimp only at hSw); go_simp) <;> with_reducible rfl
        try simp only [Act.put, List.getElem_toArray, List.getElem_cons_succ, List.getElem_cons_zero, List.setIfInBounds_toArray, List.set_cons_zero, List.set_cons_succ]
        refine wpAnyH_take (i := 3) (oi := _) (v := ?vz3) rfl (by kernel_rfl) (by kernel_rfl) (by kernel_rfl) (fun _ _ _ h => by cases h.1) (Or.inl ⟨by rfl, ?hyz3⟩) (by assumption) ?restz3
        case hyz3 => (intro V hSw; (try dsimp only at hSw); go_simp) <;> with_reducible rfl
        try simp only [Act.put, List.getElem_toArray, List.getElem_cons_succ, List.getElem_cons_zero, List.setIfInBounds_toArray, List.set_cons_zero, List.set_cons_succ]
        refine wpAnyH_take (i := 4) (oi := _) (v := ?vz4) rfl (by kernel_rfl) (by kernel_rfl) (by kernel_rfl) (fun _ _ _ h => by cases h.1) (Or.inl ⟨by rfl, ?hyz4⟩) (by assumption) ?restz4
        case hyz4 => (intro V hSw; (try dsimp only at hSw); go_simp) <;> with_reducible rfl
        try simp only [Act.put, List.getElem_toArray, List.getElem_cons_succ, List.getElem_cons_zero, List.setIfInBounds_toArray, List.set_cons_zero, List.set_cons_succ]
        refine wpAnyH_take (i := 5) (oi := _) (v := ?vz5) rfl (by kernel_rfl) (by kernel_rfl) (by kernel_rfl) (fun _ _ _ h => by cases h.1) (Or.inl ⟨by rfl, ?hyz5⟩) (by assumption) ?restz5
        case hyz5 => (intro V hSw; (try dsimp only at hSw); go_simp) <;> with_reducible rfl
        try simp only [Act.put, List.getElem_toArray, List.getElem_cons_succ, List.getElem_cons_zero, List.setIfInBounds_toArray, List.set_cons_zero, List.set_cons_succ]
        refine wpAnyH_take (i := 6) (oi := _) (v := ?vz6) rfl (by kernel_rfl) (by kernel_rfl) (by kernel_rfl) (fun _ _ _ h => by cases h.1) (Or.inl ⟨by rfl, ?hyz6⟩) (by assumption) ?restz6
        case hyz6 => (intro V hSw; (try dsimp only at hSw); go_simp) <;> with_reducible rfl
        try simp only [Act.put, List.getElem_toArray, List.getElem_cons_succ, List.getElem_cons_zero, List.setIfInBounds_toArray, List.set_cons_zero, List.set_cons_succ]
        refine wpAnyH_take (i := 7) (oi := _) (v := ?vz7) rfl (by kernel_rfl) (by kernel_rfl) (by kernel_rfl) (fun _ _ _ h => by cases h.1) (Or.inl ⟨by rfl, ?hyz7⟩) (by assumption) ?restz7
        case hyz7 => (intro V hSw; (try dsimp only at hSw); go_simp) <;> with_reducible rfl
        try simp only [Act.put, List.getElem_toArray, List.getElem_cons_succ, List.getElem_cons_zero, List.setIfInBounds_toArray, List.set_cons_zero, List.set_cons_succ]
        refine wpAnyH_take (i := 8) (oi := _) (v := ?vz8) rfl (by kernel_rfl) (by kernel_rfl) (by kernel_rfl) (fun _ _ _ h => by cases h.1) (Or.inl ⟨by rfl, ?hyz8⟩) (by assumption) ?restz8
        case hyz8 => (intro V hSw; (try dsimp only at hSw); go_simp) <;> with_reducible rfl
        try simp only [Act.put, List.getElem_toArray, List.getElem_cons_succ, List.getElem_cons_zero, List.setIfInBounds_toArray, List.set_cons_zero, List.set_cons_succ]
        refine wpAnyH_take (i := 9) (oi := _) (v := ?vz9) rfl (by kernel_rfl) (by kernel_rfl) (by kernel_rfl) (fun _ _ _ h => by cases h.1) (Or.inl ⟨by rfl, ?hyz9⟩) (by assumption) ?restz9
        case hyz9 => (intro V hSw; (try dsimp only at hSw); go_simp) <;> with_reducible rfl
        try simp only [Act.put, List.getElem_toArray, List.getElem_cons_succ, List.getElem_cons_zero, List.setIfInBounds_toArray, List.set_cons_zero, List.set_cons_succ]
        refine wpAnyH_take (i := 10) (oi := _) (v := ?vz10) rfl (by kernel_rfl) (by kernel_rfl) (by kernel_rfl) (fun _ _ _ h => by cases h.1) (Or.inl ⟨by rfl, ?hyz10⟩) (by assumption) ?restz10
        case hyz10 => (intro V hSw; (try dsimp only at hSw); go_simp) <;> with_reducible rfl
        try simp only [Act.put, List.getElem_toArray, List.getElem_cons_succ, List.getElem_cons_zero, List.setIfInBounds_toArray, List.set_cons_zero, List.set_cons_succ]
        refine wpAnyH_take (i := 11) (oi := _) (v := ?vz11) rfl (by kernel_rfl) (by kernel_rfl) (by kernel_rfl) (fun _ _ _ h => by cases h.1) (Or.inl ⟨by rfl, ?hyz11⟩) (by assumption) ?restz11
        case hyz11 => (intro V hSw; (try dsimp only at hSw); go_simp) <;> with_reducible rfl
        try simp only [Act.put, List.getElem_toArray, List.getElem_cons_succ, List.getElem_cons_zero, List.setIfInBounds_toArray, List.set_cons_zero, List.set_cons_succ]
        refine wpAnyH_ready (rs := [12]) (by kernel_rfl) (by simp) ?_
        refine (AllReadyH.cons (o := _) rfl (fun K9 hK => ?_) AllReadyH.nil)
        refine ready_store_mid (by rfl) 36 _ _ rfl b (pk * 64) cs rfl rfl (by rw [HV.out.1]; exact HW.out.2.2.2.1) (by rw [HV.out.1]; kernel_rfl) HV.out.2 ?_
        refine hK.out _ _ HW.out.2.2.2.2.2.2 (fun hHeld => ?_)
        clear hK K9
        try simp only [Act.put, List.getElem_toArray, List.getElem_cons_succ, List.getElem_cons_zero, List.setIfInBounds_toArray, List.set_cons_zero, List.set_cons_succ]
        refine wpAnyH_done (by kernel_rfl) ?_ _
        refine ⟨rfl, hK8 _ _ ?_⟩
        gi_wp2
        go_roundw
        case rel => exact ⟨k + 1, by omega, by simp, S.set pk rk, HW.out.2.2.1, HW.out.2.2.2.2.1, HW.out.1, HW.out.2.1⟩
        case measure => simp [intOf]; omega
      · have hno : keepP L keep (k + 1) = keepP L keep k := keepP_no hy
        have e3 : decide ((k : Int) < (N : Int)) = true := by simp; omega
        have HW := Lib.hid (And.intro hno (And.intro hS (And.intro hS64 (And.intro hbS hkx))))
        by_cases hkk : k < n
        · obtain ⟨bK, oK, rfl, hcK⟩ := H0.out.2.2.1 (by rintro rfl; have := H0.out.2.1; simp at this; omega)
          have hkl2 : k < keep.length := by rw [H0.out.2.1]; exact hkk
          have hkb := H0.out.2.2.2.1 _ rfl (by rintro rfl; simp at hkl2)
          have xK := hwx.cell (hcK k hkl2) (show ¬ (bK = b) from hkb)
          rw [show keep[k] = false by cases e : keep[k] with | false => rfl | true => exact absurd ((List.getElem?_eq_getElem hkl2).trans (by rw [e])) hy] at xK
          have e4 : decide ((k : Int) < (n : Int)) = true := by simp; omega
          clear hLne hcL hbl hkl hpk hpk0 hpl hwk hpn hsl hbw hne hcK hkb hS hS64 hbS hkx hwx hy hno hkl2
          gi_wp2
          go_roundw
          case rel => exact ⟨k + 1, by omega, by simp, S, by rw [HW.out.1]; exact HW.out.2.1, HW.out.2.2.1, HW.out.2.2.2.1, HW.out.2.2.2.2⟩
          case measure => simp [intOf]; omega
        · have e4 : decide ((k : Int) < (n : Int)) = false := by simp; omega
          clear hLne hcL hbl hkl hpk hpk0 hpl hwk hpn hsl hbw hne hS hS64 hbS hkx hwx hy hno
          gi_wp2
          go_roundw
          case rel => exact ⟨k + 1, by omega, by simp, S, by rw [HW.out.1]; exact HW.out.2.1, HW.out.2.2.1, HW.out.2.2.2.1, HW.out.2.2.2.2⟩
          case measure => simp [intOf]; omega

    · have e3 : decide ((k : Int) < (N : Int)) = false := by simp; omega
      obtain rfl : k = N := by omega
      obtain ⟨h1, _, _, hl, _, hlen, hlasts, hne⟩ := H0.out.1
      have hdx := (h1.grown H1.out.1 (by simp)).kept hkx (show ¬ (d = b) from hne.1)
      have hownx := (H0.out.2.2.2.2.1.kept H1.out.1 (by simp)).kept (row := some b) ⟨hkx.os, hkx.tape, hkx.output, hkx.size, fun j h1 h2 => hkx.block j h1 (fun e => h2 (by rw [e]))⟩ (by intro e; injection e with e; exact hne.2.2 e.symm)
      obtain ⟨w5, hrun5, hown5, ht5⟩ := clear_own hownx Tryd.underlying60 0
      have hk5 : Kept (fun j => j = m) wx w5 := Kept.of_grown (F := fun j => j = m) ht5.grown (fun j e => (Option.some.inj e).symm)
      have hd5 := hdx.kept hk5 (fun e => hne.2.1 e)
      have hb5 := hbS.kept hk5 (fun e => hne.2.2 e)
      have hkw : Kept (fun j => j = d ∨ j = b ∨ j = m) w w5 := ((Kept.of_grown (F := fun j => j = d ∨ j = b ∨ j = m) H1.out.1 (fun _ e => by cases e)).next hkx (fun _ _ h => .inr (.inl h))).next hk5 (fun _ _ h => .inr (.inr h))
      have c1 := hdx.cell 1
      have f2 := hd5.frozen 2
      have x2 := hd5.cell 2
      have x3 := hd5.cell 3
      have f3 := hd5.frozen 3
      simp only [List.getElem?_toArray, List.getElem?_cons_zero, List.getElem?_cons_succ] at c1 x2 x3
      have hK2 : Kept (fun j => j = d) w5 ((w5.setCell ⟨d, 2, none⟩ (.bool false)).setCell ⟨d, 3, none⟩ (.int .i64 (-1))) := ((Kept.refl (fun j => j = d) w5).set (p := ⟨d, 2, none⟩) (.inl rfl) _).set (p := ⟨d, 3, none⟩) (.inl rfl) _
      have hd6 := (hd5.set 2 (.bool false)).set 3 (.int .i64 (-1))
      simp only [List.setIfInBounds_toArray, List.set_cons_zero, List.set_cons_succ] at hd6
      have hb6 := hb5.kept hK2 (fun e => hne.1 e.symm)
      have hm6 := hown5.kept (row := some d) ⟨hK2.os, hK2.tape, hK2.output, hK2.size, fun j h1 h2 => hK2.block j h1 (fun e => h2 (by rw [e]))⟩ (by intro e; injection e with e; exact hne.2.1 e.symm)
      have hsl : (crashS z keep).syn.length = z.syn.length := mgS_length _ _ _
      have hSe : S = (crashS z keep).syn := by rw [hS]; show _ = mgS z.syn z.wr (keepP (dirtyL z.wr) keep (dirtyL z.wr).length); rw [H0.out.2.2.2.2.2.2, H1.out.2.2.1]
      have hfin : DkIs ((w5.setCell ⟨d, 2, none⟩ (.bool false)).setCell ⟨d, 3, none⟩ (.int .i64 (-1))) d b m (crashS z keep) := by
        refine ⟨by rw [hsl]; exact hd6, ?_, ⟨_, hm6.mono (by omega), mapOf_empty _⟩, by rw [hsl, ← hl]; simp [crashS], by rw [← hSe]; exact hS64, by rw [hsl]; exact hlen, by simp [crashS], hne⟩
        show Blk _ b _ (rowsC (crashS z keep).syn).toArray
        rw [← hSe]
        exact hb6
      have HF := Lib.hid (And.intro hfin (hkw.next hK2 (fun _ _ h => .inl h)))
      clear h1 hl hlen hlasts hne hdx hownx hown5 ht5 hk5 hd5 hb5 hkw hK2 hd6 hb6 hm6 hsl hSe hfin hS hS64 hbS hkx hlt hkN
      gi_wp2
      exact ⟨rfl, _, results_none rfl _ _ _, rfl, HF.out⟩
end Go.Proofs.YtmecimhlnajaoaaDoor
