/-
  quorateref04.Path.
-/
import Derived.Test.YtobmpdpcjaaklaaDoorTrS
namespace Go.Proofs.YtobmpdpcjaaklaaDoor
open Go.RowKit

/-- What the document's way up is, in memory. -/
def wayV (ps : List (List Int)) (I : Nat) (k : Nat) : Array Value := arrV .u8 (wayC ps I k)
theorem info16p : (Tryd.prog.info? 25).map (fun i => (i.zero, i.size, i.bytes)) = some (some (.agg (arrV .u8 (List.replicate 16 0))), 16, 16) := by kernel_rfl
theorem wp_bslice_run {P : Program} {o : Oper} {a : Act} {w w' : World} {K : Act → World → Prop} {Q : Exit → Act → World → Prop} (t : TypeId) (len : Nat) (i : Nat) (x : Operand) (ho : o.op = .buildSlice t len #[(i, x)]) (u V : Value) (hx : a.eval x = u)
    (hr : Sem.run P (Instr.buildSlice t len #[(i, u)]) w = .ok V w') (h : K (a.put o.dst V) w') : o.wp P a w K Q := by
  have hm : (#[(i, x)] : Array (Nat × Operand)).map (fun (i, x) => (i, a.eval x)) = #[(i, u)] := by simp [hx]
  unfold Oper.wp execOp
  simp only [ho, Sem.run_bind, hm, hr, Result.andThen_ok]
  exact h
theorem wayV_size {ps : List (List Int)} (hps : ∀ p ∈ ps, isDig p) (I k : Nat) : (wayV ps I k).size = 16 := by rw [wayV, arr_size]; exact (wayC_dig hps _ _).1

set_option maxRecDepth 100000 in
set_option maxHeartbeats 4000000 in
theorem rpath_is (ps : List (List Int)) (hps : ∀ p ∈ ps, isDig p) (I : Nat) : ∀ (h j : Nat) (w : World) (b off c n o : Nat) (i : Int), n = 2 ^ h → o = off + j * n * 16 → h ≤ 5 → (j + 1) * n ≤ ps.length → n ≤ c → I / n = j → i = (I : Int) - (j * n : Nat) → DigsAt w b off ps →
    Calls Tryd.prog 15 #[.slice (some ⟨b, o, none⟩) n c, .int .i64 i] w fun e w' => ∃ v, e = .returned v ∧ w'.ownsRow w.heap.size 25 16 v h (rowV (wayV ps I) h) ∧ w.grownBy w' none := by
  intro h
  induction h with
  | zero =>
    intro j w b off c n o i hn ho _ hl hc hj hi hD
    have h1 : n = 1 := by rw [hn, Nat.pow_zero]
    subst h1
    have hown := World.ownsRow_lit (base := w.heap.size) (e := 25) (size := 16) w #[] 0 (Nat.le_refl _) (by decide) rfl
    have HO := Lib.hid hown
    clear hn ho hl hc hj hi hD hown
    go_enter Tryd.func15, Tryd.ntmps15
    go_wp2_with fail
    go_ret
    exact ⟨_, rfl, HO.out, World.grownBy_alloc w _ none⟩
  | succ h ih =>
    intro j w b off c n o i hn ho h5 hl hc hj hi hD
    obtain ⟨m, hm⟩ : ∃ m, m = 2 ^ h := ⟨_, rfl⟩
    have hnm : n = 2 * m := by rw [hn, hm, Nat.pow_succ]; omega
    have hm1 : 1 ≤ m := by rw [hm]; exact Nat.one_le_two_pow
    have hm2 : m ≤ 32 := by
      have : h = 0 ∨ h = 1 ∨ h = 2 ∨ h = 3 ∨ h = 4 := by omega
      rcases this with rfl | rfl | rfl | rfl | rfl <;> simp_all
    obtain ⟨i0, hi0, hz0, hz1, hz2⟩ := info_parts info16p
    have HI0 := Lib.hid (And.intro hi0 (And.intro hz0 (And.intro hz1 hz2)))
    obtain ⟨e1, e2, o1, o2, hjn⟩ := halves hnm hl ho
    obtain ⟨hev, hod⟩ := halfway hnm hm1 hj hjn hi
    clear hi hj
    have sl1 := fun V => digs_lo V b o n c m (by omega)
    have sl2 := fun V => digs_hi V b o n c m (by omega) (by omega)
    have hnm3 : n - m = m := by omega
    rw [hnm3] at sl2
    clear hnm3
    obtain ⟨dn, dn2⟩ := not_one hnm
    have HBS := Lib.hid (show ∀ (es : Array Value), es.size = 16 → ∀ V : World, Sem.run Tryd.prog (Instr.buildSlice 22 1 #[(0, .agg es)]) V = .ok (.slice (some ⟨V.heap.size, 0, none⟩) 1 1) (V.alloc (.cells es 25)) from fun es he V =>
      run_slice_one V 22 25 es Tryd.underlying22 (by rw [he]; exact info16) (by rw [he]; kernel_rfl) (by omega) (by omega))
    by_cases hlt : I / m % 2 = 0
    · obtain ⟨hIm, him0, him1, hi1⟩ := hev hlt
      have dlt : decide (i < (m : Int)) = true := by simp; exact him1
      clear hev hod
      obtain ⟨fs, hfs⟩ : ∃ fs, fs = arrV .u8 (nodeC ps h (2 * j + 1)) := ⟨_, rfl⟩
      have hw : fs = wayV ps I h := by rw [hfs, wayV, wayC, ← hm, hIm, sib_even]
      have R1 := Lib.hid (fun (V : World) (hV : w.grownBy V none) => ih (2 * j) V b off c m o i hm o1 (by omega) e1 (by omega) hIm hi1 (hD.grown hV))
      have R2 := Lib.hid (fun (V : World) (hV : w.grownBy V none) => rroot_is ps hps h (2 * j + 1) V b off (c - m) m (o + m * 16) fs hm o2 (by omega) e2 (by omega) (hD.grown hV) hfs)
      have HF := Lib.hid (And.intro (show fs.size = 16 by rw [hfs, arr_size]; exact (nodeC_dig hps _ _).1) (And.intro (show (fs.all fun v => v.oneCell') = true by rw [hfs]; exact arr_one _ _) hw))
      have HM := Lib.hid h5
      obtain ⟨hquo, hquo2, hwm, _⟩ := half_of hnm hm2
      clear hi0 hz0 hz1 hz2 ho hl hc hD hn hnm hm hm1 hm2 e1 e2 o1 o2 hjn hIm hi1 hfs hw ih h5 hlt
      go_enter Tryd.func15, Tryd.ntmps15
      go_wp2_with fail
      have HG0 := Lib.hid (grown_drew (World.grownBy.refl w none))
      refine wp_region_held_drew (S := fun _ => True) (by kernel_rfl) trivial (fun hHeld => ?_)
      refine wpAnyH_take (i := 0) (oi := _) (v := ?v0a) rfl (by kernel_rfl) (by kernel_rfl) (by kernel_rfl) (fun _ _ _ h => h) (Or.inl ⟨by rfl, ?hy0a⟩) (by assumption) ?rest0a
      case hy0a => (intro V hSw; (try dsimp only at hSw); go_simp) <;> with_reducible rfl
      simp only [Act.put, List.getElem_toArray, List.getElem_cons_zero, List.setIfInBounds_toArray, List.set_cons_zero, List.set_cons_succ]
      refine wpAnyH_take (i := 1) (oi := _) (v := ?v1a) rfl (by kernel_rfl) (by kernel_rfl) (by kernel_rfl) (fun _ _ _ h => h) (Or.inl ⟨by rfl, ?hy1a⟩) (by assumption) ?rest1a
      case hy1a => (intro V hSw; (try dsimp only at hSw); go_simp) <;> with_reducible rfl
      simp only [Act.put, List.getElem_toArray, List.getElem_cons_succ, List.getElem_cons_zero, List.setIfInBounds_toArray, List.set_cons_zero, List.set_cons_succ]
      refine wpAnyH_take (i := 2) (oi := _) (v := ?v2a) rfl (by kernel_rfl) (by kernel_rfl) (by kernel_rfl) (fun _ _ _ h => h) (Or.inl ⟨by rfl, ?hy2a⟩) (by assumption) ?rest2a
      case hy2a => (intro V hSw; (try dsimp only at hSw); go_simp) <;> with_reducible rfl
      simp only [Act.put, List.getElem_toArray, List.getElem_cons_succ, List.getElem_cons_zero, List.setIfInBounds_toArray, List.set_cons_zero, List.set_cons_succ]
      refine wpAnyH_take (i := 3) (oi := _) (v := ?v3a) rfl (by kernel_rfl) (by kernel_rfl) (by kernel_rfl) (fun _ _ _ h => h) (Or.inl ⟨by rfl, ?hy3a⟩) (by assumption) ?rest3a
      case hy3a => (intro V hSw; (try dsimp only at hSw); go_simp) <;> with_reducible rfl
      simp only [Act.put, List.getElem_toArray, List.getElem_cons_succ, List.getElem_cons_zero, List.setIfInBounds_toArray, List.set_cons_zero, List.set_cons_succ]
      refine wpAnyH_take (i := 5) (oi := _) (v := ?v5a) rfl (by kernel_rfl) (by kernel_rfl) (by kernel_rfl) (fun _ _ _ h => h) (Or.inl ⟨by rfl, ?hy5a⟩) (by assumption) ?rest5a
      case hy5a => (intro V hSw; (try dsimp only at hSw); go_simp) <;> with_reducible rfl
      simp only [Act.put, List.getElem_toArray, List.getElem_cons_succ, List.getElem_cons_zero, List.setIfInBounds_toArray, List.set_cons_zero, List.set_cons_succ]
      refine wpAnyH_take (i := 6) (oi := _) (v := ?v6a) rfl (by kernel_rfl) (by kernel_rfl) (by kernel_rfl) (fun _ _ _ h => h) (Or.inl ⟨by rfl, ?hy6a⟩) (by assumption) ?rest6a
      case hy6a => (intro V hSw; (try dsimp only at hSw); go_simp) <;> with_reducible rfl
      simp only [Act.put, List.getElem_toArray, List.getElem_cons_succ, List.getElem_cons_zero, List.setIfInBounds_toArray, List.set_cons_zero, List.set_cons_succ]
      refine wpAnyH_take (i := 7) (oi := _) (v := ?v7a) rfl (by kernel_rfl) (by kernel_rfl) (by kernel_rfl) (fun _ _ _ h => h) (Or.inl ⟨by rfl, ?hy7a⟩) (by assumption) ?rest7a
      case hy7a => (intro V hSw; (try dsimp only at hSw); go_simp) <;> with_reducible rfl
      simp only [Act.put, List.getElem_toArray, List.getElem_cons_succ, List.getElem_cons_zero, List.setIfInBounds_toArray, List.set_cons_zero, List.set_cons_succ]
      refine wpAnyH_ready (rs := [4]) (by kernel_rfl) (by simp) ?_
      refine AllReadyH.cons (o := _) rfl (fun K hK => ?_) AllReadyH.nil
      go_simp
      refine (R1.out _ HG0.out).mono ?_
      rintro e w1 ⟨v, rfl, ho1, hk1⟩
      obtain ⟨A1, cap1, rfl⟩ := own_slice _ ho1
      have HK1 := Lib.hid (grown_trans HG0.out hk1)
      have HO1 := Lib.hid ho1
      clear hk1 ho1
      go_wp2_with fail
      refine hK.out _ _ (trivial) (fun hHeld => ?_)
      clear hK K
      try simp only [Act.put, List.setIfInBounds_toArray, List.set_cons_zero, List.set_cons_succ]
      refine wpAnyH_ready (rs := [8]) (by kernel_rfl) (by simp) ?_
      refine AllReadyH.cons (o := _) rfl (fun K hK => ?_) AllReadyH.nil
      go_simp
      refine (R2.out _ HK1.out).mono ?_
      rintro e w2 ⟨rfl, hk2⟩
      have HK2 := Lib.hid (grown_trans HK1.out hk2)
      have HO2 := Lib.hid (own_keep HO1.out hk2)
      clear hk2
      go_wp2_with fail
      refine hK.out _ _ (trivial) (fun hHeld => ?_)
      clear hK K
      try simp only [Act.put, List.setIfInBounds_toArray, List.set_cons_zero, List.set_cons_succ]
      refine wpAnyH_ready (rs := [9]) (by kernel_rfl) (by simp) ?_
      refine AllReadyH.cons (o := _) rfl (fun K hK => ?_) AllReadyH.nil
      rw [if_pos (by rfl)]
      refine wp_bslice_run 22 1 0 _ rfl (.agg fs) _ rfl (HBS.out fs HF.out.1 w2) ?_
      refine hK.out _ _ (trivial) (fun hHeld => ?_)
      clear hK K
      try simp only [Act.put, List.setIfInBounds_toArray, List.set_cons_zero, List.set_cons_succ]
      refine wpAnyH_ready (rs := [10]) (by kernel_rfl) (by simp) ?_
      refine AllReadyH.cons (o := _) rfl (fun K hK => ?_) AllReadyH.nil
      rw [if_pos (by rfl)]
      have HB2 := Lib.hid (Blk.new w2 25 fs)
      refine wp_append_own _ _ _ 22 rfl w.heap.size 25 i0 _ 16 16 Tryd.underlying22 HI0.out.1 HI0.out.2.1 HI0.out.2.2.1 HI0.out.2.2.2 rfl (by decide) (.slice A1 h cap1) _ _ rfl (HO2.out.alloc _) ⟨w2.heap.size, 0, none⟩ 1 1 fs.toList rfl (show fs.toList.length = 1 * 16 by rw [Array.length_toList]; exact HF.out.1) (fun j u hu => by rw [addr_zero_add, HB2.out.cell j, ← Array.getElem?_toList]; exact hu) (fun u hu => (Array.all_eq_true_iff_forall_mem.1 HF.out.2.1) u (by simpa using hu)) (by have := HM.out; simp only [maxLen]; omega) (by have := HM.out; omega) (by rw [World.size_alloc]; have := HK2.out.size; omega) ?_
      intro v' w5 hown5 hgrow5 _
      obtain ⟨A5, cap5, rfl⟩ := own_slice _ hown5
      have HX5 := Lib.hid (And.intro hown5 hgrow5)
      clear hown5 hgrow5
      refine hK.out _ _ (trivial) (fun hHeld => ?_)
      clear hK K
      try simp only [Act.put, List.setIfInBounds_toArray, List.set_cons_zero, List.set_cons_succ]
      refine wpAnyH_ready (rs := [11]) (by kernel_rfl) (by simp) ?_
      refine AllReadyH.cons (o := _) rfl (fun K hK => ?_) AllReadyH.nil
      go_simp
      refine hK.out _ _ trivial (fun _ => ?_)
      refine wpAnyH_done (by kernel_rfl) ?_ _
      go_wp2_with fail
      go_ret
      have h1 : w5.ownsRow w.heap.size 25 16 (.slice A5 (h + 1) cap5) (h + 1) (rowV (wayV ps I) (h + 1)) := by
        rw [rowV, ← HF.out.2.2]; exact HX5.out.1
      have hgr := grown_trans (grown_weak (World.grownBy_alloc w2 (.cells fs 25) none) _) HX5.out.2
      exact ⟨_, rfl, h1, grown_own_r HK2.out hgr HO2.out (Nat.le_refl _)⟩
    · obtain ⟨hIm, him0, him1, hi1⟩ := hod hlt
      clear hev hod
      have dlt : decide (i < (m : Int)) = false := by simp; omega
      have hwi := Lib.hid (show IntKind.i64.wrap (i - (m : Int)) = i - (m : Int) by rw [IntKind.wrap_i64]; omega)
      obtain ⟨fs, hfs⟩ : ∃ fs, fs = arrV .u8 (nodeC ps h (2 * j)) := ⟨_, rfl⟩
      have hw : fs = wayV ps I h := by rw [hfs, wayV, wayC, ← hm, hIm, sib_odd]
      have R1 := Lib.hid (fun (V : World) (hV : w.grownBy V none) => ih (2 * j + 1) V b off (c - m) m (o + m * 16) (i - (m : Int)) hm o2 (by omega) e2 (by omega) hIm hi1 (hD.grown hV))
      have R2 := Lib.hid (fun (V : World) (hV : w.grownBy V none) => rroot_is ps hps h (2 * j) V b off c m o fs hm o1 (by omega) e1 (by omega) (hD.grown hV) hfs)
      have HF := Lib.hid (And.intro (show fs.size = 16 by rw [hfs, arr_size]; exact (nodeC_dig hps _ _).1) (And.intro (show (fs.all fun v => v.oneCell') = true by rw [hfs]; exact arr_one _ _) hw))
      have HM := Lib.hid h5
      obtain ⟨hquo, hquo2, hwm, _⟩ := half_of hnm hm2
      clear hi0 hz0 hz1 hz2 ho hl hc hD hn hnm hm hm1 hm2 e1 e2 o1 o2 hjn hIm hi1 hfs hw ih h5 hlt
      replace hwi := hwi.out
      go_enter Tryd.func15, Tryd.ntmps15
      go_wp2_with fail
      have HG0 := Lib.hid (grown_drew (World.grownBy.refl w none))
      refine wp_region_held_drew (S := fun _ => True) (by kernel_rfl) trivial (fun hHeld => ?_)
      refine wpAnyH_take (i := 0) (oi := _) (v := ?v0b) rfl (by kernel_rfl) (by kernel_rfl) (by kernel_rfl) (fun _ _ _ h => h) (Or.inl ⟨by rfl, ?hy0b⟩) (by assumption) ?rest0b
      case hy0b => (intro V hSw; (try dsimp only at hSw); go_simp) <;> with_reducible rfl
      simp only [Act.put, List.getElem_toArray, List.getElem_cons_zero, List.setIfInBounds_toArray, List.set_cons_zero, List.set_cons_succ]
      refine wpAnyH_take (i := 1) (oi := _) (v := ?v1b) rfl (by kernel_rfl) (by kernel_rfl) (by kernel_rfl) (fun _ _ _ h => h) (Or.inl ⟨by rfl, ?hy1b⟩) (by assumption) ?rest1b
      case hy1b => (intro V hSw; (try dsimp only at hSw); go_simp) <;> with_reducible rfl
      simp only [Act.put, List.getElem_toArray, List.getElem_cons_succ, List.getElem_cons_zero, List.setIfInBounds_toArray, List.set_cons_zero, List.set_cons_succ]
      refine wpAnyH_take (i := 2) (oi := _) (v := ?v2b) rfl (by kernel_rfl) (by kernel_rfl) (by kernel_rfl) (fun _ _ _ h => h) (Or.inl ⟨by rfl, ?hy2b⟩) (by assumption) ?rest2b
      case hy2b => (intro V hSw; (try dsimp only at hSw); go_simp) <;> with_reducible rfl
      simp only [Act.put, List.getElem_toArray, List.getElem_cons_succ, List.getElem_cons_zero, List.setIfInBounds_toArray, List.set_cons_zero, List.set_cons_succ]
      refine wpAnyH_take (i := 3) (oi := _) (v := ?v3b) rfl (by kernel_rfl) (by kernel_rfl) (by kernel_rfl) (fun _ _ _ h => h) (Or.inl ⟨by rfl, ?hy3b⟩) (by assumption) ?rest3b
      case hy3b => (intro V hSw; (try dsimp only at hSw); go_simp) <;> with_reducible rfl
      simp only [Act.put, List.getElem_toArray, List.getElem_cons_succ, List.getElem_cons_zero, List.setIfInBounds_toArray, List.set_cons_zero, List.set_cons_succ]
      refine wpAnyH_take (i := 4) (oi := _) (v := ?v4b) rfl (by kernel_rfl) (by kernel_rfl) (by kernel_rfl) (fun _ _ _ h => h) (Or.inl ⟨by rfl, ?hy4b⟩) (by assumption) ?rest4b
      case hy4b => (intro V hSw; (try dsimp only at hSw); go_simp) <;> with_reducible rfl
      simp only [Act.put, List.getElem_toArray, List.getElem_cons_succ, List.getElem_cons_zero, List.setIfInBounds_toArray, List.set_cons_zero, List.set_cons_succ]
      refine wpAnyH_take (i := 5) (oi := _) (v := ?v5b) rfl (by kernel_rfl) (by kernel_rfl) (by kernel_rfl) (fun _ _ _ h => h) (Or.inl ⟨by rfl, ?hy5b⟩) (by assumption) ?rest5b
      case hy5b => (intro V hSw; (try dsimp only at hSw); go_simp) <;> with_reducible rfl
      simp only [Act.put, List.getElem_toArray, List.getElem_cons_succ, List.getElem_cons_zero, List.setIfInBounds_toArray, List.set_cons_zero, List.set_cons_succ]
      refine wpAnyH_take (i := 7) (oi := _) (v := ?v7b) rfl (by kernel_rfl) (by kernel_rfl) (by kernel_rfl) (fun _ _ _ h => h) (Or.inl ⟨by rfl, ?hy7b⟩) (by assumption) ?rest7b
      case hy7b => (intro V hSw; (try dsimp only at hSw); go_simp) <;> with_reducible rfl
      simp only [Act.put, List.getElem_toArray, List.getElem_cons_succ, List.getElem_cons_zero, List.setIfInBounds_toArray, List.set_cons_zero, List.set_cons_succ]
      refine wpAnyH_take (i := 8) (oi := _) (v := ?v8b) rfl (by kernel_rfl) (by kernel_rfl) (by kernel_rfl) (fun _ _ _ h => h) (Or.inl ⟨by rfl, ?hy8b⟩) (by assumption) ?rest8b
      case hy8b => (intro V hSw; (try dsimp only at hSw); go_simp) <;> with_reducible rfl
      simp only [Act.put, List.getElem_toArray, List.getElem_cons_succ, List.getElem_cons_zero, List.setIfInBounds_toArray, List.set_cons_zero, List.set_cons_succ]
      refine wpAnyH_take (i := 9) (oi := _) (v := ?v9b) rfl (by kernel_rfl) (by kernel_rfl) (by kernel_rfl) (fun _ _ _ h => h) (Or.inl ⟨by rfl, ?hy9b⟩) (by assumption) ?rest9b
      case hy9b => (intro V hSw; (try dsimp only at hSw); go_simp) <;> with_reducible rfl
      simp only [Act.put, List.getElem_toArray, List.getElem_cons_succ, List.getElem_cons_zero, List.setIfInBounds_toArray, List.set_cons_zero, List.set_cons_succ]
      refine wpAnyH_ready (rs := [6]) (by kernel_rfl) (by simp) ?_
      refine AllReadyH.cons (o := _) rfl (fun K hK => ?_) AllReadyH.nil
      go_simp
      refine (R1.out _ HG0.out).mono ?_
      rintro e w1 ⟨v, rfl, ho1, hk1⟩
      obtain ⟨A1, cap1, rfl⟩ := own_slice _ ho1
      have HK1 := Lib.hid (grown_trans HG0.out hk1)
      have HO1 := Lib.hid ho1
      clear hk1 ho1
      go_wp2_with fail
      refine hK.out _ _ (trivial) (fun hHeld => ?_)
      clear hK K
      try simp only [Act.put, List.setIfInBounds_toArray, List.set_cons_zero, List.set_cons_succ]
      refine wpAnyH_ready (rs := [10]) (by kernel_rfl) (by simp) ?_
      refine AllReadyH.cons (o := _) rfl (fun K hK => ?_) AllReadyH.nil
      go_simp
      refine (R2.out _ HK1.out).mono ?_
      rintro e w2 ⟨rfl, hk2⟩
      have HK2 := Lib.hid (grown_trans HK1.out hk2)
      have HO2 := Lib.hid (own_keep HO1.out hk2)
      clear hk2
      go_wp2_with fail
      refine hK.out _ _ (trivial) (fun hHeld => ?_)
      clear hK K
      try simp only [Act.put, List.setIfInBounds_toArray, List.set_cons_zero, List.set_cons_succ]
      refine wpAnyH_ready (rs := [11]) (by kernel_rfl) (by simp) ?_
      refine AllReadyH.cons (o := _) rfl (fun K hK => ?_) AllReadyH.nil
      rw [if_pos (by rfl)]
      refine wp_bslice_run 22 1 0 _ rfl (.agg fs) _ rfl (HBS.out fs HF.out.1 w2) ?_
      refine hK.out _ _ (trivial) (fun hHeld => ?_)
      clear hK K
      try simp only [Act.put, List.setIfInBounds_toArray, List.set_cons_zero, List.set_cons_succ]
      refine wpAnyH_ready (rs := [12]) (by kernel_rfl) (by simp) ?_
      refine AllReadyH.cons (o := _) rfl (fun K hK => ?_) AllReadyH.nil
      rw [if_pos (by rfl)]
      have HB2 := Lib.hid (Blk.new w2 25 fs)
      refine wp_append_own _ _ _ 22 rfl w.heap.size 25 i0 _ 16 16 Tryd.underlying22 HI0.out.1 HI0.out.2.1 HI0.out.2.2.1 HI0.out.2.2.2 rfl (by decide) (.slice A1 h cap1) _ _ rfl (HO2.out.alloc _) ⟨w2.heap.size, 0, none⟩ 1 1 fs.toList rfl (show fs.toList.length = 1 * 16 by rw [Array.length_toList]; exact HF.out.1) (fun j u hu => by rw [addr_zero_add, HB2.out.cell j, ← Array.getElem?_toList]; exact hu) (fun u hu => (Array.all_eq_true_iff_forall_mem.1 HF.out.2.1) u (by simpa using hu)) (by have := HM.out; simp only [maxLen]; omega) (by have := HM.out; omega) (by rw [World.size_alloc]; have := HK2.out.size; omega) ?_
      intro v' w5 hown5 hgrow5 _
      obtain ⟨A5, cap5, rfl⟩ := own_slice _ hown5
      have HX5 := Lib.hid (And.intro hown5 hgrow5)
      clear hown5 hgrow5
      refine hK.out _ _ (trivial) (fun hHeld => ?_)
      clear hK K
      try simp only [Act.put, List.setIfInBounds_toArray, List.set_cons_zero, List.set_cons_succ]
      refine wpAnyH_ready (rs := [13]) (by kernel_rfl) (by simp) ?_
      refine AllReadyH.cons (o := _) rfl (fun K hK => ?_) AllReadyH.nil
      go_simp
      refine hK.out _ _ trivial (fun _ => ?_)
      refine wpAnyH_done (by kernel_rfl) ?_ _
      go_wp2_with fail
      go_ret
      have h1 : w5.ownsRow w.heap.size 25 16 (.slice A5 (h + 1) cap5) (h + 1) (rowV (wayV ps I) (h + 1)) := by
        rw [rowV, ← HF.out.2.2]; exact HX5.out.1
      have hgr := grown_trans (grown_weak (World.grownBy_alloc w2 (.cells fs 25) none) _) HX5.out.2
      exact ⟨_, rfl, h1, grown_own_r HK2.out hgr HO2.out (Nat.le_refl _)⟩
end Go.Proofs.YtobmpdpcjaaklaaDoor
