/-
  quorateref04.Root and quorateref04.Path.
-/
import Derived.Test.YtobmpdpcjaaklaaDoorTrP
import Derived.Test.YtobmpdpcjaaklaaDoorDiA
namespace Go.Proofs.YtobmpdpcjaaklaaDoor
open Go.RowKit

theorem size_run {P : Program} {t : TypeId} {n : Nat} (w : World) (h : (P.info? t).map (·.size) = some n) : Sem.run P (sizeOf t) w = .ok n w := by
  cases hq : P.info? t with
  | none => simp [hq] at h
  | some i =>
    have : i.size = n := by simpa [hq] using h
    simp [sizeOf, typeInfo, hq, this]
theorem digs_lo (V : World) (b o n c m : Nat) (h : m ≤ c) : Sem.run Tryd.prog (Instr.sliceAt 22 (.slice (some ⟨b, o, none⟩) n c) none (some (.int .i64 (m : Int))) none) V = .ok (.slice (some ⟨b, o, none⟩) m c) V := by
  have hu : Tryd.prog.underlying 22 = some (.slice (Tryd.prog.elem 22)) := by kernel_rfl
  have he : Tryd.prog.elem 22 = 25 := by kernel_rfl
  rw [run_sliceAt_slice _ _ _ _ _ _ hu, run_slice_h _ _ _ _ _ hu .i64 (m : Int) (by omega) (by omega), he, size_run V info16]
  simp [Result.andThen, sliced, Addr.add]
theorem digs_hi (V : World) (b o n c m : Nat) (h : m ≤ n) (hc : m < c) : Sem.run Tryd.prog (Instr.sliceAt 22 (.slice (some ⟨b, o, none⟩) n c) (some (.int .i64 (m : Int))) none none) V = .ok (.slice (some ⟨b, o + m * 16, none⟩) (n - m) (c - m)) V := by
  have hu : Tryd.prog.underlying 22 = some (.slice (Tryd.prog.elem 22)) := by kernel_rfl
  have he : Tryd.prog.elem 22 = 25 := by kernel_rfl
  have hne : ¬ c = m := by omega
  rw [run_sliceAt_slice _ _ _ _ _ _ hu, run_slice_l _ _ _ _ _ hu .i64 (m : Int) (by omega) (by omega), he, size_run V info16]
  simp [Result.andThen, sliced, Addr.add, hne]

theorem not_one {n m : Nat} (h : n = 2 * m) : ((n : Int) == 1) = false ∧ ¬ n = 1 := ⟨by simp; omega, by omega⟩
theorem half_of {n m : Nat} (h : n = 2 * m) (h1 : m ≤ 32) : (n : Int).tdiv 2 = (m : Int) ∧ (n : Int) / 2 = (m : Int) ∧ wrap64 (m : Int) = (m : Int) ∧ n - m = m :=
  ⟨by rw [Int.tdiv_eq_ediv_of_nonneg (by omega)]; omega, by omega, w64 _ (by omega), by omega⟩
theorem halves {n m j L off o : Nat} (hnm : n = 2 * m) (hl : (j + 1) * n ≤ L) (ho : o = off + j * n * 16) : (2 * j + 1) * m ≤ L ∧ (2 * j + 1 + 1) * m ≤ L ∧ o = off + 2 * j * m * 16 ∧ o + m * 16 = off + (2 * j + 1) * m * 16 ∧ j * n = 2 * j * m := by
  have e0 : j * n = 2 * j * m := by rw [hnm, ← Nat.mul_assoc, Nat.mul_comm j 2]
  have e3 : (2 * j + 1 + 1) * m = (j + 1) * n := by rw [hnm, show 2 * j + 1 + 1 = (j + 1) * 2 by omega, Nat.mul_assoc]
  have e4 : (2 * j + 1 + 1) * m = (2 * j + 1) * m + m := by rw [Nat.add_mul (2 * j + 1) 1 m, Nat.one_mul]
  have o1 : o = off + 2 * j * m * 16 := by rw [ho, e0]
  exact ⟨by omega, by omega, o1, by rw [o1, Nat.add_mul, Nat.one_mul, Nat.add_mul, Nat.add_assoc], e0⟩

theorem sib_even (j : Nat) : sib (2 * j) = 2 * j + 1 := by rw [sib, if_pos (by omega)]
theorem sib_odd (j : Nat) : sib (2 * j + 1) = 2 * j := by rw [sib, if_neg (by omega)]; omega
theorem halfway {n m j I : Nat} {i : Int} (hnm : n = 2 * m) (hm1 : 1 ≤ m) (hj : I / n = j) (hjn : j * n = 2 * j * m) (hi : i = (I : Int) - (j * n : Nat)) :
    (I / m % 2 = 0 → I / m = 2 * j ∧ 0 ≤ i ∧ i < (m : Int) ∧ i = (I : Int) - ((2 * j * m : Nat) : Int)) ∧
    (¬ I / m % 2 = 0 → I / m = 2 * j + 1 ∧ (m : Int) ≤ i ∧ i < 2 * (m : Int) ∧ i - (m : Int) = (I : Int) - (((2 * j + 1) * m : Nat) : Int)) := by
  have hq : I / m / 2 = j := by rw [Nat.div_div_eq_div_mul, Nat.mul_comm m 2, ← hnm]; exact hj
  have hI := Nat.div_add_mod I m
  have hr := Nat.mod_lt I (show 0 < m by omega)
  have e1 : 2 * j * m = 2 * (j * m) := Nat.mul_assoc _ _ _
  have e2 : (2 * j + 1) * m = 2 * (j * m) + m := by rw [Nat.add_mul, Nat.one_mul, e1]
  rw [hjn, e1] at hi
  rw [e1, e2]
  clear hj hjn hnm e1 e2
  generalize I % m = r at *
  generalize I / m = q at *
  refine ⟨fun hp => ?_, fun hp => ?_⟩
  · have e : q = 2 * j := by omega
    have e3 : m * q = 2 * (j * m) := by rw [e, Nat.mul_comm m, Nat.mul_assoc]
    rw [e3] at hI
    generalize j * m = P at *
    exact ⟨e, by omega, by omega, by omega⟩
  · have e : q = 2 * j + 1 := by omega
    have e3 : m * q = 2 * (j * m) + m := by rw [e, Nat.mul_add, Nat.mul_one, Nat.mul_comm m, Nat.mul_assoc]
    rw [e3] at hI
    generalize j * m = P at *
    exact ⟨e, by omega, by omega, by omega⟩

set_option maxRecDepth 100000 in
set_option maxHeartbeats 4000000 in
theorem rroot_is (ps : List (List Int)) (hps : ∀ p ∈ ps, isDig p) : ∀ (h j : Nat) (w : World) (b off c n o : Nat) (rs : Array Value), n = 2 ^ h → o = off + j * n * 16 → h ≤ 5 → (j + 1) * n ≤ ps.length → n ≤ c → DigsAt w b off ps → rs = arrV .u8 (nodeC ps h j) →
    Calls Tryd.prog 12 #[.slice (some ⟨b, o, none⟩) n c] w fun e w' => e = .returned (.agg rs) ∧ w.grownBy w' none := by
  intro h
  induction h with
  | zero =>
    intro j w b off c n o rs hn ho _ hl hc hD hrs
    have h1 : n = 1 := by rw [hn, Nat.pow_zero]
    subst h1
    clear hn
    obtain ⟨Z16, hZ16⟩ : ∃ Z, Z = arrV .u8 (List.replicate 16 0) := ⟨_, rfl⟩
    have hz16 : ∀ w, Sem.run Tryd.prog (zeroValue 25) w = .ok (.agg Z16) w := fun w => by rw [hZ16]; exact z16run w
    have hpd := getD_dig hps j
    have hs : rs.size = 16 := by rw [hrs, nodeC, arr_size]; exact hpd.1
    obtain ⟨el, hel⟩ : ∃ el, el = rs.toList := ⟨_, rfl⟩
    have hr : (w.alloc (.cells Z16 25)).rangeAt b o el := by
      rw [hel, hrs, nodeC, ho, Nat.mul_one]
      exact range_grown (hD j (by omega)) (World.grownBy_alloc w _ none)
    have HE := Lib.hid (And.intro hr (And.intro (show (Tryd.prog.info? 25).map (·.size) = some el.length by rw [hel, Array.length_toList, hs]; exact info16) (show el.toArray = rs by rw [hel, Array.toArray_toList])))
    have HS := Lib.hid (And.intro hs (And.intro (show (rs.all fun v => v.oneCell') = true by rw [hrs]; exact arr_one _ _) (show Z16.size = 16 by rw [hZ16]; rfl)))
    clear hZ16 hpd hs hr hel hrs ho hl hc hD
    go_enter Tryd.func12, Tryd.ntmps12
    go_wp2_with (first
      | (refine wpList_load_mid rfl 25 _ rfl b _ rfl el _ HE.out.1 Tryd.underlying25 rfl HE.out.2.1 ?_; rw [HE.out.2.2])
      | (refine wpList_store_row rfl 25 _ _ rfl w.heap.size rs rfl rfl 25 _ (heap_alloc_new w _) (by rw [HS.out.1]; exact info16) (by rw [HS.out.2.2, HS.out.1]) HS.out.2.1 ?_))
    refine bodyPost_ret (results_cell rfl _ _ _ ⟨w.heap.size, 0, none⟩ (.agg rs) rfl (run_loadVar_row _ w.heap.size 25 25 rs (0, 0) _ ((Blk.new w 25 Z16).row rs) Tryd.underlying25 rfl (by rw [HS.out.1]; exact info16))) rfl ?_
    exact ⟨rfl, grown_row (World.grownBy_alloc w _ none) (.inl (Nat.le_refl _)) rs⟩
  | succ h ih =>
    intro j w b off c n o rs hn ho h5 hl hc hD hrs
    obtain ⟨m, hm⟩ : ∃ m, m = 2 ^ h := ⟨_, rfl⟩
    have hnm : n = 2 * m := by rw [hn, hm, Nat.pow_succ]; omega
    have hm1 : 1 ≤ m := by rw [hm]; exact Nat.one_le_two_pow
    have hm2 : m ≤ 32 := by
      have : h = 0 ∨ h = 1 ∨ h = 2 ∨ h = 3 ∨ h = 4 := by omega
      rcases this with rfl | rfl | rfl | rfl | rfl <;> simp_all
    obtain ⟨Z16, hZ16⟩ : ∃ Z, Z = arrV .u8 (List.replicate 16 0) := ⟨_, rfl⟩
    have hz16 : ∀ w, Sem.run Tryd.prog (zeroValue 25) w = .ok (.agg Z16) w := fun w => by rw [hZ16]; exact z16run w
    obtain ⟨es, hes⟩ : ∃ es, es = arrV .u8 (nodeC ps h (2 * j)) := ⟨_, rfl⟩
    obtain ⟨fs, hfs⟩ : ∃ fs, fs = arrV .u8 (nodeC ps h (2 * j + 1)) := ⟨_, rfl⟩
    have hs : rs.size = 16 := by rw [hrs, arr_size]; exact (nodeC_dig hps _ _).1
    obtain ⟨e1, e2, o1, o2, hjn⟩ := halves hnm hl ho
    have R1 := Lib.hid (fun (V : World) (hV : w.grownBy V none) => ih (2 * j) V b off c m o es hm o1 (by omega) e1 (by omega) (hD.grown hV) hes)
    have R2 := Lib.hid (fun (V : World) (hV : w.grownBy V none) => ih (2 * j + 1) V b off (c - m) m (o + m * 16) fs hm o2 (by omega) e2 (by omega) (hD.grown hV) hfs)
    have R3 := Lib.hid (fun (V : World) => rjoin_is V (nodeC ps h (2 * j)) (nodeC ps h (2 * j + 1)) (nodeC_dig hps _ _) (nodeC_dig hps _ _) es fs rs hes hfs (by rw [hrs, nodeC]))
    have sl1 := fun V => digs_lo V b o n c m (by omega)
    have sl2 := fun V => digs_hi V b o n c m (by omega) (by omega)
    obtain ⟨hquo, hquo2, hwm, hnm2⟩ := half_of hnm hm2
    rw [hnm2] at sl2
    clear hnm2
    obtain ⟨dn, dn2⟩ := not_one hnm
    have HS := Lib.hid (And.intro hs (And.intro (show (rs.all fun v => v.oneCell') = true by rw [hrs]; exact arr_one _ _) (show Z16.size = 16 by rw [hZ16]; rfl)))
    have HM := Lib.hid (And.intro hnm hm1)
    clear hZ16 hs hrs ho hl hc hD hn hnm hm hm1 hm2 e1 e2 o1 o2 hjn hes hfs ih h5
    go_enter Tryd.func12, Tryd.ntmps12
    go_wp2_with fail
    have HG0 := Lib.hid (grown_drew (World.grownBy_alloc w (.cells Z16 25) none))
    have HB0 := Lib.hid (Blk.new w 25 Z16).drew
    refine wp_region_held_drew (S := fun _ => True) (by kernel_rfl) trivial (fun hHeld => ?_)
    refine wpAnyH_take (i := 0) (oi := _) (v := ?v0) rfl (by kernel_rfl) (by kernel_rfl) (by kernel_rfl) (fun _ _ _ h => h) (Or.inl ⟨by rfl, ?hy0⟩) (by assumption) ?rest0
    case hy0 => (intro V hSw; (try dsimp only at hSw); go_simp) <;> with_reducible rfl
    simp only [Act.put, List.getElem_toArray, List.getElem_cons_zero, List.setIfInBounds_toArray, List.set_cons_zero, List.set_cons_succ]
    refine wpAnyH_take (i := 1) (oi := _) (v := ?v1) rfl (by kernel_rfl) (by kernel_rfl) (by kernel_rfl) (fun _ _ _ h => h) (Or.inl ⟨by rfl, ?hy1⟩) (by assumption) ?rest1
    case hy1 => (intro V hSw; (try dsimp only at hSw); go_simp) <;> with_reducible rfl
    simp only [Act.put, List.getElem_toArray, List.getElem_cons_succ, List.getElem_cons_zero, List.setIfInBounds_toArray, List.set_cons_zero, List.set_cons_succ]
    refine wpAnyH_take (i := 2) (oi := _) (v := ?v2) rfl (by kernel_rfl) (by kernel_rfl) (by kernel_rfl) (fun _ _ _ h => h) (Or.inl ⟨by rfl, ?hy2⟩) (by assumption) ?rest2
    case hy2 => (intro V hSw; (try dsimp only at hSw); go_simp) <;> with_reducible rfl
    simp only [Act.put, List.getElem_toArray, List.getElem_cons_succ, List.getElem_cons_zero, List.setIfInBounds_toArray, List.set_cons_zero, List.set_cons_succ]
    refine wpAnyH_take (i := 4) (oi := _) (v := ?v4) rfl (by kernel_rfl) (by kernel_rfl) (by kernel_rfl) (fun _ _ _ h => h) (Or.inl ⟨by rfl, ?hy4⟩) (by assumption) ?rest4
    case hy4 => (intro V hSw; (try dsimp only at hSw); go_simp) <;> with_reducible rfl
    simp only [Act.put, List.getElem_toArray, List.getElem_cons_succ, List.getElem_cons_zero, List.setIfInBounds_toArray, List.set_cons_zero, List.set_cons_succ]
    refine wpAnyH_take (i := 5) (oi := _) (v := ?v5) rfl (by kernel_rfl) (by kernel_rfl) (by kernel_rfl) (fun _ _ _ h => h) (Or.inl ⟨by rfl, ?hy5⟩) (by assumption) ?rest5
    case hy5 => (intro V hSw; (try dsimp only at hSw); go_simp) <;> with_reducible rfl
    simp only [Act.put, List.getElem_toArray, List.getElem_cons_succ, List.getElem_cons_zero, List.setIfInBounds_toArray, List.set_cons_zero, List.set_cons_succ]
    refine wpAnyH_take (i := 6) (oi := _) (v := ?v6) rfl (by kernel_rfl) (by kernel_rfl) (by kernel_rfl) (fun _ _ _ h => h) (Or.inl ⟨by rfl, ?hy6⟩) (by assumption) ?rest6
    case hy6 => (intro V hSw; (try dsimp only at hSw); go_simp) <;> with_reducible rfl
    simp only [Act.put, List.getElem_toArray, List.getElem_cons_succ, List.getElem_cons_zero, List.setIfInBounds_toArray, List.set_cons_zero, List.set_cons_succ]
    refine wpAnyH_ready (rs := [3]) (by kernel_rfl) (by simp) ?_
    refine AllReadyH.cons (o := _) rfl (fun K hK => ?_) AllReadyH.nil
    go_simp
    refine (R1.out _ HG0.out).mono ?_
    rintro e w1 ⟨rfl, hk1⟩
    have HK1 := Lib.hid (grown_trans HG0.out hk1)
    have HB1 := Lib.hid (HB0.out.grown hk1 (by simp))
    clear hk1
    go_wp2_with fail
    refine hK.out _ _ (trivial) (fun hHeld => ?_)
    clear hK K
    try simp only [Act.put, List.setIfInBounds_toArray, List.set_cons_zero, List.set_cons_succ]
    refine wpAnyH_ready (rs := [7]) (by kernel_rfl) (by simp) ?_
    refine AllReadyH.cons (o := _) rfl (fun K hK => ?_) AllReadyH.nil
    go_simp
    refine (R2.out _ HK1.out).mono ?_
    rintro e w2 ⟨rfl, hk2⟩
    have HK2 := Lib.hid (grown_trans HK1.out hk2)
    have HB2 := Lib.hid (HB1.out.grown hk2 (by simp))
    clear hk2
    go_wp2_with fail
    refine hK.out _ _ (trivial) (fun hHeld => ?_)
    clear hK K
    try simp only [Act.put, List.setIfInBounds_toArray, List.set_cons_zero, List.set_cons_succ]
    refine wpAnyH_ready (rs := [8]) (by kernel_rfl) (by simp) ?_
    refine AllReadyH.cons (o := _) rfl (fun K hK => ?_) AllReadyH.nil
    go_simp
    refine (R3.out _).mono ?_
    rintro e w3 ⟨rfl, hk3⟩
    have HK3 := Lib.hid (grown_trans HK2.out hk3)
    have HB3 := Lib.hid (HB2.out.grown hk3 (by simp))
    clear hk3
    go_wp2_with fail
    refine hK.out _ _ (trivial) (fun hHeld => ?_)
    clear hK K
    try simp only [Act.put, List.setIfInBounds_toArray, List.set_cons_zero, List.set_cons_succ]
    refine wpAnyH_ready (rs := [9]) (by kernel_rfl) (by simp) ?_
    refine AllReadyH.cons (o := _) rfl (fun K hK => ?_) AllReadyH.nil
    rw [if_pos (by rfl)]
    refine wp_store_row _ _ _ rfl w.heap.size rs rfl rfl 25 _ HB3.out (by rw [HS.out.1]; exact info16) (by rw [HS.out.2.2, HS.out.1]) HS.out.2.1 ?_
    refine hK.out _ _ trivial (fun _ => ?_)
    refine wpAnyH_done (by kernel_rfl) ?_ _
    go_wp2_with fail
    refine bodyPost_ret (results_cell rfl _ _ _ ⟨w.heap.size, 0, none⟩ (.agg rs) rfl (run_loadVar_row _ w.heap.size 25 25 rs (0, 0) _ (HB3.out.row rs) Tryd.underlying25 rfl (by rw [HS.out.1]; exact info16))) rfl ?_
    exact ⟨rfl, grown_row HK3.out (.inl (Nat.le_refl _)) rs⟩

end Go.Proofs.YtobmpdpcjaaklaaDoor
