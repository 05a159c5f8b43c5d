/-
  Several texts in one: TrS, TrV.
-/
import Derived.Test.YtpldegdcachlmaaDoorTrT1
import Derived.Test.YtpldegdcachlmaaDoorDiA
/-
  quorateref04.Root and quorateref04.Path.
-/
namespace Go.Proofs.YtpldegdcachlmaaDoor
open Go.RowKit

theorem size_run {P : Program} {t : TypeId} {n : Nat} (w : World) (h : (P.info? t).map (·.size) = some n) : Sem.run P (sizeOf t) w = .ok n w := by
  cases hq : P.info? t with
  | none => simp [hq] at h
  | some i =>
    have : i.size = n := by simpa [hq] using h
    simp [sizeOf, typeInfo, hq, this]
theorem digs_lo (V : World) (b o n c m : Nat) (h : m ≤ c) : Sem.run Tryd.prog (Instr.sliceAt 27 (.slice (some ⟨b, o, none⟩) n c) none (some (.int .i64 (m : Int))) none) V = .ok (.slice (some ⟨b, o, none⟩) m c) V := by
  have hu : Tryd.prog.underlying 27 = some (.slice (Tryd.prog.elem 27)) := by kernel_rfl
  have he : Tryd.prog.elem 27 = 23 := by kernel_rfl
  rw [run_sliceAt_slice _ _ _ _ _ _ hu, run_slice_h _ _ _ _ _ hu .i64 (m : Int) (by omega) (by omega), he, size_run V info16]
  simp [Result.andThen, sliced, Addr.add]
theorem digs_hi (V : World) (b o n c m : Nat) (h : m ≤ n) (hc : m < c) : Sem.run Tryd.prog (Instr.sliceAt 27 (.slice (some ⟨b, o, none⟩) n c) (some (.int .i64 (m : Int))) none none) V = .ok (.slice (some ⟨b, o + m * 16, none⟩) (n - m) (c - m)) V := by
  have hu : Tryd.prog.underlying 27 = some (.slice (Tryd.prog.elem 27)) := by kernel_rfl
  have he : Tryd.prog.elem 27 = 23 := by kernel_rfl
  have hne : ¬ c = m := by omega
  rw [run_sliceAt_slice _ _ _ _ _ _ hu, run_slice_l _ _ _ _ _ hu .i64 (m : Int) (by omega) (by omega), he, size_run V info16]
  simp [Result.andThen, sliced, Addr.add, hne]

theorem not_one {n m : Nat} (h : n = 2 * m) : ((n : Int) == 1) = false ∧ ¬ n = 1 := ⟨by simp; omega, by omega⟩
theorem half_of {n m : Nat} (h : n = 2 * m) (h1 : m ≤ 32) : (n : Int).tdiv 2 = (m : Int) ∧ (n : Int) / 2 = (m : Int) ∧ wrap64 (m : Int) = (m : Int) ∧ n - m = m :=
  ⟨by rw [Int.tdiv_eq_ediv_of_nonneg (by omega)]; omega, by omega, w64 _ (by omega), by omega⟩
theorem halves {n m j L off o : Nat} (hnm : n = 2 * m) (hl : (j + 1) * n ≤ L) (ho : o = off + j * n * 16) : (2 * j + 1) * m ≤ L ∧ (2 * j + 1 + 1) * m ≤ L ∧ o = off + 2 * j * m * 16 ∧ o + m * 16 = off + (2 * j + 1) * m * 16 ∧ j * n = 2 * j * m := by
  have e0 : j * n = 2 * j * m := by rw [hnm, ← Nat.mul_assoc, Nat.mul_comm j 2]
  have e3 : (2 * j + 1 + 1) * m = (j + 1) * n := by rw [hnm, show 2 * j + 1 + 1 = (j + 1) * 2 by omega, Nat.mul_assoc]
  have e4 : (2 * j + 1 + 1) * m = (2 * j + 1) * m + m := by rw [Nat.add_mul (2 * j + 1) 1 m, Nat.one_mul]
  have o1 : o = off + 2 * j * m * 16 := by rw [ho, e0]
  exact ⟨by omega, by omega, o1, by rw [o1, Nat.add_mul, Nat.one_mul, Nat.add_mul, Nat.add_assoc], e0⟩

theorem sib_even (j : Nat) : sib (2 * j) = 2 * j + 1 := by rw [sib, if_pos (by omega)]
theorem sib_odd (j : Nat) : sib (2 * j + 1) = 2 * j := by rw [sib, if_neg (by omega)]; omega
theorem halfway {n m j I : Nat} {i : Int} (hnm : n = 2 * m) (hm1 : 1 ≤ m) (hj : I / n = j) (hjn : j * n = 2 * j * m) (hi : i = (I : Int) - (j * n : Nat)) :
    (I / m % 2 = 0 → I / m = 2 * j ∧ 0 ≤ i ∧ i < (m : Int) ∧ i = (I : Int) - ((2 * j * m : Nat) : Int)) ∧
    (¬ I / m % 2 = 0 → I / m = 2 * j + 1 ∧ (m : Int) ≤ i ∧ i < 2 * (m : Int) ∧ i - (m : Int) = (I : Int) - (((2 * j + 1) * m : Nat) : Int)) := by
  have hq : I / m / 2 = j := by rw [Nat.div_div_eq_div_mul, Nat.mul_comm m 2, ← hnm]; exact hj
  have hI := Nat.div_add_mod I m
  have hr := Nat.mod_lt I (show 0 < m by omega)
  have e1 : 2 * j * m = 2 * (j * m) := Nat.mul_assoc _ _ _
  have e2 : (2 * j + 1) * m = 2 * (j * m) + m := by rw [Nat.add_mul, Nat.one_mul, e1]
  rw [hjn, e1] at hi
  rw [e1, e2]
  clear hj hjn hnm e1 e2
  generalize I % m = r at *
  generalize I / m = q at *
  refine ⟨fun hp => ?_, fun hp => ?_⟩
  · have e : q = 2 * j := by omega
    have e3 : m * q = 2 * (j * m) := by rw [e, Nat.mul_comm m, Nat.mul_assoc]
    rw [e3] at hI
    generalize j * m = P at *
    exact ⟨e, by omega, by omega, by omega⟩
  · have e : q = 2 * j + 1 := by omega
    have e3 : m * q = 2 * (j * m) + m := by rw [e, Nat.mul_add, Nat.mul_one, Nat.mul_comm m, Nat.mul_assoc]
    rw [e3] at hI
    generalize j * m = P at *
    exact ⟨e, by omega, by omega, by omega⟩

set_option maxRecDepth 100000 in
set_option maxHeartbeats 4000000 in
theorem rroot_is (ps : List (List Int)) (hps : ∀ p ∈ ps, isDig p) : ∀ (h j : Nat) (w : World) (b off c n o : Nat) (rs : Array Value), n = 2 ^ h → o = off + j * n * 16 → h ≤ 5 → (j + 1) * n ≤ ps.length → n ≤ c → DigsAt w b off ps → rs = arrV .u8 (nodeC ps h j) →
    Calls Tryd.prog 13 #[.slice (some ⟨b, o, none⟩) n c] w fun e w' => e = .returned (.agg rs) ∧ w.grownBy w' none := by
  intro h
  induction h with
  | zero =>
    intro j w b off c n o rs hn ho _ hl hc hD hrs
    have h1 : n = 1 := by rw [hn, Nat.pow_zero]
    subst h1
    clear hn
    obtain ⟨Z16, hZ16⟩ : ∃ Z, Z = arrV .u8 (List.replicate 16 0) := ⟨_, rfl⟩
    have hz16 : ∀ w, Sem.run Tryd.prog (zeroValue 23) w = .ok (.agg Z16) w := fun w => by rw [hZ16]; exact z16run w
    have hpd := getD_dig hps j
    have hs : rs.size = 16 := by rw [hrs, nodeC, arr_size]; exact hpd.1
    obtain ⟨el, hel⟩ : ∃ el, el = rs.toList := ⟨_, rfl⟩
    have hr : (w.alloc (.cells Z16 23)).rangeAt b o el := by
      rw [hel, hrs, nodeC, ho, Nat.mul_one]
      exact range_grown (hD j (by omega)) (World.grownBy_alloc w _ none)
    have HE := Lib.hid (And.intro hr (And.intro (show (Tryd.prog.info? 23).map (·.size) = some el.length by rw [hel, Array.length_toList, hs]; exact info16) (show el.toArray = rs by rw [hel, Array.toArray_toList])))
    have HS := Lib.hid (And.intro hs (And.intro (show (rs.all fun v => v.oneCell') = true by rw [hrs]; exact arr_one _ _) (show Z16.size = 16 by rw [hZ16]; rfl)))
    clear hZ16 hpd hs hr hel hrs ho hl hc hD
    go_enter Tryd.func13, Tryd.ntmps13
    go_wp2_with (first
      | (refine wpList_load_mid rfl 23 _ rfl b _ rfl el _ HE.out.1 Tryd.underlying23 rfl HE.out.2.1 ?_; rw [HE.out.2.2])
      | (refine wpList_store_row rfl 23 _ _ rfl w.heap.size rs rfl rfl 23 _ (heap_alloc_new w _) (by rw [HS.out.1]; exact info16) (by rw [HS.out.2.2, HS.out.1]) HS.out.2.1 ?_))
    refine bodyPost_ret (results_cell rfl _ _ _ ⟨w.heap.size, 0, none⟩ (.agg rs) rfl (run_loadVar_row _ w.heap.size 23 23 rs (0, 0) _ ((Blk.new w 23 Z16).row rs) Tryd.underlying23 rfl (by rw [HS.out.1]; exact info16))) rfl ?_
    exact ⟨rfl, grown_row (World.grownBy_alloc w _ none) (.inl (Nat.le_refl _)) rs⟩
  | succ h ih =>
    intro j w b off c n o rs hn ho h5 hl hc hD hrs
    obtain ⟨m, hm⟩ : ∃ m, m = 2 ^ h := ⟨_, rfl⟩
    have hnm : n = 2 * m := by rw [hn, hm, Nat.pow_succ]; omega
    have hm1 : 1 ≤ m := by rw [hm]; exact Nat.one_le_two_pow
    have hm2 : m ≤ 32 := by
      have : h = 0 ∨ h = 1 ∨ h = 2 ∨ h = 3 ∨ h = 4 := by omega
      rcases this with rfl | rfl | rfl | rfl | rfl <;> simp_all
    obtain ⟨Z16, hZ16⟩ : ∃ Z, Z = arrV .u8 (List.replicate 16 0) := ⟨_, rfl⟩
    have hz16 : ∀ w, Sem.run Tryd.prog (zeroValue 23) w = .ok (.agg Z16) w := fun w => by rw [hZ16]; exact z16run w
    obtain ⟨es, hes⟩ : ∃ es, es = arrV .u8 (nodeC ps h (2 * j)) := ⟨_, rfl⟩
    obtain ⟨fs, hfs⟩ : ∃ fs, fs = arrV .u8 (nodeC ps h (2 * j + 1)) := ⟨_, rfl⟩
    have hs : rs.size = 16 := by rw [hrs, arr_size]; exact (nodeC_dig hps _ _).1
    obtain ⟨e1, e2, o1, o2, hjn⟩ := halves hnm hl ho
    have R1 := Lib.hid (fun (V : World) (hV : w.grownBy V none) => ih (2 * j) V b off c m o es hm o1 (by omega) e1 (by omega) (hD.grown hV) hes)
    have R2 := Lib.hid (fun (V : World) (hV : w.grownBy V none) => ih (2 * j + 1) V b off (c - m) m (o + m * 16) fs hm o2 (by omega) e2 (by omega) (hD.grown hV) hfs)
    have R3 := Lib.hid (fun (V : World) => rjoin_is V (nodeC ps h (2 * j)) (nodeC ps h (2 * j + 1)) (nodeC_dig hps _ _) (nodeC_dig hps _ _) es fs rs hes hfs (by rw [hrs, nodeC]))
    have sl1 := fun V => digs_lo V b o n c m (by omega)
    have sl2 := fun V => digs_hi V b o n c m (by omega) (by omega)
    obtain ⟨hquo, hquo2, hwm, hnm2⟩ := half_of hnm hm2
    rw [hnm2] at sl2
    clear hnm2
    obtain ⟨dn, dn2⟩ := not_one hnm
    have HS := Lib.hid (And.intro hs (And.intro (show (rs.all fun v => v.oneCell') = true by rw [hrs]; exact arr_one _ _) (show Z16.size = 16 by rw [hZ16]; rfl)))
    have HM := Lib.hid (And.intro hnm hm1)
    clear hZ16 hs hrs ho hl hc hD hn hnm hm hm1 hm2 e1 e2 o1 o2 hjn hes hfs ih h5
    go_enter Tryd.func13, Tryd.ntmps13
    go_wp2_with fail
    have HG0 := Lib.hid (grown_drew (World.grownBy_alloc w (.cells Z16 23) none))
    have HB0 := Lib.hid (Blk.new w 23 Z16).drew
    refine wp_region_held_drew (S := fun _ => True) (by kernel_rfl) trivial (fun hHeld => ?_)
    refine wpAnyH_take (i := 0) (oi := _) (v := ?v0) rfl (by kernel_rfl) (by kernel_rfl) (by kernel_rfl) (fun _ _ _ h => h) (Or.inl ⟨by rfl, ?hy0⟩) (by assumption) ?rest0
    case hy0 => (intro V hSw; (try dsimp only at hSw); go_simp) <;> with_reducible rfl
    simp only [Act.put, List.getElem_toArray, List.getElem_cons_zero, List.setIfInBounds_toArray, List.set_cons_zero, List.set_cons_succ]
    refine wpAnyH_take (i := 1) (oi := _) (v := ?v1) rfl (by kernel_rfl) (by kernel_rfl) (by kernel_rfl) (fun _ _ _ h => h) (Or.inl ⟨by rfl, ?hy1⟩) (by assumption) ?rest1
    case hy1 => (intro V hSw; (try dsimp only at hSw); go_simp) <;> with_reducible rfl
    simp only [Act.put, List.getElem_toArray, List.getElem_cons_succ, List.getElem_cons_zero, List.setIfInBounds_toArray, List.set_cons_zero, List.set_cons_succ]
    refine wpAnyH_take (i := 2) (oi := _) (v := ?v2) rfl (by kernel_rfl) (by kernel_rfl) (by kernel_rfl) (fun _ _ _ h => h) (Or.inl ⟨by rfl, ?hy2⟩) (by assumption) ?rest2
    case hy2 => (intro V hSw; (try dsimp only at hSw); go_simp) <;> with_reducible rfl
    simp only [Act.put, List.getElem_toArray, List.getElem_cons_succ, List.getElem_cons_zero, List.setIfInBounds_toArray, List.set_cons_zero, List.set_cons_succ]
    refine wpAnyH_take (i := 4) (oi := _) (v := ?v4) rfl (by kernel_rfl) (by kernel_rfl) (by kernel_rfl) (fun _ _ _ h => h) (Or.inl ⟨by rfl, ?hy4⟩) (by assumption) ?rest4
    case hy4 => (intro V hSw; (try dsimp only at hSw); go_simp) <;> with_reducible rfl
    simp only [Act.put, List.getElem_toArray, List.getElem_cons_succ, List.getElem_cons_zero, List.setIfInBounds_toArray, List.set_cons_zero, List.set_cons_succ]
    refine wpAnyH_take (i := 5) (oi := _) (v := ?v5) rfl (by kernel_rfl) (by kernel_rfl) (by kernel_rfl) (fun _ _ _ h => h) (Or.inl ⟨by rfl, ?hy5⟩) (by assumption) ?rest5
    case hy5 => (intro V hSw; (try dsimp only at hSw); go_simp) <;> with_reducible rfl
    simp only [Act.put, List.getElem_toArray, List.getElem_cons_succ, List.getElem_cons_zero, List.setIfInBounds_toArray, List.set_cons_zero, List.set_cons_succ]
    refine wpAnyH_take (i := 6) (oi := _) (v := ?v6) rfl (by kernel_rfl) (by kernel_rfl) (by kernel_rfl) (fun _ _ _ h => h) (Or.inl ⟨by rfl, ?hy6⟩) (by assumption) ?rest6
    case hy6 => (intro V hSw; (try dsimp only at hSw); go_simp) <;> with_reducible rfl
    simp only [Act.put, List.getElem_toArray, List.getElem_cons_succ, List.getElem_cons_zero, List.setIfInBounds_toArray, List.set_cons_zero, List.set_cons_succ]
    refine wpAnyH_ready (rs := [3]) (by kernel_rfl) (by simp) ?_
    refine AllReadyH.cons (o := _) rfl (fun K hK => ?_) AllReadyH.nil
    go_simp
    refine (R1.out _ HG0.out).mono ?_
    rintro e w1 ⟨rfl, hk1⟩
    have HK1 := Lib.hid (grown_trans HG0.out hk1)
    have HB1 := Lib.hid (HB0.out.grown hk1 (by simp))
    clear hk1
    go_wp2_with fail
    refine hK.out _ _ (trivial) (fun hHeld => ?_)
    clear hK K
    try simp only [Act.put, List.setIfInBounds_toArray, List.set_cons_zero, List.set_cons_succ]
    refine wpAnyH_ready (rs := [7]) (by kernel_rfl) (by simp) ?_
    refine AllReadyH.cons (o := _) rfl (fun K hK => ?_) AllReadyH.nil
    go_simp
    refine (R2.out _ HK1.out).mono ?_
    rintro e w2 ⟨rfl, hk2⟩
    have HK2 := Lib.hid (grown_trans HK1.out hk2)
    have HB2 := Lib.hid (HB1.out.grown hk2 (by simp))
    clear hk2
    go_wp2_with fail
    refine hK.out _ _ (trivial) (fun hHeld => ?_)
    clear hK K
    try simp only [Act.put, List.setIfInBounds_toArray, List.set_cons_zero, List.set_cons_succ]
    refine wpAnyH_ready (rs := [8]) (by kernel_rfl) (by simp) ?_
    refine AllReadyH.cons (o := _) rfl (fun K hK => ?_) AllReadyH.nil
    go_simp
    refine (R3.out _).mono ?_
    rintro e w3 ⟨rfl, hk3⟩
    have HK3 := Lib.hid (grown_trans HK2.out hk3)
    have HB3 := Lib.hid (HB2.out.grown hk3 (by simp))
    clear hk3
    go_wp2_with fail
    refine hK.out _ _ (trivial) (fun hHeld => ?_)
    clear hK K
    try simp only [Act.put, List.setIfInBounds_toArray, List.set_cons_zero, List.set_cons_succ]
    refine wpAnyH_ready (rs := [9]) (by kernel_rfl) (by simp) ?_
    refine AllReadyH.cons (o := _) rfl (fun K hK => ?_) AllReadyH.nil
    rw [if_pos (by rfl)]
    refine wp_store_row _ _ _ rfl w.heap.size rs rfl rfl 23 _ HB3.out (by rw [HS.out.1]; exact info16) (by rw [HS.out.2.2, HS.out.1]) HS.out.2.1 ?_
    refine hK.out _ _ trivial (fun _ => ?_)
    refine wpAnyH_done (by kernel_rfl) ?_ _
    go_wp2_with fail
    refine bodyPost_ret (results_cell rfl _ _ _ ⟨w.heap.size, 0, none⟩ (.agg rs) rfl (run_loadVar_row _ w.heap.size 23 23 rs (0, 0) _ (HB3.out.row rs) Tryd.underlying23 rfl (by rw [HS.out.1]; exact info16))) rfl ?_
    exact ⟨rfl, grown_row HK3.out (.inl (Nat.le_refl _)) rs⟩

end Go.Proofs.YtpldegdcachlmaaDoor
/-
  quorateref04.Path.
-/

namespace Go.Proofs.YtpldegdcachlmaaDoor
open Go.RowKit

/-- What the document's way up is, in memory. -/
def wayV (ps : List (List Int)) (I : Nat) (k : Nat) : Array Value := arrV .u8 (wayC ps I k)
theorem info16p : (Tryd.prog.info? 23).map (fun i => (i.zero, i.size, i.bytes)) = some (some (.agg (arrV .u8 (List.replicate 16 0))), 16, 16) := by kernel_rfl
theorem wp_bslice_run {P : Program} {o : Oper} {a : Act} {w w' : World} {K : Act → World → Prop} {Q : Exit → Act → World → Prop} (t : TypeId) (len : Nat) (i : Nat) (x : Operand) (ho : o.op = .buildSlice t len #[(i, x)]) (u V : Value) (hx : a.eval x = u)
    (hr : Sem.run P (Instr.buildSlice t len #[(i, u)]) w = .ok V w') (h : K (a.put o.dst V) w') : o.wp P a w K Q := by
  have hm : (#[(i, x)] : Array (Nat × Operand)).map (fun (i, x) => (i, a.eval x)) = #[(i, u)] := by simp [hx]
  unfold Oper.wp execOp
  simp only [ho, Sem.run_bind, hm, hr, Result.andThen_ok]
  exact h
theorem wayV_size {ps : List (List Int)} (hps : ∀ p ∈ ps, isDig p) (I k : Nat) : (wayV ps I k).size = 16 := by rw [wayV, arr_size]; exact (wayC_dig hps _ _).1

set_option maxRecDepth 100000 in
set_option maxHeartbeats 4000000 in
theorem rpath_is (ps : List (List Int)) (hps : ∀ p ∈ ps, isDig p) (I : Nat) : ∀ (h j : Nat) (w : World) (b off c n o : Nat) (i : Int), n = 2 ^ h → o = off + j * n * 16 → h ≤ 5 → (j + 1) * n ≤ ps.length → n ≤ c → I / n = j → i = (I : Int) - (j * n : Nat) → DigsAt w b off ps →
    Calls Tryd.prog 30 #[.slice (some ⟨b, o, none⟩) n c, .int .i64 i] w fun e w' => ∃ v, e = .returned v ∧ w'.ownsRow w.heap.size 23 16 v h (rowV (wayV ps I) h) ∧ w.grownBy w' none := by
  intro h
  induction h with
  | zero =>
    intro j w b off c n o i hn ho _ hl hc hj hi hD
    have h1 : n = 1 := by rw [hn, Nat.pow_zero]
    subst h1
    have hown := World.ownsRow_lit (base := w.heap.size) (e := 23) (size := 16) w #[] 0 (Nat.le_refl _) (by decide) rfl
    have HO := Lib.hid hown
    clear hn ho hl hc hj hi hD hown
    go_enter Tryd.func30, Tryd.ntmps30
    go_wp2_with fail
    go_ret
    exact ⟨_, rfl, HO.out, World.grownBy_alloc w _ none⟩
  | succ h ih =>
    intro j w b off c n o i hn ho h5 hl hc hj hi hD
    obtain ⟨m, hm⟩ : ∃ m, m = 2 ^ h := ⟨_, rfl⟩
    have hnm : n = 2 * m := by rw [hn, hm, Nat.pow_succ]; omega
    have hm1 : 1 ≤ m := by rw [hm]; exact Nat.one_le_two_pow
    have hm2 : m ≤ 32 := by
      have : h = 0 ∨ h = 1 ∨ h = 2 ∨ h = 3 ∨ h = 4 := by omega
      rcases this with rfl | rfl | rfl | rfl | rfl <;> simp_all
    obtain ⟨i0, hi0, hz0, hz1, hz2⟩ := info_parts info16p
    have HI0 := Lib.hid (And.intro hi0 (And.intro hz0 (And.intro hz1 hz2)))
    obtain ⟨e1, e2, o1, o2, hjn⟩ := halves hnm hl ho
    obtain ⟨hev, hod⟩ := halfway hnm hm1 hj hjn hi
    clear hi hj
    have sl1 := fun V => digs_lo V b o n c m (by omega)
    have sl2 := fun V => digs_hi V b o n c m (by omega) (by omega)
    have hnm3 : n - m = m := by omega
    rw [hnm3] at sl2
    clear hnm3
    obtain ⟨dn, dn2⟩ := not_one hnm
    have HBS := Lib.hid (show ∀ (es : Array Value), es.size = 16 → ∀ V : World, Sem.run Tryd.prog (Instr.buildSlice 27 1 #[(0, .agg es)]) V = .ok (.slice (some ⟨V.heap.size, 0, none⟩) 1 1) (V.alloc (.cells es 23)) from fun es he V =>
      run_slice_one V 27 23 es Tryd.underlying27 (by rw [he]; exact info16) (by rw [he]; kernel_rfl) (by omega) (by omega))
    by_cases hlt : I / m % 2 = 0
    · obtain ⟨hIm, him0, him1, hi1⟩ := hev hlt
      have dlt : decide (i < (m : Int)) = true := by simp; exact him1
      clear hev hod
      obtain ⟨fs, hfs⟩ : ∃ fs, fs = arrV .u8 (nodeC ps h (2 * j + 1)) := ⟨_, rfl⟩
      have hw : fs = wayV ps I h := by rw [hfs, wayV, wayC, ← hm, hIm, sib_even]
      have R1 := Lib.hid (fun (V : World) (hV : w.grownBy V none) => ih (2 * j) V b off c m o i hm o1 (by omega) e1 (by omega) hIm hi1 (hD.grown hV))
      have R2 := Lib.hid (fun (V : World) (hV : w.grownBy V none) => rroot_is ps hps h (2 * j + 1) V b off (c - m) m (o + m * 16) fs hm o2 (by omega) e2 (by omega) (hD.grown hV) hfs)
      have HF := Lib.hid (And.intro (show fs.size = 16 by rw [hfs, arr_size]; exact (nodeC_dig hps _ _).1) (And.intro (show (fs.all fun v => v.oneCell') = true by rw [hfs]; exact arr_one _ _) hw))
      have HM := Lib.hid h5
      obtain ⟨hquo, hquo2, hwm, _⟩ := half_of hnm hm2
      clear hi0 hz0 hz1 hz2 ho hl hc hD hn hnm hm hm1 hm2 e1 e2 o1 o2 hjn hIm hi1 hfs hw ih h5 hlt
      go_enter Tryd.func30, Tryd.ntmps30
      go_wp2_with fail
      have HG0 := Lib.hid (grown_drew (World.grownBy.refl w none))
      refine wp_region_held_drew (S := fun _ => True) (by kernel_rfl) trivial (fun hHeld => ?_)
      refine wpAnyH_take (i := 0) (oi := _) (v := ?v0a) rfl (by kernel_rfl) (by kernel_rfl) (by kernel_rfl) (fun _ _ _ h => h) (Or.inl ⟨by rfl, ?hy0a⟩) (by assumption) ?rest0a
      case hy0a => (intro V hSw; (try dsimp only at hSw); go_simp) <;> with_reducible rfl
      simp only [Act.put, List.getElem_toArray, List.getElem_cons_zero, List.setIfInBounds_toArray, List.set_cons_zero, List.set_cons_succ]
      refine wpAnyH_take (i := 1) (oi := _) (v := ?v1a) rfl (by kernel_rfl) (by kernel_rfl) (by kernel_rfl) (fun _ _ _ h => h) (Or.inl ⟨by rfl, ?hy1a⟩) (by assumption) ?rest1a
      case hy1a => (intro V hSw; (try dsimp only at hSw); go_simp) <;> with_reducible rfl
      simp only [Act.put, List.getElem_toArray, List.getElem_cons_succ, List.getElem_cons_zero, List.setIfInBounds_toArray, List.set_cons_zero, List.set_cons_succ]
      refine wpAnyH_take (i := 2) (oi := _) (v := ?v2a) rfl (by kernel_rfl) (by kernel_rfl) (by kernel_rfl) (fun _ _ _ h => h) (Or.inl ⟨by rfl, ?hy2a⟩) (by assumption) ?rest2a
      case hy2a => (intro V hSw; (try dsimp only at hSw); go_simp) <;> with_reducible rfl
      simp only [Act.put, List.getElem_toArray, List.getElem_cons_succ, List.getElem_cons_zero, List.setIfInBounds_toArray, List.set_cons_zero, List.set_cons_succ]
      refine wpAnyH_take (i := 3) (oi := _) (v := ?v3a) rfl (by kernel_rfl) (by kernel_rfl) (by kernel_rfl) (fun _ _ _ h => h) (Or.inl ⟨by rfl, ?hy3a⟩) (by assumption) ?rest3a
      case hy3a => (intro V hSw; (try dsimp only at hSw); go_simp) <;> with_reducible rfl
      simp only [Act.put, List.getElem_toArray, List.getElem_cons_succ, List.getElem_cons_zero, List.setIfInBounds_toArray, List.set_cons_zero, List.set_cons_succ]
      refine wpAnyH_take (i := 5) (oi := _) (v := ?v5a) rfl (by kernel_rfl) (by kernel_rfl) (by kernel_rfl) (fun _ _ _ h => h) (Or.inl ⟨by rfl, ?hy5a⟩) (by assumption) ?rest5a
      case hy5a => (intro V hSw; (try dsimp only at hSw); go_simp) <;> with_reducible rfl
      simp only [Act.put, List.getElem_toArray, List.getElem_cons_succ, List.getElem_cons_zero, List.setIfInBounds_toArray, List.set_cons_zero, List.set_cons_succ]
      refine wpAnyH_take (i := 6) (oi := _) (v := ?v6a) rfl (by kernel_rfl) (by kernel_rfl) (by kernel_rfl) (fun _ _ _ h => h) (Or.inl ⟨by rfl, ?hy6a⟩) (by assumption) ?rest6a
      case hy6a => (intro V hSw; (try dsimp only at hSw); go_simp) <;> with_reducible rfl
      simp only [Act.put, List.getElem_toArray, List.getElem_cons_succ, List.getElem_cons_zero, List.setIfInBounds_toArray, List.set_cons_zero, List.set_cons_succ]
      refine wpAnyH_take (i := 7) (oi := _) (v := ?v7a) rfl (by kernel_rfl) (by kernel_rfl) (by kernel_rfl) (fun _ _ _ h => h) (Or.inl ⟨by rfl, ?hy7a⟩) (by assumption) ?rest7a
      case hy7a => (intro V hSw; (try dsimp only at hSw); go_simp) <;> with_reducible rfl
      simp only [Act.put, List.getElem_toArray, List.getElem_cons_succ, List.getElem_cons_zero, List.setIfInBounds_toArray, List.set_cons_zero, List.set_cons_succ]
      refine wpAnyH_ready (rs := [4]) (by kernel_rfl) (by simp) ?_
      refine AllReadyH.cons (o := _) rfl (fun K hK => ?_) AllReadyH.nil
      go_simp
      refine (R1.out _ HG0.out).mono ?_
      rintro e w1 ⟨v, rfl, ho1, hk1⟩
      obtain ⟨A1, cap1, rfl⟩ := own_slice _ ho1
      have HK1 := Lib.hid (grown_trans HG0.out hk1)
      have HO1 := Lib.hid ho1
      clear hk1 ho1
      go_wp2_with fail
      refine hK.out _ _ (trivial) (fun hHeld => ?_)
      clear hK K
      try simp only [Act.put, List.setIfInBounds_toArray, List.set_cons_zero, List.set_cons_succ]
      refine wpAnyH_ready (rs := [8]) (by kernel_rfl) (by simp) ?_
      refine AllReadyH.cons (o := _) rfl (fun K hK => ?_) AllReadyH.nil
      go_simp
      refine (R2.out _ HK1.out).mono ?_
      rintro e w2 ⟨rfl, hk2⟩
      have HK2 := Lib.hid (grown_trans HK1.out hk2)
      have HO2 := Lib.hid (own_keep HO1.out hk2)
      clear hk2
      go_wp2_with fail
      refine hK.out _ _ (trivial) (fun hHeld => ?_)
      clear hK K
      try simp only [Act.put, List.setIfInBounds_toArray, List.set_cons_zero, List.set_cons_succ]
      refine wpAnyH_ready (rs := [9]) (by kernel_rfl) (by simp) ?_
      refine AllReadyH.cons (o := _) rfl (fun K hK => ?_) AllReadyH.nil
      rw [if_pos (by rfl)]
      refine wp_bslice_run 27 1 0 _ rfl (.agg fs) _ rfl (HBS.out fs HF.out.1 w2) ?_
      refine hK.out _ _ (trivial) (fun hHeld => ?_)
      clear hK K
      try simp only [Act.put, List.setIfInBounds_toArray, List.set_cons_zero, List.set_cons_succ]
      refine wpAnyH_ready (rs := [10]) (by kernel_rfl) (by simp) ?_
      refine AllReadyH.cons (o := _) rfl (fun K hK => ?_) AllReadyH.nil
      rw [if_pos (by rfl)]
      have HB2 := Lib.hid (Blk.new w2 23 fs)
      refine wp_append_own _ _ _ 27 rfl w.heap.size 23 i0 _ 16 16 Tryd.underlying27 HI0.out.1 HI0.out.2.1 HI0.out.2.2.1 HI0.out.2.2.2 rfl (by decide) (.slice A1 h cap1) _ _ rfl (HO2.out.alloc _) ⟨w2.heap.size, 0, none⟩ 1 1 fs.toList rfl (show fs.toList.length = 1 * 16 by rw [Array.length_toList]; exact HF.out.1) (fun j u hu => by rw [addr_zero_add, HB2.out.cell j, ← Array.getElem?_toList]; exact hu) (fun u hu => (Array.all_eq_true_iff_forall_mem.1 HF.out.2.1) u (by simpa using hu)) (by have := HM.out; simp only [maxLen]; omega) (by have := HM.out; omega) (by rw [World.size_alloc]; have := HK2.out.size; omega) ?_
      intro v' w5 hown5 hgrow5 _
      obtain ⟨A5, cap5, rfl⟩ := own_slice _ hown5
      have HX5 := Lib.hid (And.intro hown5 hgrow5)
      clear hown5 hgrow5
      refine hK.out _ _ (trivial) (fun hHeld => ?_)
      clear hK K
      try simp only [Act.put, List.setIfInBounds_toArray, List.set_cons_zero, List.set_cons_succ]
      refine wpAnyH_ready (rs := [11]) (by kernel_rfl) (by simp) ?_
      refine AllReadyH.cons (o := _) rfl (fun K hK => ?_) AllReadyH.nil
      go_simp
      refine hK.out _ _ trivial (fun _ => ?_)
      refine wpAnyH_done (by kernel_rfl) ?_ _
      go_wp2_with fail
      go_ret
      have h1 : w5.ownsRow w.heap.size 23 16 (.slice A5 (h + 1) cap5) (h + 1) (rowV (wayV ps I) (h + 1)) := by
        rw [rowV, ← HF.out.2.2]; exact HX5.out.1
      have hgr := grown_trans (grown_weak (World.grownBy_alloc w2 (.cells fs 23) none) _) HX5.out.2
      exact ⟨_, rfl, h1, grown_own_r HK2.out hgr HO2.out (Nat.le_refl _)⟩
    · obtain ⟨hIm, him0, him1, hi1⟩ := hod hlt
      clear hev hod
      have dlt : decide (i < (m : Int)) = false := by simp; omega
      have hwi := Lib.hid (show IntKind.i64.wrap (i - (m : Int)) = i - (m : Int) by rw [IntKind.wrap_i64]; omega)
      obtain ⟨fs, hfs⟩ : ∃ fs, fs = arrV .u8 (nodeC ps h (2 * j)) := ⟨_, rfl⟩
      have hw : fs = wayV ps I h := by rw [hfs, wayV, wayC, ← hm, hIm, sib_odd]
      have R1 := Lib.hid (fun (V : World) (hV : w.grownBy V none) => ih (2 * j + 1) V b off (c - m) m (o + m * 16) (i - (m : Int)) hm o2 (by omega) e2 (by omega) hIm hi1 (hD.grown hV))
      have R2 := Lib.hid (fun (V : World) (hV : w.grownBy V none) => rroot_is ps hps h (2 * j) V b off c m o fs hm o1 (by omega) e1 (by omega) (hD.grown hV) hfs)
      have HF := Lib.hid (And.intro (show fs.size = 16 by rw [hfs, arr_size]; exact (nodeC_dig hps _ _).1) (And.intro (show (fs.all fun v => v.oneCell') = true by rw [hfs]; exact arr_one _ _) hw))
      have HM := Lib.hid h5
      obtain ⟨hquo, hquo2, hwm, _⟩ := half_of hnm hm2
      clear hi0 hz0 hz1 hz2 ho hl hc hD hn hnm hm hm1 hm2 e1 e2 o1 o2 hjn hIm hi1 hfs hw ih h5 hlt
      replace hwi := hwi.out
      go_enter Tryd.func30, Tryd.ntmps30
      go_wp2_with fail
      have HG0 := Lib.hid (grown_drew (World.grownBy.refl w none))
      refine wp_region_held_drew (S := fun _ => True) (by kernel_rfl) trivial (fun hHeld => ?_)
      refine wpAnyH_take (i := 0) (oi := _) (v := ?v0b) rfl (by kernel_rfl) (by kernel_rfl) (by kernel_rfl) (fun _ _ _ h => h) (Or.inl ⟨by rfl, ?hy0b⟩) (by assumption) ?rest0b
      case hy0b => (intro V hSw; (try dsimp only at hSw); go_simp) <;> with_reducible rfl
      simp only [Act.put, List.getElem_toArray, List.getElem_cons_zero, List.setIfInBounds_toArray, List.set_cons_zero, List.set_cons_succ]
      refine wpAnyH_take (i := 1) (oi := _) (v := ?v1b) rfl (by kernel_rfl) (by kernel_rfl) (by kernel_rfl) (fun _ _ _ h => h) (Or.inl ⟨by rfl, ?hy1b⟩) (by assumption) ?rest1b
      case hy1b => (intro V hSw; (try dsimp only at hSw); go_simp) <;> with_reducible rfl
      simp only [Act.put, List.getElem_toArray, List.getElem_cons_succ, List.getElem_cons_zero, List.setIfInBounds_toArray, List.set_cons_zero, List.set_cons_succ]
      refine wpAnyH_take (i := 2) (oi := _) (v := ?v2b) rfl (by kernel_rfl) (by kernel_rfl) (by kernel_rfl) (fun _ _ _ h => h) (Or.inl ⟨by rfl, ?hy2b⟩) (by assumption) ?rest2b
      case hy2b => (intro V hSw; (try dsimp only at hSw); go_simp) <;> with_reducible rfl
      simp only [Act.put, List.getElem_toArray, List.getElem_cons_succ, List.getElem_cons_zero, List.setIfInBounds_toArray, List.set_cons_zero, List.set_cons_succ]
      refine wpAnyH_take (i := 3) (oi := _) (v := ?v3b) rfl (by kernel_rfl) (by kernel_rfl) (by kernel_rfl) (fun _ _ _ h => h) (Or.inl ⟨by rfl, ?hy3b⟩) (by assumption) ?rest3b
      case hy3b => (intro V hSw; (try dsimp only at hSw); go_simp) <;> with_reducible rfl
      simp only [Act.put, List.getElem_toArray, List.getElem_cons_succ, List.getElem_cons_zero, List.setIfInBounds_toArray, List.set_cons_zero, List.set_cons_succ]
      refine wpAnyH_take (i := 4) (oi := _) (v := ?v4b) rfl (by kernel_rfl) (by kernel_rfl) (by kernel_rfl) (fun _ _ _ h => h) (Or.inl ⟨by rfl, ?hy4b⟩) (by assumption) ?rest4b
      case hy4b => (intro V hSw; (try dsimp only at hSw); go_simp) <;> with_reducible rfl
      simp only [Act.put, List.getElem_toArray, List.getElem_cons_succ, List.getElem_cons_zero, List.setIfInBounds_toArray, List.set_cons_zero, List.set_cons_succ]
      refine wpAnyH_take (i := 5) (oi := _) (v := ?v5b) rfl (by kernel_rfl) (by kernel_rfl) (by kernel_rfl) (fun _ _ _ h => h) (Or.inl ⟨by rfl, ?hy5b⟩) (by assumption) ?rest5b
      case hy5b => (intro V hSw; (try dsimp only at hSw); go_simp) <;> with_reducible rfl
      simp only [Act.put, List.getElem_toArray, List.getElem_cons_succ, List.getElem_cons_zero, List.setIfInBounds_toArray, List.set_cons_zero, List.set_cons_succ]
      refine wpAnyH_take (i := 7) (oi := _) (v := ?v7b) rfl (by kernel_rfl) (by kernel_rfl) (by kernel_rfl) (fun _ _ _ h => h) (Or.inl ⟨by rfl, ?hy7b⟩) (by assumption) ?rest7b
      case hy7b => (intro V hSw; (try dsimp only at hSw); go_simp) <;> with_reducible rfl
      simp only [Act.put, List.getElem_toArray, List.getElem_cons_succ, List.getElem_cons_zero, List.setIfInBounds_toArray, List.set_cons_zero, List.set_cons_succ]
      refine wpAnyH_take (i := 8) (oi := _) (v := ?v8b) rfl (by kernel_rfl) (by kernel_rfl) (by kernel_rfl) (fun _ _ _ h => h) (Or.inl ⟨by rfl, ?hy8b⟩) (by assumption) ?rest8b
      case hy8b => (intro V hSw; (try dsimp only at hSw); go_simp) <;> with_reducible rfl
      simp only [Act.put, List.getElem_toArray, List.getElem_cons_succ, List.getElem_cons_zero, List.setIfInBounds_toArray, List.set_cons_zero, List.set_cons_succ]
      refine wpAnyH_take (i := 9) (oi := _) (v := ?v9b) rfl (by kernel_rfl) (by kernel_rfl) (by kernel_rfl) (fun _ _ _ h => h) (Or.inl ⟨by rfl, ?hy9b⟩) (by assumption) ?rest9b
      case hy9b => (intro V hSw; (try dsimp only at hSw); go_simp) <;> with_reducible rfl
      simp only [Act.put, List.getElem_toArray, List.getElem_cons_succ, List.getElem_cons_zero, List.setIfInBounds_toArray, List.set_cons_zero, List.set_cons_succ]
      refine wpAnyH_ready (rs := [6]) (by kernel_rfl) (by simp) ?_
      refine AllReadyH.cons (o := _) rfl (fun K hK => ?_) AllReadyH.nil
      go_simp
      refine (R1.out _ HG0.out).mono ?_
      rintro e w1 ⟨v, rfl, ho1, hk1⟩
      obtain ⟨A1, cap1, rfl⟩ := own_slice _ ho1
      have HK1 := Lib.hid (grown_trans HG0.out hk1)
      have HO1 := Lib.hid ho1
      clear hk1 ho1
      go_wp2_with fail
      refine hK.out _ _ (trivial) (fun hHeld => ?_)
      clear hK K
      try simp only [Act.put, List.setIfInBounds_toArray, List.set_cons_zero, List.set_cons_succ]
      refine wpAnyH_ready (rs := [10]) (by kernel_rfl) (by simp) ?_
      refine AllReadyH.cons (o := _) rfl (fun K hK => ?_) AllReadyH.nil
      go_simp
      refine (R2.out _ HK1.out).mono ?_
      rintro e w2 ⟨rfl, hk2⟩
      have HK2 := Lib.hid (grown_trans HK1.out hk2)
      have HO2 := Lib.hid (own_keep HO1.out hk2)
      clear hk2
      go_wp2_with fail
      refine hK.out _ _ (trivial) (fun hHeld => ?_)
      clear hK K
      try simp only [Act.put, List.setIfInBounds_toArray, List.set_cons_zero, List.set_cons_succ]
      refine wpAnyH_ready (rs := [11]) (by kernel_rfl) (by simp) ?_
      refine AllReadyH.cons (o := _) rfl (fun K hK => ?_) AllReadyH.nil
      rw [if_pos (by rfl)]
      refine wp_bslice_run 27 1 0 _ rfl (.agg fs) _ rfl (HBS.out fs HF.out.1 w2) ?_
      refine hK.out _ _ (trivial) (fun hHeld => ?_)
      clear hK K
      try simp only [Act.put, List.setIfInBounds_toArray, List.set_cons_zero, List.set_cons_succ]
      refine wpAnyH_ready (rs := [12]) (by kernel_rfl) (by simp) ?_
      refine AllReadyH.cons (o := _) rfl (fun K hK => ?_) AllReadyH.nil
      rw [if_pos (by rfl)]
      have HB2 := Lib.hid (Blk.new w2 23 fs)
      refine wp_append_own _ _ _ 27 rfl w.heap.size 23 i0 _ 16 16 Tryd.underlying27 HI0.out.1 HI0.out.2.1 HI0.out.2.2.1 HI0.out.2.2.2 rfl (by decide) (.slice A1 h cap1) _ _ rfl (HO2.out.alloc _) ⟨w2.heap.size, 0, none⟩ 1 1 fs.toList rfl (show fs.toList.length = 1 * 16 by rw [Array.length_toList]; exact HF.out.1) (fun j u hu => by rw [addr_zero_add, HB2.out.cell j, ← Array.getElem?_toList]; exact hu) (fun u hu => (Array.all_eq_true_iff_forall_mem.1 HF.out.2.1) u (by simpa using hu)) (by have := HM.out; simp only [maxLen]; omega) (by have := HM.out; omega) (by rw [World.size_alloc]; have := HK2.out.size; omega) ?_
      intro v' w5 hown5 hgrow5 _
      obtain ⟨A5, cap5, rfl⟩ := own_slice _ hown5
      have HX5 := Lib.hid (And.intro hown5 hgrow5)
      clear hown5 hgrow5
      refine hK.out _ _ (trivial) (fun hHeld => ?_)
      clear hK K
      try simp only [Act.put, List.setIfInBounds_toArray, List.set_cons_zero, List.set_cons_succ]
      refine wpAnyH_ready (rs := [13]) (by kernel_rfl) (by simp) ?_
      refine AllReadyH.cons (o := _) rfl (fun K hK => ?_) AllReadyH.nil
      go_simp
      refine hK.out _ _ trivial (fun _ => ?_)
      refine wpAnyH_done (by kernel_rfl) ?_ _
      go_wp2_with fail
      go_ret
      have h1 : w5.ownsRow w.heap.size 23 16 (.slice A5 (h + 1) cap5) (h + 1) (rowV (wayV ps I) (h + 1)) := by
        rw [rowV, ← HF.out.2.2]; exact HX5.out.1
      have hgr := grown_trans (grown_weak (World.grownBy_alloc w2 (.cells fs 23) none) _) HX5.out.2
      exact ⟨_, rfl, h1, grown_own_r HK2.out hgr HO2.out (Nat.le_refl _)⟩
end Go.Proofs.YtpldegdcachlmaaDoor
