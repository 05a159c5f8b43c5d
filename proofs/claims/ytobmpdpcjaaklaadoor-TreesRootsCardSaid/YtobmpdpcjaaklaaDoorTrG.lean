/-
  trees.above: the level above digests.
-/
import Derived.Test.YtobmpdpcjaaklaaDoorTrP
import Derived.Laws.MakeOwn
namespace Go.Proofs.YtobmpdpcjaaklaaDoor
open Go.RowKit

/-- The level above. -/
def aboveC (ps : List (List Int)) : List (List Int) := upto (pairC ps) (ps.length / 2)
theorem aboveC_length (ps : List (List Int)) : (aboveC ps).length = ps.length / 2 := upto_length _ _
theorem upto_get {f : Nat → List Int} {n k : Nat} (h : k < n) : (upto f n).getD k zeroC = f k := by
  simp [upto, List.getD, List.getElem?_map, List.getElem?_range h]
theorem aboveC_lev {ps : List (List Int)} {h n m : Nat} (hn : n = 2 * m) : aboveC (levC ps h n) = levC ps (h + 1) m := by
  rw [aboveC, levC_length, hn, show 2 * m / 2 = m by omega]
  show (List.range m).map _ = (List.range m).map _
  refine List.map_congr_left fun k hk => ?_
  have := List.mem_range.1 hk
  exact pairC_lev (by omega)
theorem made_row (m : Nat) (hm : m ≤ 1000) : ∃ M : Array Value, M.size = m * 16 ∧ ∀ V : World, Sem.run Tryd.prog (Instr.makeSlice 22 (.int .i64 (m : Int)) (.int .i64 (m : Int))) V = .ok (.slice (some ⟨V.heap.size, 0, none⟩) m m) (V.alloc (.cells M 25)) := by
  cases hq : Tryd.prog.info? 25 with
  | none => exact absurd info16 (by rw [hq]; simp)
  | some i =>
    have hs : i.size = 16 := by have := info16; simpa [hq] using this
    have hz : ∃ z, i.zero = some z := by
      have : (Tryd.prog.info? 25).bind (·.zero) = some (.agg (arrV .u8 (List.replicate 16 0))) := by kernel_rfl
      exact ⟨_, by simpa [hq] using this⟩
    have hb : i.bytes = 16 := by
      have : (Tryd.prog.info? 25).map (·.bytes) = some 16 := by kernel_rfl
      simpa [hq] using this
    obtain ⟨z, hz⟩ := hz
    exact ⟨madeCells z.cells (m * 16), size_madeCells _ _, fun V => by
      have := run_make (P := Tryd.prog) V 22 25 i z Tryd.underlying22 hq hz .i64 .i64 m m (by omega) (by omega) (by rw [hb]; omega) (by omega)
      rw [hs, Int.toNat_natCast] at this
      exact this⟩
theorem wpList_make_run {P : Program} {ops : Array Oper} {rest : List Oper} {o : Oper} {a : Act} {w w' : World} {Q : Exit → Act → World → Prop} (hg : o.guard = none) (t : TypeId) (l c : Operand) (ho : o.op = .makeSlice t l c) (vl vc V : Value) (hl : a.eval l = vl) (hc : a.eval c = vc)
    (hr : Sem.run P (Instr.makeSlice t vl vc) w = .ok V w') (h : wpList P ops Q rest (a.put o.dst V) w') : wpList P ops Q (o :: rest) a w :=
  wpList_plain hg fun K hK => by
    unfold Oper.wp execOp
    simp only [ho, hl, hc, Sem.run_bind, hr, Result.andThen_ok]
    exact hK _ _ h

/-- So many digests lie one behind the other. -/
def RowsAt (W : World) (g k : Nat) (f : Nat → List Int) : Prop := ∀ j, j < k → W.rangeAt g (j * 16) (arrV .u8 (f j)).toList
theorem above_done {W : World} {g m N : Nat} {ps : List (List Int)} (hl : ps.length = N) (hN : N = 2 * m) (h : RowsAt W g m (pairC ps)) : DigsAt W g 0 (aboveC ps) := by
  have hm : ps.length / 2 = m := by omega
  intro j hj
  rw [aboveC_length, hm] at hj
  rw [aboveC, hm, upto_get hj, Nat.zero_add]
  exact h j hj
theorem ranges_to {wr w9 : World} {g k : Nat} {f : Nat → List Int} (h : RowsAt wr g k f) (hg : wr.grownBy w9 none) : RowsAt w9 g k f := fun j hj => range_to (h j hj) hg (by simp)
/-- One more digest is stored in a row of them. -/
theorem store_next {w9 : World} {g m k : Nat} {f : Nat → List Int} {js : Array Value} (hT9 : w9.there g 0 (m * 16)) (hr : RowsAt w9 g k f) (hf : ∀ j, (f j).length = 16) (hjs : js = arrV .u8 (f k)) (hk : k < m) (a : Nat) (ha : a = k * 16) :
    (w9.setCells g a js.toList).there g 0 (m * 16) ∧ RowsAt (w9.setCells g a js.toList) g (k + 1) f := by
  have l2 : js.toList.length = 16 := by rw [hjs, Array.length_toList, arr_size]; exact hf k
  refine ⟨World.there_setCells hT9 _ _ _, fun j hj => ?_⟩
  have l1 : (arrV .u8 (f j)).toList.length = 16 := by rw [Array.length_toList, arr_size]; exact hf j
  by_cases hjk : j = k
  · have e1 : (arrV .u8 (f j)).toList = js.toList := by rw [hjk, hjs]
    have e2 : j * 16 = a := by rw [hjk, ha]
    rw [e1, e2]
    exact World.rangeAt_setCells_same w9 g a js.toList (there_sub hT9 (by omega) (by rw [l2, ha]; omega))
  · exact World.rangeAt_setCells_apart (hr j (by omega)) _ _ _ (.inr (by rw [l1, l2]; omega))

set_option maxRecDepth 100000 in
set_option maxHeartbeats 4000000 in
theorem above_is (w : World) (hR : Rounds w) (b off N c m : Nat) (ps : List (List Int)) (hl : ps.length = N) (hN : N = 2 * m) (hm : m ≤ 1000) (hm0 : 0 < m) (hps : ∀ p ∈ ps, isDig p) (hD : DigsAt w b off ps) :
    Calls Tryd.prog 26 #[.slice (some ⟨b, off, none⟩) N c] w fun e w' => ∃ g, e = .returned (.slice (some ⟨g, 0, none⟩) m m) ∧ w.heap.size ≤ g ∧ w'.there g 0 (m * 16) ∧ DigsAt w' g 0 (aboveC ps) ∧ w.grownBy w' none := by
  obtain ⟨M, hMs, hmk⟩ := made_row m hm
  have hquo : (N : Int).tdiv 2 = (m : Int) := by rw [Int.tdiv_eq_ediv_of_nonneg (by omega)]; omega
  have hquo2 : (N : Int) / 2 = (m : Int) := by omega
  have HW := Lib.hid (show wrap64 (m : Int) = (m : Int) from w64 _ (by omega))
  have hbw : b < w.heap.size := by
    have h0 := hD 0 (by omega)
    have hl0 := (getD_dig hps 0).1
    have := h0 0 (.int .u8 ((ps.getD 0 zeroC).getD 0 0)) (by rw [Array.getElem?_toList]; exact arr_get (by omega))
    exact World.block_lt_of_cell? w _ this
  have HM := Lib.hid (And.intro hMs hmk)
  have HN := Lib.hid (And.intro hl (And.intro hN (And.intro hm (And.intro hps (And.intro hD (And.intro hR hm0))))))
  clear hMs hmk hl hm hps hD hR hm0 hN
  go_enter Tryd.func26, Tryd.ntmps26
  go_wp2_with (refine wpList_make_run rfl 22 _ _ rfl (.int .i64 (wrap64 (m : Int))) (.int .i64 (wrap64 (m : Int))) _ rfl rfl (by rw [HW.out]; exact HM.out.2 _) ?_)
  have c1 := Blk.new w 25 M
  have hg1 := World.grownBy_alloc w (.cells M 25) none
  have hs1 : w.heap.size < (w.alloc (.cells M 25)).heap.size := c1.lt
  generalize w.alloc (.cells M 25) = w1 at *
  have HF := Lib.hid (And.intro c1 hg1)
  have hN := HN.out.2.1
  clear c1 hg1 hquo hquo2
  go_loopw [11] (fun i wr => ∃ k : Nat, k ≤ m ∧ i = .int .i64 (k : Int) ∧ wr.there w.heap.size 0 (m * 16) ∧ RowsAt wr w.heap.size k (pairC ps) ∧ w1.grownBy wr (some w.heap.size)) (fun i _ => m - (intOf i).toNat)
  case atStart => exact ⟨0, by omega, rfl, there_blk HF.out.1 (Nat.le_of_eq HM.out.1.symm), fun j hj => absurd hj (by omega), World.grownBy.refl w1 _⟩
  case round =>
    obtain ⟨k, hk, hi, hT, hRg, hG⟩ := hrel
    obtain ⟨I, hI⟩ : ∃ I : Int, I = (k : Int) := ⟨_, rfl⟩
    rw [← hI] at hi
    subst hi
    have hGw : w.grownBy wr none := grown_fresh HF.out.2 hG (Nat.le_refl _)
    by_cases hlt : k < m
    · have d1 : decide (I < (m : Int)) = true := by simp; omega
      have hb0 : 0 ≤ I ∧ I < (m : Int) := by omega
      have hb1 : 0 ≤ 2 * I ∧ 2 * I < (N : Int) := by omega
      have hb2 : 0 ≤ 2 * I + 1 ∧ 2 * I + 1 < (N : Int) := by omega
      have hm1000 := HN.out.2.2.1
      have hwI : wrap64 (I + 1) = I + 1 := w64 _ (by omega)
      have hw1 : IntKind.i64.wrap (2 * I) = 2 * I := by rw [IntKind.wrap_i64]; omega
      have hw2 : IntKind.i64.wrap (2 * I + 1) = 2 * I + 1 := by rw [IntKind.wrap_i64]; omega
      have e1 : (2 * I).toNat = 2 * k := by omega
      have e2 : (2 * I + 1).toNat = 2 * k + 1 := by omega
      have hpa := getD_dig HN.out.2.2.2.1 (2 * k)
      have hpb := getD_dig HN.out.2.2.2.1 (2 * k + 1)
      obtain ⟨la, hla⟩ : ∃ l, l = (arrV .u8 (ps.getD (2 * k) zeroC)).toList := ⟨_, rfl⟩
      obtain ⟨lb, hlb⟩ : ∃ l, l = (arrV .u8 (ps.getD (2 * k + 1) zeroC)).toList := ⟨_, rfl⟩
      have ha16 : la.length = 16 := by rw [hla, Array.length_toList, arr_size]; exact hpa.1
      have hb16 : lb.length = 16 := by rw [hlb, Array.length_toList, arr_size]; exact hpb.1
      obtain ⟨js, hjs⟩ : ∃ js, js = arrV .u8 (pairC ps k) := ⟨_, rfl⟩
      have HJS := Lib.hid (show js.size = 16 ∧ (js.all fun v => v.oneCell') = true ∧ js = arrV .u8 (pairC ps k) from ⟨by rw [hjs, arr_size]; exact (pairC_dig _ _).1, by rw [hjs]; exact arr_one _ _, hjs⟩)
      have HL := Lib.hid (show (Tryd.prog.info? 25).map (·.size) = some la.length ∧ (Tryd.prog.info? 25).map (·.size) = some lb.length from ⟨by rw [ha16]; exact info16, by rw [hb16]; exact info16⟩)
      have HSS := Lib.hid (show ∀ V, wr.grownBy V none → V.rangeAt b (off + (2 * I).toNat * 16) la ∧ V.rangeAt b (off + (2 * I + 1).toNat * 16) lb from fun V hV => by
        rw [e1, e2, hla, hlb]
        exact ⟨range_grown (HN.out.2.2.2.2.1 (2 * k) (by rw [HN.out.1]; omega)) (grown_trans hGw hV), range_grown (HN.out.2.2.2.2.1 (2 * k + 1) (by rw [HN.out.1]; omega)) (grown_trans hGw hV)⟩)
      have HJ := Lib.hid (fun (V : World) (hV : wr.grownBy V none) => join_is V (HN.out.2.2.2.2.2.1.grown (grown_trans hGw hV) (by simp)) _ _ hpa hpb la.toArray lb.toArray js (by rw [hla, Array.toArray_toList]) (by rw [hlb, Array.toArray_toList]) (by rw [hjs, pairC]))
      have HK := Lib.hid (And.intro hI (And.intro hlt (And.intro hT (And.intro hRg hG))))
      clear hlt hT hRg hG hGw hk hla hlb ha16 hb16 hjs hpa hpb e1 e2 hI hN
      go_wp2_with fail
      refine wp_region_held_drew (S := fun V => V.rangeAt b (off + (2 * I).toNat * 16) la ∧ V.rangeAt b (off + (2 * I + 1).toNat * 16) lb) (by kernel_rfl) (HSS.out _ (grown_drew (World.grownBy.refl wr none))) (fun hHeld => ?_)
      refine wpAnyH_take (i := 0) (oi := _) (v := ?v0) rfl (by kernel_rfl) (by kernel_rfl) (by kernel_rfl) (fun _ _ _ h => h) (Or.inl ⟨by rfl, ?hy0⟩) (by assumption) ?rest0
      case hy0 => (intro V hSw; (try dsimp only at hSw); go_simp) <;> with_reducible rfl
      simp only [Act.put, List.getElem_toArray, List.getElem_cons_zero, List.setIfInBounds_toArray, List.set_cons_zero, List.set_cons_succ]
      refine wpAnyH_take (i := 1) (oi := _) (v := ?v1) rfl (by kernel_rfl) (by kernel_rfl) (by kernel_rfl) (fun _ _ _ h => h) (Or.inl ⟨by rfl, ?hy1⟩) (by assumption) ?rest1
      case hy1 => (intro V hSw; (try dsimp only at hSw); go_simp) <;> with_reducible rfl
      simp only [Act.put, List.getElem_toArray, List.getElem_cons_succ, List.getElem_cons_zero, List.setIfInBounds_toArray, List.set_cons_zero, List.set_cons_succ]
      refine wpAnyH_take (i := 2) (oi := _) (v := ?v2) rfl (by kernel_rfl) (by kernel_rfl) (by kernel_rfl) (fun _ _ _ h => h) (Or.inl ⟨by rfl, ?hy2⟩) (by assumption) ?rest2
      case hy2 => (intro V hSw; (try dsimp only at hSw); go_simp) <;> with_reducible rfl
      simp only [Act.put, List.getElem_toArray, List.getElem_cons_succ, List.getElem_cons_zero, List.setIfInBounds_toArray, List.set_cons_zero, List.set_cons_succ]
      refine wpAnyH_take (i := 3) (oi := _) (v := ?v3) rfl (by kernel_rfl) (by kernel_rfl) (by kernel_rfl) (fun _ _ _ h => h) (Or.inl ⟨by rfl, ?hy3⟩) (by assumption) ?rest3
      case hy3 => (intro V hSw; (try dsimp only at hSw); go_simp) <;> with_reducible rfl
      simp only [Act.put, List.getElem_toArray, List.getElem_cons_succ, List.getElem_cons_zero, List.setIfInBounds_toArray, List.set_cons_zero, List.set_cons_succ]
      refine wpAnyH_take (i := 4) (oi := _) (v := ?v4) rfl (by kernel_rfl) (by kernel_rfl) (by kernel_rfl) (fun _ _ _ h => h) (Or.inl ⟨by rfl, ?hy4⟩) (by assumption) ?rest4
      case hy4 => (intro V hSw; (try dsimp only at hSw); go_simp) <;> with_reducible rfl
      simp only [Act.put, List.getElem_toArray, List.getElem_cons_succ, List.getElem_cons_zero, List.setIfInBounds_toArray, List.set_cons_zero, List.set_cons_succ]
      refine wpAnyH_take (i := 5) (oi := _) (v := ?v5) rfl (by kernel_rfl) (by kernel_rfl) (by kernel_rfl) (fun _ _ _ h => h) (Or.inl ⟨by rfl, ?hy5⟩) (by assumption) ?rest5
      case hy5 => (intro V hSw; (try dsimp only at hSw); go_simp) <;> with_reducible rfl
      simp only [Act.put, List.getElem_toArray, List.getElem_cons_succ, List.getElem_cons_zero, List.setIfInBounds_toArray, List.set_cons_zero, List.set_cons_succ]
      refine wpAnyH_take (i := 6) (oi := _) (v := .agg la.toArray) rfl (by kernel_rfl) (by kernel_rfl) (by kernel_rfl) (fun _ _ _ h => h) (yieldsIf_load_mid (by rfl) _ _ rfl b (off + (2 * I).toNat * 16) rfl la _ (fun V hSw => hSw.1) Tryd.underlying25 rfl HL.out.1) (by assumption) ?rest6
      simp only [Act.put, List.getElem_toArray, List.getElem_cons_succ, List.getElem_cons_zero, List.setIfInBounds_toArray, List.set_cons_zero, List.set_cons_succ]
      refine wpAnyH_take (i := 7) (oi := _) (v := ?v7) rfl (by kernel_rfl) (by kernel_rfl) (by kernel_rfl) (fun _ _ _ h => h) (Or.inl ⟨by rfl, ?hy7⟩) (by assumption) ?rest7
      case hy7 => (intro V hSw; (try dsimp only at hSw); go_simp) <;> with_reducible rfl
      simp only [Act.put, List.getElem_toArray, List.getElem_cons_succ, List.getElem_cons_zero, List.setIfInBounds_toArray, List.set_cons_zero, List.set_cons_succ]
      refine wpAnyH_take (i := 8) (oi := _) (v := ?v8) rfl (by kernel_rfl) (by kernel_rfl) (by kernel_rfl) (fun _ _ _ h => h) (Or.inl ⟨by rfl, ?hy8⟩) (by assumption) ?rest8
      case hy8 => (intro V hSw; (try dsimp only at hSw); go_simp) <;> with_reducible rfl
      simp only [Act.put, List.getElem_toArray, List.getElem_cons_succ, List.getElem_cons_zero, List.setIfInBounds_toArray, List.set_cons_zero, List.set_cons_succ]
      refine wpAnyH_take (i := 9) (oi := _) (v := ?v9) rfl (by kernel_rfl) (by kernel_rfl) (by kernel_rfl) (fun _ _ _ h => h) (Or.inl ⟨by rfl, ?hy9⟩) (by assumption) ?rest9
      case hy9 => (intro V hSw; (try dsimp only at hSw); go_simp) <;> with_reducible rfl
      simp only [Act.put, List.getElem_toArray, List.getElem_cons_succ, List.getElem_cons_zero, List.setIfInBounds_toArray, List.set_cons_zero, List.set_cons_succ]
      refine wpAnyH_take (i := 10) (oi := _) (v := ?v10) rfl (by kernel_rfl) (by kernel_rfl) (by kernel_rfl) (fun _ _ _ h => h) (Or.inl ⟨by rfl, ?hy10⟩) (by assumption) ?rest10
      case hy10 => (intro V hSw; (try dsimp only at hSw); go_simp) <;> with_reducible rfl
      simp only [Act.put, List.getElem_toArray, List.getElem_cons_succ, List.getElem_cons_zero, List.setIfInBounds_toArray, List.set_cons_zero, List.set_cons_succ]
      refine wpAnyH_take (i := 11) (oi := _) (v := ?v11) rfl (by kernel_rfl) (by kernel_rfl) (by kernel_rfl) (fun _ _ _ h => h) (Or.inl ⟨by rfl, ?hy11⟩) (by assumption) ?rest11
      case hy11 => (intro V hSw; (try dsimp only at hSw); go_simp) <;> with_reducible rfl
      simp only [Act.put, List.getElem_toArray, List.getElem_cons_succ, List.getElem_cons_zero, List.setIfInBounds_toArray, List.set_cons_zero, List.set_cons_succ]
      refine wpAnyH_take (i := 12) (oi := _) (v := .agg lb.toArray) rfl (by kernel_rfl) (by kernel_rfl) (by kernel_rfl) (fun _ _ _ h => h) (yieldsIf_load_mid (by rfl) _ _ rfl b (off + (2 * I + 1).toNat * 16) rfl lb _ (fun V hSw => hSw.2) Tryd.underlying25 rfl HL.out.2) (by assumption) ?rest12
      simp only [Act.put, List.getElem_toArray, List.getElem_cons_succ, List.getElem_cons_zero, List.setIfInBounds_toArray, List.set_cons_zero, List.set_cons_succ]
      refine wpAnyH_ready (rs := [13]) (by kernel_rfl) (by simp) ?_
      refine AllReadyH.cons (o := _) rfl (fun K hK => ?_) AllReadyH.nil
      go_simp
      refine (HJ.out _ (grown_drew (World.grownBy.refl wr none))).mono ?_
      rintro e w9 ⟨rfl, hk9⟩
      have HK9 := Lib.hid (grown_trans (grown_drew (World.grownBy.refl wr none)) hk9)
      clear hk9
      go_wp2_with fail
      refine hK.out _ _ (HSS.out _ HK9.out) (fun hHeld => ?_)
      clear hK K
      try simp only [Act.put, List.setIfInBounds_toArray, List.set_cons_zero, List.set_cons_succ]
      refine wpAnyH_take (i := 14) (oi := _) (v := ?v14) rfl (by kernel_rfl) (by kernel_rfl) (by kernel_rfl) (fun _ _ _ h => h) (Or.inl ⟨by rfl, ?hy14⟩) (by assumption) ?rest14
      case hy14 => (intro V hSw; (try dsimp only at hSw); go_simp) <;> with_reducible rfl
      simp only [Act.put, List.getElem_toArray, List.getElem_cons_succ, List.getElem_cons_zero, List.setIfInBounds_toArray, List.set_cons_zero, List.set_cons_succ]
      refine wpAnyH_ready (rs := [15]) (by kernel_rfl) (by simp) ?_
      refine AllReadyH.cons (o := _) rfl (fun K hK => ?_) AllReadyH.nil
      rw [if_pos (by rfl)]
      have hT9 := there_to HK.out.2.2.1 HK9.out (by simp)
      have hkI : I = (k : Int) := HK.out.1
      refine wp_store_mid _ _ _ rfl w.heap.size (I.toNat * 16) js rfl rfl (there_sub hT9 (by omega) (by have := HJS.out.1; omega)) (by rw [HJS.out.1]; exact info16) HJS.out.2.1 ?_
      refine hK.out _ _ ⟨World.rangeAt_setCells_apart (HSS.out _ HK9.out).1 _ _ _ (.inl (by omega)), World.rangeAt_setCells_apart (HSS.out _ HK9.out).2 _ _ _ (.inl (by omega))⟩ (fun _ => ?_)
      refine wpAnyH_done (by kernel_rfl) ?_ _
      have hG6 : wr.grownBy (w9.setCells w.heap.size (I.toNat * 16) js.toList) (some w.heap.size) := grown_setCells w.heap.size _ _ _ (grown_weak HK9.out _)
      have hr1 := ranges_to (f := pairC ps) HK.out.2.2.2.1 HK9.out
      have hs1 : js = arrV .u8 (pairC ps k) := HJS.out.2.2
      have hk1 : k < m := HK.out.2.1
      have ha1 : I.toNat * 16 = k * 16 := by rw [hkI, Int.toNat_natCast]
      have HX := Lib.hid (store_next (f := pairC ps) hT9 hr1 (fun j => (pairC_dig ps j).1) hs1 hk1 (I.toNat * 16) ha1)
      clear hr1 hs1 hk1 ha1
      clear hkI hT9
      go_wp2_with fail
      go_roundw
      case rel =>
        obtain ⟨hI, hlt, _, _, hG⟩ := HK.out
        exact ⟨k + 1, by omega, by rw [hI]; rfl, HX.out.1, HX.out.2, grown_trans hG hG6⟩
      case measure => obtain ⟨hI, hlt, _⟩ := HK.out; simp only [intOf]; omega
    · obtain rfl : k = m := by omega
      have d1 : decide (I < (k : Int)) = false := by simp; omega
      have HK := Lib.hid (And.intro hT (And.intro hRg hGw))
      clear hT hRg hG hGw hlt hk hI
      go_wp2_with fail
      go_ret
      exact ⟨_, rfl, Nat.le_refl _, HK.out.1, above_done HN.out.1 HN.out.2.1 HK.out.2.1, HK.out.2.2⟩
end Go.Proofs.YtobmpdpcjaaklaaDoor
