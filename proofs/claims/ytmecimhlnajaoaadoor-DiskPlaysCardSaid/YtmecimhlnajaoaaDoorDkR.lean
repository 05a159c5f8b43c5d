/-
  Disk: Read.
-/
import Derived.Test.YtmecimhlnajaoaaDoorDkW
import Derived.Test.YtmecimhlnajaoaaDoorDkC
import Derived.Test.YtmecimhlnajaoaaDoorWh
import Derived.Laws.Rows
import Derived.Sort.CutIn
import Derived.Maps.OwnIn
import Derived.Sort.MapsRangeIn
namespace Go.Proofs.YtmecimhlnajaoaaDoor
open Go.RowKit Go.Maps

theorem zero_sec {P : Program} {t : TypeId} {v : Value} (w : World) (h : (P.info? t).bind (·.zero) = some v) : Sem.run P (zeroValue t) w = .ok v w := by
  cases hq : P.info? t with
  | none => simp [hq] at h
  | some i =>
    have h1 : i.zero = some v := by simpa [hq] using h
    simp [zeroValue, typeInfo, hq, h1]
theorem ready_store_row {P : Program} {ops : Array Oper} {o : Oper} {a : Act} {w : World} {K : Act → World → Prop} {Q : Exit → Act → World → Prop} (hw : Region.wanted o (yielded ops a.tmps) = true) (ty : TypeId) (x y : Operand) (ho : o.op = .store ty x y)
    (g : Nat) (cells : Array Value) (hx : a.eval x = .pointer (some ⟨g, 0, none⟩)) (hy : a.eval y = .agg cells)
    (t : TypeId) (old : Array Value) (hg : w.heap[g]? = some (.cells old t (0, 0))) (hi : (P.info? ty).map (·.size) = some cells.size)
    (hold : old.size = cells.size) (h1 : cells.all (·.oneCell') = true)
    (h : K (a.put o.dst undef) (w.setRow g cells)) : if Region.wanted o (yielded ops a.tmps) = true then Oper.wp P o a w K Q else K (a.put o.dst undef) w := by
  rw [if_pos hw]
  unfold Oper.wp execOp
  simp only [ho, hx, hy, Instr.storeAt, Instr.sureAddr, Sem.run_bind, Sem.run_pure, Result.andThen_ok, run_storeVar_row w g t ty old cells hg hi hold h1]
  exact h
def zeroR : List Int := List.replicate 64 0
theorem sec_val {v : Value} {y : DataW Unit} {ps : List MemPlace} (h : secR 64 v = some (y, ps)) : ∃ r : List Int, r.length = 64 ∧ ∃ cs, v = .agg cs ∧ cs = (r.map (Value.int .u8)).toArray ∧ cs.size = 64 ∧ cs.all (·.oneCell') = true ∧ y = secD r := by
  obtain ⟨r, hr, rfl, he⟩ := secR_inv h
  refine ⟨r, hr, _, rfl, rfl, by simpa using hr, by simp [Array.all_eq_true_iff_forall_mem, Value.oneCell'], (Prod.mk.inj he).1⟩
theorem flat64 : ∀ (ls : List (List Int)), (∀ r ∈ ls, r.length = 64) → ∀ (k : Nat) (hk : k < ls.length) (j : Nat) (v : Value), (ls[k].map (Value.int .u8))[j]? = some v → (ls.flatMap fun r => r.map (Value.int .u8))[k * 64 + j]? = some v
  | a :: ls, hr, 0, _, j, v, hj => by
    have hj2 : j < (a.map (Value.int .u8)).length := (List.getElem?_eq_some_iff.1 hj).1
    rw [List.flatMap_cons, Nat.zero_mul, Nat.zero_add, List.getElem?_append_left hj2]
    exact hj
  | a :: ls, hr, k + 1, hk, j, v, hj => by
    have ha : (a.map (Value.int .u8)).length = 64 := by simpa using hr a List.mem_cons_self
    rw [List.flatMap_cons, List.getElem?_append_right (by omega), ha, show (k + 1) * 64 + j - 64 = k * 64 + j by omega]
    exact flat64 ls (fun r h => hr r (List.mem_cons_of_mem _ h)) k (by simpa using hk) j v hj
def readS (z : DkS) (k : Nat) : List Int := (z.wr[k]?.join).getD (z.syn.getD k [])
set_option maxRecDepth 100000 in
set_option maxHeartbeats 1000000 in
theorem dk_read (w : World) (d b m B : Nat) (z : DkS) (h : DkIs w d b m z) (i : Int) (er ep : Addr) (her : ErrAt w B 0 er) (hep : ErrAt w B 5 ep) :
    Calls Tryd.prog 21 #[.pointer (some ⟨d, 0, none⟩), .int .i64 i] w fun e w' => w.grownBy w' none ∧
      ((¬ (0 ≤ i ∧ i < (z.syn.length : Int)) ∧ e = .returned (.tuple #[secV zeroR, errV er])) ∨
       (∃ k : Nat, i = (k : Int) ∧ k < z.syn.length ∧ ((z.off = true ∧ e = .returned (.tuple #[secV zeroR, errV ep])) ∨ (z.off = false ∧ e = .returned (.tuple #[secV (readS z k), .nilIface]))))) := by
  obtain ⟨zs, hzs⟩ : ∃ zs : Array Value, zs = (zeroR.map (Value.int .u8)).toArray := ⟨_, rfl⟩
  have hz : ∀ w, Sem.run Tryd.prog (zeroValue 36) w = .ok (.agg zs) w := fun w => by rw [hzs]; exact zero_sec w (by kernel_rfl)
  have hzz : zs.size = 64 := by rw [hzs]; simp [zeroR]
  have hone : zs.all (·.oneCell') = true := by rw [hzs]; kernel_rfl
  have hsec : secV zeroR = .agg zs := by rw [secV, hzs]
  obtain ⟨w0, hw0⟩ : ∃ w0, w.alloc (.cells zs 36) = w0 := ⟨_, rfl⟩
  have g0 : w.grownBy w0 none := by rw [← hw0]; exact World.grownBy_alloc _ _ none
  have b0 : Blk w0 w.heap.size 36 zs := by rw [← hw0]; exact Blk.new _ _ _
  have HS := Lib.hid (And.intro hzz (And.intro hsec (And.intro (h.grown g0) (And.intro g0 (And.intro b0 (And.intro (her.grown g0 (by simp)) (And.intro (hep.grown g0 (by simp)) hone)))))))
  have HH := Lib.hid (dk_has w0 d b m z (h.grown g0) i)
  rw [hsec]
  clear hzs hsec hone h her hep g0 b0
  refine (callsIn_wide (n := 6)).1 ?_
  refine callsIn_of_wp Tryd.func21 rfl trivial ?_ rfl
  simp only [Tryd.ntmps21, List.size_toArray, List.length_cons, List.length_nil, Nat.reduceAdd, Nat.reduceSub, Array.replicate_succ, Array.replicate_zero, List.push_toArray, List.append_toArray, List.nil_append, List.cons_append]
  gi_wp2
  (try rw [hw0])
  refine ⟨trivial, ?_⟩
  refine (callsIn_wide.2 HH.out).mono ?_
  rintro e w1 ⟨rfl, hw1⟩
  obtain rfl : w0 = w1 := hw1.symm
  by_cases hi : 0 ≤ i ∧ i < (z.syn.length : Int)
  · obtain ⟨k, rfl⟩ : ∃ k : Nat, i = (k : Int) := ⟨i.toNat, by omega⟩
    have hk : k < z.syn.length := by omega
    have d1 : decide (0 ≤ (k : Int) ∧ (k : Int) < (z.syn.length : Int)) = true := by simp; omega
    rw [d1]
    have HI := Lib.hid hk
    clear d1 hi hk
    have c2 := HS.out.2.2.1.1.cell 2
    have c1 := HS.out.2.2.1.1.cell 1
    have c0 := HS.out.2.2.1.1.cell 0
    simp only [List.getElem?_toArray, List.getElem?_cons_zero, List.getElem?_cons_succ] at c2 c1 c0
    cases ho : z.off with
    | true =>
        rw [ho] at c2
        gi_upto_region 4 with fail
        rename_i K8 hK8
        refine wpIn_mono (Q := fun e a' w' => e = .normal ∧ K8 a' w') ?regf (by rintro e a' w' ⟨rfl, h⟩; exact h)
        case regf =>
          have gd := grown_drew (World.grownBy.refl w0 none)
          obtain ⟨V2, hV2⟩ : ∃ V2, w0.drew = V2 := ⟨_, rfl⟩
          rw [hV2] at gd
          have HG := Lib.hid (And.intro gd (HS.out.2.2.2.2.1.grown gd (by simp)))
          clear gd
          refine wpIn_region_held_wide (S := fun Y => Y.cell? ⟨5, 0, none⟩ = some (errV ep)) (by kernel_rfl) (by kernel_rfl) (by rintro ⟨_, _, h, _⟩; cases h) (by rw [hV2]; exact (HS.out.2.2.2.2.2.2.1.grown HG.out.1 (by simp)).1) (fun hHeld => ?_)
          rw [hV2] at hHeld ⊢
          refine wpAnyH_take (i := 0) (oi := _) (v := ?vf0) rfl (by kernel_rfl) (by kernel_rfl) (by kernel_rfl) (fun _ _ _ h => by cases h.1) (Or.inl ⟨by rfl, ?hyf0⟩) (by assumption) ?restf0
          case hyf0 => (intro V hSw; (try dsimp only at hSw); go_simp) <;> with_reducible rfl
          try simp only [Act.put, List.getElem_toArray, List.getElem_cons_succ, List.getElem_cons_zero, List.setIfInBounds_toArray, List.set_cons_zero, List.set_cons_succ]
          refine wpAnyH_take (i := 1) (oi := _) (v := ?vf1) rfl (by kernel_rfl) (by kernel_rfl) (by kernel_rfl) (fun _ _ _ h => by cases h.1) (Or.inl ⟨by rfl, ?hyf1⟩) (by assumption) ?restf1
          case hyf1 => (intro V hSw; (try dsimp only at hSw); go_simp) <;> with_reducible rfl
          try simp only [Act.put, List.getElem_toArray, List.getElem_cons_succ, List.getElem_cons_zero, List.setIfInBounds_toArray, List.set_cons_zero, List.set_cons_succ]
          refine wpAnyH_ready (rs := [2]) (by kernel_rfl) (by simp) ?_
          refine (AllReadyH.cons (o := _) rfl (fun K9 hK => ?_) AllReadyH.nil)
          refine ready_store_row (by rfl) 36 _ _ rfl w.heap.size zs rfl rfl 36 zs HG.out.2 (by rw [HS.out.1]; kernel_rfl) rfl HS.out.2.2.2.2.2.2.2 ?_
          rw [setRow_self _ _ _ _ _ HG.out.2]
          refine hK.out _ _ ((HS.out.2.2.2.2.2.2.1.grown HG.out.1 (by simp)).1) (fun hHeld => ?_)
          clear hK K9
          try simp only [Act.put, List.getElem_toArray, List.getElem_cons_succ, List.getElem_cons_zero, List.setIfInBounds_toArray, List.set_cons_zero, List.set_cons_succ]
          refine wpAnyH_take (i := 3) (oi := _) (v := ?vf3) rfl (by kernel_rfl) (by kernel_rfl) (by kernel_rfl) (fun _ _ _ h => by cases h.1) (Or.inl ⟨by rfl, ?hyf3⟩) (by assumption) ?restf3
          case hyf3 => (intro V hSw; (try dsimp only at hSw); go_simp) <;> with_reducible rfl
          try simp only [Act.put, List.getElem_toArray, List.getElem_cons_succ, List.getElem_cons_zero, List.setIfInBounds_toArray, List.set_cons_zero, List.set_cons_succ]
          refine wpAnyH_done (by kernel_rfl) ?_ _
          refine ⟨rfl, hK8 _ _ ?_⟩
          gi_wp2
          exact ⟨rfl, _, results_sec_tmp rfl _ _ ⟨w.heap.size, 0, none⟩ (.agg zs) rfl (run_loadVar_row V2 w.heap.size 36 36 zs (0, 0) _ HG.out.2 Tryd.underlying36 rfl (by rw [HS.out.1]; kernel_rfl)), grown_trans HS.out.2.2.2.1 HG.out.1, .inr ⟨k, rfl, HI.out, .inl ⟨ho, rfl⟩⟩⟩
    | false =>
        rw [ho] at c2
        obtain ⟨D, hown, hM⟩ := HS.out.2.2.1.2.2.1
        have hwr := HS.out.2.2.1.2.2.2.1
        have hkw : k < z.wr.length := by rw [hwr]; exact HI.out
        have hkey := keyOf_int_mk Tryd.underlying3 (show (Lit.int .i64 (k : Int)).wf = true from WalkArith.wf_i64 (by have := HI.out; have := HS.out.2.2.1.2.2.2.2.2.1; omega))
        have hzd : secR 64 (.agg zs) = some (secD zeroR, []) := by rw [← HS.out.2.1]; exact secR_mk (by simp [zeroR])
        have hhas := mapOf_has hM hkw
        have HL := Lib.hid (And.intro hown (And.intro hM (And.intro hkw (And.intro hkey (And.intro hzd hhas)))))
        clear hown hM hwr hkey hzd hhas
        gi_upto_region 6 with (first
          | (gi_at_lookup; refine wpListIn_lookup_own_ok _ rfl _ _ 60 rfl 3 36 keyed_i Tryd.underlying60 (secR 64) (hz _) (secD zeroR) [] HL.out.2.2.2.2.1 m 5000 D rfl HL.out.1 (.int .i64 (k : Int)) (.int .i64 (k : Int)) rfl HL.out.2.2.2.1 ?_; intro v ps hv; obtain ⟨r, hr, cs, rfl, hcs, hcz, hc1, hze⟩ := sec_val hv; have HV := Lib.hid (And.intro hr (And.intro hcs (And.intro hcz (And.intro hc1 hze)))); clear hv hr hcs hcz hc1 hze; rw [HL.out.2.2.2.2.2])
          | (refine wpListIn_store_row rfl 36 _ _ rfl w0.heap.size cs rfl rfl 36 zs (heap_alloc_new w0 _) (by rw [HV.out.2.2.1]; kernel_rfl) (by rw [HS.out.1, HV.out.2.2.1]) HV.out.2.2.2.1 ?_))
        obtain ⟨W5, hW5⟩ : ∃ W5, (w0.alloc (.cells zs 36)).setRow w0.heap.size cs = W5 := ⟨_, rfl⟩
        rw [hW5]
        have g5 : w0.grownBy W5 none := by rw [← hW5]; exact grown_row (World.grownBy_alloc _ _ none) (.inl (Nat.le_refl _)) _
        have b6 : Blk W5 w0.heap.size 36 cs := by rw [← hW5]; exact (Blk.new w0 _ _).row cs
        have HW := Lib.hid (And.intro g5 (And.intro b6 (And.intro (HS.out.2.2.2.2.1.grown g5 (by simp)) (HS.out.2.2.1.grown g5))))
        have c05 := (HS.out.2.2.1.grown g5).1.cell 0
        simp only [List.getElem?_toArray, List.getElem?_cons_zero] at c05
        clear g5 b6 hW5 c0 c1 c2
        cases hwk : z.wr[k] with
        | some r' =>
          have hrd : secV (readS z k) = .agg cs := by
            have e := secD_inj (HV.out.2.2.2.2.symm.trans (((HL.out.2.1.2.2 k hkw).2 r' hwk).2 (secD zeroR)))
            rw [readS, List.getElem?_eq_getElem hkw, hwk, ← e]
            show secV r = _
            rw [secV, HV.out.2.1]
          have HR := Lib.hid (And.intro hrd ho)
          clear hrd hwk c05
          gi_wp2_with (first
            | (refine wpListIn_load_row rfl 36 _ rfl w0.heap.size rfl 36 cs (0, 0) _ HW.out.2.1 Tryd.underlying36 rfl (by rw [HV.out.2.2.1]; kernel_rfl) ?_)
            | (refine wpListIn_store_row rfl 36 _ _ rfl w.heap.size cs rfl rfl 36 zs HW.out.2.2.1 (by rw [HV.out.2.2.1]; kernel_rfl) (by rw [HS.out.1, HV.out.2.2.1]) HV.out.2.2.2.1 ?_)
            | gi_in)
          exact ⟨rfl, _, results_sec_tmp rfl _ _ ⟨w.heap.size, 0, none⟩ (.agg cs) rfl (run_loadVar_row (W5.setRow w.heap.size cs) w.heap.size 36 36 cs (0, 0) _ (HW.out.2.2.1.row cs) Tryd.underlying36 rfl (by rw [HV.out.2.2.1]; kernel_rfl)), grown_row (grown_trans HS.out.2.2.2.1 HW.out.1) (.inl (Nat.le_refl _)) _, .inr ⟨k, rfl, HI.out, .inr ⟨HR.out.2, by rw [HR.out.1]; rfl⟩⟩⟩
        | none =>
          have hk2 : 0 ≤ (k : Int) ∧ (k : Int) < (z.syn.length : Int) := by have := HI.out; omega
          have hks : k < z.syn.length := HI.out
          obtain ⟨row, hrow⟩ : ∃ row, z.syn[k] = row := ⟨_, rfl⟩
          obtain ⟨csl, hcsl⟩ : ∃ csl, row.map (Value.int .u8) = csl := ⟨_, rfl⟩
          have h64 : row.length = 64 := by rw [← hrow]; exact HW.out.2.2.2.2.2.2.2.1 _ (List.getElem_mem hks)
          have hcl : csl.length = 64 := by rw [← hcsl]; simpa using h64
          have hca : csl.toArray.all (·.oneCell') = true := by rw [← hcsl]; simp [Value.oneCell']
          have hrg : W5.rangeAt b (k * 64) csl := fun j v hj => by
            rw [HW.out.2.2.2.2.1.cell, DkS.cells, List.getElem?_toArray]
            exact flat64 z.syn HW.out.2.2.2.2.2.2.2.1 k hks j v (by rw [hrow, hcsl]; exact hj)
          have hrd : secV (readS z k) = .agg csl.toArray := by
            rw [readS, List.getElem?_eq_getElem hkw, hwk]
            show secV (z.syn.getD k []) = _
            rw [List.getD, List.getElem?_eq_getElem hks, Option.getD_some, hrow, secV, hcsl]
          have HR := Lib.hid (And.intro hrd (And.intro ho (And.intro hcl (And.intro hca hrg))))
          clear hrd hwk hrow hcsl h64 hcl hca hrg hks
          gi_wp2_with (first
            | (refine wpListIn_load_mid rfl 36 _ rfl b _ rfl csl _ (by first | exact HR.out.2.2.2.2 | simpa using HR.out.2.2.2.2) Tryd.underlying36 rfl (by rw [HR.out.2.2.1]; kernel_rfl) ?_)
            | (refine wpListIn_store_row rfl 36 _ _ rfl w.heap.size csl.toArray rfl rfl 36 zs HW.out.2.2.1 (by rw [List.size_toArray, HR.out.2.2.1]; kernel_rfl) (by rw [HS.out.1, List.size_toArray, HR.out.2.2.1]) HR.out.2.2.2.1 ?_)
            | gi_in)
          exact ⟨rfl, _, results_sec_tmp rfl _ _ ⟨w.heap.size, 0, none⟩ (.agg csl.toArray) rfl (run_loadVar_row (W5.setRow w.heap.size csl.toArray) w.heap.size 36 36 csl.toArray (0, 0) _ (HW.out.2.2.1.row csl.toArray) Tryd.underlying36 rfl (by rw [List.size_toArray, HR.out.2.2.1]; kernel_rfl)), grown_row (grown_trans HS.out.2.2.2.1 HW.out.1) (.inl (Nat.le_refl _)) _, .inr ⟨k, rfl, HI.out, .inr ⟨HR.out.2.1, by rw [HR.out.1]; rfl⟩⟩⟩
  · have d1 : decide (0 ≤ i ∧ i < (z.syn.length : Int)) = false := by simpa using hi
    rw [d1]
    have HI := Lib.hid hi
    clear d1 hi
    gi_upto_region 2 with fail
    rename_i K8 hK8
    refine wpIn_mono (Q := fun e a' w' => e = .normal ∧ K8 a' w') ?reg (by rintro e a' w' ⟨rfl, h⟩; exact h)
    case reg =>
      have gd := grown_drew (World.grownBy.refl w0 none)
      obtain ⟨V2, hV2⟩ : ∃ V2, w0.drew = V2 := ⟨_, rfl⟩
      rw [hV2] at gd
      have HG := Lib.hid (And.intro gd (HS.out.2.2.2.2.1.grown gd (by simp)))
      clear gd
      refine wpIn_region_held_wide (S := fun Y => Y.cell? ⟨0, 0, none⟩ = some (errV er)) (by kernel_rfl) (by kernel_rfl) (by rintro ⟨_, _, h, _⟩; cases h) (by rw [hV2]; exact (HS.out.2.2.2.2.2.1.grown HG.out.1 (by simp)).1) (fun hHeld => ?_)
      rw [hV2] at hHeld ⊢
      refine wpAnyH_take (i := 0) (oi := _) (v := ?ve0) rfl (by kernel_rfl) (by kernel_rfl) (by kernel_rfl) (fun _ _ _ h => by cases h.1) (Or.inl ⟨by rfl, ?hye0⟩) (by assumption) ?reste0
      case hye0 => (intro V hSw; (try dsimp only at hSw); go_simp) <;> with_reducible rfl
      try simp only [Act.put, List.getElem_toArray, List.getElem_cons_succ, List.getElem_cons_zero, List.setIfInBounds_toArray, List.set_cons_zero, List.set_cons_succ]
      refine wpAnyH_take (i := 1) (oi := _) (v := ?ve1) rfl (by kernel_rfl) (by kernel_rfl) (by kernel_rfl) (fun _ _ _ h => by cases h.1) (Or.inl ⟨by rfl, ?hye1⟩) (by assumption) ?reste1
      case hye1 => (intro V hSw; (try dsimp only at hSw); go_simp) <;> with_reducible rfl
      try simp only [Act.put, List.getElem_toArray, List.getElem_cons_succ, List.getElem_cons_zero, List.setIfInBounds_toArray, List.set_cons_zero, List.set_cons_succ]
      refine wpAnyH_ready (rs := [2]) (by kernel_rfl) (by simp) ?_
      refine (AllReadyH.cons (o := _) rfl (fun K9 hK => ?_) AllReadyH.nil)
      refine ready_store_row (by rfl) 36 _ _ rfl w.heap.size zs rfl rfl 36 zs HG.out.2 (by rw [HS.out.1]; kernel_rfl) rfl HS.out.2.2.2.2.2.2.2 ?_
      rw [setRow_self _ _ _ _ _ HG.out.2]
      refine hK.out _ _ ((HS.out.2.2.2.2.2.1.grown HG.out.1 (by simp)).1) (fun hHeld => ?_)
      clear hK K9
      try simp only [Act.put, List.getElem_toArray, List.getElem_cons_succ, List.getElem_cons_zero, List.setIfInBounds_toArray, List.set_cons_zero, List.set_cons_succ]
      refine wpAnyH_take (i := 3) (oi := _) (v := ?ve3) rfl (by kernel_rfl) (by kernel_rfl) (by kernel_rfl) (fun _ _ _ h => by cases h.1) (Or.inl ⟨by rfl, ?hye3⟩) (by assumption) ?reste3
      case hye3 => (intro V hSw; (try dsimp only at hSw); go_simp) <;> with_reducible rfl
      try simp only [Act.put, List.getElem_toArray, List.getElem_cons_succ, List.getElem_cons_zero, List.setIfInBounds_toArray, List.set_cons_zero, List.set_cons_succ]
      refine wpAnyH_done (by kernel_rfl) ?_ _
      refine ⟨rfl, hK8 _ _ ?_⟩
      gi_wp2
      exact ⟨rfl, _, results_sec_tmp rfl _ _ ⟨w.heap.size, 0, none⟩ (.agg zs) rfl (run_loadVar_row V2 w.heap.size 36 36 zs (0, 0) _ HG.out.2 Tryd.underlying36 rfl (by rw [HS.out.1]; kernel_rfl)), grown_trans HS.out.2.2.2.1 HG.out.1, .inl ⟨HI.out, rfl⟩⟩
end Go.Proofs.YtmecimhlnajaoaaDoor
