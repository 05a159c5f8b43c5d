/-
  (*Key).Sign by a leaf.
-/
import Derived.Test.YthkjlgjbjjjohaaGreatDoorKn
import Derived.Test.YthkjlgjbjjjohaaGreatDoorChRf5
namespace Go.Proofs.YthkjlgjbjjjohaaGreatDoor
open Go.RowKit

/-- A signature's value. -/
def sigV (lf : Int) (c p : Value) : Array Value := #[.int .i64 lf, c, p]
def sigZ : Array Value := #[.int .i64 0, .slice none 0 0, .slice none 0 0]
theorem sigz_build (w : World) : Sem.run Tryz.prog (Instr.build 73 #[]) w = .ok (.agg sigZ) w := by
  refine run_build w 73 _ _ ?_
  kernel_rfl
theorem sigz_run (w : World) : Sem.run Tryz.prog (zeroValue 73) w = .ok (.agg sigZ) w := zrun w (by kernel_rfl)
theorem info3 : (Tryz.prog.info? 73).map (·.size) = some 3 := by kernel_rfl
theorem build_sig (w : World) (lf : Int) (A1 A2 : Option Addr) (n1 c1 n2 c2 : Nat) : Sem.run Tryz.prog (Instr.build 73 #[(0, .int .i64 lf), (1, .slice A1 n1 c1), (2, .slice A2 n2 c2)]) w = .ok (.agg (sigV lf (.slice A1 n1 c1) (.slice A2 n2 c2))) w := by
  refine run_build w 73 _ _ ?_
  kernel_rfl
theorem sigV_one (lf : Int) (A1 A2 : Option Addr) (n1 c1 n2 c2 : Nat) : ((sigV lf (.slice A1 n1 c1) (.slice A2 n2 c2)).all fun v => v.oneCell') = true := by simp [sigV, Value.oneCell']
theorem sigV_size (lf : Int) (c p : Value) : (sigV lf c p).size = 3 := rfl
theorem wpList_build3 {P : Program} {ops : Array Oper} {rest : List Oper} {o : Oper} {a : Act} {w : World} {Q : Exit → Act → World → Prop} (hgd : o.guard = none) (t : TypeId) (x y z : Operand) (ho : o.op = .build t #[(0, x), (1, y), (2, z)]) (u v t' V : Value) (hx : a.eval x = u) (hy : a.eval y = v) (hz : a.eval z = t')
    (hr : Sem.run P (Instr.build t #[(0, u), (1, v), (2, t')]) w = .ok V w) (h : wpList P ops Q rest (a.put o.dst V) w) : wpList P ops Q (o :: rest) a w :=
  wpList_plain hgd fun K hK => by
    have hm : (#[(0, x), (1, y), (2, z)] : Array (Nat × Operand)).map (fun (i, x) => (i, a.eval x)) = #[(0, u), (1, v), (2, t')] := by simp [hx, hy, hz]
    unfold Oper.wp execOp
    simp only [ho, Sem.run_bind, hm, hr, Result.andThen_ok]
    exact hK _ _ h

/-- A signature that a key made, in memory. -/
structure SigAt (w : World) (seed : List Int) (lf : Int) (i : Nat) (d : List Int) (b p : Nat) : Prop where
  chains : DigsAt w b 0 (sigsS seed lf d)
  path : DigsAt w p 0 (upto (wayC (leavesC seed) i) 5)
  bthere : w.there b 0 1088
  pthere : w.there p 0 80
  apart : b ≠ p
theorem SigAt.to {w w' : World} {seed d : List Int} {lf : Int} {i b p : Nat} {row : Option Nat} (h : SigAt w seed lf i d b p) (hg : w.grownBy w' row) (h1 : some b ≠ row) (h2 : some p ≠ row) : SigAt w' seed lf i d b p :=
  ⟨fun j hj => range_to (h.chains j hj) hg h1, fun j hj => range_to (h.path j hj) hg h2, there_to h.bthere hg h1, there_to h.pthere hg h2, h.apart⟩
theorem SigAt.grown {w w' : World} {seed d : List Int} {lf : Int} {i b p : Nat} (h : SigAt w seed lf i d b p) (hg : w.grownBy w' none) : SigAt w' seed lf i d b p := h.to hg (by simp) (by simp)

set_option maxRecDepth 100000 in
set_option maxHeartbeats 4000000 in
theorem ksign_is (w : World) (hR : Rounds w) (kb g cap : Nat) (seed : List Int) (hs : isDig seed) (sd rt : Array Value) (hsd : sd = arrV .u8 seed) (hK : KeyAt w kb sd (.slice (some ⟨g, 0, none⟩) 32 cap) rt) (hD : DigsAt w g 0 (leavesC seed)) (i : Nat) (hi : i < 32) (lf : Int) (hlf : lf = (i : Int)) (d : List Int) (hd : isDig d) (dd : Array Value) (hdd : dd = arrV .u8 d) :
    Calls Tryz.prog 91 #[.pointer (some ⟨kb, 0, none⟩), .int .i64 lf, .agg dd] w fun e w' => ∃ b p pc, e = .returned (.tuple #[.agg (sigV lf (.slice (some ⟨b, 0, none⟩) 68 68) (.slice (some ⟨p, 0, none⟩) 5 pc)), .nilIface]) ∧ w.heap.size ≤ b ∧ w.heap.size ≤ p ∧ 5 ≤ pc ∧ SigAt w' seed lf i d b p ∧ w.grownBy w' none := by
  have hz30 := sigz_run
  have hs16 : sd.size = 16 := by rw [hsd, arr_size, hs.1]
  have hd16 : dd.size = 16 := by rw [hdd, arr_size, hd.1]
  obtain ⟨sl, hsl⟩ : ∃ l, l = sd.toList := ⟨_, rfl⟩
  obtain ⟨dl, hdl⟩ : ∃ l, l = dd.toList := ⟨_, rfl⟩
  have HI := Lib.hid (show (Tryz.prog.info? 23).map (·.size) = some sl.length ∧ (Tryz.prog.info? 23).map (·.size) = some dl.length from ⟨by rw [hsl, Array.length_toList, hs16]; exact info16, by rw [hdl, Array.length_toList, hd16]; exact info16⟩)
  have HL := Lib.hid (show sl.toArray = sd ∧ dl.toArray = dd from ⟨by rw [hsl, Array.toArray_toList], by rw [hdl, Array.toArray_toList]⟩)
  have h0 : decide (lf < 0) = false := by simp; omega
  have h1 : decide (32 ≤ lf) = false := by simp; omega
  have h0' : ¬ lf < 0 := by omega
  have h1' : ¬ 32 ≤ lf := by omega
  have S1 := Lib.hid (fun (z : World) (hz : w.grownBy z none) => sign_v z (hR.grown hz (by simp)) seed hs lf (by omega) d hd sl.toArray dl.toArray (by rw [HL.out.1, hsd]) (by rw [HL.out.2, hdd]))
  have S2 := Lib.hid (fun (z : World) (hz : w.grownBy z none) => path_ok z (hR.grown hz (by simp)) g 0 cap (leavesC seed) (leavesC_length _) (leavesC_dig _) (hD.grown hz) i hi lf hlf)
  have HK := Lib.hid (show ∀ z, w.grownBy z none → z.rangeAt kb 0 sl ∧ z.cell? ⟨kb, 16, none⟩ = some (.slice (some ⟨g, 0, none⟩) 32 cap) from fun z hz => ⟨by rw [hsl]; exact (hK.grown hz).1, (hK.grown hz).2.1⟩)
  obtain ⟨w1, hw1⟩ : ∃ w1, w1 = (w.alloc (.cells dd 23)).alloc (.cells sigZ 73) := ⟨_, rfl⟩
  have H1 := Lib.hid (show Blk w1 w.heap.size 23 dd ∧ Blk w1 (w.heap.size + 1) 73 sigZ ∧ w.grownBy w1 none ∧ w1.rangeAt w.heap.size 0 dl from by
    rw [hw1]
    have b2 := Blk.new (w.alloc (.cells dd 23)) 73 sigZ
    rw [World.size_alloc] at b2
    have b1 := (Blk.new w 23 dd).alloc (.cells sigZ 73)
    exact ⟨b1, b2, grown_trans (World.grownBy_alloc w _ none) (World.grownBy_alloc _ _ none), by rw [hdl]; exact range_blk b1⟩)
  have HZS := Lib.hid (show w1.heap.size = w.heap.size + 2 by rw [hw1]; simp)
  have HW1 := Lib.hid hw1
  clear hs16 hd16 hsl hdl hR hs hsd hK hD hi hlf hd hdd hw1
  go_enter Tryz.func91, Tryz.ntmps91
  go_wp2_with fail
  rw [← HW1.out]
  have HG1 := Lib.hid (grown_drew (World.grownBy.refl w1 none))
  have hS1 := (HK.out _ (grown_trans H1.out.2.2.1 HG1.out)).1
  refine wp_region_held_drew (S := fun V => V.rangeAt kb 0 sl ∧ V.rangeAt w.heap.size 0 dl) (by kernel_rfl) ⟨hS1, range_grown H1.out.2.2.2 HG1.out⟩ (fun hHeld => ?_)
  clear hS1
  refine wpAnyH_take (i := 0) (oi := _) (v := ?v0s) rfl (by kernel_rfl) (by kernel_rfl) (by kernel_rfl) (fun _ _ _ h => h) (Or.inl ⟨by rfl, ?hy0s⟩) (by assumption) ?rest0s
  case hy0s => (intro V hSw; (try dsimp only at hSw); go_simp) <;> with_reducible rfl
  simp only [Act.put, List.getElem_toArray, List.getElem_cons_zero, List.setIfInBounds_toArray, List.set_cons_zero, List.set_cons_succ]
  refine wpAnyH_take (i := 1) (oi := _) (v := ?v1s) rfl (by kernel_rfl) (by kernel_rfl) (by kernel_rfl) (fun _ _ _ h => h) (Or.inl ⟨by rfl, ?hy1s⟩) (by assumption) ?rest1s
  case hy1s => (intro V hSw; (try dsimp only at hSw); go_simp) <;> with_reducible rfl
  simp only [Act.put, List.getElem_toArray, List.getElem_cons_succ, List.getElem_cons_zero, List.setIfInBounds_toArray, List.set_cons_zero, List.set_cons_succ]
  refine wpAnyH_take (i := 2) (oi := _) (v := ?v2s) rfl (by kernel_rfl) (by kernel_rfl) (by kernel_rfl) (fun _ _ _ h => h) (Or.inl ⟨by rfl, ?hy2s⟩) (by assumption) ?rest2s
  case hy2s => (intro V hSw; (try dsimp only at hSw); go_simp) <;> with_reducible rfl
  simp only [Act.put, List.getElem_toArray, List.getElem_cons_succ, List.getElem_cons_zero, List.setIfInBounds_toArray, List.set_cons_zero, List.set_cons_succ]
  refine wpAnyH_take (i := 3) (oi := _) (v := .agg sl.toArray) rfl (by kernel_rfl) (by kernel_rfl) (by kernel_rfl) (fun _ _ _ h => h) (yieldsIf_load_mid (by rfl) _ _ rfl kb 0 rfl sl _ (fun V hSw => hSw.1) Tryz.underlying23 rfl HI.out.1) (by assumption) ?rest3s
  simp only [Act.put, List.getElem_toArray, List.getElem_cons_succ, List.getElem_cons_zero, List.setIfInBounds_toArray, List.set_cons_zero, List.set_cons_succ]
  refine wpAnyH_take (i := 4) (oi := _) (v := ?v4s) rfl (by kernel_rfl) (by kernel_rfl) (by kernel_rfl) (fun _ _ _ h => h) (Or.inl ⟨by rfl, ?hy4s⟩) (by assumption) ?rest4s
  case hy4s => (intro V hSw; (try dsimp only at hSw); go_simp) <;> with_reducible rfl
  simp only [Act.put, List.getElem_toArray, List.getElem_cons_succ, List.getElem_cons_zero, List.setIfInBounds_toArray, List.set_cons_zero, List.set_cons_succ]
  refine wpAnyH_take (i := 5) (oi := _) (v := .agg dl.toArray) rfl (by kernel_rfl) (by kernel_rfl) (by kernel_rfl) (fun _ _ _ h => h) (yieldsIf_load_mid (by rfl) _ _ rfl w.heap.size 0 rfl dl _ (fun V hSw => hSw.2) Tryz.underlying23 rfl HI.out.2) (by assumption) ?rest5s
  simp only [Act.put, List.getElem_toArray, List.getElem_cons_succ, List.getElem_cons_zero, List.setIfInBounds_toArray, List.set_cons_zero, List.set_cons_succ]
  refine wpAnyH_ready (rs := [6]) (by kernel_rfl) (by simp) ?_
  refine AllReadyH.cons (o := _) rfl (fun K hK => ?_) AllReadyH.nil
  go_simp
  refine (S1.out _ (grown_trans H1.out.2.2.1 HG1.out)).mono ?_
  rintro e w2 ⟨b, rfl, hb, hbt, hbD, hk2⟩
  have HK2 := Lib.hid (show w1.grownBy w2 none from grown_trans HG1.out hk2)
  have HB := Lib.hid (And.intro (show w.heap.size ≤ b from Nat.le_trans H1.out.2.2.1.size (Nat.le_trans HG1.out.size hb)) (And.intro hbt (And.intro hbD (show w1.heap.size ≤ b from Nat.le_trans HG1.out.size hb))))
  clear hb hbt hbD hk2
  go_wp2_with fail
  have hS2 := (HK.out _ (grown_trans H1.out.2.2.1 HK2.out)).1
  refine hK.out _ _ (⟨hS2, range_grown H1.out.2.2.2 HK2.out⟩) (fun hHeld => ?_)
  clear hK K
  try simp only [Act.put, List.setIfInBounds_toArray, List.set_cons_zero, List.set_cons_succ]
  clear hS2
  refine wpAnyH_take (i := 7) (oi := _) (v := ?v7s) rfl (by kernel_rfl) (by kernel_rfl) (by kernel_rfl) (fun _ _ _ h => h) (Or.inl ⟨by rfl, ?hy7s⟩) (by assumption) ?rest7s
  case hy7s => (intro V hSw; (try dsimp only at hSw); go_simp) <;> with_reducible rfl
  simp only [Act.put, List.getElem_toArray, List.getElem_cons_succ, List.getElem_cons_zero, List.setIfInBounds_toArray, List.set_cons_zero, List.set_cons_succ]
  refine wpAnyH_take (i := 8) (oi := _) (v := ?v8s) rfl (by kernel_rfl) (by kernel_rfl) (by kernel_rfl) (fun _ _ _ h => h) (Or.inl ⟨by rfl, ?hy8s⟩) (by assumption) ?rest8s
  case hy8s => (intro V hSw; (try dsimp only at hSw); go_simp) <;> with_reducible rfl
  simp only [Act.put, List.getElem_toArray, List.getElem_cons_succ, List.getElem_cons_zero, List.setIfInBounds_toArray, List.set_cons_zero, List.set_cons_succ]
  refine wpAnyH_take (i := 10) (oi := _) (v := ?v10s) rfl (by kernel_rfl) (by kernel_rfl) (by kernel_rfl) (fun _ _ _ h => h) (Or.inl ⟨by rfl, ?hy10s⟩) (by assumption) ?rest10s
  case hy10s => (intro V hSw; (try dsimp only at hSw); go_simp) <;> with_reducible rfl
  simp only [Act.put, List.getElem_toArray, List.getElem_cons_succ, List.getElem_cons_zero, List.setIfInBounds_toArray, List.set_cons_zero, List.set_cons_succ]
  refine wpAnyH_take (i := 9) (oi := _) (v := ?v9s) rfl (by kernel_rfl) (by kernel_rfl) (by kernel_rfl) (fun _ _ _ h => h) (Or.inl ⟨by rfl, ?hy9s⟩) (by assumption) ?rest9s
  case hy9s => (intro V hSw; (try dsimp only at hSw); go_simp) <;> with_reducible rfl
  simp only [Act.put, List.getElem_toArray, List.getElem_cons_succ, List.getElem_cons_zero, List.setIfInBounds_toArray, List.set_cons_zero, List.set_cons_succ]
  refine wpAnyH_take (i := 11) (oi := _) (v := ?v11s) rfl (by kernel_rfl) (by kernel_rfl) (by kernel_rfl) (fun _ _ _ h => h) (Or.inl ⟨by rfl, ?hy11s⟩) (by assumption) ?rest11s
  case hy11s => (intro V hSw; (try dsimp only at hSw); go_simp) <;> with_reducible rfl
  simp only [Act.put, List.getElem_toArray, List.getElem_cons_succ, List.getElem_cons_zero, List.setIfInBounds_toArray, List.set_cons_zero, List.set_cons_succ]
  refine wpAnyH_done (by kernel_rfl) ?_ _
  have ckb := (HK.out _ (grown_trans H1.out.2.2.1 HK2.out)).2
  go_wp2_with fail
  refine (S2.out w2 (grown_trans H1.out.2.2.1 HK2.out)).mono ?_
  rintro e w3 ⟨p, pc, rfl, hpc, hp, hpt, hpr, hk3⟩
  have HK3 := Lib.hid (And.intro (grown_trans HK2.out hk3) hk3)
  have hbl : b < w2.heap.size := by
    obtain ⟨v, hv⟩ := Option.isSome_iff_exists.1 (HB.out.2.1 0 (by omega)).1
    exact World.block_lt_of_cell? w2 _ hv
  have HP := Lib.hid (And.intro (show w.heap.size ≤ p from Nat.le_trans (grown_trans H1.out.2.2.1 HK2.out).size hp) (And.intro hpc (And.intro hpt (And.intro (wayL_digs hpr) (And.intro (show b ≠ p by omega) (show w1.heap.size ≤ p from Nat.le_trans HK2.out.size hp))))))
  clear hpc hp hpt hpr hk3 hbl ckb
  have HZ3 := Lib.hid (H1.out.2.1.grown HK3.out.1 (by simp))
  go_wp2_with (first
    | (refine wpList_build3 rfl 73 _ _ _ rfl (.int .i64 lf) (.slice (some ⟨b, 0, none⟩) 68 68) (.slice (some ⟨p, 0, none⟩) 5 pc) _ rfl rfl rfl (build_sig _ _ _ _ _ _ _ _) ?_)
    | (refine wpList_store_row rfl 73 _ _ rfl (w.heap.size + 1) (sigV lf (.slice (some ⟨b, 0, none⟩) 68 68) (.slice (some ⟨p, 0, none⟩) 5 pc)) rfl rfl 73 _ HZ3.out (by rw [sigV_size]; exact info3) (by rw [sigV_size]; rfl) (sigV_one _ _ _ _ _ _ _) ?_))
  refine bodyPost_ret (results_cell_t rfl _ _ _ ⟨w.heap.size + 1, 0, none⟩ (.agg (sigV lf (.slice (some ⟨b, 0, none⟩) 68 68) (.slice (some ⟨p, 0, none⟩) 5 pc))) rfl (run_loadVar_row _ (w.heap.size + 1) 73 73 _ (0, 0) _ (HZ3.out.row _) Tryz.underlying73 rfl (by rw [sigV_size]; exact info3))) rfl ?_
  have hrow : w3.grownBy (w3.setRow (w.heap.size + 1) (sigV lf (.slice (some ⟨b, 0, none⟩) 68 68) (.slice (some ⟨p, 0, none⟩) 5 pc))) (some (w.heap.size + 1)) := grown_row (World.grownBy.refl w3 _) (.inr rfl) _
  have hb2 : w.heap.size + 1 < b ∧ w.heap.size + 1 < p := by
    have h1 := HZS.out
    have h2 := HB.out.2.2.2
    have h3 := HP.out.2.2.2.2.2
    omega
  exact ⟨b, p, pc, rfl, HB.out.1, HP.out.1, HP.out.2.1, SigAt.to ⟨HB.out.2.2.1.grown HK3.out.2, HP.out.2.2.2.1, there_grown HB.out.2.1 HK3.out.2, HP.out.2.2.1, HP.out.2.2.2.2.1⟩ hrow (fun e => by have := Option.some.inj e; omega) (fun e => by have := Option.some.inj e; omega), grown_fresh (grown_trans H1.out.2.2.1 HK3.out.1) hrow (by omega)⟩
end Go.Proofs.YthkjlgjbjjjohaaGreatDoor
