/-
  Disk: New.
-/
import Derived.Test.YtmecimhlnajaoaaDoorDkM
import Derived.Laws.MakeOwn
namespace Go.Proofs.YtmecimhlnajaoaaDoor
open Go.RowKit Go.Maps

theorem made_zeros (m : Nat) : madeCells (List.replicate 64 (Value.int .u8 0)).toArray m = (List.replicate m (Value.int .u8 0)).toArray := by
  apply Array.ext
  · simp [madeCells]
  · intro i h1 h2
    have hm : i % 64 < (List.replicate 64 (Value.int .u8 0)).toArray.size := by simpa using Nat.mod_lt i (show 0 < 64 by decide)
    simp only [madeCells, Array.getElem_map, Array.getElem_range, List.size_toArray, List.length_replicate, List.getElem_toArray, List.getElem_replicate]
    rw [getElem!_pos (List.replicate 64 (Value.int .u8 0)).toArray (i % 64) hm, List.getElem_toArray, List.getElem_replicate]
def newS (n : Nat) : DkS := { syn := List.replicate n (List.replicate 64 0), wr := List.replicate n none, off := false, lasts := -1 }
theorem newS_cells (n : Nat) : (newS n).cells = (List.replicate (n * 64) (Value.int .u8 0)).toArray := by
  have h : (List.replicate n (List.replicate 64 (0 : Int))).flatMap (fun r => r.map (Value.int .u8)) = List.replicate (n * 64) (Value.int .u8 0) := by
    induction n with
    | zero => rfl
    | succ n ih => rw [List.replicate_succ, List.flatMap_cons, ih, List.map_replicate, List.replicate_append_replicate]; congr 1; omega
  rw [DkS.cells, newS, h]
theorem dk_made (w : World) (n : Nat) (hn : n ≤ 4096) : Sem.run Tryd.prog (Instr.makeSlice 47 (.int .i64 (n : Int)) (.int .i64 (n : Int))) w = .ok (.slice (some ⟨w.heap.size, 0, none⟩) n n) (w.alloc (.cells (newS n).cells 36)) := by
  obtain ⟨i, hi, hz0, hz1, hz2⟩ := info_parts (P := Tryd.prog) (e := 36) (z := .agg (List.replicate 64 (Value.int .u8 0)).toArray) (size := 64) (bytes := 64) (by kernel_rfl)
  have h := run_make (P := Tryd.prog) w 47 36 i _ Tryd.underlying47 hi hz0 .i64 .i64 (n : Int) (n : Int) (by omega) (Int.le_refl _) (by rw [hz2]; omega) (by omega)
  rw [hz1, Int.toNat_natCast] at h
  rw [newS_cells, ← made_zeros]
  exact h

set_option maxRecDepth 100000 in
set_option maxHeartbeats 1000000 in
theorem dk_new (w : World) (B : Nat) (n : Int) (er : Addr) (he : ErrAt w B 0 er) :
    Calls Tryd.prog 9 #[.int .i64 n] w fun e w' => w.grownBy w' none ∧ ((¬ (1 ≤ n ∧ n ≤ 4096) ∧ e = .returned (.tuple #[.pointer none, errV er])) ∨
      (∃ k d b m : Nat, n = (k : Int) ∧ 1 ≤ k ∧ k ≤ 4096 ∧ e = .returned (.tuple #[.pointer (some ⟨d, 0, none⟩), .nilIface]) ∧ DkIs w' d b m (newS k) ∧ w.heap.size ≤ d ∧ w.heap.size ≤ b ∧ w.heap.size ≤ m)) := by
  have er0 := he.1
  by_cases h1 : n < 1
  · have d1 : decide (n < 1) = true := by simpa using h1
    clear he
    go_enter Tryd.func9, Tryd.ntmps9
    go_wp2_with fail
    go_quiet (fail)
    go_wp2_with fail
    refine bodyPost_ret (results_tmp2 rfl _ _ _) rfl ?_
    exact ⟨⟨rfl, rfl, rfl, Nat.le_refl _, fun _ _ _ => rfl⟩, .inl ⟨by omega, rfl⟩⟩
  have d1 : decide (n < 1) = false := by simpa using h1
  by_cases h2 : 4096 < n
  · have d2 : decide (4096 < n) = true := by simpa using h2
    clear he
    go_enter Tryd.func9, Tryd.ntmps9
    go_wp2_with fail
    go_quiet (fail)
    go_wp2_with fail
    refine bodyPost_ret (results_tmp2 rfl _ _ _) rfl ?_
    exact ⟨⟨rfl, rfl, rfl, Nat.le_refl _, fun _ _ _ => rfl⟩, .inl ⟨by omega, rfl⟩⟩
  have d2 : decide (4096 < n) = false := by simpa using h2
  obtain ⟨k, rfl⟩ : ∃ k : Nat, n = (k : Int) := ⟨n.toNat, by omega⟩
  have hk : 1 ≤ k ∧ k ≤ 4096 := by omega
  have hmk := fun V => dk_made V k hk.2
  have hmm := @run_makeMap Tryd.prog
  have HK := Lib.hid hk
  obtain ⟨M, hM⟩ : ∃ M, (newS k).cells = M := ⟨_, rfl⟩
  rw [hM] at hmk
  have HMM := Lib.hid hM
  clear he hk hM h1 h2 er0
  go_enter Tryd.func9, Tryd.ntmps9
  go_wp2_with fail
  refine bodyPost_ret (results_tmp2 rfl _ _ _) rfl ?_
  refine ⟨grown_trans (grown_trans (World.grownBy_alloc _ _ none) (World.grownBy_alloc _ _ none)) (World.grownBy_alloc _ _ none), .inr ⟨k, w.heap.size + 1 + 1, w.heap.size, w.heap.size + 1, rfl, HK.out.1, HK.out.2, rfl, ?_, by omega, by omega, by omega⟩⟩
  have hs : (newS k).syn.length = k := by simp [newS]
  refine ⟨?_, ?_, ⟨.map [], ?_, mapOf_empty k⟩, by simp [newS], fun r hr => by simp [newS] at hr; rw [hr.2]; simp, by rw [hs]; exact HK.out, by simp [newS], by omega⟩
  · have h := Blk.new ((w.alloc (.cells M 36)).alloc (.map #[] 0)) 62 #[.slice (some ⟨w.heap.size, 0, none⟩) k k, .map (some (w.heap.size + 1)), .bool false, .int .i64 (-1)]
    rw [World.size_alloc, World.size_alloc] at h
    rw [hs]
    exact h
  · rw [HMM.out]
    exact ((Blk.new w _ _).alloc _).alloc _
  · have h := (World.ownsMap_made (H := Unit) (w.alloc (.cells M 36)) Tryd.prog 3 (secR 64)).alloc (.cells #[.slice (some ⟨w.heap.size, 0, none⟩) k k, .map (some (w.heap.size + 1)), .bool false, .int .i64 (-1)] 62)
    rw [World.size_alloc] at h
    exact h.mono (by omega)
end Go.Proofs.YtmecimhlnajaoaaDoor
