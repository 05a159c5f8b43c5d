/-
  quoratenum.Num: the number of an error of package api; nothing that was there is turned.
-/
import Derived.Test.YtmoebkdbnldbdaaGreatDoorM20pu
namespace Go.Proofs.YtmoebkdbnldbdaaGreatDoor
open Go.RowKit

set_option maxHeartbeats 1000000 in
theorem num_err (w : World) (B : Nat) (E : Nat → Addr) (k : Nat) (hk : k < 18) (he : ErrEnv w B E) : Calls Tryz.prog 6 #[errV (E k)] w fun e w' => e = .returned (.int .i64 ((k : Int) + 1)) ∧ w.grownBy w' none := by
  have v0 := (he.var 0 (by omega)).1
  have v1 := (he.var 1 (by omega)).1
  have v2 := (he.var 2 (by omega)).1
  have v3 := (he.var 3 (by omega)).1
  have v4 := (he.var 4 (by omega)).1
  have v5 := (he.var 5 (by omega)).1
  have v6 := (he.var 6 (by omega)).1
  have v7 := (he.var 7 (by omega)).1
  have v8 := (he.var 8 (by omega)).1
  have v9 := (he.var 9 (by omega)).1
  have v10 := (he.var 10 (by omega)).1
  have v11 := (he.var 11 (by omega)).1
  have v12 := (he.var 12 (by omega)).1
  have v13 := (he.var 13 (by omega)).1
  have v14 := (he.var 14 (by omega)).1
  have v15 := (he.var 15 (by omega)).1
  have v16 := (he.var 16 (by omega)).1
  have v17 := (he.var 17 (by omega)).1
  simp only [gix, List.getD_cons_zero, List.getD_cons_succ] at v0 v1 v2 v3 v4 v5 v6 v7 v8 v9 v10 v11 v12 v13 v14 v15 v16 v17
  go_enter Tryz.func6, Tryz.ntmps6
  go_wp2_with fail
  clear v0 v1 v2 v3 v4 v5 v6 v7 v8 v9 v10 v11 v12 v13 v14 v15 v16 v17
  have hg := World.grownBy_alloc w (.cells #[errV (E 0), errV (E 1), errV (E 2), errV (E 3), errV (E 4), errV (E 5), errV (E 6), errV (E 7), errV (E 8), errV (E 9), errV (E 10), errV (E 11), errV (E 12), errV (E 13), errV (E 14), errV (E 15), errV (E 16), errV (E 17)] 31) none
  have hb := Blk.new w 31 #[errV (E 0), errV (E 1), errV (E 2), errV (E 3), errV (E 4), errV (E 5), errV (E 6), errV (E 7), errV (E 8), errV (E 9), errV (E 10), errV (E 11), errV (E 12), errV (E 13), errV (E 14), errV (E 15), errV (E 16), errV (E 17)]
  have he1 := he.alloc (.cells #[errV (E 0), errV (E 1), errV (E 2), errV (E 3), errV (E 4), errV (E 5), errV (E 6), errV (E 7), errV (E 8), errV (E 9), errV (E 10), errV (E 11), errV (E 12), errV (E 13), errV (E 14), errV (E 15), errV (E 16), errV (E 17)] 31)
  generalize w.alloc (.cells #[errV (E 0), errV (E 1), errV (E 2), errV (E 3), errV (E 4), errV (E 5), errV (E 6), errV (E 7), errV (E 8), errV (E 9), errV (E 10), errV (E 11), errV (E 12), errV (E 13), errV (E 14), errV (E 15), errV (E 16), errV (E 17)] 31) = W at *
  have hcell : ∀ i, i < 18 → W.cell? ⟨w.heap.size, i, none⟩ = some (errV (E i)) := fun i hi => (hb.cell i).trans (list18 (fun i => errV (E i)) i hi)
  have Hcell := Lib.hid hcell
  clear hcell hb
  go_loop [29] (fun t => ∃ i : Nat, i ≤ k ∧ t = .int .i64 (i : Int)) (fun t => 18 - (intOf t).toNat)
  case atStart => exact ⟨0, Nat.zero_le _, rfl⟩
  case round =>
    obtain ⟨i, hi, rfl⟩ := hrel
    have hc := Hcell.out i (by omega)
    have hlt : decide ((i : Int) < 18) = true := by simp; omega
    by_cases hik : i = k
    · subst hik
      go_wp2_with (go_at_call 13; refine (is_same (E i) _).mono ?_; rintro e w' ⟨rfl, rfl⟩)
      go_ret
      exact ⟨rfl, hg⟩
    · have hne : E k ≠ E i := fun e => hik (he.inj k i hk (by omega) e).symm
      obtain ⟨ca, ta, ha⟩ := (he1.row k hk).2
      obtain ⟨cb, tb, hb⟩ := (he1.row i (by omega)).2
      go_wp2_with (go_at_call 13; refine (is_other (E k) (E i) ca cb ta tb _ hne ha hb).mono ?_; rintro e w' ⟨rfl, rfl⟩)
      go_round
      case rel => exact ⟨i + 1, by omega, by go_num⟩
      case measure => simp [intOf]; omega
end Go.Proofs.YtmoebkdbnldbdaaGreatDoor
