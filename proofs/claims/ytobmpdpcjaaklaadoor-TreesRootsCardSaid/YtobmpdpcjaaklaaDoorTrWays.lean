/-
  TreesWays, walked.
-/
import Derived.Test.YtobmpdpcjaaklaaDoorTrB
import Derived.Test.YtobmpdpcjaaklaaDoorTrW
import Derived.Test.YtobmpdpcjaaklaaDoorSm
namespace Go.Proofs.YtobmpdpcjaaklaaDoor
open Go.RowKit

/-- The way up but its first digest. -/
theorem way_rest {w : World} {g : Nat} {ps : List (List Int)} {i : Nat} (h : ∀ k, k < 5 → w.rangeAt g (0 + k * 16) (wayV ps i k).toList) : DigsAt w g 16 (upto (fun k => wayC ps i (k + 1)) 4) := fun j hj => by
  rw [upto_length] at hj
  rw [upto_get hj]
  have := h (j + 1) (by omega)
  rwa [show 0 + (j + 1) * 16 = 16 + j * 16 by omega] at this
theorem way_dig {ps : List (List Int)} (hps : ∀ p ∈ ps, isDig p) (f : Nat → Nat) (i n : Nat) : ∀ p ∈ upto (fun k => wayC ps i (f k)) n, isDig p := by
  intro p hp
  simp only [upto, List.mem_map] at hp
  obtain ⟨k, _, rfl⟩ := hp
  exact wayC_dig hps _ _
theorem u64_rem32 (x : Int) : IntKind.i64.wrap ((IntKind.u64.wrap x).tmod 32) = x % 32 ∧ IntKind.u64.wrap x % 32 = x % 32 := by
  have h : IntKind.u64.wrap x = x % 18446744073709551616 := by simp [IntKind.wrap, IntKind.bits, IntKind.signed]
  rw [h]
  have h2 : (x % 18446744073709551616).tmod 32 = x % 32 := by rw [Int.tmod_eq_emod_of_nonneg (by omega)]; omega
  refine ⟨?_, by omega⟩
  rw [h2, IntKind.wrap_i64]; omega
theorem ways_long (w : World) (hR : Rounds w) (lf : Int) (A : Option Addr) (n c : Nat) (hn : n ≠ 32) : Calls Tryd.prog 5 #[.slice A n c, .int .i64 lf] w fun e w' => e = .returned (.bool true) ∧ w.grownBy w' none := by
  have d1 : ¬ ((n : Int) = 32) := by omega
  have HR := Lib.hid hR
  clear hR
  go_enter Tryd.func5, Tryd.ntmps5
  go_wp2_with fail
  refine (tree_alive _ HR.out).mono ?_
  rintro e w1 ⟨rfl, hk1⟩
  have HK := Lib.hid hk1
  clear hk1
  go_wp2_with fail
  go_ret
  exact ⟨rfl, HK.out⟩

set_option maxRecDepth 100000 in
set_option maxHeartbeats 4000000 in
theorem ways_main (w : World) (hR : Rounds w) (lf : Int) (b off c : Nat) (ps : List (List Int)) (hl : ps.length = 32) (hps : ∀ p ∈ ps, isDig p) (hD : DigsAt w b off ps) :
    Calls Tryd.prog 5 #[.slice (some ⟨b, off, none⟩) 32 c, .int .i64 lf] w fun e w' => e = .returned (.bool true) ∧ w.grownBy w' none := by
  obtain ⟨q, hq⟩ : ∃ q : Nat, (q : Int) = lf % 32 := ⟨(lf % 32).toNat, by omega⟩
  obtain ⟨hu, hu2⟩ := u64_rem32 lf
  have hq32 : q < 32 := by omega
  obtain ⟨I, hI⟩ : ∃ I : Int, I = lf % 32 := ⟨_, rfl⟩
  obtain ⟨Y, hY⟩ : ∃ Y : Int, Y = ((sib q : Nat) : Int) := ⟨_, rfl⟩
  have hs32 : sib q < 32 := by have := sib_lt (k := 0) hq32 (by omega); simpa using this
  have hx : bits .xor .i64 I 1 = Y := by
    have h1 := i64_xor1 ⟨q, hq32⟩
    rw [hY, ← h1, hI, ← hq]
  rw [← hI] at hu hu2
  have hIq : I = (q : Int) := by omega
  have hb0 : 0 ≤ I ∧ I < 32 := by omega
  have hb1 : 0 ≤ Y ∧ Y < 32 := by omega
  have HN := Lib.hid (And.intro hR (And.intro hl (And.intro hps (And.intro hD (And.intro hq32 (And.intro hs32 (And.intro hIq hY)))))))
  clear hq hI hR hl hps hD hq32 hs32 hIq hY
  go_enter Tryd.func5, Tryd.ntmps5
  go_wp2_with fail
  refine (tree_alive _ HN.out.1).mono ?_
  rintro e w1 ⟨rfl, hk1⟩
  have HK1 := Lib.hid hk1
  clear hk1
  go_wp2_with fail
  obtain ⟨hR, hl, hps, hD, hq32, hs32, hIq, hY⟩ := HN.out
  refine (path_ok w1 (hR.grown HK1.out (by simp)) b off c ps hl hps (hD.grown HK1.out) q hq32 I hIq).mono ?_
  rintro e w2 ⟨g1, cap1, rfl, hc1, hg1, _, hr1, hk2⟩
  have HK2 := Lib.hid (grown_trans HK1.out hk2)
  have HP1 := Lib.hid (And.intro hc1 hr1)
  clear hR hl hps hD hq32 hs32 hIq hY hc1 hg1 hr1 hk2
  go_wp2_with fail
  obtain ⟨hR, hl, hps, hD, hq32, hs32, hIq, hY⟩ := HN.out
  refine (path_ok w2 (hR.grown HK2.out (by simp)) b off c ps hl hps (hD.grown HK2.out) (sib q) hs32 Y hY).mono ?_
  rintro e w3 ⟨g2, cap2, rfl, hc2, hg2, _, hr2, hk3⟩
  have HK3 := Lib.hid (grown_trans HK2.out hk3)
  have HP1b := Lib.hid (show ∀ k, k < 5 → w3.rangeAt g1 (0 + k * 16) (wayV ps q k).toList from fun k hk => range_grown (HP1.out.2 k hk) hk3)
  have HP2 := Lib.hid (And.intro hc2 hr2)
  clear hR hl hps hD hq32 hs32 hIq hY hc2 hg2 hr2 hk3
  go_wp2_with fail
  obtain ⟨hR, hl, hps, hD, hq32, hs32, hIq, hY⟩ := HN.out
  obtain ⟨xs, hxs⟩ : ∃ xs, xs = arrV .u8 (ps.getD q zeroC) := ⟨_, rfl⟩
  obtain ⟨ys, hys⟩ : ∃ ys, ys = arrV .u8 (ps.getD (sib q) zeroC) := ⟨_, rfl⟩
  have e1 : wayV ps q 0 = ys := by rw [wayV, wayC, Nat.pow_zero, Nat.div_one, nodeC, hys]
  have e2 : wayV ps (sib q) 0 = xs := by rw [wayV, wayC, Nat.pow_zero, Nat.div_one, sib_sib, nodeC, hxs]
  have hxd := getD_dig hps q
  have hyd := getD_dig hps (sib q)
  have hqx := eqDG _ hxd.1 xs hxs
  have hqy := eqDG _ hyd.1 ys hys
  have hload : ∀ (z : Gr w3) (bb oo : Nat) (cs : Array Value), cs.size = 16 → w3.rangeAt bb oo cs.toList → Sem.run Tryd.prog (Instr.loadAt 25 (.pointer (some ⟨bb, oo, none⟩))) z.1 = .ok (.agg cs) z.1 := fun z bb oo cs hs hr => by
    have h1 := run_loadAt_mid (P := Tryd.prog) z.1 bb oo 25 cs.toList _ (range_grown hr z.2) Tryd.underlying25 rfl (by rw [Array.length_toList, hs]; exact info16)
    rwa [Array.toArray_toList] at h1
  have hx16 : xs.size = 16 := by rw [hxs, arr_size]; exact hxd.1
  have hy16 : ys.size = 16 := by rw [hys, arr_size]; exact hyd.1
  have V1 := Lib.hid (fun z : Gr w3 => hload z g1 0 ys hy16 (by rw [← e1]; exact HP1b.out 0 (by omega)))
  have V2 := Lib.hid (fun z : Gr w3 => hload z g2 0 xs hx16 (by rw [← e2]; exact HP2.out.2 0 (by omega)))
  have V3 := Lib.hid (fun z : Gr w3 => hload z b (off + Y.toNat * 16) ys hy16 (by rw [hys, hY, Int.toNat_natCast]; exact range_grown (hD (sib q) (by omega)) HK3.out))
  have V4 := Lib.hid (fun z : Gr w3 => hload z b (off + I.toNat * 16) xs hx16 (by rw [hxs, hIq, Int.toNat_natCast]; exact range_grown (hD q (by omega)) HK3.out))
  have sl1 : ∀ V, Sem.run Tryd.prog (Instr.sliceAt 22 (.slice (some ⟨g1, 0, none⟩) 5 cap1) (some (.int .i64 1)) none none) V = .ok (.slice (some ⟨g1, 16, none⟩) 4 (cap1 - 1)) V := fun V => by
    have h5 := HP1.out.1
    have := digs_hi V g1 0 5 cap1 1 (by omega) (by omega)
    simpa using this
  have sl2 : ∀ V, Sem.run Tryd.prog (Instr.sliceAt 22 (.slice (some ⟨g2, 0, none⟩) 5 cap2) (some (.int .i64 1)) none none) V = .ok (.slice (some ⟨g2, 16, none⟩) 4 (cap2 - 1)) V := fun V => by
    have h5 := HP2.out.1
    have := digs_hi V g2 0 5 cap2 1 (by omega) (by omega)
    simpa using this
  have S1 := Lib.hid (show ∀ z : Gr w3, Calls Tryd.prog 14 #[.slice (some ⟨g1, 16, none⟩) 4 (cap1 - 1), .slice (some ⟨g2, 16, none⟩) 4 (cap2 - 1)] z.1 fun e w' => e = .returned (.bool true) ∧ z.1.grownBy w' none from fun z =>
    digs_same z.1 g1 16 (cap1 - 1) g2 16 (cap2 - 1) 4 _ _ (upto_length _ _) (upto_length _ _) (by omega) (way_dig hps (· + 1) q 4) (way_dig hps (· + 1) (sib q) 4) ((way_rest HP1b.out).grown z.2) ((way_rest HP2.out.2).grown z.2) true (by
      symm
      refine decide_eq_true ?_
      show (List.range 4).map _ = (List.range 4).map _
      refine List.map_congr_left fun k _ => ?_
      exact (way_beside ps q k).symm))
  clear hR hl hps hD hq32 hs32 hIq hY hxs hys e1 e2 hxd hyd hx16 hy16 hload
  refine wp_region_grown (by kernel_rfl) (by kernel_rfl) ?_
  repeat (first
    | (refine wpQuiet_load_row 25 _ ⟨g1, 0, none⟩ (.agg ys) (by rfl) rfl rfl (by rintro _ ⟨z, rfl⟩; exact V1.out z) ?_; simp only [Act.put, List.setIfInBounds_toArray, List.set_cons_zero, List.set_cons_succ])
    | (refine wpQuiet_load_row 25 _ ⟨g2, 0, none⟩ (.agg xs) (by rfl) rfl rfl (by rintro _ ⟨z, rfl⟩; exact V2.out z) ?_; simp only [Act.put, List.setIfInBounds_toArray, List.set_cons_zero, List.set_cons_succ])
    | (refine wpQuiet_load_row 25 _ ⟨b, off + Y.toNat * 16, none⟩ (.agg ys) (by rfl) rfl rfl (by rintro _ ⟨z, rfl⟩; exact V3.out z) ?_; simp only [Act.put, List.setIfInBounds_toArray, List.set_cons_zero, List.set_cons_succ])
    | (refine wpQuiet_load_row 25 _ ⟨b, off + I.toNat * 16, none⟩ (.agg xs) (by rfl) rfl rfl (by rintro _ ⟨z, rfl⟩; exact V4.out z) ?_; simp only [Act.put, List.setIfInBounds_toArray, List.set_cons_zero, List.set_cons_succ])
    | go_big_quiet_step (first
    | (go_at_call 14; with_reducible exact Calls.grown _ (S1.out _))))
  refine wpQuiet_nil ?_
  rintro w7 ⟨⟨_, k7⟩, rfl⟩
  go_wp2_with fail
  go_ret
  exact ⟨rfl, grown_trans HK3.out k7⟩
end Go.Proofs.YtobmpdpcjaaklaaDoor
