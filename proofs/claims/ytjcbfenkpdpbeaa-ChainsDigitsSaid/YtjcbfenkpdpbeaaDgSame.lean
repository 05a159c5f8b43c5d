/-
  quoratenum.SameInts; ChainsDigits, walked.
-/
import Derived.Test.YtjcbfenkpdpbeaaDgRef
import Derived.Test.YtjcbfenkpdpbeaaDgLess
namespace Go.Proofs.Ytjcbfenkpdpbeaa
open Go.RowKit

set_option maxRecDepth 100000 in
set_option maxHeartbeats 1000000 in
theorem same_is (w : World) (g1 g2 c1 c2 : Nat) (L : List Int) (h1 : ∀ j, j < 68 → w.cell? ⟨g1, j, none⟩ = some (.int .i64 (L.getD j 0))) (h2 : ∀ j, j < 68 → w.cell? ⟨g2, j, none⟩ = some (.int .i64 (L.getD j 0))) :
    Calls Try.prog 6 #[.slice (some ⟨g1, 0, none⟩) 68 c1, .slice (some ⟨g2, 0, none⟩) 68 c2] w fun e w' => e = .returned (.bool true) ∧ w.grownBy w' none := by
  have H1 := Lib.hid h1
  have H2 := Lib.hid h2
  clear h1 h2
  go_enter Try.func6, Try.ntmps6
  go_wp2_with fail
  go_loopw [13] (fun i wr => ∃ k : Nat, k ≤ 68 ∧ i = .int .i64 (k : Int) ∧ w.grownBy wr none) (fun i _ => 68 - (intOf i).toNat)
  case atStart => exact ⟨0, by omega, rfl, World.grownBy.refl w none⟩
  case round =>
    obtain ⟨k, hk, hi, hK⟩ := hrel
    obtain ⟨I, hI⟩ : ∃ I : Int, I = (k : Int) := ⟨_, rfl⟩
    rw [← hI] at hi
    subst hi
    by_cases hlt : k < 68
    · have d1 : decide (I < 68) = true := by simp; omega
      obtain ⟨x, hx⟩ : ∃ x, x = L.getD k 0 := ⟨_, rfl⟩
      have hkI : I.toNat = k := by omega
      have b1 : wr.cell? ⟨g1, I.toNat, none⟩ = some (.int .i64 x) := by rw [hkI, hx]; exact hK.cell (H1.out k hlt) (by simp)
      have b2 : wr.cell? ⟨g2, I.toNat, none⟩ = some (.int .i64 x) := by rw [hkI, hx]; exact hK.cell (H2.out k hlt) (by simp)
      have hI68 : 0 ≤ I ∧ I < 68 := by omega
      have HI := Lib.hid (And.intro hI hlt)
      have HG := Lib.hid hK
      clear hI hlt hkI hx hK hk
      go_wp2_with fail
      go_quiet (fail)
      go_wp2_with fail
      go_roundw
      case rel =>
        obtain ⟨hI, hlt⟩ := HI.out
        exact ⟨k + 1, by omega, by rw [hI]; rfl, ⟨HG.out.os, HG.out.tape, HG.out.output, HG.out.size, HG.out.block⟩⟩
      case measure => obtain ⟨hI, hlt⟩ := HI.out; simp [intOf]; omega
    · have d1 : decide (I < 68) = false := by simp; omega
      have HG := Lib.hid hK
      clear hlt hI hK hk
      go_wp2_with fail
      go_ret
      exact ⟨rfl, HG.out⟩

set_option linter.unusedSimpArgs false in
set_option maxRecDepth 100000 in
set_option maxHeartbeats 2000000 in
theorem digits_any (w : World) (a : List Int) (ha : a.length = 16) (ra : ∀ z ∈ a, 0 ≤ z ∧ z < 256) :
    Calls Try.prog 3 #[.agg (arrV .u8 a)] w fun e w' => e = .returned (.bool true) ∧ w.grownBy w' none := by
  obtain ⟨da, hda⟩ : ∃ da, da = arrV .u8 a := ⟨_, rfl⟩
  rw [← hda]
  have HA := Lib.hid (And.intro hda (And.intro ha ra))
  obtain ⟨la, hla⟩ : ∃ la, la = da.toList := ⟨_, rfl⟩
  have hua := Try.underlying23
  have hia : (Try.prog.info? 23).map (·.size) = some la.length := by rw [hla, HA.out.1, Array.length_toList, arr_size, HA.out.2.1]; kernel_rfl
  have hma : la.toArray = da := by rw [hla, Array.toArray_toList]
  have hS : ∀ W, (w.alloc (.cells da 23)).grownBy W none → W.rangeAt w.heap.size 0 la := fun W hW j v hv => by
    have h1 := (Blk.new w 23 da).grown hW (by simp)
    rw [Nat.zero_add, h1.cell, ← Array.getElem?_toList, ← hla]; exact hv
  have HS := Lib.hid hS
  have HG0 := Lib.hid (World.grownBy_alloc w (.cells da 23) none)
  clear hda ha ra hla hS
  go_enter Try.func3, Try.ntmps3
  go_wp2_with fail
  generalize w.alloc (.cells da 23) = w0 at *
  refine wp_region_held_drew (S := fun W => W.rangeAt w.heap.size 0 la) (by kernel_rfl) (HS.out _ (grown_drew (World.grownBy.refl w0 none))) (fun _ => ?_)
  refine wpAnyH_ready (rs := [0]) (by kernel_rfl) (by simp) ?_
  refine AllReadyH.cons (o := _) rfl (fun K hK => ?_) AllReadyH.nil
  go_simp
  refine (alive_is _).mono ?_
  rintro e w1 ⟨rfl, hk1⟩
  have hG1 : w0.grownBy w1 none := grown_trans (grown_drew (World.grownBy.refl w0 none)) hk1
  go_wp2_with fail
  refine hK.out _ _ (HS.out w1 hG1) (fun _ => ?_)
  clear hK K
  try simp only [Act.put, List.setIfInBounds_toArray, List.set_cons_zero, List.set_cons_succ]
  refine wpAnyH_take (i := 1) (oi := _) (v := ?v1) rfl (by kernel_rfl) (by kernel_rfl) (by kernel_rfl) (fun _ _ _ h => h) (Or.inl ⟨by rfl, ?hy1⟩) (by assumption) ?rest1
  case hy1 => (intro W hSw; (try dsimp only at hSw); go_simp) <;> with_reducible rfl
  try simp only [Act.put, List.setIfInBounds_toArray, List.set_cons_zero, List.set_cons_succ]
  refine wpAnyH_take (i := 2) (oi := _) (v := .agg la.toArray) rfl (by kernel_rfl) (by kernel_rfl) (by kernel_rfl) (fun _ _ _ h => h) (yieldsIf_load_mid (by rfl) 23 _ rfl w.heap.size 0 rfl la _ (fun W hSw => hSw) hua rfl hia) (by assumption) ?_
  try simp only [Act.put, List.setIfInBounds_toArray, List.set_cons_zero, List.set_cons_succ]
  refine wpAnyH_take (i := 4) (oi := _) (v := .agg la.toArray) rfl (by kernel_rfl) (by kernel_rfl) (by kernel_rfl) (fun _ _ _ h => h) (yieldsIf_load_mid (by rfl) 23 _ rfl w.heap.size 0 rfl la _ (fun W hSw => hSw) hua rfl hia) (by assumption) ?_
  try simp only [Act.put, List.setIfInBounds_toArray, List.set_cons_zero, List.set_cons_succ]
  refine wpAnyH_ready (rs := [3]) (by kernel_rfl) (by simp) ?_
  refine AllReadyH.cons (o := _) rfl (fun K hK => ?_) AllReadyH.nil
  go_simp
  rw [HA.out.1]
  refine (digits_is _ a HA.out.2.1 HA.out.2.2).mono ?_
  rintro e w2 ⟨g1, c1, rfl, hc1, _, hk2⟩
  rw [← HA.out.1]
  have hG2 : w0.grownBy w2 none := grown_trans hG1 hk2
  go_wp2_with fail
  refine hK.out _ _ (HS.out w2 hG2) (fun _ => ?_)
  clear hK K
  try simp only [Act.put, List.setIfInBounds_toArray, List.set_cons_zero, List.set_cons_succ]
  refine wpAnyH_ready (rs := [5]) (by kernel_rfl) (by simp) ?_
  refine AllReadyH.cons (o := _) rfl (fun K hK => ?_) AllReadyH.nil
  go_simp
  rw [HA.out.1]
  refine (rdigits_is _ a HA.out.2.1 HA.out.2.2).mono ?_
  rintro e w3 ⟨g2, c2, rfl, hc2, _, hk3⟩
  rw [← HA.out.1]
  have hG3 : w0.grownBy w3 none := grown_trans hG2 hk3
  go_wp2_with fail
  refine hK.out _ _ (HS.out w3 hG3) (fun _ => ?_)
  clear hK K
  try simp only [Act.put, List.setIfInBounds_toArray, List.set_cons_zero, List.set_cons_succ]
  refine wpAnyH_ready (rs := [6]) (by kernel_rfl) (by simp) ?_
  refine AllReadyH.cons (o := _) rfl (fun K hK => ?_) AllReadyH.nil
  go_simp
  refine (same_is _ g1 g2 c1 c2 (digitsS a) (fun j hj => hk3.cell (hc1 j hj) (by simp)) hc2).mono ?_
  rintro e w4 ⟨rfl, hk4⟩
  have hG4 : w0.grownBy w4 none := grown_trans hG3 hk4
  clear hc1 hc2
  go_wp2_with fail
  refine hK.out _ _ (HS.out w4 hG4) (fun _ => ?_)
  clear hK K
  try simp only [Act.put, List.setIfInBounds_toArray, List.set_cons_zero, List.set_cons_succ]
  refine wpAnyH_take (i := 7) (oi := _) (v := ?v7) rfl (by kernel_rfl) (by kernel_rfl) (by kernel_rfl) (fun _ _ _ h => h) (Or.inl ⟨by rfl, ?hy7⟩) (by assumption) ?rest7
  case hy7 => (intro W hSw; (try dsimp only at hSw); go_simp) <;> with_reducible rfl
  simp only [Act.put, List.getElem_toArray, List.getElem_cons_succ, List.getElem_cons_zero, List.setIfInBounds_toArray, List.set_cons_zero, List.set_cons_succ]
  refine wpAnyH_take (i := 8) (oi := _) (v := ?v8) rfl (by kernel_rfl) (by kernel_rfl) (by kernel_rfl) (fun _ _ _ h => h) (Or.inl ⟨by rfl, ?hy8⟩) (by assumption) ?rest8
  case hy8 => (intro W hSw; (try dsimp only at hSw); go_simp) <;> with_reducible rfl
  simp only [Act.put, List.getElem_toArray, List.getElem_cons_succ, List.getElem_cons_zero, List.setIfInBounds_toArray, List.set_cons_zero, List.set_cons_succ]
  refine wpAnyH_done (by kernel_rfl) ?_ _
  go_wp2_with fail
  go_ret
  exact ⟨rfl, grown_trans HG0.out hG4⟩
end Go.Proofs.Ytjcbfenkpdpbeaa
