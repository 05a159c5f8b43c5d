/-
  The document's disk: Unsynced.
-/
import Derived.Test.YtmecimhlnajaoaaDoorDkH
import Derived.Test.YtmecimhlnajaoaaDoorAp
namespace Go.Proofs.YtmecimhlnajaoaaDoor
open Go.RowKit Go.Maps

attribute [local go_sem] Oper.semAt_some
/-- Of the first k places those where something is written. -/
def dirtyN (wr : List (Option (List Int))) (k : Nat) : List Int := ((List.range k).filter fun i => (wr[i]?.join).isSome).map fun i : Nat => (i : Int)
theorem dirtyN_all (wr : List (Option (List Int))) : dirtyN wr wr.length = dirtyL wr := rfl
theorem dirtyN_yes {wr : List (Option (List Int))} {k : Nat} (h : k < wr.length) (hs : wr[k].isSome = true) : dirtyN wr (k + 1) = dirtyN wr k ++ [(k : Int)] := by
  simp [dirtyN, List.range_succ, List.getElem?_eq_getElem h, hs]
theorem dirtyN_no {wr : List (Option (List Int))} {k : Nat} (h : k < wr.length) (hs : wr[k].isSome = false) : dirtyN wr (k + 1) = dirtyN wr k := by
  simp [dirtyN, List.range_succ, List.getElem?_eq_getElem h, hs]
theorem dirtyN_len (wr : List (Option (List Int))) (k : Nat) : (dirtyN wr k).length ≤ k := by
  unfold dirtyN
  rw [List.length_map]
  exact Nat.le_trans (List.length_filter_le _ _) (by simp)
set_option maxRecDepth 100000 in
set_option maxHeartbeats 1000000 in
theorem md_unsynced (w : World) (p s u v : Nat) (z : DkS) (h : MdIs w p s u v z) :
    Calls Tryd.prog 26 #[.pointer (some ⟨p, 0, none⟩)] w fun e w' => ∃ x, e = .returned x ∧ w'.ownsRow w.heap.size 3 1 x (dirtyL z.wr).length ((dirtyL z.wr).map (Value.int .i64)) ∧ w.grownBy w' none := by
  obtain ⟨i0, hi, hz0, hz1, hz2⟩ := info_parts int_info
  have HI0 := Lib.hid (And.intro hi (And.intro hz0 (And.intro hz1 hz2)))
  obtain ⟨n, hn⟩ : ∃ n, z.syn.length = n := ⟨_, rfl⟩
  have hnl : z.wr.length = n := by rw [← hn]; exact h.2.2.2.2.1
  have hn4 : n ≤ 4096 := by rw [← hn]; exact h.2.2.2.2.2.2.1.2
  have c2 := h.1.cell 2
  simp only [List.getElem?_toArray, List.getElem?_cons_zero, List.getElem?_cons_succ] at c2
  rw [hn] at c2
  obtain ⟨w1, hw1⟩ : ∃ w1, w.alloc (.cells #[] 3) = w1 := ⟨_, rfl⟩
  have g1 : w.grownBy w1 none := by rw [← hw1]; exact World.grownBy_alloc _ _ none
  have o1 : w1.ownsRow w.heap.size 3 1 (.slice (some ⟨w.heap.size, 0, none⟩) 0 0) 0 [] := by rw [← hw1]; exact World.ownsRow_made w #[] 0 (Nat.le_refl _) (Nat.zero_le _) rfl
  have c2' := g1.cell c2 (by simp)
  have HS := Lib.hid (And.intro g1 (And.intro o1 (And.intro hnl (And.intro h.2.2.2.1 hn4))))
  clear hi hz0 hz1 hz2 h hnl hn4 g1 o1 c2
  refine (callsIn_wide (n := 6)).1 ?_
  refine callsIn_of_wp Tryd.func26 rfl trivial ?_ rfl
  simp only [Tryd.ntmps26, List.size_toArray, List.length_cons, List.length_nil, Nat.reduceAdd, Nat.reduceSub, Array.replicate_succ, Array.replicate_zero, List.push_toArray, List.append_toArray, List.nil_append, List.cons_append]
  gi_wp2
  (try rw [hw1])
  gi_wp2
  gi_loopw [12, 3] (fun i out wr => ∃ k : Nat, k ≤ n ∧ i = .int .i64 (k : Int) ∧ (∃ A c, out = .slice A (dirtyN z.wr k).length c ∧ wr.ownsRow w.heap.size 3 1 (.slice A (dirtyN z.wr k).length c) (dirtyN z.wr k).length ((dirtyN z.wr k).map (Value.int .i64))) ∧ w.grownBy wr none) (fun i _ _ => n - (intOf i).toNat)
  case atStart => exact ⟨0, by omega, rfl, ⟨_, _, rfl, HS.out.2.1⟩, HS.out.1⟩
  case round =>
    obtain ⟨k, hkn, rfl, ⟨A, c, rfl, hown⟩, hgx⟩ := hrel
    rename World => wx
    obtain ⟨N, hN⟩ : ∃ N, (dirtyN z.wr k).length = N := ⟨_, rfl⟩
    obtain ⟨xs, hxs⟩ : ∃ xs, (dirtyN z.wr k).map (Value.int .i64) = xs := ⟨_, rfl⟩
    by_cases hlt : k < n
    · have e3 : decide ((k : Int) < (n : Int)) = true := by simp; omega
      have hkw : k < z.wr.length := by rw [HS.out.2.2.1]; exact hlt
      have xv0 := ((HS.out.2.2.2.1.cell k).trans (by rw [List.getElem?_toArray, dirtyC_at hkw]) : w.cell? ⟨v, k, none⟩ = some (.bool (z.wr[k].isSome)))
      have xv := hgx.cell xv0 (by simp)
      clear xv0
      have hk4 : k < 4096 := by have := HS.out.2.2.2.2; omega
      have hN4 : N ≤ 4096 := by rw [← hN]; have := dirtyN_len z.wr k; omega
      rw [hN] at hown ⊢
      rw [hxs] at hown
      cases hb : z.wr[k].isSome with
      | true =>
        rw [hb] at xv
        have hst := dirtyN_yes hkw hb
        have hga := World.grownBy_alloc wx (.cells #[.int .i64 (k : Int)] 3) none
        have HO := Lib.hid (hown.alloc (.cells #[.int .i64 (k : Int)] 3))
        have HW := Lib.hid (And.intro hst (And.intro (grown_trans hgx hga) (And.intro hN (And.intro hxs hgx.size))))
        have HN := Lib.hid (And.intro hk4 hN4)
        clear hst hga hown hgx hN hxs hb hkw hN4
        gi_wp2_with (first
          | (gi_at_builtin; refine wpListIn_push_one _ rfl _ _ 51 rfl w.heap.size 3 i0 _ 8 Tryd.underlying51 HI0.out.1 HI0.out.2.1 HI0.out.2.2.1 HI0.out.2.2.2 rfl (.slice A N c) N xs rfl HO.out ⟨wx.heap.size, 0, none⟩ 1 (.int .i64 (k : Int)) rfl (Blk.cell (Blk.new _ _ _) 0) rfl (by have := HN.out; omega) (by omega) (by have := HW.out.2.2.2.2; simp only [World.size_alloc]; omega) ?_; intro A' c' w3 hown3 hg3 hat3; have q3 := Lib.hid hown3; have q4 := Lib.hid (grown_own HW.out.2.1 hg3 HO.out (Nat.le_refl _)); clear hown3 hg3 hat3)
          | gi_in)
        go_roundw
        case rel =>
          refine ⟨k + 1, by omega, by simp, ⟨A', c', ?_, ?_⟩, q4.out⟩
          · rw [HW.out.1, List.length_append, HW.out.2.2.1]; rfl
          · rw [HW.out.1, List.length_append, HW.out.2.2.1, List.map_append, HW.out.2.2.2.1]; exact q3.out
        case measure => simp [intOf]; omega
      | false =>
        rw [hb] at xv
        have hst := dirtyN_no hkw hb
        have HW := Lib.hid (And.intro hst (And.intro hgx (And.intro hN (And.intro hxs hown))))
        clear hst hown hgx hN hxs hb hkw hN4
        gi_wp2
        go_roundw
        case rel => exact ⟨k + 1, by omega, by simp, ⟨A, c, by rw [HW.out.1, HW.out.2.2.1], by rw [HW.out.1, HW.out.2.2.1, HW.out.2.2.2.1]; exact HW.out.2.2.2.2⟩, HW.out.2.1⟩
        case measure => simp [intOf]; omega
    · have e3 : decide ((k : Int) < (n : Int)) = false := by simp; omega
      obtain rfl : k = n := by omega
      rw [← HS.out.2.2.1, dirtyN_all] at hown hN hxs ⊢
      have HF := Lib.hid (And.intro hown hgx)
      clear hown hgx hN hxs
      rw [HS.out.2.2.1] at *
      gi_wp2
      go_ret
      exact ⟨_, rfl, HF.out⟩
end Go.Proofs.YtmecimhlnajaoaaDoor
