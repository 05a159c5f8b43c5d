/-
  A validator, a transaction, a turn that is written.
-/
import Derived.Deep.DeepCutAuto
import Derived.Test.YthjcgdcmbedhnaaDoorCdD
import Derived.Test.YthjcgdcmbedhnaaDoorCdL
namespace Go.Proofs.YthjcgdcmbedhnaaDoor
open Go.RowKit

theorem range_seg {w : World} {g o : Nat} {a b c : List Value} (h : w.rangeAt g o (a ++ (b ++ c))) : w.rangeAt g (o + a.length) b := fun j v hv => by
  have hj := (List.getElem?_eq_some_iff.1 hv).1
  have := h (a.length + j) v (by rw [List.getElem?_append_right (by omega), Nat.add_sub_cancel_left, List.getElem?_append_left hj]; exact hv)
  rwa [← Nat.add_assoc] at this
theorem BytesAt.lt0 {w : World} {A : Option Addr} {l : List UInt8} (h : BytesAt w A l) : ∀ ad, A = some ad → l ≠ [] → ad.block < w.heap.size := by
  intro ad e hne
  obtain ⟨ad', e', hc⟩ := h hne
  rw [e] at e'
  injection e' with e'
  subst e'
  have := World.block_lt_of_cell? w _ (hc 0 (List.length_pos_iff.2 hne))
  rwa [block_add] at this
theorem bytes_low {w0 w : World} {A : Option Addr} {l : List UInt8} (k : Kept (newF w0) w0 w) (h : BytesAt w0 A l) : BytesAt w A l := h.kept' k fun ad e hne hf => absurd (h.lt0 ad e hne) (by simpa using hf)
section
variable {w0 : World} {E : Nat → Addr} {g : Nat} (he : ErrAt w0 w0.heap.size 1 (E 0))
include he
set_option maxRecDepth 100000 in
set_option maxHeartbeats 1000000 in
theorem el_Vd (w : World) (F : Nat → Prop) (s : WSt) (h : WI w0 E g F s w) (hs : s.2.length ≤ 2000000) (x : Vd) (hx : isDig x.key) (cs : Array Value) (hcs : cs = x.cells.toArray) :
    Calls Tryd.prog 45 #[.agg #[.pointer (some ⟨g, 0, none⟩)], .agg cs] w fun e w' => e = .returned (.tuple #[]) ∧ WP w0 E g F (sVd x s) w w' := by
  have hc0 : cs = x.cells.toArray := hcs
  obtain ⟨kd, hkd⟩ : ∃ kd, kd = arrV .u8 x.key := ⟨_, rfl⟩
  have hks : kd.size = 16 := by rw [hkd, arr_size, hx.1]
  have hcl : cs.toList = [] ++ (kd.toList ++ [.int .i64 x.p]) := by rw [hcs, hkd]; simp [Vd.cells, arrV]
  have H3 := Lib.hid (And.intro hks hkd)
  obtain ⟨W1, hW1⟩ : ∃ W1, ((w.alloc (.cells #[.pointer (some ⟨g, 0, none⟩)] 80)).alloc (.cells cs 115)) = W1 := ⟨_, rfl⟩
  have g1 : w.grownBy W1 none := by rw [← hW1]; exact grown_trans (World.grownBy_alloc _ _ none) (World.grownBy_alloc _ _ none)
  have bw : Blk W1 w.heap.size 80 #[.pointer (some ⟨g, 0, none⟩)] := by rw [← hW1]; exact (Blk.new w _ _).alloc _
  have bx : Blk W1 (w.heap.size + 1) 115 cs := by
    have := Blk.new (w.alloc (.cells #[.pointer (some ⟨g, 0, none⟩)] 80)) 115 cs
    rw [← hW1]; simpa using this
  have hi := h.opened g1
  have HCl := Lib.hid (fun (w2 : World) (s2 : WSt) (P : WP w0 E g (fun k => F k ∧ k < w.heap.size) s2 W1 w2) => WP.closed (F := F) h g1 P)
  have HB := Lib.hid (fun (V : World) (s' : WSt) (P : WP w0 E g (fun k => F k ∧ k < w.heap.size) s' W1 V) => (show V.cell? ⟨w.heap.size, 0, none⟩ = some (.pointer (some ⟨g, 0, none⟩)) ∧ V.rangeAt (w.heap.size + 1) 0 kd.toList ∧ V.cell? ⟨w.heap.size + 1, 16, none⟩ = some (.int .i64 x.p) from
    by
      have kw : Blk V w.heap.size 80 #[.pointer (some ⟨g, 0, none⟩)] := bw.kept P.fine (fun h => absurd h.2 (by omega))
      have bx : Blk V (w.heap.size + 1) 115 cs := bx.kept P.fine (fun h => absurd h.2 (by omega))
      exact ⟨by simpa using kw.cell 0, by have r := range_blk0 bx; rw [hcl] at r; have := range_seg r; simpa using this, by have r := range_blk0 bx; have := r 16 (.int .i64 x.p) (by rw [hcl, List.nil_append, List.getElem?_append_right (by rw [Array.length_toList, hks]; exact Nat.le_refl _), Array.length_toList, hks]; rfl); simpa using this⟩))
  have HP0 := Lib.hid hi.same
  have HE := Lib.hid he
  have HS := Lib.hid hs
  have HW := Lib.hid hW1
  clear h hi bw bx g1 hW1 hs he hcs hc0 hks hkd hcl
  go_enter Tryd.func45, Tryd.ntmps45
  go_upto_region 1 with (fail)
  rw [HW.out]
  obtain ⟨k0, k1, k2⟩ := HB.out _ _ HP0.out
  clear k2
  have HR := Lib.hid k1
  clear k1
  go_wp2_with (refine wpList_load_mid rfl 23 _ rfl (w.heap.size + 1) 0 rfl (kd.toList) _ HR.out Tryd.underlying23 rfl (by rw [Array.length_toList, H3.out.1]; exact sz_Dg) ?_; rw [Array.toArray_toList])
  refine (digest_st HP0.out.wi (Nat.le_trans HS.out (by omega)) x.key hx kd H3.out.2).mono ?_
  rintro e V1 ⟨rfl, q0⟩
  have HP1 := Lib.hid (HP0.out.trans q0)
  clear q0 k0
  have HS1 := Lib.hid (show (sDig x.key s).2.length ≤ 2100000 from by have h1 := adds_dig hx.1 s; have h2 := HS.out; omega)
  obtain ⟨k0, k1, k2⟩ := HB.out _ _ HP1.out
  clear k1
  go_wp2_with fail
  refine (number_st HE.out HP1.out.wi (Nat.le_trans HS1.out (by omega)) x.p 6).mono ?_
  rintro e V2 ⟨rfl, q1⟩
  have HP2 := Lib.hid (HP1.out.trans q1)
  clear q1 k0 k2
  go_wp2_with fail
  go_end0
  exact ⟨rfl, HCl.out _ _ HP2.out⟩

set_option maxRecDepth 100000 in
set_option maxHeartbeats 1000000 in
theorem el_Tx (w : World) (F : Nat → Prop) (s : WSt) (h : WI w0 E g F s w) (hs : s.2.length ≤ 2000000) (x : Tx) (hx : BytesAt w0 x.B x.l) :
    Calls Tryd.prog 43 #[.agg #[.pointer (some ⟨g, 0, none⟩)], .slice x.B x.l.length x.c] w fun e w' => e = .returned (.tuple #[]) ∧ WP w0 E g F (sTx x s) w w' := by
  obtain ⟨W1, hW1⟩ : ∃ W1, (w.alloc (.cells #[.pointer (some ⟨g, 0, none⟩)] 80)) = W1 := ⟨_, rfl⟩
  have g1 : w.grownBy W1 none := by rw [← hW1]; exact World.grownBy_alloc _ _ none
  have bw : Blk W1 w.heap.size 80 #[.pointer (some ⟨g, 0, none⟩)] := by rw [← hW1]; exact Blk.new w _ _
  have hi := h.opened g1
  have HCl := Lib.hid (fun (w2 : World) (s2 : WSt) (P : WP w0 E g (fun k => F k ∧ k < w.heap.size) s2 W1 w2) => WP.closed (F := F) h g1 P)
  have HB := Lib.hid (fun (V : World) (s' : WSt) (P : WP w0 E g (fun k => F k ∧ k < w.heap.size) s' W1 V) => (show V.cell? ⟨w.heap.size, 0, none⟩ = some (.pointer (some ⟨g, 0, none⟩)) from
    by
      have kw : Blk V w.heap.size 80 #[.pointer (some ⟨g, 0, none⟩)] := bw.kept P.fine (fun h => absurd h.2 (by omega))
      simpa using kw.cell 0))
  have HP0 := Lib.hid hi.same
  have HE := Lib.hid he
  have HS := Lib.hid hs
  have HW := Lib.hid hW1
  clear h hi bw g1 hW1 hs he
  go_enter Tryd.func43, Tryd.ntmps43
  go_upto_region 1 with (fail)
  rw [HW.out]
  have k0 := HB.out _ _ HP0.out
  go_wp2_with fail
  refine (bytes_st HE.out HP0.out.wi (Nat.le_trans HS.out (by omega)) x.B x.l.length x.c x.l rfl (bytes_low (HP0.out.wi.kept) hx) (fun ad e hne => hx.lt0 ad e hne) 16).mono ?_
  rintro e V1 ⟨rfl, q0⟩
  have HP1 := Lib.hid (HP0.out.trans q0)
  clear q0 k0
  go_wp2_with fail
  go_end0
  exact ⟨rfl, HCl.out _ _ HP1.out⟩

set_option maxRecDepth 100000 in
set_option maxHeartbeats 1000000 in
theorem turn_st (w : World) (F : Nat → Prop) (s : WSt) (h : WI w0 E g F s w) (hs : s.2.length ≤ 2000000) (ep r : Int) :
    Calls Tryd.prog 39 #[.agg #[.pointer (some ⟨g, 0, none⟩)], .int .i64 ep, .int .i64 r] w fun e w' => e = .returned (.tuple #[]) ∧ WP w0 E g F (sTurn ep r s) w w' := by
  obtain ⟨W1, hW1⟩ : ∃ W1, (w.alloc (.cells #[.pointer (some ⟨g, 0, none⟩)] 80)) = W1 := ⟨_, rfl⟩
  have g1 : w.grownBy W1 none := by rw [← hW1]; exact World.grownBy_alloc _ _ none
  have bw : Blk W1 w.heap.size 80 #[.pointer (some ⟨g, 0, none⟩)] := by rw [← hW1]; exact Blk.new w _ _
  have hi := h.opened g1
  have HCl := Lib.hid (fun (w2 : World) (s2 : WSt) (P : WP w0 E g (fun k => F k ∧ k < w.heap.size) s2 W1 w2) => WP.closed (F := F) h g1 P)
  have HB := Lib.hid (fun (V : World) (s' : WSt) (P : WP w0 E g (fun k => F k ∧ k < w.heap.size) s' W1 V) => (show V.cell? ⟨w.heap.size, 0, none⟩ = some (.pointer (some ⟨g, 0, none⟩)) from
    by
      have kw : Blk V w.heap.size 80 #[.pointer (some ⟨g, 0, none⟩)] := bw.kept P.fine (fun h => absurd h.2 (by omega))
      simpa using kw.cell 0))
  have HP0 := Lib.hid hi.same
  have HE := Lib.hid he
  have HS := Lib.hid hs
  have HW := Lib.hid hW1
  clear h hi bw g1 hW1 hs he
  go_enter Tryd.func39, Tryd.ntmps39
  go_upto_region 1 with (fail)
  rw [HW.out]
  have k0 := HB.out _ _ HP0.out
  go_wp2_with fail
  refine (number_st HE.out HP0.out.wi (Nat.le_trans HS.out (by omega)) ep 4).mono ?_
  rintro e V1 ⟨rfl, q0⟩
  have HP1 := Lib.hid (HP0.out.trans q0)
  clear q0 k0
  have HS1 := Lib.hid (show (sNum ep 4 s).2.length ≤ 2100000 from by have h1 := adds_num ep 4 s; have h2 := HS.out; have h3 : sNum ep 4 s = sNum ep ((4 : Nat) : Int) s := rfl; rw [h3]; omega)
  have k0 := HB.out _ _ HP1.out
  go_wp2_with fail
  refine (number_st HE.out HP1.out.wi (Nat.le_trans HS1.out (by omega)) r 6).mono ?_
  rintro e V2 ⟨rfl, q1⟩
  have HP2 := Lib.hid (HP1.out.trans q1)
  clear q1 k0
  go_wp2_with fail
  go_end0
  exact ⟨rfl, HCl.out _ _ HP2.out⟩

end
end Go.Proofs.YthjcgdcmbedhnaaDoor
