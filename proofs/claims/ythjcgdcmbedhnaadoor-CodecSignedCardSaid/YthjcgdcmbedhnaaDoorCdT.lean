/-
  A TC that is written.
-/
import Derived.Test.YthjcgdcmbedhnaaDoorCdELt
import Derived.Test.YthjcgdcmbedhnaaDoorCdDv
namespace Go.Proofs.YthjcgdcmbedhnaaDoor
open Go.RowKit

section
variable {w0 : World} {E : Nat → Addr} {g : Nat} (he : ErrAt w0 w0.heap.size 1 (E 0))
include he
set_option maxRecDepth 100000 in
set_option maxHeartbeats 1000000 in
theorem tc_st (w : World) (F : Nat → Prop) (s : WSt) (h : WI w0 E g F s w) (hs : s.2.length ≤ 800000) (t : Tc) (ht : t.At w0) :
    Calls Tryd.prog 69 #[.agg #[.pointer (some ⟨g, 0, none⟩)], .agg t.val] w fun e w' => e = .returned (.tuple #[]) ∧ WP w0 E g F (sTc t s) w w' := by
  unfold Tc.val
  have HQ := Lib.hid ht
  obtain ⟨W1, hW1⟩ : ∃ W1, ((w.alloc (.cells #[.pointer (some ⟨g, 0, none⟩)] 80)).alloc (.cells #[.int .i64 t.e, .int .i64 t.r, .slice t.A t.L.length t.c] 57)) = W1 := ⟨_, rfl⟩
  have g1 : w.grownBy W1 none := by rw [← hW1]; exact grown_trans (World.grownBy_alloc _ _ none) (World.grownBy_alloc _ _ none)
  have bw : Blk W1 w.heap.size 80 #[.pointer (some ⟨g, 0, none⟩)] := by rw [← hW1]; exact (Blk.new w _ _).alloc _
  have bx : Blk W1 (w.heap.size + 1) 57 #[.int .i64 t.e, .int .i64 t.r, .slice t.A t.L.length t.c] := by
    have := Blk.new (w.alloc (.cells #[.pointer (some ⟨g, 0, none⟩)] 80)) 57 #[.int .i64 t.e, .int .i64 t.r, .slice t.A t.L.length t.c]
    rw [← hW1]; simpa using this
  have hi := h.opened g1
  have HCl := Lib.hid (fun (w2 : World) (s2 : WSt) (P : WP w0 E g (fun k => F k ∧ k < w.heap.size) s2 W1 w2) => WP.closed (F := F) h g1 P)
  have HB := Lib.hid (fun (V : World) (s' : WSt) (P : WP w0 E g (fun k => F k ∧ k < w.heap.size) s' W1 V) => (show V.cell? ⟨w.heap.size, 0, none⟩ = some (.pointer (some ⟨g, 0, none⟩)) ∧ V.cell? ⟨w.heap.size + 1, 0, none⟩ = some (.int .i64 t.e) ∧ V.cell? ⟨w.heap.size + 1, 1, none⟩ = some (.int .i64 t.r) ∧ V.cell? ⟨w.heap.size + 1, 2, none⟩ = some (.slice t.A t.L.length t.c) from
    by
      have kw : Blk V w.heap.size 80 #[.pointer (some ⟨g, 0, none⟩)] := bw.kept P.fine (fun h => absurd h.2 (by omega))
      have bx : Blk V (w.heap.size + 1) 57 #[.int .i64 t.e, .int .i64 t.r, .slice t.A t.L.length t.c] := bx.kept P.fine (fun h => absurd h.2 (by omega))
      exact ⟨by simpa using kw.cell 0, by have := bx.cell 0; simpa using this, by have := bx.cell 1; simpa using this, by have := bx.cell 2; simpa using this⟩))
  have HP0 := Lib.hid hi.same
  have HE := Lib.hid he
  have HS := Lib.hid hs
  have HW := Lib.hid hW1
  clear h hi bw bx g1 hW1 hs he ht
  go_enter Tryd.func69, Tryd.ntmps69
  go_upto_region 1 with (fail)
  rw [HW.out]
  obtain ⟨k0, k1, k2, k3⟩ := HB.out _ _ HP0.out
  clear k3
  go_wp2_with fail
  refine (turn_st HE.out _ _ _ HP0.out.wi (Nat.le_trans HS.out (by omega)) t.e t.r).mono ?_
  rintro e V1 ⟨rfl, q0⟩
  have HP1 := Lib.hid (HP0.out.trans q0)
  clear q0 k0 k1 k2
  have HS1 := Lib.hid (show (sTurn t.e t.r s).2.length ≤ 810000 from by have h1 := adds_turn t.e t.r s; have h2 := HS.out; omega)
  obtain ⟨k0, k1, k2, k3⟩ := HB.out _ _ HP1.out
  clear k1 k2
  go_wp2_with fail
  refine (put_Lt HE.out _ _ _ HP1.out.wi (Nat.le_trans HS1.out (by omega)) t.A t.L.length t.c t.L rfl HQ.out.1 HQ.out.2 (fun x hx => (adds_lt ⟨(HQ.out.2 x hx).1.sixteen, (HQ.out.2 x hx).2.sixteen⟩).mono (by omega)) 7).mono ?_
  rintro e V2 ⟨rfl, q1⟩
  have HP2 := Lib.hid (HP1.out.trans q1)
  clear q1 k0 k3
  go_wp2_with fail
  go_end0
  exact ⟨rfl, HCl.out _ _ HP2.out⟩

end
end Go.Proofs.YthjcgdcmbedhnaaDoor
