/-
  A late word that is written.
-/
import Derived.Test.YthjcgdcmbedhnaaDoorCdS
namespace Go.Proofs.YthjcgdcmbedhnaaDoor
open Go.RowKit

section
variable {w0 : World} {E : Nat → Addr} {g : Nat} (he : ErrAt w0 w0.heap.size 1 (E 0))
include he
set_option maxRecDepth 100000 in
set_option maxHeartbeats 1000000 in
theorem el_Lt (w : World) (F : Nat → Prop) (s : WSt) (h : WI w0 E g F s w) (hs : s.2.length ≤ 2000000) (x : Lt) (hx : DigRow w0 x.A1 x.n1 x.cs ∧ DigRow w0 x.A2 x.n2 x.ps) (cs : Array Value) (hcs : cs = x.cells.toList.toArray) :
    Calls Tryd.prog 80 #[.agg #[.pointer (some ⟨g, 0, none⟩)], .agg cs] w fun e w' => e = .returned (.tuple #[]) ∧ WP w0 E g F (sLt x s) w w' := by
  have hc0 : cs = #[.int .i64 x.who, .int .i64 x.high] ++ x.sig := by rw [hcs, Array.toArray_toList]; rfl
  obtain ⟨sg, hsg⟩ : ∃ sg, sg = x.sig := ⟨_, rfl⟩
  have hs3 : sg.size = 3 := by rw [hsg]; rfl
  rw [← hsg] at hc0
  have H3 := Lib.hid (And.intro hs3 hsg)
  obtain ⟨W1, hW1⟩ : ∃ W1, ((w.alloc (.cells #[.pointer (some ⟨g, 0, none⟩)] 80)).alloc (.cells cs 156)) = W1 := ⟨_, rfl⟩
  have g1 : w.grownBy W1 none := by rw [← hW1]; exact grown_trans (World.grownBy_alloc _ _ none) (World.grownBy_alloc _ _ none)
  have bw : Blk W1 w.heap.size 80 #[.pointer (some ⟨g, 0, none⟩)] := by rw [← hW1]; exact (Blk.new w _ _).alloc _
  have bx : Blk W1 (w.heap.size + 1) 156 cs := by
    have := Blk.new (w.alloc (.cells #[.pointer (some ⟨g, 0, none⟩)] 80)) 156 cs
    rw [← hW1]; simpa using this
  have hi := h.opened g1
  have HCl := Lib.hid (fun (w2 : World) (s2 : WSt) (P : WP w0 E g (fun k => F k ∧ k < w.heap.size) s2 W1 w2) => WP.closed (F := F) h g1 P)
  have HB := Lib.hid (fun (V : World) (s' : WSt) (P : WP w0 E g (fun k => F k ∧ k < w.heap.size) s' W1 V) => (show V.cell? ⟨w.heap.size, 0, none⟩ = some (.pointer (some ⟨g, 0, none⟩)) ∧ V.cell? ⟨w.heap.size + 1, 0, none⟩ = some (.int .i64 x.who) ∧ V.cell? ⟨w.heap.size + 1, 1, none⟩ = some (.int .i64 x.high) ∧ V.rangeAt (w.heap.size + 1) 2 sg.toList from
    by
      have kw : Blk V w.heap.size 80 #[.pointer (some ⟨g, 0, none⟩)] := bw.kept P.fine (fun h => absurd h.2 (by omega))
      have bx : Blk V (w.heap.size + 1) 156 cs := bx.kept P.fine (fun h => absurd h.2 (by omega))
      exact ⟨by simpa using kw.cell 0, by have r := range_blk0 bx; have := r 0 (.int .i64 x.who) (by rw [hc0]; simp); simpa using this, by have r := range_blk0 bx; have := r 1 (.int .i64 x.high) (by rw [hc0]; simp); simpa using this, by have r := range_blk0 bx; rw [hc0] at r; exact fun j v hv => by have := r (2 + j) v (by simp only [Array.toList_append]; rw [List.getElem?_append_right (by simp)]; simpa using hv); rwa [Nat.zero_add] at this⟩))
  have HP0 := Lib.hid hi.same
  have HE := Lib.hid he
  have HS := Lib.hid hs
  have HW := Lib.hid hW1
  clear h hi bw bx g1 hW1 hs he hcs hc0 hs3 hsg
  go_enter Tryd.func80, Tryd.ntmps80
  go_upto_region 1 with (fail)
  rw [HW.out]
  obtain ⟨k0, k1, k2, k3⟩ := HB.out _ _ HP0.out
  clear k2 k3
  go_wp2_with fail
  refine (number_st HE.out HP0.out.wi (Nat.le_trans HS.out (by omega)) x.who 1).mono ?_
  rintro e V1 ⟨rfl, q0⟩
  have HP1 := Lib.hid (HP0.out.trans q0)
  clear q0 k0 k1
  have HS1 := Lib.hid (show (sNum x.who 1 s).2.length ≤ 2050000 from by have h1 := adds_num x.who 1 s; have h2 := HS.out; have h3 : sNum x.who 1 s = sNum x.who ((1 : Nat) : Int) s := rfl; rw [h3]; omega)
  obtain ⟨k0, k1, k2, k3⟩ := HB.out _ _ HP1.out
  clear k1 k3
  go_wp2_with fail
  refine (number_st HE.out HP1.out.wi (Nat.le_trans HS1.out (by omega)) x.high 6).mono ?_
  rintro e V2 ⟨rfl, q1⟩
  have HP2 := Lib.hid (HP1.out.trans q1)
  clear q1 k0 k2
  have HS2 := Lib.hid (show (sNum x.high 6 (sNum x.who 1 s)).2.length ≤ 2100000 from by have h1 := adds_num x.high 6 (sNum x.who 1 s); have h2 := HS1.out; have h3 : sNum x.high 6 (sNum x.who 1 s) = sNum x.high ((6 : Nat) : Int) (sNum x.who 1 s) := rfl; rw [h3]; omega)
  obtain ⟨k0, k1, k2, k3⟩ := HB.out _ _ HP2.out
  clear k1 k2
  have HR := Lib.hid k3
  clear k3
  go_wp2_with (refine wpList_load_mid rfl 50 _ rfl (w.heap.size + 1) 2 rfl (sg.toList) _ HR.out Tryd.underlying50 rfl (by rw [Array.length_toList, H3.out.1]; exact sz_Sig) ?_; rw [Array.toArray_toList])
  refine (sig_st HE.out _ _ _ HP2.out.wi HS2.out x.lf x.A1 x.A2 x.n1 x.c1 x.n2 x.c2 x.cs x.ps hx.1 hx.2 sg H3.out.2).mono ?_
  rintro e V3 ⟨rfl, q2⟩
  have HP3 := Lib.hid (HP2.out.trans q2)
  clear q2 k0
  go_wp2_with fail
  go_end0
  exact ⟨rfl, HCl.out _ _ HP3.out⟩

end
theorem sz_Lt : (Tryd.prog.info? 156).map (·.size) = some 5 := by kernel_rfl
theorem cz_Lt {x : Lt} {P : Prop} (_ : P) : (x.cells.toList).toArray.size = 5 := by rw [Array.toArray_toList]; rfl
theorem c1_Lt (x : Lt) : ((x.cells.toList).toArray.all fun v => v.oneCell') = true := by rw [Array.toArray_toList]; simp [Lt.cells, Lt.sig, sigV, Value.oneCell']
def zv_Lt : Array Value := #[.int .i64 0, .int .i64 0, .int .i64 0, .slice none 0 0, .slice none 0 0]
theorem zz_Lt (w : World) : Sem.run Tryd.prog (zeroValue 156) w = .ok (.agg zv_Lt) w := zero_run3 w (by kernel_rfl)
end Go.Proofs.YthjcgdcmbedhnaaDoor
