/-
  Several texts in one: CdSl, CdELt.
-/
import Derived.Test.YtebnebajedlhlaaDoorM9iz
import Derived.Deep.DeepCutAuto
import Derived.Test.YtebnebajedlhlaaDoorM9iy
import Derived.Test.YtebnebajedlhlaaDoorM9iw
/-
  A late word that is written.
-/

namespace Go.Proofs.YtebnebajedlhlaaDoor
open Go.RowKit

section
variable {w0 : World} {E : Nat → Addr} {g : Nat} (he : ErrAt w0 w0.heap.size 1 (E 0))
include he
set_option maxRecDepth 100000 in
set_option maxHeartbeats 1000000 in
theorem el_Lt (w : World) (F : Nat → Prop) (s : WSt) (h : WI w0 E g F s w) (hs : s.2.length ≤ 2000000) (x : Lt) (hx : DigRow w0 x.A1 x.n1 x.cs ∧ DigRow w0 x.A2 x.n2 x.ps) (cs : Array Value) (hcs : cs = x.cells.toList.toArray) :
    Calls Tryd.prog 65 #[.agg #[.pointer (some ⟨g, 0, none⟩)], .agg cs] w fun e w' => e = .returned (.tuple #[]) ∧ WP w0 E g F (sLt x s) w w' := by
  have hc0 : cs = #[.int .i64 x.who, .int .i64 x.high] ++ x.sig := by rw [hcs, Array.toArray_toList]; rfl
  obtain ⟨sg, hsg⟩ : ∃ sg, sg = x.sig := ⟨_, rfl⟩
  have hs3 : sg.size = 3 := by rw [hsg]; rfl
  rw [← hsg] at hc0
  have H3 := Lib.hid (And.intro hs3 hsg)
  obtain ⟨W1, hW1⟩ : ∃ W1, ((w.alloc (.cells #[.pointer (some ⟨g, 0, none⟩)] 71)).alloc (.cells cs 143)) = W1 := ⟨_, rfl⟩
  have g1 : w.grownBy W1 none := by rw [← hW1]; exact grown_trans (World.grownBy_alloc _ _ none) (World.grownBy_alloc _ _ none)
  have bw : Blk W1 w.heap.size 71 #[.pointer (some ⟨g, 0, none⟩)] := by rw [← hW1]; exact (Blk.new w _ _).alloc _
  have bx : Blk W1 (w.heap.size + 1) 143 cs := by
    have := Blk.new (w.alloc (.cells #[.pointer (some ⟨g, 0, none⟩)] 71)) 143 cs
    rw [← hW1]; simpa using this
  have hi := h.opened g1
  have HCl := Lib.hid (fun (w2 : World) (s2 : WSt) (P : WP w0 E g (fun k => F k ∧ k < w.heap.size) s2 W1 w2) => WP.closed (F := F) h g1 P)
  have HB := Lib.hid (fun (V : World) (s' : WSt) (P : WP w0 E g (fun k => F k ∧ k < w.heap.size) s' W1 V) => (show V.cell? ⟨w.heap.size, 0, none⟩ = some (.pointer (some ⟨g, 0, none⟩)) ∧ V.cell? ⟨w.heap.size + 1, 0, none⟩ = some (.int .i64 x.who) ∧ V.cell? ⟨w.heap.size + 1, 1, none⟩ = some (.int .i64 x.high) ∧ V.rangeAt (w.heap.size + 1) 2 sg.toList from
    by
      have kw : Blk V w.heap.size 71 #[.pointer (some ⟨g, 0, none⟩)] := bw.kept P.fine (fun h => absurd h.2 (by omega))
      have bx : Blk V (w.heap.size + 1) 143 cs := bx.kept P.fine (fun h => absurd h.2 (by omega))
      exact ⟨by simpa using kw.cell 0, by have r := range_blk0 bx; have := r 0 (.int .i64 x.who) (by rw [hc0]; simp); simpa using this, by have r := range_blk0 bx; have := r 1 (.int .i64 x.high) (by rw [hc0]; simp); simpa using this, by have r := range_blk0 bx; rw [hc0] at r; exact fun j v hv => by have := r (2 + j) v (by simp only [Array.toList_append]; rw [List.getElem?_append_right (by simp)]; simpa using hv); rwa [Nat.zero_add] at this⟩))
  have HP0 := Lib.hid hi.same
  have HE := Lib.hid he
  have HS := Lib.hid hs
  have HW := Lib.hid hW1
  clear h hi bw bx g1 hW1 hs he hcs hc0 hs3 hsg
  go_enter Tryd.func65, Tryd.ntmps65
  go_upto_region 1 with (fail)
  rw [HW.out]
  obtain ⟨k0, k1, k2, k3⟩ := HB.out _ _ HP0.out
  clear k2 k3
  go_wp2_with fail
  refine (number_st HE.out HP0.out.wi (Nat.le_trans HS.out (by omega)) x.who 1).mono ?_
  rintro e V1 ⟨rfl, q0⟩
  have HP1 := Lib.hid (HP0.out.trans q0)
  clear q0 k0 k1
  have HS1 := Lib.hid (show (sNum x.who 1 s).2.length ≤ 2050000 from by have h1 := adds_num x.who 1 s; have h2 := HS.out; have h3 : sNum x.who 1 s = sNum x.who ((1 : Nat) : Int) s := rfl; rw [h3]; omega)
  obtain ⟨k0, k1, k2, k3⟩ := HB.out _ _ HP1.out
  clear k1 k3
  go_wp2_with fail
  refine (number_st HE.out HP1.out.wi (Nat.le_trans HS1.out (by omega)) x.high 6).mono ?_
  rintro e V2 ⟨rfl, q1⟩
  have HP2 := Lib.hid (HP1.out.trans q1)
  clear q1 k0 k2
  have HS2 := Lib.hid (show (sNum x.high 6 (sNum x.who 1 s)).2.length ≤ 2100000 from by have h1 := adds_num x.high 6 (sNum x.who 1 s); have h2 := HS1.out; have h3 : sNum x.high 6 (sNum x.who 1 s) = sNum x.high ((6 : Nat) : Int) (sNum x.who 1 s) := rfl; rw [h3]; omega)
  obtain ⟨k0, k1, k2, k3⟩ := HB.out _ _ HP2.out
  clear k1 k2
  have HR := Lib.hid k3
  clear k3
  go_wp2_with (refine wpList_load_mid rfl 46 _ rfl (w.heap.size + 1) 2 rfl (sg.toList) _ HR.out Tryd.underlying46 rfl (by rw [Array.length_toList, H3.out.1]; exact sz_Sig) ?_; rw [Array.toArray_toList])
  refine (sig_st HE.out _ _ _ HP2.out.wi HS2.out x.lf x.A1 x.A2 x.n1 x.c1 x.n2 x.c2 x.cs x.ps hx.1 hx.2 sg H3.out.2).mono ?_
  rintro e V3 ⟨rfl, q2⟩
  have HP3 := Lib.hid (HP2.out.trans q2)
  clear q2 k0
  go_wp2_with fail
  go_end0
  exact ⟨rfl, HCl.out _ _ HP3.out⟩

end
theorem sz_Lt : (Tryd.prog.info? 143).map (·.size) = some 5 := by kernel_rfl
theorem cz_Lt {x : Lt} {P : Prop} (_ : P) : (x.cells.toList).toArray.size = 5 := by rw [Array.toArray_toList]; rfl
theorem c1_Lt (x : Lt) : ((x.cells.toList).toArray.all fun v => v.oneCell') = true := by rw [Array.toArray_toList]; simp [Lt.cells, Lt.sig, sigV, Value.oneCell']
def zv_Lt : Array Value := #[.int .i64 0, .int .i64 0, .int .i64 0, .slice none 0 0, .slice none 0 0]
theorem zz_Lt (w : World) : Sem.run Tryd.prog (zeroValue 143) w = .ok (.agg zv_Lt) w := zero_run3 w (by kernel_rfl)
end Go.Proofs.YtebnebajedlhlaaDoor
/-
  Lists that are written: of quorate/api.Late.
-/
namespace Go.Proofs.YtebnebajedlhlaaDoor
open Go.RowKit

theorem enter_Lt (args : Array Value) (w : World) : (callFunc 73 args).run Tryd.prog w = .ok (.enter 73 args) w := by kernel_rfl
section
variable {w0 : World} {E : Nat → Addr} {g : Nat} (he : ErrAt w0 w0.heap.size 1 (E 0))
include he
set_option maxRecDepth 100000 in
set_option maxHeartbeats 1000000 in
theorem pcl_Lt (w : World) (F : Nat → Prop) (s : WSt) (h : WI w0 E g F s w) (hs : s.2.length ≤ 2000000) (x : Lt) (hx : (DigRow w0 x.A1 x.n1 x.cs ∧ DigRow w0 x.A2 x.n2 x.ps)) (cs : Array Value) (hcs : cs = ((fun s : Lt => s.cells.toList) x).toArray) (b1 b2 : Nat)
    (h4 : w.cell? ⟨b1, 0, none⟩ = some (.func (.func 65) #[] #[])) (h5 : w.cell? ⟨b2, 0, none⟩ = some (.pointer (some ⟨g, 0, none⟩))) :
    Calls Tryd.prog 70 #[.pointer (some ⟨g, 0, none⟩), .agg cs, .pointer (some ⟨b1, 0, none⟩), .pointer (some ⟨b2, 0, none⟩)] w fun e w' => e = .returned (.tuple #[]) ∧ WP w0 E g F (sLt x s) w w' := by
  obtain ⟨W1, hW1⟩ : ∃ W1, w.alloc (.cells cs 143) = W1 := ⟨_, rfl⟩
  have g1 : w.grownBy W1 none := by rw [← hW1]; exact World.grownBy_alloc _ _ none
  have bx : Blk W1 w.heap.size 143 cs := by rw [← hW1]; exact Blk.new w _ _
  have c1 := g1.cell h4 (by simp)
  have c2 := g1.cell h5 (by simp)
  have hcz : cs.size = 5 := by rw [hcs]; exact cz_Lt hx
  have P1 := h.grown g1
  have H := Lib.hid (el_Lt he _ _ _ P1.wi hs x hx cs hcs)
  have HX := Lib.hid (And.intro hcz (range_blk0 bx))
  have HP := Lib.hid P1
  have HW := Lib.hid hW1
  clear h hx hs hcs P1 bx hcz g1 hW1 h4 h5
  go_enter Tryd.func70, Tryd.ntmps70
  go_upto_region 1 with (fail)
  rw [HW.out]
  go_wp2_with (refine wpList_load_mid rfl 143 _ rfl w.heap.size 0 rfl cs.toList _ HX.out.2 Tryd.underlying143 rfl (by rw [Array.length_toList, HX.out.1]; exact sz_Lt) ?_; rw [Array.toArray_toList])
  refine H.out.mono ?_
  rintro e w1 ⟨rfl, h1⟩
  have H1 := Lib.hid h1
  clear h1
  go_wp2_with fail
  go_end0
  exact ⟨rfl, HP.out.trans H1.out⟩

set_option maxRecDepth 100000 in
set_option maxHeartbeats 1000000 in
theorem ploop_Lt (w : World) (F : Nat → Prop) (s : WSt) (h : WI w0 E g F s w) (hs : s.2.length ≤ 1000000) (lb ob wb b1 b2 : Nat) (A : Option Addr) (n c : Nat) (L : List Lt) (hn : L.length = n) (hL : n ≤ 255) (hA : RowAt w0 A (fun s : Lt => s.cells.toList) 5 L) (hok : ∀ x ∈ L, (DigRow w0 x.A1 x.n1 x.cs ∧ DigRow w0 x.A2 x.n2 x.ps)) (had : ∀ x ∈ L, Adds 1200 (sLt x))
    (h1 : w.cell? ⟨lb, 0, none⟩ = some (.slice A n c)) (h2 : w.cell? ⟨ob, 0, none⟩ = some (.func (.func 70) #[] #[.pointer (some ⟨b1, 0, none⟩), .pointer (some ⟨b2, 0, none⟩)])) (h3 : w.cell? ⟨wb, 0, none⟩ = some (.pointer (some ⟨g, 0, none⟩)))
    (h4 : w.cell? ⟨b1, 0, none⟩ = some (.func (.func 65) #[] #[])) (h5 : w.cell? ⟨b2, 0, none⟩ = some (.pointer (some ⟨g, 0, none⟩)))
    (n2 : ¬ F ob) (n3 : ¬ F wb) (n4 : ¬ F b1) (n5 : ¬ F b2) :
    Calls Tryd.prog 73 #[.pointer (some ⟨lb, 0, none⟩), .pointer (some ⟨ob, 0, none⟩), .pointer (some ⟨wb, 0, none⟩)] w fun e w' => e = .returned (.tuple #[]) ∧ WP w0 E g F (sAll sLt L s) w w' := by
  have hzz := zz_Lt
  obtain ⟨ZZ, hZZ⟩ : ∃ Z, zv_Lt = Z := ⟨_, rfl⟩
  rw [hZZ] at hzz
  have HZZ := Lib.hid (show 5 = ZZ.size by rw [← hZZ]; rfl)
  clear hZZ
  have HH := Lib.hid (And.intro h (And.intro hs (And.intro hn (And.intro hA (And.intro hok had)))))
  have HC := Lib.hid (And.intro h2 (And.intro h3 (And.intro h4 h5)))
  have HN := Lib.hid (And.intro n2 (And.intro n3 (And.intro n4 n5)))
  have HE := Lib.hid he
  clear h hs hn hA hok had h2 h3 h4 h5 n2 n3 n4 n5 he
  go_enter Tryd.func73, Tryd.ntmps73
  go_wp2_with fail
  clear h1
  go_loopw [7] (fun i wr => ∃ k : Nat, k ≤ n ∧ i = .int .i64 (k : Int) ∧ WP w0 E g F (sAll sLt (L.take k) s) w wr) (fun i _ => n - (intOf i).toNat)
  case atStart => exact ⟨0, Nat.zero_le _, rfl, by simpa [sAll] using HH.out.1.same⟩
  case round =>
    obtain ⟨k, hk, hi, hP⟩ := hrel
    obtain ⟨I, hI⟩ : ∃ I : Int, I = (k : Int) := ⟨_, rfl⟩
    rw [← hI] at hi
    subst hi
    rename World => wr
    by_cases hlt : k < n
    · have hlt' : k < L.length := by have := HH.out.2.2.1; omega
      have hne : L ≠ [] := by rintro rfl; simp at hlt'
      obtain ⟨b, off, rfl, hc⟩ := HH.out.2.2.2.1 hne
      have d2 : decide (I < (n : Int)) = true := by simp; omega
      have hIV : I < (n : Int) := by omega
      have hI0 : 0 ≤ I ∧ I < 1000 := by omega
      have hkI : I.toNat = k := by omega
      have r1 := range_low hP.wi.kept (hc k hlt')
      obtain ⟨x, hxe⟩ : ∃ x, x = L[k] := ⟨_, rfl⟩
      have hxm : x ∈ L := by rw [hxe]; exact List.getElem_mem hlt'
      rw [← hxe] at r1
      rw [← hkI] at r1
      have c2 := hP.fine.cell HC.out.1 HN.out.1
      have c3 := hP.fine.cell HC.out.2.1 HN.out.2.1
      have c4 := hP.fine.cell HC.out.2.2.1 HN.out.2.2.1
      have c5 := hP.fine.cell HC.out.2.2.2 HN.out.2.2.2
      have hlen : (sAll sLt (L.take k) s).2.length ≤ 2000000 := by
        have h1 := adds_all (f := sLt) (c := 1200) (L.take k) (fun y hy => HH.out.2.2.2.2.2 y (List.mem_of_mem_take hy)) s
        have h2 := HH.out.2.1
        have h3 : (L.take k).length * 1200 ≤ 255 * 1200 := Nat.mul_le_mul_right 1200 (by rw [List.length_take]; omega)
        omega
      have htake : sAll sLt (L.take (k + 1)) s = sLt x (sAll sLt (L.take k) s) := by rw [List.take_succ_eq_append_getElem hlt', ← hxe, sAll_snoc]
      obtain ⟨cs, hcs⟩ : ∃ cs, cs = ((fun s : Lt => s.cells.toList) x).toArray := ⟨_, rfl⟩
      have hcz : cs.size = 5 := by rw [hcs]; exact cz_Lt (HH.out.2.2.2.2.1 x hxm)
      have hc1 : (cs.all fun v => v.oneCell') = true := by rw [hcs]; exact c1_Lt x
      have r2 : wr.rangeAt b (off + I.toNat * 5) cs.toList := by rw [hcs]; exact r1
      obtain ⟨W0, hW0⟩ : ∃ W0, W0 = (wr.alloc (.cells ZZ 143)).setRow wr.heap.size cs := ⟨_, rfl⟩
      have hG0 : wr.grownBy W0 none := by rw [hW0]; exact grown_row (World.grownBy_alloc wr _ none) (.inl (Nat.le_refl _)) cs
      have bS : Blk W0 wr.heap.size 143 cs := by rw [hW0]; exact (Blk.new wr 143 ZZ).row cs
      have e2 := hG0.cell c2 (by simp)
      have e3 := hG0.cell c3 (by simp)
      have P0 := hP.wi.grown hG0
      have HS := Lib.hid (pcl_Lt HE.out W0 _ _ P0.wi hlen x (HH.out.2.2.2.2.1 x hxm) cs hcs b1 b2 (hG0.cell c4 (by simp)) (hG0.cell c5 (by simp)))
      have HP := Lib.hid (And.intro (And.intro hP P0) (And.intro htake (And.intro hI hlt')))
      have HX := Lib.hid (And.intro hcz (And.intro hc1 (And.intro r2 (range_blk0 bS))))
      have HW := Lib.hid hW0
      clear hP P0 hcz hc1 r1 r2 hW0 hG0 bS hcs c2 c3 c4 c5 hxm hxe htake hlen hc hne hkI hI hlt'
      go_wp2_with (first
        | (refine wpList_load_mid rfl 143 _ rfl b (off + I.toNat * 5) rfl cs.toList _ HX.out.2.2.1 Tryd.underlying143 rfl (by rw [Array.length_toList, HX.out.1]; exact sz_Lt) ?_; rw [Array.toArray_toList])
        | (refine wpList_store_row rfl 143 _ _ rfl wr.heap.size cs rfl rfl 143 _ (heap_alloc_new wr _) (by rw [HX.out.1]; exact sz_Lt) (by rw [HX.out.1]; first | exact HZZ.out | exact HZZ.out.symm) HX.out.2.1 ?_
           rw [← HW.out])
        | (refine wpList_load_mid rfl 143 _ rfl wr.heap.size 0 rfl cs.toList _ HX.out.2.2.2 Tryd.underlying143 rfl (by rw [Array.length_toList, HX.out.1]; exact sz_Lt) ?_; rw [Array.toArray_toList]))
      refine HS.out.mono ?_
      rintro e3 W3 ⟨rfl, h3⟩
      have H3 := Lib.hid h3
      clear h3
      go_wp2_with fail
      go_roundw
      case rel => exact ⟨k + 1, by omega, by rw [HP.out.2.2.1]; rfl, by rw [HP.out.2.1]; exact HP.out.1.1.trans (HP.out.1.2.trans H3.out)⟩
      case measure => have := HP.out.2.2.1; simp [intOf]; omega
    · have d2 : decide (I < (n : Int)) = false := by simp; omega
      have hf : L.take k = L := List.take_of_length_le (by have := HH.out.2.2.1; omega)
      rw [hf] at hP
      have HP := Lib.hid hP
      clear hP hf hlt hI hk
      go_wp2_with fail
      go_end0
      exact ⟨rfl, HP.out⟩

/-- wire.Put. -/
theorem wput_Lt (w : World) (F : Nat → Prop) (s : WSt) (h : WI w0 E g F s w) (hs : s.2.length ≤ 900000) (b1 b2 : Nat) (A : Option Addr) (n c : Nat) (L : List Lt) (hn : L.length = n) (hA : RowAt w0 A (fun s : Lt => s.cells.toList) 5 L) (hok : ∀ x ∈ L, (DigRow w0 x.A1 x.n1 x.cs ∧ DigRow w0 x.A2 x.n2 x.ps)) (had : ∀ x ∈ L, Adds 1200 (sLt x)) (most : Int)
    (h4 : w.cell? ⟨b1, 0, none⟩ = some (.func (.func 65) #[] #[])) (h5 : w.cell? ⟨b2, 0, none⟩ = some (.pointer (some ⟨g, 0, none⟩))) (n4 : ¬ F b1) (n5 : ¬ F b2) :
    Calls Tryd.prog 69 #[.pointer (some ⟨g, 0, none⟩), .slice A n c, .int .i64 most, .func (.func 70) #[] #[.pointer (some ⟨b1, 0, none⟩), .pointer (some ⟨b2, 0, none⟩)]] w fun e w' => e = .returned (.tuple #[]) ∧ WP w0 E g F (sPut n most (sAll sLt L) s) w w' := by
  have hmf : ∀ (fn : Fn) (first cap : Array Value) (w : World), (Instr.makeFunc fn first cap).run Tryd.prog w = .ok (.func fn first cap) w := fun _ _ _ _ => rfl
  obtain ⟨W1, hW1⟩ : ∃ W1, ((w.alloc (.cells #[.pointer (some ⟨g, 0, none⟩)] 69)).alloc (.cells #[.slice A n c] 51)).alloc (.cells #[.func (.func 70) #[] #[.pointer (some ⟨b1, 0, none⟩), .pointer (some ⟨b2, 0, none⟩)]] 149) = W1 := ⟨_, rfl⟩
  have z1 : W1.heap.size = w.heap.size + 3 := by rw [← hW1]; simp
  have g1 : w.grownBy W1 none := by rw [← hW1]; exact grown_trans (grown_trans (World.grownBy_alloc _ _ none) (World.grownBy_alloc _ _ none)) (World.grownBy_alloc _ _ none)
  have d1 : W1.cell? ⟨w.heap.size, 0, none⟩ = some (.pointer (some ⟨g, 0, none⟩)) := by rw [← hW1]; exact (((Blk.new w 69 #[.pointer (some ⟨g, 0, none⟩)]).alloc _).alloc _).cell 0
  have d2 : W1.cell? ⟨w.heap.size + 1, 0, none⟩ = some (.slice A n c) := by
    have h := ((Blk.new (w.alloc (.cells #[.pointer (some ⟨g, 0, none⟩)] 69)) 51 #[.slice A n c]).alloc (.cells #[.func (.func 70) #[] #[.pointer (some ⟨b1, 0, none⟩), .pointer (some ⟨b2, 0, none⟩)]] 149)).cell 0
    rw [← hW1]; simpa using h
  have d3 : W1.cell? ⟨w.heap.size + 1 + 1, 0, none⟩ = some (.func (.func 70) #[] #[.pointer (some ⟨b1, 0, none⟩), .pointer (some ⟨b2, 0, none⟩)]) := by
    have h := (Blk.new ((w.alloc (.cells #[.pointer (some ⟨g, 0, none⟩)] 69)).alloc (.cells #[.slice A n c] 51)) 149 #[.func (.func 70) #[] #[.pointer (some ⟨b1, 0, none⟩), .pointer (some ⟨b2, 0, none⟩)]]).cell 0
    rw [← hW1]; simpa using h
  have hi := h.opened g1
  have d4 := g1.cell h4 (by simp)
  have d5 := g1.cell h5 (by simp)
  have hr := (hi.err he (Nat.le_refl _)).1
  obtain ⟨F0, hF0⟩ : ∃ F0 : Nat → Prop, F0 = fun k => F k ∧ k < w.heap.size := ⟨_, rfl⟩
  rw [← hF0] at hi
  have m1 : ¬ F0 w.heap.size := by rw [hF0]; intro h; exact absurd h.2 (by omega)
  have m2 : ¬ F0 (w.heap.size + 1) := by rw [hF0]; intro h; exact absurd h.2 (by omega)
  have m3 : ¬ F0 (w.heap.size + 1 + 1) := by rw [hF0]; intro h; exact absurd h.2 (by omega)
  have m4 : ¬ F0 b1 := by rw [hF0]; intro h; exact n4 h.1
  have m5 : ¬ F0 b2 := by rw [hF0]; intro h; exact n5 h.1
  have hlt : ∀ (a : Addr) (v : Value), W1.cell? a = some v → a.block < W1.heap.size := fun _ _ h => World.block_lt_of_cell? W1 _ h
  have HCl := Lib.hid (fun w2 s2 (P : WP w0 E g F0 s2 W1 w2) => WP.closed (F := F) h g1 (hF0 ▸ P))
  have HI := Lib.hid (And.intro hi (And.intro he (And.intro hs (And.intro hn (And.intro hA (And.intro hok had))))))
  have HD := Lib.hid (And.intro d3 (And.intro d4 (And.intro d5 (And.intro True.intro (And.intro m1 (And.intro m2 (And.intro m3 (And.intro m4 m5))))))))
  have HW := Lib.hid hW1
  have HZ := Lib.hid z1
  have HL := Lib.hid hlt
  by_cases hlong : most < (n : Int) ∨ 255 < n
  · have hsp : sPut n most (sAll sLt L) s = sFail 1 s := by rw [sPut, if_pos hlong]
    rw [hsp]
    clear h hs hn hA hok had h4 h5 n4 n5 he hi d3 d4 d5 m1 m2 m3 m4 m5 hF0 hW1 z1 g1 hsp hlt
    rcases long_cases0 hlong with a1 | ⟨a1, a2⟩
    all_goals
      clear hlong
      go_enter Tryd.func69, Tryd.ntmps69
      go_upto_region 1 with (fail)
      rw [HW.out]
      go_wp2_with fail
      go_region_with (go_at_call 52; refine (fail_st HI.out.1.drew 0).mono ?_; rintro e w1 ⟨rfl, q⟩; replace q := Lib.hid q)
      all_goals
        go_wp2
        first | go_end0 | refine bodyPost_ret (results_none rfl _ _ _) rfl ?_
        refine ⟨rfl, HCl.out _ _ ?_⟩
        exact drew_first HI.out.1 q.out
  · have hsp : sPut n most (sAll sLt L) s = sAll sLt L (sNum (n : Int) 1 s) := by rw [sPut, if_neg hlong]
    rw [hsp]
    have a1 : decide (most < (n : Int)) = false := by simp; omega
    have a2 : decide ((255 : Int) < (n : Int)) = false := by simp; omega
    have hn255 : n ≤ 255 := by omega
    clear h hs hn hA hok had h4 h5 n4 n5 he hi d3 d4 d5 m1 m2 m3 m4 m5 hF0 hW1 z1 g1 hsp hlt hr hlong
    go_enter Tryd.func69, Tryd.ntmps69
    go_upto_region 1 with (fail)
    rw [HW.out]
    go_wp2_with fail
    obtain ⟨hi, he, hs, hn, hA, hok, had⟩ := HI.out
    obtain ⟨d3, d4, d5, _, m1, m2, m3, m4, m5⟩ := HD.out
    refine (number_st he hi (by omega) (n : Int) 1).mono ?_
    rintro e w2 ⟨rfl, P2⟩
    have e1 := P2.fine.cell d1 m1
    have e2 := P2.fine.cell d2 m2
    have e3 := P2.fine.cell d3 m3
    have e4 := P2.fine.cell d4 m4
    have e5 := P2.fine.cell d5 m5
    have nn : ∀ j, ¬ F0 j → j < W1.heap.size → ¬ upTo F0 W1.heap.size w2.heap.size j := fun j hj hl hu => by
      rcases hu with hu | hu
      · exact hj hu
      · omega
    have hle : (sNum (n : Int) 1 s).2.length ≤ 1000000 := by
      have := adds_num (n : Int) 1 s
      have h4 : sNum (n : Int) 1 s = sNum (n : Int) ((1 : Nat) : Int) s := rfl
      rw [h4]; omega
    have PA := P2.alloc (.cells #[.pointer (some ⟨g, 0, none⟩)] 140)
    have ga : w2.grownBy (w2.alloc (.cells #[.pointer (some ⟨g, 0, none⟩)] 140)) none := World.grownBy_alloc _ _ none
    have q2 := P2.wi.grown ga
    have HQ := Lib.hid (ploop_Lt he (w2.alloc (.cells #[.pointer (some ⟨g, 0, none⟩)] 140)) _ _ q2.wi hle (w.heap.size + 1) (w.heap.size + 1 + 1) w.heap.size b1 b2 A n c L hn hn255 hA hok had (ga.cell e2 (by simp)) (ga.cell e3 (by simp)) (ga.cell e1 (by simp)) (ga.cell e4 (by simp)) (ga.cell e5 (by simp))
      (nn_alloc (nn _ m3 (HL.out _ _ d3)) (HL.out _ _ d3) P2.fine.size) (nn_alloc (nn _ m1 (HL.out _ _ d1)) (HL.out _ _ d1) P2.fine.size) (nn_alloc (nn _ m4 (HL.out _ _ d4)) (HL.out _ _ d4) P2.fine.size) (nn_alloc (nn _ m5 (HL.out _ _ d5)) (HL.out _ _ d5) P2.fine.size))
    have HP := Lib.hid (And.intro P2 q2)
    have e1' := e1
    clear hi he hs hn hA hok had d3 d4 d5 m1 m2 m3 m4 m5 P2 PA e2 e3 e4 e5 nn hle q2 ga d2 d1
    go_wp2_with fail
    refine (attempt_ok0 ⟨g, 0, none⟩ 73 _ w2 _ enter_Lt HQ.out).mono ?_
    rintro e w4 ⟨rfl, h4⟩
    have H4 := Lib.hid h4
    clear h4
    go_wp2_with fail
    go_end0
    exact ⟨rfl, HCl.out _ _ (HP.out.1.trans (HP.out.2.trans H4.out))⟩

/-- codec.put. -/
theorem put_Lt (w : World) (F : Nat → Prop) (s : WSt) (h : WI w0 E g F s w) (hs : s.2.length ≤ 900000) (A : Option Addr) (n c : Nat) (L : List Lt) (hn : L.length = n) (hA : RowAt w0 A (fun s : Lt => s.cells.toList) 5 L) (hok : ∀ x ∈ L, (DigRow w0 x.A1 x.n1 x.cs ∧ DigRow w0 x.A2 x.n2 x.ps)) (had : ∀ x ∈ L, Adds 1200 (sLt x)) (most : Int) :
    Calls Tryd.prog 64 #[.agg #[.pointer (some ⟨g, 0, none⟩)], .slice A n c, .int .i64 most, .func (.func 65) #[] #[]] w fun e w' => e = .returned (.tuple #[]) ∧ WP w0 E g F (sPut n most (sAll sLt L) s) w w' := by
  have hmf : ∀ (fn : Fn) (first cap : Array Value) (w : World), (Instr.makeFunc fn first cap).run Tryd.prog w = .ok (.func fn first cap) w := fun _ _ _ _ => rfl
  obtain ⟨W1, hW1⟩ : ∃ W1, (w.alloc (.cells #[.pointer (some ⟨g, 0, none⟩)] 71)).alloc (.cells #[.func (.func 65) #[] #[]] 144) = W1 := ⟨_, rfl⟩
  have g1 : w.grownBy W1 none := by rw [← hW1]; exact grown_trans (World.grownBy_alloc _ _ none) (World.grownBy_alloc _ _ none)
  have d1 : W1.cell? ⟨w.heap.size, 0, none⟩ = some (.pointer (some ⟨g, 0, none⟩)) := by rw [← hW1]; exact ((Blk.new w 71 #[.pointer (some ⟨g, 0, none⟩)]).alloc _).cell 0
  have d2 : W1.cell? ⟨w.heap.size + 1, 0, none⟩ = some (.func (.func 65) #[] #[]) := by
    have h := (Blk.new (w.alloc (.cells #[.pointer (some ⟨g, 0, none⟩)] 71)) 144 #[.func (.func 65) #[] #[]]).cell 0
    rw [World.size_alloc, hW1] at h
    exact h
  have hi := h.opened g1
  have HQ := Lib.hid (wput_Lt he W1 _ s hi hs (w.heap.size + 1) w.heap.size A n c L hn hA hok had most d2 d1 (fun h => absurd h.2 (by omega)) (fun h => absurd h.2 (by omega)))
  have HCl := Lib.hid (fun w2 s2 (P : WP w0 E g (fun k => F k ∧ k < w.heap.size) s2 W1 w2) => WP.closed (F := F) h g1 P)
  have HW := Lib.hid hW1
  clear h hs hn hA hok had he hi hW1 g1 d2
  go_enter Tryd.func64, Tryd.ntmps64
  go_upto_region 1 with (fail)
  rw [HW.out]
  go_wp2_with fail
  refine HQ.out.mono ?_
  rintro e w4 ⟨rfl, h4⟩
  have H4 := Lib.hid h4
  clear h4
  go_wp2_with fail
  go_end0
  exact ⟨rfl, HCl.out _ _ H4.out⟩
end
end Go.Proofs.YtebnebajedlhlaaDoor
