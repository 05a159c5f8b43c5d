/-
  Several texts in one: CdDv, CdETx, CdEVd, CdB.
-/
import Derived.Deep.DeepCutAuto
import Derived.Test.YtmoebkdbnldbdaaGreatDoorM20pk
import Derived.Test.YtmoebkdbnldbdaaGreatDoorM20pl
/-
  A validator, a transaction, a turn that is written.
-/
namespace Go.Proofs.YtmoebkdbnldbdaaGreatDoor
open Go.RowKit

theorem range_seg {w : World} {g o : Nat} {a b c : List Value} (h : w.rangeAt g o (a ++ (b ++ c))) : w.rangeAt g (o + a.length) b := fun j v hv => by
  have hj := (List.getElem?_eq_some_iff.1 hv).1
  have := h (a.length + j) v (by rw [List.getElem?_append_right (by omega), Nat.add_sub_cancel_left, List.getElem?_append_left hj]; exact hv)
  rwa [← Nat.add_assoc] at this
theorem BytesAt.lt0 {w : World} {A : Option Addr} {l : List UInt8} (h : BytesAt w A l) : ∀ ad, A = some ad → l ≠ [] → ad.block < w.heap.size := by
  intro ad e hne
  obtain ⟨ad', e', hc⟩ := h hne
  rw [e] at e'
  injection e' with e'
  subst e'
  have := World.block_lt_of_cell? w _ (hc 0 (List.length_pos_iff.2 hne))
  rwa [block_add] at this
theorem bytes_low {w0 w : World} {A : Option Addr} {l : List UInt8} (k : Kept (newF w0) w0 w) (h : BytesAt w0 A l) : BytesAt w A l := h.kept' k fun ad e hne hf => absurd (h.lt0 ad e hne) (by simpa using hf)
section
variable {w0 : World} {E : Nat → Addr} {g : Nat} (he : ErrAt w0 w0.heap.size 1 (E 0))
include he
set_option maxRecDepth 100000 in
set_option maxHeartbeats 1000000 in
theorem el_Vd (w : World) (F : Nat → Prop) (s : WSt) (h : WI w0 E g F s w) (hs : s.2.length ≤ 2000000) (x : Vd) (hx : isDig x.key) (cs : Array Value) (hcs : cs = x.cells.toArray) :
    Calls Tryz.prog 66 #[.agg #[.pointer (some ⟨g, 0, none⟩)], .agg cs] w fun e w' => e = .returned (.tuple #[]) ∧ WP w0 E g F (sVd x s) w w' := by
  have hc0 : cs = x.cells.toArray := hcs
  obtain ⟨kd, hkd⟩ : ∃ kd, kd = arrV .u8 x.key := ⟨_, rfl⟩
  have hks : kd.size = 16 := by rw [hkd, arr_size, hx.1]
  have hcl : cs.toList = [] ++ (kd.toList ++ [.int .i64 x.p]) := by rw [hcs, hkd]; simp [Vd.cells, arrV]
  have H3 := Lib.hid (And.intro hks hkd)
  obtain ⟨W1, hW1⟩ : ∃ W1, ((w.alloc (.cells #[.pointer (some ⟨g, 0, none⟩)] 118)).alloc (.cells cs 41)) = W1 := ⟨_, rfl⟩
  have g1 : w.grownBy W1 none := by rw [← hW1]; exact grown_trans (World.grownBy_alloc _ _ none) (World.grownBy_alloc _ _ none)
  have bw : Blk W1 w.heap.size 118 #[.pointer (some ⟨g, 0, none⟩)] := by rw [← hW1]; exact (Blk.new w _ _).alloc _
  have bx : Blk W1 (w.heap.size + 1) 41 cs := by
    have := Blk.new (w.alloc (.cells #[.pointer (some ⟨g, 0, none⟩)] 118)) 41 cs
    rw [← hW1]; simpa using this
  have hi := h.opened g1
  have HCl := Lib.hid (fun (w2 : World) (s2 : WSt) (P : WP w0 E g (fun k => F k ∧ k < w.heap.size) s2 W1 w2) => WP.closed (F := F) h g1 P)
  have HB := Lib.hid (fun (V : World) (s' : WSt) (P : WP w0 E g (fun k => F k ∧ k < w.heap.size) s' W1 V) => (show V.cell? ⟨w.heap.size, 0, none⟩ = some (.pointer (some ⟨g, 0, none⟩)) ∧ V.rangeAt (w.heap.size + 1) 0 kd.toList ∧ V.cell? ⟨w.heap.size + 1, 16, none⟩ = some (.int .i64 x.p) from
    by
      have kw : Blk V w.heap.size 118 #[.pointer (some ⟨g, 0, none⟩)] := bw.kept P.fine (fun h => absurd h.2 (by omega))
      have bx : Blk V (w.heap.size + 1) 41 cs := bx.kept P.fine (fun h => absurd h.2 (by omega))
      exact ⟨by simpa using kw.cell 0, by have r := range_blk0 bx; rw [hcl] at r; have := range_seg r; simpa using this, by have r := range_blk0 bx; have := r 16 (.int .i64 x.p) (by rw [hcl, List.nil_append, List.getElem?_append_right (by rw [Array.length_toList, hks]; exact Nat.le_refl _), Array.length_toList, hks]; rfl); simpa using this⟩))
  have HP0 := Lib.hid hi.same
  have HE := Lib.hid he
  have HS := Lib.hid hs
  have HW := Lib.hid hW1
  clear h hi bw bx g1 hW1 hs he hcs hc0 hks hkd hcl
  go_enter Tryz.func66, Tryz.ntmps66
  go_upto_region 1 with (fail)
  rw [HW.out]
  obtain ⟨k0, k1, k2⟩ := HB.out _ _ HP0.out
  clear k2
  have HR := Lib.hid k1
  clear k1
  go_wp2_with (refine wpList_load_mid rfl 24 _ rfl (w.heap.size + 1) 0 rfl (kd.toList) _ HR.out Tryz.underlying24 rfl (by rw [Array.length_toList, H3.out.1]; exact sz_Dg) ?_; rw [Array.toArray_toList])
  refine (digest_st HP0.out.wi (Nat.le_trans HS.out (by omega)) x.key hx kd H3.out.2).mono ?_
  rintro e V1 ⟨rfl, q0⟩
  have HP1 := Lib.hid (HP0.out.trans q0)
  clear q0 k0
  have HS1 := Lib.hid (show (sDig x.key s).2.length ≤ 2100000 from by have h1 := adds_dig hx.1 s; have h2 := HS.out; omega)
  obtain ⟨k0, k1, k2⟩ := HB.out _ _ HP1.out
  clear k1
  go_wp2_with fail
  refine (number_st HE.out HP1.out.wi (Nat.le_trans HS1.out (by omega)) x.p 6).mono ?_
  rintro e V2 ⟨rfl, q1⟩
  have HP2 := Lib.hid (HP1.out.trans q1)
  clear q1 k0 k2
  go_wp2_with fail
  go_end0
  exact ⟨rfl, HCl.out _ _ HP2.out⟩

set_option maxRecDepth 100000 in
set_option maxHeartbeats 1000000 in
theorem el_Tx (w : World) (F : Nat → Prop) (s : WSt) (h : WI w0 E g F s w) (hs : s.2.length ≤ 2000000) (x : Tx) (hx : BytesAt w0 x.B x.l) :
    Calls Tryz.prog 64 #[.agg #[.pointer (some ⟨g, 0, none⟩)], .slice x.B x.l.length x.c] w fun e w' => e = .returned (.tuple #[]) ∧ WP w0 E g F (sTx x s) w w' := by
  obtain ⟨W1, hW1⟩ : ∃ W1, (w.alloc (.cells #[.pointer (some ⟨g, 0, none⟩)] 118)) = W1 := ⟨_, rfl⟩
  have g1 : w.grownBy W1 none := by rw [← hW1]; exact World.grownBy_alloc _ _ none
  have bw : Blk W1 w.heap.size 118 #[.pointer (some ⟨g, 0, none⟩)] := by rw [← hW1]; exact Blk.new w _ _
  have hi := h.opened g1
  have HCl := Lib.hid (fun (w2 : World) (s2 : WSt) (P : WP w0 E g (fun k => F k ∧ k < w.heap.size) s2 W1 w2) => WP.closed (F := F) h g1 P)
  have HB := Lib.hid (fun (V : World) (s' : WSt) (P : WP w0 E g (fun k => F k ∧ k < w.heap.size) s' W1 V) => (show V.cell? ⟨w.heap.size, 0, none⟩ = some (.pointer (some ⟨g, 0, none⟩)) from
    by
      have kw : Blk V w.heap.size 118 #[.pointer (some ⟨g, 0, none⟩)] := bw.kept P.fine (fun h => absurd h.2 (by omega))
      simpa using kw.cell 0))
  have HP0 := Lib.hid hi.same
  have HE := Lib.hid he
  have HS := Lib.hid hs
  have HW := Lib.hid hW1
  clear h hi bw g1 hW1 hs he
  go_enter Tryz.func64, Tryz.ntmps64
  go_upto_region 1 with (fail)
  rw [HW.out]
  have k0 := HB.out _ _ HP0.out
  go_wp2_with fail
  refine (bytes_st HE.out HP0.out.wi (Nat.le_trans HS.out (by omega)) x.B x.l.length x.c x.l rfl (bytes_low (HP0.out.wi.kept) hx) (fun ad e hne => hx.lt0 ad e hne) 16).mono ?_
  rintro e V1 ⟨rfl, q0⟩
  have HP1 := Lib.hid (HP0.out.trans q0)
  clear q0 k0
  go_wp2_with fail
  go_end0
  exact ⟨rfl, HCl.out _ _ HP1.out⟩

set_option maxRecDepth 100000 in
set_option maxHeartbeats 1000000 in
theorem turn_st (w : World) (F : Nat → Prop) (s : WSt) (h : WI w0 E g F s w) (hs : s.2.length ≤ 2000000) (ep r : Int) :
    Calls Tryz.prog 60 #[.agg #[.pointer (some ⟨g, 0, none⟩)], .int .i64 ep, .int .i64 r] w fun e w' => e = .returned (.tuple #[]) ∧ WP w0 E g F (sTurn ep r s) w w' := by
  obtain ⟨W1, hW1⟩ : ∃ W1, (w.alloc (.cells #[.pointer (some ⟨g, 0, none⟩)] 118)) = W1 := ⟨_, rfl⟩
  have g1 : w.grownBy W1 none := by rw [← hW1]; exact World.grownBy_alloc _ _ none
  have bw : Blk W1 w.heap.size 118 #[.pointer (some ⟨g, 0, none⟩)] := by rw [← hW1]; exact Blk.new w _ _
  have hi := h.opened g1
  have HCl := Lib.hid (fun (w2 : World) (s2 : WSt) (P : WP w0 E g (fun k => F k ∧ k < w.heap.size) s2 W1 w2) => WP.closed (F := F) h g1 P)
  have HB := Lib.hid (fun (V : World) (s' : WSt) (P : WP w0 E g (fun k => F k ∧ k < w.heap.size) s' W1 V) => (show V.cell? ⟨w.heap.size, 0, none⟩ = some (.pointer (some ⟨g, 0, none⟩)) from
    by
      have kw : Blk V w.heap.size 118 #[.pointer (some ⟨g, 0, none⟩)] := bw.kept P.fine (fun h => absurd h.2 (by omega))
      simpa using kw.cell 0))
  have HP0 := Lib.hid hi.same
  have HE := Lib.hid he
  have HS := Lib.hid hs
  have HW := Lib.hid hW1
  clear h hi bw g1 hW1 hs he
  go_enter Tryz.func60, Tryz.ntmps60
  go_upto_region 1 with (fail)
  rw [HW.out]
  have k0 := HB.out _ _ HP0.out
  go_wp2_with fail
  refine (number_st HE.out HP0.out.wi (Nat.le_trans HS.out (by omega)) ep 4).mono ?_
  rintro e V1 ⟨rfl, q0⟩
  have HP1 := Lib.hid (HP0.out.trans q0)
  clear q0 k0
  have HS1 := Lib.hid (show (sNum ep 4 s).2.length ≤ 2100000 from by have h1 := adds_num ep 4 s; have h2 := HS.out; have h3 : sNum ep 4 s = sNum ep ((4 : Nat) : Int) s := rfl; rw [h3]; omega)
  have k0 := HB.out _ _ HP1.out
  go_wp2_with fail
  refine (number_st HE.out HP1.out.wi (Nat.le_trans HS1.out (by omega)) r 6).mono ?_
  rintro e V2 ⟨rfl, q1⟩
  have HP2 := Lib.hid (HP1.out.trans q1)
  clear q1 k0
  go_wp2_with fail
  go_end0
  exact ⟨rfl, HCl.out _ _ HP2.out⟩

end
end Go.Proofs.YtmoebkdbnldbdaaGreatDoor
/-
  Lists that are written: of []byte.
-/
namespace Go.Proofs.YtmoebkdbnldbdaaGreatDoor
open Go.RowKit

theorem enter_Tx (args : Array Value) (w : World) : (callFunc 97 args).run Tryz.prog w = .ok (.enter 97 args) w := by kernel_rfl
section
variable {w0 : World} {E : Nat → Addr} {g : Nat} (he : ErrAt w0 w0.heap.size 1 (E 0))
include he
set_option maxRecDepth 100000 in
set_option maxHeartbeats 1000000 in
theorem pcl_Tx (w : World) (F : Nat → Prop) (s : WSt) (h : WI w0 E g F s w) (hs : s.2.length ≤ 2000000) (x : Tx) (hx : BytesAt w0 x.B x.l) (b1 b2 : Nat)
    (h4 : w.cell? ⟨b1, 0, none⟩ = some (.func (.func 64) #[] #[])) (h5 : w.cell? ⟨b2, 0, none⟩ = some (.pointer (some ⟨g, 0, none⟩))) :
    Calls Tryz.prog 81 #[.pointer (some ⟨g, 0, none⟩), .slice x.B x.l.length x.c, .pointer (some ⟨b1, 0, none⟩), .pointer (some ⟨b2, 0, none⟩)] w fun e w' => e = .returned (.tuple #[]) ∧ WP w0 E g F (sTx x s) w w' := by
  have H := Lib.hid (el_Tx he _ _ _ h hs x hx)
  clear h hx hs
  go_enter Tryz.func81, Tryz.ntmps81
  go_wp2_with fail
  refine H.out.mono ?_
  rintro e w1 ⟨rfl, h1⟩
  have H1 := Lib.hid h1
  clear h1
  go_wp2_with fail
  go_end0
  exact ⟨rfl, H1.out⟩

set_option maxRecDepth 100000 in
set_option maxHeartbeats 1000000 in
theorem ploop_Tx (w : World) (F : Nat → Prop) (s : WSt) (h : WI w0 E g F s w) (hs : s.2.length ≤ 1000000) (lb ob wb b1 b2 : Nat) (A : Option Addr) (n c : Nat) (L : List Tx) (hn : L.length = n) (hL : n ≤ 255) (hA : RowAt w0 A Tx.cells 1 L) (hok : ∀ x ∈ L, BytesAt w0 x.B x.l) (had : ∀ x ∈ L, Adds 1200 (sTx x))
    (h1 : w.cell? ⟨lb, 0, none⟩ = some (.slice A n c)) (h2 : w.cell? ⟨ob, 0, none⟩ = some (.func (.func 81) #[] #[.pointer (some ⟨b1, 0, none⟩), .pointer (some ⟨b2, 0, none⟩)])) (h3 : w.cell? ⟨wb, 0, none⟩ = some (.pointer (some ⟨g, 0, none⟩)))
    (h4 : w.cell? ⟨b1, 0, none⟩ = some (.func (.func 64) #[] #[])) (h5 : w.cell? ⟨b2, 0, none⟩ = some (.pointer (some ⟨g, 0, none⟩)))
    (n2 : ¬ F ob) (n3 : ¬ F wb) (n4 : ¬ F b1) (n5 : ¬ F b2) :
    Calls Tryz.prog 97 #[.pointer (some ⟨lb, 0, none⟩), .pointer (some ⟨ob, 0, none⟩), .pointer (some ⟨wb, 0, none⟩)] w fun e w' => e = .returned (.tuple #[]) ∧ WP w0 E g F (sAll sTx L s) w w' := by
  have HH := Lib.hid (And.intro h (And.intro hs (And.intro hn (And.intro hA (And.intro hok had)))))
  have HC := Lib.hid (And.intro h2 (And.intro h3 (And.intro h4 h5)))
  have HN := Lib.hid (And.intro n2 (And.intro n3 (And.intro n4 n5)))
  have HE := Lib.hid he
  clear h hs hn hA hok had h2 h3 h4 h5 n2 n3 n4 n5 he
  go_enter Tryz.func97, Tryz.ntmps97
  go_wp2_with fail
  clear h1
  go_loopw [7] (fun i wr => ∃ k : Nat, k ≤ n ∧ i = .int .i64 (k : Int) ∧ WP w0 E g F (sAll sTx (L.take k) s) w wr) (fun i _ => n - (intOf i).toNat)
  case atStart => exact ⟨0, Nat.zero_le _, rfl, by simpa [sAll] using HH.out.1.same⟩
  case round =>
    obtain ⟨k, hk, hi, hP⟩ := hrel
    obtain ⟨I, hI⟩ : ∃ I : Int, I = (k : Int) := ⟨_, rfl⟩
    rw [← hI] at hi
    subst hi
    rename World => wr
    by_cases hlt : k < n
    · have hlt' : k < L.length := by have := HH.out.2.2.1; omega
      have hne : L ≠ [] := by rintro rfl; simp at hlt'
      obtain ⟨b, off, rfl, hc⟩ := HH.out.2.2.2.1 hne
      have d2 : decide (I < (n : Int)) = true := by simp; omega
      have hIV : I < (n : Int) := by omega
      have hI0 : 0 ≤ I ∧ I < 1000 := by omega
      have hkI : I.toNat = k := by omega
      have r1 := range_low hP.wi.kept (hc k hlt')
      obtain ⟨x, hxe⟩ : ∃ x, x = L[k] := ⟨_, rfl⟩
      have hxm : x ∈ L := by rw [hxe]; exact List.getElem_mem hlt'
      rw [← hxe] at r1
      rw [← hkI] at r1
      have c2 := hP.fine.cell HC.out.1 HN.out.1
      have c3 := hP.fine.cell HC.out.2.1 HN.out.2.1
      have c4 := hP.fine.cell HC.out.2.2.1 HN.out.2.2.1
      have c5 := hP.fine.cell HC.out.2.2.2 HN.out.2.2.2
      have hlen : (sAll sTx (L.take k) s).2.length ≤ 2000000 := by
        have h1 := adds_all (f := sTx) (c := 1200) (L.take k) (fun y hy => HH.out.2.2.2.2.2 y (List.mem_of_mem_take hy)) s
        have h2 := HH.out.2.1
        have h3 : (L.take k).length * 1200 ≤ 255 * 1200 := Nat.mul_le_mul_right 1200 (by rw [List.length_take]; omega)
        omega
      have htake : sAll sTx (L.take (k + 1)) s = sTx x (sAll sTx (L.take k) s) := by rw [List.take_succ_eq_append_getElem hlt', ← hxe, sAll_snoc]
      have HS := Lib.hid (pcl_Tx HE.out wr _ _ hP.wi hlen x (HH.out.2.2.2.2.1 x hxm) b1 b2 c4 c5)
      have HP := Lib.hid (And.intro hP (And.intro htake (And.intro hI hlt')))
      have r2 : wr.cell? ⟨b, off + I.toNat, none⟩ = some (.slice x.B x.l.length x.c) := by have := r1 0 _ rfl; simpa using this
      clear hP r1 c4 c5 hxm hxe htake hlen hc hne hkI hI hlt'
      go_wp2_with fail
      refine HS.out.mono ?_
      rintro e3 W3 ⟨rfl, h3⟩
      have H3 := Lib.hid h3
      clear h3
      go_wp2_with fail
      go_roundw
      case rel => exact ⟨k + 1, by omega, by rw [HP.out.2.2.1]; rfl, by rw [HP.out.2.1]; exact HP.out.1.trans H3.out⟩
      case measure => have := HP.out.2.2.1; simp [intOf]; omega
    · have d2 : decide (I < (n : Int)) = false := by simp; omega
      have hf : L.take k = L := List.take_of_length_le (by have := HH.out.2.2.1; omega)
      rw [hf] at hP
      have HP := Lib.hid hP
      clear hP hf hlt hI hk
      go_wp2_with fail
      go_end0
      exact ⟨rfl, HP.out⟩

/-- wire.Put. -/
theorem wput_Tx (w : World) (F : Nat → Prop) (s : WSt) (h : WI w0 E g F s w) (hs : s.2.length ≤ 900000) (b1 b2 : Nat) (A : Option Addr) (n c : Nat) (L : List Tx) (hn : L.length = n) (hA : RowAt w0 A Tx.cells 1 L) (hok : ∀ x ∈ L, BytesAt w0 x.B x.l) (had : ∀ x ∈ L, Adds 1200 (sTx x)) (most : Int)
    (h4 : w.cell? ⟨b1, 0, none⟩ = some (.func (.func 64) #[] #[])) (h5 : w.cell? ⟨b2, 0, none⟩ = some (.pointer (some ⟨g, 0, none⟩))) (n4 : ¬ F b1) (n5 : ¬ F b2) :
    Calls Tryz.prog 80 #[.pointer (some ⟨g, 0, none⟩), .slice A n c, .int .i64 most, .func (.func 81) #[] #[.pointer (some ⟨b1, 0, none⟩), .pointer (some ⟨b2, 0, none⟩)]] w fun e w' => e = .returned (.tuple #[]) ∧ WP w0 E g F (sPut n most (sAll sTx L) s) w w' := by
  have hmf : ∀ (fn : Fn) (first cap : Array Value) (w : World), (Instr.makeFunc fn first cap).run Tryz.prog w = .ok (.func fn first cap) w := fun _ _ _ _ => rfl
  obtain ⟨W1, hW1⟩ : ∃ W1, ((w.alloc (.cells #[.pointer (some ⟨g, 0, none⟩)] 116)).alloc (.cells #[.slice A n c] 47)).alloc (.cells #[.func (.func 81) #[] #[.pointer (some ⟨b1, 0, none⟩), .pointer (some ⟨b2, 0, none⟩)]] 168) = W1 := ⟨_, rfl⟩
  have z1 : W1.heap.size = w.heap.size + 3 := by rw [← hW1]; simp
  have g1 : w.grownBy W1 none := by rw [← hW1]; exact grown_trans (grown_trans (World.grownBy_alloc _ _ none) (World.grownBy_alloc _ _ none)) (World.grownBy_alloc _ _ none)
  have d1 : W1.cell? ⟨w.heap.size, 0, none⟩ = some (.pointer (some ⟨g, 0, none⟩)) := by rw [← hW1]; exact (((Blk.new w 116 #[.pointer (some ⟨g, 0, none⟩)]).alloc _).alloc _).cell 0
  have d2 : W1.cell? ⟨w.heap.size + 1, 0, none⟩ = some (.slice A n c) := by
    have h := ((Blk.new (w.alloc (.cells #[.pointer (some ⟨g, 0, none⟩)] 116)) 47 #[.slice A n c]).alloc (.cells #[.func (.func 81) #[] #[.pointer (some ⟨b1, 0, none⟩), .pointer (some ⟨b2, 0, none⟩)]] 168)).cell 0
    rw [← hW1]; simpa using h
  have d3 : W1.cell? ⟨w.heap.size + 1 + 1, 0, none⟩ = some (.func (.func 81) #[] #[.pointer (some ⟨b1, 0, none⟩), .pointer (some ⟨b2, 0, none⟩)]) := by
    have h := (Blk.new ((w.alloc (.cells #[.pointer (some ⟨g, 0, none⟩)] 116)).alloc (.cells #[.slice A n c] 47)) 168 #[.func (.func 81) #[] #[.pointer (some ⟨b1, 0, none⟩), .pointer (some ⟨b2, 0, none⟩)]]).cell 0
    rw [← hW1]; simpa using h
  have hi := h.opened g1
  have d4 := g1.cell h4 (by simp)
  have d5 := g1.cell h5 (by simp)
  have hr := (hi.err he (Nat.le_refl _)).1
  obtain ⟨F0, hF0⟩ : ∃ F0 : Nat → Prop, F0 = fun k => F k ∧ k < w.heap.size := ⟨_, rfl⟩
  rw [← hF0] at hi
  have m1 : ¬ F0 w.heap.size := by rw [hF0]; intro h; exact absurd h.2 (by omega)
  have m2 : ¬ F0 (w.heap.size + 1) := by rw [hF0]; intro h; exact absurd h.2 (by omega)
  have m3 : ¬ F0 (w.heap.size + 1 + 1) := by rw [hF0]; intro h; exact absurd h.2 (by omega)
  have m4 : ¬ F0 b1 := by rw [hF0]; intro h; exact n4 h.1
  have m5 : ¬ F0 b2 := by rw [hF0]; intro h; exact n5 h.1
  have hlt : ∀ (a : Addr) (v : Value), W1.cell? a = some v → a.block < W1.heap.size := fun _ _ h => World.block_lt_of_cell? W1 _ h
  have HCl := Lib.hid (fun w2 s2 (P : WP w0 E g F0 s2 W1 w2) => WP.closed (F := F) h g1 (hF0 ▸ P))
  have HI := Lib.hid (And.intro hi (And.intro he (And.intro hs (And.intro hn (And.intro hA (And.intro hok had))))))
  have HD := Lib.hid (And.intro d3 (And.intro d4 (And.intro d5 (And.intro True.intro (And.intro m1 (And.intro m2 (And.intro m3 (And.intro m4 m5))))))))
  have HW := Lib.hid hW1
  have HZ := Lib.hid z1
  have HL := Lib.hid hlt
  by_cases hlong : most < (n : Int) ∨ 255 < n
  · have hsp : sPut n most (sAll sTx L) s = sFail 1 s := by rw [sPut, if_pos hlong]
    rw [hsp]
    clear h hs hn hA hok had h4 h5 n4 n5 he hi d3 d4 d5 m1 m2 m3 m4 m5 hF0 hW1 z1 g1 hsp hlt
    rcases long_cases0 hlong with a1 | ⟨a1, a2⟩
    all_goals
      clear hlong
      go_enter Tryz.func80, Tryz.ntmps80
      go_upto_region 1 with (fail)
      rw [HW.out]
      go_wp2_with fail
      go_region_with (go_at_call 91; refine (fail_st HI.out.1.drew 0).mono ?_; rintro e w1 ⟨rfl, q⟩; replace q := Lib.hid q)
      all_goals
        go_wp2
        first | go_end0 | refine bodyPost_ret (results_none rfl _ _ _) rfl ?_
        refine ⟨rfl, HCl.out _ _ ?_⟩
        exact drew_first HI.out.1 q.out
  · have hsp : sPut n most (sAll sTx L) s = sAll sTx L (sNum (n : Int) 1 s) := by rw [sPut, if_neg hlong]
    rw [hsp]
    have a1 : decide (most < (n : Int)) = false := by simp; omega
    have a2 : decide ((255 : Int) < (n : Int)) = false := by simp; omega
    have hn255 : n ≤ 255 := by omega
    clear h hs hn hA hok had h4 h5 n4 n5 he hi d3 d4 d5 m1 m2 m3 m4 m5 hF0 hW1 z1 g1 hsp hlt hr hlong
    go_enter Tryz.func80, Tryz.ntmps80
    go_upto_region 1 with (fail)
    rw [HW.out]
    go_wp2_with fail
    obtain ⟨hi, he, hs, hn, hA, hok, had⟩ := HI.out
    obtain ⟨d3, d4, d5, _, m1, m2, m3, m4, m5⟩ := HD.out
    refine (number_st he hi (by omega) (n : Int) 1).mono ?_
    rintro e w2 ⟨rfl, P2⟩
    have e1 := P2.fine.cell d1 m1
    have e2 := P2.fine.cell d2 m2
    have e3 := P2.fine.cell d3 m3
    have e4 := P2.fine.cell d4 m4
    have e5 := P2.fine.cell d5 m5
    have nn : ∀ j, ¬ F0 j → j < W1.heap.size → ¬ upTo F0 W1.heap.size w2.heap.size j := fun j hj hl hu => by
      rcases hu with hu | hu
      · exact hj hu
      · omega
    have hle : (sNum (n : Int) 1 s).2.length ≤ 1000000 := by
      have := adds_num (n : Int) 1 s
      have h4 : sNum (n : Int) 1 s = sNum (n : Int) ((1 : Nat) : Int) s := rfl
      rw [h4]; omega
    have PA := P2.alloc (.cells #[.pointer (some ⟨g, 0, none⟩)] 192)
    have ga : w2.grownBy (w2.alloc (.cells #[.pointer (some ⟨g, 0, none⟩)] 192)) none := World.grownBy_alloc _ _ none
    have q2 := P2.wi.grown ga
    have HQ := Lib.hid (ploop_Tx he (w2.alloc (.cells #[.pointer (some ⟨g, 0, none⟩)] 192)) _ _ q2.wi hle (w.heap.size + 1) (w.heap.size + 1 + 1) w.heap.size b1 b2 A n c L hn hn255 hA hok had (ga.cell e2 (by simp)) (ga.cell e3 (by simp)) (ga.cell e1 (by simp)) (ga.cell e4 (by simp)) (ga.cell e5 (by simp))
      (nn_alloc (nn _ m3 (HL.out _ _ d3)) (HL.out _ _ d3) P2.fine.size) (nn_alloc (nn _ m1 (HL.out _ _ d1)) (HL.out _ _ d1) P2.fine.size) (nn_alloc (nn _ m4 (HL.out _ _ d4)) (HL.out _ _ d4) P2.fine.size) (nn_alloc (nn _ m5 (HL.out _ _ d5)) (HL.out _ _ d5) P2.fine.size))
    have HP := Lib.hid (And.intro P2 q2)
    have e1' := e1
    clear hi he hs hn hA hok had d3 d4 d5 m1 m2 m3 m4 m5 P2 PA e2 e3 e4 e5 nn hle q2 ga d2 d1
    go_wp2_with fail
    refine (attempt_ok0 ⟨g, 0, none⟩ 97 _ w2 _ enter_Tx HQ.out).mono ?_
    rintro e w4 ⟨rfl, h4⟩
    have H4 := Lib.hid h4
    clear h4
    go_wp2_with fail
    go_end0
    exact ⟨rfl, HCl.out _ _ (HP.out.1.trans (HP.out.2.trans H4.out))⟩

/-- codec.put. -/
theorem put_Tx (w : World) (F : Nat → Prop) (s : WSt) (h : WI w0 E g F s w) (hs : s.2.length ≤ 900000) (A : Option Addr) (n c : Nat) (L : List Tx) (hn : L.length = n) (hA : RowAt w0 A Tx.cells 1 L) (hok : ∀ x ∈ L, BytesAt w0 x.B x.l) (had : ∀ x ∈ L, Adds 1200 (sTx x)) (most : Int) :
    Calls Tryz.prog 63 #[.agg #[.pointer (some ⟨g, 0, none⟩)], .slice A n c, .int .i64 most, .func (.func 64) #[] #[]] w fun e w' => e = .returned (.tuple #[]) ∧ WP w0 E g F (sPut n most (sAll sTx L) s) w w' := by
  have hmf : ∀ (fn : Fn) (first cap : Array Value) (w : World), (Instr.makeFunc fn first cap).run Tryz.prog w = .ok (.func fn first cap) w := fun _ _ _ _ => rfl
  obtain ⟨W1, hW1⟩ : ∃ W1, (w.alloc (.cells #[.pointer (some ⟨g, 0, none⟩)] 118)).alloc (.cells #[.func (.func 64) #[] #[]] 146) = W1 := ⟨_, rfl⟩
  have g1 : w.grownBy W1 none := by rw [← hW1]; exact grown_trans (World.grownBy_alloc _ _ none) (World.grownBy_alloc _ _ none)
  have d1 : W1.cell? ⟨w.heap.size, 0, none⟩ = some (.pointer (some ⟨g, 0, none⟩)) := by rw [← hW1]; exact ((Blk.new w 118 #[.pointer (some ⟨g, 0, none⟩)]).alloc _).cell 0
  have d2 : W1.cell? ⟨w.heap.size + 1, 0, none⟩ = some (.func (.func 64) #[] #[]) := by
    have h := (Blk.new (w.alloc (.cells #[.pointer (some ⟨g, 0, none⟩)] 118)) 146 #[.func (.func 64) #[] #[]]).cell 0
    rw [World.size_alloc, hW1] at h
    exact h
  have hi := h.opened g1
  have HQ := Lib.hid (wput_Tx he W1 _ s hi hs (w.heap.size + 1) w.heap.size A n c L hn hA hok had most d2 d1 (fun h => absurd h.2 (by omega)) (fun h => absurd h.2 (by omega)))
  have HCl := Lib.hid (fun w2 s2 (P : WP w0 E g (fun k => F k ∧ k < w.heap.size) s2 W1 w2) => WP.closed (F := F) h g1 P)
  have HW := Lib.hid hW1
  clear h hs hn hA hok had he hi hW1 g1 d2
  go_enter Tryz.func63, Tryz.ntmps63
  go_upto_region 1 with (fail)
  rw [HW.out]
  go_wp2_with fail
  refine HQ.out.mono ?_
  rintro e w4 ⟨rfl, h4⟩
  have H4 := Lib.hid h4
  clear h4
  go_wp2_with fail
  go_end0
  exact ⟨rfl, HCl.out _ _ H4.out⟩
end
end Go.Proofs.YtmoebkdbnldbdaaGreatDoor
/-
  Lists that are written: of quorate/api.Validator.
-/
namespace Go.Proofs.YtmoebkdbnldbdaaGreatDoor
open Go.RowKit

theorem enter_Vd (args : Array Value) (w : World) : (callFunc 98 args).run Tryz.prog w = .ok (.enter 98 args) w := by kernel_rfl
section
variable {w0 : World} {E : Nat → Addr} {g : Nat} (he : ErrAt w0 w0.heap.size 1 (E 0))
include he
set_option maxRecDepth 100000 in
set_option maxHeartbeats 1000000 in
theorem pcl_Vd (w : World) (F : Nat → Prop) (s : WSt) (h : WI w0 E g F s w) (hs : s.2.length ≤ 2000000) (x : Vd) (hx : isDig x.key) (cs : Array Value) (hcs : cs = (Vd.cells x).toArray) (b1 b2 : Nat)
    (h4 : w.cell? ⟨b1, 0, none⟩ = some (.func (.func 66) #[] #[])) (h5 : w.cell? ⟨b2, 0, none⟩ = some (.pointer (some ⟨g, 0, none⟩))) :
    Calls Tryz.prog 84 #[.pointer (some ⟨g, 0, none⟩), .agg cs, .pointer (some ⟨b1, 0, none⟩), .pointer (some ⟨b2, 0, none⟩)] w fun e w' => e = .returned (.tuple #[]) ∧ WP w0 E g F (sVd x s) w w' := by
  obtain ⟨W1, hW1⟩ : ∃ W1, w.alloc (.cells cs 41) = W1 := ⟨_, rfl⟩
  have g1 : w.grownBy W1 none := by rw [← hW1]; exact World.grownBy_alloc _ _ none
  have bx : Blk W1 w.heap.size 41 cs := by rw [← hW1]; exact Blk.new w _ _
  have c1 := g1.cell h4 (by simp)
  have c2 := g1.cell h5 (by simp)
  have hcz : cs.size = 17 := by rw [hcs]; exact cz_Vd hx
  have P1 := h.grown g1
  have H := Lib.hid (el_Vd he _ _ _ P1.wi hs x hx cs hcs)
  have HX := Lib.hid (And.intro hcz (range_blk0 bx))
  have HP := Lib.hid P1
  have HW := Lib.hid hW1
  clear h hx hs hcs P1 bx hcz g1 hW1 h4 h5
  go_enter Tryz.func84, Tryz.ntmps84
  go_upto_region 1 with (fail)
  rw [HW.out]
  go_wp2_with (refine wpList_load_mid rfl 41 _ rfl w.heap.size 0 rfl cs.toList _ HX.out.2 Tryz.underlying41 rfl (by rw [Array.length_toList, HX.out.1]; exact sz_Vd) ?_; rw [Array.toArray_toList])
  refine H.out.mono ?_
  rintro e w1 ⟨rfl, h1⟩
  have H1 := Lib.hid h1
  clear h1
  go_wp2_with fail
  go_end0
  exact ⟨rfl, HP.out.trans H1.out⟩

set_option maxRecDepth 100000 in
set_option maxHeartbeats 1000000 in
theorem ploop_Vd (w : World) (F : Nat → Prop) (s : WSt) (h : WI w0 E g F s w) (hs : s.2.length ≤ 1000000) (lb ob wb b1 b2 : Nat) (A : Option Addr) (n c : Nat) (L : List Vd) (hn : L.length = n) (hL : n ≤ 255) (hA : RowAt w0 A Vd.cells 17 L) (hok : ∀ x ∈ L, isDig x.key) (had : ∀ x ∈ L, Adds 1200 (sVd x))
    (h1 : w.cell? ⟨lb, 0, none⟩ = some (.slice A n c)) (h2 : w.cell? ⟨ob, 0, none⟩ = some (.func (.func 84) #[] #[.pointer (some ⟨b1, 0, none⟩), .pointer (some ⟨b2, 0, none⟩)])) (h3 : w.cell? ⟨wb, 0, none⟩ = some (.pointer (some ⟨g, 0, none⟩)))
    (h4 : w.cell? ⟨b1, 0, none⟩ = some (.func (.func 66) #[] #[])) (h5 : w.cell? ⟨b2, 0, none⟩ = some (.pointer (some ⟨g, 0, none⟩)))
    (n2 : ¬ F ob) (n3 : ¬ F wb) (n4 : ¬ F b1) (n5 : ¬ F b2) :
    Calls Tryz.prog 98 #[.pointer (some ⟨lb, 0, none⟩), .pointer (some ⟨ob, 0, none⟩), .pointer (some ⟨wb, 0, none⟩)] w fun e w' => e = .returned (.tuple #[]) ∧ WP w0 E g F (sAll sVd L s) w w' := by
  have hzz := zz_Vd
  obtain ⟨ZZ, hZZ⟩ : ∃ Z, zv_Vd = Z := ⟨_, rfl⟩
  rw [hZZ] at hzz
  have HZZ := Lib.hid (show 17 = ZZ.size by rw [← hZZ]; rfl)
  clear hZZ
  have HH := Lib.hid (And.intro h (And.intro hs (And.intro hn (And.intro hA (And.intro hok had)))))
  have HC := Lib.hid (And.intro h2 (And.intro h3 (And.intro h4 h5)))
  have HN := Lib.hid (And.intro n2 (And.intro n3 (And.intro n4 n5)))
  have HE := Lib.hid he
  clear h hs hn hA hok had h2 h3 h4 h5 n2 n3 n4 n5 he
  go_enter Tryz.func98, Tryz.ntmps98
  go_wp2_with fail
  clear h1
  go_loopw [7] (fun i wr => ∃ k : Nat, k ≤ n ∧ i = .int .i64 (k : Int) ∧ WP w0 E g F (sAll sVd (L.take k) s) w wr) (fun i _ => n - (intOf i).toNat)
  case atStart => exact ⟨0, Nat.zero_le _, rfl, by simpa [sAll] using HH.out.1.same⟩
  case round =>
    obtain ⟨k, hk, hi, hP⟩ := hrel
    obtain ⟨I, hI⟩ : ∃ I : Int, I = (k : Int) := ⟨_, rfl⟩
    rw [← hI] at hi
    subst hi
    rename World => wr
    by_cases hlt : k < n
    · have hlt' : k < L.length := by have := HH.out.2.2.1; omega
      have hne : L ≠ [] := by rintro rfl; simp at hlt'
      obtain ⟨b, off, rfl, hc⟩ := HH.out.2.2.2.1 hne
      have d2 : decide (I < (n : Int)) = true := by simp; omega
      have hIV : I < (n : Int) := by omega
      have hI0 : 0 ≤ I ∧ I < 1000 := by omega
      have hkI : I.toNat = k := by omega
      have r1 := range_low hP.wi.kept (hc k hlt')
      obtain ⟨x, hxe⟩ : ∃ x, x = L[k] := ⟨_, rfl⟩
      have hxm : x ∈ L := by rw [hxe]; exact List.getElem_mem hlt'
      rw [← hxe] at r1
      rw [← hkI] at r1
      have c2 := hP.fine.cell HC.out.1 HN.out.1
      have c3 := hP.fine.cell HC.out.2.1 HN.out.2.1
      have c4 := hP.fine.cell HC.out.2.2.1 HN.out.2.2.1
      have c5 := hP.fine.cell HC.out.2.2.2 HN.out.2.2.2
      have hlen : (sAll sVd (L.take k) s).2.length ≤ 2000000 := by
        have h1 := adds_all (f := sVd) (c := 1200) (L.take k) (fun y hy => HH.out.2.2.2.2.2 y (List.mem_of_mem_take hy)) s
        have h2 := HH.out.2.1
        have h3 : (L.take k).length * 1200 ≤ 255 * 1200 := Nat.mul_le_mul_right 1200 (by rw [List.length_take]; omega)
        omega
      have htake : sAll sVd (L.take (k + 1)) s = sVd x (sAll sVd (L.take k) s) := by rw [List.take_succ_eq_append_getElem hlt', ← hxe, sAll_snoc]
      obtain ⟨cs, hcs⟩ : ∃ cs, cs = (Vd.cells x).toArray := ⟨_, rfl⟩
      have hcz : cs.size = 17 := by rw [hcs]; exact cz_Vd (HH.out.2.2.2.2.1 x hxm)
      have hc1 : (cs.all fun v => v.oneCell') = true := by rw [hcs]; exact c1_Vd x
      have r2 : wr.rangeAt b (off + I.toNat * 17) cs.toList := by rw [hcs]; exact r1
      obtain ⟨W0, hW0⟩ : ∃ W0, W0 = (wr.alloc (.cells ZZ 41)).setRow wr.heap.size cs := ⟨_, rfl⟩
      have hG0 : wr.grownBy W0 none := by rw [hW0]; exact grown_row (World.grownBy_alloc wr _ none) (.inl (Nat.le_refl _)) cs
      have bS : Blk W0 wr.heap.size 41 cs := by rw [hW0]; exact (Blk.new wr 41 ZZ).row cs
      have e2 := hG0.cell c2 (by simp)
      have e3 := hG0.cell c3 (by simp)
      have P0 := hP.wi.grown hG0
      have HS := Lib.hid (pcl_Vd HE.out W0 _ _ P0.wi hlen x (HH.out.2.2.2.2.1 x hxm) cs hcs b1 b2 (hG0.cell c4 (by simp)) (hG0.cell c5 (by simp)))
      have HP := Lib.hid (And.intro (And.intro hP P0) (And.intro htake (And.intro hI hlt')))
      have HX := Lib.hid (And.intro hcz (And.intro hc1 (And.intro r2 (range_blk0 bS))))
      have HW := Lib.hid hW0
      clear hP P0 hcz hc1 r1 r2 hW0 hG0 bS hcs c2 c3 c4 c5 hxm hxe htake hlen hc hne hkI hI hlt'
      go_wp2_with (first
        | (refine wpList_load_mid rfl 41 _ rfl b (off + I.toNat * 17) rfl cs.toList _ HX.out.2.2.1 Tryz.underlying41 rfl (by rw [Array.length_toList, HX.out.1]; exact sz_Vd) ?_; rw [Array.toArray_toList])
        | (refine wpList_store_row rfl 41 _ _ rfl wr.heap.size cs rfl rfl 41 _ (heap_alloc_new wr _) (by rw [HX.out.1]; exact sz_Vd) (by rw [HX.out.1]; first | exact HZZ.out | exact HZZ.out.symm) HX.out.2.1 ?_
           rw [← HW.out])
        | (refine wpList_load_mid rfl 41 _ rfl wr.heap.size 0 rfl cs.toList _ HX.out.2.2.2 Tryz.underlying41 rfl (by rw [Array.length_toList, HX.out.1]; exact sz_Vd) ?_; rw [Array.toArray_toList]))
      refine HS.out.mono ?_
      rintro e3 W3 ⟨rfl, h3⟩
      have H3 := Lib.hid h3
      clear h3
      go_wp2_with fail
      go_roundw
      case rel => exact ⟨k + 1, by omega, by rw [HP.out.2.2.1]; rfl, by rw [HP.out.2.1]; exact HP.out.1.1.trans (HP.out.1.2.trans H3.out)⟩
      case measure => have := HP.out.2.2.1; simp [intOf]; omega
    · have d2 : decide (I < (n : Int)) = false := by simp; omega
      have hf : L.take k = L := List.take_of_length_le (by have := HH.out.2.2.1; omega)
      rw [hf] at hP
      have HP := Lib.hid hP
      clear hP hf hlt hI hk
      go_wp2_with fail
      go_end0
      exact ⟨rfl, HP.out⟩

/-- wire.Put. -/
theorem wput_Vd (w : World) (F : Nat → Prop) (s : WSt) (h : WI w0 E g F s w) (hs : s.2.length ≤ 900000) (b1 b2 : Nat) (A : Option Addr) (n c : Nat) (L : List Vd) (hn : L.length = n) (hA : RowAt w0 A Vd.cells 17 L) (hok : ∀ x ∈ L, isDig x.key) (had : ∀ x ∈ L, Adds 1200 (sVd x)) (most : Int)
    (h4 : w.cell? ⟨b1, 0, none⟩ = some (.func (.func 66) #[] #[])) (h5 : w.cell? ⟨b2, 0, none⟩ = some (.pointer (some ⟨g, 0, none⟩))) (n4 : ¬ F b1) (n5 : ¬ F b2) :
    Calls Tryz.prog 83 #[.pointer (some ⟨g, 0, none⟩), .slice A n c, .int .i64 most, .func (.func 84) #[] #[.pointer (some ⟨b1, 0, none⟩), .pointer (some ⟨b2, 0, none⟩)]] w fun e w' => e = .returned (.tuple #[]) ∧ WP w0 E g F (sPut n most (sAll sVd L) s) w w' := by
  have hmf : ∀ (fn : Fn) (first cap : Array Value) (w : World), (Instr.makeFunc fn first cap).run Tryz.prog w = .ok (.func fn first cap) w := fun _ _ _ _ => rfl
  obtain ⟨W1, hW1⟩ : ∃ W1, ((w.alloc (.cells #[.pointer (some ⟨g, 0, none⟩)] 116)).alloc (.cells #[.slice A n c] 22)).alloc (.cells #[.func (.func 84) #[] #[.pointer (some ⟨b1, 0, none⟩), .pointer (some ⟨b2, 0, none⟩)]] 171) = W1 := ⟨_, rfl⟩
  have z1 : W1.heap.size = w.heap.size + 3 := by rw [← hW1]; simp
  have g1 : w.grownBy W1 none := by rw [← hW1]; exact grown_trans (grown_trans (World.grownBy_alloc _ _ none) (World.grownBy_alloc _ _ none)) (World.grownBy_alloc _ _ none)
  have d1 : W1.cell? ⟨w.heap.size, 0, none⟩ = some (.pointer (some ⟨g, 0, none⟩)) := by rw [← hW1]; exact (((Blk.new w 116 #[.pointer (some ⟨g, 0, none⟩)]).alloc _).alloc _).cell 0
  have d2 : W1.cell? ⟨w.heap.size + 1, 0, none⟩ = some (.slice A n c) := by
    have h := ((Blk.new (w.alloc (.cells #[.pointer (some ⟨g, 0, none⟩)] 116)) 22 #[.slice A n c]).alloc (.cells #[.func (.func 84) #[] #[.pointer (some ⟨b1, 0, none⟩), .pointer (some ⟨b2, 0, none⟩)]] 171)).cell 0
    rw [← hW1]; simpa using h
  have d3 : W1.cell? ⟨w.heap.size + 1 + 1, 0, none⟩ = some (.func (.func 84) #[] #[.pointer (some ⟨b1, 0, none⟩), .pointer (some ⟨b2, 0, none⟩)]) := by
    have h := (Blk.new ((w.alloc (.cells #[.pointer (some ⟨g, 0, none⟩)] 116)).alloc (.cells #[.slice A n c] 22)) 171 #[.func (.func 84) #[] #[.pointer (some ⟨b1, 0, none⟩), .pointer (some ⟨b2, 0, none⟩)]]).cell 0
    rw [← hW1]; simpa using h
  have hi := h.opened g1
  have d4 := g1.cell h4 (by simp)
  have d5 := g1.cell h5 (by simp)
  have hr := (hi.err he (Nat.le_refl _)).1
  obtain ⟨F0, hF0⟩ : ∃ F0 : Nat → Prop, F0 = fun k => F k ∧ k < w.heap.size := ⟨_, rfl⟩
  rw [← hF0] at hi
  have m1 : ¬ F0 w.heap.size := by rw [hF0]; intro h; exact absurd h.2 (by omega)
  have m2 : ¬ F0 (w.heap.size + 1) := by rw [hF0]; intro h; exact absurd h.2 (by omega)
  have m3 : ¬ F0 (w.heap.size + 1 + 1) := by rw [hF0]; intro h; exact absurd h.2 (by omega)
  have m4 : ¬ F0 b1 := by rw [hF0]; intro h; exact n4 h.1
  have m5 : ¬ F0 b2 := by rw [hF0]; intro h; exact n5 h.1
  have hlt : ∀ (a : Addr) (v : Value), W1.cell? a = some v → a.block < W1.heap.size := fun _ _ h => World.block_lt_of_cell? W1 _ h
  have HCl := Lib.hid (fun w2 s2 (P : WP w0 E g F0 s2 W1 w2) => WP.closed (F := F) h g1 (hF0 ▸ P))
  have HI := Lib.hid (And.intro hi (And.intro he (And.intro hs (And.intro hn (And.intro hA (And.intro hok had))))))
  have HD := Lib.hid (And.intro d3 (And.intro d4 (And.intro d5 (And.intro True.intro (And.intro m1 (And.intro m2 (And.intro m3 (And.intro m4 m5))))))))
  have HW := Lib.hid hW1
  have HZ := Lib.hid z1
  have HL := Lib.hid hlt
  by_cases hlong : most < (n : Int) ∨ 255 < n
  · have hsp : sPut n most (sAll sVd L) s = sFail 1 s := by rw [sPut, if_pos hlong]
    rw [hsp]
    clear h hs hn hA hok had h4 h5 n4 n5 he hi d3 d4 d5 m1 m2 m3 m4 m5 hF0 hW1 z1 g1 hsp hlt
    rcases long_cases0 hlong with a1 | ⟨a1, a2⟩
    all_goals
      clear hlong
      go_enter Tryz.func83, Tryz.ntmps83
      go_upto_region 1 with (fail)
      rw [HW.out]
      go_wp2_with fail
      go_region_with (go_at_call 91; refine (fail_st HI.out.1.drew 0).mono ?_; rintro e w1 ⟨rfl, q⟩; replace q := Lib.hid q)
      all_goals
        go_wp2
        first | go_end0 | refine bodyPost_ret (results_none rfl _ _ _) rfl ?_
        refine ⟨rfl, HCl.out _ _ ?_⟩
        exact drew_first HI.out.1 q.out
  · have hsp : sPut n most (sAll sVd L) s = sAll sVd L (sNum (n : Int) 1 s) := by rw [sPut, if_neg hlong]
    rw [hsp]
    have a1 : decide (most < (n : Int)) = false := by simp; omega
    have a2 : decide ((255 : Int) < (n : Int)) = false := by simp; omega
    have hn255 : n ≤ 255 := by omega
    clear h hs hn hA hok had h4 h5 n4 n5 he hi d3 d4 d5 m1 m2 m3 m4 m5 hF0 hW1 z1 g1 hsp hlt hr hlong
    go_enter Tryz.func83, Tryz.ntmps83
    go_upto_region 1 with (fail)
    rw [HW.out]
    go_wp2_with fail
    obtain ⟨hi, he, hs, hn, hA, hok, had⟩ := HI.out
    obtain ⟨d3, d4, d5, _, m1, m2, m3, m4, m5⟩ := HD.out
    refine (number_st he hi (by omega) (n : Int) 1).mono ?_
    rintro e w2 ⟨rfl, P2⟩
    have e1 := P2.fine.cell d1 m1
    have e2 := P2.fine.cell d2 m2
    have e3 := P2.fine.cell d3 m3
    have e4 := P2.fine.cell d4 m4
    have e5 := P2.fine.cell d5 m5
    have nn : ∀ j, ¬ F0 j → j < W1.heap.size → ¬ upTo F0 W1.heap.size w2.heap.size j := fun j hj hl hu => by
      rcases hu with hu | hu
      · exact hj hu
      · omega
    have hle : (sNum (n : Int) 1 s).2.length ≤ 1000000 := by
      have := adds_num (n : Int) 1 s
      have h4 : sNum (n : Int) 1 s = sNum (n : Int) ((1 : Nat) : Int) s := rfl
      rw [h4]; omega
    have PA := P2.alloc (.cells #[.pointer (some ⟨g, 0, none⟩)] 192)
    have ga : w2.grownBy (w2.alloc (.cells #[.pointer (some ⟨g, 0, none⟩)] 192)) none := World.grownBy_alloc _ _ none
    have q2 := P2.wi.grown ga
    have HQ := Lib.hid (ploop_Vd he (w2.alloc (.cells #[.pointer (some ⟨g, 0, none⟩)] 192)) _ _ q2.wi hle (w.heap.size + 1) (w.heap.size + 1 + 1) w.heap.size b1 b2 A n c L hn hn255 hA hok had (ga.cell e2 (by simp)) (ga.cell e3 (by simp)) (ga.cell e1 (by simp)) (ga.cell e4 (by simp)) (ga.cell e5 (by simp))
      (nn_alloc (nn _ m3 (HL.out _ _ d3)) (HL.out _ _ d3) P2.fine.size) (nn_alloc (nn _ m1 (HL.out _ _ d1)) (HL.out _ _ d1) P2.fine.size) (nn_alloc (nn _ m4 (HL.out _ _ d4)) (HL.out _ _ d4) P2.fine.size) (nn_alloc (nn _ m5 (HL.out _ _ d5)) (HL.out _ _ d5) P2.fine.size))
    have HP := Lib.hid (And.intro P2 q2)
    have e1' := e1
    clear hi he hs hn hA hok had d3 d4 d5 m1 m2 m3 m4 m5 P2 PA e2 e3 e4 e5 nn hle q2 ga d2 d1
    go_wp2_with fail
    refine (attempt_ok0 ⟨g, 0, none⟩ 98 _ w2 _ enter_Vd HQ.out).mono ?_
    rintro e w4 ⟨rfl, h4⟩
    have H4 := Lib.hid h4
    clear h4
    go_wp2_with fail
    go_end0
    exact ⟨rfl, HCl.out _ _ (HP.out.1.trans (HP.out.2.trans H4.out))⟩

/-- codec.put. -/
theorem put_Vd (w : World) (F : Nat → Prop) (s : WSt) (h : WI w0 E g F s w) (hs : s.2.length ≤ 900000) (A : Option Addr) (n c : Nat) (L : List Vd) (hn : L.length = n) (hA : RowAt w0 A Vd.cells 17 L) (hok : ∀ x ∈ L, isDig x.key) (had : ∀ x ∈ L, Adds 1200 (sVd x)) (most : Int) :
    Calls Tryz.prog 65 #[.agg #[.pointer (some ⟨g, 0, none⟩)], .slice A n c, .int .i64 most, .func (.func 66) #[] #[]] w fun e w' => e = .returned (.tuple #[]) ∧ WP w0 E g F (sPut n most (sAll sVd L) s) w w' := by
  have hmf : ∀ (fn : Fn) (first cap : Array Value) (w : World), (Instr.makeFunc fn first cap).run Tryz.prog w = .ok (.func fn first cap) w := fun _ _ _ _ => rfl
  obtain ⟨W1, hW1⟩ : ∃ W1, (w.alloc (.cells #[.pointer (some ⟨g, 0, none⟩)] 118)).alloc (.cells #[.func (.func 66) #[] #[]] 148) = W1 := ⟨_, rfl⟩
  have g1 : w.grownBy W1 none := by rw [← hW1]; exact grown_trans (World.grownBy_alloc _ _ none) (World.grownBy_alloc _ _ none)
  have d1 : W1.cell? ⟨w.heap.size, 0, none⟩ = some (.pointer (some ⟨g, 0, none⟩)) := by rw [← hW1]; exact ((Blk.new w 118 #[.pointer (some ⟨g, 0, none⟩)]).alloc _).cell 0
  have d2 : W1.cell? ⟨w.heap.size + 1, 0, none⟩ = some (.func (.func 66) #[] #[]) := by
    have h := (Blk.new (w.alloc (.cells #[.pointer (some ⟨g, 0, none⟩)] 118)) 148 #[.func (.func 66) #[] #[]]).cell 0
    rw [World.size_alloc, hW1] at h
    exact h
  have hi := h.opened g1
  have HQ := Lib.hid (wput_Vd he W1 _ s hi hs (w.heap.size + 1) w.heap.size A n c L hn hA hok had most d2 d1 (fun h => absurd h.2 (by omega)) (fun h => absurd h.2 (by omega)))
  have HCl := Lib.hid (fun w2 s2 (P : WP w0 E g (fun k => F k ∧ k < w.heap.size) s2 W1 w2) => WP.closed (F := F) h g1 P)
  have HW := Lib.hid hW1
  clear h hs hn hA hok had he hi hW1 g1 d2
  go_enter Tryz.func65, Tryz.ntmps65
  go_upto_region 1 with (fail)
  rw [HW.out]
  go_wp2_with fail
  refine HQ.out.mono ?_
  rintro e w4 ⟨rfl, h4⟩
  have H4 := Lib.hid h4
  clear h4
  go_wp2_with fail
  go_end0
  exact ⟨rfl, HCl.out _ _ H4.out⟩
end
end Go.Proofs.YtmoebkdbnldbdaaGreatDoor
/-
  A certificate, a block that is written.
-/
namespace Go.Proofs.YtmoebkdbnldbdaaGreatDoor
open Go.RowKit

theorem sz_QC : (Tryz.prog.info? 46).map (·.size) = some 19 := by kernel_rfl
section
variable {w0 : World} {E : Nat → Addr} {g : Nat} (he : ErrAt w0 w0.heap.size 1 (E 0))
include he
set_option maxRecDepth 100000 in
set_option maxHeartbeats 1000000 in
theorem qc_st (w : World) (F : Nat → Prop) (s : WSt) (h : WI w0 E g F s w) (hs : s.2.length ≤ 800000) (q : Qc) (hq : q.At w0) (cs : Array Value) (hcs : cs = q.val) :
    Calls Tryz.prog 62 #[.agg #[.pointer (some ⟨g, 0, none⟩)], .agg cs] w fun e w' => e = .returned (.tuple #[]) ∧ WP w0 E g F (sQc q s) w w' := by
  obtain ⟨kd, hkd⟩ : ∃ kd, kd = arrV .u8 q.Bl := ⟨_, rfl⟩
  have hks : kd.size = 16 := by rw [hkd, arr_size, hq.1.1]
  have hcl : cs.toList = [.int .i64 q.e, .int .i64 q.r] ++ (kd.toList ++ [.slice q.A q.L.length q.c]) := by rw [hcs, hkd]; simp [Qc.val]
  have H3 := Lib.hid (And.intro hks hkd)
  have HQ := Lib.hid hq
  obtain ⟨W1, hW1⟩ : ∃ W1, ((w.alloc (.cells #[.pointer (some ⟨g, 0, none⟩)] 118)).alloc (.cells cs 46)) = W1 := ⟨_, rfl⟩
  have g1 : w.grownBy W1 none := by rw [← hW1]; exact grown_trans (World.grownBy_alloc _ _ none) (World.grownBy_alloc _ _ none)
  have bw : Blk W1 w.heap.size 118 #[.pointer (some ⟨g, 0, none⟩)] := by rw [← hW1]; exact (Blk.new w _ _).alloc _
  have bx : Blk W1 (w.heap.size + 1) 46 cs := by
    have := Blk.new (w.alloc (.cells #[.pointer (some ⟨g, 0, none⟩)] 118)) 46 cs
    rw [← hW1]; simpa using this
  have hi := h.opened g1
  have HCl := Lib.hid (fun (w2 : World) (s2 : WSt) (P : WP w0 E g (fun k => F k ∧ k < w.heap.size) s2 W1 w2) => WP.closed (F := F) h g1 P)
  have HB := Lib.hid (fun (V : World) (s' : WSt) (P : WP w0 E g (fun k => F k ∧ k < w.heap.size) s' W1 V) => (show V.cell? ⟨w.heap.size, 0, none⟩ = some (.pointer (some ⟨g, 0, none⟩)) ∧ V.cell? ⟨w.heap.size + 1, 0, none⟩ = some (.int .i64 q.e) ∧ V.cell? ⟨w.heap.size + 1, 1, none⟩ = some (.int .i64 q.r) ∧ V.rangeAt (w.heap.size + 1) 2 kd.toList ∧ V.cell? ⟨w.heap.size + 1, 18, none⟩ = some (.slice q.A q.L.length q.c) from
    by
      have kw : Blk V w.heap.size 118 #[.pointer (some ⟨g, 0, none⟩)] := bw.kept P.fine (fun h => absurd h.2 (by omega))
      have bx : Blk V (w.heap.size + 1) 46 cs := bx.kept P.fine (fun h => absurd h.2 (by omega))
      exact ⟨by simpa using kw.cell 0, by have r := range_blk0 bx; have := r 0 (.int .i64 q.e) (by rw [hcl]; rfl); simpa using this, by have r := range_blk0 bx; have := r 1 (.int .i64 q.r) (by rw [hcl]; rfl); simpa using this, by have r := range_blk0 bx; rw [hcl] at r; have := range_seg r; simpa using this, by have r := range_blk0 bx; have := r 18 (.slice q.A q.L.length q.c) (by rw [hcl, List.getElem?_append_right (by simp), List.getElem?_append_right (by simp [hks])]; simp [hks]); simpa using this⟩))
  have HP0 := Lib.hid hi.same
  have HE := Lib.hid he
  have HS := Lib.hid hs
  have HW := Lib.hid hW1
  clear h hi bw bx g1 hW1 hs he hcs hks hkd hcl hq
  go_enter Tryz.func62, Tryz.ntmps62
  go_upto_region 1 with (fail)
  rw [HW.out]
  obtain ⟨k0, k1, k2, k3, k4⟩ := HB.out _ _ HP0.out
  clear k3 k4
  go_wp2_with fail
  refine (turn_st HE.out _ _ _ HP0.out.wi (Nat.le_trans HS.out (by omega)) q.e q.r).mono ?_
  rintro e V1 ⟨rfl, q0⟩
  have HP1 := Lib.hid (HP0.out.trans q0)
  clear q0 k0 k1 k2
  have HS1 := Lib.hid (show (sTurn q.e q.r s).2.length ≤ 810000 from by have h1 := adds_turn q.e q.r s; have h2 := HS.out; omega)
  obtain ⟨k0, k1, k2, k3, k4⟩ := HB.out _ _ HP1.out
  clear k1 k2 k4
  have HR := Lib.hid k3
  clear k3
  go_wp2_with (refine wpList_load_mid rfl 24 _ rfl (w.heap.size + 1) 2 rfl (kd.toList) _ HR.out Tryz.underlying24 rfl (by rw [Array.length_toList, H3.out.1]; exact sz_Dg) ?_; rw [Array.toArray_toList])
  refine (digest_st HP1.out.wi (Nat.le_trans HS1.out (by omega)) q.Bl HQ.out.1 kd H3.out.2).mono ?_
  rintro e V2 ⟨rfl, q1⟩
  have HP2 := Lib.hid (HP1.out.trans q1)
  clear q1 k0
  have HS2 := Lib.hid (show (sDig q.Bl (sTurn q.e q.r s)).2.length ≤ 820000 from by have h1 := adds_dig HQ.out.1.1 (sTurn q.e q.r s); have h2 := HS1.out; omega)
  obtain ⟨k0, k1, k2, k3, k4⟩ := HB.out _ _ HP2.out
  clear k1 k2 k3
  go_wp2_with fail
  refine (put_Sg HE.out _ _ _ HP2.out.wi (Nat.le_trans HS2.out (by omega)) q.A q.L.length q.c q.L rfl HQ.out.2.1 HQ.out.2.2 (fun x hx => (adds_sg (HQ.out.2.2.dig x hx)).mono (by omega)) 7).mono ?_
  rintro e V3 ⟨rfl, q2⟩
  have HP3 := Lib.hid (HP2.out.trans q2)
  clear q2 k0 k4
  go_wp2_with fail
  go_end0
  exact ⟨rfl, HCl.out _ _ HP3.out⟩

set_option maxRecDepth 100000 in
set_option maxHeartbeats 1000000 in
theorem block_st (w : World) (F : Nat → Prop) (s : WSt) (h : WI w0 E g F s w) (hs : s.2.length ≤ 700000) (b : Bk) (hb : b.At w0) (cs : Array Value) (hcs : cs = b.val) :
    Calls Tryz.prog 45 #[.agg #[.pointer (some ⟨g, 0, none⟩)], .agg cs] w fun e w' => e = .returned (.tuple #[]) ∧ WP w0 E g F (sBk b s) w w' := by
  obtain ⟨kd, hkd⟩ : ∃ kd, kd = arrV .u8 b.P := ⟨_, rfl⟩
  obtain ⟨qv, hqv⟩ : ∃ qv, qv = b.q.val := ⟨_, rfl⟩
  have hks : kd.size = 16 := by rw [hkd, arr_size, hb.1.1]
  have hqs : qv.size = 19 := by rw [hqv, Qc.val]; simp [arr_size, hb.2.1.1.1]
  have hcl : cs.toList = [.int .i64 b.e, .int .i64 b.r] ++ (kd.toList ++ (qv.toList ++ [.slice b.A b.T.length b.c, .slice b.A2 b.V.length b.c2])) := by rw [hcs, hkd, hqv]; simp [Bk.val]
  have hcl2 : cs.toList = ([.int .i64 b.e, .int .i64 b.r] ++ kd.toList) ++ (qv.toList ++ [.slice b.A b.T.length b.c, .slice b.A2 b.V.length b.c2]) := by rw [hcl]; simp
  have hl18 : ([Value.int .i64 b.e, Value.int .i64 b.r] ++ kd.toList).length = 18 := by simp [hks]
  have H3 := Lib.hid (And.intro hks (And.intro hkd (And.intro hqs hqv)))
  have HQ := Lib.hid hb
  obtain ⟨W1, hW1⟩ : ∃ W1, ((w.alloc (.cells #[.pointer (some ⟨g, 0, none⟩)] 118)).alloc (.cells cs 49)) = W1 := ⟨_, rfl⟩
  have g1 : w.grownBy W1 none := by rw [← hW1]; exact grown_trans (World.grownBy_alloc _ _ none) (World.grownBy_alloc _ _ none)
  have bw : Blk W1 w.heap.size 118 #[.pointer (some ⟨g, 0, none⟩)] := by rw [← hW1]; exact (Blk.new w _ _).alloc _
  have bx : Blk W1 (w.heap.size + 1) 49 cs := by
    have := Blk.new (w.alloc (.cells #[.pointer (some ⟨g, 0, none⟩)] 118)) 49 cs
    rw [← hW1]; simpa using this
  have hi := h.opened g1
  have HCl := Lib.hid (fun (w2 : World) (s2 : WSt) (P : WP w0 E g (fun k => F k ∧ k < w.heap.size) s2 W1 w2) => WP.closed (F := F) h g1 P)
  have HB := Lib.hid (fun (V : World) (s' : WSt) (P : WP w0 E g (fun k => F k ∧ k < w.heap.size) s' W1 V) => (show V.cell? ⟨w.heap.size, 0, none⟩ = some (.pointer (some ⟨g, 0, none⟩)) ∧ V.cell? ⟨w.heap.size + 1, 0, none⟩ = some (.int .i64 b.e) ∧ V.cell? ⟨w.heap.size + 1, 1, none⟩ = some (.int .i64 b.r) ∧ V.rangeAt (w.heap.size + 1) 2 kd.toList ∧ V.rangeAt (w.heap.size + 1) 18 qv.toList ∧ V.cell? ⟨w.heap.size + 1, 37, none⟩ = some (.slice b.A b.T.length b.c) ∧ V.cell? ⟨w.heap.size + 1, 38, none⟩ = some (.slice b.A2 b.V.length b.c2) from
    by
      have kw : Blk V w.heap.size 118 #[.pointer (some ⟨g, 0, none⟩)] := bw.kept P.fine (fun h => absurd h.2 (by omega))
      have bx : Blk V (w.heap.size + 1) 49 cs := bx.kept P.fine (fun h => absurd h.2 (by omega))
      exact ⟨by simpa using kw.cell 0, by have r := range_blk0 bx; have := r 0 (.int .i64 b.e) (by rw [hcl]; rfl); simpa using this, by have r := range_blk0 bx; have := r 1 (.int .i64 b.r) (by rw [hcl]; rfl); simpa using this, by have r := range_blk0 bx; rw [hcl] at r; have := range_seg r; simpa using this, by have r := range_blk0 bx; rw [hcl2] at r; have := range_seg r; rw [hl18] at this; simpa using this, by have r := range_blk0 bx; have := r 37 (.slice b.A b.T.length b.c) (by rw [hcl2, List.getElem?_append_right (by rw [hl18]; omega), hl18, List.getElem?_append_right (by simp [hqs])]; simp [hqs]); simpa using this, by have r := range_blk0 bx; have := r 38 (.slice b.A2 b.V.length b.c2) (by rw [hcl2, List.getElem?_append_right (by rw [hl18]; omega), hl18, List.getElem?_append_right (by simp [hqs])]; simp [hqs]); simpa using this⟩))
  have HP0 := Lib.hid hi.same
  have HE := Lib.hid he
  have HS := Lib.hid hs
  have HW := Lib.hid hW1
  clear h hi bw bx g1 hW1 hs he hcs hks hkd hcl hcl2 hqs hqv hl18 hb
  go_enter Tryz.func45, Tryz.ntmps45
  go_upto_region 1 with (fail)
  rw [HW.out]
  obtain ⟨k0, k1, k2, k3, k4, k5, k6⟩ := HB.out _ _ HP0.out
  clear k3 k4 k5 k6
  go_wp2_with fail
  refine (turn_st HE.out _ _ _ HP0.out.wi (Nat.le_trans HS.out (by omega)) b.e b.r).mono ?_
  rintro e V1 ⟨rfl, q0⟩
  have HP1 := Lib.hid (HP0.out.trans q0)
  clear q0 k0 k1 k2
  have HS1 := Lib.hid (show (sTurn b.e b.r s).2.length ≤ 710000 from by have h1 := adds_turn b.e b.r s; have h2 := HS.out; omega)
  obtain ⟨k0, k1, k2, k3, k4, k5, k6⟩ := HB.out _ _ HP1.out
  clear k1 k2 k4 k5 k6
  have HR := Lib.hid k3
  clear k3
  go_wp2_with (refine wpList_load_mid rfl 24 _ rfl (w.heap.size + 1) 2 rfl (kd.toList) _ HR.out Tryz.underlying24 rfl (by rw [Array.length_toList, H3.out.1]; exact sz_Dg) ?_; rw [Array.toArray_toList])
  refine (digest_st HP1.out.wi (Nat.le_trans HS1.out (by omega)) b.P HQ.out.1 kd H3.out.2.1).mono ?_
  rintro e V2 ⟨rfl, q1⟩
  have HP2 := Lib.hid (HP1.out.trans q1)
  clear q1 k0
  have HS2 := Lib.hid (show (sDig b.P (sTurn b.e b.r s)).2.length ≤ 720000 from by have h1 := adds_dig HQ.out.1.1 (sTurn b.e b.r s); have h2 := HS1.out; omega)
  obtain ⟨k0, k1, k2, k3, k4, k5, k6⟩ := HB.out _ _ HP2.out
  clear k1 k2 k3 k5 k6
  have HR := Lib.hid k4
  clear k4
  go_wp2_with (refine wpList_load_mid rfl 46 _ rfl (w.heap.size + 1) 18 rfl (qv.toList) _ HR.out Tryz.underlying46 rfl (by rw [Array.length_toList, H3.out.2.2.1]; exact sz_QC) ?_; rw [Array.toArray_toList])
  refine (qc_st HE.out _ _ _ HP2.out.wi (Nat.le_trans HS2.out (by omega)) b.q HQ.out.2.1 qv H3.out.2.2.2).mono ?_
  rintro e V3 ⟨rfl, q2⟩
  have HP3 := Lib.hid (HP2.out.trans q2)
  clear q2 k0
  have HS3 := Lib.hid (show (sQc b.q (sDig b.P (sTurn b.e b.r s))).2.length ≤ 740000 from by have h1 := HQ.out.2.1.adds (sDig b.P (sTurn b.e b.r s)); have h2 := HS2.out; omega)
  obtain ⟨k0, k1, k2, k3, k4, k5, k6⟩ := HB.out _ _ HP3.out
  clear k1 k2 k3 k4 k6
  go_wp2_with fail
  refine (put_Tx HE.out _ _ _ HP3.out.wi (Nat.le_trans HS3.out (by omega)) b.A b.T.length b.c b.T rfl HQ.out.2.2.1.1 HQ.out.2.2.1.2 (fun x hx => (adds_tx x).mono (by omega)) 4).mono ?_
  rintro e V4 ⟨rfl, q3⟩
  have HP4 := Lib.hid (HP3.out.trans q3)
  clear q3 k0 k5
  have HS4 := Lib.hid (show (sPut b.T.length 4 (sAll sTx b.T) (sQc b.q (sDig b.P (sTurn b.e b.r s)))).2.length ≤ 750000 from by have h1 : (sPut b.T.length 4 (sAll sTx b.T) (sQc b.q (sDig b.P (sTurn b.e b.r s)))).2.length ≤ (sQc b.q (sDig b.P (sTurn b.e b.r s))).2.length + (1 + 4 * 18) := adds_put (m := 4) rfl (fun _ => adds_all b.T fun x _ => adds_tx x) _; have h2 := HS3.out; omega)
  obtain ⟨k0, k1, k2, k3, k4, k5, k6⟩ := HB.out _ _ HP4.out
  clear k1 k2 k3 k4 k5
  go_wp2_with fail
  refine (put_Vd HE.out _ _ _ HP4.out.wi (Nat.le_trans HS4.out (by omega)) b.A2 b.V.length b.c2 b.V rfl HQ.out.2.2.2.1 HQ.out.2.2.2.2 (fun x hx => (adds_vd (HQ.out.2.2.2.2 x hx).1).mono (by omega)) 7).mono ?_
  rintro e V5 ⟨rfl, q4⟩
  have HP5 := Lib.hid (HP4.out.trans q4)
  clear q4 k0 k6
  go_wp2_with fail
  go_end0
  exact ⟨rfl, HCl.out _ _ HP5.out⟩

end
end Go.Proofs.YtmoebkdbnldbdaaGreatDoor
