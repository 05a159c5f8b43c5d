/-
  Several texts in one: OuB, OuI.
-/
import Derived.Test.YtpdfkgmgmndcfaaGreatDoorM20M
import Derived.Test.YtpdfkgmgmndcfaaGreatDoorM20C
import Derived.Test.YtpdfkgmgmndcfaaGreatDoorM20o
/-
  The document's own bytes and id of a block without lists.
-/
namespace Go.Proofs.YtpdfkgmgmndcfaaGreatDoor
open Go.RowKit

theorem sz_QCo : (Tryz.prog.info? 41).map (·.size) = some 19 := by kernel_rfl
section
variable {w0 w w' w'' : World} {g : Nat} {F : Nat → Prop} {s s' : WSt}
theorem omany_lit {zn zm : Int} {n most : Nat} (hz : zn = (n : Int)) (hm : zm = (most : Int)) (h : OI w0 g F s w) (hs : s.2.length ≤ 70368744177664) (hn : n ≤ 1000000) (hmo : most ≤ 255) :
    Calls Tryz.prog 42 #[.pointer (some ⟨g, 0, none⟩), .int .i64 zn, .int .i64 zm] w fun e w' => e = .returned (.tuple #[]) ∧ OP w0 g F (sMany n zm s) w w' := by
  subst hz hm
  exact omany_st h hs n hn most hmo
theorem adds_lit {z : Int} {k : Nat} (hz : z = (k : Int)) (n : Int) (s : WSt) : (sNum n z s).2.length ≤ s.2.length + k := by
  subst hz
  exact adds_num n k s
theorem adds_many (n : Nat) (most : Int) (s : WSt) : (sMany n most s).2.length ≤ s.2.length + 1 := by
  unfold sMany
  split
  · have := adds_fail 1 0 s
    omega
  · exact adds_num (n : Int) 1 s
set_option maxRecDepth 100000 in
set_option maxHeartbeats 1000000 in
theorem oqc0_st (w : World) (F : Nat → Prop) (s : WSt) (h : OI w0 g F s w) (hs : s.2.length ≤ 900000) (a b : Int) (ha : a ≤ 9223372036854775807) (hb : b ≤ 9223372036854775807) (d : List Int) (hd : isDig d) (A : Option Addr) (c : Nat) (cs : Array Value) (hcs : cs = #[.int .i64 a, .int .i64 b] ++ (arrV .u8 d ++ #[.slice A 0 c])) :
    Calls Tryz.prog 41 #[.pointer (some ⟨g, 0, none⟩), .agg cs] w fun e w' => e = .returned (.tuple #[]) ∧ OP w0 g F ((fun s => sMany 0 7 (sDig d (sNum b 6 (sNum a 4 s)))) s) w w' := by
  obtain ⟨kd, hkd⟩ : ∃ kd, kd = arrV .u8 d := ⟨_, rfl⟩
  have hks : kd.size = 16 := by rw [hkd, arr_size, hd.1]
  have hcl : cs.toList = [.int .i64 a, .int .i64 b] ++ (kd.toList ++ [.slice A 0 c]) := by rw [hcs, hkd]; simp
  have H3 := Lib.hid (And.intro hks (And.intro hkd hd))
  have HI := Lib.hid (And.intro ha hb)
  obtain ⟨W1, hW1⟩ : ∃ W1, w.alloc (.cells cs 41) = W1 := ⟨_, rfl⟩
  have g1 : w.grownBy W1 none := by rw [← hW1]; exact World.grownBy_alloc _ _ none
  have bx : Blk W1 w.heap.size 41 cs := by rw [← hW1]; exact Blk.new w _ _
  have hi := h.opened g1
  have HCl := Lib.hid (fun (w2 : World) (s2 : WSt) (P : OP w0 g (fun k => F k ∧ k < w.heap.size) s2 W1 w2) => OP.closed (F := F) h g1 P)
  have HB := Lib.hid (fun (V : World) (s' : WSt) (P : OP w0 g (fun k => F k ∧ k < w.heap.size) s' W1 V) => (show V.cell? ⟨w.heap.size, 0, none⟩ = some (.int .i64 a) ∧ V.cell? ⟨w.heap.size, 1, none⟩ = some (.int .i64 b) ∧ V.rangeAt w.heap.size 2 kd.toList ∧ V.cell? ⟨w.heap.size, 18, none⟩ = some (.slice A 0 c) from
    by
      have bx : Blk V w.heap.size 41 cs := bx.kept P.fine (fun h => absurd h.2 (by omega))
      have r := range_blk0 bx
      exact ⟨by have := r 0 (.int .i64 a) (by rw [hcl]; rfl); simpa using this, by have := r 1 (.int .i64 b) (by rw [hcl]; rfl); simpa using this, by rw [hcl] at r; have := range_seg r; simpa using this, by have := r 18 (.slice A 0 c) (by rw [hcl, List.getElem?_append_right (by simp), List.getElem?_append_right (by simp [hks])]; simp [hks]); simpa using this⟩))
  have HP0 := Lib.hid hi.same
  have HS0 := Lib.hid hs
  have HW := Lib.hid hW1
  clear h hi bx g1 hW1 hs hcs hks hkd hcl hd ha hb
  go_enter Tryz.func41, Tryz.ntmps41
  go_upto_region 1 with (fail)
  rw [HW.out]
  obtain ⟨k0, k1, k2, k3⟩ := HB.out _ _ HP0.out
  clear k1 k2 k3
  go_wp2_with fail
  refine (onum_lit (z := 4) (k := 4) rfl HP0.out.wi (Nat.le_trans HS0.out (by omega)) (n := a) HI.out.1 (by omega) (by omega)).mono ?_
  rintro e V1 ⟨rfl, q0⟩
  have HP1 := Lib.hid (HP0.out.trans q0)
  clear q0 k0
  have HS1 := Lib.hid (show (sNum a 4 (s)).2.length ≤ 901000 from by have h1 := adds_lit (z := 4) (k := 4) rfl (a) (s); have h2 := HS0.out; omega)
  obtain ⟨k0, k1, k2, k3⟩ := HB.out _ _ HP1.out
  clear k0 k2 k3
  go_wp2_with fail
  refine (onum_lit (z := 6) (k := 6) rfl HP1.out.wi (Nat.le_trans HS1.out (by omega)) (n := b) HI.out.2 (by omega) (by omega)).mono ?_
  rintro e V2 ⟨rfl, q1⟩
  have HP2 := Lib.hid (HP1.out.trans q1)
  clear q1 k1
  have HS2 := Lib.hid (show (sNum b 6 (sNum a 4 (s))).2.length ≤ 902000 from by have h1 := adds_lit (z := 6) (k := 6) rfl (b) (sNum a 4 (s)); have h2 := HS1.out; omega)
  obtain ⟨k0, k1, k2, k3⟩ := HB.out _ _ HP2.out
  clear k0 k1 k3
  have HR := Lib.hid k2
  clear k2
  go_wp2_with (refine wpList_load_mid rfl 24 _ rfl w.heap.size 2 rfl (kd.toList) _ HR.out Tryz.underlying24 rfl (by rw [Array.length_toList, H3.out.1]; exact sz_Dg) ?_; rw [Array.toArray_toList])
  refine (odig_st HP2.out.wi (Nat.le_trans HS2.out (by omega)) d H3.out.2.2 kd H3.out.2.1).mono ?_
  rintro e V3 ⟨rfl, q2⟩
  have HP3 := Lib.hid (HP2.out.trans q2)
  clear q2
  have HS3 := Lib.hid (show (sDig d (sNum b 6 (sNum a 4 (s)))).2.length ≤ 903000 from by have h1 := adds_dig H3.out.2.2.1 (sNum b 6 (sNum a 4 (s))); have h2 := HS2.out; omega)
  obtain ⟨k0, k1, k2, k3⟩ := HB.out _ _ HP3.out
  clear k0 k1 k2
  go_wp2_with fail
  refine (omany_lit (zn := 0) (n := 0) rfl (zm := 7) (most := 7) rfl HP3.out.wi (Nat.le_trans HS3.out (by omega)) (by omega) (by omega)).mono ?_
  rintro e V4 ⟨rfl, q3⟩
  have HP4 := Lib.hid (HP3.out.trans q3)
  clear q3 k3
  obtain ⟨k0, k1, k2, k3⟩ := HB.out _ _ HP4.out
  clear k0 k1 k2
  go_wp2_with fail
  go_loopw [26] (fun i wr => i = .int .i64 0 ∧ wr = V4) (fun _ _ => 0)
  case atStart => exact ⟨rfl, rfl⟩
  case round =>
    obtain ⟨rfl, rfl⟩ := hrel
    go_wp2_with fail
    go_end0
    exact ⟨rfl, HCl.out _ _ HP4.out⟩
set_option maxRecDepth 100000 in
set_option maxHeartbeats 1000000 in
theorem oblk0_st (w : World) (F : Nat → Prop) (s : WSt) (h : OI w0 g F s w) (hs : s.2.length ≤ 800000) (a : Int) (ha : a ≤ 9223372036854775807) (p : List Int) (hp : isDig p) (cs : Array Value) (hcs : cs = genV a (arrV .u8 p)) :
    Calls Tryz.prog 30 #[.pointer (some ⟨g, 0, none⟩), .agg cs] w fun e w' => e = .returned (.tuple #[]) ∧ OP w0 g F ((fun s => sMany 0 7 (sMany 0 4 (sMany 0 7 (sDig (List.replicate 16 0) (sNum 0 6 (sNum 0 4 (sDig p (sNum 0 6 (sNum a 4 s))))))))) s) w w' := by
  obtain ⟨kd, hkd⟩ : ∃ kd, kd = arrV .u8 p := ⟨_, rfl⟩
  obtain ⟨qv, hqv⟩ : ∃ qv, qv = (#[.int .i64 0, .int .i64 0] : Array Value) ++ (arrV .u8 (List.replicate 16 0) ++ #[.slice none 0 0]) := ⟨_, rfl⟩
  have hks : kd.size = 16 := by rw [hkd, arr_size, hp.1]
  have hqs : qv.size = 19 := by rw [hqv]; simp [arr_size]
  have hcl : cs.toList = [.int .i64 a, .int .i64 0] ++ (kd.toList ++ (qv.toList ++ [.slice none 0 0, .slice none 0 0])) := by rw [hcs, hkd, hqv]; simp [genV]
  have hcl2 : cs.toList = ([.int .i64 a, .int .i64 0] ++ kd.toList) ++ (qv.toList ++ [.slice none 0 0, .slice none 0 0]) := by rw [hcl]; simp
  have hl18 : ([Value.int .i64 a, Value.int .i64 0] ++ kd.toList).length = 18 := by simp [hks]
  have H3 := Lib.hid (And.intro hks (And.intro hkd (And.intro hqs (And.intro hqv (And.intro hp ha)))))
  obtain ⟨W1, hW1⟩ : ∃ W1, w.alloc (.cells cs 44) = W1 := ⟨_, rfl⟩
  have g1 : w.grownBy W1 none := by rw [← hW1]; exact World.grownBy_alloc _ _ none
  have bx : Blk W1 w.heap.size 44 cs := by rw [← hW1]; exact Blk.new w _ _
  have hi := h.opened g1
  have HCl := Lib.hid (fun (w2 : World) (s2 : WSt) (P : OP w0 g (fun k => F k ∧ k < w.heap.size) s2 W1 w2) => OP.closed (F := F) h g1 P)
  have HB := Lib.hid (fun (V : World) (s' : WSt) (P : OP w0 g (fun k => F k ∧ k < w.heap.size) s' W1 V) => (show V.cell? ⟨w.heap.size, 0, none⟩ = some (.int .i64 a) ∧ V.cell? ⟨w.heap.size, 1, none⟩ = some (.int .i64 0) ∧ V.rangeAt w.heap.size 2 kd.toList ∧ V.rangeAt w.heap.size 18 qv.toList ∧ V.cell? ⟨w.heap.size, 37, none⟩ = some (.slice none 0 0) ∧ V.cell? ⟨w.heap.size, 38, none⟩ = some (.slice none 0 0) from
    by
      have bx : Blk V w.heap.size 44 cs := bx.kept P.fine (fun h => absurd h.2 (by omega))
      have r := range_blk0 bx
      exact ⟨by have := r 0 (.int .i64 a) (by rw [hcl]; rfl); simpa using this, by have := r 1 (.int .i64 0) (by rw [hcl]; rfl); simpa using this, by rw [hcl] at r; have := range_seg r; simpa using this, by rw [hcl2] at r; have := range_seg r; rw [hl18] at this; simpa using this, by have := r 37 (.slice none 0 0) (by rw [hcl2, List.getElem?_append_right (by rw [hl18]; omega), hl18, List.getElem?_append_right (by simp [hqs])]; simp [hqs]); simpa using this, by have := r 38 (.slice none 0 0) (by rw [hcl2, List.getElem?_append_right (by rw [hl18]; omega), hl18, List.getElem?_append_right (by simp [hqs])]; simp [hqs]); simpa using this⟩))
  have HP0 := Lib.hid hi.same
  have HS0 := Lib.hid hs
  have HW := Lib.hid hW1
  clear h hi bx g1 hW1 hs hcs hks hkd hcl hcl2 hl18 hp ha hqs hqv
  go_enter Tryz.func30, Tryz.ntmps30
  go_upto_region 1 with (fail)
  rw [HW.out]
  obtain ⟨k0, k1, k2, k3, k4, k5⟩ := HB.out _ _ HP0.out
  clear k1 k2 k3 k4 k5
  go_wp2_with fail
  refine (onum_lit (z := 4) (k := 4) rfl HP0.out.wi (Nat.le_trans HS0.out (by omega)) (n := a) H3.out.2.2.2.2.2 (by omega) (by omega)).mono ?_
  rintro e V1 ⟨rfl, q0⟩
  have HP1 := Lib.hid (HP0.out.trans q0)
  clear q0 k0
  have HS1 := Lib.hid (show (sNum a 4 (s)).2.length ≤ 801000 from by have h1 := adds_lit (z := 4) (k := 4) rfl (a) (s); have h2 := HS0.out; omega)
  obtain ⟨k0, k1, k2, k3, k4, k5⟩ := HB.out _ _ HP1.out
  clear k0 k2 k3 k4 k5
  go_wp2_with fail
  refine (onum_lit (z := 6) (k := 6) rfl HP1.out.wi (Nat.le_trans HS1.out (by omega)) (n := 0) (by omega) (by omega) (by omega)).mono ?_
  rintro e V2 ⟨rfl, q1⟩
  have HP2 := Lib.hid (HP1.out.trans q1)
  clear q1 k1
  have HS2 := Lib.hid (show (sNum 0 6 (sNum a 4 (s))).2.length ≤ 802000 from by have h1 := adds_lit (z := 6) (k := 6) rfl (0) (sNum a 4 (s)); have h2 := HS1.out; omega)
  obtain ⟨k0, k1, k2, k3, k4, k5⟩ := HB.out _ _ HP2.out
  clear k0 k1 k3 k4 k5
  have HR := Lib.hid k2
  clear k2
  go_wp2_with (refine wpList_load_mid rfl 24 _ rfl w.heap.size 2 rfl (kd.toList) _ HR.out Tryz.underlying24 rfl (by rw [Array.length_toList, H3.out.1]; exact sz_Dg) ?_; rw [Array.toArray_toList])
  refine (odig_st HP2.out.wi (Nat.le_trans HS2.out (by omega)) p H3.out.2.2.2.2.1 kd H3.out.2.1).mono ?_
  rintro e V3 ⟨rfl, q2⟩
  have HP3 := Lib.hid (HP2.out.trans q2)
  clear q2
  have HS3 := Lib.hid (show (sDig p (sNum 0 6 (sNum a 4 (s)))).2.length ≤ 803000 from by have h1 := adds_dig H3.out.2.2.2.2.1.1 (sNum 0 6 (sNum a 4 (s))); have h2 := HS2.out; omega)
  obtain ⟨k0, k1, k2, k3, k4, k5⟩ := HB.out _ _ HP3.out
  clear k0 k1 k2 k4 k5
  have HR := Lib.hid k3
  clear k3
  go_wp2_with (refine wpList_load_mid rfl 41 _ rfl w.heap.size 18 rfl (qv.toList) _ HR.out Tryz.underlying41 rfl (by rw [Array.length_toList, H3.out.2.2.1]; exact sz_QCo) ?_; rw [Array.toArray_toList])
  refine (oqc0_st _ _ _ HP3.out.wi (Nat.le_trans HS3.out (by omega)) 0 0 (by omega) (by omega) _ zeroC_dig none 0 qv H3.out.2.2.2.1).mono ?_
  rintro e V4 ⟨rfl, q3⟩
  have HP4 := Lib.hid (HP3.out.trans q3)
  clear q3
  have HS4 := Lib.hid (show ((sMany 0 7 (sDig (List.replicate 16 0) (sNum 0 6 (sNum 0 4 (sDig p (sNum 0 6 (sNum a 4 (s))))))))).2.length ≤ 804000 from by have h1 := adds_many 0 7 (sDig (List.replicate 16 0) (sNum 0 6 (sNum 0 4 (sDig p (sNum 0 6 (sNum a 4 (s))))))); have h2 := adds_dig (d := List.replicate 16 0) rfl (sNum 0 6 (sNum 0 4 (sDig p (sNum 0 6 (sNum a 4 (s)))))); have h3 := adds_lit (z := 6) (k := 6) rfl 0 (sNum 0 4 (sDig p (sNum 0 6 (sNum a 4 (s))))); have h4 := adds_lit (z := 4) (k := 4) rfl 0 (sDig p (sNum 0 6 (sNum a 4 (s)))); have h5 := HS3.out; omega)
  obtain ⟨k0, k1, k2, k3, k4, k5⟩ := HB.out _ _ HP4.out
  clear k0 k1 k2 k3 k5
  go_wp2_with fail
  refine (omany_lit (zn := 0) (n := 0) rfl (zm := 4) (most := 4) rfl HP4.out.wi (Nat.le_trans HS4.out (by omega)) (by omega) (by omega)).mono ?_
  rintro e V5 ⟨rfl, q4⟩
  have HP5 := Lib.hid (HP4.out.trans q4)
  clear q4 k4
  have HS5 := Lib.hid (show (sMany 0 4 (sMany 0 7 (sDig (List.replicate 16 0) (sNum 0 6 (sNum 0 4 (sDig p (sNum 0 6 (sNum a 4 (s))))))))).2.length ≤ 805000 from by have h1 := adds_many 0 4 (sMany 0 7 (sDig (List.replicate 16 0) (sNum 0 6 (sNum 0 4 (sDig p (sNum 0 6 (sNum a 4 (s)))))))); have h2 := HS4.out; omega)
  obtain ⟨k0, k1, k2, k3, k4, k5⟩ := HB.out _ _ HP5.out
  clear k0 k1 k2 k3 k5
  go_wp2_with fail
  go_loopw [32] (fun i wr => i = .int .i64 0 ∧ wr = V5) (fun _ _ => 0)
  case atStart => exact ⟨rfl, rfl⟩
  case round =>
    obtain ⟨rfl, rfl⟩ := hrel
    clear k4
    obtain ⟨k0, k1, k2, k3, k4, k5⟩ := HB.out _ _ HP5.out
    clear k0 k1 k2 k3 k4
    go_wp2_with fail
    refine (omany_lit (zn := 0) (n := 0) rfl (zm := 7) (most := 7) rfl HP5.out.wi (Nat.le_trans HS5.out (by omega)) (by omega) (by omega)).mono ?_
    rintro e V6 ⟨rfl, q5⟩
    have HP6 := Lib.hid (HP5.out.trans q5)
    clear q5 k5
    obtain ⟨k0, k1, k2, k3, k4, k5⟩ := HB.out _ _ HP6.out
    clear k0 k1 k2 k3 k4
    go_wp2_with fail
    go_loopw [76] (fun i wr => i = .int .i64 0 ∧ wr = V6) (fun _ _ => 0)
    case atStart => exact ⟨rfl, rfl⟩
    case round =>
      obtain ⟨rfl, rfl⟩ := hrel
      go_wp2_with fail
      go_end0
      exact ⟨rfl, HCl.out _ _ HP6.out⟩
end
end Go.Proofs.YtpdfkgmgmndcfaaGreatDoor
/-
  The document's own bytes and id of an epoch's first block.
-/
namespace Go.Proofs.YtpdfkgmgmndcfaaGreatDoor
open Go.RowKit

theorem sMany_zero {most : Int} (hm : 0 ≤ most) (s : WSt) : sMany 0 most s = sNum 0 1 s := by
  unfold sMany
  rw [if_neg (by omega)]
  rfl
theorem genS_many (e : Int) (p : List Int) (s : WSt) : sMany 0 7 (sMany 0 4 (sMany 0 7 (sDig (List.replicate 16 0) (sNum 0 6 (sNum 0 4 (sDig p (sNum 0 6 (sNum e 4 s)))))))) = sBk (genB e p) s := by
  rw [genS_is, sMany_zero (by omega), sMany_zero (by omega), sMany_zero (by omega)]
  rfl
theorem out_build (w : World) : Sem.run Tryz.prog (Instr.build 75 #[]) w = .ok (.agg #[.slice none 0 0, .int .i64 0]) w := by
  refine run_build w 75 _ _ ?_
  kernel_rfl
theorem sz_Bko : (Tryz.prog.info? 44).map (·.size) = some 39 := by kernel_rfl
theorem genV_size (e : Int) {D : Array Value} (h : D.size = 16) : (genV e D).size = 39 := by simp [genV, h, arr_size]
theorem odone_ok {w : World} {F : Nat → Prop} {g : Nat} {l : List UInt8} (h : OutIs w F g (0, l)) :
    Calls Tryz.prog 31 #[.pointer (some ⟨g, 0, none⟩)] w fun e w' => w = w' ∧ ∃ A c, e = .returned (.tuple #[.slice A l.length c, .int .i64 0]) ∧ l.length ≤ c ∧ BytesAt w A l := by
  obtain ⟨_, bA, bc, hb, hown, _⟩ := h
  have c0 := hb.cell 0
  have c1 := hb.cell 1
  simp at c0 c1
  have HO := Lib.hid (And.intro (own_cap hown) (own_bytesAt hown))
  clear hb hown
  go_enter Tryz.func31, Tryz.ntmps31
  go_wp2_with fail
  go_ret2
  exact ⟨rfl, bA, bc, rfl, HO.out.1, HO.out.2⟩
set_option maxRecDepth 100000 in
set_option maxHeartbeats 1000000 in
theorem rbytes_gen (w : World) (a : Int) (h0 : 0 ≤ a) (ha : a < 4294967296) (p : List Int) (hp : isDig p) (cs : Array Value) (hcs : cs = genV a (arrV .u8 p)) :
    Calls Tryz.prog 22 #[.agg cs] w fun e w' => w.grownBy w' none ∧ ∃ A c, e = .returned (.tuple #[.slice A (bkS (genB a p)).2.length c, .int .i64 0]) ∧ (bkS (genB a p)).2.length ≤ c ∧ BytesAt w' A (bkS (genB a p)).2 := by
  have hob := out_build
  have hsz : cs.size = 39 := by rw [hcs]; exact genV_size a (by rw [arr_size, hp.1])
  obtain ⟨W2, hW2⟩ : ∃ W2, (w.alloc (.cells cs 44)).alloc (.cells #[.slice none 0 0, .int .i64 0] 75) = W2 := ⟨_, rfl⟩
  have g2 : w.grownBy W2 none := by rw [← hW2]; exact grown_trans (World.grownBy_alloc _ _ none) (World.grownBy_alloc _ _ none)
  have bx : Blk W2 w.heap.size 44 cs := by rw [← hW2]; exact (Blk.new w _ _).alloc _
  have bo : Blk W2 (w.heap.size + 1) 75 #[.slice none 0 0, .int .i64 0] := by
    have := Blk.new (w.alloc (.cells cs 44)) 75 #[.slice none 0 0, .int .i64 0]
    rw [← hW2]; simpa using this
  have hi : OI w (w.heap.size + 1) (fun k => w.heap.size + 1 ≤ k) (0, []) W2 :=
    ⟨⟨Nat.le_refl _, none, 0, bo, World.ownsRow_nil _ _ _ _, fun _ h => by cases h⟩, fun k hk => by omega, Kept.of_grown g2 fun _ e => by cases e⟩
  have HB := Lib.hid (oblk0_st W2 _ _ hi (by simp) a (by omega) p hp cs hcs)
  have HX := Lib.hid (And.intro hsz (range_blk0 bx))
  have HW := Lib.hid hW2
  have HG := Lib.hid g2
  obtain ⟨l, hl⟩ : ∃ l, bkS (genB a p) = (0, l) := ⟨(bkS (genB a p)).2, by rw [← (gen_ok hp.1 h0 ha).1]⟩
  have HK := Lib.hid (show sBk (genB a p) (0, []) = (0, l) from hl)
  rw [hl]
  clear hi hsz bx bo g2 hW2 hcs hl
  go_enter Tryz.func22, Tryz.ntmps22
  go_upto_region 2 with (fail)
  rw [HW.out]
  go_wp2_with (refine wpList_load_mid rfl 44 _ rfl w.heap.size 0 rfl cs.toList _ HX.out.2 Tryz.underlying44 rfl (by rw [Array.length_toList, HX.out.1]; exact sz_Bko) ?_; rw [Array.toArray_toList])
  refine HB.out.mono ?_
  rintro e W3 ⟨rfl, P⟩
  obtain ⟨F9, hP⟩ : ∃ F9, OI w (w.heap.size + 1) F9 (0, l) W3 := ⟨_, by
    have := P.wi
    rw [genS_many, HK.out] at this
    exact this⟩
  have g3 : w.grownBy W3 none := hP.kept.grownNone fun k hk hn => by show False; exact absurd hk (by simpa using hn)
  have HD := Lib.hid (And.intro (odone_ok hP.wr) g3)
  clear P hP g3
  go_wp2_with fail
  refine HD.out.1.mono ?_
  rintro e W4 ⟨rfl, A, c, rfl, hc, hb⟩
  have HE := Lib.hid (And.intro hc hb)
  clear hc hb
  go_wp2_with fail
  go_ret2
  exact ⟨HD.out.2, A, c, rfl, HE.out.1, HE.out.2⟩
set_option maxRecDepth 100000 in
set_option maxHeartbeats 1000000 in
/-- The document's id of an epoch's first block. -/
theorem rid_gen (w : World) (a : Int) (h0 : 0 ≤ a) (ha : a < 4294967296) (p : List Int) (hp : isDig p) (cs : Array Value) (hcs : cs = genV a (arrV .u8 p)) (dv : Array Value) (hdv : dv = arrV .u8 (idD (genB a p))) :
    Calls Tryz.prog 15 #[.agg cs] w fun e w' => e = .returned (.tuple #[.agg dv, .int .i64 0]) ∧ w.grownBy w' none := by
  obtain ⟨Z, hZ⟩ : ∃ Z, Z = arrV .u8 (List.replicate 16 0) := ⟨_, rfl⟩
  have hz : ∀ w, Sem.run Tryz.prog (zeroValue 24) w = .ok (.agg Z) w := fun w => by rw [hZ]; exact z16run w
  have hZ16 : Z.size = 16 := by rw [hZ]; rfl
  have hd16 : dv.size = 16 := by rw [hdv, arr_size, idD_length]
  have hd1 : (dv.all fun v => v.oneCell') = true := by rw [hdv]; exact arr_one _ _
  have hsz : cs.size = 39 := by rw [hcs]; exact genV_size a (by rw [arr_size, hp.1])
  obtain ⟨W1, hW1⟩ : ∃ W1, (w.alloc (.cells cs 44)).alloc (.cells Z 24) = W1 := ⟨_, rfl⟩
  have g1 : w.grownBy W1 none := by rw [← hW1]; exact grown_trans (World.grownBy_alloc _ _ none) (World.grownBy_alloc _ _ none)
  have bx : Blk W1 w.heap.size 44 cs := by rw [← hW1]; exact (Blk.new w _ _).alloc _
  have bd : Blk W1 (w.heap.size + 1) 24 Z := by
    have := Blk.new (w.alloc (.cells cs 44)) 24 Z
    rw [← hW1]; simpa using this
  obtain ⟨hk0, hkl⟩ := gen_ok hp.1 h0 ha
  obtain ⟨L, hL⟩ : ∃ L, (bkS (genB a p)).2 = L := ⟨_, rfl⟩
  have HR := Lib.hid (rbytes_gen W1 a h0 ha p hp cs hcs)
  have hid : idD (genB a p) = ofS 6 [intsB L] := by rw [idD_ok hk0, hL]
  rw [hL] at HR hkl
  obtain ⟨S, hS⟩ : ∃ S : ByteArray, xsOf S = intsB L := ⟨⟨L.toArray⟩, xsOf_mk L⟩
  have hSs : S.size = 55 := by
    have := congrArg List.length hS
    rw [xsOf_length, intsB, List.length_map, hkl] at this
    exact this
  have HX := Lib.hid (And.intro hsz (range_blk0 bx))
  have HS := Lib.hid (And.intro hS (And.intro hSs hkl))
  have HD := Lib.hid (And.intro (hdv.trans (by rw [hid])) (And.intro hd16 (And.intro hd1 hZ16)))
  have HW := Lib.hid hW1
  have HG := Lib.hid (And.intro g1 bd)
  clear hsz bx hS hSs hkl hdv hd16 hd1 hZ16 hW1 g1 bd hid hk0 hL hcs hZ
  go_enter Tryz.func15, Tryz.ntmps15
  go_upto_region 1 with (fail)
  rw [HW.out]
  go_wp2_with (refine wpList_load_mid rfl 44 _ rfl w.heap.size 0 rfl cs.toList _ HX.out.2 Tryz.underlying44 rfl (by rw [Array.length_toList, HX.out.1]; exact sz_Bko) ?_; rw [Array.toArray_toList])
  refine HR.out.mono ?_
  rintro e W2 ⟨g2, A, c, rfl, hc, hb⟩
  have hcv := str_run W2 A L.length c S (by rw [HS.out.2.1, HS.out.2.2]) (by rw [HS.out.1]; exact BytesI.of hb)
  obtain ⟨W3, hW3⟩ : ∃ W3, W2.alloc (.cells #[.string S] 9) = W3 := ⟨_, rfl⟩
  have g3 : W2.grownBy W3 none := by rw [← hW3]; exact World.grownBy_alloc _ _ none
  have b3 : Blk W3 W2.heap.size 9 #[.string S] := by rw [← hW3]; exact Blk.new _ _ _
  have HO := Lib.hid (rof_is W3 6 (some ⟨W2.heap.size, 0, none⟩) 1 1 [S] rfl (fun j hj => by
      obtain rfl : j = 0 := by simpa using hj
      exact ⟨_, rfl, by rw [Go.WideShapes.add_plain, b3.cell]; rfl⟩) (by omega) (fun t ht => by obtain rfl := List.mem_singleton.1 ht; rw [HS.out.2.1]; omega) (by
      have := framedL_le 6 55 ([S].map xsOf) (fun q hq => by
        obtain rfl := List.mem_singleton.1 hq
        rw [xsOf_length, HS.out.2.1]; omega)
      simp only [List.map_cons, List.map_nil, List.length_cons, List.length_nil] at this ⊢
      omega))
  have HW3 := Lib.hid hW3
  have HG3 := Lib.hid (And.intro (grown_trans (grown_trans HG.out.1 g2) g3) (HG.out.2.grown (grown_trans g2 g3) (by simp)))
  have hv : arrV .u8 (ofS 6 ([S].map xsOf)) = dv := by rw [HD.out.1]; simp [HS.out.1]
  rw [hv] at HO
  clear g2 g3 hc hb b3 hW3 hv
  go_wp2_with fail
  rw [HW3.out]
  refine HO.out.mono ?_
  rintro e W4 ⟨rfl, g4⟩
  have HG4 := Lib.hid (And.intro (grown_trans HG3.out.1 g4) (HG3.out.2.grown g4 (by simp)))
  clear g4
  go_wp2_with (refine wpList_store_row rfl 24 _ _ rfl (w.heap.size + 1) dv rfl rfl 24 _ HG4.out.2 (by rw [HD.out.2.1]; exact sz_Dg) (by rw [HD.out.2.1, HD.out.2.2.2]) HD.out.2.2.1 ?_)
  refine bodyPost_ret (results_cell_t rfl _ _ _ ⟨w.heap.size + 1, 0, none⟩ (.agg dv) rfl (run_loadVar_row _ (w.heap.size + 1) 24 24 _ (0, 0) _ (HG4.out.2.row _) Tryz.underlying24 rfl (by rw [HD.out.2.1]; exact sz_Dg))) rfl ?_
  exact ⟨rfl, grown_row HG4.out.1 (.inl (by omega)) _⟩
end Go.Proofs.YtpdfkgmgmndcfaaGreatDoor
