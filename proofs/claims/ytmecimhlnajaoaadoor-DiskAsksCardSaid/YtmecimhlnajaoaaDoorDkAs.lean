/-
  DiskAsks, walked.
-/
import Derived.Test.YtmecimhlnajaoaaDoorDkE
import Derived.Test.YtmecimhlnajaoaaDoorArgI
namespace Go.Proofs.YtmecimhlnajaoaaDoor
open Go.RowKit Go.Maps

set_option maxRecDepth 100000 in
set_option maxHeartbeats 1000000 in
theorem asks_any (w : World) (L0 : Int) (A : Option Addr) (n c : Nat) (rd : List Int) (er ep : Addr) (hn : rd.length = n) (hrd : IntsAt w A rd) (her : ErrAt w w.heap.size 0 er) (hep : ErrAt w w.heap.size 5 ep) :
    Calls Tryd.prog 7 #[.int .i64 L0, .slice A n c] w fun e w' => e = .returned (.bool true) ∧ w.grownBy w' none := by
  obtain ⟨e9, he9⟩ : ∃ es, ((firstR 1).map (Value.int .u8)).toArray = es := ⟨_, rfl⟩
  have hL9 : (#[Value.int .u8 (1), Value.int .u8 0, Value.int .u8 0, Value.int .u8 0, Value.int .u8 0, Value.int .u8 0, Value.int .u8 0, Value.int .u8 0, Value.int .u8 0, Value.int .u8 0, Value.int .u8 0, Value.int .u8 0, Value.int .u8 0, Value.int .u8 0, Value.int .u8 0, Value.int .u8 0, Value.int .u8 0, Value.int .u8 0, Value.int .u8 0, Value.int .u8 0, Value.int .u8 0, Value.int .u8 0, Value.int .u8 0, Value.int .u8 0, Value.int .u8 0, Value.int .u8 0, Value.int .u8 0, Value.int .u8 0, Value.int .u8 0, Value.int .u8 0, Value.int .u8 0, Value.int .u8 0, Value.int .u8 0, Value.int .u8 0, Value.int .u8 0, Value.int .u8 0, Value.int .u8 0, Value.int .u8 0, Value.int .u8 0, Value.int .u8 0, Value.int .u8 0, Value.int .u8 0, Value.int .u8 0, Value.int .u8 0, Value.int .u8 0, Value.int .u8 0, Value.int .u8 0, Value.int .u8 0, Value.int .u8 0, Value.int .u8 0, Value.int .u8 0, Value.int .u8 0, Value.int .u8 0, Value.int .u8 0, Value.int .u8 0, Value.int .u8 0, Value.int .u8 0, Value.int .u8 0, Value.int .u8 0, Value.int .u8 0, Value.int .u8 0, Value.int .u8 0, Value.int .u8 0, Value.int .u8 0] : Array Value) = e9 := by rw [← he9]; rfl
  obtain ⟨L, hL, hL20⟩ := u_mod L0 20 (by omega)
  have HE := Lib.hid (And.intro her (And.intro hep (And.intro he9 (And.intro hn (And.intro hrd hL)))))
  clear her hep he9 hL hrd hn
  refine (callsIn_wide (n := 9)).1 ?_
  refine callsIn_of_wp Tryd.func7 rfl trivial ?_ rfl
  simp only [Tryd.ntmps7, List.size_toArray, List.length_cons, List.length_nil, Nat.reduceAdd, Nat.reduceSub, Array.replicate_succ, Array.replicate_zero, List.push_toArray, List.append_toArray, List.nil_append, List.cons_append]
  gi_wp2
  refine ⟨trivial, ?_⟩
  refine (callsIn_wide.2 (alive_is w er ep HE.out.1 HE.out.2.1)).mono ?_
  rintro e w1 ⟨rfl, k1⟩
  have K1 := Lib.hid k1
  clear k1
  by_cases h60 : 60 < n
  · have d1 : decide ((60 : Int) < (n : Int)) = true := by simp; omega
    gi_wp2
    go_ret
    exact ⟨rfl, K1.out⟩
  have d1 : decide ((60 : Int) < (n : Int)) = false := by simp; omega
  gi_wp2
  rw [HE.out.2.2.2.2.2]
  refine ⟨trivial, ?_⟩
  refine (callsIn_wide.2 (dsk_new w w1 (Kept.of_grown (F := fun j => w.heap.size ≤ j) K1.out (fun _ e => by cases e)) 20 (by omega) er HE.out.1)).mono ?_
  rintro e w2 ⟨k2, d, b, m, rfl, hd, _⟩
  have H2 := Lib.hid hd
  clear k2 hd
  gi_wp2
  refine ⟨trivial, ?_⟩
  refine (callsIn_wide.2 (dsk_arm H2.out (L : Int) (by omega))).mono ?_
  rintro e w3 ⟨rfl, hd, _⟩
  rw [pwS_arm 20 L (firstR 1)] at hd
  have H3 := Lib.hid hd
  clear hd
  gi_wp2
  gi_loopw [30] (fun i wr => ∃ k : Nat, k ≤ n ∧ i = .int .i64 (k : Int) ∧ Dsk w wr d b m (pwS 20 L 0 (firstR 1))) (fun i _ => n - (intOf i).toNat)
  case atStart => exact ⟨0, by omega, rfl, H3.out⟩
  case round =>
    obtain ⟨k, hkN, rfl, hd⟩ := hrel
    rename World => wx
    have HD := Lib.hid hd
    clear hd
    by_cases hlt : k < n
    · have d2 : decide ((k : Int) < (n : Int)) = true := by simp; omega
      have hkl : k < rd.length := by rw [HE.out.2.2.2.1]; exact hlt
      obtain ⟨bR, oR, rfl, hcR⟩ := IntsAt.get HE.out.2.2.2.2.1 (by rintro rfl; simp at hkl)
      have xR0 := hcR k hkl
      have hbR : bR < w.heap.size := World.block_lt_of_cell? w _ xR0
      have xR1 := HD.out.2.1.cell xR0 (show ¬ (w.heap.size ≤ bR) by omega)
      obtain ⟨rk, xR⟩ : ∃ rk, wx.cell? ⟨bR, oR + k, none⟩ = some (.int .i64 rk) := ⟨_, xR1⟩
      clear xR0 hcR xR1 hbR
      gi_wp2
      refine ⟨trivial, ?_⟩
      refine (callsIn_wide.2 (dsk_read HD.out HE.out.1 HE.out.2.1 rk)).mono ?_
      rintro e w4 ⟨rfl, k4⟩
      have H4 := Lib.hid (HD.out.grown k4)
      obtain ⟨q1, hq1⟩ : ∃ q, secV (rV (pwS 20 L 0 (firstR 1)) rk) = q := ⟨_, rfl⟩
      obtain ⟨q2, hq2⟩ : ∃ q, eV er ep (rE (pwS 20 L 0 (firstR 1)) rk) = q := ⟨_, rfl⟩
      rw [hq1, hq2]
      clear k4 xR hq1 hq2
      gi_wp2
      refine ⟨trivial, ?_⟩
      refine (callsIn_wide.2 (dsk_unsynced H4.out)).mono ?_
      rintro e w5 ⟨A5, c5, rfl, _, _, k5⟩
      have H5 := Lib.hid (H4.out.grown k5)
      clear k5
      gi_wp2
      refine ⟨trivial, ?_⟩
      refine (callsIn_wide.2 (dk_size w5 d b m _ H5.out.1)).mono ?_
      rintro e w6 ⟨rfl, hw6⟩
      obtain rfl : w5 = w6 := hw6.symm
      gi_wp2
      go_roundw
      case rel => exact ⟨k + 1, by omega, by simp, H5.out⟩
      case measure => simp [intOf]; omega
    · have d2 : decide ((k : Int) < (n : Int)) = false := by simp; omega
      clear hkN
      gi_wp2
      gi_loopw [9] (fun i wr => ∃ k : Nat, k ≤ L ∧ i = .int .i64 (k : Int) ∧ Dsk w wr d b m (pwS 20 L k (firstR 1))) (fun i _ => L - (intOf i).toNat)
      case atStart => exact ⟨0, by omega, rfl, HD.out⟩
      case round =>
        obtain ⟨q, hqL, rfl, hd⟩ := hrel
        rename World => wy
        have HQ := Lib.hid hd
        clear hd
        have hq20 : (q : Int) < 20 := by omega
        have hq0 : 0 ≤ (q : Int) := by omega
        have hmod : (q : Int) % 20 = (q : Int) := by omega
        by_cases hql : q < L
        · have hst := pwS_yes (n := 20) (L := L) (firstR 1) (show q < 20 by omega) hql
          have HST := Lib.hid hst
          clear hst
          gi_wp2
          refine ⟨trivial, ?_⟩
          refine (callsIn_wide.2 (dsk_write0 HQ.out HE.out.1 HE.out.2.1 (q : Int) (firstR 1) (firstR_len 1) HST.out.1 HST.out.2 e9 HE.out.2.2.1)).mono ?_
          rintro e w4 ⟨rfl, hd, _⟩
          have H4 := Lib.hid hd
          clear hd
          gi_wp2
          go_roundw
          case rel => exact ⟨q + 1, by omega, by simp, H4.out⟩
          case measure => simp [intOf]; omega
        · obtain rfl : q = L := by omega
          have hst := pwS_no (n := 20) (L := q) (i := q) (firstR 1) (show q < 20 by omega) (by omega)
          have hw := dsk_write HQ.out HE.out.1 HE.out.2.1 (q : Int) (firstR 1) (firstR_len 1)
          rw [hst.1, hst.2, secV, HE.out.2.2.1] at hw
          have HW := Lib.hid hw
          clear hst hw
          gi_wp2
          refine ⟨trivial, ?_⟩
          refine (callsIn_wide.2 HW.out).mono ?_
          rintro e w4 ⟨rfl, hd, _⟩
          have H4 := Lib.hid hd
          clear hd
          simp only [eV]
          gi_wp2
          refine ⟨trivial, ?_⟩
          refine (callsIn_wide.2 (dk_off w4 d b m _ H4.out.1)).mono ?_
          rintro e w5 ⟨rfl, hw5⟩
          obtain rfl : w4 = w5 := hw5.symm
          have hoff : (pwS 20 q (q + 1) (firstR 1)).off = true := by simp [pwS]
          rw [hoff]
          gi_wp2
          go_ret
          exact ⟨rfl, H4.out.grownNone⟩
end Go.Proofs.YtmecimhlnajaoaaDoor
