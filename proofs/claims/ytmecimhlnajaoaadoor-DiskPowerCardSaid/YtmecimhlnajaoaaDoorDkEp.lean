/-
  DiskPower, walked.
-/
import Derived.Test.YtmecimhlnajaoaaDoorDkE
namespace Go.Proofs.YtmecimhlnajaoaaDoor
open Go.RowKit Go.Maps

set_option maxRecDepth 100000 in
set_option maxHeartbeats 1000000 in
theorem power_any (w : World) (L0 W0 : Int) (E : Nat → Addr) (he : ErrEnv w w.heap.size E) :
    Calls Tryd.prog 5 #[.int .i64 L0, .int .i64 W0] w fun e w' => e = .returned (.bool true) ∧ w.grownBy w' none := by
  have her : ErrAt w w.heap.size 0 (E 0) := he.var 0 (by omega)
  have hep : ErrAt w w.heap.size 5 (E 5) := he.var 5 (by omega)
  obtain ⟨e9, he9⟩ : ∃ es, ((firstR 9).map (Value.int .u8)).toArray = es := ⟨_, rfl⟩
  have hL9 : (#[Value.int .u8 (9), Value.int .u8 0, Value.int .u8 0, Value.int .u8 0, Value.int .u8 0, Value.int .u8 0, Value.int .u8 0, Value.int .u8 0, Value.int .u8 0, Value.int .u8 0, Value.int .u8 0, Value.int .u8 0, Value.int .u8 0, Value.int .u8 0, Value.int .u8 0, Value.int .u8 0, Value.int .u8 0, Value.int .u8 0, Value.int .u8 0, Value.int .u8 0, Value.int .u8 0, Value.int .u8 0, Value.int .u8 0, Value.int .u8 0, Value.int .u8 0, Value.int .u8 0, Value.int .u8 0, Value.int .u8 0, Value.int .u8 0, Value.int .u8 0, Value.int .u8 0, Value.int .u8 0, Value.int .u8 0, Value.int .u8 0, Value.int .u8 0, Value.int .u8 0, Value.int .u8 0, Value.int .u8 0, Value.int .u8 0, Value.int .u8 0, Value.int .u8 0, Value.int .u8 0, Value.int .u8 0, Value.int .u8 0, Value.int .u8 0, Value.int .u8 0, Value.int .u8 0, Value.int .u8 0, Value.int .u8 0, Value.int .u8 0, Value.int .u8 0, Value.int .u8 0, Value.int .u8 0, Value.int .u8 0, Value.int .u8 0, Value.int .u8 0, Value.int .u8 0, Value.int .u8 0, Value.int .u8 0, Value.int .u8 0, Value.int .u8 0, Value.int .u8 0, Value.int .u8 0, Value.int .u8 0] : Array Value) = e9 := by rw [← he9]; rfl
  obtain ⟨L, hL, hL30⟩ := u_mod L0 30 (by omega)
  obtain ⟨N, hN, hN30⟩ := u_mod W0 30 (by omega)
  have HE := Lib.hid (And.intro her (And.intro hep (And.intro he9 he)))
  have HLN := Lib.hid (And.intro hL hN)
  clear her hep he9 he hL hN
  refine (callsIn_wide (n := 9)).1 ?_
  refine callsIn_of_wp Tryd.func5 rfl trivial ?_ rfl
  simp only [Tryd.ntmps5, List.size_toArray, List.length_cons, List.length_nil, Nat.reduceAdd, Nat.reduceSub, Array.replicate_succ, Array.replicate_zero, List.push_toArray, List.append_toArray, List.nil_append, List.cons_append]
  gi_wp2
  refine ⟨trivial, ?_⟩
  refine (callsIn_wide.2 (alive_is w (E 0) (E 5) HE.out.1 HE.out.2.1)).mono ?_
  rintro e w1 ⟨rfl, k1⟩
  have K1 := Lib.hid k1
  clear k1
  gi_wp2
  rw [HLN.out.1, HLN.out.2]
  refine ⟨trivial, ?_⟩
  refine (callsIn_wide.2 (dsk_new w w1 (Kept.of_grown (F := fun j => w.heap.size ≤ j) K1.out (fun _ e => by cases e)) 30 (by omega) (E 0) HE.out.1)).mono ?_
  rintro e w2 ⟨k2, d, b, m, rfl, hd, _⟩
  have H2 := Lib.hid hd
  clear k2 hd
  gi_wp2
  refine ⟨trivial, ?_⟩
  refine (callsIn_wide.2 (dsk_arm H2.out (L : Int) (by omega))).mono ?_
  rintro e w3 ⟨rfl, hd, _⟩
  rw [pwS_arm 30 L (firstR 9)] at hd
  have H3 := Lib.hid hd
  clear hd
  gi_wp2
  gi_loopw [29] (fun i wr => ∃ k : Nat, k ≤ N ∧ i = .int .i64 (k : Int) ∧ Dsk w wr d b m (pwS 30 L k (firstR 9))) (fun i _ => N - (intOf i).toNat)
  case atStart => exact ⟨0, by omega, rfl, H3.out⟩
  case round =>
    obtain ⟨k, hkN, rfl, hd⟩ := hrel
    rename World => wx
    have HD := Lib.hid hd
    clear hd
    by_cases hlt : k < N
    · have d1 : decide ((k : Int) < (N : Int)) = true := by simp; omega
      by_cases hkl : k < L
      · have d2 : decide ((k : Int) < (L : Int)) = true := by simp; omega
        have hst := pwS_yes (n := 30) (L := L) (firstR 9) (show k < 30 by omega) hkl
        have HST := Lib.hid hst
        clear hst
        gi_wp2
        refine ⟨trivial, ?_⟩
        refine (callsIn_wide.2 (dsk_write0 HD.out HE.out.1 HE.out.2.1 (k : Int) (firstR 9) (firstR_len 9) HST.out.1 HST.out.2 e9 HE.out.2.2.1)).mono ?_
        rintro e w4 ⟨rfl, hd, _⟩
        have H4 := Lib.hid hd
        clear hd
        gi_wp2
        rename_i KK hKK
        refine ⟨trivial, hKK _ _ ?_⟩
        gi_wp2
        go_roundw
        case rel => exact ⟨k + 1, by omega, by simp, H4.out⟩
        case measure => simp [intOf]; omega
      · have d2 : decide ((k : Int) < (L : Int)) = false := by simp; omega
        have hst := pwS_no (n := 30) (L := L) (firstR 9) (show k < 30 by omega) hkl
        have hw := dsk_write HD.out HE.out.1 HE.out.2.1 (k : Int) (firstR 9) (firstR_len 9)
        rw [hst.1, hst.2, secV, HE.out.2.2.1] at hw
        have HW := Lib.hid hw
        clear hst hw
        gi_wp2
        refine ⟨trivial, ?_⟩
        refine (callsIn_wide.2 HW.out).mono ?_
        rintro e w4 ⟨rfl, hd, _⟩
        have H4 := Lib.hid hd
        clear hd
        simp only [eV]
        gi_wp2
        refine ⟨trivial, ?_⟩
        refine (callsIn_wide.2 (num_err w4 w.heap.size E 5 (by omega) (HE.out.2.2.2.below H4.out.below (Nat.le_refl _)))).mono ?_
        rintro e w5 ⟨rfl, k5⟩
        have H5 := Lib.hid (H4.out.grown k5)
        clear k5
        gi_wp2
        go_roundw
        case rel => exact ⟨k + 1, by omega, by simp, H5.out⟩
        case measure => simp [intOf]; omega
    · have d1 : decide ((k : Int) < (N : Int)) = false := by simp; omega
      obtain rfl : k = N := by omega
      have hdl : (dirtyL (pwS 30 L k (firstR 9)).wr).length = min k L := by
        show (dirtyL (firstW 30 (min k L) (firstR 9))).length = _
        rw [firstW_dirty (by omega)]; simp
      have HDL := Lib.hid hdl
      clear hdl
      gi_wp2
      refine ⟨trivial, ?_⟩
      refine (callsIn_wide.2 (dsk_unsynced HD.out)).mono ?_
      rintro e w4 ⟨A, c, rfl, hc, hi, k4⟩
      rw [HDL.out]
      have H4 := Lib.hid (HD.out.grown k4)
      clear k4 hc hi hlt hkN d1
      obtain ⟨mm, hmm⟩ : ∃ mm : Nat, min k L = mm := ⟨_, rfl⟩
      rw [hmm]
      obtain ⟨J, hJ⟩ : ∃ J : Int, (k : Int) = J := ⟨_, rfl⟩
      obtain ⟨M, hM⟩ : ∃ M : Int, (L : Int) = M := ⟨_, rfl⟩
      obtain ⟨R, hR⟩ : ∃ R : Int, (mm : Int) = R := ⟨_, rfl⟩
      simp only [hJ, hM]
      have hoff : (pwS 30 L k (firstR 9)).off = decide (M < J) := by rw [← hJ, ← hM]; simp [pwS]
      have HX := Lib.hid hoff
      by_cases hc : M < J
      · have hRe : R = M := by omega
        have h1 : decide (M < J) = true := by simpa using hc
        have h2 : (R == M) = true := by rw [beq_iff_eq]; exact hRe
        have h3 : (R = min M J) = True := eq_true (by omega)
        clear hRe hmm hJ hM hoff hL30 hN30 HLN
        gi_wp2
        refine ⟨trivial, ?_⟩
        refine (callsIn_wide.2 (dk_off w4 d b m _ H4.out.1)).mono ?_
        rintro e w5 ⟨rfl, hw5⟩
        obtain rfl : w4 = w5 := hw5.symm
        rw [HX.out]
        gi_wp2
        go_ret
        exact ⟨by simp [h3], H4.out.grownNone⟩
      · have hRe : R = J := by omega
        have h1 : decide (M < J) = false := by simpa using hc
        have h2 : (R == J) = true := by rw [beq_iff_eq]; exact hRe
        have h3 : (R = min M J) = True := eq_true (by omega)
        clear hRe hmm hJ hM hoff hL30 hN30 HLN
        gi_wp2
        refine ⟨trivial, ?_⟩
        refine (callsIn_wide.2 (dk_off w4 d b m _ H4.out.1)).mono ?_
        rintro e w5 ⟨rfl, hw5⟩
        obtain rfl : w4 = w5 := hw5.symm
        rw [HX.out]
        gi_wp2
        go_ret
        exact ⟨by simp [h3], H4.out.grownNone⟩
end Go.Proofs.YtmecimhlnajaoaaDoor
