/-
  PoolFull, walked.
-/
import Derived.Test.YtnhjokcjdjfijaaDoorPlV
import Derived.Test.YtnhjokcjdjfijaaDoorNum
import Derived.IntWalk
namespace Go.Proofs.YtnhjokcjdjfijaaDoor
open Go.RowKit

theorem u64_mod (x m : Int) (hm : 0 < m ∧ m ≤ 1000) : ∃ u q : Int, IntKind.u64.wrap x = u ∧ x % 18446744073709551616 = u ∧ 0 ≤ u ∧ u.tmod m = q ∧ u % m = q ∧ IntKind.i64.wrap q = q ∧ wrap64 q = q ∧ 0 ≤ q ∧ q < m := by
  have h1 := Int.emod_nonneg (x % 18446744073709551616) (show m ≠ 0 by omega)
  have h2 := Int.emod_lt_of_pos (x % 18446744073709551616) (show 0 < m by omega)
  refine ⟨x % 18446744073709551616, x % 18446744073709551616 % m, by rw [IntKind.wrap_u64], rfl, by omega, Int.tmod_eq_emod_of_nonneg (by omega), rfl, ?_, ?_, h1, h2⟩
  · generalize x % 18446744073709551616 % m = q at *
    rw [IntKind.wrap_i64]; omega
  · generalize x % 18446744073709551616 % m = q at *
    unfold wrap64; omega
theorem u8_wrap (q : Int) (h : 0 ≤ q ∧ q < 256) : IntKind.u8.wrap q = q := by rw [IntKind.wrap_u8]; omega
theorem u8_byte (q : Int) (h : 0 ≤ q ∧ q < 256) : ∃ b : UInt8, (b.toNat : Int) = q ∧ b = UInt8.ofNat q.toNat := ⟨UInt8.ofNat q.toNat, by rw [UInt8.toNat_ofNat_of_lt' (by simp [UInt8.size]; omega)]; omega, rfl⟩
theorem bytes_int (w : World) (b : UInt8) (q : Int) (h : (b.toNat : Int) = q) (t : TypeId) : BytesAt (w.alloc (.cells #[.int .u8 q] t)) (some ⟨w.heap.size, 0, none⟩) [b] := by subst h; exact bytes_one w b t
theorem isIn_drop (L D : List (List UInt8)) (x : List UInt8) : isIn (dropL L D) x = (isIn L x && !isIn D x) := by
  rw [Bool.eq_iff_iff]
  simp only [isIn, dropL, List.any_eq_true, List.mem_filter, Bool.and_eq_true, decide_eq_true_eq, Bool.not_eq_true', List.any_eq_false]
  constructor
  · rintro ⟨y, ⟨h1, h2⟩, rfl⟩
    exact ⟨⟨y, h1, rfl⟩, fun z hz => by simpa using h2 z hz⟩
  · rintro ⟨⟨y, h1, rfl⟩, h2⟩
    exact ⟨y, ⟨h1, fun z hz => by simpa using h2 z hz⟩, rfl⟩
theorem isIn_app (L M : List (List UInt8)) (x : List UInt8) : isIn (L ++ M) x = (isIn L x || isIn M x) := by simp [isIn]
/-- The sixteen that fill a pool. -/
def L16 : List (List UInt8) := (List.range 16).map fun j => [UInt8.ofNat j]
theorem l16_len : L16.length = 16 := rfl
theorem l16_get (k : Nat) (h : k < 16) : L16.take (k + 1) = L16.take k ++ [[UInt8.ofNat k]] ∧ isIn (L16.take k) [UInt8.ofNat k] = false ∧ (L16.take k).length = k := by
  have : ∀ k : Fin 16, L16.take (k.1 + 1) = L16.take k.1 ++ [[UInt8.ofNat k.1]] ∧ isIn (L16.take k.1) [UInt8.ofNat k.1] = false ∧ (L16.take k.1).length = k.1 := by decide
  exact this ⟨k, h⟩
theorem l16_out (b : UInt8) (h : 16 ≤ b.toNat) : isIn L16 [b] = false := by
  simp only [isIn, List.any_eq_false, L16, List.mem_map, List.mem_range, decide_eq_true_eq]
  rintro y ⟨j, hj, rfl⟩ e
  have e : UInt8.ofNat j = b := by simpa using e
  subst e
  rw [UInt8.toNat_ofNat_of_lt' (by simp [UInt8.size]; omega)] at h
  omega
theorem l16_drop (k : Nat) (h : k < 16) : (dropL L16 [[UInt8.ofNat k]]).length = 15 ∧ isIn L16 [UInt8.ofNat k] = true := by
  have : ∀ k : Fin 16, (dropL L16 [[UInt8.ofNat k.1]]).length = 15 ∧ isIn L16 [UInt8.ofNat k.1] = true := by decide
  exact this ⟨k, h⟩

set_option maxRecDepth 100000 in
set_option maxHeartbeats 4000000 in
theorem full_any (w : World) (E : Nat → Addr) (he : ErrEnv w w.heap.size E) (more drop : Int) : Calls Tryd.prog 5 #[.int .i64 more, .int .i64 drop] w fun e w' => e = .returned (.bool true) ∧ Below w.heap.size w w' := by
  obtain ⟨u1, q1, a1, a2, a3, a4, a5, a6, a7, a8, a9⟩ := u64_mod more 200 (by omega)
  obtain ⟨u2, q2, b1, b2, b3, b4, b5, b6, b7, b8, b9⟩ := u64_mod drop 16 (by omega)
  have HV := he.vars [3, 7, 16] (by decide)
  have HE := Lib.hid (And.intro he HV)
  have HA := Lib.hid (alive_any w w.heap.size E HV (Nat.le_refl _))
  have hc1 := u8_wrap (16 + q1) (by omega)
  have hc2 := u8_wrap q2 (by omega)
  have hadd : IntKind.i64.wrap (16 + q1) = 16 + q1 := by rw [IntKind.wrap_i64]; omega
  obtain ⟨bm, hbm, hbm'⟩ := u8_byte (16 + q1) (by omega)
  obtain ⟨bk, hbk, hbk'⟩ := u8_byte q2 (by omega)
  have HBM := Lib.hid (And.intro hbm (And.intro hbk (And.intro hbk' (And.intro (show 16 ≤ bm.toNat by omega) (show q2.toNat < 16 by omega)))))
  clear he HV hbm hbk hbk' hbm'
  go_enter Tryd.func5, Tryd.ntmps5
  go_wp2_with fail
  refine HA.out.mono ?_
  rintro e w1 ⟨rfl, k1⟩
  have K1 := Lib.hid (Kept.of_grown (F := fun k => w.heap.size ≤ k) k1 fun _ e => by cases e)
  clear k1
  go_wp2_with fail
  refine (pool_new _).mono ?_
  rintro e w2 ⟨rfl, rfl⟩
  obtain ⟨p, hp⟩ : ∃ p, w1.heap.size = p := ⟨_, rfl⟩
  obtain ⟨w2, hw2⟩ : ∃ w2, w1.alloc (.cells #[.slice none 0 0] 58) = w2 := ⟨_, rfl⟩
  have H2 : Hid (PB w2 w.heap.size (p + 1) p (L16.take 0) ∧ Kept (fun k => w.heap.size ≤ k) w w2) := Lib.hid (by
    rw [← hw2, ← hp]
    exact ⟨PB.new w1 K1.out.size, K1.out.next (Kept.of_grown (F := fun k => w.heap.size ≤ k) (World.grownBy_alloc w1 (.cells #[.slice none 0 0] 58) none) fun _ e => by cases e) (fun _ _ h => h)⟩)
  rw [hw2, hp]
  clear hw2 hp
  go_wp2_with fail
  go_loopw [11] (fun i wr => ∃ k M : Nat, k ≤ 16 ∧ i = .int .i64 (k : Int) ∧ PB wr w.heap.size M p (L16.take k) ∧ Kept (fun k => w.heap.size ≤ k) w wr) (fun i _ => 16 - (intOf i).toNat)
  case atStart => exact ⟨0, _, by omega, rfl, H2.out.1, H2.out.2⟩
  case round =>
    obtain ⟨k, M, hk, hi, hP, hK⟩ := hrel
    obtain ⟨I, hI⟩ : ∃ I : Int, I = (k : Int) := ⟨_, rfl⟩
    rw [← hI] at hi
    subst hi
    by_cases hlt : k < 16
    · have d1 : decide (I < 16) = true := by simp; omega
      have hI2 : 0 ≤ I ∧ I < 16 := by omega
      have hcv := u8_wrap I (by omega)
      obtain ⟨bi, hbi, hbi'⟩ := u8_byte I (by omega)
      have hg := World.grownBy_alloc wr (.cells #[.int .u8 I] 5) none
      have hKg := hK.next (Kept.of_grown (F := fun k => w.heap.size ≤ k) hg fun _ e => by cases e) (fun _ _ h => h)
      obtain ⟨l1, l2, l3⟩ := l16_get k hlt
      have hbk : bi = UInt8.ofNat k := by rw [hbi', hI, Int.toNat_natCast]
      have hC := (hP.grown hg).add (by omega) w.heap.size E (some ⟨wr.heap.size, 0, none⟩) 1 [bi] (bytes_int wr bi I hbi _) (HE.out.2.kept hKg (fun k h => h)) (Nat.le_refl _)
      have hok := addE_ok (L := L16.take k) (x := [bi]) (by simp) (by simp) (by rw [hbk]; exact l2) (by omega)
      rw [hok.1, hok.2, hbk, ← l1] at hC
      have HC := Lib.hid hC
      have HN := Lib.hid (And.intro hI (And.intro hlt hKg))
      clear hI hlt hP hK hg hKg hbi hbi' l1 l2 l3 hbk hC hok hk
      go_wp2_with fail
      refine HC.out.mono ?_
      rintro e w3 ⟨rfl, h3, k3⟩
      have H3 := Lib.hid (And.intro h3 k3)
      clear h3 k3
      rw [evOf]
      go_wp2_with fail
      go_roundw
      case rel =>
        obtain ⟨hI, hlt, hK⟩ := HN.out
        exact ⟨k + 1, _, by omega, by rw [hI]; rfl, H3.out.1, hK.next H3.out.2 (fun _ _ h => h)⟩
      case measure => obtain ⟨hI, hlt, hK⟩ := HN.out; simp [intOf]; omega
    · obtain rfl : k = 16 := by omega
      have d1 : decide (I < 16) = false := by simp; omega
      have hP' : PB wr w.heap.size M p L16 := hP
      have HP := Lib.hid (And.intro hP' hK)
      clear hI hlt hP hK hk hP'
      have hg4 := World.grownBy_alloc wr (.cells #[.int .u8 (16 + q1)] 5) none
      have hK4 := HP.out.2.next (Kept.of_grown (F := fun k => w.heap.size ≤ k) hg4 fun _ e => by cases e) (fun _ _ h => h)
      have hC := (HP.out.1.grown hg4).add (by rw [l16_len]; omega) w.heap.size E (some ⟨wr.heap.size, 0, none⟩) 1 [bm] (bytes_int wr bm (16 + q1) HBM.out.1 _) (HE.out.2.kept hK4 (fun k h => h)) (Nat.le_refl _)
      have h8 : addE L16 [bm] = 8 := by rw [addE, if_neg (by simp), if_neg (by rw [l16_out bm HBM.out.2.2.2.1]; simp), if_pos (by rw [l16_len]; omega)]
      rw [h8, addL, if_neg (by rw [h8]; simp)] at hC
      have HC := Lib.hid hC
      have HK4 := Lib.hid hK4
      clear hg4 hC h8 hK4
      go_wp2_with fail
      refine HC.out.mono ?_
      rintro e w5 ⟨rfl, h5, k5⟩
      have H5 := Lib.hid (And.intro h5 (HK4.out.next k5 (fun _ _ h => h)))
      clear h5 k5
      rw [evOf]
      go_wp2_with fail
      refine (num_err w5 w.heap.size E 7 (by omega) (HE.out.1.below (H5.out.2.below (Nat.le_refl _) (fun _ h => h)) (Nat.le_refl _))).mono ?_
      rintro e w6 ⟨rfl, k6⟩
      have H6 := Lib.hid (And.intro (H5.out.1.grown k6) (H5.out.2.next (Kept.of_grown (F := fun k => w.heap.size ≤ k) k6 fun _ e => by cases e) (fun _ _ h => h)))
      clear k6
      go_wp2_with fail
      refine (pool_len w6 _ p L16 H6.out.1.1).mono ?_
      rintro e w7 ⟨rfl, rfl⟩
      rw [l16_len]
      have hg8 : w7.grownBy ((w7.alloc (.cells #[.int .u8 q2] 5)).alloc (.cells #[.slice (some ⟨w7.heap.size, 0, none⟩) 1 1] 30)) none := grown_trans (World.grownBy_alloc _ _ none) (World.grownBy_alloc _ _ none)
      have hM := H6.out.1.2
      have hD : LsIn ((w7.alloc (.cells #[.int .u8 q2] 5)).alloc (.cells #[.slice (some ⟨w7.heap.size, 0, none⟩) 1 1] 30)) (fun k => k < w.heap.size ∨ w5.heap.size ≤ k) (some ⟨w7.heap.size + 1, 0, none⟩) [[bk]] := by
        have h := lsIn_one (d := 1) (bytes_int w7 bk q2 HBM.out.2.1 5) (fun k => k < w.heap.size ∨ w5.heap.size ≤ k) (fun ad e _ => by injection e with e; subst e; exact .inr hM) (by right; rw [World.size_alloc]; omega)
        rw [World.size_alloc] at h
        exact h
      have hC8 := (H6.out.1.grown hg8).drop (by rw [l16_len]; omega) _ 1 1 [[bk]] rfl (by omega) hD
      obtain ⟨d15, din⟩ := l16_drop q2.toNat HBM.out.2.2.2.2
      rw [← HBM.out.2.2.1] at d15 din
      rw [d15, l16_len] at hC8
      have HC8 := Lib.hid hC8
      have HD15 := Lib.hid (And.intro d15 (And.intro din (H6.out.2.next (Kept.of_grown (F := fun k => w.heap.size ≤ k) hg8 fun _ e => by cases e) (fun _ _ h => h))))
      clear hg8 hM hD hC8 d15 din
      go_wp2_with fail
      refine HC8.out.mono ?_
      rintro e w9 ⟨rfl, h9, k9⟩
      have H9 := Lib.hid (And.intro h9 (HD15.out.2.2.next k9 (fun _ _ h => h.1)))
      clear h9 k9
      have hg10 := World.grownBy_alloc w9 (.cells #[.int .u8 (16 + q1)] 5) none
      have hK10 := H9.out.2.next (Kept.of_grown (F := fun k => w.heap.size ≤ k) hg10 fun _ e => by cases e) (fun _ _ h => h)
      have hC10 := (H9.out.1.grown hg10).add (by rw [HD15.out.1]; omega) w.heap.size E (some ⟨w9.heap.size, 0, none⟩) 1 [bm] (bytes_int w9 bm (16 + q1) HBM.out.1 _) (HE.out.2.kept hK10 (fun k h => h)) (Nat.le_refl _)
      have hok := addE_ok (L := dropL L16 [[bk]]) (x := [bm]) (by simp) (by simp) (by rw [isIn_drop, l16_out bm HBM.out.2.2.2.1]; rfl) (by rw [HD15.out.1]; omega)
      rw [hok.1, hok.2] at hC10
      have HC10 := Lib.hid (And.intro hC10 hK10)
      clear hg10 hK10 hC10 hok
      go_wp2_with fail
      refine HC10.out.1.mono ?_
      rintro e w11 ⟨rfl, h11, k11⟩
      have H11 := Lib.hid (And.intro h11 (HC10.out.2.next k11 (fun _ _ h => h)))
      clear h11 k11
      rw [evOf]
      go_wp2_with fail
      refine (pool_len w11 _ p _ H11.out.1.1).mono ?_
      rintro e w12 ⟨rfl, rfl⟩
      rw [List.length_append, HD15.out.1]
      go_wp2_with fail
      have hg13 := World.grownBy_alloc w12 (.cells #[.int .u8 q2] 5) none
      have hb13 := bytes_int w12 bk q2 HBM.out.2.1 5
      have hne : isIn (dropL L16 [[bk]] ++ [[bm]]) [bk] = false := by
        rw [isIn_app, isIn_drop]
        have h1 := HBM.out
        have : bm ≠ bk := by rintro rfl; omega
        simp [isIn, this]
      have hC13 := pool_has _ _ p _ (H11.out.1.grown hg13).1 (by rw [List.length_append, HD15.out.1]; simp) _ 1 [bk] hb13
      rw [hne] at hC13
      have HC13 := Lib.hid (And.intro hC13 hg13)
      clear hg13 hb13 hne hC13
      refine HC13.out.1.mono ?_
      rintro e w14 ⟨rfl, k14⟩
      have H14 := Lib.hid (grown_trans HC13.out.2 k14)
      clear k14
      go_wp2_with fail
      have hg15 := grown_trans H14.out (World.grownBy_alloc w14 (.cells #[.int .u8 (16 + q1)] 5) none)
      have hC15 := pool_has _ _ p _ (H11.out.1.grown hg15).1 (by rw [List.length_append, HD15.out.1]; simp) _ 1 [bm] (bytes_int w14 bm (16 + q1) HBM.out.1 5)
      rw [isIn_app, show isIn [[bm]] [bm] = true by simp [isIn], Bool.or_true] at hC15
      refine hC15.mono ?_
      rintro e w16 ⟨rfl, k16⟩
      have H16 := Lib.hid (H11.out.2.next (Kept.of_grown (F := fun k => w.heap.size ≤ k) (grown_trans hg15 k16) fun _ e => by cases e) (fun _ _ h => h))
      clear hg15 hC15 k16
      go_wp2_with fail
      go_ret
      exact ⟨rfl, H16.out.below (Nat.le_refl _) (fun _ h => h)⟩
end Go.Proofs.YtnhjokcjdjfijaaDoor
