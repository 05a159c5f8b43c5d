/-
  PowersLeast, walked.
-/
import Derived.Test.YtjoehhchejnhgaaDoorPwQ
namespace Go.Proofs.YtjoehhchejnhgaaDoor
open Go.RowKit

set_option maxRecDepth 100000 in
set_option maxHeartbeats 4000000 in
theorem least_any (w : World) (a0 a1 a2 : Int) (B : Nat) (es er et : Addr) (hB : B ≤ w.heap.size) (he : ErrAt w B 2 es) (her : ErrAt w B 0 er) (het : ErrAt w B 1 et) :
    Calls Tryd.prog 7 #[.int .i64 a0, .int .i64 a1, .int .i64 a2] w fun e w' => e = .returned (.bool true) ∧ Below w.heap.size w w' := by
  obtain ⟨i0, hi0, hz0, hz1, hz2⟩ := info_parts int_info
  have HI0 := Lib.hid (And.intro hi0 (And.intro hz0 (And.intro hz1 hz2)))
  obtain ⟨j0, hj0, hy0, hy1, hy2⟩ := info_parts vd_info
  have HJ0 := Lib.hid (And.intro hj0 (And.intro hy0 (And.intro hy1 hy2)))
  obtain ⟨k0, hk0, v0⟩ := mod_val a0 7 (by omega) (by omega)
  obtain ⟨k1, hk1, v1⟩ := mod_val a1 1000000 (by omega) (by omega)
  obtain ⟨m, hm, v2⟩ := mod_val a2 (k0 + 1 + 1) (by omega) (by omega)
  rw [show ((7 : Nat) : Int) = 7 from rfl] at v0
  rw [show ((1000000 : Nat) : Int) = 1000000 from rfl] at v1
  obtain ⟨K0, hK0⟩ : ∃ K : Int, K = (k0 : Int) := ⟨_, rfl⟩
  obtain ⟨K1, hK1⟩ : ∃ K : Int, K = (k1 : Int) := ⟨_, rfl⟩
  obtain ⟨M, hM⟩ : ∃ K : Int, K = (m : Int) := ⟨_, rfl⟩
  obtain ⟨n, hn⟩ : ∃ n, n = k0 + 1 := ⟨_, rfl⟩
  obtain ⟨N, hN⟩ : ∃ K : Int, K = (n : Int) := ⟨_, rfl⟩
  obtain ⟨N1, hN1⟩ : ∃ K : Int, K = N + 1 := ⟨_, rfl⟩
  obtain ⟨P, hP⟩ : ∃ K : Int, K = K1 + 1 := ⟨_, rfl⟩
  rw [show ((k0 + 1 + 1 : Nat) : Int) = N1 by omega, ← hM] at v2
  rw [← hK0] at v0
  rw [← hK1] at v1
  have s0 : wrap64 (1 + K0) = N := by rw [w64 _ ⟨by omega, by omega⟩]; omega
  have s1 : wrap64 (1 + K1) = P := by rw [w64 _ ⟨by omega, by omega⟩]; omega
  have s2 : wrap64 (N + 1) = N1 := by rw [w64 _ ⟨by omega, by omega⟩]; omega
  have s3 : IntKind.u64.wrap N1 = N1 := u64_small _ (by omega) (by omega)
  have hN0 : ¬ N1 = 0 := by omega
  have HN := Lib.hid (show N = (n : Int) ∧ M = (m : Int) ∧ 1 ≤ n ∧ n ≤ 7 ∧ m ≤ n ∧ 1 ≤ P ∧ P ≤ 1000000 from ⟨hN, hM, by omega, by omega, by omega, by omega, by omega⟩)
  have HE := Lib.hid (And.intro hB (And.intro he (And.intro her het)))
  clear hk0 hk1 hm hK0 hK1 hM hn hN hN1 hP hi0 hz0 hz1 hz2 hj0 hy0 hy1 hy2 hB he her het
  go_enter Tryd.func7, Tryd.ntmps7
  go_wp2_with fail
  refine (alive_is w B es er et HE.out.1 HE.out.2.1 HE.out.2.2.1 HE.out.2.2.2).mono ?_
  rintro e w1 ⟨rfl, hk1⟩
  have K1' := Lib.hid hk1
  have ov := World.ownsRow_lit (base := w1.heap.size) (e := 40) (size := 17) w1 #[] 0 (by omega) (by decide) rfl
  have ou := World.ownsRow_lit (base := w1.heap.size) (e := 3) (size := 1) (w1.alloc (.cells #[] 40)) #[] 0 (by simp) (by decide) rfl
  rw [World.size_alloc] at ou
  have HOV := Lib.hid (And.intro (ov.alloc (.cells #[] 3)) ou)
  clear hk1 ov ou
  go_wp2_with fail
  simp only [v0, s0, v1, s1, s2, v2]
  clear v0 v1 v2 s0 s1 s2 s3 hN0
  go_loopw [7, 8, 32] (fun v u i wr => ∃ k : Nat, k ≤ n ∧ i = .int .i64 (k : Int) ∧ wr.ownsRow w1.heap.size 40 17 v k ((vdsL P k).flatMap Vd.cells) ∧ wr.ownsRow w1.heap.size 3 1 u (chosenS (fun i => decide (i < m)) k).length ((chosenS (fun i => decide (i < m)) k).map (Value.int .i64)) ∧ u.ownBlock ≠ v.ownBlock ∧ w1.grownBy wr none) (fun _ _ i _ => n - (intOf i).toNat)
  case atStart => exact ⟨0, by omega, rfl, by simpa [vdsL] using HOV.out.1, by simpa [chosenS] using HOV.out.2, by simp [Value.ownBlock], grown_trans (World.grownBy_alloc _ _ none) (World.grownBy_alloc _ _ none)⟩
  case round =>
    obtain ⟨k, hkn, hi, hov, hou, hne, hK⟩ := hrel
    obtain ⟨I, hI⟩ : ∃ I : Int, I = (k : Int) := ⟨_, rfl⟩
    rw [← hI] at hi
    subst hi
    by_cases hlt : k < n
    · have hn7 := HN.out.2.2.2.1
      have hNe := HN.out.1
      have hMe := HN.out.2.1
      have d1 : decide (I < N) = true := by simp; omega
      have hI8 : IntKind.u8.wrap I = I := by rw [IntKind.wrap_u8]; omega
      have hIN : I + 1 ≤ 1000 := by omega
      have hI0 : 0 ≤ I := by omega
      have hadd : wrap64 (I + 1) = I + 1 := w64 _ ⟨by omega, by omega⟩
      obtain ⟨X, hX⟩ : ∃ X, X = arrV .u8 (key4 I) := ⟨_, rfl⟩
      obtain ⟨Y, hY⟩ : ∃ Y, Y = (Vd.cells ⟨key4 I, P⟩).toArray := ⟨_, rfl⟩
      have H1 := Lib.hid (show ∀ w, Sem.run Tryd.prog (Instr.build 38 #[(0, .int .u8 I)]) w = .ok (.agg X) w from fun w => by rw [hX]; exact key_run w I)
      have H2 := Lib.hid (show ∀ w, Sem.run Tryd.prog (Instr.build 40 #[(0, .agg X), (1, .int .i64 P)]) w = .ok (.agg Y) w from fun w => by rw [hX, hY]; exact vd_run w I P)
      have H3 := Lib.hid (show ∀ w, Sem.run Tryd.prog (Instr.buildSlice 22 1 #[(0, .agg Y)]) w = .ok (.slice (some ⟨w.heap.size, 0, none⟩) 1 1) (w.alloc (.cells Y 40)) from fun w => by rw [hY]; exact row1_run w I P)
      have HY := Lib.hid hY
      have hcl := chosenS_length (fun i => decide (i < m)) k
      have HV := Lib.hid (And.intro hov (And.intro hou (And.intro hne (And.intro hK (And.intro hI (And.intro hlt hcl))))))
      clear hX hY hov hou hne hK hI hkn hcl hNe hMe hn7 hlt
      by_cases hIM : I < M
      · have d2 : decide (I < M) = true := by simpa using hIM
        have HIM := Lib.hid hIM
        clear hIM
        go_wp2_with (first
          | (refine wpList_build_at (by rfl) 38 #[(0, Operand.tmp 37)] rfl _ (by kernel_rfl) (.agg X) (H1.out _) ?_)
          | (refine wpList_build_at (by rfl) 40 #[(0, Operand.tmp 38), (1, Operand.tmp 39)] rfl _ (by kernel_rfl) (.agg Y) (H2.out _) ?_)
          | (refine wpList_row_at (by rfl) 22 1 #[(0, Operand.tmp 40)] rfl _ (by kernel_rfl) _ _ (H3.out _) ?_)
          | (at_builtin
             refine wpList_append_vd rfl _ _ 22 rfl w1.heap.size 40 _ j0 Tryd.underlying22 HJ0.out.1 HJ0.out.2.1 HJ0.out.2.2.1 HJ0.out.2.2.2 _ _ _ rfl HV.out.1 ⟨key4 I, P⟩ rfl _ HY.out rfl (by have := HV.out.2.2.2.2.2.1; have := HN.out.2.2.2.1; omega) HV.out.2.2.2.1.size ?_
             intro v' w4 hown4 hgrow hblk
             have hou4 := HV.out.2.1.kept hgrow (.inr HV.out.2.2.1)
             have hK4 := grown_own HV.out.2.2.2.1 hgrow HV.out.1 (Nat.le_refl _)
             have hne4 : u8.ownBlock ≠ v'.ownBlock := by
               rcases hblk with e | e
               · rw [e]; exact HV.out.2.2.1
               · rw [e]; intro e2; have := (HV.out.2.1.lt _ e2).2; omega
             have HO4 := Lib.hid (And.intro hown4 (And.intro hou4 (And.intro hne4 hK4)))
             clear hown4 hou4 hne4 hK4 hgrow hblk)
          | (at_builtin
             refine wpList_append_int rfl _ _ 23 rfl w1.heap.size 3 _ i0 Tryd.underlying23 HI0.out.1 HI0.out.2.1 HI0.out.2.2.1 HI0.out.2.2.2 _ _ _ rfl HO4.out.2.1 I rfl (by have := HV.out.2.2.2.2.2.2; have := HV.out.2.2.2.2.2.1; have := HN.out.2.2.2.1; omega) HO4.out.2.2.2.size ?_
             intro u' w5 hown5 hgrow hblk
             have hov5 := HO4.out.1.kept hgrow (.inr (fun e => HO4.out.2.2.1 e.symm))
             have hK5 := grown_own HO4.out.2.2.2 hgrow HO4.out.2.1 (Nat.le_refl _)
             have hne5 : u'.ownBlock ≠ v'.ownBlock := by
               rcases hblk with e | e
               · rw [e]; exact HO4.out.2.2.1
               · rw [e]; intro e2; have := (HO4.out.1.lt _ e2.symm).2; omega
             have HO5 := Lib.hid (And.intro hov5 (And.intro hown5 (And.intro hne5 hK5)))
             clear hown5 hov5 hne5 hK5 hgrow hblk))
        go_roundw
        case rel =>
          obtain ⟨_, _, _, _, hI, hlt, _⟩ := HV.out
          have hb : (fun i => decide (i < m)) k = true := by have := HIM.out; have := HN.out.2.1; simp; omega
          refine ⟨k + 1, by omega, by rw [hI]; rfl, ?_, ?_, HO5.out.2.2.1, HO5.out.2.2.2⟩
          · rw [vdsL_succ, List.flatMap_append]
            have := HO5.out.1
            rw [hI] at this
            simpa using this
          · rw [chosenS_yes (b := fun i => decide (i < m)) hb, List.map_append, List.length_append]
            have := HO5.out.2.1
            rw [hI] at this
            exact this
        case measure => obtain ⟨_, _, _, _, hI, hlt, _⟩ := HV.out; simp [intOf]; omega
      · have d2 : decide (I < M) = false := by simpa using hIM
        have HIM := Lib.hid hIM
        clear hIM
        go_wp2_with (first
          | (refine wpList_build_at (by rfl) 38 #[(0, Operand.tmp 37)] rfl _ (by kernel_rfl) (.agg X) (H1.out _) ?_)
          | (refine wpList_build_at (by rfl) 40 #[(0, Operand.tmp 38), (1, Operand.tmp 39)] rfl _ (by kernel_rfl) (.agg Y) (H2.out _) ?_)
          | (refine wpList_row_at (by rfl) 22 1 #[(0, Operand.tmp 40)] rfl _ (by kernel_rfl) _ _ (H3.out _) ?_)
          | (at_builtin
             refine wpList_append_vd rfl _ _ 22 rfl w1.heap.size 40 _ j0 Tryd.underlying22 HJ0.out.1 HJ0.out.2.1 HJ0.out.2.2.1 HJ0.out.2.2.2 _ _ _ rfl HV.out.1 ⟨key4 I, P⟩ rfl _ HY.out rfl (by have := HV.out.2.2.2.2.2.1; have := HN.out.2.2.2.1; omega) HV.out.2.2.2.1.size ?_
             intro v' w4 hown4 hgrow hblk
             have hou4 := HV.out.2.1.kept hgrow (.inr HV.out.2.2.1)
             have hK4 := grown_own HV.out.2.2.2.1 hgrow HV.out.1 (Nat.le_refl _)
             have hne4 : u8.ownBlock ≠ v'.ownBlock := by
               rcases hblk with e | e
               · rw [e]; exact HV.out.2.2.1
               · rw [e]; intro e2; have := (HV.out.2.1.lt _ e2).2; omega
             have HO4 := Lib.hid (And.intro hown4 (And.intro hou4 (And.intro hne4 hK4)))
             clear hown4 hou4 hne4 hK4 hgrow hblk))
        go_roundw
        case rel =>
          obtain ⟨_, _, _, _, hI, hlt, _⟩ := HV.out
          have hb : (fun i => decide (i < m)) k = false := by have := HIM.out; have := HN.out.2.1; simp; omega
          refine ⟨k + 1, by omega, by rw [hI]; rfl, ?_, ?_, HO4.out.2.2.1, HO4.out.2.2.2⟩
          · rw [vdsL_succ, List.flatMap_append]
            have := HO4.out.1
            rw [hI] at this
            simpa using this
          · rw [chosenS_no (b := fun i => decide (i < m)) hb]
            exact HO4.out.2.1
        case measure => obtain ⟨_, _, _, _, hI, hlt, _⟩ := HV.out; simp [intOf]; omega
    · have hkn' : k = n := by omega
      subst hkn'
      have hNe := HN.out.1
      have hMe := HN.out.2.1
      have hnn := HN.out.2.2
      have d1 : decide (I < N) = false := by simp; omega
      have hIN : N ≤ I := by omega
      obtain ⟨Av, cv, rfl, hcv, hVd⟩ := own_vds (vdsL_ok P k) (vdsL_length P k) hov
      obtain ⟨Au, cu, rfl, hcu, hUd⟩ := own_ints hou
      obtain ⟨r1, r2, r3⟩ := least_enough P k m hnn.2.2.2 ⟨hnn.1, hnn.2.1⟩ hnn.2.2.1
      have htb := total_bound (vdsL_right P k hnn.2.2.2 ⟨hnn.1, hnn.2.1⟩)
      rw [vdsL_sum, ← hNe] at htb
      rw [← hNe, ← hMe] at r1 r2
      rw [← hNe] at r3
      have hUl : (chosenS (fun i => decide (i < m)) k).length ≤ 7 := by have := chosenS_length (fun i => decide (i < m)) k; omega
      have hVl : (vdsL P k).length < 1000 := by rw [vdsL_length]; omega
      have t1 : wrap64 (3 * M) = 3 * M := w64 _ ⟨by omega, by omega⟩
      have t2 : wrap64 (2 * N) = 2 * N := w64 _ ⟨by omega, by omega⟩
      have t3 : wrap64 (N * P) = N * P := w64 _ ⟨by omega, by omega⟩
      obtain ⟨Vl, hVV⟩ : ∃ V, V = vdsL P k := ⟨_, rfl⟩
      obtain ⟨U, hU⟩ : ∃ U, U = chosenS (fun i => decide (i < m)) k := ⟨_, rfl⟩
      have okV : keysOk Vl := by rw [hVV]; exact vdsL_ok P k
      rw [← hVV] at hcv hVd r1 r2 r3 hVl ⊢
      rw [← hU] at hcu hUd r1 r2 hUl ⊢
      obtain ⟨e1, he1⟩ : ∃ e, e = decide (2 * N < 3 * M) := ⟨_, rfl⟩
      obtain ⟨e2, he2⟩ : ∃ e, e = decide (3 * M < N) := ⟨_, rfl⟩
      obtain ⟨T, hT⟩ : ∃ T, T = N * P := ⟨_, rfl⟩
      rw [← he1] at r1
      rw [← he2] at r2
      rw [← hT] at r3
      have t4 : wrap64 (N * P) = T := t3.trans hT.symm
      have Kr := Lib.hid (above_trans K1'.out (grown_above hK))
      have J0 := Lib.hid (Below.refl wr.heap.size wr)
      have HF := Lib.hid (show ∀ W, Below wr.heap.size wr W → VdsAt W Av Vl ∧ IntsAt W Au U ∧ B ≤ W.heap.size ∧ ErrAt W B 2 es ∧ ErrAt W B 0 er ∧ ErrAt W B 1 et ∧ Below w.heap.size w W from fun W hW => by
        have hK := above_trans Kr.out hW
        exact ⟨hVd.above hW, hUd.above hW, Nat.le_trans HE.out.1 hK.size, HE.out.2.1.above hK HE.out.1, HE.out.2.2.1.above hK HE.out.1, HE.out.2.2.2.above hK HE.out.1, hK⟩)
      have HL := Lib.hid (And.intro okV (And.intro hVl (And.intro (Nat.le_trans hUl (by omega : 7 ≤ 100)) hcu)))
      have HR := Lib.hid (And.intro r1 (And.intro r2 r3))
      have HT := Lib.hid (And.intro t1 (And.intro t2 (And.intro t4 (And.intro he1 he2))))
      clear hov hou hne hK hI hkn hlt hNe hMe hnn hcv hVd hcu hUd r1 r2 r3 htb hUl hVl t1 t2 t3 t4 hVV hU okV he1 he2 hT
      go_wp2_with fail
      obtain ⟨f1, f2, f3, f4, f5, f6, f7⟩ := HF.out wr J0.out
      refine (enough_is wr Av Au cv cu B Vl U es er et f1 HL.out.1 HL.out.2.1 f2 HL.out.2.2.1 HL.out.2.2.2 f3 f4 f5 f6).mono ?_
      rintro e x1 ⟨rfl, hk⟩
      rw [HR.out.1]
      have J1 := Lib.hid (above_trans J0.out hk)
      clear hk f1 f2 f3 f4 f5 f6 f7
      obtain ⟨t1, t2, t3, he1, he2⟩ := HT.out
      have he1' := he1.symm
      have he2' := he2.symm
      clear he1 he2
      go_wp2_with fail
      obtain ⟨f1, f2, f3, f4, f5, f6, f7⟩ := HF.out x1 J1.out
      refine (few_is x1 Av Au cv cu B Vl U es er et f1 HL.out.1 HL.out.2.1 f2 HL.out.2.2.1 HL.out.2.2.2 f3 f4 f5 f6).mono ?_
      rintro e x2 ⟨rfl, hk⟩
      rw [HR.out.2.1]
      have J2 := Lib.hid (above_trans J1.out hk)
      clear hk f1 f2 f3 f4 f5 f6 f7
      go_wp2_with fail
      obtain ⟨f1, f2, f3, f4, f5, f6, f7⟩ := HF.out x2 J2.out
      refine (total_is x2 Av cv B Vl es f1 HL.out.1 HL.out.2.1 f3 f4).mono ?_
      rintro e x3 ⟨rfl, hk⟩
      rw [HR.out.2.2]
      have J3 := Lib.hid (above_trans J2.out hk)
      clear hk f1 f2 f3 f4 f5 f6 f7
      go_wp2_with fail
      go_ret
      exact ⟨rfl, (HF.out x3 J3.out).2.2.2.2.2.2⟩
end Go.Proofs.YtjoehhchejnhgaaDoor
