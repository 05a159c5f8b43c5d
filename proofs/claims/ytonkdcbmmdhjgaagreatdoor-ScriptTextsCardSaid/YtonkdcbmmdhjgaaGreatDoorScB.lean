/-
  script.number, shape, find.
-/
import Derived.Test.YtonkdcbmmdhjgaaGreatDoorScA
namespace Go.Proofs.YtonkdcbmmdhjgaaGreatDoor
open Go.RowKit Go.Shelf

theorem str_ne {z s : ByteArray} (h : z ≠ s) : ¬ z.toList = s.toList := by
  obtain ⟨a⟩ := z
  obtain ⟨b⟩ := s
  rw [ByteArray.toList_mk, ByteArray.toList_mk]
  intro e
  exact h (congrArg ByteArray.mk (Array.ext' e))
theorem str_neB {z s : ByteArray} (h : z ≠ s) : (z.toList == s.toList) = false := by simpa using str_ne h
theorem lit_neB {s : ByteArray} {a : List UInt8} (h : s ≠ ⟨a.toArray⟩) : (s.toList == a) = false := by
  rw [beq_eq_false_iff_ne]
  intro e
  apply h
  obtain ⟨⟨l⟩⟩ := s
  rw [ByteArray.toList_mk] at e
  subst e
  rfl
def numV (l : List UInt8) : Int := (numS l).getD 0
def numOk (l : List UInt8) : Bool := (numS l).isSome
set_option maxRecDepth 100000 in
set_option maxHeartbeats 2000000 in
theorem number_is (s : ByteArray) (hs : s.size ≤ 281474976710656) (w : World) (he : ScEnv w) : Calls Tryz.prog 25 #[.string s] w fun e w' => e = .returned (.tuple #[.int .i64 (numV s.data.toList), .bool (numOk s.data.toList)]) ∧ w.grownBy w' none := by
  obtain ⟨V, hV⟩ : ∃ V, V = numV s.data.toList := ⟨_, rfl⟩
  obtain ⟨K, hK⟩ : ∃ K, K = numOk s.data.toList := ⟨_, rfl⟩
  rw [← hV, ← hK]
  have HA := Lib.hid (atoi_is s hs w he)
  go_enter Tryz.func25, Tryz.ntmps25
  have HE := Lib.hid (And.intro he (And.intro hV hK))
  clear he hV hK
  go_wp2_with fail
  refine HA.out.mono ?_
  rintro e w1 ⟨v, er, rfl, hend, hg⟩
  unfold atoiEnd at hend
  cases h : Lib.atoiAll s.data.toList with
  | ok u =>
    rw [h] at hend
    obtain ⟨rfl, rfl⟩ := hend
    by_cases hv : 0 ≤ v ∧ v ≤ 999999
    · obtain ⟨z, hz⟩ : ∃ z : ByteArray, z = ⟨(Lib.itoa v).toArray⟩ := ⟨_, rfl⟩
      have HI := Lib.hid (show Calls Tryz.prog 21 #[.int .i64 v] w1 fun e w' => e = .returned (.string z) ∧ w1.grownBy w' none by rw [hz]; exact itoa_is v (by omega) (by omega) w1 (HE.out.1.grown hg))
      have d1 : decide (v < 0) = false := by simp; omega
      have d2 : decide (999999 < v) = false := by simp; omega
      have HV := Lib.hid (And.intro hv (And.intro hz (And.intro h hg)))
      clear hv hz h hg
      go_wp2_with fail
      refine HI.out.mono ?_
      rintro e w2 ⟨rfl, hg2⟩
      have HG := Lib.hid hg2
      clear hg2
      by_cases hq : z = s
      · subst hq
        go_wp2_with fail
        go_ret2
        obtain ⟨hv, hz, h, hg⟩ := HV.out
        have hn : numS z.data.toList = some v := by
          unfold numS
          rw [h]
          simp only []
          rw [if_pos ⟨hv.1, hv.2, by rw [hz]⟩]
        refine ⟨?_, grown_trans hg HG.out⟩
        rw [HE.out.2.1, HE.out.2.2, numV, numOk, hn]; rfl
      · have hq2 := str_ne hq
        have hq3 := str_neB hq
        go_wp2_with fail
        go_ret2
        obtain ⟨hv, hz, h, hg⟩ := HV.out
        have hn : numS s.data.toList = none := by
          unfold numS
          rw [h]
          simp only []
          rw [if_neg]
          rintro ⟨_, _, h3⟩
          apply hq
          rw [hz, h3]
        refine ⟨?_, grown_trans hg HG.out⟩
        rw [HE.out.2.1, HE.out.2.2, numV, numOk, hn]; rfl
    · have hn : numS s.data.toList = none := by
        unfold numS
        rw [h]
        simp only []
        rw [if_neg (fun q => hv ⟨q.1, q.2.1⟩)]
      have HV := Lib.hid (And.intro hn hg)
      by_cases h0 : v < 0
      · have d1 : decide (v < 0) = true := by simpa using h0
        clear hn hg hv h
        go_wp2_with fail
        go_ret2
        exact ⟨by rw [HE.out.2.1, HE.out.2.2, numV, numOk, HV.out.1]; rfl, HV.out.2⟩
      · have d1 : decide (v < 0) = false := by simpa using h0
        have h9 : 999999 < v := by omega
        have d2 : decide (999999 < v) = true := by simpa using h9
        clear hn hg hv h
        go_wp2_with fail
        go_ret2
        exact ⟨by rw [HE.out.2.1, HE.out.2.2, numV, numOk, HV.out.1]; rfl, HV.out.2⟩
  | «syntax» =>
    rw [h] at hend
    obtain ⟨t, p, rfl⟩ := hend
    have hn : numS s.data.toList = none := by unfold numS; rw [h]
    have HV := Lib.hid (And.intro hn hg)
    clear hn hg h
    go_wp2_with fail
    go_ret2
    exact ⟨by rw [HE.out.2.1, HE.out.2.2, numV, numOk, HV.out.1]; rfl, HV.out.2⟩
  | range =>
    rw [h] at hend
    obtain ⟨t, p, rfl⟩ := hend
    have hn : numS s.data.toList = none := by unfold numS; rw [h]
    have HV := Lib.hid (And.intro hn hg)
    clear hn hg h
    go_wp2_with fail
    go_ret2
    exact ⟨by rw [HE.out.2.1, HE.out.2.2, numV, numOk, HV.out.1]; rfl, HV.out.2⟩

/-- A text out of bytes. -/
def strB (l : List UInt8) : ByteArray := ⟨l.toArray⟩
theorem strB_list (l : List UInt8) : (strB l).data.toList = l := by simp [strB]
theorem strB_of (s : ByteArray) : strB s.data.toList = s := by simp [strB]
set_option maxRecDepth 100000 in
set_option maxHeartbeats 2000000 in
theorem shape_is (k : Int) (w : World) : Calls Tryz.prog 12 #[.int .i64 k] w fun e w' => e = .returned (.tuple #[.string (strB (shapeS k).1), .string (strB (shapeS k).2)]) ∧ w' = w := by
  rcases shape_cases k with (rfl | rfl | rfl | rfl | rfl | rfl | rfl | rfl | rfl | rfl) | ⟨hk, h2⟩
  iterate 10
    · go_enter Tryz.func12, Tryz.ntmps12
      go_wp2_with fail
      go_ret2
      exact ⟨rfl, rfl⟩
  · obtain ⟨R, hR⟩ : ∃ R, R = shapeS k := ⟨_, rfl⟩
    rw [← hR]
    have HR := Lib.hid (hR.trans h2)
    have d1 : ¬ k = 1 := by omega
    have d2 : ¬ k = 2 := by omega
    have d3 : ¬ k = 3 := by omega
    have d4 : ¬ k = 4 := by omega
    have d5 : ¬ k = 5 := by omega
    have d6 : ¬ k = 6 := by omega
    have d7 : ¬ k = 7 := by omega
    have d8 : ¬ k = 8 := by omega
    have d9 : ¬ k = 9 := by omega
    have d10 : ¬ k = 10 := by omega
    clear hR h2 hk
    go_enter Tryz.func12, Tryz.ntmps12
    go_wp2_with fail
    go_ret2
    rw [HR.out]
    exact ⟨rfl, rfl⟩
theorem kindS_hit {k : Int} {w : List UInt8} (h1 : 1 ≤ k) (h2 : k ≤ 10) (h : (shapeS k).1 = w) : kindS w = k := by
  rw [← h]
  refine (kindS_shape ?_).1
  rcases shape_cases k with (rfl | rfl | rfl | rfl | rfl | rfl | rfl | rfl | rfl | rfl) | ⟨h3, _⟩
  iterate 10 · decide
  · exact absurd ⟨h1, h2⟩ h3
theorem kindS_miss {w : List UInt8} (h : ∀ k : Int, 1 ≤ k → k ≤ 10 → (shapeS k).1 ≠ w) : kindS w = 0 := by
  refine Classical.byContradiction fun hn => ?_
  obtain ⟨e, hw⟩ := kindS_back hn
  rcases shape_cases (kindS w) with hk | ⟨_, h2⟩
  · exact h (kindS w) (by omega) (by omega) e
  · rw [h2] at e; exact hw e.symm
set_option maxRecDepth 100000 in
set_option maxHeartbeats 2000000 in
theorem find_is (s : ByteArray) (w : World) : Calls Tryz.prog 35 #[.string s] w fun e w' => e = .returned (.tuple #[.int .i64 (kindS s.data.toList), .string (strB (shapeS (kindS s.data.toList)).2)]) ∧ w' = w := by
  obtain ⟨K, hK⟩ : ∃ K, K = kindS s.data.toList := ⟨_, rfl⟩
  rw [← hK]
  have HK := Lib.hid hK
  clear hK
  go_enter Tryz.func35, Tryz.ntmps35
  go_wp2_with fail
  go_loop [4] (fun i => ∃ k : Int, i = .int .i64 k ∧ 1 ≤ k ∧ k ≤ 11 ∧ ∀ j : Int, 1 ≤ j → j < k → (shapeS j).1 ≠ s.data.toList) (fun i => (11 - intOf i).toNat)
  case atStart => exact ⟨1, rfl, by omega, by omega, fun j h1 h2 => by omega⟩
  case round =>
    obtain ⟨k, rfl, h1, h2, hno⟩ := hrel
    have HN := Lib.hid hno
    clear hno
    by_cases hlt : k ≤ 10
    · have d1 : decide (k ≤ 10) = true := by simpa using hlt
      obtain ⟨x, hx⟩ : ∃ x, x = strB (shapeS k).1 := ⟨_, rfl⟩
      obtain ⟨y, hy⟩ : ∃ y, y = strB (shapeS k).2 := ⟨_, rfl⟩
      have HS := Lib.hid (show Calls Tryz.prog 12 #[.int .i64 k] w fun e w' => e = .returned (.tuple #[.string x, .string y]) ∧ w' = w by rw [hx, hy]; exact shape_is k w)
      have HX := Lib.hid (And.intro hx hy)
      clear hx hy
      by_cases hq : x = s
      · subst hq
        go_wp2_with (go_at_call 12; refine HS.out.mono ?_; rintro e w' ⟨rfl, rfl⟩)
        go_ret2
        have hk := kindS_hit (w := x.data.toList) h1 hlt (by rw [HX.out.1, strB_list])
        rw [HK.out, hk, ← HX.out.2]
        exact ⟨rfl, rfl⟩
      · have hq2 := str_ne hq
        have hq3 := str_neB hq
        have HQ := Lib.hid hq
        clear hq
        go_wp2_with (go_at_call 12; refine HS.out.mono ?_; rintro e w' ⟨rfl, rfl⟩)
        go_round
        case rel =>
          refine ⟨k + 1, by go_num, by omega, by omega, fun j h3 h4 => ?_⟩
          by_cases hjk : j = k
          · subst hjk
            intro e
            apply HQ.out
            rw [HX.out.1, e, strB_of]
          · exact HN.out j h3 (by omega)
        case measure => simp [intOf]; omega
    · have d1 : decide (k ≤ 10) = false := by simpa using hlt
      go_wp2_with fail
      go_ret2
      have hk := kindS_miss (w := s.data.toList) fun j h3 h4 => HN.out j h3 (by omega)
      rw [HK.out, hk]
      exact ⟨rfl, rfl⟩
end Go.Proofs.YtonkdcbmmdhjgaaGreatDoor
