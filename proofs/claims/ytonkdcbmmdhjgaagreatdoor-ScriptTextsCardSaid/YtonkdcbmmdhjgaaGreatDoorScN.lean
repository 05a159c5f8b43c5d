/-
  script.write.
-/
import Derived.Test.YtonkdcbmmdhjgaaGreatDoorScM
namespace Go.Proofs.YtonkdcbmmdhjgaaGreatDoor
open Go.RowKit Go.Shelf

/-- Its lists lie where it says. -/
def OpM.At (w : World) (o : OpM) : Prop := IntsAt w o.A1 o.v.set ∧ BoolsAt w o.A2 o.v.keep ∧ BytesAt w o.A3 o.v.data
theorem OpM.At.gr {w w' : World} {o : OpM} (h : o.At w) (g : w.grownBy w' none) : o.At w' := ⟨h.1.gr g, h.2.1.grown g, h.2.2.grown g (by simp)⟩
def i64 (z : Int) : Prop := -9223372036854775808 ≤ z ∧ z ≤ 9223372036854775807
/-- No more than the walks bear. -/
structure OpV.Fit (o : OpV) : Prop where
  node : i64 o.node
  n : i64 o.n
  each : ∀ z ∈ o.set, i64 z
  set : o.set.length ≤ 1000
  keep : o.keep.length ≤ 1000
  data : o.data.length ≤ 40000
theorem strB_nil : strB [] = ⟨#[]⟩ := rfl
theorem orDash_neB {t : List UInt8} (h : t ≠ []) : ((strB t).toList == []) = false := lit_neB (a := []) fun e => h (by have := strB_list t; rw [e] at this; exact this.symm)
set_option maxRecDepth 100000 in
set_option maxHeartbeats 2000000 in
theorem write_is (w : World) (he : ScEnv w) (o : OpM) (ho : o.At w) (hf : o.v.Fit) (c : UInt8) (C : Int) (hC : C = (c.toNat : Int)) :
    Calls Tryz.prog 13 #[.agg o.val, .int .u8 C] w fun e w' => e = .returned (.string (strB (writeS o.v c))) ∧ w.grownBy w' none := by
  obtain ⟨R, hR⟩ : ∃ R, R = strB (writeS o.v c) := ⟨_, rfl⟩
  rw [← hR]
  have HA := Lib.hid (fun cs : Array Value => And.intro (he.grown (World.grownBy_alloc w (.cells cs 29) none)) (ho.gr (World.grownBy_alloc w (.cells cs 29) none)))
  have HL := Lib.hid hf
  clear he ho hf
  show Calls Tryz.prog 13 #[.agg #[.int .i64 o.v.kind, .int .i64 o.v.node, .int .i64 o.v.n, .slice o.A1 o.v.set.length o.c1, .slice o.A2 o.v.keep.length o.c2, .slice o.A3 o.v.data.length o.c3], .int .u8 C] w fun e w' => e = .returned (.string R) ∧ w.grownBy w' none
  by_cases h105 : c = 105
  · have hC' : C = 105 := by rw [hC, h105]; rfl
    subst hC'
    have hS : R = strB (Lib.itoa o.v.node) := by rw [hR, h105]; rfl
    have HT := Lib.hid (fun cs : Array Value => itoa_is o.v.node HL.out.node.1 HL.out.node.2 (w.alloc (.cells cs 29)) (HA.out cs).1)
    have HS := Lib.hid hS
    clear hS hC h105 hR
    go_enter Tryz.func13, Tryz.ntmps13
    go_wp2_with fail
    refine (HT.out _).mono ?_
    rintro e w1 ⟨rfl, k1⟩
    have HK := Lib.hid (grown_trans (World.grownBy_alloc w _ none) k1)
    clear k1
    go_wp2_with fail
    go_ret
    exact ⟨by rw [HS.out]; rfl, HK.out⟩
  by_cases h110 : c = 110
  · have hC' : C = 110 := by rw [hC, h110]; rfl
    subst hC'
    have hS : R = strB (Lib.itoa o.v.n) := by rw [hR, h110]; rfl
    have HT := Lib.hid (fun cs : Array Value => itoa_is o.v.n HL.out.n.1 HL.out.n.2 (w.alloc (.cells cs 29)) (HA.out cs).1)
    have HS := Lib.hid hS
    clear hS hC h110 hR
    go_enter Tryz.func13, Tryz.ntmps13
    go_wp2_with fail
    refine (HT.out _).mono ?_
    rintro e w1 ⟨rfl, k1⟩
    have HK := Lib.hid (grown_trans (World.grownBy_alloc w _ none) k1)
    clear k1
    go_wp2_with fail
    go_ret
    exact ⟨by rw [HS.out]; rfl, HK.out⟩
  by_cases h120 : c = 120
  · have hC' : C = 120 := by rw [hC, h120]; rfl
    subst hC'
    obtain ⟨T, hT⟩ : ∃ T, T = writeHex o.v.data := ⟨_, rfl⟩
    have hS : R = strB (orDash T) := by rw [hR, h120, hT]; rfl
    have HT := Lib.hid (fun cs : Array Value => wbytes_is (w.alloc (.cells cs 29)) o.A3 _ o.c3 o.v.data rfl (HA.out cs).2.2.2 (Nat.le_trans HL.out.data (by decide)))
    rw [← hT] at HT
    have HS := Lib.hid hS
    clear hS hC h120 hR hT
    go_enter Tryz.func13, Tryz.ntmps13
    go_wp2_with fail
    refine (HT.out _).mono ?_
    rintro e w1 ⟨rfl, k1⟩
    have HK := Lib.hid (grown_trans (World.grownBy_alloc w _ none) k1)
    clear k1
    by_cases hd : T = []
    · subst hd
      rw [strB_nil]
      go_wp2_with fail
      go_ret
      exact ⟨by rw [HS.out]; rfl, HK.out⟩
    · have d1 := orDash_neB hd
      obtain ⟨S, hSS⟩ : ∃ S, S = strB T := ⟨_, rfl⟩
      rw [← hSS] at d1 ⊢
      have HS2 := Lib.hid (show R = S by rw [HS.out, hSS, orDash, if_neg hd])
      clear hd hSS
      go_wp2_with fail
      go_ret
      exact ⟨by rw [HS2.out]; rfl, HK.out⟩
  by_cases h112 : c = 112
  · have hC' : C = 112 := by rw [hC, h112]; rfl
    subst hC'
    obtain ⟨T, hT⟩ : ∃ T, T = joinP 44 (o.v.set.map Lib.itoa) := ⟨_, rfl⟩
    have hS : R = strB (orDash T) := by rw [hR, h112, hT]; rfl
    have HT := Lib.hid (fun cs : Array Value => wpows_is (w.alloc (.cells cs 29)) (HA.out cs).1 o.A1 _ o.c1 o.v.set rfl (HA.out cs).2.1 HL.out.each HL.out.set)
    rw [← hT] at HT
    have HS := Lib.hid hS
    clear hS hC h112 hR hT
    go_enter Tryz.func13, Tryz.ntmps13
    go_wp2_with fail
    refine (HT.out _).mono ?_
    rintro e w1 ⟨rfl, k1⟩
    have HK := Lib.hid (grown_trans (World.grownBy_alloc w _ none) k1)
    clear k1
    by_cases hd : T = []
    · subst hd
      rw [strB_nil]
      go_wp2_with fail
      go_ret
      exact ⟨by rw [HS.out]; rfl, HK.out⟩
    · have d1 := orDash_neB hd
      obtain ⟨S, hSS⟩ : ∃ S, S = strB T := ⟨_, rfl⟩
      rw [← hSS] at d1 ⊢
      have HS2 := Lib.hid (show R = S by rw [HS.out, hSS, orDash, if_neg hd])
      clear hd hSS
      go_wp2_with fail
      go_ret
      exact ⟨by rw [HS2.out]; rfl, HK.out⟩
  by_cases h98 : c = 98
  · have hC' : C = 98 := by rw [hC, h98]; rfl
    subst hC'
    obtain ⟨T, hT⟩ : ∃ T, T = o.v.keep.map bitD := ⟨_, rfl⟩
    have hS : R = strB (orDash T) := by rw [hR, h98, hT]; rfl
    have HT := Lib.hid (fun cs : Array Value => wbits_is (w.alloc (.cells cs 29)) o.A2 _ o.c2 o.v.keep rfl (HA.out cs).2.2.1 HL.out.keep)
    rw [← hT] at HT
    have HS := Lib.hid hS
    clear hS hC h98 hR hT
    go_enter Tryz.func13, Tryz.ntmps13
    go_wp2_with fail
    refine (HT.out _).mono ?_
    rintro e w1 ⟨rfl, k1⟩
    have HK := Lib.hid (grown_trans (World.grownBy_alloc w _ none) k1)
    clear k1
    by_cases hd : T = []
    · subst hd
      rw [strB_nil]
      go_wp2_with fail
      go_ret
      exact ⟨by rw [HS.out]; rfl, HK.out⟩
    · have d1 := orDash_neB hd
      obtain ⟨S, hSS⟩ : ∃ S, S = strB T := ⟨_, rfl⟩
      rw [← hSS] at d1 ⊢
      have HS2 := Lib.hid (show R = S by rw [HS.out, hSS, orDash, if_neg hd])
      clear hd hSS
      go_wp2_with fail
      go_ret
      exact ⟨by rw [HS2.out]; rfl, HK.out⟩
  have hS : R = strB [45] := by rw [hR, writeS, if_neg h105, if_neg h110, if_neg h120, if_neg h112, if_neg h98]
  have dne : ∀ (a : UInt8) (A : Int), A = (a.toNat : Int) → ¬ c = a → ¬ C = A := fun a A hA hc e => hc (UInt8.toNat_inj.1 (by omega))
  have e1 : (C == 105) = false := by simpa using dne 105 105 rfl h105
  have e2 : (C == 110) = false := by simpa using dne 110 110 rfl h110
  have e3 : (C == 120) = false := by simpa using dne 120 120 rfl h120
  have e4 : (C == 112) = false := by simpa using dne 112 112 rfl h112
  have e5 : (C == 98) = false := by simpa using dne 98 98 rfl h98
  have HS := Lib.hid hS
  clear dne hS hC hR h105 h110 h120 h112 h98
  go_enter Tryz.func13, Tryz.ntmps13
  go_wp2_with fail
  go_ret
  exact ⟨by rw [HS.out]; rfl, World.grownBy_alloc w _ none⟩
end Go.Proofs.YtonkdcbmmdhjgaaGreatDoor
