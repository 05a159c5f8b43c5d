/-
  The document's own: number.
-/
import Derived.Test.YtonkdcbmmdhjgaaDoorScY
namespace Go.Proofs.YtonkdcbmmdhjgaaDoor
open Go.RowKit Go.Shelf

set_option maxRecDepth 100000 in
set_option maxHeartbeats 2000000 in
theorem rnumber_is (s : ByteArray) (l : List UInt8) (hl : s.data.toList = l) (w : World) : Calls Tryd.prog 31 #[.string s] w fun e w' => e = .returned (.int .i64 (rnumV l)) ∧ w.grownBy w' none := by
  have hln : l.length = s.size := by rw [← hl]; exact Array.length_toList
  obtain ⟨V, hV⟩ : ∃ V, V = rnumV l := ⟨_, rfl⟩
  rw [← hV]
  have HX := Lib.hid (And.intro hl hln)
  have HV := Lib.hid hV
  clear hl hV
  have none_of : (l = [] ∨ 6 < l.length ∨ (1 < l.length ∧ l.head? = some 48)) → V = -1 := fun h => by rw [HV.out, rnumV, ← numR_eq, numR, if_pos h]; rfl
  by_cases h0 : s.size = 0
  · have HB := Lib.hid (none_of (.inl (List.eq_nil_of_length_eq_zero (by omega))))
    have d0 : ((s.size : Int) == 0) = true := by simp [h0]
    clear none_of h0
    go_enter Tryd.func31, Tryd.ntmps31
    go_wp2_with fail
    go_ret
    exact ⟨by rw [HB.out]; rfl, World.grownBy.refl _ _⟩
  have d0 : ((s.size : Int) == 0) = false := by
    simp only [beq_eq_false_iff_ne, ne_eq]
    omega
  by_cases h6 : 6 < s.size
  · have HB := Lib.hid (none_of (.inr (.inl (by omega))))
    have d6 : decide ((6 : Int) < (s.size : Int)) = true := by simp; omega
    clear none_of
    go_enter Tryd.func31, Tryd.ntmps31
    go_wp2_with fail
    go_ret
    exact ⟨by rw [HB.out]; rfl, World.grownBy.refl _ _⟩
  have d6 : decide ((6 : Int) < (s.size : Int)) = false := by simp; omega
  have hl0 : 0 < l.length := by omega
  obtain ⟨c, hc⟩ : ∃ c, c = l[0] := ⟨_, rfl⟩
  have hcq : l[0]? = some c := by rw [hc]; exact List.getElem?_eq_getElem hl0
  have hhd : l.head? = some c := by rw [List.head?_eq_getElem?]; exact hcq
  by_cases h1 : 1 < s.size
  · have d1 : decide ((1 : Int) < (s.size : Int)) = true := by simp; omega
    obtain ⟨C, hC⟩ : ∃ C : Int, C = (c.toNat : Int) := ⟨_, rfl⟩
    have hix0 : ∀ W, Sem.run Tryd.prog (Instr.index 9 (.string s) (.int .i64 0)) W = .ok (.int .u8 C) W := fun W => by rw [hC]; exact str_at _ 0 c (by rw [HX.out.1]; exact hcq) W
    by_cases h48 : c = 48
    · have HB := Lib.hid (none_of (.inr (.inr ⟨by omega, by rw [hhd, h48]⟩)))
      have d2 : (C == 48) = true := by rw [hC, h48]; rfl
      clear none_of hC hcq hhd hc
      go_enter Tryd.func31, Tryd.ntmps31
      go_wp2_with fail
      go_ret
      exact ⟨by rw [HB.out]; rfl, World.grownBy.refl _ _⟩
    · have d2 : (C == 48) = false := by
        rw [hC]
        simp only [beq_eq_false_iff_ne, ne_eq]
        intro e
        exact h48 (UInt8.toNat_inj.1 (by show c.toNat = 48; omega))
      have HN := Lib.hid (show ¬ (l = [] ∨ 6 < l.length ∨ (1 < l.length ∧ l.head? = some 48)) by
        rintro (h | h | ⟨_, h⟩)
        · rw [h] at hl0; simp at hl0
        · omega
        · rw [hhd] at h; exact h48 (Option.some.inj h))
      clear none_of hC hcq hhd hc h48
      go_enter Tryd.func31, Tryd.ntmps31
      go_wp2_with fail
      go_loopw [3, 4] (fun n i wr => ∃ k m : Nat, k ≤ s.size ∧ i = .int .i64 (k : Int) ∧ n = .int .i64 (m : Int) ∧ Hid (Lib.decFrom 0 (l.take k) = some m ∧ w.grownBy wr none)) (fun _ i _ => s.size - (intOf i).toNat)
      case atStart => exact ⟨0, 0, Nat.zero_le _, rfl, rfl, Lib.hid ⟨rfl, World.grownBy.refl _ _⟩⟩
      case round =>
        obtain ⟨k, m, hk, rfl, rfl, HI⟩ := hrel
        by_cases hlt : k < s.size
        · have e1 : decide ((k : Int) < (s.size : Int)) = true := by simp; omega
          have hkl : k < l.length := by rw [HX.out.2]; exact hlt
          obtain ⟨b, hb⟩ : ∃ b, b = l[k] := ⟨_, rfl⟩
          have hbq : l[k]? = some b := by rw [hb]; exact List.getElem?_eq_getElem hkl
          obtain ⟨B, hB⟩ : ∃ B : Int, B = (b.toNat : Int) := ⟨_, rfl⟩
          have hix : ∀ W, Sem.run Tryd.prog (Instr.index 9 (.string s) (.int .i64 (k : Int))) W = .ok (.int .u8 B) W := fun W => by rw [hB]; exact str_at _ k b (by rw [HX.out.1]; exact hbq) W
          have htk : l.take (k + 1) = l.take k ++ [b] := by rw [List.take_add_one, hbq]; rfl
          have hl2 : l = l.take k ++ b :: l.drop (k + 1) := by
            conv => lhs; rw [← List.take_append_drop k l]
            rw [List.drop_eq_getElem_cons hkl, ← hb]
          have hBb : 0 ≤ B ∧ B < 256 := by have := b.toNat_lt; omega
          have hm : m < 100000 := by
            have h1 := Lib.decFrom_lt _ _ _ HI.out.1
            have h2 : (l.take k).length ≤ 5 := by rw [List.length_take]; omega
            have h3 : 10 ^ (l.take k).length ≤ 10 ^ 5 := Nat.pow_le_pow_right (by decide) h2
            have e5 : (10 : Nat) ^ 5 = 100000 := by decide
            omega
          have HH := Lib.hid (And.intro hB (And.intro htk hl2))
          clear hB htk hl2 hbq hb hkl
          have bad : ∀ h : Lib.digitVal b = none, V = -1 := fun h => by
            have h9 : Lib.decFrom 0 l = none := by
              rw [HH.out.2.2, decFrom_append _ _ _ _ HI.out.1, Lib.decFrom, h]
            rw [HV.out, rnumV, ← numR_eq, numR, if_neg HN.out, h9]; rfl
          have BAD := Lib.hid bad
          clear bad
          by_cases h1 : B < 48
          · have e2 : decide (B < 48) = true := by simpa using h1
            have HB := Lib.hid (BAD.out (by unfold Lib.digitVal; rw [if_neg (by have := HH.out.1; omega)]))
            go_wp2_with fail
            go_ret
            exact ⟨by rw [HB.out]; rfl, HI.out.2⟩
          · have e2 : decide (B < 48) = false := by simpa using h1
            by_cases h2 : 57 < B
            · have e3 : decide (57 < B) = true := by simpa using h2
              have HB := Lib.hid (BAD.out (by unfold Lib.digitVal; rw [if_neg (by have := HH.out.1; omega)]))
              go_wp2_with fail
              go_ret
              exact ⟨by rw [HB.out]; rfl, HI.out.2⟩
            · have e3 : decide (57 < B) = false := by simpa using h2
              go_wp2_with fail
              go_roundw
              case rel =>
                obtain ⟨hB, htk, _⟩ := HH.out
                refine ⟨k + 1, m * 10 + (b.toNat - 48), by omega, rfl, ?_, Lib.hid ⟨?_, HI.out.2⟩⟩
                · congr 1; omega
                · rw [htk, decFrom_append _ _ _ _ HI.out.1, Lib.decFrom, Lib.digitVal, if_pos (by omega)]; rfl
              case measure => simp [intOf]; omega
        · have e1 : decide ((k : Int) < (s.size : Int)) = false := by simp; omega
          obtain rfl : k = s.size := by omega
          have HR := Lib.hid (show V = (m : Int) by
            have h9 := HI.out.1
            rw [List.take_of_length_le (by rw [HX.out.2]; exact Nat.le_refl _)] at h9
            rw [HV.out, rnumV, ← numR_eq, numR, if_neg HN.out, h9]; rfl)
          go_wp2_with fail
          go_ret
          exact ⟨by rw [HR.out]; rfl, HI.out.2⟩
  · have d1 : decide ((1 : Int) < (s.size : Int)) = false := by simp; omega
    have HN := Lib.hid (show ¬ (l = [] ∨ 6 < l.length ∨ (1 < l.length ∧ l.head? = some 48)) by
      rintro (h | h | ⟨h, _⟩)
      · rw [h] at hl0; simp at hl0
      · omega
      · omega)
    clear none_of hcq hhd hc
    go_enter Tryd.func31, Tryd.ntmps31
    go_wp2_with fail
    go_loopw [3, 4] (fun n i wr => ∃ k m : Nat, k ≤ s.size ∧ i = .int .i64 (k : Int) ∧ n = .int .i64 (m : Int) ∧ Hid (Lib.decFrom 0 (l.take k) = some m ∧ w.grownBy wr none)) (fun _ i _ => s.size - (intOf i).toNat)
    case atStart => exact ⟨0, 0, Nat.zero_le _, rfl, rfl, Lib.hid ⟨rfl, World.grownBy.refl _ _⟩⟩
    case round =>
      obtain ⟨k, m, hk, rfl, rfl, HI⟩ := hrel
      by_cases hlt : k < s.size
      · have e1 : decide ((k : Int) < (s.size : Int)) = true := by simp; omega
        have hkl : k < l.length := by rw [HX.out.2]; exact hlt
        obtain ⟨b, hb⟩ : ∃ b, b = l[k] := ⟨_, rfl⟩
        have hbq : l[k]? = some b := by rw [hb]; exact List.getElem?_eq_getElem hkl
        obtain ⟨B, hB⟩ : ∃ B : Int, B = (b.toNat : Int) := ⟨_, rfl⟩
        have hix : ∀ W, Sem.run Tryd.prog (Instr.index 9 (.string s) (.int .i64 (k : Int))) W = .ok (.int .u8 B) W := fun W => by rw [hB]; exact str_at _ k b (by rw [HX.out.1]; exact hbq) W
        have htk : l.take (k + 1) = l.take k ++ [b] := by rw [List.take_add_one, hbq]; rfl
        have hl2 : l = l.take k ++ b :: l.drop (k + 1) := by
          conv => lhs; rw [← List.take_append_drop k l]
          rw [List.drop_eq_getElem_cons hkl, ← hb]
        have hBb : 0 ≤ B ∧ B < 256 := by have := b.toNat_lt; omega
        have hm : m < 100000 := by
          have h1 := Lib.decFrom_lt _ _ _ HI.out.1
          have h2 : (l.take k).length ≤ 5 := by rw [List.length_take]; omega
          have h3 : 10 ^ (l.take k).length ≤ 10 ^ 5 := Nat.pow_le_pow_right (by decide) h2
          have e5 : (10 : Nat) ^ 5 = 100000 := by decide
          omega
        have HH := Lib.hid (And.intro hB (And.intro htk hl2))
        clear hB htk hl2 hbq hb hkl
        have bad : ∀ h : Lib.digitVal b = none, V = -1 := fun h => by
          have h9 : Lib.decFrom 0 l = none := by
            rw [HH.out.2.2, decFrom_append _ _ _ _ HI.out.1, Lib.decFrom, h]
          rw [HV.out, rnumV, ← numR_eq, numR, if_neg HN.out, h9]; rfl
        have BAD := Lib.hid bad
        clear bad
        by_cases h1 : B < 48
        · have e2 : decide (B < 48) = true := by simpa using h1
          have HB := Lib.hid (BAD.out (by unfold Lib.digitVal; rw [if_neg (by have := HH.out.1; omega)]))
          go_wp2_with fail
          go_ret
          exact ⟨by rw [HB.out]; rfl, HI.out.2⟩
        · have e2 : decide (B < 48) = false := by simpa using h1
          by_cases h2 : 57 < B
          · have e3 : decide (57 < B) = true := by simpa using h2
            have HB := Lib.hid (BAD.out (by unfold Lib.digitVal; rw [if_neg (by have := HH.out.1; omega)]))
            go_wp2_with fail
            go_ret
            exact ⟨by rw [HB.out]; rfl, HI.out.2⟩
          · have e3 : decide (57 < B) = false := by simpa using h2
            go_wp2_with fail
            go_roundw
            case rel =>
              obtain ⟨hB, htk, _⟩ := HH.out
              refine ⟨k + 1, m * 10 + (b.toNat - 48), by omega, rfl, ?_, Lib.hid ⟨?_, HI.out.2⟩⟩
              · congr 1; omega
              · rw [htk, decFrom_append _ _ _ _ HI.out.1, Lib.decFrom, Lib.digitVal, if_pos (by omega)]; rfl
            case measure => simp [intOf]; omega
      · have e1 : decide ((k : Int) < (s.size : Int)) = false := by simp; omega
        obtain rfl : k = s.size := by omega
        have HR := Lib.hid (show V = (m : Int) by
          have h9 := HI.out.1
          rw [List.take_of_length_le (by rw [HX.out.2]; exact Nat.le_refl _)] at h9
          rw [HV.out, rnumV, ← numR_eq, numR, if_neg HN.out, h9]; rfl)
        go_wp2_with fail
        go_ret
        exact ⟨by rw [HR.out]; rfl, HI.out.2⟩
end Go.Proofs.YtonkdcbmmdhjgaaDoor
