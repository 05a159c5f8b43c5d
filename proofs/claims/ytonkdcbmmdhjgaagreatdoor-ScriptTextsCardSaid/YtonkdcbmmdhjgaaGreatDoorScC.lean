/-
  script.readBits.
-/
import Derived.Test.YtonkdcbmmdhjgaaGreatDoorScB
import Derived.Test.YtonkdcbmmdhjgaaGreatDoorAp
namespace Go.Proofs.YtonkdcbmmdhjgaaGreatDoor
open Go.RowKit Go.Shelf

theorem bool_info : (Tryz.prog.info? 4).map (fun i => (i.zero, i.size, i.bytes)) = some (some (.bool false), 1, 1) := by kernel_rfl
/-- What readBits leaves. -/
def BitsPost (w : World) (l : List UInt8) (e : Ending) (w' : World) : Prop := w.grownBy w' none ∧ match bitsS l with
  | some bs => ∃ A c, e = .returned (.tuple #[.slice A bs.length c, .bool true]) ∧ w'.ownsRow w.heap.size 4 1 (.slice A bs.length c) bs.length (bs.map Value.bool)
  | none => ∃ A n c, e = .returned (.tuple #[.slice A n c, .bool false])
theorem dash_iff (s : ByteArray) : s = ⟨#[45]⟩ ↔ s.data.toList = [45] := by
  obtain ⟨⟨l⟩⟩ := s
  constructor
  · intro h; injection h with h; injection h
  · intro h; simp at h; subst h; rfl
theorem str_ix (s : ByteArray) (k : Nat) (hk : k < s.data.toList.length) (W : World) : Sem.run Tryz.prog (Instr.index 9 (.string s) (.int .i64 (k : Int))) W = .ok (.int .u8 ((s.data.toList[k]).toNat : Int)) W := by
  have hk2 : k < s.size := by have : s.data.toList.length = s.size := Array.length_toList; omega
  rw [run_index_string W 9 s .i64 (k : Int) Tryz.underlying9, dif_pos ⟨by omega, by omega⟩]
  congr 3
set_option maxRecDepth 100000 in
set_option maxHeartbeats 2000000 in
theorem bits_is (s : ByteArray) (hs : s.size ≤ 100000) (w : World) : Calls Tryz.prog 28 #[.string s] w (BitsPost w s.data.toList) := by
  obtain ⟨i0, hi0, hz0, hz1, hz2⟩ := info_parts bool_info
  have HI0 := Lib.hid (And.intro hi0 (And.intro hz0 (And.intro hz1 hz2)))
  obtain ⟨l, hl⟩ : ∃ l, l = s.data.toList := ⟨_, rfl⟩
  have hln : l.length = s.size := by rw [hl]; exact Array.length_toList
  obtain ⟨Q, hQ⟩ : ∃ Q, Q = BitsPost w l := ⟨_, rfl⟩
  rw [← hl, ← hQ]
  have HQ := Lib.hid hQ
  have HL := Lib.hid (And.intro hl hln)
  clear hi0 hz0 hz1 hz2 hQ hl hln
  by_cases hd : s = ⟨#[45]⟩
  · subst hd
    go_enter Tryz.func28, Tryz.ntmps28
    go_wp2_with fail
    rw [HQ.out]
    refine ⟨World.grownBy.refl _ _, ?_⟩
    rw [HL.out.1]
    exact ⟨none, 0, rfl, World.ownsRow_nil _ _ _ _⟩
  · have hd3 : (s.toList == [45]) = false := lit_neB (a := [45]) hd
    have HD := Lib.hid hd
    clear hd
    go_enter Tryz.func28, Tryz.ntmps28
    go_wp2_with fail
    go_loopw [4, 10] (fun v i wr => ∃ k : Nat, k ≤ s.size ∧ i = .int .i64 (k : Int) ∧ wr.ownsRow w.heap.size 4 1 v k ((l.take k).map fun b => Value.bool (b == 49)) ∧ (∀ b ∈ l.take k, bitOk b = true) ∧ w.grownBy wr none) (fun _ i _ => s.size - (intOf i).toNat)
    case atStart => exact ⟨0, by omega, rfl, by simpa using World.ownsRow_nil w _ _ _, by simp, World.grownBy.refl _ _⟩
    case round =>
      obtain ⟨k, hk, rfl, hown, hbo, hK⟩ := hrel
      have HO := Lib.hid hown
      have HK := Lib.hid (And.intro hbo hK)
      clear hown hbo hK
      by_cases hlt : k < s.size
      · have d1 : decide ((k : Int) < (s.size : Int)) = true := by simp; omega
        have hkl : k < l.length := by rw [HL.out.2]; exact hlt
        obtain ⟨B, hB⟩ : ∃ B : Int, B = ((l.getD k 0).toNat : Int) := ⟨_, rfl⟩
        have hix : ∀ W, Sem.run Tryz.prog (Instr.index 9 (.string s) (.int .i64 (k : Int))) W = .ok (.int .u8 B) W := fun W => by
          have hkl' : k < s.data.toList.length := by rw [← HL.out.1]; exact hkl
          rw [str_ix s k hkl' W, hB, HL.out.1, List.getD_eq_getElem?_getD, List.getElem?_eq_getElem hkl']; rfl
        have HB := Lib.hid (And.intro hB (And.intro hkl hk))
        clear hB hkl hk
        by_cases h48 : B = 48
        · have d2 : (B == 48) = true := by simpa using h48
          have d3 : (B == 49) = false := by rw [h48]; rfl
          have d4 : ¬ B = 49 := by omega
          have d5 : (B != 48) = false := by rw [h48]; rfl
          have d6 : (B != 49) = true := by rw [h48]; rfl
          have he : l[k]'HB.out.2.1 = 48 := by
            have := HB.out.1
            rw [List.getD_eq_getElem?_getD, List.getElem?_eq_getElem HB.out.2.1] at this
            simp only [Option.getD_some] at this
            apply UInt8.toNat_inj.1
            show _ = 48
            omega
          have hbv : (l[k]'HB.out.2.1 == 49) = false := by rw [he]; rfl
          have HE := Lib.hid he
          clear h48 he
          go_wp2_with (at_builtin
                       refine wpList_push rfl _ _ 26 rfl w.heap.size 4 4 i0 (.bool false) 1 Tryz.underlying26 HI0.out.1 HI0.out.2.1 HI0.out.2.2.1 HI0.out.2.2.2 rfl _ _ _ rfl HO.out _ rfl rfl (by omega) (by omega) HK.out.2.size ?_
                       intro v' w3 hown3 hgrow
                       have HO3 := Lib.hid hown3
                       have HK3 := Lib.hid (grown_own HK.out.2 hgrow HO.out (Nat.le_refl _))
                       clear hown3 hgrow)
          go_roundw
          case rel =>
            refine ⟨k + 1, by omega, rfl, ?_, ?_, HK3.out⟩
            · have := HO3.out
              rw [List.take_add_one, List.getElem?_eq_getElem HB.out.2.1]
              simpa only [Option.toList, List.map_append, List.map_cons, List.map_nil, hbv] using this
            · intro b hb
              rw [List.take_add_one, List.getElem?_eq_getElem HB.out.2.1] at hb
              rcases List.mem_append.1 hb with hb | hb
              · exact HK.out.1 b hb
              · obtain rfl : b = l[k]'HB.out.2.1 := by simpa using hb
                rw [HE.out]; rfl
          case measure => simp [intOf]; omega
        · by_cases h49 : B = 49
          · have d2 : (B == 48) = false := by simpa using h48
            have d3 : (B == 49) = true := by simpa using h49
            have d5 : (B != 48) = true := by rw [h49]; rfl
            have d6 : (B != 49) = false := by rw [h49]; rfl
            have he : l[k]'HB.out.2.1 = 49 := by
              have := HB.out.1
              rw [List.getD_eq_getElem?_getD, List.getElem?_eq_getElem HB.out.2.1] at this
              simp only [Option.getD_some] at this
              apply UInt8.toNat_inj.1
              show _ = 49
              omega
            have hbv : (l[k]'HB.out.2.1 == 49) = true := by rw [he]; rfl
            have HE := Lib.hid he
            clear h49 he
            go_wp2_with (at_builtin
                         refine wpList_push rfl _ _ 26 rfl w.heap.size 4 4 i0 (.bool false) 1 Tryz.underlying26 HI0.out.1 HI0.out.2.1 HI0.out.2.2.1 HI0.out.2.2.2 rfl _ _ _ rfl HO.out _ rfl rfl (by omega) (by omega) HK.out.2.size ?_
                         intro v' w3 hown3 hgrow
                         have HO3 := Lib.hid hown3
                         have HK3 := Lib.hid (grown_own HK.out.2 hgrow HO.out (Nat.le_refl _))
                         clear hown3 hgrow)
            go_roundw
            case rel =>
              refine ⟨k + 1, by omega, rfl, ?_, ?_, HK3.out⟩
              · have := HO3.out
                rw [List.take_add_one, List.getElem?_eq_getElem HB.out.2.1]
                simpa only [Option.toList, List.map_append, List.map_cons, List.map_nil, hbv] using this
              · intro b hb
                rw [List.take_add_one, List.getElem?_eq_getElem HB.out.2.1] at hb
                rcases List.mem_append.1 hb with hb | hb
                · exact HK.out.1 b hb
                · obtain rfl : b = l[k]'HB.out.2.1 := by simpa using hb
                  rw [HE.out]; rfl
            case measure => simp [intOf]; omega
          · have d2 : (B == 48) = false := by simpa using h48
            have d3 : (B == 49) = false := by simpa using h49
            have d5 : (B != 48) = true := by simpa using h48
            have d6 : (B != 49) = true := by simpa using h49
            have hno : bitsS l = none := by
              unfold bitsS
              rw [if_neg (fun e => HD.out ((dash_iff s).2 (by rw [← HL.out.1]; exact e))), if_neg]
              rintro ⟨h1, _⟩
              have h2 := List.all_eq_true.1 h1 (l[k]'HB.out.2.1) (List.getElem_mem _)
              have h3 := HB.out.1
              rw [List.getD_eq_getElem?_getD, List.getElem?_eq_getElem HB.out.2.1] at h3
              simp only [Option.getD_some] at h3
              simp only [bitOk, Bool.or_eq_true, beq_iff_eq] at h2
              rcases h2 with h2 | h2
              · rw [h2] at h3; exact h48 (by simpa using h3)
              · rw [h2] at h3; exact h49 (by simpa using h3)
            have HN := Lib.hid hno
            clear hno
            go_wp2_with fail
            rw [HQ.out]
            exact ⟨HK.out.2, by rw [HN.out]; exact ⟨none, 0, 0, rfl⟩⟩
      · have d1 : decide ((k : Int) < (s.size : Int)) = false := by simp; omega
        obtain rfl : k = s.size := by omega
        obtain ⟨A, c, rfl⟩ := own_slice _ HO.out
        have htk : l.take s.size = l := List.take_of_length_le (by rw [HL.out.2]; exact Nat.le_refl _)
        have hne : ¬ l = [45] := fun e => HD.out ((dash_iff s).2 (by rw [← HL.out.1]; exact e))
        by_cases h1 : 1 ≤ s.size
        · have d2 : decide ((1 : Int) ≤ (s.size : Int)) = true := by simp; omega
          by_cases h64 : s.size ≤ 64
          · have d3 : decide ((s.size : Int) ≤ 64) = true := by simp; omega
            have hr : bitsS l = some (l.map (· == 49)) := by
              unfold bitsS
              rw [if_neg hne, if_pos ⟨List.all_eq_true.2 fun b hb => HK.out.1 b (by rw [htk]; exact hb), by rw [HL.out.2]; exact h1, by rw [HL.out.2]; exact h64⟩]
            have HR := Lib.hid (And.intro hr (And.intro htk hne))
            clear hr htk hne
            go_wp2_with fail
            rw [HQ.out]
            refine ⟨HK.out.2, ?_⟩
            rw [HR.out.1]
            have hsz : (l.map fun b => b == 49).length = s.size := by rw [List.length_map]; exact HL.out.2
            have := HO.out
            rw [HR.out.2.1] at this
            simp only []
            rw [hsz, List.map_map]
            exact ⟨A, c, rfl, this⟩
          · have d3 : decide ((s.size : Int) ≤ 64) = false := by simp; omega
            have hr : bitsS l = none := by
              unfold bitsS
              rw [if_neg hne, if_neg (fun q => h64 (by rw [← HL.out.2]; exact q.2.2))]
            have HR := Lib.hid (And.intro hr (And.intro htk hne))
            clear hr htk hne
            go_wp2_with fail
            rw [HQ.out]
            exact ⟨HK.out.2, by rw [HR.out.1]; exact ⟨A, _, c, rfl⟩⟩
        · have d2 : decide ((1 : Int) ≤ (s.size : Int)) = false := by simp; omega
          have hr : bitsS l = none := by
            unfold bitsS
            rw [if_neg hne, if_neg (fun q => h1 (by rw [← HL.out.2]; exact q.2.1))]
          have HR := Lib.hid (And.intro hr (And.intro htk hne))
          clear hr htk hne
          go_wp2_with fail
          rw [HQ.out]
          exact ⟨HK.out.2, by rw [HR.out.1]; exact ⟨A, _, c, rfl⟩⟩
end Go.Proofs.YtonkdcbmmdhjgaaGreatDoor
