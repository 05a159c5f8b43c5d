/-
  The document's own: digit, Split, number, Kind.
-/
import Derived.Test.YtonkdcbmmdhjgaaDoorScM
import Derived.Test.YtonkdcbmmdhjgaaDoorScJ
namespace Go.Proofs.YtonkdcbmmdhjgaaDoor
open Go.RowKit Go.Shelf

theorem nib_all : ∀ v : Fin 256, nibS (UInt8.ofNat v.val) = if 48 ≤ v.val ∧ v.val ≤ 57 then (v.val : Int) - 48 else if 97 ≤ v.val ∧ v.val ≤ 102 then (v.val : Int) - 87 else -1 := by decide +kernel
theorem nib_of (c : UInt8) : nibS c = if 48 ≤ c.toNat ∧ c.toNat ≤ 57 then (c.toNat : Int) - 48 else if 97 ≤ c.toNat ∧ c.toNat ≤ 102 then (c.toNat : Int) - 87 else -1 := by
  have := nib_all ⟨c.toNat, c.toNat_lt⟩
  simpa using this
set_option maxRecDepth 100000 in
theorem rdigit_is (c : UInt8) (C : Int) (hC : C = (c.toNat : Int)) (w : World) : Calls Tryd.prog 32 #[.int .u8 C] w fun e w' => e = .returned (.int .i64 (nibS c)) ∧ w.grownBy w' none := by
  have hn := nib_of c
  have hb : 0 ≤ C ∧ C < 256 := by have := c.toNat_lt; omega
  obtain ⟨V, hV⟩ : ∃ V, V = nibS c := ⟨_, rfl⟩
  rw [← hV] at hn ⊢
  by_cases h1 : 48 ≤ C
  · have d1 : decide (48 ≤ C) = true := by simpa using h1
    by_cases h2 : C ≤ 57
    · have d2 : decide (C ≤ 57) = true := by simpa using h2
      rw [if_pos (by omega)] at hn
      have HN := Lib.hid (show V = C - 48 by omega)
      clear hn hV hC
      go_enter Tryd.func32, Tryd.ntmps32
      go_wp2_with fail
      go_ret
      exact ⟨by rw [HN.out]; rfl, World.grownBy.refl _ _⟩
    · have d2 : decide (C ≤ 57) = false := by simpa using h2
      by_cases h3 : 97 ≤ C
      · have d3 : decide (97 ≤ C) = true := by simpa using h3
        by_cases h4 : C ≤ 102
        · have d4 : decide (C ≤ 102) = true := by simpa using h4
          rw [if_neg (by omega), if_pos (by omega)] at hn
          have HN := Lib.hid (show V = C - 87 by omega)
          clear hn hV hC
          go_enter Tryd.func32, Tryd.ntmps32
          go_wp2_with fail
          go_ret
          exact ⟨by rw [HN.out]; rfl, World.grownBy.refl _ _⟩
        · have d4 : decide (C ≤ 102) = false := by simpa using h4
          rw [if_neg (by omega), if_neg (by omega)] at hn
          have HN := Lib.hid hn
          clear hn hV hC
          go_enter Tryd.func32, Tryd.ntmps32
          go_wp2_with fail
          go_ret
          exact ⟨by rw [HN.out]; rfl, World.grownBy.refl _ _⟩
      · have d3 : decide (97 ≤ C) = false := by simpa using h3
        rw [if_neg (by omega), if_neg (by omega)] at hn
        have HN := Lib.hid hn
        clear hn hV hC
        go_enter Tryd.func32, Tryd.ntmps32
        go_wp2_with fail
        go_ret
        exact ⟨by rw [HN.out]; rfl, World.grownBy.refl _ _⟩
  · have d1 : decide (48 ≤ C) = false := by simpa using h1
    have d3 : decide (97 ≤ C) = false := by simp; omega
    have h3 : ¬ 97 ≤ C := by omega
    rw [if_neg (by omega), if_neg (by omega)] at hn
    have HN := Lib.hid hn
    clear hn hV hC
    go_enter Tryd.func32, Tryd.ntmps32
    go_wp2_with fail
    go_ret
    exact ⟨by rw [HN.out]; rfl, World.grownBy.refl _ _⟩
theorem splitP_last (c : UInt8) (a : List UInt8) (ps : List (List UInt8)) (q : List UInt8) (x : UInt8) (h : splitP c a = ps ++ [q]) : splitP c (a ++ [x]) = if x = c then (ps ++ [q]) ++ [[]] else ps ++ [q ++ [x]] := by
  obtain ⟨hd, t, h1, h2⟩ := splitP_append a ps q [x] h
  split
  · next e =>
    subst e
    have e1 : splitP x [x] = [[], []] := by simp [splitP]
    rw [e1] at h1
    injection h1 with e2 e3
    subst e2 e3
    rw [h2, List.append_nil]; simp
  · next e =>
    have e1 : splitP c [x] = [[x]] := by simp [splitP, e]
    rw [e1] at h1
    injection h1 with e2 e3
    subst e2 e3
    exact h2
theorem slice_mid (s : ByteArray) (i j : Nat) (hi : i ≤ j) (hj : j ≤ s.size) (W : World) : Sem.run Tryd.prog (Instr.slice 9 (.string s) (some (.int .i64 (i : Int))) (some (.int .i64 (j : Int))) none) W = .ok (.string (strB ((s.data.toList.take j).drop i))) W := by
  have e : (s.extract i j) = strB ((s.data.toList.take j).drop i) := by
    obtain ⟨⟨l⟩⟩ := s
    apply ByteArray.ext
    apply Array.ext'
    simp only [strB, ByteArray.data_extract, Array.toList_extract, List.extract_eq_take_drop]
    rw [List.drop_take]
  rw [← e]
  have h1 : (0 : Int) ≤ (i : Int) := by omega
  have h2 : (i : Int) ≤ (j : Int) := by omega
  have h3 : (j : Int) ≤ (s.size : Int) := by omega
  simp [Instr.slice, run_underlying Tryd.underlying9, Instr.sliceBounds, run_sliceBound, sliced, *]
theorem dropAt {l : List UInt8} {k j : Nat} (hj : j ≤ k) (hk : k < l.length) : (l.take (k + 1)).drop j = (l.take k).drop j ++ [l[k]] := by
  rw [List.take_add_one, List.getElem?_eq_getElem hk, List.drop_append]
  have e : j - (l.take k).length = 0 := by rw [List.length_take]; omega
  rw [e]; rfl
set_option maxRecDepth 100000 in
set_option maxHeartbeats 2000000 in
theorem rsplit_is (s : ByteArray) (c : UInt8) (C : Int) (hC : C = (c.toNat : Int)) (l : List UInt8) (hl : s.data.toList = l) (hs : s.size ≤ 100000) (w : World) :
    Calls Tryd.prog 17 #[.string s, .int .u8 C] w fun e w' => ∃ A cap, e = .returned (.slice A (splitP c l).length cap) ∧ w'.ownsRow w.heap.size 9 1 (.slice A (splitP c l).length cap) (splitP c l).length (wordsC (splitP c l)) ∧ w.grownBy w' none := by
  obtain ⟨i0, hi0, hz0, hz1, hz2⟩ := info_parts str_infoS
  have HI0 := Lib.hid (And.intro hi0 (And.intro hz0 (And.intro hz1 hz2)))
  have hln : l.length = s.size := by rw [← hl]; exact Array.length_toList
  have HX := Lib.hid (And.intro hl (And.intro hln hC))
  clear hi0 hz0 hz1 hz2 hl hln hC
  go_enter Tryd.func17, Tryd.ntmps17
  go_wp2_with fail
  go_loopw [5, 6, 7] (fun v f i wr => ∃ (k : Nat) (j : Nat) (ps : List (List UInt8)), k ≤ s.size ∧ j ≤ k ∧ ps.length ≤ k ∧ i = .int .i64 (k : Int) ∧ f = .int .i64 (j : Int) ∧ Hid (splitP c (l.take k) = ps ++ [(l.take k).drop j] ∧ wr.ownsRow w.heap.size 9 1 v ps.length (wordsC ps) ∧ w.grownBy wr none)) (fun _ _ i _ => s.size - (intOf i).toNat)
  case atStart =>
    refine ⟨0, 0, [], Nat.zero_le _, Nat.le_refl _, Nat.le_refl _, rfl, rfl, Lib.hid ⟨rfl, ?_, ?_⟩⟩
    · first
        | exact World.ownsRow_nil _ _ _ _
        | exact own_of_blk (n := 0) (xs := []) (Blk.new w 9 #[]) (Nat.le_refl _) rfl (by decide)
    · first
        | exact World.grownBy.refl _ _
        | exact World.grownBy_alloc w _ none
  case round =>
    obtain ⟨k, j, ps, hk, hj, hp, rfl, rfl, HI⟩ := hrel
    rename World => wr
    by_cases hlt : k < s.size
    · have d1 : decide ((k : Int) < (s.size : Int)) = true := by simp; omega
      have hkl : k < l.length := by rw [HX.out.2.1]; exact hlt
      obtain ⟨x, hx⟩ : ∃ x, x = l[k] := ⟨_, rfl⟩
      have hxq : l[k]? = some x := by rw [hx]; exact List.getElem?_eq_getElem hkl
      obtain ⟨X, hX⟩ : ∃ X : Int, X = (x.toNat : Int) := ⟨_, rfl⟩
      have hix : ∀ W, Sem.run Tryd.prog (Instr.index 9 (.string s) (.int .i64 (k : Int))) W = .ok (.int .u8 X) W := fun W => by rw [hX]; exact str_at _ k x (by rw [HX.out.1]; exact hxq) W
      have htk : l.take (k + 1) = l.take k ++ [x] := by rw [List.take_add_one, hxq]; rfl
      have hsp := splitP_last c _ _ _ x HI.out.1
      rw [← htk] at hsp
      have hdr := dropAt hj hkl
      rw [← hx] at hdr
      obtain ⟨P, hP⟩ : ∃ P, P = strB ((l.take k).drop j) := ⟨_, rfl⟩
      have hsl : ∀ W, Sem.run Tryd.prog (Instr.slice 9 (.string s) (some (.int .i64 (j : Int))) (some (.int .i64 (k : Int))) none) W = .ok (.string P) W := fun W => by
        have h := slice_mid s j k hj (by omega) W
        rwa [HX.out.1, ← hP] at h
      have HH := Lib.hid (And.intro hsp (And.intro hdr hP))
      by_cases hc : x = c
      · have d2 : (X == C) = true := by rw [hX, HX.out.2.2, hc]; simp
        have HC := Lib.hid hc
        clear hsp hdr hP hxq hx hX hkl htk hc
        go_wp2_with (at_builtin
                     refine wpList_push rfl _ _ 52 rfl w.heap.size 9 9 i0 (.string ByteArray.empty) 16 Tryd.underlying52 HI0.out.1 HI0.out.2.1 HI0.out.2.2.1 HI0.out.2.2.2 rfl _ _ _ rfl HI.out.2.1 _ rfl rfl (by omega) (by omega) HI.out.2.2.size ?_
                     intro v' w3 hown3 hgrow
                     have HO3 := Lib.hid hown3
                     have HK3 := Lib.hid (grown_own HI.out.2.2 hgrow HI.out.2.1 (Nat.le_refl _))
                     clear hown3 hgrow)
        go_roundw
        case rel =>
          obtain ⟨hsp, hdr, hP⟩ := HH.out
          rw [if_pos HC.out] at hsp
          refine ⟨k + 1, k + 1, ps ++ [(l.take k).drop j], by omega, Nat.le_refl _, by rw [List.length_append, List.length_singleton]; omega, rfl, rfl, Lib.hid ⟨?_, ?_, HK3.out⟩⟩
          · have e0 : (l.take (k + 1)).drop (k + 1) = [] := List.drop_of_length_le (by rw [List.length_take]; omega)
            rw [hsp, e0]
          · have h := HO3.out
            rw [hP] at h
            rw [List.length_append, List.length_singleton, wordsC, List.map_append]
            exact h
        case measure => simp [intOf]; omega
      · have d2 : (X == C) = false := by
          rw [hX, HX.out.2.2]
          simp only [beq_eq_false_iff_ne, ne_eq]
          intro e
          exact hc (UInt8.toNat_inj.1 (by omega))
        have HC := Lib.hid hc
        clear hsp hdr hP hxq hx hX hkl htk hc hsl
        go_wp2_with fail
        go_roundw
        case rel =>
          obtain ⟨hsp, hdr, hP⟩ := HH.out
          rw [if_neg HC.out] at hsp
          exact ⟨k + 1, j, ps, by omega, by omega, by omega, rfl, rfl, Lib.hid ⟨by rw [hsp, hdr], HI.out.2.1, HI.out.2.2⟩⟩
        case measure => simp [intOf]; omega
    · have d1 : decide ((k : Int) < (s.size : Int)) = false := by simp; omega
      obtain rfl : k = s.size := by omega
      have htk : l.take s.size = l := List.take_of_length_le (by rw [HX.out.2.1]; exact Nat.le_refl _)
      obtain ⟨P, hP⟩ : ∃ P, P = strB (l.drop j) := ⟨_, rfl⟩
      have hsl : ∀ W, Sem.run Tryd.prog (Instr.slice 9 (.string s) (some (.int .i64 (j : Int))) none none) W = .ok (.string P) W := fun W => by
        have h := slice_tail s j hj W
        rwa [HX.out.1, ← hP] at h
      have HH := Lib.hid (And.intro htk hP)
      clear htk hP
      go_wp2_with (at_builtin
                   refine wpList_push rfl _ _ 52 rfl w.heap.size 9 9 i0 (.string ByteArray.empty) 16 Tryd.underlying52 HI0.out.1 HI0.out.2.1 HI0.out.2.2.1 HI0.out.2.2.2 rfl _ _ _ rfl HI.out.2.1 _ rfl rfl (by omega) (by omega) HI.out.2.2.size ?_
                   intro v' w3 hown3 hgrow
                   have HO3 := Lib.hid hown3
                   have HK3 := Lib.hid (grown_own HI.out.2.2 hgrow HI.out.2.1 (Nat.le_refl _))
                   clear hown3 hgrow)
      obtain ⟨A, cap, rfl⟩ := own_slice _ HO3.out
      obtain ⟨htk, hP⟩ := HH.out
      have hsp := HI.out.1
      rw [htk] at hsp
      have hlen : (splitP c l).length = ps.length + 1 := by rw [hsp, List.length_append, List.length_singleton]
      go_ret
      refine ⟨A, cap, by rw [hlen]; rfl, ?_, HK3.out⟩
      have h := HO3.out
      rw [hP] at h
      rw [hlen, hsp, wordsC, List.map_append]
      exact h
/-- What a text is as a number; -1: none. -/
def rnumV (l : List UInt8) : Int := (numS l).getD (-1)
/-- The document's letters. -/
def letR (c : UInt8) : UInt8 := if c = 120 then 104 else c
def partsR (k : Int) : List UInt8 := (shapeS k).2.map letR
set_option maxRecDepth 100000 in
set_option maxHeartbeats 2000000 in
theorem rkind_is (s : ByteArray) (w : World) : Calls Tryd.prog 18 #[.string s] w fun e w' => e = .returned (.tuple #[.int .i64 (kindS s.data.toList), .string (strB (partsR (kindS s.data.toList)))]) ∧ w' = w := by
  obtain ⟨K, hK⟩ : ∃ K, K = kindS s.data.toList := ⟨_, rfl⟩
  rw [← hK]
  have HK := Lib.hid hK
  clear hK
  by_cases h1 : s = ⟨#[100, 101, 108, 105, 118, 101, 114]⟩
  · subst h1
    have HV := Lib.hid (show K = 1 by rw [HK.out]; decide)
    clear HK
    go_enter Tryd.func18, Tryd.ntmps18
    go_wp2_with fail
    go_ret2
    exact ⟨by rw [HV.out]; rfl, rfl⟩
  have d1 := lit_neB (a := [100, 101, 108, 105, 118, 101, 114]) h1
  by_cases h2 : s = ⟨#[100, 114, 111, 112]⟩
  · subst h2
    have HV := Lib.hid (show K = 2 by rw [HK.out]; decide)
    clear HK
    go_enter Tryd.func18, Tryd.ntmps18
    go_wp2_with fail
    go_ret2
    exact ⟨by rw [HV.out]; rfl, rfl⟩
  have d2 := lit_neB (a := [100, 114, 111, 112]) h2
  by_cases h3 : s = ⟨#[99, 111, 112, 121]⟩
  · subst h3
    have HV := Lib.hid (show K = 3 by rw [HK.out]; decide)
    clear HK
    go_enter Tryd.func18, Tryd.ntmps18
    go_wp2_with fail
    go_ret2
    exact ⟨by rw [HV.out]; rfl, rfl⟩
  have d3 := lit_neB (a := [99, 111, 112, 121]) h3
  by_cases h4 : s = ⟨#[116, 105, 99, 107]⟩
  · subst h4
    have HV := Lib.hid (show K = 4 by rw [HK.out]; decide)
    clear HK
    go_enter Tryd.func18, Tryd.ntmps18
    go_wp2_with fail
    go_ret2
    exact ⟨by rw [HV.out]; rfl, rfl⟩
  have d4 := lit_neB (a := [116, 105, 99, 107]) h4
  by_cases h5 : s = ⟨#[115, 117, 98, 109, 105, 116]⟩
  · subst h5
    have HV := Lib.hid (show K = 5 by rw [HK.out]; decide)
    clear HK
    go_enter Tryd.func18, Tryd.ntmps18
    go_wp2_with fail
    go_ret2
    exact ⟨by rw [HV.out]; rfl, rfl⟩
  have d5 := lit_neB (a := [115, 117, 98, 109, 105, 116]) h5
  by_cases h6 : s = ⟨#[114, 101, 99, 111, 110, 102]⟩
  · subst h6
    have HV := Lib.hid (show K = 6 by rw [HK.out]; decide)
    clear HK
    go_enter Tryd.func18, Tryd.ntmps18
    go_wp2_with fail
    go_ret2
    exact ⟨by rw [HV.out]; rfl, rfl⟩
  have d6 := lit_neB (a := [114, 101, 99, 111, 110, 102]) h6
  by_cases h7 : s = ⟨#[97, 114, 109]⟩
  · subst h7
    have HV := Lib.hid (show K = 7 by rw [HK.out]; decide)
    clear HK
    go_enter Tryd.func18, Tryd.ntmps18
    go_wp2_with fail
    go_ret2
    exact ⟨by rw [HV.out]; rfl, rfl⟩
  have d7 := lit_neB (a := [97, 114, 109]) h7
  by_cases h8 : s = ⟨#[99, 114, 97, 115, 104]⟩
  · subst h8
    have HV := Lib.hid (show K = 8 by rw [HK.out]; decide)
    clear HK
    go_enter Tryd.func18, Tryd.ntmps18
    go_wp2_with fail
    go_ret2
    exact ⟨by rw [HV.out]; rfl, rfl⟩
  have d8 := lit_neB (a := [99, 114, 97, 115, 104]) h8
  by_cases h9 : s = ⟨#[114, 97, 119]⟩
  · subst h9
    have HV := Lib.hid (show K = 9 by rw [HK.out]; decide)
    clear HK
    go_enter Tryd.func18, Tryd.ntmps18
    go_wp2_with fail
    go_ret2
    exact ⟨by rw [HV.out]; rfl, rfl⟩
  have d9 := lit_neB (a := [114, 97, 119]) h9
  by_cases h10 : s = ⟨#[102, 111, 114, 103, 101]⟩
  · subst h10
    have HV := Lib.hid (show K = 10 by rw [HK.out]; decide)
    clear HK
    go_enter Tryd.func18, Tryd.ntmps18
    go_wp2_with fail
    go_ret2
    exact ⟨by rw [HV.out]; rfl, rfl⟩
  have d10 := lit_neB (a := [102, 111, 114, 103, 101]) h10
  have HV := Lib.hid (show K = 0 by
    rw [HK.out]
    have ne : ∀ a : List UInt8, s ≠ ⟨a.toArray⟩ → ¬ s.data.toList = a := fun a h e => h (by rw [← e])
    unfold kindS
    rw [if_neg (show ¬ s.data.toList = (shapeS 1).1 from ne _ h1), if_neg (show ¬ s.data.toList = (shapeS 2).1 from ne _ h2), if_neg (show ¬ s.data.toList = (shapeS 3).1 from ne _ h3), if_neg (show ¬ s.data.toList = (shapeS 4).1 from ne _ h4), if_neg (show ¬ s.data.toList = (shapeS 5).1 from ne _ h5), if_neg (show ¬ s.data.toList = (shapeS 6).1 from ne _ h6), if_neg (show ¬ s.data.toList = (shapeS 7).1 from ne _ h7), if_neg (show ¬ s.data.toList = (shapeS 8).1 from ne _ h8), if_neg (show ¬ s.data.toList = (shapeS 9).1 from ne _ h9), if_neg (show ¬ s.data.toList = (shapeS 10).1 from ne _ h10)])
  clear HK h1 h2 h3 h4 h5 h6 h7 h8 h9 h10
  go_enter Tryd.func18, Tryd.ntmps18
  go_wp2_with fail
  go_ret2
  exact ⟨by rw [HV.out]; rfl, rfl⟩
end Go.Proofs.YtonkdcbmmdhjgaaDoor
