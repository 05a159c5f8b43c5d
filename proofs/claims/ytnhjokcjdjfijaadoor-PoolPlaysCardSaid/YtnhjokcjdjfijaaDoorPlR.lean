/-
  Pool, by the document: rows of texts; Texts, Has, Add, Take, Drop; SameTexts, SameLists.
-/
import Derived.Test.YtnhjokcjdjfijaaDoorPlH
namespace Go.Proofs.YtnhjokcjdjfijaaDoor
open Go.RowKit

def strV (l : List UInt8) : Value := .string ⟨l.toArray⟩
/-- Texts at A. -/
def StrsAt (w : World) (A : Option Addr) (ys : List (List UInt8)) : Prop := ys ≠ [] → ∃ b off, A = some ⟨b, off, none⟩ ∧ ∀ j (_ : j < ys.length), w.cell? ⟨b, off + j, none⟩ = some (strV ys[j])
theorem StrsAt.grown {w w' : World} {A : Option Addr} {ys : List (List UInt8)} (h : StrsAt w A ys) (hk : w.grownBy w' none) : StrsAt w' A ys := fun hne => by
  obtain ⟨b, off, e, hc⟩ := h hne
  exact ⟨b, off, e, fun j hj => hk.cell (hc j hj) (by simp)⟩
theorem strs_own {w : World} {base n c : Nat} {A : Option Addr} {ys : List (List UInt8)} (h : w.ownsRow base 9 1 (.slice A n c) n (ys.map strV)) : StrsAt w A ys := fun hne => by
  have hn : ys.length = n := by have := h.1; simpa using this
  obtain ⟨g, cap, hv⟩ := Joins.ownsRow_form h (by have := List.length_pos_iff.2 hne; omega)
  have hA : A = some ⟨g, 0, none⟩ := by injection hv
  subst hA
  refine ⟨g, 0, rfl, fun j hj => ?_⟩
  rw [Nat.zero_add]
  exact own_cell h (by simp [List.getElem?_eq_getElem hj])
theorem str_info : (Tryd.prog.info? 9).map (fun i => (i.zero, i.size, i.bytes)) = some (some (.string ⟨#[]⟩), 1, 16) := by kernel_rfl
theorem beq_dec (x y : List UInt8) : (x == y) = decide (x = y) := by rw [Bool.eq_iff_iff]; simp

set_option maxRecDepth 100000 in
set_option maxHeartbeats 1000000 in
theorem rhas_is (w : World) (A : Option Addr) (n c : Nat) (ys : List (List UInt8)) (hn : ys.length = n) (hnb : n ≤ 1000000) (hy : StrsAt w A ys) (x : List UInt8) :
    Calls Tryd.prog 23 #[.slice A n c, .string ⟨x.toArray⟩] w fun e w' => e = .returned (.bool (isIn ys x)) ∧ w' = w := by
  have HY := Lib.hid (And.intro hn hy)
  clear hn hy
  go_enter Tryd.func23, Tryd.ntmps23
  go_wp2_with fail
  go_loop [9] (fun i => ∃ k : Nat, k ≤ n ∧ i = .int .i64 (k : Int) ∧ Hid (∀ j (h : j < ys.length), j < k → ys[j] ≠ x)) (fun i => n - (intOf i).toNat)
  case atStart => exact ⟨0, by omega, rfl, Lib.hid (fun j _ h => absurd h (by omega))⟩
  case round =>
    obtain ⟨k, hk, hi, hno⟩ := hrel
    obtain ⟨I, hI⟩ : ∃ I : Int, I = (k : Int) := ⟨_, rfl⟩
    rw [← hI] at hi
    subst hi
    by_cases hlt : k < n
    · have d1 : decide (I < (n : Int)) = true := by simp; omega
      have hkx : k < ys.length := by have := HY.out.1; omega
      obtain ⟨b, off, rfl, hc⟩ := HY.out.2 (by rintro rfl; simp at hkx)
      have hcell := hc k hkx
      have hkI : I.toNat = k := by omega
      obtain ⟨y, hye⟩ : ∃ y, y = ys[k] := ⟨_, rfl⟩
      rw [← hye, strV] at hcell
      rw [← hkI] at hcell
      have hI2 : 0 ≤ I ∧ I < (n : Int) := by omega
      obtain ⟨r, hr⟩ : ∃ r, r = decide (y = x) := ⟨_, rfl⟩
      have hr2 : (y == x) = r := by rw [hr, beq_dec]
      have HB := Lib.hid (And.intro hI (And.intro hlt (And.intro hr (show ∃ h : k < ys.length, y = ys[k] from ⟨hkx, hye⟩))))
      clear hc hI hlt hkI hye hkx hr
      cases r with
      | true =>
        go_wp2_with fail
        go_ret
        obtain ⟨_, _, h3, h4, h5⟩ := HB.out
        refine ⟨?_, rfl⟩
        have : isIn ys x = true := by
          rw [isIn, List.any_eq_true]
          exact ⟨y, by rw [h5]; exact List.getElem_mem h4, h3.symm⟩
        rw [this]; rfl
      | false =>
        go_wp2_with fail
        go_round
        case rel =>
          obtain ⟨h1, h2, h3, h4, h5⟩ := HB.out
          refine ⟨k + 1, by omega, by rw [h1]; rfl, Lib.hid (fun j hj hjk => ?_)⟩
          by_cases hjk' : j < k
          · exact hno.out j hj hjk'
          · obtain rfl : j = k := by omega
            rw [← h5]; exact of_decide_eq_false h3.symm
        case measure => obtain ⟨h1, h2, h3, h4, h5⟩ := HB.out; simp [intOf]; omega
    · have d1 : decide (I < (n : Int)) = false := by simp; omega
      have HN := Lib.hid (And.intro hk hlt)
      clear hk hlt hI
      go_wp2_with fail
      go_ret
      refine ⟨?_, rfl⟩
      have : isIn ys x = false := by
        rw [isIn, List.any_eq_false]
        intro y hy
        obtain ⟨j, hj, rfl⟩ := List.getElem_of_mem hy
        have := hno.out j hj (by have := HN.out; have := HY.out.1; omega)
        simpa using this
      rw [this]; rfl

/-- A new row of texts. -/
def TextsN (w w' : World) (A : Option Addr) (c : Nat) (ys : List (List UInt8)) : Prop := w'.ownsRow w.heap.size 9 1 (.slice A ys.length c) ys.length (ys.map strV) ∧ w.grownBy w' none

set_option maxRecDepth 100000 in
set_option maxHeartbeats 1000000 in
theorem texts_is (w : World) (A : Option Addr) (n c : Nat) (ys : List (List UInt8)) (hn : ys.length = n) (hnb : n ≤ 100000) (hy : LsAt w A ys) :
    Calls Tryd.prog 16 #[.slice A n c] w fun e w' => ∃ A' c', e = .returned (.slice A' ys.length c') ∧ TextsN w w' A' c' ys := by
  obtain ⟨i0, hi0, hz0, hz1, hz2⟩ := info_parts str_info
  have HI := Lib.hid (And.intro hi0 (And.intro hz0 (And.intro hz1 hz2)))
  have HY := Lib.hid (And.intro hn hy)
  clear hn hy hi0 hz0 hz1 hz2
  have hst : (w.alloc (.cells #[] 9)).ownsRow w.heap.size 9 1 (.slice (some ⟨w.heap.size, 0, none⟩) 0 0) 0 ((ys.take 0).map strV) := by
    rw [List.take_zero]; exact World.ownsRow_made w #[] 0 (Nat.le_refl _) (Nat.zero_le _) rfl
  have HS := Lib.hid hst
  clear hst
  go_enter Tryd.func16, Tryd.ntmps16
  go_wp2_with fail
  go_loopw [3, 9] (fun v i wr => ∃ (k : Nat) (A' : Option Addr) (c' : Nat), k ≤ n ∧ i = .int .i64 (k : Int) ∧ v = .slice A' k c' ∧ wr.ownsRow w.heap.size 9 1 (.slice A' k c') k ((ys.take k).map strV) ∧ w.grownBy wr none) (fun _ i _ => n - (intOf i).toNat)
  case atStart => exact ⟨0, _, _, by omega, rfl, rfl, HS.out, World.grownBy_alloc w _ none⟩
  case round =>
    obtain ⟨k, A', c', hk, hi, hv, hown, hK⟩ := hrel
    obtain ⟨I, hI⟩ : ∃ I : Int, I = (k : Int) := ⟨_, rfl⟩
    rw [← hI] at hi
    subst hi hv
    by_cases hlt : k < n
    · have d1 : decide (I < (n : Int)) = true := by simp; omega
      have hkx : k < ys.length := by have := HY.out.1; omega
      obtain ⟨b, off, rfl, hc⟩ := (HY.out.2.grown hK) (by rintro rfl; simp at hkx)
      obtain ⟨B, d, hcell, hB⟩ := hc k hkx
      have hkI : I.toNat = k := by omega
      have htk : (ys.take (k + 1)).map strV = (ys.take k).map strV ++ [strV ys[k]] := by rw [List.take_succ_eq_append_getElem hkx, List.map_append]; rfl
      generalize ys[k] = y at *
      have hs := str_any (c := d) hB rfl
      rw [← hkI] at hcell
      have hI2 : 0 ≤ I ∧ I < (n : Int) := by omega
      have HB := Lib.hid (And.intro hI (And.intro hlt (And.intro htk hK)))
      have HO := Lib.hid (And.intro hown (hown.alloc (.cells #[strV y] 9)))
      have hkb : k ≤ 100000 := by omega
      clear hc hB hI hlt hkI hkx htk hK hown hk
      go_wp2_with (at_builtin; refine wpList_push rfl _ _ 27 rfl w.heap.size 9 9 i0 (.string ⟨#[]⟩) 16 Tryd.underlying27 HI.out.1 HI.out.2.1 HI.out.2.2.1 HI.out.2.2.2 rfl (.slice A' k c') k _ rfl HO.out.1 (strV y) rfl rfl (by omega) (by omega) (by have := HB.out.2.2.2.size; omega) ?_; intro v' w3 hown3 hg3; obtain ⟨A3, c3, rfl⟩ := own_slice w3 hown3)
      have H3 := Lib.hid (And.intro hown3 hg3)
      clear hown3 hg3
      go_wp2_with fail
      go_roundw
      case rel =>
        obtain ⟨hI, hlt, htk, hK⟩ := HB.out
        obtain ⟨hown3, hg3⟩ := H3.out
        rw [← htk] at hown3
        exact ⟨k + 1, A3, c3, by omega, by rw [hI]; rfl, rfl, hown3, grown_own hK hg3 HO.out.1 (Nat.le_refl _)⟩
      case measure => obtain ⟨hI, hlt, htk, hK⟩ := HB.out; simp [intOf]; omega
    · have d1 : decide (I < (n : Int)) = false := by simp; omega
      have hkn : k = ys.length := by have := HY.out.1; omega
      subst hkn
      rw [List.take_length] at hown
      have HN := Lib.hid (And.intro hown hK)
      clear hk hlt hI hown hK
      go_wp2_with fail
      go_ret
      exact ⟨A', c', rfl, HN.out⟩
end Go.Proofs.YtnhjokcjdjfijaaDoor
