/-
  Pool, by the document: Drop; SameTexts, SameLists of two that are the same.
-/
import Derived.Test.YtnhjokcjdjfijaaDoorPlS
namespace Go.Proofs.YtnhjokcjdjfijaaDoor
open Go.RowKit

theorem dropL_succ {L D : List (List UInt8)} {k : Nat} {x : List UInt8} (hx : L[k]? = some x) : dropL (L.take (k + 1)) D = if isIn D x then dropL (L.take k) D else dropL (L.take k) D ++ [x] := by
  rw [dropL, dropL, List.take_add_one, List.filter_append, hx]
  cases hd : isIn D x <;> simp [hd]
theorem dropL_le (L D : List (List UInt8)) (k : Nat) : (dropL (L.take k) D).length ≤ L.length := Nat.le_trans (List.length_filter_le _ _) (by rw [List.length_take]; omega)

set_option maxRecDepth 100000 in
set_option maxHeartbeats 1000000 in
theorem rpool_drop (w : World) (S : Nat → Prop) (m : Nat) (L : List (List UInt8)) (h : ModIs w S m L) (hL : L.length ≤ 1000) (A0 : Option Addr) (nD cD : Nat) (D : List (List UInt8)) (hn : D.length = nD) (hnb : nD ≤ 100000) (hD : StrsAt w A0 D) :
    Calls Tryd.prog 19 #[.pointer (some ⟨m, 0, none⟩), .slice A0 nD cD] w fun e w' => e = .returned (.int .i64 ((L.length : Int) - ((dropL L D).length : Int))) ∧ ModIs w' (upTo S w.heap.size w'.heap.size) m (dropL L D) ∧ Kept S w w' := by
  have hml := h.lt
  obtain ⟨hS, A, c, hb, hown, hA⟩ := h
  obtain ⟨i0, hi0, hz0, hz1, hz2⟩ := info_parts str_info
  have HI := Lib.hid (And.intro hi0 (And.intro hz0 (And.intro hz1 hz2)))
  have c0 := (hb.grown (World.grownBy_alloc w (.cells #[] 9) none) (by simp)).cell 0
  simp only [List.getElem?_toArray, List.getElem?_cons_zero] at c0
  have HY := Lib.hid (And.intro (strs_own hown) (And.intro hn (And.intro hD (And.intro hS (And.intro hb hml)))))
  have hst : (w.alloc (.cells #[] 9)).ownsRow w.heap.size 9 1 (.slice (some ⟨w.heap.size, 0, none⟩) 0 0) 0 ((dropL (L.take 0) D).map strV) := by
    have : dropL (L.take 0) D = [] := by simp [dropL]
    rw [this]; exact World.ownsRow_made w #[] 0 (Nat.le_refl _) (Nat.zero_le _) rfl
  have HS := Lib.hid (And.intro hst (show (dropL (L.take 0) D).length = 0 by simp [dropL]))
  clear hS hb hown hA hi0 hz0 hz1 hz2 hn hD hst hml
  go_enter Tryd.func19, Tryd.ntmps19
  go_wp2_with fail
  go_loopw [5, 15] (fun v i wr => ∃ (k q : Nat) (A' : Option Addr) (c' : Nat), k ≤ L.length ∧ i = .int .i64 (k : Int) ∧ v = .slice A' q c' ∧ q = (dropL (L.take k) D).length ∧ wr.ownsRow w.heap.size 9 1 (.slice A' q c') q ((dropL (L.take k) D).map strV) ∧ w.grownBy wr none) (fun _ i _ => L.length - (intOf i).toNat)
  case atStart => exact ⟨0, 0, _, _, by omega, rfl, rfl, HS.out.2.symm, HS.out.1, World.grownBy_alloc w _ none⟩
  case round =>
    obtain ⟨k, q, A', c', hk, hi, hv, hq, hown, hK⟩ := hrel
    obtain ⟨I, hI⟩ : ∃ I : Int, I = (k : Int) := ⟨_, rfl⟩
    rw [← hI] at hi
    subst hi hv
    by_cases hlt : k < L.length
    · have d1 : decide (I < (L.length : Int)) = true := by simp; omega
      have hne : L ≠ [] := by rintro rfl; simp at hlt
      obtain ⟨b, off, rfl, hc⟩ := (HY.out.1.grown hK) hne
      have hcell := hc k hlt
      have hkI : I.toNat = k := by omega
      have hx : L[k]? = some L[k] := List.getElem?_eq_getElem hlt
      have hql : q ≤ 1000 := by have := dropL_le L D k; omega
      generalize L[k] = x at *
      rw [← hkI, strV] at hcell
      have hI2 : 0 ≤ I ∧ I < (L.length : Int) := by omega
      have HB := Lib.hid (And.intro hI (And.intro hlt (And.intro hx (And.intro hK (And.intro hq hown)))))
      obtain ⟨r, hr⟩ : ∃ r, r = isIn D x := ⟨_, rfl⟩
      have hstep := dropL_succ (D := D) hx
      rw [← hr] at hstep
      have HST := Lib.hid (And.intro hstep hr)
      have HH := Lib.hid (rhas_is wr A0 nD cD D HY.out.2.1 (by omega) (HY.out.2.2.1.grown hK) x)
      clear hc hI hlt hkI hx hK hq hown hstep hr hk hne
      go_wp2_with fail
      refine HH.out.mono ?_
      rintro e w2 ⟨rfl, rfl⟩
      rw [← HST.out.2]
      cases r with
      | true =>
        go_wp2_with fail
        go_roundw
        case rel =>
          obtain ⟨hI, hlt, hx, hK, hq, hown⟩ := HB.out
          have hs := HST.out.1
          simp only [if_true] at hs
          exact ⟨k + 1, q, A', c', by omega, by rw [hI]; rfl, rfl, by rw [hs]; exact hq, by rw [hs]; exact hown, hK⟩
        case measure => obtain ⟨hI, hlt, hx, hK, hq, hown⟩ := HB.out; simp [intOf]; omega
      | false =>
        go_wp2_with (at_builtin; refine wpList_push rfl _ _ 27 rfl w.heap.size 9 9 i0 (.string ⟨#[]⟩) 16 Tryd.underlying27 HI.out.1 HI.out.2.1 HI.out.2.2.1 HI.out.2.2.2 rfl (.slice A' q c') q _ rfl HB.out.2.2.2.2.2 (strV x) rfl rfl (by omega) (by omega) (by have := HB.out.2.2.2.1.size; omega) ?_; intro v' w3 hown3 hg3; obtain ⟨A3, c3, rfl⟩ := own_slice w3 hown3)
        have H3 := Lib.hid (And.intro hown3 hg3)
        clear hown3 hg3
        go_wp2_with fail
        go_roundw
        case rel =>
          obtain ⟨hI, hlt, hx, hK, hq, hown⟩ := HB.out
          obtain ⟨hown3, hg3⟩ := H3.out
          have hs := HST.out.1
          simp only [Bool.false_eq_true, if_false] at hs
          exact ⟨k + 1, q + 1, A3, c3, by omega, by rw [hI]; rfl, rfl, by rw [hs, List.length_append, ← hq]; rfl, by rw [hs, List.map_append]; exact hown3, grown_own hK hg3 hown (Nat.le_refl _)⟩
        case measure => obtain ⟨hI, hlt, hx, hK, hq, hown⟩ := HB.out; simp [intOf]; omega
    · have d1 : decide (I < (L.length : Int)) = false := by simp; omega
      have hkn : L.take k = L := List.take_of_length_le (by omega)
      rw [hkn] at hown hq
      have hql : q ≤ 1000 := by have := dropL_le L D L.length; rw [List.take_length] at this; omega
      have hb := HY.out.2.2.2.2.1.grown hK (by simp)
      have c1 := hb.cell 0
      have f1 := hb.frozen 0
      simp only [List.getElem?_toArray, List.getElem?_cons_zero] at c1
      have HN := Lib.hid (And.intro hown (And.intro hK (And.intro hq hb)))
      clear hk hlt hI hown hK hkn hq hb c0
      go_wp2_with fail
      go_ret
      obtain ⟨hown, hK, hq, hb⟩ := HN.out
      have K := Kept.of_grown (F := fun _ => False) hK fun _ e => by cases e
      have hm := HY.out.2.2.2.2.2
      have KS : Kept (fun j => j = m) wr (wr.setCell ⟨m, 0, none⟩ (.slice A' q c')) := (Kept.refl (fun j => j = m) wr).set (p := ⟨m, 0, none⟩) (.inl rfl) _
      have s4 := KS.size
      refine ⟨by rw [← hq]; rfl, ⟨.inl HY.out.2.2.2.1, A', c', ?_, ?_, fun ad e => ?_⟩, ?_⟩
      · rw [← hq]; simpa using hb.set 0 (.slice A' q c')
      · rw [← hq]
        have h0 : wr.ownsRow 0 9 1 (.slice A' q c') q ((dropL L D).map strV) := ⟨hown.1, hown.2.imp id (fun ⟨g, cap, cur, p1, _, p3⟩ => ⟨g, cap, cur, p1, Nat.zero_le _, p3⟩)⟩
        exact own_kept h0 KS (fun k hk h => by
          have h : k = m := h
          have := (hown.lt k hk).1
          omega)
      · subst e
        have h1 := hown.lt ad.block rfl
        exact .inr ⟨h1.1, by omega⟩
      · exact (K.mono (G := S) (fun _ _ h => h.elim)).next KS (fun k _ h => by rw [show k = m from h]; exact HY.out.2.2.2.1)

set_option maxRecDepth 100000 in
set_option maxHeartbeats 1000000 in
theorem sametexts_is (w : World) (A1 A2 : Option Addr) (c1 c2 n : Nat) (xs : List (List UInt8)) (hn : xs.length = n) (hnb : n ≤ 1000000) (h1 : StrsAt w A1 xs) (h2 : StrsAt w A2 xs) :
    Calls Tryd.prog 15 #[.slice A1 n c1, .slice A2 n c2] w fun e w' => e = .returned (.bool true) ∧ w.grownBy w' none := by
  have H1 := Lib.hid h1
  have H2 := Lib.hid h2
  have HN := Lib.hid hn
  clear h1 h2 hn
  go_enter Tryd.func15, Tryd.ntmps15
  go_wp2_with fail
  go_loopw [13] (fun i wr => ∃ k : Nat, k ≤ n ∧ i = .int .i64 (k : Int) ∧ w.grownBy wr none) (fun i _ => n - (intOf i).toNat)
  case atStart => exact ⟨0, by omega, rfl, World.grownBy.refl w none⟩
  case round =>
    obtain ⟨k, hk, hi, hK⟩ := hrel
    obtain ⟨I, hI⟩ : ∃ I : Int, I = (k : Int) := ⟨_, rfl⟩
    rw [← hI] at hi
    subst hi
    by_cases hlt : k < n
    · have d1 : decide (I < (n : Int)) = true := by simp; omega
      have hkx : k < xs.length := by have := HN.out; omega
      obtain ⟨b1, o1, rfl, q1⟩ := (H1.out.grown hK) (by rintro rfl; simp at hkx)
      obtain ⟨b2, o2, rfl, q2⟩ := (H2.out.grown hK) (by rintro rfl; simp at hkx)
      have f1 := q1 k hkx
      have f2 := q2 k hkx
      have hkI : I.toNat = k := by omega
      generalize xs[k] = y at *
      rw [← hkI, strV] at f1 f2
      have g1 := Gr.cell f1
      have g2 := Gr.cell f2
      have hI68 : 0 ≤ I ∧ I < (n : Int) := by omega
      have HI := Lib.hid (And.intro hI hlt)
      have HG := Lib.hid hK
      clear hI hlt hkI hK hk q1 q2 hkx f1 f2
      go_wp2_with fail
      refine wp_region_grown (by kernel_rfl) (by kernel_rfl) ?_
      repeat (go_big_quiet_step (fail))
      refine wpQuiet_nil ?_
      rintro w2 ⟨⟨_, k2⟩, rfl⟩
      have HG2 := Lib.hid (grown_trans HG.out k2)
      clear k2 g1 g2
      go_wp2_with fail
      go_roundw
      case rel =>
        obtain ⟨hI, hlt⟩ := HI.out
        exact ⟨k + 1, by omega, by rw [hI]; go_num, HG2.out⟩
      case measure => obtain ⟨hI, hlt⟩ := HI.out; simp [intOf]; omega
    · have d1 : decide (I < (n : Int)) = false := by simp; omega
      have HG := Lib.hid hK
      clear hlt hI hK hk
      go_wp2_with fail
      go_ret
      exact ⟨rfl, HG.out⟩

set_option maxRecDepth 100000 in
set_option maxHeartbeats 1000000 in
theorem samelists_is (w : World) (A1 A2 : Option Addr) (c1 c2 n : Nat) (xs : List (List UInt8)) (hn : xs.length = n) (hnb : n ≤ 1000000) (h1 : LsAt w A1 xs) (h2 : LsAt w A2 xs) :
    Calls Tryd.prog 24 #[.slice A1 n c1, .slice A2 n c2] w fun e w' => e = .returned (.bool true) ∧ w.grownBy w' none := by
  have H1 := Lib.hid h1
  have H2 := Lib.hid h2
  have HN := Lib.hid hn
  clear h1 h2 hn
  go_enter Tryd.func24, Tryd.ntmps24
  go_wp2_with fail
  go_loopw [13] (fun i wr => ∃ k : Nat, k ≤ n ∧ i = .int .i64 (k : Int) ∧ w.grownBy wr none) (fun i _ => n - (intOf i).toNat)
  case atStart => exact ⟨0, by omega, rfl, World.grownBy.refl w none⟩
  case round =>
    obtain ⟨k, hk, hi, hK⟩ := hrel
    obtain ⟨I, hI⟩ : ∃ I : Int, I = (k : Int) := ⟨_, rfl⟩
    rw [← hI] at hi
    subst hi
    by_cases hlt : k < n
    · have d1 : decide (I < (n : Int)) = true := by simp; omega
      have hkx : k < xs.length := by have := HN.out; omega
      obtain ⟨b1, o1, rfl, q1⟩ := (H1.out.grown hK) (by rintro rfl; simp at hkx)
      obtain ⟨b2, o2, rfl, q2⟩ := (H2.out.grown hK) (by rintro rfl; simp at hkx)
      obtain ⟨B1, e1, f1, x1⟩ := q1 k hkx
      obtain ⟨B2, e2, f2, x2⟩ := q2 k hkx
      have hkI : I.toNat = k := by omega
      generalize xs[k] = y at *
      rw [← hkI] at f1 f2
      have g1 := Gr.cell f1
      have g2 := Gr.cell f2
      have v1 : ∀ z : Gr wr, Sem.run Tryd.prog (convert 30 9 (.slice B1 y.length e1)) z.1 = .ok (.string ⟨y.toArray⟩) z.1 := fun z => str_any (x1.grown z.2 (by simp)) rfl
      have v2 : ∀ z : Gr wr, Sem.run Tryd.prog (convert 30 9 (.slice B2 y.length e2)) z.1 = .ok (.string ⟨y.toArray⟩) z.1 := fun z => str_any (x2.grown z.2 (by simp)) rfl
      have hI68 : 0 ≤ I ∧ I < (n : Int) := by omega
      have HI := Lib.hid (And.intro hI hlt)
      have HG := Lib.hid hK
      clear hI hlt hkI hK hk q1 q2 hkx f1 f2 x1 x2
      go_wp2_with fail
      refine wp_region_grown (by kernel_rfl) (by kernel_rfl) ?_
      repeat (go_big_quiet_step (fail))
      refine wpQuiet_nil ?_
      rintro w2 ⟨⟨_, k2⟩, rfl⟩
      have HG2 := Lib.hid (grown_trans HG.out k2)
      clear k2 v1 v2 g1 g2
      go_wp2_with fail
      go_roundw
      case rel =>
        obtain ⟨hI, hlt⟩ := HI.out
        exact ⟨k + 1, by omega, by rw [hI]; go_num, HG2.out⟩
      case measure => obtain ⟨hI, hlt⟩ := HI.out; simp [intOf]; omega
    · have d1 : decide (I < (n : Int)) = false := by simp; omega
      have HG := Lib.hid hK
      clear hlt hI hK hk
      go_wp2_with fail
      go_ret
      exact ⟨rfl, HG.out⟩
end Go.Proofs.YtnhjokcjdjfijaaDoor
