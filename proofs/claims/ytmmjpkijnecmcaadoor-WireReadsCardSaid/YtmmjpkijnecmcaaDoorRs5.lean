/-
  quoratelaw01.reads: a list.
-/
import Derived.Test.YtmmjpkijnecmcaaDoorRs2
namespace Go.Proofs.YtmmjpkijnecmcaaDoor
open Go.RowKit

section
variable (w : World) (B g s m : Nat) (E : Nat → Addr) (A : Option Addr) (c : Nat) (b : List UInt8) (e : Nat) (l : List UInt8) (kind nn width most : Int) (Ab : Option Addr) (nb cb : Nat)

set_option maxRecDepth 100000 in
set_option maxHeartbeats 1000000 in
theorem reads_list (h : RS w B g s m E A c b e l) (t1 : (kind == 1) = false) (t2 : (kind == 2) = false) (t3 : (kind == 3) = false) (t4 : (kind == 4) = false) (t5 : (kind == 5) = true) :
    Calls Tryd.prog 19 #[.pointer (some ⟨g, 0, none⟩), .pointer (some ⟨m, 0, none⟩), .agg #[.int .i64 kind, .int .i64 nn, .int .i64 width, .int .i64 most, .slice Ab nb cb]] w fun en w' => en = .returned (.bool true) ∧ RSP w w' B g s m E A c b := by
  have KA : Kept (fun _ => False) w (w.alloc (.cells #[.int .i64 kind, .int .i64 nn, .int .i64 width, .int .i64 most, .slice Ab nb cb] 29)) := (Kept.refl (fun _ => False) w).alloc _
  have hA := h.old KA
  have hbox := Blk.new w 29 #[.int .i64 kind, .int .i64 nn, .int .i64 width, .int .i64 most, .slice Ab nb cb]
  have hne : w.heap.size ≠ g ∧ w.heap.size ≠ m := by have := h.lt; omega
  have d0 : (w.alloc (.cells #[.int .i64 kind, .int .i64 nn, .int .i64 width, .int .i64 most, .slice Ab nb cb] 29)).cell? ⟨w.heap.size, 0, none⟩ = some (.int .i64 kind) := hbox.cell 0
  have d1 : (w.alloc (.cells #[.int .i64 kind, .int .i64 nn, .int .i64 width, .int .i64 most, .slice Ab nb cb] 29)).cell? ⟨w.heap.size, 1, none⟩ = some (.int .i64 nn) := hbox.cell 1
  have d2 : (w.alloc (.cells #[.int .i64 kind, .int .i64 nn, .int .i64 width, .int .i64 most, .slice Ab nb cb] 29)).cell? ⟨w.heap.size, 2, none⟩ = some (.int .i64 width) := hbox.cell 2
  have d3 : (w.alloc (.cells #[.int .i64 kind, .int .i64 nn, .int .i64 width, .int .i64 most, .slice Ab nb cb] 29)).cell? ⟨w.heap.size, 3, none⟩ = some (.int .i64 most) := hbox.cell 3
  have hB := h.bg
  have hb := h.bl
  have HA := Lib.hid hA
  have Hbox := Lib.hid hbox
  have HK0 := Lib.hid KA
  obtain ⟨n1, e2, l2, hq⟩ : ∃ n1 e2 l2, pMost 1 most e l = (n1, e2, l2) := ⟨_, _, _, rfl⟩
  obtain ⟨out1, e1, l1, hm⟩ : ∃ o e1 l1, pMany n1 e2 l2 = (o, e1, l1) := ⟨_, _, _, rfl⟩
  obtain ⟨out, ho⟩ : ∃ out, (if e1 = 0 then out1 else []) = out := ⟨_, rfl⟩
  obtain ⟨v, hv⟩ : ∃ v, (if e2 = 0 then n1 else 0) = v := ⟨_, rfl⟩
  have hT : pTake most e l = (out, e1, l1) := by unfold pTake; rw [hq]; simp only [hm, ho]
  have hM : pMany v e2 l2 = (out1, e1, l1) := by
    rw [← hm, ← hv]
    by_cases h0 : e2 = 0
    · rw [if_pos h0]
    · rw [if_neg h0, pMany_err n1 e2 l2 h0]; rfl
  have hv255 : v < 256 := by
    have h1 := pNum_small (e := e) (l := l)
    have h2 : (pMost 1 most e l).1 = (pNum 1 e l).1 := rfl
    rw [← h2, hq] at h1
    rw [← hv]
    split
    · exact h1
    · omega
  have HG : Hid (Gd (e1, l1)) := by have := gd_take (most := most) h.gd; rw [hT] at this; exact this
  have Hq := Lib.hid hq
  have HT := Lib.hid hT
  have HM := Lib.hid hM
  have Ho := Lib.hid ho
  have Hv := Lib.hid hv
  obtain ⟨i0, hi0, hz0, hz1, hz2⟩ := info_parts info_int
  have HI0 := Lib.hid (And.intro hi0 (And.intro hz0 (And.intro hz1 hz2)))
  clear hq hm ho hv hT hM hi0 hz0 hz1 hz2
  clear h hA hbox KA
  go_enter Tryd.func19, Tryd.ntmps19
  go_wp2_with fail
  generalize w.alloc (.cells #[.int .i64 kind, .int .i64 nn, .int .i64 width, .int .i64 most, .slice Ab nb cb] 29) = wA at *
  refine (take_int wA B g s E _ enter_reads (one_reads B g s E hB) most e l out e1 l1 HT.out HA.out.lt.2.2 hB HA.out.rd (HA.out.er.sub (by decide))).mono ?_
  rintro en w5 ⟨A5, c5', rfl, hown5, hlow5, hr5, k5⟩
  have c5 : w5.cell? ⟨w.heap.size, 3, none⟩ = some (.int .i64 most) := (Hbox.out.grown k5 (by intro e; have := Option.some.inj e; have := hne; omega)).cell 3
  have HN5 := Lib.hid (own_ints hown5)
  have HM5 := Lib.hid (HA.out.first k5)
  have HR5 := Lib.hid (And.intro hr5 k5)
  have HL5 := Lib.hid (fun ad (e : A5 = some ad) => show ad.block ≠ m from by have h1 := hlow5 ad e; have h2 := HA.out.lt; omega)
  clear hown5 hlow5 hr5 k5
  go_wp2_with fail
  refine (mmany_is w5 m A c b e l most n1 e2 l2 v Hv.out Hq.out (by omega) HM5.out).mono ?_
  rintro en w6 ⟨rfl, hm6, k6⟩
  have hlit : (w6.alloc (.cells #[] 3)).ownsRow w6.heap.size 3 1 (.slice (some ⟨w6.heap.size, 0, none⟩) 0 0) 0 [] :=
    World.ownsRow_lit (base := w6.heap.size) (e := 3) (size := 1) w6 #[] 0 (Nat.le_refl _) (by decide) rfl
  have k7 : Kept (fun _ => False) w6 (w6.alloc (.cells #[] 3)) := (Kept.refl (fun _ => False) w6).alloc _
  have hlt6 : m < w6.heap.size := by obtain ⟨k, h1, _⟩ := hm6; exact h1.1.lt
  have HM7 := Lib.hid (hm6.kept k7 (fun h => h) (fun _ _ _ h => h))
  have HK6 := Lib.hid k6
  have HK7 := Lib.hid k7
  have HO7 := Lib.hid hlit
  clear hm6 k6 k7 hlit
  go_wp2_with fail
  generalize w6.alloc (.cells #[] 3) = w7 at *
  go_loopw [9, 10] (fun v9 v10 wr => ∃ (i : Nat) (A9 : Option Addr) (c9 : Nat) (acc : List Nat) (e3 : Nat) (l3 : List UInt8), i ≤ v ∧ v10 = .int .i64 (i : Int) ∧ v9 = .slice A9 i c9 ∧ acc.length = i ∧ Hid (pMany v e2 l2 = (acc ++ (pMany (v - i) e3 l3).1, (pMany (v - i) e3 l3).2)) ∧ MdEnd wr m A c b e3 l3 ∧ wr.ownsRow w6.heap.size 3 1 (.slice A9 i c9) i (cells_int acc) ∧ Kept (fun j => j = m) w6 wr) (fun _ v10 _ => v - (intOf v10).toNat)
  case atStart => exact ⟨0, _, 0, [], e2, l2, Nat.zero_le _, rfl, rfl, rfl, rfl, HM7.out, HO7.out, HK7.out.mono (fun _ _ h => h.elim)⟩
  case round =>
    obtain ⟨i, A9, c9, acc, e3, l3, hi, rfl, rfl, ha, HI, hm, hown, K⟩ := hrel
    have c2 : wr.cell? ⟨m, 2, none⟩ = some (.int .i64 (e3 : Int)) := by obtain ⟨k, h1, _⟩ := hm; exact h1.1.cell 2
    have Hm := Lib.hid hm
    have Hown := Lib.hid hown
    have HK := Lib.hid K
    have Ha := Lib.hid ha
    have Hi := Lib.hid hi
    have stop : e3 ≠ 0 ∨ i = v → out1 = acc ∧ e1 = e3 ∧ l1 = l3 := fun h => by
      have hz : pMany (v - i) e3 l3 = ([], e3, l3) := by
        rcases h with h | h
        · exact pMany_err _ _ _ h
        · rw [h, Nat.sub_self]; rfl
      have h1 := HI.out
      rw [hz, HM.out] at h1
      simp only [List.append_nil, Prod.mk.injEq] at h1
      exact h1
    have Hstop := Lib.hid stop
    have fin : e3 ≠ 0 ∨ i = v → ∀ w9, wr.grownBy w9 none → RSP w w9 B g s m E A c b := fun h w9 k9 => by
      obtain ⟨_, rfl, rfl⟩ := Hstop.out h
      refine RSP.of HK0.out (HA.out.both HR5.out.1 HR5.out.2 (Hm.out.kept (Kept.of_grown (F := fun _ => False) k9 (fun _ e => by cases e)) (fun h => h) (fun _ _ _ h => h)) ((HK6.out.follow HK.out (fun _ _ h => h)).follow (Kept.of_grown (F := fun _ => False) k9 (fun _ e => by cases e)) (fun _ _ h => h.elim)) HG.out)
    have Fin := Lib.hid fin
    clear hm hown K ha stop fin hi
    by_cases h0 : e3 = 0
    · have b0 : ((e3 : Int) == 0) = true := by rw [h0]; rfl
      have b3 : ((e3 : Int) != 0) = false := by rw [h0]; rfl
      have H0 := Lib.hid h0
      by_cases hlt : i < v
      · have b1 : decide ((i : Int) < (v : Int)) = true := by simp; omega
        obtain ⟨n3, e4, l4, hq4⟩ : ∃ n3 e4 l4, pNum 1 e3 l3 = (n3, e4, l4) := ⟨_, _, _, rfl⟩
        have Hq4 := Lib.hid hq4
        have Hlt := Lib.hid hlt
        clear hq4 h0
        go_wp2_with fail
        refine (mnum_is wr m A c b e3 l3 1 n3 e4 l4 Hq4.out (by omega) Hm.out).mono ?_
        rintro en w8 ⟨rfl, hm8, k8⟩
        have hown8 : w8.ownsRow w6.heap.size 3 1 (.slice A9 i c9) i (cells_int acc) := own_kept Hown.out k8 (fun j hj e => by
          have h1 := (Hown.out.lt j hj).1
          have h2 : j = m := e
          omega)
        have hs8 : w6.heap.size ≤ w8.heap.size := Nat.le_trans HK.out.size k8.size
        have HO8 := Lib.hid hown8
        have HM8 := Lib.hid hm8
        have HK8 := Lib.hid k8
        clear hm8 k8 hown8
        go_wp2_with (at_builtin
                     refine wpList_push rfl _ _ 53 rfl w6.heap.size 3 _ i0 (.int .i64 0) 8 Tryd.underlying53 HI0.out.1 HI0.out.2.1 HI0.out.2.2.1 HI0.out.2.2.2 rfl (.slice A9 i c9) i (cells_int acc) rfl HO8.out (.int .i64 (n3 : Int)) rfl rfl (by have := Hlt.out; omega) (by omega) hs8 ?_
                     intro v' w9 hown9 hk9
                     obtain ⟨A', cap', rfl⟩ := own_slice w9 hown9
                     have HO9 := Lib.hid hown9
                     have K9 : Kept (fun j => w6.heap.size ≤ j) w8 w9 := Kept.of_grown (F := fun j => w6.heap.size ≤ j) hk9 (fun j hj => (HO8.out.lt j hj).1)
                     have HK9 := Lib.hid K9
                     clear hown9 hk9 K9)
        go_roundw
        case rel => exact ⟨i + 1, A', cap', acc ++ [n3], e4, l4, by have := Hlt.out; omega, by go_num, rfl, by rw [List.length_append, Ha.out]; rfl, by
          have h1 := HI.out
          have hk1 : v - i = (v - (i + 1)) + 1 := by have := Hlt.out; omega
          have h2 := Hq4.out
          have h3 := H0.out
          subst h3
          rw [hk1, pMany_succ _ _ _ _ _ h2] at h1
          show pMany v e2 l2 = _
          rw [h1]
          simp, HM8.out.kept HK9.out (by omega) (fun ad e hne h => by
            obtain ⟨kk, h1, _⟩ := HA.out.md
            have h2 := h1.2.1.lt ad e hne
            have h3 := HR5.out.2.size
            have h4 := HK6.out.size
            omega), by simpa [cells_int] using HO9.out, (HK.out.follow HK8.out (fun _ _ h => h)).follow HK9.out (fun j hj h => by omega)⟩
        case measure => have := Hlt.out; simp [intOf]; omega
      · have b1 : decide ((i : Int) < (v : Int)) = false := by simp; omega
        have hiv : i = v := by have := Hi.out; omega
        obtain ⟨h1, h2, h3⟩ := Hstop.out (.inr hiv)
        have hout : out.length = i := by rw [← Ho.out, if_pos (h2.trans h0), h1, Ha.out]
        have hout2 : out = acc := by rw [← Ho.out, if_pos (h2.trans h0), h1]
        have F := Lib.hid (Fin.out (.inr hiv))
        have HX := Lib.hid (And.intro hout hout2)
        clear hiv h1 h2 h3 hout hout2 h0
        go_wp2_with fail
        rw [HX.out.1]
        refine (sameints_is wr A5 A9 c5' c9 i acc Ha.out (by have := Hi.out; omega) (by
          have h := HN5.out
          rw [HX.out.2] at h
          exact h.kept ((HK6.out.follow HK.out (fun _ _ h => h))) (fun ad e h => HL5.out ad e h)) (own_ints Hown.out)).mono ?_
        rintro en w9 ⟨rfl, k9⟩
        go_wp2_with fail
        go_ret
        exact ⟨rfl, F.out _ k9⟩
    · have b0 : ((e3 : Int) == 0) = false := by simp; omega
      have b3 : ((e3 : Int) != 0) = true := by simp; omega
      obtain ⟨h1, h2, h3⟩ := Hstop.out (.inl h0)
      have hout : out = [] := by rw [← Ho.out, if_neg (fun h => h0 (h2.symm.trans h))]
      subst hout
      have F := Lib.hid (Fin.out (.inl h0))
      clear h1 h2 h3 h0
      have t1' : (decide ((i : Int) < (v : Int)) = true ∧ i < v) ∨ (decide ((i : Int) < (v : Int)) = false ∧ ¬ (i < v)) := by
        by_cases h : i < v
        · exact .inl ⟨by simp; omega, h⟩
        · exact .inr ⟨by simp; omega, h⟩
      rcases t1' with ⟨b1, b1'⟩ | ⟨b1, b1'⟩
      all_goals
        go_wp2_with fail
        refine (sameints_is wr A5 none c5' 0 0 [] rfl (by omega) (fun h => absurd rfl h) (fun h => absurd rfl h)).mono ?_
        rintro en w9 ⟨rfl, k9⟩
        go_wp2_with fail
        go_ret
        exact ⟨rfl, F.out _ k9⟩
end
end Go.Proofs.YtmmjpkijnecmcaaDoor
