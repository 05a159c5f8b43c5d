/-
  SlotsLast, walked.
-/
import Derived.Test.YtilfapibfadbfaaDoorSlJ
namespace Go.Proofs.YtilfapibfadbfaaDoor
open Go.RowKit Go.Maps

/-- The power is on, and lasts. -/
def Well (z : DkS) (n : Nat) : Prop := z.off = false ∧ z.lasts = -1 ∧ z.syn.length = n
theorem well_put {z : DkS} (h : Well z 2) (cn : Nat) (l : List UInt8) : putE z 0 cn l = 0 ∧ Well (putZ z 0 cn l) 2 := by
  obtain ⟨h1, h2, h3⟩ := h
  obtain ⟨i, hi⟩ : ∃ i : Nat, (cn + 1) % 2 = i := ⟨_, rfl⟩
  have hi2 : i < z.syn.length := by omega
  have e0 : wE z (i : Int) = 0 := wE_ok hi2 h1 (by omega)
  have e1 : wS z (i : Int) (slotL (cn + 1) l) = wrS z i (slotL (cn + 1) l) := wS_ok _ hi2 h1 h2
  have e2 : sE (wrS z i (slotL (cn + 1) l)) = 0 := sE_ok h1 (show z.lasts ≠ 0 by omega)
  have e3 : sS (wrS z i (slotL (cn + 1) l)) = syncS (wrS z i (slotL (cn + 1) l)) := sS_ok h1 h2
  refine ⟨?_, ?_⟩
  · rw [putE, hi, Int.zero_add, e0, e1, e2]; rfl
  · rw [putZ, hi, Int.zero_add, e0, e1, e3]
    exact ⟨h1, h2, (mgS_length _ _ _).trans h3⟩
def laBB (C : Nat) (l : List UInt8) : Nat → List UInt8 := fun k => if k = C % 2 then slotB C l else zeroB
theorem laBB_sel {C : Nat} {l : List UInt8} (hC : C < 9223372036854775808) (hl : l.length ≤ 31) : selK (laBB C l) 2 = some (C, l) := by
  have hp := parse_slot hC hl
  show selStep 1 (parseS (laBB C l 1)) (selStep 0 (parseS (laBB C l 0)) none) = _
  have h2 : C % 2 = 0 ∨ C % 2 = 1 := by omega
  rcases h2 with h2 | h2
  · have e0 : laBB C l 0 = slotB C l := by simp [laBB, h2]
    have e1 : laBB C l 1 = zeroB := by simp [laBB, h2]
    rw [e0, e1, hp, parse_zero]
    simp [selStep, h2]
  · have e0 : laBB C l 0 = zeroB := by simp [laBB, h2]
    have e1 : laBB C l 1 = slotB C l := by simp [laBB, h2]
    rw [e0, e1, hp, parse_zero]
    simp [selStep, h2]
theorem laZ_rows (C : Nat) (l : List UInt8) (k : Nat) (hk : k < 2) : (laBB C l k).length = 64 ∧ readS (wrS (newS 2) (C % 2) (slotL C l)) k = intsB (laBB C l k) := by
  have hw : (wrS (newS 2) (C % 2) (slotL C l)).wr = (List.replicate 2 none).set (C % 2) (some (slotL C l)) := rfl
  by_cases h : k = C % 2
  · have e : laBB C l k = slotB C l := by simp [laBB, h]
    rw [e]
    refine ⟨slotB_len _ _, ?_⟩
    rw [slotB_ints, readS, hw, h, List.getElem?_set_self (by simp; omega)]; rfl
  · have e : laBB C l k = zeroB := by simp [laBB, h]
    rw [e]
    refine ⟨rfl, ?_⟩
    rw [readS, hw, List.getElem?_set_ne (fun x => h x.symm), ← new_rows hk]
    rfl
set_option maxRecDepth 100000 in
set_option maxHeartbeats 2000000 in
theorem last7_any (w : World) (hR : Rounds w) (L0 : Int) (A : Option Addr) (n c : Nat) (l : List UInt8) (hn : l.length = n) (hl : BytesAt w A l) (E : Nat → Addr) (he : ErrEnv w w.heap.size E) :
    Calls Tryd.prog 6 #[.int .i64 L0, .slice A n c] w fun e w' => e = .returned (.bool true) ∧ w.grownBy w' none := by
  have her : ErrAt w w.heap.size 0 (E 0) := he.var 0 (by omega)
  have hep : ErrAt w w.heap.size 6 (E 5) := he.var 5 (by omega)
  have hed : ErrAt w w.heap.size 1 (E 6) := he.var 6 (by omega)
  have hef : ErrAt w w.heap.size 7 (E 7) := he.var 7 (by omega)
  have hv := ErrEnv.vars he [0, 1] (by simp)
  obtain ⟨q, hq, hq3⟩ := u_mod L0 3 (by omega)
  have hAb : ∀ ad, A = some ad → l ≠ [] → ad.block < w.heap.size := fun ad e hne => by
    obtain ⟨ad', e', hc⟩ := hl hne
    rw [e] at e'
    injection e' with e'
    subst e'
    have := World.block_lt_of_cell? w _ (hc 0 (List.length_pos_iff.2 hne))
    rwa [block_add] at this
  have HX := Lib.hid (And.intro hR (And.intro hv (And.intro her (And.intro hep (And.intro hed (And.intro hef (And.intro he (And.intro hq (And.intro hn (And.intro hl hAb))))))))))
  clear hR hv her hep hed hef he hq hn hl hAb
  refine (callsIn_wide (n := 10)).1 ?_
  refine callsIn_of_wp Tryd.func6 rfl trivial ?_ rfl
  simp only [Tryd.ntmps6, List.size_toArray, List.length_cons, List.length_nil, Nat.reduceAdd, Nat.reduceSub, Array.replicate_succ, Array.replicate_zero, List.push_toArray, List.append_toArray, List.nil_append, List.cons_append]
  gi_wp2
  refine ⟨trivial, ?_⟩
  refine (callsIn_wide.2 (alive_is w HX.out.1 E HX.out.2.1 (E 5) (E 6) (E 7) HX.out.2.2.2.1 HX.out.2.2.2.2.1 HX.out.2.2.2.2.2.1)).mono ?_
  rintro e w1 ⟨rfl, k1⟩
  have K1 := Lib.hid k1
  clear k1
  by_cases h31 : 31 < n
  · have d1 : decide ((31 : Int) < (n : Int)) = true := by simp; omega
    gi_wp2
    go_ret
    exact ⟨rfl, K1.out⟩
  have d1 : decide ((31 : Int) < (n : Int)) = false := by simp; omega
  have hn31 : n ≤ 31 := by omega
  clear h31
  gi_wp2
  rw [HX.out.2.2.2.2.2.2.2.1]
  refine ⟨trivial, ?_⟩
  refine (callsIn_wide.2 (dsk_new w w1 (Kept.of_grown (F := fun j => w.heap.size ≤ j) K1.out (fun _ e => by cases e)) 2 (by omega) (E 0) HX.out.2.2.1)).mono ?_
  rintro e w2 ⟨k2, d, b, m, rfl, hd, _⟩
  have H2 := Lib.hid hd
  clear k2 hd
  obtain ⟨C, hC⟩ : ∃ C : Nat, C + q = 9223372036854775807 := ⟨9223372036854775807 - q, by omega⟩
  obtain ⟨Q, hQ⟩ : ∃ Q : Int, (q : Int) = Q := ⟨_, rfl⟩
  have hQ2 : 0 ≤ Q ∧ Q < 3 := by omega
  have HC := Lib.hid (And.intro hC hQ)
  rw [hQ]
  clear hC hQ
  gi_wp2
  rw [show (9223372036854775807 - Q) = (C : Int) by have := HC.out; omega]
  obtain ⟨p, hp⟩ : ∃ p : Nat, C % 2 = p := ⟨_, rfl⟩
  rw [show (C : Int) % 2 = (p : Int) by omega]
  have hC63 : C < 9223372036854775808 := by have := HC.out; omega
  refine ⟨trivial, ?_⟩
  refine (callsIn_wide.2 (slot_is w2 (HX.out.1.kept H2.out.2.1 (fun _ h => h)) (C : Int) (by omega) A n c l HX.out.2.2.2.2.2.2.2.2.1 (HX.out.2.2.2.2.2.2.2.2.2.1.low H2.out.2.1 (fun _ h => h)) (by omega))).mono ?_
  rintro e w2' ⟨rfl, g2⟩
  rw [Int.toNat_natCast]
  have hns : (newS 2).syn.length = 2 := by simp [newS]
  have hw := dsk_write (H2.out.grown g2) HX.out.2.2.1 HX.out.2.2.2.1 (p : Int) (slotL C l) (slotL_len _ _)
  rw [wE_ok (by rw [hns]; omega) rfl (by simp [newS]), wS_ok _ (by rw [hns]; omega) rfl rfl, eV_zero] at hw
  have HW := Lib.hid hw
  clear hw g2 hns
  gi_wp2
  refine ⟨trivial, ?_⟩
  refine (callsIn_wide.2 HW.out).mono ?_
  rintro e w3 ⟨rfl, hd, _⟩
  rw [← hp] at hd
  have H3 := Lib.hid hd
  clear hd HW
  gi_wp2
  have hop := open_is w w3 d b m _ H3.out HX.out.1 E HX.out.2.1 (E 5) (E 6) HX.out.2.2.2.1 HX.out.2.2.2.2.1 0 (laBB C l) (fun _ _ k hk => by
    rw [show (0 : Int).toNat + k = k by simp]
    exact laZ_rows C l k hk)
  rw [show (wrS (newS 2) (C % 2) (slotL C l)).syn.length = 2 by simp [wrS, newS]] at hop
  have HOP := Lib.hid hop
  have HSEL := Lib.hid (laBB_sel (C := C) (l := l) hC63 (by have := HX.out.2.2.2.2.2.2.2.2.1; omega))
  clear hop
  refine ⟨trivial, ?_⟩
  refine (callsIn_wide.2 HOP.out).mono ?_
  rintro e w4 ⟨g4, ⟨hbad, _⟩ | ⟨_, ⟨hoff, _⟩ | ⟨_, ⟨hn, _⟩ | ⟨c', x', hc', s, rfl, hsl, hs⟩⟩⟩⟩
  · omega
  · cases hoff
  · rw [HSEL.out] at hn; cases hn
  rw [HSEL.out] at hc'
  injection hc' with hc'
  injection hc' with hc1 hc2
  subst hc1 hc2
  have H4 := Lib.hid (And.intro (And.intro (H3.out.grown g4) hsl) (show w.heap.size ≤ s by have := H3.out.2.1.size; omega))
  have HNB := Lib.hid (show ∀ ad, A = some ad → l ≠ [] → ¬ (ad.block = d ∨ ad.block = b ∨ ad.block = m ∨ ad.block = s) from fun ad e hne => by
    have := HX.out.2.2.2.2.2.2.2.2.2.2 ad e hne
    have h1 := H4.out.1.1.2.2
    have h2 := H4.out.2
    omega)
  clear g4 hsl hs HOP HSEL
  gi_wp2
  refine ⟨trivial, ?_⟩
  refine (callsIn_wide.2 (count_is H4.out.1.2)).mono ?_
  rintro e w5 ⟨rfl, hw5⟩
  obtain rfl : w4 = w5 := hw5.symm
  gi_wp2
  gi_loopw [52] (fun i wr => ∃ k : Nat, k ≤ q ∧ i = .int .i64 (k : Int) ∧ ∃ z', Dsk w wr d b m z' ∧ Well z' 2 ∧ SlAt wr s d b m 0 (C + k) l) (fun i _ => q - (intOf i).toNat)
  case atStart => exact ⟨0, by omega, rfl, _, H4.out.1.1, ⟨rfl, rfl, by simp [wrS, newS]⟩, H4.out.1.2⟩
  case round =>
    obtain ⟨k, hk, rfl, z', hd, hwell, hsl⟩ := hrel
    rename World => wx
    have HD := Lib.hid (And.intro hd (And.intro hwell hsl))
    clear hd hwell hsl
    have hQq : Q = (q : Int) := HC.out.2.symm
    by_cases hlt : k < q
    · have d2 : decide ((k : Int) < Q) = true := by simp; omega
      have hkc : C + k < 9223372036854775807 := by have := HC.out.1; omega
      clear hQq
      gi_wp2
      refine ⟨trivial, ?_⟩
      refine (callsIn_wide.2 (sput_is w wx d b m s z' 0 (C + k) l HD.out.1 HD.out.2.2 HX.out.1 A n c l HX.out.2.2.2.2.2.2.2.2.1 (HX.out.2.2.2.2.2.2.2.2.2.1.low HD.out.1.2.1 (fun _ h => h)) (E 0) (E 5) (E 7) HX.out.2.2.1 HX.out.2.2.2.1 H4.out.2 HNB.out HX.out.2.2.2.2.2.1 (by omega) (by omega))).mono ?_
      rintro e w6 (⟨h, _⟩ | ⟨_, h, _⟩ | ⟨_, _, hd, ⟨hne, _⟩ | ⟨_, rfl, hsl⟩⟩)
      · have := HX.out.2.2.2.2.2.2.2.2.1; omega
      · omega
      · exact absurd (well_put HD.out.2.1 _ _).1 hne
      have H6 := Lib.hid (And.intro hd hsl)
      clear hd hsl
      gi_wp2
      go_roundw
      case rel => exact ⟨k + 1, by omega, by simp, _, H6.out.1, (well_put HD.out.2.1 _ _).2, H6.out.2⟩
      case measure => simp [intOf]; omega
    · have d2 : decide ((k : Int) < Q) = false := by simp; omega
      obtain rfl : k = q := by omega
      clear hQq hlt
      gi_upto_region 20 with fail
      rename_i K8 hK8
      refine wpIn_normal ?_
      have g0 := grown_drew (World.grownBy.refl wx none)
      obtain ⟨V2, hV2⟩ : ∃ V2, wx.drew = V2 := ⟨_, rfl⟩
      rw [hV2] at g0
      have HG := Lib.hid (And.intro (HD.out.1.grown g0) (HD.out.2.2.grown g0))
      have hS : ∀ Y, Kept (fun j => w.heap.size ≤ j) w Y → Sem.run Tryd.prog (convert 22 9 (.slice A n c)) Y = .ok (.string ⟨l.toArray⟩) Y := fun Y hk => toString_any (HX.out.2.2.2.2.2.2.2.2.2.1.low hk (fun _ h => h)) HX.out.2.2.2.2.2.2.2.2.1
      have HS := Lib.hid hS
      clear g0 hS
      refine wpIn_region_held_wide (S := (fun Y => Sem.run Tryd.prog (convert 22 9 (.slice A n c)) Y = .ok (.string ⟨l.toArray⟩) Y)) (by kernel_rfl) (by kernel_rfl) (by rintro ⟨_, _, h, _⟩; cases h) (by rw [hV2]; exact HS.out _ HG.out.1.2.1) (fun hHeld => ?_)
      rw [hV2] at hHeld ⊢
      refine wpAnyH_take (i := 0) (oi := _) (v := ?vk0) rfl (by kernel_rfl) (by kernel_rfl) (by kernel_rfl) (fun _ _ _ h => by cases h.1) (Or.inl ⟨by rfl, ?hyk0⟩) (by assumption) ?restk0
      case hyk0 => (intro V hSw; (try dsimp only at hSw); go_simp) <;> with_reducible rfl
      try simp only [Act.put, List.getElem_toArray, List.getElem_cons_succ, List.getElem_cons_zero, List.setIfInBounds_toArray, List.set_cons_zero, List.set_cons_succ]
      refine wpAnyH_take (i := 1) (oi := _) (v := ?vk1) rfl (by kernel_rfl) (by kernel_rfl) (by kernel_rfl) (fun _ _ _ h => by cases h.1) (Or.inl ⟨by rfl, ?hyk1⟩) (by assumption) ?restk1
      case hyk1 => (intro V hSw; (try dsimp only at hSw); go_simp) <;> with_reducible rfl
      try simp only [Act.put, List.getElem_toArray, List.getElem_cons_succ, List.getElem_cons_zero, List.setIfInBounds_toArray, List.set_cons_zero, List.set_cons_succ]
      refine wpAnyH_ready (rs := [2]) (by kernel_rfl) (by simp) ?_
      refine (AllReadyH.cons (o := _) rfl (fun K9 hK => ?_) AllReadyH.nil)
      go_simp
      refine (sput_is w V2 d b m s z' 0 (C + k) l HG.out.1 HG.out.2 HX.out.1 A n c l HX.out.2.2.2.2.2.2.2.2.1 (HX.out.2.2.2.2.2.2.2.2.2.1.low HG.out.1.2.1 (fun _ h => h)) (E 0) (E 5) (E 7) HX.out.2.2.1 HX.out.2.2.2.1 H4.out.2 (fun ad e hne => HNB.out ad e hne) HX.out.2.2.2.2.2.1 (by have := HC.out.1; omega) (by omega)).mono ?_
      rintro e w6 hor
      have hful : e = .returned (errV (E 7)) ∧ Dsk w w6 d b m z' ∧ SlAt w6 s d b m 0 (C + k) l := by
        rcases hor with ⟨h, _⟩ | ⟨_, _, h1, h2, h3⟩ | ⟨_, h, _⟩
        · have := HX.out.2.2.2.2.2.2.2.2.1; omega
        · exact ⟨h1, h2, h3⟩
        · have := HC.out.1; omega
      clear hor
      obtain ⟨rfl, hd, hsl⟩ := hful
      have H6 := Lib.hid (And.intro hd hsl)
      clear hd hsl
      go_wp2_with fail
      refine hK.out _ _ (HS.out _ H6.out.1.2.1) (fun hHeld => ?_)
      clear hK K9
      try simp only [Act.put, List.getElem_toArray, List.getElem_cons_succ, List.getElem_cons_zero, List.setIfInBounds_toArray, List.set_cons_zero, List.set_cons_succ]
      refine wpAnyH_ready (rs := [3]) (by kernel_rfl) (by simp) ?_
      refine (AllReadyH.cons (o := _) rfl (fun K9 hK => ?_) AllReadyH.nil)
      go_simp
      refine (num_err w6 w.heap.size E 7 (by omega) (HX.out.2.2.2.2.2.2.1.below H6.out.1.below (Nat.le_refl _))).mono ?_
      rintro e w7 ⟨rfl, g7⟩
      have H7 := Lib.hid (And.intro (H6.out.1.grown g7) (H6.out.2.grown g7))
      clear g7
      go_wp2_with fail
      refine hK.out _ _ (HS.out _ H7.out.1.2.1) (fun hHeld => ?_)
      clear hK K9
      try simp only [Act.put, List.getElem_toArray, List.getElem_cons_succ, List.getElem_cons_zero, List.setIfInBounds_toArray, List.set_cons_zero, List.set_cons_succ]
      refine wpAnyH_take (i := 4) (oi := _) (v := ?vk4) rfl (by kernel_rfl) (by kernel_rfl) (by kernel_rfl) (fun _ _ _ h => by cases h.1) (Or.inl ⟨by rfl, ?hyk4⟩) (by assumption) ?restk4
      case hyk4 => (intro V hSw; (try dsimp only at hSw); go_simp) <;> with_reducible rfl
      try simp only [Act.put, List.getElem_toArray, List.getElem_cons_succ, List.getElem_cons_zero, List.setIfInBounds_toArray, List.set_cons_zero, List.set_cons_succ]
      refine wpAnyH_take (i := 5) (oi := _) (v := ?vk5) rfl (by kernel_rfl) (by kernel_rfl) (by kernel_rfl) (fun _ _ _ h => by cases h.1) (Or.inl ⟨by rfl, ?hyk5⟩) (by assumption) ?restk5
      case hyk5 => (intro V hSw; (try dsimp only at hSw); go_simp) <;> with_reducible rfl
      try simp only [Act.put, List.getElem_toArray, List.getElem_cons_succ, List.getElem_cons_zero, List.setIfInBounds_toArray, List.set_cons_zero, List.set_cons_succ]
      refine wpAnyH_take (i := 6) (oi := _) (v := ?vk6) rfl (by kernel_rfl) (by kernel_rfl) (by kernel_rfl) (fun _ _ _ h => by cases h.1) (Or.inl ⟨by rfl, ?hyk6⟩) (by assumption) ?restk6
      case hyk6 => (intro V hSw; (try dsimp only at hSw); go_simp) <;> with_reducible rfl
      try simp only [Act.put, List.getElem_toArray, List.getElem_cons_succ, List.getElem_cons_zero, List.setIfInBounds_toArray, List.set_cons_zero, List.set_cons_succ]
      refine wpAnyH_ready (rs := [7]) (by kernel_rfl) (by simp) ?_
      refine (AllReadyH.cons (o := _) rfl (fun K9 hK => ?_) AllReadyH.nil)
      go_simp
      refine (count_is H7.out.2).mono ?_
      rintro e w8 ⟨rfl, hw8⟩
      obtain rfl : w7 = w8 := hw8.symm
      rw [show ((C + k : Nat) : Int) = 9223372036854775807 by have := HC.out.1; omega]
      go_wp2_with fail
      refine hK.out _ _ (HS.out _ H7.out.1.2.1) (fun hHeld => ?_)
      clear hK K9
      try simp only [Act.put, List.getElem_toArray, List.getElem_cons_succ, List.getElem_cons_zero, List.setIfInBounds_toArray, List.set_cons_zero, List.set_cons_succ]
      refine wpAnyH_take (i := 8) (oi := _) (v := ?vk8) rfl (by kernel_rfl) (by kernel_rfl) (by kernel_rfl) (fun _ _ _ h => by cases h.1) (Or.inl ⟨by rfl, ?hyk8⟩) (by assumption) ?restk8
      case hyk8 => (intro V hSw; (try dsimp only at hSw); go_simp) <;> with_reducible rfl
      try simp only [Act.put, List.getElem_toArray, List.getElem_cons_succ, List.getElem_cons_zero, List.setIfInBounds_toArray, List.set_cons_zero, List.set_cons_succ]
      refine wpAnyH_take (i := 9) (oi := _) (v := ?vk9) rfl (by kernel_rfl) (by kernel_rfl) (by kernel_rfl) (fun _ _ _ h => by cases h.1) (Or.inl ⟨by rfl, ?hyk9⟩) (by assumption) ?restk9
      case hyk9 => (intro V hSw; (try dsimp only at hSw); go_simp) <;> with_reducible rfl
      try simp only [Act.put, List.getElem_toArray, List.getElem_cons_succ, List.getElem_cons_zero, List.setIfInBounds_toArray, List.set_cons_zero, List.set_cons_succ]
      refine wpAnyH_take (i := 10) (oi := _) (v := ?vk10) rfl (by kernel_rfl) (by kernel_rfl) (by kernel_rfl) (fun _ _ _ h => by cases h.1) (Or.inl ⟨by rfl, ?hyk10⟩) (by assumption) ?restk10
      case hyk10 => (intro V hSw; (try dsimp only at hSw); go_simp) <;> with_reducible rfl
      try simp only [Act.put, List.getElem_toArray, List.getElem_cons_succ, List.getElem_cons_zero, List.setIfInBounds_toArray, List.set_cons_zero, List.set_cons_succ]
      refine wpAnyH_take (i := 11) (oi := _) (v := ?vk11) rfl (by kernel_rfl) (by kernel_rfl) (by kernel_rfl) (fun _ _ _ h => by cases h.1) (Or.inl ⟨by rfl, ?hyk11⟩) (by assumption) ?restk11
      case hyk11 => (intro V hSw; (try dsimp only at hSw); go_simp) <;> with_reducible rfl
      try simp only [Act.put, List.getElem_toArray, List.getElem_cons_succ, List.getElem_cons_zero, List.setIfInBounds_toArray, List.set_cons_zero, List.set_cons_succ]
      refine wpAnyH_take (i := 14) (oi := _) (v := ?vk14) rfl (by kernel_rfl) (by kernel_rfl) (by kernel_rfl) (fun _ _ _ h => by cases h.1) (Or.inl ⟨by rfl, ?hyk14⟩) (by assumption) ?restk14
      case hyk14 => (intro V hSw; (try dsimp only at hSw); go_simp) <;> with_reducible rfl
      try simp only [Act.put, List.getElem_toArray, List.getElem_cons_succ, List.getElem_cons_zero, List.setIfInBounds_toArray, List.set_cons_zero, List.set_cons_succ]
      refine wpAnyH_take (i := 15) (oi := _) (v := ?vk15) rfl (by kernel_rfl) (by kernel_rfl) (by kernel_rfl) (fun _ _ _ h => by cases h.1) (Or.inl ⟨by rfl, ?hyk15⟩) (by assumption) ?restk15
      case hyk15 => (intro V hSw; (try dsimp only at hSw); go_simp) <;> with_reducible rfl
      try simp only [Act.put, List.getElem_toArray, List.getElem_cons_succ, List.getElem_cons_zero, List.setIfInBounds_toArray, List.set_cons_zero, List.set_cons_succ]
      refine wpAnyH_ready (rs := [12]) (by kernel_rfl) (by simp) ?_
      refine (AllReadyH.cons (o := _) rfl (fun K9 hK => ?_) AllReadyH.nil)
      go_simp
      refine (record_is H7.out.2 (by have := HX.out.2.2.2.2.2.2.2.2.1; omega)).mono ?_
      rintro e w9 ⟨A9, c9, rfl, hb9, g9⟩
      have H9 := Lib.hid (And.intro (H7.out.1.grown g9) hb9)
      clear g9 hb9
      go_wp2_with fail
      refine hK.out _ _ (HS.out _ H9.out.1.2.1) (fun hHeld => ?_)
      clear hK K9
      try simp only [Act.put, List.getElem_toArray, List.getElem_cons_succ, List.getElem_cons_zero, List.setIfInBounds_toArray, List.set_cons_zero, List.set_cons_succ]
      refine wpAnyH_ready (rs := [13]) (by kernel_rfl) (by simp) ?_
      refine (AllReadyH.cons (o := _) rfl (fun K9 hK => ?_) AllReadyH.nil)
      have ht9 := toString_any (n := l.length) (c := c9) H9.out.2 rfl
      go_simp
      refine hK.out _ _ (HS.out _ H9.out.1.2.1) (fun hHeld => ?_)
      clear hK K9 ht9
      try simp only [Act.put, List.getElem_toArray, List.getElem_cons_succ, List.getElem_cons_zero, List.setIfInBounds_toArray, List.set_cons_zero, List.set_cons_succ]
      refine wpAnyH_take (i := 16) (oi := _) (v := ?vk16) rfl (by kernel_rfl) (by kernel_rfl) (by kernel_rfl) (fun _ _ _ h => by cases h.1) (Or.inl ⟨by rfl, ?hyk16⟩) (by assumption) ?restk16
      case hyk16 => (intro V hSw; (try dsimp only at hSw); go_simp) <;> with_reducible rfl
      try simp only [Act.put, List.getElem_toArray, List.getElem_cons_succ, List.getElem_cons_zero, List.setIfInBounds_toArray, List.set_cons_zero, List.set_cons_succ]
      refine wpAnyH_take (i := 17) (oi := _) (v := ?vk17) rfl (by kernel_rfl) (by kernel_rfl) (by kernel_rfl) (fun _ _ _ h => by cases h.1) (Or.inl ⟨by rfl, ?hyk17⟩) (by assumption) ?restk17
      case hyk17 => (intro V hSw; (try dsimp only at hSw); go_simp) <;> with_reducible rfl
      try simp only [Act.put, List.getElem_toArray, List.getElem_cons_succ, List.getElem_cons_zero, List.setIfInBounds_toArray, List.set_cons_zero, List.set_cons_succ]
      refine wpAnyH_take (i := 18) (oi := _) (v := ?vk18) rfl (by kernel_rfl) (by kernel_rfl) (by kernel_rfl) (fun _ _ _ h => by cases h.1) (Or.inl ⟨by rfl, ?hyk18⟩) (by assumption) ?restk18
      case hyk18 => (intro V hSw; (try dsimp only at hSw); go_simp) <;> with_reducible rfl
      try simp only [Act.put, List.getElem_toArray, List.getElem_cons_succ, List.getElem_cons_zero, List.setIfInBounds_toArray, List.set_cons_zero, List.set_cons_succ]
      refine wpAnyH_done (by kernel_rfl) ?_ _
      refine ⟨rfl, hK8 _ _ ?_⟩
      gi_wp2
      go_ret
      exact ⟨rfl, H9.out.1.grownNone⟩
end Go.Proofs.YtilfapibfadbfaaDoor
