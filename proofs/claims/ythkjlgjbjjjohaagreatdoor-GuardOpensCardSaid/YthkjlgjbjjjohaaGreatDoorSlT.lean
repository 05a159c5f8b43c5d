/-
  SlotsPlays (pure): what a disk of two slots holds, wherever the power goes.
-/
import Derived.Test.YthkjlgjbjjjohaaGreatDoorSlH
import Derived.Test.YthkjlgjbjjjohaaGreatDoorSlE
namespace Go.Proofs.YthkjlgjbjjjohaaGreatDoor
open Go.RowKit Go.Maps

/-- What may stand in the elder slot's place. -/
def OldB (cn : Nat) (B : List UInt8) : Prop := B = zeroB ∨ ∃ x : List UInt8, x.length ≤ 31 ∧ 1 ≤ cn ∧ B = slotB (cn - 1) x
theorem oldB_len {cn : Nat} {B : List UInt8} (h : OldB cn B) : B.length = 64 := by
  rcases h with rfl | ⟨x, _, _, rfl⟩
  · rfl
  · exact slotB_len _ _
structure PlZ (z : DkS) (cn : Nat) (rc : List UInt8) (td : Bool) (tr : List UInt8) : Prop where
  syn : z.syn.length = 2
  wr : z.wr.length = 2
  hrc : rc.length ≤ 31
  wp : z.wr[cn % 2]? = some none
  sp : z.syn[cn % 2]? = some (slotL cn rc)
  sq : ∃ B, OldB cn B ∧ z.syn[(cn + 1) % 2]? = some (intsB B)
  wq : z.wr[(cn + 1) % 2]? = some none ∨ (td = true ∧ tr.length ≤ 31 ∧ z.wr[(cn + 1) % 2]? = some (some (slotL (cn + 1) tr)))
  off : td = true → z.off = true
theorem plz_start : PlZ (fmtZ (newS 2) 0) 0 [] false [] := ⟨by kernel_rfl, by kernel_rfl, by simp, by kernel_rfl, by kernel_rfl, ⟨zeroB, .inl rfl, by kernel_rfl⟩, .inl (by kernel_rfl), fun h => by cases h⟩
theorem opS_syn (z : DkS) : (opS z).syn = z.syn := by unfold opS; split; rfl; split; rfl; split <;> rfl
theorem opS_wr (z : DkS) : (opS z).wr = z.wr := by unfold opS; split; rfl; split; rfl; split <;> rfl
theorem opS_off {z : DkS} (h : opOk z = false) : (opS z).off = true := by
  unfold opS
  split
  · rfl
  · rename_i h0
    have : z.off = true := by simpa [opOk, h0] using h
    rw [if_pos this]; exact this
theorem off_not {z : DkS} (h : z.off = true) : opOk z = false := by simp [opOk, h]
theorem armS_plz {z : DkS} {cn : Nat} {rc : List UInt8} {td : Bool} {tr : List UInt8} (h : PlZ z cn rc td tr) (k : Int) : PlZ (armS z k) cn rc td tr := ⟨h.syn, h.wr, h.hrc, h.wp, h.sp, h.sq, h.wq, h.off⟩
theorem par2 (cn : Nat) : cn % 2 < 2 ∧ (cn + 1) % 2 < 2 ∧ cn % 2 ≠ (cn + 1) % 2 ∧ (cn + 1 + 1) % 2 = cn % 2 := by omega
theorem put_plz {z : DkS} {cn : Nat} {rc : List UInt8} {td : Bool} {tr : List UInt8} (h : PlZ z cn rc td tr) (l : List UInt8) (hl : l.length ≤ 31) :
    (putE z 0 cn l = 0 ∧ td = false ∧ PlZ (putZ z 0 cn l) (cn + 1) l false tr) ∨
    (putE z 0 cn l = 2 ∧ PlZ (putZ z 0 cn l) cn rc true (if td then tr else l)) := by
  obtain ⟨p1, p2, p3, p4⟩ := par2 cn
  unfold putE putZ
  rw [Int.zero_add]
  have hin : inR z (((cn + 1) % 2 : Nat) : Int) = true := by simp only [inR, decide_eq_true_eq, h.syn]; omega
  cases hok : opOk z with
  | false =>
    have e1 : wE z (((cn + 1) % 2 : Nat) : Int) = 2 := by simp only [wE, hin, hok, if_true, Bool.false_eq_true, if_false]
    have e2 : wS z (((cn + 1) % 2 : Nat) : Int) (slotL (cn + 1) l) = opS z := by simp only [wS, hin, hok, if_true, Bool.false_eq_true, if_false]
    rw [e1, e2, if_pos (by simp), if_pos (by simp)]
    refine .inr ⟨rfl, by rw [opS_syn]; exact h.syn, by rw [opS_wr]; exact h.wr, h.hrc, by rw [opS_wr]; exact h.wp, by rw [opS_syn]; exact h.sp, by rw [opS_syn]; exact h.sq, ?_, fun _ => opS_off hok⟩
    rw [opS_wr]
    rcases h.wq with hq | ⟨ht, hr, hq⟩
    · exact .inl hq
    · exact .inr ⟨rfl, by rw [ht]; exact hr, by rw [ht]; exact hq⟩
  | true =>
    have htd : td = false := by
      cases td with
      | false => rfl
      | true => rw [off_not (h.off rfl)] at hok; cases hok
    subst htd
    have e1 : wE z (((cn + 1) % 2 : Nat) : Int) = 0 := by simp only [wE, hin, hok, if_true, Bool.false_eq_true, if_false]
    have e2 : wS z (((cn + 1) % 2 : Nat) : Int) (slotL (cn + 1) l) = wrS (opS z) ((cn + 1) % 2) (slotL (cn + 1) l) := by simp only [wS, hin, hok, if_true, Int.toNat_natCast]
    rw [e1, e2, if_neg (by simp), if_neg (by simp)]
    obtain ⟨z1, hz1⟩ : ∃ z1, wrS (opS z) ((cn + 1) % 2) (slotL (cn + 1) l) = z1 := ⟨_, rfl⟩
    have s1 : z1.syn = z.syn := by rw [← hz1]; exact opS_syn z
    have w1 : z1.wr = z.wr.set ((cn + 1) % 2) (some (slotL (cn + 1) l)) := by rw [← hz1]; show (opS z).wr.set _ _ = _; rw [opS_wr]
    have hq1 : z1.wr[(cn + 1) % 2]? = some (some (slotL (cn + 1) l)) := by rw [w1, List.getElem?_set_self (by rw [h.wr]; exact p2)]
    have hp1 : z1.wr[cn % 2]? = some none := by rw [w1, List.getElem?_set_ne (fun e => p3 e.symm)]; exact h.wp
    rw [hz1]
    cases hok1 : opOk z1 with
    | false =>
      have e3 : sE z1 = 2 := by simp [sE, hok1]
      have e4 : sS z1 = opS z1 := by simp [sS, hok1]
      rw [e3, e4]
      refine .inr ⟨rfl, by rw [opS_syn, s1]; exact h.syn, by rw [opS_wr, w1, List.length_set]; exact h.wr, h.hrc, by rw [opS_wr]; exact hp1, by rw [opS_syn, s1]; exact h.sp, by rw [opS_syn, s1]; exact h.sq, ?_, fun _ => opS_off hok1⟩
      rw [opS_wr]
      exact .inr ⟨rfl, hl, hq1⟩
    | true =>
      have e3 : sE z1 = 0 := by simp [sE, hok1]
      have e4 : sS z1 = syncS (opS z1) := by simp [sS, hok1]
      rw [e3, e4]
      have s2 : (syncS (opS z1)).syn = mgS z.syn z1.wr (fun _ => true) := by show mgS (opS z1).syn (opS z1).wr _ = _; rw [opS_syn, opS_wr, s1]
      have w2 : (syncS (opS z1)).wr = List.replicate z1.wr.length none := by show List.replicate (opS z1).wr.length none = _; rw [opS_wr]
      have wl : z1.wr.length = 2 := by rw [w1, List.length_set]; exact h.wr
      have ml : (mgS z.syn z1.wr (fun _ => true)).length = 2 := by rw [mgS_length]; exact h.syn
      refine .inl ⟨rfl, rfl, by rw [s2]; exact ml, by rw [w2, List.length_replicate]; exact wl, hl, ?_, ?_, ?_, .inl ?_, fun h => by cases h⟩
      · rw [w2, wl, List.getElem?_replicate, if_pos p2]
      · rw [s2, List.getElem?_eq_getElem (by omega), mgS_at (by omega), if_pos rfl, hq1]; rfl
      · rw [p4]
        refine ⟨slotB cn rc, .inr ⟨rc, h.hrc, by omega, rfl⟩, ?_⟩
        rw [s2, List.getElem?_eq_getElem (by omega), mgS_at (by omega), if_pos rfl, hp1, slotB_ints]
        have := h.sp
        simp only [List.getD, this, Option.join_some, Option.getD_none, Option.getD_some]
      · rw [w2, wl, p4, List.getElem?_replicate, if_pos p1]
theorem sel_two {bb : Nat → List UInt8} {cn : Nat} {rc B : List UInt8} (hc : cn < 9223372036854775808) (hr : rc.length ≤ 31) (hB : OldB cn B) (hp : bb (cn % 2) = slotB cn rc) (hq : bb ((cn + 1) % 2) = B) : selK bb 2 = some (cn, rc) := by
  have hp1 := parse_slot (n := cn) (x := rc) hc hr
  show selStep 1 (parseS (bb 1)) (selStep 0 (parseS (bb 0)) none) = _
  have h2 : cn % 2 = 0 ∨ cn % 2 = 1 := by omega
  rcases h2 with h2 | h2
  · have h3 : (cn + 1) % 2 = 1 := by omega
    rw [h2] at hp
    rw [h3] at hq
    rw [hp, hq, hp1]
    rcases hB with rfl | ⟨x, hx, h1, rfl⟩
    · rw [parse_zero]; simp [selStep, h2]
    · rw [parse_slot (by omega) hx]
      have h4 : (cn - 1) % 2 = 1 := by omega
      have h5 : cn - 1 < cn := by omega
      simp [selStep, h2, h4, h5]
  · have h3 : (cn + 1) % 2 = 0 := by omega
    rw [h2] at hp
    rw [h3] at hq
    rw [hp, hq, hp1]
    rcases hB with rfl | ⟨x, hx, h1, rfl⟩
    · rw [parse_zero]; simp [selStep, h2]
    · rw [parse_slot (by omega) hx]
      have h4 : (cn - 1) % 2 = 0 := by omega
      have h5 : ¬ cn < cn - 1 := by omega
      simp [selStep, h2, h4, h5]
/-- What a crash leaves: the record, or the one that was being put. -/
theorem crash_plz {z : DkS} {cn : Nat} {rc : List UInt8} {td : Bool} {tr : List UInt8} (h : PlZ z cn rc td tr) (hc : cn < 1000) (keep : List Bool) :
    ∃ (bb : Nat → List UInt8) (c : Nat) (x : List UInt8), (∀ k, k < 2 → (bb k).length = 64 ∧ readS (crashS z keep) k = intsB (bb k)) ∧ selK bb 2 = some (c, x) ∧ c ≤ cn + 1 ∧ PlZ (crashS z keep) c x false tr ∧ (x = rc ∨ (td = true ∧ x = tr)) := by
  obtain ⟨p1, p2, p3, p4⟩ := par2 cn
  obtain ⟨p, hp⟩ : ∃ p, keepP (dirtyL z.wr) keep (dirtyL z.wr).length = p := ⟨_, rfl⟩
  have s2 : (crashS z keep).syn = mgS z.syn z.wr p := by rw [← hp]; rfl
  have w2 : (crashS z keep).wr = List.replicate 2 none := by show List.replicate z.wr.length none = _; rw [h.wr]
  have ml : (mgS z.syn z.wr p).length = 2 := by rw [mgS_length]; exact h.syn
  have hr : ∀ k, k < 2 → readS (crashS z keep) k = (mgS z.syn z.wr p).getD k [] := fun k hk => by
    rw [readS, s2, w2, List.getElem?_replicate, if_pos hk]; rfl
  have hP : (mgS z.syn z.wr p)[cn % 2]? = some (slotL cn rc) := by
    rw [List.getElem?_eq_getElem (by omega), mgS_at (by omega), h.wp]
    have := h.sp
    simp only [List.getD, this, Option.join_some, Option.getD_none, Option.getD_some, ite_self]
  have two : ∀ k, k < 2 → k = cn % 2 ∨ k = (cn + 1) % 2 := fun k hk => by omega
  obtain ⟨B, hB, hsq⟩ := h.sq
  have hQ : (mgS z.syn z.wr p)[(cn + 1) % 2]? = some (intsB B) ∨ (td = true ∧ tr.length ≤ 31 ∧ (mgS z.syn z.wr p)[(cn + 1) % 2]? = some (slotL (cn + 1) tr)) := by
    rw [List.getElem?_eq_getElem (by omega), mgS_at (by omega)]
    rcases h.wq with hq | ⟨ht, hl, hq⟩
    · rw [hq]
      left
      simp only [List.getD, hsq, Option.join_some, Option.getD_none, Option.getD_some, ite_self]
    · rw [hq]
      by_cases hpq : p ((cn + 1) % 2) = true
      · exact .inr ⟨ht, hl, by rw [if_pos hpq]; rfl⟩
      · left
        rw [if_neg hpq]
        simp only [List.getD, hsq, Option.getD_some]
  rcases hQ with hQ | ⟨ht, hl, hQ⟩
  · refine ⟨fun k => if k = cn % 2 then slotB cn rc else B, cn, rc, fun k hk => ?_, sel_two (by omega) h.hrc hB (if_pos rfl) (if_neg fun e => p3 e.symm), by omega, ⟨by rw [s2]; exact ml, by rw [w2]; rfl, h.hrc, by rw [w2, List.getElem?_replicate, if_pos p1], by rw [s2]; exact hP, ⟨B, hB, by rw [s2]; exact hQ⟩, .inl (by rw [w2, List.getElem?_replicate, if_pos p2]), fun e => by cases e⟩, .inl rfl⟩
    rw [hr k hk]
    dsimp only
    rcases two k hk with rfl | rfl
    · rw [if_pos rfl]
      exact ⟨slotB_len _ _, by rw [List.getD, hP, Option.getD_some, slotB_ints]⟩
    · rw [if_neg (fun e => p3 e.symm)]
      exact ⟨oldB_len hB, by rw [List.getD, hQ, Option.getD_some]⟩
  · refine ⟨fun k => if k = cn % 2 then slotB cn rc else slotB (cn + 1) tr, cn + 1, tr, fun k hk => ?_, sel_two (B := slotB cn rc) (by omega) hl (.inr ⟨rc, h.hrc, by omega, rfl⟩) (if_neg fun e => p3 e.symm) (by rw [p4]; exact if_pos rfl), by omega, ⟨by rw [s2]; exact ml, by rw [w2]; rfl, hl, by rw [w2, List.getElem?_replicate, if_pos p2], by rw [s2]; exact hQ, ⟨slotB cn rc, .inr ⟨rc, h.hrc, by omega, rfl⟩, by rw [s2, p4, slotB_ints]; exact hP⟩, .inl (by rw [w2, p4, List.getElem?_replicate, if_pos p1]), fun e => by cases e⟩, .inr ⟨ht, rfl⟩⟩
    rw [hr k hk]
    dsimp only
    rcases two k hk with rfl | rfl
    · rw [if_pos rfl]
      exact ⟨slotB_len _ _, by rw [List.getD, hP, Option.getD_some, slotB_ints]⟩
    · rw [if_neg (fun e => p3 e.symm)]
      exact ⟨slotB_len _ _, by rw [List.getD, hQ, Option.getD_some, slotB_ints]⟩
end Go.Proofs.YthkjlgjbjjjohaaGreatDoor
