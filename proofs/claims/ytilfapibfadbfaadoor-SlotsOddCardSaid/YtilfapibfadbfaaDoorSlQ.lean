/-
  SlotsOdd, walked.
-/
import Derived.Test.YtilfapibfadbfaaDoorSlP
import Derived.Test.YtilfapibfadbfaaDoorSlJ
namespace Go.Proofs.YtilfapibfadbfaaDoor
open Go.RowKit Go.Maps

attribute [local go_sem] Oper.semAt_some
def oddB (N : Nat) (l : List UInt8) (k : Nat) : List UInt8 := if k = (N + 1) % 2 then slotB N l else zeroB
theorem odd_sel {N : Nat} {l : List UInt8} (hN : N < 100) (hl : l.length ≤ 31) : selK (oddB N l) 2 = none := by
  show selStep 1 (parseS (oddB N l 1)) (selStep 0 (parseS (oddB N l 0)) none) = none
  rcases Nat.mod_two_eq_zero_or_one N with h | h
  · have e1 : (N + 1) % 2 = 1 := by omega
    simp [oddB, e1, parse_slot (show N < 9223372036854775808 by omega) hl, parse_zero, selStep, h]
  · have e1 : (N + 1) % 2 = 0 := by omega
    simp [oddB, e1, parse_slot (show N < 9223372036854775808 by omega) hl, parse_zero, selStep, h]
theorem odd_len (N : Nat) (l : List UInt8) (k : Nat) : (oddB N l k).length = 64 := by
  unfold oddB
  split
  · rw [← intsB_length, slotB_ints, slotL_len]
  · rfl
theorem odd_rows {N : Nat} {l : List UInt8} {k : Nat} (hk : k < 2) : readS (wrS (newS 2) ((N + 1) % 2) (slotL N l)) k = intsB (oddB N l k) := by
  have hP : (N + 1) % 2 < 2 := Nat.mod_lt _ (by omega)
  unfold oddB
  generalize (N + 1) % 2 = P at *
  by_cases h : k = P
  · subst h
    rw [if_pos rfl, slotB_ints]
    show ((((newS 2).wr.set k (some (slotL N l)))[k]?).join).getD _ = _
    rw [List.getElem?_set_self (by simp [newS]; omega)]; rfl
  · rw [if_neg h, ← new_rows (n := 2) hk]
    show ((((newS 2).wr.set P (some (slotL N l)))[k]?).join).getD ((newS 2).syn.getD k []) = _
    rw [List.getElem?_set_ne (fun e => h e.symm)]; rfl
set_option maxRecDepth 100000 in
set_option maxHeartbeats 1000000 in
theorem odd_any (w : World) (hR : Rounds w) (S0 : Int) (E : Nat → Addr) (hv : ErrVars [0, 1] w w.heap.size E) (ep ed ef : Addr) (hep : ErrAt w w.heap.size 6 ep) (hed : ErrAt w w.heap.size 1 ed) (hef : ErrAt w w.heap.size 7 ef) (A : Option Addr) (n c : Nat) (l : List UInt8) (hn : l.length = n) (hl : BytesAt w A l) :
    Calls Tryd.prog 8 #[.int .i64 S0, .slice A n c] w fun e w' => e = .returned (.bool true) ∧ w.grownBy w' none := by
  have her : ErrAt w w.heap.size 0 (E 0) := hv.var 0 (by simp)
  have he : ErrAt w w.heap.size 0 (E 0) ∧ ErrAt w w.heap.size 6 ep ∧ ErrAt w w.heap.size 1 ed ∧ ErrAt w w.heap.size 7 ef := ⟨her, hep, hed, hef⟩
  obtain ⟨N, hN, hN100⟩ := u_mod S0 100 (by omega)
  have HX := Lib.hid (And.intro hR (And.intro hv (And.intro he (And.intro hN (And.intro hn hl)))))
  clear hR hv he hN hn hl her hep hed hef
  refine (callsIn_wide (n := 10)).1 ?_
  refine callsIn_of_wp Tryd.func8 rfl trivial ?_ rfl
  simp only [Tryd.ntmps8, List.size_toArray, List.length_cons, List.length_nil, Nat.reduceAdd, Nat.reduceSub, Array.replicate_succ, Array.replicate_zero, List.push_toArray, List.append_toArray, List.nil_append, List.cons_append]
  gi_wp2
  refine ⟨trivial, ?_⟩
  refine (callsIn_wide.2 (alive_is w HX.out.1 E HX.out.2.1 ep ed ef HX.out.2.2.1.2.1 HX.out.2.2.1.2.2.1 HX.out.2.2.1.2.2.2)).mono ?_
  rintro e w1 ⟨rfl, k1⟩
  have K1 := Lib.hid k1
  clear k1
  by_cases h31 : 31 < n
  · have d1 : decide ((31 : Int) < (n : Int)) = true := by simp; omega
    gi_wp2
    go_ret
    exact ⟨rfl, K1.out⟩
  have d1 : decide ((31 : Int) < (n : Int)) = false := by simp; omega
  gi_wp2
  rw [HX.out.2.2.2.1]
  refine ⟨trivial, ?_⟩
  refine (callsIn_wide.2 (dsk_new w w1 (Kept.of_grown (F := fun j => w.heap.size ≤ j) K1.out (fun _ e => by cases e)) 2 (by omega) (E 0) HX.out.2.2.1.1)).mono ?_
  rintro e w2 ⟨k2, d, b, m, rfl, hd, _⟩
  have H2 := Lib.hid (And.intro hd (grown_trans K1.out k2))
  clear k2 hd
  obtain ⟨es, hes⟩ : ∃ es, ((slotL N l).map (Value.int .u8)).toArray = es := ⟨_, rfl⟩
  have hsec : secV (slotL N l) = .agg es := by rw [secV, hes]
  have hsl : ∀ V : World, w.grownBy V none → Calls Tryd.prog 10 #[.int .i64 (N : Int), .slice A n c] V fun e w' => e = .returned (.agg es) ∧ V.grownBy w' none := fun V hV => by
    have h := slot_is V (HX.out.1.grown hV (by simp)) (N : Int) (by omega) A n c l HX.out.2.2.2.2.1 (HX.out.2.2.2.2.2.grown hV (fun _ _ => by simp)) (by omega)
    rw [Int.toNat_natCast, hsec] at h
    exact h
  have HSL := Lib.hid hsl
  have HES := Lib.hid (And.intro hes hsec)
  clear hsl hes hsec
  gi_wp2
  refine ⟨trivial, ?_⟩
  refine (callsIn_wide.2 (HSL.out w2 H2.out.2)).mono ?_
  rintro e w3 ⟨rfl, g3⟩
  have H3 := Lib.hid (And.intro (grown_trans H2.out.2 g3) (H2.out.1.grown g3))
  clear g3
  have hN0 : 0 ≤ (N : Int) + 1 ∧ (N : Int) + 1 ≤ 100 := by omega
  gi_wp2
  obtain ⟨P, hP⟩ : ∃ P : Nat, (N + 1) % 2 = P := ⟨_, rfl⟩
  have hPi : ((N : Int) + 1) % 2 = (P : Int) := by omega
  have hP2 : P < 2 := by omega
  rw [hPi]
  refine ⟨trivial, ?_⟩
  refine (callsIn_wide.2 (dsk_write0 H3.out.2 HX.out.2.2.1.1 HX.out.2.2.1.2.1 (P : Int) (slotL N l) (slotL_len _ _) (wE_ok (by simp [newS]; omega) rfl (by simp [newS])) (wS_ok _ (by simp [newS]; omega) rfl rfl) es HES.out.1)).mono ?_
  rintro e w4 ⟨rfl, hd4, _⟩
  have H4 := Lib.hid hd4
  clear hd4
  gi_wp2
  have hop := open_is w w4 d b m (wrS (newS 2) P (slotL N l)) H4.out HX.out.1 E HX.out.2.1 ep ed HX.out.2.2.1.2.1 HX.out.2.2.1.2.2.1 0 (oddB N l) (fun _ _ k hk => ⟨odd_len N l k, by rw [show (0 : Int).toNat + k = k by simp, ← hP]; exact odd_rows hk⟩)
  have HOP := Lib.hid hop
  have hl31 : l.length ≤ 31 := by rw [HX.out.2.2.2.2.1]; omega
  have hsb : (slotB N l).length = 64 := by rw [← intsB_length, slotB_ints, slotL_len]
  have hrp : readR (slotB N l) ((N % 2 : Nat) : Int) = some (N, l) := by
    rw [read_parse hsb, parse_slot (by omega) hl31, Option.filter_some, if_pos (by simp)]
  have hrr : ∀ V : World, _ := fun V => rread_is V (slotB N l) hsb ((N % 2 : Nat) : Int)
  simp only [slotB_ints, HES.out.2] at hrr
  have HRR := Lib.hid (And.intro hrr (And.intro hrp (odd_sel (N := N) (by omega) hl31)))
  clear hop hrr hrp hsb hl31
  refine ⟨trivial, ?_⟩
  refine (callsIn_wide.2 HOP.out).mono ?_
  rintro e w5 ⟨g5, ⟨hbad, rfl⟩ | ⟨hok, ⟨hoff, _⟩ | ⟨_, ⟨_, rfl⟩ | ⟨c', x', hc, _⟩⟩⟩⟩
  · exact absurd ⟨by omega, by simp [wrS, newS]⟩ hbad
  · cases hoff
  · have H5 := Lib.hid (grown_trans H4.out.grownNone g5)
    clear g5 hok HOP
    gi_wp2
    refine ⟨trivial, ?_⟩
    refine (callsIn_wide.2 (HSL.out w5 H5.out)).mono ?_
    rintro e w6 ⟨rfl, g6⟩
    have H6 := Lib.hid (grown_trans H5.out g6)
    clear g6
    have hN00 : 0 ≤ (N : Int) := by omega
    gi_wp2
    refine ⟨trivial, ?_⟩
    refine (callsIn_wide.2 (HRR.out.1 w6)).mono ?_
    rintro e w7 ⟨g7, ⟨hno, _⟩ | ⟨cn, rc, hs, A2, cp, rfl, _, _⟩⟩
    · rw [HRR.out.2.1] at hno; cases hno
    · have H7 := Lib.hid (grown_trans H6.out g7)
      clear g7
      gi_wp2
      go_ret
      exact ⟨rfl, H7.out⟩
  · rw [HRR.out.2.2] at hc; cases hc
end Go.Proofs.YtilfapibfadbfaaDoor
