/-
  SlotsElder, walked.
-/
import Derived.Test.YtilfapibfadbfaaDoorSlK
import Derived.Test.YtilfapibfadbfaaDoorArgA
namespace Go.Proofs.YtilfapibfadbfaaDoor
open Go.RowKit Go.Maps

theorem read_wr {z : DkS} {i n : Nat} (r : List Int) (hw : z.wr.length = n) (hi : i < n) (j : Nat) : readS (wrS z i r) j = if j = i then r else readS z j := by
  have hwr : (wrS z i r).wr = z.wr.set i (some r) := rfl
  by_cases h : j = i
  · rw [if_pos h, readS, hwr, h, List.getElem?_set_self (by omega)]; rfl
  · rw [if_neg h, readS, hwr, List.getElem?_set_ne (fun e => h e.symm)]; rfl
theorem read_sync {z : DkS} {j : Nat} (hj : j < z.syn.length) : readS (syncS z) j = readS z j := by
  have hl : j < (syncS z).syn.length := by rw [show (syncS z).syn.length = z.syn.length from mgS_length _ _ _]; exact hj
  have e : (syncS z).wr[j]?.join = none := by
    show (List.replicate _ (none : Option (List Int)))[j]?.join = none
    rw [List.getElem?_replicate]; split <;> rfl
  rw [readS, e, Option.getD_none, List.getD, List.getElem?_eq_getElem hl, Option.getD_some]
  exact mgS_at hl
/-- The record behind k puts. -/
def recE (ps : List (List UInt8)) : Nat → List UInt8
  | 0 => []
  | k + 1 => ps.getD k []
def EldB (ps : List (List UInt8)) (k : Nat) (z : DkS) : Prop := Well z 2 ∧ readS z (k % 2) = slotL k (recE ps k) ∧ (0 < k → readS z ((k + 1) % 2) = slotL (k - 1) (recE ps (k - 1)))
theorem put_read {z : DkS} (h : Well z 2) (hw : z.wr.length = 2) (cn : Nat) (l : List UInt8) (j : Nat) (hj : j < 2) : readS (putZ z 0 cn l) j = if j = (cn + 1) % 2 then slotL (cn + 1) l else readS z j := by
  obtain ⟨h1, h2, h3⟩ := h
  obtain ⟨i, hi⟩ : ∃ i : Nat, (cn + 1) % 2 = i := ⟨_, rfl⟩
  have hi2 : i < z.syn.length := by omega
  have e0 : wE z (i : Int) = 0 := wE_ok hi2 h1 (by omega)
  have e1 : wS z (i : Int) (slotL (cn + 1) l) = wrS z i (slotL (cn + 1) l) := wS_ok _ hi2 h1 h2
  have e3 : sS (wrS z i (slotL (cn + 1) l)) = syncS (wrS z i (slotL (cn + 1) l)) := sS_ok h1 h2
  rw [putZ, hi, Int.zero_add, e0, e1, e3, if_neg (by simp), read_sync (z := wrS z i (slotL (cn + 1) l)) (show j < z.syn.length by omega), read_wr _ hw (by omega)]
theorem eld_start (ps : List (List UInt8)) : EldB ps 0 (fmtZ (newS 2) 0) ∧ fmtE (newS 2) 0 = 0 := ⟨⟨⟨by kernel_rfl, by kernel_rfl, by kernel_rfl⟩, by kernel_rfl, fun h => absurd h (Nat.lt_irrefl 0)⟩, by kernel_rfl⟩
theorem eld_put {ps : List (List UInt8)} {k : Nat} {z : DkS} (h : EldB ps k z) (hw : z.wr.length = 2) (hk : k < ps.length) : EldB ps (k + 1) (putZ z 0 k ps[k]) := by
  obtain ⟨h1, h2, _⟩ := h
  have er : recE ps (k + 1) = ps[k] := by simp [recE, List.getD, List.getElem?_eq_getElem hk]
  refine ⟨(well_put h1 k _).2, ?_, fun _ => ?_⟩
  · rw [put_read h1 hw k _ _ (by omega), if_pos rfl, er]
  · rw [put_read h1 hw k _ _ (by omega), if_neg (by omega), show (k + 1 + 1) % 2 = k % 2 by omega, h2, Nat.add_sub_cancel]
def elBB (n : Nat) (x : List UInt8) : Nat → List UInt8 := fun k => if k = n % 2 then zeroB else slotB (n - 1) x
theorem elBB_sel {n : Nat} {x : List UInt8} (h1 : 1 ≤ n) (hn : n ≤ 1000) (hx : x.length ≤ 31) : selK (elBB n x) 2 = some (n - 1, x) := by
  have hp := parse_slot (n := n - 1) (x := x) (by omega) hx
  show selStep 1 (parseS (elBB n x 1)) (selStep 0 (parseS (elBB n x 0)) none) = _
  have h2 : n % 2 = 0 ∨ n % 2 = 1 := by omega
  rcases h2 with h2 | h2
  · have e0 : elBB n x 0 = zeroB := by simp [elBB, h2]
    have e1 : elBB n x 1 = slotB (n - 1) x := by simp [elBB, h2]
    have h3 : (n - 1) % 2 = 1 := by omega
    rw [e0, e1, hp, parse_zero]
    simp [selStep, h3]
  · have e0 : elBB n x 0 = slotB (n - 1) x := by simp [elBB, h2]
    have e1 : elBB n x 1 = zeroB := by simp [elBB, h2]
    have h3 : (n - 1) % 2 = 0 := by omega
    rw [e0, e1, hp, parse_zero]
    simp [selStep, h3]
set_option maxRecDepth 100000 in
set_option maxHeartbeats 2000000 in
theorem elder_any (w : World) (hR : Rounds w) (A : Option Addr) (n c : Nat) (ps : List (List UInt8)) (both : Bool) (hn : ps.length = n) (hl : ListsAt w A ps) (E : Nat → Addr) (hv : ErrVars [0, 1] w w.heap.size E) (ep ed ef : Addr) (hep : ErrAt w w.heap.size 6 ep) (hed : ErrAt w w.heap.size 1 ed) (hef : ErrAt w w.heap.size 7 ef) :
    Calls Tryd.prog 7 #[.slice A n c, .bool both] w fun e w' => e = .returned (.bool true) ∧ w.grownBy w' none := by
  have her : ErrAt w w.heap.size 0 (E 0) := hv.var 0 (by simp)
  obtain ⟨zs, hzs⟩ : ∃ zs : Array Value, zs = (zeroR.map (Value.int .u8)).toArray := ⟨_, rfl⟩
  have hz : ∀ w, Sem.run Tryd.prog (zeroValue 23) w = .ok (.agg zs) w := fun w => by rw [hzs]; exact zero_sec w (by kernel_rfl)
  have hzv : (zeroR.map (Value.int .u8)).toArray = zs := hzs.symm
  have HX := Lib.hid (And.intro hR (And.intro hv (And.intro her (And.intro hep (And.intro hed (And.intro hef (And.intro hn (And.intro hl hzv))))))))
  clear hR hv her hep hed hef hn hl hzs hzv
  refine (callsIn_wide (n := 10)).1 ?_
  refine callsIn_of_wp Tryd.func7 rfl trivial ?_ rfl
  simp only [Tryd.ntmps7, List.size_toArray, List.length_cons, List.length_nil, Nat.reduceAdd, Nat.reduceSub, Array.replicate_succ, Array.replicate_zero, List.push_toArray, List.append_toArray, List.nil_append, List.cons_append]
  gi_wp2
  refine ⟨trivial, ?_⟩
  refine (callsIn_wide.2 (alive_is w HX.out.1 E HX.out.2.1 ep ed ef HX.out.2.2.2.1 HX.out.2.2.2.2.1 HX.out.2.2.2.2.2.1)).mono ?_
  rintro e w1 ⟨rfl, k1⟩
  have K1 := Lib.hid k1
  clear k1
  by_cases h1 : n < 1
  · have d1 : decide ((n : Int) < 1) = true := by simp; omega
    gi_wp2
    go_ret
    exact ⟨rfl, K1.out⟩
  have d1 : decide ((n : Int) < 1) = false := by simp; omega
  by_cases h20 : 20 < n
  · have d2 : decide ((20 : Int) < (n : Int)) = true := by simp; omega
    gi_wp2
    go_ret
    exact ⟨rfl, K1.out⟩
  have d2 : decide ((20 : Int) < (n : Int)) = false := by simp; omega
  have hn20 : 1 ≤ n ∧ n ≤ 20 := by omega
  gi_wp2
  refine ⟨trivial, ?_⟩
  refine (callsIn_wide.2 (dsk_new w w1 (Kept.of_grown (F := fun j => w.heap.size ≤ j) K1.out (fun _ e => by cases e)) 2 (by omega) (E 0) HX.out.2.2.1)).mono ?_
  rintro e w2 ⟨k2, d, b, m, rfl, hd, _⟩
  have H2 := Lib.hid hd
  clear k2 hd
  gi_wp2
  refine ⟨trivial, ?_⟩
  refine (callsIn_wide.2 (format_is w w2 d b m (newS 2) H2.out HX.out.1 (E 0) ep HX.out.2.2.1 HX.out.2.2.2.1 0)).mono ?_
  rintro e w3 (⟨hbad, _⟩ | ⟨_, hd, ⟨hne, _⟩ | ⟨_, s, rfl, hsl, hs⟩⟩)
  · exact absurd ⟨by omega, by simp [newS]⟩ hbad
  · exact absurd (eld_start ps).2 hne
  have H3 := Lib.hid (And.intro hd (And.intro hsl hs))
  clear hd hsl hs
  gi_wp2
  gi_loopw [37, 8] (fun i ls wr => ∃ k : Nat, k ≤ n ∧ i = .int .i64 (k : Int) ∧ ls = .string ⟨(recE ps (k - 1)).toArray⟩ ∧ (∀ j, j < k → (ps.getD j []).length ≤ 31) ∧ ∃ z', Dsk w wr d b m z' ∧ EldB ps k z' ∧ SlAt wr s d b m 0 k (recE ps k)) (fun i _ _ => n - (intOf i).toNat)
  case atStart => exact ⟨0, by omega, rfl, rfl, fun j h => absurd h (Nat.not_lt_zero j), _, H3.out.1, (eld_start ps).1, H3.out.2.1⟩
  case round =>
    obtain ⟨k, hk, rfl, rfl, hle, z', hd, hel, hsl⟩ := hrel
    rename World => wx
    have hrl : (recE ps k).length ≤ 1000000 := by
      cases k with
      | zero => simp [recE]
      | succ k => have := hle k (by omega); simp only [recE]; omega
    have HD := Lib.hid (And.intro hd (And.intro hel (And.intro hsl (And.intro hle hrl))))
    clear hd hel hsl hle hrl
    obtain ⟨lv, hlv⟩ : ∃ lv : ByteArray, (⟨(recE ps (k - 1)).toArray⟩ : ByteArray) = lv := ⟨_, rfl⟩
    rw [hlv]
    have HLV := Lib.hid hlv
    clear hlv
    by_cases hlt : k < n
    · have d3 : decide ((k : Int) < (n : Int)) = true := by simp; omega
      have hkl : k < ps.length := by rw [HX.out.2.2.2.2.2.2.1]; exact hlt
      obtain ⟨adA, hAe, hLs⟩ := HX.out.2.2.2.2.2.2.2.1 (by rintro rfl; simp at hkl)
      obtain ⟨bA, oA, rfl⟩ : ∃ bA oA, adA = ⟨bA, oA, none⟩ := by
        obtain ⟨B0, c0, hc0, _⟩ := hLs 0 (by omega)
        exact addr_form hc0 rfl
      subst hAe
      obtain ⟨Bx, cx, hcell, hcx, hbx⟩ := hLs k hkl
      rw [add_none] at hcell
      have hbA : bA < w.heap.size := World.block_lt_of_cell? w _ hcell
      have xc := HD.out.1.2.1.cell hcell (show ¬ (w.heap.size ≤ bA) by omega)
      have hbxb : ∀ ad, Bx = some ad → ps[k] ≠ [] → ad.block < w.heap.size := fun ad e hne => by
        obtain ⟨ad', e', hc⟩ := hbx hne
        rw [e] at e'
        injection e' with e'
        subst e'
        have := World.block_lt_of_cell? w _ (hc 0 (List.length_pos_iff.2 hne))
        rwa [block_add] at this
      obtain ⟨x, hx⟩ : ∃ x, ps[k] = x := ⟨_, rfl⟩
      rw [hx] at xc hbx hbxb
      obtain ⟨nx, hnx⟩ : ∃ nx, x.length = nx := ⟨_, rfl⟩
      rw [hnx] at xc
      have HB := Lib.hid (And.intro hx (And.intro hnx (And.intro hbx (And.intro hbxb hkl))))
      clear hcx hLs hcell hbA hbx hbxb hx hnx
      by_cases h31 : 31 < nx
      · have d4 : decide ((31 : Int) < (nx : Int)) = true := by simp; omega
        gi_wp2
        go_ret
        exact ⟨rfl, HD.out.1.grownNone⟩
      have d4 : decide ((31 : Int) < (nx : Int)) = false := by simp; omega
      gi_wp2
      refine ⟨trivial, ?_⟩
      refine (callsIn_wide.2 (record_is HD.out.2.2.1 HD.out.2.2.2.2)).mono ?_
      rintro e w4 ⟨A4, c4, rfl, hb4, g4⟩
      have ht := toString_any (n := (recE ps k).length) (c := c4) hb4 rfl
      have H4 := Lib.hid (And.intro (HD.out.1.grown g4) (HD.out.2.2.1.grown g4))
      obtain ⟨lv2, hlv2⟩ : ∃ lv2 : ByteArray, (⟨(recE ps k).toArray⟩ : ByteArray) = lv2 := ⟨_, rfl⟩
      rw [hlv2] at ht
      have HLV2 := Lib.hid hlv2
      clear hb4 g4 hlv2
      gi_wp2
      refine ⟨trivial, ?_⟩
      have hput := sput_is w w4 d b m s z' 0 k (recE ps k) H4.out.1 H4.out.2 HX.out.1 Bx nx cx x HB.out.2.1 (HB.out.2.2.1.low H4.out.1.2.1 (fun _ h => h)) (E 0) ep ef HX.out.2.2.1 HX.out.2.2.2.1 H3.out.2.2 (fun ad e hne => by
        have := HB.out.2.2.2.1 ad e hne
        have h1 := HD.out.1.2.2
        have h2 := H3.out.2.2
        omega) HX.out.2.2.2.2.2.1 (by omega) (by omega)
      refine (callsIn_wide.2 hput).mono ?_
      clear hput ht
      rintro e w6 (⟨h, _⟩ | ⟨_, h, _⟩ | ⟨hl31, _, hd, ⟨hne, _⟩ | ⟨_, rfl, hsl⟩⟩)
      · have := HB.out.2.1; omega
      · omega
      · exact absurd (well_put HD.out.2.1.1 _ _).1 hne
      have hwl : z'.wr.length = 2 := by rw [HD.out.1.1.2.2.2.1]; exact HD.out.2.1.1.2.2
      have hel2 := eld_put HD.out.2.1 hwl HB.out.2.2.2.2
      rw [HB.out.1] at hel2
      have hre : recE ps (k + 1) = x := by simp [recE, List.getD, List.getElem?_eq_getElem HB.out.2.2.2.2, HB.out.1]
      have H6 := Lib.hid (And.intro hd (And.intro hsl (And.intro hel2 (And.intro hre hl31))))
      clear hd hsl hwl hel2 hre hl31
      gi_wp2
      refine ⟨trivial, ?_⟩
      refine (callsIn_wide.2 (count_is H6.out.2.1)).mono ?_
      rintro e w7 ⟨rfl, hw7⟩
      obtain rfl : w6 = w7 := hw7.symm
      rw [show ((k + 1 : Nat) : Int) = (k : Int) + 1 by omega]
      gi_wp2
      go_roundw
      case rel =>
        refine ⟨k + 1, by omega, by simp, by rw [Nat.add_sub_cancel, HLV2.out], fun j hj => ?_, _, H6.out.1, H6.out.2.2.1, by rw [H6.out.2.2.2.1]; exact H6.out.2.1⟩
        by_cases e : j = k
        · subst e
          simp only [List.getD, List.getElem?_eq_getElem HB.out.2.2.2.2, Option.getD_some]
          rw [HB.out.1]
          exact H6.out.2.2.2.2
        · exact HD.out.2.2.2.1 j (by omega)
      case measure => simp [intOf]; omega
    · have d3 : decide ((k : Int) < (n : Int)) = false := by simp; omega
      obtain rfl : k = n := by omega
      clear hlt
      obtain ⟨p, hp⟩ : ∃ p : Nat, k % 2 = p := ⟨_, rfl⟩
      have hwl : z'.wr.length = 2 := by rw [HD.out.1.1.2.2.2.1]; exact HD.out.2.1.1.2.2
      have hp2 : p < z'.syn.length := by rw [HD.out.2.1.1.2.2]; omega
      have e0 : wE z' (p : Int) = 0 := wE_ok hp2 HD.out.2.1.1.1 (by rw [HD.out.2.1.1.2.1]; omega)
      have e1 : wS z' (p : Int) zeroR = wrS z' p zeroR := wS_ok _ hp2 HD.out.2.1.1.1 HD.out.2.1.1.2.1
      have hrl31 : (recE ps (k - 1)).length ≤ 31 := by
        obtain ⟨k', rfl⟩ : ∃ k', k = k' + 1 := ⟨k - 1, by omega⟩
        rw [Nat.add_sub_cancel]
        cases k' with
        | zero => simp [recE]
        | succ k' => simp only [recE]; exact HD.out.2.2.2.1 k' (by omega)
      have HW := Lib.hid (And.intro e0 (And.intro e1 (And.intro hwl (And.intro hp hrl31))))
      clear e0 e1 hwl hp2 hrl31
      gi_wp2
      refine ⟨trivial, ?_⟩
      refine (callsIn_wide.2 (count_is HD.out.2.2.1)).mono ?_
      rintro e w4 ⟨rfl, hw4⟩
      obtain rfl : wx = w4 := hw4.symm
      gi_wp2
      rw [show (k : Int) % 2 = (p : Int) by omega]
      refine ⟨trivial, ?_⟩
      refine (callsIn_wide.2 (dsk_write0 HD.out.1 HX.out.2.2.1 HX.out.2.2.2.1 (p : Int) zeroR (by simp [zeroR]) HW.out.1 HW.out.2.1 zs HX.out.2.2.2.2.2.2.2.2)).mono ?_
      rintro e w5 ⟨rfl, hd5, ht5⟩
      have H5 := Lib.hid (And.intro hd5 (HD.out.2.2.1.turn ht5))
      clear hd5 ht5
      cases both with
      | false =>
        gi_wp2
        rename_i KK hKK
        refine ⟨trivial, hKK _ _ ?_⟩
        gi_wp2
        rename_i KK2 hKK2
        refine ⟨trivial, hKK2 _ _ ?_⟩
        gi_wp2
        have hop := open_is w w5 d b m _ H5.out.1 HX.out.1 E HX.out.2.1 ep ed HX.out.2.2.2.1 HX.out.2.2.2.2.1 0 (elBB k (recE ps (k - 1))) (fun _ _ j hj => by
          rw [show (0 : Int).toNat + j = j by simp, read_wr _ HW.out.2.2.1 (by have := HW.out.2.2.2.1; omega)]
          by_cases e : j = k % 2
          · rw [if_pos (by rw [e]; exact HW.out.2.2.2.1)]
            have e2 : elBB k (recE ps (k - 1)) j = zeroB := by simp [elBB, e]
            rw [e2]
            exact ⟨rfl, zeroB_ints.symm⟩
          · rw [if_neg (by rw [← HW.out.2.2.2.1]; exact e)]
            have e2 : elBB k (recE ps (k - 1)) j = slotB (k - 1) (recE ps (k - 1)) := by simp [elBB, e]
            have e3 : j = (k + 1) % 2 := by omega
            rw [e2, slotB_ints, e3]
            exact ⟨slotB_len _ _, HD.out.2.1.2.2 (by omega)⟩)
        rw [show (wrS z' p zeroR).syn.length = 2 from HD.out.2.1.1.2.2] at hop
        have HOP := Lib.hid hop
        have HSEL := Lib.hid (elBB_sel hn20.1 (by omega) HW.out.2.2.2.2)
        clear hop
        refine ⟨trivial, ?_⟩
        refine (callsIn_wide.2 HOP.out).mono ?_
        rintro e w6 ⟨g6, ⟨hbad, _⟩ | ⟨_, ⟨hoff, _⟩ | ⟨_, ⟨hnn, _⟩ | ⟨c', x', hc', s2, rfl, hsl2, _⟩⟩⟩⟩
        · omega
        · rw [show (wrS z' p zeroR).off = false from HD.out.2.1.1.1] at hoff; cases hoff
        · rw [HSEL.out] at hnn; cases hnn
        rw [HSEL.out] at hc'
        injection hc' with hc'
        injection hc' with hc1 hc2
        subst hc1 hc2
        have H6 := Lib.hid (And.intro (H5.out.1.grown g6) (And.intro (H5.out.2.grown g6) hsl2))
        clear g6 hsl2 HOP HSEL
        gi_wp2
        refine ⟨trivial, ?_⟩
        refine (callsIn_wide.2 (record_is H6.out.2.2 (by have := HW.out.2.2.2.2; omega))).mono ?_
        rintro e w7 ⟨A7, c7, rfl, hb7, g7⟩
        have ht7 := toString_any (n := (recE ps (k - 1)).length) (c := c7) hb7 rfl
        rw [HLV.out] at ht7
        have H7 := Lib.hid (And.intro (H6.out.1.grown g7) (And.intro (H6.out.2.1.grown g7) (H6.out.2.2.grown g7)))
        clear g7 hb7
        gi_wp2
        refine ⟨trivial, ?_⟩
        refine (callsIn_wide.2 (count_is H7.out.2.2)).mono ?_
        rintro e w8 ⟨rfl, hw8⟩
        obtain rfl : w7 = w8 := hw8.symm
        obtain ⟨J, hJ⟩ : ∃ J : Int, ((k - 1 : Nat) : Int) = J := ⟨_, rfl⟩
        rw [hJ]
        gi_wp2
        refine ⟨trivial, ?_⟩
        refine (callsIn_wide.2 (count_is H7.out.2.1)).mono ?_
        rintro e w9 ⟨rfl, hw9⟩
        obtain rfl : w7 = w9 := hw9.symm
        have hJ2 : (J == (k : Int) - 1) = true := by rw [beq_iff_eq]; omega
        have hJ3 : (J = (k : Int) - 1) = True := eq_true (by omega)
        gi_wp2
        go_ret
        exact ⟨by simp [hJ3], H7.out.1.grownNone⟩
      | true =>
        gi_wp2
        refine ⟨trivial, ?_⟩
        refine (callsIn_wide.2 (count_is H5.out.2)).mono ?_
        rintro e w6 ⟨rfl, hw6⟩
        obtain rfl : w5 = w6 := hw6.symm
        gi_wp2
        obtain ⟨p2, hp2⟩ : ∃ p2 : Nat, (k + 1) % 2 = p2 := ⟨_, rfl⟩
        rw [show ((k : Int) + 1) % 2 = (p2 : Int) by omega]
        have hp22 : p2 < (wrS z' p zeroR).syn.length := by rw [show (wrS z' p zeroR).syn.length = 2 from HD.out.2.1.1.2.2]; omega
        have e0 : wE (wrS z' p zeroR) (p2 : Int) = 0 := wE_ok hp22 HD.out.2.1.1.1 (by rw [show (wrS z' p zeroR).lasts = -1 from HD.out.2.1.1.2.1]; omega)
        have e1 : wS (wrS z' p zeroR) (p2 : Int) zeroR = wrS (wrS z' p zeroR) p2 zeroR := wS_ok _ hp22 HD.out.2.1.1.1 HD.out.2.1.1.2.1
        have HW2 := Lib.hid (And.intro e0 (And.intro e1 hp2))
        clear e0 e1 hp22 hp2
        refine ⟨trivial, ?_⟩
        refine (callsIn_wide.2 (dsk_write0 H5.out.1 HX.out.2.2.1 HX.out.2.2.2.1 (p2 : Int) zeroR (by simp [zeroR]) HW2.out.1 HW2.out.2.1 zs HX.out.2.2.2.2.2.2.2.2)).mono ?_
        rintro e w7 ⟨rfl, hd7, _⟩
        have H7 := Lib.hid hd7
        clear hd7
        gi_wp2
        have hop := open_is w w7 d b m _ H7.out HX.out.1 E HX.out.2.1 ep ed HX.out.2.2.2.1 HX.out.2.2.2.2.1 0 (fun _ => zeroB) (fun _ _ j hj => by
          rw [show (0 : Int).toNat + j = j by simp, read_wr (n := 2) _ (by show (z'.wr.set _ _).length = 2; rw [List.length_set]; exact HW.out.2.2.1) (by have := HW2.out.2.2; omega), read_wr _ HW.out.2.2.1 (by have := HW.out.2.2.2.1; omega)]
          refine ⟨rfl, ?_⟩
          have h1 := HW.out.2.2.2.1
          have h2 := HW2.out.2.2
          have : j = p2 ∨ j = p := by omega
          rw [zeroB_ints]
          rcases this with e | e
          · rw [if_pos e]
          · by_cases e2 : j = p2
            · rw [if_pos e2]
            · rw [if_neg e2, if_pos e])
        rw [show (wrS (wrS z' p zeroR) p2 zeroR).syn.length = 2 from HD.out.2.1.1.2.2] at hop
        have HOP := Lib.hid hop
        clear hop
        refine ⟨trivial, ?_⟩
        refine (callsIn_wide.2 HOP.out).mono ?_
        rintro e w8 ⟨g8, ⟨hbad, _⟩ | ⟨_, ⟨hoff, _⟩ | ⟨_, ⟨hnn, rfl⟩ | ⟨c', x', hc', _⟩⟩⟩⟩
        · omega
        · rw [show (wrS (wrS z' p zeroR) p2 zeroR).off = false from HD.out.2.1.1.1] at hoff; cases hoff
        · have H8 := Lib.hid (H7.out.grown g8)
          clear g8 hnn HOP
          gi_wp2
          go_ret
          exact ⟨rfl, H8.out.grownNone⟩
        · exact absurd hc' (by rw [sel_zero]; simp)
end Go.Proofs.YtilfapibfadbfaaDoor
