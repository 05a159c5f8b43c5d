/-
  ProofsPayloads, walked.
-/
import Derived.Test.YtlokjbjpmhfkhaaDoorPf5
import Derived.Test.YtlokjbjpmhfkhaaDoorArgL
namespace Go.Proofs.YtlokjbjpmhfkhaaDoor
open Go.RowKit

theorem any_not {ps : List (List UInt8)} {k : Nat} {y : List UInt8} (h : ∀ j, j < k → ps.getD j [] ≠ y) (hk : k ≤ ps.length) : ((ps.take k).any fun z => decide (z = y)) = false := by
  rw [List.any_eq_false]
  intro z hz
  obtain ⟨j, hj, rfl⟩ := List.getElem_of_mem hz
  rw [List.length_take] at hj
  have := h j (by omega)
  rw [List.getD, List.getElem?_eq_getElem (by omega), Option.getD_some] at this
  simpa [List.getElem_take] using this
theorem any_yes {ps : List (List UInt8)} {k j : Nat} {y : List UInt8} (hj : j < k) (hk : k ≤ ps.length) (h : ps.getD j [] = y) : ((ps.take k).any fun z => decide (z = y)) = true := by
  rw [List.any_eq_true]
  refine ⟨y, ?_, decide_eq_true rfl⟩
  rw [← h, List.getD, List.getElem?_eq_getElem (by omega), Option.getD_some]
  have : (ps.take k)[j]'(by rw [List.length_take]; omega) = ps[j] := List.getElem_take
  rw [← this]
  exact List.getElem_mem _
set_option maxRecDepth 100000 in
set_option maxHeartbeats 2000000 in
theorem rpayload_is (w : World) (A1 : Option Addr) (n1 c1 : Nat) (ps : List (List UInt8)) (hn : ps.length = n1) (hc : n1 ≤ c1) (hP : LsAt w A1 ps) :
    Calls Tryd.prog 7 #[.slice A1 n1 c1] w fun e' w' => e' = .returned (.int .i64 ((payN ps : Nat) : Int)) ∧ w.grownBy w' none := by
  have HX := Lib.hid (And.intro hn (And.intro hc hP))
  clear hn hc hP
  go_enter Tryd.func7, Tryd.ntmps7
  by_cases h4 : 4 < n1
  · have d1 : decide ((4 : Int) < (n1 : Int)) = true := by simp; omega
    have HN := Lib.hid (show payN ps = 4 from payN_long (by rw [HX.out.1]; exact h4))
    clear h4
    go_wp2_with fail
    go_ret
    exact ⟨by rw [HN.out]; rfl, World.grownBy.refl w none⟩
  have d1 : decide ((4 : Int) < (n1 : Int)) = false := by simp; omega
  have hn4 : n1 ≤ 4 := by omega
  clear h4
  go_wp2_with fail
  go_loopw [12] (fun i wr => ∃ k : Nat, k ≤ n1 ∧ i = .int .i64 (k : Int) ∧ Hid (∀ j, j < k → badK ps j = false) ∧ w.grownBy wr none) (fun i _ => n1 - (intOf i).toNat)
  case atStart => exact ⟨0, by omega, rfl, Lib.hid (fun j h => absurd h (by omega)), World.grownBy.refl w none⟩
  case round =>
    obtain ⟨k, hk, hi, hno, hK⟩ := hrel
    subst hi
    rename World => wr
    have HK := Lib.hid hK
    by_cases hlt : k < n1
    · have e1 : decide ((k : Int) < (n1 : Int)) = true := by simp; omega
      have hkp : k < ps.length := by rw [HX.out.1]; exact hlt
      obtain ⟨b, off, hA, hcell⟩ := (HX.out.2.2.grown hK) (by rintro rfl; simp at hkp)
      subst hA
      obtain ⟨By, cy, hcy, hby⟩ := hcell k hkp
      obtain ⟨y, hy⟩ : ∃ y, ps[k] = y := ⟨_, rfl⟩
      have hgd : ps.getD k [] = y := by rw [List.getD, List.getElem?_eq_getElem hkp, Option.getD_some, hy]
      rw [hy] at hcy hby
      have hb1 : 0 ≤ (k : Int) ∧ (k : Int) + 1 ≤ 5 := by omega
      have HB := Lib.hid (And.intro hby (And.intro hgd (And.intro hK (And.intro hkp hcell))))
      have hkc : (k : Int) ≤ (c1 : Int) ∧ (k : Int) ≤ (n1 : Int) := by have := HX.out.2.1; omega
      clear hby hgd hK hcell hy
      by_cases y0 : y.length = 0
      · have d2 : ((y.length : Int) == 0) = true := by simp [y0]
        have HN := Lib.hid (show payN ps = 4 from payN_bad HB.out.2.2.2.1 (bad_empty (by rw [HB.out.2.1]; exact y0)))
        clear y0
        go_wp2_with fail
        go_ret
        exact ⟨by rw [HN.out]; rfl, HB.out.2.2.1⟩
      · by_cases y16 : 16 < y.length
        · have d2 : ((y.length : Int) == 0) = false := by rw [beq_eq_false_iff_ne]; omega
          have d2b : ¬ (y.length : Int) = 0 := by omega
          have d3 : decide ((16 : Int) < (y.length : Int)) = true := by simp; omega
          have HN := Lib.hid (show payN ps = 4 from payN_bad HB.out.2.2.2.1 (bad_long (by rw [HB.out.2.1]; exact y16)))
          clear y16
          go_wp2_with fail
          go_ret
          exact ⟨by rw [HN.out]; rfl, HB.out.2.2.1⟩
        · have d2 : ((y.length : Int) == 0) = false := by rw [beq_eq_false_iff_ne]; omega
          have d2b : ¬ (y.length : Int) = 0 := by omega
          have d3 : decide ((16 : Int) < (y.length : Int)) = false := by simp; omega
          have HY := Lib.hid (And.intro y0 y16)
          have cvy := str_any (c := cy) HB.out.1 rfl
          clear y16
          go_wp2_with fail
          go_loopw [29] (fun i wr2 => ∃ j : Nat, j ≤ k ∧ i = .int .i64 (j : Int) ∧ Hid (∀ i, i < j → ps.getD i [] ≠ y) ∧ wr2 = wr) (fun i _ => k - (intOf i).toNat)
          case atStart => exact ⟨0, by omega, rfl, Lib.hid (fun j h => absurd h (by omega)), rfl⟩
          case round =>
            obtain ⟨j, hj, hi2, hnj, hw⟩ := hrel
            subst hi2
            obtain rfl := hw
            by_cases hlt2 : j < k
            · have e2 : decide ((j : Int) < (k : Int)) = true := by simp; omega
              have hjp : j < ps.length := by omega
              obtain ⟨Bz, cz, hcz, hbz⟩ := HB.out.2.2.2.2 j hjp
              obtain ⟨z, hz⟩ : ∃ z, ps[j] = z := ⟨_, rfl⟩
              have hgz : ps.getD j [] = z := by rw [List.getD, List.getElem?_eq_getElem hjp, Option.getD_some, hz]
              rw [hz] at hcz hbz
              have hb2 : 0 ≤ (j : Int) ∧ (j : Int) + 1 ≤ 5 := by omega
              have cvz := str_any (c := cz) hbz rfl
              have HZ := Lib.hid (And.intro hgz hz)
              clear hgz hz hbz
              by_cases hyz : z = y
              · have HN := Lib.hid (show payN ps = 4 from payN_bad HB.out.2.2.2.1 (bad_twice (by rw [HB.out.2.1]; exact any_yes hlt2 (Nat.le_of_lt HB.out.2.2.2.1) (HZ.out.1.trans hyz))))
                subst hyz
                go_wp2_with fail
                go_ret
                exact ⟨by rw [HN.out]; rfl, HB.out.2.2.1⟩
              · have hne : (z == y) = false := by rw [beq_eq_false_iff_ne]; exact hyz
                have HNE := Lib.hid hyz
                clear hyz
                go_wp2_with fail
                refine ⟨⟨j + 1, by omega, by go_num, Lib.hid (fun i hi => ?_), trivial⟩, by simp [intOf]; omega⟩
                by_cases hij : i < j
                · exact hnj.out i hij
                · obtain rfl : i = j := by omega
                  rw [HZ.out.1]; exact HNE.out
            · have e2 : decide ((j : Int) < (k : Int)) = false := by simp; omega
              have HJ := Lib.hid (show ∀ i, i < k → ps.getD i [] ≠ y from fun i hi => hnj.out i (by omega))
              clear hnj
              go_wp2_with fail
              go_roundw
              case rel =>
                refine ⟨k + 1, by omega, by go_num, Lib.hid (fun i hi => ?_), HB.out.2.2.1⟩
                by_cases hik : i < k
                · exact hno.out i hik
                · obtain rfl : i = k := by omega
                  exact bad_not (by rw [HB.out.2.1]; exact HY.out.1) (by rw [HB.out.2.1]; exact HY.out.2) (by rw [HB.out.2.1]; exact any_not HJ.out (Nat.le_of_lt HB.out.2.2.2.1))
              case measure => simp [intOf]; omega
    · have e1 : decide ((k : Int) < (n1 : Int)) = false := by simp; omega
      have HN := Lib.hid (show payN ps = 0 from payN_ok (by rw [HX.out.1]; exact hn4) (fun j hj => hno.out j (by have := HX.out.1; omega)))
      clear hK hno
      go_wp2_with fail
      go_ret
      exact ⟨by rw [HN.out]; rfl, HK.out⟩
theorem lsAt_of {w : World} {A : Option Addr} {ps : List (List UInt8)} (h : ListsAt w A ps) : LsAt w A ps := fun hne => by
  obtain ⟨ad, e, hc⟩ := h hne
  obtain ⟨_, _, h1, _⟩ := hc 0 (List.length_pos_iff.2 hne)
  obtain ⟨b, off, rfl⟩ := addr_form h1 rfl
  refine ⟨b, off, e, fun j hj => ?_⟩
  obtain ⟨B, c, h1, _, h3⟩ := hc j hj
  rw [Go.WideShapes.add_plain] at h1
  exact ⟨B, c, h1, h3⟩
theorem gr_build1 (w : World) (A : Option Addr) (n c : Nat) : Sem.run Tryd.prog (Instr.build 34 #[(1, .slice A n c)]) w = .ok (.agg (grC 0 (.slice A n c) z16v)) w := by
  refine run_build w 34 _ _ ?_
  kernel_rfl
theorem payN_cases (ps : List (List UInt8)) : payN ps = 4 ∨ payN ps = 0 := by unfold payN; split <;> simp
theorem ErrEnv.moreY {w : World} {B B' : Nat} {E : Nat → Addr} (h : ErrEnv w B E) (hB : B ≤ B') : ErrEnv w B' E := ⟨fun i hi => ⟨(h.var i hi).1, Nat.lt_of_lt_of_le (h.var i hi).2 hB⟩, fun i hi => ⟨Nat.lt_of_lt_of_le (h.row i hi).1 hB, (h.row i hi).2⟩, h.inj⟩
set_option maxRecDepth 100000 in
set_option maxHeartbeats 2000000 in
theorem payloads_any (w : World) (E : Nat → Addr) (he : ErrEnv w w.heap.size E) (A : Option Addr) (c : Nat) (V : List Vd) (hc : V.length ≤ c) (hV : VdsAt w A V) (ok : keysOk V) (A1 : Option Addr) (n1 c1 : Nat) (ps : List (List UInt8)) (hn : ps.length = n1) (hc1 : n1 ≤ c1) (hP : ListsAt w A1 ps) :
    Calls Tryd.prog 3 #[.slice A V.length c, .slice A1 n1 c1] w fun e w' => e = .returned (.bool true) ∧ w.grownBy w' none := by
  have HAL := Lib.hid (alive_is w w.heap.size E he)
  have HX := Lib.hid (And.intro he (And.intro hV (And.intro ok (And.intro hc (And.intro hn (And.intro hc1 (lsAt_of hP)))))))
  clear he hV ok hc hn hc1 hP
  go_enter Tryd.func3, Tryd.ntmps3
  go_wp2_with fail
  refine HAL.out.mono ?_
  clear HAL
  rintro e w2 ⟨rfl, g2⟩
  have H2 := Lib.hid g2
  clear g2
  by_cases h20 : 20 < V.length
  · have d1 : decide ((20 : Int) < (V.length : Int)) = true := by simp; omega
    go_wp2_with fail
    go_ret
    exact ⟨rfl, H2.out⟩
  have d1 : decide ((20 : Int) < (V.length : Int)) = false := by simp; omega
  by_cases h20b : 20 < n1
  · have d2 : decide ((20 : Int) < (n1 : Int)) = true := by simp; omega
    go_wp2_with fail
    go_ret
    exact ⟨rfl, H2.out⟩
  have d2 : decide ((20 : Int) < (n1 : Int)) = false := by simp; omega
  have HL := Lib.hid (show V.length < 1000 by omega)
  have hn20 : n1 ≤ 20 := by omega
  clear h20 h20b
  go_wp2_with fail
  go_loopw [20] (fun i wr => ∃ k : Nat, k ≤ n1 ∧ i = .int .i64 (k : Int) ∧ wr = w2) (fun i _ => n1 - (intOf i).toNat)
  case atStart => exact ⟨0, by omega, rfl, rfl⟩
  case round =>
    obtain ⟨k, hk, hi, hw⟩ := hrel
    subst hi
    obtain rfl := hw
    by_cases hlt : k < n1
    · have e1 : decide ((k : Int) < (n1 : Int)) = true := by simp; omega
      have hkp : k < ps.length := by rw [HX.out.2.2.2.2.1]; exact hlt
      obtain ⟨b, off, hA, hcell⟩ := (HX.out.2.2.2.2.2.2.grown H2.out) (by rintro rfl; simp at hkp)
      subst hA
      obtain ⟨By, cy, hcy, hby⟩ := hcell k hkp
      clear hby
      obtain ⟨m, hm⟩ : ∃ m, ps[k].length = m := ⟨_, rfl⟩
      rw [hm] at hcy
      have hb1 : 0 ≤ (k : Int) ∧ (k : Int) + 1 ≤ 21 := by omega
      clear hcell hm hkp
      by_cases h200 : 200 < m
      · have d3 : decide ((200 : Int) < (m : Int)) = true := by simp; omega
        go_wp2_with fail
        go_ret
        exact ⟨rfl, H2.out⟩
      · have d3 : decide ((200 : Int) < (m : Int)) = false := by simp; omega
        clear h200
        go_wp2_with fail
        refine ⟨⟨k + 1, by omega, by go_num, trivial⟩, by simp [intOf]; omega⟩
    · have e1 : decide ((k : Int) < (n1 : Int)) = false := by simp; omega
      go_wp2_with fail
      refine (rpayload_is _ A1 n1 c1 ps HX.out.2.2.2.2.1 HX.out.2.2.2.2.2.1 (HX.out.2.2.2.2.2.2.grown H2.out)).mono ?_
      rintro e w3 ⟨rfl, g3⟩
      have H3 := Lib.hid (grown_trans H2.out g3)
      clear g3
      have hvd : ∀ Y : World, w.grownBy Y none → VdsAt Y A V := fun Y hY hne => by
        obtain ⟨b, off, eA, hc⟩ := HX.out.2.1 hne
        exact ⟨b, off, eA, fun k hk => range_kept (hc k hk) hY⟩
      have HVD := Lib.hid hvd
      have HBG := Lib.hid (fun W : World => gr_build1 W A V.length c)
      obtain ⟨gv, hgv⟩ : ∃ gv, grC 0 (.slice A V.length c) z16v = gv := ⟨_, rfl⟩
      rw [hgv] at HBG
      have HGV := Lib.hid hgv
      clear hvd hgv
      obtain ⟨N, hN⟩ : ∃ N : Int, ((payN ps : Nat) : Int) = N := ⟨_, rfl⟩
      rw [hN]
      have HN := Lib.hid hN
      clear hN
      go_wp2_with fail
      refine (rright_is w3 A c V (HVD.out _ H3.out) HX.out.2.2.1 HL.out HX.out.2.2.2.1).mono ?_
      rintro e w4 ⟨rfl, g4⟩
      have H4 := Lib.hid (grown_trans H3.out g4)
      clear g4
      obtain ⟨r, hr⟩ : ∃ r, rightS V = r := ⟨_, rfl⟩
      rw [hr]
      have HR := Lib.hid hr
      clear hr
      have HPY := Lib.hid (payload_is w4 w.heap.size E (HX.out.1.grown H4.out (fun _ e => by cases e)) 0 A c V (HVD.out _ H4.out) HX.out.2.2.1 HL.out z16v gv HGV.out.symm A1 n1 c1 ps HX.out.2.2.2.2.1 HX.out.2.2.2.2.2.1 (HX.out.2.2.2.2.2.2.grown H4.out))
      cases r with
      | false =>
        go_wp2_with (first
          | (refine wpList_build_at (by rfl) 34 #[(1, Operand.tmp 33)] rfl _ (by kernel_rfl) (.agg gv) (HBG.out _) ?_))
        refine HPY.out.mono ?_
        clear HPY
        rintro e w5 ⟨rfl, g5⟩
        rw [show evOf E (payG V ps) = errV (E 10) by rw [payG, if_pos HR.out]; rfl]
        have H5 := Lib.hid (grown_trans H4.out g5)
        clear g5
        go_wp2_with fail
        refine (num_err w5 w.heap.size E 10 (by omega) (HX.out.1.grown H5.out (fun _ e => by cases e))).mono ?_
        rintro e w6 ⟨rfl, g6⟩
        have H6 := Lib.hid (grown_trans H5.out g6)
        clear g6
        go_wp2_with fail
        go_ret
        exact ⟨rfl, H6.out⟩
      | true =>
        go_wp2_with (first
          | (refine wpList_build_at (by rfl) 34 #[(1, Operand.tmp 33)] rfl _ (by kernel_rfl) (.agg gv) (HBG.out _) ?_))
        refine HPY.out.mono ?_
        clear HPY
        rintro e w5 ⟨rfl, g5⟩
        have H5 := Lib.hid (grown_trans H4.out g5)
        clear g5
        rcases payN_cases ps with hp | hp
        · rw [show evOf E (payG V ps) = errV (E 3) by rw [payG, if_neg (by simp [HR.out]), hp]; rfl]
          obtain rfl : N = 4 := by have := HN.out; omega
          clear hp
          go_wp2_with fail
          refine (num_err w5 w.heap.size E 3 (by omega) (HX.out.1.grown H5.out (fun _ e => by cases e))).mono ?_
          rintro e w6 ⟨rfl, g6⟩
          have H6 := Lib.hid (grown_trans H5.out g6)
          clear g6
          go_wp2_with fail
          go_ret
          exact ⟨rfl, H6.out⟩
        · rw [show evOf E (payG V ps) = .nilIface by rw [payG, if_neg (by simp [HR.out]), hp]; rfl]
          obtain rfl : N = 0 := by have := HN.out; omega
          clear hp
          go_wp2_with fail
          refine (num_nil w5).mono ?_
          rintro e w6 ⟨rfl, rfl⟩
          go_wp2_with fail
          go_ret
          exact ⟨rfl, H5.out⟩
end Go.Proofs.YtlokjbjpmhfkhaaDoor
