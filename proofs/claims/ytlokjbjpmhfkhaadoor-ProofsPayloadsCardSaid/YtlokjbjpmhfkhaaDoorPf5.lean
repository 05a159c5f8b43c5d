/-
  Proofs: what transactions a block may have.
-/
import Derived.Test.YtlokjbjpmhfkhaaDoorPf3
import Derived.Test.YtlokjbjpmhfkhaaDoorLs
import Derived.Test.YtlokjbjpmhfkhaaDoorPwR
namespace Go.Proofs.YtlokjbjpmhfkhaaDoor
open Go.RowKit

theorem firstI_nonneg (p : List UInt8 → Bool) : ∀ (k : Nat) (ys : List (List UInt8)), decide (0 ≤ firstI p k ys) = ys.any p
  | _, [] => by simp [firstI]
  | k, y :: ys => by
    rw [firstI, List.any_cons]
    by_cases h : p y = true
    · rw [if_pos h, h]; simp
    · have h' : p y = false := by simpa using h
      rw [if_neg h, h', firstI_nonneg p (k + 1) ys]; simp
theorem LsAt.take {w : World} {A : Option Addr} {xs : List (List UInt8)} (h : LsAt w A xs) (k : Nat) : LsAt w A (xs.take k) := fun hne => by
  obtain ⟨b, off, e, hc⟩ := h (by rintro rfl; simp at hne)
  exact ⟨b, off, e, fun j hj => by
    have hj2 : j < xs.length := by rw [List.length_take] at hj; omega
    obtain ⟨B, c, h1, h2⟩ := hc j hj2
    rw [List.getElem_take]
    exact ⟨B, c, h1, h2⟩⟩
theorem pay1_is (w : World) (B : Option Addr) (d : Nat) (x : List UInt8) (bx : Nat) (Bt : Option Addr) (c : Nat) (y : List UInt8) (hx : BytesAt w B x) (hc : w.cell? ⟨bx, 0, none⟩ = some (.slice Bt y.length c)) (hy : BytesAt w Bt y) :
    Calls Tryd.prog 17 #[.slice B x.length d, .pointer (some ⟨bx, 0, none⟩)] w fun e w' => e = .returned (.bool (decide (x = y))) ∧ w' = w := by
  go_enter Tryd.func17, Tryd.ntmps17
  go_wp2_with fail
  refine (bequal_is w B Bt d c x y hx hy).mono ?_
  rintro e w1 ⟨rfl, rfl⟩
  go_wp2_with fail
  go_ret
  exact ⟨rfl, rfl⟩
theorem enter_pay1 (args : Array Value) (w : World) : (callFunc 17 args).run Tryd.prog w = .ok (.enter 17 args) w := by kernel_rfl
theorem pcontains_is (w0 : World) (A : Option Addr) (n c : Nat) (ys : List (List UInt8)) (hn : ys.length = n) (hnb : n ≤ 1000000) (hy : LsAt w0 A ys) (bx : Nat) (B : Option Addr) (d : Nat) (x : List UInt8) (hb : w0.cell? ⟨bx, 0, none⟩ = some (.slice B x.length d)) (hx : BytesAt w0 B x) :
    Calls Tryd.prog 19 #[.slice A n c, .func (.func 17) #[] #[.pointer (some ⟨bx, 0, none⟩)]] w0 fun e w' => e = .returned (.bool (ys.any fun y => decide (y = x))) ∧ w0.grownBy w' none := by
  have H := Lib.hid (And.intro hn (And.intro hy (And.intro hb hx)))
  clear hn hy hb hx
  go_enter Tryd.func19, Tryd.ntmps19
  go_wp2_with fail
  refine (lsindex_is w0 A n c ys H.out.1 hnb H.out.2.1 _ _ (fun y => decide (y = x)) enter_pay1 (fun w1 B1 d1 x1 k1 hx1 => (pay1_is w1 B1 d1 x1 bx B d x hx1 (k1.cell H.out.2.2.1 (by simp)) (H.out.2.2.2.grown k1 (by simp))).mono (fun e w2 ⟨h1, h2⟩ => ⟨h1, by rw [h2]; exact World.grownBy.refl _ _⟩))).mono ?_
  rintro e w1 ⟨rfl, k1⟩
  have hf := firstI_nonneg (fun y => decide (y = x)) 0 ys
  obtain ⟨r, hr⟩ : ∃ r, r = ys.any fun y => decide (y = x) := ⟨_, rfl⟩
  rw [← hr] at hf
  have Hr := Lib.hid hr
  clear hr
  generalize firstI (fun y => decide (y = x)) 0 ys = I at *
  go_wp2_with fail
  go_ret
  exact ⟨by rw [← Hr.out]; rfl, k1⟩
/-- Is the k-th transaction wrong? -/
def badK (ps : List (List UInt8)) (k : Nat) : Bool := decide ((ps.getD k []).length = 0) || (decide (16 < (ps.getD k []).length) || (ps.take k).any fun y => decide (y = ps.getD k []))
def payN (ps : List (List UInt8)) : Nat := if 4 < ps.length ∨ ∃ k, k < ps.length ∧ badK ps k = true then 4 else 0
theorem payN_bad {ps : List (List UInt8)} {k : Nat} (hk : k < ps.length) (h : badK ps k = true) : payN ps = 4 := by rw [payN, if_pos (.inr ⟨k, hk, h⟩)]
theorem payN_long {ps : List (List UInt8)} (h : 4 < ps.length) : payN ps = 4 := by rw [payN, if_pos (.inl h)]
theorem payN_ok {ps : List (List UInt8)} (h : ps.length ≤ 4) (hg : ∀ k, k < ps.length → badK ps k = false) : payN ps = 0 := by
  rw [payN, if_neg]
  rintro (h1 | ⟨k, hk, hb⟩)
  · omega
  · rw [hg k hk] at hb; cases hb
theorem bad_empty {ps : List (List UInt8)} {k : Nat} (h : (ps.getD k []).length = 0) : badK ps k = true := by rw [badK, decide_eq_true h]; rfl
theorem bad_long {ps : List (List UInt8)} {k : Nat} (h : 16 < (ps.getD k []).length) : badK ps k = true := by rw [badK, decide_eq_true h]; simp
theorem bad_twice {ps : List (List UInt8)} {k : Nat} (h : ((ps.take k).any fun y => decide (y = ps.getD k [])) = true) : badK ps k = true := by rw [badK, h]; simp
theorem bad_not {ps : List (List UInt8)} {k : Nat} (h0 : ¬ (ps.getD k []).length = 0) (h1 : ¬ 16 < (ps.getD k []).length) (h2 : ((ps.take k).any fun y => decide (y = ps.getD k [])) = false) : badK ps k = false := by rw [badK, decide_eq_false h0, decide_eq_false h1, h2]; rfl
def payG (V : List Vd) (ps : List (List UInt8)) : Nat := if rightS V = false then 11 else payN ps
set_option maxRecDepth 100000 in
set_option maxHeartbeats 2000000 in
theorem payload_is (w : World) (B : Nat) (E : Nat → Addr) (he : ErrEnv w B E) (e0 : Int) (A : Option Addr) (c : Nat) (V : List Vd) (hV : VdsAt w A V) (ok : keysOk V) (hl : V.length < 1000) (G : Array Value) (gv : Array Value) (hgv : gv = grC e0 (.slice A V.length c) G) (A1 : Option Addr) (n1 c1 : Nat) (ps : List (List UInt8)) (hn : ps.length = n1) (hc : n1 ≤ c1) (hP : LsAt w A1 ps) :
    Calls Tryd.prog 10 #[.agg gv, .slice A1 n1 c1] w fun e' w' => e' = .returned (evOf E (payG V ps)) ∧ w.grownBy w' none := by
  obtain ⟨q, hq⟩ : ∃ q, w.heap.size = q := ⟨_, rfl⟩
  obtain ⟨w1, hw1⟩ : ∃ w1, w.alloc (.cells gv 34) = w1 := ⟨_, rfl⟩
  have g1 : w.grownBy w1 none := by rw [← hw1]; exact World.grownBy_alloc _ _ none
  have b1 : Blk w1 q 34 (grC e0 (.slice A V.length c) G) := by rw [← hw1, ← hq, ← hgv]; exact Blk.new _ _ _
  obtain ⟨x0, x1, _⟩ := gr_cells b1
  have HC := Lib.hid (check_is w1 A c B V (E 10) (fun hne => by
    obtain ⟨b, off, eA, hc⟩ := hV hne
    exact ⟨b, off, eA, fun k hk => range_kept (hc k hk) g1⟩) ok hl ((he.grown g1 (fun _ e => by cases e)).var 10 (by omega)))
  have HX := Lib.hid (And.intro he (And.intro g1 (And.intro hn (And.intro hc hP))))
  have HW := Lib.hid (And.intro hw1 hq)
  obtain ⟨n, hvn⟩ : ∃ n, V.length = n := ⟨_, rfl⟩
  rw [hvn] at HC x1
  have hmf : ∀ (fn : Fn) (first cap : Array Value) (w : World), (Instr.makeFunc fn first cap).run Tryd.prog w = .ok (.func fn first cap) w := fun _ _ _ _ => rfl
  clear he hV ok hl hgv g1 b1 hw1 hq hvn hn hc hP x0
  go_enter Tryd.func10, Tryd.ntmps10
  go_upto_region 1 with (fail)
  rw [HW.out.1, HW.out.2]
  go_wp2_with fail
  refine HC.out.mono ?_
  clear HC x1
  rintro e' w2 ⟨g2, ⟨hr, rfl⟩ | ⟨hr, rfl⟩⟩
  · have HG := Lib.hid (And.intro (grown_trans HX.out.2.1 g2) hr)
    have ve : w2.cell? ⟨3, 0, none⟩ = some (errV (E 3)) := ((HX.out.1.grown HG.out.1 (fun _ e => by cases e)).var 3 (by omega)).1
    clear g2 hr
    by_cases h4 : 4 < n1
    · have d1 : decide ((4 : Int) < (n1 : Int)) = true := by simp; omega
      have HN := Lib.hid (show payG V ps = 4 by rw [payG, if_neg (by simp [HG.out.2])]; exact payN_long (by rw [HX.out.2.2.1]; exact h4))
      clear h4
      go_wp2_with fail
      go_ret
      exact ⟨by rw [HN.out]; rfl, HG.out.1⟩
    have d1 : decide ((4 : Int) < (n1 : Int)) = false := by simp; omega
    have hn4 : n1 ≤ 4 := by omega
    clear h4 ve
    go_wp2_with fail
    go_loopw [21] (fun i wr => ∃ k : Nat, k ≤ n1 ∧ i = .int .i64 (k : Int) ∧ Hid (∀ j, j < k → badK ps j = false) ∧ w.grownBy wr none) (fun i _ => n1 - (intOf i).toNat)
    case atStart => exact ⟨0, by omega, rfl, Lib.hid (fun j h => absurd h (by omega)), HG.out.1⟩
    case round =>
      obtain ⟨k, hk, hi, hno, hK⟩ := hrel
      subst hi
      rename World => wr
      have HK := Lib.hid hK
      by_cases hlt : k < n1
      · have e1 : decide ((k : Int) < (n1 : Int)) = true := by simp; omega
        have hkp : k < ps.length := by rw [HX.out.2.2.1]; exact hlt
        obtain ⟨b, off, hA, hcell⟩ := (HX.out.2.2.2.2.grown hK) (by rintro rfl; simp at hkp)
        subst hA
        obtain ⟨By, cy, hcy, hby⟩ := hcell k hkp
        obtain ⟨y, hy⟩ : ∃ y, ps[k] = y := ⟨_, rfl⟩
        have hgd : ps.getD k [] = y := by rw [List.getD, List.getElem?_eq_getElem hkp, Option.getD_some, hy]
        rw [hy] at hcy hby
        have ve : wr.cell? ⟨3, 0, none⟩ = some (errV (E 3)) := ((HX.out.1.grown hK (fun _ e => by cases e)).var 3 (by omega)).1
        have hb1 : 0 ≤ (k : Int) ∧ (k : Int) + 1 ≤ 5 := by omega
        obtain ⟨p, hp⟩ : ∃ p, wr.heap.size = p := ⟨_, rfl⟩
        obtain ⟨W, hW⟩ : ∃ W, wr.alloc (.cells #[.slice By y.length cy] 25) = W := ⟨_, rfl⟩
        have gW : wr.grownBy W none := by rw [← hW]; exact World.grownBy_alloc _ _ none
        have yp : W.cell? ⟨p, 0, none⟩ = some (.slice By y.length cy) := by rw [← hW, ← hp]; exact (Blk.new wr 25 #[.slice By y.length cy]).cell 0
        have veW : W.cell? ⟨3, 0, none⟩ = some (errV (E 3)) := gW.cell ve (by simp)
        have HB := Lib.hid (And.intro (hby.grown gW (by simp)) (And.intro hgd (And.intro (grown_trans hK gW) (And.intro (((HX.out.2.2.2.2.grown hK).grown gW).take k) (And.intro (show (ps.take k).length = k by rw [List.length_take]; omega) (And.intro hkp hgd))))))
        have HWW := Lib.hid (And.intro hW hp)
        have hkc : (k : Int) ≤ (c1 : Int) ∧ (k : Int) ≤ (n1 : Int) := by have := HX.out.2.2.2.1; omega
        clear hby hgd hK hcell gW hW hp hy ve
        go_upto_region 9 with (fail)
        rw [HWW.out.1, HWW.out.2]
        clear hcy
        have HQ := Lib.hid (pcontains_is W (some ⟨b, off, none⟩) k c1 (ps.take k) HB.out.2.2.2.2.1 (by omega) HB.out.2.2.2.1 p By cy y yp HB.out.1)
        by_cases y0 : y.length = 0
        · have d2 : decide ((y.length : Int) < 1) = true := by simp; omega
          have HN := Lib.hid (show payG V ps = 4 by rw [payG, if_neg (by simp [HG.out.2])]; exact payN_bad HB.out.2.2.2.2.2.1 (bad_empty (by rw [HB.out.2.1]; exact y0)))
          clear y0
          go_wp2_with fail
          go_ret
          exact ⟨by rw [HN.out]; rfl, HB.out.2.2.1⟩
        · by_cases y16 : 16 < y.length
          · have d2 : decide ((y.length : Int) < 1) = false := by simp; omega
            have d3 : decide ((16 : Int) < (y.length : Int)) = true := by simp; omega
            have HN := Lib.hid (show payG V ps = 4 by rw [payG, if_neg (by simp [HG.out.2])]; exact payN_bad HB.out.2.2.2.2.2.1 (bad_long (by rw [HB.out.2.1]; exact y16)))
            clear y0 y16
            go_wp2_with fail
            go_ret
            exact ⟨by rw [HN.out]; rfl, HB.out.2.2.1⟩
          · have d2 : decide ((y.length : Int) < 1) = false := by simp; omega
            have d3 : decide ((16 : Int) < (y.length : Int)) = false := by simp; omega
            have HY := Lib.hid (And.intro y0 y16)
            clear y0 y16
            go_wp2_with fail
            refine HQ.out.mono ?_
            clear HQ
            rintro e' w5 ⟨rfl, g5⟩
            obtain ⟨r, hr⟩ : ∃ r, ((ps.take k).any fun z => decide (z = y)) = r := ⟨_, rfl⟩
            rw [hr]
            have H5 := Lib.hid (And.intro (grown_trans HB.out.2.2.1 g5) hr)
            have ve5 : w5.cell? ⟨3, 0, none⟩ = some (errV (E 3)) := g5.cell veW (by simp)
            clear hr g5 veW yp
            cases r with
            | true =>
              have HN := Lib.hid (show payG V ps = 4 by rw [payG, if_neg (by simp [HG.out.2])]; exact payN_bad HB.out.2.2.2.2.2.1 (bad_twice (by rw [HB.out.2.1]; exact H5.out.2)))
              go_wp2_with fail
              go_ret
              exact ⟨by rw [HN.out]; rfl, H5.out.1⟩
            | false =>
              clear ve5
              go_wp2_with fail
              go_roundw
              case rel =>
                refine ⟨k + 1, by omega, by go_num, Lib.hid (fun j hj => ?_), H5.out.1⟩
                by_cases hjk : j < k
                · exact hno.out j hjk
                · obtain rfl : j = k := by omega
                  exact bad_not (by rw [HB.out.2.1]; exact HY.out.1) (by rw [HB.out.2.1]; exact HY.out.2) (by rw [HB.out.2.1]; exact H5.out.2)
              case measure => simp [intOf]; omega
      · have e1 : decide ((k : Int) < (n1 : Int)) = false := by simp; omega
        have HN := Lib.hid (show payG V ps = 0 by
          rw [payG, if_neg (by simp [HG.out.2])]
          exact payN_ok (by rw [HX.out.2.2.1]; exact hn4) (fun j hj => hno.out j (by have := HX.out.2.2.1; omega)))
        clear hK hno
        go_wp2_with fail
        go_ret
        exact ⟨by rw [HN.out]; rfl, HK.out⟩
  · have HN := Lib.hid (And.intro (grown_trans HX.out.2.1 g2) (show payG V ps = 11 by rw [payG, if_pos hr]))
    clear g2 hr
    go_wp2_with fail
    go_ret
    exact ⟨by rw [HN.out.2]; rfl, HN.out.1⟩
end Go.Proofs.YtlokjbjpmhfkhaaDoor
