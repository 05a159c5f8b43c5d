/-
  ScriptTexts.
-/
import Derived.Test.YtonkdcbmmdhjgaaGreatDoorScZr
import Derived.Test.YtonkdcbmmdhjgaaGreatDoorNum
namespace Go.Proofs.YtonkdcbmmdhjgaaGreatDoor
open Go.RowKit Go.Shelf

/-- append of an op, as an equation of the run. -/
theorem push6R_run (w0 : World) (i : TypeInfo) (z : Value) (hi : Tryz.prog.info? 31 = some i) (hz : i.zero = some z) (hsize : i.size = 6) (hby : i.bytes = 96) (hzs : z.cells.size = 6)
    (base : Nat) (v : Value) (n : Nat) (xs : List Value) (hown : w0.ownsRow base 31 6 v n xs) (o : OpM) (hn : n ≤ 1000000) (hbase : base ≤ w0.heap.size) :
    ∃ v' w', (Builtin.append_ #[24, 24] 24 #[v, .slice (some ⟨w0.heap.size, 0, none⟩) 1 1]).run Tryz.prog (w0.alloc (.cells o.val 31)) = .ok v' w' ∧ w'.ownsRow base 31 6 v' (n + 1) (xs ++ o.val.toList) ∧ w0.grownBy w' v.ownBlock := by
  obtain ⟨v', w', hrun, r1, r2, _⟩ := run_append_own (P := Tryz.prog) (w := w0.alloc (.cells o.val 31)) base 24 24 31 i z 6 96 Tryz.underlying24 hi hz hsize hby hzs (by omega) v n xs (hown.alloc _) ⟨w0.heap.size, 0, none⟩ 1 1 o.val.toList rfl (fun j u hu => by
    have h := (Blk.new w0 31 o.val).cell j
    rw [Go.WideShapes.add_plain, Nat.zero_add, h]
    simpa using hu) (opm_one o) (by simp only [maxLen]; omega) (by omega) (by rw [World.size_alloc]; omega)
  exact ⟨v', w', hrun, r1, grown_trans (World.grownBy_alloc w0 _ _) r2⟩
theorem opR_info : (Tryz.prog.info? 31).map (fun i => (i.zero, i.size, i.bytes)) = some (some (.agg #[.int .i64 0, .int .i64 0, .int .i64 0, .slice none 0 0, .slice none 0 0, .slice none 0 0]), 6, 96) := by kernel_rfl
theorem rowR_own {w : World} {base n c : Nat} {A : Option Addr} {os : List OpM} (hn : os.length = n) (h : w.ownsRow base 31 6 (.slice A n c) n (opsC os)) : OpRow w A os := fun hne => by
  rcases h.2 with ⟨e, hl⟩ | ⟨g, cap, cur, e, _, hh, _, _, hs, ht⟩
  · injection e with e1 e2 e3
    subst e1 e2 e3
    exact absurd (List.eq_nil_of_length_eq_zero hn) hne
  · injection e with e1 e2 e3
    subst e1 e3 hn
    refine ⟨g, 0, rfl, fun k hk j v hv => ?_⟩
    have hb : Blk w g 31 cur := hh
    have hj : j < 6 := (List.getElem?_eq_some_iff.1 hv).1
    have h2 := opsC_get os k hk j v hv
    rw [← ht, List.getElem?_take] at h2
    rw [Nat.zero_add, hb.cell (k * 6 + j)]
    split at h2
    · simpa using h2
    · cases h2
theorem own_some {w : World} {base size n c : Nat} {e : TypeId} {A : Option Addr} {xs : List Value} (h : w.ownsRow base e size (.slice A n c) n xs) (h0 : 0 < n) : ∃ g, A = some ⟨g, 0, none⟩ ∧ n ≤ c := by
  rcases h.2 with ⟨e, hl⟩ | ⟨g, cap, cur, e, _, hh, hnc, _⟩
  · injection e with e1 e2 e3
    omega
  · injection e with e1 e2 e3
    subst e1 e3
    exact ⟨g, rfl, hnc⟩
/-- Line, of an op that has none. -/
theorem line_no (w : World) (EL EF : Addr) (he : Env3 w EL EF) (o : OpM) (ho : o.At w) (hf : o.v.Fit) (hr : ¬ rightS o.v) :
    Calls Tryz.prog 7 #[.agg #[.int .i64 o.v.kind, .int .i64 o.v.node, .int .i64 o.v.n, .slice o.A1 o.v.set.length o.c1, .slice o.A2 o.v.keep.length o.c2, .slice o.A3 o.v.data.length o.c3]] w fun e w' => e = .returned (.tuple #[.string ⟨#[]⟩, errV EF]) ∧ w.grownBy w' none := by
  refine (line_is w he.env EF he.form o ho hf).mono ?_
  rintro e w' ⟨g, hp⟩
  rw [lineS_eq, if_neg hr] at hp
  exact ⟨hp, g⟩
/-- What one of the list has, so that the law goes on. -/
def Small (v : OpV) : Prop := v.data.length ≤ 200 ∧ v.set.length ≤ 50 ∧ v.keep.length ≤ 200
def Ints (v : OpV) : Prop := i64 v.node ∧ i64 v.n ∧ ∀ z ∈ v.set, i64 z
theorem small_fit {v : OpV} (h : Small v) (hi : Ints v) : v.Fit := ⟨hi.1, hi.2.1, hi.2.2, by have := h.2.1; omega, by have := h.2.2; omega, by have := h.1; omega⟩
theorem small_line {v : OpV} (h : Small v) (hi : Ints v) : (lineT v).length ≤ 8000 := by
  have hw : ∀ c, (writeS v c).length ≤ 1200 := fun c => by
    have h1 := Lib.itoa_length_le _ hi.1.1 hi.1.2
    have h2 := Lib.itoa_length_le _ hi.2.1.1 hi.2.1.2
    have h3 := joinP_le (B := 21) 44 (v.set.map Lib.itoa) (fun p hp => by
      obtain ⟨z, hz, rfl⟩ := List.mem_map.1 hp
      exact Lib.itoa_length_le z (hi.2.2 z hz).1 (hi.2.2 z hz).2)
    rw [List.length_map] at h3
    have h7 := writeHex_len v.data
    obtain ⟨s1, s2, s3⟩ := h
    unfold writeS
    split
    · omega
    split
    · omega
    split
    · exact orDash_le (by omega) (by omega)
    split
    · exact orDash_le (by omega) (by omega)
    split
    · exact orDash_le (by rw [List.length_map]; omega) (by omega)
    · simp
  unfold lineT
  have h1 := joinP_le (B := 1200) 32 ((shapeS v.kind).1 :: (shapeS v.kind).2.map (writeS v)) (fun p hp => by
    rcases List.mem_cons.1 hp with rfl | hp
    · have := word_le v.kind; omega
    · obtain ⟨c, _, rfl⟩ := List.mem_map.1 hp
      exact hw c)
  have h2 := shape_le v.kind
  simp only [List.length_cons, List.length_map] at h1
  omega
theorem small_right {v : OpV} (h : Small v) (hi : Ints v) (hr : rightS v) : (lineT v).length ≤ 1800 := by
  have hw : ∀ c ∈ (shapeS v.kind).2, (writeS v c).length ≤ 400 := fun c hc => by
    have hp := hr.2 c hc
    have h1 := Lib.itoa_length_le _ hi.1.1 hi.1.2
    have h2 := Lib.itoa_length_le _ hi.2.1.1 hi.2.1.2
    have h3 := joinP_le (B := 21) 44 (v.set.map Lib.itoa) (fun p hp => by
      obtain ⟨z, hz, rfl⟩ := List.mem_map.1 hp
      exact Lib.itoa_length_le z (hi.2.2 z hz).1 (hi.2.2 z hz).2)
    rw [List.length_map] at h3
    have h7 := writeHex_len v.data
    obtain ⟨s1, s2, s3⟩ := h
    unfold partOk at hp
    unfold writeS
    split
    · omega
    split
    · omega
    split
    · exact orDash_le (by omega) (by omega)
    split
    · next a b d e => rw [if_neg a, if_neg b, if_neg d, if_pos e] at hp; have := hp.1; exact orDash_le (by omega) (by omega)
    split
    · exact orDash_le (by rw [List.length_map]; omega) (by omega)
    · simp
  unfold lineT
  have h1 := joinP_le (B := 400) 32 ((shapeS v.kind).1 :: (shapeS v.kind).2.map (writeS v)) (fun p hp => by
    rcases List.mem_cons.1 hp with rfl | hp
    · have := word_le v.kind; omega
    · obtain ⟨c, hc, rfl⟩ := List.mem_map.1 hp
      exact hw c hc)
  have h2 := shape_le v.kind
  simp only [List.length_cons, List.length_map] at h1
  omega
theorem textT_small : ∀ os : List OpV, (∀ o ∈ os, (lineT o).length ≤ 1800) → (textT os).length ≤ 1801 * os.length
  | [], _ => by simp [textT]
  | o :: r, h => by
    have h1 := textT_small r fun x hx => h x (List.mem_cons_of_mem _ hx)
    have h2 := h o (by simp)
    simp only [textT, List.length_append, List.length_cons, Nat.mul_add, Nat.mul_one]
    omega
set_option maxRecDepth 100000 in
set_option maxHeartbeats 4000000 in
theorem texts_is (w : World) (E : Nat → Addr) (hE : ErrEnv w w.heap.size E) (he : ScEnv w) (A : Option Addr) (n c : Nat) (os : List OpM) (hn : os.length = n) (hr : OpRow w A os) (ho : ∀ o ∈ os, o.At w) (hi : ∀ o ∈ os, Ints o.v) :
    Calls Tryz.prog 3 #[.slice A n c] w fun e w' => e = .returned (.bool true) ∧ w.grownBy w' none := by
  have h3 : Env3 w (E 2) (E 3) := ⟨he, hE.var 2 (by omega), hE.var 3 (by omega)⟩
  have HA := Lib.hid (alive_is w he (E 2) (E 3) h3.long h3.form)
  obtain ⟨i0, hi0, hz0, hz1, hz2⟩ := info_parts opR_info
  have HI0 := Lib.hid (And.intro hi0 (And.intro hz0 (And.intro hz1 hz2)))
  have HE := Lib.hid (And.intro h3 hE)
  have HX := Lib.hid (And.intro hn (And.intro hr (And.intro ho hi)))
  clear h3 he hE hi0 hz0 hz1 hz2 hn hr ho hi
  go_enter Tryz.func3, Tryz.ntmps3
  go_wp2_with fail
  refine HA.out.mono ?_
  rintro e w1 ⟨rfl, k1⟩
  have K1 := Lib.hid k1
  clear k1
  by_cases h30 : 30 < n
  · have d1 : decide ((30 : Int) < (n : Int)) = true := by simp; omega
    go_wp2_with fail
    go_ret
    exact ⟨rfl, K1.out⟩
  have d1 : decide ((30 : Int) < (n : Int)) = false := by simp; omega
  go_wp2_with fail
  go_loopw [3, 4, 24] (fun v t i wr => ∃ (k : Nat) (R : Bool), k ≤ n ∧ i = .int .i64 (k : Int) ∧ t = .bool R ∧ Hid ((R = true ↔ ∀ o ∈ os.take k, rightS o.v) ∧ (∀ o ∈ os.take k, Small o.v) ∧ wr.ownsRow w.heap.size 31 6 v k (opsC ((os.take k).map plainM)) ∧ w.grownBy wr none)) (fun _ _ i _ => n - (intOf i).toNat)
  case atStart => exact ⟨0, true, Nat.zero_le _, rfl, rfl, Lib.hid ⟨by simp, by simp, ⟨rfl, .inr ⟨_, 0, _, rfl, K1.out.size, Blk.new w1 31 #[], Nat.le_refl _, by decide, rfl, rfl⟩⟩, grown_trans K1.out (World.grownBy_alloc _ _ none)⟩⟩
  case round =>
    obtain ⟨k, R, hk, rfl, rfl, HI⟩ := hrel
    rename World => wr
    by_cases hlt : k < n
    · have d2 : decide ((k : Int) < (n : Int)) = true := by simp; omega
      have hkd : k < os.length := by rw [HX.out.1]; exact hlt
      obtain ⟨b, off, rfl, hcs⟩ := (HX.out.2.1.gr HI.out.2.2.2) (by intro e; rw [e] at hkd; simp at hkd)
      obtain ⟨x, hx⟩ : ∃ x, x = os[k] := ⟨_, rfl⟩
      have hr0 := hcs k hkd
      rw [← hx] at hr0
      obtain ⟨c0, c1, c2, c3, c4, c5⟩ := row_cells hr0
      have hxm : x ∈ os := by rw [hx]; exact List.getElem_mem hkd
      have htk : os.take (k + 1) = os.take k ++ [x] := by rw [List.take_add_one, List.getElem?_eq_getElem hkd, hx]; rfl
      have HXX := Lib.hid (And.intro hxm htk)
      clear hcs hr0 hx hkd hxm htk
      go_upto_region 10 with (fail)
      obtain ⟨W0, hW0⟩ : ∃ W0, wr.alloc (.cells #[.int .i64 x.v.kind, .int .i64 x.v.node, .int .i64 x.v.n, .slice x.A1 x.v.set.length x.c1, .slice x.A2 x.v.keep.length x.c2, .slice x.A3 x.v.data.length x.c3] 29) = W0 := ⟨_, rfl⟩
      have bx : Blk W0 wr.heap.size 29 #[.int .i64 x.v.kind, .int .i64 x.v.node, .int .i64 x.v.n, .slice x.A1 x.v.set.length x.c1, .slice x.A2 x.v.keep.length x.c2, .slice x.A3 x.v.data.length x.c3] := by rw [← hW0]; exact Blk.new wr _ _
      have g0 : wr.grownBy W0 none := by rw [← hW0]; exact World.grownBy_alloc wr _ none
      rw [hW0]
      have z0 : W0.cell? ⟨wr.heap.size, 0, none⟩ = some (.int .i64 x.v.kind) := bx.cell 0
      have z1 : W0.cell? ⟨wr.heap.size, 1, none⟩ = some (.int .i64 x.v.node) := bx.cell 1
      have z2 : W0.cell? ⟨wr.heap.size, 2, none⟩ = some (.int .i64 x.v.n) := bx.cell 2
      have z3 : W0.cell? ⟨wr.heap.size, 3, none⟩ = some (.slice x.A1 x.v.set.length x.c1) := bx.cell 3
      have z4 : W0.cell? ⟨wr.heap.size, 4, none⟩ = some (.slice x.A2 x.v.keep.length x.c2) := bx.cell 4
      have z5 : W0.cell? ⟨wr.heap.size, 5, none⟩ = some (.slice x.A3 x.v.data.length x.c3) := bx.cell 5
      have H0 := Lib.hid (And.intro bx (And.intro g0 (grown_trans HI.out.2.2.2 g0)))
      clear bx g0 hW0 c0 c1 c2 c3 c4 c5
      by_cases s1 : 200 < x.v.data.length
      · have e1 : decide ((200 : Int) < (x.v.data.length : Int)) = true := by simp; omega
        go_wp2_with fail
        go_ret
        exact ⟨rfl, H0.out.2.2⟩
      have e1 : decide ((200 : Int) < (x.v.data.length : Int)) = false := by simp; omega
      by_cases s2 : 50 < x.v.set.length
      · have e2 : decide ((50 : Int) < (x.v.set.length : Int)) = true := by simp; omega
        go_wp2_with fail
        go_ret
        exact ⟨rfl, H0.out.2.2⟩
      have e2 : decide ((50 : Int) < (x.v.set.length : Int)) = false := by simp; omega
      by_cases s3 : 200 < x.v.keep.length
      · have e3 : decide ((200 : Int) < (x.v.keep.length : Int)) = true := by simp; omega
        go_wp2_with fail
        go_ret
        exact ⟨rfl, H0.out.2.2⟩
      have e3 : decide ((200 : Int) < (x.v.keep.length : Int)) = false := by simp; omega
      have HSm := Lib.hid (show Small x.v from ⟨by omega, by omega, by omega⟩)
      have HFt := Lib.hid (small_fit HSm.out (HX.out.2.2.2 x HXX.out.1))
      go_upto_region 12 with (fail)
      obtain ⟨B, hB⟩ : ∃ B, B = decide (rightS x.v) := ⟨_, rfl⟩
      have HRt := Lib.hid (show Calls Tryz.prog 5 #[.agg #[.int .i64 x.v.kind, .int .i64 x.v.node, .int .i64 x.v.n, .slice x.A1 x.v.set.length x.c1, .slice x.A2 x.v.keep.length x.c2, .slice x.A3 x.v.data.length x.c3]] W0 fun e w' => e = .returned (.bool B) ∧ W0.grownBy w' none by rw [hB]; exact rright_is W0 x ((HX.out.2.2.1 x HXX.out.1).gr H0.out.2.2) HFt.out)
      have HBB := Lib.hid (show B = true ↔ rightS x.v by rw [hB, decide_eq_true_iff])
      clear hB s1 s2 s3 e1 e2 e3
      go_wp2_with fail
      refine HRt.out.mono ?_
      rintro e w2 ⟨rfl, k2⟩
      obtain ⟨y, hy⟩ : ∃ y, y = plainM x := ⟨_, rfl⟩
      have bx2 := H0.out.1.grown k2 (by simp)
      have g2 := grown_trans H0.out.2.2 k2
      have hown2 := own_gr HI.out.2.2.1 (grown_trans H0.out.2.1 k2)
      have z0 : w2.cell? ⟨wr.heap.size, 0, none⟩ = some (.int .i64 x.v.kind) := bx2.cell 0
      have z1 : w2.cell? ⟨wr.heap.size, 1, none⟩ = some (.int .i64 x.v.node) := bx2.cell 1
      have z2 : w2.cell? ⟨wr.heap.size, 2, none⟩ = some (.int .i64 x.v.n) := bx2.cell 2
      have z3 : w2.cell? ⟨wr.heap.size, 3, none⟩ = some (.slice x.A1 x.v.set.length x.c1) := bx2.cell 3
      have z4 : w2.cell? ⟨wr.heap.size, 4, none⟩ = some (.slice x.A2 x.v.keep.length x.c2) := bx2.cell 4
      have z5 : w2.cell? ⟨wr.heap.size, 5, none⟩ = some (.slice x.A3 x.v.data.length x.c3) := bx2.cell 5
      have HPl := Lib.hid (show Calls Tryz.prog 6 #[.agg #[.int .i64 x.v.kind, .int .i64 x.v.node, .int .i64 x.v.n, .slice x.A1 x.v.set.length x.c1, .slice x.A2 x.v.keep.length x.c2, .slice x.A3 x.v.data.length x.c3]] w2 fun e w' => e = .returned (.agg #[.int .i64 y.v.kind, .int .i64 y.v.node, .int .i64 y.v.n, .slice y.A1 y.v.set.length y.c1, .slice y.A2 y.v.keep.length y.c2, .slice y.A3 y.v.data.length y.c3]) ∧ w2.grownBy w' none by
        have h := rplain_is w2 x
        rw [← hy] at h; exact h)
      have H2 := Lib.hid (And.intro bx2 (And.intro g2 (And.intro hown2 hy)))
      clear bx2 g2 hown2 hy k2 HRt
      cases R with
      | false =>
        cases B with
        | false =>
          go_wp2_with fail
          refine HPl.out.mono ?_
          rintro e w3 ⟨rfl, k3⟩
          have bx3 := H2.out.1.grown k3 (by simp)
          have g3 := grown_trans H2.out.2.1 k3
          have hown3 := own_gr H2.out.2.2.1 k3
          have hrun : ∃ A' c' w', (Builtin.append_ #[24, 24] 24 #[u3, .slice (some ⟨w3.heap.size, 0, none⟩) 1 1]).run Tryz.prog (w3.alloc (.cells #[.int .i64 y.v.kind, .int .i64 y.v.node, .int .i64 y.v.n, .slice y.A1 y.v.set.length y.c1, .slice y.A2 y.v.keep.length y.c2, .slice y.A3 y.v.data.length y.c3] 31)) = .ok (.slice A' (k + 1) c') w' ∧ w'.ownsRow w.heap.size 31 6 (.slice A' (k + 1) c') (k + 1) (opsC ((os.take k).map plainM) ++ y.val.toList) ∧ w3.grownBy w' u3.ownBlock := by
            obtain ⟨v', w', h1, h2, h3⟩ := push6R_run w3 i0 _ HI0.out.1 HI0.out.2.1 HI0.out.2.2.1 HI0.out.2.2.2 rfl w.heap.size u3 k _ hown3 y (by omega) g3.size
            obtain ⟨A', c', rfl⟩ := own_slice _ h2
            exact ⟨A', c', w', h1, h2, h3⟩
          obtain ⟨A', c', w4, hrun, hown4, hgrow⟩ := hrun
          obtain ⟨gq, hgq, hcap⟩ := own_some hown4 (by omega)
          subst hgq
          have bx4 := bx3.grown hgrow (own_ne hown3 bx3 (by decide)).symm
          have g4 := grown_own g3 hgrow hown3 (Nat.le_refl _)
          have z0 : w4.cell? ⟨wr.heap.size, 0, none⟩ = some (.int .i64 x.v.kind) := bx4.cell 0
          have z1 : w4.cell? ⟨wr.heap.size, 1, none⟩ = some (.int .i64 x.v.node) := bx4.cell 1
          have z2 : w4.cell? ⟨wr.heap.size, 2, none⟩ = some (.int .i64 x.v.n) := bx4.cell 2
          have z3 : w4.cell? ⟨wr.heap.size, 3, none⟩ = some (.slice x.A1 x.v.set.length x.c1) := bx4.cell 3
          have z4 : w4.cell? ⟨wr.heap.size, 4, none⟩ = some (.slice x.A2 x.v.keep.length x.c2) := bx4.cell 4
          have z5 : w4.cell? ⟨wr.heap.size, 5, none⟩ = some (.slice x.A3 x.v.data.length x.c3) := bx4.cell 5
          rw [← opsC_snoc] at hown4
          have H4 := Lib.hid (And.intro g4 (And.intro hown4 (And.intro (HE.out.1.gr g4) (HE.out.2.grown g4 (by simp)))))
          clear bx3 g3 hown3 hgrow bx4 g4 hown4 k3
          go_wp2_with (at_builtin
                       refine wpList_plain rfl fun K9 hK9 => wp_append rfl rfl rfl hrun (hK9 _ _ ?_))
          refine (line_no w4 (E 2) (E 3) H4.out.2.2.1 x ((HX.out.2.2.1 x HXX.out.1).gr H4.out.1) HFt.out (fun h => by have := HBB.out.2 h; cases this)).mono ?_
          rintro e w5 ⟨rfl, k5⟩
          have H5 := Lib.hid (And.intro (H4.out.2.2.2.grown k5 (by simp)) (And.intro (grown_trans H4.out.1 k5) (own_gr H4.out.2.1 k5)))
          clear k5 z0 z1 z2 z3 z4 z5 hrun
          go_wp2_with fail
          refine (num_err w5 _ E 3 (by omega) H5.out.1).mono ?_
          rintro e w6 ⟨rfl, k6⟩
          have H6 := Lib.hid (And.intro (grown_trans H5.out.2.1 k6) (own_gr H5.out.2.2 k6))
          clear k6
          go_wp2_with fail
          go_roundw
          case rel =>
            refine ⟨k + 1, false, by omega, rfl, rfl, Lib.hid ⟨?_, ?_, ?_, H6.out.1⟩⟩
            · constructor
              · intro h; cases h
              · intro h; have := HBB.out.2 (h x (by rw [HXX.out.2]; simp)); cases this
            · intro o ho; rw [HXX.out.2] at ho
              rcases List.mem_append.1 ho with ho | ho
              · exact HI.out.2.1 o ho
              · obtain rfl : o = x := by simpa using ho
                exact HSm.out
            · rw [HXX.out.2, List.map_append, List.map_cons, List.map_nil, ← H2.out.2.2.2]; exact H6.out.2
          case measure => simp [intOf]; omega
        | true =>
          go_wp2_with fail
          refine HPl.out.mono ?_
          rintro e w3 ⟨rfl, k3⟩
          have bx3 := H2.out.1.grown k3 (by simp)
          have g3 := grown_trans H2.out.2.1 k3
          have hown3 := own_gr H2.out.2.2.1 k3
          have hrun : ∃ A' c' w', (Builtin.append_ #[24, 24] 24 #[u3, .slice (some ⟨w3.heap.size, 0, none⟩) 1 1]).run Tryz.prog (w3.alloc (.cells #[.int .i64 y.v.kind, .int .i64 y.v.node, .int .i64 y.v.n, .slice y.A1 y.v.set.length y.c1, .slice y.A2 y.v.keep.length y.c2, .slice y.A3 y.v.data.length y.c3] 31)) = .ok (.slice A' (k + 1) c') w' ∧ w'.ownsRow w.heap.size 31 6 (.slice A' (k + 1) c') (k + 1) (opsC ((os.take k).map plainM) ++ y.val.toList) ∧ w3.grownBy w' u3.ownBlock := by
            obtain ⟨v', w', h1, h2, h3⟩ := push6R_run w3 i0 _ HI0.out.1 HI0.out.2.1 HI0.out.2.2.1 HI0.out.2.2.2 rfl w.heap.size u3 k _ hown3 y (by omega) g3.size
            obtain ⟨A', c', rfl⟩ := own_slice _ h2
            exact ⟨A', c', w', h1, h2, h3⟩
          obtain ⟨A', c', w4, hrun, hown4, hgrow⟩ := hrun
          obtain ⟨gq, hgq, hcap⟩ := own_some hown4 (by omega)
          subst hgq
          have bx4 := bx3.grown hgrow (own_ne hown3 bx3 (by decide)).symm
          have g4 := grown_own g3 hgrow hown3 (Nat.le_refl _)
          have z0 : w4.cell? ⟨wr.heap.size, 0, none⟩ = some (.int .i64 x.v.kind) := bx4.cell 0
          have z1 : w4.cell? ⟨wr.heap.size, 1, none⟩ = some (.int .i64 x.v.node) := bx4.cell 1
          have z2 : w4.cell? ⟨wr.heap.size, 2, none⟩ = some (.int .i64 x.v.n) := bx4.cell 2
          have z3 : w4.cell? ⟨wr.heap.size, 3, none⟩ = some (.slice x.A1 x.v.set.length x.c1) := bx4.cell 3
          have z4 : w4.cell? ⟨wr.heap.size, 4, none⟩ = some (.slice x.A2 x.v.keep.length x.c2) := bx4.cell 4
          have z5 : w4.cell? ⟨wr.heap.size, 5, none⟩ = some (.slice x.A3 x.v.data.length x.c3) := bx4.cell 5
          rw [← opsC_snoc] at hown4
          have H4 := Lib.hid (And.intro g4 (And.intro hown4 (And.intro (HE.out.1.gr g4) (HE.out.2.grown g4 (by simp)))))
          clear bx3 g3 hown3 hgrow bx4 g4 hown4 k3
          go_wp2_with (at_builtin
                       refine wpList_plain rfl fun K9 hK9 => wp_append rfl rfl rfl hrun (hK9 _ _ ?_))
          have HRx := Lib.hid (show rightS x.v from by simpa using HBB.out)
          obtain ⟨S, hS⟩ : ∃ S, S = strB (lineT x.v) := ⟨_, rfl⟩
          have HLn := line_ok w4 (E 2) (E 3) H4.out.2.2.1 x ((HX.out.2.2.1 x HXX.out.1).gr H4.out.1) HFt.out HRx.out x.v rfl
          rw [← hS] at HLn
          have hSz : S.size ≤ 8000 := by rw [hS, strB_size]; exact small_line HSm.out (HX.out.2.2.2 x HXX.out.1)
          have hct : ¬ 9223372036854775807 < S.size + 1 := by omega
          have HLn := Lib.hid HLn
          have HS := Lib.hid (And.intro hS hSz)
          clear hS hSz
          refine HLn.out.mono ?_
          rintro e w5 ⟨rfl, k5⟩
          have H5 := Lib.hid (And.intro (H4.out.2.2.1.gr k5) (And.intro (H4.out.2.2.2.grown k5 (by simp)) (And.intro (grown_trans H4.out.1 k5) (own_gr H4.out.2.1 k5))))
          clear k5 z0 z1 z2 z3 z4 z5 hrun HLn
          go_wp2_with fail
          obtain ⟨S2, hS2⟩ : ∃ S2, S2 = S ++ ⟨#[10]⟩ := ⟨_, rfl⟩
          rw [← hS2]
          have hl2 : S2.data.toList = textT [x.v] := by rw [hS2, cat_data, HS.out.1, strB_list]; rfl
          have HPr := Lib.hid (got_is S2 w5 H5.out.1.env (E 2) (E 3) H5.out.1.long H5.out.1.form (textT [x.v]) hl2 (by
            rw [← hl2]
            have : S2.data.toList.length = S2.size := Array.length_toList
            have h8 : S2.size = S.size + 1 := by rw [hS2, ByteArray.size_append]; rfl
            have := HS.out.2
            omega))
          clear hS2 hl2
          refine HPr.out.mono ?_
          rintro e w6 ⟨k6, hp6⟩
          rw [parseLs_text [x.v] (fun o ho => by
            obtain rfl : o = x.v := (by simpa using ho)
            exact HRx.out)] at hp6
          obtain ⟨os', hos', A6, c6, rfl, hgot⟩ := hp6
          have hl6 : os'.length = 1 := by have := congrArg List.length hos'; simpa using this
          rw [hl6]
          have hlen : ((os.take k).map plainM ++ [y]).length = k + 1 := by rw [List.length_append, List.length_map, List.length_take, HX.out.1]; simp; omega
          have hrow := rowR_own hlen (own_gr H5.out.2.2.2 k6)
          have hrow1 : OpRow w6 (some ⟨gq, k * 6, none⟩) [y] := fun _ => by
            obtain ⟨b', o', e', hc'⟩ := hrow (by simp)
            injection e' with e'
            injection e' with e1 e2
            subst e1 e2
            refine ⟨gq, k * 6, rfl, fun j hj => ?_⟩
            obtain rfl : j = 0 := by simpa using hj
            have h9 := hc' k (by rw [hlen]; omega)
            have e9 : ((os.take k).map plainM ++ [y])[k]'(by rw [hlen]; omega) = y := by
              rw [List.getElem_append_right (by rw [List.length_map, List.length_take, HX.out.1]; omega)]
              simp
            rw [e9] at h9
            simpa using h9
          have hyv : y.v = plainS x.v := by rw [H2.out.2.2.2]; rfl
          have HSame := Lib.hid (same_is w6 A6 (some ⟨gq, k * 6, none⟩) 1 c6 (c' - k) os' [y] hl6 (by rw [hos']; simp [hyv]) hgot.row hrow1 hgot.lies (fun o ho => by
            obtain rfl : o = y := (by simpa using ho)
            rw [H2.out.2.2.2]
            exact plainM_at ((HX.out.2.2.1 x HXX.out.1).gr (grown_trans H5.out.2.2.1 k6))) hgot.fit (by decide))
          have H6 := Lib.hid (And.intro (grown_trans H5.out.2.2.1 k6) (own_gr H5.out.2.2.2 k6))
          have hsub : (k : Int) + 1 - 1 = (k : Int) := by omega
          clear hos' hgot hl6 hlen hrow hrow1 hyv k6
          go_wp2_with fail
          refine HSame.out.mono ?_
          rintro e w7 ⟨rfl, k7⟩
          have H7 := Lib.hid (And.intro (grown_trans H6.out.1 k7) (own_gr H6.out.2 k7))
          clear k7
          go_wp2_with fail
          go_roundw
          case rel =>
            refine ⟨k + 1, false, by omega, rfl, rfl, Lib.hid ⟨?_, ?_, ?_, H7.out.1⟩⟩
            · rw [HXX.out.2]
              constructor
              · intro h; cases h
              · intro h; exact HI.out.1.2 (fun o ho => h o (List.mem_append_left _ ho))
            · intro o ho; rw [HXX.out.2] at ho
              rcases List.mem_append.1 ho with ho | ho
              · exact HI.out.2.1 o ho
              · obtain rfl : o = x := by simpa using ho
                exact HSm.out
            · rw [HXX.out.2, List.map_append, List.map_cons, List.map_nil, ← H2.out.2.2.2]; exact H7.out.2
          case measure => simp [intOf]; omega
      | true =>
        cases B with
        | false =>
          go_wp2_with fail
          refine HPl.out.mono ?_
          rintro e w3 ⟨rfl, k3⟩
          have bx3 := H2.out.1.grown k3 (by simp)
          have g3 := grown_trans H2.out.2.1 k3
          have hown3 := own_gr H2.out.2.2.1 k3
          have hrun : ∃ A' c' w', (Builtin.append_ #[24, 24] 24 #[u3, .slice (some ⟨w3.heap.size, 0, none⟩) 1 1]).run Tryz.prog (w3.alloc (.cells #[.int .i64 y.v.kind, .int .i64 y.v.node, .int .i64 y.v.n, .slice y.A1 y.v.set.length y.c1, .slice y.A2 y.v.keep.length y.c2, .slice y.A3 y.v.data.length y.c3] 31)) = .ok (.slice A' (k + 1) c') w' ∧ w'.ownsRow w.heap.size 31 6 (.slice A' (k + 1) c') (k + 1) (opsC ((os.take k).map plainM) ++ y.val.toList) ∧ w3.grownBy w' u3.ownBlock := by
            obtain ⟨v', w', h1, h2, h3⟩ := push6R_run w3 i0 _ HI0.out.1 HI0.out.2.1 HI0.out.2.2.1 HI0.out.2.2.2 rfl w.heap.size u3 k _ hown3 y (by omega) g3.size
            obtain ⟨A', c', rfl⟩ := own_slice _ h2
            exact ⟨A', c', w', h1, h2, h3⟩
          obtain ⟨A', c', w4, hrun, hown4, hgrow⟩ := hrun
          obtain ⟨gq, hgq, hcap⟩ := own_some hown4 (by omega)
          subst hgq
          have bx4 := bx3.grown hgrow (own_ne hown3 bx3 (by decide)).symm
          have g4 := grown_own g3 hgrow hown3 (Nat.le_refl _)
          have z0 : w4.cell? ⟨wr.heap.size, 0, none⟩ = some (.int .i64 x.v.kind) := bx4.cell 0
          have z1 : w4.cell? ⟨wr.heap.size, 1, none⟩ = some (.int .i64 x.v.node) := bx4.cell 1
          have z2 : w4.cell? ⟨wr.heap.size, 2, none⟩ = some (.int .i64 x.v.n) := bx4.cell 2
          have z3 : w4.cell? ⟨wr.heap.size, 3, none⟩ = some (.slice x.A1 x.v.set.length x.c1) := bx4.cell 3
          have z4 : w4.cell? ⟨wr.heap.size, 4, none⟩ = some (.slice x.A2 x.v.keep.length x.c2) := bx4.cell 4
          have z5 : w4.cell? ⟨wr.heap.size, 5, none⟩ = some (.slice x.A3 x.v.data.length x.c3) := bx4.cell 5
          rw [← opsC_snoc] at hown4
          have H4 := Lib.hid (And.intro g4 (And.intro hown4 (And.intro (HE.out.1.gr g4) (HE.out.2.grown g4 (by simp)))))
          clear bx3 g3 hown3 hgrow bx4 g4 hown4 k3
          go_wp2_with (at_builtin
                       refine wpList_plain rfl fun K9 hK9 => wp_append rfl rfl rfl hrun (hK9 _ _ ?_))
          refine (line_no w4 (E 2) (E 3) H4.out.2.2.1 x ((HX.out.2.2.1 x HXX.out.1).gr H4.out.1) HFt.out (fun h => by have := HBB.out.2 h; cases this)).mono ?_
          rintro e w5 ⟨rfl, k5⟩
          have H5 := Lib.hid (And.intro (H4.out.2.2.2.grown k5 (by simp)) (And.intro (grown_trans H4.out.1 k5) (own_gr H4.out.2.1 k5)))
          clear k5 z0 z1 z2 z3 z4 z5 hrun
          go_wp2_with fail
          refine (num_err w5 _ E 3 (by omega) H5.out.1).mono ?_
          rintro e w6 ⟨rfl, k6⟩
          have H6 := Lib.hid (And.intro (grown_trans H5.out.2.1 k6) (own_gr H5.out.2.2 k6))
          clear k6
          go_wp2_with fail
          go_roundw
          case rel =>
            refine ⟨k + 1, false, by omega, rfl, rfl, Lib.hid ⟨?_, ?_, ?_, H6.out.1⟩⟩
            · constructor
              · intro h; cases h
              · intro h; have := HBB.out.2 (h x (by rw [HXX.out.2]; simp)); cases this
            · intro o ho; rw [HXX.out.2] at ho
              rcases List.mem_append.1 ho with ho | ho
              · exact HI.out.2.1 o ho
              · obtain rfl : o = x := by simpa using ho
                exact HSm.out
            · rw [HXX.out.2, List.map_append, List.map_cons, List.map_nil, ← H2.out.2.2.2]; exact H6.out.2
          case measure => simp [intOf]; omega
        | true =>
          go_wp2_with fail
          refine HPl.out.mono ?_
          rintro e w3 ⟨rfl, k3⟩
          have bx3 := H2.out.1.grown k3 (by simp)
          have g3 := grown_trans H2.out.2.1 k3
          have hown3 := own_gr H2.out.2.2.1 k3
          have hrun : ∃ A' c' w', (Builtin.append_ #[24, 24] 24 #[u3, .slice (some ⟨w3.heap.size, 0, none⟩) 1 1]).run Tryz.prog (w3.alloc (.cells #[.int .i64 y.v.kind, .int .i64 y.v.node, .int .i64 y.v.n, .slice y.A1 y.v.set.length y.c1, .slice y.A2 y.v.keep.length y.c2, .slice y.A3 y.v.data.length y.c3] 31)) = .ok (.slice A' (k + 1) c') w' ∧ w'.ownsRow w.heap.size 31 6 (.slice A' (k + 1) c') (k + 1) (opsC ((os.take k).map plainM) ++ y.val.toList) ∧ w3.grownBy w' u3.ownBlock := by
            obtain ⟨v', w', h1, h2, h3⟩ := push6R_run w3 i0 _ HI0.out.1 HI0.out.2.1 HI0.out.2.2.1 HI0.out.2.2.2 rfl w.heap.size u3 k _ hown3 y (by omega) g3.size
            obtain ⟨A', c', rfl⟩ := own_slice _ h2
            exact ⟨A', c', w', h1, h2, h3⟩
          obtain ⟨A', c', w4, hrun, hown4, hgrow⟩ := hrun
          obtain ⟨gq, hgq, hcap⟩ := own_some hown4 (by omega)
          subst hgq
          have bx4 := bx3.grown hgrow (own_ne hown3 bx3 (by decide)).symm
          have g4 := grown_own g3 hgrow hown3 (Nat.le_refl _)
          have z0 : w4.cell? ⟨wr.heap.size, 0, none⟩ = some (.int .i64 x.v.kind) := bx4.cell 0
          have z1 : w4.cell? ⟨wr.heap.size, 1, none⟩ = some (.int .i64 x.v.node) := bx4.cell 1
          have z2 : w4.cell? ⟨wr.heap.size, 2, none⟩ = some (.int .i64 x.v.n) := bx4.cell 2
          have z3 : w4.cell? ⟨wr.heap.size, 3, none⟩ = some (.slice x.A1 x.v.set.length x.c1) := bx4.cell 3
          have z4 : w4.cell? ⟨wr.heap.size, 4, none⟩ = some (.slice x.A2 x.v.keep.length x.c2) := bx4.cell 4
          have z5 : w4.cell? ⟨wr.heap.size, 5, none⟩ = some (.slice x.A3 x.v.data.length x.c3) := bx4.cell 5
          rw [← opsC_snoc] at hown4
          have H4 := Lib.hid (And.intro g4 (And.intro hown4 (And.intro (HE.out.1.gr g4) (HE.out.2.grown g4 (by simp)))))
          clear bx3 g3 hown3 hgrow bx4 g4 hown4 k3
          go_wp2_with (at_builtin
                       refine wpList_plain rfl fun K9 hK9 => wp_append rfl rfl rfl hrun (hK9 _ _ ?_))
          have HRx := Lib.hid (show rightS x.v from by simpa using HBB.out)
          obtain ⟨S, hS⟩ : ∃ S, S = strB (lineT x.v) := ⟨_, rfl⟩
          have HLn := line_ok w4 (E 2) (E 3) H4.out.2.2.1 x ((HX.out.2.2.1 x HXX.out.1).gr H4.out.1) HFt.out HRx.out x.v rfl
          rw [← hS] at HLn
          have hSz : S.size ≤ 8000 := by rw [hS, strB_size]; exact small_line HSm.out (HX.out.2.2.2 x HXX.out.1)
          have hct : ¬ 9223372036854775807 < S.size + 1 := by omega
          have HLn := Lib.hid HLn
          have HS := Lib.hid (And.intro hS hSz)
          clear hS hSz
          refine HLn.out.mono ?_
          rintro e w5 ⟨rfl, k5⟩
          have H5 := Lib.hid (And.intro (H4.out.2.2.1.gr k5) (And.intro (H4.out.2.2.2.grown k5 (by simp)) (And.intro (grown_trans H4.out.1 k5) (own_gr H4.out.2.1 k5))))
          clear k5 z0 z1 z2 z3 z4 z5 hrun HLn
          go_wp2_with fail
          obtain ⟨S2, hS2⟩ : ∃ S2, S2 = S ++ ⟨#[10]⟩ := ⟨_, rfl⟩
          rw [← hS2]
          have hl2 : S2.data.toList = textT [x.v] := by rw [hS2, cat_data, HS.out.1, strB_list]; rfl
          have HPr := Lib.hid (got_is S2 w5 H5.out.1.env (E 2) (E 3) H5.out.1.long H5.out.1.form (textT [x.v]) hl2 (by
            rw [← hl2]
            have : S2.data.toList.length = S2.size := Array.length_toList
            have h8 : S2.size = S.size + 1 := by rw [hS2, ByteArray.size_append]; rfl
            have := HS.out.2
            omega))
          clear hS2 hl2
          refine HPr.out.mono ?_
          rintro e w6 ⟨k6, hp6⟩
          rw [parseLs_text [x.v] (fun o ho => by
            obtain rfl : o = x.v := (by simpa using ho)
            exact HRx.out)] at hp6
          obtain ⟨os', hos', A6, c6, rfl, hgot⟩ := hp6
          have hl6 : os'.length = 1 := by have := congrArg List.length hos'; simpa using this
          rw [hl6]
          have hlen : ((os.take k).map plainM ++ [y]).length = k + 1 := by rw [List.length_append, List.length_map, List.length_take, HX.out.1]; simp; omega
          have hrow := rowR_own hlen (own_gr H5.out.2.2.2 k6)
          have hrow1 : OpRow w6 (some ⟨gq, k * 6, none⟩) [y] := fun _ => by
            obtain ⟨b', o', e', hc'⟩ := hrow (by simp)
            injection e' with e'
            injection e' with e1 e2
            subst e1 e2
            refine ⟨gq, k * 6, rfl, fun j hj => ?_⟩
            obtain rfl : j = 0 := by simpa using hj
            have h9 := hc' k (by rw [hlen]; omega)
            have e9 : ((os.take k).map plainM ++ [y])[k]'(by rw [hlen]; omega) = y := by
              rw [List.getElem_append_right (by rw [List.length_map, List.length_take, HX.out.1]; omega)]
              simp
            rw [e9] at h9
            simpa using h9
          have hyv : y.v = plainS x.v := by rw [H2.out.2.2.2]; rfl
          have HSame := Lib.hid (same_is w6 A6 (some ⟨gq, k * 6, none⟩) 1 c6 (c' - k) os' [y] hl6 (by rw [hos']; simp [hyv]) hgot.row hrow1 hgot.lies (fun o ho => by
            obtain rfl : o = y := (by simpa using ho)
            rw [H2.out.2.2.2]
            exact plainM_at ((HX.out.2.2.1 x HXX.out.1).gr (grown_trans H5.out.2.2.1 k6))) hgot.fit (by decide))
          have H6 := Lib.hid (And.intro (grown_trans H5.out.2.2.1 k6) (own_gr H5.out.2.2.2 k6))
          have hsub : (k : Int) + 1 - 1 = (k : Int) := by omega
          clear hos' hgot hl6 hlen hrow hrow1 hyv k6
          go_wp2_with fail
          refine HSame.out.mono ?_
          rintro e w7 ⟨rfl, k7⟩
          have H7 := Lib.hid (And.intro (grown_trans H6.out.1 k7) (own_gr H6.out.2 k7))
          clear k7
          go_wp2_with fail
          go_roundw
          case rel =>
            refine ⟨k + 1, true, by omega, rfl, rfl, Lib.hid ⟨?_, ?_, ?_, H7.out.1⟩⟩
            · rw [HXX.out.2]
              constructor
              · intro _ o ho
                rcases List.mem_append.1 ho with ho | ho
                · have hh : ∀ o ∈ os.take k, rightS o.v := by simpa using HI.out.1
                  exact hh o ho
                · obtain rfl : o = x := by simpa using ho
                  exact HRx.out
              · intro _; rfl
            · intro o ho; rw [HXX.out.2] at ho
              rcases List.mem_append.1 ho with ho | ho
              · exact HI.out.2.1 o ho
              · obtain rfl : o = x := by simpa using ho
                exact HSm.out
            · rw [HXX.out.2, List.map_append, List.map_cons, List.map_nil, ← H2.out.2.2.2]; exact H7.out.2
          case measure => simp [intOf]; omega
    · have d2 : decide ((k : Int) < (n : Int)) = false := by simp; omega
      obtain rfl : k = n := by omega
      have htk : os.take k = os := List.take_of_length_le (by rw [HX.out.1]; exact Nat.le_refl _)
      rw [htk] at HI
      have HE3 := Lib.hid (And.intro (HE.out.1.gr HI.out.2.2.2) (HE.out.2.grown HI.out.2.2.2 (by simp)))
      have hfit : ∀ o ∈ os, o.v.Fit := fun o ho => small_fit (HI.out.2.1 o ho) (HX.out.2.2.2 o ho)
      have HT := Lib.hid (text_is wr HE3.out.1.env (E 2) (E 3) HE3.out.1.long HE3.out.1.form A k c os HX.out.1 (HX.out.2.1.gr HI.out.2.2.2) (fun o ho => (HX.out.2.2.1 o ho).gr HI.out.2.2.2) hfit (by omega))
      clear htk hfit
      cases R with
      | false =>
        have HN := Lib.hid (show ¬ ∀ o ∈ os.map (·.v), rightS o from fun h => by
          have := HI.out.1.2 (fun o ho => h o.v (List.mem_map.2 ⟨o, ho, rfl⟩))
          cases this)
        go_wp2_with fail
        refine HT.out.mono ?_
        rintro e w2 ⟨k2, hp⟩
        rw [if_neg HN.out] at hp
        subst hp
        have H2 := Lib.hid (And.intro (HE3.out.2.grown k2 (by simp)) (grown_trans HI.out.2.2.2 k2))
        clear k2
        go_wp2_with fail
        refine (num_err w2 _ E 3 (by omega) H2.out.1).mono ?_
        rintro e w3 ⟨rfl, k3⟩
        have H3 := Lib.hid (grown_trans H2.out.2 k3)
        clear k3
        go_wp2_with fail
        go_ret
        exact ⟨rfl, H3.out⟩
      | true =>
        have hall : ∀ o ∈ os, rightS o.v := by simpa using HI.out.1
        have hall2 : ∀ o ∈ os.map (·.v), rightS o := fun o ho => by
          obtain ⟨y, hy, rfl⟩ := List.mem_map.1 ho
          exact hall y hy
        have hlen : (textT (os.map (·.v))).length ≤ 65535 := by
          have := textT_small (os.map (·.v)) (fun o ho => by
            obtain ⟨y, hy, rfl⟩ := List.mem_map.1 ho
            exact small_right (HI.out.2.1 y hy) (HX.out.2.2.2 y hy) (hall y hy))
          rw [List.length_map, HX.out.1] at this
          omega
        have HL := Lib.hid (And.intro hall2 hlen)
        clear hall hall2 hlen
        go_wp2_with fail
        refine HT.out.mono ?_
        rintro e w2 ⟨k2, hp⟩
        rw [if_pos HL.out.1, if_neg (by have := HL.out.2; omega)] at hp
        subst hp
        have H2 := Lib.hid (And.intro (HE3.out.1.gr k2) (And.intro (grown_trans HI.out.2.2.2 k2) (own_gr HI.out.2.2.1 k2)))
        obtain ⟨S, hS⟩ : ∃ S, S = strB (textT (os.map (·.v))) := ⟨_, rfl⟩
        rw [← hS]
        have HS := Lib.hid (show S.data.toList = textT (os.map (·.v)) by rw [hS, strB_list])
        clear k2 hS
        go_wp2_with fail
        have HPr := Lib.hid (got_is S w2 H2.out.1.env (E 2) (E 3) H2.out.1.long H2.out.1.form (textT (os.map (·.v))) HS.out HL.out.2)
        refine HPr.out.mono ?_
        rintro e w3 ⟨k3, hp⟩
        rw [parseLs_text _ HL.out.1] at hp
        obtain ⟨os', hos', A6, c6, rfl, hgot⟩ := hp
        have hl6 : os'.length = k := by
          have := congrArg List.length hos'
          rw [List.length_map, List.length_map, List.length_map, HX.out.1] at this
          exact this
        rw [hl6]
        obtain ⟨B6, d6, rfl⟩ := own_slice _ H2.out.2.2
        have hml : (os.map plainM).length = k := by rw [List.length_map, HX.out.1]
        have hmv : (os.map plainM).map (·.v) = os'.map (·.v) := by rw [hos', List.map_map, List.map_map]; rfl
        have hgw := grown_trans H2.out.2.1 k3
        have HSame := Lib.hid (same_is w3 A6 B6 k c6 d6 os' (os.map plainM) hl6 hmv hgot.row (rowR_own hml (own_gr H2.out.2.2 k3)) hgot.lies (fun o ho => by
          obtain ⟨z, hz, rfl⟩ := List.mem_map.1 ho
          exact plainM_at ((HX.out.2.2.1 z hz).gr hgw)) hgot.fit (by omega))
        have H3 := Lib.hid hgw
        clear hos' hgot hl6 hml hmv hgw k3
        go_wp2_with fail
        refine HSame.out.mono ?_
        rintro e w4 ⟨rfl, k4⟩
        have H4 := Lib.hid (grown_trans H3.out k4)
        clear k4
        go_wp2_with fail
        go_ret
        exact ⟨rfl, H4.out⟩
end Go.Proofs.YtonkdcbmmdhjgaaGreatDoor
