/-
  The document's own Same; same.
-/
import Derived.Test.YtonkdcbmmdhjgaaGreatDoorScV
import Derived.Test.YtonkdcbmmdhjgaaGreatDoorSi
namespace Go.Proofs.YtonkdcbmmdhjgaaGreatDoor
open Go.RowKit Go.Shelf

theorem str_at3 {w : World} {A : Option Addr} {n c : Nat} {l : List UInt8} (hb : BytesAt w A l) (hn : l.length = n) :
    (convert 27 9 (.slice A n c)).run Tryz.prog w = .ok (.string (strB l)) w := by
  subst hn
  rcases A with _ | ad
  · have hl0 : l = [] := by
      rcases l with _ | ⟨x, r⟩
      · rfl
      · obtain ⟨_, h, _⟩ := hb (by simp)
        cases h
    subst hl0
    exact run_convert_bytes_nil w 27 5 Tryz.underlying27 Tryz.underlying5 _ _ 9 Tryz.underlying9
  · refine run_convert_bytes_back w 27 9 5 ad c l Tryz.underlying27 Tryz.underlying5 Tryz.underlying9 fun j hj => ?_
    obtain ⟨ad', h, hc⟩ := hb (by intro e; subst e; simp at hj)
    injection h with h
    subst h
    exact hc j hj
set_option maxRecDepth 100000 in
set_option maxHeartbeats 2000000 in
theorem rsame_is (w : World) (v : OpV) (A1 A2 A3 B1 B2 B3 : Option Addr) (c1 c2 c3 d1 d2 d3 : Nat) (hx : OpM.At w ⟨v, A1, c1, A2, c2, A3, c3⟩) (hy : OpM.At w ⟨v, B1, d1, B2, d2, B3, d3⟩) (hf : v.Fit) :
    Calls Tryz.prog 19 #[.agg #[.int .i64 v.kind, .int .i64 v.node, .int .i64 v.n, .slice A1 v.set.length c1, .slice A2 v.keep.length c2, .slice A3 v.data.length c3], .agg #[.int .i64 v.kind, .int .i64 v.node, .int .i64 v.n, .slice B1 v.set.length d1, .slice B2 v.keep.length d2, .slice B3 v.data.length d3]] w fun e w' => e = .returned (.bool true) ∧ w.grownBy w' none := by
  obtain ⟨W0, hW0⟩ : ∃ W0, W0 = (w.alloc (.cells #[.int .i64 v.kind, .int .i64 v.node, .int .i64 v.n, .slice A1 v.set.length c1, .slice A2 v.keep.length c2, .slice A3 v.data.length c3] 31)).alloc (.cells #[.int .i64 v.kind, .int .i64 v.node, .int .i64 v.n, .slice B1 v.set.length d1, .slice B2 v.keep.length d2, .slice B3 v.data.length d3] 31) := ⟨_, rfl⟩
  have g0 : w.grownBy W0 none := by rw [hW0]; exact grown_trans (World.grownBy_alloc w _ none) (World.grownBy_alloc _ _ none)
  have bx : Blk W0 w.heap.size 31 #[.int .i64 v.kind, .int .i64 v.node, .int .i64 v.n, .slice A1 v.set.length c1, .slice A2 v.keep.length c2, .slice A3 v.data.length c3] := by rw [hW0]; exact (Blk.new w _ _).alloc _
  have by' : Blk W0 (w.heap.size + 1) 31 #[.int .i64 v.kind, .int .i64 v.node, .int .i64 v.n, .slice B1 v.set.length d1, .slice B2 v.keep.length d2, .slice B3 v.data.length d3] := by
    have := Blk.new (w.alloc (.cells #[.int .i64 v.kind, .int .i64 v.node, .int .i64 v.n, .slice A1 v.set.length c1, .slice A2 v.keep.length c2, .slice A3 v.data.length c3] 31)) 31 #[.int .i64 v.kind, .int .i64 v.node, .int .i64 v.n, .slice B1 v.set.length d1, .slice B2 v.keep.length d2, .slice B3 v.data.length d3]
    rw [World.size_alloc] at this
    rw [hW0]; exact this
  have HSI := Lib.hid (sameints_is W0 A1 B1 c1 d1 v.set.length v.set rfl (Nat.le_trans hf.set (by decide)) (hx.1.gr g0) (hy.1.gr g0))
  have HX := Lib.hid (And.intro (hx.gr g0) (And.intro (hy.gr g0) (And.intro hf g0)))
  have HB := Lib.hid (And.intro bx by')
  have HW := Lib.hid hW0
  clear hx hy hf g0 bx by' hW0
  go_enter Tryz.func19, Tryz.ntmps19
  go_wp2_with fail
  rw [← HW.out]
  refine HSI.out.mono ?_
  rintro e w2 ⟨rfl, k2⟩
  obtain ⟨n, hn⟩ : ∃ n, n = v.keep.length := ⟨_, rfl⟩
  have hnb : n ≤ 1000 := by rw [hn]; exact HX.out.2.2.1.keep
  rw [← hn] at HB ⊢
  have bx := HB.out.1.grown k2 (by simp)
  have by' := HB.out.2.grown k2 (by simp)
  have x4 : w2.cell? ⟨w.heap.size, 4, none⟩ = some (.slice A2 n c2) := bx.cell 4
  have x5 : w2.cell? ⟨w.heap.size, 5, none⟩ = some (.slice A3 v.data.length c3) := bx.cell 5
  have y4 : w2.cell? ⟨w.heap.size + 1, 4, none⟩ = some (.slice B2 n d2) := by'.cell 4
  have y5 : w2.cell? ⟨w.heap.size + 1, 5, none⟩ = some (.slice B3 v.data.length d3) := by'.cell 5
  obtain ⟨S, hS⟩ : ∃ S, S = strB v.data := ⟨_, rfl⟩
  have v1 : Sem.run Tryz.prog (convert 27 9 (.slice A3 v.data.length c3)) w2 = .ok (.string S) w2 := by rw [hS]; exact str_at3 (HX.out.1.2.2.grown k2 (by simp)) rfl
  have v2 : Sem.run Tryz.prog (convert 27 9 (.slice B3 v.data.length d3)) w2 = .ok (.string S) w2 := by rw [hS]; exact str_at3 (HX.out.2.1.2.2.grown k2 (by simp)) rfl
  have H2 := Lib.hid (And.intro (HX.out.1.2.1.grown k2) (And.intro (HX.out.2.1.2.1.grown k2) (And.intro (grown_trans HX.out.2.2.2 k2) hn)))
  clear k2 bx by' hS hn
  go_wp2_with fail
  go_loopw [54] (fun i wr => ∃ k : Nat, k ≤ n ∧ i = .int .i64 (k : Int) ∧ w2.grownBy wr none) (fun i _ => n - (intOf i).toNat)
  case atStart => exact ⟨0, Nat.zero_le _, rfl, World.grownBy.refl _ _⟩
  case round =>
    obtain ⟨k, hk, rfl, hK⟩ := hrel
    rename World => wr
    have HK := Lib.hid hK
    by_cases hlt : k < n
    · have e1 : decide ((k : Int) < (n : Int)) = true := by simp; omega
      have hkd : k < v.keep.length := by rw [← H2.out.2.2.2]; exact hlt
      have hne : v.keep ≠ [] := by intro e; rw [e] at hkd; simp at hkd
      obtain ⟨b1, o1, rfl, hc1⟩ := H2.out.1.grown hK hne
      obtain ⟨b2, o2, rfl, hc2⟩ := H2.out.2.1.grown hK hne
      obtain ⟨x, hx⟩ : ∃ x, x = v.keep[k] := ⟨_, rfl⟩
      have g1 := Gr.cell (show wr.cell? ⟨b1, o1 + k, none⟩ = some (.bool x) by rw [hx]; exact hc1 k hkd)
      have g2 := Gr.cell (show wr.cell? ⟨b2, o2 + k, none⟩ = some (.bool x) by rw [hx]; exact hc2 k hkd)
      have g3 := Gr.cell (hK.cell x4 (by simp))
      have g4 := Gr.cell (hK.cell y4 (by simp))
      clear hc1 hc2 hx hkd hne v1 v2 x5 y5 hK
      go_upto_region 6 with (fail)
      refine wp_region_grown (by kernel_rfl) (by kernel_rfl) ?_
      repeat (go_big_quiet_step (fail))
      refine wpQuiet_nil ?_
      rintro w5 ⟨⟨_, k5⟩, rfl⟩
      have HK5 := Lib.hid (grown_trans HK.out k5)
      clear k5 g1 g2 g3 g4
      go_wp2_with fail
      go_roundw
      case rel => exact ⟨k + 1, by omega, rfl, HK5.out⟩
      case measure => simp [intOf]; omega
    · have e1 : decide ((k : Int) < (n : Int)) = false := by simp; omega
      clear v1 v2 hK
      go_wp2_with fail
      go_ret
      exact ⟨rfl, grown_trans H2.out.2.2.1 HK.out⟩
theorem loadat_row {V : World} {b off k : Nat} {x : OpM} (h : V.rangeAt b (off + k * 6) x.val.toList) : (Instr.loadAt 29 (.pointer (some ⟨b, off + k * 6, none⟩))).run Tryz.prog V = .ok (.agg x.val) V ∧ (Instr.loadAt 31 (.pointer (some ⟨b, off + k * 6, none⟩))).run Tryz.prog V = .ok (.agg x.val) V := by
  obtain ⟨h0, h1, h2, h3, h4, h5⟩ := row_cells h
  constructor
  · go_simp; rfl
  · go_simp; rfl
set_option maxRecDepth 100000 in
set_option maxHeartbeats 2000000 in
/-- same, of two rows of the same ops. -/
theorem same_is (w : World) (A B : Option Addr) (n c d : Nat) (xs ys : List OpM) (hx : xs.length = n) (hv : ys.map (·.v) = xs.map (·.v)) (hA : OpRow w A xs) (hB : OpRow w B ys) (hxa : ∀ o ∈ xs, o.At w) (hya : ∀ o ∈ ys, o.At w) (hf : ∀ o ∈ xs, o.v.Fit) (hn : n ≤ 100000) :
    Calls Tryz.prog 10 #[.slice A n c, .slice B n d] w fun e w' => e = .returned (.bool true) ∧ w.grownBy w' none := by
  have hy : ys.length = n := by
    have h := congrArg List.length hv
    rw [List.length_map, List.length_map] at h
    omega
  have HX := Lib.hid (And.intro hx (And.intro hv (And.intro hA (And.intro hB (And.intro hxa (And.intro hya (And.intro hf hy)))))))
  clear hx hv hA hB hxa hya hf hy
  go_enter Tryz.func10, Tryz.ntmps10
  go_wp2_with fail
  go_loopw [13] (fun i wr => ∃ k : Nat, k ≤ n ∧ i = .int .i64 (k : Int) ∧ w.grownBy wr none) (fun i _ => n - (intOf i).toNat)
  case atStart => exact ⟨0, Nat.zero_le _, rfl, World.grownBy.refl _ _⟩
  case round =>
    obtain ⟨k, hk, rfl, hK⟩ := hrel
    rename World => wr
    have HK := Lib.hid hK
    by_cases hlt : k < n
    · have e1 : decide ((k : Int) < (n : Int)) = true := by simp; omega
      have hkx : k < xs.length := by rw [HX.out.1]; exact hlt
      have hky : k < ys.length := by rw [HX.out.2.2.2.2.2.2.2]; exact hlt
      obtain ⟨b1, o1, rfl, hc1⟩ := (HX.out.2.2.1.gr hK) (by intro e; rw [e] at hkx; simp at hkx)
      obtain ⟨b2, o2, rfl, hc2⟩ := (HX.out.2.2.2.1.gr hK) (by intro e; rw [e] at hky; simp at hky)
      obtain ⟨x, hx⟩ : ∃ x, x = xs[k] := ⟨_, rfl⟩
      obtain ⟨y, hy⟩ : ∃ y, y = ys[k] := ⟨_, rfl⟩
      have hxm : x ∈ xs := by rw [hx]; exact List.getElem_mem hkx
      have hym : y ∈ ys := by rw [hy]; exact List.getElem_mem hky
      have hvv : y.v = x.v := by
        have h := congrArg (fun l => l[k]?) HX.out.2.1
        simp only [List.getElem?_map, List.getElem?_eq_getElem hkx, List.getElem?_eq_getElem hky, Option.map_some, Option.some.injEq] at h
        rw [hx, hy]; exact h
      have r1 := hc1 k hkx
      have r2 := hc2 k hky
      rw [← hx] at r1
      rw [← hy] at r2
      obtain ⟨va, hva⟩ : ∃ va, va = x.val := ⟨_, rfl⟩
      obtain ⟨vb, hvb⟩ : ∃ vb, vb = y.val := ⟨_, rfl⟩
      have V1 := Lib.hid (fun z : Gr wr => show (Instr.loadAt 29 (.pointer (some ⟨b1, o1 + k * 6, none⟩))).run Tryz.prog z.1 = .ok (.agg va) z.1 by rw [hva]; exact (loadat_row (range_gr r1 z.2)).1)
      have V2 := Lib.hid (fun z : Gr wr => show (Instr.loadAt 31 (.pointer (some ⟨b2, o2 + k * 6, none⟩))).run Tryz.prog z.1 = .ok (.agg vb) z.1 by rw [hvb]; exact (loadat_row (range_gr r2 z.2)).2)
      have C1 := Lib.hid (fun z : Gr wr => show Calls Tryz.prog 19 #[.agg va, .agg vb] z.1 fun e w' => e = .returned (.bool true) ∧ z.1.grownBy w' none by
        have g := grown_trans hK z.2
        obtain ⟨xv, X1, x1, X2, x2, X3, x3⟩ := x
        obtain ⟨yv, Y1, y1, Y2, y2, Y3, y3⟩ := y
        simp only at hvv
        subst hvv
        have h := rsame_is z.1 yv X1 X2 X3 Y1 Y2 Y3 x1 x2 x3 y1 y2 y3 ((HX.out.2.2.2.2.1 _ hxm).gr g) ((HX.out.2.2.2.2.2.1 _ hym).gr g) (HX.out.2.2.2.2.2.2.1 _ hxm)
        rw [hva, hvb]; exact h)
      clear hc1 hc2 hx hy hxm hym hvv r1 r2 hva hvb hkx hky hK
      go_upto_region 6 with (fail)
      refine wp_region_grown (by kernel_rfl) (by kernel_rfl) ?_
      repeat (first
        | (refine wpQuiet_load_row 29 _ ⟨b1, o1 + k * 6, none⟩ (.agg va) (by rfl) rfl rfl (by rintro _ ⟨z, rfl⟩; exact V1.out z) ?_; simp only [Act.put, List.setIfInBounds_toArray, List.set_cons_zero, List.set_cons_succ])
        | (refine wpQuiet_load_row 31 _ ⟨b2, o2 + k * 6, none⟩ (.agg vb) (by rfl) rfl rfl (by rintro _ ⟨z, rfl⟩; exact V2.out z) ?_; simp only [Act.put, List.setIfInBounds_toArray, List.set_cons_zero, List.set_cons_succ])
        | go_big_quiet_step (first
          | (go_at_call 19; with_reducible exact Calls.grown _ (C1.out _))))
      refine wpQuiet_nil ?_
      rintro w5 ⟨⟨_, k5⟩, rfl⟩
      have HK5 := Lib.hid (grown_trans HK.out k5)
      clear k5 V1 V2 C1
      go_wp2_with fail
      go_roundw
      case rel => exact ⟨k + 1, by omega, rfl, HK5.out⟩
      case measure => simp [intOf]; omega
    · have e1 : decide ((k : Int) < (n : Int)) = false := by simp; omega
      clear hK
      go_wp2_with fail
      go_ret
      exact ⟨rfl, HK.out⟩
end Go.Proofs.YtonkdcbmmdhjgaaGreatDoor
