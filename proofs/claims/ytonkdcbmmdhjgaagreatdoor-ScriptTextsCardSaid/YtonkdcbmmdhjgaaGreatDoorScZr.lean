/-
  The document's own: Right.
-/
import Derived.Test.YtonkdcbmmdhjgaaGreatDoorScZp
namespace Go.Proofs.YtonkdcbmmdhjgaaGreatDoor
open Go.RowKit Go.Shelf

attribute [local go_sem] Oper.semAt_some

theorem plain_set {v : OpV} (h : v.Fit) : (plainS v).set.length ≤ 1000 := by
  obtain ⟨kk, nd, nn, st, kp, dt⟩ := v
  have h1 := h.set
  rcases shape_cases kk with (rfl | rfl | rfl | rfl | rfl | rfl | rfl | rfl | rfl | rfl) | ⟨hk, hs⟩
  iterate 10
    · first
        | exact h1
        | exact Nat.zero_le _
  · have e : plainS ⟨kk, nd, nn, st, kp, dt⟩ = ⟨kk, 0, 0, [], [], []⟩ := by unfold plainS; simp only [hs]; rfl
    rw [e]; exact Nat.zero_le _
set_option maxRecDepth 100000 in
set_option maxHeartbeats 2000000 in
theorem rright_is (w : World) (x : OpM) (hx : x.At w) (hf : x.v.Fit) : Calls Tryz.prog 5 #[.agg x.val] w fun e w' => e = .returned (.bool (decide (rightS x.v))) ∧ w.grownBy w' none := by
  obtain ⟨y, hy⟩ : ∃ y, y = plainM x := ⟨_, rfl⟩
  obtain ⟨B, hB⟩ : ∃ B, B = decide (rightS x.v) := ⟨_, rfl⟩
  rw [← hB]
  have hBr : B = true ↔ rightR y.v := by rw [hB, hy, decide_eq_true_iff]; exact right_iff x.v
  have hya : y.At w := by rw [hy]; exact plainM_at hx
  have hyl : y.v.set.length ≤ 1000 := by rw [hy]; exact plain_set hf
  have HP := Lib.hid (fun cs : Array Value => show Calls Tryz.prog 6 #[.agg #[.int .i64 x.v.kind, .int .i64 x.v.node, .int .i64 x.v.n, .slice x.A1 x.v.set.length x.c1, .slice x.A2 x.v.keep.length x.c2, .slice x.A3 x.v.data.length x.c3]] (w.alloc (.cells cs 31)) fun e w' => e = .returned (.agg #[.int .i64 y.v.kind, .int .i64 y.v.node, .int .i64 y.v.n, .slice y.A1 y.v.set.length y.c1, .slice y.A2 y.v.keep.length y.c2, .slice y.A3 y.v.data.length y.c3]) ∧ (w.alloc (.cells cs 31)).grownBy w' none by
    have h := rplain_is (w.alloc (.cells cs 31)) x
    rw [← hy] at h
    exact h)
  clear hy hB hx hf
  obtain ⟨⟨K, D, N, st, kp, dt⟩, A1, c1, A2, c2, A3, c3⟩ := y
  obtain ⟨n, hn⟩ : ∃ n, n = st.length := ⟨_, rfl⟩
  obtain ⟨m, hm⟩ : ∃ m, m = kp.length := ⟨_, rfl⟩
  simp only at HP hBr hyl
  rw [← hn, ← hm] at HP
  rw [← hn] at hyl
  have bad : ¬ rightR ⟨K, D, N, st, kp, dt⟩ → B = false := fun h => by
    cases hb : B with
    | false => rfl
    | true => exact absurd (hBr.1 hb) h
  have HX := Lib.hid (And.intro hBr (And.intro bad (And.intro hya.1 (And.intro hn hm))))
  clear hBr bad hya hn hm
  show Calls Tryz.prog 5 #[.agg #[.int .i64 x.v.kind, .int .i64 x.v.node, .int .i64 x.v.n, .slice x.A1 x.v.set.length x.c1, .slice x.A2 x.v.keep.length x.c2, .slice x.A3 x.v.data.length x.c3]] w fun e w' => e = .returned (.bool B) ∧ w.grownBy w' none
  go_enter Tryz.func5, Tryz.ntmps5
  go_wp2_with fail
  refine (HP.out _).mono ?_
  rintro e w1 ⟨rfl, k1⟩
  have bx := (Blk.new w 31 #[.int .i64 x.v.kind, .int .i64 x.v.node, .int .i64 x.v.n, .slice x.A1 x.v.set.length x.c1, .slice x.A2 x.v.keep.length x.c2, .slice x.A3 x.v.data.length x.c3]).grown k1 (by simp)
  have y0 : w1.cell? ⟨w.heap.size, 0, none⟩ = some (.int .i64 x.v.kind) := bx.cell 0
  have y1 : w1.cell? ⟨w.heap.size, 1, none⟩ = some (.int .i64 x.v.node) := bx.cell 1
  have y2 : w1.cell? ⟨w.heap.size, 2, none⟩ = some (.int .i64 x.v.n) := bx.cell 2
  have y3 : w1.cell? ⟨w.heap.size, 3, none⟩ = some (.slice x.A1 x.v.set.length x.c1) := bx.cell 3
  have y4 : w1.cell? ⟨w.heap.size, 4, none⟩ = some (.slice x.A2 x.v.keep.length x.c2) := bx.cell 4
  have y5 : w1.cell? ⟨w.heap.size, 5, none⟩ = some (.slice x.A3 x.v.data.length x.c3) := bx.cell 5
  have f0 := bx.frozen 0
  have f1 := bx.frozen 1
  have f2 := bx.frozen 2
  have f3 := bx.frozen 3
  have f4 := bx.frozen 4
  have f5 := bx.frozen 5
  have HB := Lib.hid (And.intro bx (grown_trans (World.grownBy_alloc w _ none) k1))
  clear bx k1
  go_upto_region 2 with (fail)
  obtain ⟨W1, hW1⟩ : ∃ W1, ((((((w1.setCell ⟨w.heap.size, 0, none⟩ (.int .i64 K)).setCell ⟨w.heap.size, 1, none⟩ (.int .i64 D)).setCell ⟨w.heap.size, 2, none⟩ (.int .i64 N)).setCell ⟨w.heap.size, 3, none⟩ (.slice A1 n c1)).setCell ⟨w.heap.size, 4, none⟩ (.slice A2 m c2)).setCell ⟨w.heap.size, 5, none⟩ (.slice A3 dt.length c3)) = W1 := ⟨_, rfl⟩
  have bx : Blk W1 w.heap.size 31 #[.int .i64 K, .int .i64 D, .int .i64 N, .slice A1 n c1, .slice A2 m c2, .slice A3 dt.length c3] := by rw [← hW1]; exact op_stored HB.out.1 rfl _ _ _ _ _ _
  have g1 : w.grownBy W1 none := by rw [← hW1]; exact op_grown HB.out.2 (Nat.le_refl _) _ _ _ _ _ _
  rw [hW1]
  clear y0 y1 y2 y3 y4 y5 f0 f1 f2 f3 f4 f5 hW1
  have z0 : W1.cell? ⟨w.heap.size, 0, none⟩ = some (.int .i64 K) := bx.cell 0
  have z1 : W1.cell? ⟨w.heap.size, 1, none⟩ = some (.int .i64 D) := bx.cell 1
  have z2 : W1.cell? ⟨w.heap.size, 2, none⟩ = some (.int .i64 N) := bx.cell 2
  have z3 : W1.cell? ⟨w.heap.size, 3, none⟩ = some (.slice A1 n c1) := bx.cell 3
  have z4 : W1.cell? ⟨w.heap.size, 4, none⟩ = some (.slice A2 m c2) := bx.cell 4
  have HG := Lib.hid g1
  clear bx g1
  by_cases q0 : K < 1
  · have e0 : decide (K < 1) = true := by simpa using q0
    have HBF := Lib.hid (HX.out.2.1 (fun h => by have h1 := h.1; have h2 := HX.out.2.2.2.1; have h3 := HX.out.2.2.2.2; simp only at h1; omega))
    go_wp2_with fail
    go_ret
    exact ⟨by rw [HBF.out]; rfl, HG.out⟩
  have e0 : decide (K < 1) = false := by simpa using q0
  by_cases q1 : 10 < K
  · have e1 : decide (10 < K) = true := by simpa using q1
    have HBF := Lib.hid (HX.out.2.1 (fun h => by have h1 := h.2.1; have h2 := HX.out.2.2.2.1; have h3 := HX.out.2.2.2.2; simp only at h1; omega))
    go_wp2_with fail
    go_ret
    exact ⟨by rw [HBF.out]; rfl, HG.out⟩
  have e1 : decide (10 < K) = false := by simpa using q1
  by_cases q2 : N < 0
  · have e2 : decide (N < 0) = true := by simpa using q2
    have HBF := Lib.hid (HX.out.2.1 (fun h => by have h1 := h.2.2.1.1; have h2 := HX.out.2.2.2.1; have h3 := HX.out.2.2.2.2; simp only at h1; omega))
    go_wp2_with fail
    go_ret
    exact ⟨by rw [HBF.out]; rfl, HG.out⟩
  have e2 : decide (N < 0) = false := by simpa using q2
  by_cases q3 : 999999 < N
  · have e3 : decide (999999 < N) = true := by simpa using q3
    have HBF := Lib.hid (HX.out.2.1 (fun h => by have h1 := h.2.2.1.2; have h2 := HX.out.2.2.2.1; have h3 := HX.out.2.2.2.2; simp only at h1; omega))
    go_wp2_with fail
    go_ret
    exact ⟨by rw [HBF.out]; rfl, HG.out⟩
  have e3 : decide (999999 < N) = false := by simpa using q3
  by_cases q4 : D < 0
  · have e4 : decide (D < 0) = true := by simpa using q4
    have HBF := Lib.hid (HX.out.2.1 (fun h => by have h1 := h.2.2.2.1.1; have h2 := HX.out.2.2.2.1; have h3 := HX.out.2.2.2.2; simp only at h1; omega))
    go_wp2_with fail
    go_ret
    exact ⟨by rw [HBF.out]; rfl, HG.out⟩
  have e4 : decide (D < 0) = false := by simpa using q4
  by_cases q5 : 999999 < D
  · have e5 : decide (999999 < D) = true := by simpa using q5
    have HBF := Lib.hid (HX.out.2.1 (fun h => by have h1 := h.2.2.2.1.2; have h2 := HX.out.2.2.2.1; have h3 := HX.out.2.2.2.2; simp only at h1; omega))
    go_wp2_with fail
    go_ret
    exact ⟨by rw [HBF.out]; rfl, HG.out⟩
  have e5 : decide (999999 < D) = false := by simpa using q5
  by_cases q6 : (7 : Int) < (n : Int)
  · have e6 : decide ((7 : Int) < (n : Int)) = true := by simpa using q6
    have HBF := Lib.hid (HX.out.2.1 (fun h => by have h1 := h.2.2.2.2.1; have h2 := HX.out.2.2.2.1; have h3 := HX.out.2.2.2.2; simp only at h1; omega))
    go_wp2_with fail
    go_ret
    exact ⟨by rw [HBF.out]; rfl, HG.out⟩
  have e6 : decide ((7 : Int) < (n : Int)) = false := by simpa using q6
  by_cases q7 : (64 : Int) < (m : Int)
  · have e7 : decide ((64 : Int) < (m : Int)) = true := by simpa using q7
    have HBF := Lib.hid (HX.out.2.1 (fun h => by have h1 := h.2.2.2.2.2.1; have h2 := HX.out.2.2.2.1; have h3 := HX.out.2.2.2.2; simp only at h1; omega))
    go_wp2_with fail
    go_ret
    exact ⟨by rw [HBF.out]; rfl, HG.out⟩
  have e7 : decide ((64 : Int) < (m : Int)) = false := by simpa using q7
  go_wp2_with fail
  go_loopw [50] (fun i wr => ∃ k : Nat, k ≤ n ∧ i = .int .i64 (k : Int) ∧ Hid ((∀ z ∈ st.take k, 0 ≤ z ∧ z ≤ 999999) ∧ w.grownBy wr none)) (fun i _ => n - (intOf i).toNat)
  case atStart => exact ⟨0, Nat.zero_le _, rfl, Lib.hid ⟨by simp, HG.out⟩⟩
  case round =>
    obtain ⟨k, hk, rfl, HI⟩ := hrel
    rename World => wr
    by_cases hlt : k < n
    · have d1 : decide ((k : Int) < (n : Int)) = true := by simp; omega
      have hkl : k < st.length := by rw [← HX.out.2.2.2.1]; exact hlt
      obtain ⟨b, off, rfl, hc⟩ := (HX.out.2.2.1.gr HI.out.2).get (by intro e; rw [e] at hkl; simp at hkl)
      obtain ⟨Z, hZ⟩ : ∃ Z, Z = st[k] := ⟨_, rfl⟩
      have c0 : wr.cell? ⟨b, off + k, none⟩ = some (.int .i64 Z) := by rw [hZ]; exact hc k hkl
      have hZm : Z ∈ st := by rw [hZ]; exact List.getElem_mem hkl
      have htk : st.take (k + 1) = st.take k ++ [Z] := by rw [List.take_add_one, List.getElem?_eq_getElem hkl, hZ]; rfl
      have HH := Lib.hid (And.intro hZm htk)
      clear hc hZ hZm htk hkl
      by_cases p1 : Z < 0
      · have d2 : decide (Z < 0) = true := by simpa using p1
        have HBF := Lib.hid (HX.out.2.1 (fun h => by have := (h.2.2.2.2.2.2 Z HH.out.1).1; omega))
        go_wp2_with fail
        go_ret
        exact ⟨by rw [HBF.out]; rfl, HI.out.2⟩
      have d2 : decide (Z < 0) = false := by simpa using p1
      by_cases p2 : 999999 < Z
      · have d3 : decide (999999 < Z) = true := by simpa using p2
        have HBF := Lib.hid (HX.out.2.1 (fun h => by have := (h.2.2.2.2.2.2 Z HH.out.1).2; omega))
        go_wp2_with fail
        go_ret
        exact ⟨by rw [HBF.out]; rfl, HI.out.2⟩
      have d3 : decide (999999 < Z) = false := by simpa using p2
      go_wp2_with fail
      go_roundw
      case rel =>
        refine ⟨k + 1, by omega, rfl, Lib.hid ⟨fun z hz => ?_, HI.out.2⟩⟩
        rw [HH.out.2] at hz
        rcases List.mem_append.1 hz with hz | hz
        · exact HI.out.1 z hz
        · obtain rfl : z = Z := by simpa using hz
          omega
      case measure => simp [intOf]; omega
    · have d1 : decide ((k : Int) < (n : Int)) = false := by simp; omega
      obtain rfl : k = n := by omega
      have HBT := Lib.hid (HX.out.1.2 ⟨by show 1 ≤ K; omega, by show K ≤ 10; omega, ⟨by show 0 ≤ N; omega, by show N ≤ 999999; omega⟩, ⟨by show 0 ≤ D; omega, by show D ≤ 999999; omega⟩, by show st.length ≤ 7; rw [← HX.out.2.2.2.1]; omega, by show kp.length ≤ 64; rw [← HX.out.2.2.2.2]; omega, by
        have h := HI.out.1
        rwa [List.take_of_length_le (by rw [← HX.out.2.2.2.1]; exact Nat.le_refl _)] at h⟩)
      go_wp2_with fail
      go_ret
      exact ⟨by rw [HBT.out]; rfl, HI.out.2⟩
end Go.Proofs.YtonkdcbmmdhjgaaGreatDoor
