/-
  RulesRows: the walk.
-/
import Derived.Test.YtjmdlpefacbmmaaDoorRuPure
import Derived.Test.YtjmdlpefacbmmaaDoorRu8
import Derived.Test.YtjmdlpefacbmmaaDoorRu9
import Derived.Test.YtjmdlpefacbmmaaDoorRuCovers
import Derived.Test.YtjmdlpefacbmmaaDoorRuArgs
namespace Go.Proofs.YtjmdlpefacbmmaaDoor
open Go.RowKit

theorem right_v (w : World) (s : St) (h : okS s) : Calls Tryd.prog 13 #[s.val] w fun en w' => en = .returned (.bool true) ∧ w.grownBy w' none :=
  (right_is w s.e s.v s.l s.p s.f).mono fun en w' ⟨e1, e2⟩ => ⟨by rw [e1, show rightB s.e s.v s.l s.p s.f = true from h], e2⟩

set_option maxHeartbeats 16000000 in
theorem rows_any (w : World) (B : Nat) (E : Nat → Addr) (he : ErrEnv w B E) (A : Option Addr) (n c : Nat) (xs : List Stp) (hn : xs.length = n) (hx : StpsAt w A xs) :
    Calls Tryd.prog 4 #[.slice A n c] w fun en w' => en = .returned (.bool true) ∧ w.grownBy w' none := by
  by_cases hbig : 100 < n
  · have d1 : decide ((100 : Int) < (n : Int)) = true := by simp; omega
    clear hn hbig
    go_enter Tryd.func4, Tryd.ntmps4
    go_wp2_with fail
    refine (rules_alive _ B E he).mono ?_
    rintro en w1 ⟨rfl, k1⟩
    go_wp2_with fail
    go_ret
    exact ⟨rfl, k1⟩
  · have d1 : decide ((100 : Int) < (n : Int)) = false := by simp; omega
    have hn100 : n ≤ 100 := by omega
    have Hn := Lib.hid hn
    clear hn hbig
    go_enter Tryd.func4, Tryd.ntmps4
    go_wp2_with fail
    refine (rules_alive _ B E he).mono ?_
    rintro en w1 ⟨rfl, k1⟩
    have hS := (Blk.new w1 23 (stC 0 0 0 0 0)).alloc (.cells (stC 0 0 0 0 0) 29)
    have hM := Blk.new (w1.alloc (.cells (stC 0 0 0 0 0) 23)) 29 (stC 0 0 0 0 0)
    rw [World.size_alloc] at hM
    have ka := grown_trans (grown_trans k1 (World.grownBy_alloc w1 (.cells (stC 0 0 0 0 0) 23) none)) (World.grownBy_alloc _ (.cells (stC 0 0 0 0 0) 29) none)
    have hg := k1.size
    go_wp2_with fail
    generalize (w1.alloc (.cells (stC 0 0 0 0 0) 23)).alloc (.cells (stC 0 0 0 0 0) 29) = w2 at *
    generalize w1.heap.size = g3 at *
    clear k1
    go_loopw [20] (fun i wr => ∃ (k : Nat) (s : St), k ≤ n ∧ i = .int .i64 (k : Int) ∧ okS s ∧ Blk wr g3 23 (stC s.e s.v s.l s.p s.f) ∧ Blk wr (g3 + 1) 29 (stC s.e s.v s.l s.p s.f) ∧ w.grownBy wr none) (fun i _ => n - (intOf i).toNat)
    case atStart => exact ⟨0, ⟨0, 0, 0, 0, 0⟩, Nat.zero_le _, rfl, okS_zero, hS, hM, ka⟩
    case round =>
      obtain ⟨k, s, hk, rfl, hI, hS, hM, K⟩ := hrel
      by_cases hlt : k < n
      · have hlt' : decide ((k : Int) < (n : Int)) = true := by simp; omega
        have hkz : k < xs.length := by have := Hn.out; omega
        obtain ⟨zb, zo, rfl, hc⟩ := (hx.kept (Kept.of_grown (F := fun _ => False) K (fun _ e => by cases e))) (by intro e; rw [e] at hkz; simp at hkz)
        obtain ⟨x0, x1, x2, x3, x4⟩ := hc k hkz
        clear hc
        generalize xs[k] = x at x0 x1 x2 x3 x4
        have nS := hS.lt
        have nM := hM.lt
        have hX := Blk.new wr 25 #[.int .i64 x.k, .int .i64 x.ep, .int .i64 x.r, .int .i64 x.q, .int .i64 x.g]
        have hS := hS.alloc (.cells #[.int .i64 x.k, .int .i64 x.ep, .int .i64 x.r, .int .i64 x.q, .int .i64 x.g] 25)
        have hM := hM.alloc (.cells #[.int .i64 x.k, .int .i64 x.ep, .int .i64 x.r, .int .i64 x.q, .int .i64 x.g] 25)
        have K := grown_trans K (World.grownBy_alloc wr (.cells #[.int .i64 x.k, .int .i64 x.ep, .int .i64 x.r, .int .i64 x.q, .int .i64 x.g] 25) none)
        have he2 := he.grown K (by simp)
        have s0 := hS.cell 0
        have s1 := hS.cell 1
        have s2 := hS.cell 2
        have s3 := hS.cell 3
        have s4 := hS.cell 4
        simp at s0 s1 s2 s3 s4
        have D1 := do_is _ B E he2 s x
        have D2 := fun w' => told_is w' s x
        have hok := okS_step s x hI
        have hcov := cov_step s x
        have hnot := cov_not s x
        generalize stepR s x = t at D1 D2 hok hcov hnot
        generalize stepE s x = m at D1 D2 hnot
        have HN := Lib.hid hnot
        have H2 := Lib.hid D2
        clear hnot D2
        go_wp2_with fail
        refine D1.mono ?_
        rintro en w4 ⟨rfl, k4⟩
        clear D1 he2 x0 x1 x2 x3 x4 s0 s1 s2 s3 s4
        have n4 := k4.size
        simp at n4
        have hS := (hS.grown k4 (by simp)).alloc (.cells (stC t.e t.v t.l t.p t.f) 23)
        have hM := (hM.grown k4 (by simp)).alloc (.cells (stC t.e t.v t.l t.p t.f) 23)
        have hX := (hX.grown k4 (by simp)).alloc (.cells (stC t.e t.v t.l t.p t.f) 23)
        have hT := Blk.new w4 23 (stC t.e t.v t.l t.p t.f)
        have K := grown_trans (grown_trans K k4) (World.grownBy_alloc w4 (.cells (stC t.e t.v t.l t.p t.f) 23) none)
        clear k4
        have y0 := hM.cell 0
        have y1 := hM.cell 1
        have y2 := hM.cell 2
        have y3 := hM.cell 3
        have y4 := hM.cell 4
        simp at y0 y1 y2 y3 y4
        have x0 := hX.cell 0
        have x1 := hX.cell 1
        have x2 := hX.cell 2
        have x3 := hX.cell 3
        have x4 := hX.cell 4
        simp at x0 x1 x2 x3 x4
        go_wp2_with fail
        refine (H2.out _).mono ?_
        rintro en w5 ⟨rfl, k5⟩
        clear H2 y0 y1 y2 y3 y4 x0 x1 x2 x3 x4
        have n5 := k5.size
        simp at n5
        have hS := (hS.grown k5 (by simp)).alloc (.cells (stC t.e t.v t.l t.p t.f) 29)
        have hM := (hM.grown k5 (by simp)).alloc (.cells (stC t.e t.v t.l t.p t.f) 29)
        have hX := (hX.grown k5 (by simp)).alloc (.cells (stC t.e t.v t.l t.p t.f) 29)
        have hT := (hT.grown k5 (by simp)).alloc (.cells (stC t.e t.v t.l t.p t.f) 29)
        have hU := Blk.new w5 29 (stC t.e t.v t.l t.p t.f)
        have K := grown_trans (grown_trans K k5) (World.grownBy_alloc w5 (.cells (stC t.e t.v t.l t.p t.f) 29) none)
        clear k5
        have hnot := HN.out
        clear HN
        have a0 := hT.cell 0
        have a1 := hT.cell 1
        have a2 := hT.cell 2
        have a3 := hT.cell 3
        have a4 := hT.cell 4
        simp at a0 a1 a2 a3 a4
        have u0 := hU.cell 0
        have u1 := hU.cell 1
        have u2 := hU.cell 2
        have u3 := hU.cell 3
        have u4 := hU.cell 4
        simp at u0 u1 u2 u3 u4
        have s0 := hS.cell 0
        have s1 := hS.cell 1
        have s2 := hS.cell 2
        have s3 := hS.cell 3
        have s4 := hS.cell 4
        simp at s0 s1 s2 s3 s4
        have HN := Lib.hid hnot
        clear hnot
        generalize w4.heap.size = gT at *
        go_wp2_with fail
        generalize w5.heap.size = gU at *
        refine (cov_v _ t s true hcov).mono ?_
        rintro en w7 ⟨rfl, k7⟩
        have hS := hS.grown k7 (by simp)
        have hM := hM.grown k7 (by simp)
        have hX := hX.grown k7 (by simp)
        have hT := hT.grown k7 (by simp)
        have hU := hU.grown k7 (by simp)
        have K := grown_trans K k7
        clear k7
        clear a0 a1 a2 a3 a4 u0 u1 u2 u3 u4 s0 s1 s2 s3 s4
        have a0 := hT.cell 0
        have a1 := hT.cell 1
        have a2 := hT.cell 2
        have a3 := hT.cell 3
        have a4 := hT.cell 4
        simp at a0 a1 a2 a3 a4
        go_wp2_with fail
        refine (right_v _ t hok).mono ?_
        rintro en w8 ⟨rfl, k8⟩
        have hS := hS.grown k8 (by simp)
        have hM := hM.grown k8 (by simp)
        have hX := hX.grown k8 (by simp)
        have hT := hT.grown k8 (by simp)
        have hU := hU.grown k8 (by simp)
        have K := grown_trans K k8
        clear k8
        clear a0 a1 a2 a3 a4
        have hnot := HN.out
        clear HN
        have hw : ((m : Int) == 0) = false ∨ (m = 0 ∧ decide (1 ≤ x.k) = false) ∨ (m = 0 ∧ decide (1 ≤ x.k) = true ∧ decide (x.k ≤ 4) = false) ∨ (m = 0 ∧ decide (1 ≤ x.k) = true ∧ decide (x.k ≤ 4) = true ∧ covB s t = false) := by
          by_cases h0 : m = 0
          · by_cases h1 : 1 ≤ x.k
            · by_cases h4 : x.k ≤ 4
              · exact .inr (.inr (.inr ⟨h0, by simpa using h1, by simpa using h4, hnot h0 h1 h4⟩))
              · exact .inr (.inr (.inl ⟨h0, by simpa using h1, by simpa using h4⟩))
            · exact .inr (.inl ⟨h0, by simpa using h1⟩)
          · exact .inl (by simp; omega)
        clear hnot
        rcases hw with c1 | ⟨rfl, c1⟩ | ⟨rfl, c1, c2⟩ | ⟨rfl, c1, c2, c3⟩
        · have a0 := hT.cell 0
          have a1 := hT.cell 1
          have a2 := hT.cell 2
          have a3 := hT.cell 3
          have a4 := hT.cell 4
          simp at a0 a1 a2 a3 a4
          have u0 := hU.cell 0
          have u1 := hU.cell 1
          have u2 := hU.cell 2
          have u3 := hU.cell 3
          have u4 := hU.cell 4
          simp at u0 u1 u2 u3 u4
          have s0 := hS.cell 0
          have s1 := hS.cell 1
          have s2 := hS.cell 2
          have s3 := hS.cell 3
          have s4 := hS.cell 4
          have sf0 := hS.frozen 0
          have sf1 := hS.frozen 1
          have sf2 := hS.frozen 2
          have sf3 := hS.frozen 3
          have sf4 := hS.frozen 4
          simp at s0 s1 s2 s3 s4
          have y0 := hM.cell 0
          have y1 := hM.cell 1
          have y2 := hM.cell 2
          have y3 := hM.cell 3
          have y4 := hM.cell 4
          have yf0 := hM.frozen 0
          have yf1 := hM.frozen 1
          have yf2 := hM.frozen 2
          have yf3 := hM.frozen 3
          have yf4 := hM.frozen 4
          simp at y0 y1 y2 y3 y4
          have e1 : ¬ gT = g3 := by omega
          have e2 : ¬ gT = g3 + 1 := by omega
          have e3 : ¬ gU = g3 := by omega
          have e4 : ¬ gU = g3 + 1 := by omega
          have e5 : ¬ g3 = gT := by omega
          have e6 : ¬ g3 + 1 = gT := by omega
          have e7 : ¬ g3 = gU := by omega
          have e8 : ¬ g3 + 1 = gU := by omega
          have e9 : ¬ g3 = g3 + 1 := by omega
          have e10 : ¬ g3 + 1 = g3 := by omega
          go_wp2_with fail
          go_region
          all_goals
            go_wp2
            go_roundw
            case rel => exact ⟨k + 1, t, by omega, by go_num, hok, (((((hS.set5 (.int .i64 t.e) (.int .i64 t.v) (.int .i64 t.l) (.int .i64 t.p) (.int .i64 t.f)).far e9 _).far e9 _).far e9 _).far e9 _).far e9 _ |>.drew, ((((((hM.far e10 _).far e10 _).far e10 _).far e10 _).far e10 _).set5 _ _ _ _ _).drew, grown_drew (grown_set5 (grown_set5 K (by omega) _ _ _ _ _) (by omega) _ _ _ _ _)⟩
            case measure => simp [intOf]; omega
        · have x0 := hX.cell 0
          simp at x0
          have a0 := hT.cell 0
          have a1 := hT.cell 1
          have a2 := hT.cell 2
          have a3 := hT.cell 3
          have a4 := hT.cell 4
          simp at a0 a1 a2 a3 a4
          have u0 := hU.cell 0
          have u1 := hU.cell 1
          have u2 := hU.cell 2
          have u3 := hU.cell 3
          have u4 := hU.cell 4
          simp at u0 u1 u2 u3 u4
          have s0 := hS.cell 0
          have s1 := hS.cell 1
          have s2 := hS.cell 2
          have s3 := hS.cell 3
          have s4 := hS.cell 4
          have sf0 := hS.frozen 0
          have sf1 := hS.frozen 1
          have sf2 := hS.frozen 2
          have sf3 := hS.frozen 3
          have sf4 := hS.frozen 4
          simp at s0 s1 s2 s3 s4
          have y0 := hM.cell 0
          have y1 := hM.cell 1
          have y2 := hM.cell 2
          have y3 := hM.cell 3
          have y4 := hM.cell 4
          have yf0 := hM.frozen 0
          have yf1 := hM.frozen 1
          have yf2 := hM.frozen 2
          have yf3 := hM.frozen 3
          have yf4 := hM.frozen 4
          simp at y0 y1 y2 y3 y4
          have e1 : ¬ gT = g3 := by omega
          have e2 : ¬ gT = g3 + 1 := by omega
          have e3 : ¬ gU = g3 := by omega
          have e4 : ¬ gU = g3 + 1 := by omega
          have e5 : ¬ g3 = gT := by omega
          have e6 : ¬ g3 + 1 = gT := by omega
          have e7 : ¬ g3 = gU := by omega
          have e8 : ¬ g3 + 1 = gU := by omega
          have e9 : ¬ g3 = g3 + 1 := by omega
          have e10 : ¬ g3 + 1 = g3 := by omega
          go_wp2_with fail
          go_region
          all_goals
            go_wp2
            go_roundw
            case rel => exact ⟨k + 1, t, by omega, by go_num, hok, (((((hS.set5 (.int .i64 t.e) (.int .i64 t.v) (.int .i64 t.l) (.int .i64 t.p) (.int .i64 t.f)).far e9 _).far e9 _).far e9 _).far e9 _).far e9 _ |>.drew, ((((((hM.far e10 _).far e10 _).far e10 _).far e10 _).far e10 _).set5 _ _ _ _ _).drew, grown_drew (grown_set5 (grown_set5 K (by omega) _ _ _ _ _) (by omega) _ _ _ _ _)⟩
            case measure => simp [intOf]; omega
        · have x0 := hX.cell 0
          simp at x0
          have a0 := hT.cell 0
          have a1 := hT.cell 1
          have a2 := hT.cell 2
          have a3 := hT.cell 3
          have a4 := hT.cell 4
          simp at a0 a1 a2 a3 a4
          have u0 := hU.cell 0
          have u1 := hU.cell 1
          have u2 := hU.cell 2
          have u3 := hU.cell 3
          have u4 := hU.cell 4
          simp at u0 u1 u2 u3 u4
          have s0 := hS.cell 0
          have s1 := hS.cell 1
          have s2 := hS.cell 2
          have s3 := hS.cell 3
          have s4 := hS.cell 4
          have sf0 := hS.frozen 0
          have sf1 := hS.frozen 1
          have sf2 := hS.frozen 2
          have sf3 := hS.frozen 3
          have sf4 := hS.frozen 4
          simp at s0 s1 s2 s3 s4
          have y0 := hM.cell 0
          have y1 := hM.cell 1
          have y2 := hM.cell 2
          have y3 := hM.cell 3
          have y4 := hM.cell 4
          have yf0 := hM.frozen 0
          have yf1 := hM.frozen 1
          have yf2 := hM.frozen 2
          have yf3 := hM.frozen 3
          have yf4 := hM.frozen 4
          simp at y0 y1 y2 y3 y4
          have e1 : ¬ gT = g3 := by omega
          have e2 : ¬ gT = g3 + 1 := by omega
          have e3 : ¬ gU = g3 := by omega
          have e4 : ¬ gU = g3 + 1 := by omega
          have e5 : ¬ g3 = gT := by omega
          have e6 : ¬ g3 + 1 = gT := by omega
          have e7 : ¬ g3 = gU := by omega
          have e8 : ¬ g3 + 1 = gU := by omega
          have e9 : ¬ g3 = g3 + 1 := by omega
          have e10 : ¬ g3 + 1 = g3 := by omega
          go_wp2_with fail
          go_region
          all_goals
            go_wp2
            go_roundw
            case rel => exact ⟨k + 1, t, by omega, by go_num, hok, (((((hS.set5 (.int .i64 t.e) (.int .i64 t.v) (.int .i64 t.l) (.int .i64 t.p) (.int .i64 t.f)).far e9 _).far e9 _).far e9 _).far e9 _).far e9 _ |>.drew, ((((((hM.far e10 _).far e10 _).far e10 _).far e10 _).far e10 _).set5 _ _ _ _ _).drew, grown_drew (grown_set5 (grown_set5 K (by omega) _ _ _ _ _) (by omega) _ _ _ _ _)⟩
            case measure => simp [intOf]; omega
        · have x0 := hX.cell 0
          simp at x0
          have s0 := hS.cell 0
          have s1 := hS.cell 1
          have s2 := hS.cell 2
          have s3 := hS.cell 3
          have s4 := hS.cell 4
          simp at s0 s1 s2 s3 s4
          have a0 := hT.cell 0
          have a1 := hT.cell 1
          have a2 := hT.cell 2
          have a3 := hT.cell 3
          have a4 := hT.cell 4
          simp at a0 a1 a2 a3 a4
          go_wp2_with fail
          refine (cov_v _ s t false c3).mono ?_
          rintro en w9 ⟨rfl, k9⟩
          have hS := hS.grown k9 (by simp)
          have hM := hM.grown k9 (by simp)
          have hX := hX.grown k9 (by simp)
          have hT := hT.grown k9 (by simp)
          have hU := hU.grown k9 (by simp)
          have K := grown_trans K k9
          clear k9
          clear a0 a1 a2 a3 a4 s0 s1 s2 s3 s4 x0
          have a0 := hT.cell 0
          have a1 := hT.cell 1
          have a2 := hT.cell 2
          have a3 := hT.cell 3
          have a4 := hT.cell 4
          simp at a0 a1 a2 a3 a4
          have u0 := hU.cell 0
          have u1 := hU.cell 1
          have u2 := hU.cell 2
          have u3 := hU.cell 3
          have u4 := hU.cell 4
          simp at u0 u1 u2 u3 u4
          have s0 := hS.cell 0
          have s1 := hS.cell 1
          have s2 := hS.cell 2
          have s3 := hS.cell 3
          have s4 := hS.cell 4
          have sf0 := hS.frozen 0
          have sf1 := hS.frozen 1
          have sf2 := hS.frozen 2
          have sf3 := hS.frozen 3
          have sf4 := hS.frozen 4
          simp at s0 s1 s2 s3 s4
          have y0 := hM.cell 0
          have y1 := hM.cell 1
          have y2 := hM.cell 2
          have y3 := hM.cell 3
          have y4 := hM.cell 4
          have yf0 := hM.frozen 0
          have yf1 := hM.frozen 1
          have yf2 := hM.frozen 2
          have yf3 := hM.frozen 3
          have yf4 := hM.frozen 4
          simp at y0 y1 y2 y3 y4
          have e1 : ¬ gT = g3 := by omega
          have e2 : ¬ gT = g3 + 1 := by omega
          have e3 : ¬ gU = g3 := by omega
          have e4 : ¬ gU = g3 + 1 := by omega
          have e5 : ¬ g3 = gT := by omega
          have e6 : ¬ g3 + 1 = gT := by omega
          have e7 : ¬ g3 = gU := by omega
          have e8 : ¬ g3 + 1 = gU := by omega
          have e9 : ¬ g3 = g3 + 1 := by omega
          have e10 : ¬ g3 + 1 = g3 := by omega
          go_wp2_with fail
          go_region
          all_goals
            go_wp2
            go_roundw
            case rel => exact ⟨k + 1, t, by omega, by go_num, hok, (((((hS.set5 (.int .i64 t.e) (.int .i64 t.v) (.int .i64 t.l) (.int .i64 t.p) (.int .i64 t.f)).far e9 _).far e9 _).far e9 _).far e9 _).far e9 _ |>.drew, ((((((hM.far e10 _).far e10 _).far e10 _).far e10 _).far e10 _).set5 _ _ _ _ _).drew, grown_drew (grown_set5 (grown_set5 K (by omega) _ _ _ _ _) (by omega) _ _ _ _ _)⟩
            case measure => simp [intOf]; omega
      · have hlt' : decide ((k : Int) < (n : Int)) = false := by simp; omega
        go_wp2
        go_ret
        exact ⟨rfl, K⟩
end Go.Proofs.YtjmdlpefacbmmaaDoor
