/-
  RulesOnce: the walk.
-/
import Derived.Test.YtjmdlpefacbmmaaDoorRuPure
import Derived.Test.YtjmdlpefacbmmaaDoorRu8
import Derived.Test.YtjmdlpefacbmmaaDoorRuAlive
import Derived.Test.YtjmdlpefacbmmaaDoorRuArgs
namespace Go.Proofs.YtjmdlpefacbmmaaDoor
open Go.RowKit

set_option maxHeartbeats 8000000 in
theorem once_any (w : World) (B : Nat) (E : Nat → Addr) (he : ErrEnv w B E) (A : Option Addr) (n c : Nat) (xs : List Stp) (hn : xs.length = n) (hx : StpsAt w A xs) :
    Calls Tryd.prog 7 #[.slice A n c] w fun en w' => en = .returned (.bool true) ∧ w.grownBy w' none := by
  by_cases hbig : 100 < n
  · have d1 : decide ((100 : Int) < (n : Int)) = true := by simp; omega
    clear hn hbig
    go_enter Tryd.func7, Tryd.ntmps7
    go_wp2_with fail
    refine (rules_alive _ B E he).mono ?_
    rintro en w1 ⟨rfl, k1⟩
    go_wp2_with fail
    go_ret
    exact ⟨rfl, k1⟩
  · have d1 : decide ((100 : Int) < (n : Int)) = false := by simp; omega
    have hn100 : n ≤ 100 := by omega
    have Hn := Lib.hid hn
    clear hn hbig
    go_enter Tryd.func7, Tryd.ntmps7
    go_wp2_with fail
    refine (rules_alive _ B E he).mono ?_
    rintro en w1 ⟨rfl, k1⟩
    have hS := Blk.new w1 23 (stC 0 0 0 0 0)
    have ka := grown_trans k1 (World.grownBy_alloc w1 (.cells (stC 0 0 0 0 0) 23) none)
    have hg := k1.size
    go_wp2_with fail
    generalize w1.alloc (.cells (stC 0 0 0 0 0) 23) = w2 at *
    generalize w1.heap.size = g3 at *
    clear k1
    go_loopw [4, 5, 18] (fun la lo i wr => ∃ (k : Nat) (s : St) (La Lo : Int), k ≤ n ∧ i = .int .i64 (k : Int) ∧ la = .int .i64 La ∧ lo = .int .i64 Lo ∧ onceI s La Lo ∧ Blk wr g3 23 (stC s.e s.v s.l s.p s.f) ∧ w.grownBy wr none) (fun _ _ i _ => n - (intOf i).toNat)
    case atStart => exact ⟨0, ⟨0, 0, 0, 0, 0⟩, 0, 0, Nat.zero_le _, rfl, rfl, rfl, ⟨okS_zero, Int.le_refl _, Int.le_refl _⟩, hS, ka⟩
    case round =>
      obtain ⟨k, s, La, Lo, hk, rfl, rfl, rfl, hI, hS, K⟩ := hrel
      by_cases hlt : k < n
      · have hlt' : decide ((k : Int) < (n : Int)) = true := by simp; omega
        have hkz : k < xs.length := by have := Hn.out; omega
        obtain ⟨zb, zo, rfl, hc⟩ := (hx.kept (Kept.of_grown (F := fun _ => False) K (fun _ e => by cases e))) (by intro e; rw [e] at hkz; simp at hkz)
        obtain ⟨x0, x1, x2, x3, x4⟩ := hc k hkz
        clear hc
        generalize xs[k] = x at x0 x1 x2 x3 x4
        have heK := he.grown K (by simp)
        have hX := Blk.new wr 25 #[.int .i64 x.k, .int .i64 x.ep, .int .i64 x.r, .int .i64 x.q, .int .i64 x.g]
        have hS2 := hS.alloc (.cells #[.int .i64 x.k, .int .i64 x.ep, .int .i64 x.r, .int .i64 x.q, .int .i64 x.g] 25)
        have kb := grown_trans K (World.grownBy_alloc wr (.cells #[.int .i64 x.k, .int .i64 x.ep, .int .i64 x.r, .int .i64 x.q, .int .i64 x.g] 25) none)
        have he2 := he.grown kb (by simp)
        have s0 := hS.cell 0
        have s1 := hS.cell 1
        have s2 := hS.cell 2
        have s3 := hS.cell 3
        have s4 := hS.cell 4
        simp at s0 s1 s2 s3 s4
        have y0 := hS2.cell 0
        have y1 := hS2.cell 1
        have y2 := hS2.cell 2
        have y3 := hS2.cell 3
        have y4 := hS2.cell 4
        simp at y0 y1 y2 y3 y4
        have D1 := do_is _ B E he2 s x
        have hsame := step_same' s x
        have hone := once_step s La Lo x hI
        generalize stepR s x = t at D1 hsame hone
        generalize stepE s x = m at D1 hsame hone
        have HS := Lib.hid hsame
        have HO := Lib.hid hone
        clear hsame hone
        go_wp2_with fail
        refine D1.mono ?_
        rintro en w4 ⟨rfl, k4⟩
        have hS5 := (hS2.grown k4 (by simp)).alloc (.cells (stC t.e t.v t.l t.p t.f) 23)
        have hX5 := (hX.grown k4 (by simp)).alloc (.cells (stC t.e t.v t.l t.p t.f) 23)
        have kc := grown_trans (grown_trans kb k4) (World.grownBy_alloc w4 (.cells (stC t.e t.v t.l t.p t.f) 23) none)
        clear D1 he2 heK hX hS2 k4 kb K x0 x1 x2 x3 x4 s0 s1 s2 s3 s4 y0 y1 y2 y3 y4
        have s0 := hS5.cell 0
        have s1 := hS5.cell 1
        have s2 := hS5.cell 2
        have s3 := hS5.cell 3
        have s4 := hS5.cell 4
        have sf0 := hS5.frozen 0
        have sf1 := hS5.frozen 1
        have sf2 := hS5.frozen 2
        have sf3 := hS5.frozen 3
        have sf4 := hS5.frozen 4
        simp at s0 s1 s2 s3 s4
        have x0 := hX5.cell 0
        have x1 := hX5.cell 1
        have x2 := hX5.cell 2
        have x3 := hX5.cell 3
        have x4 := hX5.cell 4
        simp at x0 x1 x2 x3 x4
        have hsame := HS.out
        have hone := HO.out
        clear HS HO
        by_cases hm : m = 0
        · subst hm
          rcases hone rfl with ⟨hk1, hr, hq, hg1, hg2⟩ | ⟨hk4, hI2⟩ | ⟨hk1, hk4, hI2⟩
          · have t1 : (x.k == 1) = true := by simpa using hk1
            have t2 : decide (x.r ≤ La) = false := by simp; omega
            have t3 : decide (x.q < Lo) = false := by simp; omega
            clear hsame hone
            by_cases hg : x.g ≤ x.q
            · have t4 : decide (x.g ≤ x.q) = true := by simpa using hg
              have hI2 := hg1 hg
              by_cases hmx : x.g ≤ Lo
              · clear hg1 hI2
                go_wp2
                go_roundw
                case rel => exact ⟨k + 1, t, x.r, Lo, by omega, by go_num, rfl, rfl, hg2, hS5.set5 _ _ _ _ _, grown_set5 kc (by omega) _ _ _ _ _⟩
                case measure => simp [intOf]; omega
              · clear hg1 hg2
                go_wp2
                go_roundw
                case rel => exact ⟨k + 1, t, x.r, x.g, by omega, by go_num, rfl, rfl, hI2, hS5.set5 _ _ _ _ _, grown_set5 kc (by omega) _ _ _ _ _⟩
                case measure => simp [intOf]; omega
            · have t4 : decide (x.g ≤ x.q) = false := by simpa using hg
              clear hg1
              go_wp2
              go_roundw
              case rel => exact ⟨k + 1, t, x.r, Lo, by omega, by go_num, rfl, rfl, hg2, hS5.set5 _ _ _ _ _, grown_set5 kc (by omega) _ _ _ _ _⟩
              case measure => simp [intOf]; omega
          · have t1 : (x.k == 1) = false := by rw [hk4]; rfl
            have t2 : (x.k == 4) = true := by rw [hk4]; rfl
            clear hsame hone
            go_wp2
            go_roundw
            case rel => exact ⟨k + 1, t, 0, 0, by omega, by go_num, rfl, rfl, hI2, hS5.set5 _ _ _ _ _, grown_set5 kc (by omega) _ _ _ _ _⟩
            case measure => simp [intOf]; omega
          · have t1 : (x.k == 1) = false := by simpa using hk1
            have t2 : (x.k == 4) = false := by simpa using hk4
            clear hsame hone
            go_wp2
            go_roundw
            case rel => exact ⟨k + 1, t, La, Lo, by omega, by go_num, rfl, rfl, hI2, hS5.set5 _ _ _ _ _, grown_set5 kc (by omega) _ _ _ _ _⟩
            case measure => simp [intOf]; omega
        · obtain rfl := hsame hm
          have t1 : ((m : Int) != 0) = true := by simp; omega
          clear hone hsame
          go_wp2
          go_roundw
          case rel => exact ⟨k + 1, t, La, Lo, by omega, by go_num, rfl, rfl, hI, hS5, kc⟩
          case measure => simp [intOf]; omega
      · have hlt' : decide ((k : Int) < (n : Int)) = false := by simp; omega
        have hr := right_yes _ _ _ _ _ hI.1
        have e4 := hS.cell 4
        simp at e4
        have q1 : decide (0 ≤ s.f) = true := by simp; omega
        have q2 : decide (s.f ≤ 32) = true := by simp; omega
        clear hr
        go_wp2
        go_ret
        exact ⟨rfl, K⟩
end Go.Proofs.YtjmdlpefacbmmaaDoor
