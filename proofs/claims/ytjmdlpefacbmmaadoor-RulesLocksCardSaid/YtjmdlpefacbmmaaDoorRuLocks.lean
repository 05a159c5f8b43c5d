/-
  RulesLocks: the walk.
-/
import Derived.Test.YtjmdlpefacbmmaaDoorRuPure
import Derived.Test.YtjmdlpefacbmmaaDoorRu8
import Derived.Test.YtjmdlpefacbmmaaDoorRuAlive
import Derived.Test.YtjmdlpefacbmmaaDoorRuArgs
namespace Go.Proofs.YtjmdlpefacbmmaaDoor
open Go.RowKit

set_option maxHeartbeats 8000000 in
theorem locks_any (w : World) (B : Nat) (E : Nat → Addr) (he : ErrEnv w B E) (A : Option Addr) (n c : Nat) (xs : List Stp) (round q : Int) (hn : xs.length = n) (hx : StpsAt w A xs) :
    Calls Tryd.prog 8 #[.slice A n c, .int .i64 round, .int .i64 q] w fun en w' => en = .returned (.bool true) ∧ w.grownBy w' none := by
  by_cases hbig : 100 < n
  · have d1 : decide ((100 : Int) < (n : Int)) = true := by simp; omega
    clear hn hbig
    go_enter Tryd.func8, Tryd.ntmps8
    go_wp2_with fail
    refine (rules_alive _ B E he).mono ?_
    rintro en w1 ⟨rfl, k1⟩
    go_wp2_with fail
    go_ret
    exact ⟨rfl, k1⟩
  · have d1 : decide ((100 : Int) < (n : Int)) = false := by simp; omega
    have hn100 : n ≤ 100 := by omega
    have Hn := Lib.hid hn
    clear hn hbig
    go_enter Tryd.func8, Tryd.ntmps8
    go_wp2_with fail
    refine (rules_alive _ B E he).mono ?_
    rintro en w1 ⟨rfl, k1⟩
    have hS := Blk.new w1 23 (stC 0 0 0 0 0)
    have ka := grown_trans k1 (World.grownBy_alloc w1 (.cells (stC 0 0 0 0 0) 23) none)
    have hg := k1.size
    go_wp2_with fail
    generalize w1.alloc (.cells (stC 0 0 0 0 0) 23) = w2 at *
    generalize w1.heap.size = g3 at *
    clear k1
    go_loopw [8, 23] (fun mo i wr => ∃ (k : Nat) (s : St) (Mo : Int), k ≤ n ∧ i = .int .i64 (k : Int) ∧ mo = .int .i64 Mo ∧ s.l ≤ Mo ∧ Blk wr g3 23 (stC s.e s.v s.l s.p s.f) ∧ w.grownBy wr none) (fun _ i _ => n - (intOf i).toNat)
    case atStart => exact ⟨0, ⟨0, 0, 0, 0, 0⟩, 0, Nat.zero_le _, rfl, rfl, Int.le_refl _, hS, ka⟩
    case round =>
      obtain ⟨k, s, Mo, hk, rfl, rfl, hI, hS, K⟩ := hrel
      by_cases hlt : k < n
      · have hlt' : decide ((k : Int) < (n : Int)) = true := by simp; omega
        have hkz : k < xs.length := by have := Hn.out; omega
        obtain ⟨zb, zo, rfl, hc⟩ := (hx.kept (Kept.of_grown (F := fun _ => False) K (fun _ e => by cases e))) (by intro e; rw [e] at hkz; simp at hkz)
        obtain ⟨x0, x1, x2, x3, x4⟩ := hc k hkz
        clear hc
        generalize xs[k] = x at x0 x1 x2 x3 x4
        have heK := he.grown K (by simp)
        have hX := Blk.new wr 25 #[.int .i64 x.k, .int .i64 x.ep, .int .i64 x.r, .int .i64 x.q, .int .i64 x.g]
        have hS2 := hS.alloc (.cells #[.int .i64 x.k, .int .i64 x.ep, .int .i64 x.r, .int .i64 x.q, .int .i64 x.g] 25)
        have kb := grown_trans K (World.grownBy_alloc wr (.cells #[.int .i64 x.k, .int .i64 x.ep, .int .i64 x.r, .int .i64 x.q, .int .i64 x.g] 25) none)
        have he2 := he.grown kb (by simp)
        have s0 := hS.cell 0
        have s1 := hS.cell 1
        have s2 := hS.cell 2
        have s3 := hS.cell 3
        have s4 := hS.cell 4
        simp at s0 s1 s2 s3 s4
        have y0 := hS2.cell 0
        have y1 := hS2.cell 1
        have y2 := hS2.cell 2
        have y3 := hS2.cell 3
        have y4 := hS2.cell 4
        simp at y0 y1 y2 y3 y4
        have D1 := do_is _ B E he2 s x
        have hsame := step_same' s x
        have hone := locks_step s Mo x hI
        generalize stepR s x = t at D1 hsame hone
        generalize stepE s x = m at D1 hsame hone
        have HS := Lib.hid hsame
        have HO := Lib.hid hone
        clear hsame hone
        go_wp2_with fail
        refine D1.mono ?_
        rintro en w4 ⟨rfl, k4⟩
        have hS5 := (hS2.grown k4 (by simp)).alloc (.cells (stC t.e t.v t.l t.p t.f) 23)
        have hX5 := (hX.grown k4 (by simp)).alloc (.cells (stC t.e t.v t.l t.p t.f) 23)
        have kc := grown_trans (grown_trans kb k4) (World.grownBy_alloc w4 (.cells (stC t.e t.v t.l t.p t.f) 23) none)
        clear D1 he2 heK hX hS2 k4 kb K x0 x1 x2 x3 x4 s0 s1 s2 s3 s4 y0 y1 y2 y3 y4
        have s0 := hS5.cell 0
        have s1 := hS5.cell 1
        have s2 := hS5.cell 2
        have s3 := hS5.cell 3
        have s4 := hS5.cell 4
        have sf0 := hS5.frozen 0
        have sf1 := hS5.frozen 1
        have sf2 := hS5.frozen 2
        have sf3 := hS5.frozen 3
        have sf4 := hS5.frozen 4
        simp at s0 s1 s2 s3 s4
        have x0 := hX5.cell 0
        have x1 := hX5.cell 1
        have x2 := hX5.cell 2
        have x3 := hX5.cell 3
        have x4 := hX5.cell 4
        simp at x0 x1 x2 x3 x4
        have hsame := HS.out
        have hone := HO.out
        clear HS HO
        by_cases hm : m = 0
        · subst hm
          rcases hone rfl with ⟨hk1, hg⟩ | ⟨hk4, hg⟩ | ⟨hk1, hk4, hg⟩
          · have t1 : (x.k == 1) = true := by simpa using hk1
            have t2 : (x.k == 4) = false := by rw [hk1]; rfl
            clear hsame hone
            by_cases hmx : x.q ≤ Mo
            · have t3 : decide (Mo < t.l) = false := by simp; omega
              go_wp2
              go_roundw
              case rel => exact ⟨k + 1, t, Mo, by omega, by go_num, rfl, by omega, hS5.set5 _ _ _ _ _, grown_set5 kc (by omega) _ _ _ _ _⟩
              case measure => simp [intOf]; omega
            · have t3 : decide (x.q < t.l) = false := by simp; omega
              go_wp2
              go_roundw
              case rel => exact ⟨k + 1, t, x.q, by omega, by go_num, rfl, by omega, hS5.set5 _ _ _ _ _, grown_set5 kc (by omega) _ _ _ _ _⟩
              case measure => simp [intOf]; omega
          · have t1 : (x.k == 1) = false := by rw [hk4]; rfl
            have t2 : (x.k == 4) = true := by rw [hk4]; rfl
            have t3 : decide ((0 : Int) < t.l) = false := by simp; omega
            clear hsame hone
            go_wp2
            go_roundw
            case rel => exact ⟨k + 1, t, 0, by omega, by go_num, rfl, by omega, hS5.set5 _ _ _ _ _, grown_set5 kc (by omega) _ _ _ _ _⟩
            case measure => simp [intOf]; omega
          · have t1 : (x.k == 1) = false := by simpa using hk1
            have t2 : (x.k == 4) = false := by simpa using hk4
            have t3 : decide (Mo < t.l) = false := by simp; omega
            clear hsame hone
            go_wp2
            go_roundw
            case rel => exact ⟨k + 1, t, Mo, by omega, by go_num, rfl, by omega, hS5.set5 _ _ _ _ _, grown_set5 kc (by omega) _ _ _ _ _⟩
            case measure => simp [intOf]; omega
        · obtain rfl := hsame hm
          have t1 : ((m : Int) == 0) = false := by simp; omega
          have t3 : decide (Mo < t.l) = false := by simp; omega
          clear hone hsame
          go_wp2
          go_roundw
          case rel => exact ⟨k + 1, t, Mo, by omega, by go_num, rfl, hI, hS5.set5 _ _ _ _ _, grown_set5 kc (by omega) _ _ _ _ _⟩
          case measure => simp [intOf]; omega
      · have hlt' : decide ((k : Int) < (n : Int)) = false := by simp; omega
        have heK := he.grown K (by simp)
        have s0 := hS.cell 0
        have s1 := hS.cell 1
        have s2 := hS.cell 2
        have s3 := hS.cell 3
        have s4 := hS.cell 4
        simp at s0 s1 s2 s3 s4
        have D1 := vote_is wr B E heK s ⟨1, s.e, round, q, 0⟩
        have hv : q < s.l → voteE s.e s.v s.l s.p s.f s.e round q ≠ 0 := fun hq he => by have := vote_facts he; omega
        generalize voteR s ⟨1, s.e, round, q, 0⟩ = u at D1
        by_cases hq : s.l ≤ q
        · have t5 : decide (s.l ≤ q) = true := by simpa using hq
          clear hv
          go_wp2_with fail
          refine D1.mono ?_
          rintro en w4 ⟨rfl, k4⟩
          have hS4 := (hS.grown k4 (by simp)).alloc (.cells (stC u.e u.v u.l u.p u.f) 23)
          have kc := grown_trans (grown_trans K k4) (World.grownBy_alloc w4 (.cells (stC u.e u.v u.l u.p u.f) 23) none)
          have z2 := hS4.cell 2
          simp at z2
          go_wp2
          go_ret
          exact ⟨rfl, kc⟩
        · have t5 : decide (s.l ≤ q) = false := by simpa using hq
          obtain ⟨y, hy⟩ : ∃ y, voteE s.e s.v s.l s.p s.f s.e round q = y + 1 := ⟨voteE s.e s.v s.l s.p s.f s.e round q - 1, by have := hv (by omega); omega⟩
          have D2 : Calls Tryd.prog 22 #[s.val, .int .i64 s.e, .int .i64 round, .int .i64 q, .int .i64 0] wr fun en w' => en = .returned (.tuple #[u.val, errV (E y)]) ∧ wr.grownBy w' none := D1.mono fun en w' ⟨e1, e2⟩ => ⟨by rw [e1]; show Ending.returned (.tuple #[u.val, evOf E (voteE s.e s.v s.l s.p s.f s.e round q)]) = _; rw [hy]; rfl, e2⟩
          clear D1 hv hy
          go_wp2_with fail
          refine D2.mono ?_
          rintro en w4 ⟨rfl, k4⟩
          have hS4 := (hS.grown k4 (by simp)).alloc (.cells (stC u.e u.v u.l u.p u.f) 23)
          have kc := grown_trans (grown_trans K k4) (World.grownBy_alloc w4 (.cells (stC u.e u.v u.l u.p u.f) 23) none)
          have z2 := hS4.cell 2
          simp at z2
          go_wp2
          go_ret
          exact ⟨rfl, kc⟩
end Go.Proofs.YtjmdlpefacbmmaaDoor
