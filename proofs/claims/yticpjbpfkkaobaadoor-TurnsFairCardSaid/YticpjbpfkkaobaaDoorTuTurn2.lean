/-
  Package turns: Turn's bad arguments; the document's Turn.
-/
import Derived.Test.YticpjbpfkkaobaaDoorTuTurn
namespace Go.Proofs.YticpjbpfkkaobaaDoor
open Go.RowKit

/-- Arguments that Turn refuses. -/
def badTurn (n who r : Int) : Prop := inCircle n = false ∨ who < 0 ∨ n ≤ who ∨ r < 0

theorem badTurn_cases {n who r : Int} (h : badTurn n who r) :
    (inCircle n = false) ∨ (inCircle n = true ∧ decide (who < (0 : Int)) = true) ∨ (inCircle n = true ∧ decide (who < (0 : Int)) = false ∧ decide (n ≤ who) = true) ∨
    (inCircle n = true ∧ decide (who < (0 : Int)) = false ∧ decide (n ≤ who) = false ∧ decide (r < (0 : Int)) = true) := by
  by_cases h1 : inCircle n = false
  · exact .inl h1
  have h1' : inCircle n = true := by simpa using h1
  by_cases h2 : who < 0
  · exact .inr (.inl ⟨h1', by simpa using h2⟩)
  by_cases h3 : n ≤ who
  · exact .inr (.inr (.inl ⟨h1', by simp; omega, by simpa using h3⟩))
  rcases h with h | h | h | h
  · exact absurd h h1
  · exact absurd h h2
  · exact absurd h h3
  · exact .inr (.inr (.inr ⟨h1', by simp; omega, by simp; omega, by simpa using h⟩))

set_option maxHeartbeats 1000000 in
theorem turn_bad (w : World) (B : Nat) (a : Addr) (n who r : Int) (he : ErrAt w B 1 a) (hB : B ≤ w.heap.size) (h : badTurn n who r) :
    Calls Tryd.prog 14 #[.int .i64 n, .int .i64 who, .int .i64 r] w fun e w' => e = .returned (.tuple #[.int .i64 0, errV a]) ∧ Below w.heap.size w w' := by
  have c := (he.below (((Below.refl w.heap.size w).alloc (Nat.le_refl _) (.cells #[.int .i64 who] 3)).alloc (by simp) (.cells #[.int .i64 0] 3) |>.alloc (by simp; omega) (.cells #[.nilIface] 24)) hB).1
  rcases badTurn_cases h with d0 | ⟨d0, d1⟩ | ⟨d0, d1, d2⟩ | ⟨d0, d1, d2, d3⟩
  all_goals
    clear h
    go_enter Tryd.func14, Tryd.ntmps14
    go_wp2_with (go_at_call 16; refine (circle_is _ _).mono ?_; rintro e w1 ⟨rfl, rfl⟩)
  all_goals
    go_region
    go_wp2
    have b1 := (Boxed.new (w.alloc (.cells #[.int .i64 who] 3)) 3 (.int .i64 0)).alloc (.cells #[errV a] 24)
    have b2 := Boxed.new ((w.alloc (.cells #[.int .i64 who] 3)).alloc (.cells #[.int .i64 0] 3)) 24 (errV a)
    rw [World.size_alloc] at b1 b2
    rw [World.size_alloc] at b2
    have h1' : ((((w.alloc (.cells #[.int .i64 who] 3)).alloc (.cells #[.int .i64 0] 3)).alloc (.cells #[errV a] 24)).drew).cell? ⟨w.heap.size + 1, 0, none⟩ = some (.int .i64 0) := b1.cell
    have h2' : ((((w.alloc (.cells #[.int .i64 who] 3)).alloc (.cells #[.int .i64 0] 3)).alloc (.cells #[errV a] 24)).drew).cell? ⟨w.heap.size + 1 + 1, 0, none⟩ = some (errV a) := b2.cell
    refine bodyPost_ret (v := .tuple #[.int .i64 0, errV a]) (by simp [results, Tryd.f14, go_sem, h1', h2']) rfl ?_
    exact ⟨rfl, (((Below.refl w.heap.size w).alloc (Nat.le_refl _) _).alloc (by simp) _ |>.alloc (by simp; omega) _).drew⟩

theorem refTurn_bad (w : World) (n who r : Int) (h : badTurn n who r) :
    Calls Tryd.prog 15 #[.int .i64 n, .int .i64 who, .int .i64 r] w fun e w' => e = .returned (.tuple #[.int .i64 0, .int .i64 1]) ∧ w = w' := by
  have hc : (decide (n < (1 : Int)) = true) ∨ (decide (n < (1 : Int)) = false ∧ decide ((7 : Int) < n) = true) ∨ (decide (n < (1 : Int)) = false ∧ decide ((7 : Int) < n) = false ∧ inCircle n = true) := by
    by_cases h1 : n < 1
    · exact .inl (by simpa using h1)
    by_cases h7 : 7 < n
    · exact .inr (.inl ⟨by simp; omega, by simpa using h7⟩)
    · exact .inr (.inr ⟨by simp; omega, by simp; omega, by simp [inCircle]; omega⟩)
  rcases hc with c1 | ⟨c1, c2⟩ | ⟨c1, c2, c3⟩
  · clear h
    go_enter Tryd.func15, Tryd.ntmps15
    go_wp2
    go_ret2
    exact ⟨rfl, rfl⟩
  · clear h
    go_enter Tryd.func15, Tryd.ntmps15
    go_wp2
    go_ret2
    exact ⟨rfl, rfl⟩
  rcases badTurn_cases h with d0 | ⟨d0, d1⟩ | ⟨d0, d1, d2⟩ | ⟨d0, d1, d2, d3⟩
  · rw [c3] at d0; cases d0
  all_goals
    clear h c3 d0
    go_enter Tryd.func15, Tryd.ntmps15
    go_wp2
    go_ret2
    exact ⟨rfl, rfl⟩

theorem turn_hits {n who r : Int} (hc : inCircle n = true) (h0 : 0 ≤ who) (hn : who < n) (hr : 0 ≤ r) : ∃ j : Nat, (j : Int) < n ∧ leaderOf n (r + j) = who := by
  have hn7 : 1 ≤ n ∧ n ≤ 7 := by simpa [inCircle] using hc
  refine ⟨((who - r) % n).toNat, ?_, ?_⟩
  · have h1 := Int.emod_nonneg (who - r) (show n ≠ 0 by omega)
    have h2 := Int.emod_lt_of_pos (who - r) (show 0 < n by omega)
    omega
  · have h1 := Int.emod_nonneg (who - r) (show n ≠ 0 by omega)
    unfold leaderOf
    rw [hc]
    have : (n = 1 ∨ n = 2 ∨ n = 3 ∨ n = 4 ∨ n = 5 ∨ n = 6 ∨ n = 7) := by omega
    rcases this with rfl | rfl | rfl | rfl | rfl | rfl | rfl <;> simp <;> omega

theorem leaderOf_at {n r : Int} (k : Nat) (hc : inCircle n = true) (hr : 0 ≤ r) : leaderOf n (r + k) = (r + k) % n := by simp [leaderOf, hc]; omega

set_option maxHeartbeats 1000000 in
theorem refTurn_good (w : World) (n who r : Int) (hc : inCircle n = true) (hw0 : 0 ≤ who) (hwn : who < n) (hr : 0 ≤ r) :
    Calls Tryd.prog 15 #[.int .i64 n, .int .i64 who, .int .i64 r] w fun e w' =>
      ((∃ k : Nat, r + (k : Int) ≤ 1099511627776 ∧ leaderOf n (r + k) = who ∧ (∀ j : Nat, j < k → leaderOf n (r + j) ≠ who) ∧ e = .returned (.tuple #[.int .i64 (r + k), .int .i64 0])) ∨
       ((∀ k : Nat, r + (k : Int) ≤ 1099511627776 → leaderOf n (r + k) ≠ who) ∧ e = .returned (.tuple #[.int .i64 0, .int .i64 14]))) ∧ w = w' := by
  have hn7 : 1 ≤ n ∧ n ≤ 7 := by simpa [inCircle] using hc
  have c1 : decide (n < (1 : Int)) = false := by simp; omega
  have c2 : decide ((7 : Int) < n) = false := by simp; omega
  have d1 : decide (who < (0 : Int)) = false := by simp; omega
  have d2 : decide (n ≤ who) = false := by simp; omega
  have d3 : decide (r < (0 : Int)) = false := by simp; omega
  have hz : ¬ n = 0 := by omega
  have hits := Lib.hid (turn_hits hc hw0 hwn hr)
  have L := Lib.hid (fun k => leaderOf_at k hc hr)
  have hn7' := Lib.hid hn7
  have hc' := Lib.hid hc
  have hw' := Lib.hid (And.intro hw0 (And.intro hwn hr))
  clear hc hn7 hw0 hwn hr
  go_enter Tryd.func15, Tryd.ntmps15
  go_wp2
  go_loop [8] (fun i => ∃ k : Nat, (k : Int) ≤ n ∧ i = .int .i64 (k : Int) ∧ (∀ j : Nat, j < k → leaderOf n (r + j) ≠ who)) (fun i => 8 - (intOf i).toNat)
  case atStart => exact ⟨0, by have := hn7'.out; omega, rfl, fun j hj => absurd hj (Nat.not_lt_zero _)⟩
  case round =>
    obtain ⟨k, hk, hik, hne⟩ := hrel
    have hne' := Lib.hid hne
    clear hne
    have hn7 := hn7'.out
    have hw := hw'.out
    obtain ⟨i, hi⟩ : ∃ i : Int, i = (k : Int) := ⟨_, rfl⟩
    have hi' := Lib.hid hi
    rw [← hi] at hik hk
    subst hik
    by_cases hkn : i < n
    · have k1 : decide (i < n) = true := by simpa using hkn
      obtain ⟨M, s1, hM⟩ : ∃ M : Int, wrap64 (1099511627776 - i) = M ∧ M + i = 1099511627776 := ⟨_, w64 _ ⟨by omega, by omega⟩, by omega⟩
      have hM' := Lib.hid hM
      by_cases hb : M < r
      · have k2 : decide (M < r) = true := by simpa using hb
        clear hn7 hw hk hkn hb hM hi
        go_wp2
        go_ret2
        have hn7 := hn7'.out
        refine ⟨.inr ⟨fun j hj => hne'.out j ?_, rfl⟩, rfl⟩
        have h1 := of_decide_eq_true k2
        have h2 := hM'.out
        have h3 := hi'.out
        omega
      · have k2 : decide (M < r) = false := by simpa using hb
        have s2 : wrap64 (r + i) = r + i := w64 _ ⟨by omega, by omega⟩
        have ht : (r + i).tmod n = (r + i) % n := Int.tmod_eq_emod_of_nonneg (by omega)
        have hlo : 0 ≤ (r + i) % n := Int.emod_nonneg _ (by omega)
        have hhi : (r + i) % n < n := Int.emod_lt_of_pos _ (by omega)
        have s3 : wrap64 ((r + i) % n) = (r + i) % n := w64 _ ⟨by omega, by omega⟩
        have hb' := Lib.hid hb
        by_cases hx : (r + i) % n = who
        · have k3 : ((r + i) % n == who) = true := by simpa using hx
          have hx' := Lib.hid hx
          clear hn7 hw hk hkn hb hlo hhi hx hM hi
          go_wp2
          go_ret2
          have h1 := hb'.out
          have h2 := hM'.out
          have h3 := hi'.out
          refine ⟨.inl ⟨k, by omega, (L.out k).trans (by rw [← h3]; exact hx'.out), hne'.out, by rw [← h3]; rfl⟩, rfl⟩
        · have k3 : ((r + i) % n == who) = false := by simpa using hx
          have s4 : wrap64 (i + 1) = i + 1 := w64 _ ⟨by omega, by omega⟩
          have hx' := Lib.hid hx
          have hk' := Lib.hid hkn
          clear hn7 hw hk hkn hb hlo hhi hx hM hi
          go_wp2
          go_round
          case rel =>
            have h1 := hk'.out
            have h3 := hi'.out
            refine ⟨k + 1, by omega, by rw [h3] at s4 ⊢; simpa using s4, fun j hj => ?_⟩
            by_cases e : j = k
            · subst e; rw [L.out, ← h3]; exact hx'.out
            · exact hne'.out j (by omega)
          case measure =>
            have h1 := hk'.out
            have h2 := hn7'.out
            have h3 := hi'.out
            clear k2 hb' s1 s2 s3 ht k3 hx' hne' hits L hc' hw' hM'
            simp only [intOf, s4]
            clear s4
            omega
    · obtain ⟨j, hj, hl⟩ := hits.out
      exact absurd hl (hne'.out j (by omega))
end Go.Proofs.YticpjbpfkkaobaaDoor
