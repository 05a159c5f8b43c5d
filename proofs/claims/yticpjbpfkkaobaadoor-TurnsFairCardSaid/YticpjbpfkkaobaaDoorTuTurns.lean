/-
  TurnsTurns, TurnsAgain: the walks.
-/
import Derived.Test.YticpjbpfkkaobaaDoorTuTurn2
import Derived.Test.YticpjbpfkkaobaaDoorNum
namespace Go.Proofs.YticpjbpfkkaobaaDoor
open Go.RowKit

theorem below_of_grown {w w' : World} (h : w.grownBy w' none) : Below w.heap.size w w' := below_grown h (Nat.le_refl _) (fun _ h => by cases h)

theorem goodTurn_of_not {n who r : Int} (h : ¬ badTurn n who r) : inCircle n = true ∧ 0 ≤ who ∧ who < n ∧ 0 ≤ r := by
  unfold badTurn at h
  refine ⟨by cases hc : inCircle n; exact absurd (.inl hc) h; rfl, ?_, ?_, ?_⟩
  · exact Int.not_lt.1 fun e => h (.inr (.inl e))
  · exact Int.not_le.1 fun e => h (.inr (.inr (.inl e)))
  · exact Int.not_lt.1 fun e => h (.inr (.inr (.inr e)))

theorem first_same {n who r : Int} {k k' : Nat} (h1 : leaderOf n (r + k) = who) (h2 : ∀ j : Nat, j < k → leaderOf n (r + j) ≠ who) (h3 : leaderOf n (r + k') = who) (h4 : ∀ j : Nat, j < k' → leaderOf n (r + j) ≠ who) : k = k' := by
  rcases Nat.lt_trichotomy k k' with h | h | h
  · exact absurd h1 (h4 k h)
  · exact h
  · exact absurd h3 (h2 k' h)

set_option maxHeartbeats 1000000 in
theorem turnsTurns_any (w : World) (B : Nat) (E : Nat → Addr) (n who r : Int) (he : ErrEnv w B E) (hB : B ≤ w.heap.size) :
    Calls Tryd.prog 4 #[.int .i64 n, .int .i64 who, .int .i64 r] w fun e w' => e = .returned (.bool true) ∧ Below w.heap.size w w' := by
  go_enter Tryd.func4, Tryd.ntmps4
  go_wp2_with fail
  refine (turns_alive _).mono ?_
  rintro e w1 ⟨rfl, rfl⟩
  go_wp2_with fail
  by_cases hb : badTurn n who r
  · refine (turn_bad _ B (E 0) n who r (he.var 0 (by omega)) hB hb).mono ?_
    rintro e w1 ⟨rfl, k1⟩
    go_wp2_with fail
    refine (refTurn_bad _ n who r hb).mono ?_
    rintro e w2 ⟨rfl, rfl⟩
    have K1 := Lib.hid k1
    have he1 := he.below k1 hB
    clear k1 hb
    go_wp2_with fail
    refine (num_err _ B E 0 (by omega) he1).mono ?_
    rintro e w2 ⟨rfl, k2⟩
    have K2 := Lib.hid k2
    clear k2
    go_wp2_with fail
    go_ret
    exact ⟨rfl, K1.out.trans ((below_of_grown K2.out).mono K1.out.size)⟩
  · obtain ⟨g1, g2, g3, g4⟩ := goodTurn_of_not hb
    clear hb
    refine (turn_good _ B (E 13) n who r (he.var 13 (by omega)) hB g1 g2 g3 g4).mono ?_
    rintro e w1 ⟨⟨k, q1, q2, q3, rfl⟩ | ⟨q1, rfl⟩, k1⟩
    · go_wp2_with fail
      refine (refTurn_good _ n who r g1 g2 g3 g4).mono ?_
      rintro e w2 ⟨⟨k', p1, p2, p3, rfl⟩ | ⟨p1, rfl⟩, rfl⟩
      · obtain rfl := first_same q2 q3 p2 p3
        have K1 := Lib.hid k1
        clear k1 q1 q2 q3 p1 p2 p3 g1 g2 g3 g4
        go_wp2_with fail
        refine (num_nil _).mono ?_
        rintro e w2 ⟨rfl, rfl⟩
        go_wp2_with fail
        go_ret
        exact ⟨rfl, K1.out⟩
      · exact absurd q2 (p1 k q1)
    · go_wp2_with fail
      refine (refTurn_good _ n who r g1 g2 g3 g4).mono ?_
      rintro e w2 ⟨⟨k', p1, p2, p3, rfl⟩ | ⟨p1, rfl⟩, rfl⟩
      · exact absurd p2 (q1 k' p1)
      · have K1 := Lib.hid k1
        have he1 := he.below k1 hB
        clear k1 q1 p1 g1 g2 g3 g4
        go_wp2_with fail
        refine (num_err _ B E 13 (by omega) he1).mono ?_
        rintro e w2 ⟨rfl, k2⟩
        have K2 := Lib.hid k2
        clear k2
        go_wp2_with fail
        go_ret
        exact ⟨rfl, K1.out.trans ((below_of_grown K2.out).mono K1.out.size)⟩

theorem again_pure {n who r : Int} {k k2 : Nat} (hc : inCircle n = true) (hr : 0 ≤ r) (q2 : leaderOf n (r + k) = who) (p2 : leaderOf n (r + k + 1 + k2) = who) (p3 : ∀ j : Nat, j < k2 → leaderOf n (r + k + 1 + j) ≠ who) : r + k + 1 + k2 = r + k + n := by
  have hn7 : 1 ≤ n ∧ n ≤ 7 := by simpa [inCircle] using hc
  have q2' : (r + k) % n = who := by rw [← q2, leaderOf_at k hc hr]
  have p2' : (r + k + 1 + k2) % n = who := by rw [← p2, leaderOf_at k2 hc (by omega)]
  have hm : ¬ n - 1 < k2 := fun h => p3 (n - 1).toNat (by omega) (by
    rw [leaderOf_at _ hc (by omega)]
    have : ((n - 1).toNat : Int) = n - 1 := by omega
    rw [this, show r + (k : Int) + 1 + (n - 1) = r + k + n by omega, Int.add_emod_right]; exact q2')
  have hn : (n = 1 ∨ n = 2 ∨ n = 3 ∨ n = 4 ∨ n = 5 ∨ n = 6 ∨ n = 7) := by omega
  clear p3 q2 p2 hc
  rcases hn with rfl | rfl | rfl | rfl | rfl | rfl | rfl <;> omega

set_option maxHeartbeats 1000000 in
theorem turnsAgain_any (w : World) (B : Nat) (E : Nat → Addr) (n who r : Int) (he : ErrEnv w B E) (hB : B ≤ w.heap.size) :
    Calls Tryd.prog 6 #[.int .i64 n, .int .i64 who, .int .i64 r] w fun e w' => e = .returned (.bool true) ∧ Below w.heap.size w w' := by
  by_cases h0 : r < 0
  · have d0 : decide (r < (0 : Int)) = true := by simpa using h0
    clear h0
    go_enter Tryd.func6, Tryd.ntmps6
    go_wp2_with fail
    refine (turns_alive _).mono ?_
    rintro e w1 ⟨rfl, rfl⟩
    go_wp2_with fail
    go_ret
    exact ⟨rfl, Below.refl _ _⟩
  have d0 : decide (r < (0 : Int)) = false := by simp; omega
  by_cases h1 : 1099511627756 < r
  · have d1 : decide ((1099511627756 : Int) < r) = true := by simpa using h1
    clear h0 h1
    go_enter Tryd.func6, Tryd.ntmps6
    go_wp2_with fail
    refine (turns_alive _).mono ?_
    rintro e w1 ⟨rfl, rfl⟩
    go_wp2_with fail
    go_ret
    exact ⟨rfl, Below.refl _ _⟩
  have d1 : decide ((1099511627756 : Int) < r) = false := by simp; omega
  have H0 := Lib.hid h0
  have H1 := Lib.hid h1
  clear h0 h1
  go_enter Tryd.func6, Tryd.ntmps6
  go_wp2_with fail
  refine (turns_alive _).mono ?_
  rintro e w1 ⟨rfl, rfl⟩
  go_wp2_with fail
  by_cases hb : badTurn n who r
  · refine (turn_bad _ B (E 0) n who r (he.var 0 (by omega)) hB hb).mono ?_
    rintro e w1 ⟨rfl, k1⟩
    have K1 := Lib.hid k1
    have he1 := he.below k1 hB
    clear k1 hb
    go_wp2_with fail
    refine (num_err _ B E 0 (by omega) he1).mono ?_
    rintro e w2 ⟨rfl, k2⟩
    have K2 := Lib.hid k2
    clear k2
    go_wp2_with fail
    go_ret
    exact ⟨rfl, K1.out.trans ((below_of_grown K2.out).mono K1.out.size)⟩
  · obtain ⟨g1, g2, g3, g4⟩ := goodTurn_of_not hb
    have hn7 : 1 ≤ n ∧ n ≤ 7 := by simpa [inCircle] using g1
    clear hb
    refine (turn_good _ B (E 13) n who r (he.var 13 (by omega)) hB g1 g2 g3 g4).mono ?_
    have h1 := H1.out
    rintro e w1 ⟨⟨k, q1, q2, q3, rfl⟩ | ⟨q1, rfl⟩, k1⟩
    · obtain ⟨j, hj, hl⟩ := turn_hits g1 g2 g3 g4
      have hkj : k ≤ j := Nat.not_lt.1 fun h => q3 j h hl
      obtain ⟨a, ha⟩ : ∃ a : Int, r + (k : Int) = a := ⟨_, rfl⟩
      have s1 : wrap64 (a + 1) = a + 1 := w64 _ ⟨by omega, by omega⟩
      have s2 : wrap64 (a + n) = a + n := w64 _ ⟨by omega, by omega⟩
      have A0 := Lib.hid (show 0 ≤ a ∧ a + 14 ≤ 1099511627776 by omega)
      rw [ha] at q2 ⊢
      have G := Lib.hid (And.intro g1 (And.intro g2 (And.intro g3 g4)))
      have Q := Lib.hid (And.intro q2 ha)
      have N7 := Lib.hid hn7
      have K1 := Lib.hid k1
      have he1 := he.below k1 hB
      clear k1 q1 q2 q3 g1 g2 g3 g4 ha hn7 hj hl hkj h1
      go_wp2_with fail
      obtain ⟨g1, g2, g3, g4⟩ := G.out
      have hA := A0.out
      refine (turn_good _ B (E 13) n who (a + 1) (he1.var 13 (by omega)) (Nat.le_trans hB K1.out.size) g1 g2 g3 (by omega)).mono ?_
      rintro e w2 ⟨⟨k2, p1, p2, p3, rfl⟩ | ⟨p1, rfl⟩, k2'⟩
      · have hk2 : a + 1 + (k2 : Int) = a + n := by
          obtain ⟨q2, ha⟩ := Q.out
          subst ha
          exact again_pure g1 g4 q2 p2 p3
        have hl2 : leaderOf n (a + n) = who := by rw [← hk2]; exact p2
        have hl1 : leaderOf n a = who := Q.out.1
        rw [hk2]
        have K2 := Lib.hid k2'
        clear k2' p1 p2 p3 g1 g2 g3 g4 hA hk2
        go_wp2_with fail
        refine (leader_is _ _ _).mono ?_
        rintro e w3 ⟨rfl, rfl⟩
        go_wp2_with fail
        refine (leader_is _ _ _).mono ?_
        rintro e w3 ⟨rfl, rfl⟩
        go_wp2_with fail
        go_ret
        exact ⟨rfl, K1.out.trans (K2.out.mono K1.out.size)⟩
      · exfalso
        obtain ⟨j, hj, hl⟩ := turn_hits g1 g2 g3 (show 0 ≤ a + 1 by omega)
        have hn7 := N7.out
        exact p1 j (by omega) hl
    · exfalso
      obtain ⟨j, hj, hl⟩ := turn_hits g1 g2 g3 g4
      exact q1 j (by omega) hl
end Go.Proofs.YticpjbpfkkaobaaDoor
