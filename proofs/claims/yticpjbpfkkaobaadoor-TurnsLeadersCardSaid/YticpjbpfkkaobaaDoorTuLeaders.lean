/-
  TurnsLeaders: Next, the document's Leader and Wait, the walk.
-/
import Derived.Test.YticpjbpfkkaobaaDoorTu
import Derived.Test.YticpjbpfkkaobaaDoorNum
namespace Go.Proofs.YticpjbpfkkaobaaDoor
open Go.RowKit

theorem refLeader_is (w : World) (n r : Int) : Calls Tryd.prog 10 #[.int .i64 n, .int .i64 r] w fun e w' => e = .returned (.int .i64 (leaderOf n r)) ∧ w = w' := by
  by_cases h1 : 1 ≤ n
  · have d1 : decide (n < (1 : Int)) = false := by simp; omega
    by_cases h7 : n ≤ 7
    · have d7 : decide ((7 : Int) < n) = false := by simp; omega
      by_cases h0 : 0 ≤ r
      · have d0 : decide (r < (0 : Int)) = false := by simp; omega
        have hz : ¬ n = 0 := by omega
        have hc : inCircle n = true := by simp [inCircle]; omega
        have hv : leaderOf n r = r % n := by simp [leaderOf, hc, h0]
        have ht : r.tmod n = r % n := Int.tmod_eq_emod_of_nonneg h0
        have hlo : 0 ≤ r % n := Int.emod_nonneg _ (by omega)
        have hhi : r % n < n := Int.emod_lt_of_pos _ (by omega)
        have hw : wrap64 (r % n) = r % n := w64 _ ⟨by omega, by omega⟩
        clear h0 h1 h7 hlo hhi hc
        go_enter Tryd.func10, Tryd.ntmps10
        go_wp2
        go_ret
        exact ⟨by rw [hv]; rfl, rfl⟩
      · have d0 : decide (r < (0 : Int)) = true := by simp; omega
        have hv : leaderOf n r = -1 := by simp [leaderOf, h0]
        clear h0 h1 h7
        go_enter Tryd.func10, Tryd.ntmps10
        go_wp2
        go_ret
        exact ⟨by rw [hv]; rfl, rfl⟩
    · have d7 : decide ((7 : Int) < n) = true := by simp; omega
      have hc : inCircle n = false := by simp [inCircle]; omega
      have hv : leaderOf n r = -1 := by simp [leaderOf, hc]
      clear h1 h7 hc
      go_enter Tryd.func10, Tryd.ntmps10
      go_wp2
      go_ret
      exact ⟨by rw [hv]; rfl, rfl⟩
  · have d1 : decide (n < (1 : Int)) = true := by simp; omega
    have hc : inCircle n = false := by simp [inCircle]; omega
    have hv : leaderOf n r = -1 := by simp [leaderOf, hc]
    clear h1 hc
    go_enter Tryd.func10, Tryd.ntmps10
    go_wp2
    go_ret
    exact ⟨by rw [hv]; rfl, rfl⟩

theorem refWait_is (w : World) (f : Int) : Calls Tryd.prog 12 #[.int .i64 f] w fun e w' => e = .returned (.int .i64 (waitOf f)) ∧ w = w' := by
  by_cases h0 : f ≤ 0
  · have d0 : decide (f ≤ (0 : Int)) = true := by simp; omega
    have hv : waitOf f = 2 := by simp [waitOf, h0]
    clear h0
    go_enter Tryd.func12, Tryd.ntmps12
    go_wp2
    go_ret
    exact ⟨by rw [hv]; rfl, rfl⟩
  · have d0 : decide (f ≤ (0 : Int)) = false := by simp; omega
    by_cases h1 : f = 1
    · subst h1
      go_enter Tryd.func12, Tryd.ntmps12
      go_wp2
      go_ret
      exact ⟨rfl, rfl⟩
    · have d1 : (f == 1) = false := by simpa using h1
      by_cases h2 : f = 2
      · subst h2
        go_enter Tryd.func12, Tryd.ntmps12
        go_wp2
        go_ret
        exact ⟨rfl, rfl⟩
      · have d2 : (f == 2) = false := by simpa using h2
        have hv : waitOf f = 16 := by simp [waitOf, h0, h1, h2]
        clear h0 h1 h2
        go_enter Tryd.func12, Tryd.ntmps12
        go_wp2
        go_ret
        exact ⟨by rw [hv]; rfl, rfl⟩

theorem next_ok (w : World) (r : Int) (h0 : 0 ≤ r) (h1 : r < 1099511627776) : Calls Tryd.prog 8 #[.int .i64 r] w fun e w' => e = .returned (.tuple #[.int .i64 (r + 1), .nilIface]) ∧ w = w' := by
  have d0 : decide (r < (0 : Int)) = false := by simp; omega
  have d1 : decide ((1099511627776 : Int) ≤ r) = false := by simp; omega
  have hw : wrap64 (r + 1) = r + 1 := w64 _ ⟨by omega, by omega⟩
  clear h0 h1
  go_enter Tryd.func8, Tryd.ntmps8
  go_wp2
  go_ret2
  exact ⟨by simp [hw], rfl⟩

theorem next_bad (w : World) (B : Nat) (r : Int) (a : Addr) (he : ErrAt w B 0 a) (h : r < 0 ∨ 1099511627776 ≤ r) : Calls Tryd.prog 8 #[.int .i64 r] w fun e w' => e = .returned (.tuple #[.int .i64 0, errV a]) ∧ w.grownBy w' none := by
  have c := he.1
  by_cases h0 : r < 0
  · have d0 : decide (r < (0 : Int)) = true := by simp; omega
    clear h0 h
    go_enter Tryd.func8, Tryd.ntmps8
    go_wp2
    go_quiet (fail)
    go_wp2
    go_ret2
    exact ⟨rfl, rfl, rfl, rfl, Nat.le_refl _, fun _ _ _ => rfl⟩
  · have d0 : decide (r < (0 : Int)) = false := by simp; omega
    have d1 : decide ((1099511627776 : Int) ≤ r) = true := by simp; omega
    clear h0 h
    go_enter Tryd.func8, Tryd.ntmps8
    go_wp2
    go_quiet (fail)
    go_wp2
    go_ret2
    exact ⟨rfl, rfl, rfl, rfl, Nat.le_refl _, fun _ _ _ => rfl⟩

theorem leaders_any (w : World) (B : Nat) (E : Nat → Addr) (n r f : Int) (he : ErrEnv w B E) :
    Calls Tryd.prog 3 #[.int .i64 n, .int .i64 r, .int .i64 f] w fun e w' => e = .returned (.bool true) ∧ w.grownBy w' none := by
  by_cases hok : 0 ≤ r ∧ r < 1099511627776
  · have d0 : decide (r < (0 : Int)) = false := by simp; omega
    have d1 : decide ((1099511627776 : Int) ≤ r) = false := by simp; omega
    have hw : wrap64 (r + 1) = r + 1 := w64 _ ⟨by omega, by omega⟩
    have hq : (r + 1 == wrap64 (r + 1)) = true := by rw [hw]; simp
    go_enter Tryd.func3, Tryd.ntmps3
    go_wp2_with fail
    refine (turns_alive _).mono ?_
    rintro e w1 ⟨rfl, rfl⟩
    go_wp2_with fail
    refine (next_ok _ r hok.1 hok.2).mono ?_
    rintro e w1 ⟨rfl, rfl⟩
    go_wp2_with fail
    refine (leader_is _ _ _).mono ?_
    rintro e w1 ⟨rfl, rfl⟩
    go_wp2_with fail
    refine (refLeader_is _ _ _).mono ?_
    rintro e w1 ⟨rfl, rfl⟩
    go_wp2_with fail
    refine (wait_is _ _ _ rfl).mono ?_
    rintro e w1 ⟨rfl, rfl⟩
    go_wp2_with fail
    refine (refWait_is _ _).mono ?_
    rintro e w1 ⟨rfl, rfl⟩
    go_wp2_with fail
    go_ret
    exact ⟨rfl, World.grownBy.refl _ _⟩
  · have hbad : r < 0 ∨ 1099511627776 ≤ r := by omega
    have hd : decide (r < (0 : Int)) = true ∨ (decide (r < (0 : Int)) = false ∧ decide ((1099511627776 : Int) ≤ r) = true) := by
      by_cases h : r < 0
      · exact .inl (by simpa using h)
      · exact .inr ⟨by simpa using h, by simp; omega⟩
    clear hok
    rcases hd with d0 | ⟨d0, d1⟩
    all_goals
      go_enter Tryd.func3, Tryd.ntmps3
      go_wp2_with fail
      refine (turns_alive _).mono ?_
      rintro e w1 ⟨rfl, rfl⟩
      go_wp2_with fail
      refine (next_bad _ B r (E 13) (he.var 13 (by omega)) hbad).mono ?_
      rintro e w1 ⟨rfl, k1⟩
      go_wp2_with fail
      refine (leader_is _ _ _).mono ?_
      rintro e w2 ⟨rfl, rfl⟩
      go_wp2_with fail
      refine (refLeader_is _ _ _).mono ?_
      rintro e w2 ⟨rfl, rfl⟩
      go_wp2_with fail
      refine (wait_is _ _ _ rfl).mono ?_
      rintro e w2 ⟨rfl, rfl⟩
      go_wp2_with fail
      refine (refWait_is _ _).mono ?_
      rintro e w2 ⟨rfl, rfl⟩
      go_wp2_with fail
      refine (num_err _ B E 13 (by omega) (he.grown k1 (by simp))).mono ?_
      rintro e w2 ⟨rfl, k2⟩
      go_wp2_with fail
      go_ret
      exact ⟨rfl, grown_trans k1 k2⟩
end Go.Proofs.YticpjbpfkkaobaaDoor
