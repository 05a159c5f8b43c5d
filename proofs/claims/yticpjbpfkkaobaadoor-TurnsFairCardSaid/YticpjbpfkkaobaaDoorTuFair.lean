/-
  TurnsFair, walked.
-/
import Derived.Maps.OwnOps
import Derived.Maps.OwnSet
import Derived.Test.YticpjbpfkkaobaaDoorTuTurns
namespace Go.Proofs.YticpjbpfkkaobaaDoor
open Go.RowKit Go.Maps

/-- The map behind k rounds. -/
def ledD (n r0 : Nat) : Nat → DataW Unit
  | 0 => .map []
  | k + 1 => (ledD n r0 k).put (.int .i64 (((r0 + k) % n : Nat) : Int)) (.lit (.bool true))
def isTrue : DataW Unit → Bool
  | .lit (.bool true) => true
  | _ => false
theorem isTrue_eq {D : DataW Unit} (h : isTrue D = true) : D = .lit (.bool true) := by
  unfold isTrue at h
  split at h
  · rfl
  · cases h
theorem led_all : ∀ n, n < 8 → ∀ r0, r0 < n → (∀ who, who < n → isTrue ((ledD n r0 n).atKey (.int .i64 ((who : Nat) : Int)) (.lit (.bool false))) = true) ∧ Maps.size (ledD n r0 n) = (n : Int) := by decide +kernel
theorem ownsMap_below {H : Type} {P : Program} {k : TypeId} {R : Value → Option (DataW H × List MemPlace)} {w w' : World} {b n : Nat} {D : DataW H} (h : w.ownsMap P k R b n D) (hk : Below w.heap.size w w') : w'.ownsMap P k R b n D := by
  obtain ⟨es, clock, hb, r⟩ := h
  exact ⟨es, clock, (hk.block b (Array.getElem?_eq_some_iff.1 hb).1).trans hb, r⟩
theorem led_key (n : Nat) (hn : 1 ≤ n ∧ n ≤ 7) (r : Int) (k : Nat) : (r + (k : Int)) % (n : Int) = ((((r % (n : Int)).toNat + k) % n : Nat) : Int) := by
  have hc : n = 1 ∨ n = 2 ∨ n = 3 ∨ n = 4 ∨ n = 5 ∨ n = 6 ∨ n = 7 := by omega
  rcases hc with rfl | rfl | rfl | rfl | rfl | rfl | rfl <;> omega

theorem bool_inv {P : Program} {e : TypeId} (he : P.underlying e = some .bool) {v : Value} {x : Bool} {ps : List MemPlace} (h : plainElem (H := Unit) P e v = some (.lit (.bool x), ps)) : v = .bool x := by
  unfold plainElem at h
  rw [he] at h
  cases v <;> simp at h
  obtain ⟨rfl, _⟩ := h
  rfl
theorem zeroBool (w : World) : (zeroValue 4).run Tryd.prog w = .ok (.bool false) w := by
  simp [zeroValue]
  rfl

set_option maxRecDepth 100000 in
set_option maxHeartbeats 2000000 in
theorem fair_any (w : World) (n r : Int) (B : Nat) (e13 : Addr) (hB : B ≤ w.heap.size) (he : ErrAt w B 0 e13) :
    Calls Tryd.prog 5 #[.int .i64 n, .int .i64 r] w fun e w' => e = .returned (.bool true) ∧ Below w.heap.size w w' := by
  have HE := Lib.hid (And.intro hB he)
  clear hB he
  go_enter Tryd.func5, Tryd.ntmps5
  go_wp2_with fail
  refine (turns_alive w).mono ?_
  rintro e w1 ⟨rfl, rfl⟩
  by_cases hg : 1 ≤ n ∧ n ≤ 7 ∧ 0 ≤ r ∧ r ≤ 1099511627769
  · obtain ⟨g1, g2, g3, g4⟩ := hg
    have d1 : decide (n < 1) = false := by simp; omega
    have d2 : decide (7 < n) = false := by simp; omega
    have d3 : decide (r < 0) = false := by simp; omega
    have d4 : decide (1099511627769 < r) = false := by simp; omega
    have hmm := @run_makeMap Tryd.prog
    obtain ⟨N, hN⟩ : ∃ N : Nat, N = n.toNat := ⟨_, rfl⟩
    have hNn : (N : Int) = n := by omega
    obtain ⟨r0, hr0⟩ : ∃ r0 : Nat, r0 = (r % (N : Int)).toNat := ⟨_, rfl⟩
    have hr0n : r0 < N := by
      have h1 := Int.emod_nonneg r (show (N : Int) ≠ 0 by omega)
      have h2 := Int.emod_lt_of_pos r (show (0 : Int) < (N : Int) by omega)
      omega
    have hcirc : inCircle n = true := by simp [inCircle]; omega
    have HN := Lib.hid (show (N : Int) = n ∧ (1 ≤ N ∧ N ≤ 7) ∧ r0 < N ∧ 0 ≤ r ∧ r ≤ 1099511627769 ∧ inCircle n = true ∧ r0 = (r % (N : Int)).toNat from ⟨hNn, by omega, hr0n, g3, g4, hcirc, hr0⟩)
    have HM := Lib.hid (World.ownsMap_made w Tryd.prog 3 (plainElem (H := Unit) Tryd.prog 4))
    have HG := Lib.hid (World.grownBy_alloc w (.map #[] 0) (some w.heap.size))
    clear g1 g2 g3 g4 hN hNn hr0n hr0 hcirc
    go_wp2_with fail
    clear d1 d2 d3 d4
    go_loopw [28] (fun i wr => ∃ k : Nat, k ≤ N ∧ i = .int .i64 (k : Int) ∧ wr.ownsMap Tryd.prog 3 (plainElem (H := Unit) Tryd.prog 4) w.heap.size k (ledD N r0 k) ∧ w.grownBy wr (some w.heap.size)) (fun i _ => N - (intOf i).toNat)
    case atStart => exact ⟨0, by omega, rfl, HM.out, HG.out⟩
    case round =>
      obtain ⟨k, hk, hi, hown, hK⟩ := hrel
      obtain ⟨I, hI⟩ : ∃ I : Int, I = (k : Int) := ⟨_, rfl⟩
      rw [← hI] at hi
      subst hi
      by_cases hlt : k < N
      · have hNn := HN.out.1
        have hN7 := HN.out.2.1
        have d1 : decide (I < n) = true := by simp; omega
        have s1 : wrap64 (r + I) = r + I := by have h1 := HN.out.2.2.2.1; have h2 := HN.out.2.2.2.2.1; exact w64 _ ⟨by omega, by omega⟩
        have s2 : wrap64 (I + 1) = I + 1 := w64 _ ⟨by omega, by omega⟩
        have hlead : leaderOf n (r + I) = (((r0 + k) % N : Nat) : Int) := by
          rw [leaderOf, if_pos (by rw [HN.out.2.2.2.2.2.1]; have := HN.out.2.2.2.1; simp; omega), ← hNn, hI, led_key N hN7 r k, HN.out.2.2.2.2.2.2]
        have hkey : keyOf Tryd.prog 3 (.int .i64 (((r0 + k) % N : Nat) : Int)) = some (.int .i64 (((r0 + k) % N : Nat) : Int)) := Maps.keyOf_int_mk Tryd.underlying3 (by
          have h1 : (r0 + k) % N < N := Nat.mod_lt _ (by omega)
          obtain ⟨t, ht⟩ : ∃ t, t = (r0 + k) % N := ⟨_, rfl⟩
          rw [← ht] at h1 ⊢
          simp [Lit.wf, IntKind.min, IntKind.max, IntKind.signed, IntKind.bits]; omega)
        obtain ⟨q, hq⟩ : ∃ q : Int, q = (((r0 + k) % N : Nat) : Int) := ⟨_, rfl⟩
        rw [← hq] at hlead hkey
        have hk7 : k < 1000 := by omega
        have HK := Lib.hid (And.intro hK (And.intro hI (And.intro hlt (And.intro hq (And.intro hlead (And.intro hown hkey))))))
        clear hNn hN7 hlead hkey hown hK hI hlt hk hq
        go_wp2_with fail
        refine (leader_is _ n (r + I)).mono ?_
        rintro e w3 ⟨rfl, rfl⟩
        rw [HK.out.2.2.2.2.1]
        go_wp2_with (at_mapUpdate; refine wpList_mapUpdate_own _ rfl _ _ _ 34 rfl 3 4 (Maps.int_keyed Tryd.underlying3) Tryd.underlying34 _ w.heap.size k _ rfl HK.out.2.2.2.2.2.1 (by simp only [maxLen]; omega) _ _ _ rfl rfl HK.out.2.2.2.2.2.2 _ [] (plainElem_bool Tryd.underlying4 true) ?_; intro w4 hown4 hgrow4; have HO := Lib.hid (And.intro hown4 hgrow4); clear hown4 hgrow4)
        go_roundw
        case rel =>
          obtain ⟨hK, hI, hlt, hq, _⟩ := HK.out
          obtain ⟨h1, h2⟩ := HO.out
          refine ⟨k + 1, by omega, by rw [s2, hI]; rfl, ?_, ?_⟩
          · rw [ledD, ← hq]; exact h1
          · exact grown_trans hK h2
        case measure => obtain ⟨hK, hI, hlt, hq, _⟩ := HK.out; rw [s2]; simp [intOf]; omega
      · obtain rfl : k = N := by omega
        have hNn := HN.out.1
        have d1 : decide (I < n) = false := by simp; omega
        have HK := Lib.hid (And.intro hown hK)
        clear hlt hk hI hown hK hNn
        go_wp2_with fail
        clear d1
        go_loopw [39] (fun i wx => ∃ j : Nat, j ≤ k ∧ i = .int .i64 (j : Int) ∧ wx.ownsMap Tryd.prog 3 (plainElem (H := Unit) Tryd.prog 4) w.heap.size k (ledD k r0 k) ∧ Below w.heap.size w wx) (fun i _ => k - (intOf i).toNat)
        case atStart => exact ⟨0, by omega, rfl, HK.out.1, below_grown HK.out.2 (Nat.le_refl _) (fun _ h => by cases h; exact Nat.le_refl _)⟩
        case round =>
          obtain ⟨j, hj, hi, hown, hbl⟩ := hrel
          obtain ⟨J, hJ⟩ : ∃ J : Int, J = (j : Int) := ⟨_, rfl⟩
          rw [← hJ] at hi
          subst hi
          by_cases hlt : j < k
          · have hNn := HN.out.1
            have hN7 := HN.out.2.1
            have d1 : decide (J < n) = true := by simp; omega
            have s2 : wrap64 (J + 1) = J + 1 := w64 _ ⟨by omega, by omega⟩
            have HJ := Lib.hid (And.intro hJ (And.intro hlt (And.intro hown hbl)))
            have g2 : 0 ≤ J ∧ J < n := by omega
            clear hJ hlt hown hbl hj hNn hN7
            go_wp2_with fail
            have he := (HE.out.2).below HJ.out.2.2.2 HE.out.1
            refine (turn_good _ B e13 n J r he (Nat.le_trans HE.out.1 HJ.out.2.2.2.size) HN.out.2.2.2.2.2.1 g2.1 g2.2 HN.out.2.2.2.1).mono ?_
            rintro e w3 ⟨⟨q, q1, q2, q3, rfl⟩ | ⟨q1, rfl⟩, k1⟩
            · obtain ⟨Q, hQ⟩ : ∃ Q : Int, Q = r + (q : Int) := ⟨_, rfl⟩
              have hqn : (q : Int) < n := by
                obtain ⟨j', p1, p2⟩ := turn_hits HN.out.2.2.2.2.2.1 g2.1 g2.2 HN.out.2.2.2.1
                have : ¬ j' < q := fun h => q3 j' h p2
                omega
              have hr0 := HN.out.2.2.2.1
              have hr1 := HN.out.2.2.2.2.1
              rw [← hQ]
              have d2 : decide (Q < r) = false := by simp; omega
              have d3 : decide (n ≤ wrap64 (Q - r)) = false := by rw [w64 _ ⟨by omega, by omega⟩]; simp; omega
              have hown3 := ownsMap_below HJ.out.2.2.1 k1
              have hkey : keyOf Tryd.prog 3 (.int .i64 J) = some (.int .i64 J) := Maps.keyOf_int_mk Tryd.underlying3 (by
                have := HN.out.1; have := HN.out.2.1; simp [Lit.wf, IntKind.min, IntKind.max, IntKind.signed, IntKind.bits]; omega)
              obtain ⟨v, ps, hrun, hv⟩ := hown3.lookup (Maps.int_keyed Tryd.underlying3) Tryd.underlying34 (z := .bool false) (zd := .lit (.bool false)) (zp := []) (zeroBool w3) (plainElem_bool Tryd.underlying4 false) hkey
              have hall := isTrue_eq ((led_all k (by have := HN.out.2.1; omega) r0 HN.out.2.2.1).1 j HJ.out.2.1)
              rw [← HJ.out.1] at hall
              rw [hall] at hv
              obtain rfl : v = .bool true := bool_inv Tryd.underlying4 hv
              have HK3 := Lib.hid (And.intro hown3 (HJ.out.2.2.2.trans (k1.mono HJ.out.2.2.2.size)))
              clear hown3 hkey hv hall k1 q1 q2 q3 hqn hQ hr0 hr1 he g2
              go_wp2_with fail
              refine ⟨⟨j + 1, by have := HJ.out.2.1; omega, by rw [s2, HJ.out.1]; rfl, HK3.out.1, HK3.out.2⟩, ?_⟩
              rw [s2]
              have h1 := HJ.out.1
              have h2 := HJ.out.2.1
              simp [intOf]
              omega
            · exfalso
              obtain ⟨j', p1, p2⟩ := turn_hits HN.out.2.2.2.2.2.1 g2.1 g2.2 HN.out.2.2.2.1
              exact q1 j' (by have := HN.out.2.1; have := HN.out.1; have := HN.out.2.2.2.2.1; omega) p2
          · obtain rfl : j = k := by omega
            have hNn := HN.out.1
            have d1 : decide (J < n) = false := by simp; omega
            have hsz : Maps.size (ledD j r0 j) = n := by rw [(led_all j (by have := HN.out.2.1; omega) r0 HN.out.2.2.1).2]; exact hNn
            have hlen := hown.len Tryd.underlying34 3
            rw [hsz] at hlen
            have HK := Lib.hid hbl
            clear hlt hj hJ hown hbl hNn hsz
            go_wp2_with fail
            go_ret
            exact ⟨by simp, HK.out⟩
  · by_cases h1 : n < 1
    · have d1 : decide (n < 1) = true := by simpa using h1
      clear hg h1
      go_wp2_with fail
      go_ret
      exact ⟨rfl, Below.refl _ _⟩
    · have d1 : decide (n < 1) = false := by simpa using h1
      by_cases h2 : 7 < n
      · have d2 : decide (7 < n) = true := by simpa using h2
        clear hg h1 h2
        go_wp2_with fail
        go_ret
        exact ⟨rfl, Below.refl _ _⟩
      · have d2 : decide (7 < n) = false := by simpa using h2
        by_cases h3 : r < 0
        · have d3 : decide (r < 0) = true := by simpa using h3
          clear hg h1 h2 h3
          go_wp2_with fail
          go_ret
          exact ⟨rfl, Below.refl _ _⟩
        · have d3 : decide (r < 0) = false := by simpa using h3
          have d4 : decide (1099511627769 < r) = true := by simp; omega
          clear hg h1 h2 h3
          go_wp2_with fail
          go_ret
          exact ⟨rfl, Below.refl _ _⟩
end Go.Proofs.YticpjbpfkkaobaaDoor
