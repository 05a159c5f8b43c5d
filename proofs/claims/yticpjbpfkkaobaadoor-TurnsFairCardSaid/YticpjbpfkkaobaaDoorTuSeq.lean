/-
  Package turns: From, as an iterator: rounds from one on, each with its leader.
-/
import Derived.RangeFuncNested
import Derived.RangeFuncBound
import Derived.RangeFuncBox
import Derived.RangeFuncCalls
import Derived.RangeFuncLeaves
import Derived.Shelf.Abstract
import Derived.Shelf.RegionOpen
import Derived.OwnWalkIn
import Derived.TacticsInMore
import Derived.LoopNIn
import Derived.LoopIn
import Derived.BigRegionIn
import Derived.Test.YticpjbpfkkaobaaDoorTu
namespace Go.Proofs.YticpjbpfkkaobaaDoor
open Go.RowKit Go.Shelf

attribute [local go_sem] Oper.semAt_some

/-- What has come when k rounds are over: f 0, .., f (k - 1). -/
def upto {α : Type} (f : Nat → α) (k : Nat) : List α := (List.range k).map f
theorem upto_succ {α : Type} (f : Nat → α) (k : Nat) : upto f (k + 1) = upto f k ++ [f k] := by simp [upto, List.range_succ]
theorem upto_length {α : Type} (f : Nat → α) (k : Nat) : (upto f k).length = k := by simp [upto]

/-- Round k of From(n, r): the round, its leader. -/
def turnAt (n r : Int) (k : Nat) : Int × Int := (r + k, leaderOf n (r + k))

theorem leader_in (F : Fence) (m : Nat) (w : World) (n r : Int) (h : F = Fence.wide) : CallsIn F m Tryd.prog 9 #[.int .i64 n, .int .i64 r] w fun e w' => e = .returned (.int .i64 (leaderOf n r)) ∧ w = w' := by
  subst h
  exact callsIn_wide.2 (leader_is w n r)

set_option maxRecDepth 100000 in
set_option maxHeartbeats 2000000 in
/-- The closure of From, for a circle and a round of at least 0: for every loop body that keeps what lay below n₀. -/
theorem from1_in (m l B1 B2 : Nat) (Kp : World → World → Prop) (n r : Int) (hc : inCircle n = true) (hr : 0 ≤ r) (J Jx : List (Int × Int) → World → Prop) (hm : 1 ≤ m) (hKc : ∀ A B : World, Kp A B → B.cell? ⟨B2, 0, none⟩ = A.cell? ⟨B2, 0, none⟩)
    (hY : ∀ pre x W, J pre W → pre.length < (1099511627777 - r).toNat → YieldAt Fence.wide (m - 1) Tryd.prog l #[.int .i64 x.1, .int .i64 x.2] W fun e W' =>
      (e = .returned (.bool true) ∧ J (pre ++ [x]) W' ∧ Kp W W') ∨ (e = .returned (.bool false) ∧ Jx (pre ++ [x]) W'))
    (W : World) (h1 : W.cell? ⟨B1, 0, none⟩ = some (.int .i64 r)) (h2 : W.cell? ⟨B2, 0, none⟩ = some (.int .i64 n)) (h0 : J [] W) :
    CallsIn Fence.wide m Tryd.prog 21 #[.func (.yield l) #[] #[], .pointer (some ⟨B1, 0, none⟩), .pointer (some ⟨B2, 0, none⟩)] W fun e W' => (∃ v, e = .returned v) ∧
      ((∃ ys, ys = upto (turnAt n r) (1099511627777 - r).toNat ∧ J ys W') ∨ (∃ pre, (∃ k, k ≤ (1099511627777 - r).toNat ∧ pre = upto (turnAt n r) k) ∧ Jx pre W')) := by
  refine callsIn_of_wp Tryd.func21 rfl trivial ?_ rfl
  simp only [Tryd.ntmps21, List.size_toArray, List.length_cons, List.length_nil, Nat.reduceAdd, Nat.reduceSub, Array.replicate_succ, Array.replicate_zero, List.push_toArray, List.append_toArray, List.nil_append, List.cons_append]
  gi_wp2
  gi_loopw [4] (fun i wr => ∃ k : Nat, k ≤ (1099511627777 - r).toNat ∧ i = .int .i64 (r + (k : Int)) ∧ J (upto (turnAt n r) k) wr ∧ wr.cell? ⟨B2, 0, none⟩ = some (.int .i64 n))
    (fun i _ => (1099511627777 - intOf i).toNat)
  case atStart => exact ⟨0, Nat.zero_le _, by simp, h0, h2⟩
  case round =>
    obtain ⟨k, hk, rfl, hJs, h2'⟩ := hrel
    clear h2
    by_cases hlt : k < (1099511627777 - r).toNat
    · have d1 : decide (r + (k : Int) ≤ 1099511627776) = true := by simp; omega
      have hle : ¬ leaderOf n (r + (k : Int)) = -1 := by
        have hn : 1 ≤ n ∧ n ≤ 7 := by simpa [inCircle] using hc
        have := Int.emod_nonneg (r + (k : Int)) (show n ≠ 0 by omega)
        unfold leaderOf
        rw [hc]
        simp
        omega
      have dl : (leaderOf n (r + (k : Int)) == -1) = false := by simpa using hle
      obtain ⟨fn, tmps, assign, body, hy, hR⟩ := hY _ (turnAt n r k) wr hJs (by rw [upto_length]; exact hlt)
      dsimp only [turnAt] at hy
      have hw : wrap64 (r + (k : Int) + 1) = r + (k : Int) + 1 := w64 _ ⟨by omega, by omega⟩
      gi_wp2
      refine ⟨trivial, ?_⟩
      refine (leader_in _ _ _ _ _ rfl).mono ?_
      rintro e w1 ⟨rfl, rfl⟩
      gi_wp2
      refine hR.mono ?_
      rintro e W3 (⟨rfl, hJ3, hk3⟩ | ⟨rfl, hJx3⟩)
      · gi_wp2
        go_roundw
        case rel => exact ⟨k + 1, by omega, by rw [show r + ((k + 1 : Nat) : Int) = r + (k : Int) + 1 by omega], by rw [upto_succ]; exact hJ3, (hKc _ _ hk3).trans h2'⟩
        case measure => simp [intOf]; omega
      · gi_wp2
        refine bodyPost_ret (results_none rfl _ _ _) rfl ?_
        exact ⟨⟨_, rfl⟩, .inr ⟨_, ⟨k + 1, by omega, (upto_succ _ _).symm⟩, hJx3⟩⟩
    · have d1 : decide (r + (k : Int) ≤ 1099511627776) = false := by simp; omega
      obtain rfl : k = (1099511627777 - r).toNat := by omega
      gi_wp2
      go_end0
      exact ⟨⟨_, rfl⟩, .inl ⟨_, rfl, hJs⟩⟩

set_option maxHeartbeats 1000000 in
theorem from_in (m : Nat) (n r : Int) (w : World) :
    CallsIn Fence.wide m Tryd.prog 18 #[.int .i64 n, .int .i64 r] w fun e w' => e = .returned (.func (.func 21) #[] #[.pointer (some ⟨w.heap.size + 1, 0, none⟩), .pointer (some ⟨w.heap.size, 0, none⟩)]) ∧
      w' = (w.alloc (.cells #[.int .i64 n] 3)).alloc (.cells #[.int .i64 r] 3) := by
  refine callsIn_of_wp Tryd.func18 rfl trivial ?_ rfl
  simp only [Tryd.ntmps18, List.size_toArray, List.length_cons, List.length_nil, Nat.reduceAdd, Nat.reduceSub, Array.replicate_succ, Array.replicate_zero, List.push_toArray, List.append_toArray, List.nil_append, List.cons_append]
  gi_wp2
  go_ret
  exact ⟨rfl, rfl⟩

/-- From(n, r) as an iterator: all rounds, or a first part of them. -/
theorem from_stops (m : Nat) (hm : 1 ≤ m) (B1 B2 : Nat) (Kp : World → World → Prop) (hKc : ∀ A B : World, Kp A B → B.cell? ⟨B2, 0, none⟩ = A.cell? ⟨B2, 0, none⟩) (n r : Int) (hc : inCircle n = true) (hr : 0 ≤ r) (w : World) (hB1 : B1 < w.heap.size) (hB2 : B2 < w.heap.size) (h1 : w.cell? ⟨B1, 0, none⟩ = some (.int .i64 r)) (h2 : w.cell? ⟨B2, 0, none⟩ = some (.int .i64 n)) :
    SeqStopsK Fence.wide m Tryd.prog 21 #[.pointer (some ⟨B1, 0, none⟩), .pointer (some ⟨B2, 0, none⟩)] (fun x : Int × Int => #[.int .i64 x.1, .int .i64 x.2]) Kp
      (fun ys => ys = upto (turnAt n r) (1099511627777 - r).toNat) (fun pre => ∃ k, k ≤ (1099511627777 - r).toNat ∧ pre = upto (turnAt n r) k) (1099511627777 - r).toNat w := fun l J Jx W hW _ _ hY h0 =>
  from1_in m l B1 B2 Kp n r hc hr J Jx hm hKc hY W ((hW.cell (p := ⟨B1, 0, none⟩) hB1).trans h1) ((hW.cell (p := ⟨B2, 0, none⟩) hB2).trans h2) h0
end Go.Proofs.YticpjbpfkkaobaaDoor
