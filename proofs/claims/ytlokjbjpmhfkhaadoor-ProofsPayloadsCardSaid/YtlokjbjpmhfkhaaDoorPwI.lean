/-
  Look-ups in a row of numbers.
-/
import Derived.WalkKit
import Derived.Test.YtlokjbjpmhfkhaaDoorArgI
namespace Go.Proofs.YtlokjbjpmhfkhaaDoor
open Go.RowKit

theorem index_is (w : World) (A : Option Addr) (n c : Nat) (l : List Int) (x : Int) (hn : l.length = n) (h100 : n ≤ 100) (hz : IntsAt w A l) :
    Calls Tryd.prog 68 #[.slice A n c, .int .i64 x] w fun e w' => (∃ v : Int, e = .returned (.int .i64 v) ∧ decide (0 ≤ v) = decide (x ∈ l)) ∧ w = w' := by
  go_enter Tryd.func68, Tryd.ntmps68
  go_wp2
  go_loop [8] (fun i => ∃ k : Nat, k ≤ n ∧ i = .int .i64 (k : Int) ∧ x ∉ l.take k) (fun i => n - (intOf i).toNat)
  case atStart => exact ⟨0, Nat.zero_le _, rfl, by simp⟩
  case round =>
    obtain ⟨k, hk, rfl, hx⟩ := hrel
    have hx' := Lib.hid hx
    clear hx
    by_cases hlt : k < n
    · have hlt' : decide ((k : Int) < (n : Int)) = true := by simp; omega
      have hkz : k < l.length := by omega
      obtain ⟨zb, zo, rfl, hc⟩ := hz.get (by intro e; rw [e] at hkz; simp at hkz)
      have hcell := hc k hkz
      clear hc
      obtain ⟨y, hy⟩ : ∃ y, l[k] = y := ⟨_, rfl⟩
      rw [hy] at hcell
      have Hy := Lib.hid hy
      have Hn := Lib.hid hn
      clear hy hn
      by_cases hxy : x = y
      · have d : (x == y) = true := by simpa using hxy
        have hm : x ∈ l := by rw [hxy, ← Hy.out]; exact List.getElem_mem _
        have Hm := Lib.hid hm
        clear hm hxy
        go_wp2
        go_ret
        exact ⟨⟨_, rfl, by simp [Hm.out]⟩, rfl⟩
      · have d : (x == y) = false := by simpa using hxy
        have Hxy := Lib.hid hxy
        clear hxy
        go_wp2
        go_round
        case rel =>
          refine ⟨k + 1, by omega, by go_num, ?_⟩
          rw [List.take_add_one, List.getElem?_eq_getElem hkz, Hy.out]
          simp only [Option.toList, List.mem_append, List.mem_singleton, not_or]
          exact ⟨hx'.out, Hxy.out⟩
        case measure => simp [intOf]; omega
    · have hlt' : decide ((k : Int) < (n : Int)) = false := by simp; omega
      obtain rfl : k = n := by omega
      have hm : x ∉ l := by have := hx'.out; rwa [← hn, List.take_length] at this
      have Hm := Lib.hid hm
      clear hm hn
      go_wp2
      go_ret
      exact ⟨⟨_, rfl, by simp [Hm.out]⟩, rfl⟩

theorem contains_is (w : World) (A : Option Addr) (n c : Nat) (l : List Int) (x : Int) (b : Bool) (hb : decide (x ∈ l) = b) (hn : l.length = n) (h100 : n ≤ 100) (hz : IntsAt w A l) :
    Calls Tryd.prog 55 #[.slice A n c, .int .i64 x] w fun e w' => e = .returned (.bool b) ∧ w = w' := by
  go_enter Tryd.func55, Tryd.ntmps55
  have Hb := Lib.hid hb
  clear hb
  go_wp2_with fail
  refine (index_is w A n c l x hn h100 hz).mono ?_
  rintro e w1 ⟨⟨v, rfl, hv⟩, rfl⟩
  rw [Hb.out] at hv
  go_wp2_with fail
  go_ret
  exact ⟨rfl, rfl⟩

theorem in_is (w : World) (A : Option Addr) (n c : Nat) (l : List Int) (x : Int) (b : Bool) (hb : decide (x ∈ l) = b) (hn : l.length = n) (h100 : n ≤ 100) (hz : IntsAt w A l) :
    Calls Tryd.prog 38 #[.slice A n c, .int .i64 x] w fun e w' => e = .returned (.bool b) ∧ w = w' := by
  subst hb
  go_enter Tryd.func38, Tryd.ntmps38
  go_wp2
  go_loop [9] (fun i => ∃ k : Nat, k ≤ n ∧ i = .int .i64 (k : Int) ∧ x ∉ l.take k) (fun i => n - (intOf i).toNat)
  case atStart => exact ⟨0, Nat.zero_le _, rfl, by simp⟩
  case round =>
    obtain ⟨k, hk, rfl, hx⟩ := hrel
    have hx' := Lib.hid hx
    clear hx
    by_cases hlt : k < n
    · have hlt' : decide ((k : Int) < (n : Int)) = true := by simp; omega
      have hkz : k < l.length := by omega
      obtain ⟨zb, zo, rfl, hc⟩ := hz.get (by intro e; rw [e] at hkz; simp at hkz)
      have hcell := hc k hkz
      clear hc
      obtain ⟨y, hy⟩ : ∃ y, l[k] = y := ⟨_, rfl⟩
      rw [hy] at hcell
      have Hy := Lib.hid hy
      have Hn := Lib.hid hn
      clear hy hn
      by_cases hxy : y = x
      · have d : (y == x) = true := by simpa using hxy
        have hm : x ∈ l := by rw [← hxy, ← Hy.out]; exact List.getElem_mem _
        have Hm := Lib.hid hm
        clear hm hxy
        go_wp2
        go_ret
        exact ⟨by rw [decide_eq_true Hm.out]; rfl, rfl⟩
      · have d : (y == x) = false := by simpa using hxy
        have Hxy := Lib.hid hxy
        clear hxy
        go_wp2
        go_round
        case rel =>
          refine ⟨k + 1, by omega, by go_num, ?_⟩
          rw [List.take_add_one, List.getElem?_eq_getElem hkz, Hy.out]
          simp only [Option.toList, List.mem_append, List.mem_singleton, not_or]
          exact ⟨hx'.out, fun e => Hxy.out e.symm⟩
        case measure => simp [intOf]; omega
    · have hlt' : decide ((k : Int) < (n : Int)) = false := by simp; omega
      obtain rfl : k = n := by omega
      have hm : x ∉ l := by have := hx'.out; rwa [← hn, List.take_length] at this
      have Hm := Lib.hid hm
      clear hm hn
      go_wp2
      go_ret
      exact ⟨by rw [decide_eq_false Hm.out]; rfl, rfl⟩
end Go.Proofs.YtlokjbjpmhfkhaaDoor
