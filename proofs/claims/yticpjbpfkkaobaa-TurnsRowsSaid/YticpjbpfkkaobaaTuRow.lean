/-
  Package turns: Row, and the document's Row: the same loops, as functions of which places are bad.
-/
import Derived.Test.YticpjbpfkkaobaaTu
import Derived.Test.YticpjbpfkkaobaaArgI
namespace Go.Proofs.Yticpjbpfkkaobaa
open Go.RowKit

/-! ## The contracts of the look-ups -/

theorem index_is (w : World) (A : Option Addr) (n c : Nat) (l : List Int) (x : Int) (hn : l.length = n) (h100 : n ≤ 100) (hz : IntsAt w A l) :
    Calls Try.prog 17 #[.slice A n c, .int .i64 x] w fun e w' => (∃ v : Int, e = .returned (.int .i64 v) ∧ decide (0 ≤ v) = decide (x ∈ l)) ∧ w = w' := by
  go_enter Try.func17, Try.ntmps17
  go_wp2
  go_loop [8] (fun i => ∃ k : Nat, k ≤ n ∧ i = .int .i64 (k : Int) ∧ x ∉ l.take k) (fun i => n - (intOf i).toNat)
  case atStart => exact ⟨0, Nat.zero_le _, rfl, by simp⟩
  case round =>
    obtain ⟨k, hk, rfl, hx⟩ := hrel
    have hx' := Lib.hid hx
    clear hx
    by_cases hlt : k < n
    · have hlt' : decide ((k : Int) < (n : Int)) = true := by simp; omega
      have hkz : k < l.length := by omega
      obtain ⟨zb, zo, rfl, hc⟩ := hz.get (by intro e; rw [e] at hkz; simp at hkz)
      have hcell := hc k hkz
      clear hc
      obtain ⟨y, hy⟩ : ∃ y, l[k] = y := ⟨_, rfl⟩
      rw [hy] at hcell
      have Hy := Lib.hid hy
      have Hn := Lib.hid hn
      clear hy hn
      by_cases hxy : x = y
      · have d : (x == y) = true := by simpa using hxy
        have hm : x ∈ l := by rw [hxy, ← Hy.out]; exact List.getElem_mem _
        have Hm := Lib.hid hm
        clear hm hxy
        go_wp2
        go_ret
        exact ⟨⟨_, rfl, by simp [Hm.out]⟩, rfl⟩
      · have d : (x == y) = false := by simpa using hxy
        have Hxy := Lib.hid hxy
        clear hxy
        go_wp2
        go_round
        case rel =>
          refine ⟨k + 1, by omega, by go_num, ?_⟩
          rw [List.take_add_one, List.getElem?_eq_getElem hkz, Hy.out]
          simp only [Option.toList, List.mem_append, List.mem_singleton, not_or]
          exact ⟨hx'.out, Hxy.out⟩
        case measure => simp [intOf]; omega
    · have hlt' : decide ((k : Int) < (n : Int)) = false := by simp; omega
      obtain rfl : k = n := by omega
      have hm : x ∉ l := by have := hx'.out; rwa [← hn, List.take_length] at this
      have Hm := Lib.hid hm
      clear hm hn
      go_wp2
      go_ret
      exact ⟨⟨_, rfl, by simp [Hm.out]⟩, rfl⟩

theorem contains_is (w : World) (A : Option Addr) (n c : Nat) (l : List Int) (x : Int) (b : Bool) (hb : decide (x ∈ l) = b) (hn : l.length = n) (h100 : n ≤ 100) (hz : IntsAt w A l) :
    Calls Try.prog 15 #[.slice A n c, .int .i64 x] w fun e w' => e = .returned (.bool b) ∧ w = w' := by
  go_enter Try.func15, Try.ntmps15
  have Hb := Lib.hid hb
  clear hb
  go_wp2_with fail
  refine (index_is w A n c l x hn h100 hz).mono ?_
  rintro e w1 ⟨⟨v, rfl, hv⟩, rfl⟩
  rw [Hb.out] at hv
  go_wp2_with fail
  go_ret
  exact ⟨rfl, rfl⟩

theorem in_is (w : World) (A : Option Addr) (n c : Nat) (l : List Int) (x : Int) (b : Bool) (hb : decide (x ∈ l) = b) (hn : l.length = n) (h100 : n ≤ 100) (hz : IntsAt w A l) :
    Calls Try.prog 16 #[.slice A n c, .int .i64 x] w fun e w' => e = .returned (.bool b) ∧ w = w' := by
  subst hb
  go_enter Try.func16, Try.ntmps16
  go_wp2
  go_loop [9] (fun i => ∃ k : Nat, k ≤ n ∧ i = .int .i64 (k : Int) ∧ x ∉ l.take k) (fun i => n - (intOf i).toNat)
  case atStart => exact ⟨0, Nat.zero_le _, rfl, by simp⟩
  case round =>
    obtain ⟨k, hk, rfl, hx⟩ := hrel
    have hx' := Lib.hid hx
    clear hx
    by_cases hlt : k < n
    · have hlt' : decide ((k : Int) < (n : Int)) = true := by simp; omega
      have hkz : k < l.length := by omega
      obtain ⟨zb, zo, rfl, hc⟩ := hz.get (by intro e; rw [e] at hkz; simp at hkz)
      have hcell := hc k hkz
      clear hc
      obtain ⟨y, hy⟩ : ∃ y, l[k] = y := ⟨_, rfl⟩
      rw [hy] at hcell
      have Hy := Lib.hid hy
      have Hn := Lib.hid hn
      clear hy hn
      by_cases hxy : y = x
      · have d : (y == x) = true := by simpa using hxy
        have hm : x ∈ l := by rw [← hxy, ← Hy.out]; exact List.getElem_mem _
        have Hm := Lib.hid hm
        clear hm hxy
        go_wp2
        go_ret
        exact ⟨by rw [decide_eq_true Hm.out]; rfl, rfl⟩
      · have d : (y == x) = false := by simpa using hxy
        have Hxy := Lib.hid hxy
        clear hxy
        go_wp2
        go_round
        case rel =>
          refine ⟨k + 1, by omega, by go_num, ?_⟩
          rw [List.take_add_one, List.getElem?_eq_getElem hkz, Hy.out]
          simp only [Option.toList, List.mem_append, List.mem_singleton, not_or]
          exact ⟨hx'.out, fun e => Hxy.out e.symm⟩
        case measure => simp [intOf]; omega
    · have hlt' : decide ((k : Int) < (n : Int)) = false := by simp; omega
      obtain rfl : k = n := by omega
      have hm : x ∉ l := by have := hx'.out; rwa [← hn, List.take_length] at this
      have Hm := Lib.hid hm
      clear hm hn
      go_wp2
      go_ret
      exact ⟨by rw [decide_eq_false Hm.out]; rfl, rfl⟩

/-! ## The loops, as functions -/

def rowP (N t : Nat) (g : Nat → Bool) : Nat → Nat → Bool
  | 0, _ => false
  | rem + 1, run => if g ((2 * N - (rem + 1)) % N) then rowP N t g rem 0 else if t ≤ run + 1 then true else rowP N t g rem (run + 1)
def runK (N i : Nat) (g : Nat → Bool) : Nat → Nat → Nat
  | 0, k => k
  | rem + 1, k => if g ((i + k) % N) then k else runK N i g rem (k + 1)
def rowR (N L : Nat) (g : Nat → Bool) : Nat → Bool
  | 0 => false
  | rem + 1 => if L ≤ runK N (N - (rem + 1)) g N 0 then true else rowR N L g rem
def goodK (N : Nat) (g : Nat → Bool) : Nat → Nat → Nat
  | 0, a => a
  | rem + 1, a => goodK N g rem (if g (N - (rem + 1)) then a else a + 1)
def refRow (N L : Nat) (g : Nat → Bool) : Bool := if goodK N g N 0 = N then true else rowR N L g N
def gOf (b0 b1 b2 b3 b4 b5 b6 : Bool) (k : Nat) : Bool := [b0, b1, b2, b3, b4, b5, b6].getD k false

set_option maxRecDepth 100000 in
theorem rows_same : ∀ N, N < 8 → ∀ L, L < 9 → ∀ b0 b1 b2 b3 b4 b5 b6 : Bool, N = 0 ∨ L = 0 ∨ rowP N (min L N) (gOf b0 b1 b2 b3 b4 b5 b6) (2 * N) 0 = refRow N L (gOf b0 b1 b2 b3 b4 b5 b6) := by decide +kernel

/-- The bad places as a function on 0 to 6. -/
def badF (l : List Int) : Nat → Bool := gOf (decide ((0 : Int) ∈ l)) (decide ((1 : Int) ∈ l)) (decide ((2 : Int) ∈ l)) (decide ((3 : Int) ∈ l)) (decide ((4 : Int) ∈ l)) (decide ((5 : Int) ∈ l)) (decide ((6 : Int) ∈ l))
theorem badF_at (l : List Int) (k : Nat) (h : k < 7) : decide (((k : Nat) : Int) ∈ l) = badF l k := by
  have : k = 0 ∨ k = 1 ∨ k = 2 ∨ k = 3 ∨ k = 4 ∨ k = 5 ∨ k = 6 := by omega
  rcases this with rfl | rfl | rfl | rfl | rfl | rfl | rfl <;> rfl
end Go.Proofs.Yticpjbpfkkaobaa
