/-
  Trees of digests, plain: nodes, levels, ways up.
-/
import Derived.Test.YtobmpdpcjaaklaaDoorTrC
namespace Go.Proofs.YtobmpdpcjaaklaaDoor
open Go.RowKit

/-- The j-th digest of the level of that height. -/
def nodeC (ps : List (List Int)) : Nat → Nat → List Int
  | 0, j => ps.getD j zeroC
  | h + 1, j => joinC (nodeC ps h (2 * j)) (nodeC ps h (2 * j + 1))
theorem nodeC_dig {ps : List (List Int)} (hps : ∀ p ∈ ps, isDig p) : ∀ h j, isDig (nodeC ps h j)
  | 0, j => getD_dig hps j
  | h + 1, j => by rw [nodeC]; exact joinC_dig _ _
/-- The first n digests of a level. -/
def levC (ps : List (List Int)) (h n : Nat) : List (List Int) := upto (nodeC ps h) n
theorem levC_length (ps : List (List Int)) (h n : Nat) : (levC ps h n).length = n := upto_length _ _
theorem levC_get {ps : List (List Int)} {h n k : Nat} (hk : k < n) : (levC ps h n).getD k zeroC = nodeC ps h k := by
  simp [levC, upto, List.getD, List.getElem?_map, List.getElem?_range hk]
theorem levC_dig {ps : List (List Int)} (hps : ∀ p ∈ ps, isDig p) (h n : Nat) : ∀ p ∈ levC ps h n, isDig p := by
  intro p hp
  simp only [levC, upto, List.mem_map] at hp
  obtain ⟨k, _, rfl⟩ := hp
  exact nodeC_dig hps h k
theorem levC_zero {ps : List (List Int)} {n : Nat} (hl : ps.length = n) : levC ps 0 n = ps := by
  subst hl
  refine List.ext_getElem (by rw [levC_length]) fun i h1 h2 => ?_
  simp [levC, upto, nodeC, List.getD, h2]
/-- The k-th digest above these. -/
def pairC (ps : List (List Int)) (k : Nat) : List Int := joinC (ps.getD (2 * k) zeroC) (ps.getD (2 * k + 1) zeroC)
theorem pairC_dig (ps : List (List Int)) (k : Nat) : isDig (pairC ps k) := by rw [pairC]; exact joinC_dig _ _
theorem pairC_lev {ps : List (List Int)} {h n k : Nat} (hk : 2 * k + 1 < n) : pairC (levC ps h n) k = nodeC ps (h + 1) k := by
  rw [pairC, levC_get (by omega), levC_get hk, nodeC]
/-- The one beside. -/
def sib (j : Nat) : Nat := if j % 2 = 0 then j + 1 else j - 1
/-- The digest beside the way up from a leaf, at a height. -/
def wayC (ps : List (List Int)) (i h : Nat) : List Int := nodeC ps h (sib (i / 2 ^ h))
theorem wayC_dig {ps : List (List Int)} (hps : ∀ p ∈ ps, isDig p) (i h : Nat) : isDig (wayC ps i h) := nodeC_dig hps _ _
theorem climb_way (ps qs : List (List Int)) (i : Nat) (x : List Int) (hx : x = nodeC ps 0 i) : ∀ n, (∀ h, h < n → qs.getD h zeroC = wayC ps i h) → climbC x (i : Int) qs n = nodeC ps n (i / 2 ^ n)
  | 0, _ => by rw [climbC, hx, Nat.pow_zero, Nat.div_one]
  | n + 1, hq => by
    have ih := climb_way ps qs i x hx n (fun h hh => hq h (by omega))
    have e : i / 2 ^ (n + 1) = i / 2 ^ n / 2 := by rw [Nat.pow_succ, Nat.div_div_eq_div_mul]
    have ec : (i : Int) / 2 ^ n % 2 = ((i / 2 ^ n % 2 : Nat) : Int) := by
      have : (i : Int) / 2 ^ n = ((i / 2 ^ n : Nat) : Int) := by rw [Int.natCast_ediv]; simp
      rw [this]; omega
    rw [climbC, ih, hq n (by omega), wayC, ec, e, nodeC]
    generalize i / 2 ^ n = q
    by_cases hp : q % 2 = 0
    · rw [sib, if_pos (by omega), if_pos hp, show 2 * (q / 2) = q by omega]
    · rw [sib, if_neg (by omega), if_neg hp, show 2 * (q / 2) = q - 1 by omega, show q - 1 + 1 = q by omega]
theorem i64_xor1 : ∀ k : Fin 32, bits .xor .i64 ((k.1 : Nat) : Int) 1 = ((sib k.1 : Nat) : Int) := by decide
/-- Two leaves beside each other. -/
theorem sib_sib (i : Nat) : sib (sib i) = i := by
  unfold sib
  by_cases h : i % 2 = 0
  · rw [if_pos h, if_neg (by omega)]; omega
  · rw [if_neg h, if_pos (by omega)]; omega
theorem sib_half (i : Nat) : sib i / 2 = i / 2 := by unfold sib; split <;> omega
theorem way_beside (ps : List (List Int)) (i h : Nat) : wayC ps (sib i) (h + 1) = wayC ps i (h + 1) := by
  have e : ∀ x : Nat, x / 2 ^ (h + 1) = x / 2 / 2 ^ h := fun x => by rw [Nat.pow_succ, Nat.mul_comm, Nat.div_div_eq_div_mul]
  rw [wayC, wayC, e, e, sib_half]
end Go.Proofs.YtobmpdpcjaaklaaDoor
