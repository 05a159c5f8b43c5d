/-
  Several texts in one: PwR, PwV.
-/
import Derived.Test.YtpdfkgmgmndcfaaDoorM20F
/-
  The document's powers: Right, Total.
-/

namespace Go.Proofs.YtpdfkgmgmndcfaaDoor
open Go.RowKit

theorem findS_le {key : List Int} : ∀ {V : List Vd} {m : Nat} (h : m < V.length), V[m].key = key → 0 ≤ findS key V ∧ findS key V ≤ (m : Int)
  | x :: V, 0, _, e => by
    have e' : x.key = key := e
    rw [findS, if_pos e']; simp
  | x :: V, m + 1, h, e => by
    rw [findS]
    by_cases hx : x.key = key
    · rw [if_pos hx]; omega
    · rw [if_neg hx]
      have ih := findS_le (V := V) (m := m) (by simpa using h) e
      rw [if_neg (by omega)]; omega

end Go.Proofs.YtpdfkgmgmndcfaaDoor
/-
  The document's powers: Total, Sum, Enough, Few.
-/

namespace Go.Proofs.YtpdfkgmgmndcfaaDoor
open Go.RowKit

/-- The numbers of the errors that Sum answers. -/
def codeN : Nat → Int
  | 0 => 0
  | 1 => 11
  | 2 => 1
  | _ => 17

theorem right_sumW {V : List Vd} (hr : rightS V = true) : sumW (powersOf V) = (powersOf V).sum :=
  sumW_sum _ (right_powers hr).2.2 (by have := (right_powers hr).1; simp [powersOf]; omega)
theorem code_right {V : List Vd} {who : List Int} (h : sumCode V who = 0) : rightS V = true := by
  cases h1 : rightS V with
  | true => rfl
  | false => simp [sumCode, h1] at h
theorem codeN_zero {k : Nat} : codeN k = 0 ↔ k = 0 := by
  match k with
  | 0 => simp [codeN]
  | 1 => simp [codeN]
  | 2 => simp [codeN]
  | k + 3 => simp [codeN]

end Go.Proofs.YtpdfkgmgmndcfaaDoor
