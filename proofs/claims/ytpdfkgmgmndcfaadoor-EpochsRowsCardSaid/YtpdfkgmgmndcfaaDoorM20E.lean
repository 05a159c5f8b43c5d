/-
  Several texts in one: PwI, PwT.
-/
import Derived.WalkKit
import Derived.Test.YtpdfkgmgmndcfaaDoorM20C
import Derived.Test.YtpdfkgmgmndcfaaDoorM20D
/-
  Look-ups in a row of numbers.
-/
namespace Go.Proofs.YtpdfkgmgmndcfaaDoor
open Go.RowKit

end Go.Proofs.YtpdfkgmgmndcfaaDoor
/-
  Total, Quorum.
-/
namespace Go.Proofs.YtpdfkgmgmndcfaaDoor
open Go.RowKit

theorem VdsAt.above {w w' : World} {A : Option Addr} {V : List Vd} (h : VdsAt w A V) (hk : Below w.heap.size w w') : VdsAt w' A V := fun hne => by
  obtain ⟨b, off, rfl, hc⟩ := h hne
  refine ⟨b, off, rfl, fun k hk' j v hv => ?_⟩
  have h1 := hc k hk' j v hv
  exact (hk.cell (World.block_lt_of_cell? w _ h1)).trans h1
theorem VdsAt.blk {w : World} {A : Option Addr} {V : List Vd} (h : VdsAt w A V) : ∀ a, A = some a → V ≠ [] → a.block < w.heap.size := fun a ha hne => by
  obtain ⟨b, off, rfl, hc⟩ := h hne
  cases ha
  have h0 := List.length_pos_iff.2 hne
  have h1 := hc 0 h0 V[0].key.length (.int .i64 V[0].p) (by simp [Vd.cells])
  have h2 := World.block_lt_of_cell? w _ h1
  exact h2
theorem IntsAt.above {w w' : World} {A : Option Addr} {l : List Int} (h : IntsAt w A l) (hk : Below w.heap.size w w') : IntsAt w' A l := fun hl => by
  obtain ⟨ad, rfl, hc⟩ := h hl
  exact ⟨ad, rfl, fun j hj => (hk.cell (World.block_lt_of_cell? w _ (hc j hj))).trans (hc j hj)⟩
theorem IntsAt.blk {w : World} {A : Option Addr} {l : List Int} (h : IntsAt w A l) : ∀ a, A = some a → l ≠ [] → a.block < w.heap.size := fun a ha hne => by
  obtain ⟨b, off, rfl, hc⟩ := h.get hne
  cases ha
  have h2 := World.block_lt_of_cell? w _ (hc 0 (List.length_pos_iff.2 hne))
  exact h2
theorem ErrAt.above {w w' : World} {B k : Nat} {a : Addr} (h : ErrAt w B k a) (hk : Below w.heap.size w w') (hB : B ≤ w.heap.size) : ErrAt w' B k a := h.below hk hB
theorem grown_above {w w' : World} (h : w.grownBy w' none) : Below w.heap.size w w' := below_grown h (Nat.le_refl _) (fun _ e => by cases e)
theorem above_trans {a b c : World} (h : Below a.heap.size a b) (k : Below b.heap.size b c) : Below a.heap.size a c := h.trans (k.mono h.size)

theorem sum_bounds (M : Int) (hM : 0 ≤ M) : ∀ zs : List Int, (∀ z ∈ zs, 1 ≤ z ∧ z ≤ M) → (zs.length : Int) ≤ zs.sum ∧ zs.sum ≤ zs.length * M
  | [], _ => by simp
  | z :: zs, h => by
    have h1 := h z (by simp)
    have h2 := sum_bounds M hM zs fun x hx => h x (by simp [hx])
    have e : ((zs.length + 1 : Nat) : Int) * M = zs.length * M + M := by rw [Int.natCast_add, Int.add_mul]; simp
    rw [List.sum_cons, List.length_cons, e]
    omega
theorem foldW : ∀ (zs : List Int) (s : Int), (∀ z ∈ zs, 1 ≤ z ∧ z ≤ 1099511627776) → 0 ≤ s → s + zs.length * 1099511627776 ≤ 9223372036854775807 → zs.foldl (fun s x => wrap64 (s + x)) s = s + zs.sum
  | [], s, _, _, _ => by simp
  | z :: zs, s, h, h0, hs => by
    have h1 := h z (by simp)
    rw [List.length_cons] at hs
    rw [List.foldl_cons, w64 _ ⟨by omega, by omega⟩, foldW zs (s + z) (fun x hx => h x (by simp [hx])) (by omega) (by omega), List.sum_cons]
    omega
theorem sumW_sum (zs : List Int) (h : ∀ z ∈ zs, 1 ≤ z ∧ z ≤ 1099511627776) (hl : zs.length < 1000) : sumW zs = zs.sum := by
  rw [sumW, foldW zs 0 h (by omega) (by omega)]; omega

def powersOf (V : List Vd) : List Int := V.map Vd.p
theorem right_powers {V : List Vd} (hr : rightS V = true) : V.length ≤ 7 ∧ 1 ≤ V.length ∧ ∀ z ∈ powersOf V, 1 ≤ z ∧ z ≤ 1099511627776 := by
  obtain ⟨⟨h1, h2⟩, h3⟩ := (rightS_iff V).1 hr
  refine ⟨h2, h1, fun z hz => ?_⟩
  obtain ⟨x, hx, rfl⟩ := List.mem_map.1 hz
  obtain ⟨k, hk, rfl⟩ := List.getElem_of_mem hx
  have := h3 k hk
  exact ⟨this.1, this.2.1⟩
def totalS (V : List Vd) : Int := if rightS V then (powersOf V).sum else 0
def quorumS (V : List Vd) : Int := if rightS V then 2 * (powersOf V).sum / 3 + 1 else 0
theorem total_bound {V : List Vd} (hr : rightS V = true) : 1 ≤ (powersOf V).sum ∧ (powersOf V).sum ≤ 7696581394432 := by
  obtain ⟨h1, h2, h3⟩ := right_powers hr
  have hl : (powersOf V).length = V.length := by simp [powersOf]
  have := sum_bounds 1099511627776 (by omega) (powersOf V) h3
  rw [hl] at this
  omega

end Go.Proofs.YtpdfkgmgmndcfaaDoor
