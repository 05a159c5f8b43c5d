/-
  append of one element that is one cell; what an owned row's growth leaves.
-/
import Derived.OwnWalk
import Derived.Test.YtonkdcbmmdhjgaaGreatDoorAv
namespace Go.Proofs.YtonkdcbmmdhjgaaGreatDoor
open Go.RowKit

theorem grown_own {a b c : World} {v : Value} {base size : Nat} {e : TypeId} {n : Nat} {xs : List Value} (h : a.grownBy b none) (k : b.grownBy c v.ownBlock) (hv : b.ownsRow base e size v n xs) (hB : a.heap.size ≤ base) : a.grownBy c none := by
  cases hg : v.ownBlock with
  | none => rw [hg] at k; exact grown_trans h k
  | some g => rw [hg] at k; exact grown_fresh h k (Nat.le_trans hB (hv.lt g hg).1)
theorem wpList_push {P : Program} {w0 : World} {ops : Array Oper} {rest : List Oper} {o : Oper} {a : Act} {Q : Exit → Act → World → Prop} (hgd : o.guard = none) (s x : Operand) (t : TypeId)
    (ho : o.op = .call { callee := .builtin .append, args := #[s, x], argTypes := #[t, t] }) (base : Nat) (e e0 : TypeId) (i : TypeInfo) (z : Value) (bytes : Nat) (ht : P.underlying t = some (.slice e)) (hi : P.info? e = some i) (hz : i.zero = some z) (hsize : i.size = 1) (hby : i.bytes = bytes) (hzs : z.cells.size = 1)
    (v : Value) (n : Nat) (xs : List Value) (hs : a.eval s = v) (hown : w0.ownsRow base e 1 v n xs) (u : Value) (hu1 : u.oneCell' = true) (hx : a.eval x = .slice (some ⟨w0.heap.size, 0, none⟩) 1 1) (hn : n ≤ 1000000) (hb : bytes ≤ 1000) (hbase : base ≤ w0.heap.size)
    (h : ∀ v' w', w'.ownsRow base e 1 v' (n + 1) (xs ++ [u]) → w0.grownBy w' v.ownBlock → wpList P ops Q rest (a.put o.dst v') w') : wpList P ops Q (o :: rest) a (w0.alloc (.cells #[u] e0)) := by
  refine wpList_append_own _ hgd s x t ho base e i z 1 bytes ht hi hz hsize hby hzs (by omega) v n xs hs (hown.alloc _) ⟨w0.heap.size, 0, none⟩ 1 1 [u] hx rfl (fun j y hy => ?_) (by simp [hu1]) (by simp only [maxLen]; omega) (by
    have := Nat.mul_le_mul (show n + 1 ≤ 1000001 by omega) hb
    omega) (by rw [World.size_alloc]; omega) (fun v' w' h1 h2 _ => h v' w' h1 (grown_trans (World.grownBy_alloc w0 _ _) h2))
  have : j = 0 := by
    have := (List.getElem?_eq_some_iff.1 hy).1
    simp at this
    omega
  subst this
  have h1 := (Blk.new w0 e0 #[u]).cell 0
  rw [show (⟨w0.heap.size, 0, none⟩ : Addr).add 0 = ⟨w0.heap.size, 0, none⟩ by simp [Addr.add], h1]
  simpa using hy
end Go.Proofs.YtonkdcbmmdhjgaaGreatDoor
