/-
  Several texts in one: PwS, PwA.
-/
import Derived.RangeFuncNested
import Derived.RangeFuncBound
import Derived.RangeFuncBox
import Derived.RangeFuncCalls
import Derived.RangeFuncLeaves
import Derived.Shelf.Abstract
import Derived.Shelf.RegionOpen
import Derived.OwnWalkIn
import Derived.TacticsInMore
import Derived.LoopNIn
import Derived.LoopIn
import Derived.BigRegionIn
import Derived.Test.YtpdfkgmgmndcfaaDoorM20C
import Derived.Test.YtpdfkgmgmndcfaaDoorM20r
import Derived.WalkKit
import Derived.RangeFuncFrom
/-
  The sums of powers: everyone, those, add.
-/
namespace Go.Proofs.YtpdfkgmgmndcfaaDoor
open Go.RowKit Go.Shelf

attribute [local go_sem] Oper.semAt_some

theorem Below.trans' {n : Nat} {a b c d : World} (k : Below n b c) (h : Below n a b) (l : Below n c d) : Below n a d := (h.trans k).trans l
theorem range_below {w w' : World} {n b o : Nat} {cs : List Value} (h : w.rangeAt b o cs) (hk : Below n w w') (hb : b < n) : w'.rangeAt b o cs := fun j v hv => (hk.cell (p := ⟨b, o + j, none⟩) hb).trans (h j v hv)
/-- A validator's box, laid and filled. -/
theorem box_facts {wr W0 : World} {zs cs : Array Value} {x : Vd} (hx : x.key.length = 16) (hcs : cs = x.cells.toArray) (e : W0 = (wr.alloc (.cells zs 45)).setRow wr.heap.size cs) :
    wr.grownBy W0 none ∧ W0.rangeAt wr.heap.size 0 (x.key.map (Value.int .u8)) ∧ W0.cell? ⟨wr.heap.size, 16, none⟩ = some (.int .i64 x.p) := by
  have hb := (Blk.new wr 45 zs).row cs
  rw [← e] at hb
  have hr : W0.rangeAt wr.heap.size 0 x.cells := fun j v hv => by
    rw [Nat.zero_add, hb.cell, hcs]; simpa using hv
  refine ⟨?_, vd_range hr, by simpa using vd_power hx hr⟩
  rw [e]
  exact grown_row (World.grownBy_alloc wr _ none) (.inl (Nat.le_refl _)) cs
theorem cells_facts {x : Vd} (hx : x.key.length = 16) {cs : Array Value} (hcs : cs = x.cells.toArray) : cs.size = 17 ∧ (cs.all fun v => v.oneCell') = true ∧ (Tryd.prog.info? 45).map (·.size) = some cs.size := by
  have hsz : cs.size = 17 := by rw [hcs, List.size_toArray, Vd.cells_length hx]
  exact ⟨hsz, by rw [hcs]; simp [Vd.cells, Value.oneCell'], by rw [hsz]; kernel_rfl⟩

/-- The places of who that lie in V, with their powers. -/
def powersAt (V : List Vd) (who : List Int) : List Int := who.map fun i => ((V[i.toNat]?).map Vd.p).getD 0
theorem powersAt_snoc (V : List Vd) (who : List Int) (k : Nat) (h : k < who.length) (hv : (who[k]).toNat < V.length) : powersAt V (who.take (k + 1)) = powersAt V (who.take k) ++ [V[(who[k]).toNat].p] := by
  rw [← List.take_append_getElem h, powersAt, powersAt, List.map_append]
  simp [List.getElem?_eq_getElem hv]

end Go.Proofs.YtpdfkgmgmndcfaaDoor
/-
  The sums of powers: the makers, add.
-/
namespace Go.Proofs.YtpdfkgmgmndcfaaDoor
open Go.RowKit Go.Shelf

attribute [local go_sem] Oper.semAt_some

theorem ints_below {n : Nat} {w w' : World} {A : Option Addr} {l : List Int} (h : IntsAt w A l) (hk : Below n w w') (hA : ∀ a, A = some a → l ≠ [] → a.block < n) : IntsAt w' A l := fun hl => by
  obtain ⟨ad, rfl, hc⟩ := h hl
  exact ⟨ad, rfl, fun j hj => (hk.cell (by rw [block_add]; exact hA ad rfl hl)).trans (hc j hj)⟩
/-- A sum, as Go adds. -/
def sumW (zs : List Int) : Int := zs.foldl (fun s x => wrap64 (s + x)) 0
theorem sumW_snoc (zs : List Int) (x : Int) : sumW (zs ++ [x]) = wrap64 (sumW zs + x) := by simp [sumW]

end Go.Proofs.YtpdfkgmgmndcfaaDoor
