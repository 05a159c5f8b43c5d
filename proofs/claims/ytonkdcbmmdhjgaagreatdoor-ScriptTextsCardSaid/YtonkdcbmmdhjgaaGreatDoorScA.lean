/-
  Scripts: the library's contracts, laid; the number that a text is.
-/
import Derived.Test.YtonkdcbmmdhjgaaGreatDoorScP
import Derived.Test.YtonkdcbmmdhjgaaGreatDoorGe
import Derived.Test.YtonkdcbmmdhjgaaGreatDoorGrow
import Derived.Ground.NamesProg
import Derived.Shelf.Lay
import Derived.Shelf.Small.Wraps
import Derived.Shelf.Small.Strs
import Derived.Shelf.Strings.Search3
import Derived.Shelf.Strings.Split
import Derived.Shelf.Strings.OnBuilder
import Derived.Shelf.Strconv.Itoa3
import Derived.Shelf.Strconv.AtoiAll
import Derived.Lib.AppendIntMem
namespace Go.Proofs
open Go.RowKit Go.Shelf

shelf_lay Lays.n104 Nm 104 at Tryz as Tryz.cutSc
shelf_lay Lays.n137 Nm 137 at Tryz as Tryz.ixbSc
shelf_lay Lays.n143 Nm 143 at Tryz as Tryz.ixSc
shelf_lay Lays.n146 Nm 146 at Tryz as Tryz.splitSc
shelf_lay LaysM.n171 Nm 171 at Tryz as Tryz.itoaSc
shelf_lay LaysC.n172 Nm 172 at Tryz as Tryz.atoiSc
end Go.Proofs
namespace Go.Proofs.YtonkdcbmmdhjgaaGreatDoor
open Go.RowKit Go.Shelf

theorem grow_gr (w : World) (k : Nat) (os : Array Obj) : w.grownBy (Sort.grow (w.drewN k) os) none :=
  ⟨rfl, rfl, rfl, by simp [Sort.grow, World.drewN], fun j hj _ => by simp only [Sort.grow, World.drewN]; rw [Array.getElem?_append_left hj]⟩
theorem Below.gr {w w' : World} (h : Below w.heap.size w w') : w.grownBy w' none := ⟨h.os, h.tape, h.output, h.size, fun k hk _ => h.block k hk⟩
/-- What the library's variables hold. -/
structure ScEnv (w : World) : Prop where
  tab : Lib.TabBelow Tryz.prog w.heap.size w "internal/strconv.uint64pow10" .u64 Lib.pow10Tab
  syn : ∃ t p, w.cell? ⟨20, 0, none⟩ = some (.iface t p)
  ran : ∃ t p, w.cell? ⟨21, 0, none⟩ = some (.iface t p)
  max : ∃ m, w.cell? ⟨18, 0, none⟩ = some (.int .i64 m)
theorem ScEnv.grown {w w' : World} (h : ScEnv w) (g : w.grownBy w' none) : ScEnv w' := by
  have hb : Below w.heap.size w w' := ⟨g.os, g.tape, g.output, g.size, fun k hk => g.block k hk (by simp)⟩
  obtain ⟨h1, ⟨t1, p1, h2⟩, ⟨t2, p2, h3⟩, m, h4⟩ := h
  exact ⟨Lib.tabBelow_of_tabIs (h1.on hb).here, ⟨t1, p1, g.cell h2 (by simp)⟩, ⟨t2, p2, g.cell h3 (by simp)⟩, m, g.cell h4 (by simp)⟩
theorem cut_is (s : ByteArray) (w : World) (hs : s.size ≤ 9223372036854775807) : Calls Tryz.prog 17 #[.string s, .string ⟨#[10]⟩] w fun e w' =>
    e = .returned (.tuple #[.string ⟨(Lib.trimSuffix s.data.toList [10]).toArray⟩, .bool (Lib.hasSuffix s.data.toList [10])]) ∧ w' = w := Any.strings_CutSuffix Tryz.cutSc s ⟨#[10]⟩ w hs
theorem ixb_is (s : ByteArray) (c : Int) (w : World) : Calls Tryz.prog 32 #[.string s, .int .u8 c] w fun e w' => e = .returned (.int .i64 (Lib.indexByte s.data.toList c.toNat.toUInt8)) ∧ w' = w := Any.strings_IndexByte Tryz.ixbSc s c w
theorem ix_is (s : ByteArray) (c : UInt8) (w : World) : Calls Tryz.prog 55 #[.string s, .string ⟨#[c]⟩] w fun e w' => e = .returned (.int .i64 (Lib.indexByte s.data.toList c)) ∧ w' = w := Any.strings_Index_one Tryz.ixSc s c w
theorem itoa_is (n : Int) (h0 : -9223372036854775808 ≤ n) (h1 : n ≤ 9223372036854775807) (w : World) (he : ScEnv w) : Calls Tryz.prog 21 #[.int .i64 n] w fun e w' => e = .returned (.string ⟨(Lib.itoa n).toArray⟩) ∧ w.grownBy w' none :=
  (Any.strconv_Itoa Tryz.itoaSc n h0 h1 w he.tab.here).mono fun e w' ⟨h, k, os, hw⟩ => ⟨h, by subst hw; exact grow_gr w k os⟩
/-- How Atoi ends. -/
def atoiEnd (l : List UInt8) (v : Int) (er : Value) : Prop := match Lib.atoiAll l with
  | .ok u => v = u ∧ er = .nilIface
  | _ => ∃ t p, er = .iface t p
theorem atoi_is (s : ByteArray) (hs : s.size ≤ 281474976710656) (w : World) (he : ScEnv w) : Calls Tryz.prog 41 #[.string s] w fun e w' => ∃ v er, e = .returned (.tuple #[.int .i64 v, er]) ∧ atoiEnd s.data.toList v er ∧ w.grownBy w' none := by
  obtain ⟨t1, p1, h1⟩ := he.syn
  obtain ⟨t2, p2, h2⟩ := he.ran
  unfold atoiEnd
  cases h : Lib.atoiAll s.data.toList with
  | ok u =>
    refine (Any.strconv_Atoi_ok Tryz.atoiSc s (by omega) u h w).mono ?_
    rintro e w' ⟨he, hw⟩
    refine ⟨u, .nilIface, he, ⟨rfl, rfl⟩, ?_⟩
    rcases hw with rfl | ⟨t, rfl⟩
    · exact World.grownBy.refl _ _
    · exact Below.gr (Lib.bytesWorld_below _ _ _)
  | «syntax» =>
    refine (Any.strconv_Atoi_syntax Tryz.atoiSc s hs h _ w h1 (.inr ⟨_, _, rfl⟩)).mono ?_
    rintro e w' ⟨N, he, _, _, hb⟩
    exact ⟨_, _, he, ⟨_, _, rfl⟩, Below.gr hb⟩
  | range =>
    refine (Any.strconv_Atoi_range Tryz.atoiSc s hs h _ w h2 (.inr ⟨_, _, rfl⟩)).mono ?_
    rintro e w' ⟨N, he, _, _, hb⟩
    exact ⟨_, _, he, ⟨_, _, rfl⟩, Below.gr hb⟩
end Go.Proofs.YtonkdcbmmdhjgaaGreatDoor
