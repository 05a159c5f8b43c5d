/-
  quoratenum.SameInts, of equal rows.
-/
import Derived.Test.YtonkdcbmmdhjgaaGreatDoorArgI
import Derived.Test.YtonkdcbmmdhjgaaGreatDoorGe
import Derived.OwnWalk
namespace Go.Proofs.YtonkdcbmmdhjgaaGreatDoor
open Go.RowKit

set_option maxRecDepth 100000 in
theorem sameints_is (w : World) (A1 A2 : Option Addr) (c1 c2 n : Nat) (xs : List Int) (hn : xs.length = n) (hnb : n ≤ 1000000) (h1 : IntsAt w A1 xs) (h2 : IntsAt w A2 xs) :
    Calls Tryz.prog 36 #[.slice A1 n c1, .slice A2 n c2] w fun e w' => e = .returned (.bool true) ∧ w.grownBy w' none := by
  have H1 := Lib.hid h1
  have H2 := Lib.hid h2
  have HN := Lib.hid hn
  clear h1 h2 hn
  go_enter Tryz.func36, Tryz.ntmps36
  go_wp2_with fail
  go_loopw [13] (fun i wr => ∃ k : Nat, k ≤ n ∧ i = .int .i64 (k : Int) ∧ w.grownBy wr none) (fun i _ => n - (intOf i).toNat)
  case atStart => exact ⟨0, by omega, rfl, World.grownBy.refl w none⟩
  case round =>
    obtain ⟨k, hk, hi, hK⟩ := hrel
    obtain ⟨I, hI⟩ : ∃ I : Int, I = (k : Int) := ⟨_, rfl⟩
    rw [← hI] at hi
    subst hi
    by_cases hlt : k < n
    · have d1 : decide (I < (n : Int)) = true := by simp; omega
      have hkx : k < xs.length := by have := HN.out; omega
      obtain ⟨ad1, rfl, q1⟩ := H1.out (by rintro rfl; simp at hkx)
      obtain ⟨g1, f1, rfl⟩ := addr_form (q1 0 (by omega)) rfl
      obtain ⟨ad2, rfl, q2⟩ := H2.out (by rintro rfl; simp at hkx)
      obtain ⟨g2, f2, rfl⟩ := addr_form (q2 0 (by omega)) rfl
      obtain ⟨x, hx⟩ : ∃ x : Int, x = xs[k] := ⟨_, rfl⟩
      have hkI : I.toNat = k := by omega
      have b1 : wr.cell? ⟨g1, f1 + I.toNat, none⟩ = some (.int .i64 x) := by rw [hkI, hx, ← Go.WideShapes.add_plain]; exact hK.cell (q1 k hkx) (by simp)
      have b2 : wr.cell? ⟨g2, f2 + I.toNat, none⟩ = some (.int .i64 x) := by rw [hkI, hx, ← Go.WideShapes.add_plain]; exact hK.cell (q2 k hkx) (by simp)
      have hI68 : 0 ≤ I ∧ I < (n : Int) := by omega
      have HI := Lib.hid (And.intro hI hlt)
      have HG := Lib.hid hK
      clear hI hlt hkI hx hK hk q1 q2 hkx
      go_wp2_with fail
      go_quiet (fail)
      go_wp2_with fail
      go_roundw
      case rel =>
        obtain ⟨hI, hlt⟩ := HI.out
        exact ⟨k + 1, by omega, by rw [hI]; go_num, ⟨HG.out.os, HG.out.tape, HG.out.output, HG.out.size, HG.out.block⟩⟩
      case measure => obtain ⟨hI, hlt⟩ := HI.out; simp [intOf]; omega
    · have d1 : decide (I < (n : Int)) = false := by simp; omega
      have HG := Lib.hid hK
      clear hlt hI hK hk
      go_wp2_with fail
      go_ret
      exact ⟨rfl, HG.out⟩

end Go.Proofs.YtonkdcbmmdhjgaaGreatDoor
