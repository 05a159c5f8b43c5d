/-
  An address with no spot.
-/
import Derived.Test.YtonkdcbmmdhjgaaGreatDoorLaw
import Derived.Deep.Slices
import Derived.Deep.Fields
namespace Go.Proofs.YtonkdcbmmdhjgaaGreatDoor
open Go.ChangeShapes Go.WideShapes Go.ChangeAt Go.RowKit

section
variable {H : Type} {enc : TypeId × Value → H} {w : World} {base : Nat} {spare : Nat → Bool} {held : Bool} {fuel : Nat} {cs : List Value} {x : DataW H × List MemPlace}

theorem addr_form {ad : Addr} {k : Nat} {v : Value} (h : w.cell? (ad.add k) = some v) (hs : k = 0) : ∃ b off, ad = ⟨b, off, none⟩ := by
  subst hs
  obtain ⟨b, off, spot⟩ := ad
  have hspot : spot = none := by simpa [Addr.add] using World.cell?_spot h
  subst hspot
  exact ⟨b, off, rfl⟩
end
end Go.Proofs.YtonkdcbmmdhjgaaGreatDoor
