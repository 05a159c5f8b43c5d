/-
  DERIVED. GIVEN WITH THE SEED: THE CARDS: each row of YtmoebkdbnldbdaaGreatDoorRows.lean that lists a variable, with what it lists TIED to the program's text (the seventh form; the later family's looks); each row that meets fmt, with fmt's text TOLD by the authors' own Lean function (tested against real Go, not proved from fmt's source: count such statements apart). THE CARD IS WHAT COUNTS. Prove the row's statement (the work); the ties are given (YtmoebkdbnldbdaaGreatDoorTie.lean); close each card by the builder's one call (the guide's Derived/Test/ToyasCard.lean, 'card_holds'). Laid BY PROGRAM, IN A SANDBOX (cutbox-door.mjs). By AI agents, Wed Nov 11 2026. No macro, syntax, notation, axiom, sorry.
-/
import Derived.Test.YtmoebkdbnldbdaaGreatDoorRows
import GoSem.ClaimSeven
namespace Go.Proofs.YtmoebkdbnldbdaaGreatDoor
namespace Rows

/-- THE TIED CARD OF 'quoratelaw20.EpochsParts'. -/
def epochsPartsCard : Claim7 := { stood := { row := epochsPartsRow, standIns := [], harness := (true, "66eea2a96ed9371a986a691850c49f2e46ee7efff00df5ede63247b608fe5065"), looks := true }, kinds := [], alts := [], laidByText := true, laidKinds := [.sentinel, .sentinel, .sentinel, .sentinel, .sentinel, .sentinel, .sentinel, .sentinel, .sentinel, .sentinel, .sentinel, .sentinel, .sentinel, .sentinel, .sentinel, .sentinel, .sentinel, .sentinel, .data], laidTests := true, laidLooks := .later }
def EpochsPartsCardSaid : Prop := Claim7.holds Tryz.pinned (.plain (OpenSpec.ofChange epochsPartsSpec)) epochsPartsCard

/-- THE SECOND FORM's CARD OF 'quoratelaw20.EpochsParts'. -/
def epochsPartsUptoCard : Claim7 := { stood := { row := epochsPartsUptoRow, standIns := [], harness := (true, "66eea2a96ed9371a986a691850c49f2e46ee7efff00df5ede63247b608fe5065"), looks := true }, kinds := [], alts := [], laidByText := true, laidKinds := [.sentinel, .sentinel, .sentinel, .sentinel, .sentinel, .sentinel, .sentinel, .sentinel, .sentinel, .sentinel, .sentinel, .sentinel, .sentinel, .sentinel, .sentinel, .sentinel, .sentinel, .sentinel, .data], laidTests := true, laidLooks := .later }
def EpochsPartsUptoCardSaid : Prop := Claim7.holds Tryz.pinned (.plain (OpenSpec.upto epochsPartsSpec)) epochsPartsUptoCard
end Rows
end Go.Proofs.YtmoebkdbnldbdaaGreatDoor
