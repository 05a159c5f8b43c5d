/-
  DERIVED. GIVEN WITH THE SEED: THE CARDS: each row of YtigafnbofmiknaaGreatDoorRows.lean that lists a variable, with what it lists TIED to the program's text (the seventh form; the later family's looks); each row that meets fmt, with fmt's text TOLD by the authors' own Lean function (tested against real Go, not proved from fmt's source: count such statements apart). THE CARD IS WHAT COUNTS. Prove the row's statement (the work); the ties are given (YtigafnbofmiknaaGreatDoorTie.lean); close each card by the builder's one call (the guide's Derived/Test/ToyasCard.lean, 'card_holds'). Laid BY PROGRAM, IN A SANDBOX (cutbox-door.mjs). By AI agents, Wed Nov 11 2026. No macro, syntax, notation, axiom, sorry.
-/
import Derived.Test.YtigafnbofmiknaaGreatDoorRows
import GoSem.ClaimSeven
namespace Go.Proofs.YtigafnbofmiknaaGreatDoor
namespace Rows

/-- THE TIED CARD OF 'quoratelaw20.EpochsChanges'. -/
def epochsChangesCard : Claim7 := { stood := { row := epochsChangesRow, standIns := [], harness := (true, "0318503245f6605ea6eb070a8b865f03e9a2740af97f46f2c3f74277aefe3edb"), looks := true }, kinds := [], alts := [], laidByText := true, laidKinds := [.sentinel, .sentinel, .sentinel, .sentinel, .sentinel, .sentinel, .sentinel, .sentinel, .sentinel, .sentinel, .sentinel, .sentinel, .sentinel, .sentinel, .sentinel, .sentinel, .sentinel, .sentinel, .data], laidTests := true, laidLooks := .later }
def EpochsChangesCardSaid : Prop := Claim7.holds Tryz.pinned (.plain (OpenSpec.ofChange epochsChangesSpec)) epochsChangesCard

/-- THE TIED CARD OF 'quoratelaw20.EpochsWalks'. -/
def epochsWalksCard : Claim7 := { stood := { row := epochsWalksRow, standIns := [], harness := (true, "0318503245f6605ea6eb070a8b865f03e9a2740af97f46f2c3f74277aefe3edb"), looks := true }, kinds := [], alts := [], laidByText := true, laidKinds := [.sentinel, .sentinel, .sentinel, .sentinel, .sentinel, .sentinel, .sentinel, .sentinel, .sentinel, .sentinel, .sentinel, .sentinel, .sentinel, .sentinel, .sentinel, .sentinel, .sentinel, .sentinel, .data], laidTests := true, laidLooks := .later }
def EpochsWalksCardSaid : Prop := Claim7.holds Tryz.pinned (.plain (OpenSpec.ofChange epochsWalksSpec)) epochsWalksCard

/-- THE SECOND FORM's CARD OF 'quoratelaw20.EpochsChanges'. -/
def epochsChangesUptoCard : Claim7 := { stood := { row := epochsChangesUptoRow, standIns := [], harness := (true, "0318503245f6605ea6eb070a8b865f03e9a2740af97f46f2c3f74277aefe3edb"), looks := true }, kinds := [], alts := [], laidByText := true, laidKinds := [.sentinel, .sentinel, .sentinel, .sentinel, .sentinel, .sentinel, .sentinel, .sentinel, .sentinel, .sentinel, .sentinel, .sentinel, .sentinel, .sentinel, .sentinel, .sentinel, .sentinel, .sentinel, .data], laidTests := true, laidLooks := .later }
def EpochsChangesUptoCardSaid : Prop := Claim7.holds Tryz.pinned (.plain (OpenSpec.upto epochsChangesSpec)) epochsChangesUptoCard

/-- THE SECOND FORM's CARD OF 'quoratelaw20.EpochsWalks'. -/
def epochsWalksUptoCard : Claim7 := { stood := { row := epochsWalksUptoRow, standIns := [], harness := (true, "0318503245f6605ea6eb070a8b865f03e9a2740af97f46f2c3f74277aefe3edb"), looks := true }, kinds := [], alts := [], laidByText := true, laidKinds := [.sentinel, .sentinel, .sentinel, .sentinel, .sentinel, .sentinel, .sentinel, .sentinel, .sentinel, .sentinel, .sentinel, .sentinel, .sentinel, .sentinel, .sentinel, .sentinel, .sentinel, .sentinel, .data], laidTests := true, laidLooks := .later }
def EpochsWalksUptoCardSaid : Prop := Claim7.holds Tryz.pinned (.plain (OpenSpec.upto epochsWalksSpec)) epochsWalksUptoCard
end Rows
end Go.Proofs.YtigafnbofmiknaaGreatDoor
