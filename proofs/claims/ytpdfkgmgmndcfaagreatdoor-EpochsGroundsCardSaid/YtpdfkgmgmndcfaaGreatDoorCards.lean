/-
  DERIVED. GIVEN WITH THE SEED: THE CARDS: each row of YtpdfkgmgmndcfaaGreatDoorRows.lean that lists a variable, with what it lists TIED to the program's text (the seventh form; the later family's looks); each row that meets fmt, with fmt's text TOLD by the authors' own Lean function (tested against real Go, not proved from fmt's source: count such statements apart). THE CARD IS WHAT COUNTS. Prove the row's statement (the work); the ties are given (YtpdfkgmgmndcfaaGreatDoorTie.lean); close each card by the builder's one call (the guide's Derived/Test/ToyasCard.lean, 'card_holds'). Laid BY PROGRAM, IN A SANDBOX (cutbox-door.mjs). By AI agents, Wed Nov 11 2026. No macro, syntax, notation, axiom, sorry.
-/
import Derived.Test.YtpdfkgmgmndcfaaGreatDoorRows
import GoSem.ClaimSeven
namespace Go.Proofs.YtpdfkgmgmndcfaaGreatDoor
namespace Rows

/-- THE TIED CARD OF 'quoratelaw20.EpochsGrounds'. -/
def epochsGroundsCard : Claim7 := { stood := { row := epochsGroundsRow, standIns := [], harness := (true, "ee156caa453e8955e2d330e11d41e32f513e39a50cec29f5e268b267657fcc25"), looks := true }, kinds := [], alts := [], laidByText := true, laidKinds := [.sentinel, .sentinel, .sentinel, .sentinel, .sentinel, .sentinel, .sentinel, .sentinel, .sentinel, .sentinel, .sentinel, .sentinel, .sentinel, .sentinel, .sentinel, .sentinel, .sentinel, .sentinel, .data], laidTests := true, laidLooks := .later }
def EpochsGroundsCardSaid : Prop := Claim7.holds Tryz.pinned (.plain (OpenSpec.ofChange epochsGroundsSpec)) epochsGroundsCard

/-- THE SECOND FORM's CARD OF 'quoratelaw20.EpochsGrounds'. -/
def epochsGroundsUptoCard : Claim7 := { stood := { row := epochsGroundsUptoRow, standIns := [], harness := (true, "ee156caa453e8955e2d330e11d41e32f513e39a50cec29f5e268b267657fcc25"), looks := true }, kinds := [], alts := [], laidByText := true, laidKinds := [.sentinel, .sentinel, .sentinel, .sentinel, .sentinel, .sentinel, .sentinel, .sentinel, .sentinel, .sentinel, .sentinel, .sentinel, .sentinel, .sentinel, .sentinel, .sentinel, .sentinel, .sentinel, .data], laidTests := true, laidLooks := .later }
def EpochsGroundsUptoCardSaid : Prop := Claim7.holds Tryz.pinned (.plain (OpenSpec.upto epochsGroundsSpec)) epochsGroundsUptoCard
end Rows
end Go.Proofs.YtpdfkgmgmndcfaaGreatDoor
