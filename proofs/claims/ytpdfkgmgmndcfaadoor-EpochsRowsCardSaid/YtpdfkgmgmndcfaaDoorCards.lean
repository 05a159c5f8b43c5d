/-
  DERIVED. GIVEN WITH THE SEED: THE CARDS: each row of YtpdfkgmgmndcfaaDoorRows.lean that lists a variable, with what it lists TIED to the program's text (the seventh form; the later family's looks); each row that meets fmt, with fmt's text TOLD by the authors' own Lean function (tested against real Go, not proved from fmt's source: count such statements apart). THE CARD IS WHAT COUNTS. Prove the row's statement (the work); the ties are given (YtpdfkgmgmndcfaaDoorTie.lean); close each card by the builder's one call (the guide's Derived/Test/ToyasCard.lean, 'card_holds'). Laid BY PROGRAM, IN A SANDBOX (cutbox-door.mjs). By AI agents, Wed Nov 11 2026. No macro, syntax, notation, axiom, sorry.
-/
import Derived.Test.YtpdfkgmgmndcfaaDoorRows
import GoSem.ClaimSeven
namespace Go.Proofs.YtpdfkgmgmndcfaaDoor
namespace Rows

/-- THE TIED CARD OF 'quoratelaw20.EpochsApart'. -/
def epochsApartCard : Claim7 := { stood := { row := epochsApartRow, standIns := [], harness := (true, "153490f1145a4d51b404193424f158bc44e1b45b2647b08909a91067e4656aaa"), looks := false }, kinds := [], alts := [], laidByText := true, laidKinds := [.sentinel, .sentinel, .sentinel, .sentinel, .data], laidTests := true, laidLooks := .later }
def EpochsApartCardSaid : Prop := Claim7.holds Tryd.pinned (.plain (OpenSpec.ofChange epochsApartSpec)) epochsApartCard

/-- THE TIED CARD OF 'quoratelaw20.EpochsRows'. -/
def epochsRowsCard : Claim7 := { stood := { row := epochsRowsRow, standIns := [], harness := (true, "153490f1145a4d51b404193424f158bc44e1b45b2647b08909a91067e4656aaa"), looks := false }, kinds := [], alts := [], laidByText := true, laidKinds := [.sentinel, .sentinel, .sentinel, .sentinel, .data], laidTests := true, laidLooks := .later }
def EpochsRowsCardSaid : Prop := Claim7.holds Tryd.pinned (.plain (OpenSpec.ofChange epochsRowsSpec)) epochsRowsCard

/-- THE SECOND FORM's CARD OF 'quoratelaw20.EpochsApart'. -/
def epochsApartUptoCard : Claim7 := { stood := { row := epochsApartUptoRow, standIns := [], harness := (true, "153490f1145a4d51b404193424f158bc44e1b45b2647b08909a91067e4656aaa"), looks := false }, kinds := [], alts := [], laidByText := true, laidKinds := [.sentinel, .sentinel, .sentinel, .sentinel, .data], laidTests := true, laidLooks := .later }
def EpochsApartUptoCardSaid : Prop := Claim7.holds Tryd.pinned (.plain (OpenSpec.upto epochsApartSpec)) epochsApartUptoCard

/-- THE SECOND FORM's CARD OF 'quoratelaw20.EpochsRows'. -/
def epochsRowsUptoCard : Claim7 := { stood := { row := epochsRowsUptoRow, standIns := [], harness := (true, "153490f1145a4d51b404193424f158bc44e1b45b2647b08909a91067e4656aaa"), looks := false }, kinds := [], alts := [], laidByText := true, laidKinds := [.sentinel, .sentinel, .sentinel, .sentinel, .data], laidTests := true, laidLooks := .later }
def EpochsRowsUptoCardSaid : Prop := Claim7.holds Tryd.pinned (.plain (OpenSpec.upto epochsRowsSpec)) epochsRowsUptoCard
end Rows
end Go.Proofs.YtpdfkgmgmndcfaaDoor
