/-
  DERIVED. GIVEN WITH THE SEED: THE CARDS: each row of YthjcgdcmbedhnaaDoorRows.lean that lists a variable, with what it lists TIED to the program's text (the seventh form; the later family's looks); each row that meets fmt, with fmt's text TOLD by the authors' own Lean function (tested against real Go, not proved from fmt's source: count such statements apart). THE CARD IS WHAT COUNTS. Prove the row's statement (the work); the ties are given (YthjcgdcmbedhnaaDoorTie.lean); close each card by the builder's one call (the guide's Derived/Test/ToyasCard.lean, 'card_holds'). Laid BY PROGRAM, IN A SANDBOX (cutbox-door.mjs). By AI agents, Wed Nov 11 2026. No macro, syntax, notation, axiom, sorry.
-/
import Derived.Test.YthjcgdcmbedhnaaDoorRows
import GoSem.ClaimSeven
namespace Go.Proofs.YthjcgdcmbedhnaaDoor
namespace Rows

/-- THE TIED CARD OF 'quoratelaw09.CodecSigned'. -/
def codecSignedCard : Claim7 := { stood := { row := codecSignedRow, standIns := [], harness := (true, "55252f43848504ce7b658d5e23f1cde001b865b6849001cabe77826c890678fc"), looks := false }, kinds := [], alts := [], laidByText := true, laidKinds := [.sentinel, .sentinel, .data], laidTests := true, laidLooks := .later }
def CodecSignedCardSaid : Prop := Claim7.holds Tryd.pinned (.plain (OpenSpec.ofChange codecSignedSpec)) codecSignedCard

/-- THE TIED CARD OF 'quoratelaw09.CodecIds'. -/
def codecIdsCard : Claim7 := { stood := { row := codecIdsRow, standIns := [], harness := (true, "55252f43848504ce7b658d5e23f1cde001b865b6849001cabe77826c890678fc"), looks := false }, kinds := [], alts := [], laidByText := true, laidKinds := [.sentinel, .sentinel, .data], laidTests := true, laidLooks := .later }
def CodecIdsCardSaid : Prop := Claim7.holds Tryd.pinned (.plain (OpenSpec.ofChange codecIdsSpec)) codecIdsCard

/-- THE SECOND FORM's CARD OF 'quoratelaw09.CodecSigned'. -/
def codecSignedUptoCard : Claim7 := { stood := { row := codecSignedUptoRow, standIns := [], harness := (true, "55252f43848504ce7b658d5e23f1cde001b865b6849001cabe77826c890678fc"), looks := false }, kinds := [], alts := [], laidByText := true, laidKinds := [.sentinel, .sentinel, .data], laidTests := true, laidLooks := .later }
def CodecSignedUptoCardSaid : Prop := Claim7.holds Tryd.pinned (.plain (OpenSpec.upto codecSignedSpec)) codecSignedUptoCard

/-- THE SECOND FORM's CARD OF 'quoratelaw09.CodecIds'. -/
def codecIdsUptoCard : Claim7 := { stood := { row := codecIdsUptoRow, standIns := [], harness := (true, "55252f43848504ce7b658d5e23f1cde001b865b6849001cabe77826c890678fc"), looks := false }, kinds := [], alts := [], laidByText := true, laidKinds := [.sentinel, .sentinel, .data], laidTests := true, laidLooks := .later }
def CodecIdsUptoCardSaid : Prop := Claim7.holds Tryd.pinned (.plain (OpenSpec.upto codecIdsSpec)) codecIdsUptoCard
end Rows
end Go.Proofs.YthjcgdcmbedhnaaDoor
