/-
  DERIVED. GIVEN WITH THE SEED: THE CARDS: each row of YthcilpfcdblmkaaDoorRows.lean that lists a variable, with what it lists TIED to the program's text (the seventh form; the later family's looks); each row that meets fmt, with fmt's text TOLD by the authors' own Lean function (tested against real Go, not proved from fmt's source: count such statements apart). THE CARD IS WHAT COUNTS. Prove the row's statement (the work); the ties are given (YthcilpfcdblmkaaDoorTie.lean); close each card by the builder's one call (the guide's Derived/Test/ToyasCard.lean, 'card_holds'). Laid BY PROGRAM, IN A SANDBOX (cutbox-door.mjs). By AI agents, Wed Nov 11 2026. No macro, syntax, notation, axiom, sorry.
-/
import Derived.Test.YthcilpfcdblmkaaDoorRows
import GoSem.ClaimSeven
namespace Go.Proofs.YthcilpfcdblmkaaDoor
namespace Rows

/-- THE TIED CARD OF 'quoratelaw10.TallyPlays'. -/
def tallyPlaysCard : Claim7 := { stood := { row := tallyPlaysRow, standIns := [], harness := (true, "fc9e4b2cb504ac74d63f2563bb3bf15d8debb9d8453fad9cc309c8220dffabf3"), looks := true }, kinds := [], alts := [], laidByText := true, laidKinds := [.sentinel, .sentinel, .sentinel, .sentinel, .sentinel, .sentinel, .sentinel, .sentinel, .sentinel, .sentinel, .sentinel, .sentinel, .sentinel, .sentinel, .sentinel, .sentinel, .sentinel, .sentinel], laidTests := true, laidLooks := .later }
def TallyPlaysCardSaid : Prop := Claim7.holds Tryd.pinned (.plain (OpenSpec.ofChange tallyPlaysSpec)) tallyPlaysCard

/-- THE TIED CARD OF 'quoratelaw10.TallyOnce'. -/
def tallyOnceCard : Claim7 := { stood := { row := tallyOnceRow, standIns := [], harness := (true, "fc9e4b2cb504ac74d63f2563bb3bf15d8debb9d8453fad9cc309c8220dffabf3"), looks := true }, kinds := [], alts := [], laidByText := true, laidKinds := [.sentinel, .sentinel, .sentinel], laidTests := true, laidLooks := .later }
def TallyOnceCardSaid : Prop := Claim7.holds Tryd.pinned (.plain (OpenSpec.ofChange tallyOnceSpec)) tallyOnceCard

/-- THE TIED CARD OF 'quoratelaw10.TallyTurned'. -/
def tallyTurnedCard : Claim7 := { stood := { row := tallyTurnedRow, standIns := [], harness := (true, "fc9e4b2cb504ac74d63f2563bb3bf15d8debb9d8453fad9cc309c8220dffabf3"), looks := true }, kinds := [], alts := [], laidByText := true, laidKinds := [.sentinel, .sentinel, .sentinel], laidTests := true, laidLooks := .later }
def TallyTurnedCardSaid : Prop := Claim7.holds Tryd.pinned (.plain (OpenSpec.ofChange tallyTurnedSpec)) tallyTurnedCard

/-- THE TIED CARD OF 'quoratelaw10.TallyShares'. -/
def tallySharesCard : Claim7 := { stood := { row := tallySharesRow, standIns := [], harness := (true, "fc9e4b2cb504ac74d63f2563bb3bf15d8debb9d8453fad9cc309c8220dffabf3"), looks := true }, kinds := [], alts := [], laidByText := true, laidKinds := [.sentinel, .sentinel, .sentinel], laidTests := true, laidLooks := .later }
def TallySharesCardSaid : Prop := Claim7.holds Tryd.pinned (.plain (OpenSpec.ofChange tallySharesSpec)) tallySharesCard

/-- THE SECOND FORM's CARD OF 'quoratelaw10.TallyPlays'. -/
def tallyPlaysUptoCard : Claim7 := { stood := { row := tallyPlaysUptoRow, standIns := [], harness := (true, "fc9e4b2cb504ac74d63f2563bb3bf15d8debb9d8453fad9cc309c8220dffabf3"), looks := true }, kinds := [], alts := [], laidByText := true, laidKinds := [.sentinel, .sentinel, .sentinel, .sentinel, .sentinel, .sentinel, .sentinel, .sentinel, .sentinel, .sentinel, .sentinel, .sentinel, .sentinel, .sentinel, .sentinel, .sentinel, .sentinel, .sentinel], laidTests := true, laidLooks := .later }
def TallyPlaysUptoCardSaid : Prop := Claim7.holds Tryd.pinned (.plain (OpenSpec.upto tallyPlaysSpec)) tallyPlaysUptoCard

/-- THE SECOND FORM's CARD OF 'quoratelaw10.TallyOnce'. -/
def tallyOnceUptoCard : Claim7 := { stood := { row := tallyOnceUptoRow, standIns := [], harness := (true, "fc9e4b2cb504ac74d63f2563bb3bf15d8debb9d8453fad9cc309c8220dffabf3"), looks := true }, kinds := [], alts := [], laidByText := true, laidKinds := [.sentinel, .sentinel, .sentinel], laidTests := true, laidLooks := .later }
def TallyOnceUptoCardSaid : Prop := Claim7.holds Tryd.pinned (.plain (OpenSpec.upto tallyOnceSpec)) tallyOnceUptoCard

/-- THE SECOND FORM's CARD OF 'quoratelaw10.TallyTurned'. -/
def tallyTurnedUptoCard : Claim7 := { stood := { row := tallyTurnedUptoRow, standIns := [], harness := (true, "fc9e4b2cb504ac74d63f2563bb3bf15d8debb9d8453fad9cc309c8220dffabf3"), looks := true }, kinds := [], alts := [], laidByText := true, laidKinds := [.sentinel, .sentinel, .sentinel], laidTests := true, laidLooks := .later }
def TallyTurnedUptoCardSaid : Prop := Claim7.holds Tryd.pinned (.plain (OpenSpec.upto tallyTurnedSpec)) tallyTurnedUptoCard

/-- THE SECOND FORM's CARD OF 'quoratelaw10.TallyShares'. -/
def tallySharesUptoCard : Claim7 := { stood := { row := tallySharesUptoRow, standIns := [], harness := (true, "fc9e4b2cb504ac74d63f2563bb3bf15d8debb9d8453fad9cc309c8220dffabf3"), looks := true }, kinds := [], alts := [], laidByText := true, laidKinds := [.sentinel, .sentinel, .sentinel], laidTests := true, laidLooks := .later }
def TallySharesUptoCardSaid : Prop := Claim7.holds Tryd.pinned (.plain (OpenSpec.upto tallySharesSpec)) tallySharesUptoCard
end Rows
end Go.Proofs.YthcilpfcdblmkaaDoor
