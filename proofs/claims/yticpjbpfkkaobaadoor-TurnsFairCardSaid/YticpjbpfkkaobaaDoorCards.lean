/-
  DERIVED. GIVEN WITH THE SEED: THE CARDS: each row of YticpjbpfkkaobaaDoorRows.lean that lists a variable, with what it lists TIED to the program's text (the seventh form; the later family's looks); each row that meets fmt, with fmt's text TOLD by the authors' own Lean function (tested against real Go, not proved from fmt's source: count such statements apart). THE CARD IS WHAT COUNTS. Prove the row's statement (the work); the ties are given (YticpjbpfkkaobaaDoorTie.lean); close each card by the builder's one call (the guide's Derived/Test/ToyasCard.lean, 'card_holds'). Laid BY PROGRAM, IN A SANDBOX (cutbox-door.mjs). By AI agents, Wed Nov 11 2026. No macro, syntax, notation, axiom, sorry.
-/
import Derived.Test.YticpjbpfkkaobaaDoorRows
import GoSem.ClaimSeven
namespace Go.Proofs.YticpjbpfkkaobaaDoor
namespace Rows

/-- THE TIED CARD OF 'quoratelaw12.TurnsLeaders'. -/
def turnsLeadersCard : Claim7 := { stood := { row := turnsLeadersRow, standIns := [], harness := (true, "6856325f1c1b5cb177e5cd494a32862aa4cdb993300f930b3e3069741f983b18"), looks := true }, kinds := [], alts := [], laidByText := true, laidKinds := [.sentinel, .sentinel, .sentinel, .sentinel, .sentinel, .sentinel, .sentinel, .sentinel, .sentinel, .sentinel, .sentinel, .sentinel, .sentinel, .sentinel, .sentinel, .sentinel, .sentinel, .sentinel], laidTests := true, laidLooks := .later }
def TurnsLeadersCardSaid : Prop := Claim7.holds Tryd.pinned (.plain (OpenSpec.ofChange turnsLeadersSpec)) turnsLeadersCard

/-- THE TIED CARD OF 'quoratelaw12.TurnsTurns'. -/
def turnsTurnsCard : Claim7 := { stood := { row := turnsTurnsRow, standIns := [], harness := (true, "6856325f1c1b5cb177e5cd494a32862aa4cdb993300f930b3e3069741f983b18"), looks := true }, kinds := [], alts := [], laidByText := true, laidKinds := [.sentinel, .sentinel, .sentinel, .sentinel, .sentinel, .sentinel, .sentinel, .sentinel, .sentinel, .sentinel, .sentinel, .sentinel, .sentinel, .sentinel, .sentinel, .sentinel, .sentinel, .sentinel], laidTests := true, laidLooks := .later }
def TurnsTurnsCardSaid : Prop := Claim7.holds Tryd.pinned (.plain (OpenSpec.ofChange turnsTurnsSpec)) turnsTurnsCard

/-- THE TIED CARD OF 'quoratelaw12.TurnsFair'. -/
def turnsFairCard : Claim7 := { stood := { row := turnsFairRow, standIns := [], harness := (true, "6856325f1c1b5cb177e5cd494a32862aa4cdb993300f930b3e3069741f983b18"), looks := true }, kinds := [], alts := [], laidByText := true, laidKinds := [.sentinel, .sentinel], laidTests := true, laidLooks := .later }
def TurnsFairCardSaid : Prop := Claim7.holds Tryd.pinned (.plain (OpenSpec.ofChange turnsFairSpec)) turnsFairCard

/-- THE TIED CARD OF 'quoratelaw12.TurnsAgain'. -/
def turnsAgainCard : Claim7 := { stood := { row := turnsAgainRow, standIns := [], harness := (true, "6856325f1c1b5cb177e5cd494a32862aa4cdb993300f930b3e3069741f983b18"), looks := true }, kinds := [], alts := [], laidByText := true, laidKinds := [.sentinel, .sentinel, .sentinel, .sentinel, .sentinel, .sentinel, .sentinel, .sentinel, .sentinel, .sentinel, .sentinel, .sentinel, .sentinel, .sentinel, .sentinel, .sentinel, .sentinel, .sentinel], laidTests := true, laidLooks := .later }
def TurnsAgainCardSaid : Prop := Claim7.holds Tryd.pinned (.plain (OpenSpec.ofChange turnsAgainSpec)) turnsAgainCard

/-- THE SECOND FORM's CARD OF 'quoratelaw12.TurnsLeaders'. -/
def turnsLeadersUptoCard : Claim7 := { stood := { row := turnsLeadersUptoRow, standIns := [], harness := (true, "6856325f1c1b5cb177e5cd494a32862aa4cdb993300f930b3e3069741f983b18"), looks := true }, kinds := [], alts := [], laidByText := true, laidKinds := [.sentinel, .sentinel, .sentinel, .sentinel, .sentinel, .sentinel, .sentinel, .sentinel, .sentinel, .sentinel, .sentinel, .sentinel, .sentinel, .sentinel, .sentinel, .sentinel, .sentinel, .sentinel], laidTests := true, laidLooks := .later }
def TurnsLeadersUptoCardSaid : Prop := Claim7.holds Tryd.pinned (.plain (OpenSpec.upto turnsLeadersSpec)) turnsLeadersUptoCard

/-- THE SECOND FORM's CARD OF 'quoratelaw12.TurnsTurns'. -/
def turnsTurnsUptoCard : Claim7 := { stood := { row := turnsTurnsUptoRow, standIns := [], harness := (true, "6856325f1c1b5cb177e5cd494a32862aa4cdb993300f930b3e3069741f983b18"), looks := true }, kinds := [], alts := [], laidByText := true, laidKinds := [.sentinel, .sentinel, .sentinel, .sentinel, .sentinel, .sentinel, .sentinel, .sentinel, .sentinel, .sentinel, .sentinel, .sentinel, .sentinel, .sentinel, .sentinel, .sentinel, .sentinel, .sentinel], laidTests := true, laidLooks := .later }
def TurnsTurnsUptoCardSaid : Prop := Claim7.holds Tryd.pinned (.plain (OpenSpec.upto turnsTurnsSpec)) turnsTurnsUptoCard

/-- THE SECOND FORM's CARD OF 'quoratelaw12.TurnsFair'. -/
def turnsFairUptoCard : Claim7 := { stood := { row := turnsFairUptoRow, standIns := [], harness := (true, "6856325f1c1b5cb177e5cd494a32862aa4cdb993300f930b3e3069741f983b18"), looks := true }, kinds := [], alts := [], laidByText := true, laidKinds := [.sentinel, .sentinel], laidTests := true, laidLooks := .later }
def TurnsFairUptoCardSaid : Prop := Claim7.holds Tryd.pinned (.plain (OpenSpec.upto turnsFairSpec)) turnsFairUptoCard

/-- THE SECOND FORM's CARD OF 'quoratelaw12.TurnsAgain'. -/
def turnsAgainUptoCard : Claim7 := { stood := { row := turnsAgainUptoRow, standIns := [], harness := (true, "6856325f1c1b5cb177e5cd494a32862aa4cdb993300f930b3e3069741f983b18"), looks := true }, kinds := [], alts := [], laidByText := true, laidKinds := [.sentinel, .sentinel, .sentinel, .sentinel, .sentinel, .sentinel, .sentinel, .sentinel, .sentinel, .sentinel, .sentinel, .sentinel, .sentinel, .sentinel, .sentinel, .sentinel, .sentinel, .sentinel], laidTests := true, laidLooks := .later }
def TurnsAgainUptoCardSaid : Prop := Claim7.holds Tryd.pinned (.plain (OpenSpec.upto turnsAgainSpec)) turnsAgainUptoCard
end Rows
end Go.Proofs.YticpjbpfkkaobaaDoor
