/-
  DERIVED. GIVEN WITH THE SEED: THE CARDS: each row of YtfpjocinbnipgaaDoorRows.lean that lists a variable, with what it lists TIED to the program's text (the seventh form; the later family's looks); each row that meets fmt, with fmt's text TOLD by the authors' own Lean function (tested against real Go, not proved from fmt's source: count such statements apart). THE CARD IS WHAT COUNTS. Prove the row's statement (the work); the ties are given (YtfpjocinbnipgaaDoorTie.lean); close each card by the builder's one call (the guide's Derived/Test/ToyasCard.lean, 'card_holds'). Laid BY PROGRAM, IN A SANDBOX (cutbox-door.mjs). By AI agents, Wed Nov 11 2026. No macro, syntax, notation, axiom, sorry.
-/
import Derived.Test.YtfpjocinbnipgaaDoorRows
import GoSem.ClaimSeven
namespace Go.Proofs.YtfpjocinbnipgaaDoor
namespace Rows

/-- THE TIED CARD OF 'quoratelaw16.PacePlays'. -/
def pacePlaysCard : Claim7 := { stood := { row := pacePlaysRow, standIns := [], harness := (true, "6375d1328409a6744fc1e567a572c707e0b810ff307ec2ae40617733015ecba0"), looks := true }, kinds := [], alts := [], laidByText := true, laidKinds := [.sentinel, .sentinel, .sentinel, .sentinel, .sentinel, .sentinel, .sentinel, .sentinel, .sentinel, .sentinel, .sentinel, .sentinel, .sentinel, .sentinel, .sentinel, .sentinel, .sentinel, .sentinel], laidTests := true, laidLooks := .later }
def PacePlaysCardSaid : Prop := Claim7.holds Tryd.pinned (.plain (OpenSpec.ofChange pacePlaysSpec)) pacePlaysCard

/-- THE TIED CARD OF 'quoratelaw16.PaceRises'. -/
def paceRisesCard : Claim7 := { stood := { row := paceRisesRow, standIns := [], harness := (true, "6375d1328409a6744fc1e567a572c707e0b810ff307ec2ae40617733015ecba0"), looks := true }, kinds := [], alts := [], laidByText := true, laidKinds := [.sentinel, .sentinel], laidTests := true, laidLooks := .later }
def PaceRisesCardSaid : Prop := Claim7.holds Tryd.pinned (.plain (OpenSpec.ofChange paceRisesSpec)) paceRisesCard

/-- THE TIED CARD OF 'quoratelaw16.PaceWaits'. -/
def paceWaitsCard : Claim7 := { stood := { row := paceWaitsRow, standIns := [], harness := (true, "6375d1328409a6744fc1e567a572c707e0b810ff307ec2ae40617733015ecba0"), looks := true }, kinds := [], alts := [], laidByText := true, laidKinds := [.sentinel, .sentinel], laidTests := true, laidLooks := .later }
def PaceWaitsCardSaid : Prop := Claim7.holds Tryd.pinned (.plain (OpenSpec.ofChange paceWaitsSpec)) paceWaitsCard

/-- THE TIED CARD OF 'quoratelaw16.PaceOld'. -/
def paceOldCard : Claim7 := { stood := { row := paceOldRow, standIns := [], harness := (true, "6375d1328409a6744fc1e567a572c707e0b810ff307ec2ae40617733015ecba0"), looks := true }, kinds := [], alts := [], laidByText := true, laidKinds := [.sentinel, .sentinel], laidTests := true, laidLooks := .later }
def PaceOldCardSaid : Prop := Claim7.holds Tryd.pinned (.plain (OpenSpec.ofChange paceOldSpec)) paceOldCard

/-- THE SECOND FORM's CARD OF 'quoratelaw16.PacePlays'. -/
def pacePlaysUptoCard : Claim7 := { stood := { row := pacePlaysUptoRow, standIns := [], harness := (true, "6375d1328409a6744fc1e567a572c707e0b810ff307ec2ae40617733015ecba0"), looks := true }, kinds := [], alts := [], laidByText := true, laidKinds := [.sentinel, .sentinel, .sentinel, .sentinel, .sentinel, .sentinel, .sentinel, .sentinel, .sentinel, .sentinel, .sentinel, .sentinel, .sentinel, .sentinel, .sentinel, .sentinel, .sentinel, .sentinel], laidTests := true, laidLooks := .later }
def PacePlaysUptoCardSaid : Prop := Claim7.holds Tryd.pinned (.plain (OpenSpec.upto pacePlaysSpec)) pacePlaysUptoCard

/-- THE SECOND FORM's CARD OF 'quoratelaw16.PaceRises'. -/
def paceRisesUptoCard : Claim7 := { stood := { row := paceRisesUptoRow, standIns := [], harness := (true, "6375d1328409a6744fc1e567a572c707e0b810ff307ec2ae40617733015ecba0"), looks := true }, kinds := [], alts := [], laidByText := true, laidKinds := [.sentinel, .sentinel], laidTests := true, laidLooks := .later }
def PaceRisesUptoCardSaid : Prop := Claim7.holds Tryd.pinned (.plain (OpenSpec.upto paceRisesSpec)) paceRisesUptoCard

/-- THE SECOND FORM's CARD OF 'quoratelaw16.PaceWaits'. -/
def paceWaitsUptoCard : Claim7 := { stood := { row := paceWaitsUptoRow, standIns := [], harness := (true, "6375d1328409a6744fc1e567a572c707e0b810ff307ec2ae40617733015ecba0"), looks := true }, kinds := [], alts := [], laidByText := true, laidKinds := [.sentinel, .sentinel], laidTests := true, laidLooks := .later }
def PaceWaitsUptoCardSaid : Prop := Claim7.holds Tryd.pinned (.plain (OpenSpec.upto paceWaitsSpec)) paceWaitsUptoCard

/-- THE SECOND FORM's CARD OF 'quoratelaw16.PaceOld'. -/
def paceOldUptoCard : Claim7 := { stood := { row := paceOldUptoRow, standIns := [], harness := (true, "6375d1328409a6744fc1e567a572c707e0b810ff307ec2ae40617733015ecba0"), looks := true }, kinds := [], alts := [], laidByText := true, laidKinds := [.sentinel, .sentinel], laidTests := true, laidLooks := .later }
def PaceOldUptoCardSaid : Prop := Claim7.holds Tryd.pinned (.plain (OpenSpec.upto paceOldSpec)) paceOldUptoCard
end Rows
end Go.Proofs.YtfpjocinbnipgaaDoor
