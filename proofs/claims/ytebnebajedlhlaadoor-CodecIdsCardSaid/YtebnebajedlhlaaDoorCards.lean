/-
  DERIVED. GIVEN WITH THE SEED: THE CARDS: each row of YtebnebajedlhlaaDoorRows.lean that lists a variable, with what it lists TIED to the program's text (the seventh form; the later family's looks); each row that meets fmt, with fmt's text TOLD by the authors' own Lean function (tested against real Go, not proved from fmt's source: count such statements apart). THE CARD IS WHAT COUNTS. Prove the row's statement (the work); the ties are given (YtebnebajedlhlaaDoorTie.lean); close each card by the builder's one call (the guide's Derived/Test/ToyasCard.lean, 'card_holds'). Laid BY PROGRAM, IN A SANDBOX (cutbox-door.mjs). By AI agents, Wed Nov 11 2026. No macro, syntax, notation, axiom, sorry.
-/
import Derived.Test.YtebnebajedlhlaaDoorRows
import GoSem.ClaimSeven
namespace Go.Proofs.YtebnebajedlhlaaDoor
namespace Rows

/-- THE TIED CARD OF 'quoratelaw09.CodecIds'. -/
def codecIdsCard : Claim7 := { stood := { row := codecIdsRow, standIns := [], harness := (true, "647fb6efd5c9068cc1f959ae6cdb42dfde951fc8d8af1bc62736aa38ac5f4ae0"), looks := false }, kinds := [], alts := [], laidByText := true, laidKinds := [.sentinel, .sentinel, .data], laidTests := true, laidLooks := .later }
def CodecIdsCardSaid : Prop := Claim7.holds Tryd.pinned (.plain (OpenSpec.ofChange codecIdsSpec)) codecIdsCard

/-- THE SECOND FORM's CARD OF 'quoratelaw09.CodecIds'. -/
def codecIdsUptoCard : Claim7 := { stood := { row := codecIdsUptoRow, standIns := [], harness := (true, "647fb6efd5c9068cc1f959ae6cdb42dfde951fc8d8af1bc62736aa38ac5f4ae0"), looks := false }, kinds := [], alts := [], laidByText := true, laidKinds := [.sentinel, .sentinel, .data], laidTests := true, laidLooks := .later }
def CodecIdsUptoCardSaid : Prop := Claim7.holds Tryd.pinned (.plain (OpenSpec.upto codecIdsSpec)) codecIdsUptoCard
end Rows
end Go.Proofs.YtebnebajedlhlaaDoor
