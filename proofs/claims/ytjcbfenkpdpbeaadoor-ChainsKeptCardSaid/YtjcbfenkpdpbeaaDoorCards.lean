/-
  DERIVED. GIVEN WITH THE SEED: THE CARDS: each row of YtjcbfenkpdpbeaaDoorRows.lean that lists a variable, with what it lists TIED to the program's text (the seventh form; the later family's looks); each row that meets fmt, with fmt's text TOLD by the authors' own Lean function (tested against real Go, not proved from fmt's source: count such statements apart). THE CARD IS WHAT COUNTS. Prove the row's statement (the work); the ties are given (YtjcbfenkpdpbeaaDoorTie.lean); close each card by the builder's one call (the guide's Derived/Test/ToyasCard.lean, 'card_holds'). Laid BY PROGRAM, IN A SANDBOX (cutbox-door.mjs). By AI agents, Wed Nov 11 2026. No macro, syntax, notation, axiom, sorry.
-/
import Derived.Test.YtjcbfenkpdpbeaaDoorRows
import GoSem.ClaimSeven
namespace Go.Proofs.YtjcbfenkpdpbeaaDoor
namespace Rows

/-- THE TIED CARD OF 'quoratelaw03.ChainsRuns'. -/
def chainsRunsCard : Claim7 := { stood := { row := chainsRunsRow, standIns := [], harness := (true, "d6bb0c94577587866bda2009819e6adbdf0174df5d5da2422521ccc368deab5f"), looks := true }, kinds := [], alts := [], laidByText := true, laidKinds := [.data], laidTests := true, laidLooks := .later }
def ChainsRunsCardSaid : Prop := Claim7.holds Tryd.pinned (.plain (OpenSpec.ofChange chainsRunsSpec)) chainsRunsCard

/-- THE TIED CARD OF 'quoratelaw03.ChainsSigns'. -/
def chainsSignsCard : Claim7 := { stood := { row := chainsSignsRow, standIns := [], harness := (true, "d6bb0c94577587866bda2009819e6adbdf0174df5d5da2422521ccc368deab5f"), looks := true }, kinds := [], alts := [], laidByText := true, laidKinds := [.sentinel, .sentinel, .sentinel, .sentinel, .sentinel, .sentinel, .sentinel, .sentinel, .sentinel, .sentinel, .sentinel, .sentinel, .sentinel, .sentinel, .sentinel, .sentinel, .sentinel, .sentinel, .data], laidTests := true, laidLooks := .later }
def ChainsSignsCardSaid : Prop := Claim7.holds Tryd.pinned (.plain (OpenSpec.ofChange chainsSignsSpec)) chainsSignsCard

/-- THE TIED CARD OF 'quoratelaw03.ChainsRecovers'. -/
def chainsRecoversCard : Claim7 := { stood := { row := chainsRecoversRow, standIns := [], harness := (true, "d6bb0c94577587866bda2009819e6adbdf0174df5d5da2422521ccc368deab5f"), looks := true }, kinds := [], alts := [], laidByText := true, laidKinds := [.sentinel, .sentinel, .sentinel, .sentinel, .sentinel, .sentinel, .sentinel, .sentinel, .sentinel, .sentinel, .sentinel, .sentinel, .sentinel, .sentinel, .sentinel, .sentinel, .sentinel, .sentinel, .data], laidTests := true, laidLooks := .later }
def ChainsRecoversCardSaid : Prop := Claim7.holds Tryd.pinned (.plain (OpenSpec.ofChange chainsRecoversSpec)) chainsRecoversCard

/-- THE TIED CARD OF 'quoratelaw03.ChainsGo'. -/
def chainsGoCard : Claim7 := { stood := { row := chainsGoRow, standIns := [], harness := (true, "d6bb0c94577587866bda2009819e6adbdf0174df5d5da2422521ccc368deab5f"), looks := true }, kinds := [], alts := [], laidByText := true, laidKinds := [.data], laidTests := true, laidLooks := .later }
def ChainsGoCardSaid : Prop := Claim7.holds Tryd.pinned (.plain (OpenSpec.ofChange chainsGoSpec)) chainsGoCard

/-- THE TIED CARD OF 'quoratelaw03.ChainsPublic'. -/
def chainsPublicCard : Claim7 := { stood := { row := chainsPublicRow, standIns := [], harness := (true, "d6bb0c94577587866bda2009819e6adbdf0174df5d5da2422521ccc368deab5f"), looks := true }, kinds := [], alts := [], laidByText := true, laidKinds := [.sentinel, .sentinel, .data], laidTests := true, laidLooks := .later }
def ChainsPublicCardSaid : Prop := Claim7.holds Tryd.pinned (.plain (OpenSpec.ofChange chainsPublicSpec)) chainsPublicCard

/-- THE TIED CARD OF 'quoratelaw03.ChainsKept'. -/
def chainsKeptCard : Claim7 := { stood := { row := chainsKeptRow, standIns := [], harness := (true, "d6bb0c94577587866bda2009819e6adbdf0174df5d5da2422521ccc368deab5f"), looks := true }, kinds := [], alts := [], laidByText := true, laidKinds := [.sentinel, .sentinel, .data], laidTests := true, laidLooks := .later }
def ChainsKeptCardSaid : Prop := Claim7.holds Tryd.pinned (.plain (OpenSpec.ofChange chainsKeptSpec)) chainsKeptCard

/-- THE SECOND FORM's CARD OF 'quoratelaw03.ChainsRuns'. -/
def chainsRunsUptoCard : Claim7 := { stood := { row := chainsRunsUptoRow, standIns := [], harness := (true, "d6bb0c94577587866bda2009819e6adbdf0174df5d5da2422521ccc368deab5f"), looks := true }, kinds := [], alts := [], laidByText := true, laidKinds := [.data], laidTests := true, laidLooks := .later }
def ChainsRunsUptoCardSaid : Prop := Claim7.holds Tryd.pinned (.plain (OpenSpec.upto chainsRunsSpec)) chainsRunsUptoCard

/-- THE SECOND FORM's CARD OF 'quoratelaw03.ChainsSigns'. -/
def chainsSignsUptoCard : Claim7 := { stood := { row := chainsSignsUptoRow, standIns := [], harness := (true, "d6bb0c94577587866bda2009819e6adbdf0174df5d5da2422521ccc368deab5f"), looks := true }, kinds := [], alts := [], laidByText := true, laidKinds := [.sentinel, .sentinel, .sentinel, .sentinel, .sentinel, .sentinel, .sentinel, .sentinel, .sentinel, .sentinel, .sentinel, .sentinel, .sentinel, .sentinel, .sentinel, .sentinel, .sentinel, .sentinel, .data], laidTests := true, laidLooks := .later }
def ChainsSignsUptoCardSaid : Prop := Claim7.holds Tryd.pinned (.plain (OpenSpec.upto chainsSignsSpec)) chainsSignsUptoCard

/-- THE SECOND FORM's CARD OF 'quoratelaw03.ChainsRecovers'. -/
def chainsRecoversUptoCard : Claim7 := { stood := { row := chainsRecoversUptoRow, standIns := [], harness := (true, "d6bb0c94577587866bda2009819e6adbdf0174df5d5da2422521ccc368deab5f"), looks := true }, kinds := [], alts := [], laidByText := true, laidKinds := [.sentinel, .sentinel, .sentinel, .sentinel, .sentinel, .sentinel, .sentinel, .sentinel, .sentinel, .sentinel, .sentinel, .sentinel, .sentinel, .sentinel, .sentinel, .sentinel, .sentinel, .sentinel, .data], laidTests := true, laidLooks := .later }
def ChainsRecoversUptoCardSaid : Prop := Claim7.holds Tryd.pinned (.plain (OpenSpec.upto chainsRecoversSpec)) chainsRecoversUptoCard

/-- THE SECOND FORM's CARD OF 'quoratelaw03.ChainsGo'. -/
def chainsGoUptoCard : Claim7 := { stood := { row := chainsGoUptoRow, standIns := [], harness := (true, "d6bb0c94577587866bda2009819e6adbdf0174df5d5da2422521ccc368deab5f"), looks := true }, kinds := [], alts := [], laidByText := true, laidKinds := [.data], laidTests := true, laidLooks := .later }
def ChainsGoUptoCardSaid : Prop := Claim7.holds Tryd.pinned (.plain (OpenSpec.upto chainsGoSpec)) chainsGoUptoCard

/-- THE SECOND FORM's CARD OF 'quoratelaw03.ChainsPublic'. -/
def chainsPublicUptoCard : Claim7 := { stood := { row := chainsPublicUptoRow, standIns := [], harness := (true, "d6bb0c94577587866bda2009819e6adbdf0174df5d5da2422521ccc368deab5f"), looks := true }, kinds := [], alts := [], laidByText := true, laidKinds := [.sentinel, .sentinel, .data], laidTests := true, laidLooks := .later }
def ChainsPublicUptoCardSaid : Prop := Claim7.holds Tryd.pinned (.plain (OpenSpec.upto chainsPublicSpec)) chainsPublicUptoCard

/-- THE SECOND FORM's CARD OF 'quoratelaw03.ChainsKept'. -/
def chainsKeptUptoCard : Claim7 := { stood := { row := chainsKeptUptoRow, standIns := [], harness := (true, "d6bb0c94577587866bda2009819e6adbdf0174df5d5da2422521ccc368deab5f"), looks := true }, kinds := [], alts := [], laidByText := true, laidKinds := [.sentinel, .sentinel, .data], laidTests := true, laidLooks := .later }
def ChainsKeptUptoCardSaid : Prop := Claim7.holds Tryd.pinned (.plain (OpenSpec.upto chainsKeptSpec)) chainsKeptUptoCard
end Rows
end Go.Proofs.YtjcbfenkpdpbeaaDoor
