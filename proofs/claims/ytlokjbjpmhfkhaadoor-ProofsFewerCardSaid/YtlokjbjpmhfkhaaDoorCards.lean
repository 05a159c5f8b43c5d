/-
  DERIVED. GIVEN WITH THE SEED: THE CARDS: each row of YtlokjbjpmhfkhaaDoorRows.lean that lists a variable, with what it lists TIED to the program's text (the seventh form; the later family's looks); each row that meets fmt, with fmt's text TOLD by the authors' own Lean function (tested against real Go, not proved from fmt's source: count such statements apart). THE CARD IS WHAT COUNTS. Prove the row's statement (the work); the ties are given (YtlokjbjpmhfkhaaDoorTie.lean); close each card by the builder's one call (the guide's Derived/Test/ToyasCard.lean, 'card_holds'). Laid BY PROGRAM, IN A SANDBOX (cutbox-door.mjs). By AI agents, Wed Nov 11 2026. No macro, syntax, notation, axiom, sorry.
-/
import Derived.Test.YtlokjbjpmhfkhaaDoorRows
import GoSem.ClaimSeven
namespace Go.Proofs.YtlokjbjpmhfkhaaDoor
namespace Rows

/-- THE TIED CARD OF 'quoratelaw11.ProofsPayloads'. -/
def proofsPayloadsCard : Claim7 := { stood := { row := proofsPayloadsRow, standIns := [], harness := (true, "55510d68b13e56636fdb460566de0ad56e8e84f9307cf3181be465401db4baf8"), looks := true }, kinds := [], alts := [], laidByText := true, laidKinds := [.sentinel, .sentinel, .sentinel, .sentinel, .sentinel, .sentinel, .sentinel, .sentinel, .sentinel, .sentinel, .sentinel, .sentinel, .sentinel, .sentinel, .sentinel, .sentinel, .sentinel, .sentinel, .data], laidTests := true, laidLooks := .later }
def ProofsPayloadsCardSaid : Prop := Claim7.holds Tryd.pinned (.plain (OpenSpec.ofChange proofsPayloadsSpec)) proofsPayloadsCard

/-- THE TIED CARD OF 'quoratelaw11.ProofsFewer'. -/
def proofsFewerCard : Claim7 := { stood := { row := proofsFewerRow, standIns := [], harness := (true, "55510d68b13e56636fdb460566de0ad56e8e84f9307cf3181be465401db4baf8"), looks := true }, kinds := [], alts := [], laidByText := true, laidKinds := [.sentinel, .sentinel, .sentinel, .sentinel, .sentinel, .sentinel, .sentinel, .sentinel, .sentinel, .sentinel, .sentinel, .sentinel, .sentinel, .sentinel, .sentinel, .sentinel, .sentinel, .sentinel, .data], laidTests := true, laidLooks := .later }
def ProofsFewerCardSaid : Prop := Claim7.holds Tryd.pinned (.plain (OpenSpec.ofChange proofsFewerSpec)) proofsFewerCard

/-- THE TIED CARD OF 'quoratelaw11.ProofsGenesis'. -/
def proofsGenesisCard : Claim7 := { stood := { row := proofsGenesisRow, standIns := [], harness := (true, "55510d68b13e56636fdb460566de0ad56e8e84f9307cf3181be465401db4baf8"), looks := true }, kinds := [], alts := [], laidByText := true, laidKinds := [.sentinel, .sentinel, .sentinel, .sentinel, .sentinel, .sentinel, .sentinel, .sentinel, .sentinel, .sentinel, .sentinel, .sentinel, .sentinel, .sentinel, .sentinel, .sentinel, .sentinel, .sentinel, .data], laidTests := true, laidLooks := .later }
def ProofsGenesisCardSaid : Prop := Claim7.holds Tryd.pinned (.plain (OpenSpec.ofChange proofsGenesisSpec)) proofsGenesisCard

/-- THE SECOND FORM's CARD OF 'quoratelaw11.ProofsPayloads'. -/
def proofsPayloadsUptoCard : Claim7 := { stood := { row := proofsPayloadsUptoRow, standIns := [], harness := (true, "55510d68b13e56636fdb460566de0ad56e8e84f9307cf3181be465401db4baf8"), looks := true }, kinds := [], alts := [], laidByText := true, laidKinds := [.sentinel, .sentinel, .sentinel, .sentinel, .sentinel, .sentinel, .sentinel, .sentinel, .sentinel, .sentinel, .sentinel, .sentinel, .sentinel, .sentinel, .sentinel, .sentinel, .sentinel, .sentinel, .data], laidTests := true, laidLooks := .later }
def ProofsPayloadsUptoCardSaid : Prop := Claim7.holds Tryd.pinned (.plain (OpenSpec.upto proofsPayloadsSpec)) proofsPayloadsUptoCard

/-- THE SECOND FORM's CARD OF 'quoratelaw11.ProofsFewer'. -/
def proofsFewerUptoCard : Claim7 := { stood := { row := proofsFewerUptoRow, standIns := [], harness := (true, "55510d68b13e56636fdb460566de0ad56e8e84f9307cf3181be465401db4baf8"), looks := true }, kinds := [], alts := [], laidByText := true, laidKinds := [.sentinel, .sentinel, .sentinel, .sentinel, .sentinel, .sentinel, .sentinel, .sentinel, .sentinel, .sentinel, .sentinel, .sentinel, .sentinel, .sentinel, .sentinel, .sentinel, .sentinel, .sentinel, .data], laidTests := true, laidLooks := .later }
def ProofsFewerUptoCardSaid : Prop := Claim7.holds Tryd.pinned (.plain (OpenSpec.upto proofsFewerSpec)) proofsFewerUptoCard

/-- THE SECOND FORM's CARD OF 'quoratelaw11.ProofsGenesis'. -/
def proofsGenesisUptoCard : Claim7 := { stood := { row := proofsGenesisUptoRow, standIns := [], harness := (true, "55510d68b13e56636fdb460566de0ad56e8e84f9307cf3181be465401db4baf8"), looks := true }, kinds := [], alts := [], laidByText := true, laidKinds := [.sentinel, .sentinel, .sentinel, .sentinel, .sentinel, .sentinel, .sentinel, .sentinel, .sentinel, .sentinel, .sentinel, .sentinel, .sentinel, .sentinel, .sentinel, .sentinel, .sentinel, .sentinel, .data], laidTests := true, laidLooks := .later }
def ProofsGenesisUptoCardSaid : Prop := Claim7.holds Tryd.pinned (.plain (OpenSpec.upto proofsGenesisSpec)) proofsGenesisUptoCard
end Rows
end Go.Proofs.YtlokjbjpmhfkhaaDoor
