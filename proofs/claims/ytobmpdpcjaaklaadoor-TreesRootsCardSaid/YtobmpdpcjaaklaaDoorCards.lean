/-
  DERIVED. GIVEN WITH THE SEED: THE CARDS: each row of YtobmpdpcjaaklaaDoorRows.lean that lists a variable, with what it lists TIED to the program's text (the seventh form; the later family's looks); each row that meets fmt, with fmt's text TOLD by the authors' own Lean function (tested against real Go, not proved from fmt's source: count such statements apart). THE CARD IS WHAT COUNTS. Prove the row's statement (the work); the ties are given (YtobmpdpcjaaklaaDoorTie.lean); close each card by the builder's one call (the guide's Derived/Test/ToyasCard.lean, 'card_holds'). Laid BY PROGRAM, IN A SANDBOX (cutbox-door.mjs). By AI agents, Wed Nov 11 2026. No macro, syntax, notation, axiom, sorry.
-/
import Derived.Test.YtobmpdpcjaaklaaDoorRows
import GoSem.ClaimSeven
namespace Go.Proofs.YtobmpdpcjaaklaaDoor
namespace Rows

/-- THE TIED CARD OF 'quoratelaw04.TreesRoots'. -/
def treesRootsCard : Claim7 := { stood := { row := treesRootsRow, standIns := [], harness := (true, "4b51a14a270afc63580bb64d2390d48ad26b124e836f9bf832229f8a5cd6f6d1"), looks := true }, kinds := [], alts := [], laidByText := true, laidKinds := [.sentinel, .sentinel, .sentinel, .sentinel, .sentinel, .sentinel, .sentinel, .sentinel, .sentinel, .sentinel, .sentinel, .sentinel, .sentinel, .sentinel, .sentinel, .sentinel, .sentinel, .sentinel, .data], laidTests := true, laidLooks := .later }
def TreesRootsCardSaid : Prop := Claim7.holds Tryd.pinned (.plain (OpenSpec.ofChange treesRootsSpec)) treesRootsCard

/-- THE TIED CARD OF 'quoratelaw04.TreesClimbs'. -/
def treesClimbsCard : Claim7 := { stood := { row := treesClimbsRow, standIns := [], harness := (true, "4b51a14a270afc63580bb64d2390d48ad26b124e836f9bf832229f8a5cd6f6d1"), looks := true }, kinds := [], alts := [], laidByText := true, laidKinds := [.sentinel, .sentinel, .sentinel, .sentinel, .sentinel, .sentinel, .sentinel, .sentinel, .sentinel, .sentinel, .sentinel, .sentinel, .sentinel, .sentinel, .sentinel, .sentinel, .sentinel, .sentinel, .data], laidTests := true, laidLooks := .later }
def TreesClimbsCardSaid : Prop := Claim7.holds Tryd.pinned (.plain (OpenSpec.ofChange treesClimbsSpec)) treesClimbsCard

/-- THE TIED CARD OF 'quoratelaw04.TreesWays'. -/
def treesWaysCard : Claim7 := { stood := { row := treesWaysRow, standIns := [], harness := (true, "4b51a14a270afc63580bb64d2390d48ad26b124e836f9bf832229f8a5cd6f6d1"), looks := true }, kinds := [], alts := [], laidByText := true, laidKinds := [.sentinel, .sentinel, .data], laidTests := true, laidLooks := .later }
def TreesWaysCardSaid : Prop := Claim7.holds Tryd.pinned (.plain (OpenSpec.ofChange treesWaysSpec)) treesWaysCard

/-- THE TIED CARD OF 'quoratelaw04.TreesAll'. -/
def treesAllCard : Claim7 := { stood := { row := treesAllRow, standIns := [], harness := (true, "4b51a14a270afc63580bb64d2390d48ad26b124e836f9bf832229f8a5cd6f6d1"), looks := true }, kinds := [], alts := [], laidByText := true, laidKinds := [.sentinel, .sentinel, .data], laidTests := true, laidLooks := .later }
def TreesAllCardSaid : Prop := Claim7.holds Tryd.pinned (.plain (OpenSpec.ofChange treesAllSpec)) treesAllCard

/-- THE TIED CARD OF 'quoratelaw04.TreesKept'. -/
def treesKeptCard : Claim7 := { stood := { row := treesKeptRow, standIns := [], harness := (true, "4b51a14a270afc63580bb64d2390d48ad26b124e836f9bf832229f8a5cd6f6d1"), looks := true }, kinds := [], alts := [], laidByText := true, laidKinds := [.sentinel, .sentinel, .data], laidTests := true, laidLooks := .later }
def TreesKeptCardSaid : Prop := Claim7.holds Tryd.pinned (.plain (OpenSpec.ofChange treesKeptSpec)) treesKeptCard

/-- THE SECOND FORM's CARD OF 'quoratelaw04.TreesRoots'. -/
def treesRootsUptoCard : Claim7 := { stood := { row := treesRootsUptoRow, standIns := [], harness := (true, "4b51a14a270afc63580bb64d2390d48ad26b124e836f9bf832229f8a5cd6f6d1"), looks := true }, kinds := [], alts := [], laidByText := true, laidKinds := [.sentinel, .sentinel, .sentinel, .sentinel, .sentinel, .sentinel, .sentinel, .sentinel, .sentinel, .sentinel, .sentinel, .sentinel, .sentinel, .sentinel, .sentinel, .sentinel, .sentinel, .sentinel, .data], laidTests := true, laidLooks := .later }
def TreesRootsUptoCardSaid : Prop := Claim7.holds Tryd.pinned (.plain (OpenSpec.upto treesRootsSpec)) treesRootsUptoCard

/-- THE SECOND FORM's CARD OF 'quoratelaw04.TreesClimbs'. -/
def treesClimbsUptoCard : Claim7 := { stood := { row := treesClimbsUptoRow, standIns := [], harness := (true, "4b51a14a270afc63580bb64d2390d48ad26b124e836f9bf832229f8a5cd6f6d1"), looks := true }, kinds := [], alts := [], laidByText := true, laidKinds := [.sentinel, .sentinel, .sentinel, .sentinel, .sentinel, .sentinel, .sentinel, .sentinel, .sentinel, .sentinel, .sentinel, .sentinel, .sentinel, .sentinel, .sentinel, .sentinel, .sentinel, .sentinel, .data], laidTests := true, laidLooks := .later }
def TreesClimbsUptoCardSaid : Prop := Claim7.holds Tryd.pinned (.plain (OpenSpec.upto treesClimbsSpec)) treesClimbsUptoCard

/-- THE SECOND FORM's CARD OF 'quoratelaw04.TreesWays'. -/
def treesWaysUptoCard : Claim7 := { stood := { row := treesWaysUptoRow, standIns := [], harness := (true, "4b51a14a270afc63580bb64d2390d48ad26b124e836f9bf832229f8a5cd6f6d1"), looks := true }, kinds := [], alts := [], laidByText := true, laidKinds := [.sentinel, .sentinel, .data], laidTests := true, laidLooks := .later }
def TreesWaysUptoCardSaid : Prop := Claim7.holds Tryd.pinned (.plain (OpenSpec.upto treesWaysSpec)) treesWaysUptoCard

/-- THE SECOND FORM's CARD OF 'quoratelaw04.TreesAll'. -/
def treesAllUptoCard : Claim7 := { stood := { row := treesAllUptoRow, standIns := [], harness := (true, "4b51a14a270afc63580bb64d2390d48ad26b124e836f9bf832229f8a5cd6f6d1"), looks := true }, kinds := [], alts := [], laidByText := true, laidKinds := [.sentinel, .sentinel, .data], laidTests := true, laidLooks := .later }
def TreesAllUptoCardSaid : Prop := Claim7.holds Tryd.pinned (.plain (OpenSpec.upto treesAllSpec)) treesAllUptoCard

/-- THE SECOND FORM's CARD OF 'quoratelaw04.TreesKept'. -/
def treesKeptUptoCard : Claim7 := { stood := { row := treesKeptUptoRow, standIns := [], harness := (true, "4b51a14a270afc63580bb64d2390d48ad26b124e836f9bf832229f8a5cd6f6d1"), looks := true }, kinds := [], alts := [], laidByText := true, laidKinds := [.sentinel, .sentinel, .data], laidTests := true, laidLooks := .later }
def TreesKeptUptoCardSaid : Prop := Claim7.holds Tryd.pinned (.plain (OpenSpec.upto treesKeptSpec)) treesKeptUptoCard
end Rows
end Go.Proofs.YtobmpdpcjaaklaaDoor
