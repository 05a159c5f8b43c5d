/-
  DERIVED. GIVEN WITH THE SEED: THE CARDS: each row of YtnhjokcjdjfijaaDoorRows.lean that lists a variable, with what it lists TIED to the program's text (the seventh form; the later family's looks); each row that meets fmt, with fmt's text TOLD by the authors' own Lean function (tested against real Go, not proved from fmt's source: count such statements apart). THE CARD IS WHAT COUNTS. Prove the row's statement (the work); the ties are given (YtnhjokcjdjfijaaDoorTie.lean); close each card by the builder's one call (the guide's Derived/Test/ToyasCard.lean, 'card_holds'). Laid BY PROGRAM, IN A SANDBOX (cutbox-door.mjs). By AI agents, Wed Nov 11 2026. No macro, syntax, notation, axiom, sorry.
-/
import Derived.Test.YtnhjokcjdjfijaaDoorRows
import GoSem.ClaimSeven
namespace Go.Proofs.YtnhjokcjdjfijaaDoor
namespace Rows

/-- THE TIED CARD OF 'quoratelaw17.PoolPlays'. -/
def poolPlaysCard : Claim7 := { stood := { row := poolPlaysRow, standIns := [], harness := (true, "86d1e8c7f370d5261fa9fab44eba792d41403be3366f56cd9795c428327feabc"), looks := true }, kinds := [], alts := [], laidByText := true, laidKinds := [.sentinel, .sentinel, .sentinel, .sentinel, .sentinel, .sentinel, .sentinel, .sentinel, .sentinel, .sentinel, .sentinel, .sentinel, .sentinel, .sentinel, .sentinel, .sentinel, .sentinel, .sentinel], laidTests := true, laidLooks := .later }
def PoolPlaysCardSaid : Prop := Claim7.holds Tryd.pinned (.plain (OpenSpec.ofChange poolPlaysSpec)) poolPlaysCard

/-- THE TIED CARD OF 'quoratelaw17.PoolOnce'. -/
def poolOnceCard : Claim7 := { stood := { row := poolOnceRow, standIns := [], harness := (true, "86d1e8c7f370d5261fa9fab44eba792d41403be3366f56cd9795c428327feabc"), looks := true }, kinds := [], alts := [], laidByText := true, laidKinds := [.sentinel, .sentinel, .sentinel], laidTests := true, laidLooks := .later }
def PoolOnceCardSaid : Prop := Claim7.holds Tryd.pinned (.plain (OpenSpec.ofChange poolOnceSpec)) poolOnceCard

/-- THE TIED CARD OF 'quoratelaw17.PoolFull'. -/
def poolFullCard : Claim7 := { stood := { row := poolFullRow, standIns := [], harness := (true, "86d1e8c7f370d5261fa9fab44eba792d41403be3366f56cd9795c428327feabc"), looks := true }, kinds := [], alts := [], laidByText := true, laidKinds := [.sentinel, .sentinel, .sentinel, .sentinel, .sentinel, .sentinel, .sentinel, .sentinel, .sentinel, .sentinel, .sentinel, .sentinel, .sentinel, .sentinel, .sentinel, .sentinel, .sentinel, .sentinel], laidTests := true, laidLooks := .later }
def PoolFullCardSaid : Prop := Claim7.holds Tryd.pinned (.plain (OpenSpec.ofChange poolFullSpec)) poolFullCard

/-- THE TIED CARD OF 'quoratelaw17.PoolTaken'. -/
def poolTakenCard : Claim7 := { stood := { row := poolTakenRow, standIns := [], harness := (true, "86d1e8c7f370d5261fa9fab44eba792d41403be3366f56cd9795c428327feabc"), looks := true }, kinds := [], alts := [], laidByText := true, laidKinds := [.sentinel, .sentinel, .sentinel], laidTests := true, laidLooks := .later }
def PoolTakenCardSaid : Prop := Claim7.holds Tryd.pinned (.plain (OpenSpec.ofChange poolTakenSpec)) poolTakenCard

/-- THE TIED CARD OF 'quoratelaw17.PoolSome'. -/
def poolSomeCard : Claim7 := { stood := { row := poolSomeRow, standIns := [], harness := (true, "86d1e8c7f370d5261fa9fab44eba792d41403be3366f56cd9795c428327feabc"), looks := true }, kinds := [], alts := [], laidByText := true, laidKinds := [.sentinel, .sentinel, .sentinel], laidTests := true, laidLooks := .later }
def PoolSomeCardSaid : Prop := Claim7.holds Tryd.pinned (.plain (OpenSpec.ofChange poolSomeSpec)) poolSomeCard

/-- THE SECOND FORM's CARD OF 'quoratelaw17.PoolPlays'. -/
def poolPlaysUptoCard : Claim7 := { stood := { row := poolPlaysUptoRow, standIns := [], harness := (true, "86d1e8c7f370d5261fa9fab44eba792d41403be3366f56cd9795c428327feabc"), looks := true }, kinds := [], alts := [], laidByText := true, laidKinds := [.sentinel, .sentinel, .sentinel, .sentinel, .sentinel, .sentinel, .sentinel, .sentinel, .sentinel, .sentinel, .sentinel, .sentinel, .sentinel, .sentinel, .sentinel, .sentinel, .sentinel, .sentinel], laidTests := true, laidLooks := .later }
def PoolPlaysUptoCardSaid : Prop := Claim7.holds Tryd.pinned (.plain (OpenSpec.upto poolPlaysSpec)) poolPlaysUptoCard

/-- THE SECOND FORM's CARD OF 'quoratelaw17.PoolOnce'. -/
def poolOnceUptoCard : Claim7 := { stood := { row := poolOnceUptoRow, standIns := [], harness := (true, "86d1e8c7f370d5261fa9fab44eba792d41403be3366f56cd9795c428327feabc"), looks := true }, kinds := [], alts := [], laidByText := true, laidKinds := [.sentinel, .sentinel, .sentinel], laidTests := true, laidLooks := .later }
def PoolOnceUptoCardSaid : Prop := Claim7.holds Tryd.pinned (.plain (OpenSpec.upto poolOnceSpec)) poolOnceUptoCard

/-- THE SECOND FORM's CARD OF 'quoratelaw17.PoolFull'. -/
def poolFullUptoCard : Claim7 := { stood := { row := poolFullUptoRow, standIns := [], harness := (true, "86d1e8c7f370d5261fa9fab44eba792d41403be3366f56cd9795c428327feabc"), looks := true }, kinds := [], alts := [], laidByText := true, laidKinds := [.sentinel, .sentinel, .sentinel, .sentinel, .sentinel, .sentinel, .sentinel, .sentinel, .sentinel, .sentinel, .sentinel, .sentinel, .sentinel, .sentinel, .sentinel, .sentinel, .sentinel, .sentinel], laidTests := true, laidLooks := .later }
def PoolFullUptoCardSaid : Prop := Claim7.holds Tryd.pinned (.plain (OpenSpec.upto poolFullSpec)) poolFullUptoCard

/-- THE SECOND FORM's CARD OF 'quoratelaw17.PoolTaken'. -/
def poolTakenUptoCard : Claim7 := { stood := { row := poolTakenUptoRow, standIns := [], harness := (true, "86d1e8c7f370d5261fa9fab44eba792d41403be3366f56cd9795c428327feabc"), looks := true }, kinds := [], alts := [], laidByText := true, laidKinds := [.sentinel, .sentinel, .sentinel], laidTests := true, laidLooks := .later }
def PoolTakenUptoCardSaid : Prop := Claim7.holds Tryd.pinned (.plain (OpenSpec.upto poolTakenSpec)) poolTakenUptoCard

/-- THE SECOND FORM's CARD OF 'quoratelaw17.PoolSome'. -/
def poolSomeUptoCard : Claim7 := { stood := { row := poolSomeUptoRow, standIns := [], harness := (true, "86d1e8c7f370d5261fa9fab44eba792d41403be3366f56cd9795c428327feabc"), looks := true }, kinds := [], alts := [], laidByText := true, laidKinds := [.sentinel, .sentinel, .sentinel], laidTests := true, laidLooks := .later }
def PoolSomeUptoCardSaid : Prop := Claim7.holds Tryd.pinned (.plain (OpenSpec.upto poolSomeSpec)) poolSomeUptoCard
end Rows
end Go.Proofs.YtnhjokcjdjfijaaDoor
