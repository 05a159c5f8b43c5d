/-
  DERIVED. GIVEN WITH THE SEED: THE CARDS: each row of YtjoehhchejnhgaaDoorRows.lean that lists a variable, with what it lists TIED to the program's text (the seventh form; the later family's looks); each row that meets fmt, with fmt's text TOLD by the authors' own Lean function (tested against real Go, not proved from fmt's source: count such statements apart). THE CARD IS WHAT COUNTS. Prove the row's statement (the work); the ties are given (YtjoehhchejnhgaaDoorTie.lean); close each card by the builder's one call (the guide's Derived/Test/ToyasCard.lean, 'card_holds'). Laid BY PROGRAM, IN A SANDBOX (cutbox-door.mjs). By AI agents, Wed Nov 11 2026. No macro, syntax, notation, axiom, sorry.
-/
import Derived.Test.YtjoehhchejnhgaaDoorRows
import GoSem.ClaimSeven
namespace Go.Proofs.YtjoehhchejnhgaaDoor
namespace Rows

/-- THE TIED CARD OF 'quoratelaw08.PowersSums'. -/
def powersSumsCard : Claim7 := { stood := { row := powersSumsRow, standIns := [], harness := (true, "99b523b419fab4f7950148cdfebfd31dc0ddb3f6779a7cb9c03c4e855fd14eaf"), looks := true }, kinds := [], alts := [], laidByText := true, laidKinds := [.sentinel, .sentinel, .sentinel, .sentinel, .sentinel, .sentinel, .sentinel, .sentinel, .sentinel, .sentinel, .sentinel, .sentinel, .sentinel, .sentinel, .sentinel, .sentinel, .sentinel, .sentinel], laidTests := true, laidLooks := .later }
def PowersSumsCardSaid : Prop := Claim7.holds Tryd.pinned (.plain (OpenSpec.ofChange powersSumsSpec)) powersSumsCard

/-- THE TIED CARD OF 'quoratelaw08.PowersFinds'. -/
def powersFindsCard : Claim7 := { stood := { row := powersFindsRow, standIns := [], harness := (true, "99b523b419fab4f7950148cdfebfd31dc0ddb3f6779a7cb9c03c4e855fd14eaf"), looks := true }, kinds := [], alts := [], laidByText := true, laidKinds := [.sentinel, .sentinel, .sentinel], laidTests := true, laidLooks := .later }
def PowersFindsCardSaid : Prop := Claim7.holds Tryd.pinned (.plain (OpenSpec.ofChange powersFindsSpec)) powersFindsCard

/-- THE TIED CARD OF 'quoratelaw08.PowersMeet'. -/
def powersMeetCard : Claim7 := { stood := { row := powersMeetRow, standIns := [], harness := (true, "99b523b419fab4f7950148cdfebfd31dc0ddb3f6779a7cb9c03c4e855fd14eaf"), looks := true }, kinds := [], alts := [], laidByText := true, laidKinds := [.sentinel, .sentinel, .sentinel], laidTests := true, laidLooks := .later }
def PowersMeetCardSaid : Prop := Claim7.holds Tryd.pinned (.plain (OpenSpec.ofChange powersMeetSpec)) powersMeetCard

/-- THE TIED CARD OF 'quoratelaw08.PowersMore'. -/
def powersMoreCard : Claim7 := { stood := { row := powersMoreRow, standIns := [], harness := (true, "99b523b419fab4f7950148cdfebfd31dc0ddb3f6779a7cb9c03c4e855fd14eaf"), looks := true }, kinds := [], alts := [], laidByText := true, laidKinds := [.sentinel, .sentinel, .sentinel], laidTests := true, laidLooks := .later }
def PowersMoreCardSaid : Prop := Claim7.holds Tryd.pinned (.plain (OpenSpec.ofChange powersMoreSpec)) powersMoreCard

/-- THE TIED CARD OF 'quoratelaw08.PowersLeast'. -/
def powersLeastCard : Claim7 := { stood := { row := powersLeastRow, standIns := [], harness := (true, "99b523b419fab4f7950148cdfebfd31dc0ddb3f6779a7cb9c03c4e855fd14eaf"), looks := true }, kinds := [], alts := [], laidByText := true, laidKinds := [.sentinel, .sentinel, .sentinel], laidTests := true, laidLooks := .later }
def PowersLeastCardSaid : Prop := Claim7.holds Tryd.pinned (.plain (OpenSpec.ofChange powersLeastSpec)) powersLeastCard

/-- THE SECOND FORM's CARD OF 'quoratelaw08.PowersSums'. -/
def powersSumsUptoCard : Claim7 := { stood := { row := powersSumsUptoRow, standIns := [], harness := (true, "99b523b419fab4f7950148cdfebfd31dc0ddb3f6779a7cb9c03c4e855fd14eaf"), looks := true }, kinds := [], alts := [], laidByText := true, laidKinds := [.sentinel, .sentinel, .sentinel, .sentinel, .sentinel, .sentinel, .sentinel, .sentinel, .sentinel, .sentinel, .sentinel, .sentinel, .sentinel, .sentinel, .sentinel, .sentinel, .sentinel, .sentinel], laidTests := true, laidLooks := .later }
def PowersSumsUptoCardSaid : Prop := Claim7.holds Tryd.pinned (.plain (OpenSpec.upto powersSumsSpec)) powersSumsUptoCard

/-- THE SECOND FORM's CARD OF 'quoratelaw08.PowersFinds'. -/
def powersFindsUptoCard : Claim7 := { stood := { row := powersFindsUptoRow, standIns := [], harness := (true, "99b523b419fab4f7950148cdfebfd31dc0ddb3f6779a7cb9c03c4e855fd14eaf"), looks := true }, kinds := [], alts := [], laidByText := true, laidKinds := [.sentinel, .sentinel, .sentinel], laidTests := true, laidLooks := .later }
def PowersFindsUptoCardSaid : Prop := Claim7.holds Tryd.pinned (.plain (OpenSpec.upto powersFindsSpec)) powersFindsUptoCard

/-- THE SECOND FORM's CARD OF 'quoratelaw08.PowersMeet'. -/
def powersMeetUptoCard : Claim7 := { stood := { row := powersMeetUptoRow, standIns := [], harness := (true, "99b523b419fab4f7950148cdfebfd31dc0ddb3f6779a7cb9c03c4e855fd14eaf"), looks := true }, kinds := [], alts := [], laidByText := true, laidKinds := [.sentinel, .sentinel, .sentinel], laidTests := true, laidLooks := .later }
def PowersMeetUptoCardSaid : Prop := Claim7.holds Tryd.pinned (.plain (OpenSpec.upto powersMeetSpec)) powersMeetUptoCard

/-- THE SECOND FORM's CARD OF 'quoratelaw08.PowersMore'. -/
def powersMoreUptoCard : Claim7 := { stood := { row := powersMoreUptoRow, standIns := [], harness := (true, "99b523b419fab4f7950148cdfebfd31dc0ddb3f6779a7cb9c03c4e855fd14eaf"), looks := true }, kinds := [], alts := [], laidByText := true, laidKinds := [.sentinel, .sentinel, .sentinel], laidTests := true, laidLooks := .later }
def PowersMoreUptoCardSaid : Prop := Claim7.holds Tryd.pinned (.plain (OpenSpec.upto powersMoreSpec)) powersMoreUptoCard

/-- THE SECOND FORM's CARD OF 'quoratelaw08.PowersLeast'. -/
def powersLeastUptoCard : Claim7 := { stood := { row := powersLeastUptoRow, standIns := [], harness := (true, "99b523b419fab4f7950148cdfebfd31dc0ddb3f6779a7cb9c03c4e855fd14eaf"), looks := true }, kinds := [], alts := [], laidByText := true, laidKinds := [.sentinel, .sentinel, .sentinel], laidTests := true, laidLooks := .later }
def PowersLeastUptoCardSaid : Prop := Claim7.holds Tryd.pinned (.plain (OpenSpec.upto powersLeastSpec)) powersLeastUptoCard
end Rows
end Go.Proofs.YtjoehhchejnhgaaDoor
