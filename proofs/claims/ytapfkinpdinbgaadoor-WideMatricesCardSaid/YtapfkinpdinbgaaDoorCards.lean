/-
  DERIVED. GIVEN WITH THE SEED: THE CARDS: each row of YtapfkinpdinbgaaDoorRows.lean that lists a variable, with what it lists TIED to the program's text (the seventh form; the later family's looks); each row that meets fmt, with fmt's text TOLD by the authors' own Lean function (tested against real Go, not proved from fmt's source: count such statements apart). THE CARD IS WHAT COUNTS. Prove the row's statement (the work); the ties are given (YtapfkinpdinbgaaDoorTie.lean); close each card by the builder's one call (the guide's Derived/Test/ToyasCard.lean, 'card_holds'). Laid BY PROGRAM, IN A SANDBOX (cutbox-door.mjs). By AI agents, Wed Nov 11 2026. No macro, syntax, notation, axiom, sorry.
-/
import Derived.Test.YtapfkinpdinbgaaDoorRows
import GoSem.ClaimSeven
namespace Go.Proofs.YtapfkinpdinbgaaDoor
namespace Rows

/-- THE TIED CARD OF 'spokeshavelaw01.WideForms'. -/
def wideFormsCard : Claim7 := { stood := { row := wideFormsRow, standIns := [], harness := (true, "ff86df95aff14d1a75d8235bf7c90cba7300ac0a4ac66e5c5dd5ff88caacbbdc"), looks := true }, kinds := [], alts := [], laidByText := true, laidKinds := [.data, .data, .data, .sentinel, .sentinel], laidTests := true, laidLooks := .later }
def WideFormsCardSaid : Prop := Claim7.holds Tryd.pinned (.plain (OpenSpec.ofChange wideFormsSpec)) wideFormsCard

/-- THE TIED CARD OF 'spokeshavelaw01.WideSums'. -/
def wideSumsCard : Claim7 := { stood := { row := wideSumsRow, standIns := [], harness := (true, "ff86df95aff14d1a75d8235bf7c90cba7300ac0a4ac66e5c5dd5ff88caacbbdc"), looks := true }, kinds := [], alts := [], laidByText := true, laidKinds := [.data, .data, .data, .sentinel, .sentinel], laidTests := true, laidLooks := .later }
def WideSumsCardSaid : Prop := Claim7.holds Tryd.pinned (.plain (OpenSpec.ofChange wideSumsSpec)) wideSumsCard

/-- THE TIED CARD OF 'spokeshavelaw01.WidePowers'. -/
def widePowersCard : Claim7 := { stood := { row := widePowersRow, standIns := [], harness := (true, "ff86df95aff14d1a75d8235bf7c90cba7300ac0a4ac66e5c5dd5ff88caacbbdc"), looks := true }, kinds := [], alts := [], laidByText := true, laidKinds := [.data, .data, .data, .sentinel, .sentinel], laidTests := true, laidLooks := .later }
def WidePowersCardSaid : Prop := Claim7.holds Tryd.pinned (.plain (OpenSpec.ofChange widePowersSpec)) widePowersCard

/-- THE TIED CARD OF 'spokeshavelaw01.WideLists'. -/
def wideListsCard : Claim7 := { stood := { row := wideListsRow, standIns := [], harness := (true, "ff86df95aff14d1a75d8235bf7c90cba7300ac0a4ac66e5c5dd5ff88caacbbdc"), looks := true }, kinds := [], alts := [], laidByText := true, laidKinds := [.data, .data, .data, .sentinel, .sentinel], laidTests := true, laidLooks := .later }
def WideListsCardSaid : Prop := Claim7.holds Tryd.pinned (.plain (OpenSpec.ofChange wideListsSpec)) wideListsCard

/-- THE TIED CARD OF 'spokeshavelaw01.WideDeterminants'. -/
def wideDeterminantsCard : Claim7 := { stood := { row := wideDeterminantsRow, standIns := [], harness := (true, "ff86df95aff14d1a75d8235bf7c90cba7300ac0a4ac66e5c5dd5ff88caacbbdc"), looks := true }, kinds := [], alts := [], laidByText := true, laidKinds := [.data, .data, .data, .sentinel, .sentinel], laidTests := true, laidLooks := .later }
def WideDeterminantsCardSaid : Prop := Claim7.holds Tryd.pinned (.plain (OpenSpec.ofChange wideDeterminantsSpec)) wideDeterminantsCard

/-- THE TIED CARD OF 'spokeshavelaw01.WideLong'. -/
def wideLongCard : Claim7 := { stood := { row := wideLongRow, standIns := [], harness := (true, "ff86df95aff14d1a75d8235bf7c90cba7300ac0a4ac66e5c5dd5ff88caacbbdc"), looks := true }, kinds := [], alts := [], laidByText := true, laidKinds := [.data, .data, .data, .sentinel, .sentinel], laidTests := true, laidLooks := .later }
def WideLongCardSaid : Prop := Claim7.holds Tryd.pinned (.plain (OpenSpec.ofChange wideLongSpec)) wideLongCard

/-- THE TIED CARD OF 'spokeshavelaw01.WideRing'. -/
def wideRingCard : Claim7 := { stood := { row := wideRingRow, standIns := [], harness := (true, "ff86df95aff14d1a75d8235bf7c90cba7300ac0a4ac66e5c5dd5ff88caacbbdc"), looks := true }, kinds := [], alts := [], laidByText := true, laidKinds := [.data, .data, .data, .sentinel, .sentinel], laidTests := true, laidLooks := .later }
def WideRingCardSaid : Prop := Claim7.holds Tryd.pinned (.plain (OpenSpec.ofChange wideRingSpec)) wideRingCard

/-- THE TIED CARD OF 'spokeshavelaw01.WideMatrices'. -/
def wideMatricesCard : Claim7 := { stood := { row := wideMatricesRow, standIns := [], harness := (true, "ff86df95aff14d1a75d8235bf7c90cba7300ac0a4ac66e5c5dd5ff88caacbbdc"), looks := true }, kinds := [], alts := [], laidByText := true, laidKinds := [.data, .data, .data, .sentinel, .sentinel], laidTests := true, laidLooks := .later }
def WideMatricesCardSaid : Prop := Claim7.holds Tryd.pinned (.plain (OpenSpec.ofChange wideMatricesSpec)) wideMatricesCard

/-- THE SECOND FORM's CARD OF 'spokeshavelaw01.WideForms'. -/
def wideFormsUptoCard : Claim7 := { stood := { row := wideFormsUptoRow, standIns := [], harness := (true, "ff86df95aff14d1a75d8235bf7c90cba7300ac0a4ac66e5c5dd5ff88caacbbdc"), looks := true }, kinds := [], alts := [], laidByText := true, laidKinds := [.data, .data, .data, .sentinel, .sentinel], laidTests := true, laidLooks := .later }
def WideFormsUptoCardSaid : Prop := Claim7.holds Tryd.pinned (.plain (OpenSpec.upto wideFormsSpec)) wideFormsUptoCard

/-- THE SECOND FORM's CARD OF 'spokeshavelaw01.WideSums'. -/
def wideSumsUptoCard : Claim7 := { stood := { row := wideSumsUptoRow, standIns := [], harness := (true, "ff86df95aff14d1a75d8235bf7c90cba7300ac0a4ac66e5c5dd5ff88caacbbdc"), looks := true }, kinds := [], alts := [], laidByText := true, laidKinds := [.data, .data, .data, .sentinel, .sentinel], laidTests := true, laidLooks := .later }
def WideSumsUptoCardSaid : Prop := Claim7.holds Tryd.pinned (.plain (OpenSpec.upto wideSumsSpec)) wideSumsUptoCard

/-- THE SECOND FORM's CARD OF 'spokeshavelaw01.WidePowers'. -/
def widePowersUptoCard : Claim7 := { stood := { row := widePowersUptoRow, standIns := [], harness := (true, "ff86df95aff14d1a75d8235bf7c90cba7300ac0a4ac66e5c5dd5ff88caacbbdc"), looks := true }, kinds := [], alts := [], laidByText := true, laidKinds := [.data, .data, .data, .sentinel, .sentinel], laidTests := true, laidLooks := .later }
def WidePowersUptoCardSaid : Prop := Claim7.holds Tryd.pinned (.plain (OpenSpec.upto widePowersSpec)) widePowersUptoCard

/-- THE SECOND FORM's CARD OF 'spokeshavelaw01.WideLists'. -/
def wideListsUptoCard : Claim7 := { stood := { row := wideListsUptoRow, standIns := [], harness := (true, "ff86df95aff14d1a75d8235bf7c90cba7300ac0a4ac66e5c5dd5ff88caacbbdc"), looks := true }, kinds := [], alts := [], laidByText := true, laidKinds := [.data, .data, .data, .sentinel, .sentinel], laidTests := true, laidLooks := .later }
def WideListsUptoCardSaid : Prop := Claim7.holds Tryd.pinned (.plain (OpenSpec.upto wideListsSpec)) wideListsUptoCard

/-- THE SECOND FORM's CARD OF 'spokeshavelaw01.WideDeterminants'. -/
def wideDeterminantsUptoCard : Claim7 := { stood := { row := wideDeterminantsUptoRow, standIns := [], harness := (true, "ff86df95aff14d1a75d8235bf7c90cba7300ac0a4ac66e5c5dd5ff88caacbbdc"), looks := true }, kinds := [], alts := [], laidByText := true, laidKinds := [.data, .data, .data, .sentinel, .sentinel], laidTests := true, laidLooks := .later }
def WideDeterminantsUptoCardSaid : Prop := Claim7.holds Tryd.pinned (.plain (OpenSpec.upto wideDeterminantsSpec)) wideDeterminantsUptoCard

/-- THE SECOND FORM's CARD OF 'spokeshavelaw01.WideLong'. -/
def wideLongUptoCard : Claim7 := { stood := { row := wideLongUptoRow, standIns := [], harness := (true, "ff86df95aff14d1a75d8235bf7c90cba7300ac0a4ac66e5c5dd5ff88caacbbdc"), looks := true }, kinds := [], alts := [], laidByText := true, laidKinds := [.data, .data, .data, .sentinel, .sentinel], laidTests := true, laidLooks := .later }
def WideLongUptoCardSaid : Prop := Claim7.holds Tryd.pinned (.plain (OpenSpec.upto wideLongSpec)) wideLongUptoCard

/-- THE SECOND FORM's CARD OF 'spokeshavelaw01.WideRing'. -/
def wideRingUptoCard : Claim7 := { stood := { row := wideRingUptoRow, standIns := [], harness := (true, "ff86df95aff14d1a75d8235bf7c90cba7300ac0a4ac66e5c5dd5ff88caacbbdc"), looks := true }, kinds := [], alts := [], laidByText := true, laidKinds := [.data, .data, .data, .sentinel, .sentinel], laidTests := true, laidLooks := .later }
def WideRingUptoCardSaid : Prop := Claim7.holds Tryd.pinned (.plain (OpenSpec.upto wideRingSpec)) wideRingUptoCard

/-- THE SECOND FORM's CARD OF 'spokeshavelaw01.WideMatrices'. -/
def wideMatricesUptoCard : Claim7 := { stood := { row := wideMatricesUptoRow, standIns := [], harness := (true, "ff86df95aff14d1a75d8235bf7c90cba7300ac0a4ac66e5c5dd5ff88caacbbdc"), looks := true }, kinds := [], alts := [], laidByText := true, laidKinds := [.data, .data, .data, .sentinel, .sentinel], laidTests := true, laidLooks := .later }
def WideMatricesUptoCardSaid : Prop := Claim7.holds Tryd.pinned (.plain (OpenSpec.upto wideMatricesSpec)) wideMatricesUptoCard
end Rows
end Go.Proofs.YtapfkinpdinbgaaDoor
