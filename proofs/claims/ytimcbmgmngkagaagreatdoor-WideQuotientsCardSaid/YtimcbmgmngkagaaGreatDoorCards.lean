/-
  DERIVED. GIVEN WITH THE SEED: THE CARDS: each row of YtimcbmgmngkagaaGreatDoorRows.lean that lists a variable, with what it lists TIED to the program's text (the seventh form; the later family's looks); each row that meets fmt, with fmt's text TOLD by the authors' own Lean function (tested against real Go, not proved from fmt's source: count such statements apart). THE CARD IS WHAT COUNTS. Prove the row's statement (the work); the ties are given (YtimcbmgmngkagaaGreatDoorTie.lean); close each card by the builder's one call (the guide's Derived/Test/ToyasCard.lean, 'card_holds'). Laid BY PROGRAM, IN A SANDBOX (cutbox-door.mjs). By AI agents, Wed Nov 11 2026. No macro, syntax, notation, axiom, sorry.
-/
import Derived.Test.YtimcbmgmngkagaaGreatDoorRows
import GoSem.ClaimSeven
namespace Go.Proofs.YtimcbmgmngkagaaGreatDoor
namespace Rows

/-- THE TIED CARD OF 'spokeshavelaw01.WideQuotients'. -/
def wideQuotientsCard : Claim7 := { stood := { row := wideQuotientsRow, standIns := [], harness := (true, "ec43cc3ca94cfa04388cc481334482dafc4f3761baea34be5bc9c426e002949a"), looks := true }, kinds := [], alts := [], laidByText := true, laidKinds := [.data, .data, .data, .sentinel, .sentinel], laidTests := true, laidLooks := .later }
def WideQuotientsCardSaid : Prop := Claim7.holds Tryz.pinned (.plain (OpenSpec.ofChange wideQuotientsSpec)) wideQuotientsCard

/-- THE TIED CARD OF 'spokeshavelaw02.RatioForms'. -/
def ratioFormsCard : Claim7 := { stood := { row := ratioFormsRow, standIns := [], harness := (true, "ec43cc3ca94cfa04388cc481334482dafc4f3761baea34be5bc9c426e002949a"), looks := true }, kinds := [], alts := [], laidByText := true, laidKinds := [.data, .data, .data], laidTests := true, laidLooks := .later }
def RatioFormsCardSaid : Prop := Claim7.holds Tryz.pinned (.plain (OpenSpec.ofChange ratioFormsSpec)) ratioFormsCard

/-- THE TIED CARD OF 'spokeshavelaw02.RatioSums'. -/
def ratioSumsCard : Claim7 := { stood := { row := ratioSumsRow, standIns := [], harness := (true, "ec43cc3ca94cfa04388cc481334482dafc4f3761baea34be5bc9c426e002949a"), looks := true }, kinds := [], alts := [], laidByText := true, laidKinds := [.data, .data, .data], laidTests := true, laidLooks := .later }
def RatioSumsCardSaid : Prop := Claim7.holds Tryz.pinned (.plain (OpenSpec.ofChange ratioSumsSpec)) ratioSumsCard

/-- THE TIED CARD OF 'spokeshavelaw02.RatioRounds'. -/
def ratioRoundsCard : Claim7 := { stood := { row := ratioRoundsRow, standIns := [], harness := (true, "ec43cc3ca94cfa04388cc481334482dafc4f3761baea34be5bc9c426e002949a"), looks := true }, kinds := [], alts := [], laidByText := true, laidKinds := [.data, .data, .data], laidTests := true, laidLooks := .later }
def RatioRoundsCardSaid : Prop := Claim7.holds Tryz.pinned (.plain (OpenSpec.ofChange ratioRoundsSpec)) ratioRoundsCard

/-- THE TIED CARD OF 'spokeshavelaw02.RatioLists'. -/
def ratioListsCard : Claim7 := { stood := { row := ratioListsRow, standIns := [], harness := (true, "ec43cc3ca94cfa04388cc481334482dafc4f3761baea34be5bc9c426e002949a"), looks := true }, kinds := [], alts := [], laidByText := true, laidKinds := [.data, .data, .data], laidTests := true, laidLooks := .later }
def RatioListsCardSaid : Prop := Claim7.holds Tryz.pinned (.plain (OpenSpec.ofChange ratioListsSpec)) ratioListsCard

/-- THE TIED CARD OF 'spokeshavelaw02.RatioSimple'. -/
def ratioSimpleCard : Claim7 := { stood := { row := ratioSimpleRow, standIns := [], harness := (true, "ec43cc3ca94cfa04388cc481334482dafc4f3761baea34be5bc9c426e002949a"), looks := true }, kinds := [], alts := [], laidByText := true, laidKinds := [.data, .data, .data], laidTests := true, laidLooks := .later }
def RatioSimpleCardSaid : Prop := Claim7.holds Tryz.pinned (.plain (OpenSpec.ofChange ratioSimpleSpec)) ratioSimpleCard

/-- THE TIED CARD OF 'spokeshavelaw02.RatioLong'. -/
def ratioLongCard : Claim7 := { stood := { row := ratioLongRow, standIns := [], harness := (true, "ec43cc3ca94cfa04388cc481334482dafc4f3761baea34be5bc9c426e002949a"), looks := true }, kinds := [], alts := [], laidByText := true, laidKinds := [.data, .data, .data], laidTests := true, laidLooks := .later }
def RatioLongCardSaid : Prop := Claim7.holds Tryz.pinned (.plain (OpenSpec.ofChange ratioLongSpec)) ratioLongCard

/-- THE TIED CARD OF 'spokeshavelaw02.RatioField'. -/
def ratioFieldCard : Claim7 := { stood := { row := ratioFieldRow, standIns := [], harness := (true, "ec43cc3ca94cfa04388cc481334482dafc4f3761baea34be5bc9c426e002949a"), looks := true }, kinds := [], alts := [], laidByText := true, laidKinds := [.data, .data, .data], laidTests := true, laidLooks := .later }
def RatioFieldCardSaid : Prop := Claim7.holds Tryz.pinned (.plain (OpenSpec.ofChange ratioFieldSpec)) ratioFieldCard

/-- THE TIED CARD OF 'spokeshavelaw02.RatioBetween'. -/
def ratioBetweenCard : Claim7 := { stood := { row := ratioBetweenRow, standIns := [], harness := (true, "ec43cc3ca94cfa04388cc481334482dafc4f3761baea34be5bc9c426e002949a"), looks := true }, kinds := [], alts := [], laidByText := true, laidKinds := [.data, .data, .data], laidTests := true, laidLooks := .later }
def RatioBetweenCardSaid : Prop := Claim7.holds Tryz.pinned (.plain (OpenSpec.ofChange ratioBetweenSpec)) ratioBetweenCard

/-- THE SECOND FORM's CARD OF 'spokeshavelaw01.WideQuotients'. -/
def wideQuotientsUptoCard : Claim7 := { stood := { row := wideQuotientsUptoRow, standIns := [], harness := (true, "ec43cc3ca94cfa04388cc481334482dafc4f3761baea34be5bc9c426e002949a"), looks := true }, kinds := [], alts := [], laidByText := true, laidKinds := [.data, .data, .data, .sentinel, .sentinel], laidTests := true, laidLooks := .later }
def WideQuotientsUptoCardSaid : Prop := Claim7.holds Tryz.pinned (.plain (OpenSpec.upto wideQuotientsSpec)) wideQuotientsUptoCard

/-- THE SECOND FORM's CARD OF 'spokeshavelaw02.RatioForms'. -/
def ratioFormsUptoCard : Claim7 := { stood := { row := ratioFormsUptoRow, standIns := [], harness := (true, "ec43cc3ca94cfa04388cc481334482dafc4f3761baea34be5bc9c426e002949a"), looks := true }, kinds := [], alts := [], laidByText := true, laidKinds := [.data, .data, .data], laidTests := true, laidLooks := .later }
def RatioFormsUptoCardSaid : Prop := Claim7.holds Tryz.pinned (.plain (OpenSpec.upto ratioFormsSpec)) ratioFormsUptoCard

/-- THE SECOND FORM's CARD OF 'spokeshavelaw02.RatioSums'. -/
def ratioSumsUptoCard : Claim7 := { stood := { row := ratioSumsUptoRow, standIns := [], harness := (true, "ec43cc3ca94cfa04388cc481334482dafc4f3761baea34be5bc9c426e002949a"), looks := true }, kinds := [], alts := [], laidByText := true, laidKinds := [.data, .data, .data], laidTests := true, laidLooks := .later }
def RatioSumsUptoCardSaid : Prop := Claim7.holds Tryz.pinned (.plain (OpenSpec.upto ratioSumsSpec)) ratioSumsUptoCard

/-- THE SECOND FORM's CARD OF 'spokeshavelaw02.RatioRounds'. -/
def ratioRoundsUptoCard : Claim7 := { stood := { row := ratioRoundsUptoRow, standIns := [], harness := (true, "ec43cc3ca94cfa04388cc481334482dafc4f3761baea34be5bc9c426e002949a"), looks := true }, kinds := [], alts := [], laidByText := true, laidKinds := [.data, .data, .data], laidTests := true, laidLooks := .later }
def RatioRoundsUptoCardSaid : Prop := Claim7.holds Tryz.pinned (.plain (OpenSpec.upto ratioRoundsSpec)) ratioRoundsUptoCard

/-- THE SECOND FORM's CARD OF 'spokeshavelaw02.RatioLists'. -/
def ratioListsUptoCard : Claim7 := { stood := { row := ratioListsUptoRow, standIns := [], harness := (true, "ec43cc3ca94cfa04388cc481334482dafc4f3761baea34be5bc9c426e002949a"), looks := true }, kinds := [], alts := [], laidByText := true, laidKinds := [.data, .data, .data], laidTests := true, laidLooks := .later }
def RatioListsUptoCardSaid : Prop := Claim7.holds Tryz.pinned (.plain (OpenSpec.upto ratioListsSpec)) ratioListsUptoCard

/-- THE SECOND FORM's CARD OF 'spokeshavelaw02.RatioSimple'. -/
def ratioSimpleUptoCard : Claim7 := { stood := { row := ratioSimpleUptoRow, standIns := [], harness := (true, "ec43cc3ca94cfa04388cc481334482dafc4f3761baea34be5bc9c426e002949a"), looks := true }, kinds := [], alts := [], laidByText := true, laidKinds := [.data, .data, .data], laidTests := true, laidLooks := .later }
def RatioSimpleUptoCardSaid : Prop := Claim7.holds Tryz.pinned (.plain (OpenSpec.upto ratioSimpleSpec)) ratioSimpleUptoCard

/-- THE SECOND FORM's CARD OF 'spokeshavelaw02.RatioLong'. -/
def ratioLongUptoCard : Claim7 := { stood := { row := ratioLongUptoRow, standIns := [], harness := (true, "ec43cc3ca94cfa04388cc481334482dafc4f3761baea34be5bc9c426e002949a"), looks := true }, kinds := [], alts := [], laidByText := true, laidKinds := [.data, .data, .data], laidTests := true, laidLooks := .later }
def RatioLongUptoCardSaid : Prop := Claim7.holds Tryz.pinned (.plain (OpenSpec.upto ratioLongSpec)) ratioLongUptoCard

/-- THE SECOND FORM's CARD OF 'spokeshavelaw02.RatioField'. -/
def ratioFieldUptoCard : Claim7 := { stood := { row := ratioFieldUptoRow, standIns := [], harness := (true, "ec43cc3ca94cfa04388cc481334482dafc4f3761baea34be5bc9c426e002949a"), looks := true }, kinds := [], alts := [], laidByText := true, laidKinds := [.data, .data, .data], laidTests := true, laidLooks := .later }
def RatioFieldUptoCardSaid : Prop := Claim7.holds Tryz.pinned (.plain (OpenSpec.upto ratioFieldSpec)) ratioFieldUptoCard

/-- THE SECOND FORM's CARD OF 'spokeshavelaw02.RatioBetween'. -/
def ratioBetweenUptoCard : Claim7 := { stood := { row := ratioBetweenUptoRow, standIns := [], harness := (true, "ec43cc3ca94cfa04388cc481334482dafc4f3761baea34be5bc9c426e002949a"), looks := true }, kinds := [], alts := [], laidByText := true, laidKinds := [.data, .data, .data], laidTests := true, laidLooks := .later }
def RatioBetweenUptoCardSaid : Prop := Claim7.holds Tryz.pinned (.plain (OpenSpec.upto ratioBetweenSpec)) ratioBetweenUptoCard
end Rows
end Go.Proofs.YtimcbmgmngkagaaGreatDoor
