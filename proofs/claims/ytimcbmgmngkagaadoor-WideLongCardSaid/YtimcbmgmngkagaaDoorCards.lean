/-
  DERIVED. GIVEN WITH THE SEED: THE CARDS: each row of YtimcbmgmngkagaaDoorRows.lean that lists a variable, with what it lists TIED to the program's text (the seventh form; the later family's looks); each row that meets fmt, with fmt's text TOLD by the authors' own Lean function (tested against real Go, not proved from fmt's source: count such statements apart). THE CARD IS WHAT COUNTS. Prove the row's statement (the work); the ties are given (YtimcbmgmngkagaaDoorTie.lean); close each card by the builder's one call (the guide's Derived/Test/ToyasCard.lean, 'card_holds'). Laid BY PROGRAM, IN A SANDBOX (cutbox-door.mjs). By AI agents, Wed Nov 11 2026. No macro, syntax, notation, axiom, sorry.
-/
import Derived.Test.YtimcbmgmngkagaaDoorRows
import GoSem.ClaimSeven
namespace Go.Proofs.YtimcbmgmngkagaaDoor
namespace Rows

/-- THE TIED CARD OF 'spokeshavelaw01.WideLong'. -/
def wideLongCard : Claim7 := { stood := { row := wideLongRow, standIns := [], harness := (true, "b9daf8faa707eff3340e6602444fac15294edd03bdaa68208a84fb7d937b1cec"), looks := true }, kinds := [], alts := [], laidByText := true, laidKinds := [.data, .data, .data, .sentinel, .sentinel], laidTests := true, laidLooks := .later }
def WideLongCardSaid : Prop := Claim7.holds Tryd.pinned (.plain (OpenSpec.ofChange wideLongSpec)) wideLongCard

/-- THE TIED CARD OF 'spokeshavelaw01.WideRing'. -/
def wideRingCard : Claim7 := { stood := { row := wideRingRow, standIns := [], harness := (true, "b9daf8faa707eff3340e6602444fac15294edd03bdaa68208a84fb7d937b1cec"), looks := true }, kinds := [], alts := [], laidByText := true, laidKinds := [.data, .data, .data, .sentinel, .sentinel], laidTests := true, laidLooks := .later }
def WideRingCardSaid : Prop := Claim7.holds Tryd.pinned (.plain (OpenSpec.ofChange wideRingSpec)) wideRingCard

/-- THE SECOND FORM's CARD OF 'spokeshavelaw01.WideLong'. -/
def wideLongUptoCard : Claim7 := { stood := { row := wideLongUptoRow, standIns := [], harness := (true, "b9daf8faa707eff3340e6602444fac15294edd03bdaa68208a84fb7d937b1cec"), looks := true }, kinds := [], alts := [], laidByText := true, laidKinds := [.data, .data, .data, .sentinel, .sentinel], laidTests := true, laidLooks := .later }
def WideLongUptoCardSaid : Prop := Claim7.holds Tryd.pinned (.plain (OpenSpec.upto wideLongSpec)) wideLongUptoCard

/-- THE SECOND FORM's CARD OF 'spokeshavelaw01.WideRing'. -/
def wideRingUptoCard : Claim7 := { stood := { row := wideRingUptoRow, standIns := [], harness := (true, "b9daf8faa707eff3340e6602444fac15294edd03bdaa68208a84fb7d937b1cec"), looks := true }, kinds := [], alts := [], laidByText := true, laidKinds := [.data, .data, .data, .sentinel, .sentinel], laidTests := true, laidLooks := .later }
def WideRingUptoCardSaid : Prop := Claim7.holds Tryd.pinned (.plain (OpenSpec.upto wideRingSpec)) wideRingUptoCard
end Rows
end Go.Proofs.YtimcbmgmngkagaaDoor
