/-
  No cell of these rows narrows 'for every input' (looked for: loops, veiled, ifaces, maps, wideKeys, modest, calm, conditions, laid).
  DERIVED. THE GIVEN ROWS OF THIS SEAT. 7 by the template 'for every input the law returns true; each argument reads behind the call as it read before'; 0 by the template 'total and deterministic' (their statements: YtimkeblcdodfmaaGreatTotals.lean).
  GIVEN WITH THE SEED: the statements are not yours to turn. If you find one false, say at which input.
  Laid BY PROGRAM, IN A SANDBOX (cutbox-rows.mjs): the forced cells as the released guide's own fill.sh prints them over the translation 1fe10e2bdfe0195c… (all of the seat's roots in one cut). By AI agents, Wed Nov 11 2026. No macro, syntax, notation, axiom, sorry.
-/
import Derived.Test.YtimkeblcdodfmaaGreatChecked
import GoSem.Claim
import GoSem.ClaimJoined
import GoSem.ClaimMapViews
import Derived.JoinedTies
import Derived.KernelRfl
namespace Go.Proofs.YtimkeblcdodfmaaGreat
/- THE CELL 'sum', in the pinned program and in every row, IS THE sha256 OF THE DUMP (.gsa) THAT YtimkeblcdodfmaaGreatProg.lean LOADS. Nothing in Lean hashes anything: it is a label: what it is worth is what the hold of that sum in a sandbox is worth. -/
noncomputable def Tryz.pinned : Pinned := { name := "ytimkeblcdodfmaagreat", sum := "1fe10e2bdfe0195c9c8a1760305e772526c154763ba08dfef9df170611be21af", checked := Tryz.checked }
namespace Rows
def none {H : Type} : Left H := { results := [], args := [] }

/-- 'spokeshavelaw05.LineDirections': WHATEVER THE INPUT: true; the input reads as it did. -/
def lineDirectionsSpec : ChangeSpec := { name := "lineDirections", fn := fun _ => fun
  | [d1, d2, d3] => { results := [.lit (.bool true)], args := [d1, d2, d3] }
  | _ => none }
def lineDirectionsRow : OpenClaim := { program := "ytimkeblcdodfmaagreat", sum := "1fe10e2bdfe0195c9c8a1760305e772526c154763ba08dfef9df170611be21af", func := "spokeshave/spokeshavelaw05.LineDirections", spec := "lineDirections", inPlace := ["math/bits.Sub64", "math/bits.Add64"], unfollowed := true, recurses := true, named := ["math/bits.divideError", "math/bits.overflowError"], apart := false }
def LineDirectionsSaid : Prop := lineDirectionsRow.holds Tryz.pinned (OpenSpec.ofChange lineDirectionsSpec)

/-- ITS FALSE NEIGHBOUR: 'it returns false'. Refute it at one input. -/
def lineDirectionsWrong : ChangeSpec := { name := "lineDirections", fn := fun _ => fun
  | [d1, d2, d3] => { results := [.lit (.bool false)], args := [d1, d2, d3] }
  | _ => none }
def LineDirectionsWrongFalsely : Prop := lineDirectionsRow.holds Tryz.pinned (OpenSpec.ofChange lineDirectionsWrong)

/-- 'spokeshavelaw05.LineOrders': WHATEVER THE INPUT: true; the input reads as it did. -/
def lineOrdersSpec : ChangeSpec := { name := "lineOrders", fn := fun _ => fun
  | [d1, d2, d3] => { results := [.lit (.bool true)], args := [d1, d2, d3] }
  | _ => none }
def lineOrdersRow : OpenClaim := { program := "ytimkeblcdodfmaagreat", sum := "1fe10e2bdfe0195c9c8a1760305e772526c154763ba08dfef9df170611be21af", func := "spokeshave/spokeshavelaw05.LineOrders", spec := "lineOrders", inPlace := ["math/bits.Sub64", "math/bits.Add64"], unfollowed := true, recurses := true, named := ["math/bits.divideError", "math/bits.overflowError"], apart := false }
def LineOrdersSaid : Prop := lineOrdersRow.holds Tryz.pinned (OpenSpec.ofChange lineOrdersSpec)

/-- ITS FALSE NEIGHBOUR: 'it returns false'. Refute it at one input. -/
def lineOrdersWrong : ChangeSpec := { name := "lineOrders", fn := fun _ => fun
  | [d1, d2, d3] => { results := [.lit (.bool false)], args := [d1, d2, d3] }
  | _ => none }
def LineOrdersWrongFalsely : Prop := lineOrdersRow.holds Tryz.pinned (OpenSpec.ofChange lineOrdersWrong)

/-- 'spokeshavelaw05.LinePoints': WHATEVER THE INPUT: true; the input reads as it did. -/
def linePointsSpec : ChangeSpec := { name := "linePoints", fn := fun _ => fun
  | [d1, d2, d3] => { results := [.lit (.bool true)], args := [d1, d2, d3] }
  | _ => none }
def linePointsRow : OpenClaim := { program := "ytimkeblcdodfmaagreat", sum := "1fe10e2bdfe0195c9c8a1760305e772526c154763ba08dfef9df170611be21af", func := "spokeshave/spokeshavelaw05.LinePoints", spec := "linePoints", inPlace := ["math/bits.Sub64", "math/bits.Add64"], unfollowed := true, recurses := true, named := ["math/bits.divideError", "math/bits.overflowError"], apart := false }
def LinePointsSaid : Prop := linePointsRow.holds Tryz.pinned (OpenSpec.ofChange linePointsSpec)

/-- ITS FALSE NEIGHBOUR: 'it returns false'. Refute it at one input. -/
def linePointsWrong : ChangeSpec := { name := "linePoints", fn := fun _ => fun
  | [d1, d2, d3] => { results := [.lit (.bool false)], args := [d1, d2, d3] }
  | _ => none }
def LinePointsWrongFalsely : Prop := linePointsRow.holds Tryz.pinned (OpenSpec.ofChange linePointsWrong)

/-- 'spokeshavelaw05.LineAngles': WHATEVER THE INPUT: true; the input reads as it did. -/
def lineAnglesSpec : ChangeSpec := { name := "lineAngles", fn := fun _ => fun
  | [d1, d2, d3] => { results := [.lit (.bool true)], args := [d1, d2, d3] }
  | _ => none }
def lineAnglesRow : OpenClaim := { program := "ytimkeblcdodfmaagreat", sum := "1fe10e2bdfe0195c9c8a1760305e772526c154763ba08dfef9df170611be21af", func := "spokeshave/spokeshavelaw05.LineAngles", spec := "lineAngles", inPlace := ["math/bits.Sub64", "math/bits.Add64"], unfollowed := true, recurses := true, named := ["math/bits.divideError", "math/bits.overflowError"], apart := false }
def LineAnglesSaid : Prop := lineAnglesRow.holds Tryz.pinned (OpenSpec.ofChange lineAnglesSpec)

/-- ITS FALSE NEIGHBOUR: 'it returns false'. Refute it at one input. -/
def lineAnglesWrong : ChangeSpec := { name := "lineAngles", fn := fun _ => fun
  | [d1, d2, d3] => { results := [.lit (.bool false)], args := [d1, d2, d3] }
  | _ => none }
def LineAnglesWrongFalsely : Prop := lineAnglesRow.holds Tryz.pinned (OpenSpec.ofChange lineAnglesWrong)

/-- 'spokeshavelaw05.LineClockwise': WHATEVER THE INPUT: true; the input reads as it did. -/
def lineClockwiseSpec : ChangeSpec := { name := "lineClockwise", fn := fun _ => fun
  | [d1, d2, d3] => { results := [.lit (.bool true)], args := [d1, d2, d3] }
  | _ => none }
def lineClockwiseRow : OpenClaim := { program := "ytimkeblcdodfmaagreat", sum := "1fe10e2bdfe0195c9c8a1760305e772526c154763ba08dfef9df170611be21af", func := "spokeshave/spokeshavelaw05.LineClockwise", spec := "lineClockwise", inPlace := ["math/bits.Sub64", "math/bits.Add64"], unfollowed := true, recurses := true, named := ["math/bits.divideError", "math/bits.overflowError"], apart := false }
def LineClockwiseSaid : Prop := lineClockwiseRow.holds Tryz.pinned (OpenSpec.ofChange lineClockwiseSpec)

/-- ITS FALSE NEIGHBOUR: 'it returns false'. Refute it at one input. -/
def lineClockwiseWrong : ChangeSpec := { name := "lineClockwise", fn := fun _ => fun
  | [d1, d2, d3] => { results := [.lit (.bool false)], args := [d1, d2, d3] }
  | _ => none }
def LineClockwiseWrongFalsely : Prop := lineClockwiseRow.holds Tryz.pinned (OpenSpec.ofChange lineClockwiseWrong)

/-- 'spokeshavelaw05.LineTurns': WHATEVER THE INPUT: true; the input reads as it did. -/
def lineTurnsSpec : ChangeSpec := { name := "lineTurns", fn := fun _ => fun
  | [d1, d2, d3] => { results := [.lit (.bool true)], args := [d1, d2, d3] }
  | _ => none }
def lineTurnsRow : OpenClaim := { program := "ytimkeblcdodfmaagreat", sum := "1fe10e2bdfe0195c9c8a1760305e772526c154763ba08dfef9df170611be21af", func := "spokeshave/spokeshavelaw05.LineTurns", spec := "lineTurns", inPlace := ["math/bits.Sub64", "math/bits.Add64"], unfollowed := true, recurses := true, named := ["math/bits.divideError", "math/bits.overflowError"], apart := false }
def LineTurnsSaid : Prop := lineTurnsRow.holds Tryz.pinned (OpenSpec.ofChange lineTurnsSpec)

/-- ITS FALSE NEIGHBOUR: 'it returns false'. Refute it at one input. -/
def lineTurnsWrong : ChangeSpec := { name := "lineTurns", fn := fun _ => fun
  | [d1, d2, d3] => { results := [.lit (.bool false)], args := [d1, d2, d3] }
  | _ => none }
def LineTurnsWrongFalsely : Prop := lineTurnsRow.holds Tryz.pinned (OpenSpec.ofChange lineTurnsWrong)

/-- 'spokeshavelaw05.LineRounds': WHATEVER THE INPUT: true; the input reads as it did. -/
def lineRoundsSpec : ChangeSpec := { name := "lineRounds", fn := fun _ => fun
  | [d1, d2, d3] => { results := [.lit (.bool true)], args := [d1, d2, d3] }
  | _ => none }
def lineRoundsRow : OpenClaim := { program := "ytimkeblcdodfmaagreat", sum := "1fe10e2bdfe0195c9c8a1760305e772526c154763ba08dfef9df170611be21af", func := "spokeshave/spokeshavelaw05.LineRounds", spec := "lineRounds", inPlace := ["math/bits.Sub64", "math/bits.Add64"], unfollowed := true, recurses := true, named := ["math/bits.divideError", "math/bits.overflowError"], apart := false }
def LineRoundsSaid : Prop := lineRoundsRow.holds Tryz.pinned (OpenSpec.ofChange lineRoundsSpec)

/-- ITS FALSE NEIGHBOUR: 'it returns false'. Refute it at one input. -/
def lineRoundsWrong : ChangeSpec := { name := "lineRounds", fn := fun _ => fun
  | [d1, d2, d3] => { results := [.lit (.bool false)], args := [d1, d2, d3] }
  | _ => none }
def LineRoundsWrongFalsely : Prop := lineRoundsRow.holds Tryz.pinned (OpenSpec.ofChange lineRoundsWrong)

/- THE SECOND FORM. 'bulk': how many values and letters a reading holds, each counted each time it is reached (what is shared counts as often as it is met; a slice's spare places count too). A statement '..UptoSaid' is the law's where the arguments, and the package variables that the reading takes, are together of bulk at most 1048576: NARROWER than '..Said'. Prove '..Said' where nothing that the law and all that it calls make is longer than what came in: it says more and counts as full. Else prove '..UptoSaid'. A law counts once. -/
mutual
def uptoBulk {H : Type} : DataW H → Nat
  | .lit (.string bytes) => bytes.length + 1
  | .lit _ => 1
  | .nil => 1
  | .ptr d => uptoBulk d + 1
  | .slice elems spare => uptoBulkAll elems + uptoBulkAll spare + 1
  | .agg parts => uptoBulkAll parts + 1
  | .iface _ d => uptoBulk d + 1
  | .map entries => uptoBulkEntries entries + 1
  | .held _ => 1
def uptoBulkAll {H : Type} : List (DataW H) → Nat
  | [] => 0
  | d :: r => uptoBulk d + uptoBulkAll r
def uptoBulkEntries {H : Type} : List (Lit × DataW H) → Nat
  | [] => 0
  | x :: r => uptoBulkEntry x + uptoBulkEntries r
def uptoBulkEntry {H : Type} : Lit × DataW H → Nat
  | (.string bytes, d) => bytes.length + uptoBulk d + 1
  | (_, d) => uptoBulk d + 1
 end
def uptoSmall : (H : Type) → List (DataW H) → Bool := fun _ ds => decide (uptoBulkAll ds ≤ 1048576)
def OpenSpec.upto (s : _root_.Go.ChangeSpec) : _root_.Go.OpenSpec := { _root_.Go.OpenSpec.ofChange s with cond := some uptoSmall }

/-- 'spokeshavelaw05.LineDirections', WHERE WHAT IT READS IS OF BULK AT MOST 1048576: true; the input reads as it did. -/
def lineDirectionsUptoRow : OpenClaim := { program := "ytimkeblcdodfmaagreat", sum := "1fe10e2bdfe0195c9c8a1760305e772526c154763ba08dfef9df170611be21af", func := "spokeshave/spokeshavelaw05.LineDirections", spec := "lineDirections", inPlace := ["math/bits.Sub64", "math/bits.Add64"], unfollowed := true, recurses := true, named := ["math/bits.divideError", "math/bits.overflowError"], apart := false, narrowed := true }
def LineDirectionsUptoSaid : Prop := lineDirectionsUptoRow.holds Tryz.pinned (OpenSpec.upto lineDirectionsSpec)

/-- 'spokeshavelaw05.LineOrders', WHERE WHAT IT READS IS OF BULK AT MOST 1048576: true; the input reads as it did. -/
def lineOrdersUptoRow : OpenClaim := { program := "ytimkeblcdodfmaagreat", sum := "1fe10e2bdfe0195c9c8a1760305e772526c154763ba08dfef9df170611be21af", func := "spokeshave/spokeshavelaw05.LineOrders", spec := "lineOrders", inPlace := ["math/bits.Sub64", "math/bits.Add64"], unfollowed := true, recurses := true, named := ["math/bits.divideError", "math/bits.overflowError"], apart := false, narrowed := true }
def LineOrdersUptoSaid : Prop := lineOrdersUptoRow.holds Tryz.pinned (OpenSpec.upto lineOrdersSpec)

/-- 'spokeshavelaw05.LinePoints', WHERE WHAT IT READS IS OF BULK AT MOST 1048576: true; the input reads as it did. -/
def linePointsUptoRow : OpenClaim := { program := "ytimkeblcdodfmaagreat", sum := "1fe10e2bdfe0195c9c8a1760305e772526c154763ba08dfef9df170611be21af", func := "spokeshave/spokeshavelaw05.LinePoints", spec := "linePoints", inPlace := ["math/bits.Sub64", "math/bits.Add64"], unfollowed := true, recurses := true, named := ["math/bits.divideError", "math/bits.overflowError"], apart := false, narrowed := true }
def LinePointsUptoSaid : Prop := linePointsUptoRow.holds Tryz.pinned (OpenSpec.upto linePointsSpec)

/-- 'spokeshavelaw05.LineAngles', WHERE WHAT IT READS IS OF BULK AT MOST 1048576: true; the input reads as it did. -/
def lineAnglesUptoRow : OpenClaim := { program := "ytimkeblcdodfmaagreat", sum := "1fe10e2bdfe0195c9c8a1760305e772526c154763ba08dfef9df170611be21af", func := "spokeshave/spokeshavelaw05.LineAngles", spec := "lineAngles", inPlace := ["math/bits.Sub64", "math/bits.Add64"], unfollowed := true, recurses := true, named := ["math/bits.divideError", "math/bits.overflowError"], apart := false, narrowed := true }
def LineAnglesUptoSaid : Prop := lineAnglesUptoRow.holds Tryz.pinned (OpenSpec.upto lineAnglesSpec)

/-- 'spokeshavelaw05.LineClockwise', WHERE WHAT IT READS IS OF BULK AT MOST 1048576: true; the input reads as it did. -/
def lineClockwiseUptoRow : OpenClaim := { program := "ytimkeblcdodfmaagreat", sum := "1fe10e2bdfe0195c9c8a1760305e772526c154763ba08dfef9df170611be21af", func := "spokeshave/spokeshavelaw05.LineClockwise", spec := "lineClockwise", inPlace := ["math/bits.Sub64", "math/bits.Add64"], unfollowed := true, recurses := true, named := ["math/bits.divideError", "math/bits.overflowError"], apart := false, narrowed := true }
def LineClockwiseUptoSaid : Prop := lineClockwiseUptoRow.holds Tryz.pinned (OpenSpec.upto lineClockwiseSpec)

/-- 'spokeshavelaw05.LineTurns', WHERE WHAT IT READS IS OF BULK AT MOST 1048576: true; the input reads as it did. -/
def lineTurnsUptoRow : OpenClaim := { program := "ytimkeblcdodfmaagreat", sum := "1fe10e2bdfe0195c9c8a1760305e772526c154763ba08dfef9df170611be21af", func := "spokeshave/spokeshavelaw05.LineTurns", spec := "lineTurns", inPlace := ["math/bits.Sub64", "math/bits.Add64"], unfollowed := true, recurses := true, named := ["math/bits.divideError", "math/bits.overflowError"], apart := false, narrowed := true }
def LineTurnsUptoSaid : Prop := lineTurnsUptoRow.holds Tryz.pinned (OpenSpec.upto lineTurnsSpec)

/-- 'spokeshavelaw05.LineRounds', WHERE WHAT IT READS IS OF BULK AT MOST 1048576: true; the input reads as it did. -/
def lineRoundsUptoRow : OpenClaim := { program := "ytimkeblcdodfmaagreat", sum := "1fe10e2bdfe0195c9c8a1760305e772526c154763ba08dfef9df170611be21af", func := "spokeshave/spokeshavelaw05.LineRounds", spec := "lineRounds", inPlace := ["math/bits.Sub64", "math/bits.Add64"], unfollowed := true, recurses := true, named := ["math/bits.divideError", "math/bits.overflowError"], apart := false, narrowed := true }
def LineRoundsUptoSaid : Prop := lineRoundsUptoRow.holds Tryz.pinned (OpenSpec.upto lineRoundsSpec)

end Rows
end Go.Proofs.YtimkeblcdodfmaaGreat
