/-
  Strings that are numbers: their form, and what they say. Plain: nothing of the program.
-/
import Derived.Test.YtapfkinpdinbgaaDoorMath
namespace Go.Proofs.YtapfkinpdinbgaaDoor

def isDg (c : UInt8) : Bool := decide (48 ≤ c.toNat ∧ c.toNat ≤ 57)
/-- What stands behind a minus, if there is one. -/
def digitsOf : List UInt8 → List UInt8
  | [] => []
  | c :: t => if c = 45 then t else c :: t
def isNeg : List UInt8 → Bool
  | [] => false
  | c :: _ => c == 45
/-- The form of an integer (R6), whatever its length. -/
def plainB (l : List UInt8) : Bool := (!(digitsOf l).isEmpty) && (digitsOf l).all isDg && ((digitsOf l).head? != some 48 || l == [48])
/-- A number: at most 2000 digits. -/
def numB (l : List UInt8) : Bool := plainB l && decide ((digitsOf l).length ≤ 2000)
/-- What decimal digits say, the highest first. -/
def decV (l : List UInt8) : Nat := l.foldl (fun a c => a * 10 + (c.toNat - 48)) 0
/-- The integer of a string. -/
def strV (l : List UInt8) : Int := if isNeg l then -(decV (digitsOf l) : Int) else (decV (digitsOf l) : Int)

theorem decV_snoc (l : List UInt8) (c : UInt8) : decV (l ++ [c]) = decV l * 10 + (c.toNat - 48) := by
  unfold decV; rw [List.foldl_append]; rfl

end Go.Proofs.YtapfkinpdinbgaaDoor
