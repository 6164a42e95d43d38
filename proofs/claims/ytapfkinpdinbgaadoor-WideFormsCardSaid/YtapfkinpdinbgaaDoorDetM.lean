/-
  Minors by sets of columns. Plain: nothing of the program.
-/
import Derived.Test.YtapfkinpdinbgaaDoorMath
namespace Go.Proofs.YtapfkinpdinbgaaDoor

/-- An element of a row. -/
def ent (xs : List Int) (c : Nat) : Int := xs[c]?.getD 0

theorem ent_at {xs : List Int} {j : Nat} (h : j < xs.length) : ent xs j = xs[j] := by unfold ent; rw [List.getElem?_eq_getElem h]; rfl

/-- Along a row, the first j columns: the total, and whether the next term is turned. -/
def colS (xs : List Int) (f : Nat → Int) (u : Nat) : Nat → Int × Bool
  | 0 => (0, false)
  | j + 1 => if u.testBit j then colS xs f u j else ((colS xs f u j).1 + (if (colS xs f u j).2 then -(ent xs j * f j) else ent xs j * f j), !(colS xs f u j).2)

/-- The minor of the last k of n rows, without the columns of u. -/
def minorZ (M : List (List Int)) (n : Nat) : Nat → Nat → Int
  | 0, _ => 1
  | k + 1, u => (colS ((M[n - (k + 1)]?).getD []) (fun c => minorZ M n k (u ||| 2 ^ c)) u n).1

/-- How many of the first n columns are used. -/
def pop : Nat → Nat → Nat
  | 0, _ => 0
  | n + 1, u => pop n u + (if u.testBit n then 1 else 0)

theorem pop_le : ∀ (n u : Nat), pop n u ≤ n
  | 0, _ => Nat.le_refl _
  | n + 1, u => by have := pop_le n u; unfold pop; split <;> omega

theorem or_bit (u c i : Nat) : (u ||| 2 ^ c).testBit i = (u.testBit i || decide (c = i)) := by
  rw [Nat.testBit_or, Nat.testBit_two_pow]

theorem pop_or_ge : ∀ (n u c : Nat), n ≤ c → pop n (u ||| 2 ^ c) = pop n u
  | 0, _, _, _ => rfl
  | n + 1, u, c, h => by
    unfold pop
    rw [pop_or_ge n u c (by omega), or_bit]
    have : decide (c = n) = false := by simp; omega
    rw [this, Bool.or_false]

theorem pop_or : ∀ (n u c : Nat), c < n → u.testBit c = false → pop n (u ||| 2 ^ c) = pop n u + 1
  | n + 1, u, c, h, hu => by
    unfold pop
    rw [or_bit]
    by_cases e : c = n
    · subst e
      rw [pop_or_ge c u c (Nat.le_refl _), hu]; simp
    · have : decide (c = n) = false := by simp; exact e
      rw [pop_or n u c (by omega) hu, this, Bool.or_false]; omega

theorem or_lt {n u c : Nat} (hu : u < 2 ^ n) (hc : c < n) : u ||| 2 ^ c < 2 ^ n :=
  Nat.or_lt_two_pow hu (Nat.pow_lt_pow_right (by decide) hc)

theorem colS_used {xs : List Int} {f : Nat → Int} {u j : Nat} (h : u.testBit j = true) : colS xs f u (j + 1) = colS xs f u j := by
  conv => lhs; unfold colS
  rw [if_pos h]
theorem colS_free {xs : List Int} {f : Nat → Int} {u j : Nat} (h : u.testBit j = false) : colS xs f u (j + 1) = ((colS xs f u j).1 + (if (colS xs f u j).2 then -(ent xs j * f j) else ent xs j * f j), !(colS xs f u j).2) := by
  conv => lhs; unfold colS
  rw [if_neg (by rw [h]; decide)]

theorem colS_congr {xs : List Int} {f g : Nat → Int} {u : Nat} : ∀ (n : Nat), (∀ c, c < n → f c = g c) → colS xs f u n = colS xs g u n
  | 0, _ => rfl
  | n + 1, h => by
    have ih := colS_congr (xs := xs) (u := u) n (fun c hc => h c (by omega))
    unfold colS
    rw [ih, h n (by omega)]

/-- A determinant. -/
def detZ (M : List (List Int)) : Int := minorZ M M.length M.length 0

/-- How long minors get, and how many are kept. -/
def detL (k : Nat) : Nat := 1 + k * 240
def detS : Nat → Nat
  | 0 => 0
  | k + 1 => 6 * detS k + 1
theorem detS_mono : ∀ {k m : Nat}, k ≤ m → detS k ≤ detS m
  | k, m, h => by
    induction m with
    | zero => rw [Nat.le_zero.1 h]; exact Nat.le_refl _
    | succ m ih =>
      rcases Nat.lt_or_ge m k with h' | h'
      · rw [show k = m + 1 by omega]; exact Nat.le_refl _
      · have := ih h'; show detS k ≤ 6 * detS m + 1; omega

theorem pop_zero : ∀ n, pop n 0 = 0
  | 0 => rfl
  | n + 1 => by unfold pop; rw [pop_zero n]; simp

end Go.Proofs.YtapfkinpdinbgaaDoor
