/-
  Lehmer's steps of Euclid's algorithm, plain: cofactors of two numbers out of their highest digits. It imports nothing of the program; Greatest common divisors: two words of a number as one; Lehmer's steps; Blocks of the call's own, known whole; Greatest common divisors: Lehmer's steps; Greatest common divisors: a x + b y; Greatest common divisors: divisor; Greatest common divisors: divisor whole; Gcd of two strings.
-/
import Derived.Deep.CutBlock
import Derived.Test.YtimcbmgmngkagaaGreatDoorK1
import Derived.Test.YtimcbmgmngkagaaGreatDoorK2
import Derived.Test.YtimcbmgmngkagaaGreatDoorK3
import Derived.Test.YtimcbmgmngkagaaGreatDoorK4
import Derived.Test.YtimcbmgmngkagaaGreatDoorK5
import Derived.Test.YtimcbmgmngkagaaGreatDoorK6
import Derived.Test.YtimcbmgmngkagaaGreatDoorK7
import Derived.Test.YtimcbmgmngkagaaGreatDoorK8
import Derived.Test.YtimcbmgmngkagaaGreatDoorK9
import Derived.Test.YtimcbmgmngkagaaGreatDoorK10
import Derived.Test.YtimcbmgmngkagaaGreatDoorK11
namespace Go.Proofs.YtimcbmgmngkagaaGreatDoor

/-- What holds of Lehmer's cofactors a, b, c, d of X and Y (P and Q the highest digits of both): p, q are the highest parts of a X + b Y and c X + d Y. -/
structure Leh (X Y P Q a b c d p q : Int) : Prop where
  hp : p = a * P + b * Q
  hq : q = c * P + d * Q
  q0 : 0 ≤ q
  qp : q ≤ p
  sg : (0 ≤ a ∧ b ≤ 0 ∧ c ≤ 0 ∧ 0 ≤ d ∧ d * p - b * q = P ∧ d ≤ p ∧ ((a ≤ -b ∧ -c ≤ d ∧ -b ≤ d) ∨ (a = 1 ∧ b = 0 ∧ c = 0 ∧ d = 1))) ∨
    (a ≤ 0 ∧ 0 ≤ b ∧ 0 ≤ c ∧ d ≤ 0 ∧ b * q - d * p = P ∧ -d ≤ p ∧ -a ≤ b ∧ c ≤ -d ∧ b ≤ -d)
  y0 : 0 ≤ c * X + d * Y
  yx : c * X + d * Y ≤ a * X + b * Y
  xy : a * X + b * Y ≤ X
  b0 : b = 0 ∧ a = 1 ∧ c = 0 ∧ d = 1 ∨ b ≠ 0 ∧ a * X + b * Y ≤ Y ∧ c * X + d * Y < a * X + b * Y
  yl : c * X + d * Y ≤ Y
  gc : Int.gcd (a * X + b * Y) (c * X + d * Y) = Int.gcd X Y

theorem Leh.start {X Y P Q : Int} (h0 : 0 ≤ Y) (h1 : Y ≤ X) (hQ : 0 ≤ Q) (hQP : Q ≤ P) (hP : 1 ≤ P) : Leh X Y P Q 1 0 0 1 P Q where
  hp := by omega
  hq := by omega
  q0 := hQ
  qp := hQP
  sg := Or.inl ⟨by omega, by omega, by omega, by omega, by omega, by omega, Or.inr ⟨rfl, rfl, rfl, rfl⟩⟩
  y0 := by omega
  yx := by omega
  xy := by omega
  b0 := Or.inl ⟨rfl, rfl, rfl, rfl⟩
  yl := by omega
  gc := by simp

/-- One quotient that is certain. -/
theorem certain {s p q t A B C D r u : Int} (hs : 0 < s) (hr : 0 ≤ r) (hr1 : r < s) (hu : 0 ≤ u) (hu1 : u < s) (ht : 0 ≤ t) (hA : 0 ≤ A) (hB : 0 ≤ B) (hC : 0 ≤ C) (hD : 0 ≤ D)
    (h1 : t * (q + D) ≤ p - B) (h2 : p + A < (t + 1) * (q - C)) :
    0 ≤ (p * s + A * r - B * u) - t * (q * s + D * u - C * r) ∧ (p * s + A * r - B * u) < (t + 1) * (q * s + D * u - C * r) := by
  have e1 : (p * s + A * r - B * u) - t * (q * s + D * u - C * r) = (p - B - t * (q + D)) * s + (B + t * D) * (s - u) + (A + t * C) * r := by grind
  have e2 : (t + 1) * (q * s + D * u - C * r) - (p * s + A * r - B * u) = ((t + 1) * (q - C) - (p + A)) * s + ((t + 1) * C + A) * (s - r) + ((t + 1) * D + B) * u := by grind
  have k1 : 0 ≤ t * D := Int.mul_nonneg ht hD
  have k2 : 0 ≤ t * C := Int.mul_nonneg ht hC
  have k3 : 0 ≤ (t + 1) * C := Int.mul_nonneg (by omega) hC
  have k4 : 0 ≤ (t + 1) * D := Int.mul_nonneg (by omega) hD
  have m1 : 0 ≤ (p - B - t * (q + D)) * s := Int.mul_nonneg (by omega) (by omega)
  have m2 : 0 ≤ (B + t * D) * (s - u) := Int.mul_nonneg (by omega) (by omega)
  have m3 : 0 ≤ (A + t * C) * r := Int.mul_nonneg (by omega) hr
  have m4 : 0 < ((t + 1) * (q - C) - (p + A)) * s := Int.mul_pos (by omega) hs
  have m5 : 0 ≤ ((t + 1) * C + A) * (s - r) := Int.mul_nonneg (by omega) (by omega)
  have m6 : 0 ≤ ((t + 1) * D + B) * u := Int.mul_nonneg (by omega) hu
  omega

theorem Leh.next {X Y P Q s r u a b c d p q t : Int} (h : Leh X Y P Q a b c d p q) (hX : X = P * s + r) (hY : Y = Q * s + u) (hs : 0 < s) (hr : 0 ≤ r) (hr1 : r < s) (hu : 0 ≤ u) (hu1 : u < s)
    (hqc : 0 < q + c) (hqd : 0 < q + d) (t1 : t = (p + a) / (q + c)) (t2 : t = (p + b) / (q + d)) :
    Leh X Y P Q c d (a - t * c) (b - t * d) q (p - t * q) ∧ p - t * q < q ∧ 1 ≤ t := by
  obtain ⟨hp, hq, q0, qp, sg, y0, yx, xy, b0, yl, gc⟩ := h
  have ta1 : t * (q + c) ≤ p + a := by rw [t1]; exact Int.ediv_mul_le _ (by omega)
  have ta2 : p + a < (t + 1) * (q + c) := by rw [t1]; exact Int.lt_ediv_add_one_mul_self _ hqc
  have tb1 : t * (q + d) ≤ p + b := by rw [t2]; exact Int.ediv_mul_le _ (by omega)
  have tb2 : p + b < (t + 1) * (q + d) := by rw [t2]; exact Int.lt_ediv_add_one_mul_self _ hqd
  have hpa : 0 ≤ p + a := by rcases sg with ⟨_, _, _, _, _, _, _⟩ | ⟨_, _, _, _, _, _, _⟩ <;> omega
  have ht : 0 ≤ t := by rw [t1]; exact Int.ediv_nonneg hpa (by omega)
  have ex : a * X + b * Y = p * s + a * r + b * u := by rw [hX, hY, hp]; grind
  have ey : c * X + d * Y = q * s + c * r + d * u := by rw [hX, hY, hq]; grind
  have key : 0 ≤ (a * X + b * Y) - t * (c * X + d * Y) ∧ (a * X + b * Y) < (t + 1) * (c * X + d * Y) := by
    rw [ex, ey]
    rcases sg with ⟨sa, sb, sc, sd, _, _, _⟩ | ⟨sa, sb, sc, sd, _, _, _⟩
    · have := certain (s := s) (p := p) (q := q) (t := t) (A := a) (B := -b) (C := -c) (D := d) (r := r) (u := u) hs hr hr1 hu hu1 ht sa (by omega) (by omega) sd (by omega) (by rw [Int.sub_neg]; exact ta2)
      have e1 : p * s + a * r - -b * u = p * s + a * r + b * u := by grind
      have e2 : q * s + d * u - -c * r = q * s + c * r + d * u := by grind
      rw [e1, e2] at this
      exact this
    · have := certain (s := s) (p := p) (q := q) (t := t) (A := b) (B := -a) (C := -d) (D := c) (r := u) (u := r) hs hu hu1 hr hr1 ht sb (by omega) (by omega) sc (by omega) (by rw [Int.sub_neg]; exact tb2)
      have e1 : p * s + b * u - -a * r = p * s + a * r + b * u := by grind
      have e2 : q * s + c * r - -d * u = q * s + c * r + d * u := by grind
      rw [e1, e2] at this
      exact this
  have ht1 : 1 ≤ t := by
    rcases Int.lt_or_le t 1 with h | h
    · have : t = 0 := by omega
      rw [this] at key
      omega
    · exact h
  have en : (a - t * c) * X + (b - t * d) * Y = (a * X + b * Y) - t * (c * X + d * Y) := by grind
  have e1 : (t + 1) * (q + c) = t * q + q + (t * c + c) := by grind
  have e2 : (t + 1) * (q + d) = t * q + q + (t * d + d) := by grind
  have e3 : t * (q + c) = t * q + t * c := by grind
  have e4 : t * (q + d) = t * q + t * d := by grind
  have e5 : (t + 1) * (c * X + d * Y) = t * (c * X + d * Y) + (c * X + d * Y) := by grind
  rw [e1] at ta2
  rw [e2] at tb2
  rw [e3] at ta1
  rw [e4] at tb1
  rw [e5] at key
  have tc0 : 0 ≤ c → c ≤ t * c := fun h => by have := Int.mul_le_mul_of_nonneg_right ht1 h; omega
  have tc1 : c ≤ 0 → t * c ≤ c := fun h => by have := Int.mul_le_mul_of_nonneg_right ht1 (show 0 ≤ -c by omega); rw [Int.mul_neg, Int.mul_neg] at this; omega
  have td0 : 0 ≤ d → d ≤ t * d := fun h => by have := Int.mul_le_mul_of_nonneg_right ht1 h; omega
  have td1 : d ≤ 0 → t * d ≤ d := fun h => by have := Int.mul_le_mul_of_nonneg_right ht1 (show 0 ≤ -d by omega); rw [Int.mul_neg, Int.mul_neg] at this; omega
  have tcd : 0 ≤ c + d → 0 ≤ t * c + t * d := fun h => by have := Int.mul_nonneg ht h; rw [Int.mul_add] at this; exact this
  have tdc : c + d ≤ 0 → t * c + t * d ≤ 0 := fun h => by have := Int.mul_nonneg ht (show 0 ≤ -(c + d) by omega); rw [Int.mul_neg, Int.mul_add] at this; omega
  have hlt : p - t * q < q := by
    rcases sg with ⟨sa, sb, sc, sd, _, _, _⟩ | ⟨sa, sb, sc, sd, _, _, _⟩
    · have := tc1 sc; omega
    · have := td1 sd; omega
  refine ⟨⟨hq, by rw [hp, hq]; grind, ?_, by omega, ?_, by rw [en]; exact key.1, by rw [en]; omega, by omega, ?_, ?_, ?_⟩, hlt, ht1⟩
  · rcases sg with ⟨sa, sb, sc, sd, _, _, _⟩ | ⟨sa, sb, sc, sd, _, _, _⟩
    · have := td0 sd; omega
    · have := tc0 sc; omega
  · rcases sg with ⟨sa, sb, sc, sd, sP, sD, sx⟩ | ⟨sa, sb, sc, sd, sP, sD, s1, s2, s3⟩
    · refine Or.inr ⟨sc, sd, by have := tc1 sc; omega, by have := td0 sd; omega, ?_, by have := td0 sd; omega, ?_, ?_, by have := td0 sd; omega⟩
      · rw [← sP]; grind
      · rcases sx with ⟨x1, x2, x3⟩ | ⟨rfl, rfl, rfl, rfl⟩ <;> omega
      · rcases sx with ⟨x1, x2, x3⟩ | ⟨rfl, rfl, rfl, rfl⟩
        · have := tcd (by omega); omega
        · omega
    · refine Or.inl ⟨sc, sd, by have := tc0 sc; omega, by have := td1 sd; omega, ?_, by have := td1 sd; omega, Or.inl ⟨by omega, ?_, by have := td1 sd; omega⟩⟩
      · rw [← sP]; grind
      · have := tdc (by omega); omega
  · refine Or.inr ⟨?_, by omega, by rw [en]; omega⟩
    rcases sg with ⟨sa, sb, sc, sd, sP, sD, sx⟩ | ⟨sa, sb, sc, sd, sP, sD, s1, s2, s3⟩
    · intro e
      rcases sx with ⟨x1, x2, x3⟩ | ⟨rfl, rfl, rfl, rfl⟩
      · -- d = 0: then b = 0, a = 0
        have hb : b = 0 := by omega
        rcases b0 with ⟨_, _, _, z⟩ | ⟨z, _⟩
        · omega
        · exact z hb
      · omega
    · intro e
      have hb : b = 0 := by omega
      rcases b0 with ⟨_, _, _, z⟩ | ⟨z, _⟩
      · omega
      · exact z hb
  · rw [en]; omega
  · rw [en, ← gc, Int.gcd_comm (a * X + b * Y)]
    exact Int.gcd_sub_mul_right_right _ _ _

/-- None of the cofactors is longer than a word. -/
theorem Leh.small {X Y P Q a b c d p q : Int} (h : Leh X Y P Q a b c d p q) (hP : P < 1000000000000000000) (hP1 : 1 ≤ P) :
    (-1000000000 < a ∧ a < 1000000000) ∧ (-1000000000 < b ∧ b < 1000000000) ∧ (-1000000000 < c ∧ c < 1000000000) ∧ (-1000000000 < d ∧ d < 1000000000) ∧ p ≤ P ∧ 0 ≤ p + a ∧ 0 ≤ p + b := by
  obtain ⟨hp, hq, q0, qp, sg, y0, yx, xy, b0, yl, gc⟩ := h
  have sq : ∀ D : Int, 0 ≤ D → D ≤ p → D * p ≤ P → D < 1000000000 := fun D h0 h1 h2 => by
    rcases Int.lt_or_le D 1000000000 with h | h
    · exact h
    · have m1 : 1000000000 * 1000000000 ≤ D * p := Int.mul_le_mul h (by omega) (by omega) (by omega)
      omega
  have one : ∀ D : Int, 1 ≤ D → D * p ≤ P → 0 ≤ p → p ≤ P := fun D h1 h2 h3 => by
    have := Int.mul_le_mul_of_nonneg_right h1 h3
    omega
  rcases sg with ⟨sa, sb, sc, sd, sP, sD, sx⟩ | ⟨sa, sb, sc, sd, sP, sD, s1, s2, s3⟩
  · have m0 : 0 ≤ (-b) * q := Int.mul_nonneg (by omega) q0
    rw [Int.neg_mul] at m0
    have hd := sq d sd sD (by omega)
    have h1 : 1 ≤ d := by
      rcases sx with ⟨x1, x2, x3⟩ | ⟨rfl, rfl, rfl, rfl⟩
      · rcases Int.lt_or_le d 1 with h | h
        · have e : d = 0 := by omega
          have e2 : b = 0 := by omega
          rw [e, e2] at sP
          omega
        · exact h
      · omega
    have hpP := one d h1 (by omega) (by omega)
    rcases sx with ⟨x1, x2, x3⟩ | ⟨rfl, rfl, rfl, rfl⟩ <;> omega
  · have m0 : 0 ≤ b * q := Int.mul_nonneg (by omega) q0
    have hd := sq (-d) (by omega) sD (by rw [Int.neg_mul]; omega)
    have h1 : 1 ≤ -d := by
      rcases Int.lt_or_le (-d) 1 with h | h
      · have e : d = 0 := by omega
        have e2 : b = 0 := by omega
        rw [e, e2] at sP
        omega
      · exact h
    have hpP := one (-d) h1 (by rw [Int.neg_mul]; omega) (by omega)
    omega

/-- What `combined` has done below a place: the digits that are written, and what is carried. -/
def CombI (xs ys : List Nat) (a b : Int) (zs : List Nat) (k : Nat) (c : Int) : Prop :=
  zs.length = k ∧ Dg BW zs ∧ (dv BW zs : Int) + ((BW ^ k : Nat) : Int) * c = a * (dv BW (xs.take k) : Nat) + b * (dv BW (ys.take k) : Nat)

theorem CombI.start (xs ys : List Nat) (a b : Int) : CombI xs ys a b [] 0 0 := ⟨rfl, Dg.nil _, by simp [dv]⟩

theorem CombI.step {xs ys zs : List Nat} {a b c s c' : Int} {k low : Nat} (h : CombI xs ys a b zs k c) (hs : s = c + a * (xs[k]?.getD 0 : Nat) + b * (ys[k]?.getD 0 : Nat)) (hl : (low : Int) + BW * c' = s) (hl9 : low < BW) :
    CombI xs ys a b (zs ++ [low]) (k + 1) c' := by
  obtain ⟨h1, h2, h3⟩ := h
  refine ⟨by simp [h1], h2.append (Dg.cons hl9 (Dg.nil _)), ?_⟩
  rw [dv_snoc, h1, dv_take_succ, dv_take_succ, Nat.pow_succ]
  generalize (xs[k]?.getD 0) = x at *
  generalize (ys[k]?.getD 0) = y at *
  generalize BW = B at *
  generalize B ^ k = M at *
  rw [Int.natCast_add, Int.natCast_add, Int.natCast_add, Int.natCast_mul, Int.natCast_mul, Int.natCast_mul, Int.natCast_mul]
  have e2 : (B : Int) * c' = s - low := by omega
  have e : (M : Int) * (B : Int) * c' = (M : Int) * (s - low) := by rw [← e2, Int.mul_assoc]
  rw [e, hs]
  grind

theorem CombI.done {xs ys zs : List Nat} {a b c : Int} {k : Nat} (h : CombI xs ys a b zs k c) (hx : xs.length ≤ k) (hy : ys.length ≤ k) (h0 : 0 ≤ a * (dv BW xs : Nat) + b * (dv BW ys : Nat)) (h1 : a * (dv BW xs : Nat) + b * (dv BW ys : Nat) < ((BW ^ k : Nat) : Int)) :
    (dv BW zs : Int) = a * (dv BW xs : Nat) + b * (dv BW ys : Nat) := by
  obtain ⟨g1, g2, g3⟩ := h
  rw [List.take_of_length_le hx, List.take_of_length_le hy] at g3
  have hz : (dv BW zs : Int) < ((BW ^ k : Nat) : Int) := by
    have := dv_lt g2
    rw [g1] at this
    exact Int.ofNat_lt.2 this
  generalize a * (dv BW xs : Nat) + b * (dv BW ys : Nat) = T at *
  have hp : (0 : Int) < ((BW ^ k : Nat) : Int) := by omega
  generalize ((BW ^ k : Nat) : Int) = M at *
  have hc : c = 0 := by
    rcases Int.lt_trichotomy c 0 with h | h | h
    · have := Int.mul_le_mul_of_nonneg_left (show c ≤ -1 by omega) (Int.le_of_lt hp); omega
    · exact h
    · have := Int.mul_le_mul_of_nonneg_left (show 1 ≤ c by omega) (Int.le_of_lt hp); omega
  rw [hc] at g3
  omega

/-- The bounds of one place's sum. -/
theorem comb_bound {a b x y : Int} (ha : -1000000000 < a) (ha1 : a < 1000000000) (hb : -1000000000 < b) (hb1 : b < 1000000000) (hx : 0 ≤ x) (hx1 : x < 1000000000) (hy : 0 ≤ y) (hy1 : y < 1000000000) :
    (-999999998000000001 ≤ a * x ∧ a * x ≤ 999999998000000001) ∧ (-999999998000000001 ≤ b * y ∧ b * y ≤ 999999998000000001) := by
  have gen : ∀ u v : Int, -1000000000 < u → u < 1000000000 → 0 ≤ v → v < 1000000000 → -999999998000000001 ≤ u * v ∧ u * v ≤ 999999998000000001 := by
    intro u v h1 h2 h3 h4
    have m1 : u * v ≤ 999999999 * v := Int.mul_le_mul_of_nonneg_right (by omega) h3
    have m2 : (-999999999) * v ≤ u * v := Int.mul_le_mul_of_nonneg_right (by omega) h3
    omega
  exact ⟨gen a x ha ha1 hx hx1, gen b y hb hb1 hy hy1⟩

end Go.Proofs.YtimcbmgmngkagaaGreatDoor

namespace Go.Proofs.YtimcbmgmngkagaaGreatDoor
open Go.RowKit

/-- The digits at i and i + 1 as a number. -/
def twoV (xs : List Nat) (i : Nat) : Nat := xs[i]?.getD 0 + BW * xs[i + 1]?.getD 0

theorem twoV_eq (xs : List Nat) (i : Nat) : twoV xs i = dv BW ((xs.drop i).take 2) := by
  have h : ∀ k : Nat, dv BW ((xs.drop i).take (k + 1)) = dv BW ((xs.drop i).take k) + BW ^ k * xs[i + k]?.getD 0 := fun k => by
    rw [dv_take_succ, List.getElem?_drop]
  rw [h 1, h 0]
  simp [twoV, dv]

theorem twoV_lt {xs : List Nat} (g : Dg BW xs) (i : Nat) : twoV xs i < 1000000000000000000 := by
  have h1 : xs[i]?.getD 0 < 1000000000 := g.get (by decide) i
  have h2 : xs[i + 1]?.getD 0 < 1000000000 := g.get (by decide) (i + 1)
  show xs[i]?.getD 0 + 1000000000 * xs[i + 1]?.getD 0 < _
  omega

set_option maxHeartbeats 1000000 in
theorem twoWords_any (p : Option Addr) (n c i : Nat) (xs : List Nat) (w : World) (hn : n ≤ 1000000000) (hi : i ≤ 1000000000) (hx : Rd .u64 w p n xs) (gx : Dg BW xs) :
    Calls Tryz.prog 154 #[.slice p n c, .int .i64 (i : Int)] w fun e w' => e = .returned (.int .u64 ((twoV xs i : Nat) : Int)) ∧ w = w' := by
  have b0 : xs[i]?.getD 0 < 1000000000 := gx.get (by decide) i
  have b1 : xs[i + 1]?.getD 0 < 1000000000 := gx.get (by decide) (i + 1)
  have HV : Hid (((twoV xs i : Nat) : Int) = ((xs[i + 1]?.getD 0 : Nat) : Int) * 1000000000 + (xs[i]?.getD 0 : Nat)) := by
    show ((xs[i]?.getD 0 + 1000000000 * xs[i + 1]?.getD 0 : Nat) : Int) = _
    omega
  have z0 : ¬ i < n → xs[i]?.getD 0 = 0 := fun h => by rw [List.getElem?_eq_none (by have := hx.1; omega)]; rfl
  have z1 : ¬ i + 1 < n → xs[i + 1]?.getD 0 = 0 := fun h => by rw [List.getElem?_eq_none (by have := hx.1; omega)]; rfl
  have c0 : i < n → ∃ b off, p = some ⟨b, off, none⟩ ∧ b < w.heap.size ∧ w.cell? ⟨b, off + i, none⟩ = some (.int .u64 ((xs[i]?.getD 0 : Nat) : Int)) := hx.2 i
  have c1 : i + 1 < n → ∃ b off, p = some ⟨b, off, none⟩ ∧ b < w.heap.size ∧ w.cell? ⟨b, off + (i + 1), none⟩ = some (.int .u64 ((xs[i + 1]?.getD 0 : Nat) : Int)) := hx.2 (i + 1)
  generalize xs[i]?.getD 0 = A at *
  generalize xs[i + 1]?.getD 0 = B at *
  have Z0 := Lib.hid z0
  have Z1 := Lib.hid z1
  have C0 := Lib.hid c0
  have C1 := Lib.hid c1
  clear z0 z1 c0 c1
  go_enter Tryz.func154, Tryz.ntmps154
  go_wp2
  go_loopg [5, 6] 2 (fun gk v5 v6 wr => ∃ (j : Nat), j ≤ 2 ∧ gk = 2 - j ∧ w = wr ∧ v6 = .int .i64 ((i : Int) + 1 - j) ∧ ((j = 0 ∧ v5 = .int .u64 0) ∨ (j = 1 ∧ v5 = .int .u64 (B : Int)) ∨ (j = 2 ∧ v5 = .int .u64 ((B : Int) * 1000000000 + (A : Int)))))
  case atStart => exact ⟨0, by omega, rfl, rfl, by simp, .inl ⟨rfl, rfl⟩⟩
  case round =>
    obtain ⟨j, hj, hgk, hwr, rfl, hv⟩ := hrel
    subst hwr
    have HGK := Lib.hid hgk
    clear hgk
    rcases hv with ⟨rfl, rfl⟩ | ⟨rfl, rfl⟩ | ⟨rfl, rfl⟩
    · by_cases h1 : i + 1 < n
      · obtain ⟨b, off, rfl, hb, hc⟩ := C1.out h1
        go_wp2
        go_roundg 1
        case measure => rw [HGK.out]; omega
        case rel => exact ⟨1, by omega, rfl, rfl, by go_num, .inr (.inl ⟨rfl, by first | exact congrArg (Value.int .u64) (by omega) | rfl⟩)⟩
      · have hB := Z1.out h1
        subst hB
        go_wp2
        go_roundg 1
        case measure => rw [HGK.out]; omega
        case rel => exact ⟨1, by omega, rfl, rfl, by go_num, .inr (.inl ⟨rfl, by first | exact congrArg (Value.int .u64) (by omega) | rfl⟩)⟩
    · by_cases h1 : i < n
      · obtain ⟨b, off, rfl, hb, hc⟩ := C0.out h1
        go_wp2
        go_roundg 0
        case measure => rw [HGK.out]; omega
        case rel => exact ⟨2, by omega, rfl, rfl, by go_num, .inr (.inr ⟨rfl, by first | exact congrArg (Value.int .u64) (by omega) | rfl⟩)⟩
      · have hA := Z0.out h1
        subst hA
        go_wp2
        go_roundg 0
        case measure => rw [HGK.out]; omega
        case rel => exact ⟨2, by omega, rfl, rfl, by go_num, .inr (.inr ⟨rfl, by first | exact congrArg (Value.int .u64) (by omega) | rfl⟩)⟩
    · go_wp2
      go_ret
      exact ⟨ret_int HV.out.symm, rfl⟩

end Go.Proofs.YtimcbmgmngkagaaGreatDoor

namespace Go.Proofs.YtimcbmgmngkagaaGreatDoor
open Go.RowKit

/-- Block B holds these cells. -/
def Blk (W : World) (B : Nat) (cs : Array Value) (t : TypeId) : Prop := W.heap[B]? = some (.cells cs t (0, 0))

theorem Blk.cell {W : World} {B : Nat} {cs : Array Value} {t : TypeId} (h : Blk W B cs t) {i : Nat} {v : Value} (hi : cs[i]? = some v) : W.cell? ⟨B, i, none⟩ = some v := by
  unfold Blk at h; unfold World.cell?; simp only [h]; simpa using hi
theorem Blk.frozen {W : World} {B : Nat} {cs : Array Value} {t : TypeId} (h : Blk W B cs t) (i : Nat) : W.frozen? ⟨B, i, none⟩ = false := by
  unfold Blk at h; unfold World.frozen?; simp [h]
theorem Blk.lt {W : World} {B : Nat} {cs : Array Value} {t : TypeId} (h : Blk W B cs t) : B < W.heap.size := by
  unfold Blk at h; exact (Array.getElem?_eq_some_iff.1 h).1
theorem Blk.new (W : World) (cs : Array Value) (t : TypeId) : Blk (W.alloc (.cells cs t)) W.heap.size cs t := by unfold Blk World.alloc; simp
theorem Blk.new' (W : World) (cs : Array Value) (t : TypeId) {n : Nat} (hn : n = W.heap.size) : Blk (W.alloc (.cells cs t)) n cs t := by subst hn; exact Blk.new W cs t
theorem Blk.alloc {W : World} {B : Nat} {cs : Array Value} {t : TypeId} (h : Blk W B cs t) (o : Obj) : Blk (W.alloc o) B cs t := by
  unfold Blk at h ⊢
  exact ((World.grownBy_alloc W o none).block B (Array.getElem?_eq_some_iff.1 h).1 (by simp)).trans h
theorem Blk.below {W W' : World} {B C : Nat} {cs : Array Value} {t : TypeId} (h : Blk W B cs t) (hb : Below C W W') (hC : B < C) : Blk W' B cs t := by
  unfold Blk at h ⊢; rw [hb.block B hC]; exact h
theorem Blk.kept {W W' : World} {B : Nat} {cs : Array Value} {t : TypeId} (h : Blk W B cs t) (hb : Below W.heap.size W W') : Blk W' B cs t := h.below hb h.lt
theorem Blk.drew {W : World} {B : Nat} {cs : Array Value} {t : TypeId} (h : Blk W B cs t) : Blk W.drew B cs t := h
theorem Blk.set {W : World} {B : Nat} {cs : Array Value} {t : TypeId} (h : Blk W B cs t) (i : Nat) (v : Value) : Blk (W.setCell ⟨B, i, none⟩ v) B (cs.setIfInBounds i v) t := by
  unfold Blk at h ⊢; simp [World.setCell, Array.getElem?_modify, h]
theorem Blk.set_eq {W : World} {B : Nat} {cs cs' : Array Value} {t : TypeId} (h : Blk W B cs t) (i : Nat) (v : Value) (e : cs.setIfInBounds i v = cs') : Blk (W.setCell ⟨B, i, none⟩ v) B cs' t := e ▸ h.set i v
theorem Blk.other {W : World} {B : Nat} {cs : Array Value} {t : TypeId} (h : Blk W B cs t) {C : Nat} (i : Nat) (v : Value) (hne : C ≠ B) : Blk (W.setCell ⟨C, i, none⟩ v) B cs t := by
  unfold Blk at h ⊢
  rw [show (W.setCell ⟨C, i, none⟩ v).heap[B]? = W.heap[B]? by simp only [World.setCell, Array.getElem?_modify]; rw [if_neg hne]]
  exact h

end Go.Proofs.YtimcbmgmngkagaaGreatDoor

namespace Go.Proofs.YtimcbmgmngkagaaGreatDoor
open Go.RowKit

theorem Blk.set4 {W : World} {B : Nat} {a b c d : Value} {t : TypeId} (h : Blk W B #[a, b, c, d] t) (a' b' c' d' : Value) : Blk ((((W.setCell ⟨B, 0, none⟩ a').setCell ⟨B, 1, none⟩ b').setCell ⟨B, 2, none⟩ c').setCell ⟨B, 3, none⟩ d') B #[a', b', c', d'] t :=
  (((h.set_eq 0 a' rfl).set_eq 1 b' rfl).set_eq 2 c' rfl).set_eq 3 d' rfl

/-- What highSteps hands back. -/
def HighOut (X Y : Int) (w : World) (e : Ending) (w' : World) : Prop := ∃ a b c d : Int, e = .returned (.agg #[.int .i64 a, .int .i64 b, .int .i64 c, .int .i64 d]) ∧ ((-1000000000 < a ∧ a < 1000000000) ∧ (-1000000000 < b ∧ b < 1000000000) ∧ (-1000000000 < c ∧ c < 1000000000) ∧ (-1000000000 < d ∧ d < 1000000000)) ∧
  (b ≠ 0 → 0 ≤ c * X + d * Y ∧ c * X + d * Y < a * X + b * Y ∧ a * X + b * Y ≤ Y ∧ Int.gcd (a * X + b * Y) (c * X + d * Y) = Int.gcd X Y) ∧ Below w.heap.size w w'

theorem Leh.out {X Y P Q a b c d p q : Int} (h : Leh X Y P Q a b c d p q) : b ≠ 0 → 0 ≤ c * X + d * Y ∧ c * X + d * Y < a * X + b * Y ∧ a * X + b * Y ≤ Y ∧ Int.gcd (a * X + b * Y) (c * X + d * Y) = Int.gcd X Y := fun hb => by
  rcases h.b0 with ⟨e, _⟩ | ⟨_, h1, h2⟩
  · exact absurd e hb
  · exact ⟨h.y0, h2, h1, h.gc⟩

set_option maxRecDepth 100000 in
set_option maxHeartbeats 4000000 in
theorem highSteps_any (p q : Option Addr) (n m c d : Nat) (xs ys : List Nat) (w : World) (hn3 : 2 ≤ n) (hn : n ≤ 1000000000) (hm : m ≤ 1000000000) (hx : Rd .u64 w p n xs) (hy : Rd .u64 w q m ys) (gx : Cn BW xs) (gy : Cn BW ys) (hle : dv BW ys ≤ dv BW xs) :
    Calls Tryz.prog 115 #[.slice p n c, .slice q m d] w (HighOut (dv BW xs : Nat) (dv BW ys : Nat) w) := by
  obtain ⟨N2, hN2⟩ : ∃ N2, n - 2 = N2 := ⟨_, rfl⟩
  have hi2 : (n : Int) - 2 = (N2 : Int) := by omega
  go_enter Tryz.func115, Tryz.ntmps115
  go_wp2_with fail
  refine (twoWords_any p n c N2 xs _ hn (by omega) (hx.below ((Below.refl _ _).alloc (Nat.le_refl _) _)) gx.1).mono ?_
  rintro e w' ⟨rfl, rfl⟩
  have hP := twoV_lt gx.1 N2
  obtain ⟨P, hPe⟩ : ∃ P, twoV xs N2 = P := ⟨_, rfl⟩
  rw [hPe] at hP ⊢
  go_wp2_with fail
  refine (twoWords_any q m d N2 ys _ hm (by omega) (hy.below ((Below.refl _ _).alloc (Nat.le_refl _) _)) gy.1).mono ?_
  rintro e w' ⟨rfl, rfl⟩
  have hQ := twoV_lt gy.1 N2
  obtain ⟨Q, hQe⟩ : ∃ Q, twoV ys N2 = Q := ⟨_, rfl⟩
  rw [hQe] at hQ ⊢
  go_wp2_with fail
  obtain ⟨X, hX⟩ : ∃ X : Int, ((dv BW xs : Nat) : Int) = X := ⟨_, rfl⟩
  obtain ⟨Y, hY⟩ : ∃ Y : Int, ((dv BW ys : Nat) : Int) = Y := ⟨_, rfl⟩
  have HXE := Lib.hid hX
  have HYE := Lib.hid hY
  have hst : Hid (Leh X Y P Q 1 0 0 1 P Q ∧ ∃ s r u : Int, X = P * s + r ∧ Y = Q * s + u ∧ 0 < s ∧ 0 ≤ r ∧ r < s ∧ 0 ≤ u ∧ u < s ∧ 1 ≤ (P : Int)) := by
    obtain ⟨L1, L2⟩ : xs.length = n ∧ ys.length = m := ⟨hx.1, hy.1⟩
    have hle' : ys.length ≤ n := by
      rcases Nat.lt_or_ge n ys.length with h | h
      · have := Cn.lt_of_length (by decide) gx.1 gy (by omega); omega
      · exact h
    have tw : ∀ zs : List Nat, zs.length ≤ n → twoV zs N2 = dv BW (zs.drop N2) := fun zs hz => by
      rw [twoV_eq, List.take_of_length_le (by rw [List.length_drop]; omega)]
    have hsp : ∀ zs : List Nat, Dg BW zs → zs.length ≤ n → ∃ r : Nat, r < BW ^ N2 ∧ dv BW zs = twoV zs N2 * BW ^ N2 + r := fun zs hz hl => by
      rw [tw zs hl]
      by_cases h : N2 ≤ zs.length
      · refine ⟨dv BW (zs.take N2), ?_, ?_⟩
        · have := dv_lt (hz.take N2)
          rwa [List.length_take, Nat.min_eq_left h] at this
        · rw [dv_take_drop BW zs N2 h]; rw [Nat.mul_comm]; omega
      · refine ⟨dv BW zs, ?_, ?_⟩
        · exact Nat.lt_of_lt_of_le (dv_lt hz) (Nat.pow_le_pow_right (by decide) (by omega))
        · rw [List.drop_of_length_le (by omega)]; simp [dv]
    obtain ⟨r, hr, ex⟩ := hsp xs gx.1 (by omega)
    obtain ⟨u, hu, ey⟩ := hsp ys gy.1 hle'
    rw [hPe] at ex
    rw [hQe] at ey
    have hp : 0 < BW ^ N2 := Nat.pow_pos (by decide)
    have hP1 : 1 ≤ P := by
      have h1 := gx.lower (by intro e; rw [e] at L1; simp at L1; omega)
      have h2 : BW ^ (N2 + 1) ≤ BW ^ (xs.length - 1) := Nat.pow_le_pow_right (by decide) (by omega)
      rw [Nat.pow_succ] at h2
      have h3 : BW ^ N2 * 1 ≤ BW ^ N2 * BW := Nat.mul_le_mul_left _ (by decide)
      rcases Nat.lt_or_ge P 1 with h | h
      · have : P = 0 := by omega
        rw [this] at ex
        omega
      · exact h
    generalize BW ^ N2 = s at *
    have hQP : Q ≤ P := by
      rcases Nat.lt_or_ge P Q with h | h
      · have h1 : (P + 1) * s ≤ Q * s := Nat.mul_le_mul_right _ h
        rw [Nat.add_mul] at h1
        omega
      · exact h
    refine ⟨Leh.start (by omega) (by omega) (by omega) (by omega) (by omega), (s : Int), (r : Int), (u : Int), ?_, ?_, by omega, by omega, by omega, by omega, by omega, by omega⟩
    · rw [← hX, ex]; simp
    · rw [← hY, ey]; simp
  have hb0 : Below w.heap.size w ((w.alloc (Obj.cells #[Value.int IntKind.i64 0, Value.int IntKind.i64 0, Value.int IntKind.i64 0, Value.int IntKind.i64 0] 133)).alloc (Obj.cells #[Value.int IntKind.i64 1, Value.int IntKind.i64 0, Value.int IntKind.i64 0, Value.int IntKind.i64 1] 133)) := ((Below.refl _ w).alloc (Nat.le_refl _) _).alloc (by simp) _
  have bx0 := (Blk.new w #[.int .i64 0, .int .i64 0, .int .i64 0, .int .i64 0] 133).alloc (Obj.cells #[Value.int IntKind.i64 1, Value.int IntKind.i64 0, Value.int IntKind.i64 0, Value.int IntKind.i64 1] 133)
  have bx1 := Blk.new (w.alloc (Obj.cells #[Value.int IntKind.i64 0, Value.int IntKind.i64 0, Value.int IntKind.i64 0, Value.int IntKind.i64 0] 133)) #[.int .i64 1, .int .i64 0, .int .i64 0, .int .i64 1] 133
  rw [World.size_alloc] at bx1
  clear hX hY hPe hQe hx hy gx gy hle hN2 hi2
  go_loopg [5, 6] Q (fun gk v5 v6 wr => ∃ p' q' a b c' d' : Int, gk = q'.toNat ∧ v5 = .int .i64 p' ∧ v6 = .int .i64 q' ∧ Hid (Leh X Y P Q a b c' d' p' q') ∧ Blk wr w.heap.size #[.int .i64 0, .int .i64 0, .int .i64 0, .int .i64 0] 133 ∧ Blk wr (w.heap.size + 1) #[.int .i64 a, .int .i64 b, .int .i64 c', .int .i64 d'] 133 ∧ Below w.heap.size w wr)
  case atStart => exact ⟨P, Q, 1, 0, 0, 1, by simp, rfl, rfl, hst.out.1, bx0, bx1, hb0⟩
  case round =>
    obtain ⟨p', q', a, b, c', d', hgk, rfl, rfl, HL, k0, k1, hb⟩ := hrel
    have HGK := Lib.hid hgk
    clear hgk bx0 bx1 hb0
    obtain ⟨hl1, s, r, u, hX, hY, hs, hr, hr1, hu, hu1, hP1⟩ := hst.out
    have HX := Lib.hid hX
    have HY := Lib.hid hY
    clear hX hY hl1
    obtain ⟨⟨a0, a1⟩, ⟨b0, b1⟩, ⟨c0, c1⟩, ⟨d0, d1⟩, pP, pa, pb⟩ := HL.out.small (by omega) hP1
    have q0 := HL.out.q0
    have qp := HL.out.qp
    have e0 := k1.cell (i := 0) rfl
    have e1 := k1.cell (i := 1) rfl
    have e2 := k1.cell (i := 2) rfl
    have e3 := k1.cell (i := 3) rfl
    have g0 := k1.frozen 0
    have g1 := k1.frozen 1
    have g2 := k1.frozen 2
    have g3 := k1.frozen 3
    have i0 := k0.cell (i := 0) rfl
    have i1 := k0.cell (i := 1) rfl
    have i2 := k0.cell (i := 2) rfl
    have i3 := k0.cell (i := 3) rfl
    have j0 := k0.frozen 0
    have j1 := k0.frozen 1
    have j2 := k0.frozen 2
    have j3 := k0.frozen 3
    by_cases h1 : 0 < q' + c'
    · by_cases h2 : 0 < q' + d'
      · obtain ⟨t, ht⟩ : ∃ t, (p' + a) / (q' + c') = t := ⟨_, rfl⟩
        obtain ⟨t2, ht2⟩ : ∃ t2, (p' + b) / (q' + d') = t2 := ⟨_, rfl⟩
        have tb : 0 ≤ t ∧ t ≤ 2000000000000000000 := by
          rw [← ht]
          exact ⟨Int.ediv_nonneg pa (by omega), Int.le_trans (Int.ediv_le_self _ pa) (by omega)⟩
        have tb2 : 0 ≤ t2 ∧ t2 ≤ 2000000000000000000 := by
          rw [← ht2]
          exact ⟨Int.ediv_nonneg pb (by omega), Int.le_trans (Int.ediv_le_self _ pb) (by omega)⟩
        by_cases h3 : t = t2
        · subst h3
          obtain ⟨hn1, hn2, hn3⟩ := HL.out.next HX.out HY.out hs hr hr1 hu hu1 h1 h2 ht.symm ht2.symm
          obtain ⟨_, _, ⟨x0, x1⟩, ⟨y0, y1⟩, pP', _, _⟩ := hn1.small (by omega) hP1
          have qq := hn1.q0
          obtain ⟨TC, hTC⟩ : ∃ TC, t * c' = TC := ⟨_, rfl⟩
          obtain ⟨TD, hTD⟩ : ∃ TD, t * d' = TD := ⟨_, rfl⟩
          obtain ⟨TQ, hTQ⟩ : ∃ TQ, t * q' = TQ := ⟨_, rfl⟩
          rw [hTC] at x0 x1
          rw [hTD] at y0 y1
          rw [hTQ] at qq hn2
          rw [hTC, hTD, hTQ] at hn1
          have tq0 : 0 ≤ TQ := by rw [← hTQ]; exact Int.mul_nonneg tb.1 q0
          obtain ⟨tb0, tb1⟩ := tb
          have HN := Lib.hid hn1
          have K1 := k1.set4 (.int .i64 c') (.int .i64 d') (.int .i64 (a - TC)) (.int .i64 (b - TD))
          have K0 := (((k0.other (C := w.heap.size + 1) 0 (.int .i64 c') (by omega)).other (C := w.heap.size + 1) 1 (.int .i64 d') (by omega)).other (C := w.heap.size + 1) 2 (.int .i64 (a - TC)) (by omega)).other (C := w.heap.size + 1) 3 (.int .i64 (b - TD)) (by omega)
          clear hn1 tb2
          go_wp2
          go_roundg ((p' - TQ).toNat)
          case measure => rw [HGK.out]; omega
          case rel => exact ⟨q', p' - TQ, c', d', a - TC, b - TD, rfl, rfl, rfl, HN.out, K0, K1, ((((hb.setCell (by simp) _).setCell (by simp) _).setCell (by simp) _).setCell (by simp) _)⟩
        · go_wp2
          have K0 := k0.set4 (.int .i64 a) (.int .i64 b) (.int .i64 c') (.int .i64 d')
          have m0 := K0.cell (i := 0) rfl
          have m1 := K0.cell (i := 1) rfl
          have m2 := K0.cell (i := 2) rfl
          have m3 := K0.cell (i := 3) rfl
          refine bodyPost_ret (v := .agg #[.int .i64 a, .int .i64 b, .int .i64 c', .int .i64 d']) (by simp [results, Tryz.results115, go_sem, m0, m1, m2, m3]) rfl ⟨a, b, c', d', rfl, ⟨⟨a0, a1⟩, ⟨b0, b1⟩, ⟨c0, c1⟩, ⟨d0, d1⟩⟩, by rw [HXE.out, HYE.out]; exact HL.out.out, ?_⟩
          exact ((((hb.setCell (by simp) _).setCell (by simp) _).setCell (by simp) _).setCell (by simp) _)
      · go_wp2
        have K0 := k0.set4 (.int .i64 a) (.int .i64 b) (.int .i64 c') (.int .i64 d')
        have m0 := K0.cell (i := 0) rfl
        have m1 := K0.cell (i := 1) rfl
        have m2 := K0.cell (i := 2) rfl
        have m3 := K0.cell (i := 3) rfl
        refine bodyPost_ret (v := .agg #[.int .i64 a, .int .i64 b, .int .i64 c', .int .i64 d']) (by simp [results, Tryz.results115, go_sem, m0, m1, m2, m3]) rfl ⟨a, b, c', d', rfl, ⟨⟨a0, a1⟩, ⟨b0, b1⟩, ⟨c0, c1⟩, ⟨d0, d1⟩⟩, by rw [HXE.out, HYE.out]; exact HL.out.out, ?_⟩
        exact ((((hb.setCell (by simp) _).setCell (by simp) _).setCell (by simp) _).setCell (by simp) _)
    · go_wp2
      have K0 := k0.set4 (.int .i64 a) (.int .i64 b) (.int .i64 c') (.int .i64 d')
      have m0 := K0.cell (i := 0) rfl
      have m1 := K0.cell (i := 1) rfl
      have m2 := K0.cell (i := 2) rfl
      have m3 := K0.cell (i := 3) rfl
      refine bodyPost_ret (v := .agg #[.int .i64 a, .int .i64 b, .int .i64 c', .int .i64 d']) (by simp [results, Tryz.results115, go_sem, m0, m1, m2, m3]) rfl ⟨a, b, c', d', rfl, ⟨⟨a0, a1⟩, ⟨b0, b1⟩, ⟨c0, c1⟩, ⟨d0, d1⟩⟩, by rw [HXE.out, HYE.out]; exact HL.out.out, ?_⟩
      exact ((((hb.setCell (by simp) _).setCell (by simp) _).setCell (by simp) _).setCell (by simp) _)

end Go.Proofs.YtimcbmgmngkagaaGreatDoor

namespace Go.Proofs.YtimcbmgmngkagaaGreatDoor
open Go.RowKit

/-- One place of combined: what is written, what is carried on. -/
theorem comb_place {s : Int} : ∃ (low : Nat) (c' R : Int), s.tmod 1000000000 = R ∧ (R < 0 → R + 1000000000 = (low : Int)) ∧ (¬ R < 0 → R = (low : Int)) ∧ low < 1000000000 ∧ (low : Int) + BW * c' = s ∧ (s - (low : Int)).tdiv 1000000000 = c' ∧ -1000000000 < R ∧ R < 1000000000 := by
  obtain ⟨low, hlow⟩ : ∃ low : Nat, s % 1000000000 = (low : Int) := ⟨(s % 1000000000).toNat, by omega⟩
  have hR : (0 ≤ s ∧ s.tmod 1000000000 = s % 1000000000) ∨ (s < 0 ∧ s.tmod 1000000000 = -((-s) % 1000000000)) := by
    rcases Int.lt_or_le s 0 with h | h
    · right
      refine ⟨h, ?_⟩
      have e := Int.tmod_eq_emod_of_nonneg (a := -s) (b := 1000000000) (by omega)
      rw [Int.neg_tmod] at e
      omega
    · exact .inl ⟨h, Int.tmod_eq_emod_of_nonneg h⟩
  have hd : (s - (low : Int)).tdiv 1000000000 = s / 1000000000 := by
    have e : s - (low : Int) = 1000000000 * (s / 1000000000) := by omega
    rw [e, Int.mul_tdiv_cancel_left _ (by decide)]
  refine ⟨low, s / 1000000000, s.tmod 1000000000, rfl, ?_, ?_, by omega, ?_, hd, ?_, ?_⟩
  · intro h; omega
  · intro h; omega
  · show (low : Int) + 1000000000 * (s / 1000000000) = s
    omega
  · omega
  · omega

set_option maxRecDepth 100000 in
set_option maxHeartbeats 4000000 in
theorem combined_any (p q : Option Addr) (n m c d : Nat) (xs ys : List Nat) (a b : Int) (w : World) (hn : n ≤ 1000000000) (hm : m ≤ n) (hx : Rd .u64 w p n xs) (hy : Rd .u64 w q m ys) (gx : Dg BW xs) (gy : Dg BW ys) (ha : -1000000000 < a) (ha1 : a < 1000000000) (hb : -1000000000 < b) (hb1 : b < 1000000000)
    (h0 : 0 ≤ a * (dv BW xs : Nat) + b * (dv BW ys : Nat)) (h1 : a * (dv BW xs : Nat) + b * (dv BW ys : Nat) < ((BW ^ n : Nat) : Int)) :
    Calls Tryz.prog 116 #[.slice p n c, .slice q m d, .int .i64 a, .int .i64 b] w (Words w fun zs => (dv BW zs : Int) = a * (dv BW xs : Nat) + b * (dv BW ys : Nat)) := by
  have hmk : ∀ w, (Instr.makeSlice 76 (.int .i64 (n : Int)) (.int .i64 (n : Int))).run Tryz.prog w = .ok (.slice (some ⟨w.heap.size, 0, none⟩) n n) (w.alloc (.cells (Go.madeCells #[.int .u64 0] n) 117)) := fun w => mkWords n (by omega) w
  have hbn : Below w.heap.size w (w.alloc (.cells (Go.madeCells #[.int .u64 0] n) 117)) := (Below.refl _ w).alloc (Nat.le_refl _) _
  have hown0 := Own.new .u64 117 w n
  have H01 := Lib.hid (And.intro h0 h1)
  clear h0 h1
  go_enter Tryz.func116, Tryz.ntmps116
  go_wp2
  go_loopg [10, 19] n (fun gk v10 v19 wr => ∃ (k : Nat) (y : Int) (zs : List Nat), k ≤ n ∧ gk = n - k ∧ -4000000000 ≤ y ∧ y ≤ 4000000000 ∧ v10 = .int .i64 y ∧ v19 = .int .i64 k ∧ Hid (CombI xs ys a b zs k y)
      ∧ Own .u64 117 wr w.heap.size (zs ++ List.replicate (n - k) 0) ∧ Below w.heap.size w wr)
  case atStart => exact ⟨0, 0, [], Nat.zero_le _, rfl, by omega, by omega, rfl, rfl, CombI.start _ _ _ _, hown0, hbn⟩
  case round =>
    obtain ⟨k, y, zs, hk, hgk, y0, y1, rfl, rfl, hz, hown, hbel⟩ := hrel
    have HGK := Lib.hid hgk
    clear hgk
    by_cases hlt : k < n
    · have hki : (k : Int) < (n : Int) := by omega
      obtain ⟨b0, off, rfl, hbl, hcell⟩ := (hx.below hbel).2 k hlt
      have hcz := hown.cell k (by have := hz.out.1; simp; omega)
      have hfz := hown.frozen k
      obtain ⟨u, hu⟩ : ∃ u, xs[k]?.getD 0 = u := ⟨_, rfl⟩
      obtain ⟨v, hv⟩ : ∃ v, ys[k]?.getD 0 = v := ⟨_, rfl⟩
      have u9 : u < 1000000000 := by rw [← hu]; exact gx.get (by decide) k
      have v9 : v < 1000000000 := by rw [← hv]; exact gy.get (by decide) k
      obtain ⟨⟨p0, p1⟩, q0, q1⟩ := comb_bound ha ha1 hb hb1 (show (0 : Int) ≤ u by omega) (show (u : Int) < 1000000000 by omega) (show (0 : Int) ≤ v by omega) (show (v : Int) < 1000000000 by omega)
      obtain ⟨P, hP⟩ : ∃ P, a * (u : Int) = P := ⟨_, rfl⟩
      obtain ⟨Q, hQ⟩ : ∃ Q, b * (v : Int) = Q := ⟨_, rfl⟩
      rw [hP] at p0 p1
      rw [hQ] at q0 q1
      rw [hu] at hcell
      obtain ⟨s, hs⟩ : ∃ s, y + P + Q = s := ⟨_, rfl⟩
      have hst := fun (low : Nat) (c' : Int) h1 h2 => hz.out.step (s := s) (low := low) (c' := c') (by rw [hu, hv, hP, hQ]; exact hs.symm) h1 h2
      obtain ⟨low, c', R, hR, hRn, hRp, hl9, hlc, hcd, r0, r1⟩ := comb_place (s := s)
      have HST := Lib.hid (hst low c' hlc hl9)
      have hlc' : (low : Int) + 1000000000 * c' = s := hlc
      have cb0 : -4000000000 ≤ c' := by omega
      have cb1 : c' ≤ 4000000000 := by omega
      have hsl0 : -9000000000000000000 ≤ s - (low : Int) := by omega
      have hsl1 : s - (low : Int) ≤ 9000000000000000000 := by omega
      clear hst hlc hlc'
      have HP := Lib.hid hP
      have HQ := Lib.hid hQ
      have HU := Lib.hid hu
      have HV := Lib.hid hv
      by_cases hkm : k < m
      · have hkmi : (k : Int) < (m : Int) := by omega
        obtain ⟨b2, off2, rfl, hbl2, hcell2⟩ := (hy.below hbel).2 k hkm
        rw [hv] at hcell2
        clear hu hv
        by_cases hn0 : R < 0
        · have hRl := hRn hn0
          clear hRn hRp
          go_wp2
          go_roundg (n - (k + 1))
          case measure => rw [HGK.out]; omega
          case rel => exact ⟨k + 1, c', zs ++ [low], by omega, rfl, cb0, cb1, rfl, by go_num, HST.out, by have z1 := hz.out.1; subst z1; exact hown.fill (by omega) _ rfl _, hbel.setCell (by simp) _⟩
        · have hRl := hRp hn0
          clear hRn hRp
          go_wp2
          go_roundg (n - (k + 1))
          case measure => rw [HGK.out]; omega
          case rel => exact ⟨k + 1, c', zs ++ [low], by omega, rfl, cb0, cb1, rfl, by go_num, HST.out, by have z1 := hz.out.1; subst z1; exact hown.fill (by omega) _ rfl _, hbel.setCell (by simp) _⟩
      · have hkmi : ¬ (k : Int) < (m : Int) := by omega
        have hv0 : v = 0 := by rw [← hv, List.getElem?_eq_none (by have := hy.1; omega)]; rfl
        have hQ0 : Q = 0 := by rw [← HQ.out, hv0]; simp
        have hs' : y + P = s := by omega
        clear hu hv hs hQ hv0 hQ0 q0 q1
        by_cases hn0 : R < 0
        · have hRl := hRn hn0
          clear hRn hRp
          go_wp2
          go_roundg (n - (k + 1))
          case measure => rw [HGK.out]; omega
          case rel => exact ⟨k + 1, c', zs ++ [low], by omega, rfl, cb0, cb1, rfl, by go_num, HST.out, by have z1 := hz.out.1; subst z1; exact hown.fill (by omega) _ rfl _, hbel.setCell (by simp) _⟩
        · have hRl := hRp hn0
          clear hRn hRp
          go_wp2
          go_roundg (n - (k + 1))
          case measure => rw [HGK.out]; omega
          case rel => exact ⟨k + 1, c', zs ++ [low], by omega, rfl, cb0, cb1, rfl, by go_num, HST.out, by have z1 := hz.out.1; subst z1; exact hown.fill (by omega) _ rfl _, hbel.setCell (by simp) _⟩
    · have hki : ¬ (k : Int) < (n : Int) := by omega
      obtain rfl : k = n := by omega
      have hz1 := hz.out.1
      have hown2 : Own .u64 117 wr w.heap.size zs := by simpa using hown
      go_wp2_with (go_at_call 147; refine (trimmed_any _ _ _ zs _ (by unfold maxLen; omega) (Nat.le_refl _) (hown2.rd hz1)).mono ?_; rintro e w' ⟨rfl, rfl⟩)
      go_ret
      have hd := hz.out.done (by rw [hx.1]; exact Nat.le_refl _) (by rw [hy.1]; exact hm) H01.out.1 H01.out.2
      have z2 := hz.out.2.1
      have g1 : trimLen zs k ≤ k := trimLen_le _ _
      refine ⟨_, _, _, trimZ zs, rfl, ?_, Nat.le_refl _, trimZ_cn z2, ?_, hbel⟩
      · unfold trimZ; rw [hz1]; exact (hown2.rd hz1).take _ g1
      · show ((dv BW (trimZ _) : Nat) : Int) = _
        rw [dv_trimZ]; exact hd

end Go.Proofs.YtimcbmgmngkagaaGreatDoor

namespace Go.Proofs.YtimcbmgmngkagaaGreatDoor
open Go.RowKit

theorem small_two {xs : List Nat} (h : xs.length ≤ 2) : twoV xs 0 = dv BW xs := by
  rw [twoV_eq, List.drop_zero, List.take_of_length_le h]

theorem two_back (a : Nat) : dv BW [a % BW, a / BW] = a := by
  have := Nat.mod_add_div a BW
  simp only [dv]
  omega

set_option maxHeartbeats 2000000 in
theorem smallDivisor_any (p q : Option Addr) (n m c d : Nat) (xs ys : List Nat) (w : World) (hn : n ≤ 2) (hm : m ≤ 2) (hx : Rd .u64 w p n xs) (hy : Rd .u64 w q m ys) (gx : Dg BW xs) (gy : Dg BW ys) :
    Calls Tryz.prog 117 #[.slice p n c, .slice q m d] w (Words w fun zs => dv BW zs = Nat.gcd (dv BW xs) (dv BW ys)) := by
  obtain ⟨X, hXE⟩ : ∃ X, dv BW xs = X := ⟨_, rfl⟩
  obtain ⟨Y, hYE⟩ : ∃ Y, dv BW ys = Y := ⟨_, rfl⟩
  have hX : twoV xs 0 = X := (small_two (by rw [hx.1]; exact hn)).trans hXE
  have hY : twoV ys 0 = Y := (small_two (by rw [hy.1]; exact hm)).trans hYE
  have hX9 := twoV_lt gx 0
  have hY9 := twoV_lt gy 0
  rw [hX] at hX9
  rw [hY] at hY9
  have HX := Lib.hid hX
  have HY := Lib.hid hY
  have HXE := Lib.hid hXE
  have HYE := Lib.hid hYE
  clear hX hY hXE hYE
  go_enter Tryz.func117, Tryz.ntmps117
  go_wp2_with fail
  refine (twoWords_any p n c 0 xs _ (by omega) (by omega) hx gx).mono ?_
  rintro e w' ⟨rfl, rfl⟩
  rw [HX.out]
  go_wp2_with fail
  refine (twoWords_any q m d 0 ys _ (by omega) (by omega) hy gy).mono ?_
  rintro e w' ⟨rfl, rfl⟩
  rw [HY.out]
  go_wp2_with fail
  go_loopg [5, 6] Y (fun gk v5 v6 wr => ∃ (a b : Nat), gk = b ∧ v5 = .int .u64 (a : Int) ∧ v6 = .int .u64 (b : Int) ∧ a < 1000000000000000000 ∧ b < 1000000000000000000 ∧ Hid (Nat.gcd a b = Nat.gcd X Y) ∧ Below w.heap.size w wr)
  case atStart => exact ⟨X, Y, rfl, rfl, rfl, hX9, hY9, rfl, Below.refl _ _⟩
  case round =>
    obtain ⟨a, b, hgk, rfl, rfl, ha9, hb9, HG, hb⟩ := hrel
    have HGK := Lib.hid hgk
    clear hgk
    by_cases h0 : 0 < b
    · have h0i : (0 : Int) < (b : Int) := by omega
      have h0n : ¬ (b : Int) = 0 := by omega
      obtain ⟨R, hR⟩ : ∃ R, a % b = R := ⟨_, rfl⟩
      have hRb : R < b := by rw [← hR]; exact Nat.mod_lt _ h0
      have hRi : (a : Int) % (b : Int) = (R : Int) := by rw [← hR]; simp
      have HR := Lib.hid hR
      clear hR
      go_wp2_with fail
      go_quiet (fail)
      go_wp2_with fail
      go_roundg R
      case measure => rw [HGK.out]; exact hRb
      case rel => exact ⟨b, R, rfl, rfl, by first | rfl | exact congrArg (Value.int .u64) hRi, hb9, by omega, by show Nat.gcd b R = _; rw [← HG.out, ← HR.out, Nat.gcd_comm a b, Nat.gcd_rec b a, Nat.gcd_comm], by first | exact hb | exact below_drewN hb _⟩
    · obtain rfl : b = 0 := by omega
      obtain ⟨L, hL⟩ : ∃ L, a % BW = L := ⟨_, rfl⟩
      obtain ⟨H, hH⟩ : ∃ H, a / BW = H := ⟨_, rfl⟩
      have hL' : a % 1000000000 = L := hL
      have hH' : a / 1000000000 = H := hH
      have hLi : (a : Int) % 1000000000 = (L : Int) := by omega
      have hHi : (a : Int) / 1000000000 = (H : Int) := by omega
      have H9 : H < 1000000000 := by omega
      have L9 : L < 1000000000 := by omega
      have HL := Lib.hid hL
      have HH := Lib.hid hH
      clear hL hH hL' hH'
      have hbn : Below w.heap.size w (wr.alloc (.cells #[.int .u64 (L : Int), .int .u64 (H : Int)] 117)) := hb.alloc hb.size _
      have how : Own .u64 117 (wr.alloc (.cells #[.int .u64 (L : Int), .int .u64 (H : Int)] 117)) wr.heap.size [L, H] := Blk.new wr _ _
      have gd : Dg BW [L, H] := Dg.cons L9 (Dg.cons H9 (Dg.nil _))
      have hdv : dv BW [L, H] = a := by rw [← HL.out, ← HH.out]; exact two_back a
      have HD := Lib.hid hdv
      clear hdv
      go_wp2_with fail
      refine (trimmed_any _ 2 2 [L, H] _ (by unfold maxLen; omega) (Nat.le_refl _) (how.rd rfl)).mono ?_
      rintro e w' ⟨rfl, rfl⟩
      go_wp2_with fail
      go_ret
      refine ⟨_, _, _, trimZ [L, H], rfl, ?_, Nat.le_refl _, trimZ_cn gd, ?_, hbn⟩
      · unfold trimZ; exact (how.rd rfl).take _ (trimLen_le _ _)
      · show dv BW (trimZ _) = _
        rw [dv_trimZ, HD.out, HXE.out, HYE.out, ← HG.out, Nat.gcd_zero_right]

end Go.Proofs.YtimcbmgmngkagaaGreatDoor

namespace Go.Proofs.YtimcbmgmngkagaaGreatDoor
open Go.RowKit
attribute [local go_sem] Oper.semAt_some

/-- Two numbers of words that the loop of divisor goes on with. -/
def Pair2 (G : Nat) (w0 : World) (v0 v1 : Value) (g : Nat) (w : World) : Prop := ∃ p n c xs q m d ys, v0 = .slice p n c ∧ v1 = .slice q m d ∧ n ≤ 1000000 ∧ m ≤ 1000000 ∧ n ≤ c ∧ m ≤ d ∧ Rd .u64 w p n xs ∧ Rd .u64 w q m ys ∧ Hid (Cn BW xs ∧ Cn BW ys ∧ dv BW ys ≤ dv BW xs ∧ Nat.gcd (dv BW xs) (dv BW ys) = G ∧ g = dv BW xs + dv BW ys) ∧ Below w0.heap.size w0 w

set_option maxRecDepth 100000 in
set_option maxHeartbeats 4000000 in
theorem divisor_any (p q : Option Addr) (n m c d : Nat) (xs ys : List Nat) (w : World) (hn : n ≤ 1000000) (hm : m ≤ 1000000) (hc : n ≤ c) (hd : m ≤ d) (hx : Rd .u64 w p n xs) (hy : Rd .u64 w q m ys) (gx : Cn BW xs) (gy : Cn BW ys) :
    Calls Tryz.prog 70 #[.slice p n c, .slice q m d] w (Words w fun zs => dv BW zs = Nat.gcd (dv BW xs) (dv BW ys)) := by
  obtain ⟨G, hG⟩ : ∃ G, Nat.gcd (dv BW xs) (dv BW ys) = G := ⟨_, rfl⟩
  rw [hG]
  go_enter Tryz.func70, Tryz.ntmps70
  go_wp2_with fail
  refine (compareWords_any p q n c m d xs ys _ (by omega) (by omega) hx hy gx gy).mono ?_
  rintro e w1 ⟨rfl, hb1⟩
  have hx1 := hx.below hb1
  have hy1 := hy.below hb1
  clear hx hy
  have HG := Lib.hid hG
  clear hG
  go_upto_if 11 with fail
  go_cut [0, 1] from 10 to 13 (fun v0 v1 wx => ∃ g, Pair2 G w v0 v1 g wx)
  case first =>
    by_cases hlt : dv BW xs < dv BW ys
    · have hs : sgnCmp ((dv BW xs : Nat) : Int) ((dv BW ys : Nat) : Int) = -1 := by unfold sgnCmp; rw [if_pos (by omega)]
      rw [hs]
      go_wp2_with fail
      go_meet
      case rel => exact ⟨_, q, m, d, ys, p, n, c, xs, rfl, rfl, hm, hn, hd, hc, hy1, hx1, ⟨gy, gx, Nat.le_of_lt hlt, by rw [Nat.gcd_comm]; exact HG.out, rfl⟩, hb1⟩
    · have hs : ¬ sgnCmp ((dv BW xs : Nat) : Int) ((dv BW ys : Nat) : Int) < 0 := by unfold sgnCmp; rw [if_neg (by omega)]; split <;> omega
      go_wp2_with fail
      go_meet
      case rel => exact ⟨_, p, n, c, xs, q, m, d, ys, rfl, rfl, hn, hm, hc, hd, hx1, hy1, ⟨gx, gy, by omega, HG.out, rfl⟩, hb1⟩
  case rest =>
    obtain ⟨g0, hcut⟩ := hcut
    clear hx1 hy1 hb1 gx gy hn hm hc hd
    have HC := Lib.hid hcut
    clear hcut
    go_wp2_with fail
    go_loopg [0, 1] g0 (fun gk v0 v1 wr => Pair2 G w v0 v1 gk wr)
    case atStart => exact HC.out
    case round =>
      obtain ⟨p, n, c, xs, q, m, d, ys, rfl, rfl, hn, hm, hc, hd, hx, hy, HI, hb⟩ := hrel
      clear HC
      by_cases h2 : 2 < n
      · have h2i : (2 : Int) < (n : Int) := by omega
        by_cases hm0 : m = 0
        · subst hm0
          go_wp2_with fail
          go_ret
          have hy0 : ys = [] := List.length_eq_zero_iff.1 hy.1
          exact ⟨p, n, c, xs, rfl, hx, hc, HI.out.1, by have := HI.out.2.2.2.1; rw [hy0] at this; rw [← this]; exact (Nat.gcd_zero_right _).symm, hb⟩
        · have hm0i : ¬ (m : Int) = 0 := by omega
          have hm0n : ¬ m = 0 := hm0
          have hyp : 0 < dv BW ys := HI.out.2.1.pos (by decide) (by intro e; have := hy.1; rw [e] at this; simp at this; omega)
          go_wp2_with fail
          refine (highSteps_any p q n m c d xs ys _ (by omega) (by omega) (by omega) hx hy HI.out.1 HI.out.2.1 HI.out.2.2.1).mono ?_
          rintro e w2 ⟨a, b, c', d', rfl, ⟨⟨a0, a1⟩, ⟨b0, b1⟩, ⟨c0, c1⟩, ⟨d0, d1⟩⟩, HH, hb2⟩
          have HHH := Lib.hid HH
          clear HH
          obtain ⟨w3, hw3⟩ : ∃ w3, (w2.alloc (.cells #[.int .i64 a, .int .i64 b, .int .i64 c', .int .i64 d'] 133)) = w3 := ⟨_, rfl⟩
          have k0 : Blk w3 w2.heap.size #[.int .i64 a, .int .i64 b, .int .i64 c', .int .i64 d'] 133 := by rw [← hw3]; exact Blk.new w2 _ _
          have hb3 : Below wr.heap.size wr w3 := by rw [← hw3]; exact hb2.alloc hb2.size _
          have hx3 := hx.below hb3
          have hy3 := hy.below hb3
          have hbw3 := hb.trans (hb3.mono hb.size)
          by_cases hb0 : b = 0
          · subst hb0
            have f1 := k0.cell (i := 1) rfl
            go_wp2_with fail
            refine (divideWords_any p q n c m d xs ys _ hn hm hc hd hx3 hy3 HI.out.1 HI.out.2.1 hyp).mono ?_
            rintro e w4 ⟨p1, n1, e1, qs, q1, m1, f1, rs, rfl, hq1, hqc, hqn, hr1, hrc, hrn, hqr, hlt, hb4⟩
            have HQ := Lib.hid hqr
            clear hqr
            go_wp2_with fail
            go_roundg (dv BW ys + dv BW rs)
            case measure => have h1 := HI.out.2.2.2.2; have h2 := HI.out.2.2.1; omega
            case rel => exact ⟨q, m, d, ys, q1, m1, f1, rs, rfl, rfl, hm, by have := hrn.length_le (b := BW) (by decide) (m := m) (by have := dv_lt HI.out.2.1.1; rw [hy.1] at this; omega); have := hr1.1; omega, hd, hrc, hy3.below hb4, hr1, ⟨HI.out.2.1, hrn, Nat.le_of_lt hlt, by rw [← HI.out.2.2.2.1, HQ.out, Nat.add_comm, Nat.mul_comm, Nat.gcd_add_mul_left_left, Nat.gcd_comm], rfl⟩, hbw3.trans (hb4.mono hbw3.size)⟩
          · obtain ⟨z0, z1, z2, z3⟩ := HHH.out hb0
            have f1 := k0.cell (i := 1) rfl
            have HZ := Lib.hid z3
            clear z3
            have e0 : w3.drew.cell? _ = _ := k0.cell (i := 0) rfl
            have e1 : w3.drew.cell? _ = _ := k0.cell (i := 1) rfl
            have e2 : w3.drew.cell? _ = _ := k0.cell (i := 2) rfl
            have e3 : w3.drew.cell? _ = _ := k0.cell (i := 3) rfl
            have lx : dv BW xs < BW ^ n := by have := dv_lt HI.out.1.1; rwa [hx.1] at this
            have lmn : m ≤ n := by
              rcases Nat.lt_or_ge n m with h | h
              · have := Cn.lt_of_length (b := BW) (by decide) HI.out.1.1 HI.out.2.1 (by rw [hx.1, hy.1]; exact h)
                have := HI.out.2.2.1
                omega
              · exact h
            have lxi : ((dv BW xs : Nat) : Int) < ((BW ^ n : Nat) : Int) := Int.ofNat_lt.2 lx
            have lyx : ((dv BW ys : Nat) : Int) ≤ ((dv BW xs : Nat) : Int) := Int.ofNat_le.2 HI.out.2.2.1
            have C1 := Lib.hid (fun W (hW : Below w3.heap.size w3 W) => combined_any p q n m c d xs ys a b W (by omega) lmn (hx3.below hW) (hy3.below hW) HI.out.1.1 HI.out.2.1.1 a0 a1 b0 b1 (by omega) (by omega))
            have C2 := Lib.hid (fun W (hW : Below w3.heap.size w3 W) => combined_any p q n m c d xs ys c' d' W (by omega) lmn (hx3.below hW) (hy3.below hW) HI.out.1.1 HI.out.2.1.1 c0 c1 d0 d1 z0 (by omega))
            clear lxi lyx lx lmn
            go_wp2_with fail
            go_region_held3 (fun w' => w'.cell? ⟨w2.heap.size, 0, none⟩ = some (.int .i64 a) ∧ w'.cell? ⟨w2.heap.size, 1, none⟩ = some (.int .i64 b) ∧ w'.cell? ⟨w2.heap.size, 2, none⟩ = some (.int .i64 c') ∧ w'.cell? ⟨w2.heap.size, 3, none⟩ = some (.int .i64 d'))
              ((first | exact ⟨e0, e1, e2, e3⟩ | exact ⟨i0, i1, i2, i3⟩ | exact ⟨j0, j1, j2, j3⟩))
              (first
                | (go_at_call 116; (with_reducible refine (C1.out _ (Below.refl _ _).drew).mono ?_); rintro e w5 ⟨p5, n5, c5, zs5, rfl, hr5, hc5, hz5, hv5, hb5⟩; have hbD : Below w3.heap.size w3 w5 := (Below.refl w3.heap.size w3).drew.trans hb5; have i0 := cell_call (W := w3.drew) hb5 e0; have i1 := cell_call (W := w3.drew) hb5 e1; have i2 := cell_call (W := w3.drew) hb5 e2; have i3 := cell_call (W := w3.drew) hb5 e3)
                | (go_at_call 116; (with_reducible refine (C2.out _ hbD).mono ?_); rintro e w6 ⟨p6, n6, c6, zs6, rfl, hr6, hc6, hz6, hv6, hb6⟩; have j0 := cell_call hb6 i0; have j1 := cell_call hb6 i1; have j2 := cell_call hb6 i2; have j3 := cell_call hb6 i3))
            go_wp2_with fail
            have hbE := hbD.trans (hb6.mono hbD.size)
            have e5 : n5 ≤ n := by
              have h1 := hz5.length_le (b := BW) (by decide) (m := n) (by
                have h2 := dv_lt HI.out.1.1
                rw [hx.1] at h2
                have h3 := HI.out.2.2.1
                omega)
              rw [hr5.1] at h1; exact h1
            have e6 : n6 ≤ n := by
              have h1 := hz6.length_le (b := BW) (by decide) (m := n) (by
                have h2 := dv_lt HI.out.1.1
                rw [hx.1] at h2
                have h3 := HI.out.2.2.1
                omega)
              rw [hr6.1] at h1; exact h1
            go_roundg (dv BW zs5 + dv BW zs6)
            case measure => have h1 := HI.out.2.2.2.2; have h2 := HI.out.2.2.1; omega
            case rel => exact ⟨p5, n5, c5, zs5, p6, n6, c6, zs6, rfl, rfl, by omega, by omega, hc5, hc6, hr5.below hb6, hr6, ⟨hz5, hz6, by omega, by have h1 := HZ.out; rw [← hv5, ← hv6] at h1; rw [← HI.out.2.2.2.1]; exact h1, rfl⟩, hbw3.trans (hbE.mono hbw3.size)⟩
      · have h2i : ¬ (2 : Int) < (n : Int) := by omega
        have hmn : m ≤ 2 := by
          rcases Nat.lt_or_ge n m with h | h
          · have := Cn.lt_of_length (b := BW) (by decide) HI.out.1.1 HI.out.2.1 (by rw [hx.1, hy.1]; exact h)
            have := HI.out.2.2.1
            omega
          · omega
        go_wp2_with fail
        refine (smallDivisor_any p q n m c d xs ys _ (by omega) hmn hx hy HI.out.1.1 HI.out.2.1.1).mono ?_
        rintro e w2 ⟨p5, n5, c5, zs5, rfl, hr5, hc5, hz5, hv5, hb5⟩
        have hbF := hb.trans (hb5.mono hb.size)
        go_wp2_with fail
        go_ret
        exact ⟨p5, n5, c5, zs5, rfl, hr5, hc5, hz5, by show dv BW zs5 = G; rw [hv5]; exact HI.out.2.2.2.1, hbF⟩

end Go.Proofs.YtimcbmgmngkagaaGreatDoor

namespace Go.Proofs.YtimcbmgmngkagaaGreatDoor
open Go.RowKit

theorem gcd_small {x y : Int} {M : Nat} (hx : x.natAbs < M) (hy : y.natAbs < M) : Nat.gcd x.natAbs y.natAbs < M := by
  rcases Nat.eq_zero_or_pos x.natAbs with h | h
  · rw [h, Nat.gcd_zero_left]; exact hy
  · exact Nat.lt_of_le_of_lt (Nat.gcd_le_left _ h) hx

set_option maxHeartbeats 2000000 in
theorem gcd_ok (s t : ByteArray) (w : World) (hs : s.size ≤ maxLen) (ht : t.size ≤ maxLen) (h1 : numB s.data.toList = true) (h2 : numB t.data.toList = true) (htab : Tab w) :
    Calls Tryz.prog 14 #[.string s, .string t] w (ApiIs w true ((Int.gcd (strV s.data.toList) (strV t.data.toList) : Nat) : Int)) := by
  go_enter Tryz.func14, Tryz.ntmps14
  go_wp2_with fail
  refine (pair_ok s t _ hs ht h1 h2).mono ?_
  rintro e w1 ⟨a, p, n, c, xs, b, q, m, d, ys, rfl, hx, hy, hb1⟩
  have hbA : Below w1.heap.size w1 ((w1.alloc (.cells #[.bool a, .slice p n c] 78)).alloc (.cells #[.bool b, .slice q m d] 78)) := (((Below.refl _ _).alloc (Nat.le_refl _) _).alloc (by simp) _)
  have hbW := hb1.trans (hbA.mono hb1.size)
  have hxA := hx.below hbA
  have hyA := hy.below hbA
  have B1 := (pair_boxes (W := w1) (.bool a) (.slice p n c) (.bool b) (.slice q m d) 78).1
  have B2 := (pair_boxes (W := w1) (.bool a) (.slice p n c) (.bool b) (.slice q m d) 78).2
  go_wp2_with fail
  refine (divisor_any p q n m c d xs ys _ (Nat.le_trans hx.len (by omega)) (Nat.le_trans hy.len (by omega)) hx.cap hy.cap hxA.rd hyA.rd hx.cn hy.cn).mono ?_
  rintro e w2 ⟨p2, n2, c2, zs, rfl, hr2, hc2, hz2, hv2, hb2⟩
  have hbX := hbW.trans (hb2.mono hbW.size)
  have hv : ((Int.gcd (strV s.data.toList) (strV t.data.toList) : Nat) : Int) = sv false (dv BW zs) := by
    show _ = ((dv BW zs : Nat) : Int)
    have e1 := sv_natAbs a (dv BW xs)
    have e2 := sv_natAbs b (dv BW ys)
    rw [← hx.val] at e1
    rw [← hy.val] at e2
    rw [hv2, ← e1, ← e2]
    rfl
  have hnum : NumIs w2 false p2 n2 c2 zs ((Int.gcd (strV s.data.toList) (strV t.data.toList) : Nat) : Int) 223 := NumIs.mk' hr2 hc2 hz2 (by intro h; cases h) hv.symm (by
    rw [Int.natAbs_natCast]
    exact gcd_small hx.small hy.small)
  have HN := Lib.hid hnum
  clear hv hnum hv2
  go_wp2_with fail
  refine (written_any _ _ _ _ _ _ _ _ HN.out (by omega) (htab.below hbX)).mono ?_
  rintro e w3 ⟨rfl, hb3⟩
  go_wp2_with fail
  go_ret2
  exact ⟨rfl, hbX.trans (hb3.mono hbX.size)⟩

set_option maxHeartbeats 1000000 in
theorem gcd_bad (s t : ByteArray) (w : World) (hs : s.size ≤ maxLen) (ht : t.size ≤ maxLen) (h : (numB s.data.toList && numB t.data.toList) = false) (z : Int) :
    Calls Tryz.prog 14 #[.string s, .string t] w (ApiIs w false z) := by
  go_enter Tryz.func14, Tryz.ntmps14
  go_wp2_with (go_at_call 66; refine (pair_bad s t _ hs ht h).mono ?_; rintro e w1 ⟨rfl, hb1⟩)
  go_ret2
  exact ⟨rfl, (hb1.alloc hb1.size _).alloc (by have := hb1.size; simp; omega) _⟩

theorem num_bound {l : List UInt8} (h : numB l = true) : ∃ k, k = 2000 ∧ (strV l).natAbs < 10 ^ k := by
  refine ⟨2000, rfl, ?_⟩
  generalize hk : (2000 : Nat) = k
  unfold numB plainB at h
  simp only [Bool.and_eq_true, decide_eq_true_eq] at h
  have h1 := decV_lt _ h.1.1.2
  have h3 : (10 : Nat) ^ (digitsOf l).length ≤ 10 ^ k := Nat.pow_le_pow_right (by decide) (by omega)
  have h4 : (strV l).natAbs = decV (digitsOf l) := by unfold strV; split <;> simp
  rw [h4]
  exact Nat.lt_of_lt_of_le h1 h3

end Go.Proofs.YtimcbmgmngkagaaGreatDoor
