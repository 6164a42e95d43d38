/-
  A sorted list without its equal neighbours: plain; Where three planes meet, and the order of points along a line: plain; Package point: where three planes meet; Package line: the iterator over the points in which planes meet a line; The library's sort at slices of spokeshave/api.Point: its functions lie in this program as the library's contract has them.
-/
import Derived.Test.YtimkeblcdodfmaaGreatProg
import Derived.Shelf.SlSortCmp.WholeK
import Derived.Test.YtimkeblcdodfmaaGreatK1
import Derived.Test.YtimkeblcdodfmaaGreatK2
import Derived.Test.YtimkeblcdodfmaaGreatK3
import Derived.Test.YtimkeblcdodfmaaGreatK4
import Derived.Test.YtimkeblcdodfmaaGreatK5
import Derived.Test.YtimkeblcdodfmaaGreatK6
import Derived.Test.YtimkeblcdodfmaaGreatK7
import Derived.Test.YtimkeblcdodfmaaGreatK8
import Derived.Test.YtimkeblcdodfmaaGreatK9
import Derived.Test.YtimkeblcdodfmaaGreatK16
import Derived.Test.YtimkeblcdodfmaaGreatK17
import Derived.Test.YtimkeblcdodfmaaGreatK18
import Derived.Test.YtimkeblcdodfmaaGreatK19
import Derived.Test.YtimkeblcdodfmaaGreatK20
namespace Go.Proofs.YtimkeblcdodfmaaGreat
open Go.RowKit

/-- An order of four numbers. -/
structure Ord4 (Ok : V4 → Prop) (cf : V4 → V4 → Int) : Prop where
  irr : ∀ x, Ok x → ¬ cf x x < 0
  tr : ∀ x y z, Ok x → Ok y → Ok z → cf x y < 0 → cf y z < 0 → cf x z < 0
  tri : ∀ x y, Ok x → Ok y → cf x y < 0 ∨ x = y ∨ cf y x < 0
theorem Ord4.asym {Ok : V4 → Prop} {cf : V4 → V4 → Int} (h : Ord4 Ok cf) {x y : V4} (hx : Ok x) (hy : Ok y) (h1 : cf x y < 0) : ¬ cf y x < 0 := fun h2 => h.irr x hx (h.tr x y x hx hy hx h1 h2)
theorem Ord4.nt {Ok : V4 → Prop} {cf : V4 → V4 → Int} (h : Ord4 Ok cf) (x y z : V4) (hx : Ok x) (hy : Ok y) (hz : Ok z) (h1 : ¬ cf x y < 0) (h2 : ¬ cf y z < 0) : ¬ cf x z < 0 := by
  intro h3
  rcases h.tri x y hx hy with a | a | a
  · exact h1 a
  · subst a; exact h2 h3
  · rcases h.tri y z hy hz with b | b | b
    · exact h2 b
    · subst b; exact h1 h3
    · exact h.asym hx hz h3 (h.tr z y x hz hy hx b a)

theorem kept_sorted {Ok : V4 → Prop} {cf : V4 → V4 → Int} (ho : Ord4 Ok cf) {l : List V4} (hl : ∀ q ∈ l, Ok q) (hs : ∀ (i j : Nat) (hi : i < j) (hj : j < l.length), ¬ cf l[j] l[i] < 0) :
    ∀ m, m ≤ l.length → (keptV l m).Pairwise (fun x y => cf x y < 0) ∧ (∀ x ∈ keptV l m, ∃ i, i < m ∧ l[i]? = some x) ∧ ∀ i, i < m → ∀ x, l[i]? = some x → x ∈ keptV l m := by
  have hs' : ∀ (i j : Nat) (x y : V4), i < j → l[i]? = some x → l[j]? = some y → ¬ cf y x < 0 := by
    intro i j x y hij hx hy
    obtain ⟨hi1, rfl⟩ := List.getElem?_eq_some_iff.1 hx
    obtain ⟨hj1, rfl⟩ := List.getElem?_eq_some_iff.1 hy
    exact hs i j hij hj1
  have hok : ∀ i x, l[i]? = some x → Ok x := fun i x h => hl x (List.mem_of_getElem? h)
  intro m
  induction m with
  | zero => intro _; exact ⟨List.Pairwise.nil, fun x h => by simp [keptV] at h, fun i hi => absurd hi (by omega)⟩
  | succ m ih =>
    intro hm
    obtain ⟨h1, h2, h3⟩ := ih (by omega)
    obtain ⟨q, hq⟩ : ∃ q, l[m]? = some q := ⟨_, List.getElem?_eq_getElem (by omega)⟩
    rw [keptV, hq]
    simp only
    by_cases hc : m ≠ 0 ∧ l[m - 1]? = some q
    · rw [if_pos hc]
      refine ⟨h1, fun x hx => ?_, fun i hi x hx => ?_⟩
      · obtain ⟨i, hi, he⟩ := h2 x hx; exact ⟨i, by omega, he⟩
      · by_cases him : i = m
        · subst him
          rw [hq] at hx
          cases hx
          exact h3 (i - 1) (by omega) q hc.2
        · exact h3 i (by omega) x hx
    · rw [if_neg hc]
      refine ⟨?_, fun x hx => ?_, fun i hi x hx => ?_⟩
      · rw [List.pairwise_append]
        refine ⟨h1, List.pairwise_singleton _ _, fun x hx y hy => ?_⟩
        rw [List.mem_singleton] at hy
        subst hy
        obtain ⟨i, hi, he⟩ := h2 x hx
        rcases ho.tri x y (hok i x he) (hok m y hq) with a | a | a
        · exact a
        · exfalso
          subst a
          by_cases h1m : i = m - 1
          · subst h1m; exact hc ⟨by omega, he⟩
          · obtain ⟨p, hp⟩ : ∃ p, l[m - 1]? = some p := ⟨_, List.getElem?_eq_getElem (by omega)⟩
            have a1 := hs' i (m - 1) x p (by omega) he hp
            have a2 := hs' (m - 1) m p x (by omega) hp hq
            rcases ho.tri p x (hok _ p hp) (hok _ x he) with b | b | b
            · exact a1 b
            · subst b; exact hc ⟨by omega, hp⟩
            · exact a2 b
        · exact absurd a (hs' i m x y hi he hq)
      · rcases List.mem_append.1 hx with h | h
        · obtain ⟨i, hi, he⟩ := h2 x h; exact ⟨i, by omega, he⟩
        · rw [List.mem_singleton] at h; subst h; exact ⟨m, by omega, hq⟩
      · by_cases him : i = m
        · subst him
          rw [hq] at hx
          cases hx
          exact List.mem_append_right _ (by simp)
        · exact List.mem_append_left _ (h3 i (by omega) x hx)

/-- What Sorted hands back. -/
def SortIs (cf : V4 → V4 → Int) (l l' : List V4) : Prop := l'.Pairwise (fun x y => cf x y < 0) ∧ ∀ x, x ∈ l' ↔ x ∈ l
theorem sortIs_kept {Ok : V4 → Prop} {cf : V4 → V4 → Int} (ho : Ord4 Ok cf) {l0 l : List V4} (hp : l.Perm l0) (hl : ∀ q ∈ l0, Ok q) (hs : ∀ (i j : Nat) (hi : i < j) (hj : j < l.length), ¬ cf l[j] l[i] < 0) : SortIs cf l0 (keptV l l.length) := by
  obtain ⟨h1, h2, h3⟩ := kept_sorted ho (fun q hq => hl q (hp.mem_iff.1 hq)) hs l.length (Nat.le_refl _)
  refine ⟨h1, fun x => ⟨fun hx => ?_, fun hx => ?_⟩⟩
  · obtain ⟨i, _, he⟩ := h2 x hx
    exact hp.mem_iff.1 (List.mem_of_getElem? he)
  · obtain ⟨i, hi, he⟩ := List.getElem_of_mem (hp.mem_iff.2 hx)
    exact h3 i hi x (by rw [List.getElem?_eq_getElem hi, he])
/-- There is one such list. -/
theorem sortIs_uniq {Ok : V4 → Prop} {cf : V4 → V4 → Int} (ho : Ord4 Ok cf) : ∀ {a b : List V4}, (∀ q ∈ a, Ok q) → a.Pairwise (fun x y => cf x y < 0) → b.Pairwise (fun x y => cf x y < 0) → (∀ x, x ∈ a ↔ x ∈ b) → a = b
  | [], [], _, _, _, _ => rfl
  | [], y :: b, _, _, _, h => by have := (h y).2 (by simp); simp at this
  | x :: a, [], _, _, _, h => by have := (h x).1 (by simp); simp at this
  | x :: a, y :: b, hk, ha, hb, h => by
    rw [List.pairwise_cons] at ha hb
    have okb : ∀ q ∈ y :: b, Ok q := fun q hq => hk q ((h q).2 hq)
    have hxy : x = y := by
      rcases List.mem_cons.1 ((h x).1 (by simp)) with e | e
      · exact e
      · rcases List.mem_cons.1 ((h y).2 (by simp)) with e' | e'
        · exact e'.symm
        · exact absurd (hb.1 x e) (ho.asym (hk x (by simp)) (okb y (by simp)) (ha.1 y e'))
    subst hxy
    have ht := sortIs_uniq ho (a := a) (b := b) (fun q hq => hk q (by simp [hq])) ha.2 hb.2 (fun z => by
      have hz := h z
      simp only [List.mem_cons] at hz
      constructor
      · intro hza
        rcases hz.1 (Or.inr hza) with e | e
        · subst e; exact absurd (ha.1 z hza) (ho.irr z (hk z (by simp)))
        · exact e
      · intro hzb
        rcases hz.2 (Or.inr hzb) with e | e
        · subst e; exact absurd (hb.1 z hzb) (ho.irr z (hk z (by simp)))
        · exact e)
    rw [ht]

end Go.Proofs.YtimkeblcdodfmaaGreat

namespace Go.Proofs.YtimkeblcdodfmaaGreat
open Go.RowKit

theorem gcdL_four (a b c d : Int) : gcdL 0 [a, b, c, d] = g4 a b c d := g4_nest a b c d
theorem lowQ_eq (x y z k : Int) : lowQ x y z k = ⟨low4 (x * sgnI k) (y * sgnI k) (z * sgnI k) (k * sgnI k) (x * sgnI k), low4 (x * sgnI k) (y * sgnI k) (z * sgnI k) (k * sgnI k) (y * sgnI k), low4 (x * sgnI k) (y * sgnI k) (z * sgnI k) (k * sgnI k) (z * sgnI k), low4 (x * sgnI k) (y * sgnI k) (z * sgnI k) (k * sgnI k) (k * sgnI k)⟩ := by
  unfold lowQ low4
  have h := g4_dvd (x * sgnI k) (y * sgnI k) (z * sgnI k) (k * sgnI k)
  rw [gcdL_four, Int.tdiv_eq_ediv_of_dvd h.1, Int.tdiv_eq_ediv_of_dvd h.2.1, Int.tdiv_eq_ediv_of_dvd h.2.2.1, Int.tdiv_eq_ediv_of_dvd h.2.2.2]
theorem mul_sgn_self {k : Int} (h : k ≠ 0) : k * sgnI k = (k.natAbs : Int) := by
  unfold sgnI
  rw [if_neg h]
  split <;> omega
theorem mul_sgn_abs (x k : Int) : (x * sgnI k).natAbs ≤ x.natAbs := by
  rcases sgnI_or k with e | e | e <;> rw [e] <;> omega

/-- Up to the weight, and the weight. -/
def meetW (p q r : V4) : Int := minorZ p.a p.c p.b q.a q.c q.b r.a r.c r.b
def meetL (p q r : V4) : V4 := lowQ (crossX p q r) (crossY p q r) (crossZ p q r) (meetW p q r)
def right3 (p q r : V4) : Bool := decide (RightQ p) && (decide (RightQ q) && decide (RightQ r))
def meetE (p q r : V4) : Int := if right3 p q r = true then (if meetW p q r = 0 then 4 else smallE (meetL p q r)) else 30
def meetV (p q r : V4) : V4 := if right3 p q r = true then (if meetW p q r = 0 then ⟨0, 0, 0, 0⟩ else smallV (meetL p q r)) else ⟨0, 0, 0, 0⟩
/-- A point is on a plane. -/
def onQ (p q : V4) : Prop := p.a * q.a + p.b * q.b + p.c * q.c + p.d * q.d = 0
instance (p q : V4) : Decidable (onQ p q) := by unfold onQ; infer_instance

theorem lowQ_on {x y z k A B C D : Int} (hk : k ≠ 0) (h : A * x + B * y + C * z + D * k = 0) : onQ ⟨A, B, C, D⟩ (lowQ x y z k) := by
  rw [lowQ_eq]
  unfold onQ
  have hm := low4_mul (x * sgnI k) (y * sgnI k) (z * sgnI k) (k * sgnI k)
  have hp : 0 < g4 (x * sgnI k) (y * sgnI k) (z * sgnI k) (k * sgnI k) := g4_pos' (by rw [mul_sgn_self hk]; omega)
  generalize sgnI k = s at *
  generalize low4 (x * s) (y * s) (z * s) (k * s) (x * s) = p0 at *
  generalize low4 (x * s) (y * s) (z * s) (k * s) (y * s) = p1 at *
  generalize low4 (x * s) (y * s) (z * s) (k * s) (z * s) = p2 at *
  generalize low4 (x * s) (y * s) (z * s) (k * s) (k * s) = p3 at *
  generalize g4 (x * s) (y * s) (z * s) (k * s) = g at *
  obtain ⟨h0, h1, h2, h3⟩ := hm
  have e : (A * p0 + B * p1 + C * p2 + D * p3) * (g : Int) = 0 := by grind
  rcases Int.mul_eq_zero.1 e with h | h
  · exact h
  · omega
theorem lowQ_sound {x y z k : Int} (hk : k ≠ 0) (hx : x.natAbs ≤ 8796093022208) (hy : y.natAbs ≤ 8796093022208) (hz : z.natAbs ≤ 8796093022208) (hk1 : k.natAbs ≤ 8589934592) : SoundQ (lowQ x y z k) := by
  rw [lowQ_eq]
  have hp : 0 < g4 (x * sgnI k) (y * sgnI k) (z * sgnI k) (k * sgnI k) := g4_pos' (by rw [mul_sgn_self hk]; omega)
  have hm := low4_mul (x * sgnI k) (y * sgnI k) (z * sgnI k) (k * sgnI k)
  have l0 := low4_le' hp hm.1
  have l1 := low4_le' hp hm.2.1
  have l2 := low4_le' hp hm.2.2.1
  have l3 := low4_le' hp hm.2.2.2
  have a0 := mul_sgn_abs x k
  have a1 := mul_sgn_abs y k
  have a2 := mul_sgn_abs z k
  have a3 := mul_sgn_abs k k
  have hpos : 0 < low4 (x * sgnI k) (y * sgnI k) (z * sgnI k) (k * sgnI k) (k * sgnI k) := by
    have hK : 0 < k * sgnI k := by rw [mul_sgn_self hk]; omega
    have e := hm.2.2.2
    rcases Int.lt_or_le 0 (low4 (x * sgnI k) (y * sgnI k) (z * sgnI k) (k * sgnI k) (k * sgnI k)) with h | h
    · exact h
    · have := Int.mul_le_mul_of_nonneg_right h (show (0 : Int) ≤ (g4 (x * sgnI k) (y * sgnI k) (z * sgnI k) (k * sgnI k) : Int) by omega)
      rw [e] at this
      omega
  exact ⟨by simp only; omega, by simp only; omega, by simp only; omega, by simp only; omega, by simp only; omega, low4_g4' hp⟩
theorem minor_on (q0 q1 q2 q3 r0 r1 r2 r3 s0 s1 s2 s3 : Int) : q0 * minorZ q1 q2 q3 r1 r2 r3 s1 s2 s3 + q1 * minorZ q2 q0 q3 r2 r0 r3 s2 s0 s3 + q2 * minorZ q0 q1 q3 r0 r1 r3 s0 s1 s3 + q3 * minorZ q0 q2 q1 r0 r2 r1 s0 s2 s1 = 0 := by
  unfold minorZ; grind
theorem meet_good {p q r : V4} (hp : RightQ p) (hq : RightQ q) (hr : RightQ r) (hw : meetW p q r ≠ 0) : SoundQ (meetL p q r) ∧ onQ p (meetL p q r) ∧ onQ q (meetL p q r) ∧ onQ r (meetL p q r) := by
  refine ⟨lowQ_sound hw ?_ ?_ ?_ ?_, ?_, ?_, ?_⟩
  · exact Nat.le_trans (minor_fits (M := 1000) (K := 1000000) hp.2.2.1 hp.2.2.2.1 hp.2.2.2.2.1 hq.2.2.1 hq.2.2.2.1 hq.2.2.2.2.1 hr.2.2.1 hr.2.2.2.1 hr.2.2.2.2.1) (by decide)
  · exact Nat.le_trans (minor_fits (M := 1000) (K := 1000000) hp.2.2.2.1 hp.2.1 hp.2.2.2.2.1 hq.2.2.2.1 hq.2.1 hq.2.2.2.2.1 hr.2.2.2.1 hr.2.1 hr.2.2.2.2.1) (by decide)
  · exact Nat.le_trans (minor_fits (M := 1000) (K := 1000000) hp.2.1 hp.2.2.1 hp.2.2.2.2.1 hq.2.1 hq.2.2.1 hq.2.2.2.2.1 hr.2.1 hr.2.2.1 hr.2.2.2.2.1) (by decide)
  · exact Nat.le_trans (minor_fits (M := 1000) (K := 1000) hp.2.1 hp.2.2.2.1 hp.2.2.1 hq.2.1 hq.2.2.2.1 hq.2.2.1 hr.2.1 hr.2.2.2.1 hr.2.2.1) (by decide)
  · exact lowQ_on hw (minor_on p.a p.b p.c p.d q.a q.b q.c q.d r.a r.b r.c r.d)
  · refine lowQ_on hw ?_
    have h := minor_on q.a q.b q.c q.d r.a r.b r.c r.d p.a p.b p.c p.d
    rw [minorZ_round p.b p.c p.d, minorZ_round p.c p.a p.d, minorZ_round p.a p.b p.d, minorZ_round p.a p.c p.b] at h
    exact h
  · refine lowQ_on hw ?_
    have h := minor_on r.a r.b r.c r.d p.a p.b p.c p.d q.a q.b q.c q.d
    rw [← minorZ_round r.b r.c r.d, ← minorZ_round r.c r.a r.d, ← minorZ_round r.a r.b r.d, ← minorZ_round r.a r.c r.b] at h
    exact h
theorem meet_fits {p q r : V4} (hp : RightQ p) (hq : RightQ q) (hr : RightQ r) : Fit7 (crossX p q r) ∧ Fit7 (crossY p q r) ∧ Fit7 (crossZ p q r) ∧ Fit7 (meetW p q r) := by
  unfold Fit7
  refine ⟨?_, ?_, ?_, ?_⟩
  · exact Nat.lt_of_le_of_lt (minor_fits (M := 1000) (K := 1000000) hp.2.2.1 hp.2.2.2.1 hp.2.2.2.2.1 hq.2.2.1 hq.2.2.2.1 hq.2.2.2.2.1 hr.2.2.1 hr.2.2.2.1 hr.2.2.2.2.1) (by decide)
  · exact Nat.lt_of_le_of_lt (minor_fits (M := 1000) (K := 1000000) hp.2.2.2.1 hp.2.1 hp.2.2.2.2.1 hq.2.2.2.1 hq.2.1 hq.2.2.2.2.1 hr.2.2.2.1 hr.2.1 hr.2.2.2.2.1) (by decide)
  · exact Nat.lt_of_le_of_lt (minor_fits (M := 1000) (K := 1000000) hp.2.1 hp.2.2.1 hp.2.2.2.2.1 hq.2.1 hq.2.2.1 hq.2.2.2.2.1 hr.2.1 hr.2.2.1 hr.2.2.2.2.1) (by decide)
  · exact Nat.lt_of_le_of_lt (minor_fits (M := 1000) (K := 1000) hp.2.1 hp.2.2.2.1 hp.2.2.1 hq.2.1 hq.2.2.2.1 hq.2.2.1 hr.2.1 hr.2.2.2.1 hr.2.2.1) (by decide)
theorem right3_true {p q r : V4} (h : right3 p q r = true) : RightQ p ∧ RightQ q ∧ RightQ r := by
  unfold right3 at h
  simp only [Bool.and_eq_true, decide_eq_true_eq] at h
  exact h
theorem right3_of {p q r : V4} (hp : RightQ p) (hq : RightQ q) (hr : RightQ r) : right3 p q r = true := by
  unfold right3
  rw [decide_eq_true hp, decide_eq_true hq, decide_eq_true hr]; rfl
/-- Of right planes: the point, or ErrNone. -/
theorem meet_some {p q r : V4} (hp : RightQ p) (hq : RightQ q) (hr : RightQ r) (hw : meetW p q r ≠ 0) : meetE p q r = 0 ∧ meetV p q r = meetL p q r := by
  have h := (meet_good hp hq hr hw).1
  unfold meetE meetV smallE smallV
  rw [if_pos (right3_of hp hq hr), if_pos (right3_of hp hq hr), if_neg hw, if_neg hw, if_pos h, if_pos h]
  exact ⟨rfl, rfl⟩
theorem meet_none {p q r : V4} (hp : RightQ p) (hq : RightQ q) (hr : RightQ r) (hw : meetW p q r = 0) : meetE p q r = 4 ∧ meetV p q r = ⟨0, 0, 0, 0⟩ := by
  unfold meetE meetV
  rw [if_pos (right3_of hp hq hr), if_pos (right3_of hp hq hr), if_pos hw, if_pos hw]
  exact ⟨rfl, rfl⟩

/-! ### The order along a line -/
theorem leadZ_eq (d : V3) (a b : V4) : leadZ d a b = (a.a * b.d - b.a * a.d) * d.a + (a.b * b.d - b.b * a.d) * d.b + (a.c * b.d - b.c * a.d) * d.c := by
  simp [leadZ, sumI, leadP, vg, v3g]
theorem leadZ_fit {d : V3} {a b : V4} (hd : Far d 2000000) (ha : SoundQ a) (hb : SoundQ b) : In127 (leadZ d a b) := by
  rw [leadZ_eq]
  obtain ⟨d0, d1, d2⟩ := hd
  obtain ⟨a0, a1, a2, a3, a4, _⟩ := ha
  obtain ⟨b0, b1, b2, b3, b4, _⟩ := hb
  have a5 : a.d.natAbs ≤ 8589934592 := by omega
  have b5 : b.d.natAbs ≤ 8589934592 := by omega
  have one : ∀ {x y k : Int}, x.natAbs ≤ 8796093022208 → y.natAbs ≤ 8796093022208 → k.natAbs ≤ 2000000 → ((x * b.d - y * a.d) * k).natAbs ≤ 302231454903657293676544000000 := by
    intro x y k hx hy hk
    have e1 := mul_fit hx b5
    have e2 := mul_fit hy a5
    have e3 : (x * b.d - y * a.d).natAbs ≤ 151115727451828646838272 := by omega
    exact Nat.le_trans (mul_fit e3 hk) (by decide)
  have e0 := one a0 b0 d0
  have e1 := one a1 b1 d1
  have e2 := one a2 b2 d2
  generalize (a.a * b.d - b.a * a.d) * d.a = t0 at *
  generalize (a.b * b.d - b.b * a.d) * d.b = t1 at *
  generalize (a.c * b.d - b.c * a.d) * d.c = t2 at *
  clear one
  unfold In127
  omega
theorem sgnI_lt0 {x : Int} : sgnI x < 0 ↔ x < 0 := by
  unfold sgnI
  by_cases h : x = 0
  · simp [h]
  · rw [if_neg h]; split <;> omega
/-- The value of a point in the direction. -/
def atD (d : V3) (a : V4) : Int := a.a * d.a + a.b * d.b + a.c * d.c
theorem leadZ_at (d : V3) (a b : V4) : leadZ d a b = atD d a * b.d - atD d b * a.d := by
  rw [leadZ_eq]; unfold atD; grind
theorem same_point {a b : V4} (ha : SoundQ a) (hb : SoundQ b) (h0 : a.d * b.a = b.d * a.a) (h1 : a.d * b.b = b.d * a.b) (h2 : a.d * b.c = b.d * a.c) : a = b := by
  have pa := ha.2.2.2.1
  have pb := hb.2.2.2.1
  have ga : g4 a.a a.b a.c a.d = 1 := ha.2.2.2.2.2
  have gb : g4 b.a b.b b.c b.d = 1 := hb.2.2.2.2.2
  obtain ⟨k, hk⟩ : ∃ k : Nat, a.d = k := ⟨a.d.toNat, by omega⟩
  obtain ⟨m, hm⟩ : ∃ m : Nat, b.d = m := ⟨b.d.toNat, by omega⟩
  rw [hk, hm] at h0 h1 h2
  have h3 : (k : Int) * b.d = m * a.d := by rw [hk, hm, Int.mul_comm]
  have low1 : ∀ {a b c d x : Int}, g4 a b c d = 1 → low4 a b c d x = x := by
    intro a b c d x h; unfold low4; rw [h]; simp
  have s0 := low4_same (x := a.a) (x' := b.a) (by omega) (by omega) h0 h1 h2 h3 h0
  have s1 := low4_same (x := a.b) (x' := b.b) (by omega) (by omega) h0 h1 h2 h3 h1
  have s2 := low4_same (x := a.c) (x' := b.c) (by omega) (by omega) h0 h1 h2 h3 h2
  have s3 := low4_same (x := a.d) (x' := b.d) (by omega) (by omega) h0 h1 h2 h3 h3
  rw [low1 gb, low1 ga] at s0 s1 s2 s3
  obtain ⟨a0, a1, a2, a3⟩ := a
  obtain ⟨b0, b1, b2, b3⟩ := b
  simp only at s0 s1 s2 s3
  rw [s0, s1, s2, s3]
theorem dir_mul (p q : V4) : (dirV p q).a * (gV (crsV (nrm p) (nrm q)) : Int) = (crsV (nrm p) (nrm q)).a ∧ (dirV p q).b * (gV (crsV (nrm p) (nrm q)) : Int) = (crsV (nrm p) (nrm q)).b ∧ (dirV p q).c * (gV (crsV (nrm p) (nrm q)) : Int) = (crsV (nrm p) (nrm q)).c := by
  unfold dirV lowV
  generalize crsV (nrm p) (nrm q) = v
  have d1 : (gV v : Int) ∣ v.a := Int.ofNat_dvd_left.2 (Nat.dvd_trans (Nat.gcd_dvd_left _ _) (Nat.gcd_dvd_left _ _))
  have d2 : (gV v : Int) ∣ v.b := Int.ofNat_dvd_left.2 (Nat.dvd_trans (Nat.gcd_dvd_left _ _) (Nat.gcd_dvd_right _ _))
  have d3 : (gV v : Int) ∣ v.c := Int.ofNat_dvd_left.2 (Nat.gcd_dvd_right _ _)
  exact ⟨Int.tdiv_mul_cancel d1, Int.tdiv_mul_cancel d2, Int.tdiv_mul_cancel d3⟩
theorem perp_zero {p1 p2 p3 q1 q2 q3 x1 x2 x3 : Int} (hp : p1 * x1 + p2 * x2 + p3 * x3 = 0) (hq : q1 * x1 + q2 * x2 + q3 * x3 = 0)
    (hn : (p2 * q3 - p3 * q2) * x1 + (p3 * q1 - p1 * q3) * x2 + (p1 * q2 - p2 * q1) * x3 = 0) (hne : ¬ (p2 * q3 - p3 * q2 = 0 ∧ p3 * q1 - p1 * q3 = 0 ∧ p1 * q2 - p2 * q1 = 0)) : x1 = 0 ∧ x2 = 0 ∧ x3 = 0 := by
  obtain ⟨n1, e1⟩ : ∃ n, p2 * q3 - p3 * q2 = n := ⟨_, rfl⟩
  obtain ⟨n2, e2⟩ : ∃ n, p3 * q1 - p1 * q3 = n := ⟨_, rfl⟩
  obtain ⟨n3, e3⟩ : ∃ n, p1 * q2 - p2 * q1 = n := ⟨_, rfl⟩
  have c1 : n2 * x3 - n3 * x2 = 0 := by rw [← e2, ← e3]; grind
  have c2 : n3 * x1 - n1 * x3 = 0 := by rw [← e1, ← e3]; grind
  have c3 : n1 * x2 - n2 * x1 = 0 := by rw [← e1, ← e2]; grind
  rw [e1, e2, e3] at hn hne
  have hs : 0 < n1 * n1 + n2 * n2 + n3 * n3 := by
    have sq : ∀ n : Int, 0 ≤ n * n := fun n => by rw [← Int.natAbs_mul_self]; omega
    have sq1 : ∀ n : Int, n ≠ 0 → 0 < n * n := fun n h => by
      have := (not_congr (Int.mul_eq_zero (a := n) (b := n))).2 (not_or.2 ⟨h, h⟩)
      have := sq n
      omega
    have s1 := sq n1
    have s2 := sq n2
    have s3 := sq n3
    by_cases h1 : n1 = 0
    · by_cases h2 : n2 = 0
      · have h3 : n3 ≠ 0 := fun h3 => hne ⟨h1, h2, h3⟩
        have := sq1 n3 h3
        omega
      · have := sq1 n2 h2
        omega
    · have := sq1 n1 h1
      omega
  have k1 : (n1 * n1 + n2 * n2 + n3 * n3) * x1 = 0 := by grind
  have k2 : (n1 * n1 + n2 * n2 + n3 * n3) * x2 = 0 := by grind
  have k3 : (n1 * n1 + n2 * n2 + n3 * n3) * x3 = 0 := by grind
  refine ⟨?_, ?_, ?_⟩
  · rcases Int.mul_eq_zero.1 k1 with h | h
    · omega
    · exact h
  · rcases Int.mul_eq_zero.1 k2 with h | h
    · omega
    · exact h
  · rcases Int.mul_eq_zero.1 k3 with h | h
    · omega
    · exact h
/-- A right point on a line. -/
def onL (p q x : V4) : Prop := SoundQ x ∧ onQ p x ∧ onQ q x
theorem lead_same {p q a b : V4} (hn : crsV (nrm p) (nrm q) ≠ ⟨0, 0, 0⟩) (ha : onL p q a) (hb : onL p q b) (h : leadZ (dirV p q) a b = 0) : a = b := by
  obtain ⟨sa, pa, qa⟩ := ha
  obtain ⟨sb, pb, qb⟩ := hb
  unfold onQ at pa qa pb qb
  rw [leadZ_eq] at h
  have hm := dir_mul p q
  generalize (gV (crsV (nrm p) (nrm q)) : Int) = g at hm
  obtain ⟨m0, m1, m2⟩ := hm
  have hN : (crsV (nrm p) (nrm q)).a * (a.a * b.d - b.a * a.d) + (crsV (nrm p) (nrm q)).b * (a.b * b.d - b.b * a.d) + (crsV (nrm p) (nrm q)).c * (a.c * b.d - b.c * a.d) = 0 := by
    rw [← m0, ← m1, ← m2]
    generalize dirV p q = d at *
    clear m0 m1 m2 hn
    have e : (d.a * g * (a.a * b.d - b.a * a.d) + d.b * g * (a.b * b.d - b.b * a.d) + d.c * g * (a.c * b.d - b.c * a.d)) = g * ((a.a * b.d - b.a * a.d) * d.a + (a.b * b.d - b.b * a.d) * d.b + (a.c * b.d - b.c * a.d) * d.c) := by grind
    rw [e, h, Int.mul_zero]
  have hz := perp_zero (p1 := p.a) (p2 := p.b) (p3 := p.c) (q1 := q.a) (q2 := q.b) (q3 := q.c) (x1 := a.a * b.d - b.a * a.d) (x2 := a.b * b.d - b.b * a.d) (x3 := a.c * b.d - b.c * a.d) (by grind) (by grind) hN (fun hc => hn (by unfold crsV nrm; simp only; rw [hc.1, hc.2.1, hc.2.2]))
  obtain ⟨z0, z1, z2⟩ := hz
  exact same_point sa sb (by rw [Int.mul_comm, Int.mul_comm b.d]; omega) (by rw [Int.mul_comm, Int.mul_comm b.d]; omega) (by rw [Int.mul_comm, Int.mul_comm b.d]; omega)
theorem rat_trans {A B C a b c : Int} (ha : 1 ≤ a) (hb : 1 ≤ b) (hc : 1 ≤ c) (h1 : A * b < B * a) (h2 : B * c < C * b) : A * c < C * a := by
  have e1 := Int.mul_lt_mul_of_pos_right h1 (show 0 < c by omega)
  have e2 := Int.mul_lt_mul_of_pos_right h2 (show 0 < a by omega)
  have e3 : A * c * b < C * a * b := by
    have i1 : A * b * c = A * c * b := by grind
    have i2 : B * a * c = B * c * a := by grind
    have i3 : C * b * a = C * a * b := by grind
    omega
  exact Int.lt_of_mul_lt_mul_right e3 (by omega)
theorem order_line {p q : V4} (hn : crsV (nrm p) (nrm q) ≠ ⟨0, 0, 0⟩) : Ord4 (onL p q) (fun a b => sgnI (leadZ (dirV p q) a b)) where
  irr := fun x hx => by
    rw [sgnI_lt0, leadZ_at]; omega
  tr := fun x y z hx hy hz h1 h2 => by
    rw [sgnI_lt0, leadZ_at] at h1 h2 ⊢
    have := rat_trans (A := atD (dirV p q) x) (B := atD (dirV p q) y) (C := atD (dirV p q) z) hx.1.2.2.2.1 hy.1.2.2.2.1 hz.1.2.2.2.1 (by omega) (by omega)
    omega
  tri := fun x y hx hy => by
    rw [sgnI_lt0, sgnI_lt0]
    have e : leadZ (dirV p q) y x = -leadZ (dirV p q) x y := by rw [leadZ_at, leadZ_at]; omega
    by_cases h : leadZ (dirV p q) x y = 0
    · exact Or.inr (Or.inl (lead_same hn hx hy h))
    · omega

end Go.Proofs.YtimkeblcdodfmaaGreat

namespace Go.Proofs.YtimkeblcdodfmaaGreat
open Go.RowKit Go.Shelf
attribute [local go_sem] Oper.semAt_some

set_option maxRecDepth 100000 in
set_option maxHeartbeats 8000000 in
theorem meet_any (p q r : V4) (w : World) (hp : InV p) (hq : InV q) (hrr : InV r) :
    Calls Tryz.prog 93 #[.agg #[.int .i64 p.a, .int .i64 p.b, .int .i64 p.c, .int .i64 p.d], .agg #[.int .i64 q.a, .int .i64 q.b, .int .i64 q.c, .int .i64 q.d], .agg #[.int .i64 r.a, .int .i64 r.b, .int .i64 r.c, .int .i64 r.d]] w fun e w' => e = .returned (.tuple #[.agg #[.int .i64 (meetV p q r).a, .int .i64 (meetV p q r).b, .int .i64 (meetV p q r).c, .int .i64 (meetV p q r).d], .int .i64 (meetE p q r)]) ∧ Below w.heap.size w w' := by
  obtain ⟨w1, hw1⟩ : ∃ w1, ((((w.alloc (.cells #[.int .i64 p.a, .int .i64 p.b, .int .i64 p.c, .int .i64 p.d] 23)).alloc (.cells #[.int .i64 q.a, .int .i64 q.b, .int .i64 q.c, .int .i64 q.d] 23)).alloc (.cells #[.int .i64 r.a, .int .i64 r.b, .int .i64 r.c, .int .i64 r.d] 23)).alloc (.cells #[.int .i64 0, .int .i64 0, .int .i64 0, .int .i64 0] 41)) = w1 := ⟨_, rfl⟩
  have hb1 : Below w.heap.size w w1 := by rw [← hw1]; exact bw4' w _ _ _ _
  have k0 : Blk w1 (w.heap.size) #[.int .i64 p.a, .int .i64 p.b, .int .i64 p.c, .int .i64 p.d] 23 := by rw [← hw1]; exact ((((Blk.new w _ _).alloc _).alloc _).alloc _)
  have k1 : Blk w1 (w.heap.size + 1) #[.int .i64 q.a, .int .i64 q.b, .int .i64 q.c, .int .i64 q.d] 23 := by rw [← hw1]; exact (((Blk.new' _ _ _ (by simp)).alloc _).alloc _)
  have k2 : Blk w1 (w.heap.size + 1 + 1) #[.int .i64 r.a, .int .i64 r.b, .int .i64 r.c, .int .i64 r.d] 23 := by rw [← hw1]; exact ((Blk.new' _ _ _ (by simp)).alloc _)
  have kR : Blk w1 (w.heap.size + 1 + 1 + 1) #[.int .i64 0, .int .i64 0, .int .i64 0, .int .i64 0] 41 := by rw [← hw1]; exact (Blk.new' _ _ _ (by simp))
  have p00 := k0.cell (i := 0) rfl
  have p01 := k0.cell (i := 1) rfl
  have p02 := k0.cell (i := 2) rfl
  have p03 := k0.cell (i := 3) rfl
  have p10 := k1.cell (i := 0) rfl
  have p11 := k1.cell (i := 1) rfl
  have p12 := k1.cell (i := 2) rfl
  have p13 := k1.cell (i := 3) rfl
  have p20 := k2.cell (i := 0) rfl
  have p21 := k2.cell (i := 1) rfl
  have p22 := k2.cell (i := 2) rfl
  have p23 := k2.cell (i := 3) rfl
  obtain ⟨w2, hw2⟩ : ∃ w2, w1.alloc (.cells #[.int .i64 p.a, .int .i64 p.b, .int .i64 p.c, .int .i64 p.d, .int .i64 q.a, .int .i64 q.b, .int .i64 q.c, .int .i64 q.d, .int .i64 r.a, .int .i64 r.b, .int .i64 r.c, .int .i64 r.d] 23) = w2 := ⟨_, rfl⟩
  have hr2 : RdV w2 (some ⟨w1.heap.size, 0, none⟩) [p, q, r] := by rw [← hw2]; exact planesQ3 w1 p q r _
  have hb2 : Below w1.heap.size w1 w2 := by rw [← hw2]; exact (Below.refl _ w1).alloc (Nat.le_refl _) _
  have hpl := planes_any (some ⟨w1.heap.size, 0, none⟩) 3 3 [p, q, r] w2 rfl (by decide) hr2 (by intro x hx; simp at hx; rcases hx with rfl | rfl | rfl; exact hp; exact hq; exact hrr)
  have hall : ([p, q, r] : List V4).all (fun q => decide (RightP q.a q.b q.c q.d)) = right3 p q r := by simp [right3, RightQ]
  rw [hall] at hpl
  have hM : ∀ W, Calls Tryz.prog 96 #[.int .i64 0, .int .i64 2, .int .i64 1, .agg #[.int .i64 p.a, .int .i64 p.b, .int .i64 p.c, .int .i64 p.d], .agg #[.int .i64 q.a, .int .i64 q.b, .int .i64 q.c, .int .i64 q.d], .agg #[.int .i64 r.a, .int .i64 r.b, .int .i64 r.c, .int .i64 r.d]] W fun e w' => e = .returned (sumV (meetW p q r)) ∧ Below W.heap.size W w' := fun W => minor_any 0 2 1 p q r W (by decide) (by decide) (by decide) hp hq hrr
  have hX := fun W => cross_any p q r W hp hq hrr
  have hfit : right3 p q r = true → Fit7 (crossX p q r) ∧ Fit7 (crossY p q r) ∧ Fit7 (crossZ p q r) ∧ Fit7 (meetW p q r) := fun h => meet_fits (right3_true h).1 (right3_true h).2.1 (right3_true h).2.2
  have hv : Value.tuple #[.agg #[.int .i64 (meetV p q r).a, .int .i64 (meetV p q r).b, .int .i64 (meetV p q r).c, .int .i64 (meetV p q r).d], .int .i64 (meetE p q r)] = if right3 p q r = true then (if meetW p q r = 0 then .tuple #[.agg #[.int .i64 0, .int .i64 0, .int .i64 0, .int .i64 0], .int .i64 4] else .tuple #[.agg #[.int .i64 (smallV (meetL p q r)).a, .int .i64 (smallV (meetL p q r)).b, .int .i64 (smallV (meetL p q r)).c, .int .i64 (smallV (meetL p q r)).d], .int .i64 (smallE (meetL p q r))]) else .tuple #[.agg #[.int .i64 0, .int .i64 0, .int .i64 0, .int .i64 0], .int .i64 30] := by
    unfold meetV meetE
    by_cases h : right3 p q r = true
    · rw [if_pos h, if_pos h, if_pos h]
      by_cases h1 : meetW p q r = 0
      · rw [if_pos h1, if_pos h1, if_pos h1]
      · rw [if_neg h1, if_neg h1, if_neg h1]
    · rw [if_neg h, if_neg h, if_neg h]
  obtain ⟨V, hV⟩ : ∃ y, Value.tuple #[.agg #[.int .i64 (meetV p q r).a, .int .i64 (meetV p q r).b, .int .i64 (meetV p q r).c, .int .i64 (meetV p q r).d], .int .i64 (meetE p q r)] = y := ⟨_, rfl⟩
  rw [hV] at hv ⊢
  clear hV
  obtain ⟨t, ht⟩ : ∃ t, right3 p q r = t := ⟨_, rfl⟩
  rw [ht] at hpl hfit hv
  have HP := Lib.hid hpl
  have HX := Lib.hid hX
  have HM := Lib.hid hM
  have HFIT := Lib.hid hfit
  have HV0 := Lib.hid hv
  clear hpl hall hr2 hp hq hrr hfit hX hM ht hv
  go_enter Tryz.func93, Tryz.ntmps93
  go_wp2_with fail
  refine HP.out.mono ?_
  rintro e' w3 ⟨v, rfl, hv, hb3⟩
  have hb13 := hb2.trans (hb3.mono hb2.size)
  obtain ⟨gf, caps, rfl, _⟩ := id hv
  obtain ⟨w4, hw4⟩ : ∃ w4, w3.alloc (.cells #[.func (.func gf) #[] caps] 82) = w4 := ⟨_, rfl⟩
  have hr4 : RdC w4 (some ⟨w3.heap.size, 0, none⟩) [errE t 30] := by rw [← hw4]; exact checks1 w3 _ _ _ hv
  have hb14 : Below w1.heap.size w1 w4 := by rw [← hw4]; exact hb13.alloc hb13.size _
  have hf := first_any (some ⟨w3.heap.size, 0, none⟩) 1 1 [errE t 30] w4 rfl (by decide) hr4
  rw [firstE_one] at hf
  have HF := Lib.hid hf
  clear hf hr4 hv
  go_wp2_with fail
  refine HF.out.mono ?_
  rintro e' w5 ⟨rfl, hb5⟩
  have hb15 := hb14.trans (hb5.mono hb14.size)
  have hb5' := hb1.trans (hb15.mono hb1.size)
  have k0 := k0.kept hb15
  have k1 := k1.kept hb15
  have k2 := k2.kept hb15
  have kR := kR.kept hb15
  clear p00 p01 p02 p03 p10 p11 p12 p13 p20 p21 p22 p23
  have p00 := k0.cell (i := 0) rfl
  have p01 := k0.cell (i := 1) rfl
  have p02 := k0.cell (i := 2) rfl
  have p03 := k0.cell (i := 3) rfl
  have p10 := k1.cell (i := 0) rfl
  have p11 := k1.cell (i := 1) rfl
  have p12 := k1.cell (i := 2) rfl
  have p13 := k1.cell (i := 3) rfl
  have p20 := k2.cell (i := 0) rfl
  have p21 := k2.cell (i := 1) rfl
  have p22 := k2.cell (i := 2) rfl
  have p23 := k2.cell (i := 3) rfl
  clear hw1 hw2 hw4 hb1 hb2 hb3 hb13 hb14 hb15 hb5 HF HP
  cases t
  · rw [show errE false 30 = 30 from rfl]
    have HV : Hid (V = .tuple #[.agg #[.int .i64 0, .int .i64 0, .int .i64 0, .int .i64 0], .int .i64 30]) := Lib.hid (by rw [HV0.out]; rfl)
    have d0 := kR.cell (i := 0) rfl
    have d1 := kR.cell (i := 1) rfl
    have d2 := kR.cell (i := 2) rfl
    have d3 := kR.cell (i := 3) rfl
    have q0 := kR.frozen 0
    have q1 := kR.frozen 1
    have q2 := kR.frozen 2
    have q3 := kR.frozen 3
    go_wp2_with fail
    have L := Blk.put4 kR (.int .i64 0) (.int .i64 0) (.int .i64 0) (.int .i64 0)
    have z0 := L.cell (i := 0) rfl
    have z1 := L.cell (i := 1) rfl
    have z2 := L.cell (i := 2) rfl
    have z3 := L.cell (i := 3) rfl
    exact bodyPost_ret (v := .tuple #[.agg #[.int .i64 0, .int .i64 0, .int .i64 0, .int .i64 0], .int .i64 30]) (by simp [results, Tryz.results93, go_sem, z0, z1, z2, z3]) rfl ⟨by rw [HV.out], (((hb5'.setCell (by simp only; omega) _).setCell (by simp only; omega) _).setCell (by simp only; omega) _).setCell (by simp only; omega) _⟩
  · rw [show errE true 30 = 0 from rfl]
    obtain ⟨fx, fy, fz, fw⟩ := HFIT.out rfl
    have hlow := fun W => lowestP_any (crossX p q r) (crossY p q r) (crossZ p q r) (meetW p q r) W fx fy fz fw
    have hzw := zero_words (fit_127 fw)
    have hv : V = if meetW p q r = 0 then .tuple #[.agg #[.int .i64 0, .int .i64 0, .int .i64 0, .int .i64 0], .int .i64 4] else .tuple #[.agg #[.int .i64 (smallV (meetL p q r)).a, .int .i64 (smallV (meetL p q r)).b, .int .i64 (smallV (meetL p q r)).c, .int .i64 (smallV (meetL p q r)).d], .int .i64 (smallE (meetL p q r))] := by rw [HV0.out]; rfl
    have hX := HX.out
    have hM := HM.out
    change ∀ W, Calls _ _ _ _ (fun e w' => e = .returned (.tuple #[.agg #[.int .i64 (smallV (meetL p q r)).a, .int .i64 (smallV (meetL p q r)).b, .int .i64 (smallV (meetL p q r)).c, .int .i64 (smallV (meetL p q r)).d], .int .i64 (smallE (meetL p q r))]) ∧ _) at hlow
    obtain ⟨S, hS⟩ : ∃ y, smallV (meetL p q r) = y := ⟨_, rfl⟩
    obtain ⟨E, hE⟩ : ∃ y, smallE (meetL p q r) = y := ⟨_, rfl⟩
    rw [hS, hE] at hv
    simp only [hS, hE] at hlow
    unfold sum3V at hX
    unfold sumV at hlow hM
    obtain ⟨xh, hxh⟩ : ∃ v, hiW (crossX p q r) = v := ⟨_, rfl⟩
    obtain ⟨xl, hxl⟩ : ∃ v, loW (crossX p q r) = v := ⟨_, rfl⟩
    obtain ⟨yh, hyh⟩ : ∃ v, hiW (crossY p q r) = v := ⟨_, rfl⟩
    obtain ⟨yl, hyl⟩ : ∃ v, loW (crossY p q r) = v := ⟨_, rfl⟩
    obtain ⟨zh, hzh⟩ : ∃ v, hiW (crossZ p q r) = v := ⟨_, rfl⟩
    obtain ⟨zl, hzl⟩ : ∃ v, loW (crossZ p q r) = v := ⟨_, rfl⟩
    obtain ⟨wh, hwh⟩ : ∃ v, hiW (meetW p q r) = v := ⟨_, rfl⟩
    obtain ⟨wl, hwl⟩ : ∃ v, loW (meetW p q r) = v := ⟨_, rfl⟩
    rw [hxh, hxl, hyh, hyl, hzh, hzl] at hX
    rw [hwh, hwl] at hM hzw
    simp only [hxh, hxl, hyh, hyl, hzh, hzl, hwh, hwl] at hlow
    have heq := fun W => eql_sum wh wl 0 0 W
    have hV2 : V = if wh = 0 ∧ wl = 0 then .tuple #[.agg #[.int .i64 0, .int .i64 0, .int .i64 0, .int .i64 0], .int .i64 4] else .tuple #[.agg #[.int .i64 S.a, .int .i64 S.b, .int .i64 S.c, .int .i64 S.d], .int .i64 E] := by
      rw [hv]
      by_cases h : meetW p q r = 0
      · rw [if_pos h, if_pos (hzw.2 h)]
      · rw [if_neg h, if_neg (fun hc => h (hzw.1 hc))]
    have HV1 := Lib.hid hV2
    have HX := Lib.hid hX
    have HM := Lib.hid hM
    have HLOW := Lib.hid hlow
    clear hX hM hlow hxh hxl hyh hyl hzh hzl hwh hwl fx fy fz fw HFIT HV0 hv hV2 hzw hS hE
    go_wp2_with fail
    refine (HM.out _).mono ?_
    rintro e' w6 ⟨rfl, hb6⟩
    have k0 := k0.kept hb6
    have k1 := k1.kept hb6
    have k2 := k2.kept hb6
    have kR := kR.kept hb6
    have hb6' := hb5'.trans (hb6.mono hb5'.size)
    clear p00 p01 p02 p03 p10 p11 p12 p13 p20 p21 p22 p23 hb6 hb5' HM
    obtain ⟨wa, hwa⟩ : ∃ w', w6.alloc (.cells #[.int .u64 0, .int .u64 0] 90) = w' := ⟨_, rfl⟩
    have ka : Blk wa w6.heap.size #[.int .u64 0, .int .u64 0] 90 := by rw [← hwa]; exact Blk.new _ _ _
    have hba : Below w6.heap.size w6 wa := by rw [← hwa]; exact (Below.refl _ _).alloc (Nat.le_refl _) _
    obtain ⟨wb, hwb⟩ : ∃ w', (wa.setCell ⟨w6.heap.size, 0, none⟩ (.int .u64 wh)).setCell ⟨w6.heap.size, 1, none⟩ (.int .u64 wl) = w' := ⟨_, rfl⟩
    have hbb : Below w6.heap.size w6 wb := by rw [← hwb]; exact (hba.setCell (by simp only; omega) _).setCell (by simp only; omega) _
    have kb : Blk wb w6.heap.size #[.int .u64 wh, .int .u64 wl] 90 := by rw [← hwb]; exact (ka.set_eq 0 _ rfl).set_eq 1 _ rfl
    have ca0 := ka.cell (i := 0) rfl
    have ca1 := ka.cell (i := 1) rfl
    have cf0 := ka.frozen 0
    have cf1 := ka.frozen 1
    have k0 := k0.kept hbb
    have k1 := k1.kept hbb
    have k2 := k2.kept hbb
    have kR := kR.kept hbb
    have hb7 := hb6'.trans (hbb.mono hb6'.size)
    have p00 := k0.cell (i := 0) rfl
    have p01 := k0.cell (i := 1) rfl
    have p02 := k0.cell (i := 2) rfl
    have p03 := k0.cell (i := 3) rfl
    have p10 := k1.cell (i := 0) rfl
    have p11 := k1.cell (i := 1) rfl
    have p12 := k1.cell (i := 2) rfl
    have p13 := k1.cell (i := 3) rfl
    have p20 := k2.cell (i := 0) rfl
    have p21 := k2.cell (i := 1) rfl
    have p22 := k2.cell (i := 2) rfl
    have p23 := k2.cell (i := 3) rfl
    have s0 := kb.cell (i := 0) rfl
    have s1 := kb.cell (i := 1) rfl
    by_cases h0 : wh = 0 ∧ wl = 0
    · have HV : Hid (V = .tuple #[.agg #[.int .i64 0, .int .i64 0, .int .i64 0, .int .i64 0], .int .i64 4]) := Lib.hid (by rw [HV1.out, if_pos h0])
      have hbo : (wh == 0 && wl == 0) = true := by rw [h0.1, h0.2]; rfl
      simp only [hbo] at heq
      clear h0 hbo HV1
      have d0 := kR.cell (i := 0) rfl
      have d1 := kR.cell (i := 1) rfl
      have d2 := kR.cell (i := 2) rfl
      have d3 := kR.cell (i := 3) rfl
      have q0 := kR.frozen 0
      have q1 := kR.frozen 1
      have q2 := kR.frozen 2
      have q3 := kR.frozen 3
      go_wp2_with fail
      have L := Blk.put4 kR (.int .i64 0) (.int .i64 0) (.int .i64 0) (.int .i64 0)
      have z0 := L.cell (i := 0) rfl
      have z1 := L.cell (i := 1) rfl
      have z2 := L.cell (i := 2) rfl
      have z3 := L.cell (i := 3) rfl
      exact bodyPost_ret (v := .tuple #[.agg #[.int .i64 0, .int .i64 0, .int .i64 0, .int .i64 0], .int .i64 4]) (by simp [results, Tryz.results93, go_sem, z0, z1, z2, z3]) rfl ⟨by rw [HV.out], (((hb7.setCell (by simp only; omega) _).setCell (by simp only; omega) _).setCell (by simp only; omega) _).setCell (by simp only; omega) _⟩
    · have HV : Hid (V = .tuple #[.agg #[.int .i64 S.a, .int .i64 S.b, .int .i64 S.c, .int .i64 S.d], .int .i64 E]) := Lib.hid (by rw [HV1.out, if_neg h0])
      have hbo : (wh == 0 && wl == 0) = false := by
        by_cases h1 : wh = 0
        · by_cases h2 : wl = 0
          · exact absurd ⟨h1, h2⟩ h0
          · simp [h2]
        · simp [h1]
      simp only [hbo] at heq
      clear h0 hbo HV1
      go_wp2_with fail
      refine (HX.out _).mono ?_
      rintro e' w8 ⟨rfl, hb8⟩
      have kb := kb.kept hb8
      have kR := kR.kept hb8
      have hb8' := hb7.trans (hb8.mono hb7.size)
      clear p00 p01 p02 p03 p10 p11 p12 p13 p20 p21 p22 p23 s0 s1 hb8 hb7 HX
      obtain ⟨wc, hwc⟩ : ∃ w', w8.alloc (.cells #[.int .u64 0, .int .u64 0, .int .u64 0, .int .u64 0, .int .u64 0, .int .u64 0] 135) = w' := ⟨_, rfl⟩
      have kc : Blk wc w8.heap.size #[.int .u64 0, .int .u64 0, .int .u64 0, .int .u64 0, .int .u64 0, .int .u64 0] 135 := by rw [← hwc]; exact Blk.new _ _ _
      have hbc : Below w8.heap.size w8 wc := by rw [← hwc]; exact (Below.refl _ _).alloc (Nat.le_refl _) _
      have cc0 := kc.cell (i := 0) rfl
      have cc1 := kc.cell (i := 1) rfl
      have cc2 := kc.cell (i := 2) rfl
      have cc3 := kc.cell (i := 3) rfl
      have cc4 := kc.cell (i := 4) rfl
      have cc5 := kc.cell (i := 5) rfl
      have cq0 := kc.frozen 0
      have cq1 := kc.frozen 1
      have cq2 := kc.frozen 2
      have cq3 := kc.frozen 3
      have cq4 := kc.frozen 4
      have cq5 := kc.frozen 5
      obtain ⟨wd, hwd⟩ : ∃ w', (((((wc.setCell ⟨w8.heap.size, 0, none⟩ (.int .u64 xh)).setCell ⟨w8.heap.size, 1, none⟩ (.int .u64 xl)).setCell ⟨w8.heap.size, 2, none⟩ (.int .u64 yh)).setCell ⟨w8.heap.size, 3, none⟩ (.int .u64 yl)).setCell ⟨w8.heap.size, 4, none⟩ (.int .u64 zh)).setCell ⟨w8.heap.size, 5, none⟩ (.int .u64 zl) = w' := ⟨_, rfl⟩
      have hbd : Below w8.heap.size w8 wd := by rw [← hwd]; exact (((((hbc.setCell (by simp only; omega) _).setCell (by simp only; omega) _).setCell (by simp only; omega) _).setCell (by simp only; omega) _).setCell (by simp only; omega) _).setCell (by simp only; omega) _
      have kd : Blk wd w8.heap.size #[.int .u64 xh, .int .u64 xl, .int .u64 yh, .int .u64 yl, .int .u64 zh, .int .u64 zl] 135 := by rw [← hwd]; exact Blk.put6 kc (.int .u64 xh) (.int .u64 xl) (.int .u64 yh) (.int .u64 yl) (.int .u64 zh) (.int .u64 zl)
      have kb := kb.kept hbd
      have kR := kR.kept hbd
      have hb9 := hb8'.trans (hbd.mono hb8'.size)
      have s0 := kb.cell (i := 0) rfl
      have s1 := kb.cell (i := 1) rfl
      have x0 := kd.cell (i := 0) rfl
      have x1 := kd.cell (i := 1) rfl
      have x2 := kd.cell (i := 2) rfl
      have x3 := kd.cell (i := 3) rfl
      have x4 := kd.cell (i := 4) rfl
      have x5 := kd.cell (i := 5) rfl
      go_wp2_with fail
      refine (HLOW.out _).mono ?_
      rintro e' wf ⟨rfl, hbf⟩
      have kR := kR.kept hbf
      have hbz := hb9.trans (hbf.mono hb9.size)
      have d0 := kR.cell (i := 0) rfl
      have d1 := kR.cell (i := 1) rfl
      have d2 := kR.cell (i := 2) rfl
      have d3 := kR.cell (i := 3) rfl
      have q0 := kR.frozen 0
      have q1 := kR.frozen 1
      have q2 := kR.frozen 2
      have q3 := kR.frozen 3
      go_wp2_with fail
      have L := Blk.put4 kR (.int .i64 S.a) (.int .i64 S.b) (.int .i64 S.c) (.int .i64 S.d)
      have z0 := L.cell (i := 0) rfl
      have z1 := L.cell (i := 1) rfl
      have z2 := L.cell (i := 2) rfl
      have z3 := L.cell (i := 3) rfl
      exact bodyPost_ret (v := .tuple #[.agg #[.int .i64 S.a, .int .i64 S.b, .int .i64 S.c, .int .i64 S.d], .int .i64 E]) (by simp [results, Tryz.results93, go_sem, z0, z1, z2, z3]) rfl ⟨by rw [HV.out], (((hbz.setCell (by simp only; omega) _).setCell (by simp only; omega) _).setCell (by simp only; omega) _).setCell (by simp only; omega) _⟩

end Go.Proofs.YtimkeblcdodfmaaGreat

namespace Go.Proofs.YtimkeblcdodfmaaGreat
open Go.RowKit Go.Shelf
attribute [local go_sem] Oper.semAt_some

/-- The points in which planes meet a line, one after the other. -/
def meetsL (p q : V4) (rs : List V4) : List V4 := rs.filterMap fun r => if meetE p q r = 0 then some (meetV p q r) else none
theorem meetsL_take {p q r : V4} {rs : List V4} {k : Nat} (h : rs[k]? = some r) : meetsL p q (rs.take (k + 1)) = meetsL p q (rs.take k) ++ (if meetE p q r = 0 then [meetV p q r] else []) := by
  obtain ⟨hk, e⟩ := List.getElem?_eq_some_iff.1 h
  unfold meetsL
  rw [List.take_succ_eq_append_getElem hk, List.filterMap_append, e]
  by_cases h0 : meetE p q r = 0
  · simp [h0]
  · simp [h0]
theorem meetsL_le (p q : V4) (rs : List V4) : (meetsL p q rs).length ≤ rs.length := List.length_filterMap_le _ _
def encQ (x : V4) : Array Value := #[.agg #[.int .i64 x.a, .int .i64 x.b, .int .i64 x.c, .int .i64 x.d]]
theorem Blk.keepsAt {S : Nat → Prop} {W W' : World} {B : Nat} {cs : Array Value} {t : TypeId} (h : Blk W B cs t) (hk : KeepsAt S W W') (hS : S B) : Blk W' B cs t := by
  unfold Blk at h ⊢
  exact (hk B hS).trans h

set_option maxHeartbeats 1000000 in
theorem meetings_any (p q : V4) (a : Option Addr) (n c : Nat) (w : World) :
    Calls Tryz.prog 65 #[.agg #[.int .i64 p.a, .int .i64 p.b, .int .i64 p.c, .int .i64 p.d], .agg #[.int .i64 q.a, .int .i64 q.b, .int .i64 q.c, .int .i64 q.d], .slice a n c] w fun e w' => e = .returned (.func (.func 92) #[] #[.pointer (some ⟨w.heap.size + 1 + 1, 0, none⟩), .pointer (some ⟨w.heap.size, 0, none⟩), .pointer (some ⟨w.heap.size + 1, 0, none⟩)]) ∧ w' = ((w.alloc (.cells #[.int .i64 p.a, .int .i64 p.b, .int .i64 p.c, .int .i64 p.d] 23)).alloc (.cells #[.int .i64 q.a, .int .i64 q.b, .int .i64 q.c, .int .i64 q.d] 23)).alloc (.cells #[.slice a n c] 31) := by
  go_enter Tryz.func65, Tryz.ntmps65
  go_wp2_with fail
  go_ret
  exact ⟨rfl, rfl⟩

set_option maxRecDepth 100000 in
set_option maxHeartbeats 8000000 in
theorem meets1_in (m : Nat) (hn : 1 ≤ m) (l Bl Bp Bq : Nat) (S : Nat → Prop) (p q : V4) (a : Option Addr) (n c : Nat) (rs : List V4) (hl : rs.length = n) (hn9 : n ≤ 1000000000) (hip : InV p) (hiq : InV q) (hir : ∀ x ∈ rs, InV x) (J Jx : List V4 → World → Prop)
    (hdr : ∀ pre W W', J pre W → Below W.heap.size W W' → J pre W')
    (hY : ∀ pre x W, J pre W → pre.length < n → YieldAt Fence.wide (m - 1) Tryz.prog l (encQ x) W fun e W' =>
      (e = .returned (.bool true) ∧ J (pre ++ [x]) W' ∧ KeepsAt S W W') ∨ (e = .returned (.bool false) ∧ Jx (pre ++ [x]) W'))
    (W : World) (hp : Blk W Bp #[.int .i64 p.a, .int .i64 p.b, .int .i64 p.c, .int .i64 p.d] 23) (hq : Blk W Bq #[.int .i64 q.a, .int .i64 q.b, .int .i64 q.c, .int .i64 q.d] 23) (hL : Blk W Bl #[.slice a n c] 31) (hr : RdV W a rs) (hSp : S Bp) (hSq : S Bq) (hSl : S Bl) (hSa : ∀ (i : Nat) (x : V4) (b off : Nat), rs[i]? = some x → a = some ⟨b, off, none⟩ → S b) (hSz : ∀ b, S b → b < W.heap.size) (h0 : J [] W) :
    CallsIn Fence.wide m Tryz.prog 92 #[.func (.yield l) #[] #[], .pointer (some ⟨Bl, 0, none⟩), .pointer (some ⟨Bp, 0, none⟩), .pointer (some ⟨Bq, 0, none⟩)] W fun e W' => (∃ v, e = .returned v) ∧
      ((∃ ys, ys = meetsL p q rs ∧ J ys W') ∨ (∃ pre, True ∧ Jx pre W')) := by
  have HM := Lib.hid (fun (x : V4) (hx : InV x) W => meet_any p q x W hip hiq hx)
  have HI := Lib.hid hir
  have HR := Lib.hid hr
  have HLN := Lib.hid hl
  have HY := Lib.hid hY
  have HDR := Lib.hid hdr
  clear hip hiq hir hr hl hY hdr
  refine callsIn_of_wp Tryz.func92 rfl trivial ?_ rfl
  simp only [Tryz.ntmps92, List.size_toArray, List.length_cons, List.length_nil, Nat.reduceAdd, Nat.reduceSub, Array.replicate_succ, Array.replicate_zero, List.push_toArray, List.append_toArray, List.nil_append, List.cons_append]
  have cl := hL.cell (i := 0) rfl
  gi_wp2
  gi_loopw [11] (fun i wr => ∃ k : Nat, k ≤ n ∧ i = .int .i64 (k : Int) ∧ J (meetsL p q (rs.take k)) wr ∧ KeepsAt S W wr)
    (fun i _ => (n - intOf i).toNat)
  case atStart => exact ⟨0, Nat.zero_le _, rfl, h0, KeepsAt.refl _ _⟩
  case round =>
    obtain ⟨k, hk, rfl, hJs, hnx⟩ := hrel
    have hSr : ∀ b, S b → b < wr.heap.size := fun b hb => by
      have h := hnx b hb
      have h1 := hSz b hb
      rw [Array.getElem?_eq_getElem h1] at h
      exact (Array.getElem?_eq_some_iff.1 h).1
    have kp := hp.keepsAt hnx hSp
    have kq := hq.keepsAt hnx hSq
    by_cases hlt : k < n
    · have hil : k < rs.length := by rw [HLN.out]; exact hlt
      have hlti : (k : Int) < (n : Int) := by omega
      obtain ⟨b, off, rfl, hbl, g0, g1, g2, g3⟩ := HR.out k _ (List.getElem?_eq_getElem hil)
      have htk := meetsL_take (p := p) (q := q) (List.getElem?_eq_getElem hil)
      have hin := HI.out _ (List.getElem_mem hil)
      have hplen : (meetsL p q (rs.take k)).length < n := Nat.lt_of_le_of_lt (meetsL_le _ _ _) (by rw [List.length_take, HLN.out]; omega)
      have hkr := List.getElem?_eq_getElem hil
      generalize rs[k] = r at *
      have HKR := Lib.hid hkr
      clear hkr
      have hb := hSa k _ b off HKR.out rfl
      have g0 := (hnx.cell (p := ⟨b, off + k * 4, none⟩) hb).trans g0
      have g1 := (hnx.cell (p := ⟨b, off + k * 4 + 1, none⟩) hb).trans g1
      have g2 := (hnx.cell (p := ⟨b, off + k * 4 + 2, none⟩) hb).trans g2
      have g3 := (hnx.cell (p := ⟨b, off + k * 4 + 3, none⟩) hb).trans g3
      have hmt := fun W => HM.out r hin W
      obtain ⟨M, hM⟩ : ∃ y, meetV p q r = y := ⟨_, rfl⟩
      obtain ⟨E, hE⟩ : ∃ y, meetE p q r = y := ⟨_, rfl⟩
      simp only [hM, hE] at hmt htk
      have HT := Lib.hid htk
      have HMT := Lib.hid hmt
      obtain ⟨pre, hpre⟩ : ∃ y, meetsL p q (rs.take k) = y := ⟨_, rfl⟩
      rw [hpre] at hJs hplen
      have HPRE := Lib.hid hpre
      clear hpre htk hmt hin hil hM hE
      obtain ⟨wa, hwa⟩ : ∃ w', wr.alloc (.cells #[.int .i64 0, .int .i64 0, .int .i64 0, .int .i64 0] 23) = w' := ⟨_, rfl⟩
      have ka : Blk wa wr.heap.size #[.int .i64 0, .int .i64 0, .int .i64 0, .int .i64 0] 23 := by rw [← hwa]; exact Blk.new _ _ _
      have hba : Below wr.heap.size wr wa := by rw [← hwa]; exact (Below.refl _ _).alloc (Nat.le_refl _) _
      obtain ⟨wb, hwb⟩ : ∃ w', ((((wa.setCell ⟨wr.heap.size, 0, none⟩ (.int .i64 r.a)).setCell ⟨wr.heap.size, 1, none⟩ (.int .i64 r.b)).setCell ⟨wr.heap.size, 2, none⟩ (.int .i64 r.c)).setCell ⟨wr.heap.size, 3, none⟩ (.int .i64 r.d)) = w' := ⟨_, rfl⟩
      have hbb : Below wr.heap.size wr wb := by rw [← hwb]; exact (((hba.setCell (by simp only; omega) _).setCell (by simp only; omega) _).setCell (by simp only; omega) _).setCell (by simp only; omega) _
      have kb : Blk wb wr.heap.size #[.int .i64 r.a, .int .i64 r.b, .int .i64 r.c, .int .i64 r.d] 23 := by rw [← hwb]; exact Blk.put4 ka _ _ _ _
      have ca0 := ka.cell (i := 0) rfl
      have ca1 := ka.cell (i := 1) rfl
      have ca2 := ka.cell (i := 2) rfl
      have ca3 := ka.cell (i := 3) rfl
      have cf0 := ka.frozen 0
      have cf1 := ka.frozen 1
      have cf2 := ka.frozen 2
      have cf3 := ka.frozen 3
      have kp := kp.kept hbb
      have kq := kq.kept hbb
      have p0 := kp.cell (i := 0) rfl
      have p1 := kp.cell (i := 1) rfl
      have p2 := kp.cell (i := 2) rfl
      have p3 := kp.cell (i := 3) rfl
      have q0 := kq.cell (i := 0) rfl
      have q1 := kq.cell (i := 1) rfl
      have q2 := kq.cell (i := 2) rfl
      have q3 := kq.cell (i := 3) rfl
      have r0 := kb.cell (i := 0) rfl
      have r1 := kb.cell (i := 1) rfl
      have r2 := kb.cell (i := 2) rfl
      have r3 := kb.cell (i := 3) rfl
      gi_wp2_with fail
      refine ⟨trivial, ?_⟩
      refine (callsIn_wide.2 (HMT.out _)).mono ?_
      rintro e w5 ⟨rfl, hb5⟩
      have hb5r := hbb.trans (hb5.mono hbb.size)
      obtain ⟨wc, hwc⟩ : ∃ w', w5.alloc (.cells #[.int .i64 0, .int .i64 0, .int .i64 0, .int .i64 0] 41) = w' := ⟨_, rfl⟩
      have kc : Blk wc w5.heap.size #[.int .i64 0, .int .i64 0, .int .i64 0, .int .i64 0] 41 := by rw [← hwc]; exact Blk.new _ _ _
      have hbc : Below w5.heap.size w5 wc := by rw [← hwc]; exact (Below.refl _ _).alloc (Nat.le_refl _) _
      obtain ⟨wd, hwd⟩ : ∃ w', ((((wc.setCell ⟨w5.heap.size, 0, none⟩ (.int .i64 M.a)).setCell ⟨w5.heap.size, 1, none⟩ (.int .i64 M.b)).setCell ⟨w5.heap.size, 2, none⟩ (.int .i64 M.c)).setCell ⟨w5.heap.size, 3, none⟩ (.int .i64 M.d)) = w' := ⟨_, rfl⟩
      have hbd : Below w5.heap.size w5 wd := by rw [← hwd]; exact (((hbc.setCell (by simp only; omega) _).setCell (by simp only; omega) _).setCell (by simp only; omega) _).setCell (by simp only; omega) _
      have kd : Blk wd w5.heap.size #[.int .i64 M.a, .int .i64 M.b, .int .i64 M.c, .int .i64 M.d] 41 := by rw [← hwd]; exact Blk.put4 kc _ _ _ _
      have da0 := kc.cell (i := 0) rfl
      have da1 := kc.cell (i := 1) rfl
      have da2 := kc.cell (i := 2) rfl
      have da3 := kc.cell (i := 3) rfl
      have df0 := kc.frozen 0
      have df1 := kc.frozen 1
      have df2 := kc.frozen 2
      have df3 := kc.frozen 3
      have m0 := kd.cell (i := 0) rfl
      have m1 := kd.cell (i := 1) rfl
      have m2 := kd.cell (i := 2) rfl
      have m3 := kd.cell (i := 3) rfl
      have hbr : Below wr.heap.size wr wd := hb5r.trans (hbd.mono hb5r.size)
      have hkr : KeepsAt S W wd := hnx.trans (KeepsAt.of_below hbr hSr)
      have hJd := HDR.out _ _ _ hJs hbr
      clear hb5r hbc hbd kc ka hba hbb kb hb5 hJs g0 g1 g2 g3 kp kq p0 p1 p2 p3 q0 q1 q2 q3 r0 r1 r2 r3 ca0 ca1 ca2 ca3 cf0 cf1 cf2 cf3
      by_cases hE : E = 0
      · subst hE
        obtain ⟨fn, tmps, assign, body, hy, hR⟩ := HY.out _ M wd hJd hplen
        unfold encQ at hy
        gi_wp2
        refine hR.mono ?_
        rintro e W3 (⟨rfl, hJ3, hk3⟩ | ⟨rfl, hJx3⟩)
        · gi_wp2
          refine ⟨⟨k + 1, by omega, by simp, ?_, hkr.trans hk3⟩, by simp [intOf]; omega⟩
          rw [HT.out, HPRE.out]; simpa using hJ3
        · gi_wp2
          refine bodyPost_ret (results_none rfl _ _ _) rfl ?_
          exact ⟨⟨_, rfl⟩, .inr ⟨_, trivial, hJx3⟩⟩
      · have hE1 : (E == 0) = false := by simp [hE]
        gi_wp2
        refine ⟨fun f hf => (by cases hf), ?_⟩
        gi_wp2
        refine ⟨⟨k + 1, by omega, by simp, ?_, hkr⟩, by simp [intOf]; omega⟩
        rw [HT.out, HPRE.out, if_neg hE, List.append_nil]; exact hJd
    · obtain rfl : k = n := by omega
      have hnl : ¬ (k : Int) < (k : Int) := by omega
      have hfin : meetsL p q (rs.take k) = meetsL p q rs := by rw [List.take_of_length_le (by rw [HLN.out]; exact Nat.le_refl _)]
      rw [hfin] at hJs
      gi_wp2
      go_end0
      exact ⟨⟨_, rfl⟩, .inl (by first | exact hJs | exact ⟨_, rfl, hJs⟩)⟩

/-- All the points, or the first of them. -/
theorem meets_stops (m : Nat) (hn : 1 ≤ m) (Bl Bp Bq : Nat) (S : Nat → Prop) (p q : V4) (a : Option Addr) (n c : Nat) (rs : List V4) (w : World) (hl : rs.length = n) (hn9 : n ≤ 1000000000) (hip : InV p) (hiq : InV q) (hir : ∀ x ∈ rs, InV x)
    (hp : Blk w Bp #[.int .i64 p.a, .int .i64 p.b, .int .i64 p.c, .int .i64 p.d] 23) (hq : Blk w Bq #[.int .i64 q.a, .int .i64 q.b, .int .i64 q.c, .int .i64 q.d] 23) (hL : Blk w Bl #[.slice a n c] 31) (hr : RdV w a rs) (hSp : S Bp) (hSq : S Bq) (hSl : S Bl) (hSa : ∀ (i : Nat) (x : V4) (b off : Nat), rs[i]? = some x → a = some ⟨b, off, none⟩ → S b) (hSz : ∀ b, S b → b < w.heap.size) :
    SeqStopsK Fence.wide m Tryz.prog 92 #[.pointer (some ⟨Bl, 0, none⟩), .pointer (some ⟨Bp, 0, none⟩), .pointer (some ⟨Bq, 0, none⟩)] encQ (KeepsAt S) (fun ys => ys = meetsL p q rs) (fun _ => True) n w := fun l J Jx W hW hJ _ hY h0 =>
  meets1_in m hn l Bl Bp Bq S p q a n c rs hl hn9 hip hiq hir J Jx (fun pre W1 W2 h hb => hJ pre W1 W2 none h (grown_of_below hb) (fun r e => by cases e)) hY W (hp.below hW hp.lt) (hq.below hW hq.lt) (hL.below hW hL.lt) (hr.below hW) hSp hSq hSl hSa (fun b hb => Nat.lt_of_lt_of_le (hSz b hb) hW.size) h0

end Go.Proofs.YtimkeblcdodfmaaGreat

namespace Go.Proofs.YtimkeblcdodfmaaGreat
open Go.Shelf
def sortLQ_ren : Go.Shelf.Ren := ⟨fun | 6 => 94 | 15 => 119 | 14 => 118 | 28 => 141 | 29 => 142 | 20 => 133 | 21 => 134 | 22 => 135 | 23 => 136 | 24 => 137 | 25 => 138 | 26 => 139 | 27 => 140 | 46 => 151 | 47 => 152 | 48 => 153 | 49 => 154 | 50 => 155 | 57 => 156 | n => n, fun | 22 => 52 | 24 => 41 | 25 => 104 | 3 => 3 | 39 => 148 | 0 => 0 | 53 => 176 | 55 => 86 | 4 => 4 | 46 => 169 | 45 => 168 | 50 => 173 | 5 => 5 | 9 => 9 | 66 => 182 | 70 => 186 | 76 => 190 | 77 => 191 | n => n, fun | n => n⟩
theorem sortLQ : Go.Proofs.SlLaysF0.n6 Tryz.prog sortLQ_ren := {
  mixed := by kernel_rfl
  f6 := ⟨Tryz.f94.name, by decide, Tryz.func94.trans (congrArg some (by kernel_rfl))⟩
  f14 := ⟨Tryz.f118.name, by decide, Tryz.func118.trans (congrArg some (by kernel_rfl))⟩
  f15 := Tryz.func119.trans (congrArg some (by kernel_rfl))
  f20 := ⟨Tryz.f133.name, by decide, Tryz.func133.trans (congrArg some (by kernel_rfl))⟩
  f21 := ⟨Tryz.f134.name, by decide, Tryz.func134.trans (congrArg some (by kernel_rfl))⟩
  f22 := ⟨Tryz.f135.name, by decide, Tryz.func135.trans (congrArg some (by kernel_rfl))⟩
  f23 := ⟨Tryz.f136.name, by decide, Tryz.func136.trans (congrArg some (by kernel_rfl))⟩
  f24 := ⟨Tryz.f137.name, by decide, Tryz.func137.trans (congrArg some (by kernel_rfl))⟩
  f25 := ⟨Tryz.f138.name, by decide, Tryz.func138.trans (congrArg some (by kernel_rfl))⟩
  f26 := ⟨Tryz.f139.name, by decide, Tryz.func139.trans (congrArg some (by kernel_rfl))⟩
  f27 := ⟨Tryz.f140.name, by decide, Tryz.func140.trans (congrArg some (by kernel_rfl))⟩
  f28 := Tryz.func141.trans (congrArg some (by kernel_rfl))
  f29 := Tryz.func142.trans (congrArg some (by kernel_rfl))
  f46 := ⟨Tryz.f151.name, by decide, Tryz.func151.trans (congrArg some (by kernel_rfl))⟩
  f47 := Tryz.func152.trans (congrArg some (by kernel_rfl))
  f48 := Tryz.func153.trans (congrArg some (by kernel_rfl))
  f49 := ⟨Tryz.f154.name, by decide, Tryz.func154.trans (congrArg some (by kernel_rfl))⟩
  f50 := ⟨Tryz.f155.name, by decide, Tryz.func155.trans (congrArg some (by kernel_rfl))⟩
  f57 := ⟨Tryz.f156.name, by decide, Tryz.func156.trans (congrArg some (by kernel_rfl))⟩
  t0 := Tryz.underlying0
  a0 := Tryz.isAgg0
  z0 := Tryz.sizeOf0
  v0 := Tryz.zeroValue0
  t3 := Tryz.underlying3
  a3 := Tryz.isAgg3
  z3 := Tryz.sizeOf3
  v3 := Tryz.zeroValue3
  t4 := Tryz.underlying4
  a4 := Tryz.isAgg4
  z4 := Tryz.sizeOf4
  v4 := Tryz.zeroValue4
  t5 := Tryz.underlying5
  a5 := Tryz.isAgg5
  z5 := Tryz.sizeOf5
  v5 := Tryz.zeroValue5
  t9 := Tryz.underlying9
  a9 := Tryz.isAgg9
  z9 := Tryz.sizeOf9
  v9 := Tryz.zeroValue9
  t22 := Tryz.underlying52
  a22 := Tryz.isAgg52
  z22 := Tryz.sizeOf52
  v22 := Tryz.zeroValue52
  t25 := Tryz.underlying104
  a25 := Tryz.isAgg104
  z25 := Tryz.sizeOf104
  v25 := Tryz.zeroValue104
  t39 := Tryz.underlying148
  a39 := Tryz.isAgg148
  z39 := Tryz.sizeOf148
  v39 := Tryz.zeroValue148
  t45 := Tryz.underlying168
  a45 := Tryz.isAgg168
  z45 := Tryz.sizeOf168
  v45 := Tryz.zeroValue168
  t46 := Tryz.underlying169
  a46 := Tryz.isAgg169
  z46 := Tryz.sizeOf169
  v46 := Tryz.zeroValue169
  t50 := Tryz.underlying173
  a50 := Tryz.isAgg173
  z50 := Tryz.sizeOf173
  v50 := Tryz.zeroValue173
  t53 := Tryz.underlying176
  a53 := Tryz.isAgg176
  z53 := Tryz.sizeOf176
  v53 := Tryz.zeroValue176
  t55 := Tryz.underlying86
  a55 := Tryz.isAgg86
  z55 := Tryz.sizeOf86
  v55 := Tryz.zeroValue86
  t66 := Tryz.underlying182
  a66 := Tryz.isAgg182
  z66 := Tryz.sizeOf182
  v66 := Tryz.zeroValue182
  t70 := Tryz.underlying186
  a70 := Tryz.isAgg186
  z70 := Tryz.sizeOf186
  v70 := Tryz.zeroValue186
  t76 := Tryz.underlying190
  a76 := Tryz.isAgg190
  z76 := Tryz.sizeOf190
  v76 := Tryz.zeroValue190
  t77 := Tryz.underlying191
  a77 := Tryz.isAgg191
  z77 := Tryz.sizeOf191
  v77 := Tryz.zeroValue191 }

end Go.Proofs.YtimkeblcdodfmaaGreat
