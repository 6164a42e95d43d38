/-
  How many digits a number has.
-/
import Derived.Test.YtapfkinpdinbgaaDoorMath
import Derived.Test.YtapfkinpdinbgaaDoorStr
import Derived.Lib.ItoaMem
import Derived.Lib.ItoaLen
import Derived.Test.YtapfkinpdinbgaaDoorNumIs
namespace Go.Proofs.YtapfkinpdinbgaaDoor
open Go.Lib

theorem nDigits_lower (u : Nat) (h : 1 ≤ u) : 10 ^ (nDigits u - 1) ≤ u := by
  induction u using Nat.strongRecOn with
  | ind u ih =>
    by_cases h1 : u < 10
    · rw [nDigits_small h1]; simpa using h
    · rw [nDigits_big h1]
      have h2 := ih (u / 10) (by omega) (by omega)
      have h3 := nDigits_pos (u / 10)
      have e : nDigits (u / 10) + 1 - 1 = (nDigits (u / 10) - 1) + 1 := by omega
      rw [e, Nat.pow_succ]; omega

theorem nDigits_le {u k : Nat} (hk : 1 ≤ k) (h : u < 10 ^ k) : nDigits u ≤ k := by
  rcases Nat.lt_or_ge k (nDigits u) with h1 | h1
  · by_cases h0 : 1 ≤ u
    · have h2 := nDigits_lower u h0
      have h3 := Nat.pow_le_pow_right (n := 10) (by decide) (show k ≤ nDigits u - 1 by omega)
      omega
    · have : u = 0 := by omega
      subst this
      rw [nDigits_small (by decide)] at h1; omega
  · exact h1

/-- How many digits; 0 has none here. -/
def nd0 (u : Nat) : Nat := if u = 0 then 0 else nDigits u

theorem nd0_step {u : Nat} (h : 0 < u) : nd0 u = nd0 (u / 10) + 1 := by
  unfold nd0
  rw [if_neg (by omega)]
  by_cases h1 : u < 10
  · rw [nDigits_small h1, if_pos (by omega)]
  · rw [nDigits_big h1, if_neg (by omega)]

theorem pow_words (k : Nat) : BW ^ k = 10 ^ (9 * k) := by
  rw [Nat.pow_mul]

/-- The digits of words: nine for each but the highest. -/
theorem nDigits_dv {lo : List Nat} {top : Nat} (hlo : Dg BW lo) (h0 : 0 < top) : nDigits (dv BW (lo ++ [top])) = 9 * lo.length + nDigits top := by
  have h1 := dv_lt hlo
  rw [pow_words] at h1
  rw [dv_snoc, pow_words]
  have h2 := nDigits_lower top h0
  have h3 := lt_pow_nDigits top
  have h4 := nDigits_pos top
  have e : 9 * lo.length + nDigits top = (9 * lo.length + (nDigits top - 1)) + 1 := by omega
  rw [e]
  apply nDigits_unique
  · rw [Nat.pow_add]
    have := Nat.mul_le_mul_left (10 ^ (9 * lo.length)) h2
    omega
  · have e2 : 9 * lo.length + (nDigits top - 1) + 1 = 9 * lo.length + nDigits top := by omega
    rw [e2, Nat.pow_add]
    have := Nat.mul_le_mul_left (10 ^ (9 * lo.length)) (show top + 1 ≤ 10 ^ nDigits top from h3)
    rw [Nat.mul_add] at this
    omega

theorem decDigits_snoc {n d : Nat} (hn : 0 < n) (hd : d < 10) : decDigits (n * 10 + d) = decDigits n ++ [UInt8.ofNat (48 + d)] := by
  rw [decDigits.eq_1 (n * 10 + d), dif_neg (by omega)]
  have e1 : (n * 10 + d) / 10 = n := by omega
  have e2 : (n * 10 + d) % 10 = d := by omega
  rw [e1, e2]

/-- k digits, zeros in front. -/
def padK : Nat → Nat → List UInt8
  | 0, _ => []
  | k + 1, lo => padK k (lo / 10) ++ [UInt8.ofNat (48 + lo % 10)]

theorem decDigits_join (k : Nat) : ∀ (hi lo : Nat), 0 < hi → lo < 10 ^ k → decDigits (hi * 10 ^ k + lo) = decDigits hi ++ padK k lo := by
  induction k with
  | zero => intro hi lo _ hl; have : lo = 0 := by simpa using hl
            subst this; simp [padK]
  | succ k ih =>
    intro hi lo hh hl
    rw [Nat.pow_succ] at hl ⊢
    have e : hi * (10 ^ k * 10) + lo = (hi * 10 ^ k + lo / 10) * 10 + lo % 10 := by
      have := Nat.div_add_mod lo 10
      rw [← Nat.mul_assoc, Nat.add_mul]; omega
    have hp : 0 < hi * 10 ^ k := Nat.mul_pos hh (Nat.pow_pos (by decide))
    rw [e, decDigits_snoc (by omega) (Nat.mod_lt _ (by decide)), ih hi (lo / 10) hh (by omega), padK, List.append_assoc]

theorem padK_zero (k : Nat) : padK k 0 = List.replicate k 48 := by
  induction k with
  | zero => rfl
  | succ k ih =>
    rw [padK, Nat.zero_div, ih, List.replicate_succ']; rfl

theorem padK_says (k : Nat) : ∀ lo, 1 ≤ k → lo < 10 ^ k → padK k lo = List.replicate (k - nDigits lo) 48 ++ decDigits lo := by
  induction k with
  | zero => intro lo h; omega
  | succ k ih =>
    intro lo _ hl
    by_cases h1 : lo < 10
    · have e : lo / 10 = 0 := by omega
      have e2 : lo % 10 = lo := by omega
      rw [padK, e, e2, padK_zero, decDigits_one h1, nDigits_small h1]
      rfl
    · rw [Nat.pow_succ] at hl
      have hk : 1 ≤ k := by
        rcases Nat.eq_zero_or_pos k with h | h
        · subst h; omega
        · exact h
      have e := Nat.div_add_mod lo 10
      have e3 := decDigits_snoc (n := lo / 10) (d := lo % 10) (by omega) (Nat.mod_lt _ (by decide))
      have e4 : lo / 10 * 10 + lo % 10 = lo := by omega
      rw [e4] at e3
      rw [padK, ih (lo / 10) hk (by omega), nDigits_big h1, e3, List.append_assoc]
      have : k + 1 - (nDigits (lo / 10) + 1) = k - nDigits (lo / 10) := by omega
      rw [this]

/-- A word behind higher ones. -/
theorem decDigits_word {hi lo : Nat} (hh : 0 < hi) (hl : lo < BW) : decDigits (lo + BW * hi) = decDigits hi ++ (List.replicate (9 - nDigits lo) 48 ++ decDigits lo) := by
  rw [← padK_says 9 lo (by decide) hl, ← decDigits_join 9 hi lo hh hl]
  have : BW = 10 ^ 9 := by decide
  rw [Nat.add_comm, Nat.mul_comm, this]

end Go.Proofs.YtapfkinpdinbgaaDoor

namespace Go.Proofs.YtapfkinpdinbgaaDoor
open Go.RowKit

set_option maxHeartbeats 400000 in
theorem isZero_any (neg : Bool) (p : Option Addr) (n c : Nat) (w : World) (hn : n ≤ maxLen) :
    Calls Tryd.prog 63 #[.agg #[.bool neg, .slice p n c]] w fun e w' => e = .returned (.bool (n == 0)) ∧ Below w.heap.size w w' := by
  unfold maxLen at hn
  by_cases h : n = 0
  · subst h
    go_enter Tryd.func63, Tryd.ntmps63
    go_wp2
    go_ret
    exact ⟨rfl, (Below.refl _ _).alloc (Nat.le_refl _) _⟩
  · have h1 : ((n : Int) == 0) = false := by simp; omega
    have h2 : (n == 0) = false := by simpa using h
    have H2 := Lib.hid h2
    clear h2
    go_enter Tryd.func63, Tryd.ntmps63
    go_wp2
    go_ret
    exact ⟨ret_val (congrArg Value.bool H2.out.symm), (Below.refl _ _).alloc (Nat.le_refl _) _⟩

set_option maxHeartbeats 1000000 in
theorem digits_any (neg : Bool) (p : Option Addr) (n c : Nat) (xs : List Nat) (w : World) (hn : n ≤ 1000000000) (hx : Rd .u64 w p n xs) (gx : Cn BW xs) :
    Calls Tryd.prog 71 #[.agg #[.bool neg, .slice p n c]] w fun e w' => e = .returned (.int .i64 (nd0 (dv BW xs) : Nat)) ∧ Below w.heap.size w w' := by
  have hb0 : Below w.heap.size w (w.alloc (.cells #[.bool neg, .slice p n c] 79)) := (Below.refl _ w).alloc (Nat.le_refl _) _
  have hx1 := hx.below hb0
  have y0 : w.heap.size < (w.alloc (.cells #[.bool neg, .slice p n c] 79)).heap.size := by simp
  by_cases h : n = 0
  · have hx0 : xs = [] := List.length_eq_zero_iff.1 (by rw [hx.1]; exact h)
    have hfin : nd0 (dv BW xs) = 0 := by rw [hx0]; rfl
    have HF := Lib.hid hfin
    subst h
    clear hfin hx0
    go_enter Tryd.func71, Tryd.ntmps71
    go_wp2_with (go_at_call 63; refine (isZero_any _ _ _ _ _ (by decide)).mono ?_; rintro e w1 ⟨rfl, hb1⟩)
    go_ret
    exact ⟨ret_int (by rw [HF.out]; rfl), hb0.trans (hb1.mono (by simp))⟩
  · have h2 : (n == 0) = false := by simpa using h
    have hne : xs ≠ [] := by intro e; apply h; rw [← hx.1, e]; rfl
    obtain ⟨b, off, rfl, hb, hcell0⟩ := hx1.2 (n - 1) (by omega)
    obtain ⟨t, ht⟩ : ∃ t, xs[n - 1]?.getD 0 = t := ⟨_, rfl⟩
    have hsplit : xs = xs.take (n - 1) ++ [t] := by
      rw [← ht, ← take_snoc xs (n - 1) (by rw [hx.1]; omega), List.take_of_length_le (by rw [hx.1]; omega)]
    have ht0 : 0 < t := by
      have := gx.2
      rw [hsplit] at this
      simp [Tp] at this
      omega
    have htB : t < 1000000000 := by rw [← ht]; exact gx.1.get (by decide) _
    have hlen : (xs.take (n - 1)).length = n - 1 := by rw [List.length_take, hx.1]; omega
    have hfin : nd0 (dv BW xs) = 9 * (n - 1) + nd0 t := by
      have h1 := nDigits_dv (lo := xs.take (n - 1)) (top := t) (gx.1.take _) ht0
      rw [← hsplit, hlen] at h1
      have h2 : dv BW xs ≠ 0 := by have := gx.pos (by decide) hne; omega
      unfold nd0
      rw [if_neg h2, if_neg (by omega), h1]
    have HF := Lib.hid hfin
    have hpos : 0 < n := by omega
    rw [ht] at hcell0
    clear ht hsplit hlen hfin hne
    go_enter Tryd.func71, Tryd.ntmps71
    go_wp2_with (go_at_call 63; refine (isZero_any _ _ _ _ _ (by unfold maxLen; omega)).mono ?_; rintro e w1 ⟨rfl, hb1⟩; obtain ⟨hc1, hf1⟩ := bcell hb1; have hcell := (hc1 b (off + (n - 1)) hb).trans hcell0)
    have hbT := hb0.trans (hb1.mono (by simp))
    go_loop [3, 4] (fun m u => ∃ k r : Nat, r < 1000000000 ∧ k ≤ 9000000009 ∧ m = .int .i64 k ∧ u = .int .u64 r ∧ Hid (k + nd0 r = 9 * (n - 1) + nd0 t)) (fun _ u => (intOf u).toNat)
    case atStart => exact ⟨9 * (n - 1), t, htB, by omega, by go_num, rfl, rfl⟩
    case round =>
      obtain ⟨k, r, hr, hk, rfl, rfl, hs⟩ := hrel
      by_cases h0 : 0 < r
      · have h1 : Hid (k + 1 + nd0 (r / 10) = 9 * (n - 1) + nd0 t) := by
          show _ = _
          have := hs.out
          rw [nd0_step h0] at this; omega
        have hk9 : k ≤ 9000000008 := by
          have := hs.out
          have h2 : nd0 r ≥ 1 := by rw [nd0_step h0]; omega
          have h3 : nd0 t ≤ 9 := by
            unfold nd0; rw [if_neg (by omega)]
            exact nDigits_le (k := 9) (by decide) htB
          omega
        go_wp2
        go_round
        case rel => exact ⟨k + 1, r / 10, by omega, by omega, by go_num, by go_num, h1⟩
        case measure => simp [intOf]; omega
      · obtain rfl : r = 0 := by omega
        have h1 : k = nd0 (dv BW xs) := by have := hs.out; rw [HF.out]; simpa [nd0] using this
        have H1 := Lib.hid h1
        clear h1
        go_wp2
        go_ret
        exact ⟨ret_int (by rw [← H1.out]), hbT⟩
end Go.Proofs.YtapfkinpdinbgaaDoor
