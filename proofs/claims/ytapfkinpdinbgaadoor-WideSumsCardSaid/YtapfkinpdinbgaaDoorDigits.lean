/-
  How many digits a number has.
-/
import Derived.Test.YtapfkinpdinbgaaDoorNumIs
import Derived.Test.YtapfkinpdinbgaaDoorDec
namespace Go.Proofs.YtapfkinpdinbgaaDoor
open Go.RowKit

set_option maxHeartbeats 400000 in
theorem isZero_any (neg : Bool) (p : Option Addr) (n c : Nat) (w : World) (hn : n ≤ maxLen) :
    Calls Tryd.prog 63 #[.agg #[.bool neg, .slice p n c]] w fun e w' => e = .returned (.bool (n == 0)) ∧ Below w.heap.size w w' := by
  unfold maxLen at hn
  by_cases h : n = 0
  · subst h
    go_enter Tryd.func63, Tryd.ntmps63
    go_wp2
    go_ret
    exact ⟨rfl, (Below.refl _ _).alloc (Nat.le_refl _) _⟩
  · have h1 : ((n : Int) == 0) = false := by simp; omega
    have h2 : (n == 0) = false := by simpa using h
    have H2 := Lib.hid h2
    clear h2
    go_enter Tryd.func63, Tryd.ntmps63
    go_wp2
    go_ret
    exact ⟨ret_val (congrArg Value.bool H2.out.symm), (Below.refl _ _).alloc (Nat.le_refl _) _⟩

set_option maxHeartbeats 1000000 in
theorem digits_any (neg : Bool) (p : Option Addr) (n c : Nat) (xs : List Nat) (w : World) (hn : n ≤ 1000000000) (hx : Rd .u64 w p n xs) (gx : Cn BW xs) :
    Calls Tryd.prog 71 #[.agg #[.bool neg, .slice p n c]] w fun e w' => e = .returned (.int .i64 (nd0 (dv BW xs) : Nat)) ∧ Below w.heap.size w w' := by
  have hb0 : Below w.heap.size w (w.alloc (.cells #[.bool neg, .slice p n c] 79)) := (Below.refl _ w).alloc (Nat.le_refl _) _
  have hx1 := hx.below hb0
  have y0 : w.heap.size < (w.alloc (.cells #[.bool neg, .slice p n c] 79)).heap.size := by simp
  by_cases h : n = 0
  · have hx0 : xs = [] := List.length_eq_zero_iff.1 (by rw [hx.1]; exact h)
    have hfin : nd0 (dv BW xs) = 0 := by rw [hx0]; rfl
    have HF := Lib.hid hfin
    subst h
    clear hfin hx0
    go_enter Tryd.func71, Tryd.ntmps71
    go_wp2_with (go_at_call 63; refine (isZero_any _ _ _ _ _ (by decide)).mono ?_; rintro e w1 ⟨rfl, hb1⟩)
    go_ret
    exact ⟨ret_int (by rw [HF.out]; rfl), hb0.trans (hb1.mono (by simp))⟩
  · have h2 : (n == 0) = false := by simpa using h
    have hne : xs ≠ [] := by intro e; apply h; rw [← hx.1, e]; rfl
    obtain ⟨b, off, rfl, hb, hcell0⟩ := hx1.2 (n - 1) (by omega)
    obtain ⟨t, ht⟩ : ∃ t, xs[n - 1]?.getD 0 = t := ⟨_, rfl⟩
    have hsplit : xs = xs.take (n - 1) ++ [t] := by
      rw [← ht, ← take_snoc xs (n - 1) (by rw [hx.1]; omega), List.take_of_length_le (by rw [hx.1]; omega)]
    have ht0 : 0 < t := by
      have := gx.2
      rw [hsplit] at this
      simp [Tp] at this
      omega
    have htB : t < 1000000000 := by rw [← ht]; exact gx.1.get (by decide) _
    have hlen : (xs.take (n - 1)).length = n - 1 := by rw [List.length_take, hx.1]; omega
    have hfin : nd0 (dv BW xs) = 9 * (n - 1) + nd0 t := by
      have h1 := nDigits_dv (lo := xs.take (n - 1)) (top := t) (gx.1.take _) ht0
      rw [← hsplit, hlen] at h1
      have h2 : dv BW xs ≠ 0 := by have := gx.pos (by decide) hne; omega
      unfold nd0
      rw [if_neg h2, if_neg (by omega), h1]
    have HF := Lib.hid hfin
    have hpos : 0 < n := by omega
    rw [ht] at hcell0
    clear ht hsplit hlen hfin hne
    go_enter Tryd.func71, Tryd.ntmps71
    go_wp2_with (go_at_call 63; refine (isZero_any _ _ _ _ _ (by unfold maxLen; omega)).mono ?_; rintro e w1 ⟨rfl, hb1⟩; obtain ⟨hc1, hf1⟩ := bcell hb1; have hcell := (hc1 b (off + (n - 1)) hb).trans hcell0)
    have hbT := hb0.trans (hb1.mono (by simp))
    go_loop [3, 4] (fun m u => ∃ k r : Nat, r < 1000000000 ∧ k ≤ 9000000009 ∧ m = .int .i64 k ∧ u = .int .u64 r ∧ Hid (k + nd0 r = 9 * (n - 1) + nd0 t)) (fun _ u => (intOf u).toNat)
    case atStart => exact ⟨9 * (n - 1), t, htB, by omega, by go_num, rfl, rfl⟩
    case round =>
      obtain ⟨k, r, hr, hk, rfl, rfl, hs⟩ := hrel
      by_cases h0 : 0 < r
      · have h1 : Hid (k + 1 + nd0 (r / 10) = 9 * (n - 1) + nd0 t) := by
          show _ = _
          have := hs.out
          rw [nd0_step h0] at this; omega
        have hk9 : k ≤ 9000000008 := by
          have := hs.out
          have h2 : nd0 r ≥ 1 := by rw [nd0_step h0]; omega
          have h3 : nd0 t ≤ 9 := by
            unfold nd0; rw [if_neg (by omega)]
            exact nDigits_le (k := 9) (by decide) htB
          omega
        go_wp2
        go_round
        case rel => exact ⟨k + 1, r / 10, by omega, by omega, by go_num, by go_num, h1⟩
        case measure => simp [intOf]; omega
      · obtain rfl : r = 0 := by omega
        have h1 : k = nd0 (dv BW xs) := by have := hs.out; rw [HF.out]; simpa [nd0] using this
        have H1 := Lib.hid h1
        clear h1
        go_wp2
        go_ret
        exact ⟨ret_int (by rw [← H1.out]), hbT⟩
end Go.Proofs.YtapfkinpdinbgaaDoor
