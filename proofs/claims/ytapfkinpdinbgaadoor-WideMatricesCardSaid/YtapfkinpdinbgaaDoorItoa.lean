/-
  What is written is read. Plain.
-/
import Derived.Test.YtapfkinpdinbgaaDoorRefParse
import Derived.Lib.ItoaLen
namespace Go.Proofs.YtapfkinpdinbgaaDoor
open Go.Lib

theorem dec_says (u : Nat) : (decDigits u).all isDg = true ∧ decV (decDigits u) = u ∧ decDigits u ≠ [] ∧ (0 < u → (decDigits u).head? ≠ some 48) := by
  induction u using Nat.strongRecOn with
  | _ u ih =>
    have key : ∀ d, d < 10 → (UInt8.ofNat (48 + d)).toNat = 48 + d := fun d hd => by simp; omega
    by_cases h : u < 10
    · have e : decDigits u = [UInt8.ofNat (48 + u)] := by rw [decDigits.eq_1, dif_pos h]
      have k := key u h
      rw [e]
      refine ⟨?_, ?_, by simp, fun h0 => ?_⟩
      · rw [List.all_cons, List.all_nil, Bool.and_true]; unfold isDg; rw [k]; simp; omega
      · unfold decV; rw [List.foldl_cons, List.foldl_nil, k]; omega
      · intro e2
        have h5 := congrArg UInt8.toNat (Option.some.inj (show some (UInt8.ofNat (48 + u)) = some 48 from e2))
        rw [k] at h5
        have h6 : (48 : UInt8).toNat = 48 := rfl
        omega
    · have e : decDigits u = decDigits (u / 10) ++ [UInt8.ofNat (48 + u % 10)] := by rw [decDigits.eq_1, dif_neg h]
      obtain ⟨h1, h2, h3, h4⟩ := ih (u / 10) (by omega)
      have k := key (u % 10) (by omega)
      rw [e]
      refine ⟨?_, ?_, by simp, fun h0 => ?_⟩
      · rw [List.all_append, h1, List.all_cons, List.all_nil, Bool.and_true, Bool.true_and]; unfold isDg; rw [k]; simp; omega
      · rw [decV_snoc, h2, k]; omega
      · cases hd : decDigits (u / 10) with
        | nil => exact absurd hd h3
        | cons c t => have := h4 (by omega); rw [hd] at this; simpa using this

theorem itoa_says (z : Int) : plainB (itoa z) = true ∧ strV (itoa z) = z ∧ (digitsOf (itoa z)).length = nDigits z.natAbs := by
  by_cases h : 0 ≤ z
  · obtain ⟨u, rfl⟩ : ∃ u : Nat, z = (u : Int) := ⟨z.toNat, by omega⟩
    obtain ⟨h1, h2, h3, h4⟩ := dec_says u
    rw [itoa_nonneg]
    have h0 : u = 0 → decDigits u = [48] := fun e => by rw [e]; decide +kernel
    have hlen := decDigits_length u
    cases hd : decDigits u with
    | nil => exact absurd hd h3
    | cons c t =>
      rw [hd] at h1 h2 h4 h0 hlen
      have hc : c ≠ 45 := by
        rintro rfl
        rw [List.all_cons] at h1
        simp [isDg] at h1
      have hds : digitsOf (c :: t) = c :: t := by simp [digitsOf, hc]
      have hn : isNeg (c :: t) = false := by simp [isNeg, hc]
      refine ⟨?_, ?_, ?_⟩
      · unfold plainB; rw [hds, h1]
        by_cases hu : 0 < u
        · have := h4 hu; simp at this; simp [this]
        · have := h0 (by omega); simp [this]
      · unfold strV; rw [hds, hn, h2]; rfl
      · rw [hds, hlen]; simp
  · obtain ⟨u, rfl⟩ : ∃ u : Nat, z = -(u : Int) := ⟨(-z).toNat, by omega⟩
    have hu : 1 ≤ u := by omega
    obtain ⟨h1, h2, h3, h4⟩ := dec_says u
    rw [itoa_neg u hu]
    have hds : digitsOf (45 :: decDigits u) = decDigits u := by simp [digitsOf]
    have hn : isNeg (45 :: decDigits u) = true := by simp [isNeg]
    refine ⟨?_, ?_, ?_⟩
    · unfold plainB; rw [hds, h1]
      have := h4 (by omega)
      have h5 : (decDigits u).isEmpty = false := by cases hd : decDigits u with
        | nil => exact absurd hd h3
        | cons c t => rfl
      simp [h5, this]
    · unfold strV; rw [hds, hn, h2]; rfl
    · rw [hds, decDigits_length, Int.natAbs_neg, Int.natAbs_natCast]

theorem itoa_num {z : Int} (h : nDigits z.natAbs ≤ 2000) : numB (itoa z) = true := by
  obtain ⟨h1, _, h3⟩ := itoa_says z
  unfold numB; rw [h1, h3]; simpa using h

theorem itoa_i64 {n : Int} (h0 : -9223372036854775808 ≤ n) (h1 : n ≤ 9223372036854775807) : toOk (itoa n) = true ∧ toInt (itoa n) = n ∧ (itoa n).length ≤ 21 := by
  have hd : nDigits n.natAbs ≤ 20 := nDigits_le20 _ (by omega)
  have h2 := itoa_num (z := n) (by omega)
  obtain ⟨h3, h4, h5⟩ := itoa_says n
  have hi : inI64 n = true := by unfold inI64; simp; omega
  have ho : toOk (itoa n) = true := by unfold toOk; rw [h2, h4, hi]; rfl
  refine ⟨ho, by unfold toInt; rw [ho, h4]; rfl, ?_⟩
  have : (itoa n).length ≤ (digitsOf (itoa n)).length + 1 := by
    cases itoa n with
    | nil => simp
    | cons c t => by_cases h : c = 45 <;> simp [digitsOf, h]
  omega

end Go.Proofs.YtapfkinpdinbgaaDoor
