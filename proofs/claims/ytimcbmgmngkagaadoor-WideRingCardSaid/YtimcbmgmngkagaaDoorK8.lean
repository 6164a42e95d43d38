/-
  Long division, its two steps in place: what is taken from a window of words, what is added back; Long division, a word of the quotient guessed: plain; Long division: guessWord; Long division: subtractTimes, addBack; Long division as on paper: plain.
-/
import Derived.Deep.CutBlock
import Derived.WalkMore
import Derived.Test.YtimcbmgmngkagaaDoorK1
namespace Go.Proofs.YtimcbmgmngkagaaDoor
open Go.RowKit

theorem seg_get (pre win post : List Nat) {i : Nat} (h : i < win.length) : (pre ++ win ++ post)[pre.length + i]?.getD 0 = win[i]?.getD 0 := by
  rw [List.append_assoc, List.getElem?_append_right (by omega), Nat.add_sub_cancel_left, List.getElem?_append_left h]
theorem seg_set (pre win post : List Nat) {i : Nat} (h : i < win.length) (x : Nat) : (pre ++ win ++ post).set (pre.length + i) x = pre ++ win.set i x ++ post := by
  rw [List.append_assoc, List.set_append_right _ _ (by omega), Nat.add_sub_cancel_left, List.set_append_left _ _ h, List.append_assoc]
theorem take_set {zs : List Nat} {j : Nat} (h : j < zs.length) (x : Nat) : (zs.set j x).take (j + 1) = zs.take j ++ [x] := by
  rw [List.take_succ_eq_append_getElem (by rw [List.length_set]; exact h), List.getElem_set_self, List.take_set_of_le (Nat.le_refl _)]
theorem dv_take_set {b : Nat} {zs : List Nat} {j : Nat} (h : j < zs.length) (x : Nat) : dv b ((zs.set j x).take (j + 1)) = dv b (zs.take j) + b ^ j * x := by
  rw [take_set h, dv_snoc, List.length_take, Nat.min_eq_left (by omega)]

/-- times y taken from the window, as far as word j. -/
def SubT (ys z0 zs : List Nat) (t j c b : Nat) : Prop :=
  zs.length = z0.length ∧ Dg BW zs ∧ c < BW ∧ b ≤ 1 ∧ dv BW (zs.take j) + t * dv BW (ys.take j) = dv BW (z0.take j) + BW ^ j * (c + b) ∧ (∃ s, t * dv BW (ys.take j) = s + BW ^ j * c) ∧ ∀ i, j ≤ i → zs[i]?.getD 0 = z0[i]?.getD 0

theorem SubT.start {ys z0 : List Nat} {t : Nat} (h : Dg BW z0) : SubT ys z0 z0 t 0 0 0 :=
  ⟨rfl, h, by decide, Nat.zero_le _, by simp [dv], ⟨0, by simp [dv]⟩, fun _ _ => rfl⟩

theorem SubT.step {ys z0 zs : List Nat} {t j c b c1 x b' : Nat} (h : SubT ys z0 zs t j c b) (hj : j < z0.length) (gy : Dg BW ys) (ht : t < BW) (hc1 : c + t * ys[j]?.getD 0 = c1) (hx : x + (c1 % BW + b) = z0[j]?.getD 0 + BW * b') (hx1 : x < BW) (hb : b' ≤ 1) :
    SubT ys z0 (zs.set j x) t (j + 1) (c1 / BW) b' := by
  obtain ⟨h1, h2, h3, h4, h5, ⟨s, h6⟩, h7⟩ := h
  have e1 : dv BW (ys.take (j + 1)) = dv BW (ys.take j) + BW ^ j * ys[j]?.getD 0 := dv_take_succ _ _ _
  have e2 : dv BW (z0.take (j + 1)) = dv BW (z0.take j) + BW ^ j * z0[j]?.getD 0 := dv_take_succ _ _ _
  have e3 : dv BW ((zs.set j x).take (j + 1)) = dv BW (zs.take j) + BW ^ j * x := dv_take_set (by omega) x
  have e4 := Nat.div_add_mod c1 BW
  refine ⟨by rw [List.length_set]; exact h1, h2.set _ hx1, ?_, hb, ?_, ⟨s + BW ^ j * (c1 % BW), ?_⟩, fun i hi => ?_⟩
  · rw [Nat.div_lt_iff_lt_mul (by decide)]
    have g1 := gy.get (b := BW) (by decide) j
    have g2 := mul_fits (b := BW) (by decide) h3 ht g1 (show 0 < BW by decide)
    rw [Nat.add_zero] at g2
    omega
  · rw [e1, e2, e3]
    generalize ys[j]?.getD 0 = y at *
    generalize z0[j]?.getD 0 = z at *
    have k1 : c + b + x + t * y = z + BW * (c1 / BW) + BW * b' := by omega
    have k2 : BW ^ j * (c + b + x + t * y) = BW ^ j * (z + BW * (c1 / BW) + BW * b') := by rw [k1]
    rw [Nat.pow_succ]
    grind
  · rw [e1]
    have k1 : BW ^ j * (c + t * ys[j]?.getD 0) = BW ^ j * (BW * (c1 / BW) + c1 % BW) := by rw [e4, hc1]
    rw [Nat.pow_succ]
    grind
  · rw [set_get_other _ _ _ _ (by omega)]; exact h7 i (by omega)

theorem SubT.done {ys z0 zs : List Nat} {t c b : Nat} (h : SubT ys z0 zs t z0.length c b) (gy : Dg BW ys) (ht : t < BW) (hl : z0.length = ys.length + 1) : zs.length = z0.length ∧ Dg BW zs ∧ b ≤ 1 ∧ dv BW zs + t * dv BW ys = dv BW z0 + BW ^ z0.length * b := by
  obtain ⟨h1, h2, h3, h4, h5, ⟨s, h6⟩, h7⟩ := h
  have hy : ys.take z0.length = ys := List.take_of_length_le (by omega)
  have hz : zs.take z0.length = zs := List.take_of_length_le (by omega)
  rw [hy, hz, List.take_length] at h5
  rw [hy] at h6
  have g1 := dv_lt gy
  have hc : c = 0 := by
    rcases Nat.eq_zero_or_pos c with h | h
    · exact h
    · have g2 : BW ^ z0.length ≤ BW ^ z0.length * c := Nat.le_mul_of_pos_right _ h
      have g3 : t * dv BW ys < BW * BW ^ ys.length := Nat.mul_lt_mul_of_lt_of_le ht (Nat.le_of_lt g1) (Nat.pow_pos (by decide))
      have g4 : BW ^ z0.length = BW * BW ^ ys.length := by rw [hl, Nat.pow_succ, Nat.mul_comm]
      omega
  subst hc
  rw [Nat.zero_add] at h5
  exact ⟨h1, h2, h4, h5⟩

/-- y added to the window, as far as word j. -/
def AddT (ys z0 zs : List Nat) (j c : Nat) : Prop :=
  zs.length = z0.length ∧ Dg BW zs ∧ c ≤ 1 ∧ dv BW (zs.take j) + BW ^ j * c = dv BW (z0.take j) + dv BW (ys.take j) ∧ ∀ i, j ≤ i → zs[i]?.getD 0 = z0[i]?.getD 0

theorem AddT.start {ys z0 : List Nat} (h : Dg BW z0) : AddT ys z0 z0 0 0 := ⟨rfl, h, Nat.zero_le _, by simp [dv], fun _ _ => rfl⟩
theorem AddT.step {ys z0 zs : List Nat} {j c s : Nat} (h : AddT ys z0 zs j c) (hj : j < z0.length) (gz : Dg BW z0) (gy : Dg BW ys) (hs : c + z0[j]?.getD 0 + ys[j]?.getD 0 = s) : AddT ys z0 (zs.set j (s % BW)) (j + 1) (s / BW) := by
  obtain ⟨h1, h2, h3, h4, h5⟩ := h
  have g1 := gy.get (b := BW) (by decide) j
  have g2 := gz.get (b := BW) (by decide) j
  have e1 : dv BW (ys.take (j + 1)) = dv BW (ys.take j) + BW ^ j * ys[j]?.getD 0 := dv_take_succ _ _ _
  have e2 : dv BW (z0.take (j + 1)) = dv BW (z0.take j) + BW ^ j * z0[j]?.getD 0 := dv_take_succ _ _ _
  have e3 : dv BW ((zs.set j (s % BW)).take (j + 1)) = dv BW (zs.take j) + BW ^ j * (s % BW) := dv_take_set (by omega) _
  have e4 := Nat.div_add_mod s BW
  refine ⟨by rw [List.length_set]; exact h1, h2.set _ (Nat.mod_lt _ (by decide)), ?_, ?_, fun i hi => ?_⟩
  · have g3 : s < 2 * BW := by omega
    have g4 : s / BW < 2 := by rw [Nat.div_lt_iff_lt_mul (by decide)]; exact g3
    omega
  · rw [e1, e2, e3]
    have k1 : BW ^ j * (c + z0[j]?.getD 0 + ys[j]?.getD 0) = BW ^ j * (BW * (s / BW) + s % BW) := by rw [e4, hs]
    rw [Nat.pow_succ]
    grind
  · rw [set_get_other _ _ _ _ (by omega)]; exact h5 i (by omega)
theorem AddT.done {ys z0 zs : List Nat} {c : Nat} (h : AddT ys z0 zs z0.length c) (hl : ys.length ≤ z0.length) : zs.length = z0.length ∧ Dg BW zs ∧ c ≤ 1 ∧ dv BW zs + BW ^ z0.length * c = dv BW z0 + dv BW ys := by
  obtain ⟨h1, h2, h3, h4, h5⟩ := h
  rw [List.take_of_length_le (by omega), List.take_length, List.take_of_length_le hl] at h4
  exact ⟨h1, h2, h3, h4⟩

/-- Words in another block are kept. -/
theorem Rd.grownB {k : IntKind} {w w' : World} {p : Option Addr} {n : Nat} {xs : List Nat} {B : Nat} (h : Rd k w p n xs) (hne : ∀ b o, p = some ⟨b, o, none⟩ → b ≠ B) (hg : w.grownBy w' (some B)) : Rd k w' p n xs := by
  refine ⟨h.1, fun j hj => ?_⟩
  obtain ⟨b, off, hp, hlt, hc⟩ := h.2 j hj
  exact ⟨b, off, hp, Nat.lt_of_lt_of_le hlt hg.size, hg.cell hc (fun e => hne b off hp (Option.some.inj e))⟩
theorem grown_put {w w' : World} {B : Nat} (h : w.grownBy w' (some B)) (j : Nat) (u : Value) : w.grownBy (w'.setCell ⟨B, j, none⟩ u) (some B) := by
  refine ⟨by simpa [World.setCell] using h.os, by simpa [World.setCell] using h.tape, by simpa [World.setCell] using h.output, by simpa using h.size, fun k hk hne => ?_⟩
  rw [Below.heap_setCell _ _ _ _ (fun e => hne (by rw [e]))]
  exact h.block k hk hne

end Go.Proofs.YtimcbmgmngkagaaDoor

namespace Go.Proofs.YtimcbmgmngkagaaDoor

/-- What is known of the window U and of the divisor V: their highest words. -/
structure GuessK (B K U V un u1 u2 v1 v2 : Nat) : Prop where
  ul : (( un * B + u1) * B + u2) * K ≤ U
  uu : U < ((un * B + u1) * B + u2 + 1) * K
  vl : (v1 * B + v2) * K ≤ V
  vu : V < (v1 * B + v2 + 1) * K
  fit : U < V * B
  lu1 : u1 < B
  lu2 : u2 < B
  lv1 : v1 < B
  lv2 : v2 < B
  pos : 1 ≤ v1
  half : B ≤ 2 * v1

/-- The guess is not too small. -/
def GuessI (U V T v1 g l : Nat) : Prop := g * v1 + l = T ∧ U < (g + 1) * V

theorem top_le {B K U V un u1 u2 v1 v2 : Nat} (h : GuessK B K U V un u1 u2 v1 v2) : un ≤ v1 := by
  rcases Nat.lt_or_ge v1 un with hlt | hge
  · exfalso
    have e1 : v1 + 1 ≤ un := hlt
    have e2 : (v1 + 1) * B ≤ un * B + u1 := Nat.le_trans (Nat.mul_le_mul_right B e1) (Nat.le_add_right _ _)
    have e3 : (v1 + 1) * B * B ≤ (un * B + u1) * B + u2 := Nat.le_trans (Nat.mul_le_mul_right B e2) (Nat.le_add_right _ _)
    have e4 : (v1 + 1) * B * B * K ≤ U := Nat.le_trans (Nat.mul_le_mul_right K e3) h.ul
    have f1 : v1 * B + v2 + 1 ≤ (v1 + 1) * B := by have := h.lv2; rw [Nat.add_mul, Nat.one_mul]; omega
    have f2 : V < (v1 + 1) * B * K := Nat.lt_of_lt_of_le h.vu (Nat.mul_le_mul_right K f1)
    have f3 : V * B ≤ (v1 + 1) * B * K * B := Nat.mul_le_mul_right B (Nat.le_of_lt f2)
    have f4 : (v1 + 1) * B * K * B = (v1 + 1) * B * B * K := by rw [Nat.mul_assoc ((v1 + 1) * B) K B, Nat.mul_comm K B, ← Nat.mul_assoc]
    have := h.fit
    omega
  · exact hge

theorem guess_start {B K U V un u1 u2 v1 v2 : Nat} (h : GuessK B K U V un u1 u2 v1 v2) : GuessI U V (un * B + u1) v1 ((un * B + u1) / v1) ((un * B + u1) % v1) ∧ (un * B + u1) / v1 ≤ B + 1 ∧ (un * B + u1) % v1 < B := by
  have hp := h.pos
  generalize hT : un * B + u1 = T
  have e0 := Nat.div_add_mod T v1
  have e1 := Nat.mod_lt T (show 0 < v1 by omega)
  have hT2 : T ≤ v1 * B + (B - 1) := by
    have := Nat.mul_le_mul_right B (top_le h)
    have := h.lu1
    omega
  refine ⟨⟨by rw [Nat.mul_comm]; exact e0, ?_⟩, ?_, by have := h.lv1; omega⟩
  · have k1 : T + 1 ≤ (T / v1 + 1) * v1 := by rw [Nat.add_mul, Nat.one_mul, Nat.mul_comm (T / v1) v1]; omega
    have k2 : T * B + u2 + 1 ≤ (T + 1) * B := by have := h.lu2; rw [Nat.add_mul, Nat.one_mul]; omega
    have k3 : (T + 1) * B ≤ (T / v1 + 1) * v1 * B := Nat.mul_le_mul_right B k1
    have k4 : (T / v1 + 1) * v1 * B ≤ (T / v1 + 1) * (v1 * B + v2) := by rw [Nat.mul_assoc]; exact Nat.mul_le_mul_left _ (Nat.le_add_right _ _)
    have k5 : (T * B + u2 + 1) * K ≤ (T / v1 + 1) * (v1 * B + v2) * K := Nat.mul_le_mul_right K (Nat.le_trans k2 (Nat.le_trans k3 k4))
    have k6 : (T / v1 + 1) * (v1 * B + v2) * K ≤ (T / v1 + 1) * V := by rw [Nat.mul_assoc]; exact Nat.mul_le_mul_left _ h.vl
    have := h.uu
    rw [hT] at this
    omega
  · have k1 : T < (B + 2) * v1 := by
      rw [Nat.add_mul, Nat.mul_comm B v1]
      have := h.half
      have := h.lu1
      omega
    have k2 : T / v1 < B + 2 := (Nat.div_lt_iff_lt_mul (by omega)).2 k1
    omega

theorem guess_big {B K U V un u1 u2 v1 v2 g l : Nat} (h : GuessK B K U V un u1 u2 v1 v2) (hi : GuessI U V (un * B + u1) v1 g l) (hg : B ≤ g) : GuessI U V (un * B + u1) v1 (g - 1) (l + v1) := by
  have hB := h.lu1
  obtain ⟨m, rfl⟩ : ∃ m, g = m + 1 := ⟨g - 1, by omega⟩
  rw [Nat.add_sub_cancel]
  refine ⟨by rw [← hi.1, Nat.add_mul, Nat.one_mul]; omega, ?_⟩
  have k1 : B * V ≤ (m + 1) * V := Nat.mul_le_mul_right V hg
  have := h.fit
  rw [Nat.mul_comm V B] at this
  omega

theorem guess_step {B K U V un u1 u2 v1 v2 g l : Nat} (h : GuessK B K U V un u1 u2 v1 v2) (hi : GuessI U V (un * B + u1) v1 g l) (hg : l * B + u2 < g * v2) : 1 ≤ g ∧ GuessI U V (un * B + u1) v1 (g - 1) (l + v1) := by
  have hg0 : 1 ≤ g := by
    rcases Nat.eq_zero_or_pos g with h0 | h0
    · subst h0; rw [Nat.zero_mul] at hg; omega
    · exact h0
  obtain ⟨m, rfl⟩ : ∃ m, g = m + 1 := ⟨g - 1, by omega⟩
  refine ⟨hg0, ?_⟩
  rw [Nat.add_sub_cancel]
  refine ⟨by rw [← hi.1, Nat.add_mul, Nat.one_mul]; omega, ?_⟩
  have e1 := hi.1
  have huu := h.uu
  have hvl := h.vl
  clear hi h
  generalize un * B + u1 = T at *
  have k1 : T * B + u2 + 1 ≤ (m + 1) * (v1 * B + v2) := by
    have : (m + 1) * (v1 * B + v2) = ((m + 1) * v1) * B + (m + 1) * v2 := by rw [Nat.mul_add, Nat.mul_assoc]
    rw [this, ← e1, Nat.add_mul]
    omega
  have k2 : (T * B + u2 + 1) * K ≤ (m + 1) * (v1 * B + v2) * K := Nat.mul_le_mul_right K k1
  have k3 : (m + 1) * (v1 * B + v2) * K ≤ (m + 1) * V := by rw [Nat.mul_assoc]; exact Nat.mul_le_mul_left _ hvl
  omega

/-- The guess is at most one too great. -/
theorem guess_done {B K U V un u1 u2 v1 v2 g l : Nat} (h : GuessK B K U V un u1 u2 v1 v2) (hi : GuessI U V (un * B + u1) v1 g l) (hx : B ≤ l ∨ (g < B ∧ g * v2 ≤ l * B + u2)) : g < B ∧ g * V < U + V ∧ U < (g + 1) * V := by
  have e1 := hi.1
  have htop := top_le h
  have hT2 : un * B + u1 ≤ v1 * B + (B - 1) := by
    have := Nat.mul_le_mul_right B htop
    have := h.lu1
    omega
  have hgB : g < B := by
    rcases hx with hx | hx
    · have k1 : g * v1 < B * v1 := by rw [Nat.mul_comm B v1]; have := h.lu1; omega
      exact Nat.lt_of_mul_lt_mul_right k1
    · exact hx.1
  have hkey : g * (v1 * B + v2) ≤ (un * B + u1) * B + u2 := by
    have k0 : g * (v1 * B + v2) = (g * v1) * B + g * v2 := by rw [Nat.mul_add, Nat.mul_assoc]
    rw [k0, ← e1, Nat.add_mul]
    rcases hx with hx | hx
    · have k1 : g * v2 ≤ B * B := Nat.mul_le_mul (Nat.le_of_lt hgB) (Nat.le_of_lt h.lv2)
      have k2 : B * B ≤ l * B := Nat.mul_le_mul_right B hx
      omega
    · have := hx.2
      omega
  refine ⟨hgB, ?_, hi.2⟩
  obtain ⟨r, hr⟩ : ∃ r, V = (v1 * B + v2) * K + r := ⟨V - (v1 * B + v2) * K, by have := h.vl; omega⟩
  have hrK : r < K := by have := h.vu; rw [Nat.add_mul, Nat.one_mul] at this; omega
  have k1 : g * V = g * (v1 * B + v2) * K + g * r := by rw [hr, Nat.mul_add, Nat.mul_assoc]
  have k2 : g * (v1 * B + v2) * K ≤ ((un * B + u1) * B + u2) * K := Nat.mul_le_mul_right K hkey
  have k3 : g * r ≤ g * K := Nat.mul_le_mul_left g (Nat.le_of_lt hrK)
  have k4 : g * K < B * K := Nat.mul_lt_mul_of_pos_right hgB (by omega)
  have k5 : B * K ≤ (v1 * B + v2) * K := Nat.mul_le_mul_right K (by have := Nat.mul_le_mul_right B h.pos; omega)
  have := h.ul
  have := h.vl
  omega

/-- The highest three words of a window, the highest two of a divisor. -/
theorem guessK_of {us vs : List Nat} {n : Nat} (gu : Dg BW us) (gv : Dg BW vs) (hn : 2 ≤ n) (hu : us.length = n + 1) (hv : vs.length = n) (hfit : dv BW us < dv BW vs * BW) (hhalf : BW ≤ 2 * vs[n - 1]?.getD 0) :
    GuessK BW (BW ^ (n - 2)) (dv BW us) (dv BW vs) (us[n]?.getD 0) (us[n - 1]?.getD 0) (us[n - 2]?.getD 0) (vs[n - 1]?.getD 0) (vs[n - 2]?.getD 0) := by
  obtain ⟨m, rfl⟩ : ∃ m, n = m + 2 := ⟨n - 2, by omega⟩
  rw [Nat.add_sub_cancel, show m + 2 - 1 = m + 1 by omega]
  rw [show m + 2 - 1 = m + 1 by omega] at hhalf
  have eu : dv BW us = dv BW (us.take m) + BW ^ m * us[m]?.getD 0 + BW ^ (m + 1) * us[m + 1]?.getD 0 + BW ^ (m + 2) * us[m + 2]?.getD 0 := by
    have h3 := dv_take_succ BW us (m + 2)
    have h2 : dv BW (us.take (m + 2)) = dv BW (us.take (m + 1)) + BW ^ (m + 1) * us[m + 1]?.getD 0 := dv_take_succ BW us (m + 1)
    have h1 := dv_take_succ BW us m
    rw [List.take_of_length_le (by omega)] at h3
    omega
  have ev : dv BW vs = dv BW (vs.take m) + BW ^ m * vs[m]?.getD 0 + BW ^ (m + 1) * vs[m + 1]?.getD 0 := by
    have h2 := dv_take_succ BW vs (m + 1)
    have h1 := dv_take_succ BW vs m
    rw [List.take_of_length_le (by omega)] at h2
    omega
  have lu := dv_lt (gu.take m)
  have lv := dv_lt (gv.take m)
  rw [List.length_take, Nat.min_eq_left (by omega)] at lu lv
  have b0 := gu.get (b := BW) (by decide) m
  have b1 := gu.get (b := BW) (by decide) (m + 1)
  have c0 := gv.get (b := BW) (by decide) m
  have c1 := gv.get (b := BW) (by decide) (m + 1)
  have p1 : BW ^ (m + 1) = BW ^ m * BW := Nat.pow_succ ..
  have p2 : BW ^ (m + 2) = BW ^ m * BW * BW := by rw [Nat.pow_succ, Nat.pow_succ]
  rw [p1, p2] at eu
  rw [p1] at ev
  have hB : 1 ≤ BW := by decide
  generalize us[m]?.getD 0 = u0 at *
  generalize us[m + 1]?.getD 0 = u1 at *
  generalize us[m + 2]?.getD 0 = u2 at *
  generalize vs[m]?.getD 0 = v0 at *
  generalize vs[m + 1]?.getD 0 = v1 at *
  generalize hKK : BW ^ m = K at *
  have eU : ((u2 * BW + u1) * BW + u0) * K = K * u0 + K * BW * u1 + K * BW * BW * u2 := by grind
  have eV : (v1 * BW + v0) * K = K * v0 + K * BW * v1 := by grind
  refine { ul := ?_, uu := ?_, vl := ?_, vu := ?_, fit := hfit, lu1 := b1, lu2 := b0, lv1 := c1, lv2 := c0, pos := ?_, half := hhalf }
  · rw [eU]; omega
  · rw [Nat.add_mul, Nat.one_mul, eU]; omega
  · rw [eV]; omega
  · rw [Nat.add_mul, Nat.one_mul, eV]; omega
  · omega

end Go.Proofs.YtimcbmgmngkagaaDoor

namespace Go.Proofs.YtimcbmgmngkagaaDoor
open Go.RowKit

set_option maxRecDepth 100000 in
set_option maxHeartbeats 4000000 in
theorem guessWord_any (p q : Option Addr) (n m c d : Nat) (us vs : List Nat) (w : World) (hn : 2 ≤ n) (hn1 : n ≤ 1000000000) (hm : m = n + 1) (hu : Rd .u64 w p m us) (hv : Rd .u64 w q n vs) (gu : Dg BW us) (gv : Dg BW vs) (hfit : dv BW us < dv BW vs * BW) (hhalf : BW ≤ 2 * vs[n - 1]?.getD 0) :
    Calls Tryd.prog 70 #[.slice p m c, .slice q n d] w fun e w' => ∃ g : Nat, e = .returned (.int .u64 (g : Int)) ∧ g < BW ∧ g * dv BW vs < dv BW us + dv BW vs ∧ dv BW us < (g + 1) * dv BW vs ∧ Below w.heap.size w w' := by
  have hK := guessK_of gu gv hn (by rw [hu.1]; exact hm) hv.1 hfit hhalf
  obtain ⟨b0, o0, rfl, hl0, hc2⟩ := hu.2 n (by omega)
  obtain ⟨_, _, e1, _, hc1⟩ := hu.2 (n - 1) (by omega)
  cases e1
  obtain ⟨_, _, e1, _, hc0⟩ := hu.2 (n - 2) (by omega)
  cases e1
  obtain ⟨b1, o1, rfl, hl1, hd1⟩ := hv.2 (n - 1) (by omega)
  obtain ⟨_, _, e1, _, hd0⟩ := hv.2 (n - 2) (by omega)
  cases e1
  generalize us[n]?.getD 0 = u2 at *
  generalize us[n - 1]?.getD 0 = u1 at *
  generalize us[n - 2]?.getD 0 = u0 at *
  generalize vs[n - 1]?.getD 0 = v1 at *
  generalize vs[n - 2]?.getD 0 = v0 at *
  have k1 : u1 < 1000000000 := hK.lu1
  have k0 : u0 < 1000000000 := hK.lu2
  have j1 : v1 < 1000000000 := hK.lv1
  have j0 : v0 < 1000000000 := hK.lv2
  have jp := hK.pos
  have ktop := top_le hK
  obtain ⟨s1, s2, s3⟩ := guess_start hK
  have HK := Lib.hid hK
  have HS1 := Lib.hid s1
  obtain ⟨T, hT⟩ : ∃ T, u2 * BW + u1 = T := ⟨_, rfl⟩
  have hTc : (u2 : Int) * 1000000000 + (u1 : Int) = (T : Int) := by rw [← hT]; simp
  have hT9 : T < 1000000000000000000 := by rw [← hT]; show u2 * 1000000000 + u1 < _; omega
  rw [hT] at s1 s2 s3
  obtain ⟨G, hG⟩ : ∃ G, T / v1 = G := ⟨_, rfl⟩
  obtain ⟨L, hL⟩ : ∃ L, T % v1 = L := ⟨_, rfl⟩
  rw [hG, hL] at s1
  rw [hG] at s2
  rw [hL] at s3
  have hGc : (T : Int) / (v1 : Int) = (G : Int) := by rw [← hG]; simp
  have hLc : (T : Int) % (v1 : Int) = (L : Int) := by rw [← hL]; simp
  have HTE := Lib.hid hT
  have HSS := Lib.hid s1
  have s2' : G ≤ 1000000001 := s2
  have s3' : L < 1000000000 := s3
  have hvp : (0 : Int) < (v1 : Int) := by omega
  have hv0 : ¬ (v1 : Int) = 0 := by omega
  obtain ⟨N2, hN2⟩ : ∃ N2, n - 2 = N2 := ⟨_, rfl⟩
  obtain ⟨N1, hN1⟩ : ∃ N1, n - 1 = N1 := ⟨_, rfl⟩
  rw [hN2] at hc0 hd0
  rw [hN1] at hc1 hd1
  have hi2 : (n : Int) - 2 = (N2 : Int) := by omega
  have hi1 : (n : Int) - 1 = (N1 : Int) := by omega
  have hm1 : (n : Int) < (m : Int) := by omega
  have hm2 : (N1 : Int) < (m : Int) := by omega
  have hm3 : (N2 : Int) < (m : Int) := by omega
  have hn2 : (N1 : Int) < (n : Int) := by omega
  have hn3 : (N2 : Int) < (n : Int) := by omega
  clear hK s1 s2 s3 hT hG hL hu hv hN1 hN2 hm
  go_enter Tryd.func70, Tryd.ntmps70
  go_wp2_with fail
  go_step3
  go_upto_region 2 with fail
  go_quiet (fail)
  go_upto_region 3 with fail
  go_quiet (fail)
  go_wp2_with fail
  go_step3
  go_wp2_with fail
  go_loopg [7, 8] G (fun gk v7 v8 wr => ∃ g l : Nat, gk = g ∧ v7 = .int .u64 (g : Int) ∧ v8 = .int .u64 (l : Int) ∧ Hid (GuessI (dv BW us) (dv BW vs) T v1 g l) ∧ g ≤ 1000000001 ∧ l < 2000000000 ∧ Below w.heap.size w wr)
  case atStart => exact ⟨G, L, rfl, rfl, congrArg (Value.int .u64) hLc, HSS, s2', by omega, by first | exact (below_drewN (below_drewN (Below.refl _ _) _) _) | exact Below.refl _ _⟩
  case round =>
    obtain ⟨g, l, hgk, rfl, rfl, HI, hg9, hl9, hb⟩ := hrel
    have HGK := Lib.hid hgk
    clear hgk hTc hT9 hGc hLc s2' s3' HSS HS1
    have hc2 := (hb.cell (p := ⟨b0, o0 + n, none⟩) hl0).trans hc2
    have hc1 := (hb.cell (p := ⟨b0, o0 + N1, none⟩) hl0).trans hc1
    have hc0 := (hb.cell (p := ⟨b0, o0 + N2, none⟩) hl0).trans hc0
    have hd1 := (hb.cell (p := ⟨b1, o1 + N1, none⟩) hl1).trans hd1
    have hd0 := (hb.cell (p := ⟨b1, o1 + N2, none⟩) hl1).trans hd0
    by_cases hlB : 1000000000 ≤ l
    · have hlBi : (1000000000 : Int) ≤ (l : Int) := by omega
      have HX : Hid (BW ≤ l ∨ (g < BW ∧ g * v0 ≤ l * BW + u0)) := Or.inl hlB
      go_wp2_with fail
      try simp only [Exit.inBlock, Exit.then, Exit.noGoto_ret]
      go_ret
      obtain ⟨r1, r2, r3⟩ := guess_done HK.out (by rw [HTE.out]; exact HI.out) HX.out
      exact ⟨g, rfl, r1, r2, r3, by first | exact hb | exact below_drewN hb _⟩
    · have hlBi : ¬ (1000000000 : Int) ≤ (l : Int) := by omega
      by_cases hgB : g < 1000000000
      · have hgBi : (g : Int) < 1000000000 := by omega
        obtain ⟨P, hP⟩ : ∃ P, g * v0 = P := ⟨_, rfl⟩
        have hPc : (g : Int) * (v0 : Int) = (P : Int) := by rw [← hP]; simp
        obtain ⟨pp1, pp2⟩ := prod_bound hgB j0
        rw [hPc] at pp1 pp2
        by_cases hle : P ≤ l * 1000000000 + u0
        · have hlei : (P : Int) ≤ (l : Int) * 1000000000 + (u0 : Int) := by omega
          have HX : Hid (BW ≤ l ∨ (g < BW ∧ g * v0 ≤ l * BW + u0)) := Or.inr ⟨hgB, by rw [hP]; exact hle⟩
          clear hP
          go_upto_region 5 with fail
          go_quiet (fail)
          go_wp2_with fail
          try simp only [Exit.inBlock, Exit.then, Exit.noGoto_ret]
          go_ret
          obtain ⟨r1, r2, r3⟩ := guess_done HK.out (by rw [HTE.out]; exact HI.out) HX.out
          exact ⟨g, rfl, r1, r2, r3, by first | exact hb | exact below_drewN hb _⟩
        · have hlei : ¬ (P : Int) ≤ (l : Int) * 1000000000 + (u0 : Int) := by omega
          have hgs := guess_step HK.out (by rw [HTE.out]; exact HI.out) (show l * BW + u0 < g * v0 by rw [hP]; show l * 1000000000 + u0 < P; omega)
          rw [HTE.out] at hgs
          obtain ⟨hg1, hn1⟩ := hgs
          have HN := Lib.hid hn1
          clear hP hn1
          go_upto_region 5 with fail
          go_quiet (fail)
          go_wp2_with fail
          go_roundg (g - 1)
          case measure => rw [HGK.out]; omega
          case rel => exact ⟨g - 1, l + v1, rfl, congrArg (Value.int .u64) (show ((g : Int) - 1) = ((g - 1 : Nat) : Int) by omega), congrArg (Value.int .u64) (show ((l : Int) + (v1 : Int)) = ((l + v1 : Nat) : Int) by omega), HN.out, by omega, by omega, by first | exact hb | exact below_drewN hb _⟩
      · have hgBi : ¬ (g : Int) < 1000000000 := by omega
        have hgBd : decide ((g : Int) < 1000000000) = false := by simp; omega
        have hgs := guess_big HK.out (by rw [HTE.out]; exact HI.out) (show BW ≤ g by show 1000000000 ≤ g; omega)
        rw [HTE.out] at hgs
        have HN := Lib.hid hgs
        clear hgs
        go_upto_region 5 with fail
        go_quiet (fail)
        go_wp2_with fail
        go_roundg (g - 1)
        case measure => rw [HGK.out]; omega
        case rel => exact ⟨g - 1, l + v1, rfl, congrArg (Value.int .u64) (show ((g : Int) - 1) = ((g - 1 : Nat) : Int) by omega), congrArg (Value.int .u64) (show ((l : Int) + (v1 : Int)) = ((l + v1 : Nat) : Int) by omega), HN.out, by omega, by omega, by first | exact hb | exact below_drewN hb _⟩

end Go.Proofs.YtimcbmgmngkagaaDoor

namespace Go.Proofs.YtimcbmgmngkagaaDoor
open Go.RowKit

set_option maxRecDepth 100000 in
set_option maxHeartbeats 4000000 in
theorem subtractTimes_any (B at_ m k : Nat) (cc d : Nat) (pre z0 post : List Nat) (q : Option Addr) (ys : List Nat) (t : Nat) (w : World) (hat : pre.length = at_) (hm : z0.length = m) (hk : k + 1 = m) (hm1 : m ≤ 1000000000) (ha1 : at_ ≤ 1000000000)
    (how : Own .u64 73 w B (pre ++ z0 ++ post)) (hy : Rd .u64 w q k ys) (hne : ∀ b o, q = some ⟨b, o, none⟩ → b ≠ B) (gz : Dg BW z0) (gy : Dg BW ys) (ht : t < BW) :
    Calls Tryd.prog 71 #[.slice (some ⟨B, at_, none⟩) m cc, .slice q k d, .int .u64 (t : Int)] w fun e w' => ∃ zs b, b ≤ 1 ∧ e = .returned (.bool (decide (b = 1))) ∧ zs.length = m ∧ Dg BW zs ∧ dv BW zs + t * dv BW ys = dv BW z0 + BW ^ m * b ∧ Own .u64 73 w' B (pre ++ zs ++ post) ∧ w.grownBy w' (some B) := by
  have HAT := Lib.hid hat
  have HM := Lib.hid hm
  have HY := Lib.hid hy
  have HNE := Lib.hid hne
  have hyl := hy.1
  have HYL := Lib.hid hyl
  have ht' : t < 1000000000 := ht
  clear hat hm hy hne hyl
  go_enter Tryd.func71, Tryd.ntmps71
  go_wp2
  go_loopg [7, 8, 14] m (fun gk v7 v8 v14 wr => ∃ (j : Nat) (zs : List Nat) (c b : Nat), j ≤ m ∧ gk = m - j ∧ v7 = .int .u64 (c : Int) ∧ v8 = .int .u64 (b : Int) ∧ v14 = .int .i64 (j : Int) ∧ Hid (SubT ys z0 zs t j c b) ∧ Own .u64 73 wr B (pre ++ zs ++ post) ∧ w.grownBy wr (some B))
  case atStart => exact ⟨0, z0, 0, 0, Nat.zero_le _, rfl, rfl, rfl, rfl, SubT.start gz, how, ⟨rfl, rfl, rfl, Nat.le_refl _, fun _ _ _ => rfl⟩⟩
  case round =>
    obtain ⟨j, zs, c, b, hj, hgk, rfl, rfl, rfl, HS, hown, hg⟩ := hrel
    have HGK := Lib.hid hgk
    clear hgk
    have hb1 : b ≤ 1 := HS.out.2.2.2.1
    have hc1000 : c < 1000000000 := HS.out.2.2.1
    have HZL := Lib.hid HM.out
    by_cases hlt : j < m
    · have hji : (j : Int) < (m : Int) := by omega
      have hjz : j < zs.length := by rw [HS.out.1, HM.out]; exact hlt
      obtain ⟨wd, hwd⟩ : ∃ wd, z0[j]?.getD 0 = wd := ⟨_, rfl⟩
      have hwz : zs[j]?.getD 0 = wd := by rw [HS.out.2.2.2.2.2.2 j (Nat.le_refl _)]; exact hwd
      have hw9 : wd < 1000000000 := by rw [← hwd]; exact gz.get (by decide) j
      have hcell := hown.cell (at_ + j) (by rw [List.length_append, List.length_append, HAT.out]; omega)
      rw [← HAT.out, seg_get pre zs post hjz, hwz, HAT.out] at hcell
      have hfr := hown.frozen (at_ + j)
      have HWD := Lib.hid hwd
      clear hwd hwz
      obtain ⟨y, hyv⟩ : ∃ y, ys[j]?.getD 0 = y := ⟨_, rfl⟩
      have hy9 : y < 1000000000 := by rw [← hyv]; exact gy.get (by decide) j
      obtain ⟨P, hP⟩ : ∃ P, t * y = P := ⟨_, rfl⟩
      have hPc : (t : Int) * (y : Int) = (P : Int) := by rw [← hP]; simp
      obtain ⟨pp1, pp2⟩ := prod_bound ht' hy9
      rw [hPc] at pp1 pp2
      obtain ⟨c1, hc1d⟩ : ∃ c1, c + P = c1 := ⟨_, rfl⟩
      have hc1 : c + t * ys[j]?.getD 0 = c1 := by rw [hyv, hP]; exact hc1d
      obtain ⟨R, hRe⟩ : ∃ R, c1 % BW = R := ⟨_, rfl⟩
      obtain ⟨Q, hQe⟩ : ∃ Q, c1 / BW = Q := ⟨_, rfl⟩
      have hRe' : (c + P) % 1000000000 = R := by rw [hc1d]; exact hRe
      have hQe' : (c + P) / 1000000000 = Q := by rw [hc1d]; exact hQe
      have hR9 : R < 1000000000 := by omega
      have hQ9 : Q < 1000000000 := by omega
      have HRE := Lib.hid hRe
      have HQE := Lib.hid hQe
      by_cases hjk : j < k
      · have hjki : (j : Int) < (k : Int) := by omega
        obtain ⟨b2, off2, hq2, hbl2, hcell2⟩ := ((HY.out).grownB HNE.out hg).2 j hjk
        rw [hyv] at hcell2
        subst hq2
        clear hyv hP hRe hQe hc1d
        have hR : ((c : Int) + (P : Int)) % 1000000000 = (R : Int) := by omega
        have hQ : ((c : Int) + (P : Int)) / 1000000000 = (Q : Int) := by omega
        by_cases hlw : wd < R + b
        · obtain ⟨x, hx⟩ : ∃ x, wd + 1000000000 - (R + b) = x := ⟨_, rfl⟩
          have hlwi : (wd : Int) < (R : Int) + (b : Int) := by omega
          have hxi : (wd : Int) + 1000000000 - ((R : Int) + (b : Int)) = (x : Int) := by omega
          have hst := HS.out.step (c1 := c1) (x := x) (b' := 1) (by rw [HZL.out]; exact hlt) gy ht hc1 (by rw [HWD.out, HRE.out]; show x + (R + b) = wd + 1000000000 * 1; omega) (show x < 1000000000 by omega) (Nat.le_refl _)
          have hown2 := hown.set (at_ + j) x
          rw [← HAT.out, seg_set pre zs post hjz] at hown2
          have HST := Lib.hid hst
          have HOW := Lib.hid hown2
          have HC1 := Lib.hid hc1
          clear hst hown2 hx hc1
          go_wp2
          go_roundg (m - (j + 1))
          case measure => rw [HGK.out]; omega
          case rel => exact ⟨j + 1, zs.set j x, Q, 1, by omega, rfl, (by first | rfl | exact congrArg (Value.int .u64) hQ), rfl, by go_num, by show SubT _ _ _ _ _ _ _; have := HST.out; rw [HQE.out] at this; exact this, by rw [← HAT.out]; exact HOW.out, grown_put hg _ _⟩
        · obtain ⟨x, hx⟩ : ∃ x, wd - (R + b) = x := ⟨_, rfl⟩
          have hlwi : ¬ (wd : Int) < (R : Int) + (b : Int) := by omega
          have hxi : (wd : Int) - ((R : Int) + (b : Int)) = (x : Int) := by omega
          have hst := HS.out.step (c1 := c1) (x := x) (b' := 0) (by rw [HZL.out]; exact hlt) gy ht hc1 (by rw [HWD.out, HRE.out]; show x + (R + b) = wd + 1000000000 * 0; omega) (show x < 1000000000 by omega) (Nat.zero_le _)
          have hown2 := hown.set (at_ + j) x
          rw [← HAT.out, seg_set pre zs post hjz] at hown2
          have HST := Lib.hid hst
          have HOW := Lib.hid hown2
          have HC1 := Lib.hid hc1
          clear hst hown2 hx hc1
          go_wp2
          go_roundg (m - (j + 1))
          case measure => rw [HGK.out]; omega
          case rel => exact ⟨j + 1, zs.set j x, Q, 0, by omega, rfl, (by first | rfl | exact congrArg (Value.int .u64) hQ), rfl, by go_num, by show SubT _ _ _ _ _ _ _; have := HST.out; rw [HQE.out] at this; exact this, by rw [← HAT.out]; exact HOW.out, grown_put hg _ _⟩
      · have hjki : ¬ (j : Int) < (k : Int) := by omega
        have hy0 : y = 0 := by rw [← hyv, List.getElem?_eq_none (by rw [HYL.out]; omega)]; rfl
        have hP0 : P = 0 := by rw [← hP, hy0, Nat.mul_zero]
        have hRc : R = c := by omega
        have hQ0 : Q = 0 := by omega
        clear hyv hP hRe hQe hc1d hPc
        have hR : (c : Int) % 1000000000 = (R : Int) := by omega
        have hQ : (c : Int) / 1000000000 = (Q : Int) := by omega
        clear hy0 hP0 hRc hQ0 hRe' hQe'
        by_cases hlw : wd < R + b
        · obtain ⟨x, hx⟩ : ∃ x, wd + 1000000000 - (R + b) = x := ⟨_, rfl⟩
          have hlwi : (wd : Int) < (R : Int) + (b : Int) := by omega
          have hxi : (wd : Int) + 1000000000 - ((R : Int) + (b : Int)) = (x : Int) := by omega
          have hst := HS.out.step (c1 := c1) (x := x) (b' := 1) (by rw [HZL.out]; exact hlt) gy ht hc1 (by rw [HWD.out, HRE.out]; show x + (R + b) = wd + 1000000000 * 1; omega) (show x < 1000000000 by omega) (Nat.le_refl _)
          have hown2 := hown.set (at_ + j) x
          rw [← HAT.out, seg_set pre zs post hjz] at hown2
          have HST := Lib.hid hst
          have HOW := Lib.hid hown2
          have HC1 := Lib.hid hc1
          clear hst hown2 hx hc1
          go_wp2
          go_roundg (m - (j + 1))
          case measure => rw [HGK.out]; omega
          case rel => exact ⟨j + 1, zs.set j x, Q, 1, by omega, rfl, (by first | rfl | exact congrArg (Value.int .u64) hQ), rfl, by go_num, by show SubT _ _ _ _ _ _ _; have := HST.out; rw [HQE.out] at this; exact this, by rw [← HAT.out]; exact HOW.out, grown_put hg _ _⟩
        · obtain ⟨x, hx⟩ : ∃ x, wd - (R + b) = x := ⟨_, rfl⟩
          have hlwi : ¬ (wd : Int) < (R : Int) + (b : Int) := by omega
          have hxi : (wd : Int) - ((R : Int) + (b : Int)) = (x : Int) := by omega
          have hst := HS.out.step (c1 := c1) (x := x) (b' := 0) (by rw [HZL.out]; exact hlt) gy ht hc1 (by rw [HWD.out, HRE.out]; show x + (R + b) = wd + 1000000000 * 0; omega) (show x < 1000000000 by omega) (Nat.zero_le _)
          have hown2 := hown.set (at_ + j) x
          rw [← HAT.out, seg_set pre zs post hjz] at hown2
          have HST := Lib.hid hst
          have HOW := Lib.hid hown2
          have HC1 := Lib.hid hc1
          clear hst hown2 hx hc1
          go_wp2
          go_roundg (m - (j + 1))
          case measure => rw [HGK.out]; omega
          case rel => exact ⟨j + 1, zs.set j x, Q, 0, by omega, rfl, (by first | rfl | exact congrArg (Value.int .u64) hQ), rfl, by go_num, by show SubT _ _ _ _ _ _ _; have := HST.out; rw [HQE.out] at this; exact this, by rw [← HAT.out]; exact HOW.out, grown_put hg _ _⟩
    · have hji : ¬ (j : Int) < (m : Int) := by omega
      obtain rfl : j = m := by omega
      obtain ⟨f1, f2, f3, f4⟩ := SubT.done (by rw [HM.out]; exact HS.out) gy ht (by rw [HM.out, HYL.out]; omega)
      rw [HM.out] at f4 f1
      have HF := Lib.hid (And.intro f1 (And.intro f2 f4))
      clear f1 f2 f4
      have hb01 : b = 0 ∨ b = 1 := by omega
      rcases hb01 with rfl | rfl
      · go_wp2
        go_ret
        exact ⟨zs, 0, by omega, rfl, HF.out.1, HF.out.2.1, HF.out.2.2, by first | exact hown | (rw [List.append_assoc] at hown; exact hown), hg⟩
      · go_wp2
        go_ret
        exact ⟨zs, 1, by omega, rfl, HF.out.1, HF.out.2.1, HF.out.2.2, by first | exact hown | (rw [List.append_assoc] at hown; exact hown), hg⟩

set_option maxRecDepth 100000 in
set_option maxHeartbeats 4000000 in
theorem addBack_any (B at_ m k : Nat) (cc d : Nat) (pre z0 post : List Nat) (q : Option Addr) (ys : List Nat) (w : World) (hat : pre.length = at_) (hm : z0.length = m) (hk : k ≤ m) (hm1 : m ≤ 1000000000) (ha1 : at_ ≤ 1000000000)
    (how : Own .u64 73 w B (pre ++ z0 ++ post)) (hy : Rd .u64 w q k ys) (hne : ∀ b o, q = some ⟨b, o, none⟩ → b ≠ B) (gz : Dg BW z0) (gy : Dg BW ys) :
    Calls Tryd.prog 72 #[.slice (some ⟨B, at_, none⟩) m cc, .slice q k d] w fun e w' => ∃ zs c, c ≤ 1 ∧ e = .returned (.tuple #[]) ∧ zs.length = m ∧ Dg BW zs ∧ dv BW zs + BW ^ m * c = dv BW z0 + dv BW ys ∧ Own .u64 73 w' B (pre ++ zs ++ post) ∧ w.grownBy w' (some B) := by
  have HAT := Lib.hid hat
  have HM := Lib.hid hm
  have HY := Lib.hid hy
  have HNE := Lib.hid hne
  have hyl := hy.1
  have HYL := Lib.hid hyl
  clear hat hm hy hne hyl
  go_enter Tryd.func72, Tryd.ntmps72
  go_wp2
  go_loopg [4, 9] m (fun gk v4 v9 wr => ∃ (j : Nat) (zs : List Nat) (c : Nat), j ≤ m ∧ gk = m - j ∧ v4 = .int .u64 (c : Int) ∧ v9 = .int .i64 (j : Int) ∧ Hid (AddT ys z0 zs j c) ∧ Own .u64 73 wr B (pre ++ zs ++ post) ∧ w.grownBy wr (some B))
  case atStart => exact ⟨0, z0, 0, Nat.zero_le _, rfl, rfl, rfl, AddT.start gz, how, ⟨rfl, rfl, rfl, Nat.le_refl _, fun _ _ _ => rfl⟩⟩
  case round =>
    obtain ⟨j, zs, c, hj, hgk, rfl, rfl, HS, hown, hg⟩ := hrel
    have HGK := Lib.hid hgk
    clear hgk
    have hc1 : c ≤ 1 := HS.out.2.2.1
    have HZL := Lib.hid HM.out
    by_cases hlt : j < m
    · have hji : (j : Int) < (m : Int) := by omega
      have hjz : j < zs.length := by rw [HS.out.1, HM.out]; exact hlt
      obtain ⟨wd, hwd⟩ : ∃ wd, z0[j]?.getD 0 = wd := ⟨_, rfl⟩
      have hwz : zs[j]?.getD 0 = wd := by rw [HS.out.2.2.2.2 j (Nat.le_refl _)]; exact hwd
      have hw9 : wd < 1000000000 := by rw [← hwd]; exact gz.get (by decide) j
      have hcell := hown.cell (at_ + j) (by rw [List.length_append, List.length_append, HAT.out]; omega)
      rw [← HAT.out, seg_get pre zs post hjz, hwz, HAT.out] at hcell
      have hfr := hown.frozen (at_ + j)
      obtain ⟨y, hyv⟩ : ∃ y, ys[j]?.getD 0 = y := ⟨_, rfl⟩
      have hy9 : y < 1000000000 := by rw [← hyv]; exact gy.get (by decide) j
      obtain ⟨s, hse⟩ : ∃ s, c + wd + y = s := ⟨_, rfl⟩
      have hsd : c + z0[j]?.getD 0 + ys[j]?.getD 0 = s := by rw [hwd, hyv]; exact hse
      obtain ⟨R, hRe⟩ : ∃ R, s % BW = R := ⟨_, rfl⟩
      obtain ⟨Q, hQe⟩ : ∃ Q, s / BW = Q := ⟨_, rfl⟩
      have hRe' : (c + wd + y) % 1000000000 = R := by rw [hse]; exact hRe
      have hQe' : (c + wd + y) / 1000000000 = Q := by rw [hse]; exact hQe
      have hR9 : R < 1000000000 := by omega
      have hQ9 : Q < 1000000000 := by omega
      have HRE := Lib.hid hRe
      have HQE := Lib.hid hQe
      by_cases hjk : j < k
      · have hjki : (j : Int) < (k : Int) := by omega
        obtain ⟨b2, off2, hq2, hbl2, hcell2⟩ := ((HY.out).grownB HNE.out hg).2 j hjk
        rw [hyv] at hcell2
        subst hq2
        clear hyv hRe hQe hse hwd hwz
        have hR : ((c : Int) + (wd : Int) + (y : Int)) % 1000000000 = (R : Int) := by omega
        have hQ : ((c : Int) + (wd : Int) + (y : Int)) / 1000000000 = (Q : Int) := by omega
        have hst := HS.out.step (s := s) (by rw [HZL.out]; exact hlt) gz gy hsd
        have hown2 := hown.set (at_ + j) R
        rw [← HAT.out, seg_set pre zs post hjz] at hown2
        have HST := Lib.hid hst
        have HOW := Lib.hid hown2
        clear hst hown2 hsd
        go_wp2
        go_roundg (m - (j + 1))
        case measure => rw [HGK.out]; omega
        case rel => exact ⟨j + 1, zs.set j R, Q, by omega, rfl, (by first | rfl | exact congrArg (Value.int .u64) hQ), by go_num, by show AddT _ _ _ _ _; have := HST.out; rw [HRE.out, HQE.out] at this; exact this, by rw [← HAT.out]; first | exact HOW.out | (rw [hR]; exact HOW.out), grown_put hg _ _⟩
      · have hjki : ¬ (j : Int) < (k : Int) := by omega
        have hy0 : y = 0 := by rw [← hyv, List.getElem?_eq_none (by rw [HYL.out]; omega)]; rfl
        clear hyv hRe hQe hse hwd hwz
        have hR : ((c : Int) + (wd : Int)) % 1000000000 = (R : Int) := by omega
        have hQ : ((c : Int) + (wd : Int)) / 1000000000 = (Q : Int) := by omega
        clear hy0 hRe' hQe'
        have hst := HS.out.step (s := s) (by rw [HZL.out]; exact hlt) gz gy hsd
        have hown2 := hown.set (at_ + j) R
        rw [← HAT.out, seg_set pre zs post hjz] at hown2
        have HST := Lib.hid hst
        have HOW := Lib.hid hown2
        clear hst hown2 hsd
        go_wp2
        go_roundg (m - (j + 1))
        case measure => rw [HGK.out]; omega
        case rel => exact ⟨j + 1, zs.set j R, Q, by omega, rfl, (by first | rfl | exact congrArg (Value.int .u64) hQ), by go_num, by show AddT _ _ _ _ _; have := HST.out; rw [HRE.out, HQE.out] at this; exact this, by rw [← HAT.out]; first | exact HOW.out | (rw [hR]; exact HOW.out), grown_put hg _ _⟩
    · have hji : ¬ (j : Int) < (m : Int) := by omega
      obtain rfl : j = m := by omega
      obtain ⟨f1, f2, f3, f4⟩ := AddT.done (by rw [HM.out]; exact HS.out) (by rw [HM.out, HYL.out]; omega)
      rw [HM.out] at f4 f1
      have HF := Lib.hid (And.intro f1 (And.intro f2 f4))
      clear f1 f2 f4
      go_wp2
      go_end0
      exact ⟨zs, c, hc1, rfl, HF.out.1, HF.out.2.1, HF.out.2.2, by first | exact hown | (rw [List.append_assoc] at hown; exact hown), hg⟩

end Go.Proofs.YtimcbmgmngkagaaDoor

namespace Go.Proofs.YtimcbmgmngkagaaDoor

/-- Between two rounds: the words of the quotient from place a on are found; what is left above place a is less than the divisor. -/
structure LongI (X f V n m : Nat) (ls qs : List Nat) (a : Nat) : Prop where
  ll : ls.length = n + 1
  ql : qs.length = n - m + 1
  gl : Dg BW ls
  gq : Dg BW qs
  val : X * f = dv BW ls + V * dv BW qs
  top : dv BW (ls.drop a) < V
  low : ∀ i, i < a → qs[i]?.getD 0 = 0

theorem drop_three (ls : List Nat) (a k : Nat) : ls = ls.take a ++ (ls.drop a).take k ++ ls.drop (a + k) := by
  rw [List.append_assoc, ← List.drop_drop, List.take_append_drop, List.take_append_drop]

theorem dv_zero_above {ls : List Nat} {k : Nat} (h : dv BW ls < BW ^ k) : dv BW (ls.drop k) = 0 ∧ dv BW (ls.take k) = dv BW ls := by
  by_cases hk : k ≤ ls.length
  · have e := dv_take_drop BW ls k hk
    rcases Nat.eq_zero_or_pos (dv BW (ls.drop k)) with h0 | h0
    · rw [h0] at e ⊢; simp at e; exact ⟨rfl, e.symm⟩
    · have : BW ^ k ≤ BW ^ k * dv BW (ls.drop k) := Nat.le_mul_of_pos_right _ h0
      omega
  · rw [List.drop_of_length_le (by omega), List.take_of_length_le (by omega)]
    exact ⟨rfl, rfl⟩

/-- The window of a round. -/
theorem LongI.window {X f V n m : Nat} {ls qs : List Nat} {a : Nat} (h : LongI X f V n m ls qs (a + 1)) (hV : V < BW ^ m) (ha : a + 1 ≤ n - m + 1) (hm : m ≤ n) :
    ((ls.drop a).take (m + 1)).length = m + 1 ∧ dv BW ((ls.drop a).take (m + 1)) < V * BW ∧ dv BW (ls.drop (a + (m + 1))) = 0 ∧ dv BW ls = dv BW (ls.take a) + BW ^ a * dv BW ((ls.drop a).take (m + 1)) := by
  have hal : a < ls.length := by rw [h.ll]; omega
  have e1 : dv BW (ls.drop a) = ls[a] + BW * dv BW (ls.drop (a + 1)) := by rw [List.drop_eq_getElem_cons hal]; rfl
  have hla : ls[a] < BW := h.gl _ (List.getElem_mem hal)
  have htop := h.top
  have e2 : dv BW (ls.drop a) < V * BW := by
    have k1 : dv BW (ls.drop (a + 1)) + 1 ≤ V := htop
    have k2 : BW * (dv BW (ls.drop (a + 1)) + 1) ≤ BW * V := Nat.mul_le_mul_left BW k1
    rw [Nat.mul_add, Nat.mul_one] at k2
    rw [Nat.mul_comm V BW]
    omega
  have e3 : dv BW (ls.drop a) < BW ^ (m + 1) := by
    have : V * BW ≤ BW ^ m * BW := Nat.mul_le_mul_right BW (Nat.le_of_lt hV)
    exact (Nat.pow_succ (n := BW) (m := m)) ▸ Nat.lt_of_lt_of_le e2 this
  obtain ⟨z1, z2⟩ := dv_zero_above e3
  rw [List.drop_drop] at z1
  have e4 := dv_take_drop BW ls a (Nat.le_of_lt hal)
  have hll := h.ll
  refine ⟨?_, by rw [z2]; exact e2, z1, by rw [z2]; exact e4⟩
  have hd : (ls.drop a).length = n + 1 - a := by rw [List.length_drop, hll]
  rw [List.length_take, hd]
  omega

/-- A round. -/
theorem LongI.step {X f V n m : Nat} {ls qs zs : List Nat} {a q : Nat} (h : LongI X f V n m ls qs (a + 1)) (hV : V < BW ^ m) (ha : a + 1 ≤ n - m + 1) (hm : m ≤ n)
    (hzl : zs.length = m + 1) (gz : Dg BW zs) (hz : dv BW zs + q * V = dv BW ((ls.drop a).take (m + 1))) (hzV : dv BW zs < V) (hq : q < BW) :
    LongI X f V n m (ls.take a ++ zs ++ ls.drop (a + (m + 1))) (qs.set a q) a := by
  obtain ⟨w1, w2, w3, w4⟩ := h.window hV ha hm
  have hal : a < ls.length := by rw [h.ll]; omega
  have htl : (ls.take a).length = a := by rw [List.length_take]; omega
  have hqa : a < qs.length := by rw [h.ql]; omega
  have d1 : dv BW (ls.take a ++ zs ++ ls.drop (a + (m + 1))) = dv BW (ls.take a) + BW ^ a * dv BW zs := by
    rw [dv_append, dv_append, w3, htl]; simp
  have d2 : dv BW (qs.set a q) = dv BW qs + BW ^ a * q := by
    have g := dv_set BW qs a q hqa
    rw [h.low a (by omega), Nat.mul_zero, Nat.add_zero] at g
    exact g
  refine { ll := ?_, ql := by rw [List.length_set]; exact h.ql, gl := ?_, gq := h.gq.set _ hq, val := ?_, top := ?_, low := fun i hi => ?_ }
  · rw [List.length_append, List.length_append, htl, hzl, List.length_drop, h.ll]; omega
  · exact Dg.append (Dg.append (h.gl.take a) gz) (h.gl.drop _)
  · rw [h.val, d1, d2, w4, ← hz]
    grind
  · rw [List.append_assoc, List.drop_append_of_le_length (by omega), List.drop_of_length_le (by omega), List.nil_append, dv_append, w3]
    simpa using hzV
  · rw [set_get_other _ _ _ _ (by omega)]; exact h.low i (by omega)

/-- Which word of the quotient, and what is left. -/
theorem round_kept {U V g b m : Nat} {zs : List Nat} (hz : dv BW zs + g * V = U + BW ^ (m + 1) * b) (hg1 : g * V < U + V) (hg2 : U < (g + 1) * V) (hb : b = 0) : dv BW zs + g * V = U ∧ dv BW zs < V := by
  subst hb
  rw [Nat.mul_zero, Nat.add_zero] at hz
  rw [Nat.add_mul, Nat.one_mul] at hg2
  omega
theorem round_back {U V g b c m : Nat} {zs ys : List Nat} (gz : Dg BW zs) (gy : Dg BW ys) (hzl : zs.length = m + 1) (hyl : ys.length = m + 1) (hz : dv BW zs + g * V = U + BW ^ (m + 1) * b) (hg1 : g * V < U + V) (hb : b = 1) (hy : dv BW ys + BW ^ (m + 1) * c = dv BW zs + V) (hc : c ≤ 1) (hV : V < BW ^ (m + 1)) :
    1 ≤ g ∧ dv BW ys + (g - 1) * V = U ∧ dv BW ys < V := by
  subst hb
  have l1 := dv_lt gz
  have l2 := dv_lt gy
  rw [hzl] at l1
  rw [hyl] at l2
  rw [Nat.mul_one] at hz
  have hg0 : 1 ≤ g := by
    rcases Nat.eq_zero_or_pos g with h | h
    · subst h; omega
    · exact h
  obtain ⟨k, rfl⟩ : ∃ k, g = k + 1 := ⟨g - 1, by omega⟩
  rw [Nat.add_sub_cancel]
  rw [Nat.add_mul, Nat.one_mul] at hz hg1
  have hc1 : c = 1 := by
    rcases Nat.lt_or_ge c 1 with h | h
    · have : c = 0 := by omega
      subst this
      rw [Nat.mul_zero, Nat.add_zero] at hy
      omega
    · omega
  subst hc1
  rw [Nat.mul_one] at hy
  exact ⟨by omega, by omega, by omega⟩

/-- The factor that makes the divisor's highest word great. -/
theorem factor_ok {ys : List Nat} {m f t : Nat} (gy : Dg BW ys) (hm : ys.length = m + 1) (ht : ys[m]?.getD 0 = t) (hp : 1 ≤ t) (hf : BW / (t + 1) = f) :
    1 ≤ f ∧ f < BW ∧ BW ^ m * (t * f) ≤ dv BW ys * f ∧ dv BW ys * f < BW ^ (m + 1) ∧ BW ≤ 2 * (t * f) := by
  have htB : t < BW := by rw [← ht]; exact gy.get (by decide) m
  have e := dv_take_succ BW ys m
  rw [List.take_of_length_le (by omega), ht] at e
  have lo := dv_lt (gy.take m)
  rw [List.length_take, Nat.min_eq_left (by omega)] at lo
  have d0 := Nat.div_add_mod BW (t + 1)
  have d1 := Nat.mod_lt BW (show 0 < t + 1 by omega)
  rw [hf] at d0
  generalize BW % (t + 1) = r at d0 d1
  have hev : BW = 2 * 500000000 := by decide
  have p1 : BW ^ (m + 1) = BW ^ m * BW := Nat.pow_succ ..
  generalize BW ^ m = P at *
  generalize dv BW (ys.take m) = L at *
  generalize dv BW ys = Y at *
  rw [Nat.add_mul, Nat.one_mul] at d0
  have hf1 : 1 ≤ f := by
    rcases Nat.eq_zero_or_pos f with h | h
    · subst h; rw [Nat.mul_zero] at d0; omega
    · exact h
  have k1 : f ≤ t * f := Nat.le_mul_of_pos_left f hp
  refine ⟨hf1, by omega, ?_, ?_, ?_⟩
  · have : P * t * f ≤ Y * f := Nat.mul_le_mul_right f (by omega)
    rw [Nat.mul_assoc] at this
    exact this
  · have h1 : Y < P * (t + 1) := by rw [Nat.mul_add, Nat.mul_one]; omega
    have h2 : Y * f < P * (t + 1) * f := Nat.mul_lt_mul_of_pos_right h1 hf1
    have h3 : P * (t + 1) * f ≤ P * BW := by rw [Nat.mul_assoc]; exact Nat.mul_le_mul_left P (by rw [Nat.add_mul, Nat.one_mul]; omega)
    rw [p1]
    exact Nat.lt_of_lt_of_le h2 h3
  · rcases Nat.lt_or_ge f 2 with h | h
    · obtain rfl : f = 1 := by omega
      omega
    · rcases Nat.lt_or_ge t 2 with h' | h'
      · obtain rfl : t = 1 := by omega
        omega
      · have k2 : t + f ≤ t * f := by
          obtain ⟨a, rfl⟩ : ∃ a, t = a + 2 := ⟨t - 2, by omega⟩
          obtain ⟨b, rfl⟩ : ∃ b, f = b + 2 := ⟨f - 2, by omega⟩
          have : (a + 2) * (b + 2) = a * b + 2 * a + 2 * b + 4 := by grind
          omega
        omega

theorem factor_top {vs : List Nat} {m t : Nat} (gv : Cn BW vs) (h1 : dv BW vs < BW ^ (m + 1)) (h2 : BW ^ m * t ≤ dv BW vs) (ht : 1 ≤ t) : vs.length = m + 1 ∧ t ≤ vs[m]?.getD 0 := by
  have hB : 0 < BW ^ m := Nat.pow_pos (by decide)
  have hl := gv.length_le (by decide) h1
  have hg : m + 1 ≤ vs.length := by
    rcases Nat.lt_or_ge vs.length (m + 1) with h | h
    · exfalso
      have k1 := dv_lt gv.1
      have k2 : BW ^ vs.length ≤ BW ^ m := Nat.pow_le_pow_right (by decide) (by omega)
      have k3 : BW ^ m * 1 ≤ BW ^ m * t := Nat.mul_le_mul_left _ ht
      rw [Nat.mul_one] at k3
      omega
    · exact h
  have hlen : vs.length = m + 1 := by omega
  refine ⟨hlen, ?_⟩
  have e := dv_take_succ BW vs m
  rw [List.take_of_length_le (by omega)] at e
  have lo := dv_lt (gv.1.take m)
  rw [List.length_take, Nat.min_eq_left (by omega)] at lo
  generalize vs[m]?.getD 0 = u at *
  rcases Nat.lt_or_ge u t with h | h
  · exfalso
    have k : BW ^ m * (u + 1) ≤ BW ^ m * t := Nat.mul_le_mul_left _ h
    rw [Nat.mul_add, Nat.mul_one] at k
    omega
  · exact h

/-- Ahead of the first round. -/
theorem LongI.start {X Y f n m : Nat} {xs us : List Nat} (hXl : xs.length = n) (hm : m + 1 ≤ n) (gx : Dg BW xs) (gu : Dg BW us) (hX : dv BW xs = X) (hu : dv BW us = X * f) (hul : us.length ≤ n + 1) (hf : 1 ≤ f) (hfB : f < BW) (hV : BW ^ m * f ≤ Y * f) :
    LongI X f (Y * f) n (m + 1) (us ++ List.replicate (n + 1 - us.length) 0) (List.replicate (n - (m + 1) + 1) 0) (n - (m + 1) + 1) := by
  have hd : dv BW (us ++ List.replicate (n + 1 - us.length) 0) = X * f := by
    rw [dv_append, dv_replicate, Nat.mul_zero, Nat.add_zero, hu]
  refine { ll := by rw [List.length_append, List.length_replicate]; omega, ql := List.length_replicate, gl := Dg.append gu (Dg.replicate (by decide) _), gq := Dg.replicate (by decide) _, val := by rw [hd, dv_replicate, Nat.mul_zero, Nat.add_zero], top := ?_, low := fun i hi => ?_ }
  · have e := dv_take_drop BW (us ++ List.replicate (n + 1 - us.length) 0) (n - (m + 1) + 1) (by rw [List.length_append, List.length_replicate]; omega)
    rw [hd] at e
    have lx := dv_lt gx
    rw [hXl, hX] at lx
    have hpow : BW ^ n = BW ^ (n - (m + 1) + 1) * BW ^ m := by rw [← Nat.pow_add]; congr 1; omega
    generalize dv BW ((us ++ List.replicate (n + 1 - us.length) 0).drop (n - (m + 1) + 1)) = D at *
    rcases Nat.lt_or_ge D (Y * f) with h | h
    · exact h
    · exfalso
      have k1 : BW ^ (n - (m + 1) + 1) * (BW ^ m * f) ≤ BW ^ (n - (m + 1) + 1) * D := Nat.mul_le_mul_left _ (Nat.le_trans hV h)
      have k2 : X * f < BW ^ n * f := Nat.mul_lt_mul_of_pos_right lx hf
      rw [hpow, Nat.mul_assoc] at k2
      omega
  · rw [List.getElem?_replicate]; split <;> rfl

/-- Behind the last round. -/
theorem LongI.done {X Y f n m : Nat} {ls qs rs : List Nat} {r : Nat} (h : LongI X f (Y * f) n m ls qs 0) (hf : 1 ≤ f) (hr : r < f) (hrs : dv BW ls = dv BW rs * f + r) : X = Y * dv BW qs + dv BW rs ∧ dv BW rs < Y := by
  have ht := h.top
  have hv := h.val
  rw [List.drop_zero] at ht
  rw [hrs] at ht hv
  have e1 : f * X = f * (dv BW rs + Y * dv BW qs) + r := by
    rw [Nat.mul_comm f X, hv, Nat.mul_add, Nat.mul_comm f (dv BW rs), Nat.mul_assoc Y f, Nat.mul_comm Y (f * dv BW qs), Nat.mul_comm Y (dv BW qs), Nat.mul_assoc]
    omega
  have e2 : X = dv BW rs + Y * dv BW qs := by
    have q1 : (f * X) / f = X := Nat.mul_div_cancel_left X (by omega)
    have q2 : (f * (dv BW rs + Y * dv BW qs) + r) / f = dv BW rs + Y * dv BW qs := by
      rw [Nat.add_comm, Nat.add_mul_div_left _ _ (by omega), Nat.div_eq_of_lt hr, Nat.zero_add]
    rw [← q1, e1, q2]
  refine ⟨by omega, ?_⟩
  exact Nat.lt_of_mul_lt_mul_right (a := f) (by omega)

end Go.Proofs.YtimcbmgmngkagaaDoor
