/-
  Package sums: totals. Package right: numbers in their ranges; Planes and points: plain; Package right: numbers without a common divisor; Package right: planes and points; Package right: checks as closures.
-/
import Derived.Test.YtimkeblcdodfmaaGreatK1
import Derived.Test.YtimkeblcdodfmaaGreatK2
import Derived.Test.YtimkeblcdodfmaaGreatK3
import Derived.Test.YtimkeblcdodfmaaGreatK4
import Derived.Test.YtimkeblcdodfmaaGreatK5
namespace Go.Proofs.YtimkeblcdodfmaaGreat
open Go.RowKit Go.Shelf
attribute [local go_sem] sumV Oper.semAt_some

/-- The sum of a list. -/
def sumI (xs : List Int) : Int := xs.foldl (fun a b => a + b) 0
theorem sumI_snoc {xs : List Int} {i : Nat} (hi : i < xs.length) : sumI (xs.take (i + 1)) = sumI (xs.take i) + xs[i] := by
  rw [List.take_succ_eq_append_getElem hi]; simp only [sumI, List.foldl_append, List.foldl_cons, List.foldl_nil]

set_option maxRecDepth 100000 in
set_option maxHeartbeats 4000000 in
theorem total_any (p : Option Addr) (n c : Nat) (xs : List Int) (w : World) (hl : xs.length = n) (hn : n ≤ 1000) (hr : RdSum w p xs) :
    Calls Tryz.prog 90 #[.slice p n c] w fun e w' => e = .returned (sumV (sumI xs)) ∧ Below w.heap.size w w' := by
  obtain ⟨w1, hw1⟩ : ∃ w1, ((w.alloc (.cells #[.int .u64 0, .int .u64 0] 90)).alloc (.cells #[.int .u64 0, .int .u64 0] 90)) = w1 := ⟨_, rfl⟩
  have hb1 : Below w.heap.size w w1 := by rw [← hw1]; exact bw2 w _ _
  have k0 : Blk w1 w.heap.size #[.int .u64 0, .int .u64 0] 90 := by rw [← hw1]; exact (Blk.new w _ _).alloc _
  have k1 : Blk w1 (w.heap.size + 1) #[.int .u64 0, .int .u64 0] 90 := by rw [← hw1]; exact Blk.new' _ _ _ (by simp)
  have HR := Lib.hid hr
  have HL := Lib.hid hl
  clear hr hl
  go_enter Tryz.func90, Tryz.ntmps90
  go_wp2_with fail
  go_loopg [8] n (fun gk v8 wr => ∃ (i : Nat) (s : Int), i ≤ n ∧ gk = n - i ∧ v8 = .int .i64 (i : Int) ∧ Hid (sumI (xs.take i) = s) ∧ Blk wr w.heap.size #[.int .u64 0, .int .u64 0] 90 ∧ Blk wr (w.heap.size + 1) #[.int .u64 (hiW s), .int .u64 (loW s)] 90 ∧ Below w.heap.size w wr)
  case atStart => exact ⟨0, 0, Nat.zero_le _, rfl, rfl, rfl, k0, k1, hb1⟩
  case round =>
    clear k0 k1 hb1 hw1
    obtain ⟨i, s, hi, hgk, rfl, HS, k0, k1, hb⟩ := hrel
    have HGK := Lib.hid hgk
    clear hgk
    by_cases hlt : i < n
    · have hil : i < xs.length := by rw [HL.out]; exact hlt
      have hlti : (i : Int) < (n : Int) := by omega
      obtain ⟨b, off, rfl, hbl, hc0, hc1⟩ := HR.out i _ (List.getElem?_eq_getElem hil)
      have hsn := sumI_snoc hil
      have f0 := (hb.cell (p := ⟨b, off + i * 2, none⟩) hbl).trans hc0
      have f1 := (hb.cell (p := ⟨b, off + i * 2 + 1, none⟩) hbl).trans hc1
      generalize xs[i] = x at *
      rw [HS.out] at hsn
      have hp := fun W => sumsPlus_any s x W
      have HN := Lib.hid hsn
      unfold sumV at hp
      obtain ⟨u, hu⟩ : ∃ u, u = s + x := ⟨_, rfl⟩
      rw [← hu] at hp HN
      clear hsn hc0 hc1 hbl hu HS
      generalize hiW s = sh at *
      generalize loW s = sl at *
      generalize hiW x = xh at *
      generalize loW x = xl at *
      have HP := Lib.hid hp
      clear hp
      obtain ⟨w2, hw2⟩ : ∃ w2, wr.alloc (.cells #[.int .u64 xh, .int .u64 xl] 90) = w2 := ⟨_, rfl⟩
      have ks : Blk w2 wr.heap.size #[.int .u64 xh, .int .u64 xl] 90 := by rw [← hw2]; exact Blk.new _ _ _
      have hb2 : Below wr.heap.size wr w2 := by rw [← hw2]; exact (Below.refl _ wr).alloc (Nat.le_refl _) _
      have k0 := k0.kept hb2
      have k1 := k1.kept hb2
      have hb2' := hb.trans (hb2.mono hb.size)
      have c0 := k1.cell (i := 0) rfl
      have c1 := k1.cell (i := 1) rfl
      have c2 := ks.cell (i := 0) rfl
      have c3 := ks.cell (i := 1) rfl
      go_wp2_with fail
      refine (HP.out _).mono ?_
      rintro e w3 ⟨rfl, hb3⟩
      have k0 := k0.kept hb3
      have k1 := k1.kept hb3
      have hb3' := hb2'.trans (hb3.mono hb2'.size)
      clear c2 c3 ks
      have c0 := k1.cell (i := 0) rfl
      have c1 := k1.cell (i := 1) rfl
      have q0 := k1.frozen 0
      have q1 := k1.frozen 1
      go_wp2_with fail
      go_roundg (n - (i + 1))
      case measure => rw [HGK.out]; omega
      case rel => exact ⟨i + 1, u, by omega, rfl, by go_num, HN.out, (k0.other (C := w.heap.size + 1) 0 _ (by omega)).other (C := w.heap.size + 1) 1 _ (by omega), (k1.set_eq 0 _ rfl).set_eq 1 _ rfl, (hb3'.setCell (by simp only; omega) _).setCell (by simp only; omega) _⟩
    · have hlti : ¬ (i : Int) < (n : Int) := by omega
      have hsi : s = sumI xs := by
        rw [← HS.out, List.take_of_length_le (by rw [HL.out]; omega)]
      have HSI := Lib.hid hsi
      clear hsi
      have c0 := k1.cell (i := 0) rfl
      have c1 := k1.cell (i := 1) rfl
      have c2 := k0.cell (i := 0) rfl
      have c3 := k0.cell (i := 1) rfl
      have q0 := k0.frozen 0
      have q1 := k0.frozen 1
      go_wp2_with fail
      have L := (k0.set_eq 0 (.int .u64 (hiW s)) rfl).set_eq 1 (.int .u64 (loW s)) rfl
      have z0 := L.cell (i := 0) rfl
      have z1 := L.cell (i := 1) rfl
      exact bodyPost_ret (v := .agg #[.int .u64 (hiW s), .int .u64 (loW s)]) (by simp [results, Tryz.results90, go_sem, z0, z1]) rfl ⟨by rw [← HSI.out], (hb.setCell (by simp only; omega) _).setCell (by simp only; omega) _⟩

/-- A slice of int64. -/
def RdI (w : World) (p : Option Addr) (xs : List Int) : Prop :=
  ∀ i x, xs[i]? = some x → ∃ b off, p = some ⟨b, off, none⟩ ∧ b < w.heap.size ∧ w.cell? ⟨b, off + i, none⟩ = some (.int .i64 x)
theorem RdI.below {w w' : World} {p : Option Addr} {xs : List Int} (h : RdI w p xs) (hb : Below w.heap.size w w') : RdI w' p xs := by
  intro i x hi
  obtain ⟨b, off, rfl, hlt, h0⟩ := h i x hi
  exact ⟨b, off, rfl, Nat.lt_of_lt_of_le hlt hb.size, (hb.cell (p := ⟨b, _, none⟩) hlt).trans h0⟩

/-- All have absolute values of at most lim. -/
def within (lim : Int) (xs : List Int) : Bool := xs.all fun x => decide (-lim ≤ x ∧ x ≤ lim)

set_option maxRecDepth 100000 in
set_option maxHeartbeats 4000000 in
theorem areWithin_any (lim : Int) (p : Option Addr) (n c : Nat) (xs : List Int) (w : World) (hl : xs.length = n) (hn : n ≤ 1000) (hr : RdI w p xs) (h0 : 0 ≤ lim) (h1 : lim < 9223372036854775808) :
    Calls Tryz.prog 106 #[.int .i64 lim, .slice p n c] w fun e w' => e = .returned (.bool (within lim xs)) ∧ w = w' := by
  have HR := Lib.hid hr
  have HL := Lib.hid hl
  have hwr : wrap64 (-lim) = -lim := by unfold wrap64; omega
  clear hr hl
  go_enter Tryz.func106, Tryz.ntmps106
  go_wp2_with fail
  go_loopg [9] n (fun gk v9 wr => ∃ i : Nat, i ≤ n ∧ gk = n - i ∧ v9 = .int .i64 (i : Int) ∧ Hid (within lim (xs.take i) = true) ∧ w = wr)
  case atStart => exact ⟨0, Nat.zero_le _, rfl, rfl, rfl, rfl⟩
  case round =>
    obtain ⟨i, hi, hgk, rfl, HI, rfl⟩ := hrel
    have HGK := Lib.hid hgk
    clear hgk
    by_cases hlt : i < n
    · have hil : i < xs.length := by rw [HL.out]; exact hlt
      have hlti : (i : Int) < (n : Int) := by omega
      obtain ⟨b, off, rfl, hbl, hc0⟩ := HR.out i _ (List.getElem?_eq_getElem hil)
      have htk : xs.take (i + 1) = xs.take i ++ [xs[i]] := List.take_succ_eq_append_getElem hil
      have hmem := List.getElem_mem hil
      generalize xs[i] = x at *
      have HH := Lib.hid (And.intro htk hmem)
      clear htk hmem
      by_cases hlo : x < -lim
      · have HF := Lib.hid hlo
        go_wp2_with fail
        go_ret
        have : within lim xs = false := by
          unfold within
          rw [List.all_eq_false]
          exact ⟨x, HH.out.2, by simp; have := HF.out; omega⟩
        exact ⟨congrArg (fun b => Ending.returned (.bool b)) this.symm, rfl⟩
      · by_cases hhi : lim < x
        · have HF := Lib.hid hhi
          go_wp2_with fail
          go_ret
          have : within lim xs = false := by
            unfold within
            rw [List.all_eq_false]
            exact ⟨x, HH.out.2, by simp; have := HF.out; omega⟩
          exact ⟨congrArg (fun b => Ending.returned (.bool b)) this.symm, rfl⟩
        · have HF := Lib.hid (And.intro hlo hhi)
          go_wp2_with fail
          go_roundg (n - (i + 1))
          case measure => rw [HGK.out]; omega
          case rel =>
            refine ⟨i + 1, by omega, rfl, by go_num, ?_, rfl⟩
            have h2 := HI.out
            unfold within at h2
            have : within lim (xs.take (i + 1)) = true := by
              rw [HH.out.1]
              unfold within
              rw [List.all_append, h2]
              have := HF.out
              simp; omega
            exact this
    · have hlti : ¬ (i : Int) < (n : Int) := by omega
      have hw : within lim xs = true := by
        have := HI.out
        rwa [List.take_of_length_le (by rw [HL.out]; omega)] at this
      have HW := Lib.hid hw
      clear hw
      go_wp2_with fail
      go_ret
      exact ⟨congrArg (fun b => Ending.returned (.bool b)) HW.out.symm, rfl⟩

end Go.Proofs.YtimkeblcdodfmaaGreat

namespace Go.Proofs.YtimkeblcdodfmaaGreat

/-- The greatest common divisor of four. -/
def g4 (a b c d : Int) : Nat := Nat.gcd (Int.gcd a b) (Int.gcd c d)

theorem g4_dvd (a b c d : Int) : (g4 a b c d : Int) ∣ a ∧ (g4 a b c d : Int) ∣ b ∧ (g4 a b c d : Int) ∣ c ∧ (g4 a b c d : Int) ∣ d := by
  have h1 : (g4 a b c d : Int) ∣ (Int.gcd a b : Int) := Int.natCast_dvd_natCast.2 (Nat.gcd_dvd_left ..)
  have h2 : (g4 a b c d : Int) ∣ (Int.gcd c d : Int) := Int.natCast_dvd_natCast.2 (Nat.gcd_dvd_right ..)
  exact ⟨Int.dvd_trans h1 (Int.gcd_dvd_left ..), Int.dvd_trans h1 (Int.gcd_dvd_right ..), Int.dvd_trans h2 (Int.gcd_dvd_left ..), Int.dvd_trans h2 (Int.gcd_dvd_right ..)⟩
theorem g4_pos {a b c d : Int} (h : ¬ (a = 0 ∧ b = 0 ∧ c = 0)) : 0 < g4 a b c d := by
  rcases Nat.eq_zero_or_pos (g4 a b c d) with h0 | h0
  · exfalso
    have := g4_dvd a b c d
    rw [h0] at this
    exact h ⟨Int.zero_dvd.1 this.1, Int.zero_dvd.1 this.2.1, Int.zero_dvd.1 this.2.2.1⟩
  · exact h0
theorem g4_scale (m : Nat) (a b c d : Int) : g4 (m * a) (m * b) (m * c) (m * d) = m * g4 a b c d := by
  unfold g4
  rw [Int.gcd_mul_left, Int.gcd_mul_left, Int.natAbs_natCast, Nat.gcd_mul_left]
/-- A plane's data are right. -/
def RightP (a b c d : Int) : Prop := ¬ (a = 0 ∧ b = 0 ∧ c = 0) ∧ a.natAbs ≤ 1000 ∧ b.natAbs ≤ 1000 ∧ c.natAbs ≤ 1000 ∧ d.natAbs ≤ 1000000 ∧ g4 a b c d = 1
instance (a b c d : Int) : Decidable (RightP a b c d) := by unfold RightP; infer_instance
/-- A point's data are right. -/
def SoundP (a b c d : Int) : Prop := a.natAbs ≤ 8796093022208 ∧ b.natAbs ≤ 8796093022208 ∧ c.natAbs ≤ 8796093022208 ∧ 1 ≤ d ∧ d ≤ 8589934592 ∧ g4 a b c d = 1
instance (a b c d : Int) : Decidable (SoundP a b c d) := by unfold SoundP; infer_instance

/-- Lowest terms. -/
def low4 (a b c d x : Int) : Int := x / (g4 a b c d : Int)
/-- Four numbers have a right plane. -/
def MakeOk (a b c d : Int) : Prop := RightP (low4 a b c d a) (low4 a b c d b) (low4 a b c d c) (low4 a b c d d)
instance (a b c d : Int) : Decidable (MakeOk a b c d) := by unfold MakeOk; infer_instance

theorem low4_mul (a b c d : Int) : low4 a b c d a * g4 a b c d = a ∧ low4 a b c d b * g4 a b c d = b ∧ low4 a b c d c * g4 a b c d = c ∧ low4 a b c d d * g4 a b c d = d := by
  have h := g4_dvd a b c d
  exact ⟨Int.ediv_mul_cancel h.1, Int.ediv_mul_cancel h.2.1, Int.ediv_mul_cancel h.2.2.1, Int.ediv_mul_cancel h.2.2.2⟩

theorem low4_same {k m : Nat} {a b c d a' b' c' d' : Int} (hk : 0 < k) (hm : 0 < m) (e0 : k * a' = m * a) (e1 : k * b' = m * b) (e2 : k * c' = m * c) (e3 : k * d' = m * d) {x x' : Int} (e : k * x' = m * x) :
    low4 a' b' c' d' x' = low4 a b c d x := by
  unfold low4
  have h1 := g4_scale k a' b' c' d'
  rw [e0, e1, e2, e3, g4_scale] at h1
  have h2 : (k : Int) * (g4 a' b' c' d' : Int) = (m : Int) * (g4 a b c d : Int) := by rw [← Int.natCast_mul, ← Int.natCast_mul, h1]
  rw [← Int.mul_ediv_mul_of_pos (a := (k : Int)) x' (g4 a' b' c' d' : Int) (by omega), e, h2, Int.mul_ediv_mul_of_pos (a := (m : Int)) _ _ (by omega)]

theorem low4_g4 {a b c d : Int} (h : ¬ (a = 0 ∧ b = 0 ∧ c = 0)) : g4 (low4 a b c d a) (low4 a b c d b) (low4 a b c d c) (low4 a b c d d) = 1 := by
  have hp := g4_pos (d := d) h
  have hm := low4_mul a b c d
  have hs := g4_scale (g4 a b c d) (low4 a b c d a) (low4 a b c d b) (low4 a b c d c) (low4 a b c d d)
  rw [Int.mul_comm, hm.1, Int.mul_comm, hm.2.1, Int.mul_comm, hm.2.2.1, Int.mul_comm, hm.2.2.2] at hs
  exact Nat.eq_of_mul_eq_mul_left hp (by omega)

theorem low4_zero {a b c d x : Int} (_h : ¬ (a = 0 ∧ b = 0 ∧ c = 0)) (hx : low4 a b c d x * g4 a b c d = x) : low4 a b c d x = 0 ↔ x = 0 := by
  constructor
  · intro e; rw [e, Int.zero_mul] at hx; exact hx.symm
  · intro e; rw [e]; unfold low4; simp

theorem low4_le {a b c d x : Int} (h : ¬ (a = 0 ∧ b = 0 ∧ c = 0)) (hx : low4 a b c d x * g4 a b c d = x) : (low4 a b c d x).natAbs ≤ x.natAbs := by
  have hp := g4_pos (d := d) h
  have e : (low4 a b c d x).natAbs * g4 a b c d = x.natAbs := by rw [← congrArg Int.natAbs hx, Int.natAbs_mul, Int.natAbs_natCast]
  have := Nat.le_mul_of_pos_right (low4 a b c d x).natAbs hp
  omega

theorem g4_nest (a b c d : Int) : Nat.gcd (Nat.gcd (Nat.gcd (Nat.gcd 0 a.natAbs) b.natAbs) c.natAbs) d.natAbs = g4 a b c d := by
  unfold g4 Int.gcd; rw [Nat.gcd_zero_left, Nat.gcd_assoc (Nat.gcd a.natAbs b.natAbs)]
theorem g4_rev (a b c d : Int) : g4 d c b a = g4 a b c d := by
  unfold g4; rw [Nat.gcd_comm, Int.gcd_comm b a, Int.gcd_comm d c]


def minorZ (q1 q2 q3 r1 r2 r3 s1 s2 s3 : Int) : Int := (q1 * r2 - q2 * r1) * s3 + (r1 * s2 - r2 * s1) * q3 + (s1 * q2 - s2 * q1) * r3

theorem minorZ_round (q1 q2 q3 r1 r2 r3 s1 s2 s3 : Int) : minorZ r1 r2 r3 s1 s2 s3 q1 q2 q3 = minorZ q1 q2 q3 r1 r2 r3 s1 s2 s3 := by unfold minorZ; grind

end Go.Proofs.YtimkeblcdodfmaaGreat

namespace Go.Proofs.YtimkeblcdodfmaaGreat
open Go.RowKit Go.Shelf
attribute [local go_sem] sumV Oper.semAt_some

/-- What areCoprime's operations yield. -/
def coC (N : Nat) (a b c d : Int) (g : Nat) : Nat → Value := fun i => match i with
  | 0 => .pointer (some ⟨N, 3, none⟩) | 1 => .int .i64 d | 2 => .agg #[.int .u64 (hiW d), .int .u64 (loW d)]
  | 3 => .pointer (some ⟨N, 2, none⟩) | 4 => .int .i64 c | 5 => .agg #[.int .u64 (hiW c), .int .u64 (loW c)]
  | 6 => .pointer (some ⟨N, 1, none⟩) | 7 => .int .i64 b | 8 => .agg #[.int .u64 (hiW b), .int .u64 (loW b)]
  | 9 => .pointer (some ⟨N, 0, none⟩) | 10 => .int .i64 a | 11 => .agg #[.int .u64 (hiW a), .int .u64 (loW a)]
  | 13 => .agg #[.int .u64 (hiW (g : Int)), .int .u64 (loW (g : Int))]
  | 14 => .agg #[.int .u64 0, .int .u64 1]
  | _ => .bool (decide (g = 1))
def coV (N : Nat) (a b c d : Int) (g : Nat) (i : Nat) (w : World) : Value := if i = 12 then .slice (some ⟨w.heap.size, 0, none⟩) 4 4 else coC N a b c d g i
def RCo (N : Nat) (a b c d : Int) (g : Nat) (i : Nat) (v : Value) (w : World) : Prop := if i = 12 then ∃ B, v = .slice (some ⟨B, 0, none⟩) 4 4 ∧ RdSum w (some ⟨B, 0, none⟩) [d, c, b, a] else v = coC N a b c d g i
theorem RCo.mono {N : Nat} {a b c d : Int} {g : Nat} : ∀ i v w w', Below w.heap.size w w' → RCo N a b c d g i v w → RCo N a b c d g i v w' := by
  intro i v w w' hb h
  unfold RCo at h ⊢
  split
  · rename_i e; rw [if_pos e] at h
    obtain ⟨B, e, hr⟩ := h; exact ⟨B, e, hr.below hb⟩
  · rename_i e; rw [if_neg e] at h; exact h

theorem sums4 (w : World) (x0 x1 x2 x3 : Int) : RdSum (w.alloc (.cells #[.int .u64 (hiW x0), .int .u64 (loW x0), .int .u64 (hiW x1), .int .u64 (loW x1), .int .u64 (hiW x2), .int .u64 (loW x2), .int .u64 (hiW x3), .int .u64 (loW x3)] 90)) (some ⟨w.heap.size, 0, none⟩) [x0, x1, x2, x3] := by
  have hB := Blk.new w #[.int .u64 (hiW x0), .int .u64 (loW x0), .int .u64 (hiW x1), .int .u64 (loW x1), .int .u64 (hiW x2), .int .u64 (loW x2), .int .u64 (hiW x3), .int .u64 (loW x3)] 90
  intro i x hi
  match i, hi with
  | 0, hi => cases hi; exact ⟨_, 0, rfl, hB.lt, hB.cell (i := 0) rfl, hB.cell (i := 1) rfl⟩
  | 1, hi => cases hi; exact ⟨_, 0, rfl, hB.lt, hB.cell (i := 2) rfl, hB.cell (i := 3) rfl⟩
  | 2, hi => cases hi; exact ⟨_, 0, rfl, hB.lt, hB.cell (i := 4) rfl, hB.cell (i := 5) rfl⟩
  | 3, hi => cases hi; exact ⟨_, 0, rfl, hB.lt, hB.cell (i := 6) rfl, hB.cell (i := 7) rfl⟩
  | i + 4, hi => simp at hi

set_option maxRecDepth 100000 in
set_option maxHeartbeats 4000000 in
theorem coprime_any (a b c d : Int) (w : World) (ha : InI64 a) (hb : InI64 b) (hc : InI64 c) (hd : InI64 d) :
    Calls Tryz.prog 107 #[.agg #[.int .i64 a, .int .i64 b, .int .i64 c, .int .i64 d]] w fun e w' => e = .returned (.bool (decide (g4 a b c d = 1))) ∧ Below w.heap.size w w' := by
  obtain ⟨w1, hw1⟩ : ∃ w1, w.alloc (.cells #[.int .i64 a, .int .i64 b, .int .i64 c, .int .i64 d] 22) = w1 := ⟨_, rfl⟩
  have hb1 : Below w.heap.size w w1 := by rw [← hw1]; exact (Below.refl _ w).alloc (Nat.le_refl _) _
  have k0 : Blk w1 w.heap.size #[.int .i64 a, .int .i64 b, .int .i64 c, .int .i64 d] 22 := by rw [← hw1]; exact Blk.new _ _ _
  obtain ⟨N, hN⟩ : ∃ N, w.heap.size = N := ⟨_, rfl⟩
  rw [hN] at k0
  have hg : gcdL 0 [d, c, b, a] = g4 a b c d := by
    show Nat.gcd (Nat.gcd (Nat.gcd (Nat.gcd 0 d.natAbs) c.natAbs) b.natAbs) a.natAbs = _
    rw [g4_nest d c b a, g4_rev]
  obtain ⟨g, hgg⟩ : ∃ g, g4 a b c d = g := ⟨_, rfl⟩
  rw [hgg] at hg ⊢
  unfold InI64 at ha hb hc hd
  have hO0 : ∀ x W, -9223372036854775808 ≤ x → x < 9223372036854775808 → Calls Tryz.prog 80 #[.int .i64 x] W fun e w' => e = .returned (.agg #[.int .u64 (hiW x), .int .u64 (loW x)]) ∧ Below W.heap.size W w' := fun x W h0 h1 => of_any x W h0 h1
  have hD0 : ∀ B W, RdSum W (some ⟨B, 0, none⟩) [d, c, b, a] → Calls Tryz.prog 108 #[.slice (some ⟨B, 0, none⟩) 4 4] W fun e w' => e = .returned (.agg #[.int .u64 (hiW (g : Int)), .int .u64 (loW (g : Int))]) ∧ Below W.heap.size W w' := fun B W hr => by
    have := divisorL_any (some ⟨B, 0, none⟩) 4 4 [d, c, b, a] W rfl (by decide) hr (by intro x hx; simp at hx; unfold In127; rcases hx with rfl | rfl | rfl | rfl <;> omega)
    rw [hg] at this
    exact this
  have h1c : ∀ W, Calls Tryz.prog 80 #[.int .i64 1] W fun e w' => e = .returned (.agg #[.int .u64 0, .int .u64 1]) ∧ Below W.heap.size W w' := fun W => of_any 1 W (by decide) (by decide)
  have hgl : g < 9223372036854775809 := by
    rw [← hg]
    exact gcdL_lt (by decide) _ 0 (by decide) (by intro x hx; simp at hx; rcases hx with rfl | rfl | rfl | rfl <;> omega)
  have heq : ∀ W, (binOp .eql 90 (.agg #[.int .u64 (hiW (g : Int)), .int .u64 (loW (g : Int))]) (.agg #[.int .u64 0, .int .u64 1])).run Tryz.prog W = .ok (.bool (decide (g = 1))) W := by
    intro W
    rw [eql_sum]
    by_cases h : g = 1
    · rw [h]; rfl
    · rw [decide_eq_false h]
      cases e : (hiW (g : Int) == 0 && loW (g : Int) == 1)
      · rfl
      · simp at e; unfold hiW loW at e; omega
  have HO := Lib.hid hO0
  have HD := Lib.hid hD0
  have H1 := Lib.hid h1c
  clear hO0 hD0 h1c hgg hg hgl
  go_enter Tryz.func107, Tryz.ntmps107
  go_upto_region 1 with fail
  refine wp_region_val (coV N a b c d g) (RCo N a b c d g) (by kernel_rfl) (by kernel_rfl) RCo.mono ?_ ?_
  · rintro i hi f ww hS hd
    rcases i with _ | _ | _ | _ | _ | _ | _ | _ | _ | _ | _ | _ | _ | _ | _ | _ | _ | i
    · refine wpOp_list rfl ?_
      simp only [tmOf, putAll, List.map_cons, List.map_nil, List.setIfInBounds_toArray, List.set_cons_zero, List.set_cons_succ]
      go_wp2
      simp [upd, RCo, coV, coC, Below.refl]
    · have f0 := (k0.kept hS).cell (i := 3) rfl
      have g0 : f 0 = .pointer (some ⟨N, 3, none⟩) := hd 0 (by kernel_rfl)
      refine wpOp_list rfl ?_
      simp only [tmOf, putAll, List.map_cons, List.map_nil, List.setIfInBounds_toArray, List.set_cons_zero, List.set_cons_succ]
      go_wp2
      simp [upd, g0, RCo, coV, coC, Below.refl]
    · have g1 : f 1 = .int .i64 d := hd 1 (by kernel_rfl)
      refine wpOp_list rfl ?_
      simp only [tmOf, putAll, List.map_cons, List.map_nil, List.setIfInBounds_toArray, List.set_cons_zero, List.set_cons_succ]
      go_wp2_with fail
      refine (HO.out d _ (by omega) (by omega)).mono ?_
      rintro e' wf ⟨rfl, hbf⟩
      go_wp2_with fail
      simp [upd, g1, RCo, coV, coC, hbf]
    · refine wpOp_list rfl ?_
      simp only [tmOf, putAll, List.map_cons, List.map_nil, List.setIfInBounds_toArray, List.set_cons_zero, List.set_cons_succ]
      go_wp2
      simp [upd, RCo, coV, coC, Below.refl]
    · have f0 := (k0.kept hS).cell (i := 2) rfl
      have g3 : f 3 = .pointer (some ⟨N, 2, none⟩) := hd 3 (by kernel_rfl)
      refine wpOp_list rfl ?_
      simp only [tmOf, putAll, List.map_cons, List.map_nil, List.setIfInBounds_toArray, List.set_cons_zero, List.set_cons_succ]
      go_wp2
      simp [upd, g3, RCo, coV, coC, Below.refl]
    · have g4 : f 4 = .int .i64 c := hd 4 (by kernel_rfl)
      refine wpOp_list rfl ?_
      simp only [tmOf, putAll, List.map_cons, List.map_nil, List.setIfInBounds_toArray, List.set_cons_zero, List.set_cons_succ]
      go_wp2_with fail
      refine (HO.out c _ (by omega) (by omega)).mono ?_
      rintro e' wf ⟨rfl, hbf⟩
      go_wp2_with fail
      simp [upd, g4, RCo, coV, coC, hbf]
    · refine wpOp_list rfl ?_
      simp only [tmOf, putAll, List.map_cons, List.map_nil, List.setIfInBounds_toArray, List.set_cons_zero, List.set_cons_succ]
      go_wp2
      simp [upd, RCo, coV, coC, Below.refl]
    · have f0 := (k0.kept hS).cell (i := 1) rfl
      have g6 : f 6 = .pointer (some ⟨N, 1, none⟩) := hd 6 (by kernel_rfl)
      refine wpOp_list rfl ?_
      simp only [tmOf, putAll, List.map_cons, List.map_nil, List.setIfInBounds_toArray, List.set_cons_zero, List.set_cons_succ]
      go_wp2
      simp [upd, g6, RCo, coV, coC, Below.refl]
    · have g7 : f 7 = .int .i64 b := hd 7 (by kernel_rfl)
      refine wpOp_list rfl ?_
      simp only [tmOf, putAll, List.map_cons, List.map_nil, List.setIfInBounds_toArray, List.set_cons_zero, List.set_cons_succ]
      go_wp2_with fail
      refine (HO.out b _ (by omega) (by omega)).mono ?_
      rintro e' wf ⟨rfl, hbf⟩
      go_wp2_with fail
      simp [upd, g7, RCo, coV, coC, hbf]
    · refine wpOp_list rfl ?_
      simp only [tmOf, putAll, List.map_cons, List.map_nil, List.setIfInBounds_toArray, List.set_cons_zero, List.set_cons_succ]
      go_wp2
      simp [upd, RCo, coV, coC, Below.refl]
    · have f0 := (k0.kept hS).cell (i := 0) rfl
      have g9 : f 9 = .pointer (some ⟨N, 0, none⟩) := hd 9 (by kernel_rfl)
      refine wpOp_list rfl ?_
      simp only [tmOf, putAll, List.map_cons, List.map_nil, List.setIfInBounds_toArray, List.set_cons_zero, List.set_cons_succ]
      go_wp2
      simp [upd, g9, RCo, coV, coC, Below.refl]
    · have g10 : f 10 = .int .i64 a := hd 10 (by kernel_rfl)
      refine wpOp_list rfl ?_
      simp only [tmOf, putAll, List.map_cons, List.map_nil, List.setIfInBounds_toArray, List.set_cons_zero, List.set_cons_succ]
      go_wp2_with fail
      refine (HO.out a _ (by omega) (by omega)).mono ?_
      rintro e' wf ⟨rfl, hbf⟩
      go_wp2_with fail
      simp [upd, g10, RCo, coV, coC, hbf]
    · have g2 : f 2 = .agg #[.int .u64 (hiW d), .int .u64 (loW d)] := hd 2 (by kernel_rfl)
      have g5 : f 5 = .agg #[.int .u64 (hiW c), .int .u64 (loW c)] := hd 5 (by kernel_rfl)
      have g8 : f 8 = .agg #[.int .u64 (hiW b), .int .u64 (loW b)] := hd 8 (by kernel_rfl)
      have g11 : f 11 = .agg #[.int .u64 (hiW a), .int .u64 (loW a)] := hd 11 (by kernel_rfl)
      refine wpOp_list rfl ?_
      simp only [tmOf, putAll, List.map_cons, List.map_nil, List.setIfInBounds_toArray, List.set_cons_zero, List.set_cons_succ]
      go_wp2
      exact ⟨by simp [upd, coV, g2, g5, g8, g11], by unfold RCo coV; rw [if_pos rfl, if_pos rfl]; exact ⟨_, rfl, sums4 ww d c b a⟩, (Below.refl _ ww).alloc (Nat.le_refl _) _⟩
    · obtain ⟨B, g12, hr⟩ : ∃ B, f 12 = .slice (some ⟨B, 0, none⟩) 4 4 ∧ RdSum ww (some ⟨B, 0, none⟩) [d, c, b, a] := hd 12 (by kernel_rfl)
      refine wpOp_list rfl ?_
      simp only [tmOf, putAll, List.map_cons, List.map_nil, List.setIfInBounds_toArray, List.set_cons_zero, List.set_cons_succ]
      go_wp2_with fail
      refine (HD.out B _ hr).mono ?_
      rintro e' wf ⟨rfl, hbf⟩
      go_wp2_with fail
      simp [upd, g12, RCo, coV, coC, hbf]
    · refine wpOp_list rfl ?_
      simp only [tmOf, putAll, List.map_cons, List.map_nil, List.setIfInBounds_toArray, List.set_cons_zero, List.set_cons_succ]
      go_wp2_with fail
      refine (H1.out _).mono ?_
      rintro e' wf ⟨rfl, hbf⟩
      go_wp2_with fail
      simp [upd, RCo, coV, coC, hbf]
    · have g13 : f 13 = .agg #[.int .u64 (hiW (g : Int)), .int .u64 (loW (g : Int))] := hd 13 (by kernel_rfl)
      have g14 : f 14 = .agg #[.int .u64 0, .int .u64 1] := hd 14 (by kernel_rfl)
      refine wpOp_list rfl ?_
      simp only [tmOf, putAll, List.map_cons, List.map_nil, List.setIfInBounds_toArray, List.set_cons_zero, List.set_cons_succ]
      go_wp2
      simp [upd, g13, g14, RCo, coV, coC, Below.refl]
    · have g15 : f 15 = .bool (decide (g = 1)) := hd 15 (by kernel_rfl)
      refine wpOp_list rfl ?_
      simp only [tmOf, putAll, List.map_cons, List.map_nil, List.setIfInBounds_toArray, List.set_cons_zero, List.set_cons_succ]
      go_wp2
      simp [upd, g15, RCo, coV, coC, Below.refl]
    · simp only [List.length_cons, List.length_nil] at hi; omega
  · rintro f ww hS hall
    have g16 : f 16 = .bool (decide (g = 1)) := hall 16 (by decide)
    simp only [tmOf, putAll, List.map_cons, List.map_nil, List.setIfInBounds_toArray, List.set_cons_zero, List.set_cons_succ]
    simp only [Nat.zero_add, Nat.reduceAdd, g16]
    go_wp2
    go_ret
    exact ⟨rfl, hb1.trans (hS.mono hb1.size)⟩

end Go.Proofs.YtimkeblcdodfmaaGreat

namespace Go.Proofs.YtimkeblcdodfmaaGreat
open Go.RowKit Go.Shelf
attribute [local go_sem] sumV Oper.semAt_some

theorem ints1 (w : World) (x : Int) : RdI (w.alloc (.cells #[.int .i64 x] 2)) (some ⟨w.heap.size, 0, none⟩) [x] := by
  have hB := Blk.new w #[.int .i64 x] 2
  intro i y hi
  match i, hi with
  | 0, hi => cases hi; exact ⟨_, 0, rfl, hB.lt, hB.cell (i := 0) rfl⟩
  | i + 1, hi => simp at hi
theorem ints3 (w : World) (x y z : Int) : RdI (w.alloc (.cells #[.int .i64 x, .int .i64 y, .int .i64 z] 2)) (some ⟨w.heap.size, 0, none⟩) [x, y, z] := by
  have hB := Blk.new w #[.int .i64 x, .int .i64 y, .int .i64 z] 2
  intro i u hi
  match i, hi with
  | 0, hi => cases hi; exact ⟨_, 0, rfl, hB.lt, hB.cell (i := 0) rfl⟩
  | 1, hi => cases hi; exact ⟨_, 0, rfl, hB.lt, hB.cell (i := 1) rfl⟩
  | 2, hi => cases hi; exact ⟨_, 0, rfl, hB.lt, hB.cell (i := 2) rfl⟩
  | i + 3, hi => simp at hi

theorem within_abs {lim : Nat} {x : Int} : (-(lim : Int) ≤ x ∧ x ≤ (lim : Int)) ↔ x.natAbs ≤ lim := by omega

theorem within3 (lim : Nat) (a b c : Int) : within (lim : Int) [a, b, c] = decide (a.natAbs ≤ lim ∧ b.natAbs ≤ lim ∧ c.natAbs ≤ lim) := by
  unfold within
  simp only [List.all_cons, List.all_nil, Bool.and_true, within_abs, Bool.decide_and]
theorem within1 (lim : Nat) (a : Int) : within (lim : Int) [a] = decide (a.natAbs ≤ lim) := by
  unfold within
  simp only [List.all_cons, List.all_nil, Bool.and_true, within_abs]

set_option maxRecDepth 100000 in
set_option maxHeartbeats 4000000 in
theorem isPlane_any (a b c d : Int) (w : World) (ha : InI64 a) (hb : InI64 b) (hc : InI64 c) (hd : InI64 d) :
    Calls Tryz.prog 77 #[.agg #[.int .i64 a, .int .i64 b, .int .i64 c, .int .i64 d]] w fun e w' => e = .returned (.bool (decide (RightP a b c d))) ∧ Below w.heap.size w w' := by
  obtain ⟨w1, hw1⟩ : ∃ w1, w.alloc (.cells #[.int .i64 a, .int .i64 b, .int .i64 c, .int .i64 d] 23) = w1 := ⟨_, rfl⟩
  have hb1 : Below w.heap.size w w1 := by rw [← hw1]; exact (Below.refl _ w).alloc (Nat.le_refl _) _
  have k0 : Blk w1 w.heap.size #[.int .i64 a, .int .i64 b, .int .i64 c, .int .i64 d] 23 := by rw [← hw1]; exact Blk.new _ _ _
  have c0 := k0.cell (i := 0) rfl
  have c1 := k0.cell (i := 1) rfl
  have c2 := k0.cell (i := 2) rfl
  have c3 := k0.cell (i := 3) rfl
  by_cases h0 : a = 0 ∧ b = 0 ∧ c = 0
  · have hr : decide (RightP a b c d) = false := decide_eq_false (fun h => h.1 h0)
    rw [hr]
    obtain ⟨rfl, rfl, rfl⟩ := h0
    clear hr
    go_enter Tryz.func77, Tryz.ntmps77
    go_wp2_with fail
    go_ret
    exact ⟨rfl, hb1⟩
  · have hP : decide (RightP a b c d) = (within 1000 [a, b, c] && (within 1000000 [d] && decide (g4 a b c d = 1))) := by
      rw [show (1000 : Int) = ((1000 : Nat) : Int) from rfl, show (1000000 : Int) = ((1000000 : Nat) : Int) from rfl, within3, within1]
      unfold RightP
      rw [← Bool.decide_and, ← Bool.decide_and]
      exact decide_eq_decide.2 ⟨fun h => ⟨⟨h.2.1, h.2.2.1, h.2.2.2.1⟩, h.2.2.2.2.1, h.2.2.2.2.2⟩, fun h => ⟨h0, h.1.1, h.1.2.1, h.1.2.2, h.2.1, h.2.2⟩⟩
    have HP := Lib.hid hP
    have hco := fun W => coprime_any a b c d W ha hb hc hd
    have HC := Lib.hid hco
    have H0 := Lib.hid h0
    clear hP hco h0 ha hb hc hd
    go_enter Tryz.func77, Tryz.ntmps77
    go_upto_region 1 with fail
    go_cut [15] from 3 to 15 (fun v15 wx => v15 = .bool false ∧ w1 = wx)
    case first =>
      by_cases ha : a = 0
      · have ha' : (a == 0) = true := by simp [ha]
        by_cases hb : b = 0
        · have hb' : (b == 0) = true := by simp [hb]
          have hc : ¬ c = 0 := fun e => H0.out ⟨ha, hb, e⟩
          have hc' : (c == 0) = false := by simp [hc]
          clear ha hb hc
          go_wp2_with fail
          go_meet
          case rel => exact ⟨rfl, rfl⟩
        · have hb' : (b == 0) = false := by simp [hb]
          clear ha hb
          go_wp2_with fail
          go_meet
          case rel => exact ⟨rfl, rfl⟩
      · have ha' : (a == 0) = false := by simp [ha]
        clear ha
        go_wp2_with fail
        go_meet
        case rel => exact ⟨rfl, rfl⟩
    case rest =>
    obtain ⟨rfl, rfl⟩ := hcut
    clear H0
    obtain ⟨w2, hw2⟩ : ∃ w2, w1.alloc (.cells #[.int .i64 a, .int .i64 b, .int .i64 c] 2) = w2 := ⟨_, rfl⟩
    have hr2 : RdI w2 (some ⟨w1.heap.size, 0, none⟩) [a, b, c] := by rw [← hw2]; exact ints3 w1 a b c
    have hb2 : Below w1.heap.size w1 w2 := by rw [← hw2]; exact (Below.refl _ w1).alloc (Nat.le_refl _) _
    have k2 := k0.kept hb2
    have hb2' := hb1.trans (hb2.mono hb1.size)
    have c4 := k2.cell (i := 3) rfl
    have c5 := k2.cell (i := 0) rfl
    have c6 := k2.cell (i := 1) rfl
    have c7 := k2.cell (i := 2) rfl
    go_wp2_with fail
    refine (areWithin_any 1000 (some ⟨w1.heap.size, 0, none⟩) 3 3 [a, b, c] w2 rfl (by decide) hr2 (by decide) (by decide)).mono ?_
    rintro e w3 ⟨rfl, rfl⟩
    by_cases hw1000 : within 1000 [a, b, c] = true
    · have hPx : decide (RightP a b c d) = (within 1000000 [d] && decide (g4 a b c d = 1)) := by rw [HP.out, hw1000, Bool.true_and]
      rw [hw1000]
      have HPX := Lib.hid hPx
      clear HP hw1000 hPx c0 c1 c2 c3 hb1 hw1 hb2 hw2 hr2
      obtain ⟨w3, hw3⟩ : ∃ w3, w2.alloc (.cells #[.int .i64 d] 2) = w3 := ⟨_, rfl⟩
      have hr3 : RdI w3 (some ⟨w2.heap.size, 0, none⟩) [d] := by rw [← hw3]; exact ints1 w2 d
      have hb3 : Below w2.heap.size w2 w3 := by rw [← hw3]; exact (Below.refl _ w2).alloc (Nat.le_refl _) _
      have k3 := k2.kept hb3
      have hb3' := hb2'.trans (hb3.mono hb2'.size)
      have c8 := k3.cell (i := 0) rfl
      have c9 := k3.cell (i := 1) rfl
      have c10 := k3.cell (i := 2) rfl
      have c11 := k3.cell (i := 3) rfl
      go_wp2_with fail
      refine (areWithin_any 1000000 (some ⟨w2.heap.size, 0, none⟩) 1 1 [d] w3 rfl (by decide) hr3 (by decide) (by decide)).mono ?_
      rintro e w4 ⟨rfl, rfl⟩
      by_cases hwd : within 1000000 [d] = true
      · have hPy : decide (RightP a b c d) = decide (g4 a b c d = 1) := by rw [HPX.out, hwd, Bool.true_and]
        rw [hwd]
        have HPY := Lib.hid hPy
        clear HPX hwd hPy
        go_wp2_with fail
        refine (HC.out _).mono ?_
        rintro e w5 ⟨rfl, hb5⟩
        go_wp2_with fail
        go_ret
        exact ⟨congrArg (fun b => Ending.returned (.bool b)) HPY.out.symm, hb3'.trans (hb5.mono hb3'.size)⟩
      · have hwd' : within 1000000 [d] = false := by simpa using hwd
        have hPy : decide (RightP a b c d) = false := by rw [HPX.out, hwd', Bool.false_and]
        rw [hwd']
        have HPY := Lib.hid hPy
        clear HPX hwd hwd' hPy
        go_wp2_with fail
        go_ret
        exact ⟨congrArg (fun b => Ending.returned (.bool b)) HPY.out.symm, hb3'⟩
    · have hw' : within 1000 [a, b, c] = false := by simpa using hw1000
      have hPx : decide (RightP a b c d) = false := by rw [HP.out, hw', Bool.false_and]
      rw [hw']
      have HPX := Lib.hid hPx
      clear HP hw1000 hw' hPx
      go_wp2_with fail
      go_ret
      exact ⟨congrArg (fun b => Ending.returned (.bool b)) HPX.out.symm, hb2'⟩

set_option maxRecDepth 100000 in
set_option maxHeartbeats 4000000 in
theorem isPoint_any (a b c d : Int) (w : World) (ha : InI64 a) (hb : InI64 b) (hc : InI64 c) (hd : InI64 d) :
    Calls Tryz.prog 83 #[.agg #[.int .i64 a, .int .i64 b, .int .i64 c, .int .i64 d]] w fun e w' => e = .returned (.bool (decide (SoundP a b c d))) ∧ Below w.heap.size w w' := by
  obtain ⟨w1, hw1⟩ : ∃ w1, w.alloc (.cells #[.int .i64 a, .int .i64 b, .int .i64 c, .int .i64 d] 41) = w1 := ⟨_, rfl⟩
  have hb1 : Below w.heap.size w w1 := by rw [← hw1]; exact (Below.refl _ w).alloc (Nat.le_refl _) _
  have k0 : Blk w1 w.heap.size #[.int .i64 a, .int .i64 b, .int .i64 c, .int .i64 d] 41 := by rw [← hw1]; exact Blk.new _ _ _
  have c0 := k0.cell (i := 0) rfl
  have c1 := k0.cell (i := 1) rfl
  have c2 := k0.cell (i := 2) rfl
  have c3 := k0.cell (i := 3) rfl
  by_cases h1 : d < 1
  · have hr : decide (SoundP a b c d) = false := decide_eq_false (fun h => by have := h.2.2.2.1; omega)
    rw [hr]
    clear hr
    go_enter Tryz.func83, Tryz.ntmps83
    go_wp2_with fail
    go_ret
    exact ⟨rfl, hb1⟩
  · by_cases h2 : 8589934592 < d
    · have hr : decide (SoundP a b c d) = false := decide_eq_false (fun h => by have := h.2.2.2.2.1; omega)
      rw [hr]
      clear hr
      go_enter Tryz.func83, Tryz.ntmps83
      go_wp2_with fail
      go_ret
      exact ⟨rfl, hb1⟩
    · have hP : decide (SoundP a b c d) = (within 8796093022208 [a, b, c] && decide (g4 a b c d = 1)) := by
        rw [show (8796093022208 : Int) = ((8796093022208 : Nat) : Int) from rfl, within3]
        unfold SoundP
        rw [← Bool.decide_and]
        exact decide_eq_decide.2 ⟨fun h => ⟨⟨h.1, h.2.1, h.2.2.1⟩, h.2.2.2.2.2⟩, fun h => ⟨h.1.1, h.1.2.1, h.1.2.2, by omega, by omega, h.2⟩⟩
      have HP := Lib.hid hP
      have hco := fun W => coprime_any a b c d W ha hb hc hd
      have HC := Lib.hid hco
      clear hP hco ha hb hc hd
      obtain ⟨w2, hw2⟩ : ∃ w2, w1.alloc (.cells #[.int .i64 a, .int .i64 b, .int .i64 c] 2) = w2 := ⟨_, rfl⟩
      have hr2 : RdI w2 (some ⟨w1.heap.size, 0, none⟩) [a, b, c] := by rw [← hw2]; exact ints3 w1 a b c
      have hb2 : Below w1.heap.size w1 w2 := by rw [← hw2]; exact (Below.refl _ w1).alloc (Nat.le_refl _) _
      have k2 := k0.kept hb2
      have hb2' := hb1.trans (hb2.mono hb1.size)
      have c4 := k2.cell (i := 3) rfl
      have c5 := k2.cell (i := 0) rfl
      have c6 := k2.cell (i := 1) rfl
      have c7 := k2.cell (i := 2) rfl
      go_enter Tryz.func83, Tryz.ntmps83
      go_wp2_with fail
      refine (areWithin_any 8796093022208 (some ⟨w1.heap.size, 0, none⟩) 3 3 [a, b, c] w2 rfl (by decide) hr2 (by decide) (by decide)).mono ?_
      rintro e w3 ⟨rfl, rfl⟩
      by_cases hwd : within 8796093022208 [a, b, c] = true
      · have hPy : decide (SoundP a b c d) = decide (g4 a b c d = 1) := by rw [HP.out, hwd, Bool.true_and]
        rw [hwd]
        have HPY := Lib.hid hPy
        clear HP hwd hPy
        go_wp2_with fail
        refine (HC.out _).mono ?_
        rintro e w5 ⟨rfl, hb5⟩
        go_wp2_with fail
        go_ret
        exact ⟨congrArg (fun b => Ending.returned (.bool b)) HPY.out.symm, hb2'.trans (hb5.mono hb2'.size)⟩
      · have hwd' : within 8796093022208 [a, b, c] = false := by simpa using hwd
        have hPy : decide (SoundP a b c d) = false := by rw [HP.out, hwd', Bool.false_and]
        rw [hwd']
        have HPY := Lib.hid hPy
        clear HP hwd hwd' hPy
        go_wp2_with fail
        go_ret
        exact ⟨congrArg (fun b => Ending.returned (.bool b)) HPY.out.symm, hb2'⟩

end Go.Proofs.YtimkeblcdodfmaaGreat

namespace Go.Proofs.YtimkeblcdodfmaaGreat
open Go.RowKit Go.Shelf
attribute [local go_sem] Oper.semAt_some

/-- Four integers: a plane, a point. -/
structure V4 where
  a : Int
  b : Int
  c : Int
  d : Int
deriving DecidableEq
def InV (q : V4) : Prop := InI64 q.a ∧ InI64 q.b ∧ InI64 q.c ∧ InI64 q.d
/-- A slice of them. -/
def RdV (w : World) (p : Option Addr) (ps : List V4) : Prop :=
  ∀ i q, ps[i]? = some q → ∃ b off, p = some ⟨b, off, none⟩ ∧ b < w.heap.size ∧ w.cell? ⟨b, off + i * 4, none⟩ = some (.int .i64 q.a) ∧ w.cell? ⟨b, off + i * 4 + 1, none⟩ = some (.int .i64 q.b) ∧ w.cell? ⟨b, off + i * 4 + 2, none⟩ = some (.int .i64 q.c) ∧ w.cell? ⟨b, off + i * 4 + 3, none⟩ = some (.int .i64 q.d)
theorem RdV.below {w w' : World} {p : Option Addr} {ps : List V4} (h : RdV w p ps) (hb : Below w.heap.size w w') : RdV w' p ps := by
  intro i q hi
  obtain ⟨b, off, rfl, hlt, h0, h1, h2, h3⟩ := h i q hi
  exact ⟨b, off, rfl, Nat.lt_of_lt_of_le hlt hb.size, (hb.cell (p := ⟨b, _, none⟩) hlt).trans h0, (hb.cell (p := ⟨b, _, none⟩) hlt).trans h1, (hb.cell (p := ⟨b, _, none⟩) hlt).trans h2, (hb.cell (p := ⟨b, _, none⟩) hlt).trans h3⟩

/-- An error, or none. -/
def errE (ok : Bool) (E : Int) : Int := if ok then 0 else E

/-- A check that answers r, in this world and in each later one. -/
def ChkIs (w : World) (v : Value) (r : Int) : Prop :=
  ∃ (g : FuncId) (caps : Array Value), v = .func (.func g) #[] caps ∧ (∀ args W, (callFunc g args).run Tryz.prog W = .ok (.enter g args) W) ∧ ∀ W, Below w.heap.size w W → Calls Tryz.prog g caps W fun e w' => e = .returned (.int .i64 r) ∧ Below W.heap.size W w'
theorem ChkIs.below {w w' : World} {v : Value} {r : Int} (h : ChkIs w v r) (hb : Below w.heap.size w w') : ChkIs w' v r := by
  obtain ⟨g, caps, rfl, he, hc⟩ := h
  exact ⟨g, caps, rfl, he, fun W hW => hc W (hb.trans (hW.mono hb.size))⟩

set_option maxRecDepth 100000 in
set_option maxHeartbeats 4000000 in
theorem planes_closure (bl bf be : Nat) (p : Option Addr) (n c : Nat) (ps : List V4) (E : Int) (w : World) (hl : ps.length = n) (hn : n ≤ 1000000000) (hr : RdV w p ps) (hi : ∀ q ∈ ps, InV q)
    (h0 : w.cell? ⟨bl, 0, none⟩ = some (.slice p n c)) (h1 : w.cell? ⟨bf, 0, none⟩ = some (.func (.func 77) #[] #[])) (h2 : w.cell? ⟨be, 0, none⟩ = some (.int .i64 E)) (l0 : bl < w.heap.size) (l1 : bf < w.heap.size) (l2 : be < w.heap.size) :
    Calls Tryz.prog 105 #[.pointer (some ⟨bl, 0, none⟩), .pointer (some ⟨bf, 0, none⟩), .pointer (some ⟨be, 0, none⟩)] w fun e w' => e = .returned (.int .i64 (errE (ps.all fun q => decide (RightP q.a q.b q.c q.d)) E)) ∧ Below w.heap.size w w' := by
  have HL := Lib.hid hl
  have HR := Lib.hid hr
  have HI := Lib.hid hi
  clear hl hr hi
  go_enter Tryz.func105, Tryz.ntmps105
  go_wp2_with fail
  go_loopg [8] n (fun gk v8 wr => ∃ i : Nat, i ≤ n ∧ gk = n - i ∧ v8 = .int .i64 (i : Int) ∧ Hid (∀ q ∈ ps.take i, RightP q.a q.b q.c q.d) ∧ Below w.heap.size w wr)
  case atStart => exact ⟨0, Nat.zero_le _, rfl, rfl, fun q hq => by simp at hq, Below.refl _ _⟩
  case round =>
    obtain ⟨i, hi, hgk, rfl, HA, hb⟩ := hrel
    have HGK := Lib.hid hgk
    clear hgk
    have f1 := (hb.cell (p := ⟨bf, 0, none⟩) l1).trans h1
    have f2 := (hb.cell (p := ⟨be, 0, none⟩) l2).trans h2
    by_cases hlt : i < n
    · have hil : i < ps.length := by rw [HL.out]; exact hlt
      have hlti : (i : Int) < (n : Int) := by omega
      obtain ⟨b, off, rfl, hbl, g0, g1, g2, g3⟩ := HR.out i _ (List.getElem?_eq_getElem hil)
      have htk : ps.take (i + 1) = ps.take i ++ [ps[i]] := List.take_succ_eq_append_getElem hil
      have hmem := List.getElem_mem hil
      have hin := HI.out _ hmem
      generalize ps[i] = q at *
      have g0 := (hb.cell (p := ⟨b, off + i * 4, none⟩) hbl).trans g0
      have g1 := (hb.cell (p := ⟨b, off + i * 4 + 1, none⟩) hbl).trans g1
      have g2 := (hb.cell (p := ⟨b, off + i * 4 + 2, none⟩) hbl).trans g2
      have g3 := (hb.cell (p := ⟨b, off + i * 4 + 3, none⟩) hbl).trans g3
      have HT := Lib.hid (And.intro htk hmem)
      have hp := fun W => isPlane_any q.a q.b q.c q.d W hin.1 hin.2.1 hin.2.2.1 hin.2.2.2
      have HP := Lib.hid hp
      clear hp htk hmem hin
      obtain ⟨w2, hw2⟩ : ∃ w2, wr.alloc (.cells #[.int .i64 q.a, .int .i64 q.b, .int .i64 q.c, .int .i64 q.d] 23) = w2 := ⟨_, rfl⟩
      have ks : Blk w2 wr.heap.size #[.int .i64 q.a, .int .i64 q.b, .int .i64 q.c, .int .i64 q.d] 23 := by rw [← hw2]; exact Blk.new _ _ _
      have hb2 : Below wr.heap.size wr w2 := by rw [← hw2]; exact (Below.refl _ wr).alloc (Nat.le_refl _) _
      have hb2' := hb.trans (hb2.mono hb.size)
      have f1 := (hb2'.cell (p := ⟨bf, 0, none⟩) l1).trans h1
      have f2 := (hb2'.cell (p := ⟨be, 0, none⟩) l2).trans h2
      have c0 := ks.cell (i := 0) rfl
      have c1 := ks.cell (i := 1) rfl
      have c2 := ks.cell (i := 2) rfl
      have c3 := ks.cell (i := 3) rfl
      go_wp2_with fail
      refine (HP.out _).mono ?_
      rintro e w3 ⟨rfl, hb3⟩
      have hb3' := hb2'.trans (hb3.mono hb2'.size)
      have f2 := (hb3'.cell (p := ⟨be, 0, none⟩) l2).trans h2
      clear c0 c1 c2 c3 ks
      by_cases hq : RightP q.a q.b q.c q.d
      · rw [decide_eq_true hq]
        have HQ := Lib.hid hq
        clear hq
        go_wp2_with fail
        go_roundg (n - (i + 1))
        case measure => rw [HGK.out]; omega
        case rel =>
          refine ⟨i + 1, by omega, rfl, by go_num, ?_, hb3'⟩
          intro y hy
          rw [HT.out.1] at hy
          rcases List.mem_append.1 hy with hy | hy
          · exact HA.out y hy
          · rw [List.mem_singleton] at hy
            rw [hy]; exact HQ.out
      · rw [decide_eq_false hq]
        have hno : ¬ ∀ q ∈ ps, RightP q.a q.b q.c q.d := fun h => hq (h q HT.out.2)
        have hz : errE (ps.all fun q => decide (RightP q.a q.b q.c q.d)) E = E := by
          rw [show (ps.all fun q => decide (RightP q.a q.b q.c q.d)) = false from by rw [List.all_eq_false]; exact ⟨q, HT.out.2, by simpa using hq⟩]; rfl
        have HN := Lib.hid hz
        clear hq hno hz
        go_wp2_with fail
        go_ret
        exact ⟨congrArg (fun z : Int => Ending.returned (.int .i64 z)) HN.out.symm, hb3'⟩
    · have hlti : ¬ (i : Int) < (n : Int) := by omega
      have hall : ∀ q ∈ ps, RightP q.a q.b q.c q.d := by
        have := HA.out
        rwa [List.take_of_length_le (by rw [HL.out]; omega)] at this
      have hz : errE (ps.all fun q => decide (RightP q.a q.b q.c q.d)) E = 0 := by
        rw [show (ps.all fun q => decide (RightP q.a q.b q.c q.d)) = true from by rw [List.all_eq_true]; exact fun q hq => decide_eq_true (hall q hq)]; rfl
      have HN := Lib.hid hz
      clear hall hz
      go_wp2_with fail
      go_ret
      exact ⟨congrArg (fun z : Int => Ending.returned (.int .i64 z)) HN.out.symm, hb⟩

set_option maxRecDepth 100000 in
set_option maxHeartbeats 2000000 in
theorem planes_any (p : Option Addr) (n c : Nat) (ps : List V4) (w : World) (hl : ps.length = n) (hn : n ≤ 1000000000) (hr : RdV w p ps) (hi : ∀ q ∈ ps, InV q) :
    Calls Tryz.prog 46 #[.slice p n c] w fun e w' => ∃ v, e = .returned v ∧ ChkIs w' v (errE (ps.all fun q => decide (RightP q.a q.b q.c q.d)) 30) ∧ Below w.heap.size w w' := by
  have hb0 : Below w.heap.size w (((w.alloc (.cells #[.slice p n c] 31)).alloc (.cells #[.func (.func 77) #[] #[]] 43)).alloc (.cells #[.int .i64 30] 25)) := bw3 w _ _ _
  have k0 : Blk (((w.alloc (.cells #[.slice p n c] 31)).alloc (.cells #[.func (.func 77) #[] #[]] 43)).alloc (.cells #[.int .i64 30] 25)) w.heap.size #[.slice p n c] 31 := ((Blk.new w _ _).alloc _).alloc _
  have k1 : Blk (((w.alloc (.cells #[.slice p n c] 31)).alloc (.cells #[.func (.func 77) #[] #[]] 43)).alloc (.cells #[.int .i64 30] 25)) (w.heap.size + 1) #[.func (.func 77) #[] #[]] 43 := (Blk.new' _ _ _ (by simp)).alloc _
  have k2 : Blk (((w.alloc (.cells #[.slice p n c] 31)).alloc (.cells #[.func (.func 77) #[] #[]] 43)).alloc (.cells #[.int .i64 30] 25)) (w.heap.size + 1 + 1) #[.int .i64 30] 25 := Blk.new' _ _ _ (by simp)
  have HR := Lib.hid hr
  have HI := Lib.hid hi
  have HL := Lib.hid hl
  clear hr hi hl
  go_enter Tryz.func46, Tryz.ntmps46
  go_wp2
  go_ret
  refine ⟨_, rfl, ⟨_, _, rfl, enters_of Tryz.func105 (by kernel_rfl) rfl, fun W hW => ?_⟩, hb0⟩
  exact planes_closure _ _ _ p n c ps 30 W HL.out hn ((HR.out.below hb0).below hW) HI.out ((k0.kept hW).cell (i := 0) rfl) ((k1.kept hW).cell (i := 0) rfl) ((k2.kept hW).cell (i := 0) rfl) (k0.kept hW).lt (k1.kept hW).lt (k2.kept hW).lt

set_option maxRecDepth 100000 in
set_option maxHeartbeats 4000000 in
theorem points_closure (bl bf be : Nat) (p : Option Addr) (n c : Nat) (ps : List V4) (E : Int) (w : World) (hl : ps.length = n) (hn : n ≤ 1000000000) (hr : RdV w p ps) (hi : ∀ q ∈ ps, InV q)
    (h0 : w.cell? ⟨bl, 0, none⟩ = some (.slice p n c)) (h1 : w.cell? ⟨bf, 0, none⟩ = some (.func (.func 83) #[] #[])) (h2 : w.cell? ⟨be, 0, none⟩ = some (.int .i64 E)) (l0 : bl < w.heap.size) (l1 : bf < w.heap.size) (l2 : be < w.heap.size) :
    Calls Tryz.prog 112 #[.pointer (some ⟨bl, 0, none⟩), .pointer (some ⟨bf, 0, none⟩), .pointer (some ⟨be, 0, none⟩)] w fun e w' => e = .returned (.int .i64 (errE (ps.all fun q => decide (SoundP q.a q.b q.c q.d)) E)) ∧ Below w.heap.size w w' := by
  have HL := Lib.hid hl
  have HR := Lib.hid hr
  have HI := Lib.hid hi
  clear hl hr hi
  go_enter Tryz.func112, Tryz.ntmps112
  go_wp2_with fail
  go_loopg [8] n (fun gk v8 wr => ∃ i : Nat, i ≤ n ∧ gk = n - i ∧ v8 = .int .i64 (i : Int) ∧ Hid (∀ q ∈ ps.take i, SoundP q.a q.b q.c q.d) ∧ Below w.heap.size w wr)
  case atStart => exact ⟨0, Nat.zero_le _, rfl, rfl, fun q hq => by simp at hq, Below.refl _ _⟩
  case round =>
    obtain ⟨i, hi, hgk, rfl, HA, hb⟩ := hrel
    have HGK := Lib.hid hgk
    clear hgk
    have f1 := (hb.cell (p := ⟨bf, 0, none⟩) l1).trans h1
    have f2 := (hb.cell (p := ⟨be, 0, none⟩) l2).trans h2
    by_cases hlt : i < n
    · have hil : i < ps.length := by rw [HL.out]; exact hlt
      have hlti : (i : Int) < (n : Int) := by omega
      obtain ⟨b, off, rfl, hbl, g0, g1, g2, g3⟩ := HR.out i _ (List.getElem?_eq_getElem hil)
      have htk : ps.take (i + 1) = ps.take i ++ [ps[i]] := List.take_succ_eq_append_getElem hil
      have hmem := List.getElem_mem hil
      have hin := HI.out _ hmem
      generalize ps[i] = q at *
      have g0 := (hb.cell (p := ⟨b, off + i * 4, none⟩) hbl).trans g0
      have g1 := (hb.cell (p := ⟨b, off + i * 4 + 1, none⟩) hbl).trans g1
      have g2 := (hb.cell (p := ⟨b, off + i * 4 + 2, none⟩) hbl).trans g2
      have g3 := (hb.cell (p := ⟨b, off + i * 4 + 3, none⟩) hbl).trans g3
      have HT := Lib.hid (And.intro htk hmem)
      have hp := fun W => isPoint_any q.a q.b q.c q.d W hin.1 hin.2.1 hin.2.2.1 hin.2.2.2
      have HP := Lib.hid hp
      clear hp htk hmem hin
      obtain ⟨w2, hw2⟩ : ∃ w2, wr.alloc (.cells #[.int .i64 q.a, .int .i64 q.b, .int .i64 q.c, .int .i64 q.d] 41) = w2 := ⟨_, rfl⟩
      have ks : Blk w2 wr.heap.size #[.int .i64 q.a, .int .i64 q.b, .int .i64 q.c, .int .i64 q.d] 41 := by rw [← hw2]; exact Blk.new _ _ _
      have hb2 : Below wr.heap.size wr w2 := by rw [← hw2]; exact (Below.refl _ wr).alloc (Nat.le_refl _) _
      have hb2' := hb.trans (hb2.mono hb.size)
      have f1 := (hb2'.cell (p := ⟨bf, 0, none⟩) l1).trans h1
      have f2 := (hb2'.cell (p := ⟨be, 0, none⟩) l2).trans h2
      have c0 := ks.cell (i := 0) rfl
      have c1 := ks.cell (i := 1) rfl
      have c2 := ks.cell (i := 2) rfl
      have c3 := ks.cell (i := 3) rfl
      go_wp2_with fail
      refine (HP.out _).mono ?_
      rintro e w3 ⟨rfl, hb3⟩
      have hb3' := hb2'.trans (hb3.mono hb2'.size)
      have f2 := (hb3'.cell (p := ⟨be, 0, none⟩) l2).trans h2
      clear c0 c1 c2 c3 ks
      by_cases hq : SoundP q.a q.b q.c q.d
      · rw [decide_eq_true hq]
        have HQ := Lib.hid hq
        clear hq
        go_wp2_with fail
        go_roundg (n - (i + 1))
        case measure => rw [HGK.out]; omega
        case rel =>
          refine ⟨i + 1, by omega, rfl, by go_num, ?_, hb3'⟩
          intro y hy
          rw [HT.out.1] at hy
          rcases List.mem_append.1 hy with hy | hy
          · exact HA.out y hy
          · rw [List.mem_singleton] at hy
            rw [hy]; exact HQ.out
      · rw [decide_eq_false hq]
        have hno : ¬ ∀ q ∈ ps, SoundP q.a q.b q.c q.d := fun h => hq (h q HT.out.2)
        have hz : errE (ps.all fun q => decide (SoundP q.a q.b q.c q.d)) E = E := by
          rw [show (ps.all fun q => decide (SoundP q.a q.b q.c q.d)) = false from by rw [List.all_eq_false]; exact ⟨q, HT.out.2, by simpa using hq⟩]; rfl
        have HN := Lib.hid hz
        clear hq hno hz
        go_wp2_with fail
        go_ret
        exact ⟨congrArg (fun z : Int => Ending.returned (.int .i64 z)) HN.out.symm, hb3'⟩
    · have hlti : ¬ (i : Int) < (n : Int) := by omega
      have hall : ∀ q ∈ ps, SoundP q.a q.b q.c q.d := by
        have := HA.out
        rwa [List.take_of_length_le (by rw [HL.out]; omega)] at this
      have hz : errE (ps.all fun q => decide (SoundP q.a q.b q.c q.d)) E = 0 := by
        rw [show (ps.all fun q => decide (SoundP q.a q.b q.c q.d)) = true from by rw [List.all_eq_true]; exact fun q hq => decide_eq_true (hall q hq)]; rfl
      have HN := Lib.hid hz
      clear hall hz
      go_wp2_with fail
      go_ret
      exact ⟨congrArg (fun z : Int => Ending.returned (.int .i64 z)) HN.out.symm, hb⟩

set_option maxRecDepth 100000 in
set_option maxHeartbeats 2000000 in
theorem points_any (p : Option Addr) (n c : Nat) (ps : List V4) (w : World) (hl : ps.length = n) (hn : n ≤ 1000000000) (hr : RdV w p ps) (hi : ∀ q ∈ ps, InV q) :
    Calls Tryz.prog 54 #[.slice p n c] w fun e w' => ∃ v, e = .returned v ∧ ChkIs w' v (errE (ps.all fun q => decide (SoundP q.a q.b q.c q.d)) 40) ∧ Below w.heap.size w w' := by
  have hb0 : Below w.heap.size w (((w.alloc (.cells #[.slice p n c] 52)).alloc (.cells #[.func (.func 83) #[] #[]] 44)).alloc (.cells #[.int .i64 40] 25)) := bw3 w _ _ _
  have k0 : Blk (((w.alloc (.cells #[.slice p n c] 52)).alloc (.cells #[.func (.func 83) #[] #[]] 44)).alloc (.cells #[.int .i64 40] 25)) w.heap.size #[.slice p n c] 52 := ((Blk.new w _ _).alloc _).alloc _
  have k1 : Blk (((w.alloc (.cells #[.slice p n c] 52)).alloc (.cells #[.func (.func 83) #[] #[]] 44)).alloc (.cells #[.int .i64 40] 25)) (w.heap.size + 1) #[.func (.func 83) #[] #[]] 44 := (Blk.new' _ _ _ (by simp)).alloc _
  have k2 : Blk (((w.alloc (.cells #[.slice p n c] 52)).alloc (.cells #[.func (.func 83) #[] #[]] 44)).alloc (.cells #[.int .i64 40] 25)) (w.heap.size + 1 + 1) #[.int .i64 40] 25 := Blk.new' _ _ _ (by simp)
  have HR := Lib.hid hr
  have HI := Lib.hid hi
  have HL := Lib.hid hl
  clear hr hi hl
  go_enter Tryz.func54, Tryz.ntmps54
  go_wp2
  go_ret
  refine ⟨_, rfl, ⟨_, _, rfl, enters_of Tryz.func112 (by kernel_rfl) rfl, fun W hW => ?_⟩, hb0⟩
  exact points_closure _ _ _ p n c ps 40 W HL.out hn ((HR.out.below hb0).below hW) HI.out ((k0.kept hW).cell (i := 0) rfl) ((k1.kept hW).cell (i := 0) rfl) ((k2.kept hW).cell (i := 0) rfl) (k0.kept hW).lt (k1.kept hW).lt (k2.kept hW).lt

end Go.Proofs.YtimkeblcdodfmaaGreat
