/-
  wide.power, wide.Pow; the reference's Pow.
-/
import Derived.Test.YtapfkinpdinbgaaDoorDigits
import Derived.Test.YtapfkinpdinbgaaDoorDetW
import Derived.Test.YtapfkinpdinbgaaDoorDiv
import Derived.Test.YtapfkinpdinbgaaDoorOut
namespace Go.Proofs.YtapfkinpdinbgaaDoor

section
open Go.Lib

theorem nd0_le {u k : Nat} : nd0 u ≤ k ↔ u < 10 ^ k := by
  by_cases h : u = 0
  · subst h
    constructor
    · intro _; exact Nat.pow_pos (by decide)
    · intro _; exact Nat.zero_le _
  · have e : nd0 u = nDigits u := by unfold nd0; rw [if_neg h]
    rw [e]
    constructor
    · intro hk; exact Nat.lt_of_lt_of_le (lt_pow_nDigits u) (Nat.pow_le_pow_right (by decide) hk)
    · intro hk
      by_cases h0 : k = 0
      · subst h0; rw [Nat.pow_zero] at hk; omega
      · exact nDigits_le (by omega) hk

theorem nd0_mono {a b : Nat} (h : a ≤ b) : nd0 a ≤ nd0 b := nd0_le.2 (Nat.lt_of_le_of_lt h (nd0_le.1 (Nat.le_refl _)))

/-- What 'power' hands back for x to the power of k: that, or another one that is too long as well. -/
def PowIs (x : Int) (k : Nat) (z : Int) : Prop := z = x ^ k ∨ (longB z = true ∧ longB (x ^ k) = true)

theorem PowIs.out {x z : Int} {k : Nat} (h : PowIs x k z) : outS z = outS (x ^ k) ∧ outE z = outE (x ^ k) := by
  rcases h with rfl | ⟨h1, h2⟩
  · exact ⟨rfl, rfl⟩
  · unfold outS outE; rw [h1, h2]; exact ⟨rfl, rfl⟩

theorem long_nd {z : Int} : longB z = true ↔ 2000 < nd0 z.natAbs := by unfold longB; exact decide_eq_true_iff

theorem long_pow {x : Int} {a b : Nat} (h : a ≤ b) (hl : longB (x ^ a) = true) : longB (x ^ b) = true := by
  rw [long_nd] at *
  have e : ∀ k, (x ^ k).natAbs = x.natAbs ^ k := fun k => Int.natAbs_pow x k
  rw [e] at *
  by_cases h0 : x.natAbs = 0
  · have h1 : nd0 (x.natAbs ^ a) ≤ 1 := by
      rw [nd0_le, h0]
      cases a with
      | zero => decide
      | succ a => rw [Nat.pow_succ]; simp
    omega
  · exact Nat.lt_of_lt_of_le hl (nd0_mono (Nat.pow_le_pow_right (by omega) h))

theorem PowIs.stop {x r : Int} {k : Nat} (h : PowIs x (k / 2) r) (hl : longB r = true) : PowIs x k r := by
  right
  refine ⟨hl, ?_⟩
  rcases h with rfl | ⟨_, h2⟩
  · exact long_pow (Nat.div_le_self k 2) hl
  · exact long_pow (Nat.div_le_self k 2) h2

theorem PowIs.exact {x r : Int} {k : Nat} (h : PowIs x k r) (hl : longB r = false) : r = x ^ k := by
  rcases h with h | ⟨h1, _⟩
  · exact h
  · rw [hl] at h1; cases h1

theorem pow_even {x : Int} {k : Nat} (h : k % 2 = 0) : x ^ (k / 2) * x ^ (k / 2) = x ^ k := by
  rw [← Int.pow_add]; congr 1; omega
theorem pow_odd {x : Int} {k : Nat} (h : k % 2 = 1) : x ^ (k / 2) * x ^ (k / 2) * x = x ^ k := by
  rw [← Int.pow_add, ← Int.pow_succ]; congr 1; omega

theorem few_words {u k m : Nat} (h : nd0 u ≤ k) (hk : k ≤ 9 * m) : u < BW ^ m := by
  rw [nd0_le] at h
  rw [pow_words]
  exact Nat.lt_of_lt_of_le h (Nat.pow_le_pow_right (by decide) hk)
/-- A number that is not too long has at most 223 words. -/
theorem short_words {z : Int} (h : longB z = false) : z.natAbs < BW ^ 223 := by
  have h1 : nd0 z.natAbs ≤ 2000 := by
    rcases Nat.lt_or_ge 2000 (nd0 z.natAbs) with h2 | h2
    · rw [long_nd.2 h2] at h; cases h
    · exact h2
  exact few_words h1 (by decide)

theorem pow_bound {x : Int} {d : Nat} (h : x.natAbs < 10 ^ d) (k : Nat) : (x ^ k).natAbs < 10 ^ (d * k + 1) := by
  rw [Int.natAbs_pow, Nat.pow_succ, Nat.pow_mul]
  have := Nat.pow_le_pow_left (Nat.le_of_lt h) k
  have h2 : 0 < (10 ^ d) ^ k := Nat.pow_pos (Nat.pow_pos (by decide))
  omega
end

section
open Go.RowKit

/-- What 'power' hands back. -/
def PowV (w : World) (x : Int) (k : Nat) (e : Ending) (w' : World) : Prop :=
  ∃ z neg p n c xs, PowIs x k z ∧ e = .returned (.agg #[.bool neg, .slice p n c]) ∧ NumIs w' neg p n c xs z 700 ∧ Below w.heap.size w w'

theorem nd_of {w : World} {neg : Bool} {p : Option Addr} {n c : Nat} {xs : List Nat} {z : Int} {L : Nat} (h : NumIs w neg p n c xs z L) : nd0 (dv BW xs) = nd0 z.natAbs := by
  rw [h.val, sv_natAbs]

/-- A number that is not too long, in few words. -/
theorem NumIs.short {w : World} {neg : Bool} {p : Option Addr} {n c : Nat} {xs : List Nat} {z : Int} {L : Nat} (h : NumIs w neg p n c xs z L) (hz : longB z = false) : NumIs w neg p n c xs z 223 :=
  NumIs.mk' h.rd h.cap h.cn (fun hn => by rw [h.rd.1]; exact h.pos hn) h.val.symm (short_words hz)

theorem half_cast (k : Nat) : (k : Int).tdiv 2 = ((k / 2 : Nat) : Int) := by
  rw [Int.tdiv_eq_ediv_of_nonneg (by omega)]; rfl
theorem odd_cast (k : Nat) : (k : Int).tmod 2 = ((k % 2 : Nat) : Int) := by
  rw [Int.tmod_eq_emod_of_nonneg (by omega)]; rfl

set_option maxRecDepth 100000 in
set_option maxHeartbeats 4000000 in
theorem power_any (a : Bool) (p : Option Addr) (n c : Nat) (xs : List Nat) (x : Int) : ∀ (k : Nat), k ≤ 1000 → ∀ w, NumIs w a p n c xs x 223 →
    Calls Tryd.prog 58 #[.agg #[.bool a, .slice p n c], .int .i64 (k : Int)] w (PowV w x k) := by
  intro k
  induction k using Nat.strongRecOn with
  | ind k ih =>
  intro hk w hx
  have hbA : Below w.heap.size w ((w.alloc (.cells #[.bool a, .slice p n c] 79)).alloc (.cells #[.bool false, .slice none 0 0] 79)) :=
    ((Below.refl _ w).alloc (Nat.le_refl _) _).alloc (by simp) _
  have bx := (pair_boxes (W := w) (.bool a) (.slice p n c) (.bool false) (.slice none 0 0) 79).1
  have br := (pair_boxes (W := w) (.bool a) (.slice p n c) (.bool false) (.slice none 0 0) 79).2
  have hxA := hx.below hbA
  have IH := Lib.hid ih
  clear ih
  go_enter Tryd.func58, Tryd.ntmps58
  go_wp2_with fail
  generalize hWA : ((w.alloc (.cells #[.bool a, .slice p n c] 79)).alloc (.cells #[.bool false, .slice none 0 0] 79)) = wA at *
  clear hWA
  refine (one_any _).mono ?_
  rintro e w1 ⟨ng1, p1, n1, c1, xs1, rfl, h1, hb1'⟩
  have hb1 := hbA.trans (hb1'.mono hbA.size)
  have bx1 := bx.below hb1' bx.lt
  have br1 := br.below hb1' br.lt
  have l1 := br1.lt
  have hbN : Below w1.heap.size w1 (w1.alloc (.cells #[.bool ng1, .slice p1 n1 c1] 79)) := (Below.refl _ _).alloc (Nat.le_refl _) _
  have b5 := Boxed2.new w1 (.bool ng1) (.slice p1 n1 c1) 79
  have h1s := h1.below hbN
  have hxs := (hxA.below hb1').below hbN
  have hbS := hb1.alloc hb1.size (.cells #[.bool ng1, .slice p1 n1 c1] 79)
  have bxs := bx1.alloc (.cells #[.bool ng1, .slice p1 n1 c1] 79)
  have brs := br1.alloc (.cells #[.bool ng1, .slice p1 n1 c1] 79)
  have k0 := bx1.cell0
  have k1 := bx1.cell1
  have r0 := br1.cell0
  have r1 := br1.cell1
  have f0 := br1.frozen (i := 0)
  have f1 := br1.frozen (i := 1)
  have k0' := bxs.cell0
  have k1' := bxs.cell1
  by_cases h0 : k = 0
  · subst h0
    go_wp2_with fail
    have rS := (br1.set (.bool ng1) (.slice p1 n1 c1))
    have rA := rS.alloc (.cells #[.bool ng1, .slice p1 n1 c1] 79)
    have z0 := rA.cell0
    have z1 := rA.cell1
    refine bodyPost_ret (v := .agg #[.bool ng1, .slice p1 n1 c1]) (by simp [results, Tryd.results58, go_sem, z0, z1]) rfl ⟨1, ng1, p1, n1, c1, xs1, Or.inl (by simp), rfl, ?_, ?_⟩
    · have hq := h1.set2 br1 ng1 (.slice p1 n1 c1)
      have hz := Below.alloc (Below.refl _ ((w1.setCell ⟨w.heap.size + 1, 0, none⟩ (.bool ng1)).setCell ⟨w.heap.size + 1, 1, none⟩ (.slice p1 n1 c1))) (Nat.le_refl _) (.cells #[.bool ng1, .slice p1 n1 c1] 79)
      exact (hq.below hz).mono (by omega)
    · have hq := (hb1.setCell (p := ⟨w.heap.size + 1, 0, none⟩) (by simp only; omega) (.bool ng1)).setCell (p := ⟨w.heap.size + 1, 1, none⟩) (by simp only; omega) (.slice p1 n1 c1)
      exact hq.alloc hq.size _
  · have hk0 : (0 : Int) < (k : Int) := by omega
    go_wp2_with fail
    clear bx1 br1 k0 k1 r0 r1 f0 f1 k0' k1' bx br h1s
    have bx := bxs
    have br := brs
    have hx := hxs
    clear bxs brs hxs
    rw [show ((k : Int) / 2) = ((k / 2 : Nat) : Int) by omega]
    refine (IH.out (k / 2) (by omega) (by omega) _ hx).mono ?_
    rintro e w2 ⟨z2, ng2, p2, n2, c2, xs2, hP, rfl, h2, hb2'⟩
    have HP := Lib.hid hP
    clear hP IH
    have hb2 := hbS.trans (hb2'.mono hbS.size)
    have b5 := b5.below hb2' b5.lt
    have bx := bx.below hb2' bx.lt
    have br := br.below hb2' br.lt
    have hx := hx.below hb2'
    have k0 := b5.cell0
    have k1 := b5.cell1
    have x0 := bx.cell0
    have x1 := bx.cell1
    have r0 := br.cell0
    have r1 := br.cell1
    have q0 := b5.frozen (i := 0)
    have q1 := b5.frozen (i := 1)
    have f0 := br.frozen (i := 0)
    have f1 := br.frozen (i := 1)
    have h2 := h2.set2 b5 ng2 (.slice p2 n2 c2)
    have hx := hx.set2 b5 ng2 (.slice p2 n2 c2)
    have b5 := b5.set (.bool ng2) (.slice p2 n2 c2)
    have bx := (bx.setOther (C := w1.heap.size) (i := 0) (.bool ng2) (by omega)).setOther (C := w1.heap.size) (i := 1) (.slice p2 n2 c2) (by omega)
    have br := (br.setOther (C := w1.heap.size) (i := 0) (.bool ng2) (by omega)).setOther (C := w1.heap.size) (i := 1) (.slice p2 n2 c2) (by omega)
    have hbn := (hb2.setCell (p := ⟨w1.heap.size, 0, none⟩) (by simp only; omega) (.bool ng2)).setCell (p := ⟨w1.heap.size, 1, none⟩) (by simp only; omega) (.slice p2 n2 c2)
    have s0 := b5.cell0
    have s1 := b5.cell1
    have s2 := bx.cell0
    have s3 := bx.cell1
    have s4 := br.cell0
    have s5 := br.cell1
    have s6 := br.frozen (i := 0)
    have s7 := br.frozen (i := 1)
    go_wp2_with fail
    clear k0 k1 x0 x1 r0 r1 q0 q1 f0 f1
    generalize hWS : (((w2).setCell ⟨w1.heap.size, 0, none⟩ (.bool ng2)).setCell ⟨w1.heap.size, 1, none⟩ (.slice p2 n2 c2)) = wS at *
    clear hWS
    have hnd := nd_of h2
    refine (digits_any ng2 p2 n2 c2 xs2 _ (by have := h2.len; omega) h2.rd h2.cn).mono ?_
    rintro e w3 ⟨rfl, hb3'⟩
    have hb3 := hbn.trans (hb3'.mono hbn.size)
    have b5 := b5.below hb3' b5.lt
    have bx := bx.below hb3' bx.lt
    have br := br.below hb3' br.lt
    have hx := hx.below hb3'
    have h2 := h2.below hb3'
    have k0 := b5.cell0
    have k1 := b5.cell1
    have x0 := bx.cell0
    have x1 := bx.cell1
    have r0 := br.cell0
    have r1 := br.cell1
    have q0 := b5.frozen (i := 0)
    have q1 := b5.frozen (i := 1)
    have f0 := br.frozen (i := 0)
    have f1 := br.frozen (i := 1)
    clear s0 s1 s2 s3 s4 s5 s6 s7
    rw [hnd]
    cases hl : longB z2
    · have hnl : ¬ (2000 : Int) < ((nd0 z2.natAbs : Nat) : Int) := by
        intro hh; rw [long_nd.2 (by omega)] at hl; cases hl
      obtain ⟨N2, hN2⟩ : ∃ N2, nd0 z2.natAbs = N2 := ⟨_, rfl⟩
      rw [hN2] at hnl ⊢
      have HZ := Lib.hid (HP.out.exact hl)
      have h2 := h2.short hl
      clear hnd hN2
      go_wp2_with fail
      refine (product_num h2 h2 (by omega) (by omega)).mono ?_
      rintro e w4 ⟨ng4, p4, n4, c4, xs4, rfl, h4, hb4'⟩
      have hb4 := hb3.trans (hb4'.mono hb3.size)
      have b5 := b5.below hb4' b5.lt
      have bx := bx.below hb4' bx.lt
      have br := br.below hb4' br.lt
      have hx := hx.below hb4'
      have k0 := b5.cell0
      have k1 := b5.cell1
      have x0 := bx.cell0
      have x1 := bx.cell1
      have r0 := br.cell0
      have r1 := br.cell1
      have q0 := b5.frozen (i := 0)
      have q1 := b5.frozen (i := 1)
      have f0 := br.frozen (i := 0)
      have f1 := br.frozen (i := 1)
      have h4 := h4.set2 b5 ng4 (.slice p4 n4 c4)
      have hx := hx.set2 b5 ng4 (.slice p4 n4 c4)
      have b5 := b5.set (.bool ng4) (.slice p4 n4 c4)
      have bx := (bx.setOther (C := w1.heap.size) (i := 0) (.bool ng4) (by omega)).setOther (C := w1.heap.size) (i := 1) (.slice p4 n4 c4) (by omega)
      have br := (br.setOther (C := w1.heap.size) (i := 0) (.bool ng4) (by omega)).setOther (C := w1.heap.size) (i := 1) (.slice p4 n4 c4) (by omega)
      have hbn := (hb4.setCell (p := ⟨w1.heap.size, 0, none⟩) (by simp only; omega) (.bool ng4)).setCell (p := ⟨w1.heap.size, 1, none⟩) (by simp only; omega) (.slice p4 n4 c4)
      have s0 := b5.cell0
      have s1 := b5.cell1
      have s2 := bx.cell0
      have s3 := bx.cell1
      have s4 := br.cell0
      have s5 := br.cell1
      have s6 := br.frozen (i := 0)
      have s7 := br.frozen (i := 1)
      by_cases hpar : k % 2 = 1
      · have hpi : (k : Int) % 2 = 1 := by omega
        go_wp2_with fail
        clear k0 k1 x0 x1 r0 r1 q0 q1 f0 f1
        generalize hWS : (((w4).setCell ⟨w1.heap.size, 0, none⟩ (.bool ng4)).setCell ⟨w1.heap.size, 1, none⟩ (.slice p4 n4 c4)) = wT at *
        clear hWS
        refine (product_num h4 hx (by omega) (by omega)).mono ?_
        rintro e w5 ⟨ng5, p5, n5, c5, xs5, rfl, h5, hb5'⟩
        have hb5 := hbn.trans (hb5'.mono hbn.size)
        have b5 := b5.below hb5' b5.lt
        have bx := bx.below hb5' bx.lt
        have br := br.below hb5' br.lt
        have hx := hx.below hb5'
        have k0 := b5.cell0
        have k1 := b5.cell1
        have x0 := bx.cell0
        have x1 := bx.cell1
        have r0 := br.cell0
        have r1 := br.cell1
        have q0 := b5.frozen (i := 0)
        have q1 := b5.frozen (i := 1)
        have f0 := br.frozen (i := 0)
        have f1 := br.frozen (i := 1)
        clear s0 s1 s2 s3 s4 s5 s6 s7
        have h5 := (h5.mono (M := 700) (by omega)).set2 b5 ng5 (.slice p5 n5 c5)
        have hx := hx.set2 b5 ng5 (.slice p5 n5 c5)
        have b5 := b5.set (.bool ng5) (.slice p5 n5 c5)
        have bx := (bx.setOther (C := w1.heap.size) (i := 0) (.bool ng5) (by omega)).setOther (C := w1.heap.size) (i := 1) (.slice p5 n5 c5) (by omega)
        have br := (br.setOther (C := w1.heap.size) (i := 0) (.bool ng5) (by omega)).setOther (C := w1.heap.size) (i := 1) (.slice p5 n5 c5) (by omega)
        have hbm := (hb5.setCell (p := ⟨w1.heap.size, 0, none⟩) (by simp only; omega) (.bool ng5)).setCell (p := ⟨w1.heap.size, 1, none⟩) (by simp only; omega) (.slice p5 n5 c5)
        have s0 := b5.cell0
        have s1 := b5.cell1
        have s2 := bx.cell0
        have s3 := bx.cell1
        have s4 := br.cell0
        have s5 := br.cell1
        have s6 := br.frozen (i := 0)
        have s7 := br.frozen (i := 1)
        go_wp2_with fail
        have rS := br.set (.bool ng5) (.slice p5 n5 c5)
        have z0 := rS.cell0
        have z1 := rS.cell1
        refine bodyPost_ret (v := .agg #[.bool ng5, .slice p5 n5 c5]) (by simp [results, Tryd.results58, go_sem, z0, z1]) rfl ⟨z2 * z2 * x, ng5, p5, n5, c5, xs5, Or.inl (by rw [HZ.out]; exact pow_odd hpar), rfl, h5.set2 br ng5 (.slice p5 n5 c5), ?_⟩
        exact (hbm.setCell (p := ⟨w.heap.size + 1, 0, none⟩) (by simp only; omega) (.bool ng5)).setCell (p := ⟨w.heap.size + 1, 1, none⟩) (by simp only; omega) (.slice p5 n5 c5)
      · have hpi : (k : Int) % 2 = 0 := by omega
        go_wp2_with fail
        have h4 := h4.mono (M := 700) (by omega)
        have rS := br.set (.bool ng4) (.slice p4 n4 c4)
        have z0 := rS.cell0
        have z1 := rS.cell1
        refine bodyPost_ret (v := .agg #[.bool ng4, .slice p4 n4 c4]) (by simp [results, Tryd.results58, go_sem, z0, z1]) rfl ⟨z2 * z2, ng4, p4, n4, c4, xs4, Or.inl (by rw [HZ.out]; exact pow_even (by omega)), rfl, h4.set2 br ng4 (.slice p4 n4 c4), ?_⟩
        exact (hbn.setCell (p := ⟨w.heap.size + 1, 0, none⟩) (by simp only; omega) (.bool ng4)).setCell (p := ⟨w.heap.size + 1, 1, none⟩) (by simp only; omega) (.slice p4 n4 c4)
    · have hnl : (2000 : Int) < ((nd0 z2.natAbs : Nat) : Int) := by
        have := long_nd.1 hl; omega
      obtain ⟨N2, hN2⟩ : ∃ N2, nd0 z2.natAbs = N2 := ⟨_, rfl⟩
      rw [hN2] at hnl ⊢
      clear hnd hN2
      go_wp2_with fail
      have rS := br.set (.bool ng2) (.slice p2 n2 c2)
      have z0 := rS.cell0
      have z1 := rS.cell1
      refine bodyPost_ret (v := .agg #[.bool ng2, .slice p2 n2 c2]) (by simp [results, Tryd.results58, go_sem, z0, z1]) rfl ⟨z2, ng2, p2, n2, c2, xs2, HP.out.stop hl, rfl, h2.set2 br ng2 (.slice p2 n2 c2), ?_⟩
      exact (hb3.setCell (p := ⟨w.heap.size + 1, 0, none⟩) (by simp only; omega) (.bool ng2)).setCell (p := ⟨w.heap.size + 1, 1, none⟩) (by simp only; omega) (.slice p2 n2 c2)
end

section
open Go.RowKit

/-- What a call hands back: no text, and an error. -/
def ErrIs (w : World) (n : Int) (e : Ending) (w' : World) : Prop := e = .returned (.tuple #[.string ⟨#[]⟩, .int .i64 n]) ∧ Below w.heap.size w w'

set_option maxHeartbeats 1000000 in
theorem pow_bad (l : List UInt8) (k : Int) (w : World) (hl : l.length ≤ 1000000000) (hn : numB l = false) :
    Calls Tryd.prog 32 #[.string ⟨l.toArray⟩, .int .i64 k] w (ErrIs w 6) := by
  have HI := Lib.hid (isL l w hl)
  have HN := Lib.hid hn
  clear hn
  go_enter Tryd.func32, Tryd.ntmps32
  go_wp2_with fail
  refine HI.out.mono ?_
  rintro e w1 ⟨rfl, hb1⟩
  rw [HN.out]
  go_wp2_with fail
  go_ret2
  exact ⟨rfl, hb1⟩

set_option maxHeartbeats 1000000 in
theorem pow_arg (l : List UInt8) (k : Int) (w : World) (hl : l.length ≤ 1000000000) (hn : numB l = true) (hk : k < 0 ∨ 1000 < k) :
    Calls Tryd.prog 32 #[.string ⟨l.toArray⟩, .int .i64 k] w (ErrIs w 1) := by
  have HI := Lib.hid (isL l w hl)
  have HN := Lib.hid hn
  clear hn
  by_cases h0 : k < 0
  · go_enter Tryd.func32, Tryd.ntmps32
    go_wp2_with fail
    refine HI.out.mono ?_
    rintro e w1 ⟨rfl, hb1⟩
    rw [HN.out]
    go_wp2_with fail
    go_ret2
    exact ⟨rfl, hb1⟩
  · have h1 : 1000 < k := by omega
    go_enter Tryd.func32, Tryd.ntmps32
    go_wp2_with fail
    refine HI.out.mono ?_
    rintro e w1 ⟨rfl, hb1⟩
    rw [HN.out]
    go_wp2_with fail
    go_ret2
    exact ⟨rfl, hb1⟩

set_option maxHeartbeats 1000000 in
theorem pow_ok (l : List UInt8) (k : Nat) (w : World) (hl : l.length ≤ 1000000000) (hn : numB l = true) (hk : k ≤ 1000) (htab : Tab w) :
    Calls Tryd.prog 32 #[.string ⟨l.toArray⟩, .int .i64 (k : Int)] w (OutIs w (strV l ^ k)) := by
  have HI := Lib.hid (isL l w hl)
  have hrd := fun W => read_any ⟨l.toArray⟩ W (bytes_small hl) (by rw [bytes_data]; exact hn)
  rw [bytes_data] at hrd
  have HR := Lib.hid hrd
  have HN := Lib.hid hn
  have HT := Lib.hid htab
  clear hn htab hrd
  have h0 : ¬ (k : Int) < 0 := by omega
  have h1 : ¬ (1000 : Int) < (k : Int) := by omega
  go_enter Tryd.func32, Tryd.ntmps32
  go_wp2_with fail
  refine HI.out.mono ?_
  rintro e w1 ⟨rfl, hb1⟩
  rw [HN.out]
  go_wp2_with fail
  refine (HR.out _).mono ?_
  rintro e w2 ⟨ng2, p2, n2, c2, xs2, rfl, h2, hb2'⟩
  have hb2 := hb1.trans (hb2'.mono hb1.size)
  go_wp2_with fail
  refine (power_any ng2 p2 n2 c2 xs2 _ k hk _ h2).mono ?_
  rintro e w3 ⟨z3, ng3, p3, n3, c3, xs3, hP, rfl, h3, hb3'⟩
  have hb3 := hb2.trans (hb3'.mono hb2.size)
  go_wp2_with fail
  refine (written_any _ _ _ _ _ _ _ _ h3 (by omega) (HT.out.below hb3)).mono ?_
  rintro e w4 ⟨rfl, hb4'⟩
  rw [hP.out.1, hP.out.2]
  go_wp2_with fail
  go_ret2
  exact ⟨rfl, hb3.trans (hb4'.mono hb3.size)⟩

set_option maxRecDepth 100000 in
set_option maxHeartbeats 2000000 in
theorem rpow_any (a : Bool) (p : Option Addr) (n c : Nat) (xs : List Nat) (x : Int) (k : Nat) (w : World) (hk : k ≤ 1000) (hn : n ≤ 1000) (hx : RIs w a p n c xs x) :
    Calls Tryd.prog 33 #[.agg #[.bool a, .slice p n c], .int .i64 (k : Int)] w (RV w (x ^ k) (5 + k * 1000)) := by
  have hbA : Below w.heap.size w ((w.alloc (.cells #[.bool a, .slice p n c] 29)).alloc (.cells #[.bool false, .slice none 0 0] 29)) :=
    ((Below.refl _ w).alloc (Nat.le_refl _) _).alloc (by simp) _
  have bx := (pair_boxes (W := w) (.bool a) (.slice p n c) (.bool false) (.slice none 0 0) 29).1
  have br := (pair_boxes (W := w) (.bool a) (.slice p n c) (.bool false) (.slice none 0 0) 29).2
  have hxA := hx.below hbA
  have HF := Lib.hid (fun W => from_any 1 (by decide) (by decide) W)
  go_enter Tryd.func33, Tryd.ntmps33
  go_wp2_with fail
  generalize hWA : ((w.alloc (.cells #[.bool a, .slice p n c] 29)).alloc (.cells #[.bool false, .slice none 0 0] 29)) = wA at *
  clear hWA
  refine (HF.out _).mono ?_
  rintro e w1 ⟨ng1, p1, n1, c1, xs1, rfl, h1, hn1, hb1'⟩
  have hb1 := hbA.trans (hb1'.mono hbA.size)
  have bx1 := bx.below hb1' bx.lt
  have br1 := br.below hb1' br.lt
  have l1 := br1.lt
  have hbN : Below w1.heap.size w1 (w1.alloc (.cells #[.bool ng1, .slice p1 n1 c1] 29)) := (Below.refl _ _).alloc (Nat.le_refl _) _
  have b5 := Boxed2.new w1 (.bool ng1) (.slice p1 n1 c1) 29
  have h1s := h1.below hbN
  have hxs := (hxA.below hb1').below hbN
  have hbS := hb1.alloc hb1.size (.cells #[.bool ng1, .slice p1 n1 c1] 29)
  have bxs := bx1.alloc (.cells #[.bool ng1, .slice p1 n1 c1] 29)
  have brs := br1.alloc (.cells #[.bool ng1, .slice p1 n1 c1] 29)
  have HX := Lib.hid hxs
  have H1 := Lib.hid h1s
  clear hxs h1s h1 hxA hx bx br bx1 br1 hb1' hbA hbN
  go_wp2_with fail
  generalize hWS : (w1.alloc (.cells #[.bool ng1, .slice p1 n1 c1] 29)) = wS at *
  have hsS : w1.heap.size < wS.heap.size := by rw [← hWS]; simp
  clear hWS
  go_loopg [6] (k + 1) (fun gk v6 wr => ∃ (j : Nat) (ng : Bool) (q : Option Addr) (m d : Nat) (ys : List Nat), j ≤ k ∧ gk = k + 1 - j ∧ v6 = .int .i64 (j : Int) ∧ m ≤ 5 + j * 1000 ∧ Boxed2 wr w1.heap.size (.bool ng) (.slice q m d) 29 ∧ Boxed2 wr w.heap.size (.bool a) (.slice p n c) 29 ∧ Boxed2 wr (w.heap.size + 1) (.bool false) (.slice none 0 0) 29 ∧ Hid (RIs wr ng q m d ys (x ^ j)) ∧ Hid (RIs wr a p n c xs x) ∧ Below w.heap.size w wr)
  case atStart => exact ⟨0, ng1, p1, n1, c1, xs1, Nat.zero_le _, rfl, rfl, by omega, b5, bxs, brs, Lib.hid (by rw [Int.pow_zero]; exact H1.out), HX, hbS⟩
  case round =>
    obtain ⟨j, ng, q, m, d, ys, hj, hgk, rfl, hm, b5, bx, br, HY, HX, hb⟩ := hrel
    have HGK := Lib.hid hgk
    clear hgk
    have l5 := b5.lt
    have k0 := b5.cell0
    have k1 := b5.cell1
    have x0 := bx.cell0
    have x1 := bx.cell1
    have r0 := br.cell0
    have r1 := br.cell1
    have f0 := br.frozen (i := 0)
    have f1 := br.frozen (i := 1)
    by_cases hlt : j < k
    · have hji : (j : Int) < (k : Int) := by omega
      go_wp2_with fail
      refine (rmul_any ng a q p m d n c ys xs _ _ _ (by omega) (by omega) HY.out HX.out).mono ?_
      rintro e w4 ⟨ng4, p4, n4, c4, xs4, rfl, h4, hn4, hb4'⟩
      have hb4 := hb.trans (hb4'.mono hb.size)
      have b5 := b5.below hb4' b5.lt
      have bx := bx.below hb4' bx.lt
      have br := br.below hb4' br.lt
      have g0 := b5.cell0
      have g1 := b5.cell1
      have g2 := b5.frozen (i := 0)
      have g3 := b5.frozen (i := 1)
      have hx4 := (HX.out.below hb4').set2 b5 ng4 (.slice p4 n4 c4)
      have h4s := h4.set2 b5 ng4 (.slice p4 n4 c4)
      have b5s := b5.set (.bool ng4) (.slice p4 n4 c4)
      have bxs := (bx.setOther (C := w1.heap.size) (i := 0) (.bool ng4) (by omega)).setOther (C := w1.heap.size) (i := 1) (.slice p4 n4 c4) (by omega)
      have brs := (br.setOther (C := w1.heap.size) (i := 0) (.bool ng4) (by omega)).setOther (C := w1.heap.size) (i := 1) (.slice p4 n4 c4) (by omega)
      have hbs := (hb4.setCell (p := ⟨w1.heap.size, 0, none⟩) (by simp only; omega) (.bool ng4)).setCell (p := ⟨w1.heap.size, 1, none⟩) (by simp only; omega) (.slice p4 n4 c4)
      rw [← Int.pow_succ] at h4s
      have H4 := Lib.hid h4s
      have HX4 := Lib.hid hx4
      clear h4s hx4 h4 k0 k1 x0 x1 r0 r1 f0 f1
      go_wp2_with fail
      go_roundg (k + 1 - (j + 1))
      case measure => rw [HGK.out]; omega
      case rel => exact ⟨j + 1, ng4, p4, n4, c4, xs4, by omega, rfl, by go_num, by omega, b5s, bxs, brs, H4, HX4, hbs⟩
    · have hji : ¬ (j : Int) < (k : Int) := by omega
      obtain rfl : j = k := by omega
      go_wp2_with fail
      have rS := br.set (.bool ng) (.slice q m d)
      have z0 := rS.cell0
      have z1 := rS.cell1
      refine bodyPost_ret (v := .agg #[.bool ng, .slice q m d]) (by simp [results, Tryd.results33, go_sem, z0, z1]) rfl ⟨ng, q, m, d, ys, rfl, HY.out.set2 br ng (.slice q m d), by omega, ?_⟩
      exact (hb.setCell (p := ⟨w.heap.size + 1, 0, none⟩) (by simp only; omega) (.bool ng)).setCell (p := ⟨w.heap.size + 1, 1, none⟩) (by simp only; omega) (.slice q m d)
end

end Go.Proofs.YtapfkinpdinbgaaDoor
