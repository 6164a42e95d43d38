/-
  Quotient and remainder of words; the long division as a premise; Div of two strings; the division of their words as a premise; What the calls of the laws hand back, for lists of bytes; A number has one text; The iterator over a number's words, for a body that writes these words: it is handed whatever they are; A loop over an iterator whose places come in one order: the body is asked only for the place that comes next.
-/
import Derived.Test.YtimcbmgmngkagaaDoorK1
import Derived.Test.YtimcbmgmngkagaaDoorK2
import Derived.Test.YtimcbmgmngkagaaDoorK3
import Derived.Test.YtimcbmgmngkagaaDoorK4
import Derived.Test.YtimcbmgmngkagaaDoorK5
import Derived.Test.YtimcbmgmngkagaaDoorK6
namespace Go.Proofs.YtimcbmgmngkagaaDoor
open Go.RowKit

/-- What a division hands back. -/
def DivOut (w : World) (xs ys : List Nat) (e : Ending) (w' : World) : Prop :=
  ∃ p n c qs q m d rs, e = .returned (.tuple #[.slice p n c, .slice q m d]) ∧ Rd .u64 w' p n qs ∧ n ≤ c ∧ Cn BW qs ∧ Rd .u64 w' q m rs ∧ m ≤ d ∧ Cn BW rs ∧ dv BW xs = dv BW qs * dv BW ys + dv BW rs ∧ dv BW rs < dv BW ys ∧ Below w.heap.size w w'

theorem sgnCmp_neg {a b : Int} : sgnCmp a b < 0 ↔ a < b := by
  unfold sgnCmp; split
  · simp; omega
  · split <;> simp <;> omega

theorem one_word (w : World) (r : Nat) : Rd .u64 (w.alloc (.cells #[.int .u64 (r : Int)] 73)) (some ⟨w.heap.size, 0, none⟩) 1 [r] :=
  ⟨rfl, fun i hi => ⟨w.heap.size, 0, rfl, by simp, by obtain rfl : i = 0 := by omega
                                                      simp [go_sem]⟩⟩

set_option maxHeartbeats 1000000 in
/-- x is less than y, or y has one word. -/
theorem divideWords_small (p q : Option Addr) (n c m d : Nat) (xs ys : List Nat) (w : World) (hn : n ≤ 1000000) (hm : m ≤ 1000000) (hc : n ≤ c) (hd : m ≤ d) (hx : Rd .u64 w p n xs) (hy : Rd .u64 w q m ys) (gx : Cn BW xs) (gy : Cn BW ys) (h0 : 0 < dv BW ys)
    (h : dv BW xs < dv BW ys ∨ m = 1) : Calls Tryd.prog 41 #[.slice p n c, .slice q m d] w (DivOut w xs ys) := by
  by_cases hlt : dv BW xs < dv BW ys
  · have h1 : sgnCmp (dv BW xs) (dv BW ys) = -1 := sgnCmp_lt (by omega)
    have H1 := Lib.hid h1
    have HX := Lib.hid hx
    clear h h1
    go_enter Tryd.func41, Tryd.ntmps41
    go_wp2_with (go_at_call 49; refine (compareWords_any _ _ _ _ _ _ xs ys _ (by omega) (by omega) hx hy gx gy).mono ?_; rintro e w1 ⟨rfl, hb1⟩; rw [H1.out])
    go_ret2
    exact ⟨none, 0, 0, [], p, n, c, xs, rfl, Rd.nil _ _ _, Nat.le_refl _, Cn.nil _, hx.below hb1, hc, gx, by simp [dv], hlt, hb1⟩
  · obtain rfl : m = 1 := h.resolve_left hlt
    have h1 : ¬ sgnCmp (dv BW xs) (dv BW ys) < 0 := by rw [sgnCmp_neg]; omega
    obtain ⟨y, rfl⟩ : ∃ y, ys = [y] := by
      have := hy.1
      match ys, this with
      | [y], _ => exact ⟨y, rfl⟩
    have hyy : dv BW [y] = y := by simp [dv]
    have hy0 : 0 < y := by rw [hyy] at h0; exact h0
    have hyB : y < 1000000000 := gy.1 y (by simp)
    obtain ⟨SG, hSG⟩ : ∃ SG, sgnCmp (dv BW xs) (dv BW [y]) = SG := ⟨_, rfl⟩
    rw [hSG] at h1
    have H1 := Lib.hid hSG
    obtain ⟨b, off, rfl, hb, hcell⟩ := hy.2 0 (by omega)
    have hcell' : w.cell? ⟨b, off, none⟩ = some (.int .u64 (y : Int)) := by simpa using hcell
    clear hSG h hcell
    go_enter Tryd.func41, Tryd.ntmps41
    go_wp2_with (first
      | (go_at_call 49; refine (compareWords_any _ _ _ _ _ _ xs [y] _ (by omega) (by omega) hx hy gx gy).mono ?_; rintro e w1 ⟨rfl, hb1⟩; rw [H1.out]; have hcell1 := (hb1.cell (p := ⟨b, off, none⟩) hb).trans hcell')
      | (go_at_call 56; refine (divideByWord_any _ _ _ y xs _ (by omega) (hx.below hb1) gx.1 hy0 hyB).mono ?_; rintro e w2 ⟨p', n', c', qs, r, rfl, r1, r2, r3, r4, r5, hb2⟩; have hR1 := one_word w2 r)
      | (go_at_call 53; refine (trimmed_any _ _ _ [r] _ (by decide) (Nat.le_refl _) hR1).mono ?_; rintro e w3 ⟨rfl, rfl⟩))
    go_ret2
    have gd : Dg BW [r] := Dg.cons (show r < 1000000000 by omega) (Dg.nil _)
    have g1 : trimLen [r] 1 ≤ 1 := trimLen_le _ _
    have hbn : Below w2.heap.size w2 (w2.alloc (.cells #[.int .u64 (r : Int)] 73)) := (Below.refl _ _).alloc (Nat.le_refl _) _
    have hv : dv BW (trimZ [r]) = r := by rw [dv_trimZ]; simp [dv]
    refine ⟨_, _, _, qs, _, _, _, trimZ [r], rfl, r1.below hbn, r2, r3, ?_, Nat.le_refl _, trimZ_cn gd, ?_, ?_, (hb1.trans (hb2.mono hb1.size)).trans (hbn.mono (Nat.le_trans hb1.size hb2.size))⟩
    · exact hR1.take _ g1
    · rw [hv, hyy]; exact r5
    · rw [hv, hyy]; exact r4


theorem four_boxes {W : World} (u0 u1 u2 u3 u4 u5 u6 u7 : Value) (t : TypeId) :
    Boxed2 ((((W.alloc (.cells #[u0, u1] t)).alloc (.cells #[u2, u3] t)).alloc (.cells #[u4, u5] t)).alloc (.cells #[u6, u7] t)) W.heap.size u0 u1 t ∧
    Boxed2 ((((W.alloc (.cells #[u0, u1] t)).alloc (.cells #[u2, u3] t)).alloc (.cells #[u4, u5] t)).alloc (.cells #[u6, u7] t)) (W.heap.size + 1) u2 u3 t ∧
    Boxed2 ((((W.alloc (.cells #[u0, u1] t)).alloc (.cells #[u2, u3] t)).alloc (.cells #[u4, u5] t)).alloc (.cells #[u6, u7] t)) (W.heap.size + 1 + 1) u4 u5 t ∧
    Boxed2 ((((W.alloc (.cells #[u0, u1] t)).alloc (.cells #[u2, u3] t)).alloc (.cells #[u4, u5] t)).alloc (.cells #[u6, u7] t)) (W.heap.size + 1 + 1 + 1) u6 u7 t := by
  obtain ⟨a, b⟩ := pair_boxes (W := W) u0 u1 u2 u3 t
  obtain ⟨c, d⟩ := pair_boxes (W := (W.alloc (.cells #[u0, u1] t)).alloc (.cells #[u2, u3] t)) u4 u5 u6 u7 t
  simp only [World.size_alloc] at c d
  exact ⟨(a.alloc _).alloc _, (b.alloc _).alloc _, c, d⟩

/-- Quotient and remainder, from 0 on. -/
def QuotOut (w : World) (x y : Int) (L : Nat) (e : Ending) (w' : World) : Prop :=
  ∃ a p n c xs q m d ys, e = .returned (.tuple #[.agg #[.bool a, .slice p n c], .agg #[.bool false, .slice q m d]]) ∧ NumIs w' a p n c xs (x / y) L ∧ NumIs w' false q m d ys (x % y) L ∧ Below w.heap.size w w'

theorem quot_says {X Y Q R : Nat} (h : X = Q * Y + R) (hR : R < Y) (a b : Bool) (ha : a = true → R = 0) :
    sv (a != b) Q = sv a X / sv b Y ∧ (R : Int) = sv a X % sv b Y := by
  have hY : (0 : Int) < (Y : Int) := by omega
  have h' : (X : Int) = (Q : Int) * (Y : Int) + (R : Int) := by rw [h]; simp
  have key : ∀ (q r x : Int), x = q * (Y : Int) + r → 0 ≤ r → r < (Y : Int) → x / (Y : Int) = q ∧ x % (Y : Int) = r := by
    intro q r x e h0 h1
    exact (Int.ediv_emod_unique hY).2 ⟨by rw [e, Int.mul_comm]; omega, h0, h1⟩
  cases a
  · obtain ⟨k1, k2⟩ := key Q R X h' (by omega) (by omega)
    cases b
    · exact ⟨k1.symm, k2.symm⟩
    · simp [sv, Int.ediv_neg, Int.emod_neg, k1, k2]
  · have hR0 : R = 0 := ha rfl
    subst hR0
    obtain ⟨k1, k2⟩ := key (-Q) 0 (-X) (by rw [h']; simp [Int.neg_mul]) (by omega) (by omega)
    cases b
    · simp [sv, k1, k2]
    · simp [sv, Int.ediv_neg, Int.emod_neg, k1, k2]

theorem quot_says' {X Y Q R : Nat} (h : X = Q * Y + R) (hR : R < Y) (hR0 : 0 < R) (b : Bool) :
    sv (true != b) (Q + 1) = sv true X / sv b Y ∧ ((Y - R : Nat) : Int) = sv true X % sv b Y := by
  have hY : (0 : Int) < (Y : Int) := by omega
  have h' : (X : Int) = (Q : Int) * (Y : Int) + (R : Int) := by rw [h]; simp
  obtain ⟨k1, k2⟩ := (Int.ediv_emod_unique (a := -(X : Int)) (q := -((Q : Int) + 1)) (r := (Y : Int) - R) hY).2 ⟨by rw [h', Int.mul_neg, Int.mul_add, Int.mul_comm (Y : Int) (Q : Int)]; omega, by omega, by omega⟩
  have e : ((Y - R : Nat) : Int) = (Y : Int) - R := by omega
  rw [e]
  cases b
  · simp [sv, k1, k2]
  · simp [sv, Int.ediv_neg, Int.emod_neg, k1, k2]


theorem quot_close {W : World} {B2 B3 : Nat} (hne : B2 ≠ B3) {t : TypeId} (l2 : Boxed2 W B2 (.bool false) (.slice none 0 0) t) (l3 : Boxed2 W B3 (.bool false) (.slice none 0 0) t) (neg : Bool) (p q : Option Addr) (n c m d : Nat) :
    Boxed2 ((((W.setCell ⟨B2, 0, none⟩ (.bool neg)).setCell ⟨B2, 1, none⟩ (.slice p n c)).setCell ⟨B3, 0, none⟩ (.bool false)).setCell ⟨B3, 1, none⟩ (.slice q m d)) B2 (.bool neg) (.slice p n c) t ∧
    Boxed2 ((((W.setCell ⟨B2, 0, none⟩ (.bool neg)).setCell ⟨B2, 1, none⟩ (.slice p n c)).setCell ⟨B3, 0, none⟩ (.bool false)).setCell ⟨B3, 1, none⟩ (.slice q m d)) B3 (.bool false) (.slice q m d) t ∧
    ∀ r k xs, Rd .u64 W r k xs → Rd .u64 ((((W.setCell ⟨B2, 0, none⟩ (.bool neg)).setCell ⟨B2, 1, none⟩ (.slice p n c)).setCell ⟨B3, 0, none⟩ (.bool false)).setCell ⟨B3, 1, none⟩ (.slice q m d)) r k xs := by
  have e3 := (l3.setOther (C := B2) (i := 0) (.bool neg) hne.symm).setOther (C := B2) (i := 1) (.slice p n c) hne.symm
  have e2 := l2.set (.bool neg) (.slice p n c)
  exact ⟨(e2.setOther _ hne).setOther _ hne, e3.set _ _, fun r k xs h => (((h.box l2 _).box (l2.set0 _) _).box e3 _).box (e3.set0 _) _⟩

theorem quot_num {w0 w1 W : World} {a b : Bool} {p q p' q' : Option Addr} {n c m d n' c' m' d' : Nat} {xs ys qs rs : List Nat} {x y : Int} {L M : Nat} (hx : NumIs w0 a p n c xs x L) (hy : NumIs w1 b q m d ys y M)
    (r1 : Rd .u64 W p' n' qs) (r2 : n' ≤ c') (r3 : Cn BW qs) (r4 : Rd .u64 W q' m' rs) (r5 : m' ≤ d') (r6 : Cn BW rs) (r7 : dv BW xs = dv BW qs * dv BW ys + dv BW rs) (r8 : dv BW rs < dv BW ys) (h0 : a = true → dv BW rs = 0) :
    NumIs W ((a != b) && decide (0 < n')) p' n' c' qs (x / y) (max L M) ∧ NumIs W false q' m' d' rs (x % y) (max L M) := by
  obtain ⟨e1, e2⟩ := quot_says r7 r8 a b h0
  have sx := hx.small
  have sy := hy.small
  rw [hx.val, sv_natAbs] at sx
  rw [hy.val, sv_natAbs] at sy
  have g1 := Nat.pow_le_pow_right (n := BW) (by decide) (Nat.le_max_left L M)
  have g2 := Nat.pow_le_pow_right (n := BW) (by decide) (Nat.le_max_right L M)
  have hQ : dv BW qs ≤ dv BW xs := by
    have := Nat.le_mul_of_pos_right (dv BW qs) (show 0 < dv BW ys by omega)
    omega
  rw [hx.val, hy.val, ← e1, ← e2]
  refine ⟨NumIs.mk' r1 r2 r3 (by rw [r1.1]; simp) (by rw [← r1.1, sv_and _ _ r3]) (by rw [sv_natAbs]; omega), NumIs.mk' r4 r5 r6 (by simp) rfl (by omega)⟩

theorem rest_zero {a : Bool} {X Y Q R : Nat} (h0 : a = true → X % Y = 0) (h7 : X = Q * Y + R) (h8 : R < Y) : a = true → R = 0 := by
  intro ha
  have h1 := h0 ha
  rw [h7, Nat.mul_comm, Nat.mul_add_mod, Nat.mod_eq_of_lt h8] at h1
  exact h1

theorem rest_none {a : Bool} {xs ys qs rs : List Nat} {w : World} {q : Option Addr} {m : Nat} (h0 : a = true → dv BW xs % dv BW ys = 0) (hr : Rd .u64 w q m rs) (gr : Cn BW rs) (h7 : dv BW xs = dv BW qs * dv BW ys + dv BW rs) (h8 : dv BW rs < dv BW ys) : a = true → ¬ (0 : Int) < (m : Int) := by
  intro ha h
  have h1 := h0 ha
  rw [h7, Nat.mul_comm, Nat.mul_add_mod, Nat.mod_eq_of_lt h8] at h1
  have := gr.pos (b := BW) (by decide) (by intro e; have := hr.1; rw [e] at this; simp at this; omega)
  omega

set_option maxHeartbeats 2000000 in
theorem quotient_plain (a b : Bool) (p q : Option Addr) (n c m d : Nat) (xs ys : List Nat) (x y : Int) (L M : Nat) (w : World) (hx : NumIs w a p n c xs x L) (hy : NumIs w b q m d ys y M) (hL : L ≤ 1000000) (hM : M ≤ 1000000)
    (hD : ∀ W, Rd .u64 W p n xs → Rd .u64 W q m ys → Calls Tryd.prog 41 #[.slice p n c, .slice q m d] W (DivOut W xs ys)) (h0 : a = true → dv BW xs % dv BW ys = 0) :
    Calls Tryd.prog 24 #[.agg #[.bool a, .slice p n c], .agg #[.bool b, .slice q m d]] w (QuotOut w x y (max L M)) := by
  obtain ⟨b0, b1, b2, b3⟩ := four_boxes (W := w) (.bool a) (.slice p n c) (.bool b) (.slice q m d) (.bool false) (.slice none 0 0) (.bool false) (.slice none 0 0) 47
  have hb0 : Below w.heap.size w ((((w.alloc (.cells #[.bool a, .slice p n c] 47)).alloc (.cells #[.bool b, .slice q m d] 47)).alloc (.cells #[.bool false, .slice none 0 0] 47)).alloc (.cells #[.bool false, .slice none 0 0] 47)) :=
    ((((Below.refl _ w).alloc (Nat.le_refl _) _).alloc (by simp) _).alloc (by simp <;> omega) _).alloc (by simp <;> omega) _
  have hx1 := hx.below hb0
  have hy1 := hy.below hb0
  have e0 := b0.cell1
  have e1 := b1.cell1
  have HX := Lib.hid hx
  have HY := Lib.hid hy
  clear hx hy
  cases a
  · go_enter Tryd.func24, Tryd.ntmps24
    generalize hW4 : ((((w.alloc (.cells #[.bool false, .slice p n c] 47)).alloc (.cells #[.bool b, .slice q m d] 47)).alloc (.cells #[.bool false, .slice none 0 0] 47)).alloc (.cells #[.bool false, .slice none 0 0] 47)) = w4 at *
    go_wp2_with (first
      | (go_at_call 41; refine (hD _ hx1.rd hy1.rd).mono ?_; rintro e w1 ⟨p', n', c', qs, q', m', d', rs, rfl, r1, r2, r3, r4, r5, r6, r7, r8, hb1⟩; have k0 := (b0.below hb1 (by have := b3.lt; omega)); have k1 := (b1.below hb1 (by have := b3.lt; omega)); have k2 := (b2.below hb1 (by have := b3.lt; omega)); have k3 := (b3.below hb1 b3.lt); have f0 := k0.cell0; have f1 := k1.cell0; have hR0 : false = true → dv BW rs = 0 := (fun h => by cases h); clear h0)
      | (go_at_call 39; refine (signed_any _ _ _ _ _).mono ?_; rintro e w2 ⟨rfl, hb2⟩; have l2 := k2.below hb2 k2.lt; have l3 := k3.below hb2 k3.lt; have g0 := l2.cell0; have g1 := l2.cell1; have g2 := l3.cell0; have g3 := l3.cell1; have g4 := l2.frozen (i := 0); have g5 := l2.frozen (i := 1); have g6 := l3.frozen (i := 0); have g7 := l3.frozen (i := 1)))
    go_wp2
    obtain ⟨z2, z3, z4⟩ := quot_close (by omega) l2 l3 (b && decide (0 < n')) p' q' n' c' m' d'
    have y0 := z2.cell0
    have y1 := z2.cell1
    have y2 := z3.cell0
    have y3 := z3.cell1
    obtain ⟨n1, n2⟩ := quot_num HX.out HY.out (z4 _ _ _ (r1.below hb2)) r2 r3 (z4 _ _ _ (r4.below hb2)) r5 r6 r7 r8 (fun h => by first | exact hR0 trivial | exact hR0 h)
    refine bodyPost_ret (v := .tuple #[.agg #[.bool (b && decide (0 < n')), .slice p' n' c'], .agg #[.bool false, .slice q' m' d']]) (by simp [results, Tryd.results24, go_sem, y0, y1, y2, y3]) rfl ⟨_, p', n', c', qs, q', m', d', rs, rfl, ?_, n2, ?_⟩
    · first | exact n1 | (simp only [Bool.false_bne, Bool.true_bne] at n1; exact n1)
    · exact ((((((hb0.trans (hb1.mono hb0.size)).trans (hb2.mono (Nat.le_trans hb0.size hb1.size)))).setCell (by simp <;> omega) _).setCell (by simp <;> omega) _).setCell (by simp <;> omega) _).setCell (by simp <;> omega) _
  · go_enter Tryd.func24, Tryd.ntmps24
    generalize hW4 : ((((w.alloc (.cells #[.bool true, .slice p n c] 47)).alloc (.cells #[.bool b, .slice q m d] 47)).alloc (.cells #[.bool false, .slice none 0 0] 47)).alloc (.cells #[.bool false, .slice none 0 0] 47)) = w4 at *
    go_wp2_with (first
      | (go_at_call 41; refine (hD _ hx1.rd hy1.rd).mono ?_; rintro e w1 ⟨p', n', c', qs, q', m', d', rs, rfl, r1, r2, r3, r4, r5, r6, r7, r8, hb1⟩; have k0 := (b0.below hb1 (by have := b3.lt; omega)); have k1 := (b1.below hb1 (by have := b3.lt; omega)); have k2 := (b2.below hb1 (by have := b3.lt; omega)); have k3 := (b3.below hb1 b3.lt); have f0 := k0.cell0; have f1 := k1.cell0; have hm1 := rest_none h0 r4 r6 r7 r8 rfl; have hR0 : true = true → dv BW rs = 0 := rest_zero h0 r7 r8; clear h0)
      | (go_at_call 39; refine (signed_any _ _ _ _ _).mono ?_; rintro e w2 ⟨rfl, hb2⟩; have l2 := k2.below hb2 k2.lt; have l3 := k3.below hb2 k3.lt; have g0 := l2.cell0; have g1 := l2.cell1; have g2 := l3.cell0; have g3 := l3.cell1; have g4 := l2.frozen (i := 0); have g5 := l2.frozen (i := 1); have g6 := l3.frozen (i := 0); have g7 := l3.frozen (i := 1)))
    go_wp2
    obtain ⟨z2, z3, z4⟩ := quot_close (by omega) l2 l3 ((!b) && decide (0 < n')) p' q' n' c' m' d'
    have y0 := z2.cell0
    have y1 := z2.cell1
    have y2 := z3.cell0
    have y3 := z3.cell1
    obtain ⟨n1, n2⟩ := quot_num HX.out HY.out (z4 _ _ _ (r1.below hb2)) r2 r3 (z4 _ _ _ (r4.below hb2)) r5 r6 r7 r8 (fun h => by first | exact hR0 trivial | exact hR0 h)
    refine bodyPost_ret (v := .tuple #[.agg #[.bool ((!b) && decide (0 < n')), .slice p' n' c'], .agg #[.bool false, .slice q' m' d']]) (by simp [results, Tryd.results24, go_sem, y0, y1, y2, y3]) rfl ⟨_, p', n', c', qs, q', m', d', rs, rfl, ?_, n2, ?_⟩
    · first | exact n1 | (simp only [Bool.false_bne, Bool.true_bne] at n1; exact n1)
    · exact ((((((hb0.trans (hb1.mono hb0.size)).trans (hb2.mono (Nat.le_trans hb0.size hb1.size)))).setCell (by simp <;> omega) _).setCell (by simp <;> omega) _).setCell (by simp <;> omega) _).setCell (by simp <;> omega) _

theorem rest_pos {X Y Q R : Nat} (h0 : 0 < X % Y) (h7 : X = Q * Y + R) (h8 : R < Y) : 0 < R := by
  rw [h7, Nat.mul_comm, Nat.mul_add_mod, Nat.mod_eq_of_lt h8] at h0
  exact h0

theorem rest_some {w : World} {q : Option Addr} {m : Nat} {rs : List Nat} (h : 0 < dv BW rs) (hr : Rd .u64 w q m rs) : (0 : Int) < (m : Int) := by
  have : rs ≠ [] := by rintro rfl; simp [dv] at h
  have := List.length_pos_iff.2 this
  rw [hr.1] at this; omega

theorem len_le {w w' : World} {p q : Option Addr} {n m : Nat} {ys rs : List Nat} (hy : Rd .u64 w p n ys) (hr : Rd .u64 w' q m rs) (gr : Cn BW rs) (gy : Cn BW ys) (h : dv BW rs < dv BW ys) : m ≤ n := by
  rcases Nat.lt_or_ge n m with hlt | hge
  · have := Cn.lt_of_length (b := BW) (by decide) gy.1 gr (by rw [hy.1, hr.1]; exact hlt)
    omega
  · exact hge

theorem quo_len {w w' : World} {p q : Option Addr} {n m : Nat} {xs ys qs rs : List Nat} (hx : Rd .u64 w p n xs) (hq : Rd .u64 w' q m qs) (gx : Cn BW xs) (gq : Cn BW qs) (h7 : dv BW xs = dv BW qs * dv BW ys + dv BW rs) (h8 : dv BW rs < dv BW ys) : m ≤ n := by
  have h1 := dv_lt gx.1
  rw [hx.1] at h1
  have h2 : dv BW qs ≤ dv BW qs * dv BW ys := Nat.le_mul_of_pos_right (dv BW qs) (show 0 < dv BW ys by omega)
  rw [← hq.1]
  exact gq.length_le (by decide) (by omega)

theorem quot_num' {w0 w1 W : World} {b : Bool} {p q p' q' : Option Addr} {n c m d n' c' m' d' : Nat} {xs ys qs rs zs us : List Nat} {x y : Int} {L M : Nat} (hx : NumIs w0 true p n c xs x L) (hy : NumIs w1 b q m d ys y M)
    (r1 : Rd .u64 W p' n' zs) (r2 : n' ≤ c') (r3 : Cn BW zs) (r4 : Rd .u64 W q' m' us) (r5 : m' ≤ d') (r6 : Cn BW us) (r7 : dv BW xs = dv BW qs * dv BW ys + dv BW rs) (r8 : dv BW rs < dv BW ys) (h0 : 0 < dv BW rs)
    (hz : dv BW zs = dv BW qs + 1) (hu : dv BW us + dv BW rs = dv BW ys) :
    NumIs W ((true != b) && decide (0 < n')) p' n' c' zs (x / y) (max L M) ∧ NumIs W false q' m' d' us (x % y) (max L M) := by
  obtain ⟨e1, e2⟩ := quot_says' r7 r8 h0 b
  have sx := hx.small
  have sy := hy.small
  rw [hx.val, sv_natAbs] at sx
  rw [hy.val, sv_natAbs] at sy
  have g1 := Nat.pow_le_pow_right (n := BW) (by decide) (Nat.le_max_left L M)
  have g2 := Nat.pow_le_pow_right (n := BW) (by decide) (Nat.le_max_right L M)
  have hQ : dv BW qs ≤ dv BW qs * dv BW ys := Nat.le_mul_of_pos_right (dv BW qs) (show 0 < dv BW ys by omega)
  have hus : dv BW us = dv BW ys - dv BW rs := by omega
  rw [hx.val, hy.val, ← e1, ← e2]
  refine ⟨NumIs.mk' r1 r2 r3 (by rw [r1.1]; simp) (by rw [← r1.1, sv_and _ _ r3, hz]) (by rw [sv_natAbs]; omega), NumIs.mk' r4 r5 r6 (by simp) (by rw [hus]; rfl) (by omega)⟩

set_option maxHeartbeats 2000000 in
theorem quotient_neg (b : Bool) (p q : Option Addr) (n c m d : Nat) (xs ys : List Nat) (x y : Int) (L M : Nat) (w : World) (hx : NumIs w true p n c xs x L) (hy : NumIs w b q m d ys y M) (hL : L ≤ 1000000) (hM : M ≤ 1000000)
    (hD : ∀ W, Rd .u64 W p n xs → Rd .u64 W q m ys → Calls Tryd.prog 41 #[.slice p n c, .slice q m d] W (DivOut W xs ys)) (h0 : 0 < dv BW xs % dv BW ys) :
    Calls Tryd.prog 24 #[.agg #[.bool true, .slice p n c], .agg #[.bool b, .slice q m d]] w (QuotOut w x y (max L M)) := by
  obtain ⟨b0, b1, b2, b3⟩ := four_boxes (W := w) (.bool true) (.slice p n c) (.bool b) (.slice q m d) (.bool false) (.slice none 0 0) (.bool false) (.slice none 0 0) 47
  have hb0 : Below w.heap.size w ((((w.alloc (.cells #[.bool true, .slice p n c] 47)).alloc (.cells #[.bool b, .slice q m d] 47)).alloc (.cells #[.bool false, .slice none 0 0] 47)).alloc (.cells #[.bool false, .slice none 0 0] 47)) :=
    ((((Below.refl _ w).alloc (Nat.le_refl _) _).alloc (by simp) _).alloc (by simp <;> omega) _).alloc (by simp <;> omega) _
  have hx1 := hx.below hb0
  have hy1 := hy.below hb0
  have e0 := b0.cell1
  have e1 := b1.cell1
  have HX := Lib.hid hx
  have HY := Lib.hid hy
  clear hx hy
  go_enter Tryd.func24, Tryd.ntmps24
  generalize hW4 : ((((w.alloc (.cells #[.bool true, .slice p n c] 47)).alloc (.cells #[.bool b, .slice q m d] 47)).alloc (.cells #[.bool false, .slice none 0 0] 47)).alloc (.cells #[.bool false, .slice none 0 0] 47)) = w4 at *
  go_wp2_with (first
    | (go_at_call 41; refine (hD _ hx1.rd hy1.rd).mono ?_; rintro e w1 ⟨p', n', c', qs, q', m', d', rs, rfl, r1, r2, r3, r4, r5, r6, r7, r8, hb1⟩; have k0 := (b0.below hb1 (by have := b3.lt; omega)); have k1 := (b1.below hb1 (by have := b3.lt; omega)); have k2 := (b2.below hb1 (by have := b3.lt; omega)); have k3 := (b3.below hb1 b3.lt); have f0 := k0.cell0; have f1 := k1.cell0; have hR0 : 0 < dv BW rs := rest_pos h0 r7 r8; clear h0; have hm1 : (0 : Int) < (m' : Int) := rest_some hR0 r4; have hk1 := k1.cell1; have hy2 := hy1.below hb1; have hW1 : Below w1.heap.size w1 (w1.alloc (.cells #[.int .u64 (1 : Int)] 73)) := (Below.refl _ _).alloc (Nat.le_refl _) _; have hO := one_word w1 1)
    | (go_at_call 42; refine (addWords_any _ _ _ _ _ _ qs [1] _ (Nat.le_trans (quo_len hx1.rd r1 hx1.cn r3 r7 r8) (Nat.le_trans hx1.len (by omega))) (by omega) (r1.below hW1) hO r3.1 (by intro z hz; simp at hz; subst hz; decide)).mono ?_; rintro e w5 ⟨p5, n5, c5, zs5, rfl, s1, s2, s3, s4, hb5⟩; have k0' := (k0.alloc (.cells #[.int .u64 (1 : Int)] 73)).below hb5 (by have := k3.lt; simp; omega); have k1' := (k1.alloc (.cells #[.int .u64 (1 : Int)] 73)).below hb5 (by have := k3.lt; simp; omega); have k2' := (k2.alloc (.cells #[.int .u64 (1 : Int)] 73)).below hb5 (by have := k3.lt; simp; omega); have k3' := (k3.alloc (.cells #[.int .u64 (1 : Int)] 73)).below hb5 (by have := k3.lt; simp; omega); have hk1' := k1'.cell1; have hy3 := (hy2.below hW1).below hb5; have r4' := (r4.below hW1).below hb5)
    | (go_at_call 43; refine (subtractWords_any _ _ _ _ _ _ ys rs _ (Nat.le_trans hy3.len (by omega)) (len_le hy3.rd r4' r6 hy3.cn r8) hy3.rd r4' hy3.cn.1 r6.1 (by omega)).mono ?_; rintro e w6 ⟨p6, n6, c6, zs6, rfl, t1, t2, t3, t4, hb6⟩; have m0 := k0'.below hb6 k0'.lt; have m1 := k1'.below hb6 k1'.lt; have m2 := k2'.below hb6 k2'.lt; have m3 := k3'.below hb6 k3'.lt; have f0 := m0.cell0; have f1 := m1.cell0)
    | (go_at_call 39; refine (signed_any _ _ _ _ _).mono ?_; rintro e w2 ⟨rfl, hb2⟩; have l2 := m2.below hb2 m2.lt; have l3 := m3.below hb2 m3.lt; have g0 := l2.cell0; have g1 := l2.cell1; have g2 := l3.cell0; have g3 := l3.cell1; have g4 := l2.frozen (i := 0); have g5 := l2.frozen (i := 1); have g6 := l3.frozen (i := 0); have g7 := l3.frozen (i := 1)))
  go_wp2
  obtain ⟨z2, z3, z4⟩ := quot_close (by omega) l2 l3 ((!b) && decide (0 < n5)) p5 p6 n5 c5 n6 c6
  have y0 := z2.cell0
  have y1 := z2.cell1
  have y2 := z3.cell0
  have y3 := z3.cell1
  obtain ⟨n1, n2⟩ := quot_num' HX.out HY.out (z4 _ _ _ ((s1.below hb6).below hb2)) s2 s3 (z4 _ _ _ (t1.below hb2)) t2 t3 r7 r8 hR0 (by rw [s4]; simp [dv]) t4
  have h16 := hb1.size
  have h56 := hb5.size
  have h66 := hb6.size
  rw [World.size_alloc] at h56
  refine bodyPost_ret (v := .tuple #[.agg #[.bool ((!b) && decide (0 < n5)), .slice p5 n5 c5], .agg #[.bool false, .slice p6 n6 c6]]) (by simp [results, Tryd.results24, go_sem, y0, y1, y2, y3]) rfl ⟨_, p5, n5, c5, zs5, p6, n6, c6, zs6, rfl, ?_, n2, ?_⟩
  · first | exact n1 | (simp only [Bool.false_bne, Bool.true_bne] at n1; exact n1)
  · exact ((((((((((hb0.trans (hb1.mono hb0.size)).trans (hW1.mono (by have := hb0.size; omega))).trans (hb5.mono (by have := hb0.size; rw [World.size_alloc]; omega))).trans (hb6.mono (by have := hb0.size; omega))).trans (hb2.mono (by have := hb0.size; omega))))).setCell (by simp <;> omega) _).setCell (by simp <;> omega) _).setCell (by simp <;> omega) _).setCell (by simp <;> omega) _


theorem quotient_of (a b : Bool) (p q : Option Addr) (n c m d : Nat) (xs ys : List Nat) (x y : Int) (L M : Nat) (w : World) (hx : NumIs w a p n c xs x L) (hy : NumIs w b q m d ys y M) (hL : L ≤ 1000000) (hM : M ≤ 1000000)
    (hD : ∀ W, Rd .u64 W p n xs → Rd .u64 W q m ys → Calls Tryd.prog 41 #[.slice p n c, .slice q m d] W (DivOut W xs ys)) :
    Calls Tryd.prog 24 #[.agg #[.bool a, .slice p n c], .agg #[.bool b, .slice q m d]] w (QuotOut w x y (max L M)) := by
  by_cases h : a = true → dv BW xs % dv BW ys = 0
  · exact quotient_plain a b p q n c m d xs ys x y L M w hx hy hL hM hD h
  · cases a
    · exact (h (fun h => by cases h)).elim
    · exact quotient_neg b p q n c m d xs ys x y L M w hx hy hL hM hD (Nat.pos_of_ne_zero fun e => h fun _ => e)

/-- What Div hands back. -/
def divE (ok : Bool) (y : Int) : Int := if ok then (if y = 0 then 5 else 0) else 6
def divQ (ok : Bool) (x y : Int) : List UInt8 := if ok && decide (y ≠ 0) then Lib.itoa (x / y) else []
def divR (ok : Bool) (x y : Int) : List UInt8 := if ok && decide (y ≠ 0) then Lib.itoa (x % y) else []
def DivIs (w : World) (ok : Bool) (x y : Int) (e : Ending) (w' : World) : Prop := e = .returned (.tuple #[.string ⟨(divQ ok x y).toArray⟩, .string ⟨(divR ok x y).toArray⟩, .int .i64 (divE ok y)]) ∧ Below w.heap.size w w'

end Go.Proofs.YtimcbmgmngkagaaDoor

namespace Go.Proofs.YtimcbmgmngkagaaDoor
open Go.RowKit Go.Lib

theorem fold_lt (l : List UInt8) : ∀ acc, l.all isDg = true → l.foldl (fun a c => a * 10 + (c.toNat - 48)) acc < (acc + 1) * 10 ^ l.length := by
  induction l with
  | nil => intro acc _; simp
  | cons c r ih =>
    intro acc h
    rw [List.all_cons, Bool.and_eq_true] at h
    have hc : 48 ≤ c.toNat ∧ c.toNat ≤ 57 := by simpa [isDg] using h.1
    have h1 := ih (acc * 10 + (c.toNat - 48)) h.2
    rw [List.foldl_cons, List.length_cons, Nat.pow_succ]
    refine Nat.lt_of_lt_of_le h1 ?_
    have h2 : acc * 10 + (c.toNat - 48) + 1 ≤ (acc + 1) * 10 := by omega
    have h3 := Nat.mul_le_mul_right (10 ^ r.length) h2
    have h4 : (acc + 1) * (10 ^ r.length * 10) = (acc + 1) * 10 * 10 ^ r.length := by rw [Nat.mul_comm (10 ^ r.length) 10, Nat.mul_assoc]
    omega

theorem decV_lt (l : List UInt8) (h : l.all isDg = true) : decV l < 10 ^ l.length := by
  have := fold_lt l 0 h
  rw [Nat.zero_add, Nat.one_mul] at this
  exact this

theorem longB_of {z : Int} {k : Nat} (hk : 1 ≤ k) (h : z.natAbs < 10 ^ k) (h2 : k ≤ 2000) : longB z = false := by
  unfold longB
  have : nd0 z.natAbs ≤ k := by
    unfold nd0
    split
    · omega
    · exact nDigits_le hk h
  simp; omega

theorem strV_lt {l : List UInt8} (h : numB l = true) : (strV l).natAbs < 10 ^ (digitsOf l).length ∧ (digitsOf l).length ≤ 2000 ∧ 1 ≤ (digitsOf l).length := by
  unfold numB plainB at h
  simp only [Bool.and_eq_true, decide_eq_true_eq] at h
  obtain ⟨⟨⟨h1, h2⟩, _⟩, h3⟩ := h
  refine ⟨?_, h3, ?_⟩
  · have h4 := decV_lt _ h2
    unfold strV
    split <;> simp <;> omega
  · cases hd : digitsOf l
    · rw [hd] at h1; simp at h1
    · simp

/-- The least that is too long. -/
theorem limit : ∃ B : Nat, (∀ z : Int, z.natAbs < B → longB z = false) ∧ ∀ l, numB l = true → (strV l).natAbs < B := by
  obtain ⟨k, hk⟩ : ∃ k : Nat, k = 2000 := ⟨_, rfl⟩
  refine ⟨10 ^ k, fun z h => longB_of (by omega) h (by omega), fun l h => ?_⟩
  obtain ⟨h1, h2, _⟩ := strV_lt h
  exact Nat.lt_of_lt_of_le h1 (Nat.pow_le_pow_right (by decide) (by omega))

theorem out_plain {z : Int} (h : longB z = false) : outS z = Lib.itoa z ∧ outE z = 0 := by
  unfold outS outE
  rw [h]
  exact ⟨rfl, rfl⟩

theorem emod_small {x y : Int} {B : Nat} (hy : y ≠ 0) (h : y.natAbs < B) : (x % y).natAbs < B := by
  have h1 := Int.emod_nonneg x hy
  have h2 := Int.emod_lt x hy
  omega

theorem div_not_long {s t : List UInt8} (hs : numB s = true) (ht : numB t = true) (h0 : strV t ≠ 0) : longB (strV s / strV t) = false ∧ longB (strV s % strV t) = false := by
  obtain ⟨B, h1, h2⟩ := limit
  exact ⟨h1 _ (Nat.lt_of_le_of_lt (Int.natAbs_ediv_le_natAbs _ _) (h2 _ hs)), h1 _ (emod_small h0 (h2 _ ht))⟩

theorem num_zero {w : World} {b : Bool} {q : Option Addr} {m d : Nat} {ys : List Nat} {y : Int} {M : Nat} (hy : NumIs w b q m d ys y M) : y = 0 ↔ m = 0 := by
  obtain ⟨h1, h2⟩ := order_facts hy
  have hv := hy.val
  have hn := sv_natAbs b (dv BW ys)
  rw [← hv] at hn
  constructor
  · intro h; subst h
    rcases Nat.eq_zero_or_pos m with h | h
    · exact h
    · have := h2 h; simp at hn; omega
  · intro h; have := h1 h; rw [this] at hn; omega

/-- The words of both can be divided. -/
def CanDiv (x y : Int) : Prop := ∀ (a b : Bool) (p q : Option Addr) (n c m d : Nat) (xs ys : List Nat) (w W : World), NumIs w a p n c xs x 223 → NumIs w b q m d ys y 223 → Rd .u64 W p n xs → Rd .u64 W q m ys → Calls Tryd.prog 41 #[.slice p n c, .slice q m d] W (DivOut W xs ys)

set_option maxHeartbeats 2000000 in
theorem div_ok (s t : ByteArray) (w : World) (hs : s.size ≤ maxLen) (ht : t.size ≤ maxLen) (h1 : numB s.data.toList = true) (h2 : numB t.data.toList = true) (htab : Tab w) (hy0 : strV t.data.toList ≠ 0) (hD : CanDiv (strV s.data.toList) (strV t.data.toList)) :
    Calls Tryd.prog 9 #[.string s, .string t] w (DivIs w true (strV s.data.toList) (strV t.data.toList)) := by
  obtain ⟨l1, l2⟩ := div_not_long h1 h2 hy0
  obtain ⟨o1, o2⟩ := out_plain l1
  obtain ⟨o3, o4⟩ := out_plain l2
  unfold DivIs
  have e1 : divQ true (strV s.data.toList) (strV t.data.toList) = outS (strV s.data.toList / strV t.data.toList) := by unfold divQ; rw [o1]; simp [hy0]
  have e2 : divR true (strV s.data.toList) (strV t.data.toList) = outS (strV s.data.toList % strV t.data.toList) := by unfold divR; rw [o3]; simp [hy0]
  have e3 : divE true (strV t.data.toList) = 0 := by unfold divE; simp [hy0]
  rw [e1, e2, e3]
  have HY0 := Lib.hid hy0
  clear l1 l2 o1 o2 o3 o4 e1 e2 e3 hy0
  go_enter Tryd.func9, Tryd.ntmps9
  go_wp2_with (first
    | (go_at_call 18; refine (pair_ok s t _ hs ht h1 h2).mono ?_; rintro e w1 ⟨a, p, n, c, xs, b, q, m, d, ys, rfl, hx, hy, hb1⟩; have hm0 : (m == 0) = false := (by have := num_zero hy; simp; intro e; exact HY0.out (this.2 e)); have hbA : Below w1.heap.size w1 ((w1.alloc (.cells #[.bool a, .slice p n c] 47)).alloc (.cells #[.bool b, .slice q m d] 47)) := (((Below.refl _ _).alloc (Nat.le_refl _) _).alloc (by simp) _); have hbW := hb1.trans (hbA.mono hb1.size); have hxA := hx.below hbA; have hyA := hy.below hbA; obtain ⟨B1, B2⟩ := pair_boxes (W := w1) (.bool a) (.slice p n c) (.bool b) (.slice q m d) 47)
    | (go_at_call 23; refine (isZero_any _ _ _ _ _ (Nat.le_trans hy.len (by unfold maxLen; omega))).mono ?_; rintro e w2 ⟨rfl, hb2⟩; have hbX := hbW.trans (hb2.mono hbW.size); have hxX := hxA.below hb2; have hyX := hyA.below hb2; have C1 := B1.below hb2 B1.lt; have C2 := B2.below hb2 B2.lt; have c0 := C1.cell0; have c1 := C1.cell1; have c2 := C2.cell0; have c3 := C2.cell1)
    | (go_at_call 24; refine (quotient_of _ _ _ _ _ _ _ _ _ _ _ _ _ _ _ hxX hyX (by omega) (by omega) (fun W r1 r2 => hD _ _ _ _ _ _ _ _ _ _ _ W hxX hyX r1 r2)).mono ?_; rintro e w3 ⟨a3, p3, n3, d3, xs3, q3, m3, f3, ys3, rfl, hx3, hy3, hb3⟩; have hbY := hbX.trans (hb3.mono hbX.size); have hbB : Below w3.heap.size w3 ((w3.alloc (.cells #[.bool a3, .slice p3 n3 d3] 47)).alloc (.cells #[.bool false, .slice q3 m3 f3] 47)) := (((Below.refl _ _).alloc (Nat.le_refl _) _).alloc (by simp) _); have hbZ := hbY.trans (hbB.mono hbY.size); have hxB := hx3.below hbB; have hyB := hy3.below hbB; obtain ⟨D1, D2⟩ := pair_boxes (W := w3) (.bool a3) (.slice p3 n3 d3) (.bool false) (.slice q3 m3 f3) 47))
  refine (written_any _ _ _ _ _ _ _ _ hxB (by omega) (htab.below hbZ)).mono ?_
  rintro e w4 ⟨rfl, hb4⟩
  have hbU := hbZ.trans (hb4.mono hbZ.size)
  have hyU := hyB.below hb4
  have E2 := D2.below hb4 D2.lt
  have e20 := E2.cell0
  have e21 := E2.cell1
  go_wp2_with fail
  refine (written_any _ _ _ _ _ _ _ _ hyU (by omega) (htab.below hbU)).mono ?_
  rintro e w5 ⟨rfl, hb5⟩
  go_wp2
  exact bodyPost_ret (v := .tuple #[.string ⟨(outS (strV s.data.toList / strV t.data.toList)).toArray⟩, .string ⟨(outS (strV s.data.toList % strV t.data.toList)).toArray⟩, .int .i64 0]) (by simp [results, Tryd.results9, go_sem]) rfl ⟨rfl, hbU.trans (hb5.mono hbU.size)⟩

set_option maxHeartbeats 2000000 in
theorem div_zero (s t : ByteArray) (w : World) (hs : s.size ≤ maxLen) (ht : t.size ≤ maxLen) (h1 : numB s.data.toList = true) (h2 : numB t.data.toList = true) (hy0 : strV t.data.toList = 0) :
    Calls Tryd.prog 9 #[.string s, .string t] w (DivIs w true (strV s.data.toList) (strV t.data.toList)) := by
  unfold DivIs
  have e1 : divQ true (strV s.data.toList) (strV t.data.toList) = [] := by unfold divQ; simp [hy0]
  have e2 : divR true (strV s.data.toList) (strV t.data.toList) = [] := by unfold divR; simp [hy0]
  have e3 : divE true (strV t.data.toList) = 5 := by unfold divE; simp [hy0]
  rw [e1, e2, e3]
  have HY0 := Lib.hid hy0
  clear e1 e2 e3 hy0
  go_enter Tryd.func9, Tryd.ntmps9
  go_wp2_with (first
    | (go_at_call 18; refine (pair_ok s t _ hs ht h1 h2).mono ?_; rintro e w1 ⟨a, p, n, c, xs, b, q, m, d, ys, rfl, hx, hy, hb1⟩; have hm0 : (m == 0) = true := (by have := num_zero hy; simp; exact this.1 HY0.out); have hbA : Below w1.heap.size w1 ((w1.alloc (.cells #[.bool a, .slice p n c] 47)).alloc (.cells #[.bool b, .slice q m d] 47)) := (((Below.refl _ _).alloc (Nat.le_refl _) _).alloc (by simp) _); have hbW := hb1.trans (hbA.mono hb1.size))
    | (go_at_call 23; refine (isZero_any _ _ _ _ _ (Nat.le_trans hy.len (by unfold maxLen; omega))).mono ?_; rintro e w2 ⟨rfl, hb2⟩; rw [hm0]))
  exact bodyPost_ret (v := .tuple #[.string ⟨[].toArray⟩, .string ⟨[].toArray⟩, .int .i64 5]) (by simp [results, Tryd.results9, go_sem]) rfl ⟨rfl, hbW.trans (hb2.mono hbW.size)⟩

set_option maxHeartbeats 2000000 in
theorem div_bad (s t : ByteArray) (w : World) (hs : s.size ≤ maxLen) (ht : t.size ≤ maxLen) (h : (numB s.data.toList && numB t.data.toList) = false) (x y : Int) :
    Calls Tryd.prog 9 #[.string s, .string t] w (DivIs w false x y) := by
  go_enter Tryd.func9, Tryd.ntmps9
  go_wp2_with (go_at_call 18; refine (pair_bad s t _ hs ht h).mono ?_; rintro e w1 ⟨rfl, hb1⟩)
  exact bodyPost_ret (v := .tuple #[.string ⟨[].toArray⟩, .string ⟨[].toArray⟩, .int .i64 6]) (by simp [results, Tryd.results9, go_sem]) rfl ⟨rfl, (hb1.alloc hb1.size _).alloc (by have := hb1.size; simp; omega) _⟩

theorem div_any (s t : ByteArray) (w : World) (hs : s.size ≤ maxLen) (ht : t.size ≤ maxLen) (htab : Tab w)
    (hD : numB s.data.toList = true → numB t.data.toList = true → strV t.data.toList ≠ 0 → CanDiv (strV s.data.toList) (strV t.data.toList)) :
    Calls Tryd.prog 9 #[.string s, .string t] w (DivIs w (numB s.data.toList && numB t.data.toList) (strV s.data.toList) (strV t.data.toList)) := by
  cases h : (numB s.data.toList && numB t.data.toList)
  · exact div_bad s t w hs ht h _ _
  · simp only [Bool.and_eq_true] at h
    by_cases h0 : strV t.data.toList = 0
    · exact div_zero s t w hs ht h.1 h.2 h0
    · exact div_ok s t w hs ht h.1 h.2 htab h0 (hD h.1 h.2 h0)

/-- y has one word. -/
theorem canDiv_one {x y : Int} (h0 : y ≠ 0) (h : y.natAbs < 1000000000) : CanDiv x y := by
  intro a b p q n c m d xs ys w W hx hy r1 r2
  have hv := sv_natAbs b (dv BW ys)
  rw [← hy.val] at hv
  have hm : ys.length ≤ 1 := hy.cn.length_le (by decide) (by rw [← hv]; simpa using h)
  rw [hy.rd.1] at hm
  have hm0 : m ≠ 0 := fun e => h0 ((num_zero hy).2 e)
  exact divideWords_small p q n c m d xs ys W (Nat.le_trans hx.len (by decide)) (by omega) hx.cap hy.cap r1 r2 hx.cn hy.cn (by omega) (.inr (by omega))

end Go.Proofs.YtimcbmgmngkagaaDoor

namespace Go.Proofs.YtimcbmgmngkagaaDoor
open Go.RowKit

theorem bytes_data (l : List UInt8) : (⟨l.toArray⟩ : ByteArray).data.toList = l := by show l.toArray.toList = l; simp
theorem bytes_small {l : List UInt8} (h : l.length ≤ 1000000000) : (⟨l.toArray⟩ : ByteArray).size ≤ maxLen := by show l.toArray.size ≤ maxLen; unfold maxLen; simp; omega

/-- What a call hands back: a written integer. -/
def OutIs (w : World) (z : Int) (e : Ending) (w' : World) : Prop := e = .returned (.tuple #[.string ⟨(outS z).toArray⟩, .int .i64 (outE z)]) ∧ Below w.heap.size w w'
theorem addL (a b : List UInt8) (w : World) (ha : a.length ≤ 1000000000) (hb : b.length ≤ 1000000000) (h1 : numB a = true) (h2 : numB b = true) (htab : Tab w) : Calls Tryd.prog 6 #[.string ⟨a.toArray⟩, .string ⟨b.toArray⟩] w (OutIs w (strV a + strV b)) := by
  have h := add_any ⟨a.toArray⟩ ⟨b.toArray⟩ w (bytes_small ha) (bytes_small hb) htab
  rw [bytes_data, bytes_data, h1, h2] at h
  exact h
theorem subL (a b : List UInt8) (w : World) (ha : a.length ≤ 1000000000) (hb : b.length ≤ 1000000000) (h1 : numB a = true) (h2 : numB b = true) (htab : Tab w) : Calls Tryd.prog 8 #[.string ⟨a.toArray⟩, .string ⟨b.toArray⟩] w (OutIs w (strV a - strV b)) := by
  have h := sub_any ⟨a.toArray⟩ ⟨b.toArray⟩ w (bytes_small ha) (bytes_small hb) htab
  rw [bytes_data, bytes_data, h1, h2] at h
  exact h
theorem mulL (a b : List UInt8) (w : World) (ha : a.length ≤ 1000000000) (hb : b.length ≤ 1000000000) (h1 : numB a = true) (h2 : numB b = true) (htab : Tab w) : Calls Tryd.prog 7 #[.string ⟨a.toArray⟩, .string ⟨b.toArray⟩] w (OutIs w (strV a * strV b)) := by
  have h := mul_any ⟨a.toArray⟩ ⟨b.toArray⟩ w (bytes_small ha) (bytes_small hb) htab
  rw [bytes_data, bytes_data, h1, h2] at h
  exact h
theorem cmpL (a b : List UInt8) (w : World) (ha : a.length ≤ 1000000000) (hb : b.length ≤ 1000000000) (h1 : numB a = true) (h2 : numB b = true) : Calls Tryd.prog 16 #[.string ⟨a.toArray⟩, .string ⟨b.toArray⟩] w fun e w' => e = .returned (.tuple #[.int .i64 (sgnCmp (strV a) (strV b)), .int .i64 0]) ∧ Below w.heap.size w w' := by
  have h := cmp_any ⟨a.toArray⟩ ⟨b.toArray⟩ w (bytes_small ha) (bytes_small hb)
  rw [bytes_data, bytes_data, h1, h2] at h
  exact h
theorem strV_bound {l : List UInt8} {k : Nat} (h : numB l = true) (hl : l.length ≤ k) : (strV l).natAbs < 10 ^ k := by
  unfold numB plainB at h
  simp only [Bool.and_eq_true] at h
  have h1 := decV_lt _ h.1.1.2
  have h2 : (digitsOf l).length ≤ l.length := by
    cases l with
    | nil => exact Nat.le_refl _
    | cons c t => by_cases h : c = 45 <;> simp [digitsOf, h]
  have h3 : (10 : Nat) ^ (digitsOf l).length ≤ 10 ^ k := Nat.pow_le_pow_right (by decide) (by omega)
  have h4 : (strV l).natAbs = decV (digitsOf l) := by unfold strV; split <;> simp
  rw [h4]
  exact Nat.lt_of_lt_of_le h1 h3

theorem ten_add {x y : Int} {k : Nat} (hx : x.natAbs < 10 ^ k) (hy : y.natAbs < 10 ^ k) : (x + y).natAbs < 10 ^ (k + 1) ∧ (x - y).natAbs < 10 ^ (k + 1) := by
  rw [Nat.pow_succ]; omega
theorem ten_mul {x y : Int} {k : Nat} (hx : x.natAbs < 10 ^ k) (hy : y.natAbs < 10 ^ k) : (x * y).natAbs < 10 ^ (k + k) := by
  rw [Int.natAbs_mul, Nat.pow_add]
  exact Nat.mul_lt_mul_of_lt_of_lt hx hy

theorem RIs.zero (w : World) : RIs w false none 0 0 [] 0 := { rd := Rd.nil _ _ _, cap := Nat.le_refl _, cn := Cn.nil _, pos := (by intro h; cases h), val := rfl }

theorem two_list (w : World) (a b : List UInt8) (t : TypeId) : RdL (w.alloc (.cells #[.string ⟨a.toArray⟩, .string ⟨b.toArray⟩] t)) (some ⟨w.heap.size, 0, none⟩) [a, b] := by
  intro i s hs
  refine ⟨w.heap.size, 0, rfl, by simp, ?_⟩
  match i, hs with
  | 0, hs => cases hs; simp [go_sem]
  | 1, hs => cases hs; simp [go_sem]
  | i + 2, hs => simp at hs

end Go.Proofs.YtimcbmgmngkagaaDoor

namespace Go.Proofs.YtimcbmgmngkagaaDoor
open Go.Lib

theorem dec_inj_len : ∀ (k : Nat) (a b : List UInt8), a.length = k → b.length = k → a.all isDg = true → b.all isDg = true → decV a = decV b → a = b := by
  intro k
  induction k with
  | zero =>
    intro a b ha hb _ _ _
    rw [List.length_eq_zero_iff.1 ha, List.length_eq_zero_iff.1 hb]
  | succ k ih =>
    intro a b ha hb da db h
    rcases List.eq_nil_or_concat a with e | ⟨a', c, rfl⟩
    · rw [e] at ha; simp at ha
    rcases List.eq_nil_or_concat b with e | ⟨b', d, rfl⟩
    · rw [e] at hb; simp at hb
    simp only [List.concat_eq_append] at ha da h hb db ⊢
    rw [List.all_append, Bool.and_eq_true] at da db
    have hc : isDg c = true := by simpa using da.2
    have hd : isDg d = true := by simpa using db.2
    rw [decV_snoc, decV_snoc] at h
    have hc' : 48 ≤ c.toNat ∧ c.toNat ≤ 57 := of_decide_eq_true hc
    have hd' : 48 ≤ d.toNat ∧ d.toNat ≤ 57 := of_decide_eq_true hd
    have e1 : c = d := UInt8.toNat_inj.1 (by omega)
    have e2 : a' = b' := ih a' b' (by simpa using ha) (by simpa using hb) da.1 db.1 (by omega)
    rw [e1, e2]

/-- Digits without a needless 0 ahead. -/
def TidyD (l : List UInt8) : Prop := l ≠ [] ∧ l.all isDg = true ∧ (l.head? ≠ some 48 ∨ l = [48])

theorem tidy_low {l : List UInt8} (h : TidyD l) (h48 : l ≠ [48]) : 10 ^ (l.length - 1) ≤ decV l := by
  obtain ⟨h1, h2, h3⟩ := h
  cases l with
  | nil => exact absurd rfl h1
  | cons c l =>
    have hc : isDg c = true := by rw [List.all_cons, Bool.and_eq_true] at h2; exact h2.1
    have hc' : 48 ≤ c.toNat ∧ c.toNat ≤ 57 := of_decide_eq_true hc
    have hne : c ≠ 48 := by
      rcases h3 with h3 | h3
      · intro e; exact h3 (by rw [e]; rfl)
      · exact absurd h3 h48
    have hc48 : c.toNat ≠ 48 := fun e => hne (UInt8.toNat_inj.1 (by rw [e]; rfl))
    have e := decV_append [c] l
    rw [List.singleton_append] at e
    rw [e, List.length_cons, Nat.add_sub_cancel]
    have : decV [c] = c.toNat - 48 := by simp [decV]
    rw [this]
    have : 1 * 10 ^ l.length ≤ (c.toNat - 48) * 10 ^ l.length := Nat.mul_le_mul_right _ (by omega)
    omega

theorem tidy_inj {a b : List UInt8} (ha : TidyD a) (hb : TidyD b) (h : decV a = decV b) : a = b := by
  have z48 : decV [48] = 0 := by decide
  have pos : ∀ {l : List UInt8}, TidyD l → l ≠ [48] → 0 < decV l := fun hl hn => Nat.lt_of_lt_of_le (Nat.pow_pos (by decide)) (tidy_low hl hn)
  by_cases h1 : a = [48]
  · by_cases h2 : b = [48]
    · rw [h1, h2]
    · have := pos hb h2
      rw [← h, h1, z48] at this
      omega
  · by_cases h2 : b = [48]
    · have := pos ha h1
      rw [h, h2, z48] at this
      omega
    · have l1 := tidy_low ha h1
      have l2 := tidy_low hb h2
      have u1 := decV_bnd ha.2.1
      have u2 := decV_bnd hb.2.1
      have n1 : 1 ≤ a.length := List.length_pos_iff.2 ha.1
      have n2 : 1 ≤ b.length := List.length_pos_iff.2 hb.1
      have key : a.length = b.length := by
        rcases Nat.lt_trichotomy a.length b.length with hl | hl | hl
        · have : 10 ^ a.length ≤ 10 ^ (b.length - 1) := Nat.pow_le_pow_right (by decide) (by omega)
          omega
        · exact hl
        · have : 10 ^ b.length ≤ 10 ^ (a.length - 1) := Nat.pow_le_pow_right (by decide) (by omega)
          omega
      exact dec_inj_len _ a b key rfl ha.2.1 hb.2.1 h

theorem plain_tidy {l : List UInt8} (h : plainB l = true) : TidyD (digitsOf l) ∧ (isNeg l = true → 0 < decV (digitsOf l)) := by
  unfold plainB at h
  simp only [Bool.and_eq_true, Bool.or_eq_true, bne_iff_ne, ne_eq, beq_iff_eq, Bool.not_eq_true', List.isEmpty_eq_false_iff] at h
  obtain ⟨⟨h1, h2⟩, h3⟩ := h
  have ht : TidyD (digitsOf l) := ⟨h1, h2, by
    rcases h3 with h3 | h3
    · exact .inl h3
    · right; rw [h3]; rfl⟩
  refine ⟨ht, fun hn => ?_⟩
  refine Nat.lt_of_lt_of_le (Nat.pow_pos (by decide)) (tidy_low ht ?_)
  intro e
  rcases h3 with h3 | h3
  · rw [e] at h3; exact h3 rfl
  · rw [h3] at hn; exact absurd hn (by decide)

theorem text_of {l : List UInt8} : l = (if isNeg l then 45 :: digitsOf l else digitsOf l) := by
  cases l with
  | nil => rfl
  | cons c t =>
    by_cases hc : c = 45
    · subst hc; simp [isNeg, digitsOf]
    · simp [isNeg, digitsOf, hc]

theorem plain_inj {a b : List UInt8} (ha : plainB a = true) (hb : plainB b = true) (h : strV a = strV b) : a = b := by
  obtain ⟨ta, pa⟩ := plain_tidy ha
  obtain ⟨tb, pb⟩ := plain_tidy hb
  unfold strV at h
  have ea := text_of (l := a)
  have eb := text_of (l := b)
  cases na : isNeg a <;> cases nb : isNeg b <;> rw [na] at h ea <;> rw [nb] at h eb <;> simp only [if_true, if_false, Bool.false_eq_true] at h ea eb
  · rw [ea, eb]; exact tidy_inj ta tb (by omega)
  · have := pb nb; omega
  · have := pa na; omega
  · rw [ea, eb]; rw [tidy_inj ta tb (by omega)]

theorem num_plain {l : List UInt8} (h : numB l = true) : plainB l = true := by
  unfold numB at h
  rw [Bool.and_eq_true] at h
  exact h.1

/-- What is read and written again is the same text. -/
theorem itoa_strV {l : List UInt8} (h : numB l = true) : itoa (strV l) = l := plain_inj (itoa_says _).1 (num_plain h) (itoa_says _).2.1

end Go.Proofs.YtimcbmgmngkagaaDoor

namespace Go.Proofs.YtimcbmgmngkagaaDoor
open Go.RowKit Go.Shelf
attribute [local go_sem] Oper.semAt_some

/-- The blocks of S lie as they lay; the row's cells are still words. -/
def KeepsRow (S : Nat → Prop) (b off len : Nat) (W W' : World) : Prop := KeepsAt S W W' ∧ ∀ i, i < len → (∃ v : Nat, W.cell? ⟨b, off + i, none⟩ = some (.int .u64 (v : Int))) → ∃ v : Nat, W'.cell? ⟨b, off + i, none⟩ = some (.int .u64 (v : Int))
theorem KeepsRow.refl (S : Nat → Prop) (b off len : Nat) (W : World) : KeepsRow S b off len W W := ⟨KeepsAt.refl _ _, fun _ _ h => h⟩
theorem KeepsRow.trans {S : Nat → Prop} {b off len : Nat} {A B C : World} (h : KeepsRow S b off len A B) (k : KeepsRow S b off len B C) : KeepsRow S b off len A C := ⟨h.1.trans k.1, fun i hi hv => k.2 i hi (h.2 i hi hv)⟩
theorem KeepsRow.putObj {S : Nat → Prop} {b off len : Nat} {N : Nat} (hS : ∀ b, S b → b < N) (W : World) (l : Nat) (o o' : Obj) (hl : N ≤ l) (ho : W.heap[l]? = some o) (hc : o.isCells = false) (hw : o.isWalk = false) : KeepsRow S b off len W (W.putObj l o') := by
  refine ⟨KeepsAt.putObj hS W l o o' hl ho hc hw, fun i _ hv => ?_⟩
  obtain ⟨v, hv⟩ := hv
  by_cases e : b = l
  · subst e
    exfalso
    simp only [World.cell?, ho] at hv
    cases o <;> simp_all [Obj.isCells]
  · exact ⟨v, by rw [World.cell?_of_block (w := W) (World.putObj_heap_other e)]; exact hv⟩

/-- A place and the word that it holds when its turn comes. -/
abbrev PosW (len : Nat) := Pos len × Nat
def encW (len : Nat) (x : PosW len) : Array Value := #[.int .i64 (x.1.1 : Int), .int .u64 (x.2 : Int)]

set_option maxRecDepth 100000 in
set_option maxHeartbeats 2000000 in
/-- All places, from the highest on; each at its turn. -/
theorem downN_in (F : Fence) (n : Nat) (h7 : F.fn 54) (hro : F.round = none) (hn : 1 ≤ n) (l Bs len cap : Nat) (S : Nat → Prop) (b off : Nat) (hreach : len ≤ 1000000000) (J : List (PosW len) → World → Prop)
    (hY : ∀ pre x W, J pre W → (pre.length < len ∧ x.1 = dnAt len pre.length) → YieldAt F (n - 1) Tryd.prog l (encW len x) W fun e W' => e = .returned (.bool true) ∧ J (pre ++ [x]) W' ∧ KeepsRow S b off len W W')
    (W : World) (hBs : W.cell? ⟨Bs, 0, none⟩ = some (.slice (some ⟨b, off, none⟩) len cap)) (hBn : S Bs)
    (hc : ∀ i, i < len → ∃ v : Nat, W.cell? ⟨b, off + i, none⟩ = some (.int .u64 (v : Int))) (h0 : J [] W) :
    CallsIn F n Tryd.prog 54 #[.func (.yield l) #[] #[], .pointer (some ⟨Bs, 0, none⟩)] W fun e W' => (∃ v, e = .returned v) ∧ ∃ ys, ys.length = len ∧ J ys W' := by
  refine callsIn_of_wp Tryd.func54 rfl h7 ?_ hro
  simp only [Tryd.ntmps54, List.size_toArray, List.length_cons, List.length_nil, Nat.reduceAdd, Nat.reduceSub, Array.replicate_succ, Array.replicate_zero, List.push_toArray, List.append_toArray, List.nil_append, List.cons_append]
  gi_wp2
  gi_loopw [3] (fun i wr => ∃ (k : Nat) (ys : List (PosW len)), k ≤ len ∧ i = .int .i64 ((len : Int) - 1 - k) ∧ Hid (ys.length = k) ∧ J ys wr ∧ KeepsRow S b off len W wr)
    (fun i _ => (intOf i + 1).toNat)
  case atStart => exact ⟨0, [], Nat.zero_le _, by simp, rfl, h0, KeepsRow.refl _ _ _ _ _⟩
  case round =>
    obtain ⟨k, ys, hk, rfl, HYS, hJs, hnx⟩ := hrel
    have hbx : wr.cell? ⟨Bs, 0, none⟩ = some (.slice (some ⟨b, off, none⟩) len cap) := (hnx.1.cell (p := ⟨Bs, 0, none⟩) hBn).trans hBs
    by_cases hlt : k < len
    · obtain ⟨v, hcell⟩ := hnx.2 (len - 1 - k) (by omega) (hc (len - 1 - k) (by omega))
      obtain ⟨fn, tmps, assign, body, hy, hR⟩ := hY ys (dnAt len k, v) wr hJs ⟨by rw [HYS.out]; exact hlt, by rw [HYS.out]⟩
      unfold encW dnAt at hy
      dsimp only at hy
      have e0 : ((len - 1 - k : Nat) : Int) = (len : Int) - 1 - k := by omega
      rw [e0] at hy
      have HE := Lib.hid e0
      clear e0
      gi_wp2
      refine hR.mono ?_
      rintro e W3 ⟨rfl, hJ3, hk3⟩
      gi_wp2
      go_roundw
      case rel => exact ⟨k + 1, _, by omega, by simp; omega, by show _ = _; rw [List.length_append, HYS.out]; rfl, hJ3, hnx.trans hk3⟩
      case measure => simp [intOf]; omega
    · obtain rfl : k = len := by omega
      gi_wp2
      go_end0
      exact ⟨⟨_, rfl⟩, _, HYS.out, hJs⟩

end Go.Proofs.YtimcbmgmngkagaaDoor

namespace Go.Proofs.YtimcbmgmngkagaaDoor
open Go.RowKit

theorem wpIn_rangeFunc_next {α : Type} {F : Fence} {n : Nat} {P : Program} {g : Operand} {ps : Array Tmp} {assign body : Code} {Q : Exit → Act → World → Prop} {a : Act} {w : World}
    (hro : F.round = none) (h1 : 1 ≤ n) {gf : Nat} {lb : Array Value} (hg : a.eval g = .func (.func gf) #[] lb) (hFg : F.fn gf) (eg : ∀ args w, (callFunc gf args).run P w = .ok (.enter gf args) w)
    {encs : α → Array Value} (hps : ∀ x, (encs x).size = ps.size) (Ok : List α → α → Prop) (S : List α → Prop) (Kp : World → World → Prop)
    (hiter : ∀ (l : Nat) (J : List α → World → Prop) (W : World), Below w.heap.size w W →
      (∀ pre x W1, J pre W1 → Ok pre x → YieldAt F (n - 1 - 1) P l (encs x) W1 fun e W' => e = .returned (.bool true) ∧ J (pre ++ [x]) W' ∧ Kp W1 W') →
      J [] W → CallsIn F (n - 1) P gf (#[.func (.yield l) #[] #[]] ++ lb) W fun e W' => (∃ v, e = .returned v) ∧ ∃ xs, S xs ∧ J xs W')
    (hKt : ∀ {A B C : World}, Kp A B → Kp B C → Kp A C) (hKb : ∀ (W : World) (l : Nat) (o o' : Obj), w.heap.size ≤ l → W.heap[l]? = some o → o.isCells = false → o.isWalk = false → Kp W (W.putObj l o'))
    (I : List α → World → Prop) (hI : OwnFrom w.heap.size I) (h0 : I [] w) (a₁ : α → Act)
    (hassign : ∀ (l : Nat) (x : α) (W : World) (K : Act → World → Prop), K (a₁ x) W →
      assign.wpIn (F.inRound l) (n - 1 - 1) P (Exit.then K (fun _ _ _ => False)) { tmps := (ps.zip (encs x)).foldl (fun t (p, v) => t.setIfInBounds p v) a.tmps, defers := [] } W)
    (hbody : ∀ (l : Nat) (pre : List α) (x : α) (W : World), I pre W → Ok pre x → body.wpIn (F.inRound l) (n - 1 - 1) P (ownPostK Kp I (fun _ _ _ => False) (pre ++ [x]) W) (a₁ x) W)
    (hdone : ∀ (D : Nat) (xs : List α) (W : World), w.heap.size ≤ D → S xs → I xs W → W.heap[D]? = some (.deferred (some [])) → Q .normal { a with defers := { target := .collected D, args := #[] } :: a.defers } W) :
    (Code.rangeFunc g ps assign body).wpIn F n P Q a w := by
  refine wpIn_rangeFunc fun fn hfn => ?_
  rw [hro]
  have hlast : ∀ (W : World) (k : Nat) (o : Obj), w.heap.size ≤ k → W.heap[k]? = some o → o.isCells = false → ∀ (xs : List α) (o' : Obj), I xs W → I xs (W.putObj k o') := fun W k o hk ho hc xs o' hi => hI.putObj o' hi hk ho hc
  let rec_ : LoopState → Loop := fun st => { state := st, pending := none, fn := fn, tmps := a.tmps, params := ps, assign := assign, body := body, defers := w.heap.size }
  let W1 : World := (w.alloc (.deferred (some []))).alloc (.loop (rec_ .ready))
  have hnew : ((w.alloc (.deferred (some []))).alloc (.loop (rec_ .ready))).heap[w.heap.size + 1]? = some (.loop (rec_ .ready)) := by
    have e := World.alloc_heap_new (w.alloc (.deferred (some []))) (.loop (rec_ .ready))
    rw [World.size_alloc] at e
    exact e
  have hmark : ((w.alloc (.deferred (some []))).alloc (.loop (rec_ .ready))).heap[w.heap.size]? = some (.deferred (some [])) :=
    (Below.heap_alloc _ _ _ (by simp)).trans (World.alloc_heap_new w _)
  refine ⟨w.heap.size + 1, [{ target := .collected w.heap.size, args := #[] }], W1, { target := .fn (.func gf) lb, args := #[.func (.yield (w.heap.size + 1)) #[] #[]] }, W1, gf,
    #[.func (.yield (w.heap.size + 1)) #[] #[]] ++ lb, W1, run_enterLoop_outer _ _ _ _ _, by simp only [resolve, hg]; simp [go_sem], fun f' hf' => by simp [Target.leads] at hf'; subst hf'; exact hFg, by simp [invoke, go_sem, eg], fun _ => h1, ?_⟩
  refine (hiter (w.heap.size + 1) (fun pre W => I pre W ∧ W.heap[w.heap.size + 1]? = some (.loop (rec_ .ready)) ∧ W.heap[w.heap.size]? = some (.deferred (some []))) _
    (((Below.refl _ w).alloc (Nat.le_refl _) _).alloc (by simp) _) ?_ ⟨hI.alloc _ (hI.alloc _ h0), hnew, hmark⟩).mono ?_
  · rintro pre x W ⟨hi, hl, hk⟩ hok
    have hlt : w.heap.size + 1 < W.heap.size := (Array.getElem?_eq_some_iff.1 hl).1
    have hy := run_yield (P := P) (args := encs x) hl (hps x)
    refine ⟨fn, _, assign, body, hy, roundIn_of_wpIn hfn (hassign _ x W _ ⟨_, run_beginRound hl rfl, ?_⟩)⟩
    have hl2 : (W.putObj (w.heap.size + 1) (.loop { rec_ .ready with state := .busy })).heap[w.heap.size + 1]? = some (.loop { rec_ .ready with state := .busy }) := World.putObj_heap_same hlt
    have hk2 : (W.putObj (w.heap.size + 1) (.loop { rec_ .ready with state := .busy })).heap[w.heap.size]? = some (.deferred (some [])) := (World.putObj_heap_other (by omega)).trans hk
    refine wpIn_mono (hbody _ pre x _ (hlast _ _ _ (by omega) hl rfl _ _ hi) hok) ?_
    intro e a3 W3 hp
    cases e with
    | normal =>
      obtain ⟨hk3, hkp3, hi3⟩ := hp
      have hl3 := hk3.same _ _ hl2 rfl
      have hm3 := hk3.same _ _ hk2 rfl
      have hlt3 : w.heap.size + 1 < W3.heap.size := (Array.getElem?_eq_some_iff.1 hl3).1
      refine ⟨_, _, run_endRound none hl3, rfl, ⟨hlast _ _ _ (by omega) hl3 rfl _ _ hi3, World.putObj_heap_same hlt3, (World.putObj_heap_other (by omega)).trans hm3⟩, ?_⟩
      exact hKt (hKt (hKb _ _ _ _ (by omega) hl rfl rfl) hkp3) (hKb _ _ _ _ (by omega) hl3 rfl rfl)
    | ret => exact hp.2.elim
    | exit id => exact hp.2.elim
    | goto t => exact hp.2.elim
    | panic ch => exact hp.elim
    | outgrown => exact hp.elim
  · rintro e W2 ⟨⟨v, rfl⟩, xs, hS, hi, hl, hk⟩
    exact ⟨none, _, run_endLoop (P := P) hl (by simp [rec_]), hdone _ xs _ (Nat.le_refl _) hS (hlast _ _ _ (by omega) hl rfl _ _ hi) ((World.putObj_heap_other (by omega)).trans hk)⟩

end Go.Proofs.YtimcbmgmngkagaaDoor
