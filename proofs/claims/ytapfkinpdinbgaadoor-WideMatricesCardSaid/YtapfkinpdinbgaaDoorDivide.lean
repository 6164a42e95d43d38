/-
  Quotient and remainder of words; the long division as a premise.
-/
import Derived.Test.YtapfkinpdinbgaaDoorOrder
import Derived.Test.YtapfkinpdinbgaaDoorList
namespace Go.Proofs.YtapfkinpdinbgaaDoor
open Go.RowKit

/-- What a division hands back. -/
def DivOut (w : World) (xs ys : List Nat) (e : Ending) (w' : World) : Prop :=
  ∃ p n c qs q m d rs, e = .returned (.tuple #[.slice p n c, .slice q m d]) ∧ Rd .u64 w' p n qs ∧ n ≤ c ∧ Cn BW qs ∧ Rd .u64 w' q m rs ∧ m ≤ d ∧ Cn BW rs ∧ dv BW xs = dv BW qs * dv BW ys + dv BW rs ∧ dv BW rs < dv BW ys ∧ Below w.heap.size w w'

/-- A contract of a division of words. -/
def DivC (f : FuncId) (ok : List Nat → List Nat → Prop) : Prop := ∀ (p q : Option Addr) (n c m d : Nat) (xs ys : List Nat) (w : World), n ≤ 1000000 → m ≤ 1000000 → n ≤ c → m ≤ d → Rd .u64 w p n xs → Rd .u64 w q m ys → Cn BW xs → Cn BW ys → 0 < dv BW ys → ok xs ys →
  Calls Tryd.prog f #[.slice p n c, .slice q m d] w (DivOut w xs ys)

theorem sgnCmp_neg {a b : Int} : sgnCmp a b < 0 ↔ a < b := by
  unfold sgnCmp; split
  · simp; omega
  · split <;> simp <;> omega

theorem one_word (w : World) (r : Nat) : Rd .u64 (w.alloc (.cells #[.int .u64 (r : Int)] 73)) (some ⟨w.heap.size, 0, none⟩) 1 [r] :=
  ⟨rfl, fun i hi => ⟨w.heap.size, 0, rfl, by simp, by obtain rfl : i = 0 := by omega
                                                      simp [go_sem]⟩⟩

set_option maxHeartbeats 1000000 in
/-- x is less than y, or y has one word. -/
theorem divideWords_small (p q : Option Addr) (n c m d : Nat) (xs ys : List Nat) (w : World) (hn : n ≤ 1000000) (hm : m ≤ 1000000) (hc : n ≤ c) (hd : m ≤ d) (hx : Rd .u64 w p n xs) (hy : Rd .u64 w q m ys) (gx : Cn BW xs) (gy : Cn BW ys) (h0 : 0 < dv BW ys)
    (h : dv BW xs < dv BW ys ∨ m = 1) : Calls Tryd.prog 82 #[.slice p n c, .slice q m d] w (DivOut w xs ys) := by
  by_cases hlt : dv BW xs < dv BW ys
  · have h1 : sgnCmp (dv BW xs) (dv BW ys) = -1 := sgnCmp_lt (by omega)
    have H1 := Lib.hid h1
    have HX := Lib.hid hx
    clear h h1
    go_enter Tryd.func82, Tryd.ntmps82
    go_wp2_with (go_at_call 78; refine (compareWords_any _ _ _ _ _ _ xs ys _ (by omega) (by omega) hx hy gx gy).mono ?_; rintro e w1 ⟨rfl, hb1⟩; rw [H1.out])
    go_ret2
    exact ⟨none, 0, 0, [], p, n, c, xs, rfl, Rd.nil _ _ _, Nat.le_refl _, Cn.nil _, hx.below hb1, hc, gx, by simp [dv], hlt, hb1⟩
  · obtain rfl : m = 1 := h.resolve_left hlt
    have h1 : ¬ sgnCmp (dv BW xs) (dv BW ys) < 0 := by rw [sgnCmp_neg]; omega
    obtain ⟨y, rfl⟩ : ∃ y, ys = [y] := by
      have := hy.1
      match ys, this with
      | [y], _ => exact ⟨y, rfl⟩
    have hyy : dv BW [y] = y := by simp [dv]
    have hy0 : 0 < y := by rw [hyy] at h0; exact h0
    have hyB : y < 1000000000 := gy.1 y (by simp)
    obtain ⟨SG, hSG⟩ : ∃ SG, sgnCmp (dv BW xs) (dv BW [y]) = SG := ⟨_, rfl⟩
    rw [hSG] at h1
    have H1 := Lib.hid hSG
    obtain ⟨b, off, rfl, hb, hcell⟩ := hy.2 0 (by omega)
    have hcell' : w.cell? ⟨b, off, none⟩ = some (.int .u64 (y : Int)) := by simpa using hcell
    clear hSG h hcell
    go_enter Tryd.func82, Tryd.ntmps82
    go_wp2_with (first
      | (go_at_call 78; refine (compareWords_any _ _ _ _ _ _ xs [y] _ (by omega) (by omega) hx hy gx gy).mono ?_; rintro e w1 ⟨rfl, hb1⟩; rw [H1.out]; have hcell1 := (hb1.cell (p := ⟨b, off, none⟩) hb).trans hcell')
      | (go_at_call 102; refine (divideByWord_any _ _ _ y xs _ (by omega) (hx.below hb1) gx.1 hy0 hyB).mono ?_; rintro e w2 ⟨p', n', c', qs, r, rfl, r1, r2, r3, r4, r5, hb2⟩; have hR1 := one_word w2 r)
      | (go_at_call 80; refine (trimmed_any _ _ _ [r] _ (by decide) (Nat.le_refl _) hR1).mono ?_; rintro e w3 ⟨rfl, rfl⟩))
    go_ret2
    have gd : Dg BW [r] := Dg.cons (show r < 1000000000 by omega) (Dg.nil _)
    have g1 : trimLen [r] 1 ≤ 1 := trimLen_le _ _
    have hbn : Below w2.heap.size w2 (w2.alloc (.cells #[.int .u64 (r : Int)] 73)) := (Below.refl _ _).alloc (Nat.le_refl _) _
    have hv : dv BW (trimZ [r]) = r := by rw [dv_trimZ]; simp [dv]
    refine ⟨_, _, _, qs, _, _, _, trimZ [r], rfl, r1.below hbn, r2, r3, ?_, Nat.le_refl _, trimZ_cn gd, ?_, ?_, (hb1.trans (hb2.mono hb1.size)).trans (hbn.mono (Nat.le_trans hb1.size hb2.size))⟩
    · exact hR1.take _ g1
    · rw [hv, hyy]; exact r5
    · rw [hv, hyy]; exact r4


theorem four_boxes {W : World} (u0 u1 u2 u3 u4 u5 u6 u7 : Value) (t : TypeId) :
    Boxed2 ((((W.alloc (.cells #[u0, u1] t)).alloc (.cells #[u2, u3] t)).alloc (.cells #[u4, u5] t)).alloc (.cells #[u6, u7] t)) W.heap.size u0 u1 t ∧
    Boxed2 ((((W.alloc (.cells #[u0, u1] t)).alloc (.cells #[u2, u3] t)).alloc (.cells #[u4, u5] t)).alloc (.cells #[u6, u7] t)) (W.heap.size + 1) u2 u3 t ∧
    Boxed2 ((((W.alloc (.cells #[u0, u1] t)).alloc (.cells #[u2, u3] t)).alloc (.cells #[u4, u5] t)).alloc (.cells #[u6, u7] t)) (W.heap.size + 1 + 1) u4 u5 t ∧
    Boxed2 ((((W.alloc (.cells #[u0, u1] t)).alloc (.cells #[u2, u3] t)).alloc (.cells #[u4, u5] t)).alloc (.cells #[u6, u7] t)) (W.heap.size + 1 + 1 + 1) u6 u7 t := by
  obtain ⟨a, b⟩ := pair_boxes (W := W) u0 u1 u2 u3 t
  obtain ⟨c, d⟩ := pair_boxes (W := (W.alloc (.cells #[u0, u1] t)).alloc (.cells #[u2, u3] t)) u4 u5 u6 u7 t
  simp only [World.size_alloc] at c d
  exact ⟨(a.alloc _).alloc _, (b.alloc _).alloc _, c, d⟩

/-- Quotient and remainder, from 0 on. -/
def QuotOut (w : World) (x y : Int) (L : Nat) (e : Ending) (w' : World) : Prop :=
  ∃ a p n c xs q m d ys, e = .returned (.tuple #[.agg #[.bool a, .slice p n c], .agg #[.bool false, .slice q m d]]) ∧ NumIs w' a p n c xs (x / y) L ∧ NumIs w' false q m d ys (x % y) L ∧ Below w.heap.size w w'

theorem quot_says {X Y Q R : Nat} (h : X = Q * Y + R) (hR : R < Y) (a b : Bool) (ha : a = true → R = 0) :
    sv (a != b) Q = sv a X / sv b Y ∧ (R : Int) = sv a X % sv b Y := by
  have hY : (0 : Int) < (Y : Int) := by omega
  have h' : (X : Int) = (Q : Int) * (Y : Int) + (R : Int) := by rw [h]; simp
  have key : ∀ (q r x : Int), x = q * (Y : Int) + r → 0 ≤ r → r < (Y : Int) → x / (Y : Int) = q ∧ x % (Y : Int) = r := by
    intro q r x e h0 h1
    exact (Int.ediv_emod_unique hY).2 ⟨by rw [e, Int.mul_comm]; omega, h0, h1⟩
  cases a
  · obtain ⟨k1, k2⟩ := key Q R X h' (by omega) (by omega)
    cases b
    · exact ⟨k1.symm, k2.symm⟩
    · simp [sv, Int.ediv_neg, Int.emod_neg, k1, k2]
  · have hR0 : R = 0 := ha rfl
    subst hR0
    obtain ⟨k1, k2⟩ := key (-Q) 0 (-X) (by rw [h']; simp [Int.neg_mul]) (by omega) (by omega)
    cases b
    · simp [sv, k1, k2]
    · simp [sv, Int.ediv_neg, Int.emod_neg, k1, k2]

theorem quot_says' {X Y Q R : Nat} (h : X = Q * Y + R) (hR : R < Y) (hR0 : 0 < R) (b : Bool) :
    sv (true != b) (Q + 1) = sv true X / sv b Y ∧ ((Y - R : Nat) : Int) = sv true X % sv b Y := by
  have hY : (0 : Int) < (Y : Int) := by omega
  have h' : (X : Int) = (Q : Int) * (Y : Int) + (R : Int) := by rw [h]; simp
  obtain ⟨k1, k2⟩ := (Int.ediv_emod_unique (a := -(X : Int)) (q := -((Q : Int) + 1)) (r := (Y : Int) - R) hY).2 ⟨by rw [h', Int.mul_neg, Int.mul_add, Int.mul_comm (Y : Int) (Q : Int)]; omega, by omega, by omega⟩
  have e : ((Y - R : Nat) : Int) = (Y : Int) - R := by omega
  rw [e]
  cases b
  · simp [sv, k1, k2]
  · simp [sv, Int.ediv_neg, Int.emod_neg, k1, k2]


theorem quot_close {W : World} {B2 B3 : Nat} (hne : B2 ≠ B3) {t : TypeId} (l2 : Boxed2 W B2 (.bool false) (.slice none 0 0) t) (l3 : Boxed2 W B3 (.bool false) (.slice none 0 0) t) (neg : Bool) (p q : Option Addr) (n c m d : Nat) :
    Boxed2 ((((W.setCell ⟨B2, 0, none⟩ (.bool neg)).setCell ⟨B2, 1, none⟩ (.slice p n c)).setCell ⟨B3, 0, none⟩ (.bool false)).setCell ⟨B3, 1, none⟩ (.slice q m d)) B2 (.bool neg) (.slice p n c) t ∧
    Boxed2 ((((W.setCell ⟨B2, 0, none⟩ (.bool neg)).setCell ⟨B2, 1, none⟩ (.slice p n c)).setCell ⟨B3, 0, none⟩ (.bool false)).setCell ⟨B3, 1, none⟩ (.slice q m d)) B3 (.bool false) (.slice q m d) t ∧
    ∀ r k xs, Rd .u64 W r k xs → Rd .u64 ((((W.setCell ⟨B2, 0, none⟩ (.bool neg)).setCell ⟨B2, 1, none⟩ (.slice p n c)).setCell ⟨B3, 0, none⟩ (.bool false)).setCell ⟨B3, 1, none⟩ (.slice q m d)) r k xs := by
  have e3 := (l3.setOther (C := B2) (i := 0) (.bool neg) hne.symm).setOther (C := B2) (i := 1) (.slice p n c) hne.symm
  have e2 := l2.set (.bool neg) (.slice p n c)
  exact ⟨(e2.setOther _ hne).setOther _ hne, e3.set _ _, fun r k xs h => (((h.box l2 _).box (l2.set0 _) _).box e3 _).box (e3.set0 _) _⟩

theorem quot_num {w0 w1 W : World} {a b : Bool} {p q p' q' : Option Addr} {n c m d n' c' m' d' : Nat} {xs ys qs rs : List Nat} {x y : Int} {L M : Nat} (hx : NumIs w0 a p n c xs x L) (hy : NumIs w1 b q m d ys y M)
    (r1 : Rd .u64 W p' n' qs) (r2 : n' ≤ c') (r3 : Cn BW qs) (r4 : Rd .u64 W q' m' rs) (r5 : m' ≤ d') (r6 : Cn BW rs) (r7 : dv BW xs = dv BW qs * dv BW ys + dv BW rs) (r8 : dv BW rs < dv BW ys) (h0 : a = true → dv BW rs = 0) :
    NumIs W ((a != b) && decide (0 < n')) p' n' c' qs (x / y) (max L M) ∧ NumIs W false q' m' d' rs (x % y) (max L M) := by
  obtain ⟨e1, e2⟩ := quot_says r7 r8 a b h0
  have sx := hx.small
  have sy := hy.small
  rw [hx.val, sv_natAbs] at sx
  rw [hy.val, sv_natAbs] at sy
  have g1 := Nat.pow_le_pow_right (n := BW) (by decide) (Nat.le_max_left L M)
  have g2 := Nat.pow_le_pow_right (n := BW) (by decide) (Nat.le_max_right L M)
  have hQ : dv BW qs ≤ dv BW xs := by
    have := Nat.le_mul_of_pos_right (dv BW qs) (show 0 < dv BW ys by omega)
    omega
  rw [hx.val, hy.val, ← e1, ← e2]
  refine ⟨NumIs.mk' r1 r2 r3 (by rw [r1.1]; simp) (by rw [← r1.1, sv_and _ _ r3]) (by rw [sv_natAbs]; omega), NumIs.mk' r4 r5 r6 (by simp) rfl (by omega)⟩

theorem rest_zero {a : Bool} {X Y Q R : Nat} (h0 : a = true → X % Y = 0) (h7 : X = Q * Y + R) (h8 : R < Y) : a = true → R = 0 := by
  intro ha
  have h1 := h0 ha
  rw [h7, Nat.mul_comm, Nat.mul_add_mod, Nat.mod_eq_of_lt h8] at h1
  exact h1

theorem rest_none {a : Bool} {xs ys qs rs : List Nat} {w : World} {q : Option Addr} {m : Nat} (h0 : a = true → dv BW xs % dv BW ys = 0) (hr : Rd .u64 w q m rs) (gr : Cn BW rs) (h7 : dv BW xs = dv BW qs * dv BW ys + dv BW rs) (h8 : dv BW rs < dv BW ys) : a = true → ¬ (0 : Int) < (m : Int) := by
  intro ha h
  have h1 := h0 ha
  rw [h7, Nat.mul_comm, Nat.mul_add_mod, Nat.mod_eq_of_lt h8] at h1
  have := gr.pos (b := BW) (by decide) (by intro e; have := hr.1; rw [e] at this; simp at this; omega)
  omega

set_option maxHeartbeats 2000000 in
theorem quotient_plain (a b : Bool) (p q : Option Addr) (n c m d : Nat) (xs ys : List Nat) (x y : Int) (L M : Nat) (w : World) (hx : NumIs w a p n c xs x L) (hy : NumIs w b q m d ys y M) (hL : L ≤ 1000000) (hM : M ≤ 1000000)
    (hD : ∀ W, Rd .u64 W p n xs → Rd .u64 W q m ys → Calls Tryd.prog 82 #[.slice p n c, .slice q m d] W (DivOut W xs ys)) (h0 : a = true → dv BW xs % dv BW ys = 0) :
    Calls Tryd.prog 64 #[.agg #[.bool a, .slice p n c], .agg #[.bool b, .slice q m d]] w (QuotOut w x y (max L M)) := by
  obtain ⟨b0, b1, b2, b3⟩ := four_boxes (W := w) (.bool a) (.slice p n c) (.bool b) (.slice q m d) (.bool false) (.slice none 0 0) (.bool false) (.slice none 0 0) 79
  have hb0 : Below w.heap.size w ((((w.alloc (.cells #[.bool a, .slice p n c] 79)).alloc (.cells #[.bool b, .slice q m d] 79)).alloc (.cells #[.bool false, .slice none 0 0] 79)).alloc (.cells #[.bool false, .slice none 0 0] 79)) :=
    ((((Below.refl _ w).alloc (Nat.le_refl _) _).alloc (by simp) _).alloc (by simp <;> omega) _).alloc (by simp <;> omega) _
  have hx1 := hx.below hb0
  have hy1 := hy.below hb0
  have e0 := b0.cell1
  have e1 := b1.cell1
  have HX := Lib.hid hx
  have HY := Lib.hid hy
  clear hx hy
  cases a
  · go_enter Tryd.func64, Tryd.ntmps64
    generalize hW4 : ((((w.alloc (.cells #[.bool false, .slice p n c] 79)).alloc (.cells #[.bool b, .slice q m d] 79)).alloc (.cells #[.bool false, .slice none 0 0] 79)).alloc (.cells #[.bool false, .slice none 0 0] 79)) = w4 at *
    go_wp2_with (first
      | (go_at_call 82; refine (hD _ hx1.rd hy1.rd).mono ?_; rintro e w1 ⟨p', n', c', qs, q', m', d', rs, rfl, r1, r2, r3, r4, r5, r6, r7, r8, hb1⟩; have k0 := (b0.below hb1 (by have := b3.lt; omega)); have k1 := (b1.below hb1 (by have := b3.lt; omega)); have k2 := (b2.below hb1 (by have := b3.lt; omega)); have k3 := (b3.below hb1 b3.lt); have f0 := k0.cell0; have f1 := k1.cell0; have hR0 : false = true → dv BW rs = 0 := (fun h => by cases h); clear h0)
      | (go_at_call 74; refine (signed_any _ _ _ _ _).mono ?_; rintro e w2 ⟨rfl, hb2⟩; have l2 := k2.below hb2 k2.lt; have l3 := k3.below hb2 k3.lt; have g0 := l2.cell0; have g1 := l2.cell1; have g2 := l3.cell0; have g3 := l3.cell1; have g4 := l2.frozen (i := 0); have g5 := l2.frozen (i := 1); have g6 := l3.frozen (i := 0); have g7 := l3.frozen (i := 1)))
    go_wp2
    obtain ⟨z2, z3, z4⟩ := quot_close (by omega) l2 l3 (b && decide (0 < n')) p' q' n' c' m' d'
    have y0 := z2.cell0
    have y1 := z2.cell1
    have y2 := z3.cell0
    have y3 := z3.cell1
    obtain ⟨n1, n2⟩ := quot_num HX.out HY.out (z4 _ _ _ (r1.below hb2)) r2 r3 (z4 _ _ _ (r4.below hb2)) r5 r6 r7 r8 (fun h => by first | exact hR0 trivial | exact hR0 h)
    refine bodyPost_ret (v := .tuple #[.agg #[.bool (b && decide (0 < n')), .slice p' n' c'], .agg #[.bool false, .slice q' m' d']]) (by simp [results, Tryd.results64, go_sem, y0, y1, y2, y3]) rfl ⟨_, p', n', c', qs, q', m', d', rs, rfl, ?_, n2, ?_⟩
    · first | exact n1 | (simp only [Bool.false_bne, Bool.true_bne] at n1; exact n1)
    · exact ((((((hb0.trans (hb1.mono hb0.size)).trans (hb2.mono (Nat.le_trans hb0.size hb1.size)))).setCell (by simp <;> omega) _).setCell (by simp <;> omega) _).setCell (by simp <;> omega) _).setCell (by simp <;> omega) _
  · go_enter Tryd.func64, Tryd.ntmps64
    generalize hW4 : ((((w.alloc (.cells #[.bool true, .slice p n c] 79)).alloc (.cells #[.bool b, .slice q m d] 79)).alloc (.cells #[.bool false, .slice none 0 0] 79)).alloc (.cells #[.bool false, .slice none 0 0] 79)) = w4 at *
    go_wp2_with (first
      | (go_at_call 82; refine (hD _ hx1.rd hy1.rd).mono ?_; rintro e w1 ⟨p', n', c', qs, q', m', d', rs, rfl, r1, r2, r3, r4, r5, r6, r7, r8, hb1⟩; have k0 := (b0.below hb1 (by have := b3.lt; omega)); have k1 := (b1.below hb1 (by have := b3.lt; omega)); have k2 := (b2.below hb1 (by have := b3.lt; omega)); have k3 := (b3.below hb1 b3.lt); have f0 := k0.cell0; have f1 := k1.cell0; have hm1 := rest_none h0 r4 r6 r7 r8 rfl; have hR0 : true = true → dv BW rs = 0 := rest_zero h0 r7 r8; clear h0)
      | (go_at_call 74; refine (signed_any _ _ _ _ _).mono ?_; rintro e w2 ⟨rfl, hb2⟩; have l2 := k2.below hb2 k2.lt; have l3 := k3.below hb2 k3.lt; have g0 := l2.cell0; have g1 := l2.cell1; have g2 := l3.cell0; have g3 := l3.cell1; have g4 := l2.frozen (i := 0); have g5 := l2.frozen (i := 1); have g6 := l3.frozen (i := 0); have g7 := l3.frozen (i := 1)))
    go_wp2
    obtain ⟨z2, z3, z4⟩ := quot_close (by omega) l2 l3 ((!b) && decide (0 < n')) p' q' n' c' m' d'
    have y0 := z2.cell0
    have y1 := z2.cell1
    have y2 := z3.cell0
    have y3 := z3.cell1
    obtain ⟨n1, n2⟩ := quot_num HX.out HY.out (z4 _ _ _ (r1.below hb2)) r2 r3 (z4 _ _ _ (r4.below hb2)) r5 r6 r7 r8 (fun h => by first | exact hR0 trivial | exact hR0 h)
    refine bodyPost_ret (v := .tuple #[.agg #[.bool ((!b) && decide (0 < n')), .slice p' n' c'], .agg #[.bool false, .slice q' m' d']]) (by simp [results, Tryd.results64, go_sem, y0, y1, y2, y3]) rfl ⟨_, p', n', c', qs, q', m', d', rs, rfl, ?_, n2, ?_⟩
    · first | exact n1 | (simp only [Bool.false_bne, Bool.true_bne] at n1; exact n1)
    · exact ((((((hb0.trans (hb1.mono hb0.size)).trans (hb2.mono (Nat.le_trans hb0.size hb1.size)))).setCell (by simp <;> omega) _).setCell (by simp <;> omega) _).setCell (by simp <;> omega) _).setCell (by simp <;> omega) _

theorem rest_pos {X Y Q R : Nat} (h0 : 0 < X % Y) (h7 : X = Q * Y + R) (h8 : R < Y) : 0 < R := by
  rw [h7, Nat.mul_comm, Nat.mul_add_mod, Nat.mod_eq_of_lt h8] at h0
  exact h0

theorem rest_some {w : World} {q : Option Addr} {m : Nat} {rs : List Nat} (h : 0 < dv BW rs) (hr : Rd .u64 w q m rs) : (0 : Int) < (m : Int) := by
  have : rs ≠ [] := by rintro rfl; simp [dv] at h
  have := List.length_pos_iff.2 this
  rw [hr.1] at this; omega

theorem len_le {w w' : World} {p q : Option Addr} {n m : Nat} {ys rs : List Nat} (hy : Rd .u64 w p n ys) (hr : Rd .u64 w' q m rs) (gr : Cn BW rs) (gy : Cn BW ys) (h : dv BW rs < dv BW ys) : m ≤ n := by
  rcases Nat.lt_or_ge n m with hlt | hge
  · have := Cn.lt_of_length (b := BW) (by decide) gy.1 gr (by rw [hy.1, hr.1]; exact hlt)
    omega
  · exact hge

theorem quo_len {w w' : World} {p q : Option Addr} {n m : Nat} {xs ys qs rs : List Nat} (hx : Rd .u64 w p n xs) (hq : Rd .u64 w' q m qs) (gx : Cn BW xs) (gq : Cn BW qs) (h7 : dv BW xs = dv BW qs * dv BW ys + dv BW rs) (h8 : dv BW rs < dv BW ys) : m ≤ n := by
  have h1 := dv_lt gx.1
  rw [hx.1] at h1
  have h2 : dv BW qs ≤ dv BW qs * dv BW ys := Nat.le_mul_of_pos_right (dv BW qs) (show 0 < dv BW ys by omega)
  rw [← hq.1]
  exact gq.length_le (by decide) (by omega)

theorem quot_num' {w0 w1 W : World} {b : Bool} {p q p' q' : Option Addr} {n c m d n' c' m' d' : Nat} {xs ys qs rs zs us : List Nat} {x y : Int} {L M : Nat} (hx : NumIs w0 true p n c xs x L) (hy : NumIs w1 b q m d ys y M)
    (r1 : Rd .u64 W p' n' zs) (r2 : n' ≤ c') (r3 : Cn BW zs) (r4 : Rd .u64 W q' m' us) (r5 : m' ≤ d') (r6 : Cn BW us) (r7 : dv BW xs = dv BW qs * dv BW ys + dv BW rs) (r8 : dv BW rs < dv BW ys) (h0 : 0 < dv BW rs)
    (hz : dv BW zs = dv BW qs + 1) (hu : dv BW us + dv BW rs = dv BW ys) :
    NumIs W ((true != b) && decide (0 < n')) p' n' c' zs (x / y) (max L M) ∧ NumIs W false q' m' d' us (x % y) (max L M) := by
  obtain ⟨e1, e2⟩ := quot_says' r7 r8 h0 b
  have sx := hx.small
  have sy := hy.small
  rw [hx.val, sv_natAbs] at sx
  rw [hy.val, sv_natAbs] at sy
  have g1 := Nat.pow_le_pow_right (n := BW) (by decide) (Nat.le_max_left L M)
  have g2 := Nat.pow_le_pow_right (n := BW) (by decide) (Nat.le_max_right L M)
  have hQ : dv BW qs ≤ dv BW qs * dv BW ys := Nat.le_mul_of_pos_right (dv BW qs) (show 0 < dv BW ys by omega)
  have hus : dv BW us = dv BW ys - dv BW rs := by omega
  rw [hx.val, hy.val, ← e1, ← e2]
  refine ⟨NumIs.mk' r1 r2 r3 (by rw [r1.1]; simp) (by rw [← r1.1, sv_and _ _ r3, hz]) (by rw [sv_natAbs]; omega), NumIs.mk' r4 r5 r6 (by simp) (by rw [hus]; rfl) (by omega)⟩

set_option maxHeartbeats 2000000 in
theorem quotient_neg (b : Bool) (p q : Option Addr) (n c m d : Nat) (xs ys : List Nat) (x y : Int) (L M : Nat) (w : World) (hx : NumIs w true p n c xs x L) (hy : NumIs w b q m d ys y M) (hL : L ≤ 1000000) (hM : M ≤ 1000000)
    (hD : ∀ W, Rd .u64 W p n xs → Rd .u64 W q m ys → Calls Tryd.prog 82 #[.slice p n c, .slice q m d] W (DivOut W xs ys)) (h0 : 0 < dv BW xs % dv BW ys) :
    Calls Tryd.prog 64 #[.agg #[.bool true, .slice p n c], .agg #[.bool b, .slice q m d]] w (QuotOut w x y (max L M)) := by
  obtain ⟨b0, b1, b2, b3⟩ := four_boxes (W := w) (.bool true) (.slice p n c) (.bool b) (.slice q m d) (.bool false) (.slice none 0 0) (.bool false) (.slice none 0 0) 79
  have hb0 : Below w.heap.size w ((((w.alloc (.cells #[.bool true, .slice p n c] 79)).alloc (.cells #[.bool b, .slice q m d] 79)).alloc (.cells #[.bool false, .slice none 0 0] 79)).alloc (.cells #[.bool false, .slice none 0 0] 79)) :=
    ((((Below.refl _ w).alloc (Nat.le_refl _) _).alloc (by simp) _).alloc (by simp <;> omega) _).alloc (by simp <;> omega) _
  have hx1 := hx.below hb0
  have hy1 := hy.below hb0
  have e0 := b0.cell1
  have e1 := b1.cell1
  have HX := Lib.hid hx
  have HY := Lib.hid hy
  clear hx hy
  go_enter Tryd.func64, Tryd.ntmps64
  generalize hW4 : ((((w.alloc (.cells #[.bool true, .slice p n c] 79)).alloc (.cells #[.bool b, .slice q m d] 79)).alloc (.cells #[.bool false, .slice none 0 0] 79)).alloc (.cells #[.bool false, .slice none 0 0] 79)) = w4 at *
  go_wp2_with (first
    | (go_at_call 82; refine (hD _ hx1.rd hy1.rd).mono ?_; rintro e w1 ⟨p', n', c', qs, q', m', d', rs, rfl, r1, r2, r3, r4, r5, r6, r7, r8, hb1⟩; have k0 := (b0.below hb1 (by have := b3.lt; omega)); have k1 := (b1.below hb1 (by have := b3.lt; omega)); have k2 := (b2.below hb1 (by have := b3.lt; omega)); have k3 := (b3.below hb1 b3.lt); have f0 := k0.cell0; have f1 := k1.cell0; have hR0 : 0 < dv BW rs := rest_pos h0 r7 r8; clear h0; have hm1 : (0 : Int) < (m' : Int) := rest_some hR0 r4; have hk1 := k1.cell1; have hy2 := hy1.below hb1; have hW1 : Below w1.heap.size w1 (w1.alloc (.cells #[.int .u64 (1 : Int)] 73)) := (Below.refl _ _).alloc (Nat.le_refl _) _; have hO := one_word w1 1)
    | (go_at_call 83; refine (addWords_any _ _ _ _ _ _ qs [1] _ (Nat.le_trans (quo_len hx1.rd r1 hx1.cn r3 r7 r8) (Nat.le_trans hx1.len (by omega))) (by omega) (r1.below hW1) hO r3.1 (by intro z hz; simp at hz; subst hz; decide)).mono ?_; rintro e w5 ⟨p5, n5, c5, zs5, rfl, s1, s2, s3, s4, hb5⟩; have k0' := (k0.alloc (.cells #[.int .u64 (1 : Int)] 73)).below hb5 (by have := k3.lt; simp; omega); have k1' := (k1.alloc (.cells #[.int .u64 (1 : Int)] 73)).below hb5 (by have := k3.lt; simp; omega); have k2' := (k2.alloc (.cells #[.int .u64 (1 : Int)] 73)).below hb5 (by have := k3.lt; simp; omega); have k3' := (k3.alloc (.cells #[.int .u64 (1 : Int)] 73)).below hb5 (by have := k3.lt; simp; omega); have hk1' := k1'.cell1; have hy3 := (hy2.below hW1).below hb5; have r4' := (r4.below hW1).below hb5)
    | (go_at_call 84; refine (subtractWords_any _ _ _ _ _ _ ys rs _ (Nat.le_trans hy3.len (by omega)) (len_le hy3.rd r4' r6 hy3.cn r8) hy3.rd r4' hy3.cn.1 r6.1 (by omega)).mono ?_; rintro e w6 ⟨p6, n6, c6, zs6, rfl, t1, t2, t3, t4, hb6⟩; have m0 := k0'.below hb6 k0'.lt; have m1 := k1'.below hb6 k1'.lt; have m2 := k2'.below hb6 k2'.lt; have m3 := k3'.below hb6 k3'.lt; have f0 := m0.cell0; have f1 := m1.cell0)
    | (go_at_call 74; refine (signed_any _ _ _ _ _).mono ?_; rintro e w2 ⟨rfl, hb2⟩; have l2 := m2.below hb2 m2.lt; have l3 := m3.below hb2 m3.lt; have g0 := l2.cell0; have g1 := l2.cell1; have g2 := l3.cell0; have g3 := l3.cell1; have g4 := l2.frozen (i := 0); have g5 := l2.frozen (i := 1); have g6 := l3.frozen (i := 0); have g7 := l3.frozen (i := 1)))
  go_wp2
  obtain ⟨z2, z3, z4⟩ := quot_close (by omega) l2 l3 ((!b) && decide (0 < n5)) p5 p6 n5 c5 n6 c6
  have y0 := z2.cell0
  have y1 := z2.cell1
  have y2 := z3.cell0
  have y3 := z3.cell1
  obtain ⟨n1, n2⟩ := quot_num' HX.out HY.out (z4 _ _ _ ((s1.below hb6).below hb2)) s2 s3 (z4 _ _ _ (t1.below hb2)) t2 t3 r7 r8 hR0 (by rw [s4]; simp [dv]) t4
  have h16 := hb1.size
  have h56 := hb5.size
  have h66 := hb6.size
  rw [World.size_alloc] at h56
  refine bodyPost_ret (v := .tuple #[.agg #[.bool ((!b) && decide (0 < n5)), .slice p5 n5 c5], .agg #[.bool false, .slice p6 n6 c6]]) (by simp [results, Tryd.results64, go_sem, y0, y1, y2, y3]) rfl ⟨_, p5, n5, c5, zs5, p6, n6, c6, zs6, rfl, ?_, n2, ?_⟩
  · first | exact n1 | (simp only [Bool.false_bne, Bool.true_bne] at n1; exact n1)
  · exact ((((((((((hb0.trans (hb1.mono hb0.size)).trans (hW1.mono (by have := hb0.size; omega))).trans (hb5.mono (by have := hb0.size; rw [World.size_alloc]; omega))).trans (hb6.mono (by have := hb0.size; omega))).trans (hb2.mono (by have := hb0.size; omega))))).setCell (by simp <;> omega) _).setCell (by simp <;> omega) _).setCell (by simp <;> omega) _).setCell (by simp <;> omega) _


theorem quotient_of (a b : Bool) (p q : Option Addr) (n c m d : Nat) (xs ys : List Nat) (x y : Int) (L M : Nat) (w : World) (hx : NumIs w a p n c xs x L) (hy : NumIs w b q m d ys y M) (hL : L ≤ 1000000) (hM : M ≤ 1000000)
    (hD : ∀ W, Rd .u64 W p n xs → Rd .u64 W q m ys → Calls Tryd.prog 82 #[.slice p n c, .slice q m d] W (DivOut W xs ys)) :
    Calls Tryd.prog 64 #[.agg #[.bool a, .slice p n c], .agg #[.bool b, .slice q m d]] w (QuotOut w x y (max L M)) := by
  by_cases h : a = true → dv BW xs % dv BW ys = 0
  · exact quotient_plain a b p q n c m d xs ys x y L M w hx hy hL hM hD h
  · cases a
    · exact (h (fun h => by cases h)).elim
    · exact quotient_neg b p q n c m d xs ys x y L M w hx hy hL hM hD (Nat.pos_of_ne_zero fun e => h fun _ => e)

/-- What Div hands back. -/
def divE (ok : Bool) (y : Int) : Int := if ok then (if y = 0 then 5 else 0) else 6
def divQ (ok : Bool) (x y : Int) : List UInt8 := if ok && decide (y ≠ 0) then Lib.itoa (x / y) else []
def divR (ok : Bool) (x y : Int) : List UInt8 := if ok && decide (y ≠ 0) then Lib.itoa (x % y) else []
def DivIs (w : World) (ok : Bool) (x y : Int) (e : Ending) (w' : World) : Prop := e = .returned (.tuple #[.string ⟨(divQ ok x y).toArray⟩, .string ⟨(divR ok x y).toArray⟩, .int .i64 (divE ok y)]) ∧ Below w.heap.size w w'

end Go.Proofs.YtapfkinpdinbgaaDoor
