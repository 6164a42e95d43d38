/-
  The sum of a list; the order of two numbers; 1.
-/
import Derived.Test.YtapfkinpdinbgaaDoorRead
import Derived.Test.YtapfkinpdinbgaaDoorWritten
namespace Go.Proofs.YtapfkinpdinbgaaDoor
open Go.RowKit

/-- Two variables of the call's own, behind a call. -/
theorem two_kept {W w1 : World} (hb : Below W.heap.size W w1) {B : Nat} (hB : B + 1 < W.heap.size) :
    (∀ o, w1.cell? ⟨B, o, none⟩ = W.cell? ⟨B, o, none⟩) ∧ (∀ o, w1.cell? ⟨B + 1, o, none⟩ = W.cell? ⟨B + 1, o, none⟩) ∧
    (∀ o, w1.frozen? ⟨B, o, none⟩ = W.frozen? ⟨B, o, none⟩) ∧ (∀ o, w1.frozen? ⟨B + 1, o, none⟩ = W.frozen? ⟨B + 1, o, none⟩) ∧ B + 1 < w1.heap.size :=
  ⟨fun o => hb.cell (p := ⟨B, o, none⟩) (by show B < _; omega), fun o => hb.cell (p := ⟨B + 1, o, none⟩) hB,
   fun o => hb.frozen (p := ⟨B, o, none⟩) (by show B < _; omega), fun o => hb.frozen (p := ⟨B + 1, o, none⟩) hB, Nat.lt_of_lt_of_le hB hb.size⟩

/-- Two numbers written into two new variables. -/
theorem four_set {W : World} {B : Nat} (u0 u1 u2 u3 : Value) (h0 : W.cell? ⟨B, 0, none⟩ = some (.bool false)) (h1 : W.cell? ⟨B, 1, none⟩ = some (.slice none 0 0)) (h2 : W.cell? ⟨B + 1, 0, none⟩ = some (.bool false)) (h3 : W.cell? ⟨B + 1, 1, none⟩ = some (.slice none 0 0)) :
    ((((W.setCell ⟨B, 0, none⟩ u0).setCell ⟨B, 1, none⟩ u1).setCell ⟨B + 1, 0, none⟩ u2).setCell ⟨B + 1, 1, none⟩ u3).cell? ⟨B, 0, none⟩ = some u0 ∧
    ((((W.setCell ⟨B, 0, none⟩ u0).setCell ⟨B, 1, none⟩ u1).setCell ⟨B + 1, 0, none⟩ u2).setCell ⟨B + 1, 1, none⟩ u3).cell? ⟨B, 1, none⟩ = some u1 ∧
    ((((W.setCell ⟨B, 0, none⟩ u0).setCell ⟨B, 1, none⟩ u1).setCell ⟨B + 1, 0, none⟩ u2).setCell ⟨B + 1, 1, none⟩ u3).cell? ⟨B + 1, 0, none⟩ = some u2 ∧
    ((((W.setCell ⟨B, 0, none⟩ u0).setCell ⟨B, 1, none⟩ u1).setCell ⟨B + 1, 0, none⟩ u2).setCell ⟨B + 1, 1, none⟩ u3).cell? ⟨B + 1, 1, none⟩ = some u3 ∧
    (∀ r k xs, Rd .u64 W r k xs → Rd .u64 ((((W.setCell ⟨B, 0, none⟩ u0).setCell ⟨B, 1, none⟩ u1).setCell ⟨B + 1, 0, none⟩ u2).setCell ⟨B + 1, 1, none⟩ u3) r k xs) := by
  have o : ∀ (W : World) (i j : Nat) (v : Value), (W.setCell ⟨B, i, none⟩ v).cell? ⟨B + 1, j, none⟩ = W.cell? ⟨B + 1, j, none⟩ := fun W i j v => World.cell?_setCell_other _ _ _ _ (by simp)
  have o' : ∀ (W : World) (i j : Nat) (v : Value), (W.setCell ⟨B + 1, i, none⟩ v).cell? ⟨B, j, none⟩ = W.cell? ⟨B, j, none⟩ := fun W i j v => World.cell?_setCell_other _ _ _ _ (by simp)
  obtain ⟨a0, a1, _⟩ := two_set u0 u1 h0 h1
  have k2 : ((W.setCell ⟨B, 0, none⟩ u0).setCell ⟨B, 1, none⟩ u1).cell? ⟨B + 1, 0, none⟩ = some (.bool false) := by rw [o, o, h2]
  have k3 : ((W.setCell ⟨B, 0, none⟩ u0).setCell ⟨B, 1, none⟩ u1).cell? ⟨B + 1, 1, none⟩ = some (.slice none 0 0) := by rw [o, o, h3]
  obtain ⟨b0, b1, _⟩ := two_set u2 u3 k2 k3
  exact ⟨by rw [o', o', a0], by rw [o', o', a1], b0, b1, fun r k xs h => (h.two_set u0 u1 h0 h1).two_set u2 u3 k2 k3⟩

/-- Both arguments are numbers. -/
def PairOk (w : World) (x y : Int) (e : Ending) (w' : World) : Prop :=
  ∃ a p n c xs b q m d ys, e = .returned (.tuple #[.agg #[.bool a, .slice p n c], .agg #[.bool b, .slice q m d], .int .i64 0]) ∧ NumIs w' a p n c xs x 223 ∧ NumIs w' b q m d ys y 223 ∧ Below w.heap.size w w'

set_option maxHeartbeats 1000000 in
theorem pair_ok (s t : ByteArray) (w : World) (hs : s.size ≤ maxLen) (ht : t.size ≤ maxLen) (h1 : numB s.data.toList = true) (h2 : numB t.data.toList = true) :
    Calls Tryd.prog 48 #[.string s, .string t] w (PairOk w (strV s.data.toList) (strV t.data.toList)) := by
  have hb0 : Below w.heap.size w ((w.alloc (.cells #[.bool false, .slice none 0 0] 79)).alloc (.cells #[.bool false, .slice none 0 0] 79)) :=
    ((Below.refl _ w).alloc (Nat.le_refl _) _).alloc (by simp) _
  have y0 : w.heap.size + 1 < ((w.alloc (.cells #[.bool false, .slice none 0 0] 79)).alloc (.cells #[.bool false, .slice none 0 0] 79)).heap.size := by simp
  have H1 := Lib.hid h1
  have H2 := Lib.hid h2
  clear h1 h2
  go_enter Tryd.func48, Tryd.ntmps48
  go_wp2_with fail
  refine (is_any s _ hs).mono ?_
  rintro e w1 ⟨rfl, hb1⟩
  obtain ⟨a1, a2, a3, a4, y1⟩ := two_kept hb1 y0
  rw [H1.out]
  go_wp2_with fail
  refine (is_any t _ ht).mono ?_
  rintro e w2 ⟨rfl, hb2⟩
  obtain ⟨b1, b2, b3, b4, y2⟩ := two_kept hb2 y1
  rw [H2.out]
  go_wp2_with fail
  refine (read_any s _ hs H1.out).mono ?_
  rintro e w3 ⟨a, p, n, c, xs, rfl, hx, hb3⟩
  obtain ⟨c1, c2, c3, c4, y3⟩ := two_kept hb3 y2
  go_wp2_with fail
  refine (read_any t _ ht H2.out).mono ?_
  rintro e w4 ⟨b, q, m, d, ys, rfl, hy, hb4⟩
  obtain ⟨d1, d2, d3, d4, y4⟩ := two_kept hb4 y3
  go_wp2_with fail
  have p0 : w4.cell? ⟨w.heap.size, 0, none⟩ = some (.bool false) := by rw [d1, c1, b1, a1]; simp [go_sem]
  have p1 : w4.cell? ⟨w.heap.size, 1, none⟩ = some (.slice none 0 0) := by rw [d1, c1, b1, a1]; simp [go_sem]
  have p2 : w4.cell? ⟨w.heap.size + 1, 0, none⟩ = some (.bool false) := by rw [d2, c2, b2, a2]; simp [go_sem]
  have p3 : w4.cell? ⟨w.heap.size + 1, 1, none⟩ = some (.slice none 0 0) := by rw [d2, c2, b2, a2]; simp [go_sem]
  obtain ⟨f0, f1, f2, f3, f4⟩ := four_set (.bool a) (.slice p n c) (.bool b) (.slice q m d) p0 p1 p2 p3
  refine bodyPost_ret (v := .tuple #[.agg #[.bool a, .slice p n c], .agg #[.bool b, .slice q m d], .int .i64 0]) (by simp [results, Tryd.results48, go_sem, f0, f1, f2, f3]) rfl ⟨a, p, n, c, xs, b, q, m, d, ys, rfl, ?_, ?_, ?_⟩
  · exact { hx.below hb4 with rd := f4 _ _ _ (hx.rd.below hb4) }
  · exact { hy with rd := f4 _ _ _ hy.rd }
  · exact ((((((hb0.trans (hb1.mono (by simp <;> omega))).trans (hb2.mono (by omega))).trans (hb3.mono (by omega))).trans (hb4.mono (by omega))).setCell (by simp) _).setCell (by simp) _).setCell (by simp) _ |>.setCell (by simp) _

set_option maxHeartbeats 1000000 in
theorem pair_bad (s t : ByteArray) (w : World) (hs : s.size ≤ maxLen) (ht : t.size ≤ maxLen) (h : (numB s.data.toList && numB t.data.toList) = false) :
    Calls Tryd.prog 48 #[.string s, .string t] w fun e w' => e = .returned (.tuple #[.agg #[.bool false, .slice none 0 0], .agg #[.bool false, .slice none 0 0], .int .i64 6]) ∧ Below w.heap.size w w' := by
  have hb0 : Below w.heap.size w ((w.alloc (.cells #[.bool false, .slice none 0 0] 79)).alloc (.cells #[.bool false, .slice none 0 0] 79)) :=
    ((Below.refl _ w).alloc (Nat.le_refl _) _).alloc (by simp) _
  have y0 : w.heap.size + 1 < ((w.alloc (.cells #[.bool false, .slice none 0 0] 79)).alloc (.cells #[.bool false, .slice none 0 0] 79)).heap.size := by simp
  by_cases h1 : numB s.data.toList = true
  · have h2 : numB t.data.toList = false := by simpa [h1] using h
    have H1 := Lib.hid h1
    have H2 := Lib.hid h2
    clear h1 h2 h
    go_enter Tryd.func48, Tryd.ntmps48
    go_wp2_with fail
    refine (is_any s _ hs).mono ?_
    rintro e w1 ⟨rfl, hb1⟩
    obtain ⟨a1, a2, a3, a4, y1⟩ := two_kept hb1 y0
    rw [H1.out]
    go_wp2_with fail
    refine (is_any t _ ht).mono ?_
    rintro e w2 ⟨rfl, hb2⟩
    obtain ⟨b1, b2, b3, b4, y2⟩ := two_kept hb2 y1
    rw [H2.out]
    go_wp2_with fail
    have p0 : w2.cell? ⟨w.heap.size, 0, none⟩ = some (.bool false) := by rw [b1, a1]; simp [go_sem]
    have p1 : w2.cell? ⟨w.heap.size, 1, none⟩ = some (.slice none 0 0) := by rw [b1, a1]; simp [go_sem]
    have p2 : w2.cell? ⟨w.heap.size + 1, 0, none⟩ = some (.bool false) := by rw [b2, a2]; simp [go_sem]
    have p3 : w2.cell? ⟨w.heap.size + 1, 1, none⟩ = some (.slice none 0 0) := by rw [b2, a2]; simp [go_sem]
    obtain ⟨f0, f1, f2, f3, f4⟩ := four_set (.bool false) (.slice none 0 0) (.bool false) (.slice none 0 0) p0 p1 p2 p3
    refine bodyPost_ret (v := .tuple #[.agg #[.bool false, .slice none 0 0], .agg #[.bool false, .slice none 0 0], .int .i64 6]) (by simp [results, Tryd.results48, go_sem, f0, f1, f2, f3]) rfl ⟨rfl, ?_⟩
    exact ((((hb0.trans (hb1.mono (by simp <;> omega))).trans (hb2.mono (by omega))).setCell (by simp) _).setCell (by simp) _).setCell (by simp) _ |>.setCell (by simp) _
  · have h2 : numB s.data.toList = false := by simpa using h1
    have H2 := Lib.hid h2
    clear h1 h2 h
    go_enter Tryd.func48, Tryd.ntmps48
    go_wp2_with fail
    refine (is_any s _ hs).mono ?_
    rintro e w1 ⟨rfl, hb1⟩
    obtain ⟨a1, a2, a3, a4, y1⟩ := two_kept hb1 y0
    rw [H2.out]
    go_wp2_with fail
    have p0 : w1.cell? ⟨w.heap.size, 0, none⟩ = some (.bool false) := by rw [a1]; simp [go_sem]
    have p1 : w1.cell? ⟨w.heap.size, 1, none⟩ = some (.slice none 0 0) := by rw [a1]; simp [go_sem]
    have p2 : w1.cell? ⟨w.heap.size + 1, 0, none⟩ = some (.bool false) := by rw [a2]; simp [go_sem]
    have p3 : w1.cell? ⟨w.heap.size + 1, 1, none⟩ = some (.slice none 0 0) := by rw [a2]; simp [go_sem]
    obtain ⟨f0, f1, f2, f3, f4⟩ := four_set (.bool false) (.slice none 0 0) (.bool false) (.slice none 0 0) p0 p1 p2 p3
    refine bodyPost_ret (v := .tuple #[.agg #[.bool false, .slice none 0 0], .agg #[.bool false, .slice none 0 0], .int .i64 6]) (by simp [results, Tryd.results48, go_sem, f0, f1, f2, f3]) rfl ⟨rfl, ?_⟩
    exact (((hb0.trans (hb1.mono (by simp <;> omega))).setCell (by simp) _).setCell (by simp) _).setCell (by simp) _ |>.setCell (by simp) _

end Go.Proofs.YtapfkinpdinbgaaDoor

namespace Go.Proofs.YtapfkinpdinbgaaDoor
open Go.RowKit

theorem Boxed2.frozen {W : World} {B i : Nat} {a b : Value} {t : TypeId} (h : Boxed2 W B a b t) : W.frozen? ⟨B, i, none⟩ = false := by unfold Boxed2 at h; simp [World.frozen?, h]
theorem Boxed2.new (w : World) (a b : Value) (t : TypeId) : Boxed2 (w.alloc (.cells #[a, b] t)) w.heap.size a b t := World.alloc_heap_new w _
theorem Boxed2.alloc {W : World} {B : Nat} {a b : Value} {t : TypeId} (h : Boxed2 W B a b t) (o : Obj) : Boxed2 (W.alloc o) B a b t := h.kept (World.grownBy_alloc W o none) (fun r e => by cases e)
theorem Boxed2.set0 {W : World} {B : Nat} {a b : Value} {t : TypeId} (v : Value) (h : Boxed2 W B a b t) : Boxed2 (W.setCell ⟨B, 0, none⟩ v) B v b t := by
  unfold Boxed2 at *
  rw [Lib.heap_setCell_same h]
  rfl
theorem Boxed2.set1 {W : World} {B : Nat} {a b : Value} {t : TypeId} (v : Value) (h : Boxed2 W B a b t) : Boxed2 (W.setCell ⟨B, 1, none⟩ v) B a v t := by
  unfold Boxed2 at *
  rw [Lib.heap_setCell_same h]
  rfl
theorem Boxed2.set {W : World} {B : Nat} {a b : Value} {t : TypeId} (v0 v1 : Value) (h : Boxed2 W B a b t) : Boxed2 ((W.setCell ⟨B, 0, none⟩ v0).setCell ⟨B, 1, none⟩ v1) B v0 v1 t := (h.set0 v0).set1 v1
theorem Boxed2.setOther {W : World} {B : Nat} {a b : Value} {t : TypeId} (h : Boxed2 W B a b t) {C i : Nat} (v : Value) (hne : B ≠ C) : Boxed2 (W.setCell ⟨C, i, none⟩ v) B a b t := by
  unfold Boxed2 at *
  rw [Below.heap_setCell _ _ _ _ hne]
  exact h
theorem Boxed2.cellAt {W : World} {B i : Nat} {a b : Value} {t : TypeId} (h : Boxed2 W B a b t) : W.cell? ⟨B, i, none⟩ = #[a, b][i]? := by unfold Boxed2 at h; simp [World.cell?, h]

/-- Words lie elsewhere than a number's variable. -/
theorem Rd.box {W : World} {p : Option Addr} {n : Nat} {xs : List Nat} (h : Rd .u64 W p n xs) {B i : Nat} {neg : Bool} {q : Option Addr} {k c : Nat} {t : TypeId} (hb : Boxed2 W B (.bool neg) (.slice q k c) t) (v : Value) : Rd .u64 (W.setCell ⟨B, i, none⟩ v) p n xs := by
  refine ⟨h.1, fun j hj => ?_⟩
  obtain ⟨b', off, hp, hlt, hc⟩ := h.2 j hj
  refine ⟨b', off, hp, by simpa using hlt, ?_⟩
  rw [World.cell?_setCell_other _ _ _ _ (fun e => ?_)]
  · exact hc
  · cases e
    rw [hb.cellAt] at hc
    match off + j, hc with
    | 0, hc => simp at hc
    | 1, hc => simp at hc
    | k + 2, hc => simp at hc

theorem cell_alloc {W : World} {a : Addr} {v : Value} {o : Obj} (h : W.cell? a = some v) : (W.alloc o).cell? a = some v := by
  rw [World.cell?_alloc_some _ _ _ (by rw [h]; rfl)]; exact h

theorem cell_call {W W' : World} {a : Addr} {v : Value} (hb : Below W.heap.size W W') (h : W.cell? a = some v) : W'.cell? a = some v := (hb.cell (World.block_lt_of_cell? _ _ h)).trans h

/-- A row of numbers. -/
def Nums (w : World) (a : Option Addr) (zs : List Int) (L : Nat) : Prop :=
  ∀ i z, zs[i]? = some z → ∃ b off neg p n c xs, a = some ⟨b, off, none⟩ ∧ b < w.heap.size ∧ w.cell? ⟨b, off + i * 2, none⟩ = some (.bool neg) ∧ w.cell? ⟨b, off + i * 2 + 1, none⟩ = some (.slice p n c) ∧ NumIs w neg p n c xs z L

theorem Nums.below {w w' : World} {a : Option Addr} {zs : List Int} {L : Nat} (h : Nums w a zs L) (hb : Below w.heap.size w w') : Nums w' a zs L := by
  intro i z hz
  obtain ⟨b, off, neg, p, n, c, xs, ha, hlt, h0, h1, hn⟩ := h i z hz
  exact ⟨b, off, neg, p, n, c, xs, ha, Nat.lt_of_lt_of_le hlt hb.size, (hb.cell (p := ⟨b, _, none⟩) hlt).trans h0, (hb.cell (p := ⟨b, _, none⟩) hlt).trans h1, hn.below hb⟩

def sumZ (zs : List Int) : Int := zs.foldl (· + ·) 0
theorem sumZ_snoc (zs : List Int) (z : Int) : sumZ (zs ++ [z]) = sumZ zs + z := by simp [sumZ]

set_option maxHeartbeats 1000000 in
theorem sum_any (a : Option Addr) (k c : Nat) (zs : List Int) (L : Nat) (w : World) (hl : zs.length = k) (hk : k ≤ 1000000) (hL : L ≤ 100000000) (hz : Nums w a zs L) :
    Calls Tryd.prog 49 #[.slice a k c] w (NumV w (sumZ zs) (L + k)) := by
  have hb0 : Below w.heap.size w ((w.alloc (.cells #[.bool false, .slice none 0 0] 79)).alloc (.cells #[.bool false, .slice none 0 0] 79)) :=
    ((Below.refl _ w).alloc (Nat.le_refl _) _).alloc (by simp) _
  have y0 : w.heap.size + 1 < ((w.alloc (.cells #[.bool false, .slice none 0 0] 79)).alloc (.cells #[.bool false, .slice none 0 0] 79)).heap.size := by simp
  have HL := Lib.hid hl
  have HZ := Lib.hid hz
  clear hl hz
  go_enter Tryd.func49, Tryd.ntmps49
  go_wp2
  go_loopw [9] (fun i wr => ∃ (j : Nat) (neg : Bool) (p : Option Addr) (n d : Nat) (xs : List Nat), j ≤ k ∧ i = .int .i64 j ∧ Boxed2 wr (w.heap.size + 1) (.bool neg) (.slice p n d) 79 ∧ Boxed2 wr w.heap.size (.bool false) (.slice none 0 0) 79
      ∧ Hid (NumIs wr neg p n d xs (sumZ (zs.take j)) (L + j)) ∧ Below w.heap.size w wr) (fun i _ => k - (intOf i).toNat)
  case atStart =>
    refine ⟨0, false, none, 0, 0, [], Nat.zero_le _, rfl, ?_, (Boxed2.new w _ _ _).alloc _, ?_, hb0⟩
    · have := Boxed2.new (w.alloc (.cells #[.bool false, .slice none 0 0] 79)) (.bool false) (.slice none 0 0) 79
      simpa using this
    · exact { rd := Rd.nil _ _ _, cap := Nat.le_refl _, len := Nat.zero_le _, cn := Cn.nil _, pos := (by intro h; cases h), val := rfl }
  case round =>
    obtain ⟨j, neg, p, n, d, xs, hj, rfl, t0, r0, hn, hbel⟩ := hrel
    have hlt0 := t0.lt
    by_cases hlt : j < k
    · obtain ⟨b, off, neg', p', n', d', xs', rfl, hb, e0, e1, he⟩ := HZ.out j _ (List.getElem?_eq_getElem (by rw [HL.out]; exact hlt))
      have e0' := (hbel.cell (p := ⟨b, _, none⟩) hb).trans e0
      have e1' := (hbel.cell (p := ⟨b, _, none⟩) hb).trans e1
      have c0 := t0.cell0
      have c1 := t0.cell1
      have q0 := t0.frozen (i := 0)
      have q1 := t0.frozen (i := 1)
      clear e0 e1
      have hb1 : Below wr.heap.size wr (wr.alloc (.cells #[.bool neg', .slice p' n' d'] 79)) := (Below.refl _ _).alloc (Nat.le_refl _) _
      have hE := (he.below hbel).below hb1
      go_wp2_with (go_at_call 70; refine (plus_num (hn.out.below hb1) hE (by omega) (by omega)).mono ?_; rintro e w2 ⟨neg2, p2, n2, d2, xs2, rfl, hx2, hb2⟩; have t2 := (t0.alloc (.cells #[.bool neg', .slice p' n' d'] 79)).below hb2 (by simp; omega); have c20 := t2.cell0; have c21 := t2.cell1; have q20 := t2.frozen (i := 0); have q21 := t2.frozen (i := 1))
      have r2 := (r0.alloc (.cells #[.bool neg', .slice p' n' d'] 79)).below hb2 (by simp; omega)
      have hs2 := hb2.size
      simp only [World.size_alloc] at hs2
      go_roundw
      case rel =>
        refine ⟨j + 1, neg2, p2, n2, d2, xs2, by omega, by go_num, t2.set _ _, (r2.setOther _ (by omega)).setOther _ (by omega), ?_, ?_⟩
        · have hjl : j < zs.length := by rw [HL.out]; exact hlt
          have e1 : sumZ (zs.take (j + 1)) = sumZ (zs.take j) + zs[j] := by rw [List.take_succ_eq_append_getElem (by rw [HL.out]; exact hlt), sumZ_snoc]
          have e2 : max (L + j) L + 1 = L + (j + 1) := by omega
          rw [← e1, e2] at hx2
          exact { hx2 with rd := (hx2.rd.box t2 _).box (t2.set0 _) _ }
        · exact ((((hbel.alloc hbel.size _).trans (hb2.mono (by simp; have := hbel.size; omega))).setCell (by simp) _).setCell (by simp) _)
      case measure => simp [intOf]; omega
    · obtain rfl : j = k := by omega
      have c0 := t0.cell0
      have c1 := t0.cell1
      have d0 := r0.cell0
      have d1 := r0.cell1
      have q0 := r0.frozen (i := 0)
      have q1 := r0.frozen (i := 1)
      go_wp2
      have r1 := r0.set (.bool neg) (.slice p n d)
      have z0 := r1.cell0
      have z1 := r1.cell1
      refine bodyPost_ret (v := .agg #[.bool neg, .slice p n d]) (by simp [results, Tryd.results49, go_sem, z0, z1]) rfl ⟨neg, p, n, d, xs, rfl, ?_, (hbel.setCell (by simp) _).setCell (by simp) _⟩
      have hn' := hn.out
      rw [List.take_of_length_le (by rw [HL.out]; exact Nat.le_refl _)] at hn'
      exact { hn' with rd := (hn'.rd.box r0 _).box (r0.set0 _) _ }

set_option maxHeartbeats 400000 in
theorem one_any (w : World) : Calls Tryd.prog 79 #[] w (NumV w 1 1) := by
  go_enter Tryd.func79, Tryd.ntmps79
  go_wp2
  have h0 : Boxed2 ((w.alloc (.cells #[.bool false, .slice (some ⟨w.heap.size + 1, 0, none⟩) 1 1] 79)).alloc (.cells #[.int .u64 1] 73)) w.heap.size (.bool false) (.slice (some ⟨w.heap.size + 1, 0, none⟩) 1 1) 79 := (Boxed2.new w _ _ _).alloc _
  have z0 := h0.cell0
  have z1 := h0.cell1
  refine bodyPost_ret (v := .agg #[.bool false, .slice (some ⟨w.heap.size + 1, 0, none⟩) 1 1]) (by simp [results, Tryd.results79, go_sem, z0, z1]) rfl ⟨false, _, 1, 1, [1], rfl, ?_, ((Below.refl _ w).alloc (Nat.le_refl _) _).alloc (by simp) _⟩
  refine { rd := ⟨rfl, fun i hi => ⟨w.heap.size + 1, 0, rfl, by simp, ?_⟩⟩, cap := Nat.le_refl _, len := Nat.le_refl _, cn := ⟨by intro x hx; simp at hx; subst hx; decide, by simp [Tp]⟩, pos := (by intro h; cases h), val := by decide }
  obtain rfl : i = 0 := by omega
  simp [go_sem]

end Go.Proofs.YtapfkinpdinbgaaDoor
