/-
  Two arguments are read.
-/
import Derived.Test.YtapfkinpdinbgaaDoorRead
namespace Go.Proofs.YtapfkinpdinbgaaDoor
open Go.RowKit

/-- Two variables of the call's own, behind a call. -/
theorem two_kept {W w1 : World} (hb : Below W.heap.size W w1) {B : Nat} (hB : B + 1 < W.heap.size) :
    (∀ o, w1.cell? ⟨B, o, none⟩ = W.cell? ⟨B, o, none⟩) ∧ (∀ o, w1.cell? ⟨B + 1, o, none⟩ = W.cell? ⟨B + 1, o, none⟩) ∧
    (∀ o, w1.frozen? ⟨B, o, none⟩ = W.frozen? ⟨B, o, none⟩) ∧ (∀ o, w1.frozen? ⟨B + 1, o, none⟩ = W.frozen? ⟨B + 1, o, none⟩) ∧ B + 1 < w1.heap.size :=
  ⟨fun o => hb.cell (p := ⟨B, o, none⟩) (by show B < _; omega), fun o => hb.cell (p := ⟨B + 1, o, none⟩) hB,
   fun o => hb.frozen (p := ⟨B, o, none⟩) (by show B < _; omega), fun o => hb.frozen (p := ⟨B + 1, o, none⟩) hB, Nat.lt_of_lt_of_le hB hb.size⟩

/-- Two numbers written into two new variables. -/
theorem four_set {W : World} {B : Nat} (u0 u1 u2 u3 : Value) (h0 : W.cell? ⟨B, 0, none⟩ = some (.bool false)) (h1 : W.cell? ⟨B, 1, none⟩ = some (.slice none 0 0)) (h2 : W.cell? ⟨B + 1, 0, none⟩ = some (.bool false)) (h3 : W.cell? ⟨B + 1, 1, none⟩ = some (.slice none 0 0)) :
    ((((W.setCell ⟨B, 0, none⟩ u0).setCell ⟨B, 1, none⟩ u1).setCell ⟨B + 1, 0, none⟩ u2).setCell ⟨B + 1, 1, none⟩ u3).cell? ⟨B, 0, none⟩ = some u0 ∧
    ((((W.setCell ⟨B, 0, none⟩ u0).setCell ⟨B, 1, none⟩ u1).setCell ⟨B + 1, 0, none⟩ u2).setCell ⟨B + 1, 1, none⟩ u3).cell? ⟨B, 1, none⟩ = some u1 ∧
    ((((W.setCell ⟨B, 0, none⟩ u0).setCell ⟨B, 1, none⟩ u1).setCell ⟨B + 1, 0, none⟩ u2).setCell ⟨B + 1, 1, none⟩ u3).cell? ⟨B + 1, 0, none⟩ = some u2 ∧
    ((((W.setCell ⟨B, 0, none⟩ u0).setCell ⟨B, 1, none⟩ u1).setCell ⟨B + 1, 0, none⟩ u2).setCell ⟨B + 1, 1, none⟩ u3).cell? ⟨B + 1, 1, none⟩ = some u3 ∧
    (∀ r k xs, Rd .u64 W r k xs → Rd .u64 ((((W.setCell ⟨B, 0, none⟩ u0).setCell ⟨B, 1, none⟩ u1).setCell ⟨B + 1, 0, none⟩ u2).setCell ⟨B + 1, 1, none⟩ u3) r k xs) := by
  have o : ∀ (W : World) (i j : Nat) (v : Value), (W.setCell ⟨B, i, none⟩ v).cell? ⟨B + 1, j, none⟩ = W.cell? ⟨B + 1, j, none⟩ := fun W i j v => World.cell?_setCell_other _ _ _ _ (by simp)
  have o' : ∀ (W : World) (i j : Nat) (v : Value), (W.setCell ⟨B + 1, i, none⟩ v).cell? ⟨B, j, none⟩ = W.cell? ⟨B, j, none⟩ := fun W i j v => World.cell?_setCell_other _ _ _ _ (by simp)
  obtain ⟨a0, a1, _⟩ := two_set u0 u1 h0 h1
  have k2 : ((W.setCell ⟨B, 0, none⟩ u0).setCell ⟨B, 1, none⟩ u1).cell? ⟨B + 1, 0, none⟩ = some (.bool false) := by rw [o, o, h2]
  have k3 : ((W.setCell ⟨B, 0, none⟩ u0).setCell ⟨B, 1, none⟩ u1).cell? ⟨B + 1, 1, none⟩ = some (.slice none 0 0) := by rw [o, o, h3]
  obtain ⟨b0, b1, _⟩ := two_set u2 u3 k2 k3
  exact ⟨by rw [o', o', a0], by rw [o', o', a1], b0, b1, fun r k xs h => (h.two_set u0 u1 h0 h1).two_set u2 u3 k2 k3⟩

/-- Both arguments are numbers. -/
def PairOk (w : World) (x y : Int) (e : Ending) (w' : World) : Prop :=
  ∃ a p n c xs b q m d ys, e = .returned (.tuple #[.agg #[.bool a, .slice p n c], .agg #[.bool b, .slice q m d], .int .i64 0]) ∧ NumIs w' a p n c xs x 223 ∧ NumIs w' b q m d ys y 223 ∧ Below w.heap.size w w'

set_option maxHeartbeats 1000000 in
theorem pair_ok (s t : ByteArray) (w : World) (hs : s.size ≤ maxLen) (ht : t.size ≤ maxLen) (h1 : numB s.data.toList = true) (h2 : numB t.data.toList = true) :
    Calls Tryd.prog 48 #[.string s, .string t] w (PairOk w (strV s.data.toList) (strV t.data.toList)) := by
  have hb0 : Below w.heap.size w ((w.alloc (.cells #[.bool false, .slice none 0 0] 79)).alloc (.cells #[.bool false, .slice none 0 0] 79)) :=
    ((Below.refl _ w).alloc (Nat.le_refl _) _).alloc (by simp) _
  have y0 : w.heap.size + 1 < ((w.alloc (.cells #[.bool false, .slice none 0 0] 79)).alloc (.cells #[.bool false, .slice none 0 0] 79)).heap.size := by simp
  have H1 := Lib.hid h1
  have H2 := Lib.hid h2
  clear h1 h2
  go_enter Tryd.func48, Tryd.ntmps48
  go_wp2_with fail
  refine (is_any s _ hs).mono ?_
  rintro e w1 ⟨rfl, hb1⟩
  obtain ⟨a1, a2, a3, a4, y1⟩ := two_kept hb1 y0
  rw [H1.out]
  go_wp2_with fail
  refine (is_any t _ ht).mono ?_
  rintro e w2 ⟨rfl, hb2⟩
  obtain ⟨b1, b2, b3, b4, y2⟩ := two_kept hb2 y1
  rw [H2.out]
  go_wp2_with fail
  refine (read_any s _ hs H1.out).mono ?_
  rintro e w3 ⟨a, p, n, c, xs, rfl, hx, hb3⟩
  obtain ⟨c1, c2, c3, c4, y3⟩ := two_kept hb3 y2
  go_wp2_with fail
  refine (read_any t _ ht H2.out).mono ?_
  rintro e w4 ⟨b, q, m, d, ys, rfl, hy, hb4⟩
  obtain ⟨d1, d2, d3, d4, y4⟩ := two_kept hb4 y3
  go_wp2_with fail
  have p0 : w4.cell? ⟨w.heap.size, 0, none⟩ = some (.bool false) := by rw [d1, c1, b1, a1]; simp [go_sem]
  have p1 : w4.cell? ⟨w.heap.size, 1, none⟩ = some (.slice none 0 0) := by rw [d1, c1, b1, a1]; simp [go_sem]
  have p2 : w4.cell? ⟨w.heap.size + 1, 0, none⟩ = some (.bool false) := by rw [d2, c2, b2, a2]; simp [go_sem]
  have p3 : w4.cell? ⟨w.heap.size + 1, 1, none⟩ = some (.slice none 0 0) := by rw [d2, c2, b2, a2]; simp [go_sem]
  obtain ⟨f0, f1, f2, f3, f4⟩ := four_set (.bool a) (.slice p n c) (.bool b) (.slice q m d) p0 p1 p2 p3
  refine bodyPost_ret (v := .tuple #[.agg #[.bool a, .slice p n c], .agg #[.bool b, .slice q m d], .int .i64 0]) (by simp [results, Tryd.results48, go_sem, f0, f1, f2, f3]) rfl ⟨a, p, n, c, xs, b, q, m, d, ys, rfl, ?_, ?_, ?_⟩
  · exact { hx.below hb4 with rd := f4 _ _ _ (hx.rd.below hb4) }
  · exact { hy with rd := f4 _ _ _ hy.rd }
  · exact ((((((hb0.trans (hb1.mono (by simp <;> omega))).trans (hb2.mono (by omega))).trans (hb3.mono (by omega))).trans (hb4.mono (by omega))).setCell (by simp) _).setCell (by simp) _).setCell (by simp) _ |>.setCell (by simp) _

set_option maxHeartbeats 1000000 in
theorem pair_bad (s t : ByteArray) (w : World) (hs : s.size ≤ maxLen) (ht : t.size ≤ maxLen) (h : (numB s.data.toList && numB t.data.toList) = false) :
    Calls Tryd.prog 48 #[.string s, .string t] w fun e w' => e = .returned (.tuple #[.agg #[.bool false, .slice none 0 0], .agg #[.bool false, .slice none 0 0], .int .i64 6]) ∧ Below w.heap.size w w' := by
  have hb0 : Below w.heap.size w ((w.alloc (.cells #[.bool false, .slice none 0 0] 79)).alloc (.cells #[.bool false, .slice none 0 0] 79)) :=
    ((Below.refl _ w).alloc (Nat.le_refl _) _).alloc (by simp) _
  have y0 : w.heap.size + 1 < ((w.alloc (.cells #[.bool false, .slice none 0 0] 79)).alloc (.cells #[.bool false, .slice none 0 0] 79)).heap.size := by simp
  by_cases h1 : numB s.data.toList = true
  · have h2 : numB t.data.toList = false := by simpa [h1] using h
    have H1 := Lib.hid h1
    have H2 := Lib.hid h2
    clear h1 h2 h
    go_enter Tryd.func48, Tryd.ntmps48
    go_wp2_with fail
    refine (is_any s _ hs).mono ?_
    rintro e w1 ⟨rfl, hb1⟩
    obtain ⟨a1, a2, a3, a4, y1⟩ := two_kept hb1 y0
    rw [H1.out]
    go_wp2_with fail
    refine (is_any t _ ht).mono ?_
    rintro e w2 ⟨rfl, hb2⟩
    obtain ⟨b1, b2, b3, b4, y2⟩ := two_kept hb2 y1
    rw [H2.out]
    go_wp2_with fail
    have p0 : w2.cell? ⟨w.heap.size, 0, none⟩ = some (.bool false) := by rw [b1, a1]; simp [go_sem]
    have p1 : w2.cell? ⟨w.heap.size, 1, none⟩ = some (.slice none 0 0) := by rw [b1, a1]; simp [go_sem]
    have p2 : w2.cell? ⟨w.heap.size + 1, 0, none⟩ = some (.bool false) := by rw [b2, a2]; simp [go_sem]
    have p3 : w2.cell? ⟨w.heap.size + 1, 1, none⟩ = some (.slice none 0 0) := by rw [b2, a2]; simp [go_sem]
    obtain ⟨f0, f1, f2, f3, f4⟩ := four_set (.bool false) (.slice none 0 0) (.bool false) (.slice none 0 0) p0 p1 p2 p3
    refine bodyPost_ret (v := .tuple #[.agg #[.bool false, .slice none 0 0], .agg #[.bool false, .slice none 0 0], .int .i64 6]) (by simp [results, Tryd.results48, go_sem, f0, f1, f2, f3]) rfl ⟨rfl, ?_⟩
    exact ((((hb0.trans (hb1.mono (by simp <;> omega))).trans (hb2.mono (by omega))).setCell (by simp) _).setCell (by simp) _).setCell (by simp) _ |>.setCell (by simp) _
  · have h2 : numB s.data.toList = false := by simpa using h1
    have H2 := Lib.hid h2
    clear h1 h2 h
    go_enter Tryd.func48, Tryd.ntmps48
    go_wp2_with fail
    refine (is_any s _ hs).mono ?_
    rintro e w1 ⟨rfl, hb1⟩
    obtain ⟨a1, a2, a3, a4, y1⟩ := two_kept hb1 y0
    rw [H2.out]
    go_wp2_with fail
    have p0 : w1.cell? ⟨w.heap.size, 0, none⟩ = some (.bool false) := by rw [a1]; simp [go_sem]
    have p1 : w1.cell? ⟨w.heap.size, 1, none⟩ = some (.slice none 0 0) := by rw [a1]; simp [go_sem]
    have p2 : w1.cell? ⟨w.heap.size + 1, 0, none⟩ = some (.bool false) := by rw [a2]; simp [go_sem]
    have p3 : w1.cell? ⟨w.heap.size + 1, 1, none⟩ = some (.slice none 0 0) := by rw [a2]; simp [go_sem]
    obtain ⟨f0, f1, f2, f3, f4⟩ := four_set (.bool false) (.slice none 0 0) (.bool false) (.slice none 0 0) p0 p1 p2 p3
    refine bodyPost_ret (v := .tuple #[.agg #[.bool false, .slice none 0 0], .agg #[.bool false, .slice none 0 0], .int .i64 6]) (by simp [results, Tryd.results48, go_sem, f0, f1, f2, f3]) rfl ⟨rfl, ?_⟩
    exact (((hb0.trans (hb1.mono (by simp <;> omega))).setCell (by simp) _).setCell (by simp) _).setCell (by simp) _ |>.setCell (by simp) _

end Go.Proofs.YtapfkinpdinbgaaDoor
