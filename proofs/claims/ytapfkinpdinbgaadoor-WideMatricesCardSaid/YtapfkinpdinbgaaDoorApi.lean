/-
  Sums, differences and products of two strings.
-/
import Derived.Test.YtapfkinpdinbgaaDoorSum
import Derived.Deep.RegionHeld3
namespace Go.Proofs.YtapfkinpdinbgaaDoor
open Go.RowKit

def apiS (ok : Bool) (z : Int) : List UInt8 := if ok then outS z else []
def apiE (ok : Bool) (z : Int) : Int := if ok then outE z else 6

/-- What a call hands back: a string and an error. -/
def ApiIs (w : World) (ok : Bool) (z : Int) (e : Ending) (w' : World) : Prop := e = .returned (.tuple #[.string ⟨(apiS ok z).toArray⟩, .int .i64 (apiE ok z)]) ∧ Below w.heap.size w w'

theorem pair_boxes {W : World} (u0 u1 u2 u3 : Value) (t : TypeId) : Boxed2 ((W.alloc (.cells #[u0, u1] t)).alloc (.cells #[u2, u3] t)) W.heap.size u0 u1 t ∧ Boxed2 ((W.alloc (.cells #[u0, u1] t)).alloc (.cells #[u2, u3] t)) (W.heap.size + 1) u2 u3 t :=
  ⟨(Boxed2.new W _ _ _).alloc _, by have := Boxed2.new (W.alloc (.cells #[u0, u1] t)) u2 u3 t; simpa using this⟩

theorem Nums.two {W : World} {a b : Bool} {p q : Option Addr} {n c m d : Nat} {xs ys : List Nat} {x y : Int} {L : Nat} (hx : NumIs W a p n c xs x L) (hy : NumIs W b q m d ys y L) (t : TypeId) :
    Nums (W.alloc (.cells #[.bool a, .slice p n c, .bool b, .slice q m d] t)) (some ⟨W.heap.size, 0, none⟩) [x, y] L := by
  have hb : Below W.heap.size W (W.alloc (.cells #[.bool a, .slice p n c, .bool b, .slice q m d] t)) := (Below.refl _ _).alloc (Nat.le_refl _) _
  intro i z hz
  match i, hz with
  | 0, hz => cases hz; exact ⟨W.heap.size, 0, a, p, n, c, xs, rfl, by simp, by simp, by simp, hx.below hb⟩
  | 1, hz => cases hz; exact ⟨W.heap.size, 0, b, q, m, d, ys, rfl, by simp, by simp, by simp, hy.below hb⟩
  | i + 2, hz => simp at hz

theorem sumZ_two (x y : Int) : sumZ [x, y] = x + y := by simp [sumZ]

theorem sum_two {W : World} {a b : Bool} {p q : Option Addr} {n c m d : Nat} {xs ys : List Nat} {x y : Int} {L : Nat} (hx : NumIs W a p n c xs x L) (hy : NumIs W b q m d ys y L) (hL : L ≤ 100000000) (t : TypeId) (k B : Nat) (hB : W.heap.size = B) :
    Calls Tryd.prog 49 #[.slice (some ⟨B, 0, none⟩) 2 k] (W.alloc (.cells #[.bool a, .slice p n c, .bool b, .slice q m d] t)) (NumV (W.alloc (.cells #[.bool a, .slice p n c, .bool b, .slice q m d] t)) (x + y) (L + 2)) := by
  subst hB
  have h := sum_any (some ⟨W.heap.size, 0, none⟩) 2 k [x, y] L _ rfl (by omega) hL (Nums.two hx hy t)
  rw [sumZ_two] at h
  exact h

set_option maxHeartbeats 1000000 in
theorem mul_ok (s t : ByteArray) (w : World) (hs : s.size ≤ maxLen) (ht : t.size ≤ maxLen) (h1 : numB s.data.toList = true) (h2 : numB t.data.toList = true) (htab : Tab w) :
    Calls Tryd.prog 24 #[.string s, .string t] w (ApiIs w true (strV s.data.toList * strV t.data.toList)) := by
  go_enter Tryd.func24, Tryd.ntmps24
  go_wp2_with (first
    | (go_at_call 48; refine (pair_ok s t _ hs ht h1 h2).mono ?_; rintro e w1 ⟨a, p, n, c, xs, b, q, m, d, ys, rfl, hx, hy, hb1⟩; have hbA : Below w1.heap.size w1 ((w1.alloc (.cells #[.bool a, .slice p n c] 79)).alloc (.cells #[.bool b, .slice q m d] 79)) := (((Below.refl _ _).alloc (Nat.le_refl _) _).alloc (by simp) _); have hbW := hb1.trans (hbA.mono hb1.size); have hxA := hx.below hbA; have hyA := hy.below hbA)
    | (go_at_call 52; refine (product_num hxA hyA (by omega) (by omega)).mono ?_; rintro e w2 ⟨neg2, p2, n2, d2, xs2, rfl, hx2, hb2⟩; have hbX := hbW.trans (hb2.mono hbW.size))
    | (go_at_call 50; refine (written_any _ _ _ _ _ _ _ _ hx2 (by omega) (htab.below hbX)).mono ?_; rintro e w3 ⟨rfl, hb3⟩))
  go_ret2
  exact ⟨rfl, hbX.trans (hb3.mono hbX.size)⟩

set_option maxHeartbeats 1000000 in
theorem mul_bad (s t : ByteArray) (w : World) (hs : s.size ≤ maxLen) (ht : t.size ≤ maxLen) (h : (numB s.data.toList && numB t.data.toList) = false) (z : Int) :
    Calls Tryd.prog 24 #[.string s, .string t] w (ApiIs w false z) := by
  go_enter Tryd.func24, Tryd.ntmps24
  go_wp2_with (go_at_call 48; refine (pair_bad s t _ hs ht h).mono ?_; rintro e w1 ⟨rfl, hb1⟩)
  go_ret2
  exact ⟨rfl, (hb1.alloc hb1.size _).alloc (by have := hb1.size; simp; omega) _⟩

theorem mul_any (s t : ByteArray) (w : World) (hs : s.size ≤ maxLen) (ht : t.size ≤ maxLen) (htab : Tab w) :
    Calls Tryd.prog 24 #[.string s, .string t] w (ApiIs w (numB s.data.toList && numB t.data.toList) (strV s.data.toList * strV t.data.toList)) := by
  cases h : (numB s.data.toList && numB t.data.toList)
  · exact mul_bad s t w hs ht h _
  · simp only [Bool.and_eq_true] at h
    exact mul_ok s t w hs ht h.1 h.2 htab

set_option maxHeartbeats 1000000 in
theorem add_ok (s t : ByteArray) (w : World) (hs : s.size ≤ maxLen) (ht : t.size ≤ maxLen) (h1 : numB s.data.toList = true) (h2 : numB t.data.toList = true) (htab : Tab w) :
    Calls Tryd.prog 22 #[.string s, .string t] w (ApiIs w true (strV s.data.toList + strV t.data.toList)) := by
  go_enter Tryd.func22, Tryd.ntmps22
  go_wp2_with (first
    | (go_at_call 48; refine (pair_ok s t _ hs ht h1 h2).mono ?_; rintro e w1 ⟨a, p, n, c, xs, b, q, m, d, ys, rfl, hx, hy, hb1⟩; have hbA : Below w1.heap.size w1 ((w1.alloc (.cells #[.bool a, .slice p n c] 79)).alloc (.cells #[.bool b, .slice q m d] 79)) := (((Below.refl _ _).alloc (Nat.le_refl _) _).alloc (by simp) _); have hbW := hb1.trans (hbA.mono hb1.size); have hxA := hx.below hbA; have hyA := hy.below hbA)
    | (go_at_call 49; refine (sum_two hxA hyA (by omega) _ _ _ (by simp)).mono ?_; rintro e w2 ⟨neg2, p2, n2, d2, xs2, rfl, hx2, hb2⟩; have hbX := (hbW.alloc hbW.size _).trans (hb2.mono (by have := hbW.size; rw [World.size_alloc]; omega)))
    | (go_at_call 50; refine (written_any _ _ _ _ _ _ _ _ hx2 (by omega) (htab.below hbX)).mono ?_; rintro e w3 ⟨rfl, hb3⟩))
  go_ret2
  exact ⟨rfl, hbX.trans (hb3.mono hbX.size)⟩

set_option maxHeartbeats 1000000 in
theorem add_bad (s t : ByteArray) (w : World) (hs : s.size ≤ maxLen) (ht : t.size ≤ maxLen) (h : (numB s.data.toList && numB t.data.toList) = false) (z : Int) :
    Calls Tryd.prog 22 #[.string s, .string t] w (ApiIs w false z) := by
  go_enter Tryd.func22, Tryd.ntmps22
  go_wp2_with (go_at_call 48; refine (pair_bad s t _ hs ht h).mono ?_; rintro e w1 ⟨rfl, hb1⟩)
  go_ret2
  exact ⟨rfl, (hb1.alloc hb1.size _).alloc (by have := hb1.size; simp; omega) _⟩

theorem add_any (s t : ByteArray) (w : World) (hs : s.size ≤ maxLen) (ht : t.size ≤ maxLen) (htab : Tab w) :
    Calls Tryd.prog 22 #[.string s, .string t] w (ApiIs w (numB s.data.toList && numB t.data.toList) (strV s.data.toList + strV t.data.toList)) := by
  cases h : (numB s.data.toList && numB t.data.toList)
  · exact add_bad s t w hs ht h _
  · simp only [Bool.and_eq_true] at h
    exact add_ok s t w hs ht h.1 h.2 htab

set_option maxHeartbeats 1000000 in
theorem sub_ok (s t : ByteArray) (w : World) (hs : s.size ≤ maxLen) (ht : t.size ≤ maxLen) (h1 : numB s.data.toList = true) (h2 : numB t.data.toList = true) (htab : Tab w) :
    Calls Tryd.prog 23 #[.string s, .string t] w (ApiIs w true (strV s.data.toList - strV t.data.toList)) := by
  go_enter Tryd.func23, Tryd.ntmps23
  go_wp2_with (go_at_call 48; refine (pair_ok s t _ hs ht h1 h2).mono ?_; rintro e w1 ⟨a, p, n, c, xs, b, q, m, d, ys, rfl, hx, hy, hb1⟩; have hbA : Below w1.heap.size w1 ((w1.alloc (.cells #[.bool a, .slice p n c] 79)).alloc (.cells #[.bool b, .slice q m d] 79)) := (((Below.refl _ _).alloc (Nat.le_refl _) _).alloc (by simp) _); have hbW := hb1.trans (hbA.mono hb1.size); have hxA := hx.below hbA; have hyA := hy.below hbA; have B1 := (pair_boxes (W := w1) (.bool a) (.slice p n c) (.bool b) (.slice q m d) 79).1; have B2 := (pair_boxes (W := w1) (.bool a) (.slice p n c) (.bool b) (.slice q m d) 79).2)
  generalize ((w1.alloc (.cells #[.bool a, .slice p n c] 79)).alloc (.cells #[.bool b, .slice q m d] 79)) = wA at *
  have c0 : wA.drew.cell? _ = _ := B1.cell0
  have c1 : wA.drew.cell? _ = _ := B1.cell1
  have c2 : wA.drew.cell? _ = _ := B2.cell0
  have c3 : wA.drew.cell? _ = _ := B2.cell1
  go_region_held3 (fun w' => w'.cell? ⟨w1.heap.size, 0, none⟩ = some (.bool a) ∧ w'.cell? ⟨w1.heap.size, 1, none⟩ = some (.slice p n c) ∧ w'.cell? ⟨w1.heap.size + 1, 0, none⟩ = some (.bool b) ∧ w'.cell? ⟨w1.heap.size + 1, 1, none⟩ = some (.slice q m d))
      (((repeat' apply And.intro) <;> (repeat (first | (simp only [*]; done) | refine cell_alloc ?_ | refine cell_call (by assumption) ?_ | refine cell_call (W := wA.drew) (by assumption) ?_)); done))
      (first
        | (go_at_call 51; refine (opposite_num (show NumIs wA.drew b q m d ys _ 223 from { hyA with rd := hyA.rd })).mono ?_; rintro e w4 ⟨neg4, p4, n4, d4, xs4, rfl, hx4, hb4⟩; have e0 := cell_call (W := wA.drew) hb4 c0; have e1 := cell_call (W := wA.drew) hb4 c1; have e2 := cell_call (W := wA.drew) hb4 c2; have e3 := cell_call (W := wA.drew) hb4 c3; have hbV := hbW.drew.trans (hb4.mono hbW.size); have hxV := NumIs.below (show NumIs wA.drew a p n c xs _ 223 from { hxA with rd := hxA.rd }) hb4)
        | (go_at_call 49; refine (sum_two hxV hx4 (by omega) _ _ _ (by simp)).mono ?_; rintro e w2 ⟨neg2, p2, n2, d2, xs2, rfl, hx2, hb2⟩; have g0 := cell_call hb2 (cell_alloc e0); have g1 := cell_call hb2 (cell_alloc e1); have g2 := cell_call hb2 (cell_alloc e2); have g3 := cell_call hb2 (cell_alloc e3); have hbX := (hbV.alloc hbV.size _).trans (hb2.mono (by have := hbV.size; rw [World.size_alloc]; omega)))
        | (go_at_call 50; refine (written_any _ _ _ _ _ _ _ _ hx2 (by omega) (htab.below hbX)).mono ?_; rintro e w3 ⟨rfl, hb3⟩; have i0 := cell_call hb3 g0; have i1 := cell_call hb3 g1; have i2 := cell_call hb3 g2; have i3 := cell_call hb3 g3))
  all_goals go_wp2
  go_ret2
  exact ⟨rfl, hbX.trans (hb3.mono hbX.size)⟩

set_option maxHeartbeats 1000000 in
theorem sub_bad (s t : ByteArray) (w : World) (hs : s.size ≤ maxLen) (ht : t.size ≤ maxLen) (h : (numB s.data.toList && numB t.data.toList) = false) (z : Int) :
    Calls Tryd.prog 23 #[.string s, .string t] w (ApiIs w false z) := by
  go_enter Tryd.func23, Tryd.ntmps23
  go_wp2_with (go_at_call 48; refine (pair_bad s t _ hs ht h).mono ?_; rintro e w1 ⟨rfl, hb1⟩)
  go_ret2
  exact ⟨rfl, (hb1.alloc hb1.size _).alloc (by have := hb1.size; simp; omega) _⟩

theorem sub_any (s t : ByteArray) (w : World) (hs : s.size ≤ maxLen) (ht : t.size ≤ maxLen) (htab : Tab w) :
    Calls Tryd.prog 23 #[.string s, .string t] w (ApiIs w (numB s.data.toList && numB t.data.toList) (strV s.data.toList - strV t.data.toList)) := by
  cases h : (numB s.data.toList && numB t.data.toList)
  · exact sub_bad s t w hs ht h _
  · simp only [Bool.and_eq_true] at h
    exact sub_ok s t w hs ht h.1 h.2 htab

end Go.Proofs.YtapfkinpdinbgaaDoor
