/-
  Numbers: a sign and words.
-/
import Derived.Test.YtapfkinpdinbgaaDoorCompare
import Derived.Test.YtapfkinpdinbgaaDoorSub
import Derived.Test.YtapfkinpdinbgaaDoorMul
namespace Go.Proofs.YtapfkinpdinbgaaDoor
open Go.RowKit

set_option maxHeartbeats 400000 in
theorem signed_any (neg : Bool) (p : Option Addr) (n c : Nat) (w : World) :
    Calls Tryd.prog 74 #[.bool neg, .slice p n c] w fun e w' => e = .returned (.agg #[.bool (neg && decide (0 < n)), .slice p n c]) ∧ Below w.heap.size w w' := by
  cases neg
  · go_enter Tryd.func74, Tryd.ntmps74
    go_wp2
    refine bodyPost_ret (v := .agg #[.bool false, .slice p n c]) (by simp [results, Tryd.results74, go_sem]) rfl ⟨rfl, (Below.refl _ _).alloc (Nat.le_refl _) _⟩
  · by_cases h : 0 < n
    · have hd : decide (0 < n) = true := by simpa using h
      go_enter Tryd.func74, Tryd.ntmps74
      go_wp2
      refine bodyPost_ret (v := .agg #[.bool true, .slice p n c]) (by simp [results, Tryd.results74, go_sem]) rfl ⟨by simp [hd], (Below.refl _ _).alloc (Nat.le_refl _) _⟩
    · have hd : decide (0 < n) = false := by simpa using h
      go_enter Tryd.func74, Tryd.ntmps74
      go_wp2
      refine bodyPost_ret (v := .agg #[.bool false, .slice p n c]) (by simp [results, Tryd.results74, go_sem]) rfl ⟨by simp [hd], (Below.refl _ _).alloc (Nat.le_refl _) _⟩

theorem Rd.setOther {k : IntKind} {w : World} {p : Option Addr} {n : Nat} {xs : List Nat} (h : Rd k w p n xs) {b o : Nat} {u : Value} (hu : w.cell? ⟨b, o, none⟩ = some u) (hne : ∀ x, u ≠ .int k x) (v : Value) : Rd k (w.setCell ⟨b, o, none⟩ v) p n xs := by
  refine ⟨h.1, fun i hi => ?_⟩
  obtain ⟨b', off, hp, hlt, hc⟩ := h.2 i hi
  refine ⟨b', off, hp, by simpa using hlt, ?_⟩
  rw [World.cell?_setCell_other _ _ _ _ (fun e => ?_)]
  · exact hc
  · rw [e] at hu; rw [hu] at hc; exact hne _ (Option.some.inj hc)

theorem Rd.drew {k : IntKind} {w : World} {p : Option Addr} {n : Nat} {xs : List Nat} (h : Rd k w p n xs) : Rd k w.drew p n xs := h

theorem two_set {W : World} {B : Nat} {u0 u1 : Value} (v0 v1 : Value) (h0 : W.cell? ⟨B, 0, none⟩ = some u0) (h1 : W.cell? ⟨B, 1, none⟩ = some u1) :
    ((W.setCell ⟨B, 0, none⟩ v0).setCell ⟨B, 1, none⟩ v1).cell? ⟨B, 0, none⟩ = some v0 ∧ ((W.setCell ⟨B, 0, none⟩ v0).setCell ⟨B, 1, none⟩ v1).cell? ⟨B, 1, none⟩ = some v1 ∧ (W.setCell ⟨B, 0, none⟩ v0).cell? ⟨B, 1, none⟩ = some u1 := by
  have h2 : (W.setCell ⟨B, 0, none⟩ v0).cell? ⟨B, 1, none⟩ = some u1 := (World.cell?_setCell_other _ _ _ _ (by simp)).trans h1
  exact ⟨(World.cell?_setCell_other _ _ _ _ (by simp)).trans (World.cell?_setCell_same _ _ _ h0), World.cell?_setCell_same _ _ _ h2, h2⟩

/-- A number written into a new variable of its own. -/
theorem Rd.two_set {W : World} {p : Option Addr} {n : Nat} {xs : List Nat} (h : Rd .u64 W p n xs) {B : Nat} (v0 v1 : Value) (h0 : W.cell? ⟨B, 0, none⟩ = some (.bool false)) (h1 : W.cell? ⟨B, 1, none⟩ = some (.slice none 0 0)) :
    Rd .u64 ((W.setCell ⟨B, 0, none⟩ v0).setCell ⟨B, 1, none⟩ v1) p n xs :=
  (h.setOther h0 (by intro x e; cases e) v0).setOther (Go.Proofs.YtapfkinpdinbgaaDoor.two_set v0 v1 h0 h1).2.2 (by intro x e; cases e) v1

/-- Three variables of the call's own, behind a call. -/
theorem three_kept {W w1 : World} (hb : Below W.heap.size W w1) {B : Nat} (hB : B + 1 + 1 < W.heap.size) :
    (∀ o, w1.cell? ⟨B, o, none⟩ = W.cell? ⟨B, o, none⟩) ∧ (∀ o, w1.cell? ⟨B + 1, o, none⟩ = W.cell? ⟨B + 1, o, none⟩) ∧ (∀ o, w1.cell? ⟨B + 1 + 1, o, none⟩ = W.cell? ⟨B + 1 + 1, o, none⟩) ∧
    (∀ o, w1.frozen? ⟨B, o, none⟩ = W.frozen? ⟨B, o, none⟩) ∧ (∀ o, w1.frozen? ⟨B + 1, o, none⟩ = W.frozen? ⟨B + 1, o, none⟩) ∧ (∀ o, w1.frozen? ⟨B + 1 + 1, o, none⟩ = W.frozen? ⟨B + 1 + 1, o, none⟩) ∧
    B + 1 + 1 < w1.heap.size :=
  ⟨fun o => hb.cell (p := ⟨B, o, none⟩) (by show B < _; omega), fun o => hb.cell (p := ⟨B + 1, o, none⟩) (by show B + 1 < _; omega), fun o => hb.cell (p := ⟨B + 1 + 1, o, none⟩) hB,
   fun o => hb.frozen (p := ⟨B, o, none⟩) (by show B < _; omega), fun o => hb.frozen (p := ⟨B + 1, o, none⟩) (by show B + 1 < _; omega), fun o => hb.frozen (p := ⟨B + 1 + 1, o, none⟩) hB, Nat.lt_of_lt_of_le hB hb.size⟩

/-- What a call hands back: a number's sign and words, new. -/
def NumOut (w : World) (P : Bool → List Nat → Prop) (e : Ending) (w' : World) : Prop :=
  ∃ neg p n c zs, e = .returned (.agg #[.bool neg, .slice p n c]) ∧ Rd .u64 w' p n zs ∧ n ≤ c ∧ Cn BW zs ∧ P neg zs ∧ Below w.heap.size w w'

set_option maxHeartbeats 1000000 in
theorem product_core (a b : Bool) (p q : Option Addr) (n c m d : Nat) (xs ys : List Nat) (w : World) (hn : n ≤ 1000000000) (hm : m ≤ 1000000000)
    (hx : Rd .u64 w p n xs) (hy : Rd .u64 w q m ys) (gx : Dg BW xs) (gy : Dg BW ys) :
    Calls Tryd.prog 52 #[.agg #[.bool a, .slice p n c], .agg #[.bool b, .slice q m d]] w (NumOut w fun neg zs => neg = ((a != b) && decide (0 < zs.length)) ∧ dv BW zs = dv BW xs * dv BW ys) := by
  have hb0 : Below w.heap.size w ((((w.alloc (.cells #[.bool a, .slice p n c] 79)).alloc (.cells #[.bool b, .slice q m d] 79)).alloc (.cells #[.bool false, .slice none 0 0] 79)).drew) :=
    ((((Below.refl _ w).alloc (Nat.le_refl _) _).alloc (by simp) _).alloc (by simp <;> omega) _).drew
  have hx1 := hx.below hb0
  have hy1 := hy.below hb0
  go_enter Tryd.func52, Tryd.ntmps52
  go_wp2_with fail

  go_region_held3 (fun w' => w'.cell? ⟨w.heap.size, 0, none⟩ = some (.bool a) ∧ w'.cell? ⟨w.heap.size, 1, none⟩ = some (.slice p n c) ∧ w'.cell? ⟨w.heap.size + 1, 0, none⟩ = some (.bool b) ∧ w'.cell? ⟨w.heap.size + 1, 1, none⟩ = some (.slice q m d))
    (simp [go_sem, *])
    (first
      | (go_at_call 75; refine (multiplyWords_any _ _ _ _ _ _ xs ys _ hn hm hx1 hy1 gx gy).mono ?_; rintro e w1 ⟨r, k, cap, zs, rfl, hr, hk, hz, he, hb1⟩; obtain ⟨hc1, hf1⟩ := bcell hb1; have z1 : w.heap.size < w1.heap.size := (by have := hb1.size; simp at this; omega); have z2 : w.heap.size + 1 < w1.heap.size := (by have := hb1.size; simp at this; omega); have z3 : w.heap.size + 1 + 1 < w1.heap.size := (by have := hb1.size; simp at this; omega))
      | (go_at_call 74; refine (signed_any _ _ _ _ _).mono ?_; rintro e w2 ⟨rfl, hb2⟩; obtain ⟨hc2, hf2⟩ := bcell hb2))
  go_wp2
  have q0 : w2.cell? ⟨w.heap.size + 1 + 1, 0, none⟩ = some (.bool false) := by rw [hc2 _ _ z3, hc1 _ _ (by simp)]; simp [go_sem]
  have q1 : w2.cell? ⟨w.heap.size + 1 + 1, 1, none⟩ = some (.slice none 0 0) := by rw [hc2 _ _ z3, hc1 _ _ (by simp)]; simp [go_sem]
  obtain ⟨r0, r1, _⟩ := two_set (.bool (!a == b && decide (0 < k))) (.slice r k cap) q0 q1
  refine bodyPost_ret (v := .agg #[.bool (!a == b && decide (0 < k)), .slice r k cap]) (by simp [results, Tryd.results52, go_sem, r0, r1]) rfl ⟨_, _, _, _, zs, rfl, (hr.below hb2).two_set _ _ q0 q1, hk, hz, ⟨?_, he⟩, ?_⟩
  · rw [hr.1]; rfl
  · exact (((hb0.trans (hb1.mono (by simp <;> omega))).trans (hb2.mono (by omega))).setCell (by simp <;> omega) _).setCell (by simp <;> omega) _
end Go.Proofs.YtapfkinpdinbgaaDoor
