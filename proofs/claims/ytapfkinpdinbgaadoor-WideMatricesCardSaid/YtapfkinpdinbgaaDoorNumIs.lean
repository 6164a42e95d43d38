/-
  What a value that is a number says; sums, products, opposites.
-/
import Derived.Test.YtapfkinpdinbgaaDoorCompare
import Derived.Test.YtapfkinpdinbgaaDoorSub
import Derived.Test.YtapfkinpdinbgaaDoorMul
namespace Go.Proofs.YtapfkinpdinbgaaDoor
open Go.RowKit

set_option maxHeartbeats 400000 in
theorem signed_any (neg : Bool) (p : Option Addr) (n c : Nat) (w : World) :
    Calls Tryd.prog 74 #[.bool neg, .slice p n c] w fun e w' => e = .returned (.agg #[.bool (neg && decide (0 < n)), .slice p n c]) ∧ Below w.heap.size w w' := by
  cases neg
  · go_enter Tryd.func74, Tryd.ntmps74
    go_wp2
    refine bodyPost_ret (v := .agg #[.bool false, .slice p n c]) (by simp [results, Tryd.results74, go_sem]) rfl ⟨rfl, (Below.refl _ _).alloc (Nat.le_refl _) _⟩
  · by_cases h : 0 < n
    · have hd : decide (0 < n) = true := by simpa using h
      go_enter Tryd.func74, Tryd.ntmps74
      go_wp2
      refine bodyPost_ret (v := .agg #[.bool true, .slice p n c]) (by simp [results, Tryd.results74, go_sem]) rfl ⟨by simp [hd], (Below.refl _ _).alloc (Nat.le_refl _) _⟩
    · have hd : decide (0 < n) = false := by simpa using h
      go_enter Tryd.func74, Tryd.ntmps74
      go_wp2
      refine bodyPost_ret (v := .agg #[.bool false, .slice p n c]) (by simp [results, Tryd.results74, go_sem]) rfl ⟨by simp [hd], (Below.refl _ _).alloc (Nat.le_refl _) _⟩

theorem Rd.setOther {k : IntKind} {w : World} {p : Option Addr} {n : Nat} {xs : List Nat} (h : Rd k w p n xs) {b o : Nat} {u : Value} (hu : w.cell? ⟨b, o, none⟩ = some u) (hne : ∀ x, u ≠ .int k x) (v : Value) : Rd k (w.setCell ⟨b, o, none⟩ v) p n xs := by
  refine ⟨h.1, fun i hi => ?_⟩
  obtain ⟨b', off, hp, hlt, hc⟩ := h.2 i hi
  refine ⟨b', off, hp, by simpa using hlt, ?_⟩
  rw [World.cell?_setCell_other _ _ _ _ (fun e => ?_)]
  · exact hc
  · rw [e] at hu; rw [hu] at hc; exact hne _ (Option.some.inj hc)

theorem Rd.drew {k : IntKind} {w : World} {p : Option Addr} {n : Nat} {xs : List Nat} (h : Rd k w p n xs) : Rd k w.drew p n xs := h

theorem two_set {W : World} {B : Nat} {u0 u1 : Value} (v0 v1 : Value) (h0 : W.cell? ⟨B, 0, none⟩ = some u0) (h1 : W.cell? ⟨B, 1, none⟩ = some u1) :
    ((W.setCell ⟨B, 0, none⟩ v0).setCell ⟨B, 1, none⟩ v1).cell? ⟨B, 0, none⟩ = some v0 ∧ ((W.setCell ⟨B, 0, none⟩ v0).setCell ⟨B, 1, none⟩ v1).cell? ⟨B, 1, none⟩ = some v1 ∧ (W.setCell ⟨B, 0, none⟩ v0).cell? ⟨B, 1, none⟩ = some u1 := by
  have h2 : (W.setCell ⟨B, 0, none⟩ v0).cell? ⟨B, 1, none⟩ = some u1 := (World.cell?_setCell_other _ _ _ _ (by simp)).trans h1
  exact ⟨(World.cell?_setCell_other _ _ _ _ (by simp)).trans (World.cell?_setCell_same _ _ _ h0), World.cell?_setCell_same _ _ _ h2, h2⟩

/-- A number written into a new variable of its own. -/
theorem Rd.two_set {W : World} {p : Option Addr} {n : Nat} {xs : List Nat} (h : Rd .u64 W p n xs) {B : Nat} (v0 v1 : Value) (h0 : W.cell? ⟨B, 0, none⟩ = some (.bool false)) (h1 : W.cell? ⟨B, 1, none⟩ = some (.slice none 0 0)) :
    Rd .u64 ((W.setCell ⟨B, 0, none⟩ v0).setCell ⟨B, 1, none⟩ v1) p n xs :=
  (h.setOther h0 (by intro x e; cases e) v0).setOther (Go.Proofs.YtapfkinpdinbgaaDoor.two_set v0 v1 h0 h1).2.2 (by intro x e; cases e) v1

/-- Three variables of the call's own, behind a call. -/
theorem three_kept {W w1 : World} (hb : Below W.heap.size W w1) {B : Nat} (hB : B + 1 + 1 < W.heap.size) :
    (∀ o, w1.cell? ⟨B, o, none⟩ = W.cell? ⟨B, o, none⟩) ∧ (∀ o, w1.cell? ⟨B + 1, o, none⟩ = W.cell? ⟨B + 1, o, none⟩) ∧ (∀ o, w1.cell? ⟨B + 1 + 1, o, none⟩ = W.cell? ⟨B + 1 + 1, o, none⟩) ∧
    (∀ o, w1.frozen? ⟨B, o, none⟩ = W.frozen? ⟨B, o, none⟩) ∧ (∀ o, w1.frozen? ⟨B + 1, o, none⟩ = W.frozen? ⟨B + 1, o, none⟩) ∧ (∀ o, w1.frozen? ⟨B + 1 + 1, o, none⟩ = W.frozen? ⟨B + 1 + 1, o, none⟩) ∧
    B + 1 + 1 < w1.heap.size :=
  ⟨fun o => hb.cell (p := ⟨B, o, none⟩) (by show B < _; omega), fun o => hb.cell (p := ⟨B + 1, o, none⟩) (by show B + 1 < _; omega), fun o => hb.cell (p := ⟨B + 1 + 1, o, none⟩) hB,
   fun o => hb.frozen (p := ⟨B, o, none⟩) (by show B < _; omega), fun o => hb.frozen (p := ⟨B + 1, o, none⟩) (by show B + 1 < _; omega), fun o => hb.frozen (p := ⟨B + 1 + 1, o, none⟩) hB, Nat.lt_of_lt_of_le hB hb.size⟩

/-- What a call hands back: a number's sign and words, new. -/
def NumOut (w : World) (P : Bool → List Nat → Prop) (e : Ending) (w' : World) : Prop :=
  ∃ neg p n c zs, e = .returned (.agg #[.bool neg, .slice p n c]) ∧ Rd .u64 w' p n zs ∧ n ≤ c ∧ Cn BW zs ∧ P neg zs ∧ Below w.heap.size w w'

set_option maxHeartbeats 1000000 in
theorem product_core (a b : Bool) (p q : Option Addr) (n c m d : Nat) (xs ys : List Nat) (w : World) (hn : n ≤ 1000000000) (hm : m ≤ 1000000000)
    (hx : Rd .u64 w p n xs) (hy : Rd .u64 w q m ys) (gx : Dg BW xs) (gy : Dg BW ys) :
    Calls Tryd.prog 52 #[.agg #[.bool a, .slice p n c], .agg #[.bool b, .slice q m d]] w (NumOut w fun neg zs => neg = ((a != b) && decide (0 < zs.length)) ∧ dv BW zs = dv BW xs * dv BW ys) := by
  have hb0 : Below w.heap.size w ((((w.alloc (.cells #[.bool a, .slice p n c] 79)).alloc (.cells #[.bool b, .slice q m d] 79)).alloc (.cells #[.bool false, .slice none 0 0] 79)).drew) :=
    ((((Below.refl _ w).alloc (Nat.le_refl _) _).alloc (by simp) _).alloc (by simp <;> omega) _).drew
  have hx1 := hx.below hb0
  have hy1 := hy.below hb0
  go_enter Tryd.func52, Tryd.ntmps52
  go_wp2_with fail

  go_region_held3 (fun w' => w'.cell? ⟨w.heap.size, 0, none⟩ = some (.bool a) ∧ w'.cell? ⟨w.heap.size, 1, none⟩ = some (.slice p n c) ∧ w'.cell? ⟨w.heap.size + 1, 0, none⟩ = some (.bool b) ∧ w'.cell? ⟨w.heap.size + 1, 1, none⟩ = some (.slice q m d))
    (simp [go_sem, *])
    (first
      | (go_at_call 75; refine (multiplyWords_any _ _ _ _ _ _ xs ys _ hn hm hx1 hy1 gx gy).mono ?_; rintro e w1 ⟨r, k, cap, zs, rfl, hr, hk, hz, he, hb1⟩; obtain ⟨hc1, hf1⟩ := bcell hb1; have z1 : w.heap.size < w1.heap.size := (by have := hb1.size; simp at this; omega); have z2 : w.heap.size + 1 < w1.heap.size := (by have := hb1.size; simp at this; omega); have z3 : w.heap.size + 1 + 1 < w1.heap.size := (by have := hb1.size; simp at this; omega))
      | (go_at_call 74; refine (signed_any _ _ _ _ _).mono ?_; rintro e w2 ⟨rfl, hb2⟩; obtain ⟨hc2, hf2⟩ := bcell hb2))
  go_wp2
  have q0 : w2.cell? ⟨w.heap.size + 1 + 1, 0, none⟩ = some (.bool false) := by rw [hc2 _ _ z3, hc1 _ _ (by simp)]; simp [go_sem]
  have q1 : w2.cell? ⟨w.heap.size + 1 + 1, 1, none⟩ = some (.slice none 0 0) := by rw [hc2 _ _ z3, hc1 _ _ (by simp)]; simp [go_sem]
  obtain ⟨r0, r1, _⟩ := two_set (.bool (!a == b && decide (0 < k))) (.slice r k cap) q0 q1
  refine bodyPost_ret (v := .agg #[.bool (!a == b && decide (0 < k)), .slice r k cap]) (by simp [results, Tryd.results52, go_sem, r0, r1]) rfl ⟨_, _, _, _, zs, rfl, (hr.below hb2).two_set _ _ q0 q1, hk, hz, ⟨?_, he⟩, ?_⟩
  · rw [hr.1]; rfl
  · exact (((hb0.trans (hb1.mono (by simp <;> omega))).trans (hb2.mono (by omega))).setCell (by simp <;> omega) _).setCell (by simp <;> omega) _
end Go.Proofs.YtapfkinpdinbgaaDoor

namespace Go.Proofs.YtapfkinpdinbgaaDoor
open Go.RowKit

/-- The integer of a sign and words. -/
def sv (neg : Bool) (d : Nat) : Int := if neg then -(d : Int) else (d : Int)

def SumOf (a b : Bool) (xs ys : List Nat) (neg : Bool) (zs : List Nat) : Prop := (neg = true → 0 < zs.length) ∧ sv neg (dv BW zs) = sv a (dv BW xs) + sv b (dv BW ys)

theorem sv_and (neg : Bool) (zs : List Nat) (h : Cn BW zs) : sv (neg && decide (0 < zs.length)) (dv BW zs) = sv neg (dv BW zs) := by
  cases neg
  · rfl
  · by_cases hz : 0 < zs.length
    · simp [hz]
    · have : zs = [] := List.length_eq_zero_iff.1 (by omega)
      subst this; rfl

set_option maxHeartbeats 1000000 in
theorem plus_same (a : Bool) (p q : Option Addr) (n c m d : Nat) (xs ys : List Nat) (w : World) (hn : n ≤ 1000000000) (hm : m ≤ 1000000000)
    (hx : Rd .u64 w p n xs) (hy : Rd .u64 w q m ys) (gx : Cn BW xs) (gy : Cn BW ys) :
    Calls Tryd.prog 70 #[.agg #[.bool a, .slice p n c], .agg #[.bool a, .slice q m d]] w (NumOut w (SumOf a a xs ys)) := by
  have hb0 : Below w.heap.size w ((((w.alloc (.cells #[.bool a, .slice p n c] 79)).alloc (.cells #[.bool a, .slice q m d] 79)).alloc (.cells #[.bool false, .slice none 0 0] 79)).drew) :=
    ((((Below.refl _ w).alloc (Nat.le_refl _) _).alloc (by simp) _).alloc (by simp <;> omega) _).drew
  have hx1 := hx.below hb0
  have hy1 := hy.below hb0
  go_enter Tryd.func70, Tryd.ntmps70
  go_wp2_with fail
  go_region_held3 (fun w' => w'.cell? ⟨w.heap.size, 0, none⟩ = some (.bool a) ∧ w'.cell? ⟨w.heap.size, 1, none⟩ = some (.slice p n c) ∧ w'.cell? ⟨w.heap.size + 1, 1, none⟩ = some (.slice q m d))
    (simp [go_sem, *])
    (first
      | (go_at_call 83; refine (addWords_any _ _ _ _ _ _ xs ys _ hn hm hx1 hy1 gx.1 gy.1).mono ?_; rintro e w1 ⟨r, k, cap, zs, rfl, hr, hk, hz, he, hb1⟩; obtain ⟨hc1, hf1⟩ := bcell hb1; have z1 : w.heap.size < w1.heap.size := (by have := hb1.size; simp at this; omega); have z2 : w.heap.size + 1 < w1.heap.size := (by have := hb1.size; simp at this; omega); have z3 : w.heap.size + 1 + 1 < w1.heap.size := (by have := hb1.size; simp at this; omega))
      | (go_at_call 74; refine (signed_any _ _ _ _ _).mono ?_; rintro e w2 ⟨rfl, hb2⟩; obtain ⟨hc2, hf2⟩ := bcell hb2))
  go_wp2
  have q0 : w2.cell? ⟨w.heap.size + 1 + 1, 0, none⟩ = some (.bool false) := by rw [hc2 _ _ z3, hc1 _ _ (by simp)]; simp [go_sem]
  have q1 : w2.cell? ⟨w.heap.size + 1 + 1, 1, none⟩ = some (.slice none 0 0) := by rw [hc2 _ _ z3, hc1 _ _ (by simp)]; simp [go_sem]
  obtain ⟨r0, r1, _⟩ := two_set (.bool (a && decide (0 < k))) (.slice r k cap) q0 q1
  refine bodyPost_ret (v := .agg #[.bool (a && decide (0 < k)), .slice r k cap]) (by simp [results, Tryd.results70, go_sem, r0, r1]) rfl ⟨_, _, _, _, zs, rfl, (hr.below hb2).two_set _ _ q0 q1, hk, hz, ⟨?_, ?_⟩, ?_⟩
  · rw [hr.1]; simp
  · rw [← hr.1, sv_and _ _ hz, he]; cases a <;> simp [sv] <;> omega
  · exact (((hb0.trans (hb1.mono (by simp <;> omega))).trans (hb2.mono (by omega))).setCell (by simp <;> omega) _).setCell (by simp <;> omega) _

set_option maxHeartbeats 2000000 in
theorem plus_ge (a b : Bool) (p q : Option Addr) (n c m d : Nat) (xs ys : List Nat) (w : World) (hn : n ≤ 1000000000) (hm : m ≤ 1000000000)
    (hx : Rd .u64 w p n xs) (hy : Rd .u64 w q m ys) (gx : Cn BW xs) (gy : Cn BW ys) (hab : a ≠ b) (hle : dv BW ys ≤ dv BW xs) :
    Calls Tryd.prog 70 #[.agg #[.bool a, .slice p n c], .agg #[.bool b, .slice q m d]] w (NumOut w (SumOf a b xs ys)) := by
  have hb0 : Below w.heap.size w (((w.alloc (.cells #[.bool a, .slice p n c] 79)).alloc (.cells #[.bool b, .slice q m d] 79)).alloc (.cells #[.bool false, .slice none 0 0] 79)) :=
    (((Below.refl _ w).alloc (Nat.le_refl _) _).alloc (by simp) _).alloc (by simp <;> omega) _
  have hx1 := hx.below hb0
  have hy1 := hy.below hb0
  have hmn : m ≤ n := by
    rcases Nat.lt_or_ge n m with h | h
    · have := Cn.lt_of_length (b := BW) (by decide) gx.1 gy (by rw [hx.1, hy.1]; exact h); omega
    · exact h
  obtain ⟨s, hs⟩ : ∃ s, sgnCmp (dv BW xs) (dv BW ys) = s := ⟨_, rfl⟩
  have hs0 : 0 ≤ s := by
    rw [← hs]; unfold sgnCmp; split
    · omega
    · split <;> omega
  have HL := Lib.hid hle
  have hba : (a == b) = false := by cases a <;> cases b <;> simp_all
  have HAB := Lib.hid hab
  have y0 : w.heap.size + 1 + 1 < (((w.alloc (.cells #[.bool a, .slice p n c] 79)).alloc (.cells #[.bool b, .slice q m d] 79)).alloc (.cells #[.bool false, .slice none 0 0] 79)).heap.size := by simp
  clear hle hab
  go_enter Tryd.func70, Tryd.ntmps70
  go_wp2_with (go_at_call 78; refine (compareWords_any _ _ _ _ _ _ xs ys _ hn hm hx1 hy1 gx gy).mono ?_; rintro e w1 ⟨rfl, hb1⟩; obtain ⟨k0, k1, k2, l0, l1, l2, y1⟩ := three_kept hb1 y0)
  have hx2 := hx1.below hb1
  have hy2 := hy1.below hb1
  have hx3 := hx2.drew
  have hy3 := hy2.drew
  have y1' : w.heap.size + 1 + 1 < w1.drew.heap.size := y1
  go_region_held3 (fun w' => w'.cell? ⟨w.heap.size, 0, none⟩ = some (.bool a) ∧ w'.cell? ⟨w.heap.size, 1, none⟩ = some (.slice p n c) ∧ w'.cell? ⟨w.heap.size + 1, 1, none⟩ = some (.slice q m d))
    (simp [go_sem, *])
    (first
      | (go_at_call 84; refine (subtractWords_any _ _ _ _ _ _ xs ys _ hn hmn hx3 hy3 gx.1 gy.1 HL.out).mono ?_; rintro e w2 ⟨r, k, cap, zs, rfl, hr, hk, hz, he, hb2⟩; obtain ⟨u0, u1, u2, v0, v1, v2, y2⟩ := three_kept hb2 y1')
      | (go_at_call 74; refine (signed_any _ _ _ _ _).mono ?_; rintro e w3 ⟨rfl, hb3⟩; obtain ⟨s0, s1, s2, t0, t1, t2, y3⟩ := three_kept hb3 y2))
  go_wp2
  have q0 : w3.cell? ⟨w.heap.size + 1 + 1, 0, none⟩ = some (.bool false) := by rw [s2, u2, World.cell?_drew, k2]; simp [go_sem]
  have q1 : w3.cell? ⟨w.heap.size + 1 + 1, 1, none⟩ = some (.slice none 0 0) := by rw [s2, u2, World.cell?_drew, k2]; simp [go_sem]
  obtain ⟨r0, r1, _⟩ := two_set (.bool (a && decide (0 < k))) (.slice r k cap) q0 q1
  refine bodyPost_ret (v := .agg #[.bool (a && decide (0 < k)), .slice r k cap]) (by simp [results, Tryd.results70, go_sem, r0, r1]) rfl ⟨_, _, _, _, zs, rfl, (hr.below hb3).two_set _ _ q0 q1, hk, hz, ⟨?_, ?_⟩, ?_⟩
  · rw [hr.1]; simp
  · rw [← hr.1, sv_and _ _ hz]
    have hab := HAB.out
    cases a <;> cases b <;> simp [sv] at hab ⊢ <;> omega
  · exact ((((hb0.trans (hb1.mono (by simp <;> omega))).drew.trans (hb2.mono (by simp <;> omega))).trans (hb3.mono (by omega))).setCell (by simp <;> omega) _).setCell (by simp <;> omega) _

/-- Two variables of numbers, exchanged. -/
def swapped (w1 : World) (B : Nat) (a b : Bool) (sp sq : Value) : World :=
  (((w1.setCell ⟨B, 0, none⟩ (.bool b)).setCell ⟨B, 1, none⟩ sq).setCell ⟨B + 1, 0, none⟩ (.bool a)).setCell ⟨B + 1, 1, none⟩ sp

theorem swapped_says {w1 : World} {B : Nat} {a b : Bool} {p q : Option Addr} {n c m d : Nat} (h0 : w1.cell? ⟨B, 0, none⟩ = some (.bool a)) (h1 : w1.cell? ⟨B, 1, none⟩ = some (.slice p n c))
    (k0 : w1.cell? ⟨B + 1, 0, none⟩ = some (.bool b)) (k1 : w1.cell? ⟨B + 1, 1, none⟩ = some (.slice q m d)) {W : World} (hW : swapped w1 B a b (.slice p n c) (.slice q m d) = W) :
    W.cell? ⟨B, 0, none⟩ = some (.bool b) ∧ W.cell? ⟨B, 1, none⟩ = some (.slice q m d) ∧ W.cell? ⟨B + 1, 1, none⟩ = some (.slice p n c) ∧
    (∀ o, W.cell? ⟨B + 1 + 1, o, none⟩ = w1.cell? ⟨B + 1 + 1, o, none⟩) ∧ (∀ o, W.frozen? ⟨B + 1 + 1, o, none⟩ = w1.frozen? ⟨B + 1 + 1, o, none⟩) ∧ W.heap.size = w1.heap.size ∧
    (∀ r k xs, Rd .u64 w1 r k xs → Rd .u64 W r k xs) ∧ (∀ C, C ≤ B → Below C w1 W) := by
  subst hW
  have g1 : (w1.setCell ⟨B, 0, none⟩ (.bool b)).cell? ⟨B, 1, none⟩ = some (.slice p n c) := (World.cell?_setCell_other _ _ _ _ (by simp)).trans h1
  have g2 : ((w1.setCell ⟨B, 0, none⟩ (.bool b)).setCell ⟨B, 1, none⟩ (.slice q m d)).cell? ⟨B + 1, 0, none⟩ = some (.bool b) := (World.cell?_setCell_other _ _ _ _ (by simp)).trans ((World.cell?_setCell_other _ _ _ _ (by simp)).trans k0)
  have g3 : (((w1.setCell ⟨B, 0, none⟩ (.bool b)).setCell ⟨B, 1, none⟩ (.slice q m d)).setCell ⟨B + 1, 0, none⟩ (.bool a)).cell? ⟨B + 1, 1, none⟩ = some (.slice q m d) :=
    (World.cell?_setCell_other _ _ _ _ (by simp)).trans ((World.cell?_setCell_other _ _ _ _ (by simp)).trans ((World.cell?_setCell_other _ _ _ _ (by simp)).trans k1))
  unfold swapped
  refine ⟨?_, ?_, ?_, ?_, ?_, by simp, ?_, ?_⟩
  · exact (World.cell?_setCell_other _ _ _ _ (by simp)).trans ((World.cell?_setCell_other _ _ _ _ (by simp)).trans ((World.cell?_setCell_other _ _ _ _ (by simp)).trans (World.cell?_setCell_same _ _ _ h0)))
  · exact (World.cell?_setCell_other _ _ _ _ (by simp)).trans ((World.cell?_setCell_other _ _ _ _ (by simp)).trans (World.cell?_setCell_same _ _ _ g1))
  · exact World.cell?_setCell_same _ _ _ g3
  · intro o
    exact (World.cell?_setCell_other _ _ _ _ (by simp)).trans ((World.cell?_setCell_other _ _ _ _ (by simp)).trans ((World.cell?_setCell_other _ _ _ _ (by simp <;> omega)).trans (World.cell?_setCell_other _ _ _ _ (by simp <;> omega))))
  · intro o; simp
  · intro r k xs h
    exact (((h.setOther h0 (by intro x e; cases e) _).setOther g1 (by intro x e; cases e) _).setOther g2 (by intro x e; cases e) _).setOther g3 (by intro x e; cases e) _
  · intro C hC
    exact ((((Below.refl C w1).setCell (by simpa using hC) _).setCell (by simpa using hC) _).setCell (by simp <;> omega) _).setCell (by simp <;> omega) _

set_option maxHeartbeats 2000000 in
theorem plus_lt (a b : Bool) (p q : Option Addr) (n c m d : Nat) (xs ys : List Nat) (w : World) (hn : n ≤ 1000000000) (hm : m ≤ 1000000000)
    (hx : Rd .u64 w p n xs) (hy : Rd .u64 w q m ys) (gx : Cn BW xs) (gy : Cn BW ys) (hab : a ≠ b) (hle : dv BW xs < dv BW ys) :
    Calls Tryd.prog 70 #[.agg #[.bool a, .slice p n c], .agg #[.bool b, .slice q m d]] w (NumOut w (SumOf a b xs ys)) := by
  have hb0 : Below w.heap.size w (((w.alloc (.cells #[.bool a, .slice p n c] 79)).alloc (.cells #[.bool b, .slice q m d] 79)).alloc (.cells #[.bool false, .slice none 0 0] 79)) :=
    (((Below.refl _ w).alloc (Nat.le_refl _) _).alloc (by simp) _).alloc (by simp <;> omega) _
  have hx1 := hx.below hb0
  have hy1 := hy.below hb0
  have hmn : n ≤ m := by
    rcases Nat.lt_or_ge m n with h | h
    · have := Cn.lt_of_length (b := BW) (by decide) gy.1 gx (by rw [hy.1, hx.1]; exact h); omega
    · exact h
  have hs : sgnCmp (dv BW xs) (dv BW ys) = -1 := sgnCmp_lt (by omega)
  have HL := Lib.hid (Nat.le_of_lt hle)
  have hba : (a == b) = false := by cases a <;> cases b <;> simp_all
  have HAB := Lib.hid hab
  have y0 : w.heap.size + 1 + 1 < (((w.alloc (.cells #[.bool a, .slice p n c] 79)).alloc (.cells #[.bool b, .slice q m d] 79)).alloc (.cells #[.bool false, .slice none 0 0] 79)).heap.size := by simp
  clear hle hab
  go_enter Tryd.func70, Tryd.ntmps70
  go_wp2_with (go_at_call 78; refine (compareWords_any _ _ _ _ _ _ xs ys _ hn hm hx1 hy1 gx gy).mono ?_; rintro e w1 ⟨rfl, hb1⟩; obtain ⟨k0, k1, k2, l0, l1, l2, y1⟩ := three_kept hb1 y0)
  have hx2 := hx1.below hb1
  have hy2 := hy1.below hb1
  have m0 : w1.cell? ⟨w.heap.size, 0, none⟩ = some (.bool a) := by rw [k0]; simp [go_sem]
  have m1 : w1.cell? ⟨w.heap.size, 1, none⟩ = some (.slice p n c) := by rw [k0]; simp [go_sem]
  have m2 : w1.cell? ⟨w.heap.size + 1, 0, none⟩ = some (.bool b) := by rw [k1]; simp [go_sem]
  have m3 : w1.cell? ⟨w.heap.size + 1, 1, none⟩ = some (.slice q m d) := by rw [k1]; simp [go_sem]
  have F := @swapped_says w1 w.heap.size a b p q n c m d m0 m1 m2 m3 _ rfl
  unfold swapped at F
  clear m0 m1 m2 m3
  generalize (((w1.setCell ⟨w.heap.size, 0, none⟩ (.bool b)).setCell ⟨w.heap.size, 1, none⟩ (.slice q m d)).setCell ⟨w.heap.size + 1, 0, none⟩ (.bool a)).setCell ⟨w.heap.size + 1, 1, none⟩ (.slice p n c) = W at F ⊢
  obtain ⟨F0, F1, F2, F3, F4, F5, F6, F7⟩ := F
  have hx3 := (F6 _ _ _ hx2).drew
  have hy3 := (F6 _ _ _ hy2).drew
  have hbW := F7 w.heap.size (Nat.le_refl _)
  have y1' : w.heap.size + 1 + 1 < W.drew.heap.size := by show _ < W.heap.size; rw [F5]; exact y1
  clear F5 F6 F7
  go_region_held3 (fun w' => w'.cell? ⟨w.heap.size, 0, none⟩ = some (.bool b) ∧ w'.cell? ⟨w.heap.size, 1, none⟩ = some (.slice q m d) ∧ w'.cell? ⟨w.heap.size + 1, 1, none⟩ = some (.slice p n c))
    (simp [go_sem, *])
    (first
      | (go_at_call 84; refine (subtractWords_any _ _ _ _ _ _ ys xs _ hm hmn hy3 hx3 gy.1 gx.1 HL.out).mono ?_; rintro e w2 ⟨r, k, cap, zs, rfl, hr, hk, hz, he, hb2⟩; obtain ⟨u0, u1, u2, v0, v1, v2, y2⟩ := three_kept hb2 y1')
      | (go_at_call 74; refine (signed_any _ _ _ _ _).mono ?_; rintro e w3 ⟨rfl, hb3⟩; obtain ⟨s0, s1, s2, t0, t1, t2, y3⟩ := three_kept hb3 y2))
  go_wp2
  have q0 : w3.cell? ⟨w.heap.size + 1 + 1, 0, none⟩ = some (.bool false) := by rw [s2, u2, World.cell?_drew, F3, k2]; simp [go_sem]
  have q1 : w3.cell? ⟨w.heap.size + 1 + 1, 1, none⟩ = some (.slice none 0 0) := by rw [s2, u2, World.cell?_drew, F3, k2]; simp [go_sem]
  obtain ⟨r0, r1, _⟩ := two_set (.bool (b && decide (0 < k))) (.slice r k cap) q0 q1
  refine bodyPost_ret (v := .agg #[.bool (b && decide (0 < k)), .slice r k cap]) (by simp [results, Tryd.results70, go_sem, r0, r1]) rfl ⟨_, _, _, _, zs, rfl, (hr.below hb3).two_set _ _ q0 q1, hk, hz, ⟨?_, ?_⟩, ?_⟩
  · rw [hr.1]; simp
  · rw [← hr.1, sv_and _ _ hz]
    have hab := HAB.out
    cases a <;> cases b <;> simp [sv] at hab ⊢ <;> omega
  · exact (((((hb0.trans (hb1.mono (by simp <;> omega))).trans hbW).drew.trans (hb2.mono (by omega))).trans (hb3.mono (by omega))).setCell (by simp <;> omega) _).setCell (by simp <;> omega) _

/-- x + y. -/
theorem plus_any (a b : Bool) (p q : Option Addr) (n c m d : Nat) (xs ys : List Nat) (w : World) (hn : n ≤ 1000000000) (hm : m ≤ 1000000000)
    (hx : Rd .u64 w p n xs) (hy : Rd .u64 w q m ys) (gx : Cn BW xs) (gy : Cn BW ys) :
    Calls Tryd.prog 70 #[.agg #[.bool a, .slice p n c], .agg #[.bool b, .slice q m d]] w (NumOut w (SumOf a b xs ys)) := by
  by_cases h : a = b
  · subst h; exact plus_same a p q n c m d xs ys w hn hm hx hy gx gy
  · by_cases h2 : dv BW ys ≤ dv BW xs
    · exact plus_ge a b p q n c m d xs ys w hn hm hx hy gx gy h h2
    · exact plus_lt a b p q n c m d xs ys w hn hm hx hy gx gy h (by omega)

end Go.Proofs.YtapfkinpdinbgaaDoor

namespace Go.Proofs.YtapfkinpdinbgaaDoor
open Go.RowKit

/-- A sign and a slice of words say the integer z; the words are at most L. -/
structure NumIs (w : World) (neg : Bool) (p : Option Addr) (n c : Nat) (xs : List Nat) (z : Int) (L : Nat) : Prop where
  rd : Rd .u64 w p n xs
  cap : n ≤ c
  len : n ≤ L
  cn : Cn BW xs
  pos : neg = true → 0 < n
  val : z = sv neg (dv BW xs)

/-- What a call hands back: a number. -/
def NumV (w : World) (z : Int) (L : Nat) (e : Ending) (w' : World) : Prop :=
  ∃ neg p n c xs, e = .returned (.agg #[.bool neg, .slice p n c]) ∧ NumIs w' neg p n c xs z L ∧ Below w.heap.size w w'

theorem NumIs.below {w w' : World} {neg : Bool} {p : Option Addr} {n c : Nat} {xs : List Nat} {z : Int} {L : Nat} (h : NumIs w neg p n c xs z L) (hb : Below w.heap.size w w') : NumIs w' neg p n c xs z L :=
  { h with rd := h.rd.below hb }

theorem NumIs.mono {w : World} {neg : Bool} {p : Option Addr} {n c : Nat} {xs : List Nat} {z : Int} {L M : Nat} (h : NumIs w neg p n c xs z L) (hM : L ≤ M) : NumIs w neg p n c xs z M :=
  { h with len := Nat.le_trans h.len hM }

theorem sv_natAbs (neg : Bool) (d : Nat) : (sv neg d).natAbs = d := by cases neg <;> simp [sv]

theorem NumIs.small {w : World} {neg : Bool} {p : Option Addr} {n c : Nat} {xs : List Nat} {z : Int} {L : Nat} (h : NumIs w neg p n c xs z L) : z.natAbs < BW ^ L := by
  rw [h.val, sv_natAbs]
  have h1 := dv_lt h.cn.1
  rw [h.rd.1] at h1
  exact Nat.lt_of_lt_of_le h1 (Nat.pow_le_pow_right (by decide) h.len)

theorem NumIs.mk' {w : World} {neg : Bool} {p : Option Addr} {n c : Nat} {xs : List Nat} {z : Int} {L : Nat} (rd : Rd .u64 w p n xs) (cap : n ≤ c) (cn : Cn BW xs) (pos : neg = true → 0 < xs.length) (val : sv neg (dv BW xs) = z) (hs : z.natAbs < BW ^ L) : NumIs w neg p n c xs z L where
  rd := rd
  cap := cap
  len := by rw [← rd.1]; exact cn.length_le (by decide) (by rw [← val, sv_natAbs] at hs; exact hs)
  cn := cn
  pos := by rw [← rd.1]; exact pos
  val := val.symm

theorem small_add {a b : Int} {L M : Nat} (ha : a.natAbs < BW ^ L) (hb : b.natAbs < BW ^ M) : (a + b).natAbs < BW ^ (max L M + 1) := by
  have h1 := Nat.pow_le_pow_right (n := BW) (by decide) (Nat.le_max_left L M)
  have h2 := Nat.pow_le_pow_right (n := BW) (by decide) (Nat.le_max_right L M)
  have h3 : BW ^ (max L M + 1) = BW ^ max L M * BW := Nat.pow_succ ..
  have h4 : BW ^ max L M * 2 ≤ BW ^ max L M * BW := Nat.mul_le_mul_left _ (by decide)
  have h5 := Int.natAbs_add_le a b
  omega

theorem small_mul {a b : Int} {L M : Nat} (ha : a.natAbs < BW ^ L) (hb : b.natAbs < BW ^ M) : (a * b).natAbs < BW ^ (L + M) := by
  rw [Int.natAbs_mul, Nat.pow_add]
  exact Nat.mul_lt_mul_of_lt_of_lt ha hb

theorem plus_num {a b : Bool} {p q : Option Addr} {n c m d : Nat} {xs ys : List Nat} {x y : Int} {L M : Nat} {w : World} (hx : NumIs w a p n c xs x L) (hy : NumIs w b q m d ys y M) (hL : L ≤ 1000000000) (hM : M ≤ 1000000000) :
    Calls Tryd.prog 70 #[.agg #[.bool a, .slice p n c], .agg #[.bool b, .slice q m d]] w (NumV w (x + y) (max L M + 1)) := by
  refine (plus_any a b p q n c m d xs ys w (Nat.le_trans hx.len hL) (Nat.le_trans hy.len hM) hx.rd hy.rd hx.cn hy.cn).mono ?_
  rintro e w' ⟨neg, r, k, cap, zs, rfl, hr, hk, hz, ⟨hp, hv⟩, hb⟩
  exact ⟨neg, r, k, cap, zs, rfl, NumIs.mk' hr hk hz hp (by rw [hv, ← hx.val, ← hy.val]) (small_add hx.small hy.small), hb⟩

theorem sv_mul (a b : Bool) (d e : Nat) : sv (a != b) (d * e) = sv a d * sv b e := by
  cases a <;> cases b <;> simp [sv, Int.neg_mul, Int.mul_neg]

theorem product_num {a b : Bool} {p q : Option Addr} {n c m d : Nat} {xs ys : List Nat} {x y : Int} {L M : Nat} {w : World} (hx : NumIs w a p n c xs x L) (hy : NumIs w b q m d ys y M) (hL : L ≤ 1000000000) (hM : M ≤ 1000000000) :
    Calls Tryd.prog 52 #[.agg #[.bool a, .slice p n c], .agg #[.bool b, .slice q m d]] w (NumV w (x * y) (L + M)) := by
  refine (product_core a b p q n c m d xs ys w (Nat.le_trans hx.len hL) (Nat.le_trans hy.len hM) hx.rd hy.rd hx.cn.1 hy.cn.1).mono ?_
  rintro e w' ⟨neg, r, k, cap, zs, rfl, hr, hk, hz, ⟨rfl, hv⟩, hb⟩
  refine ⟨_, r, k, cap, zs, rfl, NumIs.mk' hr hk hz (by simp) ?_ (small_mul hx.small hy.small), hb⟩
  rw [sv_and _ _ hz, hv, sv_mul, ← hx.val, ← hy.val]

set_option maxHeartbeats 400000 in
theorem opposite_num {a : Bool} {p : Option Addr} {n c : Nat} {xs : List Nat} {x : Int} {L : Nat} {w : World} (hx : NumIs w a p n c xs x L) :
    Calls Tryd.prog 51 #[.agg #[.bool a, .slice p n c]] w (NumV w (-x) L) := by
  have hb0 : Below w.heap.size w ((w.alloc (.cells #[.bool a, .slice p n c] 79)).alloc (.cells #[.bool false, .slice none 0 0] 79)) :=
    ((Below.refl _ w).alloc (Nat.le_refl _) _).alloc (by simp) _
  have hx1 := hx.below hb0
  have y0 : w.heap.size + 1 < ((w.alloc (.cells #[.bool a, .slice p n c] 79)).alloc (.cells #[.bool false, .slice none 0 0] 79)).heap.size := by simp
  go_enter Tryd.func51, Tryd.ntmps51
  go_wp2_with (go_at_call 74; refine (signed_any _ _ _ _ _).mono ?_; rintro e w1 ⟨rfl, hb1⟩; obtain ⟨hc1, hf1⟩ := bcell hb1)
  have q0 : w1.cell? ⟨w.heap.size + 1, 0, none⟩ = some (.bool false) := by rw [hc1 _ _ y0]; simp [go_sem]
  have q1 : w1.cell? ⟨w.heap.size + 1, 1, none⟩ = some (.slice none 0 0) := by rw [hc1 _ _ y0]; simp [go_sem]
  obtain ⟨r0, r1, _⟩ := two_set (.bool (!a && decide (0 < n))) (.slice p n c) q0 q1
  refine bodyPost_ret (v := .agg #[.bool (!a && decide (0 < n)), .slice p n c]) (by simp [results, Tryd.results51, go_sem, r0, r1]) rfl ⟨_, _, _, _, xs, rfl, NumIs.mk' ((hx1.rd.below hb1).two_set _ _ q0 q1) hx.cap hx.cn ?_ ?_ ?_, ?_⟩
  · rw [hx.rd.1]; simp
  · rw [← hx.rd.1, sv_and _ _ hx.cn, hx.val]; cases a <;> simp [sv]
  · rw [Int.natAbs_neg]; exact hx.small
  · exact ((hb0.trans (hb1.mono (by simp <;> omega))).setCell (by simp) _).setCell (by simp) _

end Go.Proofs.YtapfkinpdinbgaaDoor
