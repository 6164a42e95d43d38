/-
  What a value that is a number says; sums, products, opposites; A number is read from its string; How many digits a number has; strconv.FormatUint at base 10.
-/
import Derived.Lib.ItoaMem
import Derived.Lib.ItoaLen
import Derived.Test.YtimcbmgmngkagaaDoorShelf
import Derived.Test.YtimcbmgmngkagaaDoorK1
import Derived.Test.YtimcbmgmngkagaaDoorK3
namespace Go.Proofs.YtimcbmgmngkagaaDoor
open Go.RowKit

set_option maxHeartbeats 400000 in
theorem signed_any (neg : Bool) (p : Option Addr) (n c : Nat) (w : World) :
    Calls Tryd.prog 39 #[.bool neg, .slice p n c] w fun e w' => e = .returned (.agg #[.bool (neg && decide (0 < n)), .slice p n c]) ∧ Below w.heap.size w w' := by
  cases neg
  · go_enter Tryd.func39, Tryd.ntmps39
    go_wp2
    refine bodyPost_ret (v := .agg #[.bool false, .slice p n c]) (by simp [results, Tryd.results39, go_sem]) rfl ⟨rfl, (Below.refl _ _).alloc (Nat.le_refl _) _⟩
  · by_cases h : 0 < n
    · have hd : decide (0 < n) = true := by simpa using h
      go_enter Tryd.func39, Tryd.ntmps39
      go_wp2
      refine bodyPost_ret (v := .agg #[.bool true, .slice p n c]) (by simp [results, Tryd.results39, go_sem]) rfl ⟨by simp [hd], (Below.refl _ _).alloc (Nat.le_refl _) _⟩
    · have hd : decide (0 < n) = false := by simpa using h
      go_enter Tryd.func39, Tryd.ntmps39
      go_wp2
      refine bodyPost_ret (v := .agg #[.bool false, .slice p n c]) (by simp [results, Tryd.results39, go_sem]) rfl ⟨by simp [hd], (Below.refl _ _).alloc (Nat.le_refl _) _⟩

theorem Rd.setOther {k : IntKind} {w : World} {p : Option Addr} {n : Nat} {xs : List Nat} (h : Rd k w p n xs) {b o : Nat} {u : Value} (hu : w.cell? ⟨b, o, none⟩ = some u) (hne : ∀ x, u ≠ .int k x) (v : Value) : Rd k (w.setCell ⟨b, o, none⟩ v) p n xs := by
  refine ⟨h.1, fun i hi => ?_⟩
  obtain ⟨b', off, hp, hlt, hc⟩ := h.2 i hi
  refine ⟨b', off, hp, by simpa using hlt, ?_⟩
  rw [World.cell?_setCell_other _ _ _ _ (fun e => ?_)]
  · exact hc
  · rw [e] at hu; rw [hu] at hc; exact hne _ (Option.some.inj hc)

theorem Rd.drew {k : IntKind} {w : World} {p : Option Addr} {n : Nat} {xs : List Nat} (h : Rd k w p n xs) : Rd k w.drew p n xs := h

theorem two_set {W : World} {B : Nat} {u0 u1 : Value} (v0 v1 : Value) (h0 : W.cell? ⟨B, 0, none⟩ = some u0) (h1 : W.cell? ⟨B, 1, none⟩ = some u1) :
    ((W.setCell ⟨B, 0, none⟩ v0).setCell ⟨B, 1, none⟩ v1).cell? ⟨B, 0, none⟩ = some v0 ∧ ((W.setCell ⟨B, 0, none⟩ v0).setCell ⟨B, 1, none⟩ v1).cell? ⟨B, 1, none⟩ = some v1 ∧ (W.setCell ⟨B, 0, none⟩ v0).cell? ⟨B, 1, none⟩ = some u1 := by
  have h2 : (W.setCell ⟨B, 0, none⟩ v0).cell? ⟨B, 1, none⟩ = some u1 := (World.cell?_setCell_other _ _ _ _ (by simp)).trans h1
  exact ⟨(World.cell?_setCell_other _ _ _ _ (by simp)).trans (World.cell?_setCell_same _ _ _ h0), World.cell?_setCell_same _ _ _ h2, h2⟩

/-- A number written into a new variable of its own. -/
theorem Rd.two_set {W : World} {p : Option Addr} {n : Nat} {xs : List Nat} (h : Rd .u64 W p n xs) {B : Nat} (v0 v1 : Value) (h0 : W.cell? ⟨B, 0, none⟩ = some (.bool false)) (h1 : W.cell? ⟨B, 1, none⟩ = some (.slice none 0 0)) :
    Rd .u64 ((W.setCell ⟨B, 0, none⟩ v0).setCell ⟨B, 1, none⟩ v1) p n xs :=
  (h.setOther h0 (by intro x e; cases e) v0).setOther (Go.Proofs.YtimcbmgmngkagaaDoor.two_set v0 v1 h0 h1).2.2 (by intro x e; cases e) v1

/-- Three variables of the call's own, behind a call. -/
theorem three_kept {W w1 : World} (hb : Below W.heap.size W w1) {B : Nat} (hB : B + 1 + 1 < W.heap.size) :
    (∀ o, w1.cell? ⟨B, o, none⟩ = W.cell? ⟨B, o, none⟩) ∧ (∀ o, w1.cell? ⟨B + 1, o, none⟩ = W.cell? ⟨B + 1, o, none⟩) ∧ (∀ o, w1.cell? ⟨B + 1 + 1, o, none⟩ = W.cell? ⟨B + 1 + 1, o, none⟩) ∧
    (∀ o, w1.frozen? ⟨B, o, none⟩ = W.frozen? ⟨B, o, none⟩) ∧ (∀ o, w1.frozen? ⟨B + 1, o, none⟩ = W.frozen? ⟨B + 1, o, none⟩) ∧ (∀ o, w1.frozen? ⟨B + 1 + 1, o, none⟩ = W.frozen? ⟨B + 1 + 1, o, none⟩) ∧
    B + 1 + 1 < w1.heap.size :=
  ⟨fun o => hb.cell (p := ⟨B, o, none⟩) (by show B < _; omega), fun o => hb.cell (p := ⟨B + 1, o, none⟩) (by show B + 1 < _; omega), fun o => hb.cell (p := ⟨B + 1 + 1, o, none⟩) hB,
   fun o => hb.frozen (p := ⟨B, o, none⟩) (by show B < _; omega), fun o => hb.frozen (p := ⟨B + 1, o, none⟩) (by show B + 1 < _; omega), fun o => hb.frozen (p := ⟨B + 1 + 1, o, none⟩) hB, Nat.lt_of_lt_of_le hB hb.size⟩

/-- What a call hands back: a number's sign and words, new. -/
def NumOut (w : World) (P : Bool → List Nat → Prop) (e : Ending) (w' : World) : Prop :=
  ∃ neg p n c zs, e = .returned (.agg #[.bool neg, .slice p n c]) ∧ Rd .u64 w' p n zs ∧ n ≤ c ∧ Cn BW zs ∧ P neg zs ∧ Below w.heap.size w w'

set_option maxHeartbeats 1000000 in
theorem product_core (a b : Bool) (p q : Option Addr) (n c m d : Nat) (xs ys : List Nat) (w : World) (hn : n ≤ 1000000000) (hm : m ≤ 1000000000)
    (hx : Rd .u64 w p n xs) (hy : Rd .u64 w q m ys) (gx : Dg BW xs) (gy : Dg BW ys) :
    Calls Tryd.prog 21 #[.agg #[.bool a, .slice p n c], .agg #[.bool b, .slice q m d]] w (NumOut w fun neg zs => neg = ((a != b) && decide (0 < zs.length)) ∧ dv BW zs = dv BW xs * dv BW ys) := by
  have hb0 : Below w.heap.size w ((((w.alloc (.cells #[.bool a, .slice p n c] 47)).alloc (.cells #[.bool b, .slice q m d] 47)).alloc (.cells #[.bool false, .slice none 0 0] 47)).drew) :=
    ((((Below.refl _ w).alloc (Nat.le_refl _) _).alloc (by simp) _).alloc (by simp <;> omega) _).drew
  have hx1 := hx.below hb0
  have hy1 := hy.below hb0
  go_enter Tryd.func21, Tryd.ntmps21
  go_wp2_with fail

  go_region_held3 (fun w' => w'.cell? ⟨w.heap.size, 0, none⟩ = some (.bool a) ∧ w'.cell? ⟨w.heap.size, 1, none⟩ = some (.slice p n c) ∧ w'.cell? ⟨w.heap.size + 1, 0, none⟩ = some (.bool b) ∧ w'.cell? ⟨w.heap.size + 1, 1, none⟩ = some (.slice q m d))
    (simp [go_sem, *])
    (first
      | (go_at_call 40; refine (multiplyWords_any _ _ _ _ _ _ xs ys _ hn hm hx1 hy1 gx gy).mono ?_; rintro e w1 ⟨r, k, cap, zs, rfl, hr, hk, hz, he, hb1⟩; obtain ⟨hc1, hf1⟩ := bcell hb1; have z1 : w.heap.size < w1.heap.size := (by have := hb1.size; simp at this; omega); have z2 : w.heap.size + 1 < w1.heap.size := (by have := hb1.size; simp at this; omega); have z3 : w.heap.size + 1 + 1 < w1.heap.size := (by have := hb1.size; simp at this; omega))
      | (go_at_call 39; refine (signed_any _ _ _ _ _).mono ?_; rintro e w2 ⟨rfl, hb2⟩; obtain ⟨hc2, hf2⟩ := bcell hb2))
  go_wp2
  have q0 : w2.cell? ⟨w.heap.size + 1 + 1, 0, none⟩ = some (.bool false) := by rw [hc2 _ _ z3, hc1 _ _ (by simp)]; simp [go_sem]
  have q1 : w2.cell? ⟨w.heap.size + 1 + 1, 1, none⟩ = some (.slice none 0 0) := by rw [hc2 _ _ z3, hc1 _ _ (by simp)]; simp [go_sem]
  obtain ⟨r0, r1, _⟩ := two_set (.bool (!a == b && decide (0 < k))) (.slice r k cap) q0 q1
  refine bodyPost_ret (v := .agg #[.bool (!a == b && decide (0 < k)), .slice r k cap]) (by simp [results, Tryd.results21, go_sem, r0, r1]) rfl ⟨_, _, _, _, zs, rfl, (hr.below hb2).two_set _ _ q0 q1, hk, hz, ⟨?_, he⟩, ?_⟩
  · rw [hr.1]; rfl
  · exact (((hb0.trans (hb1.mono (by simp <;> omega))).trans (hb2.mono (by omega))).setCell (by simp <;> omega) _).setCell (by simp <;> omega) _
end Go.Proofs.YtimcbmgmngkagaaDoor

namespace Go.Proofs.YtimcbmgmngkagaaDoor
open Go.RowKit

/-- The integer of a sign and words. -/
def sv (neg : Bool) (d : Nat) : Int := if neg then -(d : Int) else (d : Int)

def SumOf (a b : Bool) (xs ys : List Nat) (neg : Bool) (zs : List Nat) : Prop := (neg = true → 0 < zs.length) ∧ sv neg (dv BW zs) = sv a (dv BW xs) + sv b (dv BW ys)

theorem sv_and (neg : Bool) (zs : List Nat) (h : Cn BW zs) : sv (neg && decide (0 < zs.length)) (dv BW zs) = sv neg (dv BW zs) := by
  cases neg
  · rfl
  · by_cases hz : 0 < zs.length
    · simp [hz]
    · have : zs = [] := List.length_eq_zero_iff.1 (by omega)
      subst this; rfl

set_option maxHeartbeats 1000000 in
theorem plus_same (a : Bool) (p q : Option Addr) (n c m d : Nat) (xs ys : List Nat) (w : World) (hn : n ≤ 1000000000) (hm : m ≤ 1000000000)
    (hx : Rd .u64 w p n xs) (hy : Rd .u64 w q m ys) (gx : Cn BW xs) (gy : Cn BW ys) :
    Calls Tryd.prog 35 #[.agg #[.bool a, .slice p n c], .agg #[.bool a, .slice q m d]] w (NumOut w (SumOf a a xs ys)) := by
  have hb0 : Below w.heap.size w ((((w.alloc (.cells #[.bool a, .slice p n c] 47)).alloc (.cells #[.bool a, .slice q m d] 47)).alloc (.cells #[.bool false, .slice none 0 0] 47)).drew) :=
    ((((Below.refl _ w).alloc (Nat.le_refl _) _).alloc (by simp) _).alloc (by simp <;> omega) _).drew
  have hx1 := hx.below hb0
  have hy1 := hy.below hb0
  go_enter Tryd.func35, Tryd.ntmps35
  go_wp2_with fail
  go_region_held3 (fun w' => w'.cell? ⟨w.heap.size, 0, none⟩ = some (.bool a) ∧ w'.cell? ⟨w.heap.size, 1, none⟩ = some (.slice p n c) ∧ w'.cell? ⟨w.heap.size + 1, 1, none⟩ = some (.slice q m d))
    (simp [go_sem, *])
    (first
      | (go_at_call 42; refine (addWords_any _ _ _ _ _ _ xs ys _ hn hm hx1 hy1 gx.1 gy.1).mono ?_; rintro e w1 ⟨r, k, cap, zs, rfl, hr, hk, hz, he, hb1⟩; obtain ⟨hc1, hf1⟩ := bcell hb1; have z1 : w.heap.size < w1.heap.size := (by have := hb1.size; simp at this; omega); have z2 : w.heap.size + 1 < w1.heap.size := (by have := hb1.size; simp at this; omega); have z3 : w.heap.size + 1 + 1 < w1.heap.size := (by have := hb1.size; simp at this; omega))
      | (go_at_call 39; refine (signed_any _ _ _ _ _).mono ?_; rintro e w2 ⟨rfl, hb2⟩; obtain ⟨hc2, hf2⟩ := bcell hb2))
  go_wp2
  have q0 : w2.cell? ⟨w.heap.size + 1 + 1, 0, none⟩ = some (.bool false) := by rw [hc2 _ _ z3, hc1 _ _ (by simp)]; simp [go_sem]
  have q1 : w2.cell? ⟨w.heap.size + 1 + 1, 1, none⟩ = some (.slice none 0 0) := by rw [hc2 _ _ z3, hc1 _ _ (by simp)]; simp [go_sem]
  obtain ⟨r0, r1, _⟩ := two_set (.bool (a && decide (0 < k))) (.slice r k cap) q0 q1
  refine bodyPost_ret (v := .agg #[.bool (a && decide (0 < k)), .slice r k cap]) (by simp [results, Tryd.results35, go_sem, r0, r1]) rfl ⟨_, _, _, _, zs, rfl, (hr.below hb2).two_set _ _ q0 q1, hk, hz, ⟨?_, ?_⟩, ?_⟩
  · rw [hr.1]; simp
  · rw [← hr.1, sv_and _ _ hz, he]; cases a <;> simp [sv] <;> omega
  · exact (((hb0.trans (hb1.mono (by simp <;> omega))).trans (hb2.mono (by omega))).setCell (by simp <;> omega) _).setCell (by simp <;> omega) _

set_option maxHeartbeats 2000000 in
theorem plus_ge (a b : Bool) (p q : Option Addr) (n c m d : Nat) (xs ys : List Nat) (w : World) (hn : n ≤ 1000000000) (hm : m ≤ 1000000000)
    (hx : Rd .u64 w p n xs) (hy : Rd .u64 w q m ys) (gx : Cn BW xs) (gy : Cn BW ys) (hab : a ≠ b) (hle : dv BW ys ≤ dv BW xs) :
    Calls Tryd.prog 35 #[.agg #[.bool a, .slice p n c], .agg #[.bool b, .slice q m d]] w (NumOut w (SumOf a b xs ys)) := by
  have hb0 : Below w.heap.size w (((w.alloc (.cells #[.bool a, .slice p n c] 47)).alloc (.cells #[.bool b, .slice q m d] 47)).alloc (.cells #[.bool false, .slice none 0 0] 47)) :=
    (((Below.refl _ w).alloc (Nat.le_refl _) _).alloc (by simp) _).alloc (by simp <;> omega) _
  have hx1 := hx.below hb0
  have hy1 := hy.below hb0
  have hmn : m ≤ n := by
    rcases Nat.lt_or_ge n m with h | h
    · have := Cn.lt_of_length (b := BW) (by decide) gx.1 gy (by rw [hx.1, hy.1]; exact h); omega
    · exact h
  obtain ⟨s, hs⟩ : ∃ s, sgnCmp (dv BW xs) (dv BW ys) = s := ⟨_, rfl⟩
  have hs0 : 0 ≤ s := by
    rw [← hs]; unfold sgnCmp; split
    · omega
    · split <;> omega
  have HL := Lib.hid hle
  have hba : (a == b) = false := by cases a <;> cases b <;> simp_all
  have HAB := Lib.hid hab
  have y0 : w.heap.size + 1 + 1 < (((w.alloc (.cells #[.bool a, .slice p n c] 47)).alloc (.cells #[.bool b, .slice q m d] 47)).alloc (.cells #[.bool false, .slice none 0 0] 47)).heap.size := by simp
  clear hle hab
  go_enter Tryd.func35, Tryd.ntmps35
  go_wp2_with (go_at_call 49; refine (compareWords_any _ _ _ _ _ _ xs ys _ hn hm hx1 hy1 gx gy).mono ?_; rintro e w1 ⟨rfl, hb1⟩; obtain ⟨k0, k1, k2, l0, l1, l2, y1⟩ := three_kept hb1 y0)
  have hx2 := hx1.below hb1
  have hy2 := hy1.below hb1
  have hx3 := hx2.drew
  have hy3 := hy2.drew
  have y1' : w.heap.size + 1 + 1 < w1.drew.heap.size := y1
  go_region_held3 (fun w' => w'.cell? ⟨w.heap.size, 0, none⟩ = some (.bool a) ∧ w'.cell? ⟨w.heap.size, 1, none⟩ = some (.slice p n c) ∧ w'.cell? ⟨w.heap.size + 1, 1, none⟩ = some (.slice q m d))
    (simp [go_sem, *])
    (first
      | (go_at_call 43; refine (subtractWords_any _ _ _ _ _ _ xs ys _ hn hmn hx3 hy3 gx.1 gy.1 HL.out).mono ?_; rintro e w2 ⟨r, k, cap, zs, rfl, hr, hk, hz, he, hb2⟩; obtain ⟨u0, u1, u2, v0, v1, v2, y2⟩ := three_kept hb2 y1')
      | (go_at_call 39; refine (signed_any _ _ _ _ _).mono ?_; rintro e w3 ⟨rfl, hb3⟩; obtain ⟨s0, s1, s2, t0, t1, t2, y3⟩ := three_kept hb3 y2))
  go_wp2
  have q0 : w3.cell? ⟨w.heap.size + 1 + 1, 0, none⟩ = some (.bool false) := by rw [s2, u2, World.cell?_drew, k2]; simp [go_sem]
  have q1 : w3.cell? ⟨w.heap.size + 1 + 1, 1, none⟩ = some (.slice none 0 0) := by rw [s2, u2, World.cell?_drew, k2]; simp [go_sem]
  obtain ⟨r0, r1, _⟩ := two_set (.bool (a && decide (0 < k))) (.slice r k cap) q0 q1
  refine bodyPost_ret (v := .agg #[.bool (a && decide (0 < k)), .slice r k cap]) (by simp [results, Tryd.results35, go_sem, r0, r1]) rfl ⟨_, _, _, _, zs, rfl, (hr.below hb3).two_set _ _ q0 q1, hk, hz, ⟨?_, ?_⟩, ?_⟩
  · rw [hr.1]; simp
  · rw [← hr.1, sv_and _ _ hz]
    have hab := HAB.out
    cases a <;> cases b <;> simp [sv] at hab ⊢ <;> omega
  · exact ((((hb0.trans (hb1.mono (by simp <;> omega))).drew.trans (hb2.mono (by simp <;> omega))).trans (hb3.mono (by omega))).setCell (by simp <;> omega) _).setCell (by simp <;> omega) _

/-- Two variables of numbers, exchanged. -/
def swapped (w1 : World) (B : Nat) (a b : Bool) (sp sq : Value) : World :=
  (((w1.setCell ⟨B, 0, none⟩ (.bool b)).setCell ⟨B, 1, none⟩ sq).setCell ⟨B + 1, 0, none⟩ (.bool a)).setCell ⟨B + 1, 1, none⟩ sp

theorem swapped_says {w1 : World} {B : Nat} {a b : Bool} {p q : Option Addr} {n c m d : Nat} (h0 : w1.cell? ⟨B, 0, none⟩ = some (.bool a)) (h1 : w1.cell? ⟨B, 1, none⟩ = some (.slice p n c))
    (k0 : w1.cell? ⟨B + 1, 0, none⟩ = some (.bool b)) (k1 : w1.cell? ⟨B + 1, 1, none⟩ = some (.slice q m d)) {W : World} (hW : swapped w1 B a b (.slice p n c) (.slice q m d) = W) :
    W.cell? ⟨B, 0, none⟩ = some (.bool b) ∧ W.cell? ⟨B, 1, none⟩ = some (.slice q m d) ∧ W.cell? ⟨B + 1, 1, none⟩ = some (.slice p n c) ∧
    (∀ o, W.cell? ⟨B + 1 + 1, o, none⟩ = w1.cell? ⟨B + 1 + 1, o, none⟩) ∧ (∀ o, W.frozen? ⟨B + 1 + 1, o, none⟩ = w1.frozen? ⟨B + 1 + 1, o, none⟩) ∧ W.heap.size = w1.heap.size ∧
    (∀ r k xs, Rd .u64 w1 r k xs → Rd .u64 W r k xs) ∧ (∀ C, C ≤ B → Below C w1 W) := by
  subst hW
  have g1 : (w1.setCell ⟨B, 0, none⟩ (.bool b)).cell? ⟨B, 1, none⟩ = some (.slice p n c) := (World.cell?_setCell_other _ _ _ _ (by simp)).trans h1
  have g2 : ((w1.setCell ⟨B, 0, none⟩ (.bool b)).setCell ⟨B, 1, none⟩ (.slice q m d)).cell? ⟨B + 1, 0, none⟩ = some (.bool b) := (World.cell?_setCell_other _ _ _ _ (by simp)).trans ((World.cell?_setCell_other _ _ _ _ (by simp)).trans k0)
  have g3 : (((w1.setCell ⟨B, 0, none⟩ (.bool b)).setCell ⟨B, 1, none⟩ (.slice q m d)).setCell ⟨B + 1, 0, none⟩ (.bool a)).cell? ⟨B + 1, 1, none⟩ = some (.slice q m d) :=
    (World.cell?_setCell_other _ _ _ _ (by simp)).trans ((World.cell?_setCell_other _ _ _ _ (by simp)).trans ((World.cell?_setCell_other _ _ _ _ (by simp)).trans k1))
  unfold swapped
  refine ⟨?_, ?_, ?_, ?_, ?_, by simp, ?_, ?_⟩
  · exact (World.cell?_setCell_other _ _ _ _ (by simp)).trans ((World.cell?_setCell_other _ _ _ _ (by simp)).trans ((World.cell?_setCell_other _ _ _ _ (by simp)).trans (World.cell?_setCell_same _ _ _ h0)))
  · exact (World.cell?_setCell_other _ _ _ _ (by simp)).trans ((World.cell?_setCell_other _ _ _ _ (by simp)).trans (World.cell?_setCell_same _ _ _ g1))
  · exact World.cell?_setCell_same _ _ _ g3
  · intro o
    exact (World.cell?_setCell_other _ _ _ _ (by simp)).trans ((World.cell?_setCell_other _ _ _ _ (by simp)).trans ((World.cell?_setCell_other _ _ _ _ (by simp <;> omega)).trans (World.cell?_setCell_other _ _ _ _ (by simp <;> omega))))
  · intro o; simp
  · intro r k xs h
    exact (((h.setOther h0 (by intro x e; cases e) _).setOther g1 (by intro x e; cases e) _).setOther g2 (by intro x e; cases e) _).setOther g3 (by intro x e; cases e) _
  · intro C hC
    exact ((((Below.refl C w1).setCell (by simpa using hC) _).setCell (by simpa using hC) _).setCell (by simp <;> omega) _).setCell (by simp <;> omega) _

set_option maxHeartbeats 2000000 in
theorem plus_lt (a b : Bool) (p q : Option Addr) (n c m d : Nat) (xs ys : List Nat) (w : World) (hn : n ≤ 1000000000) (hm : m ≤ 1000000000)
    (hx : Rd .u64 w p n xs) (hy : Rd .u64 w q m ys) (gx : Cn BW xs) (gy : Cn BW ys) (hab : a ≠ b) (hle : dv BW xs < dv BW ys) :
    Calls Tryd.prog 35 #[.agg #[.bool a, .slice p n c], .agg #[.bool b, .slice q m d]] w (NumOut w (SumOf a b xs ys)) := by
  have hb0 : Below w.heap.size w (((w.alloc (.cells #[.bool a, .slice p n c] 47)).alloc (.cells #[.bool b, .slice q m d] 47)).alloc (.cells #[.bool false, .slice none 0 0] 47)) :=
    (((Below.refl _ w).alloc (Nat.le_refl _) _).alloc (by simp) _).alloc (by simp <;> omega) _
  have hx1 := hx.below hb0
  have hy1 := hy.below hb0
  have hmn : n ≤ m := by
    rcases Nat.lt_or_ge m n with h | h
    · have := Cn.lt_of_length (b := BW) (by decide) gy.1 gx (by rw [hy.1, hx.1]; exact h); omega
    · exact h
  have hs : sgnCmp (dv BW xs) (dv BW ys) = -1 := sgnCmp_lt (by omega)
  have HL := Lib.hid (Nat.le_of_lt hle)
  have hba : (a == b) = false := by cases a <;> cases b <;> simp_all
  have HAB := Lib.hid hab
  have y0 : w.heap.size + 1 + 1 < (((w.alloc (.cells #[.bool a, .slice p n c] 47)).alloc (.cells #[.bool b, .slice q m d] 47)).alloc (.cells #[.bool false, .slice none 0 0] 47)).heap.size := by simp
  clear hle hab
  go_enter Tryd.func35, Tryd.ntmps35
  go_wp2_with (go_at_call 49; refine (compareWords_any _ _ _ _ _ _ xs ys _ hn hm hx1 hy1 gx gy).mono ?_; rintro e w1 ⟨rfl, hb1⟩; obtain ⟨k0, k1, k2, l0, l1, l2, y1⟩ := three_kept hb1 y0)
  have hx2 := hx1.below hb1
  have hy2 := hy1.below hb1
  have m0 : w1.cell? ⟨w.heap.size, 0, none⟩ = some (.bool a) := by rw [k0]; simp [go_sem]
  have m1 : w1.cell? ⟨w.heap.size, 1, none⟩ = some (.slice p n c) := by rw [k0]; simp [go_sem]
  have m2 : w1.cell? ⟨w.heap.size + 1, 0, none⟩ = some (.bool b) := by rw [k1]; simp [go_sem]
  have m3 : w1.cell? ⟨w.heap.size + 1, 1, none⟩ = some (.slice q m d) := by rw [k1]; simp [go_sem]
  have F := @swapped_says w1 w.heap.size a b p q n c m d m0 m1 m2 m3 _ rfl
  unfold swapped at F
  clear m0 m1 m2 m3
  generalize (((w1.setCell ⟨w.heap.size, 0, none⟩ (.bool b)).setCell ⟨w.heap.size, 1, none⟩ (.slice q m d)).setCell ⟨w.heap.size + 1, 0, none⟩ (.bool a)).setCell ⟨w.heap.size + 1, 1, none⟩ (.slice p n c) = W at F ⊢
  obtain ⟨F0, F1, F2, F3, F4, F5, F6, F7⟩ := F
  have hx3 := (F6 _ _ _ hx2).drew
  have hy3 := (F6 _ _ _ hy2).drew
  have hbW := F7 w.heap.size (Nat.le_refl _)
  have y1' : w.heap.size + 1 + 1 < W.drew.heap.size := by show _ < W.heap.size; rw [F5]; exact y1
  clear F5 F6 F7
  go_region_held3 (fun w' => w'.cell? ⟨w.heap.size, 0, none⟩ = some (.bool b) ∧ w'.cell? ⟨w.heap.size, 1, none⟩ = some (.slice q m d) ∧ w'.cell? ⟨w.heap.size + 1, 1, none⟩ = some (.slice p n c))
    (simp [go_sem, *])
    (first
      | (go_at_call 43; refine (subtractWords_any _ _ _ _ _ _ ys xs _ hm hmn hy3 hx3 gy.1 gx.1 HL.out).mono ?_; rintro e w2 ⟨r, k, cap, zs, rfl, hr, hk, hz, he, hb2⟩; obtain ⟨u0, u1, u2, v0, v1, v2, y2⟩ := three_kept hb2 y1')
      | (go_at_call 39; refine (signed_any _ _ _ _ _).mono ?_; rintro e w3 ⟨rfl, hb3⟩; obtain ⟨s0, s1, s2, t0, t1, t2, y3⟩ := three_kept hb3 y2))
  go_wp2
  have q0 : w3.cell? ⟨w.heap.size + 1 + 1, 0, none⟩ = some (.bool false) := by rw [s2, u2, World.cell?_drew, F3, k2]; simp [go_sem]
  have q1 : w3.cell? ⟨w.heap.size + 1 + 1, 1, none⟩ = some (.slice none 0 0) := by rw [s2, u2, World.cell?_drew, F3, k2]; simp [go_sem]
  obtain ⟨r0, r1, _⟩ := two_set (.bool (b && decide (0 < k))) (.slice r k cap) q0 q1
  refine bodyPost_ret (v := .agg #[.bool (b && decide (0 < k)), .slice r k cap]) (by simp [results, Tryd.results35, go_sem, r0, r1]) rfl ⟨_, _, _, _, zs, rfl, (hr.below hb3).two_set _ _ q0 q1, hk, hz, ⟨?_, ?_⟩, ?_⟩
  · rw [hr.1]; simp
  · rw [← hr.1, sv_and _ _ hz]
    have hab := HAB.out
    cases a <;> cases b <;> simp [sv] at hab ⊢ <;> omega
  · exact (((((hb0.trans (hb1.mono (by simp <;> omega))).trans hbW).drew.trans (hb2.mono (by omega))).trans (hb3.mono (by omega))).setCell (by simp <;> omega) _).setCell (by simp <;> omega) _

/-- x + y. -/
theorem plus_any (a b : Bool) (p q : Option Addr) (n c m d : Nat) (xs ys : List Nat) (w : World) (hn : n ≤ 1000000000) (hm : m ≤ 1000000000)
    (hx : Rd .u64 w p n xs) (hy : Rd .u64 w q m ys) (gx : Cn BW xs) (gy : Cn BW ys) :
    Calls Tryd.prog 35 #[.agg #[.bool a, .slice p n c], .agg #[.bool b, .slice q m d]] w (NumOut w (SumOf a b xs ys)) := by
  by_cases h : a = b
  · subst h; exact plus_same a p q n c m d xs ys w hn hm hx hy gx gy
  · by_cases h2 : dv BW ys ≤ dv BW xs
    · exact plus_ge a b p q n c m d xs ys w hn hm hx hy gx gy h h2
    · exact plus_lt a b p q n c m d xs ys w hn hm hx hy gx gy h (by omega)

end Go.Proofs.YtimcbmgmngkagaaDoor

namespace Go.Proofs.YtimcbmgmngkagaaDoor
open Go.RowKit

/-- A sign and a slice of words say the integer z; the words are at most L. -/
structure NumIs (w : World) (neg : Bool) (p : Option Addr) (n c : Nat) (xs : List Nat) (z : Int) (L : Nat) : Prop where
  rd : Rd .u64 w p n xs
  cap : n ≤ c
  len : n ≤ L
  cn : Cn BW xs
  pos : neg = true → 0 < n
  val : z = sv neg (dv BW xs)

/-- What a call hands back: a number. -/
def NumV (w : World) (z : Int) (L : Nat) (e : Ending) (w' : World) : Prop :=
  ∃ neg p n c xs, e = .returned (.agg #[.bool neg, .slice p n c]) ∧ NumIs w' neg p n c xs z L ∧ Below w.heap.size w w'

theorem NumIs.below {w w' : World} {neg : Bool} {p : Option Addr} {n c : Nat} {xs : List Nat} {z : Int} {L : Nat} (h : NumIs w neg p n c xs z L) (hb : Below w.heap.size w w') : NumIs w' neg p n c xs z L :=
  { h with rd := h.rd.below hb }

theorem NumIs.mono {w : World} {neg : Bool} {p : Option Addr} {n c : Nat} {xs : List Nat} {z : Int} {L M : Nat} (h : NumIs w neg p n c xs z L) (hM : L ≤ M) : NumIs w neg p n c xs z M :=
  { h with len := Nat.le_trans h.len hM }

theorem sv_natAbs (neg : Bool) (d : Nat) : (sv neg d).natAbs = d := by cases neg <;> simp [sv]

theorem NumIs.small {w : World} {neg : Bool} {p : Option Addr} {n c : Nat} {xs : List Nat} {z : Int} {L : Nat} (h : NumIs w neg p n c xs z L) : z.natAbs < BW ^ L := by
  rw [h.val, sv_natAbs]
  have h1 := dv_lt h.cn.1
  rw [h.rd.1] at h1
  exact Nat.lt_of_lt_of_le h1 (Nat.pow_le_pow_right (by decide) h.len)

theorem NumIs.mk' {w : World} {neg : Bool} {p : Option Addr} {n c : Nat} {xs : List Nat} {z : Int} {L : Nat} (rd : Rd .u64 w p n xs) (cap : n ≤ c) (cn : Cn BW xs) (pos : neg = true → 0 < xs.length) (val : sv neg (dv BW xs) = z) (hs : z.natAbs < BW ^ L) : NumIs w neg p n c xs z L where
  rd := rd
  cap := cap
  len := by rw [← rd.1]; exact cn.length_le (by decide) (by rw [← val, sv_natAbs] at hs; exact hs)
  cn := cn
  pos := by rw [← rd.1]; exact pos
  val := val.symm

theorem small_add {a b : Int} {L M : Nat} (ha : a.natAbs < BW ^ L) (hb : b.natAbs < BW ^ M) : (a + b).natAbs < BW ^ (max L M + 1) := by
  have h1 := Nat.pow_le_pow_right (n := BW) (by decide) (Nat.le_max_left L M)
  have h2 := Nat.pow_le_pow_right (n := BW) (by decide) (Nat.le_max_right L M)
  have h3 : BW ^ (max L M + 1) = BW ^ max L M * BW := Nat.pow_succ ..
  have h4 : BW ^ max L M * 2 ≤ BW ^ max L M * BW := Nat.mul_le_mul_left _ (by decide)
  have h5 := Int.natAbs_add_le a b
  omega

theorem small_mul {a b : Int} {L M : Nat} (ha : a.natAbs < BW ^ L) (hb : b.natAbs < BW ^ M) : (a * b).natAbs < BW ^ (L + M) := by
  rw [Int.natAbs_mul, Nat.pow_add]
  exact Nat.mul_lt_mul_of_lt_of_lt ha hb

theorem plus_num {a b : Bool} {p q : Option Addr} {n c m d : Nat} {xs ys : List Nat} {x y : Int} {L M : Nat} {w : World} (hx : NumIs w a p n c xs x L) (hy : NumIs w b q m d ys y M) (hL : L ≤ 1000000000) (hM : M ≤ 1000000000) :
    Calls Tryd.prog 35 #[.agg #[.bool a, .slice p n c], .agg #[.bool b, .slice q m d]] w (NumV w (x + y) (max L M + 1)) := by
  refine (plus_any a b p q n c m d xs ys w (Nat.le_trans hx.len hL) (Nat.le_trans hy.len hM) hx.rd hy.rd hx.cn hy.cn).mono ?_
  rintro e w' ⟨neg, r, k, cap, zs, rfl, hr, hk, hz, ⟨hp, hv⟩, hb⟩
  exact ⟨neg, r, k, cap, zs, rfl, NumIs.mk' hr hk hz hp (by rw [hv, ← hx.val, ← hy.val]) (small_add hx.small hy.small), hb⟩

theorem sv_mul (a b : Bool) (d e : Nat) : sv (a != b) (d * e) = sv a d * sv b e := by
  cases a <;> cases b <;> simp [sv, Int.neg_mul, Int.mul_neg]

theorem product_num {a b : Bool} {p q : Option Addr} {n c m d : Nat} {xs ys : List Nat} {x y : Int} {L M : Nat} {w : World} (hx : NumIs w a p n c xs x L) (hy : NumIs w b q m d ys y M) (hL : L ≤ 1000000000) (hM : M ≤ 1000000000) :
    Calls Tryd.prog 21 #[.agg #[.bool a, .slice p n c], .agg #[.bool b, .slice q m d]] w (NumV w (x * y) (L + M)) := by
  refine (product_core a b p q n c m d xs ys w (Nat.le_trans hx.len hL) (Nat.le_trans hy.len hM) hx.rd hy.rd hx.cn.1 hy.cn.1).mono ?_
  rintro e w' ⟨neg, r, k, cap, zs, rfl, hr, hk, hz, ⟨rfl, hv⟩, hb⟩
  refine ⟨_, r, k, cap, zs, rfl, NumIs.mk' hr hk hz (by simp) ?_ (small_mul hx.small hy.small), hb⟩
  rw [sv_and _ _ hz, hv, sv_mul, ← hx.val, ← hy.val]

set_option maxHeartbeats 400000 in
theorem opposite_num {a : Bool} {p : Option Addr} {n c : Nat} {xs : List Nat} {x : Int} {L : Nat} {w : World} (hx : NumIs w a p n c xs x L) :
    Calls Tryd.prog 22 #[.agg #[.bool a, .slice p n c]] w (NumV w (-x) L) := by
  have hb0 : Below w.heap.size w ((w.alloc (.cells #[.bool a, .slice p n c] 47)).alloc (.cells #[.bool false, .slice none 0 0] 47)) :=
    ((Below.refl _ w).alloc (Nat.le_refl _) _).alloc (by simp) _
  have hx1 := hx.below hb0
  have y0 : w.heap.size + 1 < ((w.alloc (.cells #[.bool a, .slice p n c] 47)).alloc (.cells #[.bool false, .slice none 0 0] 47)).heap.size := by simp
  go_enter Tryd.func22, Tryd.ntmps22
  go_wp2_with (go_at_call 39; refine (signed_any _ _ _ _ _).mono ?_; rintro e w1 ⟨rfl, hb1⟩; obtain ⟨hc1, hf1⟩ := bcell hb1)
  have q0 : w1.cell? ⟨w.heap.size + 1, 0, none⟩ = some (.bool false) := by rw [hc1 _ _ y0]; simp [go_sem]
  have q1 : w1.cell? ⟨w.heap.size + 1, 1, none⟩ = some (.slice none 0 0) := by rw [hc1 _ _ y0]; simp [go_sem]
  obtain ⟨r0, r1, _⟩ := two_set (.bool (!a && decide (0 < n))) (.slice p n c) q0 q1
  refine bodyPost_ret (v := .agg #[.bool (!a && decide (0 < n)), .slice p n c]) (by simp [results, Tryd.results22, go_sem, r0, r1]) rfl ⟨_, _, _, _, xs, rfl, NumIs.mk' ((hx1.rd.below hb1).two_set _ _ q0 q1) hx.cap hx.cn ?_ ?_ ?_, ?_⟩
  · rw [hx.rd.1]; simp
  · rw [← hx.rd.1, sv_and _ _ hx.cn, hx.val]; cases a <;> simp [sv]
  · rw [Int.natAbs_neg]; exact hx.small
  · exact ((hb0.trans (hb1.mono (by simp <;> omega))).setCell (by simp) _).setCell (by simp) _

end Go.Proofs.YtimcbmgmngkagaaDoor

namespace Go.Proofs.YtimcbmgmngkagaaDoor
open Go.RowKit

/-- What holds when r digits are still to come: the group of the next one is (r - 1) / 9. -/
def ReadI (ds : List UInt8) (ws : List Nat) (k : Nat) : Prop :=
  ws.length = (ds.length + 8) / 9 ∧ Dg BW ws ∧ k ≤ ds.length ∧
  (k = ds.length → dv BW ws = decV ds) ∧
  (k < ds.length → decV (ds.take k) = ws[(ds.length - k - 1) / 9]?.getD 0 + 10 ^ (9 * ((ds.length - k - 1) / 9 + 1) - (ds.length - k)) * dv BW (ws.drop ((ds.length - k - 1) / 9 + 1)) ∧
    ws[(ds.length - k - 1) / 9]?.getD 0 < 10 ^ (9 * ((ds.length - k - 1) / 9 + 1) - (ds.length - k)) ∧ ∀ t, t < (ds.length - k - 1) / 9 → ws[t]?.getD 0 = 0)

theorem ReadI.start (ds : List UInt8) (h : 0 < ds.length) : ReadI ds (List.replicate ((ds.length + 8) / 9) 0) 0 := by
  refine ⟨by simp, Dg.replicate (by decide) _, Nat.zero_le _, fun e => by omega, fun _ => ⟨?_, ?_, fun t _ => ?_⟩⟩
  · rw [List.drop_of_length_le (by simp; omega)]
    simp only [List.take_zero, decV, List.foldl_nil, dv, Nat.mul_zero, Nat.add_zero]
    rw [List.getElem?_replicate]; split <;> rfl
  · rw [List.getElem?_replicate]
    have : (if (ds.length - 0 - 1) / 9 < (ds.length + 8) / 9 then some 0 else none).getD 0 = 0 := by split <;> rfl
    rw [this]; exact Nat.pow_pos (by decide)
  · rw [List.getElem?_replicate]; split <;> rfl

theorem dv_zeros_below {ws : List Nat} {g : Nat} (h : ∀ t, t < g → ws[t]?.getD 0 = 0) (hg : g ≤ ws.length) : dv BW ws = BW ^ g * dv BW (ws.drop g) := by
  rw [dv_take_drop BW ws g hg]
  have : ws.take g = List.replicate g 0 := by
    apply List.ext_getElem
    · simp [hg]
    · intro i h1 h2
      simp at h1
      have hi : i < ws.length := by omega
      have := h i (by omega)
      rw [List.getElem?_eq_getElem hi] at this
      simpa using this
  rw [this, dv_replicate]; simp

theorem ReadI.step {ds : List UInt8} {ws : List Nat} {k d : Nat} (h : ReadI ds ws k) (hk : k < ds.length) (hd : d < 10) (hdk : (ds[k]'hk).toNat - 48 = d) :
    ws[(ds.length - k - 1) / 9]?.getD 0 < 100000000 ∧ ReadI ds (ws.set ((ds.length - k - 1) / 9) (ws[(ds.length - k - 1) / 9]?.getD 0 * 10 + d)) (k + 1) := by
  obtain ⟨h1, h2, h3, _, h5⟩ := h
  obtain ⟨i1, i2, i3⟩ := h5 hk
  have htk : decV (ds.take (k + 1)) = decV (ds.take k) * 10 + d := by
    rw [List.take_succ_eq_append_getElem hk, decV_snoc, hdk]
  generalize hg : (ds.length - k - 1) / 9 = g at *
  have hgl : g < ws.length := by omega
  generalize hx : ws[g]?.getD 0 = x at *
  generalize hc : 9 * (g + 1) - (ds.length - k) = c at *
  have hc9 : c + 1 ≤ 9 := by omega
  have hp : 10 ^ (c + 1) ≤ 10 ^ 9 := Nat.pow_le_pow_right (by decide) hc9
  rw [Nat.pow_succ] at hp
  have hsmall : x * 10 + d < 10 ^ (c + 1) := by rw [Nat.pow_succ]; omega
  have hp8 : 10 ^ c ≤ 10 ^ 8 := Nat.pow_le_pow_right (by decide) (by omega)
  refine ⟨by omega, by simp [h1], h2.set _ (by show _ < 1000000000; rw [Nat.pow_succ] at hsmall; omega), by omega, ?_, ?_⟩
  · intro he
    have hg0 : g = 0 := by omega
    have hc8 : c = 8 := by omega
    subst hg0 hc8
    have e1 : ds.take (k + 1) = ds := List.take_of_length_le (by omega)
    rw [e1] at htk
    have e2 := dv_zeros_below (ws := ws.set 0 (x * 10 + d)) (g := 0) (fun t ht => by omega) (by omega)
    rw [e2, List.drop_zero]
    have e3 : ws.set 0 (x * 10 + d) = (x * 10 + d) :: ws.drop 1 := by
      have := drop_set_at' ws 0 (x * 10 + d) hgl
      simpa using this
    rw [e3, dv_cons, htk, i1]
    have : (10 : Nat) ^ 8 = 100000000 := by decide
    simp only [Nat.zero_add, Nat.pow_zero, Nat.one_mul, this]
    show _ + 1000000000 * _ = _
    omega
  · intro hk1
    rw [htk, i1]
    by_cases hsame : (ds.length - (k + 1) - 1) / 9 = g
    · rw [hsame]
      have hc1 : 9 * (g + 1) - (ds.length - (k + 1)) = c + 1 := by omega
      rw [hc1, List.getElem?_set_self hgl, List.drop_set_of_lt (by omega)]
      refine ⟨?_, hsmall, fun t ht => ?_⟩
      · simp only [Option.getD_some, Nat.pow_succ]
        generalize dv BW (ws.drop (g + 1)) = H
        generalize 10 ^ c = e
        grind
      · rw [set_get_other _ _ _ _ (by omega)]; exact i3 t ht
    · have hgp : (ds.length - (k + 1) - 1) / 9 = g - 1 := by omega
      have hg1 : 1 ≤ g := by omega
      have hc8 : c = 8 := by omega
      have hc0 : 9 * (g - 1 + 1) - (ds.length - (k + 1)) = 0 := by omega
      have e1 : g - 1 + 1 = g := by omega
      rw [hgp, hc0, e1, set_get_other _ _ _ _ (by omega), i3 (g - 1) (by omega)]
      refine ⟨?_, by decide, fun t ht => ?_⟩
      · rw [drop_set_at' _ _ _ hgl, dv_cons, hc8]
        have : (10 : Nat) ^ 8 = 100000000 := by decide
        simp only [this, Nat.pow_zero, Nat.one_mul, Nat.zero_add]
        show _ = _ + 1000000000 * _
        omega
      · rw [set_get_other _ _ _ _ (by omega)]; exact i3 t (by omega)

theorem ReadI.finish {ds : List UInt8} {ws : List Nat} (h : ReadI ds ws ds.length) : ws.length = (ds.length + 8) / 9 ∧ Dg BW ws ∧ dv BW ws = decV ds := ⟨h.1, h.2.1, h.2.2.2.1 rfl⟩

theorem Own.iterAt {k : IntKind} {e : TypeId} {w : World} {B : Nat} {ns : List Nat} (h : Own k e w B ns) (b : Nat) (hb : B ≠ b) (s : ByteArray) (pos : Nat) : Own k e (w.iterAt b s pos) B ns := by
  unfold Own at h ⊢; rw [Lib.iterAt_other _ _ _ _ _ hb]; exact h

theorem neg_iff (l : List UInt8) : decide ((digitsOf l).length < l.length) = isNeg l := by
  cases l with
  | nil => rfl
  | cons c t =>
    rw [digitsOf.eq_2]
    by_cases h : c = 45
    · subst h; simp [isNeg]
    · simp [h, isNeg]

set_option maxHeartbeats 1000000 in
theorem read_any (s : ByteArray) (w : World) (hs : s.size ≤ maxLen) (hnum : numB s.data.toList = true) :
    Calls Tryd.prog 34 #[.string s] w (NumV w (strV s.data.toList) 223) := by
  unfold maxLen at hs
  have hl : (digitsOf s.data.toList).length ≤ s.size := digitsOf_le _
  have hneg := neg_iff s.data.toList
  have hsv : strV s.data.toList = sv (isNeg s.data.toList) (decV (digitsOf s.data.toList)) := rfl
  obtain ⟨ds, hds⟩ : ∃ ds, digitsOf s.data.toList = ds := ⟨_, rfl⟩
  obtain ⟨ng, hng⟩ : ∃ ng, isNeg s.data.toList = ng := ⟨_, rfl⟩
  have hall : 0 < ds.length ∧ ds.length ≤ 2000 ∧ ds.all isDg = true := by
    unfold numB plainB at hnum
    rw [hds] at hnum
    simp only [Bool.and_eq_true, decide_eq_true_eq, Bool.not_eq_true'] at hnum
    refine ⟨?_, hnum.2, hnum.1.1.2⟩
    have := hnum.1.1.1
    cases ds with
    | nil => simp at this
    | cons c t => simp
  rw [hds, hng] at hsv
  rw [hds] at hl
  rw [hds, hng] at hneg
  have hsz : s.data.toList.length = s.size := by rw [← Lib.size_eq]
  rw [hsz] at hneg
  obtain ⟨a0, a1, a2⟩ := hall
  have HD := Lib.hid hds
  have HN := Lib.hid hneg
  have HS := Lib.hid hsv
  have HA := Lib.hid a2
  clear hds hneg hsv hng hsz hnum a2
  have hmk : ∀ w, (Instr.makeSlice 45 (.int .i64 (((ds.length : Int) + 9 - 1) / 9)) (.int .i64 (((ds.length : Int) + 9 - 1) / 9))).run Tryd.prog w = .ok (.slice (some ⟨w.heap.size, 0, none⟩) ((ds.length + 8) / 9) ((ds.length + 8) / 9)) (w.alloc (.cells (Go.madeCells #[.int .u64 0] ((ds.length + 8) / 9)) 73)) := fun w => by
    have e : ((ds.length : Int) + 9 - 1) / 9 = (((ds.length + 8) / 9 : Nat) : Int) := by omega
    rw [e]; exact mkWords _ (by omega) w
  go_enter Tryd.func34, Tryd.ntmps34
  go_wp2_with (go_at_call 29; refine (trimMinus _ _).mono ?_; rintro e w' ⟨rfl, rfl⟩; rw [HD.out])
  have hB0 : Below w.heap.size w (((w.alloc (.cells #[.bool false, .slice none 0 0] 47)).alloc (.cells (Go.madeCells #[.int .u64 0] ((ds.length + 8) / 9)) 73)).iter ⟨ds.toArray⟩ 0) :=
    (((Below.refl _ w).alloc (Nat.le_refl _) _).alloc (by simp) _).alloc (by simp <;> omega) _
  have c0 := Own.new .u64 73 (w.alloc (.cells #[.bool false, .slice none 0 0] 47)) ((ds.length + 8) / 9)
  simp only [World.size_alloc] at c0
  have r0 : (((w.alloc (.cells #[.bool false, .slice none 0 0] 47)).alloc (.cells (Go.madeCells #[.int .u64 0] ((ds.length + 8) / 9)) 73)).iter ⟨ds.toArray⟩ 0).heap[w.heap.size]? = some (.cells #[.bool false, .slice none 0 0] 47 (0, 0)) :=
    (Below.heap_alloc _ _ _ (by simp <;> omega)).trans ((Below.heap_alloc _ _ _ (by simp)).trans (World.alloc_heap_new w _))
  have r2 : (((w.alloc (.cells #[.bool false, .slice none 0 0] 47)).alloc (.cells (Go.madeCells #[.int .u64 0] ((ds.length + 8) / 9)) 73)).iter ⟨ds.toArray⟩ 0).heap[w.heap.size + 1 + 1]? = some (.stringIter ⟨ds.toArray⟩ 0) := by
    have := World.alloc_heap_new ((w.alloc (.cells #[.bool false, .slice none 0 0] 47)).alloc (.cells (Go.madeCells #[.int .u64 0] ((ds.length + 8) / 9)) 73)) (.stringIter ⟨ds.toArray⟩ 0)
    rwa [World.size_alloc, World.size_alloc] at this
  go_loopw [5] (fun _ wr => ∃ (k : Nat) (ws : List Nat), k ≤ ds.length ∧ wr.heap[w.heap.size]? = some (.cells #[.bool false, .slice none 0 0] 47 (0, 0)) ∧ wr.heap[w.heap.size + 1 + 1]? = some (.stringIter ⟨ds.toArray⟩ k)
      ∧ Hid (ReadI ds ws k) ∧ Own .u64 73 wr (w.heap.size + 1) ws ∧ Below w.heap.size w wr) (fun _ wr => ds.length - wr.iterPos (w.heap.size + 1 + 1))
  case atStart => exact ⟨0, _, Nat.zero_le _, r0, r2, ReadI.start ds a0, c0.below ((Below.refl _ _).alloc (Nat.le_refl _) _) (by simp), hB0⟩
  case round =>
    obtain ⟨k, ws, hk, hr, hit, hinv, hown, hB⟩ := hrel
    have hip := iterPos_of hit
    by_cases hlt : k < ds.length
    · have hsz : k < (⟨ds.toArray⟩ : ByteArray).size := by show k < ds.toArray.size; simpa using hlt
      have hb : (⟨ds.toArray⟩ : ByteArray)[k]'hsz = ds[k] := rfl
      obtain ⟨d1, d2⟩ := isDg_of (List.all_eq_true.1 HA.out _ (List.getElem_mem hlt))
      have hnext := fun ty => Lib.run_next_ascii_at (P := Tryd.prog) wr (w.heap.size + 1 + 1) ⟨ds.toArray⟩ k ty hit hsz (by show ds[k].toNat < 128; omega)
      rw [hb] at hnext
      obtain ⟨d, hd⟩ : ∃ d, ds[k].toNat = d + 48 := ⟨ds[k].toNat - 48, by omega⟩
      have hstep := ReadI.step (d := d) hinv.out hlt (by omega) (by omega)
      have hd10 : d < 10 := by omega
      rw [hd] at hnext
      have hgl : (ds.length - k - 1) / 9 < ws.length := by rw [hinv.out.1]; omega
      obtain ⟨g, hg⟩ : ∃ g, (ds.length - k - 1) / 9 = g := ⟨_, rfl⟩
      have hgi : ((ds.length : Int) - 1 - (k : Int)) / 9 = (g : Int) := by omega
      rw [hg] at hstep hgl
      obtain ⟨x, hx⟩ : ∃ x, ws[g]?.getD 0 = x := ⟨_, rfl⟩
      have hcell := (hown.iterAt (w.heap.size + 1 + 1) (by omega) ⟨ds.toArray⟩ (k + 1)).cell g hgl
      have hfz := (hown.iterAt (w.heap.size + 1 + 1) (by omega) ⟨ds.toArray⟩ (k + 1)).frozen g
      have hset := (hown.iterAt (w.heap.size + 1 + 1) (by omega) ⟨ds.toArray⟩ (k + 1)).set g (x * 10 + d)
      rw [hx] at hstep hcell
      have hwl : ws.length = (ds.length + 8) / 9 := hinv.out.1
      have hgn : g < (ds.length + 8) / 9 := by omega
      have hit2 := Lib.iterAt_heap wr (w.heap.size + 1 + 1) ⟨ds.toArray⟩ k (k + 1) hit
      have hr2 := (Lib.iterAt_other wr (w.heap.size + 1 + 1) w.heap.size ⟨ds.toArray⟩ (k + 1) (by omega)).trans hr
      have hB2 := Lib.below_iterAt hB (k := w.heap.size + 1 + 1) (by omega) ⟨ds.toArray⟩ (k + 1)
      have hx8 := hstep.1
      have HST := Lib.hid hstep.2
      have hcast : ((d + 48 : Nat) : Int) = (d : Int) + 48 := by omega
      have HIP := Lib.hid hip
      clear hstep hd hg hx hwl hgl hb d1 d2 hip hinv
      generalize wr.iterAt (w.heap.size + 1 + 1) ⟨ds.toArray⟩ (k + 1) = W2 at hnext hcell hfz hset hit2 hr2 hB2
      go_wp2
      go_roundw
      case rel =>
        have e1 : (x : Int) * 10 + (d : Int) = ((x * 10 + d : Nat) : Int) := by omega
        rw [e1]
        exact ⟨k + 1, _, by omega, (Below.heap_setCell _ _ _ _ (by simp)).trans hr2, (Below.heap_setCell _ _ _ _ (by simp)).trans hit2, HST.out, hset, hB2.setCell (by simp) _⟩
      case measure =>
        rw [HIP.out, iterPos_of ((Below.heap_setCell W2 ⟨w.heap.size + 1, g, none⟩ (.int .u64 ((x : Int) * 10 + (d : Int))) (w.heap.size + 1 + 1) (by simp)).trans hit2)]
        omega
    · obtain rfl : k = ds.length := by omega
      have hsz : ¬ ds.length < (⟨ds.toArray⟩ : ByteArray).size := by show ¬ ds.length < ds.toArray.size; simp
      have hnext := fun ty => Lib.run_next_end_at (P := Tryd.prog) wr (w.heap.size + 1 + 1) ⟨ds.toArray⟩ ds.length ty hit hsz
      obtain ⟨f1, f2, f3⟩ := hinv.out.finish
      have HF := Lib.hid (And.intro f1 (And.intro f2 f3))
      have hrd := hown.rd f1
      have q0 : wr.cell? ⟨w.heap.size, 0, none⟩ = some (.bool false) := by simp [World.cell?, hr]
      have q1 : wr.cell? ⟨w.heap.size, 1, none⟩ = some (.slice none 0 0) := by simp [World.cell?, hr]
      have q2 : wr.frozen? ⟨w.heap.size, 0, none⟩ = false := by simp [World.frozen?, hr]
      have q3 : wr.frozen? ⟨w.heap.size, 1, none⟩ = false := by simp [World.frozen?, hr]
      have hlt0 : w.heap.size < wr.heap.size := (Array.getElem?_eq_some_iff.1 hr).1
      have hdec : decide (ds.length < s.size) = ng := HN.out
      clear f1 f2 f3 hr
      go_wp2_with (first
        | (go_at_call 53; refine (trimmed_any _ _ _ ws _ (by unfold maxLen; omega) (Nat.le_refl _) hrd).mono ?_; rintro e w' ⟨rfl, rfl⟩)
        | (go_at_call 39; refine (signed_any _ _ _ _ _).mono ?_; rintro e w2 ⟨rfl, hb2⟩; obtain ⟨hc2, hf2⟩ := bcell hb2))
      have p0 : w2.cell? ⟨w.heap.size, 0, none⟩ = some (.bool false) := by rw [hc2 _ _ hlt0]; exact q0
      have p1 : w2.cell? ⟨w.heap.size, 1, none⟩ = some (.slice none 0 0) := by rw [hc2 _ _ hlt0]; exact q1
      obtain ⟨f1, f2, f3⟩ := HF.out
      obtain ⟨t0, t1, _⟩ := two_set (.bool (ng && decide (0 < trimLen ws ((ds.length + 8) / 9)))) (.slice (some ⟨w.heap.size + 1, 0, none⟩) (trimLen ws ((ds.length + 8) / 9)) (trimLen ws ((ds.length + 8) / 9))) p0 p1
      have hrz : Rd .u64 w2 (some ⟨w.heap.size + 1, 0, none⟩) (trimLen ws ((ds.length + 8) / 9)) (trimZ ws) := by
        unfold trimZ; rw [f1]; exact (hrd.take _ (trimLen_le _ _)).below hb2
      refine bodyPost_ret (v := .agg #[.bool (ng && decide (0 < trimLen ws ((ds.length + 8) / 9))), .slice (some ⟨w.heap.size + 1, 0, none⟩) (trimLen ws ((ds.length + 8) / 9)) (trimLen ws ((ds.length + 8) / 9))])
        (by simp [results, Tryd.results34, go_sem, t0, t1]) rfl ⟨_, _, _, _, trimZ ws, rfl, ?_, ?_⟩
      · refine ⟨hrz.two_set _ _ p0 p1, Nat.le_refl _, ?_, trimZ_cn f2, ?_, ?_⟩
        · have := trimLen_le ws ((ds.length + 8) / 9); omega
        · simp
        · have hsvz := sv_and ng (trimZ ws) (trimZ_cn f2)
          rw [hrz.1] at hsvz
          rw [hsvz, dv_trimZ, f3]; exact HS.out
      · exact ((hB.trans (hb2.mono (by omega))).setCell (by simp) _).setCell (by simp) _

end Go.Proofs.YtimcbmgmngkagaaDoor

namespace Go.Proofs.YtimcbmgmngkagaaDoor
open Go.Lib

theorem nDigits_lower (u : Nat) (h : 1 ≤ u) : 10 ^ (nDigits u - 1) ≤ u := by
  induction u using Nat.strongRecOn with
  | ind u ih =>
    by_cases h1 : u < 10
    · rw [nDigits_small h1]; simpa using h
    · rw [nDigits_big h1]
      have h2 := ih (u / 10) (by omega) (by omega)
      have h3 := nDigits_pos (u / 10)
      have e : nDigits (u / 10) + 1 - 1 = (nDigits (u / 10) - 1) + 1 := by omega
      rw [e, Nat.pow_succ]; omega

theorem nDigits_le {u k : Nat} (hk : 1 ≤ k) (h : u < 10 ^ k) : nDigits u ≤ k := by
  rcases Nat.lt_or_ge k (nDigits u) with h1 | h1
  · by_cases h0 : 1 ≤ u
    · have h2 := nDigits_lower u h0
      have h3 := Nat.pow_le_pow_right (n := 10) (by decide) (show k ≤ nDigits u - 1 by omega)
      omega
    · have : u = 0 := by omega
      subst this
      rw [nDigits_small (by decide)] at h1; omega
  · exact h1

/-- How many digits; 0 has none here. -/
def nd0 (u : Nat) : Nat := if u = 0 then 0 else nDigits u

theorem nd0_step {u : Nat} (h : 0 < u) : nd0 u = nd0 (u / 10) + 1 := by
  unfold nd0
  rw [if_neg (by omega)]
  by_cases h1 : u < 10
  · rw [nDigits_small h1, if_pos (by omega)]
  · rw [nDigits_big h1, if_neg (by omega)]

theorem pow_words (k : Nat) : BW ^ k = 10 ^ (9 * k) := by
  rw [Nat.pow_mul]

/-- The digits of words: nine for each but the highest. -/
theorem nDigits_dv {lo : List Nat} {top : Nat} (hlo : Dg BW lo) (h0 : 0 < top) : nDigits (dv BW (lo ++ [top])) = 9 * lo.length + nDigits top := by
  have h1 := dv_lt hlo
  rw [pow_words] at h1
  rw [dv_snoc, pow_words]
  have h2 := nDigits_lower top h0
  have h3 := lt_pow_nDigits top
  have h4 := nDigits_pos top
  have e : 9 * lo.length + nDigits top = (9 * lo.length + (nDigits top - 1)) + 1 := by omega
  rw [e]
  apply nDigits_unique
  · rw [Nat.pow_add]
    have := Nat.mul_le_mul_left (10 ^ (9 * lo.length)) h2
    omega
  · have e2 : 9 * lo.length + (nDigits top - 1) + 1 = 9 * lo.length + nDigits top := by omega
    rw [e2, Nat.pow_add]
    have := Nat.mul_le_mul_left (10 ^ (9 * lo.length)) (show top + 1 ≤ 10 ^ nDigits top from h3)
    rw [Nat.mul_add] at this
    omega

theorem decDigits_snoc {n d : Nat} (hn : 0 < n) (hd : d < 10) : decDigits (n * 10 + d) = decDigits n ++ [UInt8.ofNat (48 + d)] := by
  rw [decDigits.eq_1 (n * 10 + d), dif_neg (by omega)]
  have e1 : (n * 10 + d) / 10 = n := by omega
  have e2 : (n * 10 + d) % 10 = d := by omega
  rw [e1, e2]

/-- k digits, zeros in front. -/
def padK : Nat → Nat → List UInt8
  | 0, _ => []
  | k + 1, lo => padK k (lo / 10) ++ [UInt8.ofNat (48 + lo % 10)]

theorem decDigits_join (k : Nat) : ∀ (hi lo : Nat), 0 < hi → lo < 10 ^ k → decDigits (hi * 10 ^ k + lo) = decDigits hi ++ padK k lo := by
  induction k with
  | zero => intro hi lo _ hl; have : lo = 0 := by simpa using hl
            subst this; simp [padK]
  | succ k ih =>
    intro hi lo hh hl
    rw [Nat.pow_succ] at hl ⊢
    have e : hi * (10 ^ k * 10) + lo = (hi * 10 ^ k + lo / 10) * 10 + lo % 10 := by
      have := Nat.div_add_mod lo 10
      rw [← Nat.mul_assoc, Nat.add_mul]; omega
    have hp : 0 < hi * 10 ^ k := Nat.mul_pos hh (Nat.pow_pos (by decide))
    rw [e, decDigits_snoc (by omega) (Nat.mod_lt _ (by decide)), ih hi (lo / 10) hh (by omega), padK, List.append_assoc]

theorem padK_zero (k : Nat) : padK k 0 = List.replicate k 48 := by
  induction k with
  | zero => rfl
  | succ k ih =>
    rw [padK, Nat.zero_div, ih, List.replicate_succ']; rfl

theorem padK_says (k : Nat) : ∀ lo, 1 ≤ k → lo < 10 ^ k → padK k lo = List.replicate (k - nDigits lo) 48 ++ decDigits lo := by
  induction k with
  | zero => intro lo h; omega
  | succ k ih =>
    intro lo _ hl
    by_cases h1 : lo < 10
    · have e : lo / 10 = 0 := by omega
      have e2 : lo % 10 = lo := by omega
      rw [padK, e, e2, padK_zero, decDigits_one h1, nDigits_small h1]
      rfl
    · rw [Nat.pow_succ] at hl
      have hk : 1 ≤ k := by
        rcases Nat.eq_zero_or_pos k with h | h
        · subst h; omega
        · exact h
      have e := Nat.div_add_mod lo 10
      have e3 := decDigits_snoc (n := lo / 10) (d := lo % 10) (by omega) (Nat.mod_lt _ (by decide))
      have e4 : lo / 10 * 10 + lo % 10 = lo := by omega
      rw [e4] at e3
      rw [padK, ih (lo / 10) hk (by omega), nDigits_big h1, e3, List.append_assoc]
      have : k + 1 - (nDigits (lo / 10) + 1) = k - nDigits (lo / 10) := by omega
      rw [this]

/-- A word behind higher ones. -/
theorem decDigits_word {hi lo : Nat} (hh : 0 < hi) (hl : lo < BW) : decDigits (lo + BW * hi) = decDigits hi ++ (List.replicate (9 - nDigits lo) 48 ++ decDigits lo) := by
  rw [← padK_says 9 lo (by decide) hl, ← decDigits_join 9 hi lo hh hl]
  have : BW = 10 ^ 9 := by decide
  rw [Nat.add_comm, Nat.mul_comm, this]

end Go.Proofs.YtimcbmgmngkagaaDoor

namespace Go.Proofs.YtimcbmgmngkagaaDoor
open Go.RowKit

set_option maxHeartbeats 400000 in
theorem isZero_any (neg : Bool) (p : Option Addr) (n c : Nat) (w : World) (hn : n ≤ maxLen) :
    Calls Tryd.prog 23 #[.agg #[.bool neg, .slice p n c]] w fun e w' => e = .returned (.bool (n == 0)) ∧ Below w.heap.size w w' := by
  unfold maxLen at hn
  by_cases h : n = 0
  · subst h
    go_enter Tryd.func23, Tryd.ntmps23
    go_wp2
    go_ret
    exact ⟨rfl, (Below.refl _ _).alloc (Nat.le_refl _) _⟩
  · have h1 : ((n : Int) == 0) = false := by simp; omega
    have h2 : (n == 0) = false := by simpa using h
    have H2 := Lib.hid h2
    clear h2
    go_enter Tryd.func23, Tryd.ntmps23
    go_wp2
    go_ret
    exact ⟨ret_val (congrArg Value.bool H2.out.symm), (Below.refl _ _).alloc (Nat.le_refl _) _⟩

set_option maxHeartbeats 1000000 in
theorem digits_any (neg : Bool) (p : Option Addr) (n c : Nat) (xs : List Nat) (w : World) (hn : n ≤ 1000000000) (hx : Rd .u64 w p n xs) (gx : Cn BW xs) :
    Calls Tryd.prog 36 #[.agg #[.bool neg, .slice p n c]] w fun e w' => e = .returned (.int .i64 (nd0 (dv BW xs) : Nat)) ∧ Below w.heap.size w w' := by
  have hb0 : Below w.heap.size w (w.alloc (.cells #[.bool neg, .slice p n c] 47)) := (Below.refl _ w).alloc (Nat.le_refl _) _
  have hx1 := hx.below hb0
  have y0 : w.heap.size < (w.alloc (.cells #[.bool neg, .slice p n c] 47)).heap.size := by simp
  by_cases h : n = 0
  · have hx0 : xs = [] := List.length_eq_zero_iff.1 (by rw [hx.1]; exact h)
    have hfin : nd0 (dv BW xs) = 0 := by rw [hx0]; rfl
    have HF := Lib.hid hfin
    subst h
    clear hfin hx0
    go_enter Tryd.func36, Tryd.ntmps36
    go_wp2_with (go_at_call 23; refine (isZero_any _ _ _ _ _ (by decide)).mono ?_; rintro e w1 ⟨rfl, hb1⟩)
    go_ret
    exact ⟨ret_int (by rw [HF.out]; rfl), hb0.trans (hb1.mono (by simp))⟩
  · have h2 : (n == 0) = false := by simpa using h
    have hne : xs ≠ [] := by intro e; apply h; rw [← hx.1, e]; rfl
    obtain ⟨b, off, rfl, hb, hcell0⟩ := hx1.2 (n - 1) (by omega)
    obtain ⟨t, ht⟩ : ∃ t, xs[n - 1]?.getD 0 = t := ⟨_, rfl⟩
    have hsplit : xs = xs.take (n - 1) ++ [t] := by
      rw [← ht, ← take_snoc xs (n - 1) (by rw [hx.1]; omega), List.take_of_length_le (by rw [hx.1]; omega)]
    have ht0 : 0 < t := by
      have := gx.2
      rw [hsplit] at this
      simp [Tp] at this
      omega
    have htB : t < 1000000000 := by rw [← ht]; exact gx.1.get (by decide) _
    have hlen : (xs.take (n - 1)).length = n - 1 := by rw [List.length_take, hx.1]; omega
    have hfin : nd0 (dv BW xs) = 9 * (n - 1) + nd0 t := by
      have h1 := nDigits_dv (lo := xs.take (n - 1)) (top := t) (gx.1.take _) ht0
      rw [← hsplit, hlen] at h1
      have h2 : dv BW xs ≠ 0 := by have := gx.pos (by decide) hne; omega
      unfold nd0
      rw [if_neg h2, if_neg (by omega), h1]
    have HF := Lib.hid hfin
    have hpos : 0 < n := by omega
    rw [ht] at hcell0
    clear ht hsplit hlen hfin hne
    go_enter Tryd.func36, Tryd.ntmps36
    go_wp2_with (go_at_call 23; refine (isZero_any _ _ _ _ _ (by unfold maxLen; omega)).mono ?_; rintro e w1 ⟨rfl, hb1⟩; obtain ⟨hc1, hf1⟩ := bcell hb1; have hcell := (hc1 b (off + (n - 1)) hb).trans hcell0)
    have hbT := hb0.trans (hb1.mono (by simp))
    go_loop [3, 4] (fun m u => ∃ k r : Nat, r < 1000000000 ∧ k ≤ 9000000009 ∧ m = .int .i64 k ∧ u = .int .u64 r ∧ Hid (k + nd0 r = 9 * (n - 1) + nd0 t)) (fun _ u => (intOf u).toNat)
    case atStart => exact ⟨9 * (n - 1), t, htB, by omega, by go_num, rfl, rfl⟩
    case round =>
      obtain ⟨k, r, hr, hk, rfl, rfl, hs⟩ := hrel
      by_cases h0 : 0 < r
      · have h1 : Hid (k + 1 + nd0 (r / 10) = 9 * (n - 1) + nd0 t) := by
          show _ = _
          have := hs.out
          rw [nd0_step h0] at this; omega
        have hk9 : k ≤ 9000000008 := by
          have := hs.out
          have h2 : nd0 r ≥ 1 := by rw [nd0_step h0]; omega
          have h3 : nd0 t ≤ 9 := by
            unfold nd0; rw [if_neg (by omega)]
            exact nDigits_le (k := 9) (by decide) htB
          omega
        go_wp2
        go_round
        case rel => exact ⟨k + 1, r / 10, by omega, by omega, by go_num, by go_num, h1⟩
        case measure => simp [intOf]; omega
      · obtain rfl : r = 0 := by omega
        have h1 : k = nd0 (dv BW xs) := by have := hs.out; rw [HF.out]; simpa [nd0] using this
        have H1 := Lib.hid h1
        clear h1
        go_wp2
        go_ret
        exact ⟨ret_int (by rw [← H1.out]), hbT⟩
end Go.Proofs.YtimcbmgmngkagaaDoor

namespace Go.Proofs.YtimcbmgmngkagaaDoor
open Go.RowKit Go.Sort

/-- The library's table of powers of ten lies as its text lays it. -/
def Tab (w : World) : Prop := Lib.TabIs Tryd.prog w "internal/strconv.uint64pow10" .u64 Lib.pow10Tab

theorem Tab.below {w w' : World} (h : Tab w) (hb : Below w.heap.size w w') : Tab w' := by
  have hg : Tryd.prog.globalNamed "internal/strconv.uint64pow10" = some 0 := by kernel_rfl
  refine var?_below hb hg ?_ h
  have h' : w.var? Tryd.prog "internal/strconv.uint64pow10" = some _ := h
  unfold World.var? at h'
  rw [hg] at h'
  simp only [Option.bind_some] at h'
  rcases Nat.lt_or_ge 0 w.heap.size with hlt | hge
  · exact hlt
  · rw [Array.getElem?_eq_none hge] at h'; cases h'

theorem holds_zero0 (w : World) (T : TypeId) (nd : Nat) (hs : nd ≤ 24) : Holds (fun (b : UInt8) => Value.int .u8 (b.toNat : Int)) (w.alloc (.cells Lib.zeros24 T)) w.heap.size 0 (Array.replicate nd (0 : UInt8)) := fun j hj => by
  have hj' : j < nd := by simpa using hj
  refine ⟨?_, World.frozen?_alloc_new _ _ _ _⟩
  rw [World.cell?_alloc_new, Nat.zero_add, Lib.zeros24_at _ (by omega), getElem!_pos _ j hj]
  simp

theorem putRow_below (w : World) (o : Obj) (dk : Array UInt8) (k : Nat) : Below w.heap.size w ((putRow (fun (b : UInt8) => Value.int .u8 (b.toNat : Int)) (w.alloc o) w.heap.size 0 dk).drewN k) := by
  rw [alloc_eq_grow]
  obtain ⟨os', _, e⟩ := putRow_grow_new (fun (b : UInt8) => Value.int .u8 (b.toNat : Int)) w #[o] w.heap.size 0 dk (Nat.le_refl _)
  rw [e]
  refine ⟨rfl, rfl, rfl, ?_, fun i hi => ?_⟩
  · show w.heap.size ≤ (w.heap ++ os').size; simp
  · show (w.heap ++ os')[i]? = _
    rw [Array.getElem?_append_left hi]

set_option maxHeartbeats 6400000 in
set_option maxRecDepth 100000 in
theorem formatUint_in (u : Nat) (hu64 : u < 18446744073709551616) (w : World) (htab : Tab w) :
    Calls Tryd.prog 55 #[.int .u64 u, .int .i64 10] w fun e w' => e = .returned (.string ⟨(Lib.decDigits u).toArray⟩) ∧ Below w.heap.size w w' := by
  by_cases hs : u < 100
  · have hi : (u : Int) < 100 := by omega
    go_enter Tryd.func55, Tryd.ntmps55
    go_wp2_with (go_at_call 66; refine (Tryd.internal_strconv_small u hs _).mono ?_; rintro e w' ⟨rfl, rfl⟩)
    go_ret
    exact ⟨rfl, Below.refl _ _⟩
  · have hu1 : 1 ≤ u := by omega
    have hnd20 : Lib.nDigits u ≤ 20 := Lib.nDigits_le20 u hu64
    have hal : Tryd.prog.arrayLen 107 = 24 := by kernel_rfl
    have hsl1 : ∀ W, (Instr.sliceAt 107 (.pointer (some ⟨w.heap.size, 0, none⟩)) none (some (.int .i64 (Lib.nDigits u : Int))) none).run Tryd.prog W = .ok (.slice (some ⟨w.heap.size, 0, none⟩) (Lib.nDigits u) 24) W := fun W => by
      rw [run_sliceAt_array_h W 107 ⟨w.heap.size, 0, none⟩ Tryd.underlying107 .i64 (Lib.nDigits u : Int) (by omega) (by rw [hal]; omega)]
      go_simp
    have hH0 := holds_zero0 w 107 (Lib.nDigits u) (by omega)
    have hfmt := Tryd.internal_strconv_formatBase10 w.heap.size 0 24 u (Array.replicate (Lib.nDigits u) 0) (w.alloc (.cells Lib.zeros24 107)) hH0 (by rw [Array.size_replicate]; exact Lib.lt_pow_nDigits u) hu64 (by rw [Array.size_replicate]; omega)
    rw [Array.size_replicate] at hfmt
    have HH0 := Lib.hid hH0
    have hge : ¬ (u : Int) < 100 := by omega
    clear hH0 hal
    go_enter Tryd.func55, Tryd.ntmps55
    go_wp2_with (go_at_call 67; refine (Tryd.internal_strconv_numDigits u hu1 hu64 _ (Lib.tabIs_alloc htab _)).mono ?_; rintro e w' ⟨rfl, rfl⟩)
    go_at_call 68
    refine hfmt.mono ?_
    rintro e w' ⟨rfl, k, v', dk, rfl, hF⟩
    have hcv : (Go.convert 23 9 (.slice (some ⟨w.heap.size, 0, none⟩) (Lib.nDigits u) 24)).run Tryd.prog ((putRow (fun (b : UInt8) => Value.int .u8 (b.toNat : Int)) (w.alloc (.cells Lib.zeros24 107)) w.heap.size 0 dk).drewN k) = .ok (.string ⟨(Lib.decDigits u).toArray⟩) ((putRow (fun (b : UInt8) => Value.int .u8 (b.toNat : Int)) (w.alloc (.cells Lib.zeros24 107)) w.heap.size 0 dk).drewN k) := by
      have h := run_convert_bytes_back (P := Tryd.prog) ((putRow (fun (b : UInt8) => Value.int .u8 (b.toNat : Int)) (w.alloc (.cells Lib.zeros24 107)) w.heap.size 0 dk).drewN k) 23 9 5 ⟨w.heap.size, 0, none⟩ 24 (Lib.decDigits u) Tryd.underlying23 Tryd.underlying5 Tryd.underlying9 (fun j hj => by
        rw [Lib.row_is_numeral hF j hj, Lib.add_plain, World.cell?_drewN]
        exact cell?_putRow (fun (b : UInt8) => Value.int .u8 (b.toNat : Int)) _ w.heap.size 0 _ dk HH0.out (by rw [hF.size, Array.size_replicate]) j (by rw [hF.size]; rw [Lib.decDigits_length] at hj; exact hj))
      rw [Lib.decDigits_length] at h
      exact h
    go_wp2
    go_ret
    exact ⟨rfl, putRow_below w _ dk k⟩

theorem formatUint_any (u : Nat) (hu64 : u < 18446744073709551616) (w : World) (htab : Tab w) :
    Calls Tryd.prog 38 #[.int .u64 u, .int .i64 10] w fun e w' => e = .returned (.string ⟨(Lib.decDigits u).toArray⟩) ∧ Below w.heap.size w w' := by
  go_enter Tryd.func38, Tryd.ntmps38
  go_wp2_with (go_at_call 55; refine (formatUint_in u hu64 _ htab).mono ?_; rintro e w' ⟨rfl, hb⟩)
  go_ret
  exact ⟨rfl, hb⟩

end Go.Proofs.YtimcbmgmngkagaaDoor
