/-
  Package plane: two planes; A region that draws its order, inside a fence (the body of a range over a function, an iterator): one relation that every order keeps; Package plane: the iterator over two planes' coefficients; Package plane: the sum of products; Package plane: the order of two planes' coefficients; Package plane: the angle of two normals.
-/
import Derived.OrdersIn
import Derived.Test.YthdhakpmhndbfaaK1
import Derived.Test.YthdhakpmhndbfaaK2
import Derived.Test.YthdhakpmhndbfaaK3
import Derived.Test.YthdhakpmhndbfaaK4
import Derived.Test.YthdhakpmhndbfaaK5
import Derived.Test.YthdhakpmhndbfaaK6
import Derived.Test.YthdhakpmhndbfaaK7
namespace Go.Proofs.Ythdhakpmhndbfaa
open Go.RowKit Go.Shelf
attribute [local go_sem] Oper.semAt_some

theorem prod_small {x y : Int} (hx : x.natAbs ≤ 1000) (hy : y.natAbs ≤ 1000) : wrap64 (x * y) = x * y := by
  have h : (x * y).natAbs ≤ 1000000 := by rw [Int.natAbs_mul]; exact Nat.mul_le_mul hx hy
  generalize x * y = z at *
  unfold wrap64; omega

/-- The normals are multiples of each other. -/
def parB (a b c e f g : Int) : Bool := decide (b * g = c * f) && (decide (c * e = a * g) && decide (a * f = b * e))

set_option maxRecDepth 100000 in
set_option maxHeartbeats 4000000 in
theorem areParallel_any (a b c d e f g h : Int) (w : World) (ha : a.natAbs ≤ 1000) (hb : b.natAbs ≤ 1000) (hc : c.natAbs ≤ 1000) (he : e.natAbs ≤ 1000) (hf : f.natAbs ≤ 1000) (hg : g.natAbs ≤ 1000) :
    Calls Try.prog 62 #[.agg #[.int .i64 a, .int .i64 b, .int .i64 c, .int .i64 d], .agg #[.int .i64 e, .int .i64 f, .int .i64 g, .int .i64 h]] w fun e' w' => e' = .returned (.bool (parB a b c e f g)) ∧ Below w.heap.size w w' := by
  have p1 := prod_small hb hg
  have p2 := prod_small hc hf
  have p3 := prod_small hc he
  have p4 := prod_small ha hg
  have p5 := prod_small ha hf
  have p6 := prod_small hb he
  unfold parB
  clear ha hb hc he hf hg
  by_cases h1 : b * g = c * f
  · have h1' : (b * g == c * f) = true := by simp [h1]
    have hd1 : decide (b * g = c * f) = true := decide_eq_true h1
    rw [hd1, Bool.true_and]
    by_cases h2 : c * e = a * g
    · have h2' : (c * e == a * g) = true := by simp [h2]
      have hd2 : decide (c * e = a * g) = true := decide_eq_true h2
      rw [hd2, Bool.true_and]
      clear h1 h2 hd1 hd2
      obtain ⟨t, ht⟩ : ∃ t, decide (a * f = b * e) = t := ⟨_, rfl⟩
      have h3' : (a * f == b * e) = t := by rw [← ht]; rfl
      rw [ht]
      clear ht
      go_enter Try.func62, Try.ntmps62
      go_wp2_with fail
      go_ret
      exact ⟨rfl, bw2 w _ _⟩
    · have h2' : (c * e == a * g) = false := by simp [h2]
      have hd2 : decide (c * e = a * g) = false := decide_eq_false h2
      rw [hd2, Bool.false_and]
      clear h1 h2 hd1 hd2
      go_enter Try.func62, Try.ntmps62
      go_wp2_with fail
      go_ret
      exact ⟨rfl, bw2 w _ _⟩
  · have h1' : (b * g == c * f) = false := by simp [h1]
    have hd1 : decide (b * g = c * f) = false := decide_eq_false h1
    rw [hd1, Bool.false_and]
    clear h1 hd1
    go_enter Try.func62, Try.ntmps62
    go_wp2_with fail
    go_ret
    exact ⟨rfl, bw2 w _ _⟩

theorem planes2 (w : World) (a b c d e f g h : Int) (t : TypeId) : RdV (w.alloc (.cells #[.int .i64 a, .int .i64 b, .int .i64 c, .int .i64 d, .int .i64 e, .int .i64 f, .int .i64 g, .int .i64 h] t)) (some ⟨w.heap.size, 0, none⟩) [⟨a, b, c, d⟩, ⟨e, f, g, h⟩] := by
  have hB := Blk.new w #[.int .i64 a, .int .i64 b, .int .i64 c, .int .i64 d, .int .i64 e, .int .i64 f, .int .i64 g, .int .i64 h] t
  intro i y hi
  match i, hi with
  | 0, hi => cases hi; exact ⟨_, 0, rfl, hB.lt, hB.cell (i := 0) rfl, hB.cell (i := 1) rfl, hB.cell (i := 2) rfl, hB.cell (i := 3) rfl⟩
  | 1, hi => cases hi; exact ⟨_, 0, rfl, hB.lt, hB.cell (i := 4) rfl, hB.cell (i := 5) rfl, hB.cell (i := 6) rfl, hB.cell (i := 7) rfl⟩
  | i + 2, hi => simp at hi

/-- Whether both are right, as an error. -/
def both (a b c d e f g h : Int) : Int := errE (decide (RightP a b c d) && decide (RightP e f g h)) 30

set_option maxRecDepth 100000 in
set_option maxHeartbeats 4000000 in
theorem parallel_any (a b c d e f g h : Int) (w : World) (hp : InV ⟨a, b, c, d⟩) (hq : InV ⟨e, f, g, h⟩) :
    Calls Try.prog 27 #[.agg #[.int .i64 a, .int .i64 b, .int .i64 c, .int .i64 d], .agg #[.int .i64 e, .int .i64 f, .int .i64 g, .int .i64 h]] w fun e' w' => e' = .returned (.tuple #[.bool ((decide (RightP a b c d) && decide (RightP e f g h)) && parB a b c e f g), .int .i64 (both a b c d e f g h)]) ∧ Below w.heap.size w w' := by
  obtain ⟨w1, hw1⟩ : ∃ w1, ((w.alloc (.cells #[.int .i64 a, .int .i64 b, .int .i64 c, .int .i64 d] 23)).alloc (.cells #[.int .i64 e, .int .i64 f, .int .i64 g, .int .i64 h] 23)) = w1 := ⟨_, rfl⟩
  have hb1 : Below w.heap.size w w1 := by rw [← hw1]; exact bw2 w _ _
  have k0 : Blk w1 w.heap.size #[.int .i64 a, .int .i64 b, .int .i64 c, .int .i64 d] 23 := by rw [← hw1]; exact (Blk.new w _ _).alloc _
  have k1 : Blk w1 (w.heap.size + 1) #[.int .i64 e, .int .i64 f, .int .i64 g, .int .i64 h] 23 := by rw [← hw1]; exact Blk.new' _ _ _ (by simp)
  have c0 := k0.cell (i := 0) rfl
  have c1 := k0.cell (i := 1) rfl
  have c2 := k0.cell (i := 2) rfl
  have c3 := k0.cell (i := 3) rfl
  have d0 := k1.cell (i := 0) rfl
  have d1 := k1.cell (i := 1) rfl
  have d2 := k1.cell (i := 2) rfl
  have d3 := k1.cell (i := 3) rfl
  obtain ⟨w2, hw2⟩ : ∃ w2, w1.alloc (.cells #[.int .i64 a, .int .i64 b, .int .i64 c, .int .i64 d, .int .i64 e, .int .i64 f, .int .i64 g, .int .i64 h] 23) = w2 := ⟨_, rfl⟩
  have hr2 : RdV w2 (some ⟨w1.heap.size, 0, none⟩) [⟨a, b, c, d⟩, ⟨e, f, g, h⟩] := by rw [← hw2]; exact planes2 w1 a b c d e f g h _
  have hb2 : Below w1.heap.size w1 w2 := by rw [← hw2]; exact (Below.refl _ w1).alloc (Nat.le_refl _) _
  have hpl := planes_any (some ⟨w1.heap.size, 0, none⟩) 2 2 [⟨a, b, c, d⟩, ⟨e, f, g, h⟩] w2 rfl (by decide) hr2 (by intro q hq'; simp at hq'; rcases hq' with rfl | rfl; exact hp; exact hq)
  have hall : ([⟨a, b, c, d⟩, ⟨e, f, g, h⟩] : List V4).all (fun q => decide (RightP q.a q.b q.c q.d)) = (decide (RightP a b c d) && decide (RightP e f g h)) := by simp
  rw [hall] at hpl
  have hbd : (decide (RightP a b c d) && decide (RightP e f g h)) = true → RightP a b c d ∧ RightP e f g h := fun hh => by simpa using hh
  have hpar : RightP a b c d ∧ RightP e f g h → ∀ W, Calls Try.prog 62 #[.agg #[.int .i64 a, .int .i64 b, .int .i64 c, .int .i64 d], .agg #[.int .i64 e, .int .i64 f, .int .i64 g, .int .i64 h]] W fun e' w' => e' = .returned (.bool (parB a b c e f g)) ∧ Below W.heap.size W w' := fun hh W => areParallel_any a b c d e f g h W hh.1.2.1 hh.1.2.2.1 hh.1.2.2.2.1 hh.2.2.1 hh.2.2.2.1 hh.2.2.2.2.1
  unfold both
  obtain ⟨t, ht⟩ : ∃ t, (decide (RightP a b c d) && decide (RightP e f g h)) = t := ⟨_, rfl⟩
  rw [ht] at hpl hbd ⊢
  have HP := Lib.hid hpl
  have HPAR := Lib.hid (fun hh => hpar (hbd hh))
  clear hpl hall hr2 hp hq hbd hpar ht
  go_enter Try.func27, Try.ntmps27
  go_wp2_with fail
  refine HP.out.mono ?_
  rintro e' w3 ⟨v, rfl, hv, hb3⟩
  have hb13 := hb2.trans (hb3.mono hb2.size)
  obtain ⟨gf, caps, rfl, _⟩ := id hv
  obtain ⟨w4, hw4⟩ : ∃ w4, w3.alloc (.cells #[.func (.func gf) #[] caps] 70) = w4 := ⟨_, rfl⟩
  have hr4 : RdC w4 (some ⟨w3.heap.size, 0, none⟩) [errE t 30] := by rw [← hw4]; exact checks1 w3 _ _ _ hv
  have hb14 : Below w1.heap.size w1 w4 := by rw [← hw4]; exact hb13.alloc hb13.size _
  have hf := first_any (some ⟨w3.heap.size, 0, none⟩) 1 1 [errE t 30] w4 rfl (by decide) hr4
  rw [firstE_one] at hf
  have HF := Lib.hid hf
  clear hf hr4 hv
  go_wp2_with fail
  refine HF.out.mono ?_
  rintro e' w5 ⟨rfl, hb5⟩
  have hb15 := hb14.trans (hb5.mono hb14.size)
  have hb5' := hb1.trans (hb15.mono hb1.size)
  have k0 := k0.kept hb15
  have k1 := k1.kept hb15
  have c0 := k0.cell (i := 0) rfl
  have c1 := k0.cell (i := 1) rfl
  have c2 := k0.cell (i := 2) rfl
  have c3 := k0.cell (i := 3) rfl
  have d0 := k1.cell (i := 0) rfl
  have d1 := k1.cell (i := 1) rfl
  have d2 := k1.cell (i := 2) rfl
  have d3 := k1.cell (i := 3) rfl
  clear hw1 hw2 hw4 hb2 hb3 hb13 hb14 hb15 hb5
  cases t
  · rw [show errE false 30 = 30 from rfl]
    go_wp2_with fail
    go_ret2
    exact ⟨rfl, hb5'⟩
  · rw [show errE true 30 = 0 from rfl]
    have HPP := Lib.hid (HPAR.out rfl)
    clear HPAR
    go_wp2_with fail
    refine (HPP.out _).mono ?_
    rintro e' w6 ⟨rfl, hb6⟩
    go_wp2_with fail
    go_ret2
    exact ⟨rfl, hb5'.trans (hb6.mono hb5'.size)⟩

end Go.Proofs.Ythdhakpmhndbfaa

namespace Go.Proofs.Ythdhakpmhndbfaa
open Go.RowKit
variable {F : Fence} {n : Nat} {P : Program} {Q : Exit → Act → World → Prop}

theorem wpAnyIn_inv {l : List Oper} (hE : earlierB l = true) (I : (Nat → Bool) → Act → World → Prop)
    (step : ∀ L i a w, I L a w → i < l.length → L i = false → depsB l L i = true → wpOpIn F n P l.toArray Q i (I (fun j => L j || j == i)) a w)
    (done : ∀ L a w, (∀ i, i < l.length → L i = true) → I L a w → Q .normal a w) :
    ∀ (f : Nat) (listed : Array Bool) (L : Nat → Bool) (a : Act) (w : World), listed.size = l.length → (∀ i, listed.getD i false = L i) → (List.range l.length).countP (fun i => !L i) ≤ f → I L a w → wpAnyIn F n P .any l.toArray Q f listed a w := by
  intro f
  induction f with
  | zero =>
    intro listed L a w hs hL hc hI
    have hall : ∀ i, i < l.length → L i = true := by
      intro i hi
      have := List.countP_eq_zero.1 (Nat.le_zero.1 hc) i (List.mem_range.2 hi)
      simpa using this
    refine ⟨List.eq_nil_iff_forall_not_mem.2 fun i hi => ?_, done L a w hall hI⟩
    obtain ⟨h1, h2, _⟩ := (mem_ready_iff hs hL i).1 hi
    rw [hall i h1] at h2; cases h2
  | succ f ih =>
    intro listed L a w hs hL hc hI
    refine ⟨fun hr => done L a w (all_listed hE fun i hi h => ?_) hI, fun i hi => ?_⟩
    · cases hd : depsB l L i
      · rfl
      · have := (mem_ready_iff hs hL i).2 ⟨hi, h, hd⟩
        rw [hr] at this; cases this
    · obtain ⟨h1, h2, h3⟩ := (mem_ready_iff hs hL i).1 hi
      have := step L i a w hI h1 h2 h3
      refine wpOpIn_mono (fun a w h => ih _ (fun j => L j || j == i) a w (by simp [hs]) (fun j => ?_) ?_ h) this
      · rw [← hL]
        simp only [Array.getD_eq_getD_getElem?, Array.getElem?_setIfInBounds]
        by_cases e : i = j
        · subst e; simp [hs, h1]
        · have : (j == i) = false := by simp; omega
          simp [e, this]
      · have := countP_strict (p := fun j => !L j) (q := fun j => !(L j || j == i)) (List.range l.length) i (fun y hy => by simp at hy ⊢; exact hy.1) (List.mem_range.2 h1) (by simp [h2]) (by simp)
        omega

theorem wpIn_region_inv {id : Nat} {l : List Oper} {a : Act} {w : World} (hm : P.follows .mixedOrders = true) (hE : earlierB l = true) (I : (Nat → Bool) → Act → World → Prop) (h0 : I (fun _ => false) a w.drew)
    (step : ∀ L i a w, I L a w → i < l.length → L i = false → depsB l L i = true → wpOpIn F n P l.toArray Q i (I (fun j => L j || j == i)) a w)
    (done : ∀ L a w, (∀ i, i < l.length → L i = true) → I L a w → Q .normal a w) : (Code.region id l.toArray true).wpIn F n P Q a w := by
  refine wpIn_region_any hm (wpAnyIn_inv hE I step done _ _ (fun _ => false) _ _ (by simp) (fun i => ?_) ?_ h0)
  · exact getD_replicate_false _ _
  · refine Nat.le_trans (List.countP_le_length) ?_
    simp


theorem wpIn_post {o : Oper} {a : Act} {w : World} {K : Act → World → Prop} {Q Q' : Exit → Act → World → Prop} (hq : ∀ e a w, e ≠ .normal → Q e a w → Q' e a w) (hh : o.wpIn F n P a w K Q) : o.wpIn F n P a w K Q' := by
  have hL : LetsOut Q → LetsOut Q' := fun ⟨b, v, h⟩ => ⟨b, v, hq _ _ _ (by simp) h⟩
  unfold Oper.wpIn at *
  refine ⟨hh.1, ?_⟩
  have hh := hh.2
  generalize (o.semAt F.round a.eval).run P w = r at *
  cases r with
  | ok r w' =>
    cases r <;> simp only [Oper.uponIn] at hh ⊢ <;> try exact hh
    case enter f args =>
      exact ⟨hh.1, CallsIn.mono hh.2 fun e w'' he => by
        cases e with
        | returned v => exact he
        | panicked c => exact hq _ _ _ (by simp) he
        | outgrown => exact hL he⟩
    case round l f tmps assign body =>
      exact ⟨hh.1, RoundIn.mono hh.2 fun e w'' he => by
        cases e with
        | returned v => exact he
        | panicked c => exact hq _ _ _ (by simp) he
        | outgrown => exact hL he⟩
  | halt x w' =>
    cases x <;> simp only [Oper.uponIn] at hh ⊢
    case panic v => exact hq _ _ _ (by simp) hh

/-- One operation. -/
theorem wpOpIn_list {ops : Array Oper} {i : Nat} {o : Oper} {K : Act → World → Prop} {a : Act} {w : World} (ho : ops[i]? = some o) (h : wpListIn F n P ops (fun e a w => (e = .normal → K a w) ∧ (e ≠ .normal → Q e a w)) [o] a w) : wpOpIn F n P ops Q i K a w := by
  unfold wpOpIn
  unfold wpListIn at h
  simp only [ho]
  split at h
  · rename_i hw
    rw [if_pos hw]
    refine Oper.wpIn_mono (fun a w h => ?_) (wpIn_post (fun e a w he h => h.2 he) h)
    exact h.1 rfl
  · rename_i hw
    rw [if_neg hw]
    exact ⟨h.1, h.2.1 rfl⟩

/-- One operation behind the other. -/
def seqWIn (F : Fence) (n : Nat) (P : Program) (l : List Oper) (Q : Exit → Act → World → Prop) : Nat → Nat → Act → World → Prop
  | 0, _ => Q .normal
  | r + 1, k => wpOpIn F n P l.toArray Q k (seqWIn F n P l Q r (k + 1))

theorem wpIn_region_flow_tail {id : Nat} {l : List Oper} {w : World} (n0 : Nat) (tm : (Nat → Value) → Act) (f0 : Nat → Value) (hm : P.follows .mixedOrders = true) (hE : earlierB l = true) (hT : tailB l n0 = true) (hn0 : n0 < l.length) (R : Nat → Value → Prop) (S : World → Prop) (hS : S w.drew)
    (step : ∀ i, i < n0 → ∀ f w', S w' → (∀ j, depB l i j = true → R j (f j)) → wpOpIn F n P l.toArray Q i (fun a' w'' => ∃ v, a' = tm (upd f i v) ∧ R i v ∧ S w'') (tm f) w')
    (last : ∀ f w', S w' → (∀ j, j < n0 → R j (f j)) → seqWIn F n P l Q (l.length - n0) n0 (tm f) w') : (Code.region id l.toArray true).wpIn F n P Q (tm f0) w := by
  refine wpIn_region_inv hm hE (fun L a w => (∀ k, k < l.length → L k = true → depsB l L k = true) ∧ ((∃ f, a = tm f ∧ S w ∧ (∀ j, L j = true → j < n0) ∧ ∀ j, L j = true → R j (f j)) ∨ (∃ k, n0 < k ∧ k ≤ l.length ∧ (∀ j, j < l.length → (L j = true ↔ j < k)) ∧ seqWIn F n P l Q (l.length - k) k a w)))
    ⟨fun _ _ h => (by cases h), .inl ⟨f0, rfl, hS, fun _ h => (by cases h), fun _ h => (by cases h)⟩⟩ ?_ ?_
  · rintro L i a w' ⟨hcl, hI⟩ hi hL hd
    have hcl' : ∀ k, k < l.length → (L k || k == i) = true → depsB l (fun j => L j || j == i) k = true := fun k hk hk2 => by
      have hmn : ∀ j, L j = true → (L j || j == i) = true := fun j h => by rw [h]; rfl
      by_cases e : k = i
      · rw [e]; exact depsB_mono hd hmn
      · exact depsB_mono (hcl k hk (by simpa [e] using hk2)) hmn
    rcases hI with ⟨f, rfl, hs, hlt, hr⟩ | ⟨k, hk1, hk2, hk3, hk4⟩
    · by_cases hil : i < n0
      · refine wpOpIn_mono (fun a' w'' h => ?_) (step i hil f w' hs (fun j hj => hr j (depsB_dep hd hj)))
        obtain ⟨v, rfl, hv, hs'⟩ := h
        refine ⟨hcl', .inl ⟨_, rfl, hs', fun j hj => ?_, fun j hj => ?_⟩⟩
        · by_cases e : j = i
          · rw [e]; exact hil
          · exact hlt j (by simpa [e] using hj)
        · by_cases e : j = i
          · subst e; simp only [upd, if_true]; exact hv
          · simp only [upd, if_neg e]
            refine hr j ?_
            simpa [e] using hj
      · have hall := fun j hj => tail_all hT hi (by omega) hcl hd (i - j) j (Nat.le_refl _) hj
        have e : i = n0 := by
          rcases Nat.lt_or_ge n0 i with h | h
          · have := hlt n0 (hall n0 h); omega
          · omega
        subst e
        have hl := last f w' hs (fun j hj => hr j (hall j hj))
        rw [show l.length - i = (l.length - (i + 1)) + 1 by omega] at hl
        refine wpOpIn_mono (fun a' w'' h => ?_) hl
        refine ⟨hcl', .inr ⟨i + 1, by omega, by omega, fun j hj => ?_, h⟩⟩
        by_cases e : j = i
        · simp [e]
        · constructor
          · intro h
            have := hlt j (by simpa [e] using h)
            omega
          · intro h
            show (L j || j == i) = true
            rw [hall j (by omega)]; rfl
    · have hall := fun j hj => tail_all hT hi (by have : ¬ i < k := fun h => by rw [(hk3 i hi).2 h] at hL; cases hL
                                                  omega) hcl hd (i - j) j (Nat.le_refl _) hj
      have hik : ¬ i < k := fun h => by rw [(hk3 i hi).2 h] at hL; cases hL
      have e : i = k := by
        rcases Nat.lt_or_ge k i with h | h
        · have := (hk3 k (by omega)).1 (hall k h); omega
        · omega
      subst e
      rw [show l.length - i = (l.length - (i + 1)) + 1 by omega] at hk4
      refine wpOpIn_mono (fun a' w'' h => ?_) hk4
      refine ⟨hcl', .inr ⟨i + 1, by omega, by omega, fun j hj => ?_, h⟩⟩
      by_cases e : j = i
      · simp [e]
      · constructor
        · intro h
          have := (hk3 j hj).1 (by simpa [e] using h)
          omega
        · intro h
          show (L j || j == i) = true
          rw [hall j (by omega)]; rfl
  · rintro L a w' hall ⟨_, hI⟩
    rcases hI with ⟨f, rfl, hs, hlt, hr⟩ | ⟨k, hk1, hk2, hk3, hk4⟩
    · have := hlt n0 (hall n0 hn0)
      omega
    · have e : k = l.length := by
        rcases Nat.lt_or_ge k l.length with h | h
        · have := (hk3 k h).1 (hall k h); omega
        · omega
      subst e
      rw [Nat.sub_self] at hk4
      exact hk4


/-- Operations of known values that keep S (reads, calls, rounds), each behind what it waits for; the last ones in order. -/
theorem wpIn_region_pure {id : Nat} {l : List Oper} {a : Act} {w : World} (m : Nat) (vs : Nat → Value) (S : World → Prop) (hm : P.follows .mixedOrders = true) (hE : earlierB l = true) (hT : tailB l m = true) (hm0 : m < l.length) (hS : S w.drew)
    (step : ∀ i, i < m → ∀ f w', S w' → (∀ j, depB l i j = true → f j = vs j) → wpOpIn F n P l.toArray Q i (fun a' w'' => a' = tmOf a l (upd f i (vs i)) ∧ S w'') (tmOf a l f) w')
    (last : ∀ f w', S w' → (∀ j, j < m → f j = vs j) → seqWIn F n P l Q (l.length - m) m (tmOf a l f) w') : (Code.region id l.toArray true).wpIn F n P Q a w := by
  have h := wpIn_region_flow_tail (F := F) (n := n) (Q := Q) (id := id) (w := w) m (tmOf a l) (slotsOf a.tmps (l.map (·.dst)) 0) hm hE hT hm0 (fun i v => v = vs i) S hS
    (fun i hi f w' hs hd => wpOpIn_mono (fun a' w'' hh => ⟨vs i, hh.1, rfl, hh.2⟩) (step i hi f w' hs hd)) last
  rw [tmOf_same] at h
  exact h

end Go.Proofs.Ythdhakpmhndbfaa

namespace Go.Proofs.Ythdhakpmhndbfaa
open Go.RowKit Go.Shelf
attribute [local go_sem] Oper.semAt_some

/-- A coefficient by its place. -/
def vg (q : V4) (i : Nat) : Int := if i = 0 then q.a else if i = 1 then q.b else if i = 2 then q.c else q.d
theorem Blk.vg {W : World} {B : Nat} {q : V4} {t : TypeId} (h : Blk W B #[.int .i64 q.a, .int .i64 q.b, .int .i64 q.c, .int .i64 q.d] t) {i : Nat} (hi : i < 4) : W.cell? ⟨B, i, none⟩ = some (.int .i64 (vg q i)) := by
  have h4 : i = 0 ∨ i = 1 ∨ i = 2 ∨ i = 3 := by omega
  rcases h4 with rfl | rfl | rfl | rfl <;> exact h.cell rfl

def encP (p q : V4) (i : Nat) : Array Value := #[.int .i64 (vg p i), .int .i64 (vg q i)]

set_option maxHeartbeats 1000000 in
theorem pairs_in (F : Fence) (n : Nat) (h5 : F.fn 78) (hro : F.round = none) (p q : V4) (w : World) :
    CallsIn F n Try.prog 78 #[.agg #[.int .i64 p.a, .int .i64 p.b, .int .i64 p.c, .int .i64 p.d], .agg #[.int .i64 q.a, .int .i64 q.b, .int .i64 q.c, .int .i64 q.d]] w fun e w' => e = .returned (.func (.func 100) #[] #[.pointer (some ⟨w.heap.size, 0, none⟩), .pointer (some ⟨w.heap.size + 1, 0, none⟩)]) ∧ w' = (w.alloc (.cells #[.int .i64 p.a, .int .i64 p.b, .int .i64 p.c, .int .i64 p.d] 22)).alloc (.cells #[.int .i64 q.a, .int .i64 q.b, .int .i64 q.c, .int .i64 q.d] 22) := by
  refine callsIn_of_wp Try.func78 rfl h5 ?_ hro
  simp only [Try.ntmps78, List.size_toArray, List.length_cons, List.length_nil, Nat.reduceAdd, Nat.reduceSub, Array.replicate_succ, Array.replicate_zero, List.push_toArray, List.append_toArray, List.nil_append, List.cons_append]
  gi_wp2
  go_ret
  exact ⟨rfl, rfl⟩

set_option maxRecDepth 100000 in
set_option maxHeartbeats 4000000 in
theorem pairs1_in (F : Fence) (n : Nat) (h7 : F.fn 100) (hro : F.round = none) (hn : 1 ≤ n) (l Bp Bq : Nat) (S : Nat → Prop) (p q : V4) (J Jx : List Nat → World → Prop)
    (hdr : ∀ pre W, J pre W → J pre W.drew)
    (hY : ∀ pre x W, J pre W → pre.length < 4 → YieldAt F (n - 1) Try.prog l (encP p q x) W fun e W' =>
      (e = .returned (.bool true) ∧ J (pre ++ [x]) W' ∧ KeepsAt S W W') ∨ (e = .returned (.bool false) ∧ Jx (pre ++ [x]) W'))
    (W : World) (hp : Blk W Bp #[.int .i64 p.a, .int .i64 p.b, .int .i64 p.c, .int .i64 p.d] 22) (hq : Blk W Bq #[.int .i64 q.a, .int .i64 q.b, .int .i64 q.c, .int .i64 q.d] 22) (hSp : S Bp) (hSq : S Bq) (h0 : J [] W) :
    CallsIn F n Try.prog 100 #[.func (.yield l) #[] #[], .pointer (some ⟨Bp, 0, none⟩), .pointer (some ⟨Bq, 0, none⟩)] W fun e W' => (∃ v, e = .returned v) ∧
      ((∃ ys, ys = List.range 4 ∧ J ys W') ∨ (∃ pre, (∃ k, k ≤ 4 ∧ pre = List.range k) ∧ Jx pre W')) := by
  refine callsIn_of_wp Try.func100 rfl h7 ?_ hro
  simp only [Try.ntmps100, List.size_toArray, List.length_cons, List.length_nil, Nat.reduceAdd, Nat.reduceSub, Array.replicate_succ, Array.replicate_zero, List.push_toArray, List.append_toArray, List.nil_append, List.cons_append]
  gi_wp2
  gi_loopw [5] (fun i wr => ∃ k : Nat, k ≤ 4 ∧ i = .int .i64 (k : Int) ∧ J (List.range k) wr ∧ KeepsAt S W wr)
    (fun i _ => (4 - intOf i).toNat)
  case atStart => exact ⟨0, Nat.zero_le _, rfl, h0, KeepsAt.refl _ _⟩
  case round =>
    obtain ⟨k, hk, rfl, hJs, hnx⟩ := hrel
    by_cases hlt : k < 4
    · have hkp : wr.cell? ⟨Bp, k, none⟩ = some (.int .i64 (vg p k)) := (hnx.cell (p := ⟨Bp, k, none⟩) hSp).trans (hp.vg hlt)
      have hkq : wr.cell? ⟨Bq, k, none⟩ = some (.int .i64 (vg q k)) := (hnx.cell (p := ⟨Bq, k, none⟩) hSq).trans (hq.vg hlt)
      have hki : (k : Int) < 4 := by omega
      obtain ⟨fn, tmps, assign, body, hy, hR⟩ := hY _ k wr.drew (hdr _ _ hJs) (by rw [List.length_range]; exact hlt)
      unfold encP at hy
      gi_wp2
      refine wpIn_region_pure 7 (fun i => match i with | 0 => .func (.yield l) #[] #[] | 1 => .int .i64 (k : Int) | 2 => .pointer (some ⟨Bp, k, none⟩) | 3 => .int .i64 (vg p k) | 4 => .int .i64 (k : Int) | 5 => .pointer (some ⟨Bq, k, none⟩) | _ => .int .i64 (vg q k)) (fun ww => wr.drew = ww) (by kernel_rfl) (by kernel_rfl) (by kernel_rfl) ?_ rfl ?_ ?_
      · decide
      · rintro i hi f ww rfl hd
        rcases i with _ | _ | _ | _ | _ | _ | _ | i
        · refine wpOpIn_list rfl ?_
          simp only [tmOf, putAll, List.map_cons, List.map_nil, List.setIfInBounds_toArray, List.set_cons_zero, List.set_cons_succ]
          gi_wp2
          simp [upd]
        · refine wpOpIn_list rfl ?_
          simp only [tmOf, putAll, List.map_cons, List.map_nil, List.setIfInBounds_toArray, List.set_cons_zero, List.set_cons_succ]
          gi_wp2
          simp [upd]
        · have g1 : f 1 = .int .i64 (k : Int) := hd 1 (by kernel_rfl)
          refine wpOpIn_list rfl ?_
          simp only [tmOf, putAll, List.map_cons, List.map_nil, List.setIfInBounds_toArray, List.set_cons_zero, List.set_cons_succ]
          gi_wp2
          simp [upd, g1]
        · have g2 : f 2 = .pointer (some ⟨Bp, k, none⟩) := hd 2 (by kernel_rfl)
          refine wpOpIn_list rfl ?_
          simp only [tmOf, putAll, List.map_cons, List.map_nil, List.setIfInBounds_toArray, List.set_cons_zero, List.set_cons_succ]
          gi_wp2
          simp [upd, g2]
        · refine wpOpIn_list rfl ?_
          simp only [tmOf, putAll, List.map_cons, List.map_nil, List.setIfInBounds_toArray, List.set_cons_zero, List.set_cons_succ]
          gi_wp2
          simp [upd]
        · have g4 : f 4 = .int .i64 (k : Int) := hd 4 (by kernel_rfl)
          refine wpOpIn_list rfl ?_
          simp only [tmOf, putAll, List.map_cons, List.map_nil, List.setIfInBounds_toArray, List.set_cons_zero, List.set_cons_succ]
          gi_wp2
          simp [upd, g4]
        · have g5 : f 5 = .pointer (some ⟨Bq, k, none⟩) := hd 5 (by kernel_rfl)
          refine wpOpIn_list rfl ?_
          simp only [tmOf, putAll, List.map_cons, List.map_nil, List.setIfInBounds_toArray, List.set_cons_zero, List.set_cons_succ]
          gi_wp2
          simp [upd, g5]
        · omega
      · rintro f ww rfl hd
        have g0 : f 0 = .func (.yield l) #[] #[] := hd 0 (by decide)
        have g3 : f 3 = .int .i64 (vg p k) := hd 3 (by decide)
        have g6 : f 6 = .int .i64 (vg q k) := hd 6 (by decide)
        simp only [seqWIn, tmOf, putAll, List.map_cons, List.map_nil, List.setIfInBounds_toArray, List.set_cons_zero, List.set_cons_succ, List.length_cons, List.length_nil]
        refine wpOpIn_list rfl ?_
        gi_wp2
        refine hR.mono ?_
        rintro e W3 (⟨rfl, hJ3, hk3⟩ | ⟨rfl, hJx3⟩)
        · gi_wp2
          refine wpOpIn_list rfl ?_
          gi_wp2
          refine ⟨⟨k + 1, by omega, by simp, ?_, hnx.trans hk3⟩, by simp [intOf]; omega⟩
          rw [List.range_succ]; exact hJ3
        · gi_wp2
          refine wpOpIn_list rfl ?_
          gi_wp2
          refine bodyPost_ret (results_none rfl _ _ _) rfl ?_
          exact ⟨⟨_, rfl⟩, .inr ⟨_, ⟨k + 1, by omega, List.range_succ.symm⟩, hJx3⟩⟩
    · obtain rfl : k = 4 := by omega
      gi_wp2
      go_end0
      exact ⟨⟨_, rfl⟩, .inl ⟨_, rfl, hJs⟩⟩

/-- All four places, or the first of them. -/
theorem pairs_stops (F : Fence) (n : Nat) (h7 : F.fn 100) (hro : F.round = none) (hn : 1 ≤ n) (Bp Bq : Nat) (S : Nat → Prop) (p q : V4) (w : World) (hS : ∀ b, S b → b < w.heap.size)
    (hp : Blk w Bp #[.int .i64 p.a, .int .i64 p.b, .int .i64 p.c, .int .i64 p.d] 22) (hq : Blk w Bq #[.int .i64 q.a, .int .i64 q.b, .int .i64 q.c, .int .i64 q.d] 22) (hSp : S Bp) (hSq : S Bq) :
    SeqStopsK F n Try.prog 100 #[.pointer (some ⟨Bp, 0, none⟩), .pointer (some ⟨Bq, 0, none⟩)] (encP p q) (KeepsAt S) (fun ys => ys = List.range 4)
      (fun pre => ∃ k, k ≤ 4 ∧ pre = List.range k) 4 w := fun l J Jx W hW hJ _ hY h0 =>
  pairs1_in F n h7 hro hn l Bp Bq S p q J Jx (fun pre W h => hJ pre W W.drew none h ⟨rfl, rfl, rfl, Nat.le_refl _, fun _ _ _ => rfl⟩ (fun r e => by cases e)) hY W (hp.below hW hp.lt) (hq.below hW hq.lt) hSp hSq h0

end Go.Proofs.Ythdhakpmhndbfaa

namespace Go.Proofs.Ythdhakpmhndbfaa
open Go.RowKit Go.Shelf
attribute [local go_sem] Oper.semAt_some sumV

/-- The sum of products over some places. -/
def dotL (p q : V4) (ks : List Nat) : Int := ks.foldl (fun s k => s + vg p k * vg q k) 0
theorem dotL_snoc (p q : V4) (ks : List Nat) (k : Nat) : dotL p q (ks ++ [k]) = dotL p q ks + vg p k * vg q k := by simp [dotL, List.foldl_append]
theorem vg_in {q : V4} (h : InV q) (k : Nat) : InI64 (vg q k) := by
  unfold vg
  split
  · exact h.1
  · split
    · exact h.2.1
    · split
      · exact h.2.2.1
      · exact h.2.2.2

theorem Blk.own {W W' : World} {B : Nat} {cs : Array Value} {t : TypeId} {row : Option Nat} (h : Blk W B cs t) (hg : W.grownBy W' row) (hrow : ∀ r, row = some r → ∃ o : Obj, W.heap[r]? = some o ∧ o.isCells = false) : Blk W' B cs t := by
  unfold Blk at h ⊢
  exact (grownBy_keeps_cells hg hrow h rfl).trans h

set_option maxRecDepth 100000 in
set_option maxHeartbeats 4000000 in
theorem productP_any (p q : V4) (w : World) (hip : InV p) (hiq : InV q) :
    Calls Try.prog 53 #[.agg #[.int .i64 p.a, .int .i64 p.b, .int .i64 p.c, .int .i64 p.d], .agg #[.int .i64 q.a, .int .i64 q.b, .int .i64 q.c, .int .i64 q.d]] w fun e w' => e = .returned (sumV (dotL p q (List.range 4))) ∧ Below w.heap.size w w' := by
  refine (callsIn_wide (n := 6)).1 ?_
  refine callsIn_of_wp_marks Try.func53 rfl trivial ?_ rfl
  simp only [Try.ntmps53, List.size_toArray, List.length_cons, List.length_nil, Nat.reduceAdd, Nat.reduceSub, Array.replicate_succ, Array.replicate_zero, List.push_toArray, List.append_toArray, List.nil_append, List.cons_append]
  gi_wp2_with (refine ⟨trivial, ?_⟩; gi_at_call 78; refine (pairs_in Fence.wide _ trivial rfl p q _).mono ?_; rintro e w' ⟨rfl, rfl⟩)
  obtain ⟨W0, hW0⟩ : ∃ W0, ((((((w.alloc (.cells #[.int .i64 p.a, .int .i64 p.b, .int .i64 p.c, .int .i64 p.d] 22)).alloc (.cells #[.int .i64 q.a, .int .i64 q.b, .int .i64 q.c, .int .i64 q.d] 22)).alloc (.cells #[.int .u64 0, .int .u64 0] 76)).alloc (.cells #[.int .u64 0, .int .u64 0] 76)).alloc (.cells #[.int .i64 p.a, .int .i64 p.b, .int .i64 p.c, .int .i64 p.d] 22)).alloc (.cells #[.int .i64 q.a, .int .i64 q.b, .int .i64 q.c, .int .i64 q.d] 22)) = W0 := ⟨_, rfl⟩
  have hB0 : Below w.heap.size w W0 := by
    rw [← hW0]
    exact (bw4 w _ _ _ _).trans ((bw2 _ _ _).mono (bw4 w _ _ _ _).size)
  have kr : Blk W0 (w.heap.size + 1 + 1) #[.int .u64 0, .int .u64 0] 76 := by rw [← hW0]; exact (((Blk.new' _ _ _ (by simp)).alloc _).alloc _).alloc _
  have kt : Blk W0 (w.heap.size + 1 + 1 + 1) #[.int .u64 0, .int .u64 0] 76 := by rw [← hW0]; exact ((Blk.new' _ _ _ (by simp)).alloc _).alloc _
  have kp : Blk W0 (w.heap.size + 1 + 1 + 1 + 1) #[.int .i64 p.a, .int .i64 p.b, .int .i64 p.c, .int .i64 p.d] 22 := by rw [← hW0]; exact (Blk.new' _ _ _ (by simp)).alloc _
  have kq : Blk W0 (w.heap.size + 1 + 1 + 1 + 1 + 1) #[.int .i64 q.a, .int .i64 q.b, .int .i64 q.c, .int .i64 q.d] 22 := by rw [← hW0]; exact Blk.new' _ _ _ (by simp)
  have hsz : W0.heap.size = w.heap.size + 1 + 1 + 1 + 1 + 1 + 1 := by rw [← hW0]; simp
  rw [hW0]
  clear hW0
  refine wpIn_rangeFunc_ownF rfl (by omega) (gf := 100) (lb := #[.pointer (some ⟨w.heap.size + 1 + 1 + 1 + 1, 0, none⟩), .pointer (some ⟨w.heap.size + 1 + 1 + 1 + 1 + 1, 0, none⟩)]) rfl trivial (enters_of Try.func100 (by kernel_rfl) rfl)
    (pairs_stops Fence.wide 5 trivial rfl (by omega) (w.heap.size + 1 + 1 + 1 + 1) (w.heap.size + 1 + 1 + 1 + 1 + 1) (fun b => b = w.heap.size + 1 + 1 + 1 + 1 ∨ b = w.heap.size + 1 + 1 + 1 + 1 + 1) p q W0 (fun b hb => by omega) kp kq (Or.inl rfl) (Or.inr rfl))
    KeepsAt.trans (KeepsAt.putObj (fun b hb => by omega)) (Below.refl _ _) (fun _ => rfl)
    (fun pre W => (Blk W (w.heap.size + 1 + 1 + 1) #[.int .u64 (hiW (dotL p q pre)), .int .u64 (loW (dotL p q pre))] 76 ∧ Blk W (w.heap.size + 1 + 1) #[.int .u64 0, .int .u64 0] 76 ∧ W0.heap.size ≤ W.heap.size) ∧ Below w.heap.size w W)
    (fun c pre W => False ∧ Below w.heap.size w W)
    (OwnFrom.and (Own.from (fun s A B row hs hg hr => ⟨hs.1.own hg hr, hs.2.1.own hg hr, Nat.le_trans hs.2.2 hg.size⟩) _) (ownFrom_below (Nat.le_refl _) (by omega)))
    (fun c => OwnFrom.and (Own.from (fun s A B row hs hg hr => hs) _) (ownFrom_below (Nat.le_refl _) (by omega)))
    ⟨⟨kt, kr, Nat.le_refl _⟩, hB0⟩
    (fun x => { tmps := #[.agg #[.int .i64 p.a, .int .i64 p.b, .int .i64 p.c, .int .i64 p.d], .agg #[.int .i64 q.a, .int .i64 q.b, .int .i64 q.c, .int .i64 q.d], .pointer (some ⟨w.heap.size, 0, none⟩), .pointer (some ⟨w.heap.size + 1, 0, none⟩), .pointer (some ⟨w.heap.size + 1 + 1, 0, none⟩), .pointer (some ⟨w.heap.size + 1 + 1 + 1, 0, none⟩), .int .i64 (vg p x), .int .i64 (vg q x), .agg #[.int .i64 p.a, .int .i64 p.b, .int .i64 p.c, .int .i64 p.d], .agg #[.int .i64 q.a, .int .i64 q.b, .int .i64 q.c, .int .i64 q.d], .func (.func 100) #[] #[.pointer (some ⟨w.heap.size + 1 + 1 + 1 + 1, 0, none⟩), .pointer (some ⟨w.heap.size + 1 + 1 + 1 + 1 + 1, 0, none⟩)], .int .i64 (vg p x), .int .i64 (vg q x), undef, undef, undef, undef, undef, undef], defers := [] }) ?assign ?body ?done ?stop
  case assign =>
    intro l x W K hK
    unfold encP
    gi_wp2
    exact hK
  case body =>
    rintro l pre k W ⟨⟨kt, kr, hzz⟩, hB⟩ hlt
    have hp := fun W' => product_any (vg p k) (vg q k) W' (vg_in hip k).1 (vg_in hip k).2 (vg_in hiq k).1 (vg_in hiq k).2
    have hs := fun W' => sumsPlus_any (dotL p q pre) (vg p k * vg q k) W'
    rw [← dotL_snoc] at hs
    unfold sumV at hp hs
    generalize hUH : hiW (dotL p q (pre ++ [k])) = uh at *
    generalize hUL : loW (dotL p q (pre ++ [k])) = ul at *
    have HU := Lib.hid (And.intro hUH hUL)
    clear hUH hUL
    generalize hiW (dotL p q pre) = sh at *
    generalize loW (dotL p q pre) = sl at *
    generalize hiW (vg p k * vg q k) = xh at *
    generalize loW (vg p k * vg q k) = xl at *
    have HP := Lib.hid hp
    have HS := Lib.hid hs
    clear hp hs
    gi_wp2
    refine wpIn_region_pure 5 (fun i => match i with | 0 => .agg #[.int .u64 sh, .int .u64 sl] | 1 => .int .i64 (vg p k) | 2 => .int .i64 (vg q k) | 3 => .agg #[.int .u64 xh, .int .u64 xl] | _ => .agg #[.int .u64 uh, .int .u64 ul]) (fun ww => Below W.heap.size W ww) (by kernel_rfl) (by kernel_rfl) (by kernel_rfl) ?_ ((Below.refl _ _).drew) ?_ ?_
    · decide
    · rintro i hi f ww hS hd
      have f0 := (kt.kept hS).cell (i := 0) rfl
      have f1 := (kt.kept hS).cell (i := 1) rfl
      rcases i with _ | _ | _ | _ | _ | i
      · refine wpOpIn_list rfl ?_
        simp only [tmOf, putAll, List.map_cons, List.map_nil, List.setIfInBounds_toArray, List.set_cons_zero, List.set_cons_succ]
        gi_wp2
        simp [upd, hS]
      · refine wpOpIn_list rfl ?_
        simp only [tmOf, putAll, List.map_cons, List.map_nil, List.setIfInBounds_toArray, List.set_cons_zero, List.set_cons_succ]
        gi_wp2
        simp [upd, hS]
      · refine wpOpIn_list rfl ?_
        simp only [tmOf, putAll, List.map_cons, List.map_nil, List.setIfInBounds_toArray, List.set_cons_zero, List.set_cons_succ]
        gi_wp2
        simp [upd, hS]
      · have g1 : f 1 = .int .i64 (vg p k) := hd 1 (by kernel_rfl)
        have g2 : f 2 = .int .i64 (vg q k) := hd 2 (by kernel_rfl)
        refine wpOpIn_list rfl ?_
        simp only [tmOf, putAll, List.map_cons, List.map_nil, List.setIfInBounds_toArray, List.set_cons_zero, List.set_cons_succ]
        gi_wp2_with (refine ⟨trivial, ?_⟩; gi_at_call 80; refine (CallsIn.inRound l (callsIn_wide.2 (HP.out _))).mono ?_; rintro e w' ⟨rfl, hbf⟩)
        simp [upd, g1, g2]
        exact hS.trans (hbf.mono hS.size)
      · have g0 : f 0 = .agg #[.int .u64 sh, .int .u64 sl] := hd 0 (by kernel_rfl)
        have g3 : f 3 = .agg #[.int .u64 xh, .int .u64 xl] := hd 3 (by kernel_rfl)
        refine wpOpIn_list rfl ?_
        simp only [tmOf, putAll, List.map_cons, List.map_nil, List.setIfInBounds_toArray, List.set_cons_zero, List.set_cons_succ]
        gi_wp2_with (refine ⟨trivial, ?_⟩; gi_at_call 79; refine (CallsIn.inRound l (callsIn_wide.2 (HS.out _))).mono ?_; rintro e w' ⟨rfl, hbf⟩)
        simp [upd, g0, g3]
        exact hS.trans (hbf.mono hS.size)
      · omega
    · rintro f ww hS hd
      have K0 := kt.kept hS
      have K1 := kr.kept hS
      have e0 := K0.cell (i := 0) rfl
      have e1 := K0.cell (i := 1) rfl
      have e2 := K0.frozen 0
      have e3 := K0.frozen 1
      have g4 : f 4 = .agg #[.int .u64 uh, .int .u64 ul] := hd 4 (by decide)
      simp only [seqWIn, tmOf, putAll, List.map_cons, List.map_nil, List.setIfInBounds_toArray, List.set_cons_zero, List.set_cons_succ, List.length_cons, List.length_nil]
      refine wpOpIn_list rfl ?_
      gi_wp2
      refine ⟨((KeepsOthers.of_grownBy (grown_of_below hS) fun j o e hj => by cases e).trans (KeepsOthers.setCell _ _ _)).trans (KeepsOthers.setCell _ _ _),
        ((KeepsAt.of_below hS (by rintro b (rfl | rfl) <;> omega)).setCell _ _ (by simp only; omega)).setCell _ _ (by simp only; omega), ⟨?_, ?_, ?_⟩, ((hB.trans (hS.mono hB.size)).setCell (by simp only; omega) _).setCell (by simp only; omega) _⟩
      · rw [HU.out.1, HU.out.2]; exact (K0.set_eq 0 _ rfl).set_eq 1 _ rfl
      · exact (K1.other (C := w.heap.size + 1 + 1 + 1) 0 _ (by omega)).other (C := w.heap.size + 1 + 1 + 1) 1 _ (by omega)
      · have := hS.size; simp; omega
  case done =>
    rintro D zs W hD rfl ⟨⟨kt, kr, hzz⟩, hB⟩ hK
    have e0 := kt.cell (i := 0) rfl
    have e1 := kt.cell (i := 1) rfl
    have d0 := kr.cell (i := 0) rfl
    have d1 := kr.cell (i := 1) rfl
    have d2 := kr.frozen 0
    have d3 := kr.frozen 1
    generalize hUH : hiW (dotL p q (List.range 4)) = uh at *
    generalize hUL : loW (dotL p q (List.range 4)) = ul at *
    have HU := Lib.hid (And.intro hUH hUL)
    clear hUH hUL
    gi_wp2
    have hK' := ((KeepsOthers.setCell W ⟨w.heap.size + 1 + 1, 0, none⟩ (.int .u64 uh)).trans (KeepsOthers.setCell _ ⟨w.heap.size + 1 + 1, 1, none⟩ (.int .u64 ul))).same D _ hK rfl
    refine ⟨by simp, .inl ⟨_, _, rfl, run_takeDeferred hK', ?_⟩⟩
    have L := ((kr.set_eq 0 (.int .u64 uh) rfl).set_eq 1 (.int .u64 ul) rfl).own (grownBy_putObj' _ D (.deferred none)) (fun r e => by cases e; exact ⟨_, hK', rfl⟩)
    have z0 := L.cell (i := 0) rfl
    have z1 := L.cell (i := 1) rfl
    refine ⟨.agg #[.int .u64 uh, .int .u64 ul], ?_, by unfold sumV; rw [HU.out.1, HU.out.2], ((hB.setCell (p := ⟨w.heap.size + 1 + 1, 0, none⟩) (by simp only; omega) _).setCell (p := ⟨w.heap.size + 1 + 1, 1, none⟩) (by simp only; omega) _).trans (belowK_b (w := w) (Nat.le_refl _) _ D _ _ (by omega) hK' rfl rfl)⟩
    simp [results, Try.f53, go_sem, z0, z1]
  case stop =>
    rintro D c pre W hD _ ⟨h, _⟩
    exact h.elim

end Go.Proofs.Ythdhakpmhndbfaa

namespace Go.Proofs.Ythdhakpmhndbfaa
open Go.RowKit Go.Shelf
attribute [local go_sem] Oper.semAt_some

theorem cmp_int64 (a b : Int) (w : World) :
    Calls Try.prog 86 #[.int .i64 a, .int .i64 b] w fun e w' => e = .returned (.int .i64 (sgnCmp a b)) ∧ w = w' := by
  rcases Int.lt_trichotomy a b with h | rfl | h
  · have H := Lib.hid (sgnCmp_lt h)
    go_enter Try.func86, Try.ntmps86
    go_wp2
    go_ret
    exact ⟨ret_int H.out.symm, rfl⟩
  · have H := Lib.hid (sgnCmp_eq a)
    go_enter Try.func86, Try.ntmps86
    go_wp2
    go_ret
    exact ⟨ret_int H.out.symm, rfl⟩
  · have H := Lib.hid (sgnCmp_gt h)
    go_enter Try.func86, Try.ntmps86
    go_wp2
    go_ret
    exact ⟨ret_int H.out.symm, rfl⟩

/-- The order by the first coefficient that differs. -/
def cmpV (p q : V4) : Int := if p.a ≠ q.a then sgnCmp p.a q.a else if p.b ≠ q.b then sgnCmp p.b q.b else if p.c ≠ q.c then sgnCmp p.c q.c else sgnCmp p.d q.d
theorem cmpV_at {p q : V4} {j : Nat} (hj : j < 4) (h : ∀ i ∈ List.range j, vg p i = vg q i) (hne : vg p j ≠ vg q j) : cmpV p q = sgnCmp (vg p j) (vg q j) := by
  have h0 : 0 < j → p.a = q.a := fun hl => h 0 (List.mem_range.2 hl)
  have h1 : 1 < j → p.b = q.b := fun hl => h 1 (List.mem_range.2 hl)
  have h2 : 2 < j → p.c = q.c := fun hl => h 2 (List.mem_range.2 hl)
  rcases j with _ | _ | _ | _ | j
  · rw [cmpV, if_pos (show p.a ≠ q.a from hne)]; rfl
  · rw [cmpV, if_neg (fun hh => hh (h0 (by omega))), if_pos (show p.b ≠ q.b from hne)]; rfl
  · rw [cmpV, if_neg (fun hh => hh (h0 (by omega))), if_neg (fun hh => hh (h1 (by omega))), if_pos (show p.c ≠ q.c from hne)]; rfl
  · rw [cmpV, if_neg (fun hh => hh (h0 (by omega))), if_neg (fun hh => hh (h1 (by omega))), if_neg (fun hh => hh (h2 (by omega)))]; rfl
  · omega
theorem cmpV_none {p q : V4} (h : ∀ i ∈ List.range 4, vg p i = vg q i) : cmpV p q = 0 := by
  have h0 : p.a = q.a := h 0 (List.mem_range.2 (by omega))
  have h1 : p.b = q.b := h 1 (List.mem_range.2 (by omega))
  have h2 : p.c = q.c := h 2 (List.mem_range.2 (by omega))
  have h3 : p.d = q.d := h 3 (List.mem_range.2 (by omega))
  rw [cmpV, if_neg (fun hh => hh h0), if_neg (fun hh => hh h1), if_neg (fun hh => hh h2), h3, sgnCmp_eq]

theorem range_snoc {k x : Nat} {pre : List Nat} (h : List.range k = pre ++ [x]) : pre = List.range x ∧ k = x + 1 := by
  cases k with
  | zero => simp at h
  | succ j =>
    rw [List.range_succ] at h
    have := List.append_inj' h rfl
    have h2 : j = x := by simpa using this.2
    subst h2
    exact ⟨this.1.symm, rfl⟩

theorem bw5 (w : World) (a b c d e : Obj) : Below w.heap.size w (((((w.alloc a).alloc b).alloc c).alloc d).alloc e) :=
  (bw4 w a b c d).alloc (bw4 w a b c d).size _

set_option maxRecDepth 100000 in
set_option maxHeartbeats 4000000 in
theorem compareP_any (p q : V4) (w : World) :
    Calls Try.prog 63 #[.agg #[.int .i64 p.a, .int .i64 p.b, .int .i64 p.c, .int .i64 p.d], .agg #[.int .i64 q.a, .int .i64 q.b, .int .i64 q.c, .int .i64 q.d]] w fun e w' => e = .returned (.int .i64 (cmpV p q)) ∧ Below w.heap.size w w' := by
  refine (callsIn_wide (n := 6)).1 ?_
  refine callsIn_of_wp_marks Try.func63 rfl trivial ?_ rfl
  simp only [Try.ntmps63, List.size_toArray, List.length_cons, List.length_nil, Nat.reduceAdd, Nat.reduceSub, Array.replicate_succ, Array.replicate_zero, List.push_toArray, List.append_toArray, List.nil_append, List.cons_append]
  gi_wp2_with (refine ⟨trivial, ?_⟩; gi_at_call 78; refine (pairs_in Fence.wide _ trivial rfl p q _).mono ?_; rintro e w' ⟨rfl, rfl⟩)
  obtain ⟨W0, hW0⟩ : ∃ W0, (((((w.alloc (.cells #[.int .i64 p.a, .int .i64 p.b, .int .i64 p.c, .int .i64 p.d] 23)).alloc (.cells #[.int .i64 q.a, .int .i64 q.b, .int .i64 q.c, .int .i64 q.d] 23)).alloc (.cells #[.int .i64 0] 3)).alloc (.cells #[.int .i64 p.a, .int .i64 p.b, .int .i64 p.c, .int .i64 p.d] 22)).alloc (.cells #[.int .i64 q.a, .int .i64 q.b, .int .i64 q.c, .int .i64 q.d] 22)) = W0 := ⟨_, rfl⟩
  have hB0 : Below w.heap.size w W0 := by rw [← hW0]; exact bw5 w _ _ _ _ _
  have kr : Blk W0 (w.heap.size + 1 + 1) #[.int .i64 0] 3 := by rw [← hW0]; exact ((Blk.new' _ _ _ (by simp)).alloc _).alloc _
  have kp : Blk W0 (w.heap.size + 1 + 1 + 1) #[.int .i64 p.a, .int .i64 p.b, .int .i64 p.c, .int .i64 p.d] 22 := by rw [← hW0]; exact (Blk.new' _ _ _ (by simp)).alloc _
  have kq : Blk W0 (w.heap.size + 1 + 1 + 1 + 1) #[.int .i64 q.a, .int .i64 q.b, .int .i64 q.c, .int .i64 q.d] 22 := by rw [← hW0]; exact Blk.new' _ _ _ (by simp)
  have hsz : W0.heap.size = w.heap.size + 1 + 1 + 1 + 1 + 1 := by rw [← hW0]; simp
  rw [hW0]
  clear hW0
  refine wpIn_rangeFunc_ownF rfl (by omega) (gf := 100) (lb := #[.pointer (some ⟨w.heap.size + 1 + 1 + 1, 0, none⟩), .pointer (some ⟨w.heap.size + 1 + 1 + 1 + 1, 0, none⟩)]) rfl trivial (enters_of Try.func100 (by kernel_rfl) rfl)
    (pairs_stops Fence.wide 5 trivial rfl (by omega) (w.heap.size + 1 + 1 + 1) (w.heap.size + 1 + 1 + 1 + 1) (fun b => b = w.heap.size + 1 + 1 + 1 ∨ b = w.heap.size + 1 + 1 + 1 + 1) p q W0 (fun b hb => by omega) kp kq (Or.inl rfl) (Or.inr rfl))
    KeepsAt.trans (KeepsAt.putObj (fun b hb => by omega)) (Below.refl _ _) (fun _ => rfl)
    (fun pre W => (Hid (∀ j ∈ pre, vg p j = vg q j) ∧ Blk W (w.heap.size + 1 + 1) #[.int .i64 0] 3 ∧ W0.heap.size ≤ W.heap.size) ∧ Below w.heap.size w W)
    (fun c pre W => (c = .ret ∧ Hid (∃ pre' x, pre = pre' ++ [x] ∧ (∀ j ∈ pre', vg p j = vg q j) ∧ vg p x ≠ vg q x ∧ Blk W (w.heap.size + 1 + 1) #[.int .i64 (sgnCmp (vg p x) (vg q x))] 3)) ∧ Below w.heap.size w W)
    (OwnFrom.and (Own.from (fun s A B row hs hg hr => ⟨hs.1, hs.2.1.own hg hr, Nat.le_trans hs.2.2 hg.size⟩) _) (ownFrom_below (Nat.le_refl _) (by omega)))
    (fun c => OwnFrom.and (Own.from (fun s A B row hs hg hr => ⟨hs.1, (by obtain ⟨pre', x, e1, e2, e3, e4⟩ := hs.2; exact ⟨pre', x, e1, e2, e3, e4.own hg hr⟩)⟩) _) (ownFrom_below (Nat.le_refl _) (by omega)))
    ⟨⟨(fun j hj => by cases hj), kr, Nat.le_refl _⟩, hB0⟩
    (fun x => { tmps := #[.agg #[.int .i64 p.a, .int .i64 p.b, .int .i64 p.c, .int .i64 p.d], .agg #[.int .i64 q.a, .int .i64 q.b, .int .i64 q.c, .int .i64 q.d], .pointer (some ⟨w.heap.size, 0, none⟩), .pointer (some ⟨w.heap.size + 1, 0, none⟩), .pointer (some ⟨w.heap.size + 1 + 1, 0, none⟩), .int .i64 (vg p x), .int .i64 (vg q x), undef, .agg #[.int .i64 p.a, .int .i64 p.b, .int .i64 p.c, .int .i64 p.d], .agg #[.int .i64 q.a, .int .i64 q.b, .int .i64 q.c, .int .i64 q.d], .func (.func 100) #[] #[.pointer (some ⟨w.heap.size + 1 + 1 + 1, 0, none⟩), .pointer (some ⟨w.heap.size + 1 + 1 + 1 + 1, 0, none⟩)], .int .i64 (vg p x), .int .i64 (vg q x), undef, undef, undef, undef, undef, undef], defers := [] }) ?assign ?body ?done ?stop
  case assign =>
    intro l x W K hK
    unfold encP
    gi_wp2
    exact hK
  case body =>
    rintro l pre k W ⟨⟨hp, kr, hzz⟩, hB⟩ hlt
    by_cases hxy : vg p k = vg q k
    · have hc := fun W' => cmp_int64 (vg p k) (vg q k) W'
      have hz : sgnCmp (vg p k) (vg q k) = 0 := by rw [hxy]; exact sgnCmp_eq _
      rw [hz] at hc
      have HH := Lib.hid hxy
      have HC := Lib.hid hc
      clear hxy hc hz
      gi_wp2_with (refine ⟨trivial, ?_⟩; gi_at_call 86; refine (CallsIn.inRound l (callsIn_wide.2 (HC.out _))).mono ?_; rintro e w' ⟨rfl, rfl⟩)
      exact ⟨KeepsOthers.refl _, KeepsAt.refl _ _, ⟨(fun j hj => (List.mem_append.1 hj).elim (hp.out j) (fun e => by simp at e; subst e; exact HH.out)), kr, hzz⟩, hB⟩
    · have hc := fun W' => cmp_int64 (vg p k) (vg q k) W'
      have hne : (sgnCmp (vg p k) (vg q k) != 0) = true := by
        rcases Int.lt_or_gt_of_ne hxy with h | h
        · rw [sgnCmp_lt h]; rfl
        · rw [sgnCmp_gt h]; rfl
      have HH := Lib.hid hxy
      obtain ⟨n, hn⟩ : ∃ n, sgnCmp (vg p k) (vg q k) = n := ⟨_, rfl⟩
      rw [hn] at hc hne
      have HN := Lib.hid hn
      have HC := Lib.hid hc
      have c0 := kr.cell (i := 0) rfl
      have c1 := kr.frozen 0
      clear hxy hc hn
      gi_wp2_with (refine ⟨trivial, ?_⟩; gi_at_call 86; refine (CallsIn.inRound l (callsIn_wide.2 (HC.out _))).mono ?_; rintro e w' ⟨rfl, rfl⟩)
      refine ⟨KeepsOthers.setCell _ _ _, ⟨rfl, ⟨pre, k, rfl, hp.out, HH.out, ?_⟩⟩, hB.setCell (by simp only; omega) _⟩
      rw [HN.out]
      exact kr.set_eq 0 _ rfl
  case done =>
    rintro D zs W hD rfl ⟨⟨hp, kr, hzz⟩, hB⟩ hK
    have d0 := kr.cell (i := 0) rfl
    have d2 := kr.frozen 0
    gi_wp2
    have hK' := (KeepsOthers.setCell W ⟨w.heap.size + 1 + 1, 0, none⟩ (.int .i64 0)).same D _ hK rfl
    refine ⟨by simp, .inl ⟨_, _, rfl, run_takeDeferred hK', ?_⟩⟩
    have L := (kr.set_eq 0 (.int .i64 0) rfl).own (grownBy_putObj' _ D (.deferred none)) (fun r e => by cases e; exact ⟨_, hK', rfl⟩)
    have z0 := L.cell (i := 0) rfl
    refine ⟨.int .i64 0, ?_, by rw [cmpV_none hp.out], (hB.setCell (p := ⟨w.heap.size + 1 + 1, 0, none⟩) (by simp only; omega) _).trans (belowK_b (w := w) (Nat.le_refl _) _ D _ _ (by omega) hK' rfl rfl)⟩
    simp [results, Try.f63, go_sem, z0]
  case stop =>
    rintro D c pre W hD ⟨k, hk, rfl⟩ ⟨⟨rfl, hs⟩, hB⟩ hK
    obtain ⟨pre', x, e1, e2, e3, e4⟩ := hs.out
    obtain ⟨rfl, rfl⟩ := range_snoc e1
    rw [← cmpV_at (by omega) e2 e3] at e4
    clear hs e1 e2 e3
    gi_wp2
    refine ⟨by simp, .inl ⟨_, _, rfl, run_takeDeferred hK, ?_⟩⟩
    have L := e4.own (grownBy_putObj' _ D (.deferred none)) (fun r e => by cases e; exact ⟨_, hK, rfl⟩)
    have z0 := L.cell (i := 0) rfl
    refine ⟨.int .i64 (cmpV p q), ?_, rfl, hB.trans (belowK_b (w := w) (Nat.le_refl _) W D _ _ (by omega) hK rfl rfl)⟩
    simp [results, Try.f63, go_sem, z0]

end Go.Proofs.Ythdhakpmhndbfaa

namespace Go.Proofs.Ythdhakpmhndbfaa
open Go.RowKit Go.Shelf
attribute [local go_sem] Oper.semAt_some

theorem dot3 (a b c e f g h : Int) : dotL ⟨a, b, c, 0⟩ ⟨e, f, g, h⟩ (List.range 4) = a * e + b * f + c * g := by
  simp [dotL, vg, List.range, List.range.loop]

theorem mul_small {x y : Int} (hx : x.natAbs ≤ 1000) (hy : y.natAbs ≤ 1000) : (x * y).natAbs ≤ 1000000 := by
  rw [Int.natAbs_mul]
  exact Nat.mul_le_mul hx hy

theorem turn_fits {a b c e f g : Int} (ha : a.natAbs ≤ 1000) (hb : b.natAbs ≤ 1000) (hc : c.natAbs ≤ 1000) (he : e.natAbs ≤ 1000) (hf : f.natAbs ≤ 1000) (hg : g.natAbs ≤ 1000) : In127 (a * e + b * f + c * g) := by
  have h1 := mul_small ha he
  have h2 := mul_small hb hf
  have h3 := mul_small hc hg
  unfold In127
  omega

set_option maxRecDepth 100000 in
set_option maxHeartbeats 4000000 in
theorem turn_any (a b c d e f g h : Int) (w : World) (hp : InV ⟨a, b, c, d⟩) (hq : InV ⟨e, f, g, h⟩) :
    Calls Try.prog 29 #[.agg #[.int .i64 a, .int .i64 b, .int .i64 c, .int .i64 d], .agg #[.int .i64 e, .int .i64 f, .int .i64 g, .int .i64 h]] w fun e' w' => e' = .returned (.tuple #[.int .i64 (if (decide (RightP a b c d) && decide (RightP e f g h)) = true then sgnI (a * e + b * f + c * g) else 0), .int .i64 (both a b c d e f g h)]) ∧ Below w.heap.size w w' := by
  obtain ⟨w1, hw1⟩ : ∃ w1, ((w.alloc (.cells #[.int .i64 a, .int .i64 b, .int .i64 c, .int .i64 d] 23)).alloc (.cells #[.int .i64 e, .int .i64 f, .int .i64 g, .int .i64 h] 23)) = w1 := ⟨_, rfl⟩
  have hb1 : Below w.heap.size w w1 := by rw [← hw1]; exact bw2 w _ _
  have k0 : Blk w1 w.heap.size #[.int .i64 a, .int .i64 b, .int .i64 c, .int .i64 d] 23 := by rw [← hw1]; exact (Blk.new w _ _).alloc _
  have k1 : Blk w1 (w.heap.size + 1) #[.int .i64 e, .int .i64 f, .int .i64 g, .int .i64 h] 23 := by rw [← hw1]; exact Blk.new' _ _ _ (by simp)
  have c0 := k0.cell (i := 0) rfl
  have c1 := k0.cell (i := 1) rfl
  have c2 := k0.cell (i := 2) rfl
  have c3 := k0.cell (i := 3) rfl
  have d0 := k1.cell (i := 0) rfl
  have d1 := k1.cell (i := 1) rfl
  have d2 := k1.cell (i := 2) rfl
  have d3 := k1.cell (i := 3) rfl
  obtain ⟨w2, hw2⟩ : ∃ w2, w1.alloc (.cells #[.int .i64 a, .int .i64 b, .int .i64 c, .int .i64 d, .int .i64 e, .int .i64 f, .int .i64 g, .int .i64 h] 23) = w2 := ⟨_, rfl⟩
  have hr2 : RdV w2 (some ⟨w1.heap.size, 0, none⟩) [⟨a, b, c, d⟩, ⟨e, f, g, h⟩] := by rw [← hw2]; exact planes2 w1 a b c d e f g h _
  have hb2 : Below w1.heap.size w1 w2 := by rw [← hw2]; exact (Below.refl _ w1).alloc (Nat.le_refl _) _
  have hpl := planes_any (some ⟨w1.heap.size, 0, none⟩) 2 2 [⟨a, b, c, d⟩, ⟨e, f, g, h⟩] w2 rfl (by decide) hr2 (by intro q hq'; simp at hq'; rcases hq' with rfl | rfl; exact hp; exact hq)
  have hall : ([⟨a, b, c, d⟩, ⟨e, f, g, h⟩] : List V4).all (fun q => decide (RightP q.a q.b q.c q.d)) = (decide (RightP a b c d) && decide (RightP e f g h)) := by simp
  rw [hall] at hpl
  have hbd : (decide (RightP a b c d) && decide (RightP e f g h)) = true → RightP a b c d ∧ RightP e f g h := fun hh => by simpa using hh
  have hpar : RightP a b c d ∧ RightP e f g h → ∀ W, Calls Try.prog 53 #[.agg #[.int .i64 a, .int .i64 b, .int .i64 c, .int .i64 0], .agg #[.int .i64 e, .int .i64 f, .int .i64 g, .int .i64 h]] W fun e' w' => e' = .returned (sumV (a * e + b * f + c * g)) ∧ Below W.heap.size W w' := fun _ W => by
    have hx := productP_any ⟨a, b, c, 0⟩ ⟨e, f, g, h⟩ W ⟨hp.1, hp.2.1, hp.2.2.1, (show InI64 0 from ⟨by decide, by decide⟩)⟩ hq
    rwa [dot3] at hx
  have hsg : RightP a b c d ∧ RightP e f g h → ∀ W, Calls Try.prog 54 #[sumV (a * e + b * f + c * g)] W fun e' w' => e' = .returned (.int .i64 (sgnI (a * e + b * f + c * g))) ∧ Below W.heap.size W w' := fun hh W => sign_any _ W (turn_fits hh.1.2.1 hh.1.2.2.1 hh.1.2.2.2.1 hh.2.2.1 hh.2.2.2.1 hh.2.2.2.2.1)
  unfold both
  obtain ⟨t, ht⟩ : ∃ t, (decide (RightP a b c d) && decide (RightP e f g h)) = t := ⟨_, rfl⟩
  rw [ht] at hpl hbd ⊢
  have HP := Lib.hid hpl
  have HPAR := Lib.hid (fun hh => hpar (hbd hh))
  have HSG := Lib.hid (fun hh => hsg (hbd hh))
  clear hpl hall hr2 hp hq hbd hpar hsg ht
  obtain ⟨n, hn⟩ : ∃ n, a * e + b * f + c * g = n := ⟨_, rfl⟩
  rw [hn] at HPAR HSG ⊢
  clear hn
  go_enter Try.func29, Try.ntmps29
  go_wp2_with fail
  refine HP.out.mono ?_
  rintro e' w3 ⟨v, rfl, hv, hb3⟩
  have hb13 := hb2.trans (hb3.mono hb2.size)
  obtain ⟨gf, caps, rfl, _⟩ := id hv
  obtain ⟨w4, hw4⟩ : ∃ w4, w3.alloc (.cells #[.func (.func gf) #[] caps] 70) = w4 := ⟨_, rfl⟩
  have hr4 : RdC w4 (some ⟨w3.heap.size, 0, none⟩) [errE t 30] := by rw [← hw4]; exact checks1 w3 _ _ _ hv
  have hb14 : Below w1.heap.size w1 w4 := by rw [← hw4]; exact hb13.alloc hb13.size _
  have hf := first_any (some ⟨w3.heap.size, 0, none⟩) 1 1 [errE t 30] w4 rfl (by decide) hr4
  rw [firstE_one] at hf
  have HF := Lib.hid hf
  clear hf hr4 hv
  go_wp2_with fail
  refine HF.out.mono ?_
  rintro e' w5 ⟨rfl, hb5⟩
  have hb15 := hb14.trans (hb5.mono hb14.size)
  have hb5' := hb1.trans (hb15.mono hb1.size)
  have k0 := k0.kept hb15
  have k1 := k1.kept hb15
  have c0 := k0.cell (i := 0) rfl
  have c1 := k0.cell (i := 1) rfl
  have c2 := k0.cell (i := 2) rfl
  have c3 := k0.cell (i := 3) rfl
  have d0 := k1.cell (i := 0) rfl
  have d1 := k1.cell (i := 1) rfl
  have d2 := k1.cell (i := 2) rfl
  have d3 := k1.cell (i := 3) rfl
  clear hw1 hw2 hw4 hb2 hb3 hb13 hb14 hb15 hb5
  cases t
  · rw [show errE false 30 = 30 from rfl]
    go_wp2_with fail
    go_ret2
    exact ⟨rfl, hb5'⟩
  · rw [show errE true 30 = 0 from rfl]
    have HPP := Lib.hid (HPAR.out rfl)
    have HSS := Lib.hid (HSG.out rfl)
    clear HPAR HSG
    go_wp2_with fail
    refine (HPP.out _).mono ?_
    rintro e' w6 ⟨rfl, hb6⟩
    have hb6' := hb5'.trans (hb6.mono hb5'.size)
    go_wp2_with fail
    refine (HSS.out _).mono ?_
    rintro e' w7 ⟨rfl, hb7⟩
    go_wp2_with fail
    go_ret2
    exact ⟨rfl, hb6'.trans (hb7.mono hb6'.size)⟩

end Go.Proofs.Ythdhakpmhndbfaa
