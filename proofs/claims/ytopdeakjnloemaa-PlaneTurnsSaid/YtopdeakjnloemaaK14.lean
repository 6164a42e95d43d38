/-
  A region that draws its order, inside a fence (the body of a range over a function, an iterator): one relation that every order keeps; Package plane: the iterator over two planes' coefficients; Package plane: the sum of products; Package sums: minors of three rows; Package sums: minors of three rows, whole.
-/
import Derived.OrdersIn
import Derived.Test.YtopdeakjnloemaaK1
import Derived.Test.YtopdeakjnloemaaK4
import Derived.Test.YtopdeakjnloemaaK7
import Derived.Test.YtopdeakjnloemaaK8
import Derived.Test.YtopdeakjnloemaaK9
import Derived.Test.YtopdeakjnloemaaK10
import Derived.Test.YtopdeakjnloemaaK11
import Derived.Test.YtopdeakjnloemaaK12
import Derived.Test.YtopdeakjnloemaaK13
namespace Go.Proofs.Ytopdeakjnloemaa
open Go.RowKit
variable {F : Fence} {n : Nat} {P : Program} {Q : Exit → Act → World → Prop}

theorem wpAnyIn_inv {l : List Oper} (hE : earlierB l = true) (I : (Nat → Bool) → Act → World → Prop)
    (step : ∀ L i a w, I L a w → i < l.length → L i = false → depsB l L i = true → wpOpIn F n P l.toArray Q i (I (fun j => L j || j == i)) a w)
    (done : ∀ L a w, (∀ i, i < l.length → L i = true) → I L a w → Q .normal a w) :
    ∀ (f : Nat) (listed : Array Bool) (L : Nat → Bool) (a : Act) (w : World), listed.size = l.length → (∀ i, listed.getD i false = L i) → (List.range l.length).countP (fun i => !L i) ≤ f → I L a w → wpAnyIn F n P .any l.toArray Q f listed a w := by
  intro f
  induction f with
  | zero =>
    intro listed L a w hs hL hc hI
    have hall : ∀ i, i < l.length → L i = true := by
      intro i hi
      have := List.countP_eq_zero.1 (Nat.le_zero.1 hc) i (List.mem_range.2 hi)
      simpa using this
    refine ⟨List.eq_nil_iff_forall_not_mem.2 fun i hi => ?_, done L a w hall hI⟩
    obtain ⟨h1, h2, _⟩ := (mem_ready_iff hs hL i).1 hi
    rw [hall i h1] at h2; cases h2
  | succ f ih =>
    intro listed L a w hs hL hc hI
    refine ⟨fun hr => done L a w (all_listed hE fun i hi h => ?_) hI, fun i hi => ?_⟩
    · cases hd : depsB l L i
      · rfl
      · have := (mem_ready_iff hs hL i).2 ⟨hi, h, hd⟩
        rw [hr] at this; cases this
    · obtain ⟨h1, h2, h3⟩ := (mem_ready_iff hs hL i).1 hi
      have := step L i a w hI h1 h2 h3
      refine wpOpIn_mono (fun a w h => ih _ (fun j => L j || j == i) a w (by simp [hs]) (fun j => ?_) ?_ h) this
      · rw [← hL]
        simp only [Array.getD_eq_getD_getElem?, Array.getElem?_setIfInBounds]
        by_cases e : i = j
        · subst e; simp [hs, h1]
        · have : (j == i) = false := by simp; omega
          simp [e, this]
      · have := countP_strict (p := fun j => !L j) (q := fun j => !(L j || j == i)) (List.range l.length) i (fun y hy => by simp at hy ⊢; exact hy.1) (List.mem_range.2 h1) (by simp [h2]) (by simp)
        omega

theorem wpIn_region_inv {id : Nat} {l : List Oper} {a : Act} {w : World} (hm : P.follows .mixedOrders = true) (hE : earlierB l = true) (I : (Nat → Bool) → Act → World → Prop) (h0 : I (fun _ => false) a w.drew)
    (step : ∀ L i a w, I L a w → i < l.length → L i = false → depsB l L i = true → wpOpIn F n P l.toArray Q i (I (fun j => L j || j == i)) a w)
    (done : ∀ L a w, (∀ i, i < l.length → L i = true) → I L a w → Q .normal a w) : (Code.region id l.toArray true).wpIn F n P Q a w := by
  refine wpIn_region_any hm (wpAnyIn_inv hE I step done _ _ (fun _ => false) _ _ (by simp) (fun i => ?_) ?_ h0)
  · exact getD_replicate_false _ _
  · refine Nat.le_trans (List.countP_le_length) ?_
    simp


theorem wpIn_post {o : Oper} {a : Act} {w : World} {K : Act → World → Prop} {Q Q' : Exit → Act → World → Prop} (hq : ∀ e a w, e ≠ .normal → Q e a w → Q' e a w) (hh : o.wpIn F n P a w K Q) : o.wpIn F n P a w K Q' := by
  have hL : LetsOut Q → LetsOut Q' := fun ⟨b, v, h⟩ => ⟨b, v, hq _ _ _ (by simp) h⟩
  unfold Oper.wpIn at *
  refine ⟨hh.1, ?_⟩
  have hh := hh.2
  generalize (o.semAt F.round a.eval).run P w = r at *
  cases r with
  | ok r w' =>
    cases r <;> simp only [Oper.uponIn] at hh ⊢ <;> try exact hh
    case enter f args =>
      exact ⟨hh.1, CallsIn.mono hh.2 fun e w'' he => by
        cases e with
        | returned v => exact he
        | panicked c => exact hq _ _ _ (by simp) he
        | outgrown => exact hL he⟩
    case round l f tmps assign body =>
      exact ⟨hh.1, RoundIn.mono hh.2 fun e w'' he => by
        cases e with
        | returned v => exact he
        | panicked c => exact hq _ _ _ (by simp) he
        | outgrown => exact hL he⟩
  | halt x w' =>
    cases x <;> simp only [Oper.uponIn] at hh ⊢
    case panic v => exact hq _ _ _ (by simp) hh

/-- One operation. -/
theorem wpOpIn_list {ops : Array Oper} {i : Nat} {o : Oper} {K : Act → World → Prop} {a : Act} {w : World} (ho : ops[i]? = some o) (h : wpListIn F n P ops (fun e a w => (e = .normal → K a w) ∧ (e ≠ .normal → Q e a w)) [o] a w) : wpOpIn F n P ops Q i K a w := by
  unfold wpOpIn
  unfold wpListIn at h
  simp only [ho]
  split at h
  · rename_i hw
    rw [if_pos hw]
    refine Oper.wpIn_mono (fun a w h => ?_) (wpIn_post (fun e a w he h => h.2 he) h)
    exact h.1 rfl
  · rename_i hw
    rw [if_neg hw]
    exact ⟨h.1, h.2.1 rfl⟩

/-- One operation behind the other. -/
def seqWIn (F : Fence) (n : Nat) (P : Program) (l : List Oper) (Q : Exit → Act → World → Prop) : Nat → Nat → Act → World → Prop
  | 0, _ => Q .normal
  | r + 1, k => wpOpIn F n P l.toArray Q k (seqWIn F n P l Q r (k + 1))

theorem wpIn_region_flow_tail {id : Nat} {l : List Oper} {w : World} (n0 : Nat) (tm : (Nat → Value) → Act) (f0 : Nat → Value) (hm : P.follows .mixedOrders = true) (hE : earlierB l = true) (hT : tailB l n0 = true) (hn0 : n0 < l.length) (R : Nat → Value → Prop) (S : World → Prop) (hS : S w.drew)
    (step : ∀ i, i < n0 → ∀ f w', S w' → (∀ j, depB l i j = true → R j (f j)) → wpOpIn F n P l.toArray Q i (fun a' w'' => ∃ v, a' = tm (upd f i v) ∧ R i v ∧ S w'') (tm f) w')
    (last : ∀ f w', S w' → (∀ j, j < n0 → R j (f j)) → seqWIn F n P l Q (l.length - n0) n0 (tm f) w') : (Code.region id l.toArray true).wpIn F n P Q (tm f0) w := by
  refine wpIn_region_inv hm hE (fun L a w => (∀ k, k < l.length → L k = true → depsB l L k = true) ∧ ((∃ f, a = tm f ∧ S w ∧ (∀ j, L j = true → j < n0) ∧ ∀ j, L j = true → R j (f j)) ∨ (∃ k, n0 < k ∧ k ≤ l.length ∧ (∀ j, j < l.length → (L j = true ↔ j < k)) ∧ seqWIn F n P l Q (l.length - k) k a w)))
    ⟨fun _ _ h => (by cases h), .inl ⟨f0, rfl, hS, fun _ h => (by cases h), fun _ h => (by cases h)⟩⟩ ?_ ?_
  · rintro L i a w' ⟨hcl, hI⟩ hi hL hd
    have hcl' : ∀ k, k < l.length → (L k || k == i) = true → depsB l (fun j => L j || j == i) k = true := fun k hk hk2 => by
      have hmn : ∀ j, L j = true → (L j || j == i) = true := fun j h => by rw [h]; rfl
      by_cases e : k = i
      · rw [e]; exact depsB_mono hd hmn
      · exact depsB_mono (hcl k hk (by simpa [e] using hk2)) hmn
    rcases hI with ⟨f, rfl, hs, hlt, hr⟩ | ⟨k, hk1, hk2, hk3, hk4⟩
    · by_cases hil : i < n0
      · refine wpOpIn_mono (fun a' w'' h => ?_) (step i hil f w' hs (fun j hj => hr j (depsB_dep hd hj)))
        obtain ⟨v, rfl, hv, hs'⟩ := h
        refine ⟨hcl', .inl ⟨_, rfl, hs', fun j hj => ?_, fun j hj => ?_⟩⟩
        · by_cases e : j = i
          · rw [e]; exact hil
          · exact hlt j (by simpa [e] using hj)
        · by_cases e : j = i
          · subst e; simp only [upd, if_true]; exact hv
          · simp only [upd, if_neg e]
            refine hr j ?_
            simpa [e] using hj
      · have hall := fun j hj => tail_all hT hi (by omega) hcl hd (i - j) j (Nat.le_refl _) hj
        have e : i = n0 := by
          rcases Nat.lt_or_ge n0 i with h | h
          · have := hlt n0 (hall n0 h); omega
          · omega
        subst e
        have hl := last f w' hs (fun j hj => hr j (hall j hj))
        rw [show l.length - i = (l.length - (i + 1)) + 1 by omega] at hl
        refine wpOpIn_mono (fun a' w'' h => ?_) hl
        refine ⟨hcl', .inr ⟨i + 1, by omega, by omega, fun j hj => ?_, h⟩⟩
        by_cases e : j = i
        · simp [e]
        · constructor
          · intro h
            have := hlt j (by simpa [e] using h)
            omega
          · intro h
            show (L j || j == i) = true
            rw [hall j (by omega)]; rfl
    · have hall := fun j hj => tail_all hT hi (by have : ¬ i < k := fun h => by rw [(hk3 i hi).2 h] at hL; cases hL
                                                  omega) hcl hd (i - j) j (Nat.le_refl _) hj
      have hik : ¬ i < k := fun h => by rw [(hk3 i hi).2 h] at hL; cases hL
      have e : i = k := by
        rcases Nat.lt_or_ge k i with h | h
        · have := (hk3 k (by omega)).1 (hall k h); omega
        · omega
      subst e
      rw [show l.length - i = (l.length - (i + 1)) + 1 by omega] at hk4
      refine wpOpIn_mono (fun a' w'' h => ?_) hk4
      refine ⟨hcl', .inr ⟨i + 1, by omega, by omega, fun j hj => ?_, h⟩⟩
      by_cases e : j = i
      · simp [e]
      · constructor
        · intro h
          have := (hk3 j hj).1 (by simpa [e] using h)
          omega
        · intro h
          show (L j || j == i) = true
          rw [hall j (by omega)]; rfl
  · rintro L a w' hall ⟨_, hI⟩
    rcases hI with ⟨f, rfl, hs, hlt, hr⟩ | ⟨k, hk1, hk2, hk3, hk4⟩
    · have := hlt n0 (hall n0 hn0)
      omega
    · have e : k = l.length := by
        rcases Nat.lt_or_ge k l.length with h | h
        · have := (hk3 k h).1 (hall k h); omega
        · omega
      subst e
      rw [Nat.sub_self] at hk4
      exact hk4


/-- Operations of known values that keep S (reads, calls, rounds), each behind what it waits for; the last ones in order. -/
theorem wpIn_region_pure {id : Nat} {l : List Oper} {a : Act} {w : World} (m : Nat) (vs : Nat → Value) (S : World → Prop) (hm : P.follows .mixedOrders = true) (hE : earlierB l = true) (hT : tailB l m = true) (hm0 : m < l.length) (hS : S w.drew)
    (step : ∀ i, i < m → ∀ f w', S w' → (∀ j, depB l i j = true → f j = vs j) → wpOpIn F n P l.toArray Q i (fun a' w'' => a' = tmOf a l (upd f i (vs i)) ∧ S w'') (tmOf a l f) w')
    (last : ∀ f w', S w' → (∀ j, j < m → f j = vs j) → seqWIn F n P l Q (l.length - m) m (tmOf a l f) w') : (Code.region id l.toArray true).wpIn F n P Q a w := by
  have h := wpIn_region_flow_tail (F := F) (n := n) (Q := Q) (id := id) (w := w) m (tmOf a l) (slotsOf a.tmps (l.map (·.dst)) 0) hm hE hT hm0 (fun i v => v = vs i) S hS
    (fun i hi f w' hs hd => wpOpIn_mono (fun a' w'' hh => ⟨vs i, hh.1, rfl, hh.2⟩) (step i hi f w' hs hd)) last
  rw [tmOf_same] at h
  exact h

end Go.Proofs.Ytopdeakjnloemaa

namespace Go.Proofs.Ytopdeakjnloemaa
open Go.RowKit Go.Shelf
attribute [local go_sem] Oper.semAt_some

/-- A coefficient by its place. -/
def vg (q : V4) (i : Nat) : Int := if i = 0 then q.a else if i = 1 then q.b else if i = 2 then q.c else q.d
theorem Blk.vg {W : World} {B : Nat} {q : V4} {t : TypeId} (h : Blk W B #[.int .i64 q.a, .int .i64 q.b, .int .i64 q.c, .int .i64 q.d] t) {i : Nat} (hi : i < 4) : W.cell? ⟨B, i, none⟩ = some (.int .i64 (vg q i)) := by
  have h4 : i = 0 ∨ i = 1 ∨ i = 2 ∨ i = 3 := by omega
  rcases h4 with rfl | rfl | rfl | rfl <;> exact h.cell rfl

def encP (p q : V4) (i : Nat) : Array Value := #[.int .i64 (vg p i), .int .i64 (vg q i)]

set_option maxHeartbeats 1000000 in
theorem pairs_in (F : Fence) (n : Nat) (h5 : F.fn 78) (hro : F.round = none) (p q : V4) (w : World) :
    CallsIn F n Try.prog 78 #[.agg #[.int .i64 p.a, .int .i64 p.b, .int .i64 p.c, .int .i64 p.d], .agg #[.int .i64 q.a, .int .i64 q.b, .int .i64 q.c, .int .i64 q.d]] w fun e w' => e = .returned (.func (.func 100) #[] #[.pointer (some ⟨w.heap.size, 0, none⟩), .pointer (some ⟨w.heap.size + 1, 0, none⟩)]) ∧ w' = (w.alloc (.cells #[.int .i64 p.a, .int .i64 p.b, .int .i64 p.c, .int .i64 p.d] 22)).alloc (.cells #[.int .i64 q.a, .int .i64 q.b, .int .i64 q.c, .int .i64 q.d] 22) := by
  refine callsIn_of_wp Try.func78 rfl h5 ?_ hro
  simp only [Try.ntmps78, List.size_toArray, List.length_cons, List.length_nil, Nat.reduceAdd, Nat.reduceSub, Array.replicate_succ, Array.replicate_zero, List.push_toArray, List.append_toArray, List.nil_append, List.cons_append]
  gi_wp2
  go_ret
  exact ⟨rfl, rfl⟩

set_option maxRecDepth 100000 in
set_option maxHeartbeats 4000000 in
theorem pairs1_in (F : Fence) (n : Nat) (h7 : F.fn 100) (hro : F.round = none) (hn : 1 ≤ n) (l Bp Bq : Nat) (S : Nat → Prop) (p q : V4) (J Jx : List Nat → World → Prop)
    (hdr : ∀ pre W, J pre W → J pre W.drew)
    (hY : ∀ pre x W, J pre W → pre.length < 4 → YieldAt F (n - 1) Try.prog l (encP p q x) W fun e W' =>
      (e = .returned (.bool true) ∧ J (pre ++ [x]) W' ∧ KeepsAt S W W') ∨ (e = .returned (.bool false) ∧ Jx (pre ++ [x]) W'))
    (W : World) (hp : Blk W Bp #[.int .i64 p.a, .int .i64 p.b, .int .i64 p.c, .int .i64 p.d] 22) (hq : Blk W Bq #[.int .i64 q.a, .int .i64 q.b, .int .i64 q.c, .int .i64 q.d] 22) (hSp : S Bp) (hSq : S Bq) (h0 : J [] W) :
    CallsIn F n Try.prog 100 #[.func (.yield l) #[] #[], .pointer (some ⟨Bp, 0, none⟩), .pointer (some ⟨Bq, 0, none⟩)] W fun e W' => (∃ v, e = .returned v) ∧
      ((∃ ys, ys = List.range 4 ∧ J ys W') ∨ (∃ pre, (∃ k, k ≤ 4 ∧ pre = List.range k) ∧ Jx pre W')) := by
  refine callsIn_of_wp Try.func100 rfl h7 ?_ hro
  simp only [Try.ntmps100, List.size_toArray, List.length_cons, List.length_nil, Nat.reduceAdd, Nat.reduceSub, Array.replicate_succ, Array.replicate_zero, List.push_toArray, List.append_toArray, List.nil_append, List.cons_append]
  gi_wp2
  gi_loopw [5] (fun i wr => ∃ k : Nat, k ≤ 4 ∧ i = .int .i64 (k : Int) ∧ J (List.range k) wr ∧ KeepsAt S W wr)
    (fun i _ => (4 - intOf i).toNat)
  case atStart => exact ⟨0, Nat.zero_le _, rfl, h0, KeepsAt.refl _ _⟩
  case round =>
    obtain ⟨k, hk, rfl, hJs, hnx⟩ := hrel
    by_cases hlt : k < 4
    · have hkp : wr.cell? ⟨Bp, k, none⟩ = some (.int .i64 (vg p k)) := (hnx.cell (p := ⟨Bp, k, none⟩) hSp).trans (hp.vg hlt)
      have hkq : wr.cell? ⟨Bq, k, none⟩ = some (.int .i64 (vg q k)) := (hnx.cell (p := ⟨Bq, k, none⟩) hSq).trans (hq.vg hlt)
      have hki : (k : Int) < 4 := by omega
      obtain ⟨fn, tmps, assign, body, hy, hR⟩ := hY _ k wr.drew (hdr _ _ hJs) (by rw [List.length_range]; exact hlt)
      unfold encP at hy
      gi_wp2
      refine wpIn_region_pure 7 (fun i => match i with | 0 => .func (.yield l) #[] #[] | 1 => .int .i64 (k : Int) | 2 => .pointer (some ⟨Bp, k, none⟩) | 3 => .int .i64 (vg p k) | 4 => .int .i64 (k : Int) | 5 => .pointer (some ⟨Bq, k, none⟩) | _ => .int .i64 (vg q k)) (fun ww => wr.drew = ww) (by kernel_rfl) (by kernel_rfl) (by kernel_rfl) ?_ rfl ?_ ?_
      · decide
      · rintro i hi f ww rfl hd
        rcases i with _ | _ | _ | _ | _ | _ | _ | i
        · refine wpOpIn_list rfl ?_
          simp only [tmOf, putAll, List.map_cons, List.map_nil, List.setIfInBounds_toArray, List.set_cons_zero, List.set_cons_succ]
          gi_wp2
          simp [upd]
        · refine wpOpIn_list rfl ?_
          simp only [tmOf, putAll, List.map_cons, List.map_nil, List.setIfInBounds_toArray, List.set_cons_zero, List.set_cons_succ]
          gi_wp2
          simp [upd]
        · have g1 : f 1 = .int .i64 (k : Int) := hd 1 (by kernel_rfl)
          refine wpOpIn_list rfl ?_
          simp only [tmOf, putAll, List.map_cons, List.map_nil, List.setIfInBounds_toArray, List.set_cons_zero, List.set_cons_succ]
          gi_wp2
          simp [upd, g1]
        · have g2 : f 2 = .pointer (some ⟨Bp, k, none⟩) := hd 2 (by kernel_rfl)
          refine wpOpIn_list rfl ?_
          simp only [tmOf, putAll, List.map_cons, List.map_nil, List.setIfInBounds_toArray, List.set_cons_zero, List.set_cons_succ]
          gi_wp2
          simp [upd, g2]
        · refine wpOpIn_list rfl ?_
          simp only [tmOf, putAll, List.map_cons, List.map_nil, List.setIfInBounds_toArray, List.set_cons_zero, List.set_cons_succ]
          gi_wp2
          simp [upd]
        · have g4 : f 4 = .int .i64 (k : Int) := hd 4 (by kernel_rfl)
          refine wpOpIn_list rfl ?_
          simp only [tmOf, putAll, List.map_cons, List.map_nil, List.setIfInBounds_toArray, List.set_cons_zero, List.set_cons_succ]
          gi_wp2
          simp [upd, g4]
        · have g5 : f 5 = .pointer (some ⟨Bq, k, none⟩) := hd 5 (by kernel_rfl)
          refine wpOpIn_list rfl ?_
          simp only [tmOf, putAll, List.map_cons, List.map_nil, List.setIfInBounds_toArray, List.set_cons_zero, List.set_cons_succ]
          gi_wp2
          simp [upd, g5]
        · omega
      · rintro f ww rfl hd
        have g0 : f 0 = .func (.yield l) #[] #[] := hd 0 (by decide)
        have g3 : f 3 = .int .i64 (vg p k) := hd 3 (by decide)
        have g6 : f 6 = .int .i64 (vg q k) := hd 6 (by decide)
        simp only [seqWIn, tmOf, putAll, List.map_cons, List.map_nil, List.setIfInBounds_toArray, List.set_cons_zero, List.set_cons_succ, List.length_cons, List.length_nil]
        refine wpOpIn_list rfl ?_
        gi_wp2
        refine hR.mono ?_
        rintro e W3 (⟨rfl, hJ3, hk3⟩ | ⟨rfl, hJx3⟩)
        · gi_wp2
          refine wpOpIn_list rfl ?_
          gi_wp2
          refine ⟨⟨k + 1, by omega, by simp, ?_, hnx.trans hk3⟩, by simp [intOf]; omega⟩
          rw [List.range_succ]; exact hJ3
        · gi_wp2
          refine wpOpIn_list rfl ?_
          gi_wp2
          refine bodyPost_ret (results_none rfl _ _ _) rfl ?_
          exact ⟨⟨_, rfl⟩, .inr ⟨_, ⟨k + 1, by omega, List.range_succ.symm⟩, hJx3⟩⟩
    · obtain rfl : k = 4 := by omega
      gi_wp2
      go_end0
      exact ⟨⟨_, rfl⟩, .inl ⟨_, rfl, hJs⟩⟩

/-- All four places, or the first of them. -/
theorem pairs_stops (F : Fence) (n : Nat) (h7 : F.fn 100) (hro : F.round = none) (hn : 1 ≤ n) (Bp Bq : Nat) (S : Nat → Prop) (p q : V4) (w : World) (hS : ∀ b, S b → b < w.heap.size)
    (hp : Blk w Bp #[.int .i64 p.a, .int .i64 p.b, .int .i64 p.c, .int .i64 p.d] 22) (hq : Blk w Bq #[.int .i64 q.a, .int .i64 q.b, .int .i64 q.c, .int .i64 q.d] 22) (hSp : S Bp) (hSq : S Bq) :
    SeqStopsK F n Try.prog 100 #[.pointer (some ⟨Bp, 0, none⟩), .pointer (some ⟨Bq, 0, none⟩)] (encP p q) (KeepsAt S) (fun ys => ys = List.range 4)
      (fun pre => ∃ k, k ≤ 4 ∧ pre = List.range k) 4 w := fun l J Jx W hW hJ _ hY h0 =>
  pairs1_in F n h7 hro hn l Bp Bq S p q J Jx (fun pre W h => hJ pre W W.drew none h ⟨rfl, rfl, rfl, Nat.le_refl _, fun _ _ _ => rfl⟩ (fun r e => by cases e)) hY W (hp.below hW hp.lt) (hq.below hW hq.lt) hSp hSq h0

end Go.Proofs.Ytopdeakjnloemaa

namespace Go.Proofs.Ytopdeakjnloemaa
open Go.RowKit Go.Shelf
attribute [local go_sem] Oper.semAt_some sumV

/-- The sum of products over some places. -/
def dotL (p q : V4) (ks : List Nat) : Int := ks.foldl (fun s k => s + vg p k * vg q k) 0
theorem dotL_snoc (p q : V4) (ks : List Nat) (k : Nat) : dotL p q (ks ++ [k]) = dotL p q ks + vg p k * vg q k := by simp [dotL, List.foldl_append]
theorem vg_in {q : V4} (h : InV q) (k : Nat) : InI64 (vg q k) := by
  unfold vg
  split
  · exact h.1
  · split
    · exact h.2.1
    · split
      · exact h.2.2.1
      · exact h.2.2.2

theorem Blk.own {W W' : World} {B : Nat} {cs : Array Value} {t : TypeId} {row : Option Nat} (h : Blk W B cs t) (hg : W.grownBy W' row) (hrow : ∀ r, row = some r → ∃ o : Obj, W.heap[r]? = some o ∧ o.isCells = false) : Blk W' B cs t := by
  unfold Blk at h ⊢
  exact (grownBy_keeps_cells hg hrow h rfl).trans h

set_option maxRecDepth 100000 in
set_option maxHeartbeats 4000000 in
theorem productP_any (p q : V4) (w : World) (hip : InV p) (hiq : InV q) :
    Calls Try.prog 53 #[.agg #[.int .i64 p.a, .int .i64 p.b, .int .i64 p.c, .int .i64 p.d], .agg #[.int .i64 q.a, .int .i64 q.b, .int .i64 q.c, .int .i64 q.d]] w fun e w' => e = .returned (sumV (dotL p q (List.range 4))) ∧ Below w.heap.size w w' := by
  refine (callsIn_wide (n := 6)).1 ?_
  refine callsIn_of_wp_marks Try.func53 rfl trivial ?_ rfl
  simp only [Try.ntmps53, List.size_toArray, List.length_cons, List.length_nil, Nat.reduceAdd, Nat.reduceSub, Array.replicate_succ, Array.replicate_zero, List.push_toArray, List.append_toArray, List.nil_append, List.cons_append]
  gi_wp2_with (refine ⟨trivial, ?_⟩; gi_at_call 78; refine (pairs_in Fence.wide _ trivial rfl p q _).mono ?_; rintro e w' ⟨rfl, rfl⟩)
  obtain ⟨W0, hW0⟩ : ∃ W0, ((((((w.alloc (.cells #[.int .i64 p.a, .int .i64 p.b, .int .i64 p.c, .int .i64 p.d] 22)).alloc (.cells #[.int .i64 q.a, .int .i64 q.b, .int .i64 q.c, .int .i64 q.d] 22)).alloc (.cells #[.int .u64 0, .int .u64 0] 76)).alloc (.cells #[.int .u64 0, .int .u64 0] 76)).alloc (.cells #[.int .i64 p.a, .int .i64 p.b, .int .i64 p.c, .int .i64 p.d] 22)).alloc (.cells #[.int .i64 q.a, .int .i64 q.b, .int .i64 q.c, .int .i64 q.d] 22)) = W0 := ⟨_, rfl⟩
  have hB0 : Below w.heap.size w W0 := by
    rw [← hW0]
    exact (bw4 w _ _ _ _).trans ((bw2 _ _ _).mono (bw4 w _ _ _ _).size)
  have kr : Blk W0 (w.heap.size + 1 + 1) #[.int .u64 0, .int .u64 0] 76 := by rw [← hW0]; exact (((Blk.new' _ _ _ (by simp)).alloc _).alloc _).alloc _
  have kt : Blk W0 (w.heap.size + 1 + 1 + 1) #[.int .u64 0, .int .u64 0] 76 := by rw [← hW0]; exact ((Blk.new' _ _ _ (by simp)).alloc _).alloc _
  have kp : Blk W0 (w.heap.size + 1 + 1 + 1 + 1) #[.int .i64 p.a, .int .i64 p.b, .int .i64 p.c, .int .i64 p.d] 22 := by rw [← hW0]; exact (Blk.new' _ _ _ (by simp)).alloc _
  have kq : Blk W0 (w.heap.size + 1 + 1 + 1 + 1 + 1) #[.int .i64 q.a, .int .i64 q.b, .int .i64 q.c, .int .i64 q.d] 22 := by rw [← hW0]; exact Blk.new' _ _ _ (by simp)
  have hsz : W0.heap.size = w.heap.size + 1 + 1 + 1 + 1 + 1 + 1 := by rw [← hW0]; simp
  rw [hW0]
  clear hW0
  refine wpIn_rangeFunc_ownF rfl (by omega) (gf := 100) (lb := #[.pointer (some ⟨w.heap.size + 1 + 1 + 1 + 1, 0, none⟩), .pointer (some ⟨w.heap.size + 1 + 1 + 1 + 1 + 1, 0, none⟩)]) rfl trivial (enters_of Try.func100 (by kernel_rfl) rfl)
    (pairs_stops Fence.wide 5 trivial rfl (by omega) (w.heap.size + 1 + 1 + 1 + 1) (w.heap.size + 1 + 1 + 1 + 1 + 1) (fun b => b = w.heap.size + 1 + 1 + 1 + 1 ∨ b = w.heap.size + 1 + 1 + 1 + 1 + 1) p q W0 (fun b hb => by omega) kp kq (Or.inl rfl) (Or.inr rfl))
    KeepsAt.trans (KeepsAt.putObj (fun b hb => by omega)) (Below.refl _ _) (fun _ => rfl)
    (fun pre W => (Blk W (w.heap.size + 1 + 1 + 1) #[.int .u64 (hiW (dotL p q pre)), .int .u64 (loW (dotL p q pre))] 76 ∧ Blk W (w.heap.size + 1 + 1) #[.int .u64 0, .int .u64 0] 76 ∧ W0.heap.size ≤ W.heap.size) ∧ Below w.heap.size w W)
    (fun c pre W => False ∧ Below w.heap.size w W)
    (OwnFrom.and (Own.from (fun s A B row hs hg hr => ⟨hs.1.own hg hr, hs.2.1.own hg hr, Nat.le_trans hs.2.2 hg.size⟩) _) (ownFrom_below (Nat.le_refl _) (by omega)))
    (fun c => OwnFrom.and (Own.from (fun s A B row hs hg hr => hs) _) (ownFrom_below (Nat.le_refl _) (by omega)))
    ⟨⟨kt, kr, Nat.le_refl _⟩, hB0⟩
    (fun x => { tmps := #[.agg #[.int .i64 p.a, .int .i64 p.b, .int .i64 p.c, .int .i64 p.d], .agg #[.int .i64 q.a, .int .i64 q.b, .int .i64 q.c, .int .i64 q.d], .pointer (some ⟨w.heap.size, 0, none⟩), .pointer (some ⟨w.heap.size + 1, 0, none⟩), .pointer (some ⟨w.heap.size + 1 + 1, 0, none⟩), .pointer (some ⟨w.heap.size + 1 + 1 + 1, 0, none⟩), .int .i64 (vg p x), .int .i64 (vg q x), .agg #[.int .i64 p.a, .int .i64 p.b, .int .i64 p.c, .int .i64 p.d], .agg #[.int .i64 q.a, .int .i64 q.b, .int .i64 q.c, .int .i64 q.d], .func (.func 100) #[] #[.pointer (some ⟨w.heap.size + 1 + 1 + 1 + 1, 0, none⟩), .pointer (some ⟨w.heap.size + 1 + 1 + 1 + 1 + 1, 0, none⟩)], .int .i64 (vg p x), .int .i64 (vg q x), undef, undef, undef, undef, undef, undef], defers := [] }) ?assign ?body ?done ?stop
  case assign =>
    intro l x W K hK
    unfold encP
    gi_wp2
    exact hK
  case body =>
    rintro l pre k W ⟨⟨kt, kr, hzz⟩, hB⟩ hlt
    have hp := fun W' => product_any (vg p k) (vg q k) W' (vg_in hip k).1 (vg_in hip k).2 (vg_in hiq k).1 (vg_in hiq k).2
    have hs := fun W' => sumsPlus_any (dotL p q pre) (vg p k * vg q k) W'
    rw [← dotL_snoc] at hs
    unfold sumV at hp hs
    generalize hUH : hiW (dotL p q (pre ++ [k])) = uh at *
    generalize hUL : loW (dotL p q (pre ++ [k])) = ul at *
    have HU := Lib.hid (And.intro hUH hUL)
    clear hUH hUL
    generalize hiW (dotL p q pre) = sh at *
    generalize loW (dotL p q pre) = sl at *
    generalize hiW (vg p k * vg q k) = xh at *
    generalize loW (vg p k * vg q k) = xl at *
    have HP := Lib.hid hp
    have HS := Lib.hid hs
    clear hp hs
    gi_wp2
    refine wpIn_region_pure 5 (fun i => match i with | 0 => .agg #[.int .u64 sh, .int .u64 sl] | 1 => .int .i64 (vg p k) | 2 => .int .i64 (vg q k) | 3 => .agg #[.int .u64 xh, .int .u64 xl] | _ => .agg #[.int .u64 uh, .int .u64 ul]) (fun ww => Below W.heap.size W ww) (by kernel_rfl) (by kernel_rfl) (by kernel_rfl) ?_ ((Below.refl _ _).drew) ?_ ?_
    · decide
    · rintro i hi f ww hS hd
      have f0 := (kt.kept hS).cell (i := 0) rfl
      have f1 := (kt.kept hS).cell (i := 1) rfl
      rcases i with _ | _ | _ | _ | _ | i
      · refine wpOpIn_list rfl ?_
        simp only [tmOf, putAll, List.map_cons, List.map_nil, List.setIfInBounds_toArray, List.set_cons_zero, List.set_cons_succ]
        gi_wp2
        simp [upd, hS]
      · refine wpOpIn_list rfl ?_
        simp only [tmOf, putAll, List.map_cons, List.map_nil, List.setIfInBounds_toArray, List.set_cons_zero, List.set_cons_succ]
        gi_wp2
        simp [upd, hS]
      · refine wpOpIn_list rfl ?_
        simp only [tmOf, putAll, List.map_cons, List.map_nil, List.setIfInBounds_toArray, List.set_cons_zero, List.set_cons_succ]
        gi_wp2
        simp [upd, hS]
      · have g1 : f 1 = .int .i64 (vg p k) := hd 1 (by kernel_rfl)
        have g2 : f 2 = .int .i64 (vg q k) := hd 2 (by kernel_rfl)
        refine wpOpIn_list rfl ?_
        simp only [tmOf, putAll, List.map_cons, List.map_nil, List.setIfInBounds_toArray, List.set_cons_zero, List.set_cons_succ]
        gi_wp2_with (refine ⟨trivial, ?_⟩; gi_at_call 80; refine (CallsIn.inRound l (callsIn_wide.2 (HP.out _))).mono ?_; rintro e w' ⟨rfl, hbf⟩)
        simp [upd, g1, g2]
        exact hS.trans (hbf.mono hS.size)
      · have g0 : f 0 = .agg #[.int .u64 sh, .int .u64 sl] := hd 0 (by kernel_rfl)
        have g3 : f 3 = .agg #[.int .u64 xh, .int .u64 xl] := hd 3 (by kernel_rfl)
        refine wpOpIn_list rfl ?_
        simp only [tmOf, putAll, List.map_cons, List.map_nil, List.setIfInBounds_toArray, List.set_cons_zero, List.set_cons_succ]
        gi_wp2_with (refine ⟨trivial, ?_⟩; gi_at_call 79; refine (CallsIn.inRound l (callsIn_wide.2 (HS.out _))).mono ?_; rintro e w' ⟨rfl, hbf⟩)
        simp [upd, g0, g3]
        exact hS.trans (hbf.mono hS.size)
      · omega
    · rintro f ww hS hd
      have K0 := kt.kept hS
      have K1 := kr.kept hS
      have e0 := K0.cell (i := 0) rfl
      have e1 := K0.cell (i := 1) rfl
      have e2 := K0.frozen 0
      have e3 := K0.frozen 1
      have g4 : f 4 = .agg #[.int .u64 uh, .int .u64 ul] := hd 4 (by decide)
      simp only [seqWIn, tmOf, putAll, List.map_cons, List.map_nil, List.setIfInBounds_toArray, List.set_cons_zero, List.set_cons_succ, List.length_cons, List.length_nil]
      refine wpOpIn_list rfl ?_
      gi_wp2
      refine ⟨((KeepsOthers.of_grownBy (grown_of_below hS) fun j o e hj => by cases e).trans (KeepsOthers.setCell _ _ _)).trans (KeepsOthers.setCell _ _ _),
        ((KeepsAt.of_below hS (by rintro b (rfl | rfl) <;> omega)).setCell _ _ (by simp only; omega)).setCell _ _ (by simp only; omega), ⟨?_, ?_, ?_⟩, ((hB.trans (hS.mono hB.size)).setCell (by simp only; omega) _).setCell (by simp only; omega) _⟩
      · rw [HU.out.1, HU.out.2]; exact (K0.set_eq 0 _ rfl).set_eq 1 _ rfl
      · exact (K1.other (C := w.heap.size + 1 + 1 + 1) 0 _ (by omega)).other (C := w.heap.size + 1 + 1 + 1) 1 _ (by omega)
      · have := hS.size; simp; omega
  case done =>
    rintro D zs W hD rfl ⟨⟨kt, kr, hzz⟩, hB⟩ hK
    have e0 := kt.cell (i := 0) rfl
    have e1 := kt.cell (i := 1) rfl
    have d0 := kr.cell (i := 0) rfl
    have d1 := kr.cell (i := 1) rfl
    have d2 := kr.frozen 0
    have d3 := kr.frozen 1
    generalize hUH : hiW (dotL p q (List.range 4)) = uh at *
    generalize hUL : loW (dotL p q (List.range 4)) = ul at *
    have HU := Lib.hid (And.intro hUH hUL)
    clear hUH hUL
    gi_wp2
    have hK' := ((KeepsOthers.setCell W ⟨w.heap.size + 1 + 1, 0, none⟩ (.int .u64 uh)).trans (KeepsOthers.setCell _ ⟨w.heap.size + 1 + 1, 1, none⟩ (.int .u64 ul))).same D _ hK rfl
    refine ⟨by simp, .inl ⟨_, _, rfl, run_takeDeferred hK', ?_⟩⟩
    have L := ((kr.set_eq 0 (.int .u64 uh) rfl).set_eq 1 (.int .u64 ul) rfl).own (grownBy_putObj' _ D (.deferred none)) (fun r e => by cases e; exact ⟨_, hK', rfl⟩)
    have z0 := L.cell (i := 0) rfl
    have z1 := L.cell (i := 1) rfl
    refine ⟨.agg #[.int .u64 uh, .int .u64 ul], ?_, by unfold sumV; rw [HU.out.1, HU.out.2], ((hB.setCell (p := ⟨w.heap.size + 1 + 1, 0, none⟩) (by simp only; omega) _).setCell (p := ⟨w.heap.size + 1 + 1, 1, none⟩) (by simp only; omega) _).trans (belowK_b (w := w) (Nat.le_refl _) _ D _ _ (by omega) hK' rfl rfl)⟩
    simp [results, Try.f53, go_sem, z0, z1]
  case stop =>
    rintro D c pre W hD _ ⟨h, _⟩
    exact h.elim

end Go.Proofs.Ytopdeakjnloemaa

namespace Go.Proofs.Ytopdeakjnloemaa
open Go.RowKit Go.Shelf
attribute [local go_sem] Oper.semAt_some

set_option maxRecDepth 100000 in
set_option maxHeartbeats 4000000 in
theorem area_any (bi bj i j : Nat) (p q : V4) (w : World) (hi4 : i < 4) (hj4 : j < 4) (hp : InV p) (hq : InV q)
    (h0 : w.cell? ⟨bi, 0, none⟩ = some (.int .i64 (i : Int))) (h1 : w.cell? ⟨bj, 0, none⟩ = some (.int .i64 (j : Int))) (l0 : bi < w.heap.size) (l1 : bj < w.heap.size) :
    Calls Try.prog 103 #[.agg #[.int .i64 p.a, .int .i64 p.b, .int .i64 p.c, .int .i64 p.d], .agg #[.int .i64 q.a, .int .i64 q.b, .int .i64 q.c, .int .i64 q.d], .pointer (some ⟨bi, 0, none⟩), .pointer (some ⟨bj, 0, none⟩)] w fun e w' => e = .returned (sumV (vg p i * vg q j - vg p j * vg q i)) ∧ Below w.heap.size w w' := by
  obtain ⟨w1, hw1⟩ : ∃ w1, (((w.alloc (.cells #[.int .i64 p.a, .int .i64 p.b, .int .i64 p.c, .int .i64 p.d] 22)).alloc (.cells #[.int .i64 q.a, .int .i64 q.b, .int .i64 q.c, .int .i64 q.d] 22)).alloc (.cells #[.int .u64 0, .int .u64 0] 76)) = w1 := ⟨_, rfl⟩
  have hb1 : Below w.heap.size w w1 := by rw [← hw1]; exact bw3 w _ _ _
  have k0 : Blk w1 w.heap.size #[.int .i64 p.a, .int .i64 p.b, .int .i64 p.c, .int .i64 p.d] 22 := by rw [← hw1]; exact ((Blk.new w _ _).alloc _).alloc _
  have k1 : Blk w1 (w.heap.size + 1) #[.int .i64 q.a, .int .i64 q.b, .int .i64 q.c, .int .i64 q.d] 22 := by rw [← hw1]; exact (Blk.new' _ _ _ (by simp)).alloc _
  have k2 : Blk w1 (w.heap.size + 1 + 1) #[.int .u64 0, .int .u64 0] 76 := by rw [← hw1]; exact Blk.new' _ _ _ (by simp)
  have a0 := vg_in hp i
  have a1 := vg_in hq j
  have a2 := vg_in hp j
  have a3 := vg_in hq i
  unfold InI64 at a0 a1 a2 a3
  have hx := fun W => product_any (vg p i) (vg q j) W a0.1 a0.2 a1.1 a1.2
  have hy := fun W => product_any (vg p j) (vg q i) W a2.1 a2.2 a3.1 a3.2
  have hu := fun W => minus_any (vg p i * vg q j) (vg p j * vg q i) W
  have hii : (i : Int) < 4 := by omega
  have hji : (j : Int) < 4 := by omega
  unfold sumV at hx hy hu ⊢
  generalize hiW (vg p i * vg q j) = xh at *
  generalize loW (vg p i * vg q j) = xl at *
  generalize hiW (vg p j * vg q i) = yh at *
  generalize loW (vg p j * vg q i) = yl at *
  generalize hiW (vg p i * vg q j - vg p j * vg q i) = uh at *
  generalize loW (vg p i * vg q j - vg p j * vg q i) = ul at *
  have HX := Lib.hid hx
  have HY := Lib.hid hy
  have HU := Lib.hid hu
  clear hx hy hu a0 a1 a2 a3 hp hq
  go_enter Try.func103, Try.ntmps103
  go_upto_region 1 with fail
  refine wp_region_pure 15 (fun ix => match ix with | 0 => .int .i64 (i : Int) | 1 => .pointer (some ⟨w.heap.size, i, none⟩) | 2 => .int .i64 (vg p i) | 3 => .int .i64 (j : Int) | 4 => .pointer (some ⟨w.heap.size + 1, j, none⟩) | 5 => .int .i64 (vg q j) | 6 => .agg #[.int .u64 xh, .int .u64 xl] | 7 => .int .i64 (j : Int) | 8 => .pointer (some ⟨w.heap.size, j, none⟩) | 9 => .int .i64 (vg p j) | 10 => .int .i64 (i : Int) | 11 => .pointer (some ⟨w.heap.size + 1, i, none⟩) | 12 => .int .i64 (vg q i) | 13 => .agg #[.int .u64 yh, .int .u64 yl] | _ => .agg #[.int .u64 uh, .int .u64 ul]) (by kernel_rfl) (by kernel_rfl) (by kernel_rfl) ?_ ?_ ?_
  · decide
  · rintro ix hx f ww hS hd
    have f0 := (k0.kept hS).vg hi4
    have f1 := (k1.kept hS).vg hj4
    have f2 := (k0.kept hS).vg hj4
    have f3 := (k1.kept hS).vg hi4
    have hbw := hb1.trans (hS.mono hb1.size)
    have f4 := (hbw.cell (p := ⟨bi, 0, none⟩) l0).trans h0
    have f5 := (hbw.cell (p := ⟨bj, 0, none⟩) l1).trans h1
    rcases ix with _ | _ | _ | _ | _ | _ | _ | _ | _ | _ | _ | _ | _ | _ | _ | ix
    · refine wpOp_list rfl ?_
      simp only [tmOf, putAll, List.map_cons, List.map_nil, List.setIfInBounds_toArray, List.set_cons_zero, List.set_cons_succ]
      go_wp2
      simp [upd, Below.refl]
    · have g0 : f 0 = .int .i64 (i : Int) := hd 0 (by kernel_rfl)
      refine wpOp_list rfl ?_
      simp only [tmOf, putAll, List.map_cons, List.map_nil, List.setIfInBounds_toArray, List.set_cons_zero, List.set_cons_succ]
      go_wp2
      simp [upd, g0, Below.refl]
    · have g1 : f 1 = .pointer (some ⟨w.heap.size, i, none⟩) := hd 1 (by kernel_rfl)
      refine wpOp_list rfl ?_
      simp only [tmOf, putAll, List.map_cons, List.map_nil, List.setIfInBounds_toArray, List.set_cons_zero, List.set_cons_succ]
      go_wp2
      simp [upd, g1, Below.refl]
    · refine wpOp_list rfl ?_
      simp only [tmOf, putAll, List.map_cons, List.map_nil, List.setIfInBounds_toArray, List.set_cons_zero, List.set_cons_succ]
      go_wp2
      simp [upd, Below.refl]
    · have g3 : f 3 = .int .i64 (j : Int) := hd 3 (by kernel_rfl)
      refine wpOp_list rfl ?_
      simp only [tmOf, putAll, List.map_cons, List.map_nil, List.setIfInBounds_toArray, List.set_cons_zero, List.set_cons_succ]
      go_wp2
      simp [upd, g3, Below.refl]
    · have g4 : f 4 = .pointer (some ⟨w.heap.size + 1, j, none⟩) := hd 4 (by kernel_rfl)
      refine wpOp_list rfl ?_
      simp only [tmOf, putAll, List.map_cons, List.map_nil, List.setIfInBounds_toArray, List.set_cons_zero, List.set_cons_succ]
      go_wp2
      simp [upd, g4, Below.refl]
    · have g2 : f 2 = .int .i64 (vg p i) := hd 2 (by kernel_rfl)
      have g5 : f 5 = .int .i64 (vg q j) := hd 5 (by kernel_rfl)
      refine wpOp_list rfl ?_
      simp only [tmOf, putAll, List.map_cons, List.map_nil, List.setIfInBounds_toArray, List.set_cons_zero, List.set_cons_succ]
      go_wp2_with fail
      refine (HX.out _).mono ?_
      rintro e' wf ⟨rfl, hbf⟩
      go_wp2_with fail
      simp [upd, g2, g5, hbf]
    · refine wpOp_list rfl ?_
      simp only [tmOf, putAll, List.map_cons, List.map_nil, List.setIfInBounds_toArray, List.set_cons_zero, List.set_cons_succ]
      go_wp2
      simp [upd, Below.refl]
    · have g7 : f 7 = .int .i64 (j : Int) := hd 7 (by kernel_rfl)
      refine wpOp_list rfl ?_
      simp only [tmOf, putAll, List.map_cons, List.map_nil, List.setIfInBounds_toArray, List.set_cons_zero, List.set_cons_succ]
      go_wp2
      simp [upd, g7, Below.refl]
    · have g8 : f 8 = .pointer (some ⟨w.heap.size, j, none⟩) := hd 8 (by kernel_rfl)
      refine wpOp_list rfl ?_
      simp only [tmOf, putAll, List.map_cons, List.map_nil, List.setIfInBounds_toArray, List.set_cons_zero, List.set_cons_succ]
      go_wp2
      simp [upd, g8, Below.refl]
    · refine wpOp_list rfl ?_
      simp only [tmOf, putAll, List.map_cons, List.map_nil, List.setIfInBounds_toArray, List.set_cons_zero, List.set_cons_succ]
      go_wp2
      simp [upd, Below.refl]
    · have g10 : f 10 = .int .i64 (i : Int) := hd 10 (by kernel_rfl)
      refine wpOp_list rfl ?_
      simp only [tmOf, putAll, List.map_cons, List.map_nil, List.setIfInBounds_toArray, List.set_cons_zero, List.set_cons_succ]
      go_wp2
      simp [upd, g10, Below.refl]
    · have g11 : f 11 = .pointer (some ⟨w.heap.size + 1, i, none⟩) := hd 11 (by kernel_rfl)
      refine wpOp_list rfl ?_
      simp only [tmOf, putAll, List.map_cons, List.map_nil, List.setIfInBounds_toArray, List.set_cons_zero, List.set_cons_succ]
      go_wp2
      simp [upd, g11, Below.refl]
    · have g9 : f 9 = .int .i64 (vg p j) := hd 9 (by kernel_rfl)
      have g12 : f 12 = .int .i64 (vg q i) := hd 12 (by kernel_rfl)
      refine wpOp_list rfl ?_
      simp only [tmOf, putAll, List.map_cons, List.map_nil, List.setIfInBounds_toArray, List.set_cons_zero, List.set_cons_succ]
      go_wp2_with fail
      refine (HY.out _).mono ?_
      rintro e' wf ⟨rfl, hbf⟩
      go_wp2_with fail
      simp [upd, g9, g12, hbf]
    · have g6 : f 6 = .agg #[.int .u64 xh, .int .u64 xl] := hd 6 (by kernel_rfl)
      have g13 : f 13 = .agg #[.int .u64 yh, .int .u64 yl] := hd 13 (by kernel_rfl)
      refine wpOp_list rfl ?_
      simp only [tmOf, putAll, List.map_cons, List.map_nil, List.setIfInBounds_toArray, List.set_cons_zero, List.set_cons_succ]
      go_wp2_with fail
      refine (HU.out _).mono ?_
      rintro e' wf ⟨rfl, hbf⟩
      go_wp2_with fail
      simp [upd, g6, g13, hbf]
    · omega
  · rintro f ww hS hd
    have K2 := k2.kept hS
    have d0 := K2.cell (i := 0) rfl
    have d1 := K2.cell (i := 1) rfl
    have q0 := K2.frozen 0
    have q1 := K2.frozen 1
    have g14 : f 14 = .agg #[.int .u64 uh, .int .u64 ul] := hd 14 (by decide)
    simp only [seqW, tmOf, putAll, List.map_cons, List.map_nil, List.setIfInBounds_toArray, List.set_cons_zero, List.set_cons_succ, List.length_cons, List.length_nil]
    refine wpOp_list rfl ?_
    go_wp2
    have L := (K2.set_eq 0 (.int .u64 uh) rfl).set_eq 1 (.int .u64 ul) rfl
    have z0 := L.cell (i := 0) rfl
    have z1 := L.cell (i := 1) rfl
    exact bodyPost_ret (v := .agg #[.int .u64 uh, .int .u64 ul]) (by simp [results, Try.results103, go_sem, z0, z1]) rfl ⟨rfl, ((hb1.trans (hS.mono hb1.size)).setCell (by simp only; omega) _).setCell (by simp only; omega) _⟩

end Go.Proofs.Ytopdeakjnloemaa

namespace Go.Proofs.Ytopdeakjnloemaa
open Go.RowKit Go.Shelf
attribute [local go_sem] Oper.semAt_some

theorem sums3 (w : World) (xh xl yh yl zh zl : Int) (x y z : Int) (h : (hiW x = xh ∧ loW x = xl) ∧ (hiW y = yh ∧ loW y = yl) ∧ (hiW z = zh ∧ loW z = zl)) : RdSum (w.alloc (.cells #[.int .u64 xh, .int .u64 xl, .int .u64 yh, .int .u64 yl, .int .u64 zh, .int .u64 zl] 76)) (some ⟨w.heap.size, 0, none⟩) [x, y, z] := by
  obtain ⟨⟨rfl, rfl⟩, ⟨rfl, rfl⟩, ⟨rfl, rfl⟩⟩ := h
  have hB := Blk.new w #[.int .u64 (hiW x), .int .u64 (loW x), .int .u64 (hiW y), .int .u64 (loW y), .int .u64 (hiW z), .int .u64 (loW z)] 76
  intro i q hi
  match i, hi with
  | 0, hi => cases hi; exact ⟨_, 0, rfl, hB.lt, hB.cell (i := 0) rfl, hB.cell (i := 1) rfl⟩
  | 1, hi => cases hi; exact ⟨_, 0, rfl, hB.lt, hB.cell (i := 2) rfl, hB.cell (i := 3) rfl⟩
  | 2, hi => cases hi; exact ⟨_, 0, rfl, hB.lt, hB.cell (i := 4) rfl, hB.cell (i := 5) rfl⟩
  | i + 3, hi => simp at hi

theorem bw6 (w : World) (a b c d e f : Obj) : Below w.heap.size w ((((((w.alloc a).alloc b).alloc c).alloc d).alloc e).alloc f) :=
  (((bw3 w a b c).alloc (bw3 w a b c).size d).alloc ((bw3 w a b c).alloc (bw3 w a b c).size d).size e).alloc (((bw3 w a b c).alloc (bw3 w a b c).size d).alloc ((bw3 w a b c).alloc (bw3 w a b c).size d).size e).size f

set_option maxRecDepth 100000 in
set_option maxHeartbeats 8000000 in
theorem minor_any (i j k : Nat) (p q r : V4) (w : World) (hi4 : i < 4) (hj4 : j < 4) (hk4 : k < 4) (hp : InV p) (hq : InV q) (hrr : InV r) :
    Calls Try.prog 81 #[.int .i64 (i : Int), .int .i64 (j : Int), .int .i64 (k : Int), .agg #[.int .i64 p.a, .int .i64 p.b, .int .i64 p.c, .int .i64 p.d], .agg #[.int .i64 q.a, .int .i64 q.b, .int .i64 q.c, .int .i64 q.d], .agg #[.int .i64 r.a, .int .i64 r.b, .int .i64 r.c, .int .i64 r.d]] w fun e w' => e = .returned (sumV (minorZ (vg p i) (vg p j) (vg p k) (vg q i) (vg q j) (vg q k) (vg r i) (vg r j) (vg r k))) ∧ Below w.heap.size w w' := by
  obtain ⟨w1, hw1⟩ : ∃ w1, ((((((w.alloc (.cells #[.int .i64 (i : Int)] 3)).alloc (.cells #[.int .i64 (j : Int)] 3)).alloc (.cells #[.int .i64 p.a, .int .i64 p.b, .int .i64 p.c, .int .i64 p.d] 22)).alloc (.cells #[.int .i64 q.a, .int .i64 q.b, .int .i64 q.c, .int .i64 q.d] 22)).alloc (.cells #[.int .i64 r.a, .int .i64 r.b, .int .i64 r.c, .int .i64 r.d] 22)).alloc (.cells #[.int .u64 0, .int .u64 0] 76)) = w1 := ⟨_, rfl⟩
  have hb1 : Below w.heap.size w w1 := by rw [← hw1]; exact bw6 w _ _ _ _ _ _
  have k0 : Blk w1 (w.heap.size) #[.int .i64 (i : Int)] 3 := by rw [← hw1]; exact (((((Blk.new w _ _).alloc _).alloc _).alloc _).alloc _).alloc _
  have k1 : Blk w1 (w.heap.size + 1) #[.int .i64 (j : Int)] 3 := by rw [← hw1]; exact ((((Blk.new' _ _ _ (by simp)).alloc _).alloc _).alloc _).alloc _
  have k2 : Blk w1 (w.heap.size + 1 + 1) #[.int .i64 p.a, .int .i64 p.b, .int .i64 p.c, .int .i64 p.d] 22 := by rw [← hw1]; exact (((Blk.new' _ _ _ (by simp)).alloc _).alloc _).alloc _
  have k3 : Blk w1 (w.heap.size + 1 + 1 + 1) #[.int .i64 q.a, .int .i64 q.b, .int .i64 q.c, .int .i64 q.d] 22 := by rw [← hw1]; exact ((Blk.new' _ _ _ (by simp)).alloc _).alloc _
  have k4 : Blk w1 (w.heap.size + 1 + 1 + 1 + 1) #[.int .i64 r.a, .int .i64 r.b, .int .i64 r.c, .int .i64 r.d] 22 := by rw [← hw1]; exact (Blk.new' _ _ _ (by simp)).alloc _
  have k5 : Blk w1 (w.heap.size + 1 + 1 + 1 + 1 + 1) #[.int .u64 0, .int .u64 0] 76 := by rw [← hw1]; exact Blk.new' _ _ _ (by simp)
  have hA0 := fun W h0 h1 l0 l1 => area_any (w.heap.size) (w.heap.size + 1) i j p q W hi4 hj4 hp hq h0 h1 l0 l1
  have hB0 := fun W h0 h1 l0 l1 => area_any (w.heap.size) (w.heap.size + 1) i j q r W hi4 hj4 hq hrr h0 h1 l0 l1
  have hC0 := fun W h0 h1 l0 l1 => area_any (w.heap.size) (w.heap.size + 1) i j r p W hi4 hj4 hrr hp h0 h1 l0 l1
  have a0 := vg_in hp k
  have a1 := vg_in hq k
  have a2 := vg_in hrr k
  unfold InI64 at a0 a1 a2
  have hx := fun W => times_any (vg p i * vg q j - vg p j * vg q i) (vg r k) W a2.1 a2.2
  have hy := fun W => times_any (vg q i * vg r j - vg q j * vg r i) (vg p k) W a0.1 a0.2
  have hz := fun W => times_any (vg r i * vg p j - vg r j * vg p i) (vg q k) W a1.1 a1.2
  obtain ⟨x, hxe⟩ : ∃ x, (vg p i * vg q j - vg p j * vg q i) * vg r k = x := ⟨_, rfl⟩
  obtain ⟨y, hye⟩ : ∃ x, (vg q i * vg r j - vg q j * vg r i) * vg p k = x := ⟨_, rfl⟩
  obtain ⟨z, hze⟩ : ∃ x, (vg r i * vg p j - vg r j * vg p i) * vg q k = x := ⟨_, rfl⟩
  have hm : minorZ (vg p i) (vg p j) (vg p k) (vg q i) (vg q j) (vg q k) (vg r i) (vg r j) (vg r k) = sumI [x, y, z] := by
    unfold minorZ sumI; rw [hxe, hye, hze]; simp
  rw [hm]
  rw [hxe] at hx
  rw [hye] at hy
  rw [hze] at hz
  have hu : ∀ B W, RdSum W (some ⟨B, 0, none⟩) [x, y, z] → Calls Try.prog 104 #[.slice (some ⟨B, 0, none⟩) 3 3] W fun e w' => e = .returned (sumV (sumI [x, y, z])) ∧ Below W.heap.size W w' := fun B W h => total_any _ 3 3 [x, y, z] W rfl (by decide) h
  clear hm hxe hye hze
  obtain ⟨xh, hxh⟩ : ∃ v, hiW x = v := ⟨_, rfl⟩
  obtain ⟨xl, hxl⟩ : ∃ v, loW x = v := ⟨_, rfl⟩
  obtain ⟨yh, hyh⟩ : ∃ v, hiW y = v := ⟨_, rfl⟩
  obtain ⟨yl, hyl⟩ : ∃ v, loW y = v := ⟨_, rfl⟩
  obtain ⟨zh, hzh⟩ : ∃ v, hiW z = v := ⟨_, rfl⟩
  obtain ⟨zl, hzl⟩ : ∃ v, loW z = v := ⟨_, rfl⟩
  have HW := Lib.hid (And.intro (And.intro hxh hxl) (And.intro (And.intro hyh hyl) (And.intro hzh hzl)))
  unfold sumV at hA0 hB0 hC0 hx hy hz hu ⊢
  rw [hxh, hxl] at hx
  rw [hyh, hyl] at hy
  rw [hzh, hzl] at hz
  clear hxh hxl hyh hyl hzh hzl
  generalize hiW (sumI [x, y, z]) = uh at *
  generalize loW (sumI [x, y, z]) = ul at *
  generalize hiW (vg p i * vg q j - vg p j * vg q i) = ah at *
  generalize loW (vg p i * vg q j - vg p j * vg q i) = al at *
  generalize hiW (vg q i * vg r j - vg q j * vg r i) = bh at *
  generalize loW (vg q i * vg r j - vg q j * vg r i) = bl at *
  generalize hiW (vg r i * vg p j - vg r j * vg p i) = ch at *
  generalize loW (vg r i * vg p j - vg r j * vg p i) = cl at *
  have HA := Lib.hid hA0
  have HB := Lib.hid hB0
  have HC := Lib.hid hC0
  have HX := Lib.hid hx
  have HY := Lib.hid hy
  have HZ := Lib.hid hz
  have HU := Lib.hid hu
  have hki : (k : Int) < 4 := by omega
  clear hx hy hz hu a0 a1 a2 hp hq hrr hA0 hB0 hC0
  go_enter Try.func81, Try.ntmps81
  go_upto_region 2 with fail
  refine wp_region_kn 26 (fun ix => ix != 24) (fun ix => match ix with | 0 => .func (.func 103) #[] #[.pointer (some ⟨w.heap.size, 0, none⟩), .pointer (some ⟨w.heap.size + 1, 0, none⟩)] | 1 => .agg #[.int .i64 p.a, .int .i64 p.b, .int .i64 p.c, .int .i64 p.d] | 2 => .agg #[.int .i64 q.a, .int .i64 q.b, .int .i64 q.c, .int .i64 q.d] | 3 => .agg #[.int .u64 ah, .int .u64 al] | 4 => .int .i64 (k : Int) | 5 => .pointer (some ⟨w.heap.size + 1 + 1 + 1 + 1, k, none⟩) | 6 => .int .i64 (vg r k) | 7 => .agg #[.int .u64 xh, .int .u64 xl] | 8 => .func (.func 103) #[] #[.pointer (some ⟨w.heap.size, 0, none⟩), .pointer (some ⟨w.heap.size + 1, 0, none⟩)] | 9 => .agg #[.int .i64 q.a, .int .i64 q.b, .int .i64 q.c, .int .i64 q.d] | 10 => .agg #[.int .i64 r.a, .int .i64 r.b, .int .i64 r.c, .int .i64 r.d] | 11 => .agg #[.int .u64 bh, .int .u64 bl] | 12 => .int .i64 (k : Int) | 13 => .pointer (some ⟨w.heap.size + 1 + 1, k, none⟩) | 14 => .int .i64 (vg p k) | 15 => .agg #[.int .u64 yh, .int .u64 yl] | 16 => .func (.func 103) #[] #[.pointer (some ⟨w.heap.size, 0, none⟩), .pointer (some ⟨w.heap.size + 1, 0, none⟩)] | 17 => .agg #[.int .i64 r.a, .int .i64 r.b, .int .i64 r.c, .int .i64 r.d] | 18 => .agg #[.int .i64 p.a, .int .i64 p.b, .int .i64 p.c, .int .i64 p.d] | 19 => .agg #[.int .u64 ch, .int .u64 cl] | 20 => .int .i64 (k : Int) | 21 => .pointer (some ⟨w.heap.size + 1 + 1 + 1, k, none⟩) | 22 => .int .i64 (vg q k) | 23 => .agg #[.int .u64 zh, .int .u64 zl] | _ => .agg #[.int .u64 uh, .int .u64 ul]) (fun _ v w => ∃ B, v = .slice (some ⟨B, 0, none⟩) 3 3 ∧ RdSum w (some ⟨B, 0, none⟩) [x, y, z]) (by kernel_rfl) (by kernel_rfl) (by kernel_rfl) (by decide) ?_ ?_ ?_
  · rintro ix v w8 w9 hb9 ⟨B, e, h⟩
    exact ⟨B, e, h.below hb9⟩
  · rintro ix hx f ww hS hd
    have k0 := k0.kept hS
    have k1 := k1.kept hS
    have k2 := k2.kept hS
    have k3 := k3.kept hS
    have k4 := k4.kept hS
    have f0 := k0.cell (i := 0) rfl
    have f1 := k1.cell (i := 0) rfl
    have f2 := k0.lt
    have f3 := k1.lt
    have pp0 := k2.cell (i := 0) rfl
    have pp1 := k2.cell (i := 1) rfl
    have pp2 := k2.cell (i := 2) rfl
    have pp3 := k2.cell (i := 3) rfl
    have pq0 := k3.cell (i := 0) rfl
    have pq1 := k3.cell (i := 1) rfl
    have pq2 := k3.cell (i := 2) rfl
    have pq3 := k3.cell (i := 3) rfl
    have pr0 := k4.cell (i := 0) rfl
    have pr1 := k4.cell (i := 1) rfl
    have pr2 := k4.cell (i := 2) rfl
    have pr3 := k4.cell (i := 3) rfl
    have gp := k2.vg hk4
    have gq := k3.vg hk4
    have gr := k4.vg hk4
    rcases ix with _ | _ | _ | _ | _ | _ | _ | _ | _ | _ | _ | _ | _ | _ | _ | _ | _ | _ | _ | _ | _ | _ | _ | _ | _ | _ | ix
    · refine wpOp_list rfl ?_
      simp only [tmOf, putAll, List.map_cons, List.map_nil, List.setIfInBounds_toArray, List.set_cons_zero, List.set_cons_succ]
      go_wp2
      refine ⟨.func (.func 103) #[] #[.pointer (some ⟨w.heap.size, 0, none⟩), .pointer (some ⟨w.heap.size + 1, 0, none⟩)], ?_⟩
      simp [upd, Below.refl]
    · refine wpOp_list rfl ?_
      simp only [tmOf, putAll, List.map_cons, List.map_nil, List.setIfInBounds_toArray, List.set_cons_zero, List.set_cons_succ]
      go_wp2
      refine ⟨.agg #[.int .i64 p.a, .int .i64 p.b, .int .i64 p.c, .int .i64 p.d], ?_⟩
      simp [upd, Below.refl]
    · refine wpOp_list rfl ?_
      simp only [tmOf, putAll, List.map_cons, List.map_nil, List.setIfInBounds_toArray, List.set_cons_zero, List.set_cons_succ]
      go_wp2
      refine ⟨.agg #[.int .i64 q.a, .int .i64 q.b, .int .i64 q.c, .int .i64 q.d], ?_⟩
      simp [upd, Below.refl]
    · have g0 : f 0 = .func (.func 103) #[] #[.pointer (some ⟨w.heap.size, 0, none⟩), .pointer (some ⟨w.heap.size + 1, 0, none⟩)] := hd 0 (by kernel_rfl)
      have g1 : f 1 = .agg #[.int .i64 p.a, .int .i64 p.b, .int .i64 p.c, .int .i64 p.d] := hd 1 (by kernel_rfl)
      have g2 : f 2 = .agg #[.int .i64 q.a, .int .i64 q.b, .int .i64 q.c, .int .i64 q.d] := hd 2 (by kernel_rfl)
      refine wpOp_list rfl ?_
      simp only [tmOf, putAll, List.map_cons, List.map_nil, List.setIfInBounds_toArray, List.set_cons_zero, List.set_cons_succ]
      go_wp2_with fail
      refine (HA.out _ f0 f1 f2 f3).mono ?_
      rintro e' wf ⟨rfl, hbf⟩
      go_wp2_with fail
      try refine ⟨.agg #[.int .u64 ah, .int .u64 al], ?_⟩
      simp [upd, g0, g1, g2, hbf]
    · refine wpOp_list rfl ?_
      simp only [tmOf, putAll, List.map_cons, List.map_nil, List.setIfInBounds_toArray, List.set_cons_zero, List.set_cons_succ]
      go_wp2
      refine ⟨.int .i64 (k : Int), ?_⟩
      simp [upd, Below.refl]
    · have g4 : f 4 = .int .i64 (k : Int) := hd 4 (by kernel_rfl)
      refine wpOp_list rfl ?_
      simp only [tmOf, putAll, List.map_cons, List.map_nil, List.setIfInBounds_toArray, List.set_cons_zero, List.set_cons_succ]
      go_wp2
      refine ⟨.pointer (some ⟨w.heap.size + 1 + 1 + 1 + 1, k, none⟩), ?_⟩
      simp [upd, g4, Below.refl]
    · have g5 : f 5 = .pointer (some ⟨w.heap.size + 1 + 1 + 1 + 1, k, none⟩) := hd 5 (by kernel_rfl)
      refine wpOp_list rfl ?_
      simp only [tmOf, putAll, List.map_cons, List.map_nil, List.setIfInBounds_toArray, List.set_cons_zero, List.set_cons_succ]
      go_wp2
      refine ⟨.int .i64 (vg r k), ?_⟩
      simp [upd, g5, Below.refl]
    · have g3 : f 3 = .agg #[.int .u64 ah, .int .u64 al] := hd 3 (by kernel_rfl)
      have g6 : f 6 = .int .i64 (vg r k) := hd 6 (by kernel_rfl)
      refine wpOp_list rfl ?_
      simp only [tmOf, putAll, List.map_cons, List.map_nil, List.setIfInBounds_toArray, List.set_cons_zero, List.set_cons_succ]
      go_wp2_with fail
      refine (HX.out _).mono ?_
      rintro e' wf ⟨rfl, hbf⟩
      go_wp2_with fail
      try refine ⟨.agg #[.int .u64 xh, .int .u64 xl], ?_⟩
      simp [upd, g3, g6, hbf]
    · refine wpOp_list rfl ?_
      simp only [tmOf, putAll, List.map_cons, List.map_nil, List.setIfInBounds_toArray, List.set_cons_zero, List.set_cons_succ]
      go_wp2
      refine ⟨.func (.func 103) #[] #[.pointer (some ⟨w.heap.size, 0, none⟩), .pointer (some ⟨w.heap.size + 1, 0, none⟩)], ?_⟩
      simp [upd, Below.refl]
    · refine wpOp_list rfl ?_
      simp only [tmOf, putAll, List.map_cons, List.map_nil, List.setIfInBounds_toArray, List.set_cons_zero, List.set_cons_succ]
      go_wp2
      refine ⟨.agg #[.int .i64 q.a, .int .i64 q.b, .int .i64 q.c, .int .i64 q.d], ?_⟩
      simp [upd, Below.refl]
    · refine wpOp_list rfl ?_
      simp only [tmOf, putAll, List.map_cons, List.map_nil, List.setIfInBounds_toArray, List.set_cons_zero, List.set_cons_succ]
      go_wp2
      refine ⟨.agg #[.int .i64 r.a, .int .i64 r.b, .int .i64 r.c, .int .i64 r.d], ?_⟩
      simp [upd, Below.refl]
    · have g8 : f 8 = .func (.func 103) #[] #[.pointer (some ⟨w.heap.size, 0, none⟩), .pointer (some ⟨w.heap.size + 1, 0, none⟩)] := hd 8 (by kernel_rfl)
      have g9 : f 9 = .agg #[.int .i64 q.a, .int .i64 q.b, .int .i64 q.c, .int .i64 q.d] := hd 9 (by kernel_rfl)
      have g10 : f 10 = .agg #[.int .i64 r.a, .int .i64 r.b, .int .i64 r.c, .int .i64 r.d] := hd 10 (by kernel_rfl)
      refine wpOp_list rfl ?_
      simp only [tmOf, putAll, List.map_cons, List.map_nil, List.setIfInBounds_toArray, List.set_cons_zero, List.set_cons_succ]
      go_wp2_with fail
      refine (HB.out _ f0 f1 f2 f3).mono ?_
      rintro e' wf ⟨rfl, hbf⟩
      go_wp2_with fail
      try refine ⟨.agg #[.int .u64 bh, .int .u64 bl], ?_⟩
      simp [upd, g8, g9, g10, hbf]
    · refine wpOp_list rfl ?_
      simp only [tmOf, putAll, List.map_cons, List.map_nil, List.setIfInBounds_toArray, List.set_cons_zero, List.set_cons_succ]
      go_wp2
      refine ⟨.int .i64 (k : Int), ?_⟩
      simp [upd, Below.refl]
    · have g12 : f 12 = .int .i64 (k : Int) := hd 12 (by kernel_rfl)
      refine wpOp_list rfl ?_
      simp only [tmOf, putAll, List.map_cons, List.map_nil, List.setIfInBounds_toArray, List.set_cons_zero, List.set_cons_succ]
      go_wp2
      refine ⟨.pointer (some ⟨w.heap.size + 1 + 1, k, none⟩), ?_⟩
      simp [upd, g12, Below.refl]
    · have g13 : f 13 = .pointer (some ⟨w.heap.size + 1 + 1, k, none⟩) := hd 13 (by kernel_rfl)
      refine wpOp_list rfl ?_
      simp only [tmOf, putAll, List.map_cons, List.map_nil, List.setIfInBounds_toArray, List.set_cons_zero, List.set_cons_succ]
      go_wp2
      refine ⟨.int .i64 (vg p k), ?_⟩
      simp [upd, g13, Below.refl]
    · have g11 : f 11 = .agg #[.int .u64 bh, .int .u64 bl] := hd 11 (by kernel_rfl)
      have g14 : f 14 = .int .i64 (vg p k) := hd 14 (by kernel_rfl)
      refine wpOp_list rfl ?_
      simp only [tmOf, putAll, List.map_cons, List.map_nil, List.setIfInBounds_toArray, List.set_cons_zero, List.set_cons_succ]
      go_wp2_with fail
      refine (HY.out _).mono ?_
      rintro e' wf ⟨rfl, hbf⟩
      go_wp2_with fail
      try refine ⟨.agg #[.int .u64 yh, .int .u64 yl], ?_⟩
      simp [upd, g11, g14, hbf]
    · refine wpOp_list rfl ?_
      simp only [tmOf, putAll, List.map_cons, List.map_nil, List.setIfInBounds_toArray, List.set_cons_zero, List.set_cons_succ]
      go_wp2
      refine ⟨.func (.func 103) #[] #[.pointer (some ⟨w.heap.size, 0, none⟩), .pointer (some ⟨w.heap.size + 1, 0, none⟩)], ?_⟩
      simp [upd, Below.refl]
    · refine wpOp_list rfl ?_
      simp only [tmOf, putAll, List.map_cons, List.map_nil, List.setIfInBounds_toArray, List.set_cons_zero, List.set_cons_succ]
      go_wp2
      refine ⟨.agg #[.int .i64 r.a, .int .i64 r.b, .int .i64 r.c, .int .i64 r.d], ?_⟩
      simp [upd, Below.refl]
    · refine wpOp_list rfl ?_
      simp only [tmOf, putAll, List.map_cons, List.map_nil, List.setIfInBounds_toArray, List.set_cons_zero, List.set_cons_succ]
      go_wp2
      refine ⟨.agg #[.int .i64 p.a, .int .i64 p.b, .int .i64 p.c, .int .i64 p.d], ?_⟩
      simp [upd, Below.refl]
    · have g16 : f 16 = .func (.func 103) #[] #[.pointer (some ⟨w.heap.size, 0, none⟩), .pointer (some ⟨w.heap.size + 1, 0, none⟩)] := hd 16 (by kernel_rfl)
      have g17 : f 17 = .agg #[.int .i64 r.a, .int .i64 r.b, .int .i64 r.c, .int .i64 r.d] := hd 17 (by kernel_rfl)
      have g18 : f 18 = .agg #[.int .i64 p.a, .int .i64 p.b, .int .i64 p.c, .int .i64 p.d] := hd 18 (by kernel_rfl)
      refine wpOp_list rfl ?_
      simp only [tmOf, putAll, List.map_cons, List.map_nil, List.setIfInBounds_toArray, List.set_cons_zero, List.set_cons_succ]
      go_wp2_with fail
      refine (HC.out _ f0 f1 f2 f3).mono ?_
      rintro e' wf ⟨rfl, hbf⟩
      go_wp2_with fail
      try refine ⟨.agg #[.int .u64 ch, .int .u64 cl], ?_⟩
      simp [upd, g16, g17, g18, hbf]
    · refine wpOp_list rfl ?_
      simp only [tmOf, putAll, List.map_cons, List.map_nil, List.setIfInBounds_toArray, List.set_cons_zero, List.set_cons_succ]
      go_wp2
      refine ⟨.int .i64 (k : Int), ?_⟩
      simp [upd, Below.refl]
    · have g20 : f 20 = .int .i64 (k : Int) := hd 20 (by kernel_rfl)
      refine wpOp_list rfl ?_
      simp only [tmOf, putAll, List.map_cons, List.map_nil, List.setIfInBounds_toArray, List.set_cons_zero, List.set_cons_succ]
      go_wp2
      refine ⟨.pointer (some ⟨w.heap.size + 1 + 1 + 1, k, none⟩), ?_⟩
      simp [upd, g20, Below.refl]
    · have g21 : f 21 = .pointer (some ⟨w.heap.size + 1 + 1 + 1, k, none⟩) := hd 21 (by kernel_rfl)
      refine wpOp_list rfl ?_
      simp only [tmOf, putAll, List.map_cons, List.map_nil, List.setIfInBounds_toArray, List.set_cons_zero, List.set_cons_succ]
      go_wp2
      refine ⟨.int .i64 (vg q k), ?_⟩
      simp [upd, g21, Below.refl]
    · have g19 : f 19 = .agg #[.int .u64 ch, .int .u64 cl] := hd 19 (by kernel_rfl)
      have g22 : f 22 = .int .i64 (vg q k) := hd 22 (by kernel_rfl)
      refine wpOp_list rfl ?_
      simp only [tmOf, putAll, List.map_cons, List.map_nil, List.setIfInBounds_toArray, List.set_cons_zero, List.set_cons_succ]
      go_wp2_with fail
      refine (HZ.out _).mono ?_
      rintro e' wf ⟨rfl, hbf⟩
      go_wp2_with fail
      try refine ⟨.agg #[.int .u64 zh, .int .u64 zl], ?_⟩
      simp [upd, g19, g22, hbf]
    · have g7 : f 7 = .agg #[.int .u64 xh, .int .u64 xl] := hd 7 (by kernel_rfl)
      have g15 : f 15 = .agg #[.int .u64 yh, .int .u64 yl] := hd 15 (by kernel_rfl)
      have g23 : f 23 = .agg #[.int .u64 zh, .int .u64 zl] := hd 23 (by kernel_rfl)
      refine wpOp_list rfl ?_
      simp only [tmOf, putAll, List.map_cons, List.map_nil, List.setIfInBounds_toArray, List.set_cons_zero, List.set_cons_succ]
      go_wp2
      exact ⟨.slice (some ⟨ww.heap.size, 0, none⟩) 3 3, by simp [upd, g7, g15, g23], ⟨_, rfl, sums3 ww xh xl yh yl zh zl _ _ _ HW.out⟩, (Below.refl _ ww).alloc (Nat.le_refl _) _⟩
    · obtain ⟨B, g24, hr⟩ : ∃ B, f 24 = .slice (some ⟨B, 0, none⟩) 3 3 ∧ RdSum ww (some ⟨B, 0, none⟩) [x, y, z] := hd 24 (by kernel_rfl)
      refine wpOp_list rfl ?_
      simp only [tmOf, putAll, List.map_cons, List.map_nil, List.setIfInBounds_toArray, List.set_cons_zero, List.set_cons_succ]
      go_wp2_with fail
      refine (HU.out B _ hr).mono ?_
      rintro e' wf ⟨rfl, hbf⟩
      go_wp2_with fail
      try refine ⟨.agg #[.int .u64 uh, .int .u64 ul], ?_⟩
      simp [upd, g24, hbf]
    · omega
  · rintro f ww hS hd
    have K5 := k5.kept hS
    have d0 := K5.cell (i := 0) rfl
    have d1 := K5.cell (i := 1) rfl
    have q0 := K5.frozen 0
    have q1 := K5.frozen 1
    have g25 : f 25 = .agg #[.int .u64 uh, .int .u64 ul] := hd 25 (by decide)
    simp only [seqW, tmOf, putAll, List.map_cons, List.map_nil, List.setIfInBounds_toArray, List.set_cons_zero, List.set_cons_succ, List.length_cons, List.length_nil]
    refine wpOp_list rfl ?_
    go_wp2
    have L := (K5.set_eq 0 (.int .u64 uh) rfl).set_eq 1 (.int .u64 ul) rfl
    have z0 := L.cell (i := 0) rfl
    have z1 := L.cell (i := 1) rfl
    exact bodyPost_ret (v := .agg #[.int .u64 uh, .int .u64 ul]) (by simp [results, Try.results81, go_sem, z0, z1]) rfl ⟨rfl, ((hb1.trans (hS.mono hb1.size)).setCell (by simp only; omega) _).setCell (by simp only; omega) _⟩

end Go.Proofs.Ytopdeakjnloemaa
