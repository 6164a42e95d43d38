/-
  A region that draws its order, by one relation that every order keeps: a goal for each operation, not for each order.
-/
import Derived.Test.YtapfkinpdinbgaaDoorSum
namespace Go.Proofs.YtapfkinpdinbgaaDoor
open Go.RowKit
variable {P : Program} {Q : Exit → Act → World → Prop}

theorem countP_strict {p q : Nat → Bool} : ∀ (l : List Nat) (x : Nat), (∀ y, q y = true → p y = true) → x ∈ l → p x = true → q x = false → l.countP q + 1 ≤ l.countP p
  | [], x, _, hx, _, _ => by cases hx
  | y :: l, x, hpq, hx, hp, hq => by
    rw [List.countP_cons, List.countP_cons]
    rcases List.mem_cons.1 hx with rfl | hx
    · have := List.countP_mono_left (l := l) (fun y _ h => hpq y h)
      simp [hp, hq]; omega
    · have := countP_strict l x hpq hx hp hq
      by_cases h1 : q y = true
      · simp [h1, hpq y h1]; omega
      · simp [h1]; split <;> omega

def depsB (l : List Oper) (L : Nat → Bool) (i : Nat) : Bool := ((l[i]?).map fun o => o.after.all fun e => !Region.binds .any e || L e.on).getD false
def earlierB (l : List Oper) : Bool := (List.range l.length).all fun i => ((l[i]?).map fun o => o.after.all fun e => !Region.binds .any e || decide (e.on < i)).getD false

theorem depsB_all {l : List Oper} (hE : earlierB l = true) {L : Nat → Bool} {i : Nat} (hi : i < l.length) (h : ∀ j, j < i → L j = true) : depsB l L i = true := by
  have h1 := List.all_eq_true.1 hE i (List.mem_range.2 hi)
  unfold depsB
  rw [List.getElem?_eq_getElem hi] at h1 ⊢
  simp only [Option.map_some, Option.getD_some, Array.all_eq_true'] at h1 ⊢
  intro e he
  have := h1 e he
  simp only [Bool.or_eq_true, decide_eq_true_eq] at this ⊢
  rcases this with h2 | h2
  · exact .inl h2
  · exact .inr (h _ h2)


theorem all_listed {l : List Oper} (hE : earlierB l = true) {L : Nat → Bool} (h : ∀ i, i < l.length → L i = false → depsB l L i = false) : ∀ i, i < l.length → L i = true := by
  intro i
  induction i using Nat.strongRecOn with
  | _ i ih =>
    intro hi
    cases hL : L i
    · have := h i hi hL
      rw [depsB_all hE hi (fun j hj => ih j hj (by omega))] at this
      cases this
    · rfl

theorem mem_ready_iff {l : List Oper} {listed : Array Bool} {L : Nat → Bool} (hs : listed.size = l.length) (hL : ∀ i, listed.getD i false = L i) (i : Nat) :
    i ∈ Region.ready .any l.toArray listed ↔ i < l.length ∧ L i = false ∧ depsB l L i = true := by
  unfold Region.ready depsB
  simp only [List.mem_filter, List.mem_range, List.size_toArray, Bool.and_eq_true, Bool.not_eq_true', List.getElem?_toArray, hL]
  constructor
  · rintro ⟨h1, h2, h3⟩
    refine ⟨h1, ?_, h3⟩
    rw [← hL, ← h2]
    simp [Array.getD, hs, h1]
  · rintro ⟨h1, h2, h3⟩
    refine ⟨h1, ?_, h3⟩
    rw [← h2, ← hL]
    simp [Array.getD, hs, h1]

theorem wpAny_inv {l : List Oper} (hE : earlierB l = true) (I : (Nat → Bool) → Act → World → Prop)
    (step : ∀ L i a w, I L a w → i < l.length → L i = false → depsB l L i = true → wpOp P l.toArray Q i (I (fun j => L j || j == i)) a w)
    (done : ∀ L a w, (∀ i, i < l.length → L i = true) → I L a w → Q .normal a w) :
    ∀ (f : Nat) (listed : Array Bool) (L : Nat → Bool) (a : Act) (w : World), listed.size = l.length → (∀ i, listed.getD i false = L i) → (List.range l.length).countP (fun i => !L i) ≤ f → I L a w → wpAny P .any l.toArray Q f listed a w := by
  intro f
  induction f with
  | zero =>
    intro listed L a w hs hL hc hI
    have hall : ∀ i, i < l.length → L i = true := by
      intro i hi
      have := List.countP_eq_zero.1 (Nat.le_zero.1 hc) i (List.mem_range.2 hi)
      simpa using this
    refine ⟨List.eq_nil_iff_forall_not_mem.2 fun i hi => ?_, done L a w hall hI⟩
    obtain ⟨h1, h2, _⟩ := (mem_ready_iff hs hL i).1 hi
    rw [hall i h1] at h2; cases h2
  | succ f ih =>
    intro listed L a w hs hL hc hI
    refine ⟨fun hr => done L a w (all_listed hE fun i hi h => ?_) hI, fun i hi => ?_⟩
    · cases hd : depsB l L i
      · rfl
      · have := (mem_ready_iff hs hL i).2 ⟨hi, h, hd⟩
        rw [hr] at this; cases this
    · obtain ⟨h1, h2, h3⟩ := (mem_ready_iff hs hL i).1 hi
      have := step L i a w hI h1 h2 h3
      refine wpOp_mono (fun a w h => ih _ (fun j => L j || j == i) a w (by simp [hs]) (fun j => ?_) ?_ h) this
      · rw [← hL]
        simp only [Array.getD_eq_getD_getElem?, Array.getElem?_setIfInBounds]
        by_cases e : i = j
        · subst e; simp [hs, h1]
        · have : (j == i) = false := by simp; omega
          simp [e, this]
      · have := countP_strict (p := fun j => !L j) (q := fun j => !(L j || j == i)) (List.range l.length) i (fun y hy => by simp at hy ⊢; exact hy.1) (List.mem_range.2 h1) (by simp [h2]) (by simp)
        omega

theorem wp_region_inv {id : Nat} {l : List Oper} {a : Act} {w : World} (hm : P.follows .mixedOrders = true) (hE : earlierB l = true) (I : (Nat → Bool) → Act → World → Prop) (h0 : I (fun _ => false) a w.drew)
    (step : ∀ L i a w, I L a w → i < l.length → L i = false → depsB l L i = true → wpOp P l.toArray Q i (I (fun j => L j || j == i)) a w)
    (done : ∀ L a w, (∀ i, i < l.length → L i = true) → I L a w → Q .normal a w) : (Code.region id l.toArray true).wp P Q a w := by
  refine wp_region_any hm (wpAny_inv hE I step done _ _ (fun _ => false) _ _ (by simp) (fun i => ?_) ?_ h0)
  · exact getD_replicate_false _ _
  · refine Nat.le_trans (List.countP_le_length) ?_
    simp

theorem wp_post {o : Oper} {a : Act} {w : World} {K : Act → World → Prop} {Q Q' : Exit → Act → World → Prop} (hq : ∀ e a w, e ≠ .normal → Q e a w → Q' e a w) (hh : o.wp P a w K Q) : o.wp P a w K Q' := by
  have hL : LetsOut Q → LetsOut Q' := fun ⟨b, v, h⟩ => ⟨b, v, hq _ _ _ (by simp) h⟩
  unfold Oper.wp at *
  generalize (execOp a.eval o).run P w = r at *
  cases r with
  | ok r w' =>
    cases r <;> simp only [Oper.upon] at hh ⊢ <;> try exact hh
    case enter f args =>
      exact Calls.mono hh fun e w'' he => by
        cases e with
        | returned v => exact he
        | panicked c => exact hq _ _ _ (by simp) he
        | outgrown => exact hL he
  | halt x w' =>
    cases x <;> simp only [Oper.upon] at hh ⊢
    case panic v => exact hq _ _ _ (by simp) hh

/-- One operation. -/
theorem wpOp_list {ops : Array Oper} {i : Nat} {o : Oper} {K : Act → World → Prop} {a : Act} {w : World} (ho : ops[i]? = some o) (h : wpList P ops (fun e a w => (e = .normal → K a w) ∧ (e ≠ .normal → Q e a w)) [o] a w) : wpOp P ops Q i K a w := by
  unfold wpOp
  unfold wpList at h
  simp only [ho]
  split at h
  · rename_i hw
    rw [if_pos hw]
    rcases h with h | ⟨h1, b, v, h2⟩
    · left
      refine Oper.wp_mono (fun a w h => ?_) (wp_post (fun e a w he h => h.2 he) h)
      exact h.1 rfl
    · exact .inr ⟨h1, b, v, h2.2 (by simp)⟩
  · rename_i hw
    rw [if_neg hw]
    exact h.1 rfl

end Go.Proofs.YtapfkinpdinbgaaDoor
