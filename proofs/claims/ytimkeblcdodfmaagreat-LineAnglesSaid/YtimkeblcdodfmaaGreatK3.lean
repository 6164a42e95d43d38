/-
  A region that draws its order, operation by operation: what each one yields holds on while memory grows. A last store that comes behind all else is apart; A region that draws its order, whose operations yield known values: calls that make blocks of their own alone; its last operations, which may store, come in order; Package sums: size, Int, divisors of words.
-/
import Derived.Test.YtimkeblcdodfmaaGreatK1
import Derived.Test.YtimkeblcdodfmaaGreatK2
namespace Go.Proofs.YtimkeblcdodfmaaGreat
open Go.RowKit
variable {P : Program} {Q : Exit → Act → World → Prop}

def upd (f : Nat → Value) (i : Nat) (v : Value) : Nat → Value := fun j => if j = i then v else f j

/-- Operation i waits for operation j. -/
def depB (l : List Oper) (i j : Nat) : Bool := ((l[i]?).map fun o => o.after.any fun e => Region.binds .any e && e.on == j).getD false

theorem depsB_dep {l : List Oper} {L : Nat → Bool} {i j : Nat} (h : depsB l L i = true) (hd : depB l i j = true) : L j = true := by
  unfold depsB depB at *
  cases ho : l[i]? with
  | none => rw [ho] at hd; cases hd
  | some o =>
    rw [ho] at h hd
    simp only [Option.map_some, Option.getD_some, Array.all_eq_true', Array.any_eq_true'] at h hd
    obtain ⟨e, he, h2⟩ := hd
    have h1 := h e he
    simp only [Bool.and_eq_true, beq_iff_eq] at h2
    rw [h2.1, h2.2] at h1
    simpa using h1

/-- What a region's operations have done so far. -/
def FlowI (l : List Oper) (n : Nat) (tm : (Nat → Value) → Act) (R : Nat → Value → World → Prop) (S : World → Prop) (D : Act → World → Prop) (L : Nat → Bool) (a : Act) (w : World) : Prop :=
  (∀ k, k < l.length → L k = true → depsB l L k = true) ∧ ((∃ f, a = tm f ∧ S w ∧ (∀ j, L j = true → j < n) ∧ ∀ j, L j = true → R j (f j) w) ∨ ((∀ j, j < l.length → L j = true) ∧ D a w))

theorem depsB_mono {l : List Oper} {L L' : Nat → Bool} {i : Nat} (h : depsB l L i = true) (hm : ∀ j, L j = true → L' j = true) : depsB l L' i = true := by
  unfold depsB at *
  cases ho : l[i]? with
  | none => rw [ho] at h; cases h
  | some o =>
    rw [ho] at h
    simp only [Option.map_some, Option.getD_some, Array.all_eq_true'] at h ⊢
    intro e he
    have := h e he
    simp only [Bool.or_eq_true] at this ⊢
    rcases this with h1 | h1
    · exact .inl h1
    · exact .inr (hm _ h1)

/-- Whatever the order: each operation yields what it yields from what it waits for, in any memory that has grown. -/
theorem wp_region_flow {id : Nat} {l : List Oper} {w : World} (tm : (Nat → Value) → Act) (f0 : Nat → Value) (hm : P.follows .mixedOrders = true) (hE : earlierB l = true) (R : Nat → Value → World → Prop) (S : World → Prop) (hS : S w.drew)
    (mono : ∀ i v w w', S w → S w' → Below w.heap.size w w' → R i v w → R i v w')
    (step : ∀ i, i < l.length → ∀ f w', S w' → (∀ j, depB l i j = true → R j (f j) w') → wpOp P l.toArray Q i (fun a' w'' => ∃ v, a' = tm (upd f i v) ∧ R i v w'' ∧ S w'' ∧ Below w'.heap.size w' w'') (tm f) w')
    (done : ∀ f w', S w' → (∀ j, j < l.length → R j (f j) w') → Q .normal (tm f) w') : (Code.region id l.toArray true).wp P Q (tm f0) w := by
  refine wp_region_inv hm hE (fun L a w => ∃ f, a = tm f ∧ S w ∧ ∀ j, L j = true → R j (f j) w) ⟨f0, rfl, hS, fun j h => by cases h⟩ ?_ ?_
  · rintro L i a w' ⟨f, rfl, hs, hr⟩ hi hL hd
    refine wpOp_mono (fun a' w'' h => ?_) (step i hi f w' hs (fun j hj => hr j (depsB_dep hd hj)))
    obtain ⟨v, rfl, hv, hs', hb⟩ := h
    refine ⟨_, rfl, hs', fun j hj => ?_⟩
    by_cases e : j = i
    · subst e; simp only [upd, if_true]; exact hv
    · simp only [upd, if_neg e]
      refine mono _ _ _ _ hs hs' hb (hr j ?_)
      simpa [e] using hj
  · rintro L a w' hall ⟨f, rfl, hs, hr⟩
    exact done f w' hs (fun j hj => hr j (hall j hj))

/-- Every operation but the last one is waited for. -/
def closB (l : List Oper) : Bool := (List.range (l.length - 1)).all fun j => (List.range l.length).any fun k => decide (j < k) && depB l k j

theorem clos_all {l : List Oper} (hC : closB l = true) {L : Nat → Bool} (hcl : ∀ k, k < l.length → L k = true → depsB l L k = true) (hlast : depsB l L (l.length - 1) = true) : ∀ m j, l.length - 1 - j ≤ m → j < l.length - 1 → L j = true := by
  intro m
  induction m with
  | zero => intro j h1 h2; omega
  | succ m ih =>
    intro j h1 h2
    have h3 := List.all_eq_true.1 hC j (List.mem_range.2 h2)
    obtain ⟨k, hk, h4⟩ := List.any_eq_true.1 h3
    rw [List.mem_range] at hk
    simp only [Bool.and_eq_true, decide_eq_true_eq] at h4
    by_cases e : k = l.length - 1
    · rw [e] at h4; exact depsB_dep hlast h4.2
    · exact depsB_dep (hcl k hk (ih k (by omega) (by omega))) h4.2

/-- The like, where the last operation, which waits for all others, may write what they have read. -/
theorem wp_region_flow_last {id : Nat} {l : List Oper} {w : World} (tm : (Nat → Value) → Act) (f0 : Nat → Value) (hm : P.follows .mixedOrders = true) (hE : earlierB l = true) (hC : closB l = true) (R : Nat → Value → World → Prop) (S : World → Prop) (hS : S w.drew)
    (mono : ∀ i v w w', S w → S w' → Below w.heap.size w w' → R i v w → R i v w')
    (step : ∀ i, i < l.length - 1 → ∀ f w', S w' → (∀ j, depB l i j = true → R j (f j) w') → wpOp P l.toArray Q i (fun a' w'' => ∃ v, a' = tm (upd f i v) ∧ R i v w'' ∧ S w'' ∧ Below w'.heap.size w' w'') (tm f) w')
    (last : ∀ f w', S w' → (∀ j, j < l.length - 1 → R j (f j) w') → wpOp P l.toArray Q (l.length - 1) (Q .normal) (tm f) w') : (Code.region id l.toArray true).wp P Q (tm f0) w := by
  refine wp_region_inv hm hE (FlowI l (l.length - 1) tm R S (Q .normal)) ⟨fun _ _ h => (by cases h), .inl ⟨f0, rfl, hS, fun _ h => (by cases h), fun _ h => (by cases h)⟩⟩ ?_ ?_
  · rintro L i a w' ⟨hcl, hI⟩ hi hL hd
    have hcl' : ∀ k, k < l.length → (L k || k == i) = true → depsB l (fun j => L j || j == i) k = true := fun k hk hk2 => by
      have hmn : ∀ j, L j = true → (L j || j == i) = true := fun j h => by rw [h]; rfl
      by_cases e : k = i
      · rw [e]; exact depsB_mono hd hmn
      · exact depsB_mono (hcl k hk (by simpa [e] using hk2)) hmn
    rcases hI with ⟨f, rfl, hs, hlt, hr⟩ | ⟨hall, _⟩
    · by_cases hil : i < l.length - 1
      · refine wpOp_mono (fun a' w'' h => ?_) (step i hil f w' hs (fun j hj => hr j (depsB_dep hd hj)))
        obtain ⟨v, rfl, hv, hs', hb⟩ := h
        refine ⟨hcl', .inl ⟨_, rfl, hs', fun j hj => ?_, fun j hj => ?_⟩⟩
        · by_cases e : j = i
          · rw [e]; exact hil
          · exact hlt j (by simpa [e] using hj)
        · by_cases e : j = i
          · subst e; simp only [upd, if_true]; exact hv
          · simp only [upd, if_neg e]
            refine mono _ _ _ _ hs hs' hb (hr j ?_)
            simpa [e] using hj
      · have e : i = l.length - 1 := by omega
        subst e
        have hall := fun j hj => clos_all hC hcl hd (l.length - 1 - j) j (Nat.le_refl _) hj
        refine wpOp_mono (fun a' w'' h => ?_) (last f w' hs (fun j hj => hr j (hall j hj)))
        refine ⟨hcl', .inr ⟨fun j hj => ?_, h⟩⟩
        by_cases e : j = l.length - 1
        · simp [e]
        · simp [hall j (by omega)]
    · rw [hall i hi] at hL; cases hL
  · rintro L a w' hall ⟨_, hI⟩
    rcases hI with ⟨f, rfl, hs, hlt, hr⟩ | ⟨_, h⟩
    · by_cases hn : l.length = 0
      · have hnil : l = [] := List.length_eq_zero_iff.1 hn
        subst hnil
        have := last f w' hs (fun j hj => by simp at hj)
        simpa [wpOp] using this
      · have := hlt (l.length - 1) (hall _ (by omega))
        omega
    · exact h

/-- The frame with what the region's operations have yielded. -/
def putAll : Array Value → List (Option Nat) → Nat → (Nat → Value) → Array Value
  | t, [], _, _ => t
  | t, some d :: r, k, f => putAll (t.setIfInBounds d (f k)) r (k + 1) f
  | t, none :: r, k, f => putAll t r (k + 1) f

def slotsOf (t : Array Value) (ds : List (Option Nat)) (k : Nat) : Nat → Value := fun j => ((ds[j - k]?).bind fun d => d.bind fun i => t[i]?).getD undef

theorem set_same (t : Array Value) (d : Nat) (v : Value) (h : t[d]? = some v) : t.setIfInBounds d v = t := by
  apply Array.ext
  · simp
  · intro i h1 h2
    rw [Array.getElem_setIfInBounds h2]
    split
    · rename_i e
      subst e
      rw [Array.getElem?_eq_getElem h2] at h
      exact (Option.some.inj h).symm
    · rfl

theorem putAll_same (t : Array Value) : ∀ (ds : List (Option Nat)) (k : Nat) (f : Nat → Value), (∀ i d, ds[i]? = some (some d) → d < t.size → t[d]? = some (f (k + i))) → putAll t ds k f = t := by
  intro ds
  induction ds with
  | nil => intro k f _; rfl
  | cons o r ih =>
    intro k f h
    have hr : ∀ i d, r[i]? = some (some d) → d < t.size → t[d]? = some (f (k + 1 + i)) := fun i d h1 h2 => by
      have := h (i + 1) d h1 h2
      rw [show k + (i + 1) = k + 1 + i by omega] at this
      exact this
    cases o with
    | none => exact ih (k + 1) f hr
    | some d =>
      unfold putAll
      have e : t.setIfInBounds d (f k) = t := by
        by_cases hd : d < t.size
        · exact set_same t d _ (h 0 d rfl hd)
        · apply Array.ext
          · simp
          · intro i h1 h2
            rw [Array.getElem_setIfInBounds h2, if_neg (by omega)]
      rw [e]
      exact ih (k + 1) f hr

def tmOf (a : Act) (l : List Oper) (f : Nat → Value) : Act := { a with tmps := putAll a.tmps (l.map (·.dst)) 0 f }

theorem tmOf_same (a : Act) (l : List Oper) : tmOf a l (slotsOf a.tmps (l.map (·.dst)) 0) = a := by
  unfold tmOf
  rw [putAll_same]
  intro i d h1 h2
  unfold slotsOf
  rw [Nat.zero_add, Nat.sub_zero, h1]
  simp [h2]

theorem wp_region_flow_last' {id : Nat} {l : List Oper} {a : Act} {w : World} (hm : P.follows .mixedOrders = true) (hE : earlierB l = true) (hC : closB l = true) (R : Nat → Value → World → Prop) (S : World → Prop) (hS : S w.drew)
    (mono : ∀ i v w w', S w → S w' → Below w.heap.size w w' → R i v w → R i v w')
    (step : ∀ i, i < l.length - 1 → ∀ f w', S w' → (∀ j, depB l i j = true → R j (f j) w') → wpOp P l.toArray Q i (fun a' w'' => ∃ v, a' = tmOf a l (upd f i v) ∧ R i v w'' ∧ S w'' ∧ Below w'.heap.size w' w'') (tmOf a l f) w')
    (last : ∀ f w', S w' → (∀ j, j < l.length - 1 → R j (f j) w') → wpOp P l.toArray Q (l.length - 1) (Q .normal) (tmOf a l f) w') : (Code.region id l.toArray true).wp P Q a w := by
  have h := wp_region_flow_last (Q := Q) (id := id) (w := w) (tmOf a l) (slotsOf a.tmps (l.map (·.dst)) 0) hm hE hC R S hS mono step last
  rw [tmOf_same] at h
  exact h

theorem wp_region_flow' {id : Nat} {l : List Oper} {a : Act} {w : World} (hm : P.follows .mixedOrders = true) (hE : earlierB l = true) (R : Nat → Value → World → Prop) (S : World → Prop) (hS : S w.drew)
    (mono : ∀ i v w w', S w → S w' → Below w.heap.size w w' → R i v w → R i v w')
    (step : ∀ i, i < l.length → ∀ f w', S w' → (∀ j, depB l i j = true → R j (f j) w') → wpOp P l.toArray Q i (fun a' w'' => ∃ v, a' = tmOf a l (upd f i v) ∧ R i v w'' ∧ S w'' ∧ Below w'.heap.size w' w'') (tmOf a l f) w')
    (done : ∀ f w', S w' → (∀ j, j < l.length → R j (f j) w') → Q .normal (tmOf a l f) w') : (Code.region id l.toArray true).wp P Q a w := by
  have h := wp_region_flow (Q := Q) (id := id) (w := w) (tmOf a l) (slotsOf a.tmps (l.map (·.dst)) 0) hm hE R S hS mono step done
  rw [tmOf_same] at h
  exact h

/-- One operation behind the other. -/
def seqW (P : Program) (l : List Oper) (Q : Exit → Act → World → Prop) : Nat → Nat → Act → World → Prop
  | 0, _ => Q .normal
  | r + 1, k => wpOp P l.toArray Q k (seqW P l Q r (k + 1))

/-- Each operation from n0 on waits for all that stand before it. -/
def tailB (l : List Oper) (n0 : Nat) : Bool := (List.range l.length).all fun k => decide (k < n0) || ((List.range k).all fun j => (List.range (k + 1)).any fun m => decide (j < m) && depB l m j)

theorem tail_all {l : List Oper} {n0 i : Nat} (hT : tailB l n0 = true) (hi : i < l.length) (hn : n0 ≤ i) {L : Nat → Bool} (hcl : ∀ k, k < l.length → L k = true → depsB l L k = true) (hlast : depsB l L i = true) : ∀ m j, i - j ≤ m → j < i → L j = true := by
  intro m
  induction m with
  | zero => intro j h1 h2; omega
  | succ m ih =>
    intro j h1 h2
    have h3 := List.all_eq_true.1 hT i (List.mem_range.2 hi)
    simp only [Bool.or_eq_true, decide_eq_true_eq] at h3
    rcases h3 with h3 | h3
    · omega
    · have h4 := List.all_eq_true.1 h3 j (List.mem_range.2 h2)
      obtain ⟨k, hk, h5⟩ := List.any_eq_true.1 h4
      rw [List.mem_range] at hk
      simp only [Bool.and_eq_true, decide_eq_true_eq] at h5
      by_cases e : k = i
      · rw [e] at h5; exact depsB_dep hlast h5.2
      · exact depsB_dep (hcl k (by omega) (ih k (by omega) (by omega))) h5.2

theorem wp_region_flow_tail {id : Nat} {l : List Oper} {w : World} (n0 : Nat) (tm : (Nat → Value) → Act) (f0 : Nat → Value) (hm : P.follows .mixedOrders = true) (hE : earlierB l = true) (hT : tailB l n0 = true) (hn0 : n0 < l.length) (R : Nat → Value → World → Prop) (S : World → Prop) (hS : S w.drew)
    (mono : ∀ i v w w', S w → S w' → Below w.heap.size w w' → R i v w → R i v w')
    (step : ∀ i, i < n0 → ∀ f w', S w' → (∀ j, depB l i j = true → R j (f j) w') → wpOp P l.toArray Q i (fun a' w'' => ∃ v, a' = tm (upd f i v) ∧ R i v w'' ∧ S w'' ∧ Below w'.heap.size w' w'') (tm f) w')
    (last : ∀ f w', S w' → (∀ j, j < n0 → R j (f j) w') → seqW P l Q (l.length - n0) n0 (tm f) w') : (Code.region id l.toArray true).wp P Q (tm f0) w := by
  refine wp_region_inv hm hE (fun L a w => (∀ k, k < l.length → L k = true → depsB l L k = true) ∧ ((∃ f, a = tm f ∧ S w ∧ (∀ j, L j = true → j < n0) ∧ ∀ j, L j = true → R j (f j) w) ∨ (∃ k, n0 < k ∧ k ≤ l.length ∧ (∀ j, j < l.length → (L j = true ↔ j < k)) ∧ seqW P l Q (l.length - k) k a w)))
    ⟨fun _ _ h => (by cases h), .inl ⟨f0, rfl, hS, fun _ h => (by cases h), fun _ h => (by cases h)⟩⟩ ?_ ?_
  · rintro L i a w' ⟨hcl, hI⟩ hi hL hd
    have hcl' : ∀ k, k < l.length → (L k || k == i) = true → depsB l (fun j => L j || j == i) k = true := fun k hk hk2 => by
      have hmn : ∀ j, L j = true → (L j || j == i) = true := fun j h => by rw [h]; rfl
      by_cases e : k = i
      · rw [e]; exact depsB_mono hd hmn
      · exact depsB_mono (hcl k hk (by simpa [e] using hk2)) hmn
    rcases hI with ⟨f, rfl, hs, hlt, hr⟩ | ⟨k, hk1, hk2, hk3, hk4⟩
    · by_cases hil : i < n0
      · refine wpOp_mono (fun a' w'' h => ?_) (step i hil f w' hs (fun j hj => hr j (depsB_dep hd hj)))
        obtain ⟨v, rfl, hv, hs', hb⟩ := h
        refine ⟨hcl', .inl ⟨_, rfl, hs', fun j hj => ?_, fun j hj => ?_⟩⟩
        · by_cases e : j = i
          · rw [e]; exact hil
          · exact hlt j (by simpa [e] using hj)
        · by_cases e : j = i
          · subst e; simp only [upd, if_true]; exact hv
          · simp only [upd, if_neg e]
            refine mono _ _ _ _ hs hs' hb (hr j ?_)
            simpa [e] using hj
      · have hall := fun j hj => tail_all hT hi (by omega) hcl hd (i - j) j (Nat.le_refl _) hj
        have e : i = n0 := by
          rcases Nat.lt_or_ge n0 i with h | h
          · have := hlt n0 (hall n0 h); omega
          · omega
        subst e
        have hl := last f w' hs (fun j hj => hr j (hall j hj))
        rw [show l.length - i = (l.length - (i + 1)) + 1 by omega] at hl
        refine wpOp_mono (fun a' w'' h => ?_) hl
        refine ⟨hcl', .inr ⟨i + 1, by omega, by omega, fun j hj => ?_, h⟩⟩
        by_cases e : j = i
        · simp [e]
        · constructor
          · intro h
            have := hlt j (by simpa [e] using h)
            omega
          · intro h
            show (L j || j == i) = true
            rw [hall j (by omega)]; rfl
    · have hall := fun j hj => tail_all hT hi (by have : ¬ i < k := fun h => by rw [(hk3 i hi).2 h] at hL; cases hL
                                                  omega) hcl hd (i - j) j (Nat.le_refl _) hj
      have hik : ¬ i < k := fun h => by rw [(hk3 i hi).2 h] at hL; cases hL
      have e : i = k := by
        rcases Nat.lt_or_ge k i with h | h
        · have := (hk3 k (by omega)).1 (hall k h); omega
        · omega
      subst e
      rw [show l.length - i = (l.length - (i + 1)) + 1 by omega] at hk4
      refine wpOp_mono (fun a' w'' h => ?_) hk4
      refine ⟨hcl', .inr ⟨i + 1, by omega, by omega, fun j hj => ?_, h⟩⟩
      by_cases e : j = i
      · simp [e]
      · constructor
        · intro h
          have := (hk3 j hj).1 (by simpa [e] using h)
          omega
        · intro h
          show (L j || j == i) = true
          rw [hall j (by omega)]; rfl
  · rintro L a w' hall ⟨_, hI⟩
    rcases hI with ⟨f, rfl, hs, hlt, hr⟩ | ⟨k, hk1, hk2, hk3, hk4⟩
    · have := hlt n0 (hall n0 hn0)
      omega
    · have e : k = l.length := by
        rcases Nat.lt_or_ge k l.length with h | h
        · have := (hk3 k h).1 (hall k h); omega
        · omega
      subst e
      rw [Nat.sub_self] at hk4
      exact hk4

theorem wp_region_flow_tail' {id : Nat} {l : List Oper} {a : Act} {w : World} (n0 : Nat) (hm : P.follows .mixedOrders = true) (hE : earlierB l = true) (hT : tailB l n0 = true) (hn0 : n0 < l.length) (R : Nat → Value → World → Prop) (S : World → Prop) (hS : S w.drew)
    (mono : ∀ i v w w', S w → S w' → Below w.heap.size w w' → R i v w → R i v w')
    (step : ∀ i, i < n0 → ∀ f w', S w' → (∀ j, depB l i j = true → R j (f j) w') → wpOp P l.toArray Q i (fun a' w'' => ∃ v, a' = tmOf a l (upd f i v) ∧ R i v w'' ∧ S w'' ∧ Below w'.heap.size w' w'') (tmOf a l f) w')
    (last : ∀ f w', S w' → (∀ j, j < n0 → R j (f j) w') → seqW P l Q (l.length - n0) n0 (tmOf a l f) w') : (Code.region id l.toArray true).wp P Q a w := by
  have h := wp_region_flow_tail (Q := Q) (id := id) (w := w) n0 (tmOf a l) (slotsOf a.tmps (l.map (·.dst)) 0) hm hE hT hn0 R S hS mono step last
  rw [tmOf_same] at h
  exact h

end Go.Proofs.YtimkeblcdodfmaaGreat

namespace Go.Proofs.YtimkeblcdodfmaaGreat
open Go.RowKit
variable {P : Program} {Q : Exit → Act → World → Prop}

theorem wp_region_pure {id : Nat} {l : List Oper} {a : Act} {w : World} (n0 : Nat) (vs : Nat → Value) (hm : P.follows .mixedOrders = true) (hE : earlierB l = true) (hT : tailB l n0 = true) (hn0 : n0 < l.length)
    (step : ∀ i, i < n0 → ∀ f w', Below w.heap.size w w' → (∀ j, depB l i j = true → f j = vs j) → wpOp P l.toArray Q i (fun a' w'' => a' = tmOf a l (upd f i (vs i)) ∧ Below w'.heap.size w' w'') (tmOf a l f) w')
    (last : ∀ f w', Below w.heap.size w w' → (∀ j, j < n0 → f j = vs j) → seqW P l Q (l.length - n0) n0 (tmOf a l f) w') : (Code.region id l.toArray true).wp P Q a w := by
  refine wp_region_flow_tail' n0 hm hE hT hn0 (fun i v _ => v = vs i) (fun ww => Below w.heap.size w ww) ((Below.refl _ _).drew) (fun _ _ _ _ _ _ _ h => h) ?_ ?_
  · intro i hi f w' hS hd
    refine wpOp_mono (fun a' w'' h => ?_) (step i hi f w' hS hd)
    exact ⟨vs i, h.1, rfl, hS.trans (h.2.mono hS.size), h.2⟩
  · intro f w' hS hd
    exact last f w' hS hd

theorem wp_region_pure' {id : Nat} {l : List Oper} {a : Act} {w : World} (vs : Nat → Value) (hm : P.follows .mixedOrders = true) (hE : earlierB l = true)
    (step : ∀ i, i < l.length → ∀ f w', Below w.heap.size w w' → (∀ j, depB l i j = true → f j = vs j) → wpOp P l.toArray Q i (fun a' w'' => a' = tmOf a l (upd f i (vs i)) ∧ Below w'.heap.size w' w'') (tmOf a l f) w')
    (done : ∀ f w', Below w.heap.size w w' → (∀ j, j < l.length → f j = vs j) → Q .normal (tmOf a l f) w') : (Code.region id l.toArray true).wp P Q a w := by
  refine wp_region_flow' hm hE (fun i v _ => v = vs i) (fun ww => Below w.heap.size w ww) ((Below.refl _ _).drew) (fun _ _ _ _ _ _ _ h => h) ?_ ?_
  · intro i hi f w' hS hd
    refine wpOp_mono (fun a' w'' h => ?_) (step i hi f w' hS hd)
    exact ⟨vs i, h.1, rfl, hS.trans (h.2.mono hS.size), h.2⟩
  · intro f w' hS hd
    exact done f w' hS hd

/-- The like, where an operation's value may name memory that it makes: vs i w: what operation i yields in the world w; R: what is known of it from then on. -/
theorem wp_region_val {id : Nat} {l : List Oper} {a : Act} {w : World} (vs : Nat → World → Value) (R : Nat → Value → World → Prop) (hm : P.follows .mixedOrders = true) (hE : earlierB l = true)
    (mono : ∀ i v w w', Below w.heap.size w w' → R i v w → R i v w')
    (step : ∀ i, i < l.length → ∀ f w', Below w.heap.size w w' → (∀ j, depB l i j = true → R j (f j) w') → wpOp P l.toArray Q i (fun a' w'' => a' = tmOf a l (upd f i (vs i w')) ∧ R i (vs i w') w'' ∧ Below w'.heap.size w' w'') (tmOf a l f) w')
    (done : ∀ f w', Below w.heap.size w w' → (∀ j, j < l.length → R j (f j) w') → Q .normal (tmOf a l f) w') : (Code.region id l.toArray true).wp P Q a w := by
  refine wp_region_flow' hm hE R (fun ww => Below w.heap.size w ww) ((Below.refl _ _).drew) (fun i v w w' _ _ hb h => mono i v w w' hb h) ?_ ?_
  · intro i hi f w' hS hd
    refine wpOp_mono (fun a' w'' h => ?_) (step i hi f w' hS hd)
    exact ⟨_, h.1, h.2.1, hS.trans (h.2.2.mono hS.size), h.2.2⟩
  · intro f w' hS hd
    exact done f w' hS hd

/-- What an operation yields: below n a known value; from n on it fills a block of its own. -/
def RKeep (n : Nat) (vs : Nat → Value) (bs : Nat → Nat × Array Value) (T : TypeId) (i : Nat) (v : Value) (w : World) : Prop := if i < n then v = vs i else Blk w (bs i).1 (bs i).2 T

/-- The like, where stores (into blocks that no operation reads otherwise) may come between. -/
theorem wp_region_keep {id : Nat} {l : List Oper} {a : Act} {w : World} (n : Nat) (vs : Nat → Value) (bs : Nat → Nat × Array Value) (T : TypeId) (S : World → Prop) (hm : P.follows .mixedOrders = true) (hE : earlierB l = true) (hS : S w.drew)
    (mono : ∀ w w', S w → Below w.heap.size w w' → S w')
    (hbs : ∀ i j, n ≤ i → n ≤ j → i ≠ j → (bs i).1 ≠ (bs j).1)
    (step : ∀ i, i < l.length → i < n → ∀ f w', S w' → (∀ j, j < n → depB l i j = true → f j = vs j) → wpOp P l.toArray Q i (fun a' w'' => a' = tmOf a l (upd f i (vs i)) ∧ Below w'.heap.size w' w'') (tmOf a l f) w')
    (stor : ∀ i, i < l.length → n ≤ i → ∀ f w', S w' → (∀ j, j < n → depB l i j = true → f j = vs j) → wpOp P l.toArray Q i (fun a' w'' => a' = tmOf a l f ∧ Blk w'' (bs i).1 (bs i).2 T ∧ S w'' ∧ ∀ B cs, B ≠ (bs i).1 → Blk w' B cs T → Blk w'' B cs T) (tmOf a l f) w')
    (done : ∀ f w', S w' → (∀ j, j < l.length → j < n → f j = vs j) → (∀ j, j < l.length → n ≤ j → Blk w' (bs j).1 (bs j).2 T) → Q .normal (tmOf a l f) w') : (Code.region id l.toArray true).wp P Q a w := by
  have h : (Code.region id l.toArray true).wp P Q (tmOf a l (slotsOf a.tmps (l.map (·.dst)) 0)) w := by
    refine wp_region_inv hm hE (fun L a' w => ∃ f, a' = tmOf a l f ∧ S w ∧ ∀ j, L j = true → RKeep n vs bs T j (f j) w) ⟨_, rfl, hS, fun j h => by cases h⟩ ?_ ?_
    · rintro L i a' w' ⟨f, rfl, hs, hr⟩ hi hL hd
      have hdep : ∀ j, j < n → depB l i j = true → f j = vs j := fun j hj hdj => by
        have := hr j (depsB_dep hd hdj)
        unfold RKeep at this
        rwa [if_pos hj] at this
      by_cases hin : i < n
      · refine wpOp_mono (fun a' w'' h => ?_) (step i hi hin f w' hs hdep)
        obtain ⟨rfl, hb⟩ := h
        refine ⟨_, rfl, mono _ _ hs hb, fun j hj => ?_⟩
        by_cases e : j = i
        · subst e; simp only [upd, if_true, RKeep, if_pos hin]
        · simp only [upd, if_neg e]
          have hj' := hr j (by simpa [e] using hj)
          unfold RKeep at hj' ⊢
          split
          · rename_i h; rwa [if_pos h] at hj'
          · rename_i h; rw [if_neg h] at hj'; exact hj'.kept hb
      · refine wpOp_mono (fun a' w'' h => ?_) (stor i hi (by omega) f w' hs hdep)
        obtain ⟨rfl, hb, hs', hk⟩ := h
        refine ⟨f, rfl, hs', fun j hj => ?_⟩
        by_cases e : j = i
        · subst e; unfold RKeep; rw [if_neg hin]; exact hb
        · have hj' := hr j (by simpa [e] using hj)
          unfold RKeep at hj' ⊢
          split
          · rename_i h; rwa [if_pos h] at hj'
          · rename_i h; rw [if_neg h] at hj'; exact hk _ _ (hbs j i (by omega) (by omega) e) hj'
    · rintro L a' w' hall ⟨f, rfl, hs, hr⟩
      refine done f w' hs (fun j hj hn => ?_) (fun j hj hn => ?_)
      · have := hr j (hall j hj); unfold RKeep at this; rwa [if_pos hn] at this
      · have := hr j (hall j hj); unfold RKeep at this; rwa [if_neg (by omega)] at this
  rw [tmOf_same] at h
  exact h

/-- The like; what is known of the memory may hang on what has been done. -/
theorem wp_region_keepL {id : Nat} {l : List Oper} {a : Act} {w : World} (n : Nat) (vs : Nat → Value) (bs : Nat → Nat × Array Value) (T : TypeId) (S : (Nat → Bool) → World → Prop) (hm : P.follows .mixedOrders = true) (hE : earlierB l = true) (hS : S (fun _ => false) w.drew)
    (mono : ∀ L w w', S L w → Below w.heap.size w w' → S L w')
    (grow : ∀ L i w, i < n → S L w → S (fun j => L j || j == i) w)
    (hbs : ∀ i j, n ≤ i → n ≤ j → i ≠ j → (bs i).1 ≠ (bs j).1)
    (step : ∀ L i, i < l.length → i < n → L i = false → (∀ k, k < l.length → L k = true → depsB l L k = true) → ∀ f w', S L w' → (∀ j, j < n → depB l i j = true → f j = vs j) → wpOp P l.toArray Q i (fun a' w'' => a' = tmOf a l (upd f i (vs i)) ∧ Below w'.heap.size w' w'') (tmOf a l f) w')
    (stor : ∀ L i, i < l.length → n ≤ i → ∀ f w', S L w' → (∀ j, j < n → depB l i j = true → f j = vs j) → wpOp P l.toArray Q i (fun a' w'' => a' = tmOf a l f ∧ Blk w'' (bs i).1 (bs i).2 T ∧ S (fun j => L j || j == i) w'' ∧ ∀ B cs, B ≠ (bs i).1 → Blk w' B cs T → Blk w'' B cs T) (tmOf a l f) w')
    (done : ∀ L f w', S L w' → (∀ j, j < l.length → j < n → f j = vs j) → (∀ j, j < l.length → n ≤ j → Blk w' (bs j).1 (bs j).2 T) → Q .normal (tmOf a l f) w') : (Code.region id l.toArray true).wp P Q a w := by
  have h : (Code.region id l.toArray true).wp P Q (tmOf a l (slotsOf a.tmps (l.map (·.dst)) 0)) w := by
    refine wp_region_inv hm hE (fun L a' w => (∀ k, k < l.length → L k = true → depsB l L k = true) ∧ ∃ f, a' = tmOf a l f ∧ S L w ∧ ∀ j, L j = true → RKeep n vs bs T j (f j) w) ⟨fun _ _ h => (by cases h), _, rfl, hS, fun j h => by cases h⟩ ?_ ?_
    · rintro L i a' w' ⟨hcl, f, rfl, hs, hr⟩ hi hL hd
      have hcl' : ∀ k, k < l.length → (L k || k == i) = true → depsB l (fun j => L j || j == i) k = true := fun k hk hk2 => by
        have hmn : ∀ j, L j = true → (L j || j == i) = true := fun j h => by rw [h]; rfl
        by_cases e : k = i
        · rw [e]; exact depsB_mono hd hmn
        · exact depsB_mono (hcl k hk (by simpa [e] using hk2)) hmn
      have hdep : ∀ j, j < n → depB l i j = true → f j = vs j := fun j hj hdj => by
        have := hr j (depsB_dep hd hdj)
        unfold RKeep at this
        rwa [if_pos hj] at this
      by_cases hin : i < n
      · refine wpOp_mono (fun a' w'' h => ?_) (step L i hi hin hL hcl f w' hs hdep)
        obtain ⟨rfl, hb⟩ := h
        refine ⟨hcl', _, rfl, grow _ _ _ hin (mono _ _ _ hs hb), fun j hj => ?_⟩
        by_cases e : j = i
        · subst e; simp only [upd, if_true, RKeep, if_pos hin]
        · simp only [upd, if_neg e]
          have hj' := hr j (by simpa [e] using hj)
          unfold RKeep at hj' ⊢
          split
          · rename_i h; rwa [if_pos h] at hj'
          · rename_i h; rw [if_neg h] at hj'; exact hj'.kept hb
      · refine wpOp_mono (fun a' w'' h => ?_) (stor L i hi (by omega) f w' hs hdep)
        obtain ⟨rfl, hb, hs', hk⟩ := h
        refine ⟨hcl', f, rfl, hs', fun j hj => ?_⟩
        by_cases e : j = i
        · subst e; unfold RKeep; rw [if_neg hin]; exact hb
        · have hj' := hr j (by simpa [e] using hj)
          unfold RKeep at hj' ⊢
          split
          · rename_i h; rwa [if_pos h] at hj'
          · rename_i h; rw [if_neg h] at hj'; exact hk _ _ (hbs j i (by omega) (by omega) e) hj'
    · rintro L a' w' hall ⟨_, f, rfl, hs, hr⟩
      refine done L f w' hs (fun j hj hn => ?_) (fun j hj hn => ?_)
      · have := hr j (hall j hj); unfold RKeep at this; rwa [if_pos hn] at this
      · have := hr j (hall j hj); unfold RKeep at this; rwa [if_neg (by omega)] at this
  rw [tmOf_same] at h
  exact h

end Go.Proofs.YtimkeblcdodfmaaGreat

namespace Go.Proofs.YtimkeblcdodfmaaGreat
open Go.RowKit Go.Shelf
attribute [local go_sem] sumV Oper.semAt_some

theorem div64_any (hi lo y : Nat) (hh : hi < y) (hl : lo < 18446744073709551616) (hy : y < 18446744073709551616) (w : World) :
    Calls Tryz.prog 147 #[.int .u64 (hi : Int), .int .u64 (lo : Int), .int .u64 (y : Int)] w fun e w' => e = .returned (.tuple #[.int .u64 (((hi * 18446744073709551616 + lo) / y : Nat) : Int), .int .u64 (((hi * 18446744073709551616 + lo) % y : Nat) : Int)]) ∧ ∃ k, w' = w.drewN k := by
  rcases Nat.eq_zero_or_pos hi with h0 | h0
  · subst h0
    rw [Nat.zero_mul, Nat.zero_add]
    exact div64_zero lo y hl (by omega) hy w
  · have hb := bitLen_bounds (y := y) (by omega) hy
    refine (div64_pos hi lo y (Lib.bitLen y) (64 - Lib.bitLen y) hh hl h0 rfl (by omega) w hy).mono ?_
    rintro e w' ⟨he, hw⟩
    exact ⟨he, 0, hw⟩

/-- A number below 2^128 as its words. -/
theorem sum_words {x h l : Nat} (hx : x = h * 18446744073709551616 + l) (hl : l < 18446744073709551616) (hh : h < 18446744073709551616) : sumV (x : Int) = .agg #[.int .u64 (h : Int), .int .u64 (l : Int)] := by
  have e1 : hiW (x : Int) = (h : Int) := by unfold hiW; omega
  have e2 : loW (x : Int) = (l : Int) := by unfold loW; omega
  unfold sumV; rw [e1, e2]

set_option maxHeartbeats 1000000 in
theorem size_any (x : Int) (w : World) (hx : In127 x) :
    Calls Tryz.prog 128 #[sumV x] w fun e w' => e = .returned (sumV (x.natAbs : Int)) ∧ Below w.heap.size w w' := by
  have hn := neg_words hx
  have a0 := hiW_nonneg x
  have a1 := hiW_lt x
  obtain ⟨w1, hw1⟩ : ∃ w1, ((w.alloc (.cells #[.int .u64 (hiW x), .int .u64 (loW x)] 90)).alloc (.cells #[.int .u64 0, .int .u64 0] 90)) = w1 := ⟨_, rfl⟩
  have hb1 : Below w.heap.size w w1 := by
    rw [← hw1]; exact ((Below.refl _ w).alloc (Nat.le_refl _) _).alloc (by simp) _
  have k0 : Blk w1 w.heap.size #[.int .u64 (hiW x), .int .u64 (loW x)] 90 := by rw [← hw1]; exact (Blk.new w _ _).alloc _
  have k1 : Blk w1 (w.heap.size + 1) #[.int .u64 0, .int .u64 0] 90 := by rw [← hw1]; exact Blk.new' _ _ _ (by simp)
  have c0 := k0.cell (i := 0) rfl
  have c1 := k0.cell (i := 1) rfl
  have d0 := k1.cell (i := 0) rfl
  have d1 := k1.cell (i := 1) rfl
  have q0 := k1.frozen 0
  have q1 := k1.frozen 1
  rcases Int.lt_or_le x 0 with h | h
  · have hh : 9223372036854775808 ≤ hiW x := hn.2 h
    have e1 : wrap64 (hiW x) = hiW x - 18446744073709551616 := by unfold wrap64; omega
    have e2 : (0 : Int) - x = (x.natAbs : Int) := by omega
    have hm := fun W => minus_any 0 x W
    rw [e2] at hm
    have HM := Lib.hid hm
    clear hm
    have h2 : hiW x - 18446744073709551616 < 0 := by omega
    have ez : sumV 0 = .agg #[.int .u64 0, .int .u64 0] := rfl
    rw [ez] at HM
    clear hn
    unfold sumV at HM ⊢
    generalize hiW x = xh at *
    generalize loW x = xl at *
    generalize hiW (x.natAbs : Int) = yh at *
    generalize loW (x.natAbs : Int) = yl at *
    go_enter Tryz.func128, Tryz.ntmps128
    go_wp2_with fail
    refine (HM.out _).mono ?_
    rintro e w2 ⟨rfl, hb2⟩
    have k1 := k1.kept hb2
    have d0 := k1.cell (i := 0) rfl
    have d1 := k1.cell (i := 1) rfl
    have q0 := k1.frozen 0
    have q1 := k1.frozen 1
    go_wp2_with fail
    have k2 := (k1.set_eq 0 (.int .u64 yh) rfl).set_eq 1 (.int .u64 yl) rfl
    have z0 := k2.cell (i := 0) rfl
    have z1 := k2.cell (i := 1) rfl
    exact bodyPost_ret (v := .agg #[.int .u64 yh, .int .u64 yl]) (by simp [results, Tryz.results128, go_sem, z0, z1]) rfl ⟨rfl, ((hb1.trans (hb2.mono hb1.size)).setCell (by simp) _).setCell (by simp) _⟩
  · have hh : ¬ 9223372036854775808 ≤ hiW x := fun e => by have := hn.1 e; omega
    have e1 : wrap64 (hiW x) = hiW x := by unfold wrap64; omega
    have h2 : ¬ hiW x < 0 := by omega
    have e2 : (x.natAbs : Int) = x := by omega
    rw [e2]
    clear hn
    unfold sumV
    generalize hiW x = xh at *
    generalize loW x = xl at *
    go_enter Tryz.func128, Tryz.ntmps128
    go_wp2_with fail
    have k2 := (k1.set_eq 0 (.int .u64 xh) rfl).set_eq 1 (.int .u64 xl) rfl
    have z0 := k2.cell (i := 0) rfl
    have z1 := k2.cell (i := 1) rfl
    exact bodyPost_ret (v := .agg #[.int .u64 xh, .int .u64 xl]) (by simp [results, Tryz.results128, go_sem, z0, z1]) rfl ⟨rfl, (hb1.setCell (by simp) _).setCell (by simp) _⟩

set_option maxHeartbeats 1000000 in
theorem wordDivisor_any (a b : Nat) (w : World) :
    Calls Tryz.prog 146 #[.int .u64 (a : Int), .int .u64 (b : Int)] w fun e w' => e = .returned (.int .u64 ((Nat.gcd a b : Nat) : Int)) ∧ Below w.heap.size w w' := by
  obtain ⟨G, hG⟩ : ∃ G, Nat.gcd a b = G := ⟨_, rfl⟩
  have HG := Lib.hid hG
  rw [hG]
  clear hG
  go_enter Tryz.func146, Tryz.ntmps146
  go_wp2_with fail
  go_loopg [0, 1] b (fun gk v0 v1 wr => ∃ x y : Nat, gk = y ∧ v0 = .int .u64 (x : Int) ∧ v1 = .int .u64 (y : Int) ∧ Hid (Nat.gcd x y = G) ∧ Below w.heap.size w wr)
  case atStart => exact ⟨a, b, rfl, rfl, rfl, HG.out, Below.refl _ _⟩
  case round =>
    obtain ⟨x, y, hgk, rfl, rfl, HX, hb⟩ := hrel
    have HGK := Lib.hid hgk
    clear hgk
    rcases Nat.eq_zero_or_pos y with h0 | h0
    · subst h0
      have hx : x = G := by rw [← HX.out, Nat.gcd_zero_right]
      have HXX := Lib.hid hx
      clear hx
      go_wp2_with fail
      go_ret
      exact ⟨congrArg (fun g : Nat => Ending.returned (.int .u64 (g : Int))) HXX.out, hb⟩
    · have h1 : ((y : Int) != 0) = true := by simp; omega
      have h2 : ¬ (y : Int) = 0 := by omega
      have h3 : (x : Int) % (y : Int) = ((x % y : Nat) : Int) := by simp
      have hm := Nat.mod_lt x h0
      have hg : Nat.gcd y (x % y) = G := by rw [← HX.out, Nat.gcd_comm x y, Nat.gcd_rec y x, Nat.gcd_comm]
      have HN := Lib.hid hg
      clear hg
      generalize x % y = r at *
      go_upto_region 2 with fail
      go_quiet (fail)
      go_wp2_with fail
      go_roundg r
      case measure => rw [HGK.out]; exact hm
      case rel => exact ⟨y, r, rfl, rfl, congrArg (Value.int .u64) h3, HN.out, by first | exact hb | exact below_drewN hb _⟩

end Go.Proofs.YtimkeblcdodfmaaGreat
