/-
  A number divided by one word.
-/
import Derived.Test.YtapfkinpdinbgaaDoorBase
import Derived.RangeFuncCalls
import Derived.StillTailTactics
import Derived.TacticsInMore
import Derived.OrdersIn
import Derived.Test.YtapfkinpdinbgaaDoorCompare
import Derived.Deep.RegionWith
namespace Go.Proofs.YtapfkinpdinbgaaDoor
open Go.RowKit
variable {P : Program} {ops : Array Oper} {Q : Exit → Act → World → Prop}

theorem rowsIn_round {l₀ n : Nat} {row : String} {args : Array Value} {w : World} {R : Value → World → Prop} (h : Rows P row args w R) : RowsIn (Fence.wide.inRound l₀) n P row args w R := by
  intro c cs _
  obtain ⟨v, w', hR, hs⟩ := h c cs
  exact ⟨v, w', hR, stepsIn_wide.2 hs⟩

theorem wpIn_of_wp_op {l₀ n : Nat} {o : Oper} {a : Act} {w : World} {K : Act → World → Prop} (hnd : ∀ c, o.op ≠ .defer c) (h : o.wp P a w K Q) : o.wpIn (Fence.wide.inRound l₀) n P a w K Q := by
  refine ⟨fun _ _ => trivial, ?_⟩
  rw [Oper.semAt_eq _ _ _ hnd]
  unfold Oper.wp at h
  generalize (execOp a.eval o).run P w = r at h
  rcases r with ⟨v, w'⟩ | ⟨v, w'⟩
  · cases v with
    | enter f args => exact ⟨fun hd => (by simp [Fence.wide] at hd), CallsIn.inRound l₀ (callsIn_wide.2 h)⟩
    | row row args => exact ⟨fun hd => (by simp [Fence.wide] at hd), rowsIn_round h⟩
    | round l f tmps assign body => exact h.elim
    | _ => exact h
  · cases v with
    | panic v => exact h
    | _ => exact h.elim

theorem wpOpIn_of_wpOp {l₀ n i : Nat} {K K' : Act → World → Prop} {a : Act} {w : World} (hnd : ∀ (j : Nat) (o : Oper) c, ops[j]? = some o → o.op ≠ .defer c) (hL : ¬ LetsOut Q)
    (hK : ∀ a w, K a w → K' a w) (h : wpOp P ops Q i K a w) : wpOpIn (Fence.wide.inRound l₀) n P ops Q i K' a w := by
  unfold wpOp at h
  unfold wpOpIn
  cases ho : ops[i]? with
  | none => simp only [ho] at h; exact hK _ _ h
  | some o =>
    simp only [ho] at h
    dsimp only
    split at h
    · rename_i hw
      rw [if_pos hw]
      rcases h with h | ⟨_, h⟩
      · exact Oper.wpIn_mono hK (wpIn_of_wp_op (fun c => hnd i o c ho) h)
      · exact (hL h).elim
    · rename_i hw
      rw [if_neg hw]
      exact ⟨fun _ _ => trivial, hK _ _ h⟩

theorem wpAnyIn_of_wpAny {l₀ n : Nat} {md : Region.Mode} (hnd : ∀ (j : Nat) (o : Oper) c, ops[j]? = some o → o.op ≠ .defer c) (hL : ¬ LetsOut Q) :
    ∀ (f : Nat) (listed : Array Bool) (a : Act) (w : World), wpAny P md ops Q f listed a w → wpAnyIn (Fence.wide.inRound l₀) n P md ops Q f listed a w := by
  intro f
  induction f with
  | zero => exact fun _ _ _ h => h
  | succ f ih => exact fun listed a w h => ⟨h.1, fun i hi => wpOpIn_of_wpOp hnd hL (ih _) (h.2 i hi)⟩

def noDeferB (l : List Oper) : Bool := l.all fun o => match o.op with | .defer _ => false | _ => true
theorem noDefer_of {l : List Oper} (h : noDeferB l = true) : ∀ (j : Nat) (o : Oper) c, l.toArray[j]? = some o → o.op ≠ .defer c := by
  intro j o c ho e
  have hm : o ∈ l := by
    rw [List.getElem?_toArray] at ho
    exact List.mem_of_getElem? ho
  have := List.all_eq_true.1 h o hm
  rw [e] at this
  cases this

theorem wpListIn_of_wpList {l₀ n : Nat} (hL : ¬ LetsOut Q) : ∀ (l : List Oper), noDeferB l = true → ∀ (a : Act) (w : World), wpList P ops Q l a w → wpListIn (Fence.wide.inRound l₀) n P ops Q l a w
  | [], _, _, _, h => h
  | o :: rest, hB, a, w, h => by
    have hB' : noDeferB rest = true := by
      unfold noDeferB at hB ⊢
      rw [List.all_cons, Bool.and_eq_true] at hB
      exact hB.2
    have hnd : ∀ c, o.op ≠ .defer c := by
      intro c e
      unfold noDeferB at hB
      rw [List.all_cons, Bool.and_eq_true, e] at hB
      cases hB.1
    unfold wpList at h
    unfold wpListIn
    split at h
    · rename_i hw
      rw [if_pos hw]
      rcases h with h | ⟨_, h⟩
      · exact Oper.wpIn_mono (fun a w h => wpListIn_of_wpList hL rest hB' a w h) (wpIn_of_wp_op hnd h)
      · exact (hL h).elim
    · rename_i hw
      rw [if_neg hw]
      exact ⟨fun _ _ => trivial, wpListIn_of_wpList hL rest hB' _ _ h⟩

/-- A region in the order of its text, in a round. -/
theorem wpIn_plain_region {l₀ nn : Nat} {id : Nat} {a : Act} {w : World} {l : List Oper} (hndB : noDeferB l = true) (hL : ¬ LetsOut Q) (h : wpList P l.toArray Q l a w) : (Code.region id l.toArray false).wpIn (Fence.wide.inRound l₀) nn P Q a w :=
  wpIn_region_lit (wpListIn_of_wpList hL l hndB a w h)

/-- Reads, then one chain of writes: one walk in the order of the text. -/
theorem wpIn_still_tail {l₀ nn : Nat} {id : Nat} {a : Act} {w : World} {l : List Oper} (n : Nat) (hm : P.follows .mixedOrders = true) (hB : Region.lexTailB .any l.toArray n = true)
    (hndB : noDeferB l = true) (hL : ¬ LetsOut Q)
    (h : wpStill P l.toArray w.drew (fun a' => wpList P l.toArray Q (l.drop n) a' w.drew) (l.take n) a) : (Code.region id l.toArray true).wpIn (Fence.wide.inRound l₀) nn P Q a w := by
  simp only [Region.lexTailB, Bool.and_eq_true, decide_eq_true_eq] at hB
  obtain ⟨⟨⟨⟨hsel, hn⟩, hs⟩, hc⟩, hlex⟩ := hB
  have hn' : n < l.length := by simpa using hn
  have htl : (l.take n).length = n := by simp; omega
  have hdl : (l.drop n).length = l.toArray.size - n := by simp
  have inv0 : HeadInv .any l.toArray n (Array.replicate l.toArray.size false) :=
    ⟨by simp, fun j oj _ hl => (by rw [getD_replicate_false] at hl; cases hl), fun t _ ht => getD_in (by simpa using ht) (getD_replicate_false _ _)⟩
  have H := wpAnyL_lex (md := .any) (g := l.toArray.size - n) hsel hs hc hn (l.take n) 0 _ a (fun j hj => by
    have hj' : j < n := by rw [htl] at hj; exact hj
    simp [hj']) (by simpa using htl) inv0 (by rw [htl]; exact hlex) h
  refine wpIn_region_any hm (wpAnyIn_of_wpAny (noDefer_of hndB) hL _ _ _ _ ?_)
  have := wpAny_of_head (Q' := Q) (g := l.toArray.size - n) (fun listed a' hL => by
    have := wpAny_of_seq (md := .any) (Q' := Q) (l.drop n) n listed a' { w with drawn := w.drawn + 1 } (fun j => by simp [List.getElem?_drop]) (by rw [hdl]; exact hL.1) hL.2
    rwa [hdl] at this) _ _ _ H
  rw [htl, show n + (l.toArray.size - n) = l.toArray.size by omega] at this
  exact this

end Go.Proofs.YtapfkinpdinbgaaDoor

namespace Go.Proofs.YtapfkinpdinbgaaDoor
open Go.RowKit Go.Shelf
attribute [local go_sem] Oper.semAt_some

/-- One word more of the quotient, and what is left. -/
def dstep (xs : List Nat) (y : Nat) (st : List Nat × Nat) (i : Nat) : List Nat × Nat :=
  (st.1.set i ((st.2 * BW + xs[i]?.getD 0) / y), (st.2 * BW + xs[i]?.getD 0) % y)

def dfold {n : Nat} (xs : List Nat) (y : Nat) (pre : List (Pos n)) : List Nat × Nat := pre.foldl (fun st i => dstep xs y st i.1) (List.replicate n 0, 0)

theorem dfold_snoc {n : Nat} (xs : List Nat) (y : Nat) (pre : List (Pos n)) (i : Pos n) : dfold xs y (pre ++ [i]) = dstep xs y (dfold xs y pre) i.1 := by
  unfold dfold; rw [List.foldl_append]; rfl

theorem drop_set_at (qs : List Nat) (i v : Nat) (h : i < qs.length) : (qs.set i v).drop i = v :: qs.drop (i + 1) := by
  rw [List.drop_eq_getElem_cons (by simpa using h)]
  simp [List.drop_set]

theorem dfold_says {n : Nat} {xs : List Nat} {y : Nat} (hy : 0 < y) (hx : xs.length = n) : ∀ k, k ≤ n →
    (dfold xs y (upto (dnAt n) k)).1.length = n ∧ (dfold xs y (upto (dnAt n) k)).2 < y ∧
    dv BW (xs.drop (n - k)) = dv BW ((dfold xs y (upto (dnAt n) k)).1.drop (n - k)) * y + (dfold xs y (upto (dnAt n) k)).2 := by
  intro k
  induction k with
  | zero =>
    intro _
    simp only [upto, List.range_zero, List.map_nil, dfold, List.foldl_nil, Nat.sub_zero]
    rw [List.drop_of_length_le (by omega), List.drop_of_length_le (by simp)]
    exact ⟨by simp, hy, by simp [dv]⟩
  | succ k ih =>
    intro hk
    obtain ⟨h1, h2, h3⟩ := ih (by omega)
    rw [upto_succ, dfold_snoc]
    generalize dfold xs y (upto (dnAt n) k) = st at h1 h2 h3
    have e : (dnAt n k).1 = n - (k + 1) := by simp only [dnAt]; omega
    have e2 : n - (k + 1) + 1 = n - k := by omega
    rw [e]
    refine ⟨by simp [dstep, h1], Nat.mod_lt _ hy, ?_⟩
    simp only [dstep]
    rw [drop_set_at _ _ _ (by omega), e2, List.drop_eq_getElem_cons (by omega), e2, dv_cons, dv_cons]
    have hg : xs[n - (k + 1)]?.getD 0 = xs[n - (k + 1)] := by simp [show n - (k + 1) < xs.length by omega]
    rw [hg]
    exact div_step h3

theorem Own.kept {k : IntKind} {e : TypeId} {A A' : World} {B : Nat} {ns : List Nat} (h : Own k e A B ns) {row : Option Nat} (hg : A.grownBy A' row) (hr : ∀ r, row = some r → ∃ o : Obj, A.heap[r]? = some o ∧ o.isCells = false) : Own k e A' B ns := by
  unfold Own at h ⊢
  rw [hg.block B (Array.getElem?_eq_some_iff.1 h).1 (fun e' => by obtain ⟨o, ho, hc⟩ := hr B e'.symm; rw [h] at ho; cases ho; cases hc)]
  exact h

theorem Own.putObj {k : IntKind} {e : TypeId} {A : World} {B : Nat} {ns : List Nat} (h : Own k e A B ns) (D : Nat) (o o' : Obj) (hD : A.heap[D]? = some o) (ho : o.isCells = false) : Own k e (A.putObj D o') B ns :=
  h.kept (grownBy_putObj' A D o') (fun r e => by cases e; exact ⟨o, hD, ho⟩)

theorem Own.setOther {k : IntKind} {e : TypeId} {A : World} {B : Nat} {ns : List Nat} (h : Own k e A B ns) (a : Addr) (v : Value) (ha : B ≠ a.block) : Own k e (A.setCell a v) B ns := by
  unfold Own at h ⊢; rw [Below.heap_setCell _ _ _ _ ha]; exact h

theorem Boxed.setOther {A : World} {B : Nat} {t : TypeId} {v : Value} (h : Boxed A B t v) (a : Addr) (x : Value) (ha : B ≠ a.block) : Boxed (A.setCell a x) B t v := by
  unfold Boxed at h ⊢; rw [Below.heap_setCell _ _ _ _ ha]; exact h

theorem Boxed.kept' {A A' : World} {B : Nat} {t : TypeId} {v : Value} (h : Boxed A B t v) {row : Option Nat} (hg : A.grownBy A' row) (hr : ∀ r, row = some r → ∃ o : Obj, A.heap[r]? = some o ∧ o.isCells = false) : Boxed A' B t v :=
  h.kept hg (fun e' => by obtain ⟨o, ho, hc⟩ := hr B e'.symm; rw [show A.heap[B]? = _ from h] at ho; cases ho; cases hc)

/-- What holds between two rounds. B: the first of the call's own blocks. -/
def DivI (w : World) (B n : Nat) (xs : List Nat) (y : Nat) (pre : List (Pos n)) (W : World) : Prop :=
  ∃ qs r, Hid (dfold xs y pre = (qs, r) ∧ qs.length = n ∧ Dg BW qs) ∧ r < y ∧ Boxed W B 73 (.int .u64 (y : Int)) ∧ Boxed W (B + 1) 77 (.slice (some ⟨B + 1 + 1 + 1, 0, none⟩) n n)
    ∧ Boxed W (B + 1 + 1) 73 (.int .u64 (r : Int)) ∧ Own .u64 73 W (B + 1 + 1 + 1) qs

set_option maxRecDepth 100000 in
set_option maxHeartbeats 2000000 in
theorem divideByWord_any (p : Option Addr) (n c y : Nat) (xs : List Nat) (w : World) (hn : n ≤ 1000000000) (hx : Rd .u64 w p n xs) (gx : Dg BW xs) (hy0 : 0 < y) (hyB : y < 1000000000) :
    Calls Tryd.prog 102 #[.slice p n c, .int .u64 (y : Int)] w fun e w' => ∃ p' n' c' qs r, e = .returned (.tuple #[.slice p' n' c', .int .u64 ((r : Nat) : Int)]) ∧ Rd .u64 w' p' n' qs ∧ n' ≤ c' ∧ Cn BW qs ∧ r < y ∧ dv BW xs = dv BW qs * y + r ∧ Below w.heap.size w w' := by
  have hmk : ∀ w, (Instr.makeSlice 77 (.int .i64 (n : Int)) (.int .i64 (n : Int))).run Tryd.prog w = .ok (.slice (some ⟨w.heap.size, 0, none⟩) n n) (w.alloc (.cells (Go.madeCells #[.int .u64 0] n) 73)) := fun w => mkWords n (by omega) w
  refine (callsIn_wide (n := 6)).1 ?_
  refine callsIn_of_wp_marks Tryd.func102 rfl trivial ?_ rfl
  simp only [Tryd.ntmps102, List.size_toArray, List.length_cons, List.length_nil, Nat.reduceAdd, Nat.reduceSub, Array.replicate_succ, Array.replicate_zero, List.push_toArray, List.append_toArray, List.nil_append, List.cons_append]
  gi_wp2_with (refine ⟨trivial, ?_⟩; gi_at_call 72; refine (down_in Fence.wide _ trivial rfl _ _ _ _).mono ?_; rintro e w' ⟨rfl, rfl⟩)
  have hB0 : Below w.heap.size w (((((w.alloc (.cells #[.int .u64 (y : Int)] 73)).alloc (.cells #[.slice (some ⟨w.heap.size + 1 + 1 + 1, 0, none⟩) n n] 77)).alloc (.cells #[.int .u64 0] 73)).alloc
      (.cells (Go.madeCells #[.int .u64 0] n) 73)).alloc (.cells #[.slice p n c] 77)) :=
    (((((Below.refl _ w).alloc (Nat.le_refl _) _).alloc (by simp) _).alloc (by simp; omega) _).alloc (by simp; omega) _).alloc (by simp; omega) _
  have c0 := Boxed.new w 73 (.int .u64 (y : Int))
  have c1 := Boxed.new (w.alloc (.cells #[.int .u64 (y : Int)] 73)) 77 (.slice (some ⟨w.heap.size + 1 + 1 + 1, 0, none⟩) n n)
  have c2 := Boxed.new ((w.alloc (.cells #[.int .u64 (y : Int)] 73)).alloc (.cells #[.slice (some ⟨w.heap.size + 1 + 1 + 1, 0, none⟩) n n] 77)) 73 (.int .u64 0)
  have c3 := Own.new .u64 73 (((w.alloc (.cells #[.int .u64 (y : Int)] 73)).alloc (.cells #[.slice (some ⟨w.heap.size + 1 + 1 + 1, 0, none⟩) n n] 77)).alloc (.cells #[.int .u64 0] 73)) n
  have c4 := Boxed.new ((((w.alloc (.cells #[.int .u64 (y : Int)] 73)).alloc (.cells #[.slice (some ⟨w.heap.size + 1 + 1 + 1, 0, none⟩) n n] 77)).alloc (.cells #[.int .u64 0] 73)).alloc (.cells (Go.madeCells #[.int .u64 0] n) 73)) 77 (.slice p n c)
  simp only [World.size_alloc] at c1 c2 c3 c4
  refine wpIn_rangeFunc_ownF rfl (by omega) (gf := 98) (lb := #[.pointer (some ⟨w.heap.size + 1 + 1 + 1 + 1, 0, none⟩)]) rfl trivial (enters_of Tryd.func98 (by kernel_rfl) rfl)
    (down_stops Fence.wide 5 trivial rfl (by omega) (w.heap.size + 1 + 1 + 1 + 1) n c (fun b => b < w.heap.size ∨ b = w.heap.size + 1 + 1 + 1 + 1) p xs hn _ (fun b hb => by simp; omega) c4.cell (Or.inr rfl) hx.1
      (fun i hi => by obtain ⟨b, off, hp, hb, hcl⟩ := hx.2 i hi; exact ⟨b, off, hp, Or.inl hb, (hB0.cell (p := ⟨b, off + i, none⟩) hb).trans hcl⟩))
    KeepsAt.trans (KeepsAt.putObj (fun b hb => by simp; omega)) (Below.refl _ _) (fun _ => rfl)
    (fun pre W => DivI w w.heap.size n xs y pre W ∧ Below w.heap.size w W)
    (fun _ _ _ => False)
    (OwnFrom.and (Own.from (fun s A B row hs hg hr => by obtain ⟨qs, r, h1, h2, h3, h4, h5, h6⟩ := hs; exact ⟨qs, r, h1, h2, Boxed.kept' h3 hg hr, Boxed.kept' h4 hg hr, Boxed.kept' h5 hg hr, h6.kept hg hr⟩) _) (ownFrom_below (Nat.le_refl _) (by simp; omega)))
    (fun _ _ _ _ _ hs _ _ => hs)
    ⟨⟨List.replicate n 0, 0, ⟨rfl, by simp, Dg.replicate (by decide) _⟩, hy0, (((c0.alloc _).alloc _).alloc _).alloc _, ((c1.alloc _).alloc _).alloc _, (c2.alloc _).alloc _, c3.below ((Below.refl _ _).alloc (Nat.le_refl _) _) (by simp)⟩, hB0⟩
    (fun x => { tmps := #[.slice p n c, .int .u64 (y : Int), undef, .pointer (some ⟨w.heap.size, 0, none⟩), .pointer (some ⟨w.heap.size + 1, 0, none⟩), .pointer (some ⟨w.heap.size + 1 + 1, 0, none⟩), .int .i64 (x.1 : Int), .int .u64 ((xs[x.1]?.getD 0 : Nat) : Int), .slice p n c,
        .int .i64 (n : Int), .slice (some ⟨w.heap.size + 1 + 1 + 1, 0, none⟩) n n, .slice p n c,
        .func (.func 98) #[] #[.pointer (some ⟨w.heap.size + 1 + 1 + 1 + 1, 0, none⟩)], .int .i64 (x.1 : Int), .int .u64 ((xs[x.1]?.getD 0 : Nat) : Int),
        undef, undef, undef, undef, undef, undef, undef, undef, undef, undef, undef, undef, undef, undef, undef, undef], defers := [] }) ?assign ?body ?done ?stop
  case assign =>
    intro l x W K hK
    unfold encDn
    gi_wp2
    exact hK
  case body =>
    rintro l pre ⟨i, hi⟩ W ⟨⟨qs, r, hq, hr, h3, h4, h5, h6⟩, hB⟩ hlt
    have hin : i < n := hi (by omega)
    have hcx := h6.cell i (by rw [hq.out.2.1]; exact hin)
    have hfx := h6.frozen i
    have k3 := h3.cell
    have k4 := h4.cell
    have k5 := h5.cell
    have f5 := h5.frozen
    have b1 : xs[i]?.getD 0 < 1000000000 := gx.get (by decide) i
    obtain ⟨x, hxi⟩ : ∃ x, xs[i]?.getD 0 = x := ⟨_, rfl⟩
    have HXI := Lib.hid hxi
    dsimp only
    rw [hxi] at b1 ⊢
    clear hxi
    have hyz : ¬ y = 0 := by omega
    have hfit := div_fits (b := BW) hr b1
    obtain ⟨t, ht⟩ : ∃ t, r * BW + x = t := ⟨_, rfl⟩
    obtain ⟨q', hq'⟩ : ∃ q', t / y = q' := ⟨_, rfl⟩
    obtain ⟨m', hm'⟩ : ∃ m', t % y = m' := ⟨_, rfl⟩
    have hs : (r : Int) * 1000000000 + (x : Int) = (t : Int) := by rw [← ht]; simp
    have t1 : (t : Int) ≤ 1000000000000000000 := by omega
    rw [ht, hq'] at hfit
    have q1 : q' < 1000000000 := hfit
    have hq1 : IntKind.u64.wrap ((t : Int).tdiv (y : Int)) = (q' : Int) := by
      rw [Int.tdiv_eq_ediv_of_nonneg (by omega), ← Int.natCast_ediv, hq']
      exact IntWalk.u64_in _ ⟨by omega, by omega⟩
    have hq2 : (t : Int) / (y : Int) = (q' : Int) := by rw [← Int.natCast_ediv, hq']
    have hm1 : (t : Int).tmod (y : Int) = (m' : Int) := by rw [Int.tmod_eq_emod_of_nonneg (by omega), ← Int.natCast_emod, hm']
    have hm2 : (t : Int) % (y : Int) = (m' : Int) := by rw [← Int.natCast_emod, hm']
    have HT := Lib.hid (And.intro ht (And.intro hq' hm'))
    clear hfit ht hq' hm'
    gi_wp2
    refine wpIn_still_tail 6 (by kernel_rfl) (by kernel_rfl) (by kernel_rfl) (by rintro ⟨_, _, h⟩; exact h) ?_
    simp only [List.take_succ_cons, List.take_zero, List.drop_succ_cons, List.drop_zero]
    repeat still_step
    refine wpStill_nil ?_
    go_wp2
    gi_wp2
    obtain ⟨e1, e2, e3⟩ := HT.out
    obtain ⟨q1', q2', q3'⟩ := hq.out
    refine ⟨(((KeepsOthers.setCell _ _ _).trans (KeepsOthers.setCell _ _ _)).trans (KeepsOthers.setCell _ _ _)).trans (KeepsOthers.drew _),
      (((KeepsAt.refl _ W).setCell _ _ (by simp <;> omega)).setCell _ _ (by simp <;> omega)).setCell _ _ (by simp <;> omega),
      ⟨qs.set i q', m', ⟨?_, by simp [q2'], q3'.set i (show _ < 1000000000 from q1)⟩, ?_, ?_, ?_, ?_, ?_⟩, (((hB.setCell (by simp <;> omega) _).setCell (by simp <;> omega) _).setCell (by simp <;> omega) _).drew⟩
    · rw [dfold_snoc, q1']; simp only [dstep]; rw [HXI.out, e1, e2, e3]
    · rw [← e3]; exact Nat.mod_lt _ hy0
    · exact Boxed.setOther (Boxed.setOther (Boxed.setOther h3 _ _ (by simp <;> omega)) _ _ (by simp <;> omega)) _ _ (by simp <;> omega)
    · exact Boxed.setOther (Boxed.setOther (Boxed.setOther h4 _ _ (by simp)) _ _ (by simp <;> omega)) _ _ (by simp)
    · exact Boxed.set _ (Boxed.setOther (Boxed.set _ h5) _ _ (by simp))
    · exact Own.setOther ((Own.setOther h6 _ _ (by simp)).set i q') _ _ (by simp)
  case done =>
    rintro D zs W hD rfl ⟨⟨qs, r, hq, hr, h3, h4, h5, h6⟩, hB⟩ hK
    have k4 := h4.cell
    have f4 := h4.frozen
    have k5 := h5.cell
    have f5 := h5.frozen
    have hql := hq.out.2.1
    gi_wp2
    refine wpIn_wide.2 ?_
    go_region_with (go_at_call 80; refine (trimmed_any _ _ _ qs _ (by unfold maxLen; omega) (Nat.le_refl _) (Own.rd (Own.below h6 ((Below.refl (w.heap.size + 1 + 1 + 1 + 1) _).drew) (by omega)) hql)).mono ?_; rintro e w' ⟨rfl, rfl⟩)
    all_goals
      gi_wp2
      have hW' : KeepsOthers W ((W.setCell ⟨w.heap.size + 1, 0, none⟩ (.slice (some ⟨w.heap.size + 1 + 1 + 1, 0, none⟩) (trimLen qs n) (trimLen qs n))).setCell ⟨w.heap.size + 1 + 1, 0, none⟩ (.int .u64 (r : Int))).drew :=
        ((KeepsOthers.setCell _ _ _).trans (KeepsOthers.setCell _ _ _)).trans (KeepsOthers.drew _)
      have hK' := hW'.same D _ hK rfl
      have g4 : Boxed ((W.setCell ⟨w.heap.size + 1, 0, none⟩ (.slice (some ⟨w.heap.size + 1 + 1 + 1, 0, none⟩) (trimLen qs n) (trimLen qs n))).setCell ⟨w.heap.size + 1 + 1, 0, none⟩ (.int .u64 (r : Int))).drew (w.heap.size + 1) 77 _ := Boxed.setOther (Boxed.set _ h4) _ _ (by simp <;> omega)
      have g5 : Boxed ((W.setCell ⟨w.heap.size + 1, 0, none⟩ (.slice (some ⟨w.heap.size + 1 + 1 + 1, 0, none⟩) (trimLen qs n) (trimLen qs n))).setCell ⟨w.heap.size + 1 + 1, 0, none⟩ (.int .u64 (r : Int))).drew (w.heap.size + 1 + 1) 73 _ := Boxed.set _ (Boxed.setOther h5 _ _ (by simp <;> omega))
      have g6 : Own .u64 73 ((W.setCell ⟨w.heap.size + 1, 0, none⟩ (.slice (some ⟨w.heap.size + 1 + 1 + 1, 0, none⟩) (trimLen qs n) (trimLen qs n))).setCell ⟨w.heap.size + 1 + 1, 0, none⟩ (.int .u64 (r : Int))).drew (w.heap.size + 1 + 1 + 1) qs := Own.setOther (Own.setOther h6 _ _ (by simp <;> omega)) _ _ (by simp <;> omega)
      have gB : Below w.heap.size w ((W.setCell ⟨w.heap.size + 1, 0, none⟩ (.slice (some ⟨w.heap.size + 1 + 1 + 1, 0, none⟩) (trimLen qs n) (trimLen qs n))).setCell ⟨w.heap.size + 1 + 1, 0, none⟩ (.int .u64 (r : Int))).drew := ((hB.setCell (by simp <;> omega) _).setCell (by simp <;> omega) _).drew
      refine ⟨by simp, .inl ⟨_, _, rfl, run_takeDeferred hK', ?_⟩⟩
      have p4 := (Boxed.kept' g4 (grownBy_putObj' _ D (.deferred none)) (fun r e => by cases e; exact ⟨_, hK', rfl⟩)).cell
      have p5 := (Boxed.kept' g5 (grownBy_putObj' _ D (.deferred none)) (fun r e => by cases e; exact ⟨_, hK', rfl⟩)).cell
      have p6 := g6.putObj D _ (.deferred none) hK' rfl
      have hsays := dfold_says hy0 hx.1 n (Nat.le_refl _)
      rw [hq.out.1] at hsays
      simp only [Nat.sub_self, List.drop_zero] at hsays
      refine ⟨.tuple #[.slice (some ⟨w.heap.size + 1 + 1 + 1, 0, none⟩) (trimLen qs n) (trimLen qs n), .int .u64 (r : Int)], ?_, _, _, _, trimZ qs, r, rfl, ?_, Nat.le_refl _, trimZ_cn hq.out.2.2, hr, ?_, gB.trans (belowK_b (w := w) (Nat.le_refl _) _ D _ _ (by simp at hD; omega) hK' rfl rfl)⟩
      · simp [results, Tryd.f102, go_sem, p4, p5]
      · unfold trimZ; rw [hql]; exact (p6.rd hql).take _ (trimLen_le _ _)
      · rw [dv_trimZ]; exact hsays.2.2
  case stop =>
    rintro D c pre W _ _ h _
    exact h.elim
end Go.Proofs.YtapfkinpdinbgaaDoor
