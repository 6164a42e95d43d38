/-
  A number divided by one word; A loop over an iterator whose places come in one order: the body is asked only for the place that comes next; Long division, its two steps in place: what is taken from a window of words, what is added back; Long division, a word of the quotient guessed: plain; Long division: guessWord.
-/
import Derived.RangeFuncCalls
import Derived.StillTailTactics
import Derived.TacticsInMore
import Derived.OrdersIn
import Derived.Deep.RegionWith
import Derived.Deep.CutBlock
import Derived.WalkMore
import Derived.Test.YtimcbmgmngkagaaDoorK1
namespace Go.Proofs.YtimcbmgmngkagaaDoor
open Go.RowKit
variable {P : Program} {ops : Array Oper} {Q : Exit → Act → World → Prop}

theorem rowsIn_round {l₀ n : Nat} {row : String} {args : Array Value} {w : World} {R : Value → World → Prop} (h : Rows P row args w R) : RowsIn (Fence.wide.inRound l₀) n P row args w R := by
  intro c cs _
  obtain ⟨v, w', hR, hs⟩ := h c cs
  exact ⟨v, w', hR, stepsIn_wide.2 hs⟩

theorem wpIn_of_wp_op {l₀ n : Nat} {o : Oper} {a : Act} {w : World} {K : Act → World → Prop} (hnd : ∀ c, o.op ≠ .defer c) (h : o.wp P a w K Q) : o.wpIn (Fence.wide.inRound l₀) n P a w K Q := by
  refine ⟨fun _ _ => trivial, ?_⟩
  rw [Oper.semAt_eq _ _ _ hnd]
  unfold Oper.wp at h
  generalize (execOp a.eval o).run P w = r at h
  rcases r with ⟨v, w'⟩ | ⟨v, w'⟩
  · cases v with
    | enter f args => exact ⟨fun hd => (by simp [Fence.wide] at hd), CallsIn.inRound l₀ (callsIn_wide.2 h)⟩
    | row row args => exact ⟨fun hd => (by simp [Fence.wide] at hd), rowsIn_round h⟩
    | round l f tmps assign body => exact h.elim
    | _ => exact h
  · cases v with
    | panic v => exact h
    | _ => exact h.elim

theorem wpOpIn_of_wpOp {l₀ n i : Nat} {K K' : Act → World → Prop} {a : Act} {w : World} (hnd : ∀ (j : Nat) (o : Oper) c, ops[j]? = some o → o.op ≠ .defer c) (hL : ¬ LetsOut Q)
    (hK : ∀ a w, K a w → K' a w) (h : wpOp P ops Q i K a w) : wpOpIn (Fence.wide.inRound l₀) n P ops Q i K' a w := by
  unfold wpOp at h
  unfold wpOpIn
  cases ho : ops[i]? with
  | none => simp only [ho] at h; exact hK _ _ h
  | some o =>
    simp only [ho] at h
    dsimp only
    split at h
    · rename_i hw
      rw [if_pos hw]
      rcases h with h | ⟨_, h⟩
      · exact Oper.wpIn_mono hK (wpIn_of_wp_op (fun c => hnd i o c ho) h)
      · exact (hL h).elim
    · rename_i hw
      rw [if_neg hw]
      exact ⟨fun _ _ => trivial, hK _ _ h⟩

theorem wpAnyIn_of_wpAny {l₀ n : Nat} {md : Region.Mode} (hnd : ∀ (j : Nat) (o : Oper) c, ops[j]? = some o → o.op ≠ .defer c) (hL : ¬ LetsOut Q) :
    ∀ (f : Nat) (listed : Array Bool) (a : Act) (w : World), wpAny P md ops Q f listed a w → wpAnyIn (Fence.wide.inRound l₀) n P md ops Q f listed a w := by
  intro f
  induction f with
  | zero => exact fun _ _ _ h => h
  | succ f ih => exact fun listed a w h => ⟨h.1, fun i hi => wpOpIn_of_wpOp hnd hL (ih _) (h.2 i hi)⟩

def noDeferB (l : List Oper) : Bool := l.all fun o => match o.op with | .defer _ => false | _ => true
theorem noDefer_of {l : List Oper} (h : noDeferB l = true) : ∀ (j : Nat) (o : Oper) c, l.toArray[j]? = some o → o.op ≠ .defer c := by
  intro j o c ho e
  have hm : o ∈ l := by
    rw [List.getElem?_toArray] at ho
    exact List.mem_of_getElem? ho
  have := List.all_eq_true.1 h o hm
  rw [e] at this
  cases this

theorem wpListIn_of_wpList {l₀ n : Nat} (hL : ¬ LetsOut Q) : ∀ (l : List Oper), noDeferB l = true → ∀ (a : Act) (w : World), wpList P ops Q l a w → wpListIn (Fence.wide.inRound l₀) n P ops Q l a w
  | [], _, _, _, h => h
  | o :: rest, hB, a, w, h => by
    have hB' : noDeferB rest = true := by
      unfold noDeferB at hB ⊢
      rw [List.all_cons, Bool.and_eq_true] at hB
      exact hB.2
    have hnd : ∀ c, o.op ≠ .defer c := by
      intro c e
      unfold noDeferB at hB
      rw [List.all_cons, Bool.and_eq_true, e] at hB
      cases hB.1
    unfold wpList at h
    unfold wpListIn
    split at h
    · rename_i hw
      rw [if_pos hw]
      rcases h with h | ⟨_, h⟩
      · exact Oper.wpIn_mono (fun a w h => wpListIn_of_wpList hL rest hB' a w h) (wpIn_of_wp_op hnd h)
      · exact (hL h).elim
    · rename_i hw
      rw [if_neg hw]
      exact ⟨fun _ _ => trivial, wpListIn_of_wpList hL rest hB' _ _ h⟩

/-- Reads, then one chain of writes: one walk in the order of the text. -/
theorem wpIn_still_tail {l₀ nn : Nat} {id : Nat} {a : Act} {w : World} {l : List Oper} (n : Nat) (hm : P.follows .mixedOrders = true) (hB : Region.lexTailB .any l.toArray n = true)
    (hndB : noDeferB l = true) (hL : ¬ LetsOut Q)
    (h : wpStill P l.toArray w.drew (fun a' => wpList P l.toArray Q (l.drop n) a' w.drew) (l.take n) a) : (Code.region id l.toArray true).wpIn (Fence.wide.inRound l₀) nn P Q a w := by
  simp only [Region.lexTailB, Bool.and_eq_true, decide_eq_true_eq] at hB
  obtain ⟨⟨⟨⟨hsel, hn⟩, hs⟩, hc⟩, hlex⟩ := hB
  have hn' : n < l.length := by simpa using hn
  have htl : (l.take n).length = n := by simp; omega
  have hdl : (l.drop n).length = l.toArray.size - n := by simp
  have inv0 : HeadInv .any l.toArray n (Array.replicate l.toArray.size false) :=
    ⟨by simp, fun j oj _ hl => (by rw [getD_replicate_false] at hl; cases hl), fun t _ ht => getD_in (by simpa using ht) (getD_replicate_false _ _)⟩
  have H := wpAnyL_lex (md := .any) (g := l.toArray.size - n) hsel hs hc hn (l.take n) 0 _ a (fun j hj => by
    have hj' : j < n := by rw [htl] at hj; exact hj
    simp [hj']) (by simpa using htl) inv0 (by rw [htl]; exact hlex) h
  refine wpIn_region_any hm (wpAnyIn_of_wpAny (noDefer_of hndB) hL _ _ _ _ ?_)
  have := wpAny_of_head (Q' := Q) (g := l.toArray.size - n) (fun listed a' hL => by
    have := wpAny_of_seq (md := .any) (Q' := Q) (l.drop n) n listed a' { w with drawn := w.drawn + 1 } (fun j => by simp [List.getElem?_drop]) (by rw [hdl]; exact hL.1) hL.2
    rwa [hdl] at this) _ _ _ H
  rw [htl, show n + (l.toArray.size - n) = l.toArray.size by omega] at this
  exact this

end Go.Proofs.YtimcbmgmngkagaaDoor

namespace Go.Proofs.YtimcbmgmngkagaaDoor
open Go.RowKit Go.Shelf
attribute [local go_sem] Oper.semAt_some

/-- One word more of the quotient, and what is left. -/
def dstep (xs : List Nat) (y : Nat) (st : List Nat × Nat) (i : Nat) : List Nat × Nat :=
  (st.1.set i ((st.2 * BW + xs[i]?.getD 0) / y), (st.2 * BW + xs[i]?.getD 0) % y)

def dfold {n : Nat} (xs : List Nat) (y : Nat) (pre : List (Pos n)) : List Nat × Nat := pre.foldl (fun st i => dstep xs y st i.1) (List.replicate n 0, 0)

theorem dfold_snoc {n : Nat} (xs : List Nat) (y : Nat) (pre : List (Pos n)) (i : Pos n) : dfold xs y (pre ++ [i]) = dstep xs y (dfold xs y pre) i.1 := by
  unfold dfold; rw [List.foldl_append]; rfl

theorem drop_set_at (qs : List Nat) (i v : Nat) (h : i < qs.length) : (qs.set i v).drop i = v :: qs.drop (i + 1) := by
  rw [List.drop_eq_getElem_cons (by simpa using h)]
  simp [List.drop_set]

theorem dfold_says {n : Nat} {xs : List Nat} {y : Nat} (hy : 0 < y) (hx : xs.length = n) : ∀ k, k ≤ n →
    (dfold xs y (upto (dnAt n) k)).1.length = n ∧ (dfold xs y (upto (dnAt n) k)).2 < y ∧
    dv BW (xs.drop (n - k)) = dv BW ((dfold xs y (upto (dnAt n) k)).1.drop (n - k)) * y + (dfold xs y (upto (dnAt n) k)).2 := by
  intro k
  induction k with
  | zero =>
    intro _
    simp only [upto, List.range_zero, List.map_nil, dfold, List.foldl_nil, Nat.sub_zero]
    rw [List.drop_of_length_le (by omega), List.drop_of_length_le (by simp)]
    exact ⟨by simp, hy, by simp [dv]⟩
  | succ k ih =>
    intro hk
    obtain ⟨h1, h2, h3⟩ := ih (by omega)
    rw [upto_succ, dfold_snoc]
    generalize dfold xs y (upto (dnAt n) k) = st at h1 h2 h3
    have e : (dnAt n k).1 = n - (k + 1) := by simp only [dnAt]; omega
    have e2 : n - (k + 1) + 1 = n - k := by omega
    rw [e]
    refine ⟨by simp [dstep, h1], Nat.mod_lt _ hy, ?_⟩
    simp only [dstep]
    rw [drop_set_at _ _ _ (by omega), e2, List.drop_eq_getElem_cons (by omega), e2, dv_cons, dv_cons]
    have hg : xs[n - (k + 1)]?.getD 0 = xs[n - (k + 1)] := by simp [show n - (k + 1) < xs.length by omega]
    rw [hg]
    exact div_step h3

theorem Own.kept {k : IntKind} {e : TypeId} {A A' : World} {B : Nat} {ns : List Nat} (h : Own k e A B ns) {row : Option Nat} (hg : A.grownBy A' row) (hr : ∀ r, row = some r → ∃ o : Obj, A.heap[r]? = some o ∧ o.isCells = false) : Own k e A' B ns := by
  unfold Own at h ⊢
  rw [hg.block B (Array.getElem?_eq_some_iff.1 h).1 (fun e' => by obtain ⟨o, ho, hc⟩ := hr B e'.symm; rw [h] at ho; cases ho; cases hc)]
  exact h

theorem Own.putObj {k : IntKind} {e : TypeId} {A : World} {B : Nat} {ns : List Nat} (h : Own k e A B ns) (D : Nat) (o o' : Obj) (hD : A.heap[D]? = some o) (ho : o.isCells = false) : Own k e (A.putObj D o') B ns :=
  h.kept (grownBy_putObj' A D o') (fun r e => by cases e; exact ⟨o, hD, ho⟩)

theorem Own.setOther {k : IntKind} {e : TypeId} {A : World} {B : Nat} {ns : List Nat} (h : Own k e A B ns) (a : Addr) (v : Value) (ha : B ≠ a.block) : Own k e (A.setCell a v) B ns := by
  unfold Own at h ⊢; rw [Below.heap_setCell _ _ _ _ ha]; exact h

theorem Boxed.setOther {A : World} {B : Nat} {t : TypeId} {v : Value} (h : Boxed A B t v) (a : Addr) (x : Value) (ha : B ≠ a.block) : Boxed (A.setCell a x) B t v := by
  unfold Boxed at h ⊢; rw [Below.heap_setCell _ _ _ _ ha]; exact h

theorem Boxed.kept' {A A' : World} {B : Nat} {t : TypeId} {v : Value} (h : Boxed A B t v) {row : Option Nat} (hg : A.grownBy A' row) (hr : ∀ r, row = some r → ∃ o : Obj, A.heap[r]? = some o ∧ o.isCells = false) : Boxed A' B t v :=
  h.kept hg (fun e' => by obtain ⟨o, ho, hc⟩ := hr B e'.symm; rw [show A.heap[B]? = _ from h] at ho; cases ho; cases hc)

/-- What holds between two rounds. B: the first of the call's own blocks. -/
def DivI (w : World) (B n : Nat) (xs : List Nat) (y : Nat) (pre : List (Pos n)) (W : World) : Prop :=
  ∃ qs r, Hid (dfold xs y pre = (qs, r) ∧ qs.length = n ∧ Dg BW qs) ∧ r < y ∧ Boxed W B 73 (.int .u64 (y : Int)) ∧ Boxed W (B + 1) 45 (.slice (some ⟨B + 1 + 1 + 1, 0, none⟩) n n)
    ∧ Boxed W (B + 1 + 1) 73 (.int .u64 (r : Int)) ∧ Own .u64 73 W (B + 1 + 1 + 1) qs

set_option maxRecDepth 100000 in
set_option maxHeartbeats 2000000 in
theorem divideByWord_any (p : Option Addr) (n c y : Nat) (xs : List Nat) (w : World) (hn : n ≤ 1000000000) (hx : Rd .u64 w p n xs) (gx : Dg BW xs) (hy0 : 0 < y) (hyB : y < 1000000000) :
    Calls Tryd.prog 56 #[.slice p n c, .int .u64 (y : Int)] w fun e w' => ∃ p' n' c' qs r, e = .returned (.tuple #[.slice p' n' c', .int .u64 ((r : Nat) : Int)]) ∧ Rd .u64 w' p' n' qs ∧ n' ≤ c' ∧ Cn BW qs ∧ r < y ∧ dv BW xs = dv BW qs * y + r ∧ Below w.heap.size w w' := by
  have hmk : ∀ w, (Instr.makeSlice 45 (.int .i64 (n : Int)) (.int .i64 (n : Int))).run Tryd.prog w = .ok (.slice (some ⟨w.heap.size, 0, none⟩) n n) (w.alloc (.cells (Go.madeCells #[.int .u64 0] n) 73)) := fun w => mkWords n (by omega) w
  refine (callsIn_wide (n := 6)).1 ?_
  refine callsIn_of_wp_marks Tryd.func56 rfl trivial ?_ rfl
  simp only [Tryd.ntmps56, List.size_toArray, List.length_cons, List.length_nil, Nat.reduceAdd, Nat.reduceSub, Array.replicate_succ, Array.replicate_zero, List.push_toArray, List.append_toArray, List.nil_append, List.cons_append]
  gi_wp2_with (refine ⟨trivial, ?_⟩; gi_at_call 37; refine (down_in Fence.wide _ trivial rfl _ _ _ _).mono ?_; rintro e w' ⟨rfl, rfl⟩)
  have hB0 : Below w.heap.size w (((((w.alloc (.cells #[.int .u64 (y : Int)] 73)).alloc (.cells #[.slice (some ⟨w.heap.size + 1 + 1 + 1, 0, none⟩) n n] 45)).alloc (.cells #[.int .u64 0] 73)).alloc
      (.cells (Go.madeCells #[.int .u64 0] n) 73)).alloc (.cells #[.slice p n c] 45)) :=
    (((((Below.refl _ w).alloc (Nat.le_refl _) _).alloc (by simp) _).alloc (by simp; omega) _).alloc (by simp; omega) _).alloc (by simp; omega) _
  have c0 := Boxed.new w 73 (.int .u64 (y : Int))
  have c1 := Boxed.new (w.alloc (.cells #[.int .u64 (y : Int)] 73)) 45 (.slice (some ⟨w.heap.size + 1 + 1 + 1, 0, none⟩) n n)
  have c2 := Boxed.new ((w.alloc (.cells #[.int .u64 (y : Int)] 73)).alloc (.cells #[.slice (some ⟨w.heap.size + 1 + 1 + 1, 0, none⟩) n n] 45)) 73 (.int .u64 0)
  have c3 := Own.new .u64 73 (((w.alloc (.cells #[.int .u64 (y : Int)] 73)).alloc (.cells #[.slice (some ⟨w.heap.size + 1 + 1 + 1, 0, none⟩) n n] 45)).alloc (.cells #[.int .u64 0] 73)) n
  have c4 := Boxed.new ((((w.alloc (.cells #[.int .u64 (y : Int)] 73)).alloc (.cells #[.slice (some ⟨w.heap.size + 1 + 1 + 1, 0, none⟩) n n] 45)).alloc (.cells #[.int .u64 0] 73)).alloc (.cells (Go.madeCells #[.int .u64 0] n) 73)) 45 (.slice p n c)
  simp only [World.size_alloc] at c1 c2 c3 c4
  refine wpIn_rangeFunc_ownF rfl (by omega) (gf := 54) (lb := #[.pointer (some ⟨w.heap.size + 1 + 1 + 1 + 1, 0, none⟩)]) rfl trivial (enters_of Tryd.func54 (by kernel_rfl) rfl)
    (down_stops Fence.wide 5 trivial rfl (by omega) (w.heap.size + 1 + 1 + 1 + 1) n c (fun b => b < w.heap.size ∨ b = w.heap.size + 1 + 1 + 1 + 1) p xs hn _ (fun b hb => by simp; omega) c4.cell (Or.inr rfl) hx.1
      (fun i hi => by obtain ⟨b, off, hp, hb, hcl⟩ := hx.2 i hi; exact ⟨b, off, hp, Or.inl hb, (hB0.cell (p := ⟨b, off + i, none⟩) hb).trans hcl⟩))
    KeepsAt.trans (KeepsAt.putObj (fun b hb => by simp; omega)) (Below.refl _ _) (fun _ => rfl)
    (fun pre W => DivI w w.heap.size n xs y pre W ∧ Below w.heap.size w W)
    (fun _ _ _ => False)
    (OwnFrom.and (Own.from (fun s A B row hs hg hr => by obtain ⟨qs, r, h1, h2, h3, h4, h5, h6⟩ := hs; exact ⟨qs, r, h1, h2, Boxed.kept' h3 hg hr, Boxed.kept' h4 hg hr, Boxed.kept' h5 hg hr, h6.kept hg hr⟩) _) (ownFrom_below (Nat.le_refl _) (by simp; omega)))
    (fun _ _ _ _ _ hs _ _ => hs)
    ⟨⟨List.replicate n 0, 0, ⟨rfl, by simp, Dg.replicate (by decide) _⟩, hy0, (((c0.alloc _).alloc _).alloc _).alloc _, ((c1.alloc _).alloc _).alloc _, (c2.alloc _).alloc _, c3.below ((Below.refl _ _).alloc (Nat.le_refl _) _) (by simp)⟩, hB0⟩
    (fun x => { tmps := #[.slice p n c, .int .u64 (y : Int), undef, .pointer (some ⟨w.heap.size, 0, none⟩), .pointer (some ⟨w.heap.size + 1, 0, none⟩), .pointer (some ⟨w.heap.size + 1 + 1, 0, none⟩), .int .i64 (x.1 : Int), .int .u64 ((xs[x.1]?.getD 0 : Nat) : Int), .slice p n c,
        .int .i64 (n : Int), .slice (some ⟨w.heap.size + 1 + 1 + 1, 0, none⟩) n n, .slice p n c,
        .func (.func 54) #[] #[.pointer (some ⟨w.heap.size + 1 + 1 + 1 + 1, 0, none⟩)], .int .i64 (x.1 : Int), .int .u64 ((xs[x.1]?.getD 0 : Nat) : Int),
        undef, undef, undef, undef, undef, undef, undef, undef, undef, undef, undef, undef, undef, undef, undef, undef], defers := [] }) ?assign ?body ?done ?stop
  case assign =>
    intro l x W K hK
    unfold encDn
    gi_wp2
    exact hK
  case body =>
    rintro l pre ⟨i, hi⟩ W ⟨⟨qs, r, hq, hr, h3, h4, h5, h6⟩, hB⟩ hlt
    have hin : i < n := hi (by omega)
    have hcx := h6.cell i (by rw [hq.out.2.1]; exact hin)
    have hfx := h6.frozen i
    have k3 := h3.cell
    have k4 := h4.cell
    have k5 := h5.cell
    have f5 := h5.frozen
    have b1 : xs[i]?.getD 0 < 1000000000 := gx.get (by decide) i
    obtain ⟨x, hxi⟩ : ∃ x, xs[i]?.getD 0 = x := ⟨_, rfl⟩
    have HXI := Lib.hid hxi
    dsimp only
    rw [hxi] at b1 ⊢
    clear hxi
    have hyz : ¬ y = 0 := by omega
    have hfit := div_fits (b := BW) hr b1
    obtain ⟨t, ht⟩ : ∃ t, r * BW + x = t := ⟨_, rfl⟩
    obtain ⟨q', hq'⟩ : ∃ q', t / y = q' := ⟨_, rfl⟩
    obtain ⟨m', hm'⟩ : ∃ m', t % y = m' := ⟨_, rfl⟩
    have hs : (r : Int) * 1000000000 + (x : Int) = (t : Int) := by rw [← ht]; simp
    have t1 : (t : Int) ≤ 1000000000000000000 := by omega
    rw [ht, hq'] at hfit
    have q1 : q' < 1000000000 := hfit
    have hq1 : IntKind.u64.wrap ((t : Int).tdiv (y : Int)) = (q' : Int) := by
      rw [Int.tdiv_eq_ediv_of_nonneg (by omega), ← Int.natCast_ediv, hq']
      exact IntWalk.u64_in _ ⟨by omega, by omega⟩
    have hq2 : (t : Int) / (y : Int) = (q' : Int) := by rw [← Int.natCast_ediv, hq']
    have hm1 : (t : Int).tmod (y : Int) = (m' : Int) := by rw [Int.tmod_eq_emod_of_nonneg (by omega), ← Int.natCast_emod, hm']
    have hm2 : (t : Int) % (y : Int) = (m' : Int) := by rw [← Int.natCast_emod, hm']
    have HT := Lib.hid (And.intro ht (And.intro hq' hm'))
    clear hfit ht hq' hm'
    gi_wp2
    refine wpIn_still_tail 6 (by kernel_rfl) (by kernel_rfl) (by kernel_rfl) (by rintro ⟨_, _, h⟩; exact h) ?_
    simp only [List.take_succ_cons, List.take_zero, List.drop_succ_cons, List.drop_zero]
    repeat still_step
    refine wpStill_nil ?_
    go_wp2
    gi_wp2
    obtain ⟨e1, e2, e3⟩ := HT.out
    obtain ⟨q1', q2', q3'⟩ := hq.out
    refine ⟨(((KeepsOthers.setCell _ _ _).trans (KeepsOthers.setCell _ _ _)).trans (KeepsOthers.setCell _ _ _)).trans (KeepsOthers.drew _),
      (((KeepsAt.refl _ W).setCell _ _ (by simp <;> omega)).setCell _ _ (by simp <;> omega)).setCell _ _ (by simp <;> omega),
      ⟨qs.set i q', m', ⟨?_, by simp [q2'], q3'.set i (show _ < 1000000000 from q1)⟩, ?_, ?_, ?_, ?_, ?_⟩, (((hB.setCell (by simp <;> omega) _).setCell (by simp <;> omega) _).setCell (by simp <;> omega) _).drew⟩
    · rw [dfold_snoc, q1']; simp only [dstep]; rw [HXI.out, e1, e2, e3]
    · rw [← e3]; exact Nat.mod_lt _ hy0
    · exact Boxed.setOther (Boxed.setOther (Boxed.setOther h3 _ _ (by simp <;> omega)) _ _ (by simp <;> omega)) _ _ (by simp <;> omega)
    · exact Boxed.setOther (Boxed.setOther (Boxed.setOther h4 _ _ (by simp)) _ _ (by simp <;> omega)) _ _ (by simp)
    · exact Boxed.set _ (Boxed.setOther (Boxed.set _ h5) _ _ (by simp))
    · exact Own.setOther ((Own.setOther h6 _ _ (by simp)).set i q') _ _ (by simp)
  case done =>
    rintro D zs W hD rfl ⟨⟨qs, r, hq, hr, h3, h4, h5, h6⟩, hB⟩ hK
    have k4 := h4.cell
    have f4 := h4.frozen
    have k5 := h5.cell
    have f5 := h5.frozen
    have hql := hq.out.2.1
    gi_wp2
    refine wpIn_wide.2 ?_
    go_region_with (go_at_call 53; refine (trimmed_any _ _ _ qs _ (by unfold maxLen; omega) (Nat.le_refl _) (Own.rd (Own.below h6 ((Below.refl (w.heap.size + 1 + 1 + 1 + 1) _).drew) (by omega)) hql)).mono ?_; rintro e w' ⟨rfl, rfl⟩)
    all_goals
      gi_wp2
      have hW' : KeepsOthers W ((W.setCell ⟨w.heap.size + 1, 0, none⟩ (.slice (some ⟨w.heap.size + 1 + 1 + 1, 0, none⟩) (trimLen qs n) (trimLen qs n))).setCell ⟨w.heap.size + 1 + 1, 0, none⟩ (.int .u64 (r : Int))).drew :=
        ((KeepsOthers.setCell _ _ _).trans (KeepsOthers.setCell _ _ _)).trans (KeepsOthers.drew _)
      have hK' := hW'.same D _ hK rfl
      have g4 : Boxed ((W.setCell ⟨w.heap.size + 1, 0, none⟩ (.slice (some ⟨w.heap.size + 1 + 1 + 1, 0, none⟩) (trimLen qs n) (trimLen qs n))).setCell ⟨w.heap.size + 1 + 1, 0, none⟩ (.int .u64 (r : Int))).drew (w.heap.size + 1) 45 _ := Boxed.setOther (Boxed.set _ h4) _ _ (by simp <;> omega)
      have g5 : Boxed ((W.setCell ⟨w.heap.size + 1, 0, none⟩ (.slice (some ⟨w.heap.size + 1 + 1 + 1, 0, none⟩) (trimLen qs n) (trimLen qs n))).setCell ⟨w.heap.size + 1 + 1, 0, none⟩ (.int .u64 (r : Int))).drew (w.heap.size + 1 + 1) 73 _ := Boxed.set _ (Boxed.setOther h5 _ _ (by simp <;> omega))
      have g6 : Own .u64 73 ((W.setCell ⟨w.heap.size + 1, 0, none⟩ (.slice (some ⟨w.heap.size + 1 + 1 + 1, 0, none⟩) (trimLen qs n) (trimLen qs n))).setCell ⟨w.heap.size + 1 + 1, 0, none⟩ (.int .u64 (r : Int))).drew (w.heap.size + 1 + 1 + 1) qs := Own.setOther (Own.setOther h6 _ _ (by simp <;> omega)) _ _ (by simp <;> omega)
      have gB : Below w.heap.size w ((W.setCell ⟨w.heap.size + 1, 0, none⟩ (.slice (some ⟨w.heap.size + 1 + 1 + 1, 0, none⟩) (trimLen qs n) (trimLen qs n))).setCell ⟨w.heap.size + 1 + 1, 0, none⟩ (.int .u64 (r : Int))).drew := ((hB.setCell (by simp <;> omega) _).setCell (by simp <;> omega) _).drew
      refine ⟨by simp, .inl ⟨_, _, rfl, run_takeDeferred hK', ?_⟩⟩
      have p4 := (Boxed.kept' g4 (grownBy_putObj' _ D (.deferred none)) (fun r e => by cases e; exact ⟨_, hK', rfl⟩)).cell
      have p5 := (Boxed.kept' g5 (grownBy_putObj' _ D (.deferred none)) (fun r e => by cases e; exact ⟨_, hK', rfl⟩)).cell
      have p6 := g6.putObj D _ (.deferred none) hK' rfl
      have hsays := dfold_says hy0 hx.1 n (Nat.le_refl _)
      rw [hq.out.1] at hsays
      simp only [Nat.sub_self, List.drop_zero] at hsays
      refine ⟨.tuple #[.slice (some ⟨w.heap.size + 1 + 1 + 1, 0, none⟩) (trimLen qs n) (trimLen qs n), .int .u64 (r : Int)], ?_, _, _, _, trimZ qs, r, rfl, ?_, Nat.le_refl _, trimZ_cn hq.out.2.2, hr, ?_, gB.trans (belowK_b (w := w) (Nat.le_refl _) _ D _ _ (by simp at hD; omega) hK' rfl rfl)⟩
      · simp [results, Tryd.f56, go_sem, p4, p5]
      · unfold trimZ; rw [hql]; exact (p6.rd hql).take _ (trimLen_le _ _)
      · rw [dv_trimZ]; exact hsays.2.2
  case stop =>
    rintro D c pre W _ _ h _
    exact h.elim
end Go.Proofs.YtimcbmgmngkagaaDoor

namespace Go.Proofs.YtimcbmgmngkagaaDoor
open Go.RowKit

theorem wpIn_rangeFunc_next {α : Type} {F : Fence} {n : Nat} {P : Program} {g : Operand} {ps : Array Tmp} {assign body : Code} {Q : Exit → Act → World → Prop} {a : Act} {w : World}
    (hro : F.round = none) (h1 : 1 ≤ n) {gf : Nat} {lb : Array Value} (hg : a.eval g = .func (.func gf) #[] lb) (hFg : F.fn gf) (eg : ∀ args w, (callFunc gf args).run P w = .ok (.enter gf args) w)
    {encs : α → Array Value} (hps : ∀ x, (encs x).size = ps.size) (Ok : List α → α → Prop) (S : List α → Prop) (Kp : World → World → Prop)
    (hiter : ∀ (l : Nat) (J : List α → World → Prop) (W : World), Below w.heap.size w W →
      (∀ pre x W1, J pre W1 → Ok pre x → YieldAt F (n - 1 - 1) P l (encs x) W1 fun e W' => e = .returned (.bool true) ∧ J (pre ++ [x]) W' ∧ Kp W1 W') →
      J [] W → CallsIn F (n - 1) P gf (#[.func (.yield l) #[] #[]] ++ lb) W fun e W' => (∃ v, e = .returned v) ∧ ∃ xs, S xs ∧ J xs W')
    (hKt : ∀ {A B C : World}, Kp A B → Kp B C → Kp A C) (hKb : ∀ (W : World) (l : Nat) (o o' : Obj), w.heap.size ≤ l → W.heap[l]? = some o → o.isCells = false → o.isWalk = false → Kp W (W.putObj l o'))
    (I : List α → World → Prop) (hI : OwnFrom w.heap.size I) (h0 : I [] w) (a₁ : α → Act)
    (hassign : ∀ (l : Nat) (x : α) (W : World) (K : Act → World → Prop), K (a₁ x) W →
      assign.wpIn (F.inRound l) (n - 1 - 1) P (Exit.then K (fun _ _ _ => False)) { tmps := (ps.zip (encs x)).foldl (fun t (p, v) => t.setIfInBounds p v) a.tmps, defers := [] } W)
    (hbody : ∀ (l : Nat) (pre : List α) (x : α) (W : World), I pre W → Ok pre x → body.wpIn (F.inRound l) (n - 1 - 1) P (ownPostK Kp I (fun _ _ _ => False) (pre ++ [x]) W) (a₁ x) W)
    (hdone : ∀ (D : Nat) (xs : List α) (W : World), w.heap.size ≤ D → S xs → I xs W → W.heap[D]? = some (.deferred (some [])) → Q .normal { a with defers := { target := .collected D, args := #[] } :: a.defers } W) :
    (Code.rangeFunc g ps assign body).wpIn F n P Q a w := by
  refine wpIn_rangeFunc fun fn hfn => ?_
  rw [hro]
  have hlast : ∀ (W : World) (k : Nat) (o : Obj), w.heap.size ≤ k → W.heap[k]? = some o → o.isCells = false → ∀ (xs : List α) (o' : Obj), I xs W → I xs (W.putObj k o') := fun W k o hk ho hc xs o' hi => hI.putObj o' hi hk ho hc
  let rec_ : LoopState → Loop := fun st => { state := st, pending := none, fn := fn, tmps := a.tmps, params := ps, assign := assign, body := body, defers := w.heap.size }
  let W1 : World := (w.alloc (.deferred (some []))).alloc (.loop (rec_ .ready))
  have hnew : ((w.alloc (.deferred (some []))).alloc (.loop (rec_ .ready))).heap[w.heap.size + 1]? = some (.loop (rec_ .ready)) := by
    have e := World.alloc_heap_new (w.alloc (.deferred (some []))) (.loop (rec_ .ready))
    rw [World.size_alloc] at e
    exact e
  have hmark : ((w.alloc (.deferred (some []))).alloc (.loop (rec_ .ready))).heap[w.heap.size]? = some (.deferred (some [])) :=
    (Below.heap_alloc _ _ _ (by simp)).trans (World.alloc_heap_new w _)
  refine ⟨w.heap.size + 1, [{ target := .collected w.heap.size, args := #[] }], W1, { target := .fn (.func gf) lb, args := #[.func (.yield (w.heap.size + 1)) #[] #[]] }, W1, gf,
    #[.func (.yield (w.heap.size + 1)) #[] #[]] ++ lb, W1, run_enterLoop_outer _ _ _ _ _, by simp only [resolve, hg]; simp [go_sem], fun f' hf' => by simp [Target.leads] at hf'; subst hf'; exact hFg, by simp [invoke, go_sem, eg], fun _ => h1, ?_⟩
  refine (hiter (w.heap.size + 1) (fun pre W => I pre W ∧ W.heap[w.heap.size + 1]? = some (.loop (rec_ .ready)) ∧ W.heap[w.heap.size]? = some (.deferred (some []))) _
    (((Below.refl _ w).alloc (Nat.le_refl _) _).alloc (by simp) _) ?_ ⟨hI.alloc _ (hI.alloc _ h0), hnew, hmark⟩).mono ?_
  · rintro pre x W ⟨hi, hl, hk⟩ hok
    have hlt : w.heap.size + 1 < W.heap.size := (Array.getElem?_eq_some_iff.1 hl).1
    have hy := run_yield (P := P) (args := encs x) hl (hps x)
    refine ⟨fn, _, assign, body, hy, roundIn_of_wpIn hfn (hassign _ x W _ ⟨_, run_beginRound hl rfl, ?_⟩)⟩
    have hl2 : (W.putObj (w.heap.size + 1) (.loop { rec_ .ready with state := .busy })).heap[w.heap.size + 1]? = some (.loop { rec_ .ready with state := .busy }) := World.putObj_heap_same hlt
    have hk2 : (W.putObj (w.heap.size + 1) (.loop { rec_ .ready with state := .busy })).heap[w.heap.size]? = some (.deferred (some [])) := (World.putObj_heap_other (by omega)).trans hk
    refine wpIn_mono (hbody _ pre x _ (hlast _ _ _ (by omega) hl rfl _ _ hi) hok) ?_
    intro e a3 W3 hp
    cases e with
    | normal =>
      obtain ⟨hk3, hkp3, hi3⟩ := hp
      have hl3 := hk3.same _ _ hl2 rfl
      have hm3 := hk3.same _ _ hk2 rfl
      have hlt3 : w.heap.size + 1 < W3.heap.size := (Array.getElem?_eq_some_iff.1 hl3).1
      refine ⟨_, _, run_endRound none hl3, rfl, ⟨hlast _ _ _ (by omega) hl3 rfl _ _ hi3, World.putObj_heap_same hlt3, (World.putObj_heap_other (by omega)).trans hm3⟩, ?_⟩
      exact hKt (hKt (hKb _ _ _ _ (by omega) hl rfl rfl) hkp3) (hKb _ _ _ _ (by omega) hl3 rfl rfl)
    | ret => exact hp.2.elim
    | exit id => exact hp.2.elim
    | goto t => exact hp.2.elim
    | panic ch => exact hp.elim
    | outgrown => exact hp.elim
  · rintro e W2 ⟨⟨v, rfl⟩, xs, hS, hi, hl, hk⟩
    exact ⟨none, _, run_endLoop (P := P) hl (by simp [rec_]), hdone _ xs _ (Nat.le_refl _) hS (hlast _ _ _ (by omega) hl rfl _ _ hi) ((World.putObj_heap_other (by omega)).trans hk)⟩

end Go.Proofs.YtimcbmgmngkagaaDoor

namespace Go.Proofs.YtimcbmgmngkagaaDoor
open Go.RowKit

theorem seg_get (pre win post : List Nat) {i : Nat} (h : i < win.length) : (pre ++ win ++ post)[pre.length + i]?.getD 0 = win[i]?.getD 0 := by
  rw [List.append_assoc, List.getElem?_append_right (by omega), Nat.add_sub_cancel_left, List.getElem?_append_left h]
theorem seg_set (pre win post : List Nat) {i : Nat} (h : i < win.length) (x : Nat) : (pre ++ win ++ post).set (pre.length + i) x = pre ++ win.set i x ++ post := by
  rw [List.append_assoc, List.set_append_right _ _ (by omega), Nat.add_sub_cancel_left, List.set_append_left _ _ h, List.append_assoc]
theorem take_set {zs : List Nat} {j : Nat} (h : j < zs.length) (x : Nat) : (zs.set j x).take (j + 1) = zs.take j ++ [x] := by
  rw [List.take_succ_eq_append_getElem (by rw [List.length_set]; exact h), List.getElem_set_self, List.take_set_of_le (Nat.le_refl _)]
theorem dv_take_set {b : Nat} {zs : List Nat} {j : Nat} (h : j < zs.length) (x : Nat) : dv b ((zs.set j x).take (j + 1)) = dv b (zs.take j) + b ^ j * x := by
  rw [take_set h, dv_snoc, List.length_take, Nat.min_eq_left (by omega)]

/-- times y taken from the window, as far as word j. -/
def SubT (ys z0 zs : List Nat) (t j c b : Nat) : Prop :=
  zs.length = z0.length ∧ Dg BW zs ∧ c < BW ∧ b ≤ 1 ∧ dv BW (zs.take j) + t * dv BW (ys.take j) = dv BW (z0.take j) + BW ^ j * (c + b) ∧ (∃ s, t * dv BW (ys.take j) = s + BW ^ j * c) ∧ ∀ i, j ≤ i → zs[i]?.getD 0 = z0[i]?.getD 0

theorem SubT.start {ys z0 : List Nat} {t : Nat} (h : Dg BW z0) : SubT ys z0 z0 t 0 0 0 :=
  ⟨rfl, h, by decide, Nat.zero_le _, by simp [dv], ⟨0, by simp [dv]⟩, fun _ _ => rfl⟩

theorem SubT.step {ys z0 zs : List Nat} {t j c b c1 x b' : Nat} (h : SubT ys z0 zs t j c b) (hj : j < z0.length) (gy : Dg BW ys) (ht : t < BW) (hc1 : c + t * ys[j]?.getD 0 = c1) (hx : x + (c1 % BW + b) = z0[j]?.getD 0 + BW * b') (hx1 : x < BW) (hb : b' ≤ 1) :
    SubT ys z0 (zs.set j x) t (j + 1) (c1 / BW) b' := by
  obtain ⟨h1, h2, h3, h4, h5, ⟨s, h6⟩, h7⟩ := h
  have e1 : dv BW (ys.take (j + 1)) = dv BW (ys.take j) + BW ^ j * ys[j]?.getD 0 := dv_take_succ _ _ _
  have e2 : dv BW (z0.take (j + 1)) = dv BW (z0.take j) + BW ^ j * z0[j]?.getD 0 := dv_take_succ _ _ _
  have e3 : dv BW ((zs.set j x).take (j + 1)) = dv BW (zs.take j) + BW ^ j * x := dv_take_set (by omega) x
  have e4 := Nat.div_add_mod c1 BW
  refine ⟨by rw [List.length_set]; exact h1, h2.set _ hx1, ?_, hb, ?_, ⟨s + BW ^ j * (c1 % BW), ?_⟩, fun i hi => ?_⟩
  · rw [Nat.div_lt_iff_lt_mul (by decide)]
    have g1 := gy.get (b := BW) (by decide) j
    have g2 := mul_fits (b := BW) (by decide) h3 ht g1 (show 0 < BW by decide)
    rw [Nat.add_zero] at g2
    omega
  · rw [e1, e2, e3]
    generalize ys[j]?.getD 0 = y at *
    generalize z0[j]?.getD 0 = z at *
    have k1 : c + b + x + t * y = z + BW * (c1 / BW) + BW * b' := by omega
    have k2 : BW ^ j * (c + b + x + t * y) = BW ^ j * (z + BW * (c1 / BW) + BW * b') := by rw [k1]
    rw [Nat.pow_succ]
    grind
  · rw [e1]
    have k1 : BW ^ j * (c + t * ys[j]?.getD 0) = BW ^ j * (BW * (c1 / BW) + c1 % BW) := by rw [e4, hc1]
    rw [Nat.pow_succ]
    grind
  · rw [set_get_other _ _ _ _ (by omega)]; exact h7 i (by omega)

theorem SubT.done {ys z0 zs : List Nat} {t c b : Nat} (h : SubT ys z0 zs t z0.length c b) (gy : Dg BW ys) (ht : t < BW) (hl : z0.length = ys.length + 1) : zs.length = z0.length ∧ Dg BW zs ∧ b ≤ 1 ∧ dv BW zs + t * dv BW ys = dv BW z0 + BW ^ z0.length * b := by
  obtain ⟨h1, h2, h3, h4, h5, ⟨s, h6⟩, h7⟩ := h
  have hy : ys.take z0.length = ys := List.take_of_length_le (by omega)
  have hz : zs.take z0.length = zs := List.take_of_length_le (by omega)
  rw [hy, hz, List.take_length] at h5
  rw [hy] at h6
  have g1 := dv_lt gy
  have hc : c = 0 := by
    rcases Nat.eq_zero_or_pos c with h | h
    · exact h
    · have g2 : BW ^ z0.length ≤ BW ^ z0.length * c := Nat.le_mul_of_pos_right _ h
      have g3 : t * dv BW ys < BW * BW ^ ys.length := Nat.mul_lt_mul_of_lt_of_le ht (Nat.le_of_lt g1) (Nat.pow_pos (by decide))
      have g4 : BW ^ z0.length = BW * BW ^ ys.length := by rw [hl, Nat.pow_succ, Nat.mul_comm]
      omega
  subst hc
  rw [Nat.zero_add] at h5
  exact ⟨h1, h2, h4, h5⟩

/-- y added to the window, as far as word j. -/
def AddT (ys z0 zs : List Nat) (j c : Nat) : Prop :=
  zs.length = z0.length ∧ Dg BW zs ∧ c ≤ 1 ∧ dv BW (zs.take j) + BW ^ j * c = dv BW (z0.take j) + dv BW (ys.take j) ∧ ∀ i, j ≤ i → zs[i]?.getD 0 = z0[i]?.getD 0

theorem AddT.start {ys z0 : List Nat} (h : Dg BW z0) : AddT ys z0 z0 0 0 := ⟨rfl, h, Nat.zero_le _, by simp [dv], fun _ _ => rfl⟩
theorem AddT.step {ys z0 zs : List Nat} {j c s : Nat} (h : AddT ys z0 zs j c) (hj : j < z0.length) (gz : Dg BW z0) (gy : Dg BW ys) (hs : c + z0[j]?.getD 0 + ys[j]?.getD 0 = s) : AddT ys z0 (zs.set j (s % BW)) (j + 1) (s / BW) := by
  obtain ⟨h1, h2, h3, h4, h5⟩ := h
  have g1 := gy.get (b := BW) (by decide) j
  have g2 := gz.get (b := BW) (by decide) j
  have e1 : dv BW (ys.take (j + 1)) = dv BW (ys.take j) + BW ^ j * ys[j]?.getD 0 := dv_take_succ _ _ _
  have e2 : dv BW (z0.take (j + 1)) = dv BW (z0.take j) + BW ^ j * z0[j]?.getD 0 := dv_take_succ _ _ _
  have e3 : dv BW ((zs.set j (s % BW)).take (j + 1)) = dv BW (zs.take j) + BW ^ j * (s % BW) := dv_take_set (by omega) _
  have e4 := Nat.div_add_mod s BW
  refine ⟨by rw [List.length_set]; exact h1, h2.set _ (Nat.mod_lt _ (by decide)), ?_, ?_, fun i hi => ?_⟩
  · have g3 : s < 2 * BW := by omega
    have g4 : s / BW < 2 := by rw [Nat.div_lt_iff_lt_mul (by decide)]; exact g3
    omega
  · rw [e1, e2, e3]
    have k1 : BW ^ j * (c + z0[j]?.getD 0 + ys[j]?.getD 0) = BW ^ j * (BW * (s / BW) + s % BW) := by rw [e4, hs]
    rw [Nat.pow_succ]
    grind
  · rw [set_get_other _ _ _ _ (by omega)]; exact h5 i (by omega)
theorem AddT.done {ys z0 zs : List Nat} {c : Nat} (h : AddT ys z0 zs z0.length c) (hl : ys.length ≤ z0.length) : zs.length = z0.length ∧ Dg BW zs ∧ c ≤ 1 ∧ dv BW zs + BW ^ z0.length * c = dv BW z0 + dv BW ys := by
  obtain ⟨h1, h2, h3, h4, h5⟩ := h
  rw [List.take_of_length_le (by omega), List.take_length, List.take_of_length_le hl] at h4
  exact ⟨h1, h2, h3, h4⟩

/-- Words in another block are kept. -/
theorem Rd.grownB {k : IntKind} {w w' : World} {p : Option Addr} {n : Nat} {xs : List Nat} {B : Nat} (h : Rd k w p n xs) (hne : ∀ b o, p = some ⟨b, o, none⟩ → b ≠ B) (hg : w.grownBy w' (some B)) : Rd k w' p n xs := by
  refine ⟨h.1, fun j hj => ?_⟩
  obtain ⟨b, off, hp, hlt, hc⟩ := h.2 j hj
  exact ⟨b, off, hp, Nat.lt_of_lt_of_le hlt hg.size, hg.cell hc (fun e => hne b off hp (Option.some.inj e))⟩
theorem grown_put {w w' : World} {B : Nat} (h : w.grownBy w' (some B)) (j : Nat) (u : Value) : w.grownBy (w'.setCell ⟨B, j, none⟩ u) (some B) := by
  refine ⟨by simpa [World.setCell] using h.os, by simpa [World.setCell] using h.tape, by simpa [World.setCell] using h.output, by simpa using h.size, fun k hk hne => ?_⟩
  rw [Below.heap_setCell _ _ _ _ (fun e => hne (by rw [e]))]
  exact h.block k hk hne

end Go.Proofs.YtimcbmgmngkagaaDoor

namespace Go.Proofs.YtimcbmgmngkagaaDoor

/-- What is known of the window U and of the divisor V: their highest words. -/
structure GuessK (B K U V un u1 u2 v1 v2 : Nat) : Prop where
  ul : (( un * B + u1) * B + u2) * K ≤ U
  uu : U < ((un * B + u1) * B + u2 + 1) * K
  vl : (v1 * B + v2) * K ≤ V
  vu : V < (v1 * B + v2 + 1) * K
  fit : U < V * B
  lu1 : u1 < B
  lu2 : u2 < B
  lv1 : v1 < B
  lv2 : v2 < B
  pos : 1 ≤ v1
  half : B ≤ 2 * v1

/-- The guess is not too small. -/
def GuessI (U V T v1 g l : Nat) : Prop := g * v1 + l = T ∧ U < (g + 1) * V

theorem top_le {B K U V un u1 u2 v1 v2 : Nat} (h : GuessK B K U V un u1 u2 v1 v2) : un ≤ v1 := by
  rcases Nat.lt_or_ge v1 un with hlt | hge
  · exfalso
    have e1 : v1 + 1 ≤ un := hlt
    have e2 : (v1 + 1) * B ≤ un * B + u1 := Nat.le_trans (Nat.mul_le_mul_right B e1) (Nat.le_add_right _ _)
    have e3 : (v1 + 1) * B * B ≤ (un * B + u1) * B + u2 := Nat.le_trans (Nat.mul_le_mul_right B e2) (Nat.le_add_right _ _)
    have e4 : (v1 + 1) * B * B * K ≤ U := Nat.le_trans (Nat.mul_le_mul_right K e3) h.ul
    have f1 : v1 * B + v2 + 1 ≤ (v1 + 1) * B := by have := h.lv2; rw [Nat.add_mul, Nat.one_mul]; omega
    have f2 : V < (v1 + 1) * B * K := Nat.lt_of_lt_of_le h.vu (Nat.mul_le_mul_right K f1)
    have f3 : V * B ≤ (v1 + 1) * B * K * B := Nat.mul_le_mul_right B (Nat.le_of_lt f2)
    have f4 : (v1 + 1) * B * K * B = (v1 + 1) * B * B * K := by rw [Nat.mul_assoc ((v1 + 1) * B) K B, Nat.mul_comm K B, ← Nat.mul_assoc]
    have := h.fit
    omega
  · exact hge

theorem guess_start {B K U V un u1 u2 v1 v2 : Nat} (h : GuessK B K U V un u1 u2 v1 v2) : GuessI U V (un * B + u1) v1 ((un * B + u1) / v1) ((un * B + u1) % v1) ∧ (un * B + u1) / v1 ≤ B + 1 ∧ (un * B + u1) % v1 < B := by
  have hp := h.pos
  generalize hT : un * B + u1 = T
  have e0 := Nat.div_add_mod T v1
  have e1 := Nat.mod_lt T (show 0 < v1 by omega)
  have hT2 : T ≤ v1 * B + (B - 1) := by
    have := Nat.mul_le_mul_right B (top_le h)
    have := h.lu1
    omega
  refine ⟨⟨by rw [Nat.mul_comm]; exact e0, ?_⟩, ?_, by have := h.lv1; omega⟩
  · have k1 : T + 1 ≤ (T / v1 + 1) * v1 := by rw [Nat.add_mul, Nat.one_mul, Nat.mul_comm (T / v1) v1]; omega
    have k2 : T * B + u2 + 1 ≤ (T + 1) * B := by have := h.lu2; rw [Nat.add_mul, Nat.one_mul]; omega
    have k3 : (T + 1) * B ≤ (T / v1 + 1) * v1 * B := Nat.mul_le_mul_right B k1
    have k4 : (T / v1 + 1) * v1 * B ≤ (T / v1 + 1) * (v1 * B + v2) := by rw [Nat.mul_assoc]; exact Nat.mul_le_mul_left _ (Nat.le_add_right _ _)
    have k5 : (T * B + u2 + 1) * K ≤ (T / v1 + 1) * (v1 * B + v2) * K := Nat.mul_le_mul_right K (Nat.le_trans k2 (Nat.le_trans k3 k4))
    have k6 : (T / v1 + 1) * (v1 * B + v2) * K ≤ (T / v1 + 1) * V := by rw [Nat.mul_assoc]; exact Nat.mul_le_mul_left _ h.vl
    have := h.uu
    rw [hT] at this
    omega
  · have k1 : T < (B + 2) * v1 := by
      rw [Nat.add_mul, Nat.mul_comm B v1]
      have := h.half
      have := h.lu1
      omega
    have k2 : T / v1 < B + 2 := (Nat.div_lt_iff_lt_mul (by omega)).2 k1
    omega

theorem guess_big {B K U V un u1 u2 v1 v2 g l : Nat} (h : GuessK B K U V un u1 u2 v1 v2) (hi : GuessI U V (un * B + u1) v1 g l) (hg : B ≤ g) : GuessI U V (un * B + u1) v1 (g - 1) (l + v1) := by
  have hB := h.lu1
  obtain ⟨m, rfl⟩ : ∃ m, g = m + 1 := ⟨g - 1, by omega⟩
  rw [Nat.add_sub_cancel]
  refine ⟨by rw [← hi.1, Nat.add_mul, Nat.one_mul]; omega, ?_⟩
  have k1 : B * V ≤ (m + 1) * V := Nat.mul_le_mul_right V hg
  have := h.fit
  rw [Nat.mul_comm V B] at this
  omega

theorem guess_step {B K U V un u1 u2 v1 v2 g l : Nat} (h : GuessK B K U V un u1 u2 v1 v2) (hi : GuessI U V (un * B + u1) v1 g l) (hg : l * B + u2 < g * v2) : 1 ≤ g ∧ GuessI U V (un * B + u1) v1 (g - 1) (l + v1) := by
  have hg0 : 1 ≤ g := by
    rcases Nat.eq_zero_or_pos g with h0 | h0
    · subst h0; rw [Nat.zero_mul] at hg; omega
    · exact h0
  obtain ⟨m, rfl⟩ : ∃ m, g = m + 1 := ⟨g - 1, by omega⟩
  refine ⟨hg0, ?_⟩
  rw [Nat.add_sub_cancel]
  refine ⟨by rw [← hi.1, Nat.add_mul, Nat.one_mul]; omega, ?_⟩
  have e1 := hi.1
  have huu := h.uu
  have hvl := h.vl
  clear hi h
  generalize un * B + u1 = T at *
  have k1 : T * B + u2 + 1 ≤ (m + 1) * (v1 * B + v2) := by
    have : (m + 1) * (v1 * B + v2) = ((m + 1) * v1) * B + (m + 1) * v2 := by rw [Nat.mul_add, Nat.mul_assoc]
    rw [this, ← e1, Nat.add_mul]
    omega
  have k2 : (T * B + u2 + 1) * K ≤ (m + 1) * (v1 * B + v2) * K := Nat.mul_le_mul_right K k1
  have k3 : (m + 1) * (v1 * B + v2) * K ≤ (m + 1) * V := by rw [Nat.mul_assoc]; exact Nat.mul_le_mul_left _ hvl
  omega

/-- The guess is at most one too great. -/
theorem guess_done {B K U V un u1 u2 v1 v2 g l : Nat} (h : GuessK B K U V un u1 u2 v1 v2) (hi : GuessI U V (un * B + u1) v1 g l) (hx : B ≤ l ∨ (g < B ∧ g * v2 ≤ l * B + u2)) : g < B ∧ g * V < U + V ∧ U < (g + 1) * V := by
  have e1 := hi.1
  have htop := top_le h
  have hT2 : un * B + u1 ≤ v1 * B + (B - 1) := by
    have := Nat.mul_le_mul_right B htop
    have := h.lu1
    omega
  have hgB : g < B := by
    rcases hx with hx | hx
    · have k1 : g * v1 < B * v1 := by rw [Nat.mul_comm B v1]; have := h.lu1; omega
      exact Nat.lt_of_mul_lt_mul_right k1
    · exact hx.1
  have hkey : g * (v1 * B + v2) ≤ (un * B + u1) * B + u2 := by
    have k0 : g * (v1 * B + v2) = (g * v1) * B + g * v2 := by rw [Nat.mul_add, Nat.mul_assoc]
    rw [k0, ← e1, Nat.add_mul]
    rcases hx with hx | hx
    · have k1 : g * v2 ≤ B * B := Nat.mul_le_mul (Nat.le_of_lt hgB) (Nat.le_of_lt h.lv2)
      have k2 : B * B ≤ l * B := Nat.mul_le_mul_right B hx
      omega
    · have := hx.2
      omega
  refine ⟨hgB, ?_, hi.2⟩
  obtain ⟨r, hr⟩ : ∃ r, V = (v1 * B + v2) * K + r := ⟨V - (v1 * B + v2) * K, by have := h.vl; omega⟩
  have hrK : r < K := by have := h.vu; rw [Nat.add_mul, Nat.one_mul] at this; omega
  have k1 : g * V = g * (v1 * B + v2) * K + g * r := by rw [hr, Nat.mul_add, Nat.mul_assoc]
  have k2 : g * (v1 * B + v2) * K ≤ ((un * B + u1) * B + u2) * K := Nat.mul_le_mul_right K hkey
  have k3 : g * r ≤ g * K := Nat.mul_le_mul_left g (Nat.le_of_lt hrK)
  have k4 : g * K < B * K := Nat.mul_lt_mul_of_pos_right hgB (by omega)
  have k5 : B * K ≤ (v1 * B + v2) * K := Nat.mul_le_mul_right K (by have := Nat.mul_le_mul_right B h.pos; omega)
  have := h.ul
  have := h.vl
  omega

/-- The highest three words of a window, the highest two of a divisor. -/
theorem guessK_of {us vs : List Nat} {n : Nat} (gu : Dg BW us) (gv : Dg BW vs) (hn : 2 ≤ n) (hu : us.length = n + 1) (hv : vs.length = n) (hfit : dv BW us < dv BW vs * BW) (hhalf : BW ≤ 2 * vs[n - 1]?.getD 0) :
    GuessK BW (BW ^ (n - 2)) (dv BW us) (dv BW vs) (us[n]?.getD 0) (us[n - 1]?.getD 0) (us[n - 2]?.getD 0) (vs[n - 1]?.getD 0) (vs[n - 2]?.getD 0) := by
  obtain ⟨m, rfl⟩ : ∃ m, n = m + 2 := ⟨n - 2, by omega⟩
  rw [Nat.add_sub_cancel, show m + 2 - 1 = m + 1 by omega]
  rw [show m + 2 - 1 = m + 1 by omega] at hhalf
  have eu : dv BW us = dv BW (us.take m) + BW ^ m * us[m]?.getD 0 + BW ^ (m + 1) * us[m + 1]?.getD 0 + BW ^ (m + 2) * us[m + 2]?.getD 0 := by
    have h3 := dv_take_succ BW us (m + 2)
    have h2 : dv BW (us.take (m + 2)) = dv BW (us.take (m + 1)) + BW ^ (m + 1) * us[m + 1]?.getD 0 := dv_take_succ BW us (m + 1)
    have h1 := dv_take_succ BW us m
    rw [List.take_of_length_le (by omega)] at h3
    omega
  have ev : dv BW vs = dv BW (vs.take m) + BW ^ m * vs[m]?.getD 0 + BW ^ (m + 1) * vs[m + 1]?.getD 0 := by
    have h2 := dv_take_succ BW vs (m + 1)
    have h1 := dv_take_succ BW vs m
    rw [List.take_of_length_le (by omega)] at h2
    omega
  have lu := dv_lt (gu.take m)
  have lv := dv_lt (gv.take m)
  rw [List.length_take, Nat.min_eq_left (by omega)] at lu lv
  have b0 := gu.get (b := BW) (by decide) m
  have b1 := gu.get (b := BW) (by decide) (m + 1)
  have c0 := gv.get (b := BW) (by decide) m
  have c1 := gv.get (b := BW) (by decide) (m + 1)
  have p1 : BW ^ (m + 1) = BW ^ m * BW := Nat.pow_succ ..
  have p2 : BW ^ (m + 2) = BW ^ m * BW * BW := by rw [Nat.pow_succ, Nat.pow_succ]
  rw [p1, p2] at eu
  rw [p1] at ev
  have hB : 1 ≤ BW := by decide
  generalize us[m]?.getD 0 = u0 at *
  generalize us[m + 1]?.getD 0 = u1 at *
  generalize us[m + 2]?.getD 0 = u2 at *
  generalize vs[m]?.getD 0 = v0 at *
  generalize vs[m + 1]?.getD 0 = v1 at *
  generalize hKK : BW ^ m = K at *
  have eU : ((u2 * BW + u1) * BW + u0) * K = K * u0 + K * BW * u1 + K * BW * BW * u2 := by grind
  have eV : (v1 * BW + v0) * K = K * v0 + K * BW * v1 := by grind
  refine { ul := ?_, uu := ?_, vl := ?_, vu := ?_, fit := hfit, lu1 := b1, lu2 := b0, lv1 := c1, lv2 := c0, pos := ?_, half := hhalf }
  · rw [eU]; omega
  · rw [Nat.add_mul, Nat.one_mul, eU]; omega
  · rw [eV]; omega
  · rw [Nat.add_mul, Nat.one_mul, eV]; omega
  · omega

end Go.Proofs.YtimcbmgmngkagaaDoor

namespace Go.Proofs.YtimcbmgmngkagaaDoor
open Go.RowKit

set_option maxRecDepth 100000 in
set_option maxHeartbeats 4000000 in
theorem guessWord_any (p q : Option Addr) (n m c d : Nat) (us vs : List Nat) (w : World) (hn : 2 ≤ n) (hn1 : n ≤ 1000000000) (hm : m = n + 1) (hu : Rd .u64 w p m us) (hv : Rd .u64 w q n vs) (gu : Dg BW us) (gv : Dg BW vs) (hfit : dv BW us < dv BW vs * BW) (hhalf : BW ≤ 2 * vs[n - 1]?.getD 0) :
    Calls Tryd.prog 70 #[.slice p m c, .slice q n d] w fun e w' => ∃ g : Nat, e = .returned (.int .u64 (g : Int)) ∧ g < BW ∧ g * dv BW vs < dv BW us + dv BW vs ∧ dv BW us < (g + 1) * dv BW vs ∧ Below w.heap.size w w' := by
  have hK := guessK_of gu gv hn (by rw [hu.1]; exact hm) hv.1 hfit hhalf
  obtain ⟨b0, o0, rfl, hl0, hc2⟩ := hu.2 n (by omega)
  obtain ⟨_, _, e1, _, hc1⟩ := hu.2 (n - 1) (by omega)
  cases e1
  obtain ⟨_, _, e1, _, hc0⟩ := hu.2 (n - 2) (by omega)
  cases e1
  obtain ⟨b1, o1, rfl, hl1, hd1⟩ := hv.2 (n - 1) (by omega)
  obtain ⟨_, _, e1, _, hd0⟩ := hv.2 (n - 2) (by omega)
  cases e1
  generalize us[n]?.getD 0 = u2 at *
  generalize us[n - 1]?.getD 0 = u1 at *
  generalize us[n - 2]?.getD 0 = u0 at *
  generalize vs[n - 1]?.getD 0 = v1 at *
  generalize vs[n - 2]?.getD 0 = v0 at *
  have k1 : u1 < 1000000000 := hK.lu1
  have k0 : u0 < 1000000000 := hK.lu2
  have j1 : v1 < 1000000000 := hK.lv1
  have j0 : v0 < 1000000000 := hK.lv2
  have jp := hK.pos
  have ktop := top_le hK
  obtain ⟨s1, s2, s3⟩ := guess_start hK
  have HK := Lib.hid hK
  have HS1 := Lib.hid s1
  obtain ⟨T, hT⟩ : ∃ T, u2 * BW + u1 = T := ⟨_, rfl⟩
  have hTc : (u2 : Int) * 1000000000 + (u1 : Int) = (T : Int) := by rw [← hT]; simp
  have hT9 : T < 1000000000000000000 := by rw [← hT]; show u2 * 1000000000 + u1 < _; omega
  rw [hT] at s1 s2 s3
  obtain ⟨G, hG⟩ : ∃ G, T / v1 = G := ⟨_, rfl⟩
  obtain ⟨L, hL⟩ : ∃ L, T % v1 = L := ⟨_, rfl⟩
  rw [hG, hL] at s1
  rw [hG] at s2
  rw [hL] at s3
  have hGc : (T : Int) / (v1 : Int) = (G : Int) := by rw [← hG]; simp
  have hLc : (T : Int) % (v1 : Int) = (L : Int) := by rw [← hL]; simp
  have HTE := Lib.hid hT
  have HSS := Lib.hid s1
  have s2' : G ≤ 1000000001 := s2
  have s3' : L < 1000000000 := s3
  have hvp : (0 : Int) < (v1 : Int) := by omega
  have hv0 : ¬ (v1 : Int) = 0 := by omega
  obtain ⟨N2, hN2⟩ : ∃ N2, n - 2 = N2 := ⟨_, rfl⟩
  obtain ⟨N1, hN1⟩ : ∃ N1, n - 1 = N1 := ⟨_, rfl⟩
  rw [hN2] at hc0 hd0
  rw [hN1] at hc1 hd1
  have hi2 : (n : Int) - 2 = (N2 : Int) := by omega
  have hi1 : (n : Int) - 1 = (N1 : Int) := by omega
  have hm1 : (n : Int) < (m : Int) := by omega
  have hm2 : (N1 : Int) < (m : Int) := by omega
  have hm3 : (N2 : Int) < (m : Int) := by omega
  have hn2 : (N1 : Int) < (n : Int) := by omega
  have hn3 : (N2 : Int) < (n : Int) := by omega
  clear hK s1 s2 s3 hT hG hL hu hv hN1 hN2 hm
  go_enter Tryd.func70, Tryd.ntmps70
  go_wp2_with fail
  go_step3
  go_upto_region 2 with fail
  go_quiet (fail)
  go_upto_region 3 with fail
  go_quiet (fail)
  go_wp2_with fail
  go_step3
  go_wp2_with fail
  go_loopg [7, 8] G (fun gk v7 v8 wr => ∃ g l : Nat, gk = g ∧ v7 = .int .u64 (g : Int) ∧ v8 = .int .u64 (l : Int) ∧ Hid (GuessI (dv BW us) (dv BW vs) T v1 g l) ∧ g ≤ 1000000001 ∧ l < 2000000000 ∧ Below w.heap.size w wr)
  case atStart => exact ⟨G, L, rfl, rfl, congrArg (Value.int .u64) hLc, HSS, s2', by omega, by first | exact (below_drewN (below_drewN (Below.refl _ _) _) _) | exact Below.refl _ _⟩
  case round =>
    obtain ⟨g, l, hgk, rfl, rfl, HI, hg9, hl9, hb⟩ := hrel
    have HGK := Lib.hid hgk
    clear hgk hTc hT9 hGc hLc s2' s3' HSS HS1
    have hc2 := (hb.cell (p := ⟨b0, o0 + n, none⟩) hl0).trans hc2
    have hc1 := (hb.cell (p := ⟨b0, o0 + N1, none⟩) hl0).trans hc1
    have hc0 := (hb.cell (p := ⟨b0, o0 + N2, none⟩) hl0).trans hc0
    have hd1 := (hb.cell (p := ⟨b1, o1 + N1, none⟩) hl1).trans hd1
    have hd0 := (hb.cell (p := ⟨b1, o1 + N2, none⟩) hl1).trans hd0
    by_cases hlB : 1000000000 ≤ l
    · have hlBi : (1000000000 : Int) ≤ (l : Int) := by omega
      have HX : Hid (BW ≤ l ∨ (g < BW ∧ g * v0 ≤ l * BW + u0)) := Or.inl hlB
      go_wp2_with fail
      try simp only [Exit.inBlock, Exit.then, Exit.noGoto_ret]
      go_ret
      obtain ⟨r1, r2, r3⟩ := guess_done HK.out (by rw [HTE.out]; exact HI.out) HX.out
      exact ⟨g, rfl, r1, r2, r3, by first | exact hb | exact below_drewN hb _⟩
    · have hlBi : ¬ (1000000000 : Int) ≤ (l : Int) := by omega
      by_cases hgB : g < 1000000000
      · have hgBi : (g : Int) < 1000000000 := by omega
        obtain ⟨P, hP⟩ : ∃ P, g * v0 = P := ⟨_, rfl⟩
        have hPc : (g : Int) * (v0 : Int) = (P : Int) := by rw [← hP]; simp
        obtain ⟨pp1, pp2⟩ := prod_bound hgB j0
        rw [hPc] at pp1 pp2
        by_cases hle : P ≤ l * 1000000000 + u0
        · have hlei : (P : Int) ≤ (l : Int) * 1000000000 + (u0 : Int) := by omega
          have HX : Hid (BW ≤ l ∨ (g < BW ∧ g * v0 ≤ l * BW + u0)) := Or.inr ⟨hgB, by rw [hP]; exact hle⟩
          clear hP
          go_upto_region 5 with fail
          go_quiet (fail)
          go_wp2_with fail
          try simp only [Exit.inBlock, Exit.then, Exit.noGoto_ret]
          go_ret
          obtain ⟨r1, r2, r3⟩ := guess_done HK.out (by rw [HTE.out]; exact HI.out) HX.out
          exact ⟨g, rfl, r1, r2, r3, by first | exact hb | exact below_drewN hb _⟩
        · have hlei : ¬ (P : Int) ≤ (l : Int) * 1000000000 + (u0 : Int) := by omega
          have hgs := guess_step HK.out (by rw [HTE.out]; exact HI.out) (show l * BW + u0 < g * v0 by rw [hP]; show l * 1000000000 + u0 < P; omega)
          rw [HTE.out] at hgs
          obtain ⟨hg1, hn1⟩ := hgs
          have HN := Lib.hid hn1
          clear hP hn1
          go_upto_region 5 with fail
          go_quiet (fail)
          go_wp2_with fail
          go_roundg (g - 1)
          case measure => rw [HGK.out]; omega
          case rel => exact ⟨g - 1, l + v1, rfl, congrArg (Value.int .u64) (show ((g : Int) - 1) = ((g - 1 : Nat) : Int) by omega), congrArg (Value.int .u64) (show ((l : Int) + (v1 : Int)) = ((l + v1 : Nat) : Int) by omega), HN.out, by omega, by omega, by first | exact hb | exact below_drewN hb _⟩
      · have hgBi : ¬ (g : Int) < 1000000000 := by omega
        have hgBd : decide ((g : Int) < 1000000000) = false := by simp; omega
        have hgs := guess_big HK.out (by rw [HTE.out]; exact HI.out) (show BW ≤ g by show 1000000000 ≤ g; omega)
        rw [HTE.out] at hgs
        have HN := Lib.hid hgs
        clear hgs
        go_upto_region 5 with fail
        go_quiet (fail)
        go_wp2_with fail
        go_roundg (g - 1)
        case measure => rw [HGK.out]; omega
        case rel => exact ⟨g - 1, l + v1, rfl, congrArg (Value.int .u64) (show ((g : Int) - 1) = ((g - 1 : Nat) : Int) by omega), congrArg (Value.int .u64) (show ((l : Int) + (v1 : Int)) = ((l + v1 : Nat) : Int) by omega), HN.out, by omega, by omega, by first | exact hb | exact below_drewN hb _⟩

end Go.Proofs.YtimcbmgmngkagaaDoor
