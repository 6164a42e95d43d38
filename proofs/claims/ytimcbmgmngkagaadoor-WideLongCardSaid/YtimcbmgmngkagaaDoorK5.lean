/-
  A number is written as a string; The sum of a list; the order of two numbers; 1; A region that draws its order, by one relation that every order keeps: a goal for each operation, not for each order; The order of two numbers.
-/
import Derived.Lib.AppendStr
import Derived.Deep.RegionHeld3
import Derived.Test.YtimcbmgmngkagaaDoorK1
import Derived.Test.YtimcbmgmngkagaaDoorK2
import Derived.Test.YtimcbmgmngkagaaDoorK3
import Derived.Test.YtimcbmgmngkagaaDoorK4
namespace Go.Proofs.YtimcbmgmngkagaaDoor
open Go.RowKit Go.Shelf Go.Lib
attribute [local go_sem] Oper.semAt_some

/-- The text when some words are written. -/
def wtxt {n : Nat} (xs : List Nat) (sign : List UInt8) (pre : List (Pos n)) : List UInt8 :=
  pre.foldl (fun acc i => (acc ++ (if i.1 < n - 1 then List.replicate (9 - nDigits (xs[i.1]?.getD 0)) 48 else [])) ++ decDigits (xs[i.1]?.getD 0)) sign

theorem wtxt_snoc {n : Nat} (xs : List Nat) (sign : List UInt8) (pre : List (Pos n)) (i : Pos n) :
    wtxt xs sign (pre ++ [i]) = (wtxt xs sign pre ++ (if i.1 < n - 1 then List.replicate (9 - nDigits (xs[i.1]?.getD 0)) 48 else [])) ++ decDigits (xs[i.1]?.getD 0) := by
  unfold wtxt; rw [List.foldl_append]; rfl

theorem wtxt_says {n : Nat} {xs : List Nat} (sign : List UInt8) (hx : xs.length = n) (gx : Cn BW xs) : ∀ k, 1 ≤ k → k ≤ n →
    0 < dv BW (xs.drop (n - k)) ∧ wtxt xs sign (upto (dnAt n) k) = sign ++ decDigits (dv BW (xs.drop (n - k))) := by
  intro k
  induction k with
  | zero => intro h; omega
  | succ k ih =>
    intro _ hk
    have e : (dnAt n k).1 = n - (k + 1) := by simp only [dnAt]; omega
    have e2 : n - (k + 1) + 1 = n - k := by omega
    have hg : xs[n - (k + 1)]?.getD 0 = xs[n - (k + 1)] := by simp [show n - (k + 1) < xs.length by omega]
    have hd : xs.drop (n - (k + 1)) = xs[n - (k + 1)] :: xs.drop (n - k) := by rw [List.drop_eq_getElem_cons (by omega), e2]
    rw [upto_succ, wtxt_snoc, e, hg, hd, dv_cons]
    by_cases h0 : k = 0
    · subst h0
      have hdn : xs.drop (n - 0) = [] := List.drop_of_length_le (by omega)
      have htop : xs[n - (0 + 1)] ≠ 0 := by
        have := gx.2
        unfold Tp at this
        rw [List.getLast?_eq_getElem?, hx, List.getElem?_eq_getElem (by omega)] at this
        simpa using this
      rw [hdn, if_neg (by omega)]
      simp only [upto, List.range_zero, List.map_nil, wtxt, List.foldl_nil, dv, Nat.mul_zero, Nat.add_zero, List.append_nil, Nat.zero_add] at *
      exact ⟨by omega, trivial⟩
    · obtain ⟨i1, i2⟩ := ih (by omega) (by omega)
      refine ⟨by have := Nat.mul_pos (show 0 < BW by decide) i1; omega, ?_⟩
      rw [i2, if_pos (by omega), decDigits_word i1 (gx.1 _ (List.getElem_mem _))]
      simp [List.append_assoc]

theorem wtxt_length {n : Nat} {xs : List Nat} (sign : List UInt8) (gx : Dg BW xs) (pre : List (Pos n)) : (wtxt xs sign pre).length ≤ sign.length + 9 * pre.length := by
  unfold wtxt
  induction pre generalizing sign with
  | nil => simp
  | cons i pre ih =>
    have h1 : nDigits (xs[i.1]?.getD 0) ≤ 9 := nDigits_le (by decide) (gx.get (by decide) i.1)
    rw [List.foldl_cons]
    refine Nat.le_trans (ih _) ?_
    simp only [List.length_append, decDigits_length, List.length_cons]
    split <;> simp <;> omega

/-- A variable of two cells. -/
def Boxed2 (W : World) (B : Nat) (a b : Value) (t : TypeId) : Prop := W.heap[B]? = some (.cells #[a, b] t (0, 0))
theorem Boxed2.cell0 {W : World} {B : Nat} {a b : Value} {t : TypeId} (h : Boxed2 W B a b t) : W.cell? ⟨B, 0, none⟩ = some a := by unfold Boxed2 at h; simp [World.cell?, h]
theorem Boxed2.cell1 {W : World} {B : Nat} {a b : Value} {t : TypeId} (h : Boxed2 W B a b t) : W.cell? ⟨B, 1, none⟩ = some b := by unfold Boxed2 at h; simp [World.cell?, h]
theorem Boxed2.lt {W : World} {B : Nat} {a b : Value} {t : TypeId} (h : Boxed2 W B a b t) : B < W.heap.size := by unfold Boxed2 at h; exact (Array.getElem?_eq_some_iff.1 h).1
theorem Boxed2.below {W W' : World} {B C : Nat} {a b : Value} {t : TypeId} (h : Boxed2 W B a b t) (hb : Below C W W') (hC : B < C) : Boxed2 W' B a b t := by unfold Boxed2 at h ⊢; rw [hb.block B hC]; exact h
theorem Boxed2.kept {A A' : World} {B : Nat} {a b : Value} {t : TypeId} (h : Boxed2 A B a b t) {row : Option Nat} (hg : A.grownBy A' row) (hr : ∀ r, row = some r → ∃ o : Obj, A.heap[r]? = some o ∧ o.isCells = false) : Boxed2 A' B a b t := by
  unfold Boxed2 at h ⊢
  rw [hg.block B (Array.getElem?_eq_some_iff.1 h).1 (fun e' => by obtain ⟨o, ho, hc⟩ := hr B e'.symm; rw [h] at ho; cases ho; cases hc)]
  exact h

theorem grown_of_below {W W' : World} (h : Below W.heap.size W W') : W.grownBy W' none := ⟨h.os, h.tape, h.output, h.size, fun k hk _ => h.block k hk⟩

theorem ownsRow_form {W : World} {base : Nat} {e : TypeId} {size : Nat} {v : Value} {k : Nat} {xs : List Value} (h : W.ownsRow base e size v k xs) : ∃ a c, v = .slice a k c := by
  rcases h.2 with ⟨rfl, rfl⟩ | ⟨g, cap, _, rfl, _⟩
  · exact ⟨none, 0, rfl⟩
  · exact ⟨some ⟨g, 0, none⟩, cap, rfl⟩

theorem own_below {W W' : World} {base : Nat} {e : TypeId} {size : Nat} {v : Value} {k : Nat} {xs : List Value} (h : W.ownsRow base e size v k xs) (hb : Below W.heap.size W W') : W'.ownsRow base e size v k xs :=
  h.kept (grown_of_below hb) (by by_cases e : v.ownBlock = none; exact .inl e; exact .inr e)

/-- text = append(text, s...): what the walk owes. -/
theorem appendedS {W w1 : World} {n₀ B : Nat} {t e : TypeId} {v v' : Value} {k m : Nat} {xs ys : List Value}
    (hv : Boxed W B t v) (hte : t ≠ e) (hrow : W.ownsRow n₀ e 1 v k xs) (hn₀ : n₀ ≤ W.heap.size) (hB : n₀ ≤ B)
    (hown' : w1.ownsRow n₀ e 1 v' m ys) (hgrow : W.grownBy w1 v.ownBlock) :
    Boxed w1 B t v ∧ Boxed (w1.setCell ⟨B, 0, none⟩ v') B t v' ∧ (w1.setCell ⟨B, 0, none⟩ v').ownsRow n₀ e 1 v' m ys ∧ KeepsOthers W (w1.setCell ⟨B, 0, none⟩ v') ∧ Below n₀ W (w1.setCell ⟨B, 0, none⟩ v') := by
  have hv1 : Boxed w1 B t v := hv.kept hgrow (hv.not_row hte hrow)
  refine ⟨hv1, hv1.set v', hown'.kept (grownBy_setCell' w1 B v') (.inr (hv1.not_row hte hown').symm), ?_, ?_⟩
  · refine (KeepsOthers.of_grownBy hgrow fun j o ej hj => ?_).trans (KeepsOthers.setCell _ _ _)
    rcases hrow.2 with ⟨rfl, _⟩ | ⟨g, cap, cur, rfl, _, hgb, _⟩
    · simp [Value.ownBlock] at ej
    · obtain rfl : g = j := by simpa [Value.ownBlock] using ej
      rw [hgb] at hj; cases hj; rfl
  · refine ((Below.refl n₀ W).grown hgrow hn₀ fun j ej => ?_).setCell (p := ⟨B, 0, none⟩) hB v'
    rcases hrow.2 with ⟨rfl, _⟩ | ⟨g, cap, cur, rfl, hb, _, _⟩
    · simp [Value.ownBlock] at ej
    · obtain rfl : g = j := by simpa [Value.ownBlock] using ej
      exact hb

theorem appended_keeps {W w1 : World} {n₀ B C : Nat} {t e : TypeId} {v v' u : Value} {k : Nat} {xs : List Value} (hC : Boxed W C t u) (hte : t ≠ e) (hrow : W.ownsRow n₀ e 1 v k xs) (hgrow : W.grownBy w1 v.ownBlock) (hne : B ≠ C) :
    (w1.setCell ⟨B, 0, none⟩ v').heap[C]? = W.heap[C]? :=
  (Below.heap_setCell _ _ _ _ (fun e => hne e.symm)).trans (hgrow.block C hC.lt (hC.not_row hte hrow))

/-- Bytes as cells. -/
def bcells (l : List UInt8) : List Value := l.map fun b => Value.int .u8 b.toNat
theorem bcells_append (a b : List UInt8) : bcells (a ++ b) = bcells a ++ bcells b := by simp [bcells]

theorem Tryd.info5 : (Tryd.prog.info? 5).map (fun i => (i.zero, i.size, i.bytes)) = some (some (.int .u8 0), 1, 1) := by kernel_rfl

/-- make([]byte, 0, len*9+1) -/
theorem mkText (n : Nat) (hn : n ≤ 1000000000) (w : World) : ∃ w', (Instr.makeSlice 23 (.int .i64 0) (.int .i64 ((n : Int) * 9 + 1))).run Tryd.prog w = .ok (.slice (some ⟨w.heap.size, 0, none⟩) 0 (n * 9 + 1)) w' ∧
    w'.ownsRow w.heap.size 5 1 (.slice (some ⟨w.heap.size, 0, none⟩) 0 (n * 9 + 1)) 0 [] ∧ w.grownBy w' none := by
  obtain ⟨i0, hi, hz0, hz1, hz2⟩ := info_parts Tryd.info5
  have := run_make_own (P := Tryd.prog) w w.heap.size 23 5 i0 (.int .u8 0) 1 Tryd.underlying23 hi hz0 hz1 .i64 .i64 (n * 9 + 1) (by rw [hz2]; omega) (by unfold maxLen; omega) (Nat.le_refl _)
  have e : ((n * 9 + 1 : Nat) : Int) = (n : Int) * 9 + 1 := by omega
  rw [e] at this; exact this

theorem mkLt {w w3 : World} {t : TypeId} {x : Value} {B c : Nat} (h : (Instr.makeSlice t (.int .i64 0) x).run Tryd.prog w = .ok (.slice (some ⟨B, 0, none⟩) 0 c) w3)
    (hown : w3.ownsRow B 5 1 (.slice (some ⟨B, 0, none⟩) 0 c) 0 []) : B < w3.heap.size := by
  rcases hown.2 with ⟨e, _⟩ | ⟨g, cap, cur, e, _, hg, _⟩
  · cases e
  · cases e; exact (Array.getElem?_eq_some_iff.1 hg).1

theorem strCells_of (l : List UInt8) : strCells ⟨l.toArray⟩ = bcells l := rfl

theorem itoa_sv (neg : Bool) (d : Nat) (h : neg = true → 0 < d) : itoa (sv neg d) = (if neg then [45] else []) ++ decDigits d := by
  cases neg
  · simp [sv, itoa_nonneg]
  · rw [show sv true d = -(d : Int) from rfl, itoa_neg d (h rfl)]; rfl

theorem zeros_at : ∀ k : Nat, k < 10 → (ByteArray.mk #[48, 48, 48, 48, 48, 48, 48, 48, 48]).extract k 9 = ⟨(List.replicate (9 - k) 48).toArray⟩ := by decide +kernel

/-- wordZeros[k:] -/
theorem zeros_slice (k : Nat) (hk : k ≤ 9) (W : World) : (Instr.sliceAt 9 (.string ⟨#[48, 48, 48, 48, 48, 48, 48, 48, 48]⟩) (some (.int .i64 (k : Int))) none none).run Tryd.prog W = .ok (.string ⟨(List.replicate (9 - k) 48).toArray⟩) W := by
  rw [run_sliceAt_string W 9 _ _ _ _ Tryd.underlying9, run_slice_string_l W 9 _ Tryd.underlying9 .i64 (k : Int) (by omega) (by show (k : Int) ≤ 9; omega)]
  exact congrArg (fun b => Result.ok (Value.string b) W) (zeros_at k (by omega))

/-- string(text) -/
theorem text_convert {W : World} {base : Nat} {a : Option Addr} {c : Nat} {l : List UInt8} (hown : W.ownsRow base 5 1 (.slice a l.length c) l.length (bcells l)) (hl : l ≠ []) :
    (Go.convert 23 9 (.slice a l.length c)).run Tryd.prog W = .ok (.string ⟨l.toArray⟩) W := by
  rcases hown.2 with ⟨_, e⟩ | ⟨g, cap, cur, e, _, hg, _, _, _, ht⟩
  · exact absurd (List.length_eq_zero_iff.1 e) hl
  · simp only [Value.slice.injEq] at e
    obtain ⟨rfl, _, rfl⟩ := e
    refine run_convert_bytes_back (P := Tryd.prog) W 23 9 5 ⟨g, 0, none⟩ c l Tryd.underlying23 Tryd.underlying5 Tryd.underlying9 (fun j hj => ?_)
    have h1 : (cur.toList.take (l.length * 1))[j]? = (bcells l)[j]? := by rw [ht]
    rw [List.getElem?_take_of_lt (by omega), Array.getElem?_toList] at h1
    rw [Lib.add_plain]
    simp only [World.cell?, hg, Nat.zero_add]
    simp only [bcells, List.getElem?_map, List.getElem?_eq_getElem hj, Option.map_some] at h1
    simpa using h1

/-- Too long for a number. -/
def longB (z : Int) : Bool := decide (2000 < nd0 z.natAbs)
/-- What is written: the string, the error. -/
def outS (z : Int) : List UInt8 := if longB z then [] else itoa z
def outE (z : Int) : Int := if longB z then 2 else 0

theorem ret_strE {l l' : List UInt8} {n n' : Int} (h1 : l = l') (h2 : n = n') : Ending.returned (.tuple #[.string ⟨l.toArray⟩, .int .i64 n]) = .returned (.tuple #[.string ⟨l'.toArray⟩, .int .i64 n']) := by rw [h1, h2]

def WrittenIs (w : World) (z : Int) (e : Ending) (w' : World) : Prop := e = .returned (.tuple #[.string ⟨(outS z).toArray⟩, .int .i64 (outE z)]) ∧ Below w.heap.size w w'

set_option maxHeartbeats 1000000 in
theorem written_zero (neg : Bool) (p : Option Addr) (c : Nat) (xs : List Nat) (z : Int) (L : Nat) (w : World) (hx : NumIs w neg p 0 c xs z L) :
    Calls Tryd.prog 20 #[.agg #[.bool neg, .slice p 0 c]] w (WrittenIs w z) := by
  have hb0 : Below w.heap.size w (w.alloc (.cells #[.bool neg, .slice p 0 c] 47)) := (Below.refl _ w).alloc (Nat.le_refl _) _
  have hx0 : xs = [] := List.length_eq_zero_iff.1 hx.rd.1
  have hz : z = 0 := by rw [hx.val, hx0]; cases neg <;> rfl
  have h1 : outS z = [48] := by rw [hz]; decide +kernel
  have h2 : outE z = 0 := by rw [hz]; decide +kernel
  have H1 := Lib.hid h1
  have H2 := Lib.hid h2
  clear hx h1 h2 hz hx0
  go_enter Tryd.func20, Tryd.ntmps20
  go_wp2_with (go_at_call 23; refine (isZero_any _ _ _ _ _ (by decide)).mono ?_; rintro e w1 ⟨rfl, hb1⟩)
  go_ret2
  exact ⟨ret_strE H1.out.symm H2.out.symm, hb0.trans (hb1.mono (by simp))⟩

set_option maxHeartbeats 1000000 in
theorem written_long (neg : Bool) (p : Option Addr) (n c : Nat) (xs : List Nat) (z : Int) (L : Nat) (w : World) (hx : NumIs w neg p n c xs z L) (hL : L ≤ 1000000000) (h0 : 0 < n) (hl : longB z = true) :
    Calls Tryd.prog 20 #[.agg #[.bool neg, .slice p n c]] w (WrittenIs w z) := by
  have hb0 : Below w.heap.size w (w.alloc (.cells #[.bool neg, .slice p n c] 47)) := (Below.refl _ w).alloc (Nat.le_refl _) _
  have y0 : w.heap.size < (w.alloc (.cells #[.bool neg, .slice p n c] 47)).heap.size := by simp
  have hx1 := hx.below hb0
  have hn := Nat.le_trans hx.len hL
  have h1 : outS z = [] := by unfold outS; rw [if_pos hl]
  have h2 : outE z = 2 := by unfold outE; rw [if_pos hl]
  have h3 : (n == 0) = false := by simp; omega
  obtain ⟨k, hk⟩ : ∃ k, nd0 (dv BW xs) = k := ⟨_, rfl⟩
  have h4 : (2000 : Int) < (k : Int) := by
    unfold longB at hl
    rw [hx.val, sv_natAbs, hk] at hl
    simp at hl; omega
  have H1 := Lib.hid h1
  have H2 := Lib.hid h2
  have HK := Lib.hid hk
  have HX := Lib.hid hx1
  clear hx hx1 h1 h2 hl hk
  go_enter Tryd.func20, Tryd.ntmps20
  go_wp2_with (first
    | (go_at_call 23; refine (isZero_any _ _ _ _ _ (by unfold maxLen; omega)).mono ?_; rintro e w1 ⟨rfl, hb1⟩; obtain ⟨hc1, hf1⟩ := bcell hb1)
    | (go_at_call 36; refine (digits_any _ _ _ _ xs _ hn (HX.out.below hb1).rd HX.out.cn).mono ?_; rintro e w2 ⟨rfl, hb2⟩; rw [HK.out]))
  go_ret2
  exact ⟨ret_strE H1.out.symm H2.out.symm, (hb0.trans (hb1.mono (by simp))).trans (hb2.mono (by have := hb1.size; simp at this; omega))⟩

set_option maxRecDepth 100000 in
set_option maxHeartbeats 2000000 in
theorem written_ok (neg : Bool) (p : Option Addr) (n c : Nat) (xs : List Nat) (z : Int) (L : Nat) (w : World) (hx : NumIs w neg p n c xs z L) (hL : L ≤ 1000000000) (h0 : 0 < n) (hl : longB z = false) (htab : Tab w) :
    Calls Tryd.prog 20 #[.agg #[.bool neg, .slice p n c]] w (WrittenIs w z) := by
  have hb0 : Below w.heap.size w (w.alloc (.cells #[.bool neg, .slice p n c] 47)) := (Below.refl _ w).alloc (Nat.le_refl _) _
  have hbx : Boxed2 (w.alloc (.cells #[.bool neg, .slice p n c] 47)) w.heap.size (.bool neg) (.slice p n c) 47 := World.alloc_heap_new w _
  have hx1 := hx.below hb0
  have hn := Nat.le_trans hx.len hL
  have hne : xs ≠ [] := by intro e; have := hx.rd.1; rw [e] at this; simp at this; omega
  have h1 : outS z = (if neg then [45] else []) ++ decDigits (dv BW xs) := by
    unfold outS; rw [if_neg (by rw [hl]; simp), hx.val]
    exact itoa_sv neg _ (fun _ => hx.cn.pos (by decide) hne)
  have h2 : outE z = 0 := by unfold outE; rw [if_neg (by rw [hl]; simp)]
  have h3 : (n == 0) = false := by simp; omega
  obtain ⟨k, hk⟩ : ∃ k, nd0 (dv BW xs) = k := ⟨_, rfl⟩
  have h4 : ¬ (2000 : Int) < (k : Int) := by
    unfold longB at hl
    rw [hx.val, sv_natAbs, hk] at hl
    simp at hl; omega
  have H1 := Lib.hid h1
  have H2 := Lib.hid h2
  have HK := Lib.hid hk
  have HX := Lib.hid hx1
  have HX0 := Lib.hid hx
  have HB := Lib.hid hbx
  clear hx hx1 h1 h2 hl hk hne hbx
  refine (callsIn_wide (n := 6)).1 ?_
  refine callsIn_of_wp_marks Tryd.func20 rfl trivial ?_ rfl
  simp only [Tryd.ntmps20, List.size_toArray, List.length_cons, List.length_nil, Nat.reduceAdd, Nat.reduceSub, Array.replicate_succ, Array.replicate_zero, List.push_toArray, List.append_toArray, List.nil_append, List.cons_append]
  refine wpIn_wide.2 ?_
  go_upto_if 20 with (first
    | (go_at_call 23; refine (isZero_any _ _ _ _ _ (by unfold maxLen; omega)).mono ?_; rintro e w1 ⟨rfl, hb1⟩; obtain ⟨hc1, hf1⟩ := bcell hb1)
    | (go_at_call 36; refine (digits_any _ _ _ _ xs _ hn (HX.out.below hb1).rd HX.out.cn).mono ?_; rintro e w2 ⟨rfl, hb2⟩; rw [HK.out]; have hB2 := (HB.out.below hb1 HB.out.lt).below hb2 (Nat.lt_of_lt_of_le HB.out.lt hb1.size); have b0 := hB2.cell0; have b1 := hB2.cell1; obtain ⟨w3, hmk, hown0, hg0⟩ := mkText n (by omega) w2;
        have hB3 := Boxed2.kept hB2 hg0 (fun r e => by cases e); have d0 := hB3.cell0; have d1 := hB3.cell1; have z3 := hB3.lt; have hL3 := mkLt hmk hown0))
  have hBw3 : Below w.heap.size w w3 := ((hb0.trans (hb1.mono (by simp))).trans (hb2.mono (by have := hb1.size; simp at this; omega))).grown hg0 (Nat.le_of_lt hB2.lt) (fun k e => by cases e)
  have hX3 : Rd .u64 w3 p n xs := ((HX.out.below hb1).below hb2).rd.below ((Below.refl w2.heap.size w2).grown hg0 (Nat.le_refl _) (fun k e => by cases e))
  go_cut [] from 8 to 23 (fun wx => ∃ v, Boxed wx w3.heap.size 23 v ∧ wx.ownsRow w2.heap.size 5 1 v (if neg then [45] else [] : List UInt8).length (bcells (if neg then [45] else [])) ∧ Below w.heap.size w wx ∧ Boxed2 wx w.heap.size (.bool neg) (.slice p n c) 47)
  case first =>
    cases neg
    · go_wp2
      go_meet
      exact ⟨_, Boxed.new w3 _ _, hown0.alloc _, hBw3.alloc hBw3.size _, Boxed2.kept hB3 (World.grownBy_alloc w3 _ none) (fun r e => by cases e)⟩
    · obtain ⟨i0, hi, hz0, hz1, hz2⟩ := info_parts Tryd.info5
      go_wp2_with (at_builtin; refine wpList_append_own _ rfl _ _ 23 rfl w2.heap.size 5 i0 (.int .u8 0) 1 1 Tryd.underlying23 hi hz0 hz1 hz2 rfl (by decide) _ _ _ rfl ((hown0.alloc _).alloc _) ⟨w3.heap.size + 1, 0, none⟩ 1 1 [.int .u8 45] rfl rfl ?c1 ?c2 ?c3 ?c4 ?c5 ?_)
      case c2 => simp [Value.oneCell']
      case c3 => unfold maxLen; omega
      case c5 => omega
      intro v4 w4 hown4 hg4 _
      obtain ⟨g', cap', rfl⟩ := ownsRow_succ hown4
      obtain ⟨a1, a2, a3, a4, a5⟩ := (Boxed.new w3 23 (.slice (some ⟨w2.heap.size, 0, none⟩) 0 (n * 9 + 1))).appended (n₀ := w2.heap.size) (by decide) (hown0.alloc _) (by simp <;> omega) (by omega) hown4 hg4
      have e1 := a1.cell
      have e2 := a1.frozen
      go_wp2
      go_meet
      exact ⟨_, a2, a3, (hBw3.alloc hBw3.size _).trans (a5.mono (Nat.le_of_lt hB2.lt)), (Boxed2.kept hB3 (World.grownBy_alloc w3 _ none) (fun r e => by cases e)).below a5 hB2.lt⟩
  case rest =>
    obtain ⟨v, k4, hown, hBx, k0⟩ := hcut
    have x0 := k0.cell0
    have x1 := k0.cell1
    have hX4 := HX0.out.rd.below hBx
    go_wp2_with (go_at_call 37; refine (callsIn_wide.1 (down_in Fence.wide 6 trivial rfl _ _ _ _)).mono ?_; rintro e w' ⟨rfl, rfl⟩)
    refine (wpIn_wide (n := 6)).1 ?_
    have hz4 : w3.heap.size < wc.heap.size := k4.lt
    have hz0 : w.heap.size < wc.heap.size := k0.lt
    have hz2 : w2.heap.size ≤ wc.heap.size := by omega
    have hz20 : w.heap.size < w2.heap.size := hB2.lt
    obtain ⟨sign, hsign⟩ : ∃ sign : List UInt8, (if neg then [45] else [] : List UInt8) = sign := ⟨_, rfl⟩
    have hsl : sign.length ≤ 1 := by rw [← hsign]; cases neg <;> simp
    rw [hsign] at hown
    have HSG := Lib.hid hsign
    clear hsign
    have hc5 := Boxed.new wc 45 (.slice p n c)
    have hB5 : Below w.heap.size w (wc.alloc (.cells #[.slice p n c] 45)) := hBx.alloc (Nat.le_of_lt hz0) _
    refine wpIn_rangeFunc_ownF rfl (by omega) (gf := 54) (lb := #[.pointer (some ⟨wc.heap.size, 0, none⟩)]) rfl trivial (enters_of Tryd.func54 (by kernel_rfl) rfl)
      (down_stops Fence.wide 5 trivial rfl (by omega) wc.heap.size n c (fun b => b < w.heap.size ∨ b = wc.heap.size) p xs hn _ (fun b hb => by simp; omega) hc5.cell (Or.inr rfl) hX4.1
        (fun i hi => by obtain ⟨b, off, hp, hb, hcl⟩ := HX0.out.rd.2 i hi; exact ⟨b, off, hp, Or.inl hb, (hB5.cell (p := ⟨b, off + i, none⟩) hb).trans hcl⟩))
      KeepsAt.trans (KeepsAt.putObj (fun b hb => by simp; omega)) (Below.refl _ _) (fun _ => rfl)
      (fun pre W => ((∃ v, Boxed W w3.heap.size 23 v ∧ W.ownsRow w2.heap.size 5 1 v (wtxt xs sign pre).length (bcells (wtxt xs sign pre)) ∧ True) ∧ Boxed2 W w.heap.size (.bool neg) (.slice p n c) 47 ∧ Boxed W wc.heap.size 45 (.slice p n c)) ∧ Below w.heap.size w W)
      (fun _ _ _ => False)
      (OwnFrom.and (Own.from (fun s A B row hs hg hr => ⟨holdsRow_own w2.heap.size w3.heap.size 23 5 1 (fun pre => (wtxt (n := n) xs sign pre).length) (fun pre => bcells (wtxt xs sign pre)) (fun _ _ => True) s A B row hs.1 hg hr, Boxed2.kept hs.2.1 hg hr, Boxed.kept' hs.2.2 hg hr⟩) _) (ownFrom_below (Nat.le_refl _) (by simp <;> omega)))
      (fun _ _ _ _ _ hs _ _ => hs)
      ⟨⟨⟨v, k4.alloc _, hown.alloc _, trivial⟩, Boxed2.kept k0 (World.grownBy_alloc wc _ none) (fun r e => by cases e), hc5⟩, hB5⟩
      (fun x => { tmps := #[.agg #[.bool neg, .slice p n c], .pointer (some ⟨w.heap.size, 0, none⟩), .string ⟨#[]⟩, .int .i64 0, .pointer (some ⟨w3.heap.size, 0, none⟩), .int .i64 (x.1 : Int), .int .u64 ((xs[x.1]?.getD 0 : Nat) : Int), undef, u8, u9, u10, u11, u12, u13,
          u14, u15, u16, u17, u18, u19, u20, u21, u22, u23, .pointer (some ⟨w.heap.size, 1, none⟩), .slice p n c, .func (.func 54) #[] #[.pointer (some ⟨wc.heap.size, 0, none⟩)],
          .int .i64 (x.1 : Int), .int .u64 ((xs[x.1]?.getD 0 : Nat) : Int), undef, undef, undef, undef, undef, undef, undef, undef, undef, undef, undef, undef, undef, undef, undef, undef, undef, undef], defers := [] }) ?assign ?body ?done ?stop
    case assign =>
      intro l x W K hK
      unfold encDn
      gi_wp2
      exact hK
    case body =>
      rintro l pre ⟨i, hi⟩ W ⟨⟨⟨v5, m4, mown, _⟩, m0, mz⟩, hB⟩ hlt
      have hin : i < n := hi (by omega)
      have mz' := mz.lt
      obtain ⟨x, hx⟩ : ∃ x, xs[i]?.getD 0 = x := ⟨_, rfl⟩
      have hxl : x < 1000000000 := by rw [← hx]; exact HX0.out.cn.1.get (by decide) i
      have hT := htab.below hB
      have hTX := wtxt_length sign HX0.out.cn.1 pre
      have hSN := wtxt_snoc xs sign pre (⟨i, hi⟩ : Pos n)
      dsimp only at hSN ⊢
      rw [hx] at hSN ⊢
      obtain ⟨tx, htx⟩ : ∃ tx, wtxt xs sign pre = tx := ⟨_, rfl⟩
      rw [htx] at hTX hSN mown
      have hd9 : nDigits x ≤ 9 := nDigits_le (by decide) (by have : BW = 1000000000 := rfl; omega)
      obtain ⟨dg, hdg⟩ : ∃ dg, decDigits x = dg := ⟨_, rfl⟩
      have hdl : dg.length = nDigits x := by rw [← hdg]; exact decDigits_length x
      rw [hdg] at hSN
      have hsz : (ByteArray.mk dg.toArray).size = dg.length := by show dg.toArray.size = _; simp
      have HSN := Lib.hid hSN
      have q1 := m0.cell1
      clear hx hSN htx
      obtain ⟨i0, ii0, ii1, ii2, ii3⟩ := info_parts Tryd.info5
      by_cases hlast : (i : Int) < (n : Int) - 1
      · gi_wp2_with (refine ⟨trivial, ?_⟩; gi_at_call 38; refine (CallsIn.inRound l (callsIn_wide.2 (formatUint_any x (by omega) _ hT))).mono ?_; rintro e w1 ⟨rfl, hb1⟩; rw [hdg]; have r0 := m0.below hb1 (by omega); have r1 := r0.cell1; have r1' : Boxed2 w1.drew _ _ _ _ := r0; have r4 := Boxed.kept m4 (grown_of_below hb1) (by simp); have r4c := r4.cell; have rown := own_below mown hb1; obtain ⟨a5, c5, rfl⟩ := ownsRow_form rown)
        have hB1 : Below w.heap.size w w1 := hB.trans (hb1.mono (by omega))
        have hz1 := hb1.size
        obtain ⟨pad, hpad⟩ : ∃ pad : List UInt8, List.replicate (9 - nDigits x) 48 = pad := ⟨_, rfl⟩
        have hpl : pad.length = 9 - nDigits x := by rw [← hpad]; simp
        have hsp : (ByteArray.mk pad.toArray).size = pad.length := by show pad.toArray.size = _; simp
        have rown' : w1.drew.ownsRow w2.heap.size 5 1 (.slice a5 tx.length c5) tx.length (bcells tx) := rown
        have hsl := zeros_slice (nDigits x) hd9 w1.drew
        rw [hpad] at hsl
        refine wpIn_still_tail 4 (by kernel_rfl) (by kernel_rfl) (by kernel_rfl) (by rintro ⟨_, _, h⟩; exact h) ?_
        simp only [List.take_succ_cons, List.take_zero, List.drop_succ_cons, List.drop_zero]
        repeat still_step
        refine wpStill_nil ?_
        refine Lib.wpList_append_own_string _ rfl _ _ 23 9 rfl w2.heap.size 5 i0 Tryd.underlying23 Tryd.underlying9 ii0 ii1 ii2 ii3 _ _ _ rfl rown' _ rfl ?l3 ?l4 ?l5 ?_
        case l3 => rw [hsp]; unfold maxLen; omega
        case l4 => rw [hsp]; omega
        case l5 => simp; omega
        intro v6 w6 hown6 hg6 _
        rw [hsp, strCells_of, ← bcells_append, ← List.length_append] at hown6
        obtain ⟨t6, ht6⟩ : ∃ t, tx ++ pad = t := ⟨_, rfl⟩
        obtain ⟨m6, hm6⟩ : ∃ t, t6.length = t := ⟨_, rfl⟩
        have hle6 : m6 ≤ tx.length + 9 := by rw [← hm6, ← ht6, List.length_append]; omega
        rw [ht6, hm6] at hown6
        have HM6 := Lib.hid (And.intro ht6 hm6)
        clear ht6 hm6
        obtain ⟨a6, c6, rfl⟩ := ownsRow_form hown6
        obtain ⟨y1, y2, y3, y4, y5⟩ := appendedS (n₀ := w2.heap.size) (show Boxed w1.drew _ _ _ from r4) (by decide) rown' (by simp; omega) (by omega) hown6 hg6
        have y1f := y1.frozen
        have y1c := y1.cell
        go_wp2
        have hz6 := y5.size
        rw [show w1.drew.heap.size = w1.heap.size from rfl] at hz6
        have r6 := Boxed2.below r1' y5 (by omega)
        have r6c := r6.cell1
        have y2c := y2.cell
        gi_wp2_with (gi_at_builtin; refine wpListIn_of_wpList (by rintro ⟨_, _, h⟩; exact h) _ (by kernel_rfl) _ _ ?_; refine Lib.wpList_append_own_string _ rfl _ _ 23 9 rfl w2.heap.size 5 i0 Tryd.underlying23 Tryd.underlying9 ii0 ii1 ii2 ii3 _ _ _ rfl y3 _ rfl ?m3 ?m4 ?m5 ?_)
        case m3 => rw [hsz]; unfold maxLen; omega
        case m4 => rw [hsz]; omega
        case m5 => omega
        intro v7 w7 hown7 hg7 _
        rw [strCells_of, ← bcells_append, ← hdl] at hown7
        obtain ⟨t7, ht7⟩ : ∃ t, t6 ++ dg = t := ⟨_, rfl⟩
        obtain ⟨m7, hm7⟩ : ∃ t, m6 + dg.length = t := ⟨_, rfl⟩
        rw [ht7, hm7] at hown7
        have HM7 := Lib.hid (And.intro ht7 hm7)
        clear ht7 hm7
        obtain ⟨u1, u2, u3, u4, u5⟩ := appendedS (n₀ := w2.heap.size) y2 (by decide) y3 (by omega) (by omega) hown7 hg7
        have u1f := u1.frozen
        have u1c := u1.cell
        obtain ⟨a7, c7, rfl⟩ := ownsRow_form hown7
        go_wp2
        have hk : KeepsOthers W w1 := .of_grownBy (grown_of_below hb1) fun j o e hj => by cases e
        have hz7 := u5.size
        have q1 : Boxed w1 wc.heap.size 45 (.slice p n c) := Boxed.kept mz (grown_of_below hb1) (by simp)
        have k6 := appended_keeps (B := w3.heap.size) (v' := .slice a6 m6 c6) (show Boxed w1.drew _ _ _ from q1) (by decide) rown' hg6 (by omega)
        have q6 : Boxed _ wc.heap.size 45 (.slice p n c) := k6.trans q1
        have k7 := appended_keeps (B := w3.heap.size) (v' := .slice a7 m7 c7) q6 (by decide) y3 hg7 (by omega)
        have q7 : Boxed _ wc.heap.size 45 (.slice p n c) := k7.trans q6
        obtain ⟨e1, e2⟩ := HM6.out
        obtain ⟨e3, e4⟩ := HM7.out
        have hf : wtxt xs sign (pre ++ [⟨i, hi⟩]) = t7 := by rw [HSN.out, if_pos (by omega), hpad, e1, e3]
        have hl : t7.length = m7 := by rw [← e3, List.length_append, e2, e4]
        refine ⟨((hk.trans (KeepsOthers.drew _)).trans y4).trans u4, ((KeepsAt.of_below hb1 (by rintro b (h | rfl) <;> omega)).trans (show KeepsAt _ w1.drew _ by rintro b (h | rfl); exact y5.block _ (by omega); exact k6)).trans (show KeepsAt _ _ _ by rintro b (h | rfl); exact u5.block _ (by omega); exact k7), ⟨⟨_, u2, ?_, trivial⟩, Boxed2.below r6 u5 (by omega), q7⟩, ((hB1.drew).trans (y5.mono (by omega))).trans (u5.mono (by omega))⟩
        rw [hf, hl]; exact u3
      · gi_wp2_with (first
          | (refine ⟨trivial, ?_⟩; gi_at_call 38; refine (CallsIn.inRound l (callsIn_wide.2 (formatUint_any x (by omega) _ hT))).mono ?_; rintro e w1 ⟨rfl, hb1⟩; rw [hdg]; have r0 := m0.below hb1 (by omega); have r1 := r0.cell1; have r1' : Boxed2 w1.drew _ _ _ _ := r0; have r4 := Boxed.kept m4 (grown_of_below hb1) (by simp); have r4c := r4.cell; have rown := own_below mown hb1; obtain ⟨a5, c5, rfl⟩ := ownsRow_form rown)
          | (gi_at_builtin; refine wpListIn_of_wpList (by rintro ⟨_, _, h⟩; exact h) _ (by kernel_rfl) _ _ ?_; refine Lib.wpList_append_own_string _ rfl _ _ 23 9 rfl w2.heap.size 5 i0 Tryd.underlying23 Tryd.underlying9 ii0 ii1 ii2 ii3 _ _ _ rfl rown _ rfl ?k3 ?k4 ?k5 ?_))
        case k3 => rw [hsz]; unfold maxLen; omega
        case k4 => rw [hsz]; omega
        case k5 => have := hb1.size; omega
        have hB1 : Below w.heap.size w w1 := hB.trans (hb1.mono (by omega))
        have hz1 := hb1.size
        intro v6 w6 hown6 hg6 _
        rw [strCells_of, ← bcells_append, ← hdl, ← List.length_append] at hown6
        obtain ⟨t6, ht6⟩ : ∃ t, tx ++ dg = t := ⟨_, rfl⟩
        obtain ⟨m6, hm6⟩ : ∃ t, t6.length = t := ⟨_, rfl⟩
        rw [ht6, hm6] at hown6
        have HM6 := Lib.hid (And.intro ht6 hm6)
        clear ht6 hm6
        obtain ⟨y1, y2, y3, y4, y5⟩ := appendedS (n₀ := w2.heap.size) r4 (by decide) rown (by omega) (by omega) hown6 hg6
        have y1f := y1.frozen
        have y1c := y1.cell
        obtain ⟨a6, c6, rfl⟩ := ownsRow_form hown6
        go_wp2
        have hz7 := y5.size
        have q1 : Boxed w1 wc.heap.size 45 (.slice p n c) := Boxed.kept mz (grown_of_below hb1) (by simp)
        have k6 := appended_keeps (B := w3.heap.size) (v' := .slice a6 m6 c6) q1 (by decide) rown hg6 (by omega)
        have q6 : Boxed _ wc.heap.size 45 (.slice p n c) := k6.trans q1
        obtain ⟨e1, e2⟩ := HM6.out
        have hk : KeepsOthers W w1 := .of_grownBy (grown_of_below hb1) fun j o e hj => by cases e
        have hf : wtxt xs sign (pre ++ [⟨i, hi⟩]) = t6 := by rw [HSN.out, if_neg (by omega), List.append_nil, e1]
        refine ⟨hk.trans y4, KeepsAt.trans (KeepsAt.of_below hb1 (by rintro b (h | rfl) <;> omega)) (show KeepsAt _ _ _ by rintro b (h | rfl); exact y5.block _ (by omega); exact k6), ⟨⟨_, y2, ?_, trivial⟩, Boxed2.below r0 y5 (by omega), q6⟩, hB1.trans (y5.mono (by omega))⟩
        rw [hf, e2]; exact y3
    case done =>
      rintro D zs W hD rfl ⟨⟨⟨v5, m4, mown, _⟩, m0, mz⟩, hB⟩ hK
      obtain ⟨a5, c5, rfl⟩ := ownsRow_form mown
      have m4c := m4.cell
      have hout : wtxt xs sign (upto (dnAt n) n) = outS z := by
        rw [H1.out, HSG.out, (wtxt_says sign HX0.out.rd.1 HX0.out.cn n (by omega) (Nat.le_refl _)).2]
        simp
      obtain ⟨tx, htx⟩ : ∃ tx, wtxt xs sign (upto (dnAt n) n) = tx := ⟨_, rfl⟩
      rw [htx] at mown m4 m4c hout
      have hne : tx ≠ [] := by
        intro e
        rw [e, H1.out] at hout
        have := congrArg List.length hout
        rw [List.length_append, decDigits_length] at this
        have := nDigits_pos (dv BW xs)
        simp at *; omega
      have hcv := text_convert mown hne
      obtain ⟨k, hk⟩ : ∃ k, tx.length = k := ⟨_, rfl⟩
      rw [hk] at m4 m4c hcv
      clear hne mown htx
      go_wp2
      refine ⟨by simp, .inl ⟨_, _, rfl, run_takeDeferred hK, ?_⟩⟩
      refine ⟨.tuple #[.string ⟨(outS z).toArray⟩, .int .i64 0], ?_, ret_strE rfl H2.out.symm, hB.trans (belowK_b (w := w) (Nat.le_refl _) W D _ _ (by simp at hD; omega) hK rfl rfl)⟩
      simp [results, Tryd.f20, go_sem]
    case stop =>
      rintro D c pre W _ _ h _
      exact h.elim


theorem written_any (neg : Bool) (p : Option Addr) (n c : Nat) (xs : List Nat) (z : Int) (L : Nat) (w : World) (hx : NumIs w neg p n c xs z L) (hL : L ≤ 1000000000) (htab : Tab w) :
    Calls Tryd.prog 20 #[.agg #[.bool neg, .slice p n c]] w (WrittenIs w z) := by
  by_cases h0 : n = 0
  · subst h0; exact written_zero neg p c xs z L w hx
  · by_cases hl : longB z = true
    · exact written_long neg p n c xs z L w hx hL (by omega) hl
    · exact written_ok neg p n c xs z L w hx hL (by omega) (by simpa using hl) htab

end Go.Proofs.YtimcbmgmngkagaaDoor

namespace Go.Proofs.YtimcbmgmngkagaaDoor
open Go.RowKit

/-- Two variables of the call's own, behind a call. -/
theorem two_kept {W w1 : World} (hb : Below W.heap.size W w1) {B : Nat} (hB : B + 1 < W.heap.size) :
    (∀ o, w1.cell? ⟨B, o, none⟩ = W.cell? ⟨B, o, none⟩) ∧ (∀ o, w1.cell? ⟨B + 1, o, none⟩ = W.cell? ⟨B + 1, o, none⟩) ∧
    (∀ o, w1.frozen? ⟨B, o, none⟩ = W.frozen? ⟨B, o, none⟩) ∧ (∀ o, w1.frozen? ⟨B + 1, o, none⟩ = W.frozen? ⟨B + 1, o, none⟩) ∧ B + 1 < w1.heap.size :=
  ⟨fun o => hb.cell (p := ⟨B, o, none⟩) (by show B < _; omega), fun o => hb.cell (p := ⟨B + 1, o, none⟩) hB,
   fun o => hb.frozen (p := ⟨B, o, none⟩) (by show B < _; omega), fun o => hb.frozen (p := ⟨B + 1, o, none⟩) hB, Nat.lt_of_lt_of_le hB hb.size⟩

/-- Two numbers written into two new variables. -/
theorem four_set {W : World} {B : Nat} (u0 u1 u2 u3 : Value) (h0 : W.cell? ⟨B, 0, none⟩ = some (.bool false)) (h1 : W.cell? ⟨B, 1, none⟩ = some (.slice none 0 0)) (h2 : W.cell? ⟨B + 1, 0, none⟩ = some (.bool false)) (h3 : W.cell? ⟨B + 1, 1, none⟩ = some (.slice none 0 0)) :
    ((((W.setCell ⟨B, 0, none⟩ u0).setCell ⟨B, 1, none⟩ u1).setCell ⟨B + 1, 0, none⟩ u2).setCell ⟨B + 1, 1, none⟩ u3).cell? ⟨B, 0, none⟩ = some u0 ∧
    ((((W.setCell ⟨B, 0, none⟩ u0).setCell ⟨B, 1, none⟩ u1).setCell ⟨B + 1, 0, none⟩ u2).setCell ⟨B + 1, 1, none⟩ u3).cell? ⟨B, 1, none⟩ = some u1 ∧
    ((((W.setCell ⟨B, 0, none⟩ u0).setCell ⟨B, 1, none⟩ u1).setCell ⟨B + 1, 0, none⟩ u2).setCell ⟨B + 1, 1, none⟩ u3).cell? ⟨B + 1, 0, none⟩ = some u2 ∧
    ((((W.setCell ⟨B, 0, none⟩ u0).setCell ⟨B, 1, none⟩ u1).setCell ⟨B + 1, 0, none⟩ u2).setCell ⟨B + 1, 1, none⟩ u3).cell? ⟨B + 1, 1, none⟩ = some u3 ∧
    (∀ r k xs, Rd .u64 W r k xs → Rd .u64 ((((W.setCell ⟨B, 0, none⟩ u0).setCell ⟨B, 1, none⟩ u1).setCell ⟨B + 1, 0, none⟩ u2).setCell ⟨B + 1, 1, none⟩ u3) r k xs) := by
  have o : ∀ (W : World) (i j : Nat) (v : Value), (W.setCell ⟨B, i, none⟩ v).cell? ⟨B + 1, j, none⟩ = W.cell? ⟨B + 1, j, none⟩ := fun W i j v => World.cell?_setCell_other _ _ _ _ (by simp)
  have o' : ∀ (W : World) (i j : Nat) (v : Value), (W.setCell ⟨B + 1, i, none⟩ v).cell? ⟨B, j, none⟩ = W.cell? ⟨B, j, none⟩ := fun W i j v => World.cell?_setCell_other _ _ _ _ (by simp)
  obtain ⟨a0, a1, _⟩ := two_set u0 u1 h0 h1
  have k2 : ((W.setCell ⟨B, 0, none⟩ u0).setCell ⟨B, 1, none⟩ u1).cell? ⟨B + 1, 0, none⟩ = some (.bool false) := by rw [o, o, h2]
  have k3 : ((W.setCell ⟨B, 0, none⟩ u0).setCell ⟨B, 1, none⟩ u1).cell? ⟨B + 1, 1, none⟩ = some (.slice none 0 0) := by rw [o, o, h3]
  obtain ⟨b0, b1, _⟩ := two_set u2 u3 k2 k3
  exact ⟨by rw [o', o', a0], by rw [o', o', a1], b0, b1, fun r k xs h => (h.two_set u0 u1 h0 h1).two_set u2 u3 k2 k3⟩

/-- Both arguments are numbers. -/
def PairOk (w : World) (x y : Int) (e : Ending) (w' : World) : Prop :=
  ∃ a p n c xs b q m d ys, e = .returned (.tuple #[.agg #[.bool a, .slice p n c], .agg #[.bool b, .slice q m d], .int .i64 0]) ∧ NumIs w' a p n c xs x 223 ∧ NumIs w' b q m d ys y 223 ∧ Below w.heap.size w w'

set_option maxHeartbeats 1000000 in
theorem pair_ok (s t : ByteArray) (w : World) (hs : s.size ≤ maxLen) (ht : t.size ≤ maxLen) (h1 : numB s.data.toList = true) (h2 : numB t.data.toList = true) :
    Calls Tryd.prog 18 #[.string s, .string t] w (PairOk w (strV s.data.toList) (strV t.data.toList)) := by
  have hb0 : Below w.heap.size w ((w.alloc (.cells #[.bool false, .slice none 0 0] 47)).alloc (.cells #[.bool false, .slice none 0 0] 47)) :=
    ((Below.refl _ w).alloc (Nat.le_refl _) _).alloc (by simp) _
  have y0 : w.heap.size + 1 < ((w.alloc (.cells #[.bool false, .slice none 0 0] 47)).alloc (.cells #[.bool false, .slice none 0 0] 47)).heap.size := by simp
  have H1 := Lib.hid h1
  have H2 := Lib.hid h2
  clear h1 h2
  go_enter Tryd.func18, Tryd.ntmps18
  go_wp2_with fail
  refine (is_any s _ hs).mono ?_
  rintro e w1 ⟨rfl, hb1⟩
  obtain ⟨a1, a2, a3, a4, y1⟩ := two_kept hb1 y0
  rw [H1.out]
  go_wp2_with fail
  refine (is_any t _ ht).mono ?_
  rintro e w2 ⟨rfl, hb2⟩
  obtain ⟨b1, b2, b3, b4, y2⟩ := two_kept hb2 y1
  rw [H2.out]
  go_wp2_with fail
  refine (read_any s _ hs H1.out).mono ?_
  rintro e w3 ⟨a, p, n, c, xs, rfl, hx, hb3⟩
  obtain ⟨c1, c2, c3, c4, y3⟩ := two_kept hb3 y2
  go_wp2_with fail
  refine (read_any t _ ht H2.out).mono ?_
  rintro e w4 ⟨b, q, m, d, ys, rfl, hy, hb4⟩
  obtain ⟨d1, d2, d3, d4, y4⟩ := two_kept hb4 y3
  go_wp2_with fail
  have p0 : w4.cell? ⟨w.heap.size, 0, none⟩ = some (.bool false) := by rw [d1, c1, b1, a1]; simp [go_sem]
  have p1 : w4.cell? ⟨w.heap.size, 1, none⟩ = some (.slice none 0 0) := by rw [d1, c1, b1, a1]; simp [go_sem]
  have p2 : w4.cell? ⟨w.heap.size + 1, 0, none⟩ = some (.bool false) := by rw [d2, c2, b2, a2]; simp [go_sem]
  have p3 : w4.cell? ⟨w.heap.size + 1, 1, none⟩ = some (.slice none 0 0) := by rw [d2, c2, b2, a2]; simp [go_sem]
  obtain ⟨f0, f1, f2, f3, f4⟩ := four_set (.bool a) (.slice p n c) (.bool b) (.slice q m d) p0 p1 p2 p3
  refine bodyPost_ret (v := .tuple #[.agg #[.bool a, .slice p n c], .agg #[.bool b, .slice q m d], .int .i64 0]) (by simp [results, Tryd.results18, go_sem, f0, f1, f2, f3]) rfl ⟨a, p, n, c, xs, b, q, m, d, ys, rfl, ?_, ?_, ?_⟩
  · exact { hx.below hb4 with rd := f4 _ _ _ (hx.rd.below hb4) }
  · exact { hy with rd := f4 _ _ _ hy.rd }
  · exact ((((((hb0.trans (hb1.mono (by simp <;> omega))).trans (hb2.mono (by omega))).trans (hb3.mono (by omega))).trans (hb4.mono (by omega))).setCell (by simp) _).setCell (by simp) _).setCell (by simp) _ |>.setCell (by simp) _

set_option maxHeartbeats 1000000 in
theorem pair_bad (s t : ByteArray) (w : World) (hs : s.size ≤ maxLen) (ht : t.size ≤ maxLen) (h : (numB s.data.toList && numB t.data.toList) = false) :
    Calls Tryd.prog 18 #[.string s, .string t] w fun e w' => e = .returned (.tuple #[.agg #[.bool false, .slice none 0 0], .agg #[.bool false, .slice none 0 0], .int .i64 6]) ∧ Below w.heap.size w w' := by
  have hb0 : Below w.heap.size w ((w.alloc (.cells #[.bool false, .slice none 0 0] 47)).alloc (.cells #[.bool false, .slice none 0 0] 47)) :=
    ((Below.refl _ w).alloc (Nat.le_refl _) _).alloc (by simp) _
  have y0 : w.heap.size + 1 < ((w.alloc (.cells #[.bool false, .slice none 0 0] 47)).alloc (.cells #[.bool false, .slice none 0 0] 47)).heap.size := by simp
  by_cases h1 : numB s.data.toList = true
  · have h2 : numB t.data.toList = false := by simpa [h1] using h
    have H1 := Lib.hid h1
    have H2 := Lib.hid h2
    clear h1 h2 h
    go_enter Tryd.func18, Tryd.ntmps18
    go_wp2_with fail
    refine (is_any s _ hs).mono ?_
    rintro e w1 ⟨rfl, hb1⟩
    obtain ⟨a1, a2, a3, a4, y1⟩ := two_kept hb1 y0
    rw [H1.out]
    go_wp2_with fail
    refine (is_any t _ ht).mono ?_
    rintro e w2 ⟨rfl, hb2⟩
    obtain ⟨b1, b2, b3, b4, y2⟩ := two_kept hb2 y1
    rw [H2.out]
    go_wp2_with fail
    have p0 : w2.cell? ⟨w.heap.size, 0, none⟩ = some (.bool false) := by rw [b1, a1]; simp [go_sem]
    have p1 : w2.cell? ⟨w.heap.size, 1, none⟩ = some (.slice none 0 0) := by rw [b1, a1]; simp [go_sem]
    have p2 : w2.cell? ⟨w.heap.size + 1, 0, none⟩ = some (.bool false) := by rw [b2, a2]; simp [go_sem]
    have p3 : w2.cell? ⟨w.heap.size + 1, 1, none⟩ = some (.slice none 0 0) := by rw [b2, a2]; simp [go_sem]
    obtain ⟨f0, f1, f2, f3, f4⟩ := four_set (.bool false) (.slice none 0 0) (.bool false) (.slice none 0 0) p0 p1 p2 p3
    refine bodyPost_ret (v := .tuple #[.agg #[.bool false, .slice none 0 0], .agg #[.bool false, .slice none 0 0], .int .i64 6]) (by simp [results, Tryd.results18, go_sem, f0, f1, f2, f3]) rfl ⟨rfl, ?_⟩
    exact ((((hb0.trans (hb1.mono (by simp <;> omega))).trans (hb2.mono (by omega))).setCell (by simp) _).setCell (by simp) _).setCell (by simp) _ |>.setCell (by simp) _
  · have h2 : numB s.data.toList = false := by simpa using h1
    have H2 := Lib.hid h2
    clear h1 h2 h
    go_enter Tryd.func18, Tryd.ntmps18
    go_wp2_with fail
    refine (is_any s _ hs).mono ?_
    rintro e w1 ⟨rfl, hb1⟩
    obtain ⟨a1, a2, a3, a4, y1⟩ := two_kept hb1 y0
    rw [H2.out]
    go_wp2_with fail
    have p0 : w1.cell? ⟨w.heap.size, 0, none⟩ = some (.bool false) := by rw [a1]; simp [go_sem]
    have p1 : w1.cell? ⟨w.heap.size, 1, none⟩ = some (.slice none 0 0) := by rw [a1]; simp [go_sem]
    have p2 : w1.cell? ⟨w.heap.size + 1, 0, none⟩ = some (.bool false) := by rw [a2]; simp [go_sem]
    have p3 : w1.cell? ⟨w.heap.size + 1, 1, none⟩ = some (.slice none 0 0) := by rw [a2]; simp [go_sem]
    obtain ⟨f0, f1, f2, f3, f4⟩ := four_set (.bool false) (.slice none 0 0) (.bool false) (.slice none 0 0) p0 p1 p2 p3
    refine bodyPost_ret (v := .tuple #[.agg #[.bool false, .slice none 0 0], .agg #[.bool false, .slice none 0 0], .int .i64 6]) (by simp [results, Tryd.results18, go_sem, f0, f1, f2, f3]) rfl ⟨rfl, ?_⟩
    exact (((hb0.trans (hb1.mono (by simp <;> omega))).setCell (by simp) _).setCell (by simp) _).setCell (by simp) _ |>.setCell (by simp) _

end Go.Proofs.YtimcbmgmngkagaaDoor

namespace Go.Proofs.YtimcbmgmngkagaaDoor
open Go.RowKit

theorem Boxed2.frozen {W : World} {B i : Nat} {a b : Value} {t : TypeId} (h : Boxed2 W B a b t) : W.frozen? ⟨B, i, none⟩ = false := by unfold Boxed2 at h; simp [World.frozen?, h]
theorem Boxed2.new (w : World) (a b : Value) (t : TypeId) : Boxed2 (w.alloc (.cells #[a, b] t)) w.heap.size a b t := World.alloc_heap_new w _
theorem Boxed2.alloc {W : World} {B : Nat} {a b : Value} {t : TypeId} (h : Boxed2 W B a b t) (o : Obj) : Boxed2 (W.alloc o) B a b t := h.kept (World.grownBy_alloc W o none) (fun r e => by cases e)
theorem Boxed2.set0 {W : World} {B : Nat} {a b : Value} {t : TypeId} (v : Value) (h : Boxed2 W B a b t) : Boxed2 (W.setCell ⟨B, 0, none⟩ v) B v b t := by
  unfold Boxed2 at *
  rw [Lib.heap_setCell_same h]
  rfl
theorem Boxed2.set1 {W : World} {B : Nat} {a b : Value} {t : TypeId} (v : Value) (h : Boxed2 W B a b t) : Boxed2 (W.setCell ⟨B, 1, none⟩ v) B a v t := by
  unfold Boxed2 at *
  rw [Lib.heap_setCell_same h]
  rfl
theorem Boxed2.set {W : World} {B : Nat} {a b : Value} {t : TypeId} (v0 v1 : Value) (h : Boxed2 W B a b t) : Boxed2 ((W.setCell ⟨B, 0, none⟩ v0).setCell ⟨B, 1, none⟩ v1) B v0 v1 t := (h.set0 v0).set1 v1
theorem Boxed2.setOther {W : World} {B : Nat} {a b : Value} {t : TypeId} (h : Boxed2 W B a b t) {C i : Nat} (v : Value) (hne : B ≠ C) : Boxed2 (W.setCell ⟨C, i, none⟩ v) B a b t := by
  unfold Boxed2 at *
  rw [Below.heap_setCell _ _ _ _ hne]
  exact h
theorem Boxed2.cellAt {W : World} {B i : Nat} {a b : Value} {t : TypeId} (h : Boxed2 W B a b t) : W.cell? ⟨B, i, none⟩ = #[a, b][i]? := by unfold Boxed2 at h; simp [World.cell?, h]

/-- Words lie elsewhere than a number's variable. -/
theorem Rd.box {W : World} {p : Option Addr} {n : Nat} {xs : List Nat} (h : Rd .u64 W p n xs) {B i : Nat} {neg : Bool} {q : Option Addr} {k c : Nat} {t : TypeId} (hb : Boxed2 W B (.bool neg) (.slice q k c) t) (v : Value) : Rd .u64 (W.setCell ⟨B, i, none⟩ v) p n xs := by
  refine ⟨h.1, fun j hj => ?_⟩
  obtain ⟨b', off, hp, hlt, hc⟩ := h.2 j hj
  refine ⟨b', off, hp, by simpa using hlt, ?_⟩
  rw [World.cell?_setCell_other _ _ _ _ (fun e => ?_)]
  · exact hc
  · cases e
    rw [hb.cellAt] at hc
    match off + j, hc with
    | 0, hc => simp at hc
    | 1, hc => simp at hc
    | k + 2, hc => simp at hc

theorem cell_alloc {W : World} {a : Addr} {v : Value} {o : Obj} (h : W.cell? a = some v) : (W.alloc o).cell? a = some v := by
  rw [World.cell?_alloc_some _ _ _ (by rw [h]; rfl)]; exact h

theorem cell_call {W W' : World} {a : Addr} {v : Value} (hb : Below W.heap.size W W') (h : W.cell? a = some v) : W'.cell? a = some v := (hb.cell (World.block_lt_of_cell? _ _ h)).trans h

/-- A row of numbers. -/
def Nums (w : World) (a : Option Addr) (zs : List Int) (L : Nat) : Prop :=
  ∀ i z, zs[i]? = some z → ∃ b off neg p n c xs, a = some ⟨b, off, none⟩ ∧ b < w.heap.size ∧ w.cell? ⟨b, off + i * 2, none⟩ = some (.bool neg) ∧ w.cell? ⟨b, off + i * 2 + 1, none⟩ = some (.slice p n c) ∧ NumIs w neg p n c xs z L

theorem Nums.below {w w' : World} {a : Option Addr} {zs : List Int} {L : Nat} (h : Nums w a zs L) (hb : Below w.heap.size w w') : Nums w' a zs L := by
  intro i z hz
  obtain ⟨b, off, neg, p, n, c, xs, ha, hlt, h0, h1, hn⟩ := h i z hz
  exact ⟨b, off, neg, p, n, c, xs, ha, Nat.lt_of_lt_of_le hlt hb.size, (hb.cell (p := ⟨b, _, none⟩) hlt).trans h0, (hb.cell (p := ⟨b, _, none⟩) hlt).trans h1, hn.below hb⟩

def sumZ (zs : List Int) : Int := zs.foldl (· + ·) 0
theorem sumZ_snoc (zs : List Int) (z : Int) : sumZ (zs ++ [z]) = sumZ zs + z := by simp [sumZ]

set_option maxHeartbeats 1000000 in
theorem sum_any (a : Option Addr) (k c : Nat) (zs : List Int) (L : Nat) (w : World) (hl : zs.length = k) (hk : k ≤ 1000000) (hL : L ≤ 100000000) (hz : Nums w a zs L) :
    Calls Tryd.prog 19 #[.slice a k c] w (NumV w (sumZ zs) (L + k)) := by
  have hb0 : Below w.heap.size w ((w.alloc (.cells #[.bool false, .slice none 0 0] 47)).alloc (.cells #[.bool false, .slice none 0 0] 47)) :=
    ((Below.refl _ w).alloc (Nat.le_refl _) _).alloc (by simp) _
  have y0 : w.heap.size + 1 < ((w.alloc (.cells #[.bool false, .slice none 0 0] 47)).alloc (.cells #[.bool false, .slice none 0 0] 47)).heap.size := by simp
  have HL := Lib.hid hl
  have HZ := Lib.hid hz
  clear hl hz
  go_enter Tryd.func19, Tryd.ntmps19
  go_wp2
  go_loopw [9] (fun i wr => ∃ (j : Nat) (neg : Bool) (p : Option Addr) (n d : Nat) (xs : List Nat), j ≤ k ∧ i = .int .i64 j ∧ Boxed2 wr (w.heap.size + 1) (.bool neg) (.slice p n d) 47 ∧ Boxed2 wr w.heap.size (.bool false) (.slice none 0 0) 47
      ∧ Hid (NumIs wr neg p n d xs (sumZ (zs.take j)) (L + j)) ∧ Below w.heap.size w wr) (fun i _ => k - (intOf i).toNat)
  case atStart =>
    refine ⟨0, false, none, 0, 0, [], Nat.zero_le _, rfl, ?_, (Boxed2.new w _ _ _).alloc _, ?_, hb0⟩
    · have := Boxed2.new (w.alloc (.cells #[.bool false, .slice none 0 0] 47)) (.bool false) (.slice none 0 0) 47
      simpa using this
    · exact { rd := Rd.nil _ _ _, cap := Nat.le_refl _, len := Nat.zero_le _, cn := Cn.nil _, pos := (by intro h; cases h), val := rfl }
  case round =>
    obtain ⟨j, neg, p, n, d, xs, hj, rfl, t0, r0, hn, hbel⟩ := hrel
    have hlt0 := t0.lt
    by_cases hlt : j < k
    · obtain ⟨b, off, neg', p', n', d', xs', rfl, hb, e0, e1, he⟩ := HZ.out j _ (List.getElem?_eq_getElem (by rw [HL.out]; exact hlt))
      have e0' := (hbel.cell (p := ⟨b, _, none⟩) hb).trans e0
      have e1' := (hbel.cell (p := ⟨b, _, none⟩) hb).trans e1
      have c0 := t0.cell0
      have c1 := t0.cell1
      have q0 := t0.frozen (i := 0)
      have q1 := t0.frozen (i := 1)
      clear e0 e1
      have hb1 : Below wr.heap.size wr (wr.alloc (.cells #[.bool neg', .slice p' n' d'] 47)) := (Below.refl _ _).alloc (Nat.le_refl _) _
      have hE := (he.below hbel).below hb1
      go_wp2_with (go_at_call 35; refine (plus_num (hn.out.below hb1) hE (by omega) (by omega)).mono ?_; rintro e w2 ⟨neg2, p2, n2, d2, xs2, rfl, hx2, hb2⟩; have t2 := (t0.alloc (.cells #[.bool neg', .slice p' n' d'] 47)).below hb2 (by simp; omega); have c20 := t2.cell0; have c21 := t2.cell1; have q20 := t2.frozen (i := 0); have q21 := t2.frozen (i := 1))
      have r2 := (r0.alloc (.cells #[.bool neg', .slice p' n' d'] 47)).below hb2 (by simp; omega)
      have hs2 := hb2.size
      simp only [World.size_alloc] at hs2
      go_roundw
      case rel =>
        refine ⟨j + 1, neg2, p2, n2, d2, xs2, by omega, by go_num, t2.set _ _, (r2.setOther _ (by omega)).setOther _ (by omega), ?_, ?_⟩
        · have hjl : j < zs.length := by rw [HL.out]; exact hlt
          have e1 : sumZ (zs.take (j + 1)) = sumZ (zs.take j) + zs[j] := by rw [List.take_succ_eq_append_getElem (by rw [HL.out]; exact hlt), sumZ_snoc]
          have e2 : max (L + j) L + 1 = L + (j + 1) := by omega
          rw [← e1, e2] at hx2
          exact { hx2 with rd := (hx2.rd.box t2 _).box (t2.set0 _) _ }
        · exact ((((hbel.alloc hbel.size _).trans (hb2.mono (by simp; have := hbel.size; omega))).setCell (by simp) _).setCell (by simp) _)
      case measure => simp [intOf]; omega
    · obtain rfl : j = k := by omega
      have c0 := t0.cell0
      have c1 := t0.cell1
      have d0 := r0.cell0
      have d1 := r0.cell1
      have q0 := r0.frozen (i := 0)
      have q1 := r0.frozen (i := 1)
      go_wp2
      have r1 := r0.set (.bool neg) (.slice p n d)
      have z0 := r1.cell0
      have z1 := r1.cell1
      refine bodyPost_ret (v := .agg #[.bool neg, .slice p n d]) (by simp [results, Tryd.results19, go_sem, z0, z1]) rfl ⟨neg, p, n, d, xs, rfl, ?_, (hbel.setCell (by simp) _).setCell (by simp) _⟩
      have hn' := hn.out
      rw [List.take_of_length_le (by rw [HL.out]; exact Nat.le_refl _)] at hn'
      exact { hn' with rd := (hn'.rd.box r0 _).box (r0.set0 _) _ }

set_option maxHeartbeats 400000 in
theorem one_any (w : World) : Calls Tryd.prog 60 #[] w (NumV w 1 1) := by
  go_enter Tryd.func60, Tryd.ntmps60
  go_wp2
  have h0 : Boxed2 ((w.alloc (.cells #[.bool false, .slice (some ⟨w.heap.size + 1, 0, none⟩) 1 1] 47)).alloc (.cells #[.int .u64 1] 73)) w.heap.size (.bool false) (.slice (some ⟨w.heap.size + 1, 0, none⟩) 1 1) 47 := (Boxed2.new w _ _ _).alloc _
  have z0 := h0.cell0
  have z1 := h0.cell1
  refine bodyPost_ret (v := .agg #[.bool false, .slice (some ⟨w.heap.size + 1, 0, none⟩) 1 1]) (by simp [results, Tryd.results60, go_sem, z0, z1]) rfl ⟨false, _, 1, 1, [1], rfl, ?_, ((Below.refl _ w).alloc (Nat.le_refl _) _).alloc (by simp) _⟩
  refine { rd := ⟨rfl, fun i hi => ⟨w.heap.size + 1, 0, rfl, by simp, ?_⟩⟩, cap := Nat.le_refl _, len := Nat.le_refl _, cn := ⟨by intro x hx; simp at hx; subst hx; decide, by simp [Tp]⟩, pos := (by intro h; cases h), val := by decide }
  obtain rfl : i = 0 := by omega
  simp [go_sem]

end Go.Proofs.YtimcbmgmngkagaaDoor

namespace Go.Proofs.YtimcbmgmngkagaaDoor
open Go.RowKit
variable {P : Program} {Q : Exit → Act → World → Prop}

theorem countP_strict {p q : Nat → Bool} : ∀ (l : List Nat) (x : Nat), (∀ y, q y = true → p y = true) → x ∈ l → p x = true → q x = false → l.countP q + 1 ≤ l.countP p
  | [], x, _, hx, _, _ => by cases hx
  | y :: l, x, hpq, hx, hp, hq => by
    rw [List.countP_cons, List.countP_cons]
    rcases List.mem_cons.1 hx with rfl | hx
    · have := List.countP_mono_left (l := l) (fun y _ h => hpq y h)
      simp [hp, hq]; omega
    · have := countP_strict l x hpq hx hp hq
      by_cases h1 : q y = true
      · simp [h1, hpq y h1]; omega
      · simp [h1]; split <;> omega

def depsB (l : List Oper) (L : Nat → Bool) (i : Nat) : Bool := ((l[i]?).map fun o => o.after.all fun e => !Region.binds .any e || L e.on).getD false
def earlierB (l : List Oper) : Bool := (List.range l.length).all fun i => ((l[i]?).map fun o => o.after.all fun e => !Region.binds .any e || decide (e.on < i)).getD false

theorem depsB_all {l : List Oper} (hE : earlierB l = true) {L : Nat → Bool} {i : Nat} (hi : i < l.length) (h : ∀ j, j < i → L j = true) : depsB l L i = true := by
  have h1 := List.all_eq_true.1 hE i (List.mem_range.2 hi)
  unfold depsB
  rw [List.getElem?_eq_getElem hi] at h1 ⊢
  simp only [Option.map_some, Option.getD_some, Array.all_eq_true'] at h1 ⊢
  intro e he
  have := h1 e he
  simp only [Bool.or_eq_true, decide_eq_true_eq] at this ⊢
  rcases this with h2 | h2
  · exact .inl h2
  · exact .inr (h _ h2)


theorem all_listed {l : List Oper} (hE : earlierB l = true) {L : Nat → Bool} (h : ∀ i, i < l.length → L i = false → depsB l L i = false) : ∀ i, i < l.length → L i = true := by
  intro i
  induction i using Nat.strongRecOn with
  | _ i ih =>
    intro hi
    cases hL : L i
    · have := h i hi hL
      rw [depsB_all hE hi (fun j hj => ih j hj (by omega))] at this
      cases this
    · rfl

theorem mem_ready_iff {l : List Oper} {listed : Array Bool} {L : Nat → Bool} (hs : listed.size = l.length) (hL : ∀ i, listed.getD i false = L i) (i : Nat) :
    i ∈ Region.ready .any l.toArray listed ↔ i < l.length ∧ L i = false ∧ depsB l L i = true := by
  unfold Region.ready depsB
  simp only [List.mem_filter, List.mem_range, List.size_toArray, Bool.and_eq_true, Bool.not_eq_true', List.getElem?_toArray, hL]
  constructor
  · rintro ⟨h1, h2, h3⟩
    refine ⟨h1, ?_, h3⟩
    rw [← hL, ← h2]
    simp [Array.getD, hs, h1]
  · rintro ⟨h1, h2, h3⟩
    refine ⟨h1, ?_, h3⟩
    rw [← h2, ← hL]
    simp [Array.getD, hs, h1]

theorem wpAny_inv {l : List Oper} (hE : earlierB l = true) (I : (Nat → Bool) → Act → World → Prop)
    (step : ∀ L i a w, I L a w → i < l.length → L i = false → depsB l L i = true → wpOp P l.toArray Q i (I (fun j => L j || j == i)) a w)
    (done : ∀ L a w, (∀ i, i < l.length → L i = true) → I L a w → Q .normal a w) :
    ∀ (f : Nat) (listed : Array Bool) (L : Nat → Bool) (a : Act) (w : World), listed.size = l.length → (∀ i, listed.getD i false = L i) → (List.range l.length).countP (fun i => !L i) ≤ f → I L a w → wpAny P .any l.toArray Q f listed a w := by
  intro f
  induction f with
  | zero =>
    intro listed L a w hs hL hc hI
    have hall : ∀ i, i < l.length → L i = true := by
      intro i hi
      have := List.countP_eq_zero.1 (Nat.le_zero.1 hc) i (List.mem_range.2 hi)
      simpa using this
    refine ⟨List.eq_nil_iff_forall_not_mem.2 fun i hi => ?_, done L a w hall hI⟩
    obtain ⟨h1, h2, _⟩ := (mem_ready_iff hs hL i).1 hi
    rw [hall i h1] at h2; cases h2
  | succ f ih =>
    intro listed L a w hs hL hc hI
    refine ⟨fun hr => done L a w (all_listed hE fun i hi h => ?_) hI, fun i hi => ?_⟩
    · cases hd : depsB l L i
      · rfl
      · have := (mem_ready_iff hs hL i).2 ⟨hi, h, hd⟩
        rw [hr] at this; cases this
    · obtain ⟨h1, h2, h3⟩ := (mem_ready_iff hs hL i).1 hi
      have := step L i a w hI h1 h2 h3
      refine wpOp_mono (fun a w h => ih _ (fun j => L j || j == i) a w (by simp [hs]) (fun j => ?_) ?_ h) this
      · rw [← hL]
        simp only [Array.getD_eq_getD_getElem?, Array.getElem?_setIfInBounds]
        by_cases e : i = j
        · subst e; simp [hs, h1]
        · have : (j == i) = false := by simp; omega
          simp [e, this]
      · have := countP_strict (p := fun j => !L j) (q := fun j => !(L j || j == i)) (List.range l.length) i (fun y hy => by simp at hy ⊢; exact hy.1) (List.mem_range.2 h1) (by simp [h2]) (by simp)
        omega

theorem wp_region_inv {id : Nat} {l : List Oper} {a : Act} {w : World} (hm : P.follows .mixedOrders = true) (hE : earlierB l = true) (I : (Nat → Bool) → Act → World → Prop) (h0 : I (fun _ => false) a w.drew)
    (step : ∀ L i a w, I L a w → i < l.length → L i = false → depsB l L i = true → wpOp P l.toArray Q i (I (fun j => L j || j == i)) a w)
    (done : ∀ L a w, (∀ i, i < l.length → L i = true) → I L a w → Q .normal a w) : (Code.region id l.toArray true).wp P Q a w := by
  refine wp_region_any hm (wpAny_inv hE I step done _ _ (fun _ => false) _ _ (by simp) (fun i => ?_) ?_ h0)
  · exact getD_replicate_false _ _
  · refine Nat.le_trans (List.countP_le_length) ?_
    simp

theorem wp_post {o : Oper} {a : Act} {w : World} {K : Act → World → Prop} {Q Q' : Exit → Act → World → Prop} (hq : ∀ e a w, e ≠ .normal → Q e a w → Q' e a w) (hh : o.wp P a w K Q) : o.wp P a w K Q' := by
  have hL : LetsOut Q → LetsOut Q' := fun ⟨b, v, h⟩ => ⟨b, v, hq _ _ _ (by simp) h⟩
  unfold Oper.wp at *
  generalize (execOp a.eval o).run P w = r at *
  cases r with
  | ok r w' =>
    cases r <;> simp only [Oper.upon] at hh ⊢ <;> try exact hh
    case enter f args =>
      exact Calls.mono hh fun e w'' he => by
        cases e with
        | returned v => exact he
        | panicked c => exact hq _ _ _ (by simp) he
        | outgrown => exact hL he
  | halt x w' =>
    cases x <;> simp only [Oper.upon] at hh ⊢
    case panic v => exact hq _ _ _ (by simp) hh

/-- One operation. -/
theorem wpOp_list {ops : Array Oper} {i : Nat} {o : Oper} {K : Act → World → Prop} {a : Act} {w : World} (ho : ops[i]? = some o) (h : wpList P ops (fun e a w => (e = .normal → K a w) ∧ (e ≠ .normal → Q e a w)) [o] a w) : wpOp P ops Q i K a w := by
  unfold wpOp
  unfold wpList at h
  simp only [ho]
  split at h
  · rename_i hw
    rw [if_pos hw]
    rcases h with h | ⟨h1, b, v, h2⟩
    · left
      refine Oper.wp_mono (fun a w h => ?_) (wp_post (fun e a w he h => h.2 he) h)
      exact h.1 rfl
    · exact .inr ⟨h1, b, v, h2.2 (by simp)⟩
  · rename_i hw
    rw [if_neg hw]
    exact h.1 rfl

end Go.Proofs.YtimcbmgmngkagaaDoor

namespace Go.Proofs.YtimcbmgmngkagaaDoor
open Go.RowKit
attribute [local go_sem] Oper.semAt_some

theorem order_facts {w : World} {a : Bool} {p : Option Addr} {n c : Nat} {xs : List Nat} {x : Int} {L : Nat} (hx : NumIs w a p n c xs x L) : (n = 0 → dv BW xs = 0) ∧ (0 < n → 0 < dv BW xs) := by
  refine ⟨fun h => ?_, fun h => ?_⟩
  · rw [List.length_eq_zero_iff.1 (hx.rd.1.trans h)]; rfl
  · exact hx.cn.pos (by decide) (by intro e; have := hx.rd.1; rw [e] at this; simp at this; omega)

end Go.Proofs.YtimcbmgmngkagaaDoor
