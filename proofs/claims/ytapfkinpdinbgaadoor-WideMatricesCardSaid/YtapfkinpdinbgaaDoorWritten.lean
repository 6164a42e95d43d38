/-
  A number is written as a string.
-/
import Derived.Test.YtapfkinpdinbgaaDoorDigits
import Derived.Test.YtapfkinpdinbgaaDoorFmt
import Derived.Test.YtapfkinpdinbgaaDoorDivWord
import Derived.Lib.AppendStr
namespace Go.Proofs.YtapfkinpdinbgaaDoor
open Go.RowKit Go.Shelf Go.Lib
attribute [local go_sem] Oper.semAt_some

/-- The text when some words are written. -/
def wtxt {n : Nat} (xs : List Nat) (sign : List UInt8) (pre : List (Pos n)) : List UInt8 :=
  pre.foldl (fun acc i => (acc ++ (if i.1 < n - 1 then List.replicate (9 - nDigits (xs[i.1]?.getD 0)) 48 else [])) ++ decDigits (xs[i.1]?.getD 0)) sign

theorem wtxt_snoc {n : Nat} (xs : List Nat) (sign : List UInt8) (pre : List (Pos n)) (i : Pos n) :
    wtxt xs sign (pre ++ [i]) = (wtxt xs sign pre ++ (if i.1 < n - 1 then List.replicate (9 - nDigits (xs[i.1]?.getD 0)) 48 else [])) ++ decDigits (xs[i.1]?.getD 0) := by
  unfold wtxt; rw [List.foldl_append]; rfl

theorem wtxt_says {n : Nat} {xs : List Nat} (sign : List UInt8) (hx : xs.length = n) (gx : Cn BW xs) : ∀ k, 1 ≤ k → k ≤ n →
    0 < dv BW (xs.drop (n - k)) ∧ wtxt xs sign (upto (dnAt n) k) = sign ++ decDigits (dv BW (xs.drop (n - k))) := by
  intro k
  induction k with
  | zero => intro h; omega
  | succ k ih =>
    intro _ hk
    have e : (dnAt n k).1 = n - (k + 1) := by simp only [dnAt]; omega
    have e2 : n - (k + 1) + 1 = n - k := by omega
    have hg : xs[n - (k + 1)]?.getD 0 = xs[n - (k + 1)] := by simp [show n - (k + 1) < xs.length by omega]
    have hd : xs.drop (n - (k + 1)) = xs[n - (k + 1)] :: xs.drop (n - k) := by rw [List.drop_eq_getElem_cons (by omega), e2]
    rw [upto_succ, wtxt_snoc, e, hg, hd, dv_cons]
    by_cases h0 : k = 0
    · subst h0
      have hdn : xs.drop (n - 0) = [] := List.drop_of_length_le (by omega)
      have htop : xs[n - (0 + 1)] ≠ 0 := by
        have := gx.2
        unfold Tp at this
        rw [List.getLast?_eq_getElem?, hx, List.getElem?_eq_getElem (by omega)] at this
        simpa using this
      rw [hdn, if_neg (by omega)]
      simp only [upto, List.range_zero, List.map_nil, wtxt, List.foldl_nil, dv, Nat.mul_zero, Nat.add_zero, List.append_nil, Nat.zero_add] at *
      exact ⟨by omega, trivial⟩
    · obtain ⟨i1, i2⟩ := ih (by omega) (by omega)
      refine ⟨by have := Nat.mul_pos (show 0 < BW by decide) i1; omega, ?_⟩
      rw [i2, if_pos (by omega), decDigits_word i1 (gx.1 _ (List.getElem_mem _))]
      simp [List.append_assoc]

theorem wtxt_length {n : Nat} {xs : List Nat} (sign : List UInt8) (gx : Dg BW xs) (pre : List (Pos n)) : (wtxt xs sign pre).length ≤ sign.length + 9 * pre.length := by
  unfold wtxt
  induction pre generalizing sign with
  | nil => simp
  | cons i pre ih =>
    have h1 : nDigits (xs[i.1]?.getD 0) ≤ 9 := nDigits_le (by decide) (gx.get (by decide) i.1)
    rw [List.foldl_cons]
    refine Nat.le_trans (ih _) ?_
    simp only [List.length_append, decDigits_length, List.length_cons]
    split <;> simp <;> omega

/-- A variable of two cells. -/
def Boxed2 (W : World) (B : Nat) (a b : Value) (t : TypeId) : Prop := W.heap[B]? = some (.cells #[a, b] t (0, 0))
theorem Boxed2.cell0 {W : World} {B : Nat} {a b : Value} {t : TypeId} (h : Boxed2 W B a b t) : W.cell? ⟨B, 0, none⟩ = some a := by unfold Boxed2 at h; simp [World.cell?, h]
theorem Boxed2.cell1 {W : World} {B : Nat} {a b : Value} {t : TypeId} (h : Boxed2 W B a b t) : W.cell? ⟨B, 1, none⟩ = some b := by unfold Boxed2 at h; simp [World.cell?, h]
theorem Boxed2.lt {W : World} {B : Nat} {a b : Value} {t : TypeId} (h : Boxed2 W B a b t) : B < W.heap.size := by unfold Boxed2 at h; exact (Array.getElem?_eq_some_iff.1 h).1
theorem Boxed2.below {W W' : World} {B C : Nat} {a b : Value} {t : TypeId} (h : Boxed2 W B a b t) (hb : Below C W W') (hC : B < C) : Boxed2 W' B a b t := by unfold Boxed2 at h ⊢; rw [hb.block B hC]; exact h
theorem Boxed2.kept {A A' : World} {B : Nat} {a b : Value} {t : TypeId} (h : Boxed2 A B a b t) {row : Option Nat} (hg : A.grownBy A' row) (hr : ∀ r, row = some r → ∃ o : Obj, A.heap[r]? = some o ∧ o.isCells = false) : Boxed2 A' B a b t := by
  unfold Boxed2 at h ⊢
  rw [hg.block B (Array.getElem?_eq_some_iff.1 h).1 (fun e' => by obtain ⟨o, ho, hc⟩ := hr B e'.symm; rw [h] at ho; cases ho; cases hc)]
  exact h

theorem grown_of_below {W W' : World} (h : Below W.heap.size W W') : W.grownBy W' none := ⟨h.os, h.tape, h.output, h.size, fun k hk _ => h.block k hk⟩

theorem ownsRow_form {W : World} {base : Nat} {e : TypeId} {size : Nat} {v : Value} {k : Nat} {xs : List Value} (h : W.ownsRow base e size v k xs) : ∃ a c, v = .slice a k c := by
  rcases h.2 with ⟨rfl, rfl⟩ | ⟨g, cap, _, rfl, _⟩
  · exact ⟨none, 0, rfl⟩
  · exact ⟨some ⟨g, 0, none⟩, cap, rfl⟩

theorem own_below {W W' : World} {base : Nat} {e : TypeId} {size : Nat} {v : Value} {k : Nat} {xs : List Value} (h : W.ownsRow base e size v k xs) (hb : Below W.heap.size W W') : W'.ownsRow base e size v k xs :=
  h.kept (grown_of_below hb) (by by_cases e : v.ownBlock = none; exact .inl e; exact .inr e)

/-- text = append(text, s...): what the walk owes. -/
theorem appendedS {W w1 : World} {n₀ B : Nat} {t e : TypeId} {v v' : Value} {k m : Nat} {xs ys : List Value}
    (hv : Boxed W B t v) (hte : t ≠ e) (hrow : W.ownsRow n₀ e 1 v k xs) (hn₀ : n₀ ≤ W.heap.size) (hB : n₀ ≤ B)
    (hown' : w1.ownsRow n₀ e 1 v' m ys) (hgrow : W.grownBy w1 v.ownBlock) :
    Boxed w1 B t v ∧ Boxed (w1.setCell ⟨B, 0, none⟩ v') B t v' ∧ (w1.setCell ⟨B, 0, none⟩ v').ownsRow n₀ e 1 v' m ys ∧ KeepsOthers W (w1.setCell ⟨B, 0, none⟩ v') ∧ Below n₀ W (w1.setCell ⟨B, 0, none⟩ v') := by
  have hv1 : Boxed w1 B t v := hv.kept hgrow (hv.not_row hte hrow)
  refine ⟨hv1, hv1.set v', hown'.kept (grownBy_setCell' w1 B v') (.inr (hv1.not_row hte hown').symm), ?_, ?_⟩
  · refine (KeepsOthers.of_grownBy hgrow fun j o ej hj => ?_).trans (KeepsOthers.setCell _ _ _)
    rcases hrow.2 with ⟨rfl, _⟩ | ⟨g, cap, cur, rfl, _, hgb, _⟩
    · simp [Value.ownBlock] at ej
    · obtain rfl : g = j := by simpa [Value.ownBlock] using ej
      rw [hgb] at hj; cases hj; rfl
  · refine ((Below.refl n₀ W).grown hgrow hn₀ fun j ej => ?_).setCell (p := ⟨B, 0, none⟩) hB v'
    rcases hrow.2 with ⟨rfl, _⟩ | ⟨g, cap, cur, rfl, hb, _, _⟩
    · simp [Value.ownBlock] at ej
    · obtain rfl : g = j := by simpa [Value.ownBlock] using ej
      exact hb

theorem appended_keeps {W w1 : World} {n₀ B C : Nat} {t e : TypeId} {v v' u : Value} {k : Nat} {xs : List Value} (hC : Boxed W C t u) (hte : t ≠ e) (hrow : W.ownsRow n₀ e 1 v k xs) (hgrow : W.grownBy w1 v.ownBlock) (hne : B ≠ C) :
    (w1.setCell ⟨B, 0, none⟩ v').heap[C]? = W.heap[C]? :=
  (Below.heap_setCell _ _ _ _ (fun e => hne e.symm)).trans (hgrow.block C hC.lt (hC.not_row hte hrow))

/-- Bytes as cells. -/
def bcells (l : List UInt8) : List Value := l.map fun b => Value.int .u8 b.toNat
theorem bcells_append (a b : List UInt8) : bcells (a ++ b) = bcells a ++ bcells b := by simp [bcells]

theorem Tryd.info5 : (Tryd.prog.info? 5).map (fun i => (i.zero, i.size, i.bytes)) = some (some (.int .u8 0), 1, 1) := by kernel_rfl

/-- make([]byte, 0, len*9+1) -/
theorem mkText (n : Nat) (hn : n ≤ 1000000000) (w : World) : ∃ w', (Instr.makeSlice 60 (.int .i64 0) (.int .i64 ((n : Int) * 9 + 1))).run Tryd.prog w = .ok (.slice (some ⟨w.heap.size, 0, none⟩) 0 (n * 9 + 1)) w' ∧
    w'.ownsRow w.heap.size 5 1 (.slice (some ⟨w.heap.size, 0, none⟩) 0 (n * 9 + 1)) 0 [] ∧ w.grownBy w' none := by
  obtain ⟨i0, hi, hz0, hz1, hz2⟩ := info_parts Tryd.info5
  have := run_make_own (P := Tryd.prog) w w.heap.size 60 5 i0 (.int .u8 0) 1 Tryd.underlying60 hi hz0 hz1 .i64 .i64 (n * 9 + 1) (by rw [hz2]; omega) (by unfold maxLen; omega) (Nat.le_refl _)
  have e : ((n * 9 + 1 : Nat) : Int) = (n : Int) * 9 + 1 := by omega
  rw [e] at this; exact this

theorem mkLt {w w3 : World} {t : TypeId} {x : Value} {B c : Nat} (h : (Instr.makeSlice t (.int .i64 0) x).run Tryd.prog w = .ok (.slice (some ⟨B, 0, none⟩) 0 c) w3)
    (hown : w3.ownsRow B 5 1 (.slice (some ⟨B, 0, none⟩) 0 c) 0 []) : B < w3.heap.size := by
  rcases hown.2 with ⟨e, _⟩ | ⟨g, cap, cur, e, _, hg, _⟩
  · cases e
  · cases e; exact (Array.getElem?_eq_some_iff.1 hg).1

/-- append(text, '-') -/
theorem run_minus {W : World} {base B : Nat} {v : Value} (hown : W.ownsRow base 5 1 v 0 []) (hc : W.cell? ⟨B, 0, none⟩ = some (.int .u8 45)) (hbase : base ≤ W.heap.size) :
    ∃ v' w', (Builtin.append_ #[60, 60] 60 #[v, .slice (some ⟨B, 0, none⟩) 1 1]).run Tryd.prog W = .ok v' w' ∧ w'.ownsRow base 5 1 v' 1 (bcells [45]) ∧ W.grownBy w' v.ownBlock := by
  obtain ⟨i0, hi, hz0, hz1, hz2⟩ := info_parts Tryd.info5
  obtain ⟨v', w', h1, h2, h3, _⟩ := run_append_own (P := Tryd.prog) W base 60 60 5 i0 (.int .u8 0) 1 1 Tryd.underlying60 hi hz0 hz1 hz2 rfl (by decide) v 0 [] hown ⟨B, 0, none⟩ 1 1 [.int .u8 45] rfl
    (by intro j u hj; match j, hj with | 0, hj => simp at hj; subst hj; simpa [Addr.add] using hc) (by simp [Value.oneCell']) (by unfold maxLen; omega) (by omega) hbase
  exact ⟨v', w', h1, h2, h3⟩

theorem strCells_of (l : List UInt8) : strCells ⟨l.toArray⟩ = bcells l := rfl

/-- append(text, s...) -/
theorem run_text {w : World} {base : Nat} {v : Value} {l : List UInt8} (hown : w.ownsRow base 5 1 v l.length (bcells l)) (r : List UInt8) (hb : l.length + r.length ≤ 1000000000000) (hbase : base ≤ w.heap.size) :
    ∃ v' w', (Builtin.append_ #[60, 9] 60 #[v, .string ⟨r.toArray⟩]).run Tryd.prog w = .ok v' w' ∧ w'.ownsRow base 5 1 v' (l ++ r).length (bcells (l ++ r)) ∧ w.grownBy w' v.ownBlock := by
  obtain ⟨i0, hi, hz0, hz1, hz2⟩ := info_parts Tryd.info5
  have hsz : (⟨r.toArray⟩ : ByteArray).size = r.length := by show r.toArray.size = _; simp
  obtain ⟨v', w', h1, h2, h3, _⟩ := run_append_own_string (P := Tryd.prog) w base 60 9 60 5 i0 Tryd.underlying60 Tryd.underlying9 hi hz0 hz1 hz2 v l.length (bcells l) hown ⟨r.toArray⟩ (by rw [hsz]; unfold maxLen; omega) (by rw [hsz]; omega) hbase
  refine ⟨v', w', h1, ?_, h3⟩
  rw [hsz, strCells_of, ← bcells_append] at h2
  rw [List.length_append]; exact h2

theorem itoa_sv (neg : Bool) (d : Nat) (h : neg = true → 0 < d) : itoa (sv neg d) = (if neg then [45] else []) ++ decDigits d := by
  cases neg
  · simp [sv, itoa_nonneg]
  · rw [show sv true d = -(d : Int) from rfl, itoa_neg d (h rfl)]; rfl

theorem zeros_at : ∀ k : Nat, k < 10 → (ByteArray.mk #[48, 48, 48, 48, 48, 48, 48, 48, 48]).extract k 9 = ⟨(List.replicate (9 - k) 48).toArray⟩ := by decide +kernel

/-- wordZeros[k:] -/
theorem zeros_slice (k : Nat) (hk : k ≤ 9) (W : World) : (Instr.sliceAt 9 (.string ⟨#[48, 48, 48, 48, 48, 48, 48, 48, 48]⟩) (some (.int .i64 (k : Int))) none none).run Tryd.prog W = .ok (.string ⟨(List.replicate (9 - k) 48).toArray⟩) W := by
  rw [run_sliceAt_string W 9 _ _ _ _ Tryd.underlying9, run_slice_string_l W 9 _ Tryd.underlying9 .i64 (k : Int) (by omega) (by show (k : Int) ≤ 9; omega)]
  exact congrArg (fun b => Result.ok (Value.string b) W) (zeros_at k (by omega))

/-- string(text) -/
theorem text_convert {W : World} {base : Nat} {a : Option Addr} {c : Nat} {l : List UInt8} (hown : W.ownsRow base 5 1 (.slice a l.length c) l.length (bcells l)) (hl : l ≠ []) :
    (Go.convert 60 9 (.slice a l.length c)).run Tryd.prog W = .ok (.string ⟨l.toArray⟩) W := by
  rcases hown.2 with ⟨_, e⟩ | ⟨g, cap, cur, e, _, hg, _, _, _, ht⟩
  · exact absurd (List.length_eq_zero_iff.1 e) hl
  · simp only [Value.slice.injEq] at e
    obtain ⟨rfl, _, rfl⟩ := e
    refine run_convert_bytes_back (P := Tryd.prog) W 60 9 5 ⟨g, 0, none⟩ c l Tryd.underlying60 Tryd.underlying5 Tryd.underlying9 (fun j hj => ?_)
    have h1 : (cur.toList.take (l.length * 1))[j]? = (bcells l)[j]? := by rw [ht]
    rw [List.getElem?_take_of_lt (by omega), Array.getElem?_toList] at h1
    rw [Lib.add_plain]
    simp only [World.cell?, hg, Nat.zero_add]
    simp only [bcells, List.getElem?_map, List.getElem?_eq_getElem hj, Option.map_some] at h1
    simpa using h1

/-- Too long for a number. -/
def longB (z : Int) : Bool := decide (2000 < nd0 z.natAbs)
/-- What is written: the string, the error. -/
def outS (z : Int) : List UInt8 := if longB z then [] else itoa z
def outE (z : Int) : Int := if longB z then 2 else 0

theorem ret_strE {l l' : List UInt8} {n n' : Int} (h1 : l = l') (h2 : n = n') : Ending.returned (.tuple #[.string ⟨l.toArray⟩, .int .i64 n]) = .returned (.tuple #[.string ⟨l'.toArray⟩, .int .i64 n']) := by rw [h1, h2]

def WrittenIs (w : World) (z : Int) (e : Ending) (w' : World) : Prop := e = .returned (.tuple #[.string ⟨(outS z).toArray⟩, .int .i64 (outE z)]) ∧ Below w.heap.size w w'

set_option maxHeartbeats 1000000 in
theorem written_zero (neg : Bool) (p : Option Addr) (c : Nat) (xs : List Nat) (z : Int) (L : Nat) (w : World) (hx : NumIs w neg p 0 c xs z L) :
    Calls Tryd.prog 50 #[.agg #[.bool neg, .slice p 0 c]] w (WrittenIs w z) := by
  have hb0 : Below w.heap.size w (w.alloc (.cells #[.bool neg, .slice p 0 c] 79)) := (Below.refl _ w).alloc (Nat.le_refl _) _
  have hx0 : xs = [] := List.length_eq_zero_iff.1 hx.rd.1
  have hz : z = 0 := by rw [hx.val, hx0]; cases neg <;> rfl
  have h1 : outS z = [48] := by rw [hz]; decide +kernel
  have h2 : outE z = 0 := by rw [hz]; decide +kernel
  have H1 := Lib.hid h1
  have H2 := Lib.hid h2
  clear hx h1 h2 hz hx0
  go_enter Tryd.func50, Tryd.ntmps50
  go_wp2_with (go_at_call 63; refine (isZero_any _ _ _ _ _ (by decide)).mono ?_; rintro e w1 ⟨rfl, hb1⟩)
  go_ret2
  exact ⟨ret_strE H1.out.symm H2.out.symm, hb0.trans (hb1.mono (by simp))⟩

set_option maxHeartbeats 1000000 in
theorem written_long (neg : Bool) (p : Option Addr) (n c : Nat) (xs : List Nat) (z : Int) (L : Nat) (w : World) (hx : NumIs w neg p n c xs z L) (hL : L ≤ 1000000000) (h0 : 0 < n) (hl : longB z = true) :
    Calls Tryd.prog 50 #[.agg #[.bool neg, .slice p n c]] w (WrittenIs w z) := by
  have hb0 : Below w.heap.size w (w.alloc (.cells #[.bool neg, .slice p n c] 79)) := (Below.refl _ w).alloc (Nat.le_refl _) _
  have y0 : w.heap.size < (w.alloc (.cells #[.bool neg, .slice p n c] 79)).heap.size := by simp
  have hx1 := hx.below hb0
  have hn := Nat.le_trans hx.len hL
  have h1 : outS z = [] := by unfold outS; rw [if_pos hl]
  have h2 : outE z = 2 := by unfold outE; rw [if_pos hl]
  have h3 : (n == 0) = false := by simp; omega
  obtain ⟨k, hk⟩ : ∃ k, nd0 (dv BW xs) = k := ⟨_, rfl⟩
  have h4 : (2000 : Int) < (k : Int) := by
    unfold longB at hl
    rw [hx.val, sv_natAbs, hk] at hl
    simp at hl; omega
  have H1 := Lib.hid h1
  have H2 := Lib.hid h2
  have HK := Lib.hid hk
  have HX := Lib.hid hx1
  clear hx hx1 h1 h2 hl hk
  go_enter Tryd.func50, Tryd.ntmps50
  go_wp2_with (first
    | (go_at_call 63; refine (isZero_any _ _ _ _ _ (by unfold maxLen; omega)).mono ?_; rintro e w1 ⟨rfl, hb1⟩; obtain ⟨hc1, hf1⟩ := bcell hb1)
    | (go_at_call 71; refine (digits_any _ _ _ _ xs _ hn (HX.out.below hb1).rd HX.out.cn).mono ?_; rintro e w2 ⟨rfl, hb2⟩; rw [HK.out]))
  go_ret2
  exact ⟨ret_strE H1.out.symm H2.out.symm, (hb0.trans (hb1.mono (by simp))).trans (hb2.mono (by have := hb1.size; simp at this; omega))⟩

set_option maxRecDepth 100000 in
set_option maxHeartbeats 2000000 in
theorem written_ok (neg : Bool) (p : Option Addr) (n c : Nat) (xs : List Nat) (z : Int) (L : Nat) (w : World) (hx : NumIs w neg p n c xs z L) (hL : L ≤ 1000000000) (h0 : 0 < n) (hl : longB z = false) (htab : Tab w) :
    Calls Tryd.prog 50 #[.agg #[.bool neg, .slice p n c]] w (WrittenIs w z) := by
  have hb0 : Below w.heap.size w (w.alloc (.cells #[.bool neg, .slice p n c] 79)) := (Below.refl _ w).alloc (Nat.le_refl _) _
  have hbx : Boxed2 (w.alloc (.cells #[.bool neg, .slice p n c] 79)) w.heap.size (.bool neg) (.slice p n c) 79 := World.alloc_heap_new w _
  have hx1 := hx.below hb0
  have hn := Nat.le_trans hx.len hL
  have hne : xs ≠ [] := by intro e; have := hx.rd.1; rw [e] at this; simp at this; omega
  have h1 : outS z = (if neg then [45] else []) ++ decDigits (dv BW xs) := by
    unfold outS; rw [if_neg (by rw [hl]; simp), hx.val]
    exact itoa_sv neg _ (fun _ => hx.cn.pos (by decide) hne)
  have h2 : outE z = 0 := by unfold outE; rw [if_neg (by rw [hl]; simp)]
  have h3 : (n == 0) = false := by simp; omega
  obtain ⟨k, hk⟩ : ∃ k, nd0 (dv BW xs) = k := ⟨_, rfl⟩
  have h4 : ¬ (2000 : Int) < (k : Int) := by
    unfold longB at hl
    rw [hx.val, sv_natAbs, hk] at hl
    simp at hl; omega
  have H1 := Lib.hid h1
  have H2 := Lib.hid h2
  have HK := Lib.hid hk
  have HX := Lib.hid hx1
  have HX0 := Lib.hid hx
  have HB := Lib.hid hbx
  clear hx hx1 h1 h2 hl hk hne hbx
  refine (callsIn_wide (n := 6)).1 ?_
  refine callsIn_of_wp_marks Tryd.func50 rfl trivial ?_ rfl
  simp only [Tryd.ntmps50, List.size_toArray, List.length_cons, List.length_nil, Nat.reduceAdd, Nat.reduceSub, Array.replicate_succ, Array.replicate_zero, List.push_toArray, List.append_toArray, List.nil_append, List.cons_append]
  refine wpIn_wide.2 ?_
  go_upto_if 20 with (first
    | (go_at_call 63; refine (isZero_any _ _ _ _ _ (by unfold maxLen; omega)).mono ?_; rintro e w1 ⟨rfl, hb1⟩; obtain ⟨hc1, hf1⟩ := bcell hb1)
    | (go_at_call 71; refine (digits_any _ _ _ _ xs _ hn (HX.out.below hb1).rd HX.out.cn).mono ?_; rintro e w2 ⟨rfl, hb2⟩; rw [HK.out]; have hB2 := (HB.out.below hb1 HB.out.lt).below hb2 (Nat.lt_of_lt_of_le HB.out.lt hb1.size); have b0 := hB2.cell0; have b1 := hB2.cell1; obtain ⟨w3, hmk, hown0, hg0⟩ := mkText n (by omega) w2;
        have hB3 := Boxed2.kept hB2 hg0 (fun r e => by cases e); have d0 := hB3.cell0; have d1 := hB3.cell1; have z3 := hB3.lt; have hL3 := mkLt hmk hown0))
  have hBw3 : Below w.heap.size w w3 := ((hb0.trans (hb1.mono (by simp))).trans (hb2.mono (by have := hb1.size; simp at this; omega))).grown hg0 (Nat.le_of_lt hB2.lt) (fun k e => by cases e)
  have hX3 : Rd .u64 w3 p n xs := ((HX.out.below hb1).below hb2).rd.below ((Below.refl w2.heap.size w2).grown hg0 (Nat.le_refl _) (fun k e => by cases e))
  go_cut [] from 8 to 23 (fun wx => ∃ v, Boxed wx w3.heap.size 60 v ∧ wx.ownsRow w2.heap.size 5 1 v (if neg then [45] else [] : List UInt8).length (bcells (if neg then [45] else [])) ∧ Below w.heap.size w wx ∧ Boxed2 wx w.heap.size (.bool neg) (.slice p n c) 79)
  case first =>
    cases neg
    · go_wp2
      go_meet
      exact ⟨_, Boxed.new w3 _ _, hown0.alloc _, hBw3.alloc hBw3.size _, Boxed2.kept hB3 (World.grownBy_alloc w3 _ none) (fun r e => by cases e)⟩
    · obtain ⟨i0, hi, hz0, hz1, hz2⟩ := info_parts Tryd.info5
      go_wp2_with (at_builtin; refine wpList_append_own _ rfl _ _ 60 rfl w2.heap.size 5 i0 (.int .u8 0) 1 1 Tryd.underlying60 hi hz0 hz1 hz2 rfl (by decide) _ _ _ rfl ((hown0.alloc _).alloc _) ⟨w3.heap.size + 1, 0, none⟩ 1 1 [.int .u8 45] rfl rfl ?c1 ?c2 ?c3 ?c4 ?c5 ?_)
      case c2 => simp [Value.oneCell']
      case c3 => unfold maxLen; omega
      case c5 => omega
      intro v4 w4 hown4 hg4 _
      obtain ⟨g', cap', rfl⟩ := ownsRow_succ hown4
      obtain ⟨a1, a2, a3, a4, a5⟩ := (Boxed.new w3 60 (.slice (some ⟨w2.heap.size, 0, none⟩) 0 (n * 9 + 1))).appended (n₀ := w2.heap.size) (by decide) (hown0.alloc _) (by simp <;> omega) (by omega) hown4 hg4
      have e1 := a1.cell
      have e2 := a1.frozen
      go_wp2
      go_meet
      exact ⟨_, a2, a3, (hBw3.alloc hBw3.size _).trans (a5.mono (Nat.le_of_lt hB2.lt)), (Boxed2.kept hB3 (World.grownBy_alloc w3 _ none) (fun r e => by cases e)).below a5 hB2.lt⟩
  case rest =>
    obtain ⟨v, k4, hown, hBx, k0⟩ := hcut
    have x0 := k0.cell0
    have x1 := k0.cell1
    have hX4 := HX0.out.rd.below hBx
    go_wp2_with (go_at_call 72; refine (callsIn_wide.1 (down_in Fence.wide 6 trivial rfl _ _ _ _)).mono ?_; rintro e w' ⟨rfl, rfl⟩)
    refine (wpIn_wide (n := 6)).1 ?_
    have hz4 : w3.heap.size < wc.heap.size := k4.lt
    have hz0 : w.heap.size < wc.heap.size := k0.lt
    have hz2 : w2.heap.size ≤ wc.heap.size := by omega
    have hz20 : w.heap.size < w2.heap.size := hB2.lt
    obtain ⟨sign, hsign⟩ : ∃ sign : List UInt8, (if neg then [45] else [] : List UInt8) = sign := ⟨_, rfl⟩
    have hsl : sign.length ≤ 1 := by rw [← hsign]; cases neg <;> simp
    rw [hsign] at hown
    have HSG := Lib.hid hsign
    clear hsign
    have hc5 := Boxed.new wc 77 (.slice p n c)
    have hB5 : Below w.heap.size w (wc.alloc (.cells #[.slice p n c] 77)) := hBx.alloc (Nat.le_of_lt hz0) _
    refine wpIn_rangeFunc_ownF rfl (by omega) (gf := 98) (lb := #[.pointer (some ⟨wc.heap.size, 0, none⟩)]) rfl trivial (enters_of Tryd.func98 (by kernel_rfl) rfl)
      (down_stops Fence.wide 5 trivial rfl (by omega) wc.heap.size n c (fun b => b < w.heap.size ∨ b = wc.heap.size) p xs hn _ (fun b hb => by simp; omega) hc5.cell (Or.inr rfl) hX4.1
        (fun i hi => by obtain ⟨b, off, hp, hb, hcl⟩ := HX0.out.rd.2 i hi; exact ⟨b, off, hp, Or.inl hb, (hB5.cell (p := ⟨b, off + i, none⟩) hb).trans hcl⟩))
      KeepsAt.trans (KeepsAt.putObj (fun b hb => by simp; omega)) (Below.refl _ _) (fun _ => rfl)
      (fun pre W => ((∃ v, Boxed W w3.heap.size 60 v ∧ W.ownsRow w2.heap.size 5 1 v (wtxt xs sign pre).length (bcells (wtxt xs sign pre)) ∧ True) ∧ Boxed2 W w.heap.size (.bool neg) (.slice p n c) 79 ∧ Boxed W wc.heap.size 77 (.slice p n c)) ∧ Below w.heap.size w W)
      (fun _ _ _ => False)
      (OwnFrom.and (Own.from (fun s A B row hs hg hr => ⟨holdsRow_own w2.heap.size w3.heap.size 60 5 1 (fun pre => (wtxt (n := n) xs sign pre).length) (fun pre => bcells (wtxt xs sign pre)) (fun _ _ => True) s A B row hs.1 hg hr, Boxed2.kept hs.2.1 hg hr, Boxed.kept' hs.2.2 hg hr⟩) _) (ownFrom_below (Nat.le_refl _) (by simp <;> omega)))
      (fun _ _ _ _ _ hs _ _ => hs)
      ⟨⟨⟨v, k4.alloc _, hown.alloc _, trivial⟩, Boxed2.kept k0 (World.grownBy_alloc wc _ none) (fun r e => by cases e), hc5⟩, hB5⟩
      (fun x => { tmps := #[.agg #[.bool neg, .slice p n c], .pointer (some ⟨w.heap.size, 0, none⟩), .string ⟨#[]⟩, .int .i64 0, .pointer (some ⟨w3.heap.size, 0, none⟩), .int .i64 (x.1 : Int), .int .u64 ((xs[x.1]?.getD 0 : Nat) : Int), undef, u8, u9, u10, u11, u12, u13,
          u14, u15, u16, u17, u18, u19, u20, u21, u22, u23, .pointer (some ⟨w.heap.size, 1, none⟩), .slice p n c, .func (.func 98) #[] #[.pointer (some ⟨wc.heap.size, 0, none⟩)],
          .int .i64 (x.1 : Int), .int .u64 ((xs[x.1]?.getD 0 : Nat) : Int), undef, undef, undef, undef, undef, undef, undef, undef, undef, undef, undef, undef, undef, undef, undef, undef, undef, undef], defers := [] }) ?assign ?body ?done ?stop
    case assign =>
      intro l x W K hK
      unfold encDn
      gi_wp2
      exact hK
    case body =>
      rintro l pre ⟨i, hi⟩ W ⟨⟨⟨v5, m4, mown, _⟩, m0, mz⟩, hB⟩ hlt
      have hin : i < n := hi (by omega)
      have mz' := mz.lt
      obtain ⟨x, hx⟩ : ∃ x, xs[i]?.getD 0 = x := ⟨_, rfl⟩
      have hxl : x < 1000000000 := by rw [← hx]; exact HX0.out.cn.1.get (by decide) i
      have hT := htab.below hB
      have hTX := wtxt_length sign HX0.out.cn.1 pre
      have hSN := wtxt_snoc xs sign pre (⟨i, hi⟩ : Pos n)
      dsimp only at hSN ⊢
      rw [hx] at hSN ⊢
      obtain ⟨tx, htx⟩ : ∃ tx, wtxt xs sign pre = tx := ⟨_, rfl⟩
      rw [htx] at hTX hSN mown
      have hd9 : nDigits x ≤ 9 := nDigits_le (by decide) (by have : BW = 1000000000 := rfl; omega)
      obtain ⟨dg, hdg⟩ : ∃ dg, decDigits x = dg := ⟨_, rfl⟩
      have hdl : dg.length = nDigits x := by rw [← hdg]; exact decDigits_length x
      rw [hdg] at hSN
      have hsz : (ByteArray.mk dg.toArray).size = dg.length := by show dg.toArray.size = _; simp
      have HSN := Lib.hid hSN
      have q1 := m0.cell1
      clear hx hSN htx
      obtain ⟨i0, ii0, ii1, ii2, ii3⟩ := info_parts Tryd.info5
      by_cases hlast : (i : Int) < (n : Int) - 1
      · gi_wp2_with (refine ⟨trivial, ?_⟩; gi_at_call 73; refine (CallsIn.inRound l (callsIn_wide.2 (formatUint_any x (by omega) _ hT))).mono ?_; rintro e w1 ⟨rfl, hb1⟩; rw [hdg]; have r0 := m0.below hb1 (by omega); have r1 := r0.cell1; have r1' : Boxed2 w1.drew _ _ _ _ := r0; have r4 := Boxed.kept m4 (grown_of_below hb1) (by simp); have r4c := r4.cell; have rown := own_below mown hb1; obtain ⟨a5, c5, rfl⟩ := ownsRow_form rown)
        have hB1 : Below w.heap.size w w1 := hB.trans (hb1.mono (by omega))
        have hz1 := hb1.size
        obtain ⟨pad, hpad⟩ : ∃ pad : List UInt8, List.replicate (9 - nDigits x) 48 = pad := ⟨_, rfl⟩
        have hpl : pad.length = 9 - nDigits x := by rw [← hpad]; simp
        have hsp : (ByteArray.mk pad.toArray).size = pad.length := by show pad.toArray.size = _; simp
        have rown' : w1.drew.ownsRow w2.heap.size 5 1 (.slice a5 tx.length c5) tx.length (bcells tx) := rown
        have hsl := zeros_slice (nDigits x) hd9 w1.drew
        rw [hpad] at hsl
        refine wpIn_still_tail 4 (by kernel_rfl) (by kernel_rfl) (by kernel_rfl) (by rintro ⟨_, _, h⟩; exact h) ?_
        simp only [List.take_succ_cons, List.take_zero, List.drop_succ_cons, List.drop_zero]
        repeat still_step
        refine wpStill_nil ?_
        refine Lib.wpList_append_own_string _ rfl _ _ 60 9 rfl w2.heap.size 5 i0 Tryd.underlying60 Tryd.underlying9 ii0 ii1 ii2 ii3 _ _ _ rfl rown' _ rfl ?l3 ?l4 ?l5 ?_
        case l3 => rw [hsp]; unfold maxLen; omega
        case l4 => rw [hsp]; omega
        case l5 => simp; omega
        intro v6 w6 hown6 hg6 _
        rw [hsp, strCells_of, ← bcells_append, ← List.length_append] at hown6
        obtain ⟨t6, ht6⟩ : ∃ t, tx ++ pad = t := ⟨_, rfl⟩
        obtain ⟨m6, hm6⟩ : ∃ t, t6.length = t := ⟨_, rfl⟩
        have hle6 : m6 ≤ tx.length + 9 := by rw [← hm6, ← ht6, List.length_append]; omega
        rw [ht6, hm6] at hown6
        have HM6 := Lib.hid (And.intro ht6 hm6)
        clear ht6 hm6
        obtain ⟨a6, c6, rfl⟩ := ownsRow_form hown6
        obtain ⟨y1, y2, y3, y4, y5⟩ := appendedS (n₀ := w2.heap.size) (show Boxed w1.drew _ _ _ from r4) (by decide) rown' (by simp; omega) (by omega) hown6 hg6
        have y1f := y1.frozen
        have y1c := y1.cell
        go_wp2
        have hz6 := y5.size
        rw [show w1.drew.heap.size = w1.heap.size from rfl] at hz6
        have r6 := Boxed2.below r1' y5 (by omega)
        have r6c := r6.cell1
        have y2c := y2.cell
        gi_wp2_with (gi_at_builtin; refine wpListIn_of_wpList (by rintro ⟨_, _, h⟩; exact h) _ (by kernel_rfl) _ _ ?_; refine Lib.wpList_append_own_string _ rfl _ _ 60 9 rfl w2.heap.size 5 i0 Tryd.underlying60 Tryd.underlying9 ii0 ii1 ii2 ii3 _ _ _ rfl y3 _ rfl ?m3 ?m4 ?m5 ?_)
        case m3 => rw [hsz]; unfold maxLen; omega
        case m4 => rw [hsz]; omega
        case m5 => omega
        intro v7 w7 hown7 hg7 _
        rw [strCells_of, ← bcells_append, ← hdl] at hown7
        obtain ⟨t7, ht7⟩ : ∃ t, t6 ++ dg = t := ⟨_, rfl⟩
        obtain ⟨m7, hm7⟩ : ∃ t, m6 + dg.length = t := ⟨_, rfl⟩
        rw [ht7, hm7] at hown7
        have HM7 := Lib.hid (And.intro ht7 hm7)
        clear ht7 hm7
        obtain ⟨u1, u2, u3, u4, u5⟩ := appendedS (n₀ := w2.heap.size) y2 (by decide) y3 (by omega) (by omega) hown7 hg7
        have u1f := u1.frozen
        have u1c := u1.cell
        obtain ⟨a7, c7, rfl⟩ := ownsRow_form hown7
        go_wp2
        have hk : KeepsOthers W w1 := .of_grownBy (grown_of_below hb1) fun j o e hj => by cases e
        have hz7 := u5.size
        have q1 : Boxed w1 wc.heap.size 77 (.slice p n c) := Boxed.kept mz (grown_of_below hb1) (by simp)
        have k6 := appended_keeps (B := w3.heap.size) (v' := .slice a6 m6 c6) (show Boxed w1.drew _ _ _ from q1) (by decide) rown' hg6 (by omega)
        have q6 : Boxed _ wc.heap.size 77 (.slice p n c) := k6.trans q1
        have k7 := appended_keeps (B := w3.heap.size) (v' := .slice a7 m7 c7) q6 (by decide) y3 hg7 (by omega)
        have q7 : Boxed _ wc.heap.size 77 (.slice p n c) := k7.trans q6
        obtain ⟨e1, e2⟩ := HM6.out
        obtain ⟨e3, e4⟩ := HM7.out
        have hf : wtxt xs sign (pre ++ [⟨i, hi⟩]) = t7 := by rw [HSN.out, if_pos (by omega), hpad, e1, e3]
        have hl : t7.length = m7 := by rw [← e3, List.length_append, e2, e4]
        refine ⟨((hk.trans (KeepsOthers.drew _)).trans y4).trans u4, ((KeepsAt.of_below hb1 (by rintro b (h | rfl) <;> omega)).trans (show KeepsAt _ w1.drew _ by rintro b (h | rfl); exact y5.block _ (by omega); exact k6)).trans (show KeepsAt _ _ _ by rintro b (h | rfl); exact u5.block _ (by omega); exact k7), ⟨⟨_, u2, ?_, trivial⟩, Boxed2.below r6 u5 (by omega), q7⟩, ((hB1.drew).trans (y5.mono (by omega))).trans (u5.mono (by omega))⟩
        rw [hf, hl]; exact u3
      · gi_wp2_with (first
          | (refine ⟨trivial, ?_⟩; gi_at_call 73; refine (CallsIn.inRound l (callsIn_wide.2 (formatUint_any x (by omega) _ hT))).mono ?_; rintro e w1 ⟨rfl, hb1⟩; rw [hdg]; have r0 := m0.below hb1 (by omega); have r1 := r0.cell1; have r1' : Boxed2 w1.drew _ _ _ _ := r0; have r4 := Boxed.kept m4 (grown_of_below hb1) (by simp); have r4c := r4.cell; have rown := own_below mown hb1; obtain ⟨a5, c5, rfl⟩ := ownsRow_form rown)
          | (gi_at_builtin; refine wpListIn_of_wpList (by rintro ⟨_, _, h⟩; exact h) _ (by kernel_rfl) _ _ ?_; refine Lib.wpList_append_own_string _ rfl _ _ 60 9 rfl w2.heap.size 5 i0 Tryd.underlying60 Tryd.underlying9 ii0 ii1 ii2 ii3 _ _ _ rfl rown _ rfl ?k3 ?k4 ?k5 ?_))
        case k3 => rw [hsz]; unfold maxLen; omega
        case k4 => rw [hsz]; omega
        case k5 => have := hb1.size; omega
        have hB1 : Below w.heap.size w w1 := hB.trans (hb1.mono (by omega))
        have hz1 := hb1.size
        intro v6 w6 hown6 hg6 _
        rw [strCells_of, ← bcells_append, ← hdl, ← List.length_append] at hown6
        obtain ⟨t6, ht6⟩ : ∃ t, tx ++ dg = t := ⟨_, rfl⟩
        obtain ⟨m6, hm6⟩ : ∃ t, t6.length = t := ⟨_, rfl⟩
        rw [ht6, hm6] at hown6
        have HM6 := Lib.hid (And.intro ht6 hm6)
        clear ht6 hm6
        obtain ⟨y1, y2, y3, y4, y5⟩ := appendedS (n₀ := w2.heap.size) r4 (by decide) rown (by omega) (by omega) hown6 hg6
        have y1f := y1.frozen
        have y1c := y1.cell
        obtain ⟨a6, c6, rfl⟩ := ownsRow_form hown6
        go_wp2
        have hz7 := y5.size
        have q1 : Boxed w1 wc.heap.size 77 (.slice p n c) := Boxed.kept mz (grown_of_below hb1) (by simp)
        have k6 := appended_keeps (B := w3.heap.size) (v' := .slice a6 m6 c6) q1 (by decide) rown hg6 (by omega)
        have q6 : Boxed _ wc.heap.size 77 (.slice p n c) := k6.trans q1
        obtain ⟨e1, e2⟩ := HM6.out
        have hk : KeepsOthers W w1 := .of_grownBy (grown_of_below hb1) fun j o e hj => by cases e
        have hf : wtxt xs sign (pre ++ [⟨i, hi⟩]) = t6 := by rw [HSN.out, if_neg (by omega), List.append_nil, e1]
        refine ⟨hk.trans y4, KeepsAt.trans (KeepsAt.of_below hb1 (by rintro b (h | rfl) <;> omega)) (show KeepsAt _ _ _ by rintro b (h | rfl); exact y5.block _ (by omega); exact k6), ⟨⟨_, y2, ?_, trivial⟩, Boxed2.below r0 y5 (by omega), q6⟩, hB1.trans (y5.mono (by omega))⟩
        rw [hf, e2]; exact y3
    case done =>
      rintro D zs W hD rfl ⟨⟨⟨v5, m4, mown, _⟩, m0, mz⟩, hB⟩ hK
      obtain ⟨a5, c5, rfl⟩ := ownsRow_form mown
      have m4c := m4.cell
      have hout : wtxt xs sign (upto (dnAt n) n) = outS z := by
        rw [H1.out, HSG.out, (wtxt_says sign HX0.out.rd.1 HX0.out.cn n (by omega) (Nat.le_refl _)).2]
        simp
      obtain ⟨tx, htx⟩ : ∃ tx, wtxt xs sign (upto (dnAt n) n) = tx := ⟨_, rfl⟩
      rw [htx] at mown m4 m4c hout
      have hne : tx ≠ [] := by
        intro e
        rw [e, H1.out] at hout
        have := congrArg List.length hout
        rw [List.length_append, decDigits_length] at this
        have := nDigits_pos (dv BW xs)
        simp at *; omega
      have hcv := text_convert mown hne
      obtain ⟨k, hk⟩ : ∃ k, tx.length = k := ⟨_, rfl⟩
      rw [hk] at m4 m4c hcv
      clear hne mown htx
      go_wp2
      refine ⟨by simp, .inl ⟨_, _, rfl, run_takeDeferred hK, ?_⟩⟩
      refine ⟨.tuple #[.string ⟨(outS z).toArray⟩, .int .i64 0], ?_, ret_strE rfl H2.out.symm, hB.trans (belowK_b (w := w) (Nat.le_refl _) W D _ _ (by simp at hD; omega) hK rfl rfl)⟩
      simp [results, Tryd.f50, go_sem]
    case stop =>
      rintro D c pre W _ _ h _
      exact h.elim


theorem written_any (neg : Bool) (p : Option Addr) (n c : Nat) (xs : List Nat) (z : Int) (L : Nat) (w : World) (hx : NumIs w neg p n c xs z L) (hL : L ≤ 1000000000) (htab : Tab w) :
    Calls Tryd.prog 50 #[.agg #[.bool neg, .slice p n c]] w (WrittenIs w z) := by
  by_cases h0 : n = 0
  · subst h0; exact written_zero neg p c xs z L w hx
  · by_cases hl : longB z = true
    · exact written_long neg p n c xs z L w hx hL (by omega) hl
    · exact written_ok neg p n c xs z L w hx hL (by omega) (by simpa using hl) htab

end Go.Proofs.YtapfkinpdinbgaaDoor
