/-
  Div of two strings; the division of their words as a premise.
-/
import Derived.Test.YtapfkinpdinbgaaDoorDivide
import Derived.Test.YtapfkinpdinbgaaDoorToInt
namespace Go.Proofs.YtapfkinpdinbgaaDoor
open Go.RowKit Go.Lib

theorem fold_lt (l : List UInt8) : ∀ acc, l.all isDg = true → l.foldl (fun a c => a * 10 + (c.toNat - 48)) acc < (acc + 1) * 10 ^ l.length := by
  induction l with
  | nil => intro acc _; simp
  | cons c r ih =>
    intro acc h
    rw [List.all_cons, Bool.and_eq_true] at h
    have hc : 48 ≤ c.toNat ∧ c.toNat ≤ 57 := by simpa [isDg] using h.1
    have h1 := ih (acc * 10 + (c.toNat - 48)) h.2
    rw [List.foldl_cons, List.length_cons, Nat.pow_succ]
    refine Nat.lt_of_lt_of_le h1 ?_
    have h2 : acc * 10 + (c.toNat - 48) + 1 ≤ (acc + 1) * 10 := by omega
    have h3 := Nat.mul_le_mul_right (10 ^ r.length) h2
    have h4 : (acc + 1) * (10 ^ r.length * 10) = (acc + 1) * 10 * 10 ^ r.length := by rw [Nat.mul_comm (10 ^ r.length) 10, Nat.mul_assoc]
    omega

theorem decV_lt (l : List UInt8) (h : l.all isDg = true) : decV l < 10 ^ l.length := by
  have := fold_lt l 0 h
  rw [Nat.zero_add, Nat.one_mul] at this
  exact this

theorem longB_of {z : Int} {k : Nat} (hk : 1 ≤ k) (h : z.natAbs < 10 ^ k) (h2 : k ≤ 2000) : longB z = false := by
  unfold longB
  have : nd0 z.natAbs ≤ k := by
    unfold nd0
    split
    · omega
    · exact nDigits_le hk h
  simp; omega

theorem strV_lt {l : List UInt8} (h : numB l = true) : (strV l).natAbs < 10 ^ (digitsOf l).length ∧ (digitsOf l).length ≤ 2000 ∧ 1 ≤ (digitsOf l).length := by
  unfold numB plainB at h
  simp only [Bool.and_eq_true, decide_eq_true_eq] at h
  obtain ⟨⟨⟨h1, h2⟩, _⟩, h3⟩ := h
  refine ⟨?_, h3, ?_⟩
  · have h4 := decV_lt _ h2
    unfold strV
    split <;> simp <;> omega
  · cases hd : digitsOf l
    · rw [hd] at h1; simp at h1
    · simp

/-- The least that is too long. -/
theorem limit : ∃ B : Nat, (∀ z : Int, z.natAbs < B → longB z = false) ∧ ∀ l, numB l = true → (strV l).natAbs < B := by
  obtain ⟨k, hk⟩ : ∃ k : Nat, k = 2000 := ⟨_, rfl⟩
  refine ⟨10 ^ k, fun z h => longB_of (by omega) h (by omega), fun l h => ?_⟩
  obtain ⟨h1, h2, _⟩ := strV_lt h
  exact Nat.lt_of_lt_of_le h1 (Nat.pow_le_pow_right (by decide) (by omega))

theorem out_plain {z : Int} (h : longB z = false) : outS z = Lib.itoa z ∧ outE z = 0 := by
  unfold outS outE
  rw [h]
  exact ⟨rfl, rfl⟩

theorem emod_small {x y : Int} {B : Nat} (hy : y ≠ 0) (h : y.natAbs < B) : (x % y).natAbs < B := by
  have h1 := Int.emod_nonneg x hy
  have h2 := Int.emod_lt x hy
  omega

theorem div_not_long {s t : List UInt8} (hs : numB s = true) (ht : numB t = true) (h0 : strV t ≠ 0) : longB (strV s / strV t) = false ∧ longB (strV s % strV t) = false := by
  obtain ⟨B, h1, h2⟩ := limit
  exact ⟨h1 _ (Nat.lt_of_le_of_lt (Int.natAbs_ediv_le_natAbs _ _) (h2 _ hs)), h1 _ (emod_small h0 (h2 _ ht))⟩

theorem num_zero {w : World} {b : Bool} {q : Option Addr} {m d : Nat} {ys : List Nat} {y : Int} {M : Nat} (hy : NumIs w b q m d ys y M) : y = 0 ↔ m = 0 := by
  obtain ⟨h1, h2⟩ := order_facts hy
  have hv := hy.val
  have hn := sv_natAbs b (dv BW ys)
  rw [← hv] at hn
  constructor
  · intro h; subst h
    rcases Nat.eq_zero_or_pos m with h | h
    · exact h
    · have := h2 h; simp at hn; omega
  · intro h; have := h1 h; rw [this] at hn; omega

/-- The words of both can be divided. -/
def CanDiv (x y : Int) : Prop := ∀ (a b : Bool) (p q : Option Addr) (n c m d : Nat) (xs ys : List Nat) (w W : World), NumIs w a p n c xs x 223 → NumIs w b q m d ys y 223 → Rd .u64 W p n xs → Rd .u64 W q m ys → Calls Tryd.prog 82 #[.slice p n c, .slice q m d] W (DivOut W xs ys)

set_option maxHeartbeats 2000000 in
theorem div_ok (s t : ByteArray) (w : World) (hs : s.size ≤ maxLen) (ht : t.size ≤ maxLen) (h1 : numB s.data.toList = true) (h2 : numB t.data.toList = true) (htab : Tab w) (hy0 : strV t.data.toList ≠ 0) (hD : CanDiv (strV s.data.toList) (strV t.data.toList)) :
    Calls Tryd.prog 39 #[.string s, .string t] w (DivIs w true (strV s.data.toList) (strV t.data.toList)) := by
  obtain ⟨l1, l2⟩ := div_not_long h1 h2 hy0
  obtain ⟨o1, o2⟩ := out_plain l1
  obtain ⟨o3, o4⟩ := out_plain l2
  unfold DivIs
  have e1 : divQ true (strV s.data.toList) (strV t.data.toList) = outS (strV s.data.toList / strV t.data.toList) := by unfold divQ; rw [o1]; simp [hy0]
  have e2 : divR true (strV s.data.toList) (strV t.data.toList) = outS (strV s.data.toList % strV t.data.toList) := by unfold divR; rw [o3]; simp [hy0]
  have e3 : divE true (strV t.data.toList) = 0 := by unfold divE; simp [hy0]
  rw [e1, e2, e3]
  have HY0 := Lib.hid hy0
  clear l1 l2 o1 o2 o3 o4 e1 e2 e3 hy0
  go_enter Tryd.func39, Tryd.ntmps39
  go_wp2_with (first
    | (go_at_call 48; refine (pair_ok s t _ hs ht h1 h2).mono ?_; rintro e w1 ⟨a, p, n, c, xs, b, q, m, d, ys, rfl, hx, hy, hb1⟩; have hm0 : (m == 0) = false := (by have := num_zero hy; simp; intro e; exact HY0.out (this.2 e)); have hbA : Below w1.heap.size w1 ((w1.alloc (.cells #[.bool a, .slice p n c] 79)).alloc (.cells #[.bool b, .slice q m d] 79)) := (((Below.refl _ _).alloc (Nat.le_refl _) _).alloc (by simp) _); have hbW := hb1.trans (hbA.mono hb1.size); have hxA := hx.below hbA; have hyA := hy.below hbA; obtain ⟨B1, B2⟩ := pair_boxes (W := w1) (.bool a) (.slice p n c) (.bool b) (.slice q m d) 79)
    | (go_at_call 63; refine (isZero_any _ _ _ _ _ (Nat.le_trans hy.len (by unfold maxLen; omega))).mono ?_; rintro e w2 ⟨rfl, hb2⟩; have hbX := hbW.trans (hb2.mono hbW.size); have hxX := hxA.below hb2; have hyX := hyA.below hb2; have C1 := B1.below hb2 B1.lt; have C2 := B2.below hb2 B2.lt; have c0 := C1.cell0; have c1 := C1.cell1; have c2 := C2.cell0; have c3 := C2.cell1)
    | (go_at_call 64; refine (quotient_of _ _ _ _ _ _ _ _ _ _ _ _ _ _ _ hxX hyX (by omega) (by omega) (fun W r1 r2 => hD _ _ _ _ _ _ _ _ _ _ _ W hxX hyX r1 r2)).mono ?_; rintro e w3 ⟨a3, p3, n3, d3, xs3, q3, m3, f3, ys3, rfl, hx3, hy3, hb3⟩; have hbY := hbX.trans (hb3.mono hbX.size); have hbB : Below w3.heap.size w3 ((w3.alloc (.cells #[.bool a3, .slice p3 n3 d3] 79)).alloc (.cells #[.bool false, .slice q3 m3 f3] 79)) := (((Below.refl _ _).alloc (Nat.le_refl _) _).alloc (by simp) _); have hbZ := hbY.trans (hbB.mono hbY.size); have hxB := hx3.below hbB; have hyB := hy3.below hbB; obtain ⟨D1, D2⟩ := pair_boxes (W := w3) (.bool a3) (.slice p3 n3 d3) (.bool false) (.slice q3 m3 f3) 79))
  refine (written_any _ _ _ _ _ _ _ _ hxB (by omega) (htab.below hbZ)).mono ?_
  rintro e w4 ⟨rfl, hb4⟩
  have hbU := hbZ.trans (hb4.mono hbZ.size)
  have hyU := hyB.below hb4
  have E2 := D2.below hb4 D2.lt
  have e20 := E2.cell0
  have e21 := E2.cell1
  go_wp2_with fail
  refine (written_any _ _ _ _ _ _ _ _ hyU (by omega) (htab.below hbU)).mono ?_
  rintro e w5 ⟨rfl, hb5⟩
  go_wp2
  exact bodyPost_ret (v := .tuple #[.string ⟨(outS (strV s.data.toList / strV t.data.toList)).toArray⟩, .string ⟨(outS (strV s.data.toList % strV t.data.toList)).toArray⟩, .int .i64 0]) (by simp [results, Tryd.results39, go_sem]) rfl ⟨rfl, hbU.trans (hb5.mono hbU.size)⟩

set_option maxHeartbeats 2000000 in
theorem div_zero (s t : ByteArray) (w : World) (hs : s.size ≤ maxLen) (ht : t.size ≤ maxLen) (h1 : numB s.data.toList = true) (h2 : numB t.data.toList = true) (hy0 : strV t.data.toList = 0) :
    Calls Tryd.prog 39 #[.string s, .string t] w (DivIs w true (strV s.data.toList) (strV t.data.toList)) := by
  unfold DivIs
  have e1 : divQ true (strV s.data.toList) (strV t.data.toList) = [] := by unfold divQ; simp [hy0]
  have e2 : divR true (strV s.data.toList) (strV t.data.toList) = [] := by unfold divR; simp [hy0]
  have e3 : divE true (strV t.data.toList) = 5 := by unfold divE; simp [hy0]
  rw [e1, e2, e3]
  have HY0 := Lib.hid hy0
  clear e1 e2 e3 hy0
  go_enter Tryd.func39, Tryd.ntmps39
  go_wp2_with (first
    | (go_at_call 48; refine (pair_ok s t _ hs ht h1 h2).mono ?_; rintro e w1 ⟨a, p, n, c, xs, b, q, m, d, ys, rfl, hx, hy, hb1⟩; have hm0 : (m == 0) = true := (by have := num_zero hy; simp; exact this.1 HY0.out); have hbA : Below w1.heap.size w1 ((w1.alloc (.cells #[.bool a, .slice p n c] 79)).alloc (.cells #[.bool b, .slice q m d] 79)) := (((Below.refl _ _).alloc (Nat.le_refl _) _).alloc (by simp) _); have hbW := hb1.trans (hbA.mono hb1.size))
    | (go_at_call 63; refine (isZero_any _ _ _ _ _ (Nat.le_trans hy.len (by unfold maxLen; omega))).mono ?_; rintro e w2 ⟨rfl, hb2⟩; rw [hm0]))
  exact bodyPost_ret (v := .tuple #[.string ⟨[].toArray⟩, .string ⟨[].toArray⟩, .int .i64 5]) (by simp [results, Tryd.results39, go_sem]) rfl ⟨rfl, hbW.trans (hb2.mono hbW.size)⟩

set_option maxHeartbeats 2000000 in
theorem div_bad (s t : ByteArray) (w : World) (hs : s.size ≤ maxLen) (ht : t.size ≤ maxLen) (h : (numB s.data.toList && numB t.data.toList) = false) (x y : Int) :
    Calls Tryd.prog 39 #[.string s, .string t] w (DivIs w false x y) := by
  go_enter Tryd.func39, Tryd.ntmps39
  go_wp2_with (go_at_call 48; refine (pair_bad s t _ hs ht h).mono ?_; rintro e w1 ⟨rfl, hb1⟩)
  exact bodyPost_ret (v := .tuple #[.string ⟨[].toArray⟩, .string ⟨[].toArray⟩, .int .i64 6]) (by simp [results, Tryd.results39, go_sem]) rfl ⟨rfl, (hb1.alloc hb1.size _).alloc (by have := hb1.size; simp; omega) _⟩

theorem div_any (s t : ByteArray) (w : World) (hs : s.size ≤ maxLen) (ht : t.size ≤ maxLen) (htab : Tab w)
    (hD : numB s.data.toList = true → numB t.data.toList = true → strV t.data.toList ≠ 0 → CanDiv (strV s.data.toList) (strV t.data.toList)) :
    Calls Tryd.prog 39 #[.string s, .string t] w (DivIs w (numB s.data.toList && numB t.data.toList) (strV s.data.toList) (strV t.data.toList)) := by
  cases h : (numB s.data.toList && numB t.data.toList)
  · exact div_bad s t w hs ht h _ _
  · simp only [Bool.and_eq_true] at h
    by_cases h0 : strV t.data.toList = 0
    · exact div_zero s t w hs ht h.1 h.2 h0
    · exact div_ok s t w hs ht h.1 h.2 htab h0 (hD h.1 h.2 h0)

/-- y has one word. -/
theorem canDiv_one {x y : Int} (h0 : y ≠ 0) (h : y.natAbs < 1000000000) : CanDiv x y := by
  intro a b p q n c m d xs ys w W hx hy r1 r2
  have hv := sv_natAbs b (dv BW ys)
  rw [← hy.val] at hv
  have hm : ys.length ≤ 1 := hy.cn.length_le (by decide) (by rw [← hv]; simpa using h)
  rw [hy.rd.1] at hm
  have hm0 : m ≠ 0 := fun e => h0 ((num_zero hy).2 e)
  exact divideWords_small p q n c m d xs ys W (Nat.le_trans hx.len (by decide)) (by omega) hx.cap hy.cap r1 r2 hx.cn hy.cn (by omega) (.inr (by omega))

end Go.Proofs.YtapfkinpdinbgaaDoor
