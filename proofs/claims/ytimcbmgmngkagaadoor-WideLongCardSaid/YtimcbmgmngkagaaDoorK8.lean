/-
  Div of two strings; the division of their words as a premise; Words divided by words: all; The reference: signs, forms of strings; Rows of the call's own that grow by one: digits, bytes; The reference: the string of an integer; The reference: sums.
-/
import Derived.Test.YtimcbmgmngkagaaDoorK1
import Derived.Test.YtimcbmgmngkagaaDoorK2
import Derived.Test.YtimcbmgmngkagaaDoorK3
import Derived.Test.YtimcbmgmngkagaaDoorK4
import Derived.Test.YtimcbmgmngkagaaDoorK5
import Derived.Test.YtimcbmgmngkagaaDoorK6
import Derived.Test.YtimcbmgmngkagaaDoorK7
namespace Go.Proofs.YtimcbmgmngkagaaDoor
open Go.RowKit Go.Lib

theorem fold_lt (l : List UInt8) : ∀ acc, l.all isDg = true → l.foldl (fun a c => a * 10 + (c.toNat - 48)) acc < (acc + 1) * 10 ^ l.length := by
  induction l with
  | nil => intro acc _; simp
  | cons c r ih =>
    intro acc h
    rw [List.all_cons, Bool.and_eq_true] at h
    have hc : 48 ≤ c.toNat ∧ c.toNat ≤ 57 := by simpa [isDg] using h.1
    have h1 := ih (acc * 10 + (c.toNat - 48)) h.2
    rw [List.foldl_cons, List.length_cons, Nat.pow_succ]
    refine Nat.lt_of_lt_of_le h1 ?_
    have h2 : acc * 10 + (c.toNat - 48) + 1 ≤ (acc + 1) * 10 := by omega
    have h3 := Nat.mul_le_mul_right (10 ^ r.length) h2
    have h4 : (acc + 1) * (10 ^ r.length * 10) = (acc + 1) * 10 * 10 ^ r.length := by rw [Nat.mul_comm (10 ^ r.length) 10, Nat.mul_assoc]
    omega

theorem decV_lt (l : List UInt8) (h : l.all isDg = true) : decV l < 10 ^ l.length := by
  have := fold_lt l 0 h
  rw [Nat.zero_add, Nat.one_mul] at this
  exact this

theorem longB_of {z : Int} {k : Nat} (hk : 1 ≤ k) (h : z.natAbs < 10 ^ k) (h2 : k ≤ 2000) : longB z = false := by
  unfold longB
  have : nd0 z.natAbs ≤ k := by
    unfold nd0
    split
    · omega
    · exact nDigits_le hk h
  simp; omega

theorem strV_lt {l : List UInt8} (h : numB l = true) : (strV l).natAbs < 10 ^ (digitsOf l).length ∧ (digitsOf l).length ≤ 2000 ∧ 1 ≤ (digitsOf l).length := by
  unfold numB plainB at h
  simp only [Bool.and_eq_true, decide_eq_true_eq] at h
  obtain ⟨⟨⟨h1, h2⟩, _⟩, h3⟩ := h
  refine ⟨?_, h3, ?_⟩
  · have h4 := decV_lt _ h2
    unfold strV
    split <;> simp <;> omega
  · cases hd : digitsOf l
    · rw [hd] at h1; simp at h1
    · simp

/-- The least that is too long. -/
theorem limit : ∃ B : Nat, (∀ z : Int, z.natAbs < B → longB z = false) ∧ ∀ l, numB l = true → (strV l).natAbs < B := by
  obtain ⟨k, hk⟩ : ∃ k : Nat, k = 2000 := ⟨_, rfl⟩
  refine ⟨10 ^ k, fun z h => longB_of (by omega) h (by omega), fun l h => ?_⟩
  obtain ⟨h1, h2, _⟩ := strV_lt h
  exact Nat.lt_of_lt_of_le h1 (Nat.pow_le_pow_right (by decide) (by omega))

theorem out_plain {z : Int} (h : longB z = false) : outS z = Lib.itoa z ∧ outE z = 0 := by
  unfold outS outE
  rw [h]
  exact ⟨rfl, rfl⟩

theorem emod_small {x y : Int} {B : Nat} (hy : y ≠ 0) (h : y.natAbs < B) : (x % y).natAbs < B := by
  have h1 := Int.emod_nonneg x hy
  have h2 := Int.emod_lt x hy
  omega

theorem div_not_long {s t : List UInt8} (hs : numB s = true) (ht : numB t = true) (h0 : strV t ≠ 0) : longB (strV s / strV t) = false ∧ longB (strV s % strV t) = false := by
  obtain ⟨B, h1, h2⟩ := limit
  exact ⟨h1 _ (Nat.lt_of_le_of_lt (Int.natAbs_ediv_le_natAbs _ _) (h2 _ hs)), h1 _ (emod_small h0 (h2 _ ht))⟩

theorem num_zero {w : World} {b : Bool} {q : Option Addr} {m d : Nat} {ys : List Nat} {y : Int} {M : Nat} (hy : NumIs w b q m d ys y M) : y = 0 ↔ m = 0 := by
  obtain ⟨h1, h2⟩ := order_facts hy
  have hv := hy.val
  have hn := sv_natAbs b (dv BW ys)
  rw [← hv] at hn
  constructor
  · intro h; subst h
    rcases Nat.eq_zero_or_pos m with h | h
    · exact h
    · have := h2 h; simp at hn; omega
  · intro h; have := h1 h; rw [this] at hn; omega

/-- The words of both can be divided. -/
def CanDiv (x y : Int) : Prop := ∀ (a b : Bool) (p q : Option Addr) (n c m d : Nat) (xs ys : List Nat) (w W : World), NumIs w a p n c xs x 223 → NumIs w b q m d ys y 223 → Rd .u64 W p n xs → Rd .u64 W q m ys → Calls Tryd.prog 41 #[.slice p n c, .slice q m d] W (DivOut W xs ys)

set_option maxHeartbeats 2000000 in
theorem div_ok (s t : ByteArray) (w : World) (hs : s.size ≤ maxLen) (ht : t.size ≤ maxLen) (h1 : numB s.data.toList = true) (h2 : numB t.data.toList = true) (htab : Tab w) (hy0 : strV t.data.toList ≠ 0) (hD : CanDiv (strV s.data.toList) (strV t.data.toList)) :
    Calls Tryd.prog 9 #[.string s, .string t] w (DivIs w true (strV s.data.toList) (strV t.data.toList)) := by
  obtain ⟨l1, l2⟩ := div_not_long h1 h2 hy0
  obtain ⟨o1, o2⟩ := out_plain l1
  obtain ⟨o3, o4⟩ := out_plain l2
  unfold DivIs
  have e1 : divQ true (strV s.data.toList) (strV t.data.toList) = outS (strV s.data.toList / strV t.data.toList) := by unfold divQ; rw [o1]; simp [hy0]
  have e2 : divR true (strV s.data.toList) (strV t.data.toList) = outS (strV s.data.toList % strV t.data.toList) := by unfold divR; rw [o3]; simp [hy0]
  have e3 : divE true (strV t.data.toList) = 0 := by unfold divE; simp [hy0]
  rw [e1, e2, e3]
  have HY0 := Lib.hid hy0
  clear l1 l2 o1 o2 o3 o4 e1 e2 e3 hy0
  go_enter Tryd.func9, Tryd.ntmps9
  go_wp2_with (first
    | (go_at_call 18; refine (pair_ok s t _ hs ht h1 h2).mono ?_; rintro e w1 ⟨a, p, n, c, xs, b, q, m, d, ys, rfl, hx, hy, hb1⟩; have hm0 : (m == 0) = false := (by have := num_zero hy; simp; intro e; exact HY0.out (this.2 e)); have hbA : Below w1.heap.size w1 ((w1.alloc (.cells #[.bool a, .slice p n c] 47)).alloc (.cells #[.bool b, .slice q m d] 47)) := (((Below.refl _ _).alloc (Nat.le_refl _) _).alloc (by simp) _); have hbW := hb1.trans (hbA.mono hb1.size); have hxA := hx.below hbA; have hyA := hy.below hbA; obtain ⟨B1, B2⟩ := pair_boxes (W := w1) (.bool a) (.slice p n c) (.bool b) (.slice q m d) 47)
    | (go_at_call 23; refine (isZero_any _ _ _ _ _ (Nat.le_trans hy.len (by unfold maxLen; omega))).mono ?_; rintro e w2 ⟨rfl, hb2⟩; have hbX := hbW.trans (hb2.mono hbW.size); have hxX := hxA.below hb2; have hyX := hyA.below hb2; have C1 := B1.below hb2 B1.lt; have C2 := B2.below hb2 B2.lt; have c0 := C1.cell0; have c1 := C1.cell1; have c2 := C2.cell0; have c3 := C2.cell1)
    | (go_at_call 24; refine (quotient_of _ _ _ _ _ _ _ _ _ _ _ _ _ _ _ hxX hyX (by omega) (by omega) (fun W r1 r2 => hD _ _ _ _ _ _ _ _ _ _ _ W hxX hyX r1 r2)).mono ?_; rintro e w3 ⟨a3, p3, n3, d3, xs3, q3, m3, f3, ys3, rfl, hx3, hy3, hb3⟩; have hbY := hbX.trans (hb3.mono hbX.size); have hbB : Below w3.heap.size w3 ((w3.alloc (.cells #[.bool a3, .slice p3 n3 d3] 47)).alloc (.cells #[.bool false, .slice q3 m3 f3] 47)) := (((Below.refl _ _).alloc (Nat.le_refl _) _).alloc (by simp) _); have hbZ := hbY.trans (hbB.mono hbY.size); have hxB := hx3.below hbB; have hyB := hy3.below hbB; obtain ⟨D1, D2⟩ := pair_boxes (W := w3) (.bool a3) (.slice p3 n3 d3) (.bool false) (.slice q3 m3 f3) 47))
  refine (written_any _ _ _ _ _ _ _ _ hxB (by omega) (htab.below hbZ)).mono ?_
  rintro e w4 ⟨rfl, hb4⟩
  have hbU := hbZ.trans (hb4.mono hbZ.size)
  have hyU := hyB.below hb4
  have E2 := D2.below hb4 D2.lt
  have e20 := E2.cell0
  have e21 := E2.cell1
  go_wp2_with fail
  refine (written_any _ _ _ _ _ _ _ _ hyU (by omega) (htab.below hbU)).mono ?_
  rintro e w5 ⟨rfl, hb5⟩
  go_wp2
  exact bodyPost_ret (v := .tuple #[.string ⟨(outS (strV s.data.toList / strV t.data.toList)).toArray⟩, .string ⟨(outS (strV s.data.toList % strV t.data.toList)).toArray⟩, .int .i64 0]) (by simp [results, Tryd.results9, go_sem]) rfl ⟨rfl, hbU.trans (hb5.mono hbU.size)⟩

set_option maxHeartbeats 2000000 in
theorem div_zero (s t : ByteArray) (w : World) (hs : s.size ≤ maxLen) (ht : t.size ≤ maxLen) (h1 : numB s.data.toList = true) (h2 : numB t.data.toList = true) (hy0 : strV t.data.toList = 0) :
    Calls Tryd.prog 9 #[.string s, .string t] w (DivIs w true (strV s.data.toList) (strV t.data.toList)) := by
  unfold DivIs
  have e1 : divQ true (strV s.data.toList) (strV t.data.toList) = [] := by unfold divQ; simp [hy0]
  have e2 : divR true (strV s.data.toList) (strV t.data.toList) = [] := by unfold divR; simp [hy0]
  have e3 : divE true (strV t.data.toList) = 5 := by unfold divE; simp [hy0]
  rw [e1, e2, e3]
  have HY0 := Lib.hid hy0
  clear e1 e2 e3 hy0
  go_enter Tryd.func9, Tryd.ntmps9
  go_wp2_with (first
    | (go_at_call 18; refine (pair_ok s t _ hs ht h1 h2).mono ?_; rintro e w1 ⟨a, p, n, c, xs, b, q, m, d, ys, rfl, hx, hy, hb1⟩; have hm0 : (m == 0) = true := (by have := num_zero hy; simp; exact this.1 HY0.out); have hbA : Below w1.heap.size w1 ((w1.alloc (.cells #[.bool a, .slice p n c] 47)).alloc (.cells #[.bool b, .slice q m d] 47)) := (((Below.refl _ _).alloc (Nat.le_refl _) _).alloc (by simp) _); have hbW := hb1.trans (hbA.mono hb1.size))
    | (go_at_call 23; refine (isZero_any _ _ _ _ _ (Nat.le_trans hy.len (by unfold maxLen; omega))).mono ?_; rintro e w2 ⟨rfl, hb2⟩; rw [hm0]))
  exact bodyPost_ret (v := .tuple #[.string ⟨[].toArray⟩, .string ⟨[].toArray⟩, .int .i64 5]) (by simp [results, Tryd.results9, go_sem]) rfl ⟨rfl, hbW.trans (hb2.mono hbW.size)⟩

set_option maxHeartbeats 2000000 in
theorem div_bad (s t : ByteArray) (w : World) (hs : s.size ≤ maxLen) (ht : t.size ≤ maxLen) (h : (numB s.data.toList && numB t.data.toList) = false) (x y : Int) :
    Calls Tryd.prog 9 #[.string s, .string t] w (DivIs w false x y) := by
  go_enter Tryd.func9, Tryd.ntmps9
  go_wp2_with (go_at_call 18; refine (pair_bad s t _ hs ht h).mono ?_; rintro e w1 ⟨rfl, hb1⟩)
  exact bodyPost_ret (v := .tuple #[.string ⟨[].toArray⟩, .string ⟨[].toArray⟩, .int .i64 6]) (by simp [results, Tryd.results9, go_sem]) rfl ⟨rfl, (hb1.alloc hb1.size _).alloc (by have := hb1.size; simp; omega) _⟩

theorem div_any (s t : ByteArray) (w : World) (hs : s.size ≤ maxLen) (ht : t.size ≤ maxLen) (htab : Tab w)
    (hD : numB s.data.toList = true → numB t.data.toList = true → strV t.data.toList ≠ 0 → CanDiv (strV s.data.toList) (strV t.data.toList)) :
    Calls Tryd.prog 9 #[.string s, .string t] w (DivIs w (numB s.data.toList && numB t.data.toList) (strV s.data.toList) (strV t.data.toList)) := by
  cases h : (numB s.data.toList && numB t.data.toList)
  · exact div_bad s t w hs ht h _ _
  · simp only [Bool.and_eq_true] at h
    by_cases h0 : strV t.data.toList = 0
    · exact div_zero s t w hs ht h.1 h.2 h0
    · exact div_ok s t w hs ht h.1 h.2 htab h0 (hD h.1 h.2 h0)

/-- y has one word. -/
theorem canDiv_one {x y : Int} (h0 : y ≠ 0) (h : y.natAbs < 1000000000) : CanDiv x y := by
  intro a b p q n c m d xs ys w W hx hy r1 r2
  have hv := sv_natAbs b (dv BW ys)
  rw [← hy.val] at hv
  have hm : ys.length ≤ 1 := hy.cn.length_le (by decide) (by rw [← hv]; simpa using h)
  rw [hy.rd.1] at hm
  have hm0 : m ≠ 0 := fun e => h0 ((num_zero hy).2 e)
  exact divideWords_small p q n c m d xs ys W (Nat.le_trans hx.len (by decide)) (by omega) hx.cap hy.cap r1 r2 hx.cn hy.cn (by omega) (.inr (by omega))

end Go.Proofs.YtimcbmgmngkagaaDoor

namespace Go.Proofs.YtimcbmgmngkagaaDoor
open Go.RowKit

set_option maxHeartbeats 1000000 in
theorem divideWords_any (p q : Option Addr) (n c m d : Nat) (xs ys : List Nat) (w : World) (hn : n ≤ 1000000) (hm : m ≤ 1000000) (hc : n ≤ c) (hd : m ≤ d) (hx : Rd .u64 w p n xs) (hy : Rd .u64 w q m ys) (gx : Cn BW xs) (gy : Cn BW ys) (h0 : 0 < dv BW ys) :
    Calls Tryd.prog 41 #[.slice p n c, .slice q m d] w (DivOut w xs ys) := by
  by_cases hs : dv BW xs < dv BW ys ∨ m = 1
  · exact divideWords_small p q n c m d xs ys w hn hm hc hd hx hy gx gy h0 hs
  · obtain ⟨hlt, hm1⟩ := not_or.1 hs
    have hm0 : m ≠ 0 := by
      rintro rfl
      rw [List.length_eq_zero_iff.1 hy.1] at h0
      simp [dv] at h0
    have hmn : m ≤ n := by
      rcases Nat.lt_or_ge n m with h | h
      · have := Cn.lt_of_length (b := BW) (by decide) gx.1 gy (by rw [hx.1, hy.1]; exact h)
        omega
      · exact h
    have h1 : ¬ sgnCmp (dv BW xs) (dv BW ys) < 0 := by rw [sgnCmp_neg]; omega
    obtain ⟨SG, hSG⟩ : ∃ SG, sgnCmp (dv BW xs) (dv BW ys) = SG := ⟨_, rfl⟩
    rw [hSG] at h1
    have H1 := Lib.hid hSG
    have hmi : ¬ ((m : Int) = 1) := by omega
    have hmb : (m == 1) = false := by simp [hm1]
    clear hSG hs
    go_enter Tryd.func41, Tryd.ntmps41
    go_wp2_with (first
      | (go_at_call 49; refine (compareWords_any _ _ _ _ _ _ xs ys _ (by omega) (by omega) hx hy gx gy).mono ?_; rintro e w1 ⟨rfl, hb1⟩; rw [H1.out])
      | (go_at_call 57; refine (divideLong_any p q n c m d xs ys _ hn (by omega) hmn (hx.below hb1) (hy.below hb1) gx gy).mono ?_; rintro e w2 ⟨p1, n1, c1, qs, q1, m1, d1, rs, rfl, r1, r2, r3, r4, r5, r6, r7, r8, hb2⟩))
    go_ret2
    exact ⟨_, _, _, qs, _, _, _, rs, rfl, r1, r2, r3, r4, r5, r6, r7, r8, hb1.trans (hb2.mono hb1.size)⟩

theorem canDiv_any {x y : Int} (h0 : y ≠ 0) : CanDiv x y := by
  intro a b p q n c m d xs ys w W hx hy r1 r2
  have hm0 : m ≠ 0 := fun e => h0 ((num_zero hy).2 e)
  exact divideWords_any p q n c m d xs ys W (Nat.le_trans hx.len (by decide)) (Nat.le_trans hy.len (by decide)) hx.cap hy.cap r1 r2 hx.cn hy.cn (hy.cn.pos (by decide) (by intro e; have := hy.rd.1; rw [e] at this; simp at this; omega))

/-- Div, whole. -/
theorem div_all (s t : ByteArray) (w : World) (hs : s.size ≤ maxLen) (ht : t.size ≤ maxLen) (htab : Tab w) :
    Calls Tryd.prog 9 #[.string s, .string t] w (DivIs w (numB s.data.toList && numB t.data.toList) (strV s.data.toList) (strV t.data.toList)) :=
  div_any s t w hs ht htab fun _ _ h0 => canDiv_any h0

end Go.Proofs.YtimcbmgmngkagaaDoor

namespace Go.Proofs.YtimcbmgmngkagaaDoor
open Go.RowKit

theorem bytes_list (s : ByteArray) : s = ⟨s.data.toList.toArray⟩ := by cases s; simp

set_option maxHeartbeats 400000 in
theorem minus_any (l : List UInt8) (w : World) :
    Calls Tryd.prog 28 #[.string ⟨l.toArray⟩] w fun e w' => e = .returned (.int .i64 (if isNeg l then 1 else 0)) ∧ w' = w := by
  cases l with
  | nil =>
    go_enter Tryd.func28, Tryd.ntmps28
    go_wp2
    go_ret
    exact ⟨rfl, rfl⟩
  | cons c t =>
    have hpos : 0 < (⟨(c :: t).toArray⟩ : ByteArray).size := by show 0 < (c :: t).toArray.size; simp
    have hc : (((⟨(c :: t).toArray⟩ : ByteArray)[0]'hpos).toNat : Int) = (c.toNat : Int) := rfl
    by_cases h : c = 45
    · subst h
      have hz : ((((⟨((45 : UInt8) :: t).toArray⟩ : ByteArray)[0]'hpos).toNat : Int) == 45) = true := by rw [hc]; rfl
      clear hc
      go_enter Tryd.func28, Tryd.ntmps28
      go_wp2
      go_ret
      exact ⟨rfl, rfl⟩
    · have hz : ((((⟨(c :: t).toArray⟩ : ByteArray)[0]'hpos).toNat : Int) == 45) = false := by
        rw [hc]; simp; intro e; exact h (UInt8.toNat_inj.1 (show c.toNat = 45 by omega))
      have hn : isNeg (c :: t) = false := by simp [isNeg, h]
      rw [hn]
      clear hc hn
      go_enter Tryd.func28, Tryd.ntmps28
      go_wp2
      go_ret
      exact ⟨rfl, rfl⟩


theorem tail_bytes (c : UInt8) (l : List UInt8) : (⟨(c :: l).toArray⟩ : ByteArray).extract 1 (⟨(c :: l).toArray⟩ : ByteArray).size = ⟨l.toArray⟩ := by
  apply ByteArray.ext
  rw [ByteArray.data_extract]
  show ((c :: l).toArray).extract 1 ((c :: l).toArray).size = l.toArray
  simp

end Go.Proofs.YtimcbmgmngkagaaDoor

namespace Go.Proofs.YtimcbmgmngkagaaDoor
open Go.RowKit

abbrev BR : Nat := 10000

/-- A sign and a slice of digits say the integer z. -/
structure RIs (w : World) (neg : Bool) (p : Option Addr) (n c : Nat) (xs : List Nat) (z : Int) : Prop where
  rd : Rd .i64 w p n xs
  cap : n ≤ c
  cn : Cn BR xs
  pos : neg = true → 0 < n
  val : z = sv neg (dv BR xs)

/-- What a call hands back: an integer of at most L digits. -/
def RV (w : World) (z : Int) (L : Nat) (e : Ending) (w' : World) : Prop :=
  ∃ neg p n c xs, e = .returned (.agg #[.bool neg, .slice p n c]) ∧ RIs w' neg p n c xs z ∧ n ≤ L ∧ Below w.heap.size w w'

theorem RIs.below {w w' : World} {neg : Bool} {p : Option Addr} {n c : Nat} {xs : List Nat} {z : Int} (h : RIs w neg p n c xs z) (hb : Below w.heap.size w w') : RIs w' neg p n c xs z := { h with rd := h.rd.below hb }

theorem RIs.zero (w : World) : RIs w false none 0 0 [] 0 := { rd := Rd.nil _ _ _, cap := Nat.le_refl _, cn := Cn.nil _, pos := (by intro h; cases h), val := rfl }

theorem sv_and' (b : Nat) (neg : Bool) (zs : List Nat) : sv (neg && decide (0 < zs.length)) (dv b zs) = sv neg (dv b zs) := by
  cases neg
  · rfl
  · by_cases hz : 0 < zs.length
    · simp [hz]
    · have : zs = [] := List.length_eq_zero_iff.1 (by omega)
      subst this; rfl

theorem Rd.boxI {W : World} {p : Option Addr} {n : Nat} {xs : List Nat} (h : Rd .i64 W p n xs) {B i : Nat} {neg : Bool} {q : Option Addr} {k c : Nat} {t : TypeId} (hb : Boxed2 W B (.bool neg) (.slice q k c) t) (v : Value) : Rd .i64 (W.setCell ⟨B, i, none⟩ v) p n xs := by
  refine ⟨h.1, fun j hj => ?_⟩
  obtain ⟨b', off, hp, hlt, hc⟩ := h.2 j hj
  refine ⟨b', off, hp, by simpa using hlt, ?_⟩
  rw [World.cell?_setCell_other _ _ _ _ (fun e => ?_)]
  · exact hc
  · cases e
    rw [hb.cellAt] at hc
    match off + j, hc with
    | 0, hc => simp at hc
    | 1, hc => simp at hc
    | k + 2, hc => simp at hc

/-- The like; its digits lie where they did. -/
def RVp (w : World) (p : Option Addr) (z : Int) (L : Nat) (e : Ending) (w' : World) : Prop :=
  ∃ neg n c xs, e = .returned (.agg #[.bool neg, .slice p n c]) ∧ RIs w' neg p n c xs z ∧ n ≤ L ∧ Below w.heap.size w w'

set_option maxHeartbeats 1000000 in
theorem rnumber_at (neg : Bool) (p : Option Addr) (n c : Nat) (xs : List Nat) (w : World) (hn : n ≤ maxLen) (hc : n ≤ c) (hr : Rd .i64 w p n xs) (gx : Dg BR xs) :
    Calls Tryd.prog 27 #[.bool neg, .slice p n c] w (RVp w p (sv neg (dv BR xs)) n) := by
  unfold maxLen at hn
  have hb0 : Below w.heap.size w (w.alloc (.cells #[.bool false, .slice none 0 0] 35)) := (Below.refl _ w).alloc (Nat.le_refl _) _
  have b0 := Boxed2.new w (.bool false) (.slice none 0 0) 35
  have hr1 := hr.below hb0
  have c0 := b0.cell0
  have c1 := b0.cell1
  have q0 := b0.frozen (i := 0)
  have q1 := b0.frozen (i := 1)
  have fin : ∀ k, k = trimLen xs n → RVp w p (sv neg (dv BR xs)) n (.returned (.agg #[.bool (neg && decide (0 < k)), .slice p k k])) (w.alloc (.cells #[.bool (neg && decide (0 < k)), .slice p k k] 35)) := by
    rintro k rfl
    have h1 : trimLen xs n ≤ n := trimLen_le _ _
    have hl := hr.1
    have hz : trimZ xs = xs.take (trimLen xs n) := by unfold trimZ; rw [hl]
    have hbk : Below w.heap.size w (w.alloc (.cells #[.bool (neg && decide (0 < trimLen xs n)), .slice p (trimLen xs n) (trimLen xs n)] 35)) := (Below.refl _ w).alloc (Nat.le_refl _) _
    have hrd := (hr.below hbk).take (trimLen xs n) h1
    rw [← hz] at hrd
    refine ⟨_, _, _, trimZ xs, rfl, { rd := hrd, cap := Nat.le_refl _, cn := trimZ_cn gx, pos := by simp, val := ?_ }, h1, hbk⟩
    rw [← hrd.1, sv_and' BR, dv_trimZ]
  have FIN := Lib.hid fin
  clear fin
  go_enter Tryd.func27, Tryd.ntmps27
  go_wp2
  go_loop [5] (fun i => ∃ k : Nat, k ≤ n ∧ i = .int .i64 k ∧ Hid (trimLen xs k = trimLen xs n)) (fun i => (intOf i).toNat)
  case atStart => exact ⟨n, Nat.le_refl _, rfl, rfl⟩
  case round =>
    obtain ⟨k, hk, rfl, ht⟩ := hrel
    cases k with
    | zero =>
      have HT := FIN.out 0 ht.out
      have z0 := (Boxed2.new w (.bool false) (.slice p 0 0) 35).cell0
      have z1 := (Boxed2.new w (.bool false) (.slice p 0 0) 35).cell1
      cases neg
      all_goals
        go_wp2
        exact bodyPost_ret (v := .agg #[.bool false, .slice p 0 0]) (by simp [results, Tryd.results27, go_sem, z0, z1]) rfl (by simpa using HT)
    | succ k =>
      obtain ⟨b, off, rfl, hb, hcell⟩ := hr1.2 k (by omega)
      cases neg
      all_goals
        go_wp2
        · go_round
          case rel =>
            have h1 : (((xs[k]?.getD 0 : Nat) : Int) == 0) = true := by assumption
            exact ⟨k, by omega, by go_num, (trimLen_cut (by simpa using h1)).symm.trans ht.out⟩
          case measure => simp [intOf]
        · have h1 : (((xs[k]?.getD 0 : Nat) : Int) == 0) = false := by assumption
          have HT := FIN.out (k + 1) ((trimLen_keep (by simpa using h1)).symm.trans ht.out)
          have y0 := fun v => (Boxed2.new w (.bool v) (.slice (some ⟨b, off, none⟩) (k + 1) (k + 1)) 35).cell0
          have y1 := fun v => (Boxed2.new w (.bool v) (.slice (some ⟨b, off, none⟩) (k + 1) (k + 1)) 35).cell1
          first
            | exact bodyPost_ret (v := .agg #[.bool false, .slice (some ⟨b, off, none⟩) (k + 1) (k + 1)]) (by simp [results, Tryd.results27, go_sem, y0, y1]) rfl (by simpa using HT)
            | exact bodyPost_ret (v := .agg #[.bool true, .slice (some ⟨b, off, none⟩) (k + 1) (k + 1)]) (by simp [results, Tryd.results27, go_sem, y0, y1]) rfl (by simpa using HT)

theorem rnumber_any (neg : Bool) (p : Option Addr) (n c : Nat) (xs : List Nat) (w : World) (hn : n ≤ maxLen) (hc : n ≤ c) (hr : Rd .i64 w p n xs) (gx : Dg BR xs) :
    Calls Tryd.prog 27 #[.bool neg, .slice p n c] w (RV w (sv neg (dv BR xs)) n) :=
  (rnumber_at neg p n c xs w hn hc hr gx).mono fun _ _ ⟨neg', n', c', xs', h⟩ => ⟨neg', p, n', c', xs', h⟩

end Go.Proofs.YtimcbmgmngkagaaDoor

namespace Go.Proofs.YtimcbmgmngkagaaDoor
open Go.RowKit

def icells (ns : List Nat) : List Value := ns.map fun (n : Nat) => Value.int .i64 (n : Int)
theorem icells_append (a b : List Nat) : icells (a ++ b) = icells a ++ icells b := by simp [icells]

/-- A slice of digits that the call has made. -/
def GrI (w : World) (base : Nat) (v : Value) (ns : List Nat) : Prop := w.ownsRow base 3 1 v ns.length (icells ns)
/-- A slice of bytes that the call has made. -/
def GrB (w : World) (base : Nat) (v : Value) (l : List UInt8) : Prop := w.ownsRow base 5 1 v l.length (bcells l)

theorem ownsRow_nil (w : World) (base : Nat) (e : TypeId) : w.ownsRow base e 1 (.slice none 0 0) 0 [] := ⟨rfl, .inl ⟨rfl, rfl⟩⟩
theorem GrI.nil (w : World) (base : Nat) : GrI w base (.slice none 0 0) [] := ownsRow_nil _ _ _
theorem GrB.nil (w : World) (base : Nat) : GrB w base (.slice none 0 0) [] := ownsRow_nil _ _ _

theorem own_block_ge {w : World} {base : Nat} {e : TypeId} {v : Value} {n : Nat} {xs : List Value} (h : w.ownsRow base e 1 v n xs) {k : Nat} (hk : k < base) : some k ≠ v.ownBlock := by
  rcases h.2 with ⟨rfl, _⟩ | ⟨g, cap, cur, rfl, hb, _⟩
  · intro e; cases e
  · intro e; simp [Value.ownBlock] at e; omega

theorem below_of_own {w w' : World} {base : Nat} {e : TypeId} {v : Value} {n : Nat} {xs : List Value} (h : w.ownsRow base e 1 v n xs) (hg : w.grownBy w' v.ownBlock) (hb : base ≤ w.heap.size) : Below base w w' :=
  ⟨hg.os, hg.tape, hg.output, hg.size, fun k hk => hg.block k (by omega) (own_block_ge h hk)⟩

theorem own_form {w : World} {base : Nat} {e : TypeId} {v : Value} {n : Nat} {xs : List Value} (h : w.ownsRow base e 1 v n xs) : ∃ p c, v = .slice p n c ∧ n ≤ c := by
  rcases h.2 with ⟨rfl, rfl⟩ | ⟨g, cap, cur, rfl, hb, _, hc, _⟩
  · exact ⟨none, 0, rfl, Nat.le_refl _⟩
  · exact ⟨_, cap, rfl, hc⟩

theorem GrI.rd {w : World} {base : Nat} {v : Value} {ns : List Nat} (h : GrI w base v ns) : ∃ p c, v = .slice p ns.length c ∧ ns.length ≤ c ∧ Rd .i64 w p ns.length ns := by
  rcases h.2 with ⟨rfl, hn⟩ | ⟨g, cap, cur, rfl, hb, hg, hc, _, hs, ht⟩
  · rw [hn]
    have : ns = [] := List.length_eq_zero_iff.1 hn
    subst this
    exact ⟨none, 0, rfl, Nat.le_refl _, Rd.nil _ _ _⟩
  · refine ⟨_, cap, rfl, hc, rfl, fun i hi => ⟨g, 0, rfl, (Array.getElem?_eq_some_iff.1 hg).1, ?_⟩⟩
    have h1 : (icells ns)[i]? = some (.int .i64 ((ns[i]?.getD 0 : Nat) : Int)) := by unfold icells; simp [hi]
    rw [← ht, Nat.mul_one, List.getElem?_take_of_lt hi] at h1
    rw [Nat.zero_add]
    simpa [World.cell?, hg] using h1

theorem GrI.below {w w' : World} {base : Nat} {v : Value} {ns : List Nat} (h : GrI w base v ns) (hb : Below w.heap.size w w') : GrI w' base v ns :=
  own_below h hb
theorem GrB.below {w w' : World} {base : Nat} {v : Value} {l : List UInt8} (h : GrB w base v l) (hb : Below w.heap.size w w') : GrB w' base v l :=
  own_below h hb

/-- append(d, x), as the walk meets it. -/
theorem pushI_law {ops : Array Oper} {Q : Exit → Act → World → Prop} {o : Oper} {rest : List Oper} {a : Act} {W : World} (hgd : o.guard = none) (s x : Operand)
    (ho : o.op = .call { callee := .builtin .append, args := #[s, x], argTypes := #[33, 33] }) {base : Nat} {v : Value} {ns : List Nat} (hs : a.eval s = v) (h : GrI W base v ns) (d : Nat)
    (hx : a.eval x = .slice (some ⟨W.heap.size, 0, none⟩) 1 1) (hl : ns.length ≤ 1000000000000) (hbase : base ≤ W.heap.size)
    (k : ∀ v' w', GrI w' base v' (ns ++ [d]) → Below base W w' → wpList Tryd.prog ops Q rest (a.put o.dst v') w') : wpList Tryd.prog ops Q (o :: rest) a (W.alloc (.cells #[.int .i64 (d : Int)] 3)) := by
  obtain ⟨i0, hi, hz0, hz1, hz2⟩ := info_parts Tryd.info3
  have hg0 := World.grownBy_alloc W (.cells #[.int .i64 (d : Int)] 3) none
  have h' : (W.alloc (.cells #[.int .i64 (d : Int)] 3)).ownsRow base 3 1 v ns.length (icells ns) := World.ownsRow.kept h hg0 (by cases v.ownBlock <;> simp)
  have hc : (W.alloc (.cells #[.int .i64 (d : Int)] 3)).cell? ⟨W.heap.size, 0, none⟩ = some (.int .i64 (d : Int)) := by simp [go_sem]
  refine wpList_append_own _ hgd s x 33 ho base 3 i0 (.int .i64 0) 1 8 Tryd.underlying33 hi hz0 hz1 hz2 rfl (by decide) v ns.length (icells ns) hs h' ⟨W.heap.size, 0, none⟩ 1 1 [.int .i64 (d : Int)] hx rfl
    (by intro j u hj; match j, hj with | 0, hj => simp at hj; subst hj; simp [Addr.add]) (by simp [Value.oneCell']) (by unfold maxLen; omega) (by omega) (by rw [World.size_alloc]; omega) ?_
  intro v' w' h2 h3 _
  refine k v' w' ?_ ?_
  · unfold GrI; rw [List.length_append, icells_append]; exact h2
  · exact ((Below.refl _ _).alloc hbase _).trans (below_of_own h' h3 (by rw [World.size_alloc]; omega))

theorem pushB_law {ops : Array Oper} {Q : Exit → Act → World → Prop} {o : Oper} {rest : List Oper} {a : Act} {W : World} (hgd : o.guard = none) (s x : Operand)
    (ho : o.op = .call { callee := .builtin .append, args := #[s, x], argTypes := #[23, 23] }) {base : Nat} {v : Value} {l : List UInt8} (hs : a.eval s = v) (h : GrB W base v l) (d : Nat) (hd : d < 256)
    (hx : a.eval x = .slice (some ⟨W.heap.size, 0, none⟩) 1 1) (hl : l.length ≤ 1000000000000) (hbase : base ≤ W.heap.size)
    (k : ∀ v' w', GrB w' base v' (l ++ [UInt8.ofNat d]) → Below base W w' → wpList Tryd.prog ops Q rest (a.put o.dst v') w') : wpList Tryd.prog ops Q (o :: rest) a (W.alloc (.cells #[.int .u8 (d : Int)] 5)) := by
  obtain ⟨i0, hi, hz0, hz1, hz2⟩ := info_parts Tryd.info5
  have hg0 := World.grownBy_alloc W (.cells #[.int .u8 (d : Int)] 5) none
  have h' : (W.alloc (.cells #[.int .u8 (d : Int)] 5)).ownsRow base 5 1 v l.length (bcells l) := World.ownsRow.kept h hg0 (by cases v.ownBlock <;> simp)
  have hc : (W.alloc (.cells #[.int .u8 (d : Int)] 5)).cell? ⟨W.heap.size, 0, none⟩ = some (.int .u8 (d : Int)) := by simp [go_sem]
  refine wpList_append_own _ hgd s x 23 ho base 5 i0 (.int .u8 0) 1 1 Tryd.underlying23 hi hz0 hz1 hz2 rfl (by decide) v l.length (bcells l) hs h' ⟨W.heap.size, 0, none⟩ 1 1 [.int .u8 (d : Int)] hx rfl
    (by intro j u hj; match j, hj with | 0, hj => simp at hj; subst hj; simp [Addr.add]) (by simp [Value.oneCell']) (by unfold maxLen; omega) (by omega) (by rw [World.size_alloc]; omega) ?_
  intro v' w' h2 h3 _
  refine k v' w' ?_ ?_
  · unfold GrB
    rw [List.length_append, bcells_append]
    have e : bcells [UInt8.ofNat d] = [Value.int .u8 (d : Int)] := by simp [bcells]; omega
    rw [e]; exact h2
  · exact ((Below.refl _ _).alloc hbase _).trans (below_of_own h' h3 (by rw [World.size_alloc]; omega))

end Go.Proofs.YtimcbmgmngkagaaDoor

namespace Go.Proofs.YtimcbmgmngkagaaDoor
open Go.RowKit

/-- What has been split off, and what is left. -/
def SplitI (U u : Nat) (ns : List Nat) : Prop := Dg BR ns ∧ dv BR ns + BR ^ ns.length * u = U

theorem SplitI.step {U u : Nat} {ns : List Nat} (h : SplitI U u ns) : SplitI U (u / 10000) (ns ++ [u % 10000]) := by
  refine ⟨h.1.append (Dg.cons (Nat.mod_lt _ (by decide)) (Dg.nil _)), ?_⟩
  rw [dv_snoc, List.length_append, List.length_singleton, Nat.pow_succ, ← h.2, Nat.add_assoc, Nat.mul_assoc, ← Nat.mul_add]
  congr 2
  have := Nat.div_add_mod u 10000
  show u % 10000 + 10000 * (u / 10000) = u
  omega

theorem SplitI.len {U u : Nat} {ns : List Nat} (h : SplitI U u ns) (hu : 0 < u) (hU : U < 18446744073709551616) : ns.length < 5 := by
  rcases Nat.lt_or_ge ns.length 5 with h5 | h5
  · exact h5
  · have h1 : BR ^ 5 ≤ BR ^ ns.length := Nat.pow_le_pow_right (by decide) h5
    have h2 : BR ^ ns.length * 1 ≤ BR ^ ns.length * u := Nat.mul_le_mul_left _ hu
    have h3 : BR ^ 5 = 100000000000000000000 := by decide
    have := h.2
    omega

end Go.Proofs.YtimcbmgmngkagaaDoor

namespace Go.Proofs.YtimcbmgmngkagaaDoor
open Go.RowKit

theorem dv_drop (b : Nat) (xs : List Nat) (k : Nat) (h : k < xs.length) : dv b (xs.drop k) = xs[k]?.getD 0 + b * dv b (xs.drop (k + 1)) := by
  rw [List.drop_eq_getElem_cons h, dv_cons, List.getElem?_eq_getElem h]; rfl

theorem hx_digit {w : World} {neg : Bool} {p : Option Addr} {n c : Nat} {xs : List Nat} {z : Int} (h : RIs w neg p n c xs z) (k : Nat) : xs[k]?.getD 0 < 10000 := h.cn.1.get (by decide) k

end Go.Proofs.YtimcbmgmngkagaaDoor

namespace Go.Proofs.YtimcbmgmngkagaaDoor
open Go.RowKit Go.Lib

/-- The digits of what has been read; none of 0. -/
def decT (v : Nat) : List UInt8 := if v = 0 then [] else decDigits v

theorem decT_step {v c : Nat} (hc : c < 10) : decT (v * 10 + c) = if c = 0 ∧ v = 0 then [] else decT v ++ [UInt8.ofNat (48 + c)] := by
  unfold decT
  by_cases hv : v = 0
  · subst hv
    by_cases h0 : c = 0
    · subst h0; simp
    · rw [if_neg (by omega), if_neg (by omega), if_pos rfl, Nat.zero_mul, Nat.zero_add, decDigits.eq_1, dif_pos hc]; rfl
  · rw [if_neg (by omega), if_neg (by omega), if_neg hv, decDigits_snoc (by omega) hc]

theorem decT_pos {v : Nat} : 0 < (decT v).length ↔ 0 < v := by
  unfold decT
  by_cases h : v = 0
  · simp [h]
  · rw [if_neg h, decDigits_length]; have := nDigits_pos v; omega

theorem decT_len {v k : Nat} (h : v < 10 ^ k) (hk : 1 ≤ k) : (decT v).length ≤ k := by
  unfold decT
  by_cases h0 : v = 0
  · simp [h0]
  · rw [if_neg h0, decDigits_length]; exact nDigits_le hk h

/-- The places of one digit to the base 10000. -/
def PwI (V x p v : Nat) : Prop := (p = 1000 ∧ v = V) ∨ (p = 100 ∧ v = V * 10 + x / 1000) ∨ (p = 10 ∧ v = V * 100 + x / 100) ∨ (p = 1 ∧ v = V * 1000 + x / 10) ∨ (p = 0 ∧ v = V * 10000 + x)

theorem PwI.step {V x p v : Nat} (hx : x < 10000) (h : PwI V x p v) (h0 : 0 < p) : PwI V x (p / 10) (v * 10 + x / p % 10) := by
  unfold PwI at *
  rcases h with ⟨rfl, rfl⟩ | ⟨rfl, rfl⟩ | ⟨rfl, rfl⟩ | ⟨rfl, rfl⟩ | ⟨rfl, rfl⟩ <;> omega

theorem PwI.le {V x p v : Nat} (hx : x < 10000) (h : PwI V x p v) : p ≤ 1000 ∧ v ≤ V * 10000 + x := by
  unfold PwI at *
  rcases h with ⟨rfl, rfl⟩ | ⟨rfl, rfl⟩ | ⟨rfl, rfl⟩ | ⟨rfl, rfl⟩ | ⟨rfl, rfl⟩ <;> omega

theorem PwI.done {V x v : Nat} (h : PwI V x 0 v) : v = x + BR * V := by
  unfold PwI at h
  show v = x + 10000 * V
  omega

theorem BR_pow (k : Nat) : BR ^ k = 10 ^ (4 * k) := by rw [Nat.pow_mul]

theorem GrB.form {w : World} {base : Nat} {v : Value} {l : List UInt8} (h : GrB w base v l) : ∃ p c, v = .slice p l.length c := by
  obtain ⟨p, c, e, _⟩ := own_form h
  exact ⟨p, c, e⟩

set_option maxRecDepth 100000 in
set_option maxHeartbeats 1000000 in
/-- One digit to the base 10000: four places. -/
theorem text_zero (neg : Bool) (p : Option Addr) (c : Nat) (xs : List Nat) (z : Int) (w : World) (hx : RIs w neg p 0 c xs z) :
    Calls Tryd.prog 11 #[.agg #[.bool neg, .slice p 0 c]] w fun e w' => e = .returned (.string ⟨(itoa z).toArray⟩) ∧ Below w.heap.size w w' := by
  have hb0 : Below w.heap.size w (w.alloc (.cells #[.bool neg, .slice p 0 c] 35)) := (Below.refl _ w).alloc (Nat.le_refl _) _
  have hxs : xs = [] := List.length_eq_zero_iff.1 hx.rd.1
  have hz : z = 0 := by rw [hx.val, hxs]; cases neg <;> rfl
  have hz0 : itoa 0 = [48] := by decide +kernel
  rw [hz, hz0]
  clear hz hxs hz0
  go_enter Tryd.func11, Tryd.ntmps11
  go_wp2_with fail
  go_ret
  exact ⟨rfl, hb0⟩

set_option maxRecDepth 100000 in
set_option maxHeartbeats 2000000 in
theorem text_pos (neg : Bool) (p : Option Addr) (n c : Nat) (xs : List Nat) (z : Int) (w : World) (hn : n ≤ 1000000000) (h0 : 0 < n) (hx : RIs w neg p n c xs z) :
    Calls Tryd.prog 11 #[.agg #[.bool neg, .slice p n c]] w fun e w' => e = .returned (.string ⟨(itoa z).toArray⟩) ∧ Below w.heap.size w w' := by
  have hb0 : Below w.heap.size w (w.alloc (.cells #[.bool neg, .slice p n c] 35)) := (Below.refl _ w).alloc (Nat.le_refl _) _
  have b0 := Boxed2.new w (.bool neg) (.slice p n c) 35
  have hrd := hx.rd.below hb0
  have HL := Lib.hid hrd.1
  have HX := Lib.hid hx
  have HR := Lib.hid hrd
  have HB := Lib.hid hb0
  have HB0 := Lib.hid b0
  have h0' : ((n : Int) == 0) = false := by simp; omega
  have hsz : w.heap.size + 1 ≤ (w.alloc (.cells #[.bool neg, .slice p n c] 35)).heap.size := by simp
  clear hx hrd hb0 b0
  go_enter Tryd.func11, Tryd.ntmps11
  go_wp2_with fail
  generalize hw1 : w.alloc (.cells #[.bool neg, .slice p n c] 35) = w1 at *
  go_loopw [3, 4] (fun v3 v4 wr => ∃ k : Nat, k ≤ n ∧ v4 = .int .i64 ((k : Int) - 1) ∧ GrB wr (w.heap.size + 1) v3 (decT (dv BR (xs.drop k))) ∧ w.heap.size + 1 ≤ wr.heap.size ∧ Below (w.heap.size + 1) w1 wr) (fun _ v4 _ => (Go.RowKit.intOf v4 + 1).toNat)
  case atStart => exact ⟨n, Nat.le_refl _, rfl, by rw [List.drop_of_length_le (by rw [HL.out]; exact Nat.le_refl _)]; exact GrB.nil _ _, hsz, Below.refl _ _⟩
  case round =>
    obtain ⟨k, hk, rfl, hgr, hsz2, hb⟩ := hrel
    have bx := HB0.out.below hb (by omega)
    have c0 := bx.cell0
    have c1 := bx.cell1
    cases k with
    | succ k =>
      have hkl : k < xs.length := by rw [HL.out]; omega
      have h1 : ((k + 1 : Nat) : Int) - 1 = (k : Int) := by omega
      obtain ⟨b, off, hp, hbb, hcell0⟩ := HR.out.2 k (by omega)
      subst hp
      have hcell : wr.cell? ⟨b, off + k, none⟩ = some (.int .i64 ((xs[k]?.getD 0 : Nat) : Int)) := (hb.cell (p := ⟨b, off + k, none⟩) (by rw [← hw1] at hbb; simpa using hbb)).trans hcell0
      have hd := hx_digit HX.out k
      have hdrop := dv_drop BR xs k hkl
      have hvb : dv BR (xs.drop k) < 10 ^ (4 * n) := by
        have := dv_lt (HX.out.cn.1.drop k)
        rw [BR_pow] at this
        refine Nat.lt_of_lt_of_le this (Nat.pow_le_pow_right (by decide) ?_)
        rw [List.length_drop, HL.out]; omega
      generalize xs[k]?.getD 0 = x at hd hdrop hcell
      generalize dv BR (xs.drop (k + 1)) = V at hgr hdrop
      have HD := Lib.hid hdrop
      have HVB := Lib.hid hvb
      rw [h1]
      clear hdrop hvb hcell0 h1
      go_wp2_with fail
      obtain ⟨wo, hwo⟩ : ∃ wo : World, wo = wr := ⟨_, rfl⟩
      go_loopw [3, 6] (fun v3 v6 wi => ∃ q v : Nat, v6 = .int .i64 (q : Int) ∧ Hid (PwI V x q v) ∧ GrB wi (w.heap.size + 1) v3 (decT v) ∧ w.heap.size + 1 ≤ wi.heap.size ∧ Below (w.heap.size + 1) w1 wi) (fun _ v6 _ => (Go.RowKit.intOf v6).toNat)
      case atStart => exact ⟨1000, V, rfl, .inl ⟨rfl, rfl⟩, hgr, hsz2, hb⟩
      case round =>
        clear hgr hsz2 hb bx c0 c1 hcell hwo
        obtain ⟨q, v, rfl, HP, hgr, hsz2, hb⟩ := hrel
        by_cases hq : 0 < q
        · have hle := HP.out.le hd
          have hst := HP.out.step hd hq
          have hcc : x / q % 10 < 10 := Nat.mod_lt _ (by decide)
          have hxq : x / q ≤ x := Nat.div_le_self _ _
          have hlen : (decT v).length ≤ 4 * n := by
            refine decT_len ?_ (by omega)
            have h1 := HVB.out
            have h2 := HD.out
            have h3 : BR * V = 10000 * V := rfl
            omega
          have hdiv : (x : Int) / (q : Int) = ((x / q : Nat) : Int) := by simp
          have hmod : ((x / q : Nat) : Int) % 10 = ((x / q % 10 : Nat) : Int) := by omega
          have hq9 : q / 10 < q := by omega
          have hdq : (q : Int) / 10 = ((q / 10 : Nat) : Int) := by omega
          have hq1000 : q ≤ 1000 := hle.1
          have HST := Lib.hid hst
          have hs := decT_step (v := v) hcc
          generalize x / q % 10 = cc at HST hcc hmod hs
          generalize x / q = xq at hdiv hmod hxq
          generalize q / 10 = q' at HST hq9 hdq
          obtain ⟨pp, cp, rfl⟩ := hgr.form
          have hpos := @decT_pos v
          have HS := Lib.hid hs
          have HPOS := Lib.hid hpos
          clear hst hle hs hpos
          by_cases h00 : cc = 0 ∧ v = 0
          · obtain ⟨rfl, rfl⟩ := h00
            have hl0 : (decT 0).length = 0 := rfl
            clear hlen
            go_wp2_with fail
            go_roundw
            case rel => exact ⟨q', 0, rfl, HST.out, hgr, hsz2, hb⟩
            case measure => simp [Go.RowKit.intOf]; omega
          · have hs2 := HS.out
            rw [if_neg h00] at hs2
            have HS2 := Lib.hid hs2
            have hd48 : (48 : Int) + (cc : Int) = ((48 + cc : Nat) : Int) := by omega
            have hd256 : 48 + cc < 256 := by omega
            generalize 48 + cc = d8 at HS2 hd48 hd256
            clear hs2 HS
            by_cases hc0 : cc = 0
            · have hl0 : 0 < (decT v).length := HPOS.out.2 (by omega)
              subst hc0
              obtain rfl : d8 = 48 := by omega
              clear h00 hd48
              go_wp2_with (at_builtin; refine pushB_law rfl _ _ rfl rfl hgr 48 (by decide) rfl (by omega) hsz2 ?_; intro v' w' hgr' hb')
              go_roundw
              case rel => first | exact ⟨q', v * 10 + 0, rfl, HST.out, by rw [HS2.out]; exact hgr', Nat.le_trans hsz2 hb'.size, hb.trans hb'⟩ | ((repeat apply Exists.intro); exact ⟨⟨q', v * 10 + 0, rfl, HST.out, by rw [HS2.out]; exact hgr', Nat.le_trans hsz2 hb'.size, hb.trans hb'⟩, rfl⟩)
              case measure => simp [Go.RowKit.intOf]; omega
            · have hcpos : (0 : Int) < (cc : Int) := by omega
              clear h00 hc0
              go_wp2_with (at_builtin; refine pushB_law rfl _ _ rfl rfl hgr d8 hd256 rfl (by omega) hsz2 ?_; intro v' w' hgr' hb')
              go_roundw
              case rel => first | exact ⟨q', v * 10 + cc, rfl, HST.out, by rw [HS2.out]; exact hgr', Nat.le_trans hsz2 hb'.size, hb.trans hb'⟩ | ((repeat apply Exists.intro); exact ⟨⟨q', v * 10 + cc, rfl, HST.out, by rw [HS2.out]; exact hgr', Nat.le_trans hsz2 hb'.size, hb.trans hb'⟩, rfl⟩)
              case measure => simp [Go.RowKit.intOf]; omega
        · obtain rfl : q = 0 := by omega
          have hv := HP.out.done
          rw [← HD.out] at hv
          subst hv
          go_wp2_with fail
          go_roundw
          case rel => exact ⟨k, by omega, rfl, hgr, hsz2, hb⟩
          case measure => simp [Go.RowKit.intOf] <;> omega
    | zero =>
      rw [List.drop_zero] at hgr
      have hpos : 0 < dv BR xs := HX.out.cn.pos (by decide) (fun e => by have := HR.out.1; rw [e] at this; simp at this; omega)
      have hne : decT (dv BR xs) ≠ [] := fun e => by have := (decT_pos (v := dv BR xs)).2 hpos; rw [e] at this; simp at this
      obtain ⟨pp, cp, rfl⟩ := hgr.form
      have hcv := text_convert hgr hne
      have hm1 : ((0 : Nat) : Int) - 1 = -1 := rfl
      have hT : decT (dv BR xs) = decDigits (dv BR xs) := by unfold decT; rw [if_neg (by omega)]
      have hz : itoa z = (if neg then [45] else []) ++ decDigits (dv BR xs) := by rw [HX.out.val, itoa_sv neg _ (fun _ => hpos)]
      rw [← hT] at hz
      have HZ := Lib.hid hz
      have hbw := HB.out.trans (hb.mono (by omega))
      have hkl : (decT (dv BR xs)).length ≤ 4 * n := by
        refine decT_len ?_ (by omega)
        have := dv_lt HX.out.cn.1
        rw [BR_pow, HL.out] at this
        exact this
      generalize decT (dv BR xs) = tx at *
      clear hz hT hne hpos
      obtain ⟨kk, hkk⟩ : ∃ kk, tx.length = kk := ⟨_, rfl⟩
      rw [hkk] at hcv hkl
      have hkb : ¬ 9223372036854775807 < 1 + kk := by omega
      cases neg
      · go_wp2_with fail
        go_ret
        exact ⟨ret_val (by rw [HZ.out]; rfl), hbw⟩
      · go_wp2_with fail
        go_ret
        exact ⟨ret_val (by rw [HZ.out]; exact congrArg Value.string (by apply ByteArray.ext; simp)), hbw⟩

theorem text_any (neg : Bool) (p : Option Addr) (n c : Nat) (xs : List Nat) (z : Int) (w : World) (hn : n ≤ 1000000000) (hx : RIs w neg p n c xs z) :
    Calls Tryd.prog 11 #[.agg #[.bool neg, .slice p n c]] w fun e w' => e = .returned (.string ⟨(itoa z).toArray⟩) ∧ Below w.heap.size w w' := by
  by_cases h : n = 0
  · subst h; exact text_zero neg p c xs z w hx
  · exact text_pos neg p n c xs z w hn (by omega) hx

end Go.Proofs.YtimcbmgmngkagaaDoor

namespace Go.Proofs.YtimcbmgmngkagaaDoor

/-- A sum, place by place. -/
def AddI (xs ys zs : List Nat) (i c : Nat) : Prop := Dg BR zs ∧ zs.length = i ∧ dv BR zs + BR ^ i * c = dv BR (xs.take i) + dv BR (ys.take i) ∧ c ≤ 1

theorem AddI.start (xs ys : List Nat) : AddI xs ys [] 0 0 := ⟨Dg.nil _, rfl, by simp [dv], Nat.zero_le _⟩

theorem AddI.step {xs ys zs : List Nat} {i c s : Nat} (hx : Dg BR xs) (hy : Dg BR ys) (h : AddI xs ys zs i c) (hs : c + xs[i]?.getD 0 + ys[i]?.getD 0 = s) : AddI xs ys (zs ++ [s % 10000]) (i + 1) (s / 10000) := by
  obtain ⟨h1, h2, h3, h4⟩ := h
  have ha : xs[i]?.getD 0 < 10000 := hx.get (by decide) i
  have hb : ys[i]?.getD 0 < 10000 := hy.get (by decide) i
  refine ⟨h1.append (Dg.cons (Nat.mod_lt _ (by decide)) (Dg.nil _)), by simp [h2], ?_, by omega⟩
  rw [dv_snoc, h2, dv_take_succ, dv_take_succ, Nat.pow_succ]
  have e1 : BR ^ i * (s % 10000) + BR ^ i * BR * (s / 10000) = BR ^ i * s := by
    rw [Nat.mul_assoc, ← Nat.mul_add]
    congr 1
    show s % 10000 + 10000 * (s / 10000) = s
    omega
  have e2 : BR ^ i * s = BR ^ i * c + BR ^ i * xs[i]?.getD 0 + BR ^ i * ys[i]?.getD 0 := by rw [← hs, Nat.mul_add, Nat.mul_add]
  omega

theorem AddI.zero {xs ys zs : List Nat} {i c s : Nat} (h : AddI xs ys zs i c) (hi : xs.length ≤ i) (hj : ys.length ≤ i) (hs : c + xs[i]?.getD 0 + ys[i]?.getD 0 = s) : s / 10000 = 0 := by
  have h4 := h.2.2.2
  rw [List.getElem?_eq_none hi, List.getElem?_eq_none hj] at hs
  simp at hs
  omega

theorem AddI.done {xs ys zs : List Nat} {i : Nat} (h : AddI xs ys zs i 0) (hi : xs.length ≤ i) (hj : ys.length ≤ i) : dv BR zs = dv BR xs + dv BR ys := by
  have h3 := h.2.2.1
  rw [List.take_of_length_le hi, List.take_of_length_le hj] at h3
  omega

/-- A difference, place by place. -/
def SubI (xs ys zs : List Nat) (i c : Nat) : Prop := Dg BR zs ∧ zs.length = i ∧ dv BR zs + dv BR (ys.take i) = dv BR (xs.take i) + BR ^ i * c ∧ c ≤ 1

theorem SubI.start (xs ys : List Nat) : SubI xs ys [] 0 0 := ⟨Dg.nil _, rfl, by simp [dv], Nat.zero_le _⟩

theorem SubI.step {xs ys zs : List Nat} {i c d e : Nat} (hy : Dg BR ys) (hx : Dg BR xs) (h : SubI xs ys zs i c) (hd : d + ys[i]?.getD 0 + c = xs[i]?.getD 0 + 10000 * e) (hd1 : d < 10000) (he : e ≤ 1) : SubI xs ys (zs ++ [d]) (i + 1) e := by
  obtain ⟨h1, h2, h3, h4⟩ := h
  refine ⟨h1.append (Dg.cons hd1 (Dg.nil _)), by simp [h2], ?_, he⟩
  rw [dv_snoc, h2, dv_take_succ, dv_take_succ, Nat.pow_succ]
  have e1 : BR ^ i * d + BR ^ i * ys[i]?.getD 0 + BR ^ i * c = BR ^ i * xs[i]?.getD 0 + BR ^ i * BR * e := by
    rw [← Nat.mul_add, ← Nat.mul_add, Nat.mul_assoc, ← Nat.mul_add]
    congr 1
  omega

theorem SubI.done {xs ys zs : List Nat} {i c : Nat} (h : SubI xs ys zs i c) (hi : xs.length ≤ i) (hj : ys.length ≤ i) (hle : dv BR ys ≤ dv BR xs) : dv BR zs = dv BR xs - dv BR ys := by
  obtain ⟨h1, h2, h3, h4⟩ := h
  rw [List.take_of_length_le hi, List.take_of_length_le hj] at h3
  have h5 := dv_lt h1
  rw [h2] at h5
  cases c with
  | zero => omega
  | succ c => have : c = 0 := by omega
              subst this; omega

end Go.Proofs.YtimcbmgmngkagaaDoor

namespace Go.Proofs.YtimcbmgmngkagaaDoor
open Go.RowKit

set_option maxHeartbeats 1000000 in
theorem rneg_any (neg : Bool) (p : Option Addr) (n c : Nat) (xs : List Nat) (z : Int) (w : World) (hn : n ≤ 1000000000) (hx : RIs w neg p n c xs z) :
    Calls Tryd.prog 12 #[.agg #[.bool neg, .slice p n c]] w (RV w (-z) n) := by
  have hb0 : Below w.heap.size w ((w.alloc (.cells #[.bool neg, .slice p n c] 35)).alloc (.cells #[.bool false, .slice none 0 0] 35)) := ((Below.refl _ w).alloc (Nat.le_refl _) _).alloc (by simp) _
  have b1 : Boxed2 ((w.alloc (.cells #[.bool neg, .slice p n c] 35)).alloc (.cells #[.bool false, .slice none 0 0] 35)) (w.heap.size + 1) (.bool false) (.slice none 0 0) 35 := by
    have := Boxed2.new (w.alloc (.cells #[.bool neg, .slice p n c] 35)) (.bool false) (.slice none 0 0) 35
    simpa using this
  have hx1 := hx.below hb0
  have HX := Lib.hid hx
  go_enter Tryd.func12, Tryd.ntmps12
  go_wp2_with (go_at_call 27; refine (rnumber_any _ _ _ _ xs _ (by unfold maxLen; omega) hx1.cap hx1.rd hx1.cn.1).mono ?_; rintro e w2 ⟨neg2, p2, n2, c2, xs2, rfl, hx2, hn2, hb2⟩; have b2 := b1.below hb2 b1.lt; have c20 := b2.cell0; have c21 := b2.cell1; have q20 := b2.frozen (i := 0); have q21 := b2.frozen (i := 1))
  have b3 := b2.set (.bool neg2) (.slice p2 n2 c2)
  have z0 := b3.cell0
  have z1 := b3.cell1
  refine bodyPost_ret (v := .agg #[.bool neg2, .slice p2 n2 c2]) (by simp [results, Tryd.results12, go_sem, z0, z1]) rfl ⟨neg2, p2, n2, c2, xs2, rfl, { rd := (hx2.rd.boxI b2 _).boxI (b2.set0 _) _, cap := hx2.cap, cn := hx2.cn, pos := hx2.pos, val := ?_ }, hn2, ((hb0.trans (hb2.mono hb0.size)).setCell (by simp) _).setCell (by simp) _⟩
  rw [← hx2.val, HX.out.val]
  cases neg <;> simp [sv]

end Go.Proofs.YtimcbmgmngkagaaDoor

namespace Go.Proofs.YtimcbmgmngkagaaDoor
open Go.RowKit

theorem Rd.drewN {k : IntKind} {w : World} {p : Option Addr} {n : Nat} {xs : List Nat} (h : Rd k w p n xs) (a : Nat) : Rd k (w.drewN a) p n xs := h

end Go.Proofs.YtimcbmgmngkagaaDoor
