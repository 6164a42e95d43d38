/-
  What the calls of the laws hand back, for lists of bytes.
-/
import Derived.Test.YtapfkinpdinbgaaDoorFit
import Derived.Test.YtapfkinpdinbgaaDoorRefMul
import Derived.Test.YtapfkinpdinbgaaDoorClean
import Derived.Test.YtapfkinpdinbgaaDoorItoa
import Derived.Test.YtapfkinpdinbgaaDoorToInt
import Derived.Test.YtapfkinpdinbgaaDoorApi
import Derived.Test.YtapfkinpdinbgaaDoorOrder
import Derived.Test.YtapfkinpdinbgaaDoorDiv
namespace Go.Proofs.YtapfkinpdinbgaaDoor
open Go.RowKit

theorem isL (l : List UInt8) (w : World) (hl : l.length ≤ 1000000000) : Calls Tryd.prog 13 #[.string ⟨l.toArray⟩] w fun e w' => e = .returned (.bool (numB l)) ∧ Below w.heap.size w w' := by
  have h := is_any ⟨l.toArray⟩ w (by show l.toArray.size ≤ maxLen; unfold maxLen; simp; omega)
  have e : (⟨l.toArray⟩ : ByteArray).data.toList = l := by show l.toArray.toList = l; simp
  rw [e] at h; exact h

theorem toIntL (l : List UInt8) (w : World) (hl : l.length ≤ 1000000000) (herr : ErrLaid w) : Calls Tryd.prog 12 #[.string ⟨l.toArray⟩] w fun e w' => e = .returned (.tuple #[.int .i64 (toInt l), .bool (toOk l)]) ∧ Below w.heap.size w w' := by
  have h := toInt_any ⟨l.toArray⟩ w (by show l.toArray.size ≤ maxLen; unfold maxLen; simp; omega) herr
  have e : (⟨l.toArray⟩ : ByteArray).data.toList = l := by show l.toArray.toList = l; simp
  rw [e] at h; exact h

theorem calls_flip {f : FuncId} {a : Array Value} {w : World} {Q : Ending → Prop} (h : Calls Tryd.prog f a w fun e w' => Q e ∧ w' = w) : Calls Tryd.prog f a w fun e w' => Q e ∧ w = w' := h.mono fun _ _ ⟨x, y⟩ => ⟨x, y.symm⟩

theorem bytes_data (l : List UInt8) : (⟨l.toArray⟩ : ByteArray).data.toList = l := by show l.toArray.toList = l; simp
theorem bytes_small {l : List UInt8} (h : l.length ≤ 1000000000) : (⟨l.toArray⟩ : ByteArray).size ≤ maxLen := by show l.toArray.size ≤ maxLen; unfold maxLen; simp; omega

/-- What a call hands back: a written integer. -/
def OutIs (w : World) (z : Int) (e : Ending) (w' : World) : Prop := e = .returned (.tuple #[.string ⟨(outS z).toArray⟩, .int .i64 (outE z)]) ∧ Below w.heap.size w w'
/-- What a call hands back: no number was given. -/
def BadIs (w : World) (e : Ending) (w' : World) : Prop := e = .returned (.tuple #[.string ⟨#[]⟩, .int .i64 6]) ∧ Below w.heap.size w w'

theorem addL (a b : List UInt8) (w : World) (ha : a.length ≤ 1000000000) (hb : b.length ≤ 1000000000) (h1 : numB a = true) (h2 : numB b = true) (htab : Tab w) : Calls Tryd.prog 22 #[.string ⟨a.toArray⟩, .string ⟨b.toArray⟩] w (OutIs w (strV a + strV b)) := by
  have h := add_any ⟨a.toArray⟩ ⟨b.toArray⟩ w (bytes_small ha) (bytes_small hb) htab
  rw [bytes_data, bytes_data, h1, h2] at h
  exact h
theorem addL_bad (a b : List UInt8) (w : World) (ha : a.length ≤ 1000000000) (hb : b.length ≤ 1000000000) (h1 : (numB a && numB b) = false) (htab : Tab w) : Calls Tryd.prog 22 #[.string ⟨a.toArray⟩, .string ⟨b.toArray⟩] w (BadIs w) := by
  have h := add_any ⟨a.toArray⟩ ⟨b.toArray⟩ w (bytes_small ha) (bytes_small hb) htab
  rw [bytes_data, bytes_data, h1] at h
  exact h

theorem subL (a b : List UInt8) (w : World) (ha : a.length ≤ 1000000000) (hb : b.length ≤ 1000000000) (h1 : numB a = true) (h2 : numB b = true) (htab : Tab w) : Calls Tryd.prog 23 #[.string ⟨a.toArray⟩, .string ⟨b.toArray⟩] w (OutIs w (strV a - strV b)) := by
  have h := sub_any ⟨a.toArray⟩ ⟨b.toArray⟩ w (bytes_small ha) (bytes_small hb) htab
  rw [bytes_data, bytes_data, h1, h2] at h
  exact h
theorem subL_bad (a b : List UInt8) (w : World) (ha : a.length ≤ 1000000000) (hb : b.length ≤ 1000000000) (h1 : (numB a && numB b) = false) (htab : Tab w) : Calls Tryd.prog 23 #[.string ⟨a.toArray⟩, .string ⟨b.toArray⟩] w (BadIs w) := by
  have h := sub_any ⟨a.toArray⟩ ⟨b.toArray⟩ w (bytes_small ha) (bytes_small hb) htab
  rw [bytes_data, bytes_data, h1] at h
  exact h

theorem mulL (a b : List UInt8) (w : World) (ha : a.length ≤ 1000000000) (hb : b.length ≤ 1000000000) (h1 : numB a = true) (h2 : numB b = true) (htab : Tab w) : Calls Tryd.prog 24 #[.string ⟨a.toArray⟩, .string ⟨b.toArray⟩] w (OutIs w (strV a * strV b)) := by
  have h := mul_any ⟨a.toArray⟩ ⟨b.toArray⟩ w (bytes_small ha) (bytes_small hb) htab
  rw [bytes_data, bytes_data, h1, h2] at h
  exact h
theorem mulL_bad (a b : List UInt8) (w : World) (ha : a.length ≤ 1000000000) (hb : b.length ≤ 1000000000) (h1 : (numB a && numB b) = false) (htab : Tab w) : Calls Tryd.prog 24 #[.string ⟨a.toArray⟩, .string ⟨b.toArray⟩] w (BadIs w) := by
  have h := mul_any ⟨a.toArray⟩ ⟨b.toArray⟩ w (bytes_small ha) (bytes_small hb) htab
  rw [bytes_data, bytes_data, h1] at h
  exact h

theorem cmpL (a b : List UInt8) (w : World) (ha : a.length ≤ 1000000000) (hb : b.length ≤ 1000000000) (h1 : numB a = true) (h2 : numB b = true) : Calls Tryd.prog 25 #[.string ⟨a.toArray⟩, .string ⟨b.toArray⟩] w fun e w' => e = .returned (.tuple #[.int .i64 (sgnCmp (strV a) (strV b)), .int .i64 0]) ∧ Below w.heap.size w w' := by
  have h := cmp_any ⟨a.toArray⟩ ⟨b.toArray⟩ w (bytes_small ha) (bytes_small hb)
  rw [bytes_data, bytes_data, h1, h2] at h
  exact h
theorem cmpL_bad (a b : List UInt8) (w : World) (ha : a.length ≤ 1000000000) (hb : b.length ≤ 1000000000) (h1 : (numB a && numB b) = false) : Calls Tryd.prog 25 #[.string ⟨a.toArray⟩, .string ⟨b.toArray⟩] w fun e w' => e = .returned (.tuple #[.int .i64 0, .int .i64 6]) ∧ Below w.heap.size w w' := by
  have h := cmp_any ⟨a.toArray⟩ ⟨b.toArray⟩ w (bytes_small ha) (bytes_small hb)
  rw [bytes_data, bytes_data, h1] at h
  exact h

theorem itoa_len {z : Int} {k : Nat} (hk : 1 ≤ k) (h : z.natAbs < 10 ^ k) : (Lib.itoa z).length ≤ k + 1 := by
  have h1 := nDigits_le hk h
  obtain ⟨_, _, h5⟩ := itoa_says z
  have : (Lib.itoa z).length ≤ (digitsOf (Lib.itoa z)).length + 1 := by
    cases Lib.itoa z with
    | nil => simp
    | cons c t => by_cases h : c = 45 <;> simp [digitsOf, h]
  omega

theorem strV_bound {l : List UInt8} {k : Nat} (h : numB l = true) (hl : l.length ≤ k) : (strV l).natAbs < 10 ^ k := by
  unfold numB plainB at h
  simp only [Bool.and_eq_true] at h
  have h1 := decV_lt _ h.1.1.2
  have h2 : (digitsOf l).length ≤ l.length := by
    cases l with
    | nil => exact Nat.le_refl _
    | cons c t => by_cases h : c = 45 <;> simp [digitsOf, h]
  have h3 : (10 : Nat) ^ (digitsOf l).length ≤ 10 ^ k := Nat.pow_le_pow_right (by decide) (by omega)
  have h4 : (strV l).natAbs = decV (digitsOf l) := by unfold strV; split <;> simp
  rw [h4]
  exact Nat.lt_of_lt_of_le h1 h3

theorem ten_add {x y : Int} {k : Nat} (hx : x.natAbs < 10 ^ k) (hy : y.natAbs < 10 ^ k) : (x + y).natAbs < 10 ^ (k + 1) ∧ (x - y).natAbs < 10 ^ (k + 1) := by
  rw [Nat.pow_succ]; omega
theorem ten_mul {x y : Int} {k : Nat} (hx : x.natAbs < 10 ^ k) (hy : y.natAbs < 10 ^ k) : (x * y).natAbs < 10 ^ (k + k) := by
  rw [Int.natAbs_mul, Nat.pow_add]
  exact Nat.mul_lt_mul_of_lt_of_lt hx hy

theorem RIs.zero (w : World) : RIs w false none 0 0 [] 0 := { rd := Rd.nil _ _ _, cap := Nat.le_refl _, cn := Cn.nil _, pos := (by intro h; cases h), val := rfl }

theorem two_list (w : World) (a b : List UInt8) (t : TypeId) : RdL (w.alloc (.cells #[.string ⟨a.toArray⟩, .string ⟨b.toArray⟩] t)) (some ⟨w.heap.size, 0, none⟩) [a, b] := by
  intro i s hs
  refine ⟨w.heap.size, 0, rfl, by simp, ?_⟩
  match i, hs with
  | 0, hs => cases hs; simp [go_sem]
  | 1, hs => cases hs; simp [go_sem]
  | i + 2, hs => simp at hs

theorem one_list (w : World) (a : List UInt8) (t : TypeId) : RdL (w.alloc (.cells #[.string ⟨a.toArray⟩] t)) (some ⟨w.heap.size, 0, none⟩) [a] := by
  intro i s hs
  refine ⟨w.heap.size, 0, rfl, by simp, ?_⟩
  match i, hs with
  | 0, hs => cases hs; simp [go_sem]
  | i + 1, hs => simp at hs

end Go.Proofs.YtapfkinpdinbgaaDoor
