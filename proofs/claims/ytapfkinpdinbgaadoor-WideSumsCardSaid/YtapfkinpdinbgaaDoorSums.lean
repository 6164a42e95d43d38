/-
  WideSums, its walk.
-/
import Derived.Test.YtapfkinpdinbgaaDoorFit
import Derived.Test.YtapfkinpdinbgaaDoorRefMul
import Derived.Test.YtapfkinpdinbgaaDoorClean
import Derived.Test.YtapfkinpdinbgaaDoorForms
import Derived.Test.YtapfkinpdinbgaaDoorOrder
namespace Go.Proofs.YtapfkinpdinbgaaDoor
open Go.RowKit

theorem bytes_data (l : List UInt8) : (⟨l.toArray⟩ : ByteArray).data.toList = l := by show l.toArray.toList = l; simp
theorem bytes_small {l : List UInt8} (h : l.length ≤ 1000000000) : (⟨l.toArray⟩ : ByteArray).size ≤ maxLen := by show l.toArray.size ≤ maxLen; unfold maxLen; simp; omega

/-- What a call hands back: a written integer. -/
def OutIs (w : World) (z : Int) (e : Ending) (w' : World) : Prop := e = .returned (.tuple #[.string ⟨(outS z).toArray⟩, .int .i64 (outE z)]) ∧ Below w.heap.size w w'
/-- What a call hands back: no number was given. -/
def BadIs (w : World) (e : Ending) (w' : World) : Prop := e = .returned (.tuple #[.string ⟨#[]⟩, .int .i64 6]) ∧ Below w.heap.size w w'

theorem addL (a b : List UInt8) (w : World) (ha : a.length ≤ 1000000000) (hb : b.length ≤ 1000000000) (h1 : numB a = true) (h2 : numB b = true) (htab : Tab w) : Calls Tryd.prog 22 #[.string ⟨a.toArray⟩, .string ⟨b.toArray⟩] w (OutIs w (strV a + strV b)) := by
  have h := add_any ⟨a.toArray⟩ ⟨b.toArray⟩ w (bytes_small ha) (bytes_small hb) htab
  rw [bytes_data, bytes_data, h1, h2] at h
  exact h
theorem addL_bad (a b : List UInt8) (w : World) (ha : a.length ≤ 1000000000) (hb : b.length ≤ 1000000000) (h1 : (numB a && numB b) = false) (htab : Tab w) : Calls Tryd.prog 22 #[.string ⟨a.toArray⟩, .string ⟨b.toArray⟩] w (BadIs w) := by
  have h := add_any ⟨a.toArray⟩ ⟨b.toArray⟩ w (bytes_small ha) (bytes_small hb) htab
  rw [bytes_data, bytes_data, h1] at h
  exact h

theorem subL (a b : List UInt8) (w : World) (ha : a.length ≤ 1000000000) (hb : b.length ≤ 1000000000) (h1 : numB a = true) (h2 : numB b = true) (htab : Tab w) : Calls Tryd.prog 23 #[.string ⟨a.toArray⟩, .string ⟨b.toArray⟩] w (OutIs w (strV a - strV b)) := by
  have h := sub_any ⟨a.toArray⟩ ⟨b.toArray⟩ w (bytes_small ha) (bytes_small hb) htab
  rw [bytes_data, bytes_data, h1, h2] at h
  exact h
theorem subL_bad (a b : List UInt8) (w : World) (ha : a.length ≤ 1000000000) (hb : b.length ≤ 1000000000) (h1 : (numB a && numB b) = false) (htab : Tab w) : Calls Tryd.prog 23 #[.string ⟨a.toArray⟩, .string ⟨b.toArray⟩] w (BadIs w) := by
  have h := sub_any ⟨a.toArray⟩ ⟨b.toArray⟩ w (bytes_small ha) (bytes_small hb) htab
  rw [bytes_data, bytes_data, h1] at h
  exact h

theorem mulL (a b : List UInt8) (w : World) (ha : a.length ≤ 1000000000) (hb : b.length ≤ 1000000000) (h1 : numB a = true) (h2 : numB b = true) (htab : Tab w) : Calls Tryd.prog 24 #[.string ⟨a.toArray⟩, .string ⟨b.toArray⟩] w (OutIs w (strV a * strV b)) := by
  have h := mul_any ⟨a.toArray⟩ ⟨b.toArray⟩ w (bytes_small ha) (bytes_small hb) htab
  rw [bytes_data, bytes_data, h1, h2] at h
  exact h
theorem mulL_bad (a b : List UInt8) (w : World) (ha : a.length ≤ 1000000000) (hb : b.length ≤ 1000000000) (h1 : (numB a && numB b) = false) (htab : Tab w) : Calls Tryd.prog 24 #[.string ⟨a.toArray⟩, .string ⟨b.toArray⟩] w (BadIs w) := by
  have h := mul_any ⟨a.toArray⟩ ⟨b.toArray⟩ w (bytes_small ha) (bytes_small hb) htab
  rw [bytes_data, bytes_data, h1] at h
  exact h

theorem cmpL (a b : List UInt8) (w : World) (ha : a.length ≤ 1000000000) (hb : b.length ≤ 1000000000) (h1 : numB a = true) (h2 : numB b = true) : Calls Tryd.prog 25 #[.string ⟨a.toArray⟩, .string ⟨b.toArray⟩] w fun e w' => e = .returned (.tuple #[.int .i64 (sgnCmp (strV a) (strV b)), .int .i64 0]) ∧ Below w.heap.size w w' := by
  have h := cmp_any ⟨a.toArray⟩ ⟨b.toArray⟩ w (bytes_small ha) (bytes_small hb)
  rw [bytes_data, bytes_data, h1, h2] at h
  exact h
theorem cmpL_bad (a b : List UInt8) (w : World) (ha : a.length ≤ 1000000000) (hb : b.length ≤ 1000000000) (h1 : (numB a && numB b) = false) : Calls Tryd.prog 25 #[.string ⟨a.toArray⟩, .string ⟨b.toArray⟩] w fun e w' => e = .returned (.tuple #[.int .i64 0, .int .i64 6]) ∧ Below w.heap.size w w' := by
  have h := cmp_any ⟨a.toArray⟩ ⟨b.toArray⟩ w (bytes_small ha) (bytes_small hb)
  rw [bytes_data, bytes_data, h1] at h
  exact h

theorem itoa_len {z : Int} {k : Nat} (hk : 1 ≤ k) (h : z.natAbs < 10 ^ k) : (Lib.itoa z).length ≤ k + 1 := by
  have h1 := nDigits_le hk h
  obtain ⟨_, _, h5⟩ := itoa_says z
  have : (Lib.itoa z).length ≤ (digitsOf (Lib.itoa z)).length + 1 := by
    cases Lib.itoa z with
    | nil => simp
    | cons c t => by_cases h : c = 45 <;> simp [digitsOf, h]
  omega

theorem strV_bound {l : List UInt8} {k : Nat} (h : numB l = true) (hl : l.length ≤ k) : (strV l).natAbs < 10 ^ k := by
  unfold numB plainB at h
  simp only [Bool.and_eq_true] at h
  have h1 := decV_lt _ h.1.1.2
  have h2 : (digitsOf l).length ≤ l.length := by
    cases l with
    | nil => exact Nat.le_refl _
    | cons c t => by_cases h : c = 45 <;> simp [digitsOf, h]
  have h3 : (10 : Nat) ^ (digitsOf l).length ≤ 10 ^ k := Nat.pow_le_pow_right (by decide) (by omega)
  have h4 : (strV l).natAbs = decV (digitsOf l) := by unfold strV; split <;> simp
  rw [h4]
  exact Nat.lt_of_lt_of_le h1 h3

theorem ten_add {x y : Int} {k : Nat} (hx : x.natAbs < 10 ^ k) (hy : y.natAbs < 10 ^ k) : (x + y).natAbs < 10 ^ (k + 1) ∧ (x - y).natAbs < 10 ^ (k + 1) := by
  rw [Nat.pow_succ]; omega
theorem ten_mul {x y : Int} {k : Nat} (hx : x.natAbs < 10 ^ k) (hy : y.natAbs < 10 ^ k) : (x * y).natAbs < 10 ^ (k + k) := by
  rw [Int.natAbs_mul, Nat.pow_add]
  exact Nat.mul_lt_mul_of_lt_of_lt hx hy

theorem RIs.zero (w : World) : RIs w false none 0 0 [] 0 := { rd := Rd.nil _ _ _, cap := Nat.le_refl _, cn := Cn.nil _, pos := (by intro h; cases h), val := rfl }

theorem two_list (w : World) (a b : List UInt8) (t : TypeId) : RdL (w.alloc (.cells #[.string ⟨a.toArray⟩, .string ⟨b.toArray⟩] t)) (some ⟨w.heap.size, 0, none⟩) [a, b] := by
  intro i s hs
  refine ⟨w.heap.size, 0, rfl, by simp, ?_⟩
  match i, hs with
  | 0, hs => cases hs; simp [go_sem]
  | 1, hs => cases hs; simp [go_sem]
  | i + 2, hs => simp at hs

set_option maxRecDepth 100000 in
set_option maxHeartbeats 8000000 in
theorem wideSums_walk (x y : List UInt8) (w : World) (hxl : x.length ≤ 9223372036854775807) (hyl : y.length ≤ 9223372036854775807) (htab : Tab w) (herr : ErrLaid w) :
    Calls Tryd.prog 4 #[.string ⟨x.toArray⟩, .string ⟨y.toArray⟩] w fun e w' => e = .returned (.bool true) ∧ Below w.heap.size w w' := by
  have HT := Lib.hid htab
  have HE := Lib.hid herr
  have HCX := Lib.hid (fun W => clean_any x 200 W hxl (by omega) (by omega))
  have HCY := Lib.hid (fun W => clean_any y 200 W hyl (by omega) (by omega))
  clear htab herr
  go_enter Tryd.func4, Tryd.ntmps4
  go_wp2_with fail
  refine (calls_flip (part_any x 300 _ hxl (by omega))).mono ?_
  rintro e w' ⟨rfl, rfl⟩
  go_wp2_with fail
  refine (calls_flip (part_any y 300 _ hyl (by omega))).mono ?_
  rintro e w' ⟨rfl, rfl⟩
  go_wp2_with fail
  go_loopg [5, 6, 7] 2 (fun gk v5 v6 v7 wr => ∃ (j : Nat) (a b : List UInt8), j ≤ 2 ∧ gk = 2 - j ∧ v7 = .int .i64 (j : Int) ∧ v5 = .string ⟨a.toArray⟩ ∧ v6 = .string ⟨b.toArray⟩ ∧ a.length ≤ 300 ∧ b.length ≤ 300 ∧ Below w.heap.size w wr)
  case atStart => exact ⟨0, x.take 300, y.take 300, by omega, rfl, rfl, rfl, rfl, by rw [List.length_take]; omega, by rw [List.length_take]; omega, Below.refl _ _⟩
  case round =>
    obtain ⟨j, a, b, hj, hgk, rfl, rfl, rfl, hal, hbl, hb⟩ := hrel
    have HGK := Lib.hid hgk
    clear hgk
    by_cases hlt : j < 2
    · have hji : (j : Int) < 2 := by omega
      cases hnb : (numB a && numB b)
      · have HNB := Lib.hid hnb
        have hfo : formE (allN [a, b]) = 6 := by unfold formE allN; simp only [List.all_cons, List.all_nil, Bool.and_true]; rw [hnb]; rfl
        have HFO := Lib.hid hfo
        clear hnb hfo
        · go_wp2_with fail
          refine (addL_bad a b _ (by omega) (by omega) HNB.out (HT.out.below hb)).mono ?_
          rintro e w1 ⟨rfl, hb1'⟩
          have hb1 := hb.trans (hb1'.mono hb.size)
          go_wp2_with fail
          refine (subL_bad a b _ (by omega) (by omega) HNB.out (HT.out.below hb1)).mono ?_
          rintro e w2 ⟨rfl, hb2'⟩
          have hb2 := hb1.trans (hb2'.mono hb1.size)
          go_wp2_with fail
          refine (mulL_bad a b _ (by omega) (by omega) HNB.out (HT.out.below hb2)).mono ?_
          rintro e w3 ⟨rfl, hb3'⟩
          have hb3 := hb2.trans (hb3'.mono hb2.size)
          go_wp2_with fail
          refine (cmpL_bad a b _ (by omega) (by omega) HNB.out).mono ?_
          rintro e w4 ⟨rfl, hb4'⟩
          have hb4 := hb3.trans (hb4'.mono hb3.size)
          go_wp2_with fail
          refine (form_any _ 2 2 [a, b] _ rfl (by omega) (two_list w4 a b 9) (by intro s hs; simp at hs; rcases hs with rfl | rfl <;> omega)).mono ?_
          rintro e w' ⟨rfl, hw'⟩
          subst hw'
          rw [HFO.out]
          have hbA : Below w4.heap.size w4 (((w4.alloc (.cells #[.string ⟨a.toArray⟩, .string ⟨b.toArray⟩] 9)).alloc (.cells #[.bool false, .slice none 0 0] 29)).alloc (.cells #[.bool false, .slice none 0 0] 29)) := (((Below.refl _ w4).alloc (Nat.le_refl _) _).alloc (by simp) _).alloc (by rw [World.size_alloc, World.size_alloc]; omega) _
          have b17 : Boxed2 (((w4.alloc (.cells #[.string ⟨a.toArray⟩, .string ⟨b.toArray⟩] 9)).alloc (.cells #[.bool false, .slice none 0 0] 29)).alloc (.cells #[.bool false, .slice none 0 0] 29)) (w4.heap.size + 1) (.bool false) (.slice none 0 0) 29 := by
            have := Boxed2.new (w4.alloc (.cells #[.string ⟨a.toArray⟩, .string ⟨b.toArray⟩] 9)) (.bool false) (.slice none 0 0) 29
            rw [World.size_alloc] at this
            exact this.alloc _
          have b18 : Boxed2 (((w4.alloc (.cells #[.string ⟨a.toArray⟩, .string ⟨b.toArray⟩] 9)).alloc (.cells #[.bool false, .slice none 0 0] 29)).alloc (.cells #[.bool false, .slice none 0 0] 29)) (w4.heap.size + 1 + 1) (.bool false) (.slice none 0 0) 29 := by
            have := Boxed2.new ((w4.alloc (.cells #[.string ⟨a.toArray⟩, .string ⟨b.toArray⟩] 9)).alloc (.cells #[.bool false, .slice none 0 0] 29)) (.bool false) (.slice none 0 0) 29
            rwa [World.size_alloc, World.size_alloc] at this
          have hb5 := hb4.trans (hbA.mono hb4.size)
          have k0 := b17.cell0
          have k1 := b17.cell1
          have k2 := b18.cell0
          have k3 := b18.cell1
          have hsz5 := hb4.size
          go_wp2_with fail
          generalize hWA : (((w4.alloc (.cells #[.string ⟨a.toArray⟩, .string ⟨b.toArray⟩] 9)).alloc (.cells #[.bool false, .slice none 0 0] 29)).alloc (.cells #[.bool false, .slice none 0 0] 29)) = wA at *
          clear hWA hbA
          have hu := RIs.zero wA
          have hv := RIs.zero wA
          have hbQ := hb5
          obtain ⟨wq, rfl⟩ : ∃ wq, wA = wq := ⟨_, rfl⟩
          refine (radd_any _ _ _ _ _ _ _ _ [] [] 0 0 _ (by omega) (by omega) hu hv).mono ?_
          rintro e w7 ⟨ng7, p7, n7, c7, xs7, rfl, hz7, hn7, hb7'⟩
          have hb7 := hbQ.trans (hb7'.mono hbQ.size)
          have b17 := b17.below hb7' b17.lt
          have b18 := b18.below hb7' b18.lt
          have k0 := b17.cell0
          have k1 := b17.cell1
          have k2 := b18.cell0
          have k3 := b18.cell1
          have hu := hu.below hb7'
          have hv := hv.below hb7'
          go_wp2_with fail
          refine (fit_want 6 _ ng7 p7 n7 c7 _ (by omega) rfl).mono ?_
          rintro e w8 ⟨rfl, hb8'⟩
          have hb8 := hb7.trans (hb8'.mono hb7.size)
          have b17 := b17.below hb8' b17.lt
          have b18 := b18.below hb8' b18.lt
          have k0 := b17.cell0
          have k1 := b17.cell1
          have k2 := b18.cell0
          have k3 := b18.cell1
          have hu := hu.below hb8'
          have hv := hv.below hb8'
          go_wp2_with fail
          refine (rsub_any _ _ _ _ _ _ _ _ [] [] 0 0 _ (by omega) (by omega) hu hv).mono ?_
          rintro e w9 ⟨ng9, p9, n9, c9, xs9, rfl, hz9, hn9, hb9'⟩
          have hb9 := hb8.trans (hb9'.mono hb8.size)
          have b17 := b17.below hb9' b17.lt
          have b18 := b18.below hb9' b18.lt
          have k0 := b17.cell0
          have k1 := b17.cell1
          have k2 := b18.cell0
          have k3 := b18.cell1
          have hu := hu.below hb9'
          have hv := hv.below hb9'
          go_wp2_with fail
          refine (fit_want 6 _ ng9 p9 n9 c9 _ (by omega) rfl).mono ?_
          rintro e w10 ⟨rfl, hb10'⟩
          have hb10 := hb9.trans (hb10'.mono hb9.size)
          have b17 := b17.below hb10' b17.lt
          have b18 := b18.below hb10' b18.lt
          have k0 := b17.cell0
          have k1 := b17.cell1
          have k2 := b18.cell0
          have k3 := b18.cell1
          have hu := hu.below hb10'
          have hv := hv.below hb10'
          go_wp2_with fail
          refine (rmul_any _ _ _ _ _ _ _ _ [] [] 0 0 _ (by omega) (by omega) hu hv).mono ?_
          rintro e w11 ⟨ng11, p11, n11, c11, xs11, rfl, hz11, hn11, hb11'⟩
          have hb11 := hb10.trans (hb11'.mono hb10.size)
          have b17 := b17.below hb11' b17.lt
          have b18 := b18.below hb11' b18.lt
          have k0 := b17.cell0
          have k1 := b17.cell1
          have k2 := b18.cell0
          have k3 := b18.cell1
          have hu := hu.below hb11'
          have hv := hv.below hb11'
          go_wp2_with fail
          refine (fit_want 6 _ ng11 p11 n11 c11 _ (by omega) rfl).mono ?_
          rintro e w12 ⟨rfl, hb12'⟩
          have hb12 := hb11.trans (hb12'.mono hb11.size)
          have b17 := b17.below hb12' b17.lt
          have b18 := b18.below hb12' b18.lt
          have k0 := b17.cell0
          have k1 := b17.cell1
          have k2 := b18.cell0
          have k3 := b18.cell1
          have hu := hu.below hb12'
          have hv := hv.below hb12'
          go_wp2_with fail
          refine (HCX.out _).mono ?_
          rintro e w13 ⟨⟨l1, hc1, rfl⟩, hb13'⟩
          have hb13 := hb12.trans (hb13'.mono hb12.size)
          go_wp2_with fail
          refine (HCY.out _).mono ?_
          rintro e w14 ⟨⟨l2, hc2, rfl⟩, hb14'⟩
          have hb14 := hb13.trans (hb14'.mono hb13.size)
          go_wp2_with fail
          go_roundg (2 - (j + 1))
          case measure => rw [HGK.out]; omega
          case rel => exact ⟨j + 1, l1, l2, by omega, rfl, by go_num, rfl, rfl, by have := hc1.2.2; omega, by have := hc2.2.2; omega, hb14⟩
      · have hab : numB a = true ∧ numB b = true := by simpa using hnb
        obtain ⟨h1, h2⟩ := hab
        have HA := Lib.hid h1
        have HB := Lib.hid h2
        have hfo : formE (allN [a, b]) = 0 := by unfold formE allN; simp only [List.all_cons, List.all_nil, Bool.and_true]; rw [hnb]; rfl
        have HFO := Lib.hid hfo
        have HPA := Lib.hid (show plainB a = true by unfold numB at h1; simp only [Bool.and_eq_true] at h1; exact h1.1)
        have HPB := Lib.hid (show plainB b = true by unfold numB at h2; simp only [Bool.and_eq_true] at h2; exact h2.1)
        have HXV := Lib.hid (strV_bound h1 hal)
        have HYV := Lib.hid (strV_bound h2 hbl)
        clear hnb hfo h1 h2
        · go_wp2_with fail
          refine (addL a b _ (by omega) (by omega) HA.out HB.out (HT.out.below hb)).mono ?_
          rintro e w1 ⟨rfl, hb1'⟩
          have hb1 := hb.trans (hb1'.mono hb.size)
          go_wp2_with fail
          refine (subL a b _ (by omega) (by omega) HA.out HB.out (HT.out.below hb1)).mono ?_
          rintro e w2 ⟨rfl, hb2'⟩
          have hb2 := hb1.trans (hb2'.mono hb1.size)
          go_wp2_with fail
          refine (mulL a b _ (by omega) (by omega) HA.out HB.out (HT.out.below hb2)).mono ?_
          rintro e w3 ⟨rfl, hb3'⟩
          have hb3 := hb2.trans (hb3'.mono hb2.size)
          go_wp2_with fail
          refine (cmpL a b _ (by omega) (by omega) HA.out HB.out).mono ?_
          rintro e w4 ⟨rfl, hb4'⟩
          have hb4 := hb3.trans (hb4'.mono hb3.size)
          go_wp2_with fail
          refine (form_any _ 2 2 [a, b] _ rfl (by omega) (two_list w4 a b 9) (by intro s hs; simp at hs; rcases hs with rfl | rfl <;> omega)).mono ?_
          rintro e w' ⟨rfl, hw'⟩
          subst hw'
          rw [HFO.out]
          have hbA : Below w4.heap.size w4 (((w4.alloc (.cells #[.string ⟨a.toArray⟩, .string ⟨b.toArray⟩] 9)).alloc (.cells #[.bool false, .slice none 0 0] 29)).alloc (.cells #[.bool false, .slice none 0 0] 29)) := (((Below.refl _ w4).alloc (Nat.le_refl _) _).alloc (by simp) _).alloc (by rw [World.size_alloc, World.size_alloc]; omega) _
          have b17 : Boxed2 (((w4.alloc (.cells #[.string ⟨a.toArray⟩, .string ⟨b.toArray⟩] 9)).alloc (.cells #[.bool false, .slice none 0 0] 29)).alloc (.cells #[.bool false, .slice none 0 0] 29)) (w4.heap.size + 1) (.bool false) (.slice none 0 0) 29 := by
            have := Boxed2.new (w4.alloc (.cells #[.string ⟨a.toArray⟩, .string ⟨b.toArray⟩] 9)) (.bool false) (.slice none 0 0) 29
            rw [World.size_alloc] at this
            exact this.alloc _
          have b18 : Boxed2 (((w4.alloc (.cells #[.string ⟨a.toArray⟩, .string ⟨b.toArray⟩] 9)).alloc (.cells #[.bool false, .slice none 0 0] 29)).alloc (.cells #[.bool false, .slice none 0 0] 29)) (w4.heap.size + 1 + 1) (.bool false) (.slice none 0 0) 29 := by
            have := Boxed2.new ((w4.alloc (.cells #[.string ⟨a.toArray⟩, .string ⟨b.toArray⟩] 9)).alloc (.cells #[.bool false, .slice none 0 0] 29)) (.bool false) (.slice none 0 0) 29
            rwa [World.size_alloc, World.size_alloc] at this
          have hb5 := hb4.trans (hbA.mono hb4.size)
          have k0 := b17.cell0
          have k1 := b17.cell1
          have k2 := b18.cell0
          have k3 := b18.cell1
          have hsz5 := hb4.size
          go_wp2_with fail
          generalize hWA : (((w4.alloc (.cells #[.string ⟨a.toArray⟩, .string ⟨b.toArray⟩] 9)).alloc (.cells #[.bool false, .slice none 0 0] 29)).alloc (.cells #[.bool false, .slice none 0 0] 29)) = wA at *
          clear hWA hbA
          refine (rparse_any a _ (by omega) HPA.out).mono ?_
          rintro e w5 ⟨ngu, pu, nu, cu, xsu, rfl, hu, hnu, hb6'⟩
          have hb6 := hb5.trans (hb6'.mono hb5.size)
          have b17 := b17.below hb6' b17.lt
          have b18 := b18.below hb6' b18.lt
          go_wp2_with fail
          refine (rparse_any b _ (by omega) HPB.out).mono ?_
          rintro e w6 ⟨ngv, pv, nv, cv, xsv, rfl, hv, hnv, hbR'⟩
          have hbR := hb6.trans (hbR'.mono hb6.size)
          have hu := hu.below hbR'
          have b17 := b17.below hbR' b17.lt
          have b18 := b18.below hbR' b18.lt
          have k0 := b17.cell0
          have k1 := b17.cell1
          have k2 := b18.cell0
          have k3 := b18.cell1
          have f0 := b17.frozen (i := 0)
          have f1 := b17.frozen (i := 1)
          have f2 := b18.frozen (i := 0)
          have f3 := b18.frozen (i := 1)
          have c17 := b17.set (.bool ngu) (.slice pu nu cu)
          have c18 := (b18.setOther (C := w4.heap.size + 1) (i := 0) (.bool ngu) (by omega)).setOther (C := w4.heap.size + 1) (i := 1) (.slice pu nu cu) (by omega)
          have hu2 := (hu.set2 b17 ngu (.slice pu nu cu)).set2 c18 ngv (.slice pv nv cv)
          have hv2 := (hv.set2 b17 ngu (.slice pu nu cu)).set2 c18 ngv (.slice pv nv cv)
          have d17 := (c17.setOther (C := w4.heap.size + 1 + 1) (i := 0) (.bool ngv) (by omega)).setOther (C := w4.heap.size + 1 + 1) (i := 1) (.slice pv nv cv) (by omega)
          have d18 := c18.set (.bool ngv) (.slice pv nv cv)
          have hbQ := (((hbR.setCell (p := ⟨w4.heap.size + 1, 0, none⟩) (by show w.heap.size ≤ _; have := hb4.size; simp only; omega) (.bool ngu)).setCell (p := ⟨w4.heap.size + 1, 1, none⟩) (by show w.heap.size ≤ _; have := hb4.size; simp only; omega) (.slice pu nu cu)).setCell (p := ⟨w4.heap.size + 1 + 1, 0, none⟩) (by show w.heap.size ≤ _; have := hb4.size; simp only; omega) (.bool ngv)).setCell (p := ⟨w4.heap.size + 1 + 1, 1, none⟩) (by show w.heap.size ≤ _; have := hb4.size; simp only; omega) (.slice pv nv cv)
          have m0 := d17.cell0
          have m1 := d17.cell1
          have m2 := d18.cell0
          have m3 := d18.cell1
          go_wp2_with fail
          clear k0 k1 k2 k3 f0 f1 f2 f3 c17 c18 hu hv b17 b18
          generalize hWQ : ((((w6.setCell ⟨w4.heap.size + 1, 0, none⟩ (.bool ngu)).setCell ⟨w4.heap.size + 1, 1, none⟩ (.slice pu nu cu)).setCell ⟨w4.heap.size + 1 + 1, 0, none⟩ (.bool ngv)).setCell ⟨w4.heap.size + 1 + 1, 1, none⟩ (.slice pv nv cv)) = wq at *
          clear hWQ
          have hu := hu2
          have hv := hv2
          have b17 := d17
          have b18 := d18
          refine (radd_any _ _ _ _ _ _ _ _ xsu xsv (strV a) (strV b) _ (by omega) (by omega) hu hv).mono ?_
          rintro e w7 ⟨ng7, p7, n7, c7, xs7, rfl, hz7, hn7, hb7'⟩
          have hb7 := hbQ.trans (hb7'.mono hbQ.size)
          have b17 := b17.below hb7' b17.lt
          have b18 := b18.below hb7' b18.lt
          have k0 := b17.cell0
          have k1 := b17.cell1
          have k2 := b18.cell0
          have k3 := b18.cell1
          have hu := hu.below hb7'
          have hv := hv.below hb7'
          go_wp2_with fail
          refine (fit_value _ _ _ _ xs7 _ _ (by omega) hz7 (Nat.le_trans (itoa_len (by omega) (ten_add HXV.out HYV.out).1) (by omega))).mono ?_
          rintro e w8 ⟨rfl, hb8'⟩
          have hb8 := hb7.trans (hb8'.mono hb7.size)
          have b17 := b17.below hb8' b17.lt
          have b18 := b18.below hb8' b18.lt
          have k0 := b17.cell0
          have k1 := b17.cell1
          have k2 := b18.cell0
          have k3 := b18.cell1
          have hu := hu.below hb8'
          have hv := hv.below hb8'
          go_wp2_with fail
          refine (rsub_any _ _ _ _ _ _ _ _ xsu xsv (strV a) (strV b) _ (by omega) (by omega) hu hv).mono ?_
          rintro e w9 ⟨ng9, p9, n9, c9, xs9, rfl, hz9, hn9, hb9'⟩
          have hb9 := hb8.trans (hb9'.mono hb8.size)
          have b17 := b17.below hb9' b17.lt
          have b18 := b18.below hb9' b18.lt
          have k0 := b17.cell0
          have k1 := b17.cell1
          have k2 := b18.cell0
          have k3 := b18.cell1
          have hu := hu.below hb9'
          have hv := hv.below hb9'
          go_wp2_with fail
          refine (fit_value _ _ _ _ xs9 _ _ (by omega) hz9 (Nat.le_trans (itoa_len (by omega) (ten_add HXV.out HYV.out).2) (by omega))).mono ?_
          rintro e w10 ⟨rfl, hb10'⟩
          have hb10 := hb9.trans (hb10'.mono hb9.size)
          have b17 := b17.below hb10' b17.lt
          have b18 := b18.below hb10' b18.lt
          have k0 := b17.cell0
          have k1 := b17.cell1
          have k2 := b18.cell0
          have k3 := b18.cell1
          have hu := hu.below hb10'
          have hv := hv.below hb10'
          go_wp2_with fail
          refine (rmul_any _ _ _ _ _ _ _ _ xsu xsv (strV a) (strV b) _ (by omega) (by omega) hu hv).mono ?_
          rintro e w11 ⟨ng11, p11, n11, c11, xs11, rfl, hz11, hn11, hb11'⟩
          have hb11 := hb10.trans (hb11'.mono hb10.size)
          have b17 := b17.below hb11' b17.lt
          have b18 := b18.below hb11' b18.lt
          have k0 := b17.cell0
          have k1 := b17.cell1
          have k2 := b18.cell0
          have k3 := b18.cell1
          have hu := hu.below hb11'
          have hv := hv.below hb11'
          go_wp2_with fail
          refine (fit_value _ _ _ _ xs11 _ _ (by omega) hz11 (Nat.le_trans (itoa_len (by omega) (ten_mul HXV.out HYV.out)) (by omega))).mono ?_
          rintro e w12 ⟨rfl, hb12'⟩
          have hb12 := hb11.trans (hb12'.mono hb11.size)
          have b17 := b17.below hb12' b17.lt
          have b18 := b18.below hb12' b18.lt
          have k0 := b17.cell0
          have k1 := b17.cell1
          have k2 := b18.cell0
          have k3 := b18.cell1
          have hu := hu.below hb12'
          have hv := hv.below hb12'
          go_wp2_with fail
          refine (rcmp_any _ _ _ _ _ _ _ _ xsu xsv (strV a) (strV b) _ (by omega) (by omega) hu hv).mono ?_
          rintro e w13 ⟨rfl, hb13'⟩
          have hb13 := hb12.trans (hb13'.mono hb12.size)
          go_wp2_with fail
          refine (HCX.out _).mono ?_
          rintro e w14 ⟨⟨l1, hc1, rfl⟩, hb14'⟩
          have hb14 := hb13.trans (hb14'.mono hb13.size)
          go_wp2_with fail
          refine (HCY.out _).mono ?_
          rintro e w15 ⟨⟨l2, hc2, rfl⟩, hb15'⟩
          have hb15 := hb14.trans (hb15'.mono hb14.size)
          go_wp2_with fail
          go_roundg (2 - (j + 1))
          case measure => rw [HGK.out]; omega
          case rel => exact ⟨j + 1, l1, l2, by omega, rfl, by go_num, rfl, rfl, by have := hc1.2.2; omega, by have := hc2.2.2; omega, hb15⟩
    · have hji : ¬ ((j : Int) < 2) := by omega
      go_wp2_with fail
      refine (awake_any _ (HT.out.below hb) (HE.out.below hb)).mono ?_
      rintro e w6 ⟨rfl, hb6'⟩
      have hb6 := hb.trans (hb6'.mono hb.size)
      go_wp2_with fail
      go_ret
      exact ⟨rfl, hb6⟩

end Go.Proofs.YtapfkinpdinbgaaDoor
