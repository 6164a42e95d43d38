/-
  WideForms, its walk.
-/
import Derived.Test.YtapfkinpdinbgaaDoorClean
import Derived.Test.YtapfkinpdinbgaaDoorAwake
import Derived.Test.YtapfkinpdinbgaaDoorItoa
namespace Go.Proofs.YtapfkinpdinbgaaDoor
open Go.RowKit

theorem isL (l : List UInt8) (w : World) (hl : l.length ≤ 1000000000) : Calls Tryd.prog 13 #[.string ⟨l.toArray⟩] w fun e w' => e = .returned (.bool (numB l)) ∧ Below w.heap.size w w' := by
  have h := is_any ⟨l.toArray⟩ w (by show l.toArray.size ≤ maxLen; unfold maxLen; simp; omega)
  have e : (⟨l.toArray⟩ : ByteArray).data.toList = l := by show l.toArray.toList = l; simp
  rw [e] at h; exact h

theorem toIntL (l : List UInt8) (w : World) (hl : l.length ≤ 1000000000) (herr : ErrLaid w) : Calls Tryd.prog 12 #[.string ⟨l.toArray⟩] w fun e w' => e = .returned (.tuple #[.int .i64 (toInt l), .bool (toOk l)]) ∧ Below w.heap.size w w' := by
  have h := toInt_any ⟨l.toArray⟩ w (by show l.toArray.size ≤ maxLen; unfold maxLen; simp; omega) herr
  have e : (⟨l.toArray⟩ : ByteArray).data.toList = l := by show l.toArray.toList = l; simp
  rw [e] at h; exact h

theorem calls_flip {f : FuncId} {a : Array Value} {w : World} {Q : Ending → Prop} (h : Calls Tryd.prog f a w fun e w' => Q e ∧ w' = w) : Calls Tryd.prog f a w fun e w' => Q e ∧ w = w' := h.mono fun _ _ ⟨x, y⟩ => ⟨x, y.symm⟩

set_option maxRecDepth 100000 in
set_option maxHeartbeats 4000000 in
theorem wideForms_walk (l : List UInt8) (n : Int) (w : World) (hl : l.length ≤ 9223372036854775807) (h0 : -9223372036854775808 ≤ n) (h1 : n ≤ 9223372036854775807) (htab : Tab w) (herr : ErrLaid w) :
    Calls Tryd.prog 3 #[.string ⟨l.toArray⟩, .int .i64 n] w fun e w' => e = .returned (.bool true) ∧ Below w.heap.size w w' := by
  have HT := Lib.hid htab
  have HE := Lib.hid herr
  have HC := Lib.hid (fun W => clean_any l 20 W hl (by omega) (by omega))
  clear htab herr
  go_enter Tryd.func3, Tryd.ntmps3
  go_wp2_with (go_at_call 11; refine (calls_flip (part_any l 2100 _ hl (by omega))).mono ?_; rintro e w' ⟨rfl, rfl⟩)
  go_loopg [5, 6] 2 (fun gk v5 v6 wr => ∃ (j : Nat) (t : List UInt8), j ≤ 2 ∧ gk = 2 - j ∧ v6 = .int .i64 (j : Int) ∧ v5 = .string ⟨t.toArray⟩ ∧ t.length ≤ 2100 ∧ Below w.heap.size w wr)
  case atStart => exact ⟨0, l.take 2100, by omega, rfl, rfl, rfl, by rw [List.length_take]; omega, Below.refl _ _⟩
  case round =>
    obtain ⟨j, t, hj, hgk, rfl, rfl, ht, hb⟩ := hrel
    have HGK := Lib.hid hgk
    clear hgk
    by_cases hlt : j < 2
    · have hji : (j : Int) < 2 := by omega
      cases hnb : numB t
      · have hok : toOk t = false := by unfold toOk; rw [hnb]; rfl
        have hin : toInt t = 0 := by unfold toInt; rw [hok]; rfl
        have HOK := Lib.hid hok
        have HIN := Lib.hid hin
        have HNB := Lib.hid hnb
        clear hok hin hnb
        go_wp2_with (first
          | (go_at_call 12; refine (toIntL t _ (by omega) (HE.out.below hb)).mono ?_; rintro e w1 ⟨rfl, hb1'⟩; have hb1 := hb.trans (hb1'.mono hb.size); rw [HOK.out, HIN.out])
          | (go_at_call 13; refine (isL t _ (by omega)).mono ?_; rintro e w2 ⟨rfl, hb2'⟩; have hb2 := hb1.trans (hb2'.mono hb1.size); rw [HNB.out])
          | (go_at_call 14; refine (calls_flip (ris_any t _ (by omega))).mono ?_; rintro e w' ⟨rfl, rfl⟩; rw [HNB.out])
          | (go_at_call 17; refine (HC.out _).mono ?_; rintro e w3 ⟨⟨l3, hcl, rfl⟩, hb3'⟩; have hb3 := hb2.trans (hb3'.mono hb2.size)))
        go_roundg (2 - (j + 1))
        case measure => rw [HGK.out]; omega
        case rel => exact ⟨j + 1, l3, by omega, rfl, by go_num, rfl, by have := hcl.2.2; omega, hb3⟩
      · have hp : plainB t = true := by unfold numB at hnb; simp only [Bool.and_eq_true] at hnb; exact hnb.1
        obtain ⟨ok, hok⟩ : ∃ ok, inI64 (strV t) = ok := ⟨_, rfl⟩
        obtain ⟨kv, hkv⟩ : ∃ kv, intV (strV t) = kv := ⟨_, rfl⟩
        have hto : toOk t = ok := by unfold toOk; rw [hnb, hok]; rfl
        have hti : toInt t = kv := by rw [← hkv]; unfold toInt intV; rw [hto, hok]
        have hk0 : ok = false → kv = 0 := fun h => by rw [← hkv]; unfold intV; rw [hok, h]; rfl
        have HOK := Lib.hid hto
        have HIN := Lib.hid hti
        have HOI := Lib.hid hok
        have HKI := Lib.hid hkv
        have HNB := Lib.hid hnb
        have HP := Lib.hid hp
        have HK0 := Lib.hid hk0
        clear hto hti hok hkv hnb hp hk0
        cases ok
        · obtain rfl := HK0.out rfl
          go_wp2_with (first
            | (go_at_call 12; refine (toIntL t _ (by omega) (HE.out.below hb)).mono ?_; rintro e w1 ⟨rfl, hb1'⟩; have hb1 := hb.trans (hb1'.mono hb.size); rw [HOK.out, HIN.out])
            | (go_at_call 13; refine (isL t _ (by omega)).mono ?_; rintro e w2 ⟨rfl, hb2'⟩; have hb2 := hb1.trans (hb2'.mono hb1.size); rw [HNB.out])
            | (go_at_call 14; refine (calls_flip (ris_any t _ (by omega))).mono ?_; rintro e w' ⟨rfl, rfl⟩; rw [HNB.out])
            | (go_at_call 16; refine (rparse_any t _ (by omega) HP.out).mono ?_; rintro e w4 ⟨neg, p, n2, c, xs, rfl, hx, hn2, hb4'⟩; have hb4 := hb2.trans (hb4'.mono hb2.size))
            | (go_at_call 15; refine (rint_any _ _ _ _ xs _ _ (by omega) hx).mono ?_; rintro e w5 ⟨rfl, hb5'⟩; have hb5 := hb4.trans (hb5'.mono hb4.size); rw [HOI.out, HKI.out])
            | (go_at_call 17; refine (HC.out _).mono ?_; rintro e w3 ⟨⟨l3, hcl, rfl⟩, hb3'⟩; have hb3 := hb5.trans (hb3'.mono hb5.size)))
          go_roundg (2 - (j + 1))
          case measure => rw [HGK.out]; omega
          case rel => exact ⟨j + 1, l3, by omega, rfl, by go_num, rfl, by have := hcl.2.2; omega, hb3⟩
        · go_wp2_with (first
            | (go_at_call 12; refine (toIntL t _ (by omega) (HE.out.below hb)).mono ?_; rintro e w1 ⟨rfl, hb1'⟩; have hb1 := hb.trans (hb1'.mono hb.size); rw [HOK.out, HIN.out])
            | (go_at_call 13; refine (isL t _ (by omega)).mono ?_; rintro e w2 ⟨rfl, hb2'⟩; have hb2 := hb1.trans (hb2'.mono hb1.size); rw [HNB.out])
            | (go_at_call 14; refine (calls_flip (ris_any t _ (by omega))).mono ?_; rintro e w' ⟨rfl, rfl⟩; rw [HNB.out])
            | (go_at_call 16; refine (rparse_any t _ (by omega) HP.out).mono ?_; rintro e w4 ⟨neg, p, n2, c, xs, rfl, hx, hn2, hb4'⟩; have hb4 := hb2.trans (hb4'.mono hb2.size))
            | (go_at_call 15; refine (rint_any _ _ _ _ xs _ _ (by omega) hx).mono ?_; rintro e w5 ⟨rfl, hb5'⟩; have hb5 := hb4.trans (hb5'.mono hb4.size); rw [HOI.out, HKI.out])
            | (go_at_call 17; refine (HC.out _).mono ?_; rintro e w3 ⟨⟨l3, hcl, rfl⟩, hb3'⟩; have hb3 := hb5.trans (hb3'.mono hb5.size)))
          go_roundg (2 - (j + 1))
          case measure => rw [HGK.out]; omega
          case rel => exact ⟨j + 1, l3, by omega, rfl, by go_num, rfl, by have := hcl.2.2; omega, hb3⟩
    · have hji : ¬ ((j : Int) < 2) := by omega
      obtain ⟨i1, i2, i3⟩ := itoa_i64 h0 h1
      generalize hit : Lib.itoa n = it at *
      have HIT := Lib.hid hit
      have I1 := Lib.hid i1
      have I2 := Lib.hid i2
      clear hit i1 i2
      go_wp2_with fail
      refine (fromInt_any n h0 h1 _ (HT.out.below hb)).mono ?_
      rintro e w1 ⟨rfl, hb1'⟩
      have hb1 := hb.trans (hb1'.mono hb.size)
      rw [HIT.out]
      go_wp2_with fail
      refine (toIntL it _ (by omega) (HE.out.below hb1)).mono ?_
      rintro e w2 ⟨rfl, hb2'⟩
      have hb2 := hb1.trans (hb2'.mono hb1.size)
      rw [I1.out, I2.out]
      go_wp2_with fail
      refine (fromInt_any n h0 h1 _ (HT.out.below hb2)).mono ?_
      rintro e w3 ⟨rfl, hb3'⟩
      have hb3 := hb2.trans (hb3'.mono hb2.size)
      rw [HIT.out]
      go_wp2_with fail
      refine (from_any n h0 h1 _).mono ?_
      rintro e w4 ⟨neg, p, n2, c, xs, rfl, hx, hn2, hb4'⟩
      have hb4 := hb3.trans (hb4'.mono hb3.size)
      go_wp2_with fail
      refine (text_any _ _ _ _ xs _ _ (by omega) hx).mono ?_
      rintro e w5 ⟨rfl, hb5'⟩
      have hb5 := hb4.trans (hb5'.mono hb4.size)
      rw [HIT.out]
      go_wp2_with fail
      refine (awake_any _ (HT.out.below hb5) (HE.out.below hb5)).mono ?_
      rintro e w6 ⟨rfl, hb6'⟩
      have hb6 := hb5.trans (hb6'.mono hb5.size)
      go_wp2_with fail
      go_ret
      exact ⟨rfl, hb6⟩

end Go.Proofs.YtapfkinpdinbgaaDoor
