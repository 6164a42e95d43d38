/-
  WidePowers, its walk.
-/
import Derived.Test.YtapfkinpdinbgaaDoorPow
import Derived.Test.YtapfkinpdinbgaaDoorAwake
namespace Go.Proofs.YtapfkinpdinbgaaDoor
open Go.RowKit

theorem wrap_any (n : Int) : -9223372036854775808 ≤ wrap64 n ∧ wrap64 n ≤ 9223372036854775807 := by unfold wrap64; omega

set_option maxRecDepth 100000 in
set_option maxHeartbeats 8000000 in
theorem widePowers_walk (x : List UInt8) (k0 : Int) (w : World) (hxl : x.length ≤ 9223372036854775807) (hk0 : -9223372036854775808 ≤ k0) (hk1 : k0 ≤ 9223372036854775807) (htab : Tab w) (herr : ErrLaid w) :
    Calls Tryd.prog 5 #[.string ⟨x.toArray⟩, .int .i64 k0] w fun e w' => e = .returned (.bool true) ∧ Below w.heap.size w w' := by
  have HT := Lib.hid htab
  have HE := Lib.hid herr
  have HCX := Lib.hid (fun W => clean_any x 12 W hxl (by omega) (by omega))
  clear htab herr
  go_enter Tryd.func5, Tryd.ntmps5
  go_wp2_with fail
  refine (calls_flip (part_any x 50 _ hxl (by omega))).mono ?_
  rintro e w' ⟨rfl, rfl⟩
  go_wp2_with fail
  go_loopg [1, 5, 6] 2 (fun gk v1 v5 v6 wr => ∃ (j : Nat) (a : List UInt8) (k : Int), j ≤ 2 ∧ gk = 2 - j ∧ v6 = .int .i64 (j : Int) ∧ v5 = .string ⟨a.toArray⟩ ∧ v1 = .int .i64 k ∧ a.length ≤ 50 ∧ -9223372036854775808 ≤ k ∧ k ≤ 9223372036854775807 ∧ Below w.heap.size w wr)
  case atStart => exact ⟨0, x.take 50, k0, by omega, rfl, rfl, rfl, rfl, by rw [List.length_take]; omega, hk0, hk1, Below.refl _ _⟩
  case round =>
    obtain ⟨j, a, k, hj, hgk, rfl, rfl, rfl, hal, hk0, hk1, hb⟩ := hrel
    have HGK := Lib.hid hgk
    clear hgk
    by_cases hlt : j < 2
    · have hji : (j : Int) < 2 := by omega
      cases hnb : numB a
      · have HNB := Lib.hid hnb
        have hfo : formE (allN [a]) = 6 := by unfold formE allN; simp only [List.all_cons, List.all_nil, Bool.and_true]; rw [hnb]; rfl
        have HFO := Lib.hid hfo
        clear hnb hfo
        go_wp2_with fail
        refine (pow_bad a k _ (by omega) HNB.out).mono ?_
        rintro e w1 ⟨rfl, hb1'⟩
        have hb1 := hb.trans (hb1'.mono hb.size)
        go_wp2_with fail
        refine (form_any _ 1 1 [a] _ rfl (by omega) (one_list w1 a 9) (by intro s hs; simp at hs; subst hs; omega)).mono ?_
        rintro e w' ⟨rfl, hw'⟩
        subst hw'
        rw [HFO.out]
        have hb2 := hb1.alloc hb1.size (.cells #[.string ⟨a.toArray⟩] 9)
        go_wp2_with fail
        refine (HCX.out _).mono ?_
        rintro e wc ⟨⟨l1, hc1, rfl⟩, hbc'⟩
        have hbc := hb2.trans (hbc'.mono hb2.size)
        go_wp2_with fail
        go_roundg (2 - (j + 1))
        case measure => rw [HGK.out]; omega
        case rel => exact ⟨j + 1, l1, _, by omega, rfl, by go_num, rfl, rfl, by have := hc1.2.2; omega, by first | exact (wrap_any _).1 | omega, by first | exact (wrap_any _).2 | omega, hbc⟩
      · have HNB := Lib.hid hnb
        have hpl : plainB a = true := by unfold numB at hnb; simp only [Bool.and_eq_true] at hnb; exact hnb.1
        have HPL := Lib.hid hpl
        have hfo : formE (allN [a]) = 0 := by unfold formE allN; simp only [List.all_cons, List.all_nil, Bool.and_true]; rw [hnb]; rfl
        have HFO := Lib.hid hfo
        have HXV := Lib.hid (strV_bound hnb hal)
        clear hnb hfo hpl
        by_cases hkr : k < 0 ∨ 1000 < k
        · have HKR := Lib.hid hkr
          rcases hkr with hkn | hkb
          all_goals
            (try have hkp : ¬ k < 0 := by omega)
            go_wp2_with fail
            refine (pow_arg a k _ (by omega) HNB.out HKR.out).mono ?_
            rintro e w1 ⟨rfl, hb1'⟩
            have hb1 := hb.trans (hb1'.mono hb.size)
            go_wp2_with fail
            refine (form_any _ 1 1 [a] _ rfl (by omega) (one_list w1 a 9) (by intro s hs; simp at hs; subst hs; omega)).mono ?_
            rintro e w' ⟨rfl, hw'⟩
            subst hw'
            rw [HFO.out]
            have hb2 := hb1.alloc hb1.size (.cells #[.string ⟨a.toArray⟩] 9)
            go_wp2_with fail
            refine (HCX.out _).mono ?_
            rintro e wc ⟨⟨l1, hc1, rfl⟩, hbc'⟩
            have hbc := hb2.trans (hbc'.mono hb2.size)
            go_wp2_with fail
            go_roundg (2 - (j + 1))
            case measure => rw [HGK.out]; omega
            case rel => exact ⟨j + 1, l1, _, by omega, rfl, by go_num, rfl, rfl, by have := hc1.2.2; omega, by first | exact (wrap_any _).1 | omega, by first | exact (wrap_any _).2 | omega, hbc⟩
        · have hkn : ¬ k < 0 := by omega
          have hkb : ¬ 1000 < k := by omega
          obtain ⟨K, rfl⟩ : ∃ K : Nat, k = (K : Int) := ⟨k.toNat, by omega⟩
          have hKb : K ≤ 1000 := by omega
          obtain ⟨z, hz⟩ : ∃ z, strV a ^ K = z := ⟨_, rfl⟩
          have hzl := itoa_len (by omega) (pow_bound HXV.out K)
          rw [hz] at hzl
          have HZL := Lib.hid hzl
          have HZ := Lib.hid hz
          obtain ⟨N, hN⟩ : ∃ N, a.length = N := ⟨_, rfl⟩
          have hN50 : N ≤ 50 := by omega
          have hmul : N * K ≤ 50 * 1000 := Nat.mul_le_mul hN50 hKb
          have hcast : ((N : Int) * (K : Int)) = ((N * K : Nat) : Int) := by simp
          obtain ⟨NK, hNK⟩ : ∃ NK, N * K = NK := ⟨_, rfl⟩
          rw [hNK] at hmul hcast
          have hsz : (⟨a.toArray⟩ : ByteArray).size = N := by show a.toArray.size = _; simp [hN]
          have HNN := Lib.hid hN
          clear hzl hz hkr hNK hN
          by_cases hsm3 : (NK : Int) < 3000
          · go_wp2_with fail
            refine (pow_ok a K _ (by omega) HNB.out hKb (HT.out.below hb)).mono ?_
            rintro e w1 ⟨rfl, hb1'⟩
            rw [HZ.out]
            have hb1 := hb.trans (hb1'.mono hb.size)
            go_wp2_with fail
            refine (form_any _ 1 1 [a] _ rfl (by omega) (one_list w1 a 9) (by intro s hs; simp at hs; subst hs; omega)).mono ?_
            rintro e w' ⟨rfl, hw'⟩
            subst hw'
            rw [HFO.out]
            have hb2 := hb1.alloc hb1.size (.cells #[.string ⟨a.toArray⟩] 9)
            go_wp2_with fail
            refine (rparse_any a _ (by omega) HPL.out).mono ?_
            rintro e w5 ⟨ngu, pu, nu, cu, xsu, rfl, hu, hnu, hb3'⟩
            have hb3 := hb2.trans (hb3'.mono hb2.size)
            go_wp2_with fail
            refine (rpow_any ngu pu nu cu xsu _ K _ hKb (by omega) hu).mono ?_
            rintro e w6 ⟨ngv, pv, nv, cv, xsv, rfl, hv, hnv, hb4'⟩
            rw [HZ.out] at hv
            have hb4 := hb3.trans (hb4'.mono hb3.size)
            go_wp2_with fail
            refine (fit_value _ _ _ _ xsv _ _ (by omega) hv (Nat.le_trans HZL.out (by omega))).mono ?_
            rintro e w7 ⟨rfl, hb5'⟩
            have hb5 := hb4.trans (hb5'.mono hb4.size)
            go_wp2_with fail
            refine (HCX.out _).mono ?_
            rintro e wc ⟨⟨l1, hc1, rfl⟩, hbc'⟩
            have hbc := hb5.trans (hbc'.mono hb5.size)
            go_wp2_with fail
            go_roundg (2 - (j + 1))
            case measure => rw [HGK.out]; omega
            case rel => exact ⟨j + 1, l1, _, by omega, rfl, by go_num, rfl, rfl, by have := hc1.2.2; omega, by first | exact (wrap_any _).1 | omega, by first | exact (wrap_any _).2 | omega, hbc⟩
          · go_wp2_with fail
            refine (pow_ok a K _ (by omega) HNB.out hKb (HT.out.below hb)).mono ?_
            rintro e w1 ⟨rfl, hb1'⟩
            rw [HZ.out]
            have hb1 := hb.trans (hb1'.mono hb.size)
            go_wp2_with fail
            refine (form_any _ 1 1 [a] _ rfl (by omega) (one_list w1 a 9) (by intro s hs; simp at hs; subst hs; omega)).mono ?_
            rintro e w' ⟨rfl, hw'⟩
            subst hw'
            rw [HFO.out]
            have hb2 := hb1.alloc hb1.size (.cells #[.string ⟨a.toArray⟩] 9)
            go_wp2_with fail
            refine (HCX.out _).mono ?_
            rintro e wc ⟨⟨l1, hc1, rfl⟩, hbc'⟩
            have hbc := hb2.trans (hbc'.mono hb2.size)
            go_wp2_with fail
            go_roundg (2 - (j + 1))
            case measure => rw [HGK.out]; omega
            case rel => exact ⟨j + 1, l1, _, by omega, rfl, by go_num, rfl, rfl, by have := hc1.2.2; omega, by first | exact (wrap_any _).1 | omega, by first | exact (wrap_any _).2 | omega, hbc⟩
    · have hji : ¬ ((j : Int) < 2) := by omega
      go_wp2_with fail
      refine (awake_any _ (HT.out.below hb) (HE.out.below hb)).mono ?_
      rintro e w6 ⟨rfl, hb6'⟩
      have hb6 := hb.trans (hb6'.mono hb.size)
      go_wp2_with fail
      go_ret
      exact ⟨rfl, hb6⟩

end Go.Proofs.YtapfkinpdinbgaaDoor
