/-
  WideLong: for every string, int64 the law returns true, and all arguments read as they did. Conditions: the five listed variables of strconv and math/bits lie as the program's text lays them (the card ties them to it).
-/
import Derived.Deep.CutBlock
import Derived.Test.YtimcbmgmngkagaaDoorRows
import Derived.Stop.LaidErr
import Derived.Lib.LaidTab
import Derived.LaidHandle
import Derived.LaidMore
import Derived.MakeChecks
import Derived.ProofKit
import Derived.OpenShut
import Derived.Stop.Joined
import Derived.Test.YtimcbmgmngkagaaDoorTie
import Derived.Test.YtimcbmgmngkagaaDoorCards
import Derived.SevenTiedAt
import Derived.Test.YtimcbmgmngkagaaDoorK1
import Derived.Test.YtimcbmgmngkagaaDoorK2
import Derived.Test.YtimcbmgmngkagaaDoorK3
import Derived.Test.YtimcbmgmngkagaaDoorK4
import Derived.Test.YtimcbmgmngkagaaDoorK5
import Derived.Test.YtimcbmgmngkagaaDoorK6
import Derived.Test.YtimcbmgmngkagaaDoorK7
import Derived.Test.YtimcbmgmngkagaaDoorK8
import Derived.Test.YtimcbmgmngkagaaDoorK9
import Derived.Test.YtimcbmgmngkagaaDoorK10
import Derived.Test.YtimcbmgmngkagaaDoorK11
namespace Go.Proofs.YtimcbmgmngkagaaDoor
open Go.RowKit

def bA (s : List UInt8) : ByteArray := ⟨s.toArray⟩
theorem RdL.toS {w : World} {a : Option Addr} {l : List (List UInt8)} (h : RdL w a l) : RdS w a (l.map bA) := by
  intro i s hs
  rw [List.getElem?_map, Option.map_eq_some_iff] at hs
  obtain ⟨t, ht, rfl⟩ := hs
  exact h i t ht
theorem allB_map (l : List (List UInt8)) : allB (l.map bA) = allN l := by
  unfold allB allN
  rw [List.all_map]
  congr 1
theorem vals_map (l : List (List UInt8)) : vals (l.map bA) = l.map strV := by
  unfold vals
  rw [List.map_map]
  refine List.map_congr_left fun s _ => ?_
  show strV (⟨s.toArray⟩ : ByteArray).data.toList = strV s
  rw [bytes_data]

theorem sumL (p : Option Addr) (n c : Nat) (ls : List (List UInt8)) (w : World) (hl : ls.length = n) (hn : n ≤ 1000) (hr : RdL w p ls) (hs : ∀ s ∈ ls, s.length ≤ 1000000000) (hall : allN ls = true) (htab : Tab w) :
    Calls Tryd.prog 10 #[.slice p n c] w (OutIs w (sumZ (ls.map strV))) := by
  have h := sumList_any p n c (ls.map bA) w (by rw [List.length_map]; exact hl) (by omega) hr.toS (by
    intro s hs'
    obtain ⟨t, ht, rfl⟩ := List.mem_map.1 hs'
    exact bytes_small (hs t ht)) htab
  have e1 : sumStr (ls.map bA) = outS (sumZ (ls.map strV)) := by unfold sumStr; rw [allB_map, hall, if_pos rfl, if_neg (by rw [List.length_map]; omega), vals_map]
  have e2 : sumErr (ls.map bA) = outE (sumZ (ls.map strV)) := by unfold sumErr; rw [allB_map, hall, if_pos rfl, if_neg (by rw [List.length_map]; omega), vals_map]
  rw [e1, e2] at h
  exact h
/-- A row of 1001 strings, of which the first j are 1. -/
def Ones (w : World) (B j : Nat) : Prop := ∃ cs : Array Value, w.heap[B]? = some (.cells cs 9 (0, 0)) ∧ cs.size = 1001 ∧ ∀ i, i < j → cs[i]? = some (.string ⟨#[49]⟩)
theorem Ones.start (w : World) : Ones (w.alloc (.cells (Go.madeCells #[.string ⟨#[]⟩] 1001) 9)) w.heap.size 0 :=
  ⟨_, World.alloc_heap_new w _, Go.size_madeCells _ _, fun i h => by omega⟩
theorem Ones.put {w : World} {B j : Nat} (h : Ones w B j) (hj : j < 1001) : Ones (w.setCell ⟨B, j, none⟩ (.string ⟨#[49]⟩)) B (j + 1) ∧ (∃ u, w.cell? ⟨B, j, none⟩ = some u) ∧ w.frozen? ⟨B, j, none⟩ = false := by
  obtain ⟨cs, hg, hs, hc⟩ := h
  refine ⟨⟨cs.setIfInBounds j (.string ⟨#[49]⟩), by rw [Lib.heap_setCell_same hg], by simpa using hs, fun i hi => ?_⟩, ⟨cs[j]'(by omega), by simp [World.cell?, hg, hs, hj]⟩, by simp [World.frozen?, hg]⟩
  rw [Array.getElem?_setIfInBounds]
  by_cases e : j = i
  · subst e; simp [hs, hj]
  · rw [if_neg e]; exact hc i (by omega)
theorem Ones.rd {w : World} {B j : Nat} (h : Ones w B j) {n : Nat} (hn : n ≤ j) : RdL w (some ⟨B, 0, none⟩) (List.replicate n [49]) := by
  obtain ⟨cs, hg, hs, hc⟩ := h
  intro i s hi
  have hlt : i < n := by have := (List.getElem?_eq_some_iff.1 hi).1; simpa using this
  rw [List.getElem?_replicate, if_pos hlt] at hi
  cases hi
  refine ⟨B, 0, rfl, (Array.getElem?_eq_some_iff.1 hg).1, ?_⟩
  rw [Nat.zero_add]
  simpa [World.cell?, hg] using hc i (by omega)
theorem Ones.below {w w' : World} {B j : Nat} (h : Ones w B j) (hb : Below w.heap.size w w') : Ones w' B j := by
  obtain ⟨cs, hg, r⟩ := h
  exact ⟨cs, by rw [hb.block _ (Array.getElem?_eq_some_iff.1 hg).1]; exact hg, r⟩
end Go.Proofs.YtimcbmgmngkagaaDoor

namespace Go.Proofs.YtimcbmgmngkagaaDoor
open Go.RowKit

theorem clean_itoa {most : Nat} {l : List UInt8} (h : CleanIs most l) : ∃ z, l = Lib.itoa z ∧ z.natAbs < 10 ^ (most + 1) ∧ Fits z := by
  refine ⟨strV l, (itoa_strV h.1).symm, ?_, num_fits h.1⟩
  exact strV_bound h.1 h.2.2

end Go.Proofs.YtimcbmgmngkagaaDoor

namespace Go.Proofs.YtimcbmgmngkagaaDoor
open Go.RowKit

def nineRow (k j : Nat) : List Nat := List.replicate j 57 ++ List.replicate (k - j) 0
theorem nineRow_len {k j : Nat} (h : j ≤ k) : (nineRow k j).length = k := by unfold nineRow; simp; omega
theorem nineRow_set {k j : Nat} (h : j < k) : (nineRow k j).set j 57 = nineRow k (j + 1) := by
  unfold nineRow
  rw [List.set_append_right _ _ (by simp), List.length_replicate, Nat.sub_self, show k - j = (k - (j + 1)) + 1 by omega, List.replicate_succ, List.set_cons_zero, List.replicate_succ', List.append_assoc]
  rfl
theorem nineRow_all (k : Nat) : nineRow k k = List.replicate k 57 := by unfold nineRow; simp

/-- string(nines) -/
theorem nines_convert {W : World} {B k c : Nat} (h : Own .u8 5 W B (nineRow k k)) : (Go.convert 23 9 (.slice (some ⟨B, 0, none⟩) k c)).run Tryd.prog W = .ok (.string ⟨(List.replicate k (57 : UInt8)).toArray⟩) W := by
  have e := run_convert_bytes_back (P := Tryd.prog) W 23 9 5 ⟨B, 0, none⟩ c (List.replicate k 57) Tryd.underlying23 Tryd.underlying5 Tryd.underlying9 (fun j hj => by
    rw [List.length_replicate] at hj
    rw [Lib.add_plain, Nat.zero_add]
    have hc := h.cell j (by rw [nineRow_len (Nat.le_refl _)]; exact hj)
    rw [nineRow_all] at hc
    rw [hc]
    simp [List.getElem?_replicate, hj])
  rw [List.length_replicate] at e
  exact e

/-- What is known of the greatest number, with its sign. -/
structure MostIs (M : Int) : Prop where
  fits : Fits M
  ne : M ≠ 0
  two : longB (M + M) = true
  ten : longB (M * 10) = true
  more : ∀ z : Int, z.natAbs < 10 ^ 31 → longB (M + M + z) = true
  over : numB (Lib.itoa M ++ [48]) = false

theorem longB_of_outE {z : Int} (h : outE z = 2) : longB z = true := by
  unfold outE at h
  cases hl : longB z
  · rw [hl] at h; simp at h
  · rfl

theorem most_is (neg : Bool) : ∃ M, mostL neg = Lib.itoa M ∧ MostIs M := by
  obtain ⟨k, hk⟩ : ∃ k, k = 2000 := ⟨_, rfl⟩
  obtain ⟨N, hN, habs, hbig, _, h2, h3, h4⟩ := most_says neg hk
  have e := itoa_strV (most_num neg)
  refine ⟨strV (mostL neg), e.symm, ⟨num_fits (most_num neg), ?_, longB_of_outE h2.2, longB_of_outE h3.2, fun z hz => longB_of_outE (h4 z hz).2, by rw [e]; exact most_over neg⟩⟩
  intro h0
  rw [h0] at habs
  have h31 : (0 : Nat) < 10 ^ 31 := by decide
  simp at habs
  omega

theorem three_list (w : World) (a b c : List UInt8) (t : TypeId) : RdL (w.alloc (.cells #[.string ⟨a.toArray⟩, .string ⟨b.toArray⟩, .string ⟨c.toArray⟩] t)) (some ⟨w.heap.size, 0, none⟩) [a, b, c] := by
  intro i s hs
  refine ⟨w.heap.size, 0, rfl, by simp, ?_⟩
  match i, hs with
  | 0, hs => cases hs; simp [go_sem]
  | 1, hs => cases hs; simp [go_sem]
  | 2, hs => cases hs; simp [go_sem]
  | i + 3, hs => simp at hs

theorem sum3Z {p q r : Int} (w : World) (hp : Fits p) (hq : Fits q) (hr : Fits r) (htab : Tab w) (t : TypeId) (k B : Nat) (hB : w.heap.size = B) :
    Calls Tryd.prog 10 #[.slice (some ⟨B, 0, none⟩) 3 k] (w.alloc (.cells #[.string ⟨(Lib.itoa p).toArray⟩, .string ⟨(Lib.itoa q).toArray⟩, .string ⟨(Lib.itoa r).toArray⟩] t)) fun e w' => e = .returned (.tuple #[.string ⟨(outS (p + q + r)).toArray⟩, .int .i64 (outE (p + q + r))]) ∧ Below w.heap.size w w' := by
  subst hB
  have hb : Below w.heap.size w (w.alloc (.cells #[.string ⟨(Lib.itoa p).toArray⟩, .string ⟨(Lib.itoa q).toArray⟩, .string ⟨(Lib.itoa r).toArray⟩] t)) := (Below.refl _ w).alloc (Nat.le_refl _) _
  have h1 := fits_len hp
  have h2 := fits_len hq
  have h3 := fits_len hr
  refine (sumL (some ⟨w.heap.size, 0, none⟩) 3 k [Lib.itoa p, Lib.itoa q, Lib.itoa r] _ rfl (by omega) (three_list w _ _ _ t) (by intro s hs; simp at hs; rcases hs with rfl | rfl | rfl <;> omega) (by unfold allN; simp [fits_num hp, fits_num hq, fits_num hr]) (htab.below hb)).mono ?_
  rintro e w' ⟨he, hb2⟩
  have e1 : sumZ ([Lib.itoa p, Lib.itoa q, Lib.itoa r].map strV) = p + q + r := by simp [sumZ, fits_val]
  rw [e1] at he
  exact ⟨he, hb.trans (hb2.mono hb.size)⟩

theorem bytes_cat (a b : List UInt8) : (⟨a.toArray⟩ : ByteArray) ++ ⟨b.toArray⟩ = ⟨(a ++ b).toArray⟩ := by
  apply ByteArray.ext
  rw [ByteArray.data_append]
  simp

set_option maxRecDepth 100000 in
set_option maxHeartbeats 8000000 in
theorem wideLong_walk (x : List UInt8) (n : Int) (w : World) (hxl : x.length ≤ 9223372036854775807) (l0 : -9223372036854775808 ≤ n) (l1 : n ≤ 9223372036854775807) (htab : Tab w) (herr : ErrLaid w) :
    Calls Tryd.prog 3 #[.string ⟨x.toArray⟩, .int .i64 n] w fun e w' => e = .returned (.bool true) ∧ Below w.heap.size w w' := by
  have HT := Lib.hid htab
  have HE := Lib.hid herr
  have HCX := Lib.hid (fun W => clean_any x 30 W hxl (by omega) (by omega))
  clear htab herr
  have hmk : ∀ w, (Instr.makeSlice 23 (.int .i64 2000) (.int .i64 2000)).run Tryd.prog w = .ok (.slice (some ⟨w.heap.size, 0, none⟩) 2000 2000) (w.alloc (.cells (Go.madeCells #[.int .u8 0] 2000) 5)) := fun w =>
    run_make_row' _ _ (.int .u8 0) 1 Tryd.underlying23 (by kernel_rfl) rfl .i64 .i64 2000 (by omega) (by omega) w
  go_enter Tryd.func3, Tryd.ntmps3
  go_wp2_with (go_at_call 5; refine (HCX.out _).mono ?_; rintro e w1 ⟨⟨a, ha, rfl⟩, hb1⟩)
  obtain ⟨Z, hZ⟩ : ∃ Z, Z = 2000 := ⟨_, rfl⟩
  have hown0 : Own .u8 5 (w1.alloc (.cells (Go.madeCells #[.int .u8 0] 2000) 5)) w1.heap.size (nineRow 2000 0) := Own.new .u8 5 w1 2000
  have hbn0 : Below w.heap.size w (w1.alloc (.cells (Go.madeCells #[.int .u8 0] 2000) 5)) := hb1.alloc hb1.size _
  have hs1 := hb1.size
  go_loopg [7] 2000 (fun gk v7 wr => ∃ (j : Nat), j ≤ 2000 ∧ gk = 2000 - j ∧ v7 = .int .i64 (j : Int) ∧ Own .u8 5 wr w1.heap.size (nineRow 2000 j) ∧ Below w.heap.size w wr)
  case atStart => exact ⟨0, by omega, rfl, rfl, hown0, hbn0⟩
  case round =>
    obtain ⟨j, hj, hgk, rfl, ho, hb⟩ := hrel
    have HGK := Lib.hid hgk
    clear hgk
    by_cases hlt : j < 2000
    · have hji : (j : Int) < 2000 := by omega
      have cj := ho.cell j (by rw [nineRow_len hj]; exact hlt)
      have fj := ho.frozen j
      go_wp2
      go_roundg (2000 - (j + 1))
      case measure => rw [HGK.out]; omega
      case rel => exact ⟨j + 1, by omega, rfl, by go_num, by rw [← nineRow_set hlt]; exact ho.set j 57, hb.setCell (by simpa using hs1) _⟩
    · obtain rfl : j = 2000 := by omega
      have hcv := nines_convert (c := 2000) ho
      have HO := Lib.hid ho
      clear ho
      obtain ⟨NL, hNL⟩ : ∃ NL, List.replicate 2000 (57 : UInt8) = NL := ⟨_, rfl⟩
      rw [hNL] at hcv
      have HNL := Lib.hid hNL
      clear hNL
      have hnl : NL.length = 2000 := by rw [← HNL.out]; simp
      have hsz : (⟨NL.toArray⟩ : ByteArray).size = 2000 := by show NL.toArray.size = _; simp [hnl]
      have hcat : (⟨#[45]⟩ : ByteArray) ++ ⟨NL.toArray⟩ = ⟨(45 :: NL).toArray⟩ := bytes_cat [45] NL
      have hm0 : NL = mostL false := HNL.out.symm
      have hm1 : 45 :: NL = mostL true := by rw [hm0]; rfl
      have HM0 := Lib.hid hm0
      have HM1 := Lib.hid hm1
      clear hm0 hm1 hnl
      go_upto_if 43 with fail
      go_cut [8] from 40 to 45 (fun v8 wx => (∃ neg, v8 = .string ⟨(mostL neg).toArray⟩) ∧ Hid (wr = wx))
      case first =>
        have V0 : Hid (∃ neg, Value.string ⟨NL.toArray⟩ = .string ⟨(mostL neg).toArray⟩) := ⟨false, by rw [HM0.out]⟩
        have V1 : Hid (∃ neg, Value.string ⟨(45 :: NL).toArray⟩ = .string ⟨(mostL neg).toArray⟩) := ⟨true, by rw [HM1.out]⟩
        go_wp2_with fail
        all_goals
          go_meet
          case rel => exact ⟨by first | exact V0.out | exact V1.out, rfl⟩
      case rest =>
        obtain ⟨⟨neg, rfl⟩, hcut⟩ := hcut
        obtain rfl := hcut.out
        obtain ⟨M, hM, HMI⟩ := most_is neg
        rw [hM]
        obtain ⟨A, rfl, hA31, fA⟩ := clean_itoa ha
        have e0 : Lib.itoa 0 = [48] := by decide +kernel
        have e10 : Lib.itoa 10 = [49, 48] := by decide +kernel
        have e1 : Lib.itoa 1 = [49] := by decide +kernel
        have F0 : Fits 0 := by unfold Fits; decide +kernel
        have F1 : Fits 1 := by unfold Fits; decide +kernel
        have F10 : Fits 10 := by unfold Fits; decide +kernel
        have FM := HMI.fits
        have FN : Fits (-M) := fits_of_le FM (by omega)
        have C1 := fun W ht => addZ (x := M) (y := 0) (z := M) W FM F0 (by omega) FM ht
        have C2 := fun W ht => addZ_long (x := M) (y := M) (z := M + M) W FM FM rfl HMI.two ht
        have C3 := fun W ht => mulZ_long (x := M) (y := 10) (z := M * 10) W FM F10 rfl HMI.ten ht
        have C4 := fun W ht => subZ (x := M) (y := M) (z := 0) W FM FM (by omega) F0 ht
        have C5 := fun W ht => divZ (x := M) (y := M) (q := 1) (r := 0) W FM FM HMI.ne (Int.ediv_self HMI.ne) (Int.emod_self) ht
        rw [e0] at C1 C4 C5
        rw [e1] at C5
        rw [e10] at C3
        have D1 := Lib.hid C1
        have D2 := Lib.hid C2
        have D3 := Lib.hid C3
        have D4 := Lib.hid C4
        have D5 := Lib.hid C5
        have HM := Lib.hid hM
        have HI := Lib.hid HMI
        have lm := fits_len FM
        have hsm : (⟨(Lib.itoa M).toArray⟩ : ByteArray).size = (Lib.itoa M).length := by show (Lib.itoa M).toArray.size = _; simp
        have hcm : (⟨(Lib.itoa M).toArray⟩ : ByteArray) ++ ⟨#[48]⟩ = ⟨(Lib.itoa M ++ [48]).toArray⟩ := bytes_cat _ [48]
        clear C1 C2 C3 C4 C5 e0 e1 e10 F0 F1 F10 hM HMI hcat hsz hcut HNL HM0 HM1 HO HGK
        go_wp2_with fail
        refine (D1.out _ (HT.out.below hb)).mono ?_
        rintro e w2 ⟨rfl, hb2'⟩
        have hb2 := hb.trans (hb2'.mono hb.size)
        go_wp2_with fail
        refine (D2.out _ (HT.out.below hb2)).mono ?_
        rintro e w3 ⟨rfl, hb3'⟩
        have hb3 := hb2.trans (hb3'.mono hb2.size)
        go_wp2_with fail
        refine (D3.out _ (HT.out.below hb3)).mono ?_
        rintro e w4 ⟨rfl, hb4'⟩
        have hb4 := hb3.trans (hb4'.mono hb3.size)
        go_wp2_with fail
        refine (D4.out _ (HT.out.below hb4)).mono ?_
        rintro e w5 ⟨rfl, hb5'⟩
        have hb5 := hb4.trans (hb5'.mono hb4.size)
        go_wp2_with fail
        refine (D5.out _ (HT.out.below hb5)).mono ?_
        rintro e w6 ⟨rfl, hb6'⟩
        have hb6 := hb5.trans (hb6'.mono hb5.size)
        go_wp2_with fail
        refine (sum3Z _ FM FM fA (HT.out.below hb6) _ _ _ rfl).mono ?_
        have l3 := HI.out.more A hA31
        rw [(outS_long l3).1, (outS_long l3).2]
        rintro e w7 ⟨rfl, hb7'⟩
        have hb7 := hb6.trans (hb7'.mono hb6.size)
        clear l3 hb2' hb3' hb4' hb5' hb6' hb7' hb2 hb3 hb4 hb5 hb6
        go_wp2_with fail
        refine (addL_bad (Lib.itoa M ++ [48]) (Lib.itoa A) _ (by rw [List.length_append]; simp; omega) (by have := fits_len fA; omega) (by rw [HI.out.over]; rfl) (HT.out.below hb7)).mono ?_
        rintro e w8 ⟨rfl, hb8'⟩
        have hb8 := hb7.trans (hb8'.mono hb7.size)
        go_wp2_with fail
        refine (rparse_any (Lib.itoa M) _ (by omega) (itoa_says M).1).mono ?_
        rw [fits_val]
        rintro e w9 ⟨n9, p9, l9, c9, x9, rfl, hz9, hl9, hb9'⟩
        have hb9 := hb8.trans (hb9'.mono hb8.size)
        go_wp2_with fail
        refine (rneg_any _ _ _ _ x9 _ _ (by omega) hz9).mono ?_
        rintro e w10 ⟨n10, p10, l10, c10, x10, rfl, hz10, hl10, hb10'⟩
        have hb10 := hb9.trans (hb10'.mono hb9.size)
        go_wp2_with fail
        refine (text_any _ _ _ _ x10 _ _ (by omega) hz10).mono ?_
        rintro e w11 ⟨rfl, hb11'⟩
        have hb11 := hb10.trans (hb11'.mono hb10.size)
        clear hz9 hz10 hb8' hb9' hb10' hb11'
        go_wp2_with fail
        refine (sum3Z _ FM FM FN (HT.out.below hb11) _ _ _ rfl).mono ?_
        rw [show M + M + -M = M by omega, (out_plain FM).1, (out_plain FM).2]
        rintro e w12 ⟨rfl, hb12'⟩
        have hb12 := hb11.trans (hb12'.mono hb11.size)
        go_wp2_with fail
        refine (isZ _ FM).mono ?_
        rintro e w13 ⟨rfl, hb13'⟩
        have hb13 := hb12.trans (hb13'.mono hb12.size)
        go_wp2_with fail
        have hov : Calls Tryd.prog 14 #[.string ⟨(Lib.itoa M ++ [48]).toArray⟩] w13 fun e w' => e = .returned (.bool false) ∧ Below w13.heap.size w13 w' := by
          have := isL (Lib.itoa M ++ [48]) w13 (by rw [List.length_append]; simp; omega)
          rw [HI.out.over] at this
          exact this
        refine hov.mono ?_
        rintro e w14 ⟨rfl, hb14'⟩
        have hb14 := hb13.trans (hb14'.mono hb13.size)
        clear hov hb13' hb14'
        go_wp2_with fail
        refine (awake_any _ (HT.out.below hb14) (HE.out.below hb14)).mono ?_
        rintro e w15 ⟨rfl, hb15'⟩
        have hb15 := hb14.trans (hb15'.mono hb14.size)
        go_wp2_with fail
        go_ret
        exact ⟨rfl, hb15⟩

end Go.Proofs.YtimcbmgmngkagaaDoor

namespace Go.Proofs.YtimcbmgmngkagaaDoor
open Go.ChangeShapes Go.WideShapes Go.RowKit

def laid5 : List (String × DataW Unit) := [("math/bits.deBruijn32tab", Rows.laid_math_bits_deBruijn32tab), ("math/bits.deBruijn64tab", Rows.laid_math_bits_deBruijn64tab), ("internal/strconv.uint64pow10", Rows.laid_internal_strconv_uint64pow10), ("strconv.ErrRange", Rows.laid_strconv_ErrRange), ("strconv.ErrSyntax", Rows.laid_strconv_ErrSyntax)]

theorem own : ownKnob Tryd.prog.godebug = none := by kernel_rfl
theorem gPow : Tryd.prog.globalNamed "internal/strconv.uint64pow10" = some 0 := by kernel_rfl
theorem tPow : (Tryd.prog.globals[(0 : Nat)]?).map (·.type) = some 124 := by kernel_rfl
theorem cPow : Tryd.prog.cellsOf 124 = 20 := by kernel_rfl
theorem cU64 : Tryd.prog.cellsOf 73 = 1 := by kernel_rfl
theorem gErr : Tryd.prog.globalNamed "strconv.ErrRange" = some 2 := by kernel_rfl
theorem tErr : (Tryd.prog.globals[(2 : Nat)]?).map (·.type) = some 81 := by kernel_rfl
theorem cErrS : Tryd.prog.cellsOf 137 = 1 := by kernel_rfl
theorem cStr : Tryd.prog.cellsOf 9 = 1 := by kernel_rfl
theorem rowErr (u : TypeId) (h : Tryd.prog.typeName? 3 u = some "*errors.errorString") : u = 135 :=
  typeName_ptr_named (nm := "errors.errorString") (by kernel_rfl) (by kernel_rfl) (by decide) u h
theorem powData : Rows.laid_internal_strconv_uint64pow10 (H := Unit) = Lib.tabData .u64 Lib.pow10Tab := by rfl

theorem door_met (os : Os) (args : Array Value) : laidMetH Tryd.prog laid5 ((World.doorLaid Tryd.prog 62 os).forCall (fun _ _ => 0) ⟨#[], args, []⟩).memory :=
  laidMetH_of_parts3 (fuel := 8) (laidMet_of_run' 8 (by kernel_rfl) (by kernel_rfl)) (by kernel_rfl) (by kernel_rfl)

theorem of_laid {W : World} (h : laidMetH Tryd.prog laid5 W) : Tab W ∧ ErrLaid W := by
  rw [MakeChecks.laidMetH_plain _ _ _ (by kernel_rfl)] at h
  have h2 := h.tail.tail
  rw [powData] at h2
  refine ⟨Lib.tabIs_of_head gPow tPow Tryd.underlying124 Tryd.underlying73 cU64 cPow h2, ?_⟩
  have h3 := h.tail.tail.tail
  obtain ⟨a0, s0, hv0, _⟩ := laid_sentinel h3 gErr tErr Tryd.underlying81 rowErr Tryd.underlying135 Tryd.underlying137 rfl rfl Tryd.underlying9 cErrS cStr
  exact ⟨_, by simpa using World.var?_cell gErr hv0 0, .inr ⟨_, _, rfl⟩⟩

theorem i64_of {n : Int} (h : (Lit.int .i64 n).wf = true) : -9223372036854775808 ≤ n ∧ n ≤ 9223372036854775807 := by
  have h1 : IntKind.i64.min = -9223372036854775808 := rfl
  have h2 : IntKind.i64.max = 9223372036854775807 := rfl
  simpa [Lit.wf, h1, h2] using h

end Go.Proofs.YtimcbmgmngkagaaDoor

namespace Go.Proofs.YtimcbmgmngkagaaDoor
open Go Go.ChangeShapes Go.WideShapes Go.ChangeAt Go.WideMaps Go.WideElems Go.RowKit Go.ChangeMaps

set_option maxRecDepth 100000 in
theorem wideLong_lifted (os : Os) (started : os.Started) (H : Type) (enc : TypeId × Value → H) :
    ReturnsInHanded {} Tryd.checked os 3 .any (fun w args => (Rows.wideLongSpec.pre enc Tryd.prog Tryd.f3 [] false w args ∧ laidMetH Tryd.prog laid5 w) ∧ sizedMet enc Tryd.prog Tryd.f3 (OpenSpec.ofChange Rows.wideLongSpec) false w args)
      (Rows.wideLongSpec.post enc Tryd.prog Tryd.f3 false true false false) := by
  refine returnsInHanded_of_change_and (C := Tryd.checked) (X := fun w _ => laidMetH Tryd.prog laid5 w) (fun _ _ _ hh h => h.of_heap hh) own started (by kernel_rfl) Tryd.func3
    (ChangeSpec.witness_shaped (enc := enc) (C := Tryd.checked) (os := os) (X := fun w _ => laidMetH Tryd.prog laid5 w) false (World.doorLaid Tryd.prog 62 os) #[.string ⟨#[]⟩, .int .i64 0] 8 rfl (World.shaped_of_RefB (by kernel_rfl) (by kernel_rfl)) (by kernel_rfl) (by kernel_rfl) (by kernel_rfl) (door_met os _)) ?_
  intro W base args ds gs before hval0 hW _ _ hL _
  have hval : ∀ (j : Nat) t v, Tryd.f3.params[j]? = some t → args[j]? = some v → Value.okWide Tryd.prog W .any base t v := hval0
  have hW' := hW
  obtain ⟨p, q, hA0, hV, rfl, hfz, hnd⟩ := hW
  have hA : DataW.TrodAll enc Tryd.prog W 0 (fun _ => true) true Tryd.f3.params.toList args.toList ds p := hA0
  rw [Tryd.params3] at hA hval
  obtain ⟨v0, v1, d0, d1, p0, p1, rfl, rfl, rfl, h0, h1⟩ := trodAll_two hA
  obtain ⟨rfl, rfl⟩ := trodVars_none hV
  obtain ⟨s0, rfl, rfl, rfl, hs0⟩ := open_string Tryd.underlying9 (hval 0 9 v0 rfl rfl) h0
  obtain ⟨n1, rfl, rfl, rfl, hw1⟩ := open_int Tryd.underlying3 (hval 1 3 v1 rfl rfl) h1
  obtain ⟨htab, herr⟩ := of_laid hL
  simp only [List.append_nil] at hW'
  obtain ⟨l1, u1⟩ := i64_of hw1
  have walk := wideLong_walk s0.data.toList n1 W (by simpa [maxLen] using hs0) l1 u1 htab herr
  rw [← bytes_list s0] at walk
  refine walk.mono fun e W' ⟨he, hb⟩ => ?_
  subst he
  refine ⟨_, rfl, _, _, _, [], [], [], hW', ?_, ?_, rfl, hb.frame _, fun h => by cases h⟩
  · exact trodAll_mk1 (shut_bool Tryd.underlying4 true)
  · exact trodAll_mk2 (shut_string Tryd.underlying9 hs0) (shut_int Tryd.underlying3 hw1)

end Go.Proofs.YtimcbmgmngkagaaDoor

namespace Go.Proofs.YtimcbmgmngkagaaDoor
open Go Go.ChangeShapes Go.WideShapes Go.ChangeAt Go.WideMaps Go.WideElems Go.RowKit Go.ChangeMaps

theorem wideLong_holds : Rows.WideLongSaid :=
  OpenClaim.holds_of_wide 3 Tryd.f3 rfl rfl rfl rfl rfl rfl rfl ⟨rfl, rfl, rfl, rfl, rfl⟩ rfl rfl rfl rfl rfl (by kernel_rfl) Tryd.func3 (by kernel_rfl)
    (of_decide_eq_true (by kernel_rfl)) (by unfold Func.isWrapper; first | (rw [if_pos (by decide +kernel)]; kernel_rfl) | (rw [if_neg (by decide +kernel)]; exact ⟨rfl, rfl⟩))
    (fun os started H enc _ => wideLong_lifted os started H enc)

end Go.Proofs.YtimcbmgmngkagaaDoor

namespace Go.Proofs.YtimcbmgmngkagaaDoor
open Go Go.ChangeShapes Go.WideShapes Go.ChangeAt Go.WideMaps Go.WideElems Go.RowKit Go.ChangeMaps

theorem wideLong_card : Rows.WideLongCardSaid :=
  Claim7.holds_tied_plain_at .later [] [.data, .data, .data, .sentinel, .sentinel] true (true, Rows.wideLongCard.stood.harness.2) true
    wideLong_holds (fun _ h => by cases h) (by kernel_rfl) (fun _ h => by cases h) wideLong_row_tie rfl ⟨rfl, rfl⟩ (by kernel_rfl) rfl
    (fun f fn hf hfn => by
      obtain rfl : f = 3 := Option.some.inj ((show Tryd.prog.funcNamed "spokeshave/spokeshavelaw01.WideLong" = some 3 by kernel_rfl).symm.trans hf) |>.symm
      obtain rfl : fn = Tryd.f3 := (Option.some.inj (Tryd.func3.symm.trans hfn)).symm
      exact ⟨by kernel_rfl, fun j t ht => by
        rw [Tryd.params3] at ht
        have hm : t ∈ [9, 3] := by simpa using Array.mem_of_getElem? ht
        have hall : ([9, 3].all fun u => !Tryd.prog.wantsStandIn u) = true := by kernel_rfl
        exact (show Tryd.prog.wantsStandIn t = false by simpa using List.all_eq_true.1 hall t hm)⟩)
    (by kernel_rfl)
#print axioms wideLong_card
end Go.Proofs.YtimcbmgmngkagaaDoor
