/-
  What each law asks besides: a few plain answers.
-/
import Derived.Test.YtapfkinpdinbgaaDoorDetApi
import Derived.Test.YtapfkinpdinbgaaDoorDiv
import Derived.Test.YtapfkinpdinbgaaDoorToInt
namespace Go.Proofs.YtapfkinpdinbgaaDoor
open Go.RowKit

def b20 : ByteArray := ⟨#[57, 57, 57, 57, 57, 57, 57, 57, 57, 57, 57, 57, 57, 57, 57, 57, 57, 57, 57, 57]⟩
def b40 : ByteArray := ⟨#[57, 57, 57, 57, 57, 57, 57, 57, 57, 57, 57, 57, 57, 57, 57, 57, 57, 57, 57, 56, 48, 48, 48, 48, 48, 48, 48, 48, 48, 48, 48, 48, 48, 48, 48, 48, 48, 48, 48, 49]⟩

theorem aw_mul (w : World) (htab : Tab w) : Calls Tryd.prog 24 #[.string b20, .string b20] w fun e w' => e = .returned (.tuple #[.string b40, .int .i64 0]) ∧ Below w.heap.size w w' := by
  refine (mul_any b20 b20 w (by decide) (by decide) htab).mono ?_
  rintro e w' ⟨rfl, hb⟩
  have h1 : apiS (numB b20.data.toList && numB b20.data.toList) (strV b20.data.toList * strV b20.data.toList) = b40.data.toList := by decide +kernel
  have h2 : apiE (numB b20.data.toList && numB b20.data.toList) (strV b20.data.toList * strV b20.data.toList) = 0 := by decide +kernel
  rw [h1, h2]
  exact ⟨rfl, hb⟩

theorem aw_div1 (w : World) (htab : Tab w) : Calls Tryd.prog 39 #[.string ⟨#[45, 55]⟩, .string ⟨#[50]⟩] w fun e w' => e = .returned (.tuple #[.string ⟨#[45, 52]⟩, .string ⟨#[49]⟩, .int .i64 0]) ∧ Below w.heap.size w w' := by
  refine (div_any ⟨#[45, 55]⟩ ⟨#[50]⟩ w (by decide) (by decide) htab (fun _ _ _ => canDiv_one (by decide +kernel) (by decide +kernel))).mono ?_
  rintro e w' ⟨rfl, hb⟩
  have h1 : divQ (numB (⟨#[45, 55]⟩ : ByteArray).data.toList && numB (⟨#[50]⟩ : ByteArray).data.toList) (strV (⟨#[45, 55]⟩ : ByteArray).data.toList) (strV (⟨#[50]⟩ : ByteArray).data.toList) = [45, 52] := by decide +kernel
  have h2 : divR (numB (⟨#[45, 55]⟩ : ByteArray).data.toList && numB (⟨#[50]⟩ : ByteArray).data.toList) (strV (⟨#[45, 55]⟩ : ByteArray).data.toList) (strV (⟨#[50]⟩ : ByteArray).data.toList) = [49] := by decide +kernel
  have h3 : divE (numB (⟨#[45, 55]⟩ : ByteArray).data.toList && numB (⟨#[50]⟩ : ByteArray).data.toList) (strV (⟨#[50]⟩ : ByteArray).data.toList) = 0 := by decide +kernel
  rw [h1, h2, h3]
  exact ⟨rfl, hb⟩

theorem aw_div2 (w : World) (htab : Tab w) : Calls Tryd.prog 39 #[.string ⟨#[45, 55]⟩, .string ⟨#[45, 50]⟩] w fun e w' => e = .returned (.tuple #[.string ⟨#[52]⟩, .string ⟨#[49]⟩, .int .i64 0]) ∧ Below w.heap.size w w' := by
  refine (div_any ⟨#[45, 55]⟩ ⟨#[45, 50]⟩ w (by decide) (by decide) htab (fun _ _ _ => canDiv_one (by decide +kernel) (by decide +kernel))).mono ?_
  rintro e w' ⟨rfl, hb⟩
  have h1 : divQ (numB (⟨#[45, 55]⟩ : ByteArray).data.toList && numB (⟨#[45, 50]⟩ : ByteArray).data.toList) (strV (⟨#[45, 55]⟩ : ByteArray).data.toList) (strV (⟨#[45, 50]⟩ : ByteArray).data.toList) = [52] := by decide +kernel
  have h2 : divR (numB (⟨#[45, 55]⟩ : ByteArray).data.toList && numB (⟨#[45, 50]⟩ : ByteArray).data.toList) (strV (⟨#[45, 55]⟩ : ByteArray).data.toList) (strV (⟨#[45, 50]⟩ : ByteArray).data.toList) = [49] := by decide +kernel
  have h3 : divE (numB (⟨#[45, 55]⟩ : ByteArray).data.toList && numB (⟨#[45, 50]⟩ : ByteArray).data.toList) (strV (⟨#[45, 50]⟩ : ByteArray).data.toList) = 0 := by decide +kernel
  rw [h1, h2, h3]
  exact ⟨rfl, hb⟩

def aw4 : List (List ByteArray) := [[⟨#[49]⟩, ⟨#[50]⟩], [⟨#[51]⟩, ⟨#[52]⟩]]

def awW (w : World) : World := ((w.alloc (.cells #[.string ⟨#[49]⟩, .string ⟨#[50]⟩] 9)).alloc (.cells #[.string ⟨#[51]⟩, .string ⟨#[52]⟩] 9)).alloc (.cells #[.slice (some ⟨w.heap.size, 0, none⟩) 2 2, .slice (some ⟨w.heap.size + 1, 0, none⟩) 2 2] 50)

theorem awW_below (w : World) : Below w.heap.size w (awW w) := (((Below.refl _ w).alloc (Nat.le_refl _) _).alloc (by simp) _).alloc (by rw [World.size_alloc, World.size_alloc]; omega) _

theorem aw_rows (w : World) : RdM (awW w) (some ⟨w.heap.size + 1 + 1, 0, none⟩) aw4 := by
  have keep : ∀ {W : World} {o' : Obj} (o : Obj) (i : Nat), W.heap[i]? = some o' → (W.alloc o).heap[i]? = some o' := fun {W} {_} o i h => ((World.grownBy_alloc W o none).block i (Array.getElem?_eq_some_iff.1 h).1 (by simp)).trans h
  have h0 : (awW w).heap[w.heap.size]? = some (.cells #[.string ⟨#[49]⟩, .string ⟨#[50]⟩] 9 (0, 0)) := keep _ _ (keep _ _ (World.alloc_heap_new w _))
  have h1 : (awW w).heap[w.heap.size + 1]? = some (.cells #[.string ⟨#[51]⟩, .string ⟨#[52]⟩] 9 (0, 0)) := by
    refine keep _ _ ?_
    have := World.alloc_heap_new (w.alloc (.cells #[.string ⟨#[49]⟩, .string ⟨#[50]⟩] 9)) (.cells #[.string ⟨#[51]⟩, .string ⟨#[52]⟩] 9)
    rwa [World.size_alloc] at this
  have h2 : (awW w).heap[w.heap.size + 1 + 1]? = some (.cells #[.slice (some ⟨w.heap.size, 0, none⟩) 2 2, .slice (some ⟨w.heap.size + 1, 0, none⟩) 2 2] 50 (0, 0)) := by
    have := World.alloc_heap_new ((w.alloc (.cells #[.string ⟨#[49]⟩, .string ⟨#[50]⟩] 9)).alloc (.cells #[.string ⟨#[51]⟩, .string ⟨#[52]⟩] 9)) (.cells #[.slice (some ⟨w.heap.size, 0, none⟩) 2 2, .slice (some ⟨w.heap.size + 1, 0, none⟩) 2 2] 50)
    rwa [World.size_alloc, World.size_alloc] at this
  have lt : ∀ {b : Nat} {o : Obj}, (awW w).heap[b]? = some o → b < (awW w).heap.size := fun h => (Array.getElem?_eq_some_iff.1 h).1
  have r0 : RdS (awW w) (some ⟨w.heap.size, 0, none⟩) [⟨#[49]⟩, ⟨#[50]⟩] := by
    intro i s hs
    refine ⟨w.heap.size, 0, rfl, lt h0, ?_⟩
    match i, hs with
    | 0, hs => cases hs; simp [World.cell?, h0]
    | 1, hs => cases hs; simp [World.cell?, h0]
    | i + 2, hs => simp at hs
  have r1 : RdS (awW w) (some ⟨w.heap.size + 1, 0, none⟩) [⟨#[51]⟩, ⟨#[52]⟩] := by
    intro i s hs
    refine ⟨w.heap.size + 1, 0, rfl, lt h1, ?_⟩
    match i, hs with
    | 0, hs => cases hs; simp [World.cell?, h1]
    | 1, hs => cases hs; simp [World.cell?, h1]
    | i + 2, hs => simp at hs
  intro i row hi
  match i, hi with
  | 0, hi => cases hi; exact ⟨w.heap.size + 1 + 1, 0, _, 2, rfl, lt h2, by simp [World.cell?, h2], r0⟩
  | 1, hi => cases hi; exact ⟨w.heap.size + 1 + 1, 0, _, 2, rfl, lt h2, by simp [World.cell?, h2], r1⟩
  | i + 2, hi => simp [aw4] at hi

theorem aw_det (w : World) (htab : Tab w) : Calls Tryd.prog 35 #[.slice (some ⟨w.heap.size + 1 + 1, 0, none⟩) 2 2] (awW w) fun e w' => e = .returned (.tuple #[.string ⟨#[45, 50]⟩, .int .i64 0]) ∧ Below w.heap.size w w' := by
  have hb := awW_below w
  refine (det_any (some ⟨w.heap.size + 1 + 1, 0, none⟩) 2 2 aw4 (awW w) rfl (by decide) (aw_rows w) (by unfold aw4 maxLen; decide) (htab.below hb)).mono ?_
  rintro e w' ⟨rfl, hb2⟩
  have h1 : detStr aw4 = [45, 50] := by decide +kernel
  have h2 : detErr aw4 = 0 := by decide +kernel
  rw [h1, h2]
  exact ⟨rfl, hb.trans (hb2.mono hb.size)⟩

def bMin : ByteArray := ⟨#[45, 57, 50, 50, 51, 51, 55, 50, 48, 51, 54, 56, 53, 52, 55, 55, 53, 56, 48, 56]⟩
theorem aw_toInt (w : World) (herr : ErrLaid w) : Calls Tryd.prog 12 #[.string bMin] w fun e w' => e = .returned (.tuple #[.int .i64 (-9223372036854775808), .bool true]) ∧ Below w.heap.size w w' := by
  refine (toInt_any bMin w (by decide) herr).mono ?_
  rintro e w' ⟨rfl, hb⟩
  have h1 : toInt bMin.data.toList = -9223372036854775808 := by decide +kernel
  have h2 : toOk bMin.data.toList = true := by decide +kernel
  rw [h1, h2]
  exact ⟨rfl, hb⟩

theorem aw_is (s : ByteArray) (b : Bool) (h : numB s.data.toList = b) (hs : s.size ≤ maxLen) (w : World) : Calls Tryd.prog 13 #[.string s] w fun e w' => e = .returned (.bool b) ∧ Below w.heap.size w w' := by
  subst h; exact is_any s w hs

set_option maxRecDepth 100000 in
set_option maxHeartbeats 2000000 in
theorem awake_any (w : World) (htab : Tab w) (herr : ErrLaid w) : Calls Tryd.prog 21 #[] w fun e w' => e = .returned (.bool true) ∧ Below w.heap.size w w' := by
  go_enter Tryd.func21, Tryd.ntmps21
  go_wp2_with fail
  refine (aw_mul _ htab).mono ?_
  rintro e w1 ⟨rfl, hb1⟩
  unfold b40
  go_wp2_with fail
  refine (aw_div1 _ (htab.below hb1)).mono ?_
  rintro e w2 ⟨rfl, hb2'⟩
  have hb2 := hb1.trans (hb2'.mono hb1.size)
  go_wp2_with fail
  refine (aw_div2 _ (htab.below hb2)).mono ?_
  rintro e w3 ⟨rfl, hb3'⟩
  have hb3 := hb2.trans (hb3'.mono hb2.size)
  go_wp2_with fail
  refine (aw_det w3 (htab.below hb3)).mono ?_
  rintro e w4 ⟨rfl, hb4'⟩
  have hb4 := hb3.trans (hb4'.mono hb3.size)
  go_wp2_with fail
  refine (aw_toInt _ (herr.below hb4)).mono ?_
  rintro e w5 ⟨rfl, hb5'⟩
  have hb5 := hb4.trans (hb5'.mono hb4.size)
  go_wp2_with fail
  refine (aw_is ⟨#[45, 48]⟩ false (by decide +kernel) (by decide) _).mono ?_
  rintro e w6 ⟨rfl, hb6'⟩
  have hb6 := hb5.trans (hb6'.mono hb5.size)
  go_wp2_with fail
  refine (aw_is ⟨#[48, 49]⟩ false (by decide +kernel) (by decide) _).mono ?_
  rintro e w7 ⟨rfl, hb7'⟩
  have hb7 := hb6.trans (hb7'.mono hb6.size)
  go_wp2_with fail
  refine (aw_is ⟨#[43, 49]⟩ false (by decide +kernel) (by decide) _).mono ?_
  rintro e w8 ⟨rfl, hb8'⟩
  have hb8 := hb7.trans (hb8'.mono hb7.size)
  go_wp2_with fail
  refine (aw_is ⟨#[45, 49, 48]⟩ true (by decide +kernel) (by decide) _).mono ?_
  rintro e w9 ⟨rfl, hb9'⟩
  have hb9 := hb8.trans (hb9'.mono hb8.size)
  go_wp2_with fail
  go_ret
  exact ⟨rfl, hb9⟩


end Go.Proofs.YtapfkinpdinbgaaDoor
