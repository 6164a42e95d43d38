/-
  Comparisons of numbers: cmp.Compare at int and at uint64.
-/
import Derived.Test.YtapfkinpdinbgaaDoorBase
namespace Go.Proofs.YtapfkinpdinbgaaDoor
open Go.RowKit

/-- -1, 0 or 1. -/
def sgnCmp (a b : Int) : Int := if a < b then -1 else if a = b then 0 else 1
theorem sgnCmp_lt {a b : Int} (h : a < b) : sgnCmp a b = -1 := by rw [sgnCmp, if_pos h]
theorem sgnCmp_gt {a b : Int} (h : b < a) : sgnCmp a b = 1 := by rw [sgnCmp, if_neg (by omega), if_neg (by omega)]
theorem sgnCmp_eq (a : Int) : sgnCmp a a = 0 := by rw [sgnCmp, if_neg (by omega), if_pos rfl]

theorem cmp_int (a b : Int) (w : World) :
    Calls Tryd.prog 77 #[.int .i64 a, .int .i64 b] w fun e w' => e = .returned (.int .i64 (sgnCmp a b)) ∧ w = w' := by
  rcases Int.lt_trichotomy a b with h | rfl | h
  · have H := Lib.hid (sgnCmp_lt h)
    go_enter Tryd.func77, Tryd.ntmps77
    go_wp2
    go_ret
    exact ⟨ret_int H.out.symm, rfl⟩
  · have H := Lib.hid (sgnCmp_eq a)
    go_enter Tryd.func77, Tryd.ntmps77
    go_wp2
    go_ret
    exact ⟨ret_int H.out.symm, rfl⟩
  · have H := Lib.hid (sgnCmp_gt h)
    go_enter Tryd.func77, Tryd.ntmps77
    go_wp2
    go_ret
    exact ⟨ret_int H.out.symm, rfl⟩

theorem cmp_uint64 (a b : Int) (w : World) :
    Calls Tryd.prog 101 #[.int .u64 a, .int .u64 b] w fun e w' => e = .returned (.int .i64 (sgnCmp a b)) ∧ w = w' := by
  rcases Int.lt_trichotomy a b with h | rfl | h
  · have H := Lib.hid (sgnCmp_lt h)
    go_enter Tryd.func101, Tryd.ntmps101
    go_wp2
    go_ret
    exact ⟨ret_int H.out.symm, rfl⟩
  · have H := Lib.hid (sgnCmp_eq a)
    go_enter Tryd.func101, Tryd.ntmps101
    go_wp2
    go_ret
    exact ⟨ret_int H.out.symm, rfl⟩
  · have H := Lib.hid (sgnCmp_gt h)
    go_enter Tryd.func101, Tryd.ntmps101
    go_wp2
    go_ret
    exact ⟨ret_int H.out.symm, rfl⟩

end Go.Proofs.YtapfkinpdinbgaaDoor
