/-
  The laws of planes: a few plain answers; PlaneShifts, its walk; PlaneMakes, its walk; PlaneTurns, plain: turned planes, moved planes and points, the plane through three points; A region that draws its order and ends in 'a, b, c := ..' for variables that lie in memory, of known values.
-/
import Derived.Deep.CutBlock
import Derived.Test.YtopdeakjnloemaaK1
import Derived.Test.YtopdeakjnloemaaK2
import Derived.Test.YtopdeakjnloemaaK3
import Derived.Test.YtopdeakjnloemaaK4
import Derived.Test.YtopdeakjnloemaaK5
import Derived.Test.YtopdeakjnloemaaK6
import Derived.Test.YtopdeakjnloemaaK7
import Derived.Test.YtopdeakjnloemaaK8
import Derived.Test.YtopdeakjnloemaaK9
import Derived.Test.YtopdeakjnloemaaK10
import Derived.Test.YtopdeakjnloemaaK11
import Derived.Test.YtopdeakjnloemaaK12
import Derived.Test.YtopdeakjnloemaaK13
import Derived.Test.YtopdeakjnloemaaK14
import Derived.Test.YtopdeakjnloemaaK15
import Derived.Test.YtopdeakjnloemaaK16
import Derived.Test.YtopdeakjnloemaaK17
namespace Go.Proofs.Ytopdeakjnloemaa
open Go.RowKit Go.Shelf
attribute [local go_sem] Oper.semAt_some

theorem aw3_make (w : World) : Calls Try.prog 12 #[.int .i64 2, .int .i64 4, .int .i64 0, .int .i64 (-6)] w fun e w' => e = .returned (.tuple #[.agg #[.int .i64 1, .int .i64 2, .int .i64 0, .int .i64 (-3)], .int .i64 0]) ∧ Below w.heap.size w w' := by
  refine (make_some 2 4 0 (-6) w (by decide) (by decide) (by decide) (by decide) (by decide)).mono ?_
  rintro e w' ⟨rfl, hb⟩
  have h : MakeOk 2 4 0 (-6) := by decide +kernel
  have l0 : low4 2 4 0 (-6) 2 = 1 := by decide +kernel
  have l1 : low4 2 4 0 (-6) 4 = 2 := by decide +kernel
  have l2 : low4 2 4 0 (-6) 0 = 0 := by decide +kernel
  have l3 : low4 2 4 0 (-6) (-6) = -3 := by decide +kernel
  rw [if_pos h, decide_eq_true h, l0, l1, l2, l3]
  exact ⟨rfl, hb⟩
theorem aw3_side (w : World) : Calls Try.prog 21 #[.agg #[.int .i64 1, .int .i64 0, .int .i64 0, .int .i64 (-1)], .agg #[.int .i64 1, .int .i64 0, .int .i64 0, .int .i64 2]] w fun e w' => e = .returned (.tuple #[.int .i64 (-1), .int .i64 0]) ∧ Below w.heap.size w w' := by
  refine (side_any ⟨1, 0, 0, -1⟩ ⟨1, 0, 0, 2⟩ w (by unfold InV; decide) (by unfold InV; decide)).mono ?_
  rintro e w' ⟨rfl, hb⟩
  have h1 : RightP 1 0 0 (-1) := by decide +kernel
  have h2 : SoundP 1 0 0 2 := by decide +kernel
  have h3 : sgnI (dotL ⟨1, 0, 0, -1⟩ ⟨1, 0, 0, 2⟩ (List.range 4)) = -1 := by decide +kernel
  refine ⟨?_, hb⟩
  show Ending.returned (.tuple #[.int .i64 (if RightP 1 0 0 (-1) ∧ SoundP 1 0 0 2 then sgnI (dotL ⟨1, 0, 0, -1⟩ ⟨1, 0, 0, 2⟩ (List.range 4)) else 0), .int .i64 (firstE [errE (decide (RightP 1 0 0 (-1))) 30, errE (decide (SoundP 1 0 0 2)) 40])]) = _
  rw [if_pos ⟨h1, h2⟩, h3, decide_eq_true h1, decide_eq_true h2]; rfl
theorem aw3_through (w : World) : Calls Try.prog 25 #[.agg #[.int .i64 0, .int .i64 0, .int .i64 0, .int .i64 1], .agg #[.int .i64 1, .int .i64 0, .int .i64 0, .int .i64 1], .agg #[.int .i64 0, .int .i64 1, .int .i64 0, .int .i64 1]] w fun e w' => e = .returned (.tuple #[.agg #[.int .i64 0, .int .i64 0, .int .i64 1, .int .i64 0], .int .i64 0]) ∧ Below w.heap.size w w' := by
  refine (through_any ⟨0, 0, 0, 1⟩ ⟨1, 0, 0, 1⟩ ⟨0, 1, 0, 1⟩ w (by unfold InV; decide) (by unfold InV; decide) (by unfold InV; decide)).mono ?_
  rintro e w' ⟨rfl, hb⟩
  have h1 : thrP ⟨0, 0, 0, 1⟩ ⟨1, 0, 0, 1⟩ ⟨0, 1, 0, 1⟩ = ⟨0, 0, 1, 0⟩ := by decide +kernel
  have h2 : thrE ⟨0, 0, 0, 1⟩ ⟨1, 0, 0, 1⟩ ⟨0, 1, 0, 1⟩ = 0 := by decide +kernel
  rw [h1, h2]
  exact ⟨rfl, hb⟩
theorem aw3_shift (w : World) : Calls Try.prog 37 #[.agg #[.int .i64 1, .int .i64 0, .int .i64 0, .int .i64 (-1)], .agg #[.int .i64 2, .int .i64 7, .int .i64 7]] w fun e w' => e = .returned (.tuple #[.agg #[.int .i64 1, .int .i64 0, .int .i64 0, .int .i64 (-3)], .int .i64 0]) ∧ Below w.heap.size w w' := by
  refine (shift_any ⟨1, 0, 0, -1⟩ 2 7 7 w (by unfold InV; decide)).mono ?_
  rintro e w' ⟨rfl, hb⟩
  have h1 : shP ⟨1, 0, 0, -1⟩ 2 7 7 = ⟨1, 0, 0, -3⟩ := by decide +kernel
  have h2 : shE ⟨1, 0, 0, -1⟩ 2 7 7 = 0 := by decide +kernel
  rw [h1, h2]
  exact ⟨rfl, hb⟩
theorem aw3_check (w : World) : Calls Try.prog 11 #[.agg #[.int .i64 1, .int .i64 0, .int .i64 (-2), .int .i64 (-5)]] w fun e w' => e = .returned (.int .i64 0) ∧ Below w.heap.size w w' := by
  refine (check_any 1 0 (-2) (-5) w (by decide) (by decide) (by decide) (by decide)).mono ?_
  rintro e w' ⟨rfl, hb⟩
  have h : RightP 1 0 (-2) (-5) := by decide +kernel
  rw [decide_eq_true h]
  exact ⟨rfl, hb⟩
theorem aw3_check0 (w : World) : Calls Try.prog 11 #[.agg #[.int .i64 0, .int .i64 0, .int .i64 0, .int .i64 0]] w fun e w' => e = .returned (.int .i64 30) ∧ Below w.heap.size w w' := by
  refine (check_any 0 0 0 0 w (by decide) (by decide) (by decide) (by decide)).mono ?_
  rintro e w' ⟨rfl, hb⟩
  have h : ¬ RightP 0 0 0 0 := by decide +kernel
  rw [decide_eq_false h]
  exact ⟨rfl, hb⟩
theorem aw3_shown (w : World) : Calls Try.prog 15 #[.agg #[.int .i64 (-1), .int .i64 0, .int .i64 2, .int .i64 5]] w fun e w' => e = .returned (.tuple #[.agg #[.int .i64 1, .int .i64 0, .int .i64 (-2), .int .i64 (-5)], .int .i64 0]) ∧ Below w.heap.size w w' := by
  refine (shownApi_any (-1) 0 2 5 w (by decide) (by decide) (by decide) (by decide)).mono ?_
  rintro e w' ⟨rfl, hb⟩
  have h : RightP (-1) 0 2 5 := by decide +kernel
  have h2 : shownP ⟨-1, 0, 2, 5⟩ = ⟨1, 0, -2, -5⟩ := by decide +kernel
  rw [if_pos h, decide_eq_true h, h2]
  exact ⟨rfl, hb⟩

set_option maxRecDepth 100000 in
set_option maxHeartbeats 4000000 in
theorem awake3_any (w : World) : Calls Try.prog 20 #[] w fun e w' => e = .returned (.bool true) ∧ Below w.heap.size w w' := by
  have hq := fun p q w => eqPlane p q w
  go_enter Try.func20, Try.ntmps20
  go_wp2_with fail
  refine (aw3_make _).mono ?_
  rintro e w1 ⟨rfl, hb1⟩
  obtain ⟨wa1, hwa1⟩ : ∃ w', w1.alloc (.cells #[.int .i64 0, .int .i64 0, .int .i64 0, .int .i64 0] 23) = w' := ⟨_, rfl⟩
  have ka : Blk wa1 w1.heap.size #[.int .i64 0, .int .i64 0, .int .i64 0, .int .i64 0] 23 := by rw [← hwa1]; exact Blk.new _ _ _
  have hba1 : Below w.heap.size w wa1 := by rw [← hwa1]; exact hb1.alloc hb1.size _
  have a10 := ka.cell (i := 0) rfl
  have a11 := ka.cell (i := 1) rfl
  have a12 := ka.cell (i := 2) rfl
  have a13 := ka.cell (i := 3) rfl
  have f10 := ka.frozen 0
  have f11 := ka.frozen 1
  have f12 := ka.frozen 2
  have f13 := ka.frozen 3
  obtain ⟨ws1, hws1⟩ : ∃ w', ((((wa1.setCell ⟨w1.heap.size, 0, none⟩ (.int .i64 1)).setCell ⟨w1.heap.size, 1, none⟩ (.int .i64 2)).setCell ⟨w1.heap.size, 2, none⟩ (.int .i64 0)).setCell ⟨w1.heap.size, 3, none⟩ (.int .i64 (-3))) = w' := ⟨_, rfl⟩
  have K1 : Blk ws1 w1.heap.size #[.int .i64 1, .int .i64 2, .int .i64 0, .int .i64 (-3)] 23 := by rw [← hws1]; exact Blk.put4 ka _ _ _ _
  have hbs1 : Below w.heap.size w ws1 := by have := hb1.size; rw [← hws1]; exact (((hba1.setCell (by simp only; omega) _).setCell (by simp only; omega) _).setCell (by simp only; omega) _).setCell (by simp only; omega) _
  have hbk1 : Below w1.heap.size w1 ws1 := by rw [← hws1]; exact ((((by rw [← hwa1]; exact (Below.refl _ _).alloc (Nat.le_refl _) _ : Below w1.heap.size w1 wa1).setCell (by simp only; omega) _).setCell (by simp only; omega) _).setCell (by simp only; omega) _).setCell (by simp only; omega) _
  go_wp2_with fail
  refine (aw3_side _).mono ?_
  rintro e w2 ⟨rfl, hb2⟩
  have K1 := K1.kept hb2
  have hb2' := hbs1.trans (hb2.mono hbs1.size)
  go_wp2_with fail
  refine (aw3_through _).mono ?_
  rintro e w3 ⟨rfl, hb3⟩
  have K1 := K1.kept hb3
  have hb3' := hb2'.trans (hb3.mono hb2'.size)
  obtain ⟨wa2, hwa2⟩ : ∃ w', w3.alloc (.cells #[.int .i64 0, .int .i64 0, .int .i64 0, .int .i64 0] 23) = w' := ⟨_, rfl⟩
  have ka : Blk wa2 w3.heap.size #[.int .i64 0, .int .i64 0, .int .i64 0, .int .i64 0] 23 := by rw [← hwa2]; exact Blk.new _ _ _
  have hba2 : Below w.heap.size w wa2 := by rw [← hwa2]; exact hb3'.alloc hb3'.size _
  have a20 := ka.cell (i := 0) rfl
  have a21 := ka.cell (i := 1) rfl
  have a22 := ka.cell (i := 2) rfl
  have a23 := ka.cell (i := 3) rfl
  have f20 := ka.frozen 0
  have f21 := ka.frozen 1
  have f22 := ka.frozen 2
  have f23 := ka.frozen 3
  obtain ⟨ws2, hws2⟩ : ∃ w', ((((wa2.setCell ⟨w3.heap.size, 0, none⟩ (.int .i64 0)).setCell ⟨w3.heap.size, 1, none⟩ (.int .i64 0)).setCell ⟨w3.heap.size, 2, none⟩ (.int .i64 1)).setCell ⟨w3.heap.size, 3, none⟩ (.int .i64 0)) = w' := ⟨_, rfl⟩
  have K2 : Blk ws2 w3.heap.size #[.int .i64 0, .int .i64 0, .int .i64 1, .int .i64 0] 23 := by rw [← hws2]; exact Blk.put4 ka _ _ _ _
  have hbs2 : Below w.heap.size w ws2 := by have := hb3'.size; rw [← hws2]; exact (((hba2.setCell (by simp only; omega) _).setCell (by simp only; omega) _).setCell (by simp only; omega) _).setCell (by simp only; omega) _
  have hbk2 : Below w3.heap.size w3 ws2 := by rw [← hws2]; exact ((((by rw [← hwa2]; exact (Below.refl _ _).alloc (Nat.le_refl _) _ : Below w3.heap.size w3 wa2).setCell (by simp only; omega) _).setCell (by simp only; omega) _).setCell (by simp only; omega) _).setCell (by simp only; omega) _
  have K1 := K1.kept hbk2
  go_wp2_with fail
  refine (aw3_shown _).mono ?_
  rintro e w4 ⟨rfl, hb4⟩
  have K1 := K1.kept hb4
  have K2 := K2.kept hb4
  have hb4' := hbs2.trans (hb4.mono hbs2.size)
  obtain ⟨wa3, hwa3⟩ : ∃ w', w4.alloc (.cells #[.int .i64 0, .int .i64 0, .int .i64 0, .int .i64 0] 23) = w' := ⟨_, rfl⟩
  have ka : Blk wa3 w4.heap.size #[.int .i64 0, .int .i64 0, .int .i64 0, .int .i64 0] 23 := by rw [← hwa3]; exact Blk.new _ _ _
  have hba3 : Below w.heap.size w wa3 := by rw [← hwa3]; exact hb4'.alloc hb4'.size _
  have a30 := ka.cell (i := 0) rfl
  have a31 := ka.cell (i := 1) rfl
  have a32 := ka.cell (i := 2) rfl
  have a33 := ka.cell (i := 3) rfl
  have f30 := ka.frozen 0
  have f31 := ka.frozen 1
  have f32 := ka.frozen 2
  have f33 := ka.frozen 3
  obtain ⟨ws3, hws3⟩ : ∃ w', ((((wa3.setCell ⟨w4.heap.size, 0, none⟩ (.int .i64 1)).setCell ⟨w4.heap.size, 1, none⟩ (.int .i64 0)).setCell ⟨w4.heap.size, 2, none⟩ (.int .i64 (-2))).setCell ⟨w4.heap.size, 3, none⟩ (.int .i64 (-5))) = w' := ⟨_, rfl⟩
  have K3 : Blk ws3 w4.heap.size #[.int .i64 1, .int .i64 0, .int .i64 (-2), .int .i64 (-5)] 23 := by rw [← hws3]; exact Blk.put4 ka _ _ _ _
  have hbs3 : Below w.heap.size w ws3 := by have := hb4'.size; rw [← hws3]; exact (((hba3.setCell (by simp only; omega) _).setCell (by simp only; omega) _).setCell (by simp only; omega) _).setCell (by simp only; omega) _
  have hbk3 : Below w4.heap.size w4 ws3 := by rw [← hws3]; exact ((((by rw [← hwa3]; exact (Below.refl _ _).alloc (Nat.le_refl _) _ : Below w4.heap.size w4 wa3).setCell (by simp only; omega) _).setCell (by simp only; omega) _).setCell (by simp only; omega) _).setCell (by simp only; omega) _
  have K1 := K1.kept hbk3
  have K2 := K2.kept hbk3
  go_wp2_with fail
  refine (aw3_shift _).mono ?_
  rintro e w5 ⟨rfl, hb5⟩
  have K1 := K1.kept hb5
  have K2 := K2.kept hb5
  have K3 := K3.kept hb5
  have hb5' := hbs3.trans (hb5.mono hbs3.size)
  obtain ⟨wa4, hwa4⟩ : ∃ w', w5.alloc (.cells #[.int .i64 0, .int .i64 0, .int .i64 0, .int .i64 0] 23) = w' := ⟨_, rfl⟩
  have ka : Blk wa4 w5.heap.size #[.int .i64 0, .int .i64 0, .int .i64 0, .int .i64 0] 23 := by rw [← hwa4]; exact Blk.new _ _ _
  have hba4 : Below w.heap.size w wa4 := by rw [← hwa4]; exact hb5'.alloc hb5'.size _
  have a40 := ka.cell (i := 0) rfl
  have a41 := ka.cell (i := 1) rfl
  have a42 := ka.cell (i := 2) rfl
  have a43 := ka.cell (i := 3) rfl
  have f40 := ka.frozen 0
  have f41 := ka.frozen 1
  have f42 := ka.frozen 2
  have f43 := ka.frozen 3
  obtain ⟨ws4, hws4⟩ : ∃ w', ((((wa4.setCell ⟨w5.heap.size, 0, none⟩ (.int .i64 1)).setCell ⟨w5.heap.size, 1, none⟩ (.int .i64 0)).setCell ⟨w5.heap.size, 2, none⟩ (.int .i64 0)).setCell ⟨w5.heap.size, 3, none⟩ (.int .i64 (-3))) = w' := ⟨_, rfl⟩
  have K4 : Blk ws4 w5.heap.size #[.int .i64 1, .int .i64 0, .int .i64 0, .int .i64 (-3)] 23 := by rw [← hws4]; exact Blk.put4 ka _ _ _ _
  have hbs4 : Below w.heap.size w ws4 := by have := hb5'.size; rw [← hws4]; exact (((hba4.setCell (by simp only; omega) _).setCell (by simp only; omega) _).setCell (by simp only; omega) _).setCell (by simp only; omega) _
  have hbk4 : Below w5.heap.size w5 ws4 := by rw [← hws4]; exact ((((by rw [← hwa4]; exact (Below.refl _ _).alloc (Nat.le_refl _) _ : Below w5.heap.size w5 wa4).setCell (by simp only; omega) _).setCell (by simp only; omega) _).setCell (by simp only; omega) _).setCell (by simp only; omega) _
  have K1 := K1.kept hbk4
  have K2 := K2.kept hbk4
  have K3 := K3.kept hbk4
  have p0 := K1.cell (i := 0) rfl
  have p1 := K1.cell (i := 1) rfl
  have p2 := K1.cell (i := 2) rfl
  have p3 := K1.cell (i := 3) rfl
  have q0 := K2.cell (i := 0) rfl
  have q1 := K2.cell (i := 1) rfl
  have q2 := K2.cell (i := 2) rfl
  have q3 := K2.cell (i := 3) rfl
  have r0 := K3.cell (i := 0) rfl
  have r1 := K3.cell (i := 1) rfl
  have r2 := K3.cell (i := 2) rfl
  have r3 := K3.cell (i := 3) rfl
  have s0 := K4.cell (i := 0) rfl
  have s1 := K4.cell (i := 1) rfl
  have s2 := K4.cell (i := 2) rfl
  have s3 := K4.cell (i := 3) rfl
  have E1 := fun w => hq ⟨1, 2, 0, -3⟩ ⟨1, 2, 0, -3⟩ w
  have E2 := fun w => hq ⟨0, 0, 1, 0⟩ ⟨0, 0, 1, 0⟩ w
  have E3 := fun w => hq ⟨1, 0, -2, -5⟩ ⟨1, 0, -2, -5⟩ w
  have E4 := fun w => hq ⟨1, 0, 0, -3⟩ ⟨1, 0, 0, -3⟩ w
  simp only [decide_true] at E1 E2 E3 E4
  clear hq
  go_wp2_with fail
  refine (aw3_check _).mono ?_
  rintro e w6 ⟨rfl, hb6⟩
  have hb6' := hbs4.trans (hb6.mono hbs4.size)
  go_wp2_with fail
  refine (aw3_check0 _).mono ?_
  rintro e w7 ⟨rfl, hb7⟩
  have hb7' := hb6'.trans (hb7.mono hb6'.size)
  go_wp2_with fail
  go_ret
  exact ⟨rfl, hb7'⟩

end Go.Proofs.Ytopdeakjnloemaa

namespace Go.Proofs.Ytopdeakjnloemaa
open Go.RowKit Go.Shelf
attribute [local go_sem] Oper.semAt_some

theorem int3_set {r : Nat → Int} {i : Nat} (hi : i < 3) (v : Int) : (#[.int .i64 (r 0), .int .i64 (r 1), .int .i64 (r 2)] : Array Value).setIfInBounds i (.int .i64 v) = #[.int .i64 (if 0 = i then v else r 0), .int .i64 (if 1 = i then v else r 1), .int .i64 (if 2 = i then v else r 2)] := by
  have h4 : i = 0 ∨ i = 1 ∨ i = 2 := by omega
  rcases h4 with rfl | rfl | rfl <;> rfl
theorem int3_at {W : World} {B : Nat} {r : Nat → Int} {t : TypeId} (h : Blk W B #[.int .i64 (r 0), .int .i64 (r 1), .int .i64 (r 2)] t) {i : Nat} (hi : i < 3) : W.cell? ⟨B, i, none⟩ = some (.int .i64 (r i)) := by
  have h4 : i = 0 ∨ i = 1 ∨ i = 2 := by omega
  rcases h4 with rfl | rfl | rfl <;> exact h.cell rfl
theorem tameC_in {v most : Int} (h1 : 1 ≤ most) (h2 : most ≤ 1000000) : InI64 (tameC v most) := by
  have := tameC_le (v := v) h1
  unfold InI64; omega

end Go.Proofs.Ytopdeakjnloemaa

namespace Go.Proofs.Ytopdeakjnloemaa
open Go.RowKit Go.Shelf
attribute [local go_sem] Oper.semAt_some

def zeroN (x : V4) : Prop := x.a = 0 ∧ x.b = 0 ∧ x.c = 0
instance (x : V4) : Decidable (zeroN x) := by unfold zeroN; infer_instance
def makeQ (x : V4) : Prop := MakeOk x.a x.b x.c x.d
instance (x : V4) : Decidable (makeQ x) := by unfold makeQ; infer_instance
/-- What Opposite and Shown return. -/
def oppP (x : V4) : V4 := if RightQ x then ⟨-x.a, -x.b, -x.c, -x.d⟩ else ⟨0, 0, 0, 0⟩
theorem opp_q (x : V4) (w : World) (hx : InV x) : Calls Try.prog 14 #[.agg #[.int .i64 x.a, .int .i64 x.b, .int .i64 x.c, .int .i64 x.d]] w fun e w' => e = .returned (.tuple #[.agg #[.int .i64 (oppP x).a, .int .i64 (oppP x).b, .int .i64 (oppP x).c, .int .i64 (oppP x).d], .int .i64 (errE (decide (RightQ x)) 30)]) ∧ Below w.heap.size w w' := by
  have h := oppositeApi_any x.a x.b x.c x.d w hx.1 hx.2.1 hx.2.2.1 hx.2.2.2
  rw [show decide (RightP x.a x.b x.c x.d) = decide (RightQ x) from decide_eq_decide.2 Iff.rfl] at h
  refine h.mono ?_
  rintro e' w' ⟨rfl, hb⟩
  refine ⟨?_, hb⟩
  unfold oppP
  by_cases hr : RightQ x
  · rw [if_pos hr, if_pos (show RightP x.a x.b x.c x.d from hr)]
  · rw [if_neg hr, if_neg (show ¬ RightP x.a x.b x.c x.d from hr)]
end Go.Proofs.Ytopdeakjnloemaa

namespace Go.Proofs.Ytopdeakjnloemaa
open Go.RowKit Go.Shelf
attribute [local go_sem] Oper.semAt_some

def dotQ (p q : V4) : Int := p.a * q.a + p.b * q.b + p.c * q.c + p.d * q.d
def oppN (p : V4) : V4 := ⟨-p.a, -p.b, -p.c, -p.d⟩
theorem opp_right {p : V4} (h : RightQ p) : RightQ (oppN p) := rightP_neg.2 h
theorem sgnI_opp (x : Int) : sgnI (-x) = -sgnI x := by
  rcases Int.lt_trichotomy x 0 with h | h | h
  · rw [sgnI_neg h, sgnI_pos (by omega)]; rfl
  · rw [h]; rfl
  · rw [sgnI_pos h, sgnI_neg (by omega)]
theorem dot_opp (p q : V4) : dotQ (oppN p) q = -dotQ p q := by unfold dotQ oppN; grind

theorem side_q {p q : V4} (w : World) (hp : RightQ p) (hq : SoundQ q) : Calls Try.prog 21 #[.agg #[.int .i64 p.a, .int .i64 p.b, .int .i64 p.c, .int .i64 p.d], .agg #[.int .i64 q.a, .int .i64 q.b, .int .i64 q.c, .int .i64 q.d]] w fun e w' => e = .returned (.tuple #[.int .i64 (sgnI (dotQ p q)), .int .i64 0]) ∧ Below w.heap.size w w' := by
  have h := side_any p q w (right_in hp) (sound_in hq)
  have e : dotL p q (List.range 4) = dotQ p q := by unfold dotQ; simp [dotL, vg, List.range, List.range.loop]
  rw [if_pos ⟨hp, hq⟩, decide_eq_true (show RightP p.a p.b p.c p.d from hp), decide_eq_true (show SoundP q.a q.b q.c q.d from hq), e] at h
  exact h

theorem tame_small {x : V4} {most : Int} (h1 : 1 ≤ most) : (tameV x most).a.natAbs ≤ most.natAbs ∧ (tameV x most).b.natAbs ≤ most.natAbs ∧ (tameV x most).c.natAbs ≤ most.natAbs ∧ (tameV x most).d.natAbs ≤ 20 := by
  have hn := tameA_ne x most
  have hm := low4_mul (tameA x most) (tameC x.b most) (tameC x.c most) (tameD x)
  exact ⟨Nat.le_trans (low4_le hn hm.1) (tameA_le h1), Nat.le_trans (low4_le hn hm.2.1) (tameC_le h1), Nat.le_trans (low4_le hn hm.2.2.1) (tameC_le h1), Nat.le_trans (low4_le hn hm.2.2.2) (tameD_le x)⟩
theorem place_small (x : V4) : (placeV x).a.natAbs ≤ 20 ∧ (placeV x).b.natAbs ≤ 20 ∧ (placeV x).c.natAbs ≤ 20 ∧ (placeV x).d.natAbs ≤ 4 := by
  have hA : (placeCA x).natAbs ≤ 20 := by unfold placeCA; omega
  have hB : (placeCB x).natAbs ≤ 20 := by unfold placeCB; omega
  have hC : (placeCC x).natAbs ≤ 20 := by unfold placeCC; omega
  have hD : 1 ≤ placeCD x ∧ placeCD x ≤ 4 := by unfold placeCD; omega
  have hp := g4_pos' (a := placeCA x) (b := placeCB x) (c := placeCC x) hD.1
  have hm := low4_mul (placeCA x) (placeCB x) (placeCC x) (placeCD x)
  exact ⟨Nat.le_trans (low4_le' hp hm.1) hA, Nat.le_trans (low4_le' hp hm.2.1) hB, Nat.le_trans (low4_le' hp hm.2.2.1) hC, Nat.le_trans (low4_le' hp hm.2.2.2) (by omega)⟩

/-- A plane that is moved. -/
def movP (p : V4) (x y z : Int) : V4 := ⟨p.a, p.b, p.c, shD p x y z⟩
theorem mov_right {p : V4} {x y z : Int} (hp : RightQ p) (ha : p.a.natAbs ≤ 6) (hb : p.b.natAbs ≤ 6) (hc : p.c.natAbs ≤ 6) (hd : p.d.natAbs ≤ 20) (hx : x.natAbs ≤ 50) (hy : y.natAbs ≤ 50) (hz : z.natAbs ≤ 50) : RightQ (movP p x y z) := by
  have m0 := mul_le_nat ha hx
  have m1 := mul_le_nat hb hy
  have m2 := mul_le_nat hc hz
  have hg := g4_shift p.a p.b p.c p.d x y z
  obtain ⟨h0, h1, h2, h3, h4, h5⟩ := hp
  refine ⟨h0, h1, h2, h3, ?_, ?_⟩
  · show (shD p x y z).natAbs ≤ 1000000
    unfold shD
    omega
  · show g4 p.a p.b p.c (shD p x y z) = 1
    unfold shD
    rw [hg, h5]
theorem shift_q {p : V4} {x y z : Int} (w : World) (hp : RightQ p) (hf : far3 x y z) (hm : RightQ (movP p x y z)) : Calls Try.prog 37 #[.agg #[.int .i64 p.a, .int .i64 p.b, .int .i64 p.c, .int .i64 p.d], .agg #[.int .i64 x, .int .i64 y, .int .i64 z]] w fun e w' => e = .returned (.tuple #[.agg #[.int .i64 (movP p x y z).a, .int .i64 (movP p x y z).b, .int .i64 (movP p x y z).c, .int .i64 (movP p x y z).d], .int .i64 0]) ∧ Below w.heap.size w w' := by
  have h := shift_any p x y z w (right_in hp)
  have e1 : shP p x y z = movP p x y z := by unfold shP; rw [if_pos hp, if_pos hf, if_pos (show shOk p x y z from hm)]; rfl
  have e2 : shE p x y z = 0 := by unfold shE; rw [if_pos hp, if_pos hf, decide_eq_true (show shOk p x y z from hm)]; rfl
  rw [e1, e2] at h
  exact h
theorem mov_back (p : V4) (x y z : Int) : movP (movP p x y z) (-x) (-y) (-z) = p := by
  obtain ⟨a, b, c, d⟩ := p
  unfold movP shD
  simp only [V4.mk.injEq, true_and]
  grind
/-- A point that is moved. -/
def movQ (q : V4) (x y z : Int) : V4 := ⟨q.a + x * q.d, q.b + y * q.d, q.c + z * q.d, q.d⟩
theorem movQ_sound {q : V4} {x y z : Int} (hq : SoundQ q) (ha : q.a.natAbs ≤ 20) (hb : q.b.natAbs ≤ 20) (hc : q.c.natAbs ≤ 20) (hd : q.d.natAbs ≤ 4) (hx : x.natAbs ≤ 50) (hy : y.natAbs ≤ 50) (hz : z.natAbs ≤ 50) : SoundQ (movQ q x y z) := by
  have m0 := mul_le_nat hx hd
  have m1 := mul_le_nat hy hd
  have m2 := mul_le_nat hz hd
  have hg := g4_moved q.a q.b q.c q.d x y z
  obtain ⟨h0, h1, h2, h3, h4, h5⟩ := hq
  refine ⟨?_, ?_, ?_, h3, h4, ?_⟩
  · show (q.a + x * q.d).natAbs ≤ _; omega
  · show (q.b + y * q.d).natAbs ≤ _; omega
  · show (q.c + z * q.d).natAbs ≤ _; omega
  · show g4 (q.a + x * q.d) (q.b + y * q.d) (q.c + z * q.d) q.d = 1
    rw [hg, h5]
theorem dot_moved (p q : V4) (x y z : Int) : dotQ (movP p x y z) (movQ q x y z) = dotQ p q := by
  unfold dotQ movP movQ shD; grind

theorem crossX_turn (p q r : V4) : crossX r q p = -crossX p q r := minorZ_turn ..
theorem crossY_turn (p q r : V4) : crossY r q p = -crossY p q r := minorZ_turn ..
theorem crossZ_turn (p q r : V4) : crossZ r q p = -crossZ p q r := minorZ_turn ..
theorem thrD_turn (p q r : V4) : thrD r q p = -thrD p q r := by unfold thrD; rw [minorZ_turn]
theorem crossX_round (p q r : V4) : crossX q r p = crossX p q r := minorZ_round ..
theorem crossY_round (p q r : V4) : crossY q r p = crossY p q r := minorZ_round ..
theorem crossZ_round (p q r : V4) : crossZ q r p = crossZ p q r := minorZ_round ..
theorem thrD_round (p q r : V4) : thrD q r p = thrD p q r := by unfold thrD; rw [minorZ_round]
theorem zero3_turn (p q r : V4) : zero3 r q p ↔ zero3 p q r := by
  unfold zero3; rw [crossX_turn, crossY_turn, crossZ_turn]; omega
theorem thrOk_turn {p q r : V4} (h : ¬ zero3 p q r) : thrOk r q p ↔ thrOk p q r := by
  unfold thrOk; rw [crossX_turn, crossY_turn, crossZ_turn, thrD_turn]; exact makeOk_neg h
theorem sound3_turn (p q r : V4) : sound3 r q p = sound3 p q r := by
  unfold sound3
  cases decide (SoundQ p) <;> cases decide (SoundQ q) <;> cases decide (SoundQ r) <;> rfl
theorem thrE_turn (p q r : V4) : thrE r q p = thrE p q r := by
  unfold thrE
  rw [sound3_turn]
  by_cases hs : sound3 p q r = true
  · rw [if_pos hs, if_pos hs]
    by_cases hz : zero3 p q r
    · rw [if_pos hz, if_pos ((zero3_turn p q r).2 hz)]
    · rw [if_neg hz, if_neg (fun h => hz ((zero3_turn p q r).1 h)), decide_eq_decide.2 (thrOk_turn hz)]
  · rw [if_neg hs, if_neg hs]
theorem thr_ok {p q r : V4} (h : thrE p q r = 0) : sound3 p q r = true ∧ ¬ zero3 p q r ∧ thrOk p q r := by
  unfold thrE at h
  by_cases hs : sound3 p q r = true
  · rw [if_pos hs] at h
    by_cases hz : zero3 p q r
    · rw [if_pos hz] at h; cases h
    · rw [if_neg hz] at h
      refine ⟨hs, hz, ?_⟩
      by_cases ho : thrOk p q r
      · exact ho
      · rw [decide_eq_false ho] at h; cases h
  · rw [if_neg hs] at h; cases h
theorem thr_err {p q r : V4} (hs : sound3 p q r = true) : thrE p q r = 0 ∨ thrE p q r = 4 ∨ thrE p q r = 2 := by
  unfold thrE
  rw [if_pos hs]
  split
  · exact .inr (.inl rfl)
  · cases decide (thrOk p q r)
    · exact .inr (.inr rfl)
    · exact .inl rfl
theorem thrP_ok {p q r : V4} (h : thrE p q r = 0) : thrP p q r = thrL p q r := by
  obtain ⟨h1, h2, h3⟩ := thr_ok h
  unfold thrP; rw [if_pos h1, if_neg h2, if_pos h3]
theorem thrP_right {p q r : V4} (h : thrE p q r = 0) : RightQ (thrP p q r) := by
  rw [thrP_ok h]; exact (thr_ok h).2.2
theorem thrP_turn {p q r : V4} (h : thrE p q r = 0) : thrP r q p = oppN (thrP p q r) := by
  have hz := (thr_ok h).2.1
  rw [thrP_ok h, thrP_ok (by rw [thrE_turn]; exact h)]
  have hm := low4_mul (crossX p q r) (crossY p q r) (crossZ p q r) (thrD p q r)
  unfold thrL oppN
  rw [crossX_turn, crossY_turn, crossZ_turn, thrD_turn, low4_neg hm.1 hz, low4_neg hm.2.1 hz, low4_neg hm.2.2.1 hz, low4_neg hm.2.2.2 hz]
theorem thr_on0 {p q r : V4} (h : thrE p q r = 0) : dotQ (thrP p q r) p = 0 := by
  rw [thrP_ok h]
  have hr := thr_rel p q r
  exact low4_on (thr_ok h).2.1 (by rw [hr]; omega)
theorem thr_on1 {p q r : V4} (h : thrE p q r = 0) : dotQ (thrP p q r) q = 0 := by
  rw [thrP_ok h]
  have hr := thr_rel q r p
  rw [thrD_round, crossX_round, crossY_round, crossZ_round] at hr
  exact low4_on (thr_ok h).2.1 (by rw [hr]; omega)
theorem thr_on2 {p q r : V4} (h : thrE p q r = 0) : dotQ (thrP p q r) r = 0 := by
  rw [thrP_ok h]
  have hr := thr_rel r p q
  rw [thrD_round, crossX_round, crossY_round, crossZ_round, thrD_round, crossX_round, crossY_round, crossZ_round] at hr
  exact low4_on (thr_ok h).2.1 (by rw [hr]; omega)
theorem sound3_all {p q r : V4} (hp : SoundQ p) (hq : SoundQ q) (hr : SoundQ r) : sound3 p q r = true := by unfold sound3; rw [decide_eq_true hp, decide_eq_true hq, decide_eq_true hr]; rfl
theorem opp_ok {p : V4} (w : World) (hp : RightQ p) : Calls Try.prog 14 #[.agg #[.int .i64 p.a, .int .i64 p.b, .int .i64 p.c, .int .i64 p.d]] w fun e w' => e = .returned (.tuple #[.agg #[.int .i64 (oppN p).a, .int .i64 (oppN p).b, .int .i64 (oppN p).c, .int .i64 (oppN p).d], .int .i64 0]) ∧ Below w.heap.size w w' := by
  have h := opp_q p w (right_in hp)
  rw [show oppP p = oppN p from by unfold oppP oppN; rw [if_pos hp], decide_eq_true hp] at h
  exact h

theorem turn_sgn (v : Int) : wrap64 (-(-sgnI v)) = sgnI v ∧ wrap64 (sgnI v) = sgnI v := by
  have h : sgnI v = -1 ∨ sgnI v = 0 ∨ sgnI v = 1 := by
    unfold sgnI; split
    · exact .inr (.inl rfl)
    · split
      · exact .inl rfl
      · exact .inr (.inr rfl)
  rcases h with h | h | h <;> rw [h] <;> unfold wrap64 <;> exact ⟨by omega, by omega⟩
theorem turn_w0 {x d : Int} (hx : x.natAbs ≤ 50) (hd : d.natAbs ≤ 4) : wrap64 (x * d) = x * d := by
  have m := mul_le_nat hx hd
  unfold wrap64; omega
theorem turn_w3 {a x d : Int} (ha : a.natAbs ≤ 20) (hx : x.natAbs ≤ 50) (hd : d.natAbs ≤ 4) : wrap64 (a + x * d) = a + x * d := by
  have m := mul_le_nat hx hd
  unfold wrap64; omega
theorem turn_w6 {x : Int} (hx : x.natAbs ≤ 50) : wrap64 (-x) = -x := by unfold wrap64; omega
theorem turn_far {x y z : Int} (hx : x.natAbs ≤ 50) (hy : y.natAbs ≤ 50) (hz : z.natAbs ≤ 50) : far3 x y z ∧ far3 (-x) (-y) (-z) := ⟨⟨by omega, by omega, by omega⟩, ⟨by omega, by omega, by omega⟩⟩

theorem turn_facts {p A B C : V4} {x0 x1 x2 : Int} (HP : RightQ p ∧ p.a.natAbs ≤ 6 ∧ p.b.natAbs ≤ 6 ∧ p.c.natAbs ≤ 6 ∧ p.d.natAbs ≤ 20) (HS : SoundQ A ∧ SoundQ B ∧ SoundQ C ∧ A.a.natAbs ≤ 20 ∧ A.b.natAbs ≤ 20 ∧ A.c.natAbs ≤ 20 ∧ A.d.natAbs ≤ 4) (hx0 : x0.natAbs ≤ 50) (hx1 : x1.natAbs ≤ 50) (hx2 : x2.natAbs ≤ 50) :
    ∃ (O M G H : V4) (S TT u0 u1 u2 : Int) (E : Int), Hid (∀ W : World, Calls Try.prog 14 #[.agg #[.int .i64 p.a, .int .i64 p.b, .int .i64 p.c, .int .i64 p.d]] W fun e w' => e = .returned (.tuple #[.agg #[.int .i64 O.a, .int .i64 O.b, .int .i64 O.c, .int .i64 O.d], .int .i64 0]) ∧ Below W.heap.size W w') ∧ Hid (∀ W : World, Calls Try.prog 21 #[.agg #[.int .i64 p.a, .int .i64 p.b, .int .i64 p.c, .int .i64 p.d], .agg #[.int .i64 A.a, .int .i64 A.b, .int .i64 A.c, .int .i64 A.d]] W fun e w' => e = .returned (.tuple #[.int .i64 S, .int .i64 0]) ∧ Below W.heap.size W w') ∧ Hid (∀ W : World, Calls Try.prog 21 #[.agg #[.int .i64 O.a, .int .i64 O.b, .int .i64 O.c, .int .i64 O.d], .agg #[.int .i64 A.a, .int .i64 A.b, .int .i64 A.c, .int .i64 A.d]] W fun e w' => e = .returned (.tuple #[.int .i64 TT, .int .i64 0]) ∧ Below W.heap.size W w') ∧ Hid (∀ W : World, Calls Try.prog 37 #[.agg #[.int .i64 p.a, .int .i64 p.b, .int .i64 p.c, .int .i64 p.d], .agg #[.int .i64 x0, .int .i64 x1, .int .i64 x2]] W fun e w' => e = .returned (.tuple #[.agg #[.int .i64 M.a, .int .i64 M.b, .int .i64 M.c, .int .i64 M.d], .int .i64 0]) ∧ Below W.heap.size W w') ∧ Hid (∀ W : World, Calls Try.prog 37 #[.agg #[.int .i64 M.a, .int .i64 M.b, .int .i64 M.c, .int .i64 M.d], .agg #[.int .i64 (-x0), .int .i64 (-x1), .int .i64 (-x2)]] W fun e w' => e = .returned (.tuple #[.agg #[.int .i64 p.a, .int .i64 p.b, .int .i64 p.c, .int .i64 p.d], .int .i64 0]) ∧ Below W.heap.size W w') ∧ Hid (∀ W : World, Calls Try.prog 21 #[.agg #[.int .i64 M.a, .int .i64 M.b, .int .i64 M.c, .int .i64 M.d], .agg #[.int .i64 (A.a + u0), .int .i64 (A.b + u1), .int .i64 (A.c + u2), .int .i64 A.d]] W fun e w' => e = .returned (.tuple #[.int .i64 S, .int .i64 0]) ∧ Below W.heap.size W w') ∧ Hid (∀ W : World, Calls Try.prog 25 #[.agg #[.int .i64 A.a, .int .i64 A.b, .int .i64 A.c, .int .i64 A.d], .agg #[.int .i64 B.a, .int .i64 B.b, .int .i64 B.c, .int .i64 B.d], .agg #[.int .i64 C.a, .int .i64 C.b, .int .i64 C.c, .int .i64 C.d]] W fun e w' => e = .returned (.tuple #[.agg #[.int .i64 G.a, .int .i64 G.b, .int .i64 G.c, .int .i64 G.d], .int .i64 E]) ∧ Below W.heap.size W w') ∧ Hid (∀ W : World, Calls Try.prog 25 #[.agg #[.int .i64 C.a, .int .i64 C.b, .int .i64 C.c, .int .i64 C.d], .agg #[.int .i64 B.a, .int .i64 B.b, .int .i64 B.c, .int .i64 B.d], .agg #[.int .i64 A.a, .int .i64 A.b, .int .i64 A.c, .int .i64 A.d]] W fun e w' => e = .returned (.tuple #[.agg #[.int .i64 H.a, .int .i64 H.b, .int .i64 H.c, .int .i64 H.d], .int .i64 E]) ∧ Below W.heap.size W w') ∧ wrap64 (-TT) = S ∧ wrap64 S = S ∧ wrap64 (x0 * A.d) = u0 ∧ wrap64 (x1 * A.d) = u1 ∧ wrap64 (x2 * A.d) = u2 ∧ wrap64 (A.a + u0) = A.a + u0 ∧ wrap64 (A.b + u1) = A.b + u1 ∧ wrap64 (A.c + u2) = A.c + u2 ∧ wrap64 (-x0) = -x0 ∧ wrap64 (-x1) = -x1 ∧ wrap64 (-x2) = -x2 ∧ Hid (E = 0 ∨ E = 4 ∨ E = 2) ∧ Hid (E = 0 → RightQ G ∧ H = oppN G ∧ dotQ G A = 0 ∧ dotQ G B = 0 ∧ dotQ G C = 0) := by
  obtain ⟨hpr, pa, pb, pc, pd⟩ := HP
  obtain ⟨hAs, hBs, hCs, aa, ab, ac, ad⟩ := HS
  obtain ⟨hf1, hf2⟩ := turn_far hx0 hx1 hx2
  have hmr := mov_right hpr pa pb pc pd hx0 hx1 hx2
  have hQs := movQ_sound hAs aa ab ac ad hx0 hx1 hx2
  have hso := fun W => side_q W (opp_right hpr) hAs
  rw [dot_opp, sgnI_opp] at hso
  have hbk := fun W => shift_q (p := movP p x0 x1 x2) (x := -x0) (y := -x1) (z := -x2) W hmr hf2 (by rw [mov_back]; exact hpr)
  rw [mov_back] at hbk
  have hsm := fun W => side_q W hmr hQs
  rw [dot_moved] at hsm
  have hT2 := fun W => through_any C B A W (sound_in hCs) (sound_in hBs) (sound_in hAs)
  rw [thrE_turn] at hT2
  have hsg := turn_sgn (dotQ p A)
  exact ⟨oppN p, movP p x0 x1 x2, thrP A B C, thrP C B A, sgnI (dotQ p A), -sgnI (dotQ p A), x0 * A.d, x1 * A.d, x2 * A.d, thrE A B C,
    Lib.hid (fun W => opp_ok W hpr), Lib.hid (fun W => side_q W hpr hAs), Lib.hid hso, Lib.hid (fun W => shift_q W hpr hf1 hmr), Lib.hid hbk, Lib.hid hsm,
    Lib.hid (fun W => through_any A B C W (sound_in hAs) (sound_in hBs) (sound_in hCs)), Lib.hid hT2,
    hsg.1, hsg.2, turn_w0 hx0 ad, turn_w0 hx1 ad, turn_w0 hx2 ad, turn_w3 aa hx0 ad, turn_w3 ab hx1 ad, turn_w3 ac hx2 ad, turn_w6 hx0, turn_w6 hx1, turn_w6 hx2,
    Lib.hid (thr_err (sound3_all hAs hBs hCs)),
    Lib.hid (fun h => ⟨thrP_right h, thrP_turn h, thr_on0 h, thr_on1 h, thr_on2 h⟩)⟩

end Go.Proofs.Ytopdeakjnloemaa

namespace Go.Proofs.Ytopdeakjnloemaa
open Go.RowKit
variable {P : Program} {Q : Exit → Act → World → Prop}

def ptrV (b : Nat) : Value := .pointer (some ⟨b, 0, none⟩)
theorem ptrV_inj {b c : Nat} (h : ptrV b = ptrV c) : b = c := by
  unfold ptrV at h
  injection h with h; injection h with h; injection h with h

/-- n operations of known values, then k variables made, then k filled. -/
theorem wp_region_defs {id : Nat} {l : List Oper} {a : Act} {w : World} (n k : Nat) (vs : Nat → Value) (Z : Array Value) (Qs : Nat → Array Value) (T : TypeId) (hm : P.follows .mixedOrders = true) (hE : earlierB l = true) (hlen : l.length = n + k + k)
    (dep : ∀ j, j < k → depB l (n + k + j) (n + j) = true)
    (step : ∀ i, i < n → ∀ f w', Below w.heap.size w w' → (∀ j, j < n → depB l i j = true → f j = vs j) → wpOp P l.toArray Q i (fun a' w'' => a' = tmOf a l (upd f i (vs i)) ∧ Below w'.heap.size w' w'') (tmOf a l f) w')
    (al : ∀ j, j < k → ∀ f w', wpOp P l.toArray Q (n + j) (fun a' w'' => a' = tmOf a l (upd f (n + j) (ptrV w'.heap.size)) ∧ w'' = w'.alloc (.cells Z T)) (tmOf a l f) w')
    (st : ∀ j, j < k → ∀ f w' b, (∀ i, i < n → depB l (n + k + j) i = true → f i = vs i) → f (n + j) = ptrV b → Blk w' b Z T → wpOp P l.toArray Q (n + k + j) (fun a' w'' => a' = tmOf a l f ∧ Blk w'' b (Qs j) T ∧ (∀ B cs, B ≠ b → Blk w' B cs T → Blk w'' B cs T) ∧ ∀ C, C ≤ b → C ≤ w'.heap.size → Below C w' w'') (tmOf a l f) w')
    (done : ∀ f w' (bs : Nat → Nat), Below w.heap.size w w' → (∀ j, j < k → f (n + j) = ptrV (bs j) ∧ w.heap.size ≤ bs j ∧ Blk w' (bs j) (Qs j) T) → (∀ i j, i < k → j < k → i ≠ j → bs i ≠ bs j) → (∀ i, i < n → f i = vs i) → Q .normal (tmOf a l f) w') : (Code.region id l.toArray true).wp P Q a w := by
  have h : (Code.region id l.toArray true).wp P Q (tmOf a l (slotsOf a.tmps (l.map (·.dst)) 0)) w := by
    refine wp_region_inv hm hE (fun L a' w' => ∃ f, a' = tmOf a l f ∧ Below w.heap.size w w' ∧ (∀ i, i < n → L i = true → f i = vs i) ∧
      (∀ j, j < k → L (n + j) = true → ∃ b, f (n + j) = ptrV b ∧ w.heap.size ≤ b ∧ Blk w' b (if L (n + k + j) = true then Qs j else Z) T) ∧
      (∀ i j, i < k → j < k → i ≠ j → L (n + i) = true → L (n + j) = true → f (n + i) ≠ f (n + j)) ∧ (∀ j, j < k → L (n + k + j) = true → L (n + j) = true))
      ⟨_, rfl, (Below.refl _ _).drew, fun _ _ h => (by cases h), fun _ _ h => (by cases h), fun _ _ _ _ _ h => (by cases h), fun _ _ h => (by cases h)⟩ ?_ ?_
    · rintro L i a' w' ⟨f, rfl, hs, hr, h0, h1, c0⟩ hi hL hd
      rw [hlen] at hi
      rcases Nat.lt_or_ge i n with hin | hin
      · refine wpOp_mono (fun a' w'' h => ?_) (step i hin f w' hs (fun j hj hdj => hr j hj (depsB_dep hd hdj)))
        obtain ⟨rfl, hb⟩ := h
        have ne : ∀ m, n ≤ m → (m == i) = false := fun m hm => by simp; omega
        refine ⟨_, rfl, hs.trans (hb.mono hs.size), fun j hj hj2 => ?_, fun j hj hj2 => ?_, fun p q hp hq hpq hp2 hq2 => ?_, fun j hj hj2 => ?_⟩
        · by_cases e : j = i
          · subst e; simp only [upd, if_true]
          · simp only [upd, if_neg e]; exact hr j hj (by simpa [e] using hj2)
        · simp only [ne (n + j) (by omega), Bool.or_false] at hj2
          obtain ⟨b, hf, hb0, hB⟩ := h0 j hj hj2
          simp only [ne (n + k + j) (by omega), Bool.or_false, upd, if_neg (show ¬ n + j = i by omega)]
          exact ⟨b, hf, hb0, hB.kept hb⟩
        · simp only [ne (n + p) (by omega), Bool.or_false] at hp2
          simp only [ne (n + q) (by omega), Bool.or_false] at hq2
          simp only [upd, if_neg (show ¬ n + p = i by omega), if_neg (show ¬ n + q = i by omega)]
          exact h1 p q hp hq hpq hp2 hq2
        · simp only [ne (n + k + j) (by omega), Bool.or_false] at hj2
          simp only [ne (n + j) (by omega), Bool.or_false]
          exact c0 j hj hj2
      · rcases Nat.lt_or_ge i (n + k) with hik | hik
        · obtain ⟨m, rfl⟩ : ∃ m, i = n + m := ⟨i - n, by omega⟩
          have hmk : m < k := by omega
          refine wpOp_mono (fun a' w'' h => ?_) (al m hmk f w')
          obtain ⟨rfl, rfl⟩ := h
          have l2 : L (n + k + m) = false := by
            cases e : L (n + k + m)
            · rfl
            · rw [c0 m hmk e] at hL; cases hL
          refine ⟨_, rfl, hs.alloc hs.size _, fun j hj hj2 => ?_, fun j hj hj2 => ?_, fun p q hp hq hpq hp2 hq2 => ?_, fun j hj hj2 => ?_⟩
          · simp only [upd, if_neg (show ¬ j = n + m by omega)]
            exact hr j hj (by
              have : (j == n + m) = false := by simp; omega
              simpa [this] using hj2)
          · have e2 : (n + k + j == n + m) = false := by simp; omega
            simp only [e2, Bool.or_false]
            by_cases e : j = m
            · subst e
              refine ⟨w'.heap.size, by simp [upd], hs.size, ?_⟩
              simp only [l2, Bool.false_eq_true, if_false]
              exact Blk.new _ _ _
            · have e1 : (n + j == n + m) = false := by simp; omega
              simp only [e1, Bool.or_false] at hj2
              obtain ⟨b, hf, hb0, hB⟩ := h0 j hj hj2
              simp only [upd, if_neg (show ¬ n + j = n + m by omega)]
              exact ⟨b, hf, hb0, hB.alloc _⟩
          · have fresh : ∀ j, j < k → L (n + j) = true → f (n + j) ≠ ptrV w'.heap.size := fun j hj hj2 hx => by
              obtain ⟨b, hf, hb0, hB⟩ := h0 j hj hj2
              have := ptrV_inj (hf.symm.trans hx)
              have := hB.lt
              omega
            by_cases ep : p = m
            · subst ep
              have eq : (n + q == n + p) = false := by simp; omega
              simp only [eq, Bool.or_false] at hq2
              simp only [upd, if_true, if_neg (show ¬ n + q = n + p by omega)]
              exact fun hx => fresh q hq hq2 hx.symm
            · have e1 : (n + p == n + m) = false := by simp; omega
              simp only [e1, Bool.or_false] at hp2
              by_cases eq : q = m
              · subst eq
                simp only [upd, if_true, if_neg (show ¬ n + p = n + q by omega)]
                exact fresh p hp hp2
              · have e2 : (n + q == n + m) = false := by simp; omega
                simp only [e2, Bool.or_false] at hq2
                simp only [upd, if_neg (show ¬ n + p = n + m by omega), if_neg (show ¬ n + q = n + m by omega)]
                exact h1 p q hp hq hpq hp2 hq2
          · have e2 : (n + k + j == n + m) = false := by simp; omega
            simp only [e2, Bool.or_false] at hj2
            show (L (n + j) || n + j == n + m) = true
            rw [c0 j hj hj2]; rfl
        · obtain ⟨m, rfl⟩ : ∃ m, i = n + k + m := ⟨i - n - k, by omega⟩
          have hmk : m < k := by omega
          have ln : L (n + m) = true := depsB_dep hd (dep m hmk)
          obtain ⟨b, hf, hb0, hB⟩ := h0 m hmk ln
          rw [hL] at hB
          simp only [Bool.false_eq_true, if_false] at hB
          refine wpOp_mono (fun a' w'' h => ?_) (st m hmk f w' b (fun j hj hdj => hr j hj (depsB_dep hd hdj)) hf hB)
          obtain ⟨rfl, hQ, hk, hbl⟩ := h
          have hbw := hbl w.heap.size hb0 hs.size
          refine ⟨f, rfl, hs.trans hbw, fun j hj hj2 => ?_, fun j hj hj2 => ?_, fun p q hp hq hpq hp2 hq2 => ?_, fun j hj hj2 => ?_⟩
          · exact hr j hj (by
              have : (j == n + k + m) = false := by simp; omega
              simpa [this] using hj2)
          · have e1 : (n + j == n + k + m) = false := by simp; omega
            simp only [e1, Bool.or_false] at hj2
            by_cases e : j = m
            · subst e
              refine ⟨b, hf, hb0, ?_⟩
              simp only [BEq.rfl, Bool.or_true, if_true]
              exact hQ
            · have e2 : (n + k + j == n + k + m) = false := by simp; omega
              simp only [e2, Bool.or_false]
              obtain ⟨b', hf', hb', hB'⟩ := h0 j hj hj2
              have hbb : b' ≠ b := fun e' => h1 j m hj hmk e hj2 ln (by rw [hf', hf, e'])
              exact ⟨b', hf', hb', hk _ _ hbb hB'⟩
          · have e1 : (n + p == n + k + m) = false := by simp; omega
            have e2 : (n + q == n + k + m) = false := by simp; omega
            simp only [e1, Bool.or_false] at hp2
            simp only [e2, Bool.or_false] at hq2
            exact h1 p q hp hq hpq hp2 hq2
          · have e1 : (n + j == n + k + m) = false := by simp; omega
            simp only [e1, Bool.or_false]
            by_cases e : j = m
            · subst e; exact ln
            · have e2 : (n + k + j == n + k + m) = false := by simp; omega
              simp only [e2, Bool.or_false] at hj2
              exact c0 j hj hj2
    · rintro L a' w' hall ⟨f, rfl, hs, hr, h0, h1, c0⟩
      have hx : ∀ j, ∃ b, j < k → f (n + j) = ptrV b ∧ w.heap.size ≤ b ∧ Blk w' b (Qs j) T := by
        intro j
        by_cases hj : j < k
        · obtain ⟨b, hf, hb0, hB⟩ := h0 j hj (hall (n + j) (by omega))
          rw [hall (n + k + j) (by omega)] at hB
          simp only [if_true] at hB
          exact ⟨b, fun _ => ⟨hf, hb0, hB⟩⟩
        · exact ⟨0, fun h => absurd h hj⟩
      obtain ⟨bs, hbs⟩ := Classical.axiomOfChoice hx
      refine done f w' bs hs hbs (fun i j hi hj hij e => ?_) (fun i hi => hr i hi (hall i (by omega)))
      exact h1 i j hi hj hij (hall (n + i) (by omega)) (hall (n + j) (by omega)) (by rw [(hbs i hi).1, (hbs j hj).1, e])
  rw [tmOf_same] at h
  exact h

end Go.Proofs.Ytopdeakjnloemaa
