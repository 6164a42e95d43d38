/-
  What line must do, whatever the input is; A region that draws, over a long frame: an operation that only reckons, without spelling the frame; A region that draws, over a long frame: operations that only reckon, each told by its number; all that is closed is the kernel's; LineTurns, its walk.
-/
import Derived.Test.YtimkeblcdodfmaaGreatK1
import Derived.Test.YtimkeblcdodfmaaGreatK2
import Derived.Test.YtimkeblcdodfmaaGreatK3
import Derived.Test.YtimkeblcdodfmaaGreatK4
import Derived.Test.YtimkeblcdodfmaaGreatK5
import Derived.Test.YtimkeblcdodfmaaGreatK6
import Derived.Test.YtimkeblcdodfmaaGreatK7
import Derived.Test.YtimkeblcdodfmaaGreatK8
import Derived.Test.YtimkeblcdodfmaaGreatK9
import Derived.Test.YtimkeblcdodfmaaGreatK10
import Derived.Test.YtimkeblcdodfmaaGreatK11
import Derived.Test.YtimkeblcdodfmaaGreatK12
import Derived.Test.YtimkeblcdodfmaaGreatK13
import Derived.Test.YtimkeblcdodfmaaGreatK14
import Derived.Test.YtimkeblcdodfmaaGreatK15
import Derived.Test.YtimkeblcdodfmaaGreatK16
import Derived.Test.YtimkeblcdodfmaaGreatK17
import Derived.Test.YtimkeblcdodfmaaGreatK18
import Derived.Test.YtimkeblcdodfmaaGreatK19
import Derived.Test.YtimkeblcdodfmaaGreatK20
import Derived.Test.YtimkeblcdodfmaaGreatK21
import Derived.Test.YtimkeblcdodfmaaGreatK22
import Derived.Test.YtimkeblcdodfmaaGreatK23
namespace Go.Proofs.YtimkeblcdodfmaaGreat
open Go.RowKit Go.Shelf
attribute [local go_sem] Oper.semAt_some

instance (x : Int) : Decidable (InI64 x) := by unfold InI64; infer_instance
instance (q : V4) : Decidable (InV q) := by unfold InV; infer_instance
theorem planesQ4 (w : World) (q0 q1 q2 q3 : V4) (t : TypeId) : RdV (w.alloc (.cells #[.int .i64 q0.a, .int .i64 q0.b, .int .i64 q0.c, .int .i64 q0.d, .int .i64 q1.a, .int .i64 q1.b, .int .i64 q1.c, .int .i64 q1.d, .int .i64 q2.a, .int .i64 q2.b, .int .i64 q2.c, .int .i64 q2.d, .int .i64 q3.a, .int .i64 q3.b, .int .i64 q3.c, .int .i64 q3.d] t)) (some ⟨w.heap.size, 0, none⟩) [q0, q1, q2, q3] := by
  have hB := Blk.new w #[.int .i64 q0.a, .int .i64 q0.b, .int .i64 q0.c, .int .i64 q0.d, .int .i64 q1.a, .int .i64 q1.b, .int .i64 q1.c, .int .i64 q1.d, .int .i64 q2.a, .int .i64 q2.b, .int .i64 q2.c, .int .i64 q2.d, .int .i64 q3.a, .int .i64 q3.b, .int .i64 q3.c, .int .i64 q3.d] t
  intro i y hi
  match i, hi with
  | 0, hi => cases hi; exact ⟨_, 0, rfl, hB.lt, hB.cell (i := 0) rfl, hB.cell (i := 1) rfl, hB.cell (i := 2) rfl, hB.cell (i := 3) rfl⟩
  | 1, hi => cases hi; exact ⟨_, 0, rfl, hB.lt, hB.cell (i := 4) rfl, hB.cell (i := 5) rfl, hB.cell (i := 6) rfl, hB.cell (i := 7) rfl⟩
  | 2, hi => cases hi; exact ⟨_, 0, rfl, hB.lt, hB.cell (i := 8) rfl, hB.cell (i := 9) rfl, hB.cell (i := 10) rfl, hB.cell (i := 11) rfl⟩
  | 3, hi => cases hi; exact ⟨_, 0, rfl, hB.lt, hB.cell (i := 12) rfl, hB.cell (i := 13) rfl, hB.cell (i := 14) rfl, hB.cell (i := 15) rfl⟩
  | i + 4, hi => simp at hi
theorem aw5_dir (w : World) : Calls Tryz.prog 10 #[.agg #[.int .i64 0, .int .i64 0, .int .i64 1, .int .i64 0], .agg #[.int .i64 1, .int .i64 0, .int .i64 0, .int .i64 0]] w fun e w' => e = .returned (.tuple #[.agg #[.int .i64 0, .int .i64 1, .int .i64 0], .int .i64 0]) ∧ Below w.heap.size w w' := by
  refine (directionApi_any ⟨0, 0, 1, 0⟩ ⟨1, 0, 0, 0⟩ w (by decide) (by decide)).mono ?_
  rintro e w' ⟨rfl, hb⟩
  have h1 : dirP ⟨0, 0, 1, 0⟩ ⟨1, 0, 0, 0⟩ = ⟨0, 1, 0⟩ := by decide +kernel
  have h2 : lineE ⟨0, 0, 1, 0⟩ ⟨1, 0, 0, 0⟩ = 0 := by decide +kernel
  rw [h1, h2]
  exact ⟨rfl, hb⟩
theorem aw5_left (w : World) : Calls Tryz.prog 12 #[.agg #[.int .i64 0, .int .i64 0, .int .i64 1, .int .i64 0], .agg #[.int .i64 1, .int .i64 0, .int .i64 0, .int .i64 0], .agg #[.int .i64 1, .int .i64 0, .int .i64 0, .int .i64 0]] w fun e w' => e = .returned (.tuple #[.int .i64 (-1), .int .i64 0]) ∧ Below w.heap.size w w' := by
  refine (left_any ⟨0, 0, 1, 0⟩ ⟨1, 0, 0, 0⟩ ⟨1, 0, 0, 0⟩ w (by decide) (by decide) (by decide)).mono ?_
  rintro e w' ⟨rfl, hb⟩
  have h1 : leftS ⟨0, 0, 1, 0⟩ ⟨1, 0, 0, 0⟩ ⟨1, 0, 0, 0⟩ = -1 := by decide +kernel
  have h2 : lineE3 ⟨0, 0, 1, 0⟩ ⟨1, 0, 0, 0⟩ ⟨1, 0, 0, 0⟩ = 0 := by decide +kernel
  rw [h1, h2]
  exact ⟨rfl, hb⟩
theorem aw5_cross (w : World) : Calls Tryz.prog 11 #[.agg #[.int .i64 0, .int .i64 0, .int .i64 1, .int .i64 0], .agg #[.int .i64 1, .int .i64 0, .int .i64 0, .int .i64 0], .agg #[.int .i64 0, .int .i64 1, .int .i64 0, .int .i64 (-5)]] w fun e w' => e = .returned (.tuple #[.int .i64 1, .int .i64 0]) ∧ Below w.heap.size w w' := by
  refine (crosses_any ⟨0, 0, 1, 0⟩ ⟨1, 0, 0, 0⟩ ⟨0, 1, 0, -5⟩ w (by decide) (by decide) (by decide)).mono ?_
  rintro e w' ⟨rfl, hb⟩
  have h1 : crossS ⟨0, 0, 1, 0⟩ ⟨1, 0, 0, 0⟩ ⟨0, 1, 0, -5⟩ = 1 := by decide +kernel
  have h2 : lineE3 ⟨0, 0, 1, 0⟩ ⟨1, 0, 0, 0⟩ ⟨0, 1, 0, -5⟩ = 0 := by decide +kernel
  rw [h1, h2]
  exact ⟨rfl, hb⟩
theorem aw5_clock (B : Nat) (w : World) (hr : RdD w (some ⟨B, 0, none⟩) [⟨0, 1, 0⟩, ⟨0, -1, 0⟩]) : Calls Tryz.prog 40 #[.agg #[.int .i64 0, .int .i64 0, .int .i64 1, .int .i64 0], .agg #[.int .i64 1, .int .i64 0, .int .i64 0], .slice (some ⟨B, 0, none⟩) 2 2] w fun e w' => e = .returned (.tuple #[.int .i64 1, .int .i64 0]) ∧ Below w.heap.size w w' := by
  refine (clockwise_any ⟨0, 0, 1, 0⟩ ⟨1, 0, 0⟩ (some ⟨B, 0, none⟩) 2 2 [⟨0, 1, 0⟩, ⟨0, -1, 0⟩] w (by decide) rfl (by decide) hr).mono ?_
  rintro e w' ⟨rfl, hb⟩
  have h1 : clkS ⟨0, 0, 1, 0⟩ ⟨1, 0, 0⟩ [⟨0, 1, 0⟩, ⟨0, -1, 0⟩] = 1 := by decide +kernel
  have h2 : clkE ⟨0, 0, 1, 0⟩ ⟨1, 0, 0⟩ [⟨0, 1, 0⟩, ⟨0, -1, 0⟩] = 0 := by decide +kernel
  rw [h1, h2]
  exact ⟨rfl, hb⟩
theorem aw5_angle (w : World) : Calls Tryz.prog 36 #[.agg #[.int .i64 0, .int .i64 0, .int .i64 1, .int .i64 0], .agg #[.int .i64 1, .int .i64 0, .int .i64 0], .agg #[.int .i64 0, .int .i64 3, .int .i64 0]] w fun e w' => e = .returned (.tuple #[.int .i64 1, .int .i64 0]) ∧ Below w.heap.size w w' := by
  refine (angleApi_any ⟨0, 0, 1, 0⟩ ⟨1, 0, 0⟩ ⟨0, 3, 0⟩ w (by decide)).mono ?_
  rintro e w' ⟨rfl, hb⟩
  have h1 : angS ⟨0, 0, 1, 0⟩ ⟨1, 0, 0⟩ ⟨0, 3, 0⟩ = 1 := by decide +kernel
  have h2 : wayE ⟨0, 0, 1, 0⟩ [⟨1, 0, 0⟩, ⟨0, 3, 0⟩] = 0 := by decide +kernel
  rw [h1, h2]
  exact ⟨rfl, hb⟩
theorem aw5_points (B : Nat) (w : World) (hr : RdV w (some ⟨B, 0, none⟩) [⟨0, 1, 0, -5⟩, ⟨1, 1, 0, 0⟩, ⟨0, 1, 0, -5⟩, ⟨2, 0, 0, 1⟩]) : Calls Tryz.prog 29 #[.agg #[.int .i64 0, .int .i64 0, .int .i64 1, .int .i64 0], .agg #[.int .i64 1, .int .i64 0, .int .i64 0, .int .i64 0], .slice (some ⟨B, 0, none⟩) 4 4] w fun e w' => ∃ p' c', e = .returned (.tuple #[.slice p' 2 c', .int .i64 0]) ∧ RdV w' p' [⟨0, 0, 0, 1⟩, ⟨0, 5, 0, 1⟩] ∧ Below w.heap.size w w' := by
  have h2 : ptsE ⟨0, 0, 1, 0⟩ ⟨1, 0, 0, 0⟩ [⟨0, 1, 0, -5⟩, ⟨1, 1, 0, 0⟩, ⟨0, 1, 0, -5⟩, ⟨2, 0, 0, 1⟩] = 0 := by decide +kernel
  have h1 : meetsL ⟨0, 0, 1, 0⟩ ⟨1, 0, 0, 0⟩ [⟨0, 1, 0, -5⟩, ⟨1, 1, 0, 0⟩, ⟨0, 1, 0, -5⟩, ⟨2, 0, 0, 1⟩] = [⟨0, 5, 0, 1⟩, ⟨0, 0, 0, 1⟩, ⟨0, 5, 0, 1⟩] := by decide +kernel
  have hg := ptsE_good h2
  have hon := meetsL_on hg.1 hg.2.1 hg.2.2.1
  refine (pointsApi_good ⟨0, 0, 1, 0⟩ ⟨1, 0, 0, 0⟩ (some ⟨B, 0, none⟩) 4 4 [⟨0, 1, 0, -5⟩, ⟨1, 1, 0, 0⟩, ⟨0, 1, 0, -5⟩, ⟨2, 0, 0, 1⟩] w (by decide) (by decide) (by decide) rfl (by decide) hr h2).mono ?_
  rintro e w' ⟨⟨p', c', l', rfl, hr', hs⟩, hb⟩
  rw [h1] at hs hon
  have e1 : l' = [⟨0, 0, 0, 1⟩, ⟨0, 5, 0, 1⟩] := by
    refine sortIs_uniq (order_line hg.2.2.2.1) (fun x hx => hon x ((hs.2 x).1 hx)) hs.1 ?_ ?_
    · refine List.Pairwise.cons ?_ (List.pairwise_singleton _ _)
      intro y hy
      rw [List.mem_singleton.1 hy]
      decide +kernel
    · intro x
      rw [hs.2 x]
      simp only [List.mem_cons, List.not_mem_nil, or_false]
      constructor
      · rintro (h | h | h)
        · exact Or.inr h
        · exact Or.inl h
        · exact Or.inr h
      · rintro (h | h)
        · exact Or.inr (Or.inl h)
        · exact Or.inl h
  subst e1
  exact ⟨p', c', rfl, hr', hb⟩

set_option maxRecDepth 100000 in
set_option maxHeartbeats 8000000 in
theorem awake5_any (w : World) : Calls Tryz.prog 20 #[] w fun e w' => e = .returned (.bool true) ∧ Below w.heap.size w w' := by
  have heq := fun W => eqVec ⟨0, 1, 0⟩ ⟨0, 1, 0⟩ W
  simp only [decide_true] at heq
  obtain ⟨wa, hwa⟩ : ∃ w', (w.alloc (.cells #[.int .i64 0, .int .i64 0, .int .i64 0, .int .i64 0] 23)).alloc (.cells #[.int .i64 0, .int .i64 0, .int .i64 0, .int .i64 0] 23) = w' := ⟨_, rfl⟩
  have ka1 : Blk wa w.heap.size #[.int .i64 0, .int .i64 0, .int .i64 0, .int .i64 0] 23 := by rw [← hwa]; exact (Blk.new w _ _).alloc _
  have ka2 : Blk wa (w.heap.size + 1) #[.int .i64 0, .int .i64 0, .int .i64 0, .int .i64 0] 23 := by rw [← hwa]; exact Blk.new' _ _ _ (by simp)
  have hba : Below w.heap.size w wa := by rw [← hwa]; exact bw2 w _ _
  have a0 := ka1.cell (i := 0) rfl
  have a1 := ka1.cell (i := 1) rfl
  have a2 := ka1.cell (i := 2) rfl
  have a3 := ka1.cell (i := 3) rfl
  have af0 := ka1.frozen 0
  have af1 := ka1.frozen 1
  have af2 := ka1.frozen 2
  have af3 := ka1.frozen 3
  obtain ⟨wb, hwb⟩ : ∃ w', ((((wa.setCell ⟨w.heap.size, 0, none⟩ (.int .i64 0)).setCell ⟨w.heap.size, 1, none⟩ (.int .i64 0)).setCell ⟨w.heap.size, 2, none⟩ (.int .i64 1)).setCell ⟨w.heap.size, 3, none⟩ (.int .i64 0)) = w' := ⟨_, rfl⟩
  have hbb : Below w.heap.size w wb := by rw [← hwb]; exact (((hba.setCell (by simp only; omega) _).setCell (by simp only; omega) _).setCell (by simp only; omega) _).setCell (by simp only; omega) _
  have kb1 : Blk wb w.heap.size #[.int .i64 0, .int .i64 0, .int .i64 1, .int .i64 0] 23 := by rw [← hwb]; exact Blk.put4 ka1 _ _ _ _
  have kb2 : Blk wb (w.heap.size + 1) #[.int .i64 0, .int .i64 0, .int .i64 0, .int .i64 0] 23 := by rw [← hwb]; exact (((ka2.other 0 _ (by omega)).other 1 _ (by omega)).other 2 _ (by omega)).other 3 _ (by omega)
  have b0 := kb2.cell (i := 0) rfl
  have b1 := kb2.cell (i := 1) rfl
  have b2 := kb2.cell (i := 2) rfl
  have b3 := kb2.cell (i := 3) rfl
  have bf0 := kb2.frozen 0
  have bf1 := kb2.frozen 1
  have bf2 := kb2.frozen 2
  have bf3 := kb2.frozen 3
  obtain ⟨wc, hwc⟩ : ∃ w', ((((wb.setCell ⟨w.heap.size + 1, 0, none⟩ (.int .i64 1)).setCell ⟨w.heap.size + 1, 1, none⟩ (.int .i64 0)).setCell ⟨w.heap.size + 1, 2, none⟩ (.int .i64 0)).setCell ⟨w.heap.size + 1, 3, none⟩ (.int .i64 0)) = w' := ⟨_, rfl⟩
  have hb : Below w.heap.size w wc := by rw [← hwc]; exact (((hbb.setCell (by simp only; omega) _).setCell (by simp only; omega) _).setCell (by simp only; omega) _).setCell (by simp only; omega) _
  have k1 : Blk wc w.heap.size #[.int .i64 0, .int .i64 0, .int .i64 1, .int .i64 0] 23 := by rw [← hwc]; exact (((kb1.other 0 _ (by omega)).other 1 _ (by omega)).other 2 _ (by omega)).other 3 _ (by omega)
  have k2 : Blk wc (w.heap.size + 1) #[.int .i64 1, .int .i64 0, .int .i64 0, .int .i64 0] 23 := by rw [← hwc]; exact Blk.put4 kb2 _ _ _ _
  have k1_0 := k1.cell (i := 0) rfl
  have k1_1 := k1.cell (i := 1) rfl
  have k1_2 := k1.cell (i := 2) rfl
  have k1_3 := k1.cell (i := 3) rfl
  have k2_0 := k2.cell (i := 0) rfl
  have k2_1 := k2.cell (i := 1) rfl
  have k2_2 := k2.cell (i := 2) rfl
  have k2_3 := k2.cell (i := 3) rfl
  go_enter Tryz.func20, Tryz.ntmps20
  go_wp2_with fail
  refine (aw5_dir _).mono ?_
  rintro e' wc1 ⟨rfl, hc1⟩
  clear k1_0 k1_1 k1_2 k1_3 k2_0 k2_1 k2_2 k2_3
  have k1 := k1.kept hc1
  have k2 := k2.kept hc1
  have hb := hb.trans (hc1.mono hb.size)
  clear hc1
  have k1_0 := k1.cell (i := 0) rfl
  have k1_1 := k1.cell (i := 1) rfl
  have k1_2 := k1.cell (i := 2) rfl
  have k1_3 := k1.cell (i := 3) rfl
  have k2_0 := k2.cell (i := 0) rfl
  have k2_1 := k2.cell (i := 1) rfl
  have k2_2 := k2.cell (i := 2) rfl
  have k2_3 := k2.cell (i := 3) rfl
  clear a0 a1 a2 a3 af0 af1 af2 af3 b0 b1 b2 b3 bf0 bf1 bf2 bf3 ka1 ka2 hba kb1 kb2 hbb hwa hwb hwc
  clear k1_0 k1_1 k1_2 k1_3 k2_0 k2_1 k2_2 k2_3
  obtain ⟨wa2, hwa2⟩ : ∃ w', wc1.alloc (.cells #[.int .i64 0, .int .i64 0, .int .i64 0] 24) = w' := ⟨_, rfl⟩
  have kk2 : Blk wa2 wc1.heap.size #[.int .i64 0, .int .i64 0, .int .i64 0] 24 := by rw [← hwa2]; exact Blk.new _ _ _
  have hk2 : Below wc1.heap.size wc1 wa2 := by rw [← hwa2]; exact (Below.refl _ _).alloc (Nat.le_refl _) _
  obtain ⟨ws2, hws2⟩ : ∃ w', (((wa2.setCell ⟨wc1.heap.size, 0, none⟩ (.int .i64 0)).setCell ⟨wc1.heap.size, 1, none⟩ (.int .i64 1)).setCell ⟨wc1.heap.size, 2, none⟩ (.int .i64 0)) = w' := ⟨_, rfl⟩
  have hj2 : Below wc1.heap.size wc1 ws2 := by rw [← hws2]; exact (((hk2.setCell (by simp only; omega) _).setCell (by simp only; omega) _).setCell (by simp only; omega) _)
  have kd : Blk ws2 wc1.heap.size #[.int .i64 0, .int .i64 1, .int .i64 0] 24 := by rw [← hws2]; exact (((kk2.set_eq 0 _ rfl).set_eq 1 _ rfl).set_eq 2 _ rfl)
  have kc20 := kk2.cell (i := 0) rfl
  have kf20 := kk2.frozen 0
  have kc21 := kk2.cell (i := 1) rfl
  have kf21 := kk2.frozen 1
  have kc22 := kk2.cell (i := 2) rfl
  have kf22 := kk2.frozen 2
  have k1 := k1.kept hj2
  have k2 := k2.kept hj2
  have hb := hb.trans (hj2.mono hb.size)
  clear hj2 hk2
  have k1_0 := k1.cell (i := 0) rfl
  have k1_1 := k1.cell (i := 1) rfl
  have k1_2 := k1.cell (i := 2) rfl
  have k1_3 := k1.cell (i := 3) rfl
  have k2_0 := k2.cell (i := 0) rfl
  have k2_1 := k2.cell (i := 1) rfl
  have k2_2 := k2.cell (i := 2) rfl
  have k2_3 := k2.cell (i := 3) rfl
  have kd_0 := kd.cell (i := 0) rfl
  have kd_1 := kd.cell (i := 1) rfl
  have kd_2 := kd.cell (i := 2) rfl
  go_wp2_with fail
  refine (aw5_left _).mono ?_
  rintro e' wc3 ⟨rfl, hc3⟩
  clear k1_0 k1_1 k1_2 k1_3 k2_0 k2_1 k2_2 k2_3 kd_0 kd_1 kd_2
  have k1 := k1.kept hc3
  have k2 := k2.kept hc3
  have kd := kd.kept hc3
  have hb := hb.trans (hc3.mono hb.size)
  clear hc3
  have k1_0 := k1.cell (i := 0) rfl
  have k1_1 := k1.cell (i := 1) rfl
  have k1_2 := k1.cell (i := 2) rfl
  have k1_3 := k1.cell (i := 3) rfl
  have k2_0 := k2.cell (i := 0) rfl
  have k2_1 := k2.cell (i := 1) rfl
  have k2_2 := k2.cell (i := 2) rfl
  have k2_3 := k2.cell (i := 3) rfl
  have kd_0 := kd.cell (i := 0) rfl
  have kd_1 := kd.cell (i := 1) rfl
  have kd_2 := kd.cell (i := 2) rfl
  go_wp2_with fail
  refine (aw5_cross _).mono ?_
  rintro e' wc4 ⟨rfl, hc4⟩
  clear k1_0 k1_1 k1_2 k1_3 k2_0 k2_1 k2_2 k2_3 kd_0 kd_1 kd_2
  have k1 := k1.kept hc4
  have k2 := k2.kept hc4
  have kd := kd.kept hc4
  have hb := hb.trans (hc4.mono hb.size)
  clear hc4
  have k1_0 := k1.cell (i := 0) rfl
  have k1_1 := k1.cell (i := 1) rfl
  have k1_2 := k1.cell (i := 2) rfl
  have k1_3 := k1.cell (i := 3) rfl
  have k2_0 := k2.cell (i := 0) rfl
  have k2_1 := k2.cell (i := 1) rfl
  have k2_2 := k2.cell (i := 2) rfl
  have k2_3 := k2.cell (i := 3) rfl
  have kd_0 := kd.cell (i := 0) rfl
  have kd_1 := kd.cell (i := 1) rfl
  have kd_2 := kd.cell (i := 2) rfl
  obtain ⟨wl5, hwl5⟩ : ∃ w', wc4.alloc (.cells #[.int .i64 0, .int .i64 1, .int .i64 0, .int .i64 0, .int .i64 (-1), .int .i64 0] 24) = w' := ⟨_, rfl⟩
  have hrc := vecs2 wc4 ⟨0, 1, 0⟩ ⟨0, -1, 0⟩ 24
  rw [hwl5] at hrc
  have hbl5 : Below wc4.heap.size wc4 wl5 := by rw [← hwl5]; exact (Below.refl _ _).alloc (Nat.le_refl _) _
  have HCK := Lib.hid (aw5_clock _ _ hrc)
  clear hrc
  go_wp2_with fail
  refine (HCK.out).mono ?_
  rintro e' wc5 ⟨rfl, hc5⟩
  have hc5 := hbl5.trans (hc5.mono hbl5.size)
  clear hbl5 hwl5 HCK
  clear k1_0 k1_1 k1_2 k1_3 k2_0 k2_1 k2_2 k2_3 kd_0 kd_1 kd_2
  have k1 := k1.kept hc5
  have k2 := k2.kept hc5
  have kd := kd.kept hc5
  have hb := hb.trans (hc5.mono hb.size)
  clear hc5
  have k1_0 := k1.cell (i := 0) rfl
  have k1_1 := k1.cell (i := 1) rfl
  have k1_2 := k1.cell (i := 2) rfl
  have k1_3 := k1.cell (i := 3) rfl
  have k2_0 := k2.cell (i := 0) rfl
  have k2_1 := k2.cell (i := 1) rfl
  have k2_2 := k2.cell (i := 2) rfl
  have k2_3 := k2.cell (i := 3) rfl
  have kd_0 := kd.cell (i := 0) rfl
  have kd_1 := kd.cell (i := 1) rfl
  have kd_2 := kd.cell (i := 2) rfl
  go_wp2_with fail
  refine (aw5_angle _).mono ?_
  rintro e' wc6 ⟨rfl, hc6⟩
  clear k1_0 k1_1 k1_2 k1_3 k2_0 k2_1 k2_2 k2_3 kd_0 kd_1 kd_2
  have k1 := k1.kept hc6
  have k2 := k2.kept hc6
  have kd := kd.kept hc6
  have hb := hb.trans (hc6.mono hb.size)
  clear hc6
  have k1_0 := k1.cell (i := 0) rfl
  have k1_1 := k1.cell (i := 1) rfl
  have k1_2 := k1.cell (i := 2) rfl
  have k1_3 := k1.cell (i := 3) rfl
  have k2_0 := k2.cell (i := 0) rfl
  have k2_1 := k2.cell (i := 1) rfl
  have k2_2 := k2.cell (i := 2) rfl
  have k2_3 := k2.cell (i := 3) rfl
  have kd_0 := kd.cell (i := 0) rfl
  have kd_1 := kd.cell (i := 1) rfl
  have kd_2 := kd.cell (i := 2) rfl
  obtain ⟨wl7, hwl7⟩ : ∃ w', wc6.alloc (.cells #[.int .i64 0, .int .i64 1, .int .i64 0, .int .i64 (-5), .int .i64 1, .int .i64 1, .int .i64 0, .int .i64 0, .int .i64 0, .int .i64 1, .int .i64 0, .int .i64 (-5), .int .i64 2, .int .i64 0, .int .i64 0, .int .i64 1] 23) = w' := ⟨_, rfl⟩
  have hrp := planesQ4 wc6 ⟨0, 1, 0, -5⟩ ⟨1, 1, 0, 0⟩ ⟨0, 1, 0, -5⟩ ⟨2, 0, 0, 1⟩ 23
  rw [hwl7] at hrp
  have hbl7 : Below wc6.heap.size wc6 wl7 := by rw [← hwl7]; exact (Below.refl _ _).alloc (Nat.le_refl _) _
  have HPT := Lib.hid (aw5_points _ _ hrp)
  clear hrp
  go_wp2_with fail
  refine (HPT.out).mono ?_
  rintro e' wc7 ⟨p', c', rfl, hrd, hc7⟩
  have hc7 := hbl7.trans (hc7.mono hbl7.size)
  clear hbl7 hwl7 HPT
  clear k1_0 k1_1 k1_2 k1_3 k2_0 k2_1 k2_2 k2_3 kd_0 kd_1 kd_2
  have k1 := k1.kept hc7
  have k2 := k2.kept hc7
  have kd := kd.kept hc7
  have hb := hb.trans (hc7.mono hb.size)
  clear hc7
  have k1_0 := k1.cell (i := 0) rfl
  have k1_1 := k1.cell (i := 1) rfl
  have k1_2 := k1.cell (i := 2) rfl
  have k1_3 := k1.cell (i := 3) rfl
  have k2_0 := k2.cell (i := 0) rfl
  have k2_1 := k2.cell (i := 1) rfl
  have k2_2 := k2.cell (i := 2) rfl
  have k2_3 := k2.cell (i := 3) rfl
  have kd_0 := kd.cell (i := 0) rfl
  have kd_1 := kd.cell (i := 1) rfl
  have kd_2 := kd.cell (i := 2) rfl
  obtain ⟨wl8, hwl8⟩ : ∃ w', wc7.alloc (.cells #[.int .i64 0, .int .i64 0, .int .i64 0, .int .i64 1, .int .i64 0, .int .i64 5, .int .i64 0, .int .i64 1] 41) = w' := ⟨_, rfl⟩
  have hrq := planesQ2 wc7 ⟨0, 0, 0, 1⟩ ⟨0, 5, 0, 1⟩ 41
  rw [hwl8] at hrq
  have hbl8 : Below wc7.heap.size wc7 wl8 := by rw [← hwl8]; exact (Below.refl _ _).alloc (Nat.le_refl _) _
  have hpe := points5_any p' (some ⟨wc7.heap.size, 0, none⟩) 2 2 c' 2 [⟨0, 0, 0, 1⟩, ⟨0, 5, 0, 1⟩] [⟨0, 0, 0, 1⟩, ⟨0, 5, 0, 1⟩] wl8 rfl rfl (by decide) (by decide) (hrd.below hbl8) hrq
  rw [decide_eq_true rfl] at hpe
  have HPE := Lib.hid hpe
  clear hpe hrq hrd
  go_wp2_with fail
  refine (HPE.out).mono ?_
  rintro e' wc8 ⟨rfl, hc8⟩
  have hc8 := hbl8.trans (hc8.mono hbl8.size)
  clear hbl8 hwl8 HPE
  clear k1_0 k1_1 k1_2 k1_3 k2_0 k2_1 k2_2 k2_3 kd_0 kd_1 kd_2
  have k1 := k1.kept hc8
  have k2 := k2.kept hc8
  have kd := kd.kept hc8
  have hb := hb.trans (hc8.mono hb.size)
  clear hc8
  have k1_0 := k1.cell (i := 0) rfl
  have k1_1 := k1.cell (i := 1) rfl
  have k1_2 := k1.cell (i := 2) rfl
  have k1_3 := k1.cell (i := 3) rfl
  have k2_0 := k2.cell (i := 0) rfl
  have k2_1 := k2.cell (i := 1) rfl
  have k2_2 := k2.cell (i := 2) rfl
  have k2_3 := k2.cell (i := 3) rfl
  have kd_0 := kd.cell (i := 0) rfl
  have kd_1 := kd.cell (i := 1) rfl
  have kd_2 := kd.cell (i := 2) rfl
  go_wp2_with fail
  go_ret
  exact ⟨rfl, hb⟩

end Go.Proofs.YtimkeblcdodfmaaGreat

namespace Go.Proofs.YtimkeblcdodfmaaGreat
open Go.RowKit
variable {P : Program} {Q : Exit → Act → World → Prop}

theorem putAll_set_out (ds : List (Option Nat)) : ∀ (t : Array Value) (k d : Nat) (f : Nat → Value) (v : Value), (∀ x ∈ ds, x ≠ some d) → putAll (t.setIfInBounds d v) ds k f = (putAll t ds k f).setIfInBounds d v := by
  induction ds with
  | nil => intro t k d f v _; rfl
  | cons x r ih =>
    intro t k d f v h
    have hr : ∀ y ∈ r, y ≠ some d := fun y hy => h y (List.mem_cons_of_mem _ hy)
    cases x with
    | none => exact ih t (k + 1) d f v hr
    | some e =>
      have hne : e ≠ d := fun he => h (some e) (by simp) (by rw [he])
      unfold putAll
      rw [Array.setIfInBounds_comm _ _ (Ne.symm hne)]
      exact ih (t.setIfInBounds e (f k)) (k + 1) d f v hr
theorem putAll_congr (ds : List (Option Nat)) : ∀ (t : Array Value) (k : Nat) (f g : Nat → Value), (∀ j, k ≤ j → f j = g j) → putAll t ds k f = putAll t ds k g := by
  induction ds with
  | nil => intro t k f g _; rfl
  | cons x r ih =>
    intro t k f g h
    cases x with
    | none => exact ih t (k + 1) f g (fun j hj => h j (by omega))
    | some e =>
      unfold putAll
      rw [h k (Nat.le_refl _)]
      exact ih _ (k + 1) f g (fun j hj => h j (by omega))
theorem putAll_upd (ds : List (Option Nat)) : ∀ (t : Array Value) (k i d : Nat) (f : Nat → Value) (v : Value), ds[i]? = some (some d) → (∀ j, j ≠ i → ds[j]? ≠ some (some d)) → (putAll t ds k f).setIfInBounds d v = putAll t ds k (upd f (k + i) v) := by
  induction ds with
  | nil => intro t k i d f v h _; simp at h
  | cons x r ih =>
    intro t k i d f v h hn
    cases i with
    | zero =>
      simp only [List.getElem?_cons_zero, Option.some.injEq] at h
      subst h
      have hr : ∀ y ∈ r, y ≠ some d := fun y hy he => by
        obtain ⟨j, hj, e⟩ := List.getElem_of_mem hy
        exact hn (j + 1) (by omega) (by rw [List.getElem?_cons_succ, List.getElem?_eq_getElem hj, e, he])
      unfold putAll
      rw [← putAll_set_out r _ (k + 1) d f v hr, Array.setIfInBounds_setIfInBounds]
      simp only [Nat.add_zero]
      have e0 : upd f k v k = v := by unfold upd; rw [if_pos rfl]
      rw [e0]
      exact putAll_congr r _ (k + 1) f _ (fun j hj => by unfold upd; rw [if_neg (by omega)])
    | succ i =>
      simp only [List.getElem?_cons_succ] at h
      have hn' : ∀ j, j ≠ i → r[j]? ≠ some (some d) := fun j hj => by
        have := hn (j + 1) (by omega)
        rwa [List.getElem?_cons_succ] at this
      have e : k + (i + 1) = (k + 1) + i := by omega
      cases x with
      | none => unfold putAll; rw [e]; exact ih t (k + 1) i d f v h hn'
      | some c =>
        unfold putAll
        have e0 : upd f (k + (i + 1)) v k = f k := by unfold upd; rw [if_neg (by omega)]
        rw [e0, e]
        exact ih _ (k + 1) i d f v h hn'
/-- Slot d is written by operation i alone. -/
def onceB (l : List Oper) (i d : Nat) : Bool := (l.map (·.dst))[i]? == some (some d) && (List.range l.length).all fun j => j == i || !((l.map (·.dst))[j]? == some (some d))
theorem tmOf_put {a : Act} {l : List Oper} {f : Nat → Value} {i d : Nat} {v : Value} (h : onceB l i d = true) : (tmOf a l f).put (some d) v = tmOf a l (upd f i v) := by
  unfold onceB at h
  rw [Bool.and_eq_true] at h
  have h1 : (l.map (·.dst))[i]? = some (some d) := by simpa using h.1
  have h2 : ∀ j, j ≠ i → (l.map (·.dst))[j]? ≠ some (some d) := fun j hj he => by
    have hlt : j < l.length := by
      have := (List.getElem?_eq_some_iff.1 he).1
      simpa using this
    have := List.all_eq_true.1 h.2 j (List.mem_range.2 hlt)
    simp [hj, he] at this
  have := putAll_upd (l.map (·.dst)) a.tmps 0 i d f v h1 h2
  rw [Nat.zero_add] at this
  unfold tmOf Act.put
  exact congrArg (fun t => ({ a with tmps := t } : Act)) this
/-- An operation that reckons: its operands' values first. -/
theorem fast {a : Act} {l : List Oper} {f : Nat → Value} {w : World} {i d : Nat} {o : Oper} {v : Value} (ho : l.toArray[i]? = some o) (hw : Region.wanted o (yielded l.toArray (tmOf a l f).tmps) = true) (hd : o.dst = some d) (h1 : onceB l i d = true)
    (hr : (execOp (tmOf a l f).eval o).run P w = .ok (.value v) w) : wpOp P l.toArray Q i (fun a' w'' => a' = tmOf a l (upd f i v) ∧ Below w.heap.size w w'') (tmOf a l f) w := by
  unfold wpOp
  rw [ho]
  simp only [hw, if_true]
  refine .inl ?_
  unfold Oper.wp
  rw [hr, Oper.upon_value, hd, tmOf_put h1]
  exact ⟨rfl, Below.refl _ _⟩
theorem eval_const (a : Act) (c : Value) : a.eval (.const c) = c := rfl
end Go.Proofs.YtimkeblcdodfmaaGreat

namespace Go.Proofs.YtimkeblcdodfmaaGreat
open Go.RowKit
variable {P : Program} {Q : Exit → Act → World → Prop}

/-- Operation i, or one that does nothing. -/
def opAt (l : List Oper) (i : Nat) : Oper := (l[i]?).getD { dst := none, op := .move (.const undef), type := 0, pos := "", after := #[], guard := none }
theorem opAt_eq {l : List Oper} {i : Nat} (h : i < l.length) : l.toArray[i]? = some (opAt l i) := by
  unfold opAt
  rw [List.getElem?_toArray, List.getElem?_eq_getElem h]; rfl
/-- It has no guard. -/
theorem wantedN {o : Oper} {y : Nat → Option Bool} (h : o.guard = none) : Region.wanted o y = true := by
  unfold Region.wanted; rw [h]
/-- Its guard lets it be done. -/
theorem wantedG {a : Act} {l : List Oper} {f : Nat → Value} {o : Oper} (j dj : Nat) {b : Bool} (hj : j < l.length) (hg : o.guard = some (j, b)) (hdj : (opAt l j).dst = some dj) (ht : (tmOf a l f).tmps[dj]? = some (.bool b)) : Region.wanted o (yielded l.toArray (tmOf a l f).tmps) = true :=
  wanted_of hg (opAt_eq hj) hdj ht
/-- The operation alone. -/
def bare (op : Op) : Oper := { dst := none, op := op, type := 0, pos := "", after := #[], guard := none }
theorem fastO {a : Act} {l : List Oper} {f : Nat → Value} {w : World} {i : Nat} {v : Value} (op : Op) (d : Nat) (hi : i < l.length) (hop : (opAt l i).op = op) (hd : (opAt l i).dst = some d) (h1 : onceB l i d = true)
    (hw : Region.wanted (opAt l i) (yielded l.toArray (tmOf a l f).tmps) = true) (hex : ∀ (ρ : Operand → Value) (o : Oper), o.op = op → execOp ρ o = execOp ρ (bare op))
    (hr : (execOp (tmOf a l f).eval (bare op)).run P w = .ok (.value v) w) : wpOp P l.toArray Q i (fun a' w'' => a' = tmOf a l (upd f i v) ∧ Below w.heap.size w w'') (tmOf a l f) w :=
  fast (opAt_eq hi) hw hd h1 (by rw [hex _ _ hop]; exact hr)
theorem ex_move {x : Operand} (ρ : Operand → Value) (o : Oper) (h : o.op = .move x) : execOp ρ o = execOp ρ (bare (.move x)) := by unfold execOp bare; rw [h]
theorem ex_pick {x y z : Operand} (ρ : Operand → Value) (o : Oper) (h : o.op = .pick x y z) : execOp ρ o = execOp ρ (bare (.pick x y z)) := by unfold execOp bare; rw [h]
theorem ex_binOp {b : BinOp} {t u : TypeId} {x y : Operand} (ρ : Operand → Value) (o : Oper) (h : o.op = .binOp b t x y u) : execOp ρ o = execOp ρ (bare (.binOp b t x y u)) := by unfold execOp bare; rw [h]
theorem ex_load {t : TypeId} {x : Operand} (ρ : Operand → Value) (o : Oper) (h : o.op = .load t x) : execOp ρ o = execOp ρ (bare (.load t x)) := by unfold execOp bare; rw [h]
theorem run1 {E : Operand → Value} {op : Op} {v : Value} {w : World} (x : Operand) (u : Value) (hc : ∀ c, E (.const c) = c) (hx : E x = u) (hr : ∀ ρ : Operand → Value, (∀ c, ρ (.const c) = c) → ρ x = u → (execOp ρ (bare op)).run P w = .ok (.value v) w) : (execOp E (bare op)).run P w = .ok (.value v) w := hr E hc hx
theorem run2 {E : Operand → Value} {op : Op} {v : Value} {w : World} (x y : Operand) (u s : Value) (hc : ∀ c, E (.const c) = c) (hx : E x = u) (hy : E y = s) (hr : ∀ ρ : Operand → Value, (∀ c, ρ (.const c) = c) → ρ x = u → ρ y = s → (execOp ρ (bare op)).run P w = .ok (.value v) w) : (execOp E (bare op)).run P w = .ok (.value v) w := hr E hc hx hy
/-- A call of a Go function. -/
theorem fastC {a : Act} {l : List Oper} {f : Nat → Value} {w : World} {i : Nat} {v : Value} (op : Op) (d fid : Nat) (args : Array Value) (hi : i < l.length) (hop : (opAt l i).op = op) (hd : (opAt l i).dst = some d) (h1 : onceB l i d = true)
    (hw : Region.wanted (opAt l i) (yielded l.toArray (tmOf a l f).tmps) = true) (hr : ∀ o : Oper, o.op = op → (execOp (tmOf a l f).eval o).run P w = .ok (.enter fid args) w)
    (hc : Calls P fid args w fun e w' => e = .returned v ∧ Below w.heap.size w w') : wpOp P l.toArray Q i (fun a' w'' => a' = tmOf a l (upd f i v) ∧ Below w.heap.size w w'') (tmOf a l f) w := by
  unfold wpOp
  rw [opAt_eq hi]
  simp only [hw, if_true]
  refine .inl ?_
  unfold Oper.wp
  rw [hr _ hop, Oper.upon_enter]
  refine hc.mono ?_
  rintro e w' ⟨rfl, hb⟩
  exact ⟨by rw [hd, tmOf_put h1], hb⟩
theorem eval_func (a : Act) (n : Nat) : a.eval (.func n) = .func (.func n) #[] #[] := rfl
theorem runC1 {E : Operand → Value} {op : Op} {fid : Nat} {args : Array Value} {w : World} (hF : ∀ n, E (.func n) = .func (.func n) #[] #[]) (hC : ∀ c, E (.const c) = c) (x : Operand) (u : Value) (hx : E x = u) (hr : ∀ (ρ : Operand → Value) (o : Oper), (∀ n, ρ (.func n) = .func (.func n) #[] #[]) → (∀ c, ρ (.const c) = c) → o.op = op → ρ x = u → (execOp ρ o).run P w = .ok (.enter fid args) w) : ∀ o : Oper, o.op = op → (execOp E o).run P w = .ok (.enter fid args) w := fun o ho => hr E o hF hC ho hx
theorem runC2 {E : Operand → Value} {op : Op} {fid : Nat} {args : Array Value} {w : World} (hF : ∀ n, E (.func n) = .func (.func n) #[] #[]) (hC : ∀ c, E (.const c) = c) (x y : Operand) (u s : Value) (hx : E x = u) (hy : E y = s) (hr : ∀ (ρ : Operand → Value) (o : Oper), (∀ n, ρ (.func n) = .func (.func n) #[] #[]) → (∀ c, ρ (.const c) = c) → o.op = op → ρ x = u → ρ y = s → (execOp ρ o).run P w = .ok (.enter fid args) w) : ∀ o : Oper, o.op = op → (execOp E o).run P w = .ok (.enter fid args) w := fun o ho => hr E o hF hC ho hx hy
theorem runC3 {E : Operand → Value} {op : Op} {fid : Nat} {args : Array Value} {w : World} (hF : ∀ n, E (.func n) = .func (.func n) #[] #[]) (hC : ∀ c, E (.const c) = c) (x y z : Operand) (u s t : Value) (hx : E x = u) (hy : E y = s) (hz : E z = t) (hr : ∀ (ρ : Operand → Value) (o : Oper), (∀ n, ρ (.func n) = .func (.func n) #[] #[]) → (∀ c, ρ (.const c) = c) → o.op = op → ρ x = u → ρ y = s → ρ z = t → (execOp ρ o).run P w = .ok (.enter fid args) w) : ∀ o : Oper, o.op = op → (execOp E o).run P w = .ok (.enter fid args) w := fun o ho => hr E o hF hC ho hx hy hz

end Go.Proofs.YtimkeblcdodfmaaGreat

namespace Go.Proofs.YtimkeblcdodfmaaGreat
open Go.RowKit Go.Shelf
attribute [local go_sem] Oper.semAt_some

theorem gcd_b {a b : Int} (ha : InI64 a) (hb : InI64 b) : ∀ W, Calls Tryz.prog 43 #[.int .i64 a, .int .i64 b] W fun e w' => e = .returned (.int .i64 ((Int.gcd (sizeZ a) (sizeZ b) : Nat) : Int)) ∧ Below W.heap.size W w' := fun W =>
  (gcd3_any a b W ha hb).mono fun e w' h => ⟨h.1, by obtain ⟨k, hk⟩ := h.2; rw [hk]; exact below_drewN (Below.refl _ _) _⟩
theorem size_small {a : Int} (h : a.natAbs ≤ 2000000) : sizeZ a = (a.natAbs : Int) := by unfold sizeZ; rw [if_neg (by omega)]
attribute [local irreducible] wpOp
end Go.Proofs.YtimkeblcdodfmaaGreat
