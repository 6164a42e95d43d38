/-
  The reference of planes: planes moved; The laws of planes: a few plain answers; PlaneShifts, its walk.
-/
import Derived.Deep.CutBlock
import Derived.Test.YtopdeakjnloemaaK1
import Derived.Test.YtopdeakjnloemaaK2
import Derived.Test.YtopdeakjnloemaaK3
import Derived.Test.YtopdeakjnloemaaK4
import Derived.Test.YtopdeakjnloemaaK5
import Derived.Test.YtopdeakjnloemaaK6
import Derived.Test.YtopdeakjnloemaaK7
import Derived.Test.YtopdeakjnloemaaK8
import Derived.Test.YtopdeakjnloemaaK9
import Derived.Test.YtopdeakjnloemaaK10
import Derived.Test.YtopdeakjnloemaaK11
import Derived.Test.YtopdeakjnloemaaK12
import Derived.Test.YtopdeakjnloemaaK13
import Derived.Test.YtopdeakjnloemaaK14
import Derived.Test.YtopdeakjnloemaaK15
import Derived.Test.YtopdeakjnloemaaK16
import Derived.Test.YtopdeakjnloemaaK17
namespace Go.Proofs.Ytopdeakjnloemaa
open Go.RowKit Go.Shelf
attribute [local go_sem] Oper.semAt_some

set_option maxRecDepth 100000 in
set_option maxHeartbeats 8000000 in
theorem rshift_any (p : V4) (x y z : Int) (w : World) (hp : RightQ p) (hv : far3 x y z) :
    Calls Try.prog 39 #[.agg #[.int .i64 p.a, .int .i64 p.b, .int .i64 p.c, .int .i64 p.d], .agg #[.int .i64 x, .int .i64 y, .int .i64 z]] w fun e w' => e = .returned (.tuple #[.agg #[.int .i64 p.a, .int .i64 p.b, .int .i64 p.c, .int .i64 (shD p x y z)], .bool (decide (shOk p x y z))]) ∧ Below w.heap.size w w' := by
  obtain ⟨_, s0, s1, s2, s3, _⟩ := hp
  obtain ⟨v0, v1, v2⟩ := hv
  have m0 := mul_le_nat s0 v0
  have m1 := mul_le_nat s1 v1
  have m2 := mul_le_nat s2 v2
  have hnm := fun W => normal3_any p.a p.b p.c p.d W
  have hdt := fun W => dot3_any p.a p.b p.c x y z W (by omega) (by omega) (by omega) v0 v1 v2
  have hD : shD p x y z = p.d - (p.a * x + p.b * y + p.c * z) := by unfold shD; omega
  have hDb : (p.a * x + p.b * y + p.c * z).natAbs ≤ 3000000000 := by omega
  obtain ⟨D, hDe⟩ : ∃ D, p.a * x + p.b * y + p.c * z = D := ⟨_, rfl⟩
  rw [hDe] at hdt hD hDb
  have hrt := fun W => right3_any p.a p.b p.c (shD p x y z) W (by unfold InI64; omega) (by unfold InI64; omega) (by unfold InI64; omega) (by rw [hD]; unfold InI64; omega)
  rw [show decide (RightP p.a p.b p.c (shD p x y z)) = decide (shOk p x y z) from decide_eq_decide.2 Iff.rfl] at hrt
  obtain ⟨t, ht⟩ : ∃ t, decide (shOk p x y z) = t := ⟨_, rfl⟩
  rw [ht] at hrt ⊢
  obtain ⟨d, hd⟩ : ∃ d, shD p x y z = d := ⟨_, rfl⟩
  rw [hd] at hrt hD ⊢
  have e1 : wrap64 (p.d - D) = d := by rw [hD]; unfold wrap64; omega
  have e2 : p.d - D = d := hD.symm
  have e3 : wrap64 d = d := by rw [hD]; unfold wrap64; omega
  have HNM := Lib.hid hnm
  have HDT := Lib.hid hdt
  have HRT := Lib.hid hrt
  clear hnm hdt hrt hD hDb hDe hd ht m0 m1 m2 s0 s1 s2 s3 v0 v1 v2
  obtain ⟨w1, hw1⟩ : ∃ w1, (((w.alloc (.cells #[.int .i64 p.a, .int .i64 p.b, .int .i64 p.c, .int .i64 p.d] 23)).alloc (.cells #[.int .i64 x, .int .i64 y, .int .i64 z] 53)).alloc (.cells #[.int .i64 0, .int .i64 0, .int .i64 0, .int .i64 0] 23)) = w1 := ⟨_, rfl⟩
  have hb1 : Below w.heap.size w w1 := by rw [← hw1]; exact bw3 w _ _ _
  have k0 : Blk w1 (w.heap.size) #[.int .i64 p.a, .int .i64 p.b, .int .i64 p.c, .int .i64 p.d] 23 := by rw [← hw1]; exact ((Blk.new w _ _).alloc _).alloc _
  have k1 : Blk w1 (w.heap.size + 1) #[.int .i64 x, .int .i64 y, .int .i64 z] 53 := by rw [← hw1]; exact (Blk.new' _ _ _ (by simp)).alloc _
  have kR : Blk w1 (w.heap.size + 1 + 1) #[.int .i64 0, .int .i64 0, .int .i64 0, .int .i64 0] 23 := by rw [← hw1]; exact Blk.new' _ _ _ (by simp)
  go_enter Try.func39, Try.ntmps39
  go_upto_region 1 with fail
  go_cut [] from 6 to 13 (fun wx => Blk wx w.heap.size #[.int .i64 p.a, .int .i64 p.b, .int .i64 p.c, .int .i64 d] 23 ∧ Blk wx (w.heap.size + 1 + 1) #[.int .i64 0, .int .i64 0, .int .i64 0, .int .i64 0] 23 ∧ Below w.heap.size w wx)
  case first =>
    refine wp_region_pure 8 (fun ix => match ix with | 0 => .pointer (some ⟨w.heap.size, 3, none⟩) | 1 => .int .i64 p.d | 2 => .agg #[.int .i64 p.a, .int .i64 p.b, .int .i64 p.c, .int .i64 p.d] | 3 => .agg #[.int .i64 p.a, .int .i64 p.b, .int .i64 p.c] | 4 => .agg #[.int .i64 x, .int .i64 y, .int .i64 z] | 5 => .int .i64 D | 6 => .int .i64 d | _ => .pointer (some ⟨w.heap.size, 3, none⟩)) (by kernel_rfl) (by kernel_rfl) (by kernel_rfl) ?_ ?_ ?_
    · decide
    · rintro ix hx f ww hS hd
      have ka := k0.kept hS
      have kb := k1.kept hS
      have a0_ := ka.cell (i := 0) rfl
      have a1_ := ka.cell (i := 1) rfl
      have a2_ := ka.cell (i := 2) rfl
      have a3_ := ka.cell (i := 3) rfl
      have b0_ := kb.cell (i := 0) rfl
      have b1_ := kb.cell (i := 1) rfl
      have b2_ := kb.cell (i := 2) rfl
      rcases ix with _ | _ | _ | _ | _ | _ | _ | _ | ix
      · refine wpOp_list rfl ?_
        simp only [tmOf, putAll, List.map_cons, List.map_nil, List.setIfInBounds_toArray, List.set_cons_zero, List.set_cons_succ]
        go_wp2
        simp [upd, Below.refl]
      · have g0 : f 0 = .pointer (some ⟨w.heap.size, 3, none⟩) := hd 0 (by kernel_rfl)
        refine wpOp_list rfl ?_
        simp only [tmOf, putAll, List.map_cons, List.map_nil, List.setIfInBounds_toArray, List.set_cons_zero, List.set_cons_succ]
        go_wp2
        simp [upd, g0, Below.refl]
      · refine wpOp_list rfl ?_
        simp only [tmOf, putAll, List.map_cons, List.map_nil, List.setIfInBounds_toArray, List.set_cons_zero, List.set_cons_succ]
        go_wp2
        simp [upd, Below.refl]
      · have g2 : f 2 = .agg #[.int .i64 p.a, .int .i64 p.b, .int .i64 p.c, .int .i64 p.d] := hd 2 (by kernel_rfl)
        refine wpOp_list rfl ?_
        simp only [tmOf, putAll, List.map_cons, List.map_nil, List.setIfInBounds_toArray, List.set_cons_zero, List.set_cons_succ]
        go_wp2_with fail
        refine (HNM.out _).mono ?_
        rintro e' wf ⟨rfl, hbf⟩
        go_wp2_with fail
        simp [upd, g2, hbf]
      · refine wpOp_list rfl ?_
        simp only [tmOf, putAll, List.map_cons, List.map_nil, List.setIfInBounds_toArray, List.set_cons_zero, List.set_cons_succ]
        go_wp2
        simp [upd, Below.refl]
      · have g3 : f 3 = .agg #[.int .i64 p.a, .int .i64 p.b, .int .i64 p.c] := hd 3 (by kernel_rfl)
        have g4 : f 4 = .agg #[.int .i64 x, .int .i64 y, .int .i64 z] := hd 4 (by kernel_rfl)
        refine wpOp_list rfl ?_
        simp only [tmOf, putAll, List.map_cons, List.map_nil, List.setIfInBounds_toArray, List.set_cons_zero, List.set_cons_succ]
        go_wp2_with fail
        refine (HDT.out _).mono ?_
        rintro e' wf ⟨rfl, hbf⟩
        go_wp2_with fail
        simp [upd, g3, g4, hbf]
      · have g1 : f 1 = .int .i64 p.d := hd 1 (by kernel_rfl)
        have g5 : f 5 = .int .i64 D := hd 5 (by kernel_rfl)
        refine wpOp_list rfl ?_
        simp only [tmOf, putAll, List.map_cons, List.map_nil, List.setIfInBounds_toArray, List.set_cons_zero, List.set_cons_succ]
        go_wp2
        simp [upd, g1, g5, Below.refl]
      · refine wpOp_list rfl ?_
        simp only [tmOf, putAll, List.map_cons, List.map_nil, List.setIfInBounds_toArray, List.set_cons_zero, List.set_cons_succ]
        go_wp2
        simp [upd, Below.refl]
      · omega
    · rintro f ww hS hd
      have ka := k0.kept hS
      have kb := kR.kept hS
      have a3 := ka.cell (i := 3) rfl
      have q3 := ka.frozen 3
      have g6 : f 6 = .int .i64 d := hd 6 (by decide)
      have g7 : f 7 = .pointer (some ⟨w.heap.size, 3, none⟩) := hd 7 (by decide)
      simp only [seqW, tmOf, putAll, List.map_cons, List.map_nil, List.setIfInBounds_toArray, List.set_cons_zero, List.set_cons_succ, List.length_cons, List.length_nil]
      refine wpOp_list rfl ?_
      go_wp2
      have L0 := ka.set_eq 3 (.int .i64 d) rfl
      have L1 := kb.other (C := w.heap.size) 3 (.int .i64 d) (by omega)
      have hbX := (hb1.trans (hS.mono hb1.size)).setCell (p := ⟨w.heap.size, 3, none⟩) (by simp only; omega) (.int .i64 d)
      go_meet
      case rel => exact ⟨L0, L1, hbX⟩
  case rest =>
  clear k0 k1 kR hb1 hw1
  obtain ⟨k0, kR, hb1⟩ := hcut
  go_upto_region 2 with fail
  go_cut [5] from 14 to 16 (fun v5 wx => v5 = .bool t ∧ Blk wx (w.heap.size + 1 + 1) #[.int .i64 p.a, .int .i64 p.b, .int .i64 p.c, .int .i64 d] 23 ∧ Below w.heap.size w wx)
  case first =>
    refine wp_region_keepP (fun ix => ix != 3) (fun ix => match ix with | 0 => .agg #[.int .i64 p.a, .int .i64 p.b, .int .i64 p.c, .int .i64 d] | 1 => .agg #[.int .i64 p.a, .int .i64 p.b, .int .i64 p.c, .int .i64 d] | 2 => .bool t | _ => .bool t) (fun _ => (w.heap.size + 1 + 1, #[.int .i64 p.a, .int .i64 p.b, .int .i64 p.c, .int .i64 d])) 23 (fun ww => Blk ww w.heap.size #[.int .i64 p.a, .int .i64 p.b, .int .i64 p.c, .int .i64 d] 23 ∧ (∃ y0 y1 y2 y3 : Int, Blk ww (w.heap.size + 1 + 1) #[.int .i64 y0, .int .i64 y1, .int .i64 y2, .int .i64 y3] 23) ∧ Below w.heap.size w ww) (by kernel_rfl) (by kernel_rfl) ?_ ?_ ?_ ?_ ?_ ?_
    · exact ⟨k0, ⟨_, _, _, _, kR⟩, hb1.drew⟩
    · rintro w8 w9 ⟨kb, ⟨y0, y1, y2, y3, kc⟩, hbw⟩ hb9
      exact ⟨kb.kept hb9, ⟨y0, y1, y2, y3, kc.kept hb9⟩, hbw.trans (hb9.mono hbw.size)⟩
    · intro i j hi hj hpi hpj hne
      simp at hpi hpj
      omega
    · rintro ix hx hin f ww ⟨kb, _, hbw⟩ hd
      have m0 := kb.cell (i := 0) rfl
      have m1 := kb.cell (i := 1) rfl
      have m2 := kb.cell (i := 2) rfl
      have m3 := kb.cell (i := 3) rfl
      rcases ix with _ | _ | _ | _ | _ | ix
      · refine wpOp_list rfl ?_
        simp only [tmOf, putAll, List.map_cons, List.map_nil, List.setIfInBounds_toArray, List.set_cons_zero, List.set_cons_succ]
        go_wp2
        simp [upd, Below.refl]
      · refine wpOp_list rfl ?_
        simp only [tmOf, putAll, List.map_cons, List.map_nil, List.setIfInBounds_toArray, List.set_cons_zero, List.set_cons_succ]
        go_wp2
        simp [upd, Below.refl]
      · have g1 : f 1 = .agg #[.int .i64 p.a, .int .i64 p.b, .int .i64 p.c, .int .i64 d] := hd 1 (by decide) (by kernel_rfl)
        refine wpOp_list rfl ?_
        simp only [tmOf, putAll, List.map_cons, List.map_nil, List.setIfInBounds_toArray, List.set_cons_zero, List.set_cons_succ]
        go_wp2_with fail
        refine (HRT.out _).mono ?_
        rintro e' wf ⟨rfl, hbf⟩
        go_wp2_with fail
        simp [upd, g1, hbf]
      · cases hin
      · have g2 : f 2 = .bool t := hd 2 (by decide) (by kernel_rfl)
        refine wpOp_list rfl ?_
        simp only [tmOf, putAll, List.map_cons, List.map_nil, List.setIfInBounds_toArray, List.set_cons_zero, List.set_cons_succ]
        go_wp2
        simp [upd, g2, Below.refl]
      · simp only [List.length_cons, List.length_nil] at hx; omega
    · rintro ix hx hin f ww ⟨kb, ⟨y0, y1, y2, y3, kc⟩, hbw⟩ hd
      have hi3 : ix = 3 := by simpa using hin
      subst hi3
      have g0 : f 0 = .agg #[.int .i64 p.a, .int .i64 p.b, .int .i64 p.c, .int .i64 d] := hd 0 (by decide) (by kernel_rfl)
      have c0 := kc.cell (i := 0) rfl
      have c1 := kc.cell (i := 1) rfl
      have c2 := kc.cell (i := 2) rfl
      have c3 := kc.cell (i := 3) rfl
      have q0 := kc.frozen 0
      have q1 := kc.frozen 1
      have q2 := kc.frozen 2
      have q3 := kc.frozen 3
      refine wpOp_list rfl ?_
      simp only [tmOf, putAll, List.map_cons, List.map_nil, List.setIfInBounds_toArray, List.set_cons_zero, List.set_cons_succ]
      go_wp2
      have oth : ∀ {C cs T}, C ≠ w.heap.size + 1 + 1 → Blk ww C cs T → Blk ((((ww.setCell ⟨w.heap.size + 1 + 1, 0, none⟩ (.int .i64 p.a)).setCell ⟨w.heap.size + 1 + 1, 1, none⟩ (.int .i64 p.b)).setCell ⟨w.heap.size + 1 + 1, 2, none⟩ (.int .i64 p.c)).setCell ⟨w.heap.size + 1 + 1, 3, none⟩ (.int .i64 d)) C cs T := fun hne h => (((h.other (C := w.heap.size + 1 + 1) 0 _ (by omega)).other (C := w.heap.size + 1 + 1) 1 _ (by omega)).other (C := w.heap.size + 1 + 1) 2 _ (by omega)).other (C := w.heap.size + 1 + 1) 3 _ (by omega)
      refine ⟨Blk.put4 kc _ _ _ _, ⟨oth (by omega) kb, ⟨_, _, _, _, Blk.put4 kc _ _ _ _⟩, (((hbw.setCell (by simp only; omega) _).setCell (by simp only; omega) _).setCell (by simp only; omega) _).setCell (by simp only; omega) _⟩, ?_⟩
      intro B' cs hne hB'
      exact oth (by simpa using hne) hB'
    · rintro f ww ⟨_, _, hbw⟩ hd hBk
      have g4 : f 4 = .bool t := hd 4 (by decide) (by decide)
      have L : Blk ww (w.heap.size + 1 + 1) #[.int .i64 p.a, .int .i64 p.b, .int .i64 p.c, .int .i64 d] 23 := hBk 3 (by decide) (by decide)
      simp only [tmOf, putAll, List.map_cons, List.map_nil, List.setIfInBounds_toArray, List.set_cons_zero, List.set_cons_succ]
      simp only [Nat.zero_add, Nat.reduceAdd]
      refine ‹∀ (a' : Act) (w' : World), Met _ a' w' → _› _ _ ?_
      go_meet
      case rel => exact ⟨g4, L, hbw⟩
  case rest =>
  obtain ⟨rfl, L, hbx⟩ := hcut
  have z0 := L.cell (i := 0) rfl
  have z1 := L.cell (i := 1) rfl
  have z2 := L.cell (i := 2) rfl
  have z3 := L.cell (i := 3) rfl
  go_wp2_with fail
  exact bodyPost_ret (v := .tuple #[.agg #[.int .i64 p.a, .int .i64 p.b, .int .i64 p.c, .int .i64 d], .bool t]) (by simp [results, Try.results39, go_sem, z0, z1, z2, z3]) rfl ⟨rfl, hbx⟩

end Go.Proofs.Ytopdeakjnloemaa

namespace Go.Proofs.Ytopdeakjnloemaa
open Go.RowKit Go.Shelf
attribute [local go_sem] Oper.semAt_some

theorem aw3_make (w : World) : Calls Try.prog 12 #[.int .i64 2, .int .i64 4, .int .i64 0, .int .i64 (-6)] w fun e w' => e = .returned (.tuple #[.agg #[.int .i64 1, .int .i64 2, .int .i64 0, .int .i64 (-3)], .int .i64 0]) ∧ Below w.heap.size w w' := by
  refine (make_some 2 4 0 (-6) w (by decide) (by decide) (by decide) (by decide) (by decide)).mono ?_
  rintro e w' ⟨rfl, hb⟩
  have h : MakeOk 2 4 0 (-6) := by decide +kernel
  have l0 : low4 2 4 0 (-6) 2 = 1 := by decide +kernel
  have l1 : low4 2 4 0 (-6) 4 = 2 := by decide +kernel
  have l2 : low4 2 4 0 (-6) 0 = 0 := by decide +kernel
  have l3 : low4 2 4 0 (-6) (-6) = -3 := by decide +kernel
  rw [if_pos h, decide_eq_true h, l0, l1, l2, l3]
  exact ⟨rfl, hb⟩
theorem aw3_side (w : World) : Calls Try.prog 21 #[.agg #[.int .i64 1, .int .i64 0, .int .i64 0, .int .i64 (-1)], .agg #[.int .i64 1, .int .i64 0, .int .i64 0, .int .i64 2]] w fun e w' => e = .returned (.tuple #[.int .i64 (-1), .int .i64 0]) ∧ Below w.heap.size w w' := by
  refine (side_any ⟨1, 0, 0, -1⟩ ⟨1, 0, 0, 2⟩ w (by unfold InV; decide) (by unfold InV; decide)).mono ?_
  rintro e w' ⟨rfl, hb⟩
  have h1 : RightP 1 0 0 (-1) := by decide +kernel
  have h2 : SoundP 1 0 0 2 := by decide +kernel
  have h3 : sgnI (dotL ⟨1, 0, 0, -1⟩ ⟨1, 0, 0, 2⟩ (List.range 4)) = -1 := by decide +kernel
  refine ⟨?_, hb⟩
  show Ending.returned (.tuple #[.int .i64 (if RightP 1 0 0 (-1) ∧ SoundP 1 0 0 2 then sgnI (dotL ⟨1, 0, 0, -1⟩ ⟨1, 0, 0, 2⟩ (List.range 4)) else 0), .int .i64 (firstE [errE (decide (RightP 1 0 0 (-1))) 30, errE (decide (SoundP 1 0 0 2)) 40])]) = _
  rw [if_pos ⟨h1, h2⟩, h3, decide_eq_true h1, decide_eq_true h2]; rfl
theorem aw3_through (w : World) : Calls Try.prog 25 #[.agg #[.int .i64 0, .int .i64 0, .int .i64 0, .int .i64 1], .agg #[.int .i64 1, .int .i64 0, .int .i64 0, .int .i64 1], .agg #[.int .i64 0, .int .i64 1, .int .i64 0, .int .i64 1]] w fun e w' => e = .returned (.tuple #[.agg #[.int .i64 0, .int .i64 0, .int .i64 1, .int .i64 0], .int .i64 0]) ∧ Below w.heap.size w w' := by
  refine (through_any ⟨0, 0, 0, 1⟩ ⟨1, 0, 0, 1⟩ ⟨0, 1, 0, 1⟩ w (by unfold InV; decide) (by unfold InV; decide) (by unfold InV; decide)).mono ?_
  rintro e w' ⟨rfl, hb⟩
  have h1 : thrP ⟨0, 0, 0, 1⟩ ⟨1, 0, 0, 1⟩ ⟨0, 1, 0, 1⟩ = ⟨0, 0, 1, 0⟩ := by decide +kernel
  have h2 : thrE ⟨0, 0, 0, 1⟩ ⟨1, 0, 0, 1⟩ ⟨0, 1, 0, 1⟩ = 0 := by decide +kernel
  rw [h1, h2]
  exact ⟨rfl, hb⟩
theorem aw3_shift (w : World) : Calls Try.prog 37 #[.agg #[.int .i64 1, .int .i64 0, .int .i64 0, .int .i64 (-1)], .agg #[.int .i64 2, .int .i64 7, .int .i64 7]] w fun e w' => e = .returned (.tuple #[.agg #[.int .i64 1, .int .i64 0, .int .i64 0, .int .i64 (-3)], .int .i64 0]) ∧ Below w.heap.size w w' := by
  refine (shift_any ⟨1, 0, 0, -1⟩ 2 7 7 w (by unfold InV; decide)).mono ?_
  rintro e w' ⟨rfl, hb⟩
  have h1 : shP ⟨1, 0, 0, -1⟩ 2 7 7 = ⟨1, 0, 0, -3⟩ := by decide +kernel
  have h2 : shE ⟨1, 0, 0, -1⟩ 2 7 7 = 0 := by decide +kernel
  rw [h1, h2]
  exact ⟨rfl, hb⟩
theorem aw3_check (w : World) : Calls Try.prog 11 #[.agg #[.int .i64 1, .int .i64 0, .int .i64 (-2), .int .i64 (-5)]] w fun e w' => e = .returned (.int .i64 0) ∧ Below w.heap.size w w' := by
  refine (check_any 1 0 (-2) (-5) w (by decide) (by decide) (by decide) (by decide)).mono ?_
  rintro e w' ⟨rfl, hb⟩
  have h : RightP 1 0 (-2) (-5) := by decide +kernel
  rw [decide_eq_true h]
  exact ⟨rfl, hb⟩
theorem aw3_check0 (w : World) : Calls Try.prog 11 #[.agg #[.int .i64 0, .int .i64 0, .int .i64 0, .int .i64 0]] w fun e w' => e = .returned (.int .i64 30) ∧ Below w.heap.size w w' := by
  refine (check_any 0 0 0 0 w (by decide) (by decide) (by decide) (by decide)).mono ?_
  rintro e w' ⟨rfl, hb⟩
  have h : ¬ RightP 0 0 0 0 := by decide +kernel
  rw [decide_eq_false h]
  exact ⟨rfl, hb⟩
theorem aw3_shown (w : World) : Calls Try.prog 15 #[.agg #[.int .i64 (-1), .int .i64 0, .int .i64 2, .int .i64 5]] w fun e w' => e = .returned (.tuple #[.agg #[.int .i64 1, .int .i64 0, .int .i64 (-2), .int .i64 (-5)], .int .i64 0]) ∧ Below w.heap.size w w' := by
  refine (shownApi_any (-1) 0 2 5 w (by decide) (by decide) (by decide) (by decide)).mono ?_
  rintro e w' ⟨rfl, hb⟩
  have h : RightP (-1) 0 2 5 := by decide +kernel
  have h2 : shownP ⟨-1, 0, 2, 5⟩ = ⟨1, 0, -2, -5⟩ := by decide +kernel
  rw [if_pos h, decide_eq_true h, h2]
  exact ⟨rfl, hb⟩

set_option maxRecDepth 100000 in
set_option maxHeartbeats 4000000 in
theorem awake3_any (w : World) : Calls Try.prog 20 #[] w fun e w' => e = .returned (.bool true) ∧ Below w.heap.size w w' := by
  have hq := fun p q w => eqPlane p q w
  go_enter Try.func20, Try.ntmps20
  go_wp2_with fail
  refine (aw3_make _).mono ?_
  rintro e w1 ⟨rfl, hb1⟩
  obtain ⟨wa1, hwa1⟩ : ∃ w', w1.alloc (.cells #[.int .i64 0, .int .i64 0, .int .i64 0, .int .i64 0] 23) = w' := ⟨_, rfl⟩
  have ka : Blk wa1 w1.heap.size #[.int .i64 0, .int .i64 0, .int .i64 0, .int .i64 0] 23 := by rw [← hwa1]; exact Blk.new _ _ _
  have hba1 : Below w.heap.size w wa1 := by rw [← hwa1]; exact hb1.alloc hb1.size _
  have a10 := ka.cell (i := 0) rfl
  have a11 := ka.cell (i := 1) rfl
  have a12 := ka.cell (i := 2) rfl
  have a13 := ka.cell (i := 3) rfl
  have f10 := ka.frozen 0
  have f11 := ka.frozen 1
  have f12 := ka.frozen 2
  have f13 := ka.frozen 3
  obtain ⟨ws1, hws1⟩ : ∃ w', ((((wa1.setCell ⟨w1.heap.size, 0, none⟩ (.int .i64 1)).setCell ⟨w1.heap.size, 1, none⟩ (.int .i64 2)).setCell ⟨w1.heap.size, 2, none⟩ (.int .i64 0)).setCell ⟨w1.heap.size, 3, none⟩ (.int .i64 (-3))) = w' := ⟨_, rfl⟩
  have K1 : Blk ws1 w1.heap.size #[.int .i64 1, .int .i64 2, .int .i64 0, .int .i64 (-3)] 23 := by rw [← hws1]; exact Blk.put4 ka _ _ _ _
  have hbs1 : Below w.heap.size w ws1 := by have := hb1.size; rw [← hws1]; exact (((hba1.setCell (by simp only; omega) _).setCell (by simp only; omega) _).setCell (by simp only; omega) _).setCell (by simp only; omega) _
  have hbk1 : Below w1.heap.size w1 ws1 := by rw [← hws1]; exact ((((by rw [← hwa1]; exact (Below.refl _ _).alloc (Nat.le_refl _) _ : Below w1.heap.size w1 wa1).setCell (by simp only; omega) _).setCell (by simp only; omega) _).setCell (by simp only; omega) _).setCell (by simp only; omega) _
  go_wp2_with fail
  refine (aw3_side _).mono ?_
  rintro e w2 ⟨rfl, hb2⟩
  have K1 := K1.kept hb2
  have hb2' := hbs1.trans (hb2.mono hbs1.size)
  go_wp2_with fail
  refine (aw3_through _).mono ?_
  rintro e w3 ⟨rfl, hb3⟩
  have K1 := K1.kept hb3
  have hb3' := hb2'.trans (hb3.mono hb2'.size)
  obtain ⟨wa2, hwa2⟩ : ∃ w', w3.alloc (.cells #[.int .i64 0, .int .i64 0, .int .i64 0, .int .i64 0] 23) = w' := ⟨_, rfl⟩
  have ka : Blk wa2 w3.heap.size #[.int .i64 0, .int .i64 0, .int .i64 0, .int .i64 0] 23 := by rw [← hwa2]; exact Blk.new _ _ _
  have hba2 : Below w.heap.size w wa2 := by rw [← hwa2]; exact hb3'.alloc hb3'.size _
  have a20 := ka.cell (i := 0) rfl
  have a21 := ka.cell (i := 1) rfl
  have a22 := ka.cell (i := 2) rfl
  have a23 := ka.cell (i := 3) rfl
  have f20 := ka.frozen 0
  have f21 := ka.frozen 1
  have f22 := ka.frozen 2
  have f23 := ka.frozen 3
  obtain ⟨ws2, hws2⟩ : ∃ w', ((((wa2.setCell ⟨w3.heap.size, 0, none⟩ (.int .i64 0)).setCell ⟨w3.heap.size, 1, none⟩ (.int .i64 0)).setCell ⟨w3.heap.size, 2, none⟩ (.int .i64 1)).setCell ⟨w3.heap.size, 3, none⟩ (.int .i64 0)) = w' := ⟨_, rfl⟩
  have K2 : Blk ws2 w3.heap.size #[.int .i64 0, .int .i64 0, .int .i64 1, .int .i64 0] 23 := by rw [← hws2]; exact Blk.put4 ka _ _ _ _
  have hbs2 : Below w.heap.size w ws2 := by have := hb3'.size; rw [← hws2]; exact (((hba2.setCell (by simp only; omega) _).setCell (by simp only; omega) _).setCell (by simp only; omega) _).setCell (by simp only; omega) _
  have hbk2 : Below w3.heap.size w3 ws2 := by rw [← hws2]; exact ((((by rw [← hwa2]; exact (Below.refl _ _).alloc (Nat.le_refl _) _ : Below w3.heap.size w3 wa2).setCell (by simp only; omega) _).setCell (by simp only; omega) _).setCell (by simp only; omega) _).setCell (by simp only; omega) _
  have K1 := K1.kept hbk2
  go_wp2_with fail
  refine (aw3_shown _).mono ?_
  rintro e w4 ⟨rfl, hb4⟩
  have K1 := K1.kept hb4
  have K2 := K2.kept hb4
  have hb4' := hbs2.trans (hb4.mono hbs2.size)
  obtain ⟨wa3, hwa3⟩ : ∃ w', w4.alloc (.cells #[.int .i64 0, .int .i64 0, .int .i64 0, .int .i64 0] 23) = w' := ⟨_, rfl⟩
  have ka : Blk wa3 w4.heap.size #[.int .i64 0, .int .i64 0, .int .i64 0, .int .i64 0] 23 := by rw [← hwa3]; exact Blk.new _ _ _
  have hba3 : Below w.heap.size w wa3 := by rw [← hwa3]; exact hb4'.alloc hb4'.size _
  have a30 := ka.cell (i := 0) rfl
  have a31 := ka.cell (i := 1) rfl
  have a32 := ka.cell (i := 2) rfl
  have a33 := ka.cell (i := 3) rfl
  have f30 := ka.frozen 0
  have f31 := ka.frozen 1
  have f32 := ka.frozen 2
  have f33 := ka.frozen 3
  obtain ⟨ws3, hws3⟩ : ∃ w', ((((wa3.setCell ⟨w4.heap.size, 0, none⟩ (.int .i64 1)).setCell ⟨w4.heap.size, 1, none⟩ (.int .i64 0)).setCell ⟨w4.heap.size, 2, none⟩ (.int .i64 (-2))).setCell ⟨w4.heap.size, 3, none⟩ (.int .i64 (-5))) = w' := ⟨_, rfl⟩
  have K3 : Blk ws3 w4.heap.size #[.int .i64 1, .int .i64 0, .int .i64 (-2), .int .i64 (-5)] 23 := by rw [← hws3]; exact Blk.put4 ka _ _ _ _
  have hbs3 : Below w.heap.size w ws3 := by have := hb4'.size; rw [← hws3]; exact (((hba3.setCell (by simp only; omega) _).setCell (by simp only; omega) _).setCell (by simp only; omega) _).setCell (by simp only; omega) _
  have hbk3 : Below w4.heap.size w4 ws3 := by rw [← hws3]; exact ((((by rw [← hwa3]; exact (Below.refl _ _).alloc (Nat.le_refl _) _ : Below w4.heap.size w4 wa3).setCell (by simp only; omega) _).setCell (by simp only; omega) _).setCell (by simp only; omega) _).setCell (by simp only; omega) _
  have K1 := K1.kept hbk3
  have K2 := K2.kept hbk3
  go_wp2_with fail
  refine (aw3_shift _).mono ?_
  rintro e w5 ⟨rfl, hb5⟩
  have K1 := K1.kept hb5
  have K2 := K2.kept hb5
  have K3 := K3.kept hb5
  have hb5' := hbs3.trans (hb5.mono hbs3.size)
  obtain ⟨wa4, hwa4⟩ : ∃ w', w5.alloc (.cells #[.int .i64 0, .int .i64 0, .int .i64 0, .int .i64 0] 23) = w' := ⟨_, rfl⟩
  have ka : Blk wa4 w5.heap.size #[.int .i64 0, .int .i64 0, .int .i64 0, .int .i64 0] 23 := by rw [← hwa4]; exact Blk.new _ _ _
  have hba4 : Below w.heap.size w wa4 := by rw [← hwa4]; exact hb5'.alloc hb5'.size _
  have a40 := ka.cell (i := 0) rfl
  have a41 := ka.cell (i := 1) rfl
  have a42 := ka.cell (i := 2) rfl
  have a43 := ka.cell (i := 3) rfl
  have f40 := ka.frozen 0
  have f41 := ka.frozen 1
  have f42 := ka.frozen 2
  have f43 := ka.frozen 3
  obtain ⟨ws4, hws4⟩ : ∃ w', ((((wa4.setCell ⟨w5.heap.size, 0, none⟩ (.int .i64 1)).setCell ⟨w5.heap.size, 1, none⟩ (.int .i64 0)).setCell ⟨w5.heap.size, 2, none⟩ (.int .i64 0)).setCell ⟨w5.heap.size, 3, none⟩ (.int .i64 (-3))) = w' := ⟨_, rfl⟩
  have K4 : Blk ws4 w5.heap.size #[.int .i64 1, .int .i64 0, .int .i64 0, .int .i64 (-3)] 23 := by rw [← hws4]; exact Blk.put4 ka _ _ _ _
  have hbs4 : Below w.heap.size w ws4 := by have := hb5'.size; rw [← hws4]; exact (((hba4.setCell (by simp only; omega) _).setCell (by simp only; omega) _).setCell (by simp only; omega) _).setCell (by simp only; omega) _
  have hbk4 : Below w5.heap.size w5 ws4 := by rw [← hws4]; exact ((((by rw [← hwa4]; exact (Below.refl _ _).alloc (Nat.le_refl _) _ : Below w5.heap.size w5 wa4).setCell (by simp only; omega) _).setCell (by simp only; omega) _).setCell (by simp only; omega) _).setCell (by simp only; omega) _
  have K1 := K1.kept hbk4
  have K2 := K2.kept hbk4
  have K3 := K3.kept hbk4
  have p0 := K1.cell (i := 0) rfl
  have p1 := K1.cell (i := 1) rfl
  have p2 := K1.cell (i := 2) rfl
  have p3 := K1.cell (i := 3) rfl
  have q0 := K2.cell (i := 0) rfl
  have q1 := K2.cell (i := 1) rfl
  have q2 := K2.cell (i := 2) rfl
  have q3 := K2.cell (i := 3) rfl
  have r0 := K3.cell (i := 0) rfl
  have r1 := K3.cell (i := 1) rfl
  have r2 := K3.cell (i := 2) rfl
  have r3 := K3.cell (i := 3) rfl
  have s0 := K4.cell (i := 0) rfl
  have s1 := K4.cell (i := 1) rfl
  have s2 := K4.cell (i := 2) rfl
  have s3 := K4.cell (i := 3) rfl
  have E1 := fun w => hq ⟨1, 2, 0, -3⟩ ⟨1, 2, 0, -3⟩ w
  have E2 := fun w => hq ⟨0, 0, 1, 0⟩ ⟨0, 0, 1, 0⟩ w
  have E3 := fun w => hq ⟨1, 0, -2, -5⟩ ⟨1, 0, -2, -5⟩ w
  have E4 := fun w => hq ⟨1, 0, 0, -3⟩ ⟨1, 0, 0, -3⟩ w
  simp only [decide_true] at E1 E2 E3 E4
  clear hq
  go_wp2_with fail
  refine (aw3_check _).mono ?_
  rintro e w6 ⟨rfl, hb6⟩
  have hb6' := hbs4.trans (hb6.mono hbs4.size)
  go_wp2_with fail
  refine (aw3_check0 _).mono ?_
  rintro e w7 ⟨rfl, hb7⟩
  have hb7' := hb6'.trans (hb7.mono hb6'.size)
  go_wp2_with fail
  go_ret
  exact ⟨rfl, hb7'⟩

end Go.Proofs.Ytopdeakjnloemaa

namespace Go.Proofs.Ytopdeakjnloemaa
open Go.RowKit Go.Shelf
attribute [local go_sem] Oper.semAt_some

theorem int3_set {r : Nat → Int} {i : Nat} (hi : i < 3) (v : Int) : (#[.int .i64 (r 0), .int .i64 (r 1), .int .i64 (r 2)] : Array Value).setIfInBounds i (.int .i64 v) = #[.int .i64 (if 0 = i then v else r 0), .int .i64 (if 1 = i then v else r 1), .int .i64 (if 2 = i then v else r 2)] := by
  have h4 : i = 0 ∨ i = 1 ∨ i = 2 := by omega
  rcases h4 with rfl | rfl | rfl <;> rfl
theorem int3_at {W : World} {B : Nat} {r : Nat → Int} {t : TypeId} (h : Blk W B #[.int .i64 (r 0), .int .i64 (r 1), .int .i64 (r 2)] t) {i : Nat} (hi : i < 3) : W.cell? ⟨B, i, none⟩ = some (.int .i64 (r i)) := by
  have h4 : i = 0 ∨ i = 1 ∨ i = 2 := by omega
  rcases h4 with rfl | rfl | rfl <;> exact h.cell rfl
theorem plainQ_true {p v : V4} {e : Int} (h1 : e = 0 → p = v) (h2 : e ≠ 0 → p = ⟨0, 0, 0, 0⟩) : plainQ p e e v = true := by
  unfold plainQ
  by_cases h : e = 0
  · rw [if_pos h]; simp [h, h1 h]
  · rw [if_neg h]; simp [h2 h]
theorem far3_all {r : Nat → Int} (h : ∀ j, j < 3 → (r j).natAbs ≤ 1000000) : far3 (r 0) (r 1) (r 2) := ⟨h 0 (by decide), h 1 (by decide), h 2 (by decide)⟩
theorem far3_get {r : Nat → Int} (h : far3 (r 0) (r 1) (r 2)) {i : Nat} (hi : i < 3) : (r i).natAbs ≤ 1000000 := by
  have h4 : i = 0 ∨ i = 1 ∨ i = 2 := by omega
  rcases h4 with rfl | rfl | rfl
  · exact h.1
  · exact h.2.1
  · exact h.2.2
theorem tameC_in {v most : Int} (h1 : 1 ≤ most) (h2 : most ≤ 1000000) : InI64 (tameC v most) := by
  have := tameC_le (v := v) h1
  unfold InI64; omega

set_option maxRecDepth 100000 in
set_option maxHeartbeats 8000000 in
theorem planeShifts_walk (p : V4) (x y z : Int) (w : World) (hp : InV p) (hx : InI64 x) (hy : InI64 y) (hz : InI64 z) :
    Calls Try.prog 7 #[.agg #[.int .i64 p.a, .int .i64 p.b, .int .i64 p.c, .int .i64 p.d], .agg #[.int .i64 x, .int .i64 y, .int .i64 z]] w fun e w' => e = .returned (.bool true) ∧ Below w.heap.size w w' := by
  obtain ⟨w1, hw1⟩ : ∃ w1, ((w.alloc (.cells #[.int .i64 p.a, .int .i64 p.b, .int .i64 p.c, .int .i64 p.d] 23)).alloc (.cells #[.int .i64 x, .int .i64 y, .int .i64 z] 53)) = w1 := ⟨_, rfl⟩
  have hb1 : Below w.heap.size w w1 := by rw [← hw1]; exact bw2 w _ _
  have k0 : Blk w1 w.heap.size #[.int .i64 p.a, .int .i64 p.b, .int .i64 p.c, .int .i64 p.d] 23 := by rw [← hw1]; exact (Blk.new w _ _).alloc _
  have k1 : Blk w1 (w.heap.size + 1) #[.int .i64 x, .int .i64 y, .int .i64 z] 53 := by rw [← hw1]; exact Blk.new' _ _ _ (by simp)
  go_enter Try.func7, Try.ntmps7
  go_wp2_with fail
  go_loopg [5] 2 (fun gk v5 wr => ∃ (i : Nat) (p : V4) (r : Nat → Int), i ≤ 2 ∧ gk = 2 - i ∧ v5 = .int .i64 (i : Int) ∧ InV p ∧ Hid (∀ j, j < 3 → InI64 (r j)) ∧ Blk wr w.heap.size #[.int .i64 p.a, .int .i64 p.b, .int .i64 p.c, .int .i64 p.d] 23 ∧ Blk wr (w.heap.size + 1) #[.int .i64 (r 0), .int .i64 (r 1), .int .i64 (r 2)] 53 ∧ Below w.heap.size w wr)
  case atStart =>
    refine ⟨0, p, fun j => if j = 0 then x else if j = 1 then y else z, by decide, rfl, rfl, hp, ?_, k0, k1, hb1⟩
    intro j hj
    have h4 : j = 0 ∨ j = 1 ∨ j = 2 := by omega
    rcases h4 with rfl | rfl | rfl
    · exact hx
    · exact hy
    · exact hz
  case round =>
    clear hp hx hy hz k0 k1 hb1 hw1
    obtain ⟨i, p, r, hi, hgk, rfl, hp, HRI, k0, k1, hb⟩ := hrel
    have HGK := Lib.hid hgk
    clear hgk
    by_cases hlt : i < 2
    · have hlti : (i : Int) < 2 := by omega
      have hsh := fun W => shift_any p (r 0) (r 1) (r 2) W hp
      have hbad0 := fun W b hR => bad1 p W b hp hR
      obtain ⟨B, hB⟩ : ∃ B, errE (decide (RightQ p)) 30 = B := ⟨_, rfl⟩
      have hbad := fun W b hR => hbad0 W b hR
      rw [hB] at hbad
      have HB := Lib.hid hB
      clear hbad0 hB
      have HTM := Lib.hid (fun W => tame_any p 1000 W hp (by decide) (by decide))
      obtain ⟨T, hT⟩ : ∃ T, shP p (r 0) (r 1) (r 2) = T := ⟨_, rfl⟩
      obtain ⟨E, hE⟩ : ∃ E, shE p (r 0) (r 1) (r 2) = E := ⟨_, rfl⟩
      rw [hT, hE] at hsh
      have HSH := Lib.hid hsh
      have HTE := Lib.hid (And.intro hT hE)
      have HP := Lib.hid hp
      clear hp hsh hT hE
      have k0_0 := k0.cell (i := 0) rfl
      have k0_1 := k0.cell (i := 1) rfl
      have k0_2 := k0.cell (i := 2) rfl
      have k0_3 := k0.cell (i := 3) rfl
      have k1_0 := k1.cell (i := 0) rfl
      have k1_1 := k1.cell (i := 1) rfl
      have k1_2 := k1.cell (i := 2) rfl
      go_wp2_with fail
      refine (HSH.out _).mono ?_
      rintro e' wc1 ⟨rfl, hc1⟩
      clear k0_0 k0_1 k0_2 k0_3 k1_0 k1_1 k1_2
      have k0 := k0.kept hc1
      have k1 := k1.kept hc1
      have hb := hb.trans (hc1.mono hb.size)
      clear hc1
      have k0_0 := k0.cell (i := 0) rfl
      have k0_1 := k0.cell (i := 1) rfl
      have k0_2 := k0.cell (i := 2) rfl
      have k0_3 := k0.cell (i := 3) rfl
      have k1_0 := k1.cell (i := 0) rfl
      have k1_1 := k1.cell (i := 1) rfl
      have k1_2 := k1.cell (i := 2) rfl
      have lt1 : w.heap.size + 1 < wc1.heap.size := k1.lt
      clear k0_0 k0_1 k0_2 k0_3 k1_0 k1_1 k1_2
      obtain ⟨wa2, hwa2⟩ : ∃ w', wc1.alloc (.cells #[.int .i64 0, .int .i64 0, .int .i64 0, .int .i64 0] 23) = w' := ⟨_, rfl⟩
      have kk2 : Blk wa2 wc1.heap.size #[.int .i64 0, .int .i64 0, .int .i64 0, .int .i64 0] 23 := by rw [← hwa2]; exact Blk.new _ _ _
      have hk2 : Below wc1.heap.size wc1 wa2 := by rw [← hwa2]; exact (Below.refl _ _).alloc (Nat.le_refl _) _
      obtain ⟨ws2, hws2⟩ : ∃ w', ((((wa2.setCell ⟨wc1.heap.size, 0, none⟩ (.int .i64 T.a)).setCell ⟨wc1.heap.size, 1, none⟩ (.int .i64 T.b)).setCell ⟨wc1.heap.size, 2, none⟩ (.int .i64 T.c)).setCell ⟨wc1.heap.size, 3, none⟩ (.int .i64 T.d)) = w' := ⟨_, rfl⟩
      have hj2 : Below wc1.heap.size wc1 ws2 := by rw [← hws2]; exact ((((hk2.setCell (by simp only; omega) _).setCell (by simp only; omega) _).setCell (by simp only; omega) _).setCell (by simp only; omega) _)
      have kS : Blk ws2 wc1.heap.size #[.int .i64 T.a, .int .i64 T.b, .int .i64 T.c, .int .i64 T.d] 23 := by rw [← hws2]; exact Blk.put4 kk2 _ _ _ _
      have kc20 := kk2.cell (i := 0) rfl
      have kf20 := kk2.frozen 0
      have kc21 := kk2.cell (i := 1) rfl
      have kf21 := kk2.frozen 1
      have kc22 := kk2.cell (i := 2) rfl
      have kf22 := kk2.frozen 2
      have kc23 := kk2.cell (i := 3) rfl
      have kf23 := kk2.frozen 3
      have k0 := k0.kept hj2
      have k1 := k1.kept hj2
      have hb := hb.trans (hj2.mono hb.size)
      clear hj2 hk2
      have k0_0 := k0.cell (i := 0) rfl
      have k0_1 := k0.cell (i := 1) rfl
      have k0_2 := k0.cell (i := 2) rfl
      have k0_3 := k0.cell (i := 3) rfl
      have k1_0 := k1.cell (i := 0) rfl
      have k1_1 := k1.cell (i := 1) rfl
      have k1_2 := k1.cell (i := 2) rfl
      have kS_0 := kS.cell (i := 0) rfl
      have kS_1 := kS.cell (i := 1) rfl
      have kS_2 := kS.cell (i := 2) rfl
      have kS_3 := kS.cell (i := 3) rfl
      obtain ⟨wl3, hwl3⟩ : ∃ w', ws2.alloc (.cells #[.int .i64 p.a, .int .i64 p.b, .int .i64 p.c, .int .i64 p.d] 23) = w' := ⟨_, rfl⟩
      have hrl3 : RdV wl3 (some ⟨ws2.heap.size, 0, none⟩) [p] := by rw [← hwl3]; exact planes1 ws2 p.a p.b p.c p.d _
      have hbl3 : Below ws2.heap.size ws2 wl3 := by rw [← hwl3]; exact (Below.refl _ _).alloc (Nat.le_refl _) _
      have HBD3 := Lib.hid (hbad _ _ hrl3)
      clear hrl3
      go_wp2_with fail
      refine (HBD3.out).mono ?_
      rintro e' wc3 ⟨rfl, hc3⟩
      have hc3 := hbl3.trans (hc3.mono hbl3.size)
      clear hbl3 hwl3 HBD3
      clear k0_0 k0_1 k0_2 k0_3 k1_0 k1_1 k1_2 kS_0 kS_1 kS_2 kS_3
      have k0 := k0.kept hc3
      have k1 := k1.kept hc3
      have kS := kS.kept hc3
      have hb := hb.trans (hc3.mono hb.size)
      clear hc3
      have k0_0 := k0.cell (i := 0) rfl
      have k0_1 := k0.cell (i := 1) rfl
      have k0_2 := k0.cell (i := 2) rfl
      have k0_3 := k0.cell (i := 3) rfl
      have k1_0 := k1.cell (i := 0) rfl
      have k1_1 := k1.cell (i := 1) rfl
      have k1_2 := k1.cell (i := 2) rfl
      have kS_0 := kS.cell (i := 0) rfl
      have kS_1 := kS.cell (i := 1) rfl
      have kS_2 := kS.cell (i := 2) rfl
      have kS_3 := kS.cell (i := 3) rfl
      have lt2 : wc1.heap.size < wc3.heap.size := kS.lt
      clear k0_0 k0_1 k0_2 k0_3 k1_0 k1_1 k1_2 kS_0 kS_1 kS_2 kS_3
      obtain ⟨wa4, hwa4⟩ : ∃ w', wc3.alloc (.cells #[.int .i64 0, .int .i64 0, .int .i64 0, .int .i64 0] 23) = w' := ⟨_, rfl⟩
      have kX : Blk wa4 wc3.heap.size #[.int .i64 0, .int .i64 0, .int .i64 0, .int .i64 0] 23 := by rw [← hwa4]; exact Blk.new _ _ _
      have hk4 : Below wc3.heap.size wc3 wa4 := by rw [← hwa4]; exact (Below.refl _ _).alloc (Nat.le_refl _) _
      have k0 := k0.kept hk4
      have k1 := k1.kept hk4
      have kS := kS.kept hk4
      have hb := hb.trans (hk4.mono hb.size)
      clear hk4
      have k0_0 := k0.cell (i := 0) rfl
      have k0_1 := k0.cell (i := 1) rfl
      have k0_2 := k0.cell (i := 2) rfl
      have k0_3 := k0.cell (i := 3) rfl
      have k1_0 := k1.cell (i := 0) rfl
      have k1_1 := k1.cell (i := 1) rfl
      have k1_2 := k1.cell (i := 2) rfl
      have kS_0 := kS.cell (i := 0) rfl
      have kS_1 := kS.cell (i := 1) rfl
      have kS_2 := kS.cell (i := 2) rfl
      have kS_3 := kS.cell (i := 3) rfl
      have kX_0 := kX.cell (i := 0) rfl
      have kX_f0 := kX.frozen 0
      have kX_1 := kX.cell (i := 1) rfl
      have kX_f1 := kX.frozen 1
      have kX_2 := kX.cell (i := 2) rfl
      have kX_f2 := kX.frozen 2
      have kX_3 := kX.cell (i := 3) rfl
      have kX_f3 := kX.frozen 3
      clear hbad
      have hsz : ∀ j, j < 3 → ∀ W, Calls Try.prog 38 #[.int .i64 (r j)] W fun e w' => e = .returned (.int .i64 (sizeZ (r j))) ∧ w' = W := fun j hj W => size3_any (r j) W (HRI.out j hj)
      obtain ⟨W1, hW1⟩ : ∃ W1 : Int, (if B = 0 then (if far3 (r 0) (r 1) (r 2) then 0 else 1) else B) = W1 := ⟨_, rfl⟩
      have HW1 := Lib.hid hW1
      clear hW1
      go_upto_if 28 with fail
      go_cut [8, 10] from 29 to 37 (fun v8 v10 wx => v8 = .int .i64 W1 ∧ Hid (wa4 = wx))
      case first =>
        by_cases hB0 : B = 0
        · have hB0' : (B == 0) = true := by simp [hB0]
          have h1W : W1 = if far3 (r 0) (r 1) (r 2) then 0 else 1 := by rw [← HW1.out, if_pos hB0]
          subst hB0
          go_wp2_with fail
          go_loopg [8, 10] 3 (fun gk v8 v10 wx => ∃ (j : Nat) (s : Int), j ≤ 3 ∧ gk = 3 - j ∧ v10 = .int .i64 (j : Int) ∧ v8 = .int .i64 s ∧ Hid ((s = 0 ∧ ∀ k, k < j → (r k).natAbs ≤ 1000000) ∨ (s = 1 ∧ ¬ far3 (r 0) (r 1) (r 2))) ∧ Hid (wa4 = wx))
          case atStart => exact ⟨0, 0, by decide, rfl, rfl, rfl, .inl ⟨rfl, fun k hk => absurd hk (by omega)⟩, rfl⟩
          case round =>
            obtain ⟨j, s, hj, hgk2, rfl, rfl, HS, hwx⟩ := hrel
            obtain rfl := hwx.out
            have HGK2 := Lib.hid hgk2
            clear hgk2 hwx
            by_cases hj3 : j < 3
            · have hji : (j : Int) < 3 := by omega
              have cj := int3_at k1 hj3
              have HSZ := Lib.hid (hsz j hj3)
              have hfr := fun h : far3 (r 0) (r 1) (r 2) => far3_get h hj3
              obtain ⟨v, hv⟩ : ∃ v, r j = v := ⟨_, rfl⟩
              rw [hv] at cj HSZ hfr
              by_cases hbig : 1000000 < sizeZ v
              · have hnf : ¬ far3 (r 0) (r 1) (r 2) := fun h => by have := hfr h; unfold sizeZ at hbig; split at hbig <;> omega
                have HNF := Lib.hid hnf
                clear hfr hv hnf
                go_wp2_with fail
                refine (HSZ.out _).mono ?_
                rintro e w2 ⟨rfl, hw2⟩
                rw [hw2]
                go_wp2_with fail
                go_roundg (3 - (j + 1))
                case measure => rw [HGK2.out]; omega
                case rel => exact ⟨j + 1, 1, by omega, rfl, by go_num, rfl, .inr ⟨rfl, HNF.out⟩, rfl⟩
              · have HB2 := Lib.hid (And.intro (sizeZ_small (lim := 1000000) hbig (by decide)).1 hv)
                clear hfr hv
                go_wp2_with fail
                refine (HSZ.out _).mono ?_
                rintro e w2 ⟨rfl, hw2⟩
                rw [hw2]
                go_wp2_with fail
                go_roundg (3 - (j + 1))
                case measure => rw [HGK2.out]; omega
                case rel =>
                  refine ⟨j + 1, s, by omega, rfl, by go_num, rfl, ?_, rfl⟩
                  rcases HS.out with ⟨h0, h1⟩ | h
                  · refine .inl ⟨h0, fun k hk => ?_⟩
                    by_cases hkj : k = j
                    · rw [hkj, HB2.out.2]; exact HB2.out.1
                    · exact h1 k (by omega)
                  · exact .inr h
            · obtain rfl : j = 3 := by omega
              have hsW : s = W1 := by
                rw [h1W]
                rcases HS.out with ⟨h0, h1⟩ | ⟨h0, h1⟩
                · rw [if_pos (far3_all h1), h0]
                · rw [if_neg h1, h0]
              have HSW := Lib.hid hsW
              clear hsW h1W
              go_wp2_with fail
              go_meet
              case rel => exact ⟨congrArg (Value.int .i64) HSW.out, rfl⟩
        · have hB0' : (B == 0) = false := by simp [hB0]
          have h1W : B = W1 := by rw [← HW1.out, if_neg hB0]
          have HSW := Lib.hid h1W
          clear hB0 h1W
          go_wp2_with fail
          go_meet
          case rel => exact ⟨congrArg (Value.int .i64) HSW.out, rfl⟩
      case rest =>
      obtain ⟨rfl, hcut⟩ := hcut
      obtain rfl := hcut.out
      clear hcut hsz
      have hcase : (W1 = 0 ∧ RightQ p ∧ far3 (r 0) (r 1) (r 2)) ∨ (¬ W1 = 0 ∧ E = W1 ∧ T = ⟨0, 0, 0, 0⟩) := by
        rw [← HW1.out, ← HTE.out.1, ← HTE.out.2, ← HB.out]
        unfold shE shP
        by_cases h1 : RightQ p
        · by_cases h2 : far3 (r 0) (r 1) (r 2)
          · left; rw [decide_eq_true h1]; exact ⟨by simp [errE, h2], h1, h2⟩
          · right; rw [decide_eq_true h1, if_pos h1, if_pos h1, if_neg h2, if_neg h2]; simp [errE, h2]
        · right; rw [decide_eq_false h1, if_neg h1, if_neg h1]; simp [errE]
      have hPE : RightQ p → far3 (r 0) (r 1) (r 2) → T = (if shOk p (r 0) (r 1) (r 2) then ⟨p.a, p.b, p.c, shD p (r 0) (r 1) (r 2)⟩ else ⟨0, 0, 0, 0⟩) ∧ E = errE (decide (shOk p (r 0) (r 1) (r 2))) 2 := fun h1 h2 => by
        rw [← HTE.out.1, ← HTE.out.2]; unfold shP shE; rw [if_pos h1, if_pos h2, if_pos h1, if_pos h2]; exact ⟨rfl, rfl⟩
      have HCS := Lib.hid hcase
      have HPE := Lib.hid hPE
      clear hcase hPE HW1 HB HTE HSH
      go_upto_if 39 with fail
      go_cut [8, 11, 12] from 40 to 48 (fun v8 v11 v12 wx => v8 = .int .i64 E ∧ (∃ X : V4, Hid (plainQ T E E X = true) ∧ Blk wx wc3.heap.size #[.int .i64 X.a, .int .i64 X.b, .int .i64 X.c, .int .i64 X.d] 23) ∧ Blk wx w.heap.size #[.int .i64 p.a, .int .i64 p.b, .int .i64 p.c, .int .i64 p.d] 23 ∧ Blk wx (w.heap.size + 1) #[.int .i64 (r 0), .int .i64 (r 1), .int .i64 (r 2)] 53 ∧ Blk wx wc1.heap.size #[.int .i64 T.a, .int .i64 T.b, .int .i64 T.c, .int .i64 T.d] 23 ∧ Below w.heap.size w wx)
      case first =>
        rcases HCS.out with ⟨rfl, h1, h2⟩ | ⟨h0, hEW, hT0⟩
        · have hrs := fun W => rshift_any p (r 0) (r 1) (r 2) W h1 h2
          have hpe := HPE.out h1 h2
          obtain ⟨d, hd⟩ : ∃ d, shD p (r 0) (r 1) (r 2) = d := ⟨_, rfl⟩
          obtain ⟨tt, htt⟩ : ∃ tt, decide (shOk p (r 0) (r 1) (r 2)) = tt := ⟨_, rfl⟩
          rw [hd, htt] at hrs
          rw [hd, htt] at hpe
          have hTt : T = if tt = true then ⟨p.a, p.b, p.c, d⟩ else ⟨0, 0, 0, 0⟩ := by
            rw [hpe.1, ← htt]; by_cases h : shOk p (r 0) (r 1) (r 2)
            · rw [if_pos h, decide_eq_true h]; rfl
            · rw [if_neg h, decide_eq_false h]; rfl
          have HRS := Lib.hid hrs
          have HPT := Lib.hid (And.intro hTt hpe.2)
          clear hrs hpe hd htt hTt h1 h2 HCS HPE
          go_wp2_with fail
          refine (HRS.out _).mono ?_
          rintro e' wc21 ⟨rfl, hc21⟩
          clear k0_0 k0_1 k0_2 k0_3 k1_0 k1_1 k1_2 kS_0 kS_1 kS_2 kS_3 kX_0 kX_f0 kX_1 kX_f1 kX_2 kX_f2 kX_3 kX_f3
          have k0 := k0.kept hc21
          have k1 := k1.kept hc21
          have kS := kS.kept hc21
          have kX := kX.kept hc21
          have hb := hb.trans (hc21.mono hb.size)
          clear hc21
          have k0_0 := k0.cell (i := 0) rfl
          have k0_1 := k0.cell (i := 1) rfl
          have k0_2 := k0.cell (i := 2) rfl
          have k0_3 := k0.cell (i := 3) rfl
          have k1_0 := k1.cell (i := 0) rfl
          have k1_1 := k1.cell (i := 1) rfl
          have k1_2 := k1.cell (i := 2) rfl
          have kS_0 := kS.cell (i := 0) rfl
          have kS_1 := kS.cell (i := 1) rfl
          have kS_2 := kS.cell (i := 2) rfl
          have kS_3 := kS.cell (i := 3) rfl
          have kX_0 := kX.cell (i := 0) rfl
          have kX_f0 := kX.frozen 0
          have kX_1 := kX.cell (i := 1) rfl
          have kX_f1 := kX.frozen 1
          have kX_2 := kX.cell (i := 2) rfl
          have kX_f2 := kX.frozen 2
          have kX_3 := kX.cell (i := 3) rfl
          have kX_f3 := kX.frozen 3
          clear k0_0 k0_1 k0_2 k0_3 k1_0 k1_1 k1_2 kS_0 kS_1 kS_2 kS_3 kX_0 kX_f0 kX_1 kX_f1 kX_2 kX_f2 kX_3 kX_f3
          obtain ⟨wa22, hwa22⟩ : ∃ w', wc21.alloc (.cells #[.int .i64 0, .int .i64 0, .int .i64 0, .int .i64 0] 23) = w' := ⟨_, rfl⟩
          have kk22 : Blk wa22 wc21.heap.size #[.int .i64 0, .int .i64 0, .int .i64 0, .int .i64 0] 23 := by rw [← hwa22]; exact Blk.new _ _ _
          have hk22 : Below wc21.heap.size wc21 wa22 := by rw [← hwa22]; exact (Below.refl _ _).alloc (Nat.le_refl _) _
          obtain ⟨ws22, hws22⟩ : ∃ w', ((((wa22.setCell ⟨wc21.heap.size, 0, none⟩ (.int .i64 p.a)).setCell ⟨wc21.heap.size, 1, none⟩ (.int .i64 p.b)).setCell ⟨wc21.heap.size, 2, none⟩ (.int .i64 p.c)).setCell ⟨wc21.heap.size, 3, none⟩ (.int .i64 d)) = w' := ⟨_, rfl⟩
          have hj22 : Below wc21.heap.size wc21 ws22 := by rw [← hws22]; exact ((((hk22.setCell (by simp only; omega) _).setCell (by simp only; omega) _).setCell (by simp only; omega) _).setCell (by simp only; omega) _)
          have kY : Blk ws22 wc21.heap.size #[.int .i64 p.a, .int .i64 p.b, .int .i64 p.c, .int .i64 d] 23 := by rw [← hws22]; exact Blk.put4 kk22 _ _ _ _
          have kc220 := kk22.cell (i := 0) rfl
          have kf220 := kk22.frozen 0
          have kc221 := kk22.cell (i := 1) rfl
          have kf221 := kk22.frozen 1
          have kc222 := kk22.cell (i := 2) rfl
          have kf222 := kk22.frozen 2
          have kc223 := kk22.cell (i := 3) rfl
          have kf223 := kk22.frozen 3
          have k0 := k0.kept hj22
          have k1 := k1.kept hj22
          have kS := kS.kept hj22
          have kX := kX.kept hj22
          have hb := hb.trans (hj22.mono hb.size)
          clear hj22 hk22
          have k0_0 := k0.cell (i := 0) rfl
          have k0_1 := k0.cell (i := 1) rfl
          have k0_2 := k0.cell (i := 2) rfl
          have k0_3 := k0.cell (i := 3) rfl
          have k1_0 := k1.cell (i := 0) rfl
          have k1_1 := k1.cell (i := 1) rfl
          have k1_2 := k1.cell (i := 2) rfl
          have kS_0 := kS.cell (i := 0) rfl
          have kS_1 := kS.cell (i := 1) rfl
          have kS_2 := kS.cell (i := 2) rfl
          have kS_3 := kS.cell (i := 3) rfl
          have kX_0 := kX.cell (i := 0) rfl
          have kX_f0 := kX.frozen 0
          have kX_1 := kX.cell (i := 1) rfl
          have kX_f1 := kX.frozen 1
          have kX_2 := kX.cell (i := 2) rfl
          have kX_f2 := kX.frozen 2
          have kX_3 := kX.cell (i := 3) rfl
          have kX_f3 := kX.frozen 3
          have kY_0 := kY.cell (i := 0) rfl
          have kY_1 := kY.cell (i := 1) rfl
          have kY_2 := kY.cell (i := 2) rfl
          have kY_3 := kY.cell (i := 3) rfl
          have hXlt : wc3.heap.size < ws22.heap.size := kX.lt
          have nX0 : wc3.heap.size ≠ w.heap.size := by omega
          have LX := Blk.put4 kX (.int .i64 p.a) (.int .i64 p.b) (.int .i64 p.c) (.int .i64 d)
          have l0 := ((((k0).other (C := wc3.heap.size) 0 (.int .i64 p.a) (by omega)).other (C := wc3.heap.size) 1 (.int .i64 p.b) (by omega)).other (C := wc3.heap.size) 2 (.int .i64 p.c) (by omega)).other (C := wc3.heap.size) 3 (.int .i64 d) (by omega)
          have l1 := ((((k1).other (C := wc3.heap.size) 0 (.int .i64 p.a) (by omega)).other (C := wc3.heap.size) 1 (.int .i64 p.b) (by omega)).other (C := wc3.heap.size) 2 (.int .i64 p.c) (by omega)).other (C := wc3.heap.size) 3 (.int .i64 d) (by omega)
          have lS := ((((kS).other (C := wc3.heap.size) 0 (.int .i64 p.a) (by omega)).other (C := wc3.heap.size) 1 (.int .i64 p.b) (by omega)).other (C := wc3.heap.size) 2 (.int .i64 p.c) (by omega)).other (C := wc3.heap.size) 3 (.int .i64 d) (by omega)
          have hbX := ((((hb.setCell (p := ⟨wc3.heap.size, 0, none⟩) (by simp only; omega) (.int .i64 p.a)).setCell (p := ⟨wc3.heap.size, 1, none⟩) (by simp only; omega) (.int .i64 p.b)).setCell (p := ⟨wc3.heap.size, 2, none⟩) (by simp only; omega) (.int .i64 p.c)).setCell (p := ⟨wc3.heap.size, 3, none⟩) (by simp only; omega) (.int .i64 d))
          cases tt
          · have hE2 : E = 2 := HPT.out.2
            have hT0 : T = ⟨0, 0, 0, 0⟩ := HPT.out.1
            subst hE2
            have HQ := Lib.hid (plainQ_true (v := ⟨p.a, p.b, p.c, d⟩) (fun h => absurd h (by decide)) (fun _ => hT0) : plainQ T 2 2 ⟨p.a, p.b, p.c, d⟩ = true)
            clear hT0
            go_wp2_with fail
            go_meet
            case rel => exact ⟨rfl, ⟨_, HQ, LX⟩, l0, l1, lS, hbX⟩
          · have hE2 : E = 0 := HPT.out.2
            have hT0 : T = ⟨p.a, p.b, p.c, d⟩ := HPT.out.1
            subst hE2
            have HQ := Lib.hid (plainQ_true (v := ⟨p.a, p.b, p.c, d⟩) (fun _ => hT0) (fun h => absurd rfl h) : plainQ T 0 0 ⟨p.a, p.b, p.c, d⟩ = true)
            clear hT0
            go_wp2_with fail
            go_meet
            case rel => exact ⟨rfl, ⟨_, HQ, LX⟩, l0, l1, lS, hbX⟩
        · have hW0 : (W1 == 0) = false := by simp [h0]
          have HQ := Lib.hid (plainQ_true (v := ⟨0, 0, 0, 0⟩) (fun h => absurd (hEW ▸ h) h0) (fun _ => hT0) : plainQ T E E ⟨0, 0, 0, 0⟩ = true)
          have HEW := Lib.hid hEW
          clear h0 hT0 hEW
          go_wp2_with fail
          go_meet
          case rel => exact ⟨congrArg (Value.int .i64) HEW.out.symm, ⟨_, HQ, kX⟩, k0, k1, kS, hb⟩
      case rest =>
      clear k0_0 k0_1 k0_2 k0_3 k1_0 k1_1 k1_2 kS_0 kS_1 kS_2 kS_3 kX_0 kX_f0 kX_1 kX_f1 kX_2 kX_f2 kX_3 kX_f3 k0 k1 kS kX hb HCS HPE
      obtain ⟨rfl, ⟨X, HQ, kX⟩, k0, k1, kS, hb⟩ := hcut
      have hpl := fun W => plain_any T X E E W
      rw [HQ.out] at hpl
      have HPLN := Lib.hid hpl
      clear hpl HQ
      have k0_0 := k0.cell (i := 0) rfl
      have k0_f0 := k0.frozen 0
      have k0_1 := k0.cell (i := 1) rfl
      have k0_f1 := k0.frozen 1
      have k0_2 := k0.cell (i := 2) rfl
      have k0_f2 := k0.frozen 2
      have k0_3 := k0.cell (i := 3) rfl
      have k0_f3 := k0.frozen 3
      have k1_0 := k1.cell (i := 0) rfl
      have k1_1 := k1.cell (i := 1) rfl
      have k1_2 := k1.cell (i := 2) rfl
      have kS_0 := kS.cell (i := 0) rfl
      have kS_1 := kS.cell (i := 1) rfl
      have kS_2 := kS.cell (i := 2) rfl
      have kS_3 := kS.cell (i := 3) rfl
      have kX_0 := kX.cell (i := 0) rfl
      have kX_1 := kX.cell (i := 1) rfl
      have kX_2 := kX.cell (i := 2) rfl
      have kX_3 := kX.cell (i := 3) rfl
      go_wp2_with fail
      refine (HPLN.out _).mono ?_
      rintro e' wc41 ⟨rfl, hc41⟩
      clear k0_0 k0_f0 k0_1 k0_f1 k0_2 k0_f2 k0_3 k0_f3 k1_0 k1_1 k1_2 kS_0 kS_1 kS_2 kS_3 kX_0 kX_1 kX_2 kX_3
      have k0 := k0.kept hc41
      have k1 := k1.kept hc41
      have kS := kS.kept hc41
      have kX := kX.kept hc41
      have hb := hb.trans (hc41.mono hb.size)
      clear hc41
      have k0_0 := k0.cell (i := 0) rfl
      have k0_f0 := k0.frozen 0
      have k0_1 := k0.cell (i := 1) rfl
      have k0_f1 := k0.frozen 1
      have k0_2 := k0.cell (i := 2) rfl
      have k0_f2 := k0.frozen 2
      have k0_3 := k0.cell (i := 3) rfl
      have k0_f3 := k0.frozen 3
      have k1_0 := k1.cell (i := 0) rfl
      have k1_1 := k1.cell (i := 1) rfl
      have k1_2 := k1.cell (i := 2) rfl
      have kS_0 := kS.cell (i := 0) rfl
      have kS_1 := kS.cell (i := 1) rfl
      have kS_2 := kS.cell (i := 2) rfl
      have kS_3 := kS.cell (i := 3) rfl
      have kX_0 := kX.cell (i := 0) rfl
      have kX_1 := kX.cell (i := 1) rfl
      have kX_2 := kX.cell (i := 2) rfl
      have kX_3 := kX.cell (i := 3) rfl
      go_wp2_with fail
      refine (HTM.out _).mono ?_
      rintro e' wc42 ⟨rfl, hc42⟩
      clear k0_0 k0_f0 k0_1 k0_f1 k0_2 k0_f2 k0_3 k0_f3 k1_0 k1_1 k1_2 kS_0 kS_1 kS_2 kS_3 kX_0 kX_1 kX_2 kX_3
      have k0 := k0.kept hc42
      have k1 := k1.kept hc42
      have kS := kS.kept hc42
      have kX := kX.kept hc42
      have hb := hb.trans (hc42.mono hb.size)
      clear hc42
      have k0_0 := k0.cell (i := 0) rfl
      have k0_f0 := k0.frozen 0
      have k0_1 := k0.cell (i := 1) rfl
      have k0_f1 := k0.frozen 1
      have k0_2 := k0.cell (i := 2) rfl
      have k0_f2 := k0.frozen 2
      have k0_3 := k0.cell (i := 3) rfl
      have k0_f3 := k0.frozen 3
      have k1_0 := k1.cell (i := 0) rfl
      have k1_1 := k1.cell (i := 1) rfl
      have k1_2 := k1.cell (i := 2) rfl
      have kS_0 := kS.cell (i := 0) rfl
      have kS_1 := kS.cell (i := 1) rfl
      have kS_2 := kS.cell (i := 2) rfl
      have kS_3 := kS.cell (i := 3) rfl
      have kX_0 := kX.cell (i := 0) rfl
      have kX_1 := kX.cell (i := 1) rfl
      have kX_2 := kX.cell (i := 2) rfl
      have kX_3 := kX.cell (i := 3) rfl
      clear HPLN
      clear k0_0 k0_f0 k0_1 k0_f1 k0_2 k0_f2 k0_3 k0_f3 k1_0 k1_1 k1_2 kS_0 kS_1 kS_2 kS_3 kX_0 kX_1 kX_2 kX_3
      have f0 := k0.frozen 0
      have f1 := k0.frozen 1
      have f2 := k0.frozen 2
      have f3 := k0.frozen 3
      have g0 := k0.cell (i := 0) rfl
      have g1 := k0.cell (i := 1) rfl
      have g2 := k0.cell (i := 2) rfl
      have g3 := k0.cell (i := 3) rfl
      obtain ⟨wt, hwt⟩ : ∃ w', ((((wc42.setCell ⟨w.heap.size, 0, none⟩ (.int .i64 (tameV p 1000).a)).setCell ⟨w.heap.size, 1, none⟩ (.int .i64 (tameV p 1000).b)).setCell ⟨w.heap.size, 2, none⟩ (.int .i64 (tameV p 1000).c)).setCell ⟨w.heap.size, 3, none⟩ (.int .i64 (tameV p 1000).d)) = w' := ⟨_, rfl⟩
      have kt0 : Blk wt w.heap.size #[.int .i64 (tameV p 1000).a, .int .i64 (tameV p 1000).b, .int .i64 (tameV p 1000).c, .int .i64 (tameV p 1000).d] 23 := by rw [← hwt]; exact Blk.put4 k0 _ _ _ _
      have kt1 : Blk wt (w.heap.size + 1) #[.int .i64 (r 0), .int .i64 (r 1), .int .i64 (r 2)] 53 := by rw [← hwt]; exact (((k1.other (C := w.heap.size) 0 _ (by omega)).other (C := w.heap.size) 1 _ (by omega)).other (C := w.heap.size) 2 _ (by omega)).other (C := w.heap.size) 3 _ (by omega)
      have hbt : Below w.heap.size w wt := by rw [← hwt]; exact (((hb.setCell (by simp only; omega) _).setCell (by simp only; omega) _).setCell (by simp only; omega) _).setCell (by simp only; omega) _
      go_wp2_with fail
      go_loopg [13] 3 (fun gk v13 wx => ∃ (j : Nat) (s : Nat → Int), j ≤ 3 ∧ gk = 3 - j ∧ v13 = .int .i64 (j : Int) ∧ Hid (∀ k, k < 3 → InI64 (s k)) ∧ Blk wx w.heap.size #[.int .i64 (tameV p 1000).a, .int .i64 (tameV p 1000).b, .int .i64 (tameV p 1000).c, .int .i64 (tameV p 1000).d] 23 ∧ Blk wx (w.heap.size + 1) #[.int .i64 (s 0), .int .i64 (s 1), .int .i64 (s 2)] 53 ∧ Below w.heap.size w wx)
      case atStart => exact ⟨0, r, by decide, rfl, rfl, HRI.out, kt0, kt1, hbt⟩
      case round =>
        clear kt0 kt1 hbt hwt f0 f1 f2 f3 g0 g1 g2 g3 k0 k1 kS kX hb
        obtain ⟨j, s, hj, hgk2, rfl, HSI, k0, k1, hb⟩ := hrel
        have HGK2 := Lib.hid hgk2
        clear hgk2
        by_cases hj3 : j < 3
        · have hji : (j : Int) < 3 := by omega
          have c0 := int3_at k1 hj3
          have f0 := k1.frozen j
          have hvi := HSI.out j hj3
          obtain ⟨v, hv⟩ : ∃ v, s j = v := ⟨_, rfl⟩
          rw [hv] at c0 hvi
          have hin := tameC_in (v := v) (most := 1000) (by decide) (by decide)
          obtain ⟨u, hu⟩ : ∃ u, v % 18446744073709551616 = u := ⟨_, rfl⟩
          have u0 : 0 ≤ u := by omega
          obtain ⟨m, hm⟩ : ∃ m, u % 2001 = m := ⟨_, rfl⟩
          have m0 : 0 ≤ m ∧ m < 2001 := by omega
          have ht : tameC v 1000 = m - 1000 := by unfold tameC; rw [hu]; omega
          rw [ht] at hin
          have e1 : IntKind.u64.wrap v = u := by rw [IntKind.wrap_u64, hu]
          have e5 : u.tmod 2001 = m := by rw [Int.tmod_eq_emod_of_nonneg u0]; exact hm
          have e6 : IntKind.u64.wrap m = m := by rw [IntKind.wrap_u64]; omega
          have e7 : wrap64 m = m := by unfold wrap64; omega
          have e8 : wrap64 (m - 1000) = m - 1000 := by unfold wrap64; omega
          have HIN := Lib.hid hin
          clear hin ht hm hu hv hvi
          go_wp2_with fail
          go_roundg (3 - (j + 1))
          case measure => rw [HGK2.out]; omega
          case rel =>
            refine ⟨j + 1, fun k => if k = j then m - 1000 else s k, by omega, rfl, by go_num, ?_, k0.other (C := w.heap.size + 1) j _ (by omega), k1.set_eq j _ (int3_set hj3 _), hb.setCell (by simp only; omega) _⟩
            intro k hk
            show InI64 (if k = j then m - 1000 else s k)
            by_cases hkj : k = j
            · rw [if_pos hkj]; exact HIN.out
            · rw [if_neg hkj]; exact HSI.out k hk
        · obtain rfl : j = 3 := by omega
          go_wp2_with fail
          go_roundg (2 - (i + 1))
          case measure => rw [HGK.out]; omega
          case rel => exact ⟨i + 1, (tameV p 1000), s, by omega, rfl, by go_num, right_in (tame_right (by decide) (by decide)), HSI, k0, k1, hb⟩
    · have hlti : ¬ (i : Int) < 2 := by omega
      go_wp2_with fail
      refine (awake3_any _).mono ?_
      rintro e' w6 ⟨rfl, hb6⟩
      go_wp2_with fail
      go_ret
      exact ⟨rfl, hb.trans (hb6.mono hb.size)⟩

end Go.Proofs.Ytopdeakjnloemaa
