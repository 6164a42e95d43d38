/-
  PlaneSides: for every plane's and every point's four numbers the law returns true, and both arguments read as they did. No condition.
-/
import Derived.Test.YtopdeakjnloemaaRows
import Derived.ProofKit
import Derived.Laws.IdiomArrays
import Derived.Test.YtopdeakjnloemaaK1
import Derived.Test.YtopdeakjnloemaaK2
import Derived.Test.YtopdeakjnloemaaK3
import Derived.Test.YtopdeakjnloemaaK4
import Derived.Test.YtopdeakjnloemaaK5
import Derived.Test.YtopdeakjnloemaaK6
import Derived.Test.YtopdeakjnloemaaK7
import Derived.Test.YtopdeakjnloemaaK8
import Derived.Test.YtopdeakjnloemaaK9
import Derived.Test.YtopdeakjnloemaaK10
import Derived.Test.YtopdeakjnloemaaK11
import Derived.Test.YtopdeakjnloemaaK12
import Derived.Test.YtopdeakjnloemaaK13
import Derived.Test.YtopdeakjnloemaaK14
import Derived.Test.YtopdeakjnloemaaK15
import Derived.Test.YtopdeakjnloemaaK16
import Derived.Test.YtopdeakjnloemaaK17
import Derived.Test.YtopdeakjnloemaaK18
namespace Go.Proofs.Ytopdeakjnloemaa
open Go.RowKit Go.Shelf
attribute [local go_sem] Oper.semAt_some

theorem dot4 (p q : V4) : dotL p q (List.range 4) = p.a * q.a + p.b * q.b + p.c * q.c + p.d * q.d := by simp [dotL, vg, List.range, List.range.loop]

set_option maxRecDepth 100000 in
set_option maxHeartbeats 8000000 in
theorem planeSides_walk (p q : V4) (w : World) (hp : InV p) (hq : InV q) :
    Calls Try.prog 4 #[.agg #[.int .i64 p.a, .int .i64 p.b, .int .i64 p.c, .int .i64 p.d], .agg #[.int .i64 q.a, .int .i64 q.b, .int .i64 q.c, .int .i64 q.d]] w fun e w' => e = .returned (.bool true) ∧ Below w.heap.size w w' := by
  obtain ⟨w1, hw1⟩ : ∃ w1, ((w.alloc (.cells #[.int .i64 p.a, .int .i64 p.b, .int .i64 p.c, .int .i64 p.d] 23)).alloc (.cells #[.int .i64 q.a, .int .i64 q.b, .int .i64 q.c, .int .i64 q.d] 37)) = w1 := ⟨_, rfl⟩
  have hb1 : Below w.heap.size w w1 := by rw [← hw1]; exact bw2 w _ _
  have k0 : Blk w1 w.heap.size #[.int .i64 p.a, .int .i64 p.b, .int .i64 p.c, .int .i64 p.d] 23 := by rw [← hw1]; exact (Blk.new w _ _).alloc _
  have k1 : Blk w1 (w.heap.size + 1) #[.int .i64 q.a, .int .i64 q.b, .int .i64 q.c, .int .i64 q.d] 37 := by rw [← hw1]; exact Blk.new' _ _ _ (by simp)
  go_enter Try.func4, Try.ntmps4
  go_wp2_with fail
  go_loopg [5] 2 (fun gk v5 wr => ∃ (i : Nat) (p q : V4), i ≤ 2 ∧ gk = 2 - i ∧ v5 = .int .i64 (i : Int) ∧ InV p ∧ InV q ∧ Blk wr w.heap.size #[.int .i64 p.a, .int .i64 p.b, .int .i64 p.c, .int .i64 p.d] 23 ∧ Blk wr (w.heap.size + 1) #[.int .i64 q.a, .int .i64 q.b, .int .i64 q.c, .int .i64 q.d] 37 ∧ Below w.heap.size w wr)
  case atStart => exact ⟨0, p, q, by decide, rfl, rfl, hp, hq, k0, k1, hb1⟩
  case round =>
    clear hp hq k0 k1 hb1 hw1
    obtain ⟨i, p, q, hi, hgk, rfl, hp, hq, k0, k1, hb⟩ := hrel
    have HGK := Lib.hid hgk
    clear hgk
    by_cases hlt : i < 2
    · have hlti : (i : Int) < 2 := by omega
      have hsd := fun W => side_any p q W hp hq
      have hso := fun W => sound3_any q W hq
      have hbad := fun W b hR => bad1 p W b hp hR
      have HTM := Lib.hid (fun W => tame_any p 5 W hp (by decide) (by decide))
      have HPL := Lib.hid (fun W => place_any q W hq)
      have hside := fun (h1 : RightQ p) (h2 : SoundQ q) W => side3_any p.a p.b p.c p.d q.a q.b q.c q.d W h1 h2
      have c0 := k0.cell (i := 0) rfl
      have c1 := k0.cell (i := 1) rfl
      have c2 := k0.cell (i := 2) rfl
      have c3 := k0.cell (i := 3) rfl
      have d0 := k1.cell (i := 0) rfl
      have d1 := k1.cell (i := 1) rfl
      have d2 := k1.cell (i := 2) rfl
      have d3 := k1.cell (i := 3) rfl
      clear hp hq
      by_cases h1 : RightQ p
      · by_cases h2 : SoundQ q
        · have hS := hside h1 h2
          rw [← dot4] at hS
          obtain ⟨S, hSe⟩ : ∃ S, sgnI (dotL p q (List.range 4)) = S := ⟨_, rfl⟩
          have hsd' : ∀ W, Calls Try.prog 21 #[.agg #[.int .i64 p.a, .int .i64 p.b, .int .i64 p.c, .int .i64 p.d], .agg #[.int .i64 q.a, .int .i64 q.b, .int .i64 q.c, .int .i64 q.d]] W fun e w' => e = .returned (.tuple #[.int .i64 S, .int .i64 0]) ∧ Below W.heap.size W w' := fun W => by
            have h := hsd W
            rw [if_pos ⟨h1, h2⟩, decide_eq_true (show RightP p.a p.b p.c p.d from h1), decide_eq_true (show SoundP q.a q.b q.c q.d from h2), hSe] at h
            exact h
          rw [hSe] at hS
          rw [decide_eq_true h1] at hbad
          rw [decide_eq_true h2] at hso
          have HSD := Lib.hid hsd'
          have HBAD := Lib.hid (fun W b hR => hbad W b hR)
          have HSO := Lib.hid hso
          have HSI := Lib.hid hS
          clear hsd hsd' hbad hso hS hSe hside h1 h2
          go_wp2_with fail
          refine (HSD.out _).mono ?_
          rintro e' w2 ⟨rfl, hb2⟩
          have k0 := k0.kept hb2
          have k1 := k1.kept hb2
          have hb := hb.trans (hb2.mono hb.size)
          clear hb2 c0 d0 c1 d1 c2 d2 c3 d3
          have c0 := k0.cell (i := 0) rfl
          have c1 := k0.cell (i := 1) rfl
          have c2 := k0.cell (i := 2) rfl
          have c3 := k0.cell (i := 3) rfl
          have d0 := k1.cell (i := 0) rfl
          have d1 := k1.cell (i := 1) rfl
          have d2 := k1.cell (i := 2) rfl
          have d3 := k1.cell (i := 3) rfl
          obtain ⟨w3, hw3⟩ : ∃ w3, w2.alloc (.cells #[.int .i64 p.a, .int .i64 p.b, .int .i64 p.c, .int .i64 p.d] 23) = w3 := ⟨_, rfl⟩
          have hr3 : RdV w3 (some ⟨w2.heap.size, 0, none⟩) [p] := by rw [← hw3]; exact planes1 w2 p.a p.b p.c p.d _
          have hb3 : Below w2.heap.size w2 w3 := by rw [← hw3]; exact (Below.refl _ _).alloc (Nat.le_refl _) _
          have HBD := Lib.hid (HBAD.out _ _ hr3)
          clear hr3
          go_wp2_with fail
          refine HBD.out.mono ?_
          rintro e' w4 ⟨rfl, hb4⟩
          have hb34 := hb3.trans (hb4.mono hb3.size)
          have k0 := k0.kept hb34
          have k1 := k1.kept hb34
          have hb := hb.trans (hb34.mono hb.size)
          clear hw3 hb3 hb4 hb34 HBD c0 d0 c1 d1 c2 d2 c3 d3
          have c0 := k0.cell (i := 0) rfl
          have c1 := k0.cell (i := 1) rfl
          have c2 := k0.cell (i := 2) rfl
          have c3 := k0.cell (i := 3) rfl
          have d0 := k1.cell (i := 0) rfl
          have d1 := k1.cell (i := 1) rfl
          have d2 := k1.cell (i := 2) rfl
          have d3 := k1.cell (i := 3) rfl
          rw [show errE true 30 = 0 from rfl]
          go_wp2_with fail
          refine (HSO.out _).mono ?_
          rintro e' w5 ⟨rfl, hb5⟩
          have k0 := k0.kept hb5
          have k1 := k1.kept hb5
          have hb := hb.trans (hb5.mono hb.size)
          clear hb5 c0 d0 c1 d1 c2 d2 c3 d3
          have c0 := k0.cell (i := 0) rfl
          have c1 := k0.cell (i := 1) rfl
          have c2 := k0.cell (i := 2) rfl
          have c3 := k0.cell (i := 3) rfl
          have d0 := k1.cell (i := 0) rfl
          have d1 := k1.cell (i := 1) rfl
          have d2 := k1.cell (i := 2) rfl
          have d3 := k1.cell (i := 3) rfl
          go_wp2_with fail
          refine (HSI.out _).mono ?_
          rintro e' w6 ⟨rfl, hb6⟩
          have k0 := k0.kept hb6
          have k1 := k1.kept hb6
          have hb := hb.trans (hb6.mono hb.size)
          clear hb6 c0 d0 c1 d1 c2 d2 c3 d3
          have c0 := k0.cell (i := 0) rfl
          have c1 := k0.cell (i := 1) rfl
          have c2 := k0.cell (i := 2) rfl
          have c3 := k0.cell (i := 3) rfl
          have d0 := k1.cell (i := 0) rfl
          have d1 := k1.cell (i := 1) rfl
          have d2 := k1.cell (i := 2) rfl
          have d3 := k1.cell (i := 3) rfl
          clear HSD HBAD HSO HSI c0 d0 c1 d1 c2 d2 c3 d3
          go_upto_region 10 with fail
          refine wp_region_pure 4 (fun ix => match ix with | 0 => .agg #[.int .i64 p.a, .int .i64 p.b, .int .i64 p.c, .int .i64 p.d] | 1 => .agg #[.int .i64 (tameV p 5).a, .int .i64 (tameV p 5).b, .int .i64 (tameV p 5).c, .int .i64 (tameV p 5).d] | 2 => .agg #[.int .i64 q.a, .int .i64 q.b, .int .i64 q.c, .int .i64 q.d] | _ => .agg #[.int .i64 (placeV q).a, .int .i64 (placeV q).b, .int .i64 (placeV q).c, .int .i64 (placeV q).d]) (by kernel_rfl) (by kernel_rfl) (by kernel_rfl) ?_ ?_ ?_
          · decide
          · rintro ix hx f ww hS hd
            have ka := k0.kept hS
            have kb := k1.kept hS
            have a0_ := ka.cell (i := 0) rfl
            have a1_ := ka.cell (i := 1) rfl
            have a2_ := ka.cell (i := 2) rfl
            have a3_ := ka.cell (i := 3) rfl
            have b0_ := kb.cell (i := 0) rfl
            have b1_ := kb.cell (i := 1) rfl
            have b2_ := kb.cell (i := 2) rfl
            have b3_ := kb.cell (i := 3) rfl
            rcases ix with _ | _ | _ | _ | ix
            · refine wpOp_list rfl ?_
              simp only [tmOf, putAll, List.map_cons, List.map_nil, List.setIfInBounds_toArray, List.set_cons_zero, List.set_cons_succ]
              go_wp2
              simp [upd, Below.refl]
            · have g0 : f 0 = .agg #[.int .i64 p.a, .int .i64 p.b, .int .i64 p.c, .int .i64 p.d] := hd 0 (by kernel_rfl)
              refine wpOp_list rfl ?_
              simp only [tmOf, putAll, List.map_cons, List.map_nil, List.setIfInBounds_toArray, List.set_cons_zero, List.set_cons_succ]
              go_wp2_with fail
              refine (HTM.out _).mono ?_
              rintro e' wf ⟨rfl, hbf⟩
              go_wp2_with fail
              simp [upd, g0, hbf]
            · refine wpOp_list rfl ?_
              simp only [tmOf, putAll, List.map_cons, List.map_nil, List.setIfInBounds_toArray, List.set_cons_zero, List.set_cons_succ]
              go_wp2
              simp [upd, Below.refl]
            · have g2 : f 2 = .agg #[.int .i64 q.a, .int .i64 q.b, .int .i64 q.c, .int .i64 q.d] := hd 2 (by kernel_rfl)
              refine wpOp_list rfl ?_
              simp only [tmOf, putAll, List.map_cons, List.map_nil, List.setIfInBounds_toArray, List.set_cons_zero, List.set_cons_succ]
              go_wp2_with fail
              refine (HPL.out _).mono ?_
              rintro e' wf ⟨rfl, hbf⟩
              go_wp2_with fail
              simp [upd, g2, hbf]
            · omega
          · rintro f ww hS hd
            have ka := k0.kept hS
            have kb := k1.kept hS
            have hbw := hb.trans (hS.mono hb.size)
            have a0 := ka.cell (i := 0) rfl
            have a1 := ka.cell (i := 1) rfl
            have a2 := ka.cell (i := 2) rfl
            have a3 := ka.cell (i := 3) rfl
            have e0 := ka.frozen 0
            have e1 := ka.frozen 1
            have e2 := ka.frozen 2
            have e3 := ka.frozen 3
            have b0 := kb.cell (i := 0) rfl
            have b1 := kb.cell (i := 1) rfl
            have b2 := kb.cell (i := 2) rfl
            have b3 := kb.cell (i := 3) rfl
            have f0 := kb.frozen 0
            have f1 := kb.frozen 1
            have f2 := kb.frozen 2
            have f3 := kb.frozen 3
            have g1 : f 1 = .agg #[.int .i64 (tameV p 5).a, .int .i64 (tameV p 5).b, .int .i64 (tameV p 5).c, .int .i64 (tameV p 5).d] := hd 1 (by decide)
            have g3 : f 3 = .agg #[.int .i64 (placeV q).a, .int .i64 (placeV q).b, .int .i64 (placeV q).c, .int .i64 (placeV q).d] := hd 3 (by decide)
            simp only [seqW, tmOf, putAll, List.map_cons, List.map_nil, List.setIfInBounds_toArray, List.set_cons_zero, List.set_cons_succ, List.length_cons, List.length_nil]
            refine wpOp_list rfl ?_
            go_wp2
            refine wpOp_list rfl ?_
            go_wp2
            have L0 := Blk.put4 ka (.int .i64 (tameV p 5).a) (.int .i64 (tameV p 5).b) (.int .i64 (tameV p 5).c) (.int .i64 (tameV p 5).d)
            have M0 := (((kb.other (C := w.heap.size) 0 (.int .i64 (tameV p 5).a) (by omega)).other (C := w.heap.size) 1 (.int .i64 (tameV p 5).b) (by omega)).other (C := w.heap.size) 2 (.int .i64 (tameV p 5).c) (by omega)).other (C := w.heap.size) 3 (.int .i64 (tameV p 5).d) (by omega)
            have L1 := (((L0.other (C := w.heap.size + 1) 0 (.int .i64 (placeV q).a) (by omega)).other (C := w.heap.size + 1) 1 (.int .i64 (placeV q).b) (by omega)).other (C := w.heap.size + 1) 2 (.int .i64 (placeV q).c) (by omega)).other (C := w.heap.size + 1) 3 (.int .i64 (placeV q).d) (by omega)
            have M1 := Blk.put4 M0 (.int .i64 (placeV q).a) (.int .i64 (placeV q).b) (.int .i64 (placeV q).c) (.int .i64 (placeV q).d)
            have hbX := (((((((hbw.setCell (p := ⟨w.heap.size, 0, none⟩) (by simp only; omega) (.int .i64 (tameV p 5).a)).setCell (p := ⟨w.heap.size, 1, none⟩) (by simp only; omega) (.int .i64 (tameV p 5).b)).setCell (p := ⟨w.heap.size, 2, none⟩) (by simp only; omega) (.int .i64 (tameV p 5).c)).setCell (p := ⟨w.heap.size, 3, none⟩) (by simp only; omega) (.int .i64 (tameV p 5).d)).setCell (p := ⟨w.heap.size + 1, 0, none⟩) (by simp only; omega) (.int .i64 (placeV q).a)).setCell (p := ⟨w.heap.size + 1, 1, none⟩) (by simp only; omega) (.int .i64 (placeV q).b)).setCell (p := ⟨w.heap.size + 1, 2, none⟩) (by simp only; omega) (.int .i64 (placeV q).c)).setCell (p := ⟨w.heap.size + 1, 3, none⟩) (by simp only; omega) (.int .i64 (placeV q).d)
            go_roundg (2 - (i + 1))
            case measure => rw [HGK.out]; omega
            case rel => exact ⟨i + 1, tameV p 5, placeV q, by omega, rfl, by go_num, right_in (tame_right (by decide) (by decide)), sound_in (place_sound q), L1, M1, hbX⟩
        · have hsd' : ∀ W, Calls Try.prog 21 #[.agg #[.int .i64 p.a, .int .i64 p.b, .int .i64 p.c, .int .i64 p.d], .agg #[.int .i64 q.a, .int .i64 q.b, .int .i64 q.c, .int .i64 q.d]] W fun e w' => e = .returned (.tuple #[.int .i64 0, .int .i64 40]) ∧ Below W.heap.size W w' := fun W => by
            have h := hsd W
            rw [if_neg (fun h => h2 h.2), decide_eq_true (show RightP p.a p.b p.c p.d from h1), decide_eq_false (show ¬ SoundP q.a q.b q.c q.d from h2)] at h
            exact h
          rw [decide_eq_true h1] at hbad
          rw [decide_eq_false h2] at hso
          have HSD := Lib.hid hsd'
          have HBAD := Lib.hid (fun W b hR => hbad W b hR)
          have HSO := Lib.hid hso
          clear hsd hsd' hbad hso hside h1 h2
          go_wp2_with fail
          refine (HSD.out _).mono ?_
          rintro e' w2 ⟨rfl, hb2⟩
          have k0 := k0.kept hb2
          have k1 := k1.kept hb2
          have hb := hb.trans (hb2.mono hb.size)
          clear hb2 c0 d0 c1 d1 c2 d2 c3 d3
          have c0 := k0.cell (i := 0) rfl
          have c1 := k0.cell (i := 1) rfl
          have c2 := k0.cell (i := 2) rfl
          have c3 := k0.cell (i := 3) rfl
          have d0 := k1.cell (i := 0) rfl
          have d1 := k1.cell (i := 1) rfl
          have d2 := k1.cell (i := 2) rfl
          have d3 := k1.cell (i := 3) rfl
          obtain ⟨w3, hw3⟩ : ∃ w3, w2.alloc (.cells #[.int .i64 p.a, .int .i64 p.b, .int .i64 p.c, .int .i64 p.d] 23) = w3 := ⟨_, rfl⟩
          have hr3 : RdV w3 (some ⟨w2.heap.size, 0, none⟩) [p] := by rw [← hw3]; exact planes1 w2 p.a p.b p.c p.d _
          have hb3 : Below w2.heap.size w2 w3 := by rw [← hw3]; exact (Below.refl _ _).alloc (Nat.le_refl _) _
          have HBD := Lib.hid (HBAD.out _ _ hr3)
          clear hr3
          go_wp2_with fail
          refine HBD.out.mono ?_
          rintro e' w4 ⟨rfl, hb4⟩
          have hb34 := hb3.trans (hb4.mono hb3.size)
          have k0 := k0.kept hb34
          have k1 := k1.kept hb34
          have hb := hb.trans (hb34.mono hb.size)
          clear hw3 hb3 hb4 hb34 HBD c0 d0 c1 d1 c2 d2 c3 d3
          have c0 := k0.cell (i := 0) rfl
          have c1 := k0.cell (i := 1) rfl
          have c2 := k0.cell (i := 2) rfl
          have c3 := k0.cell (i := 3) rfl
          have d0 := k1.cell (i := 0) rfl
          have d1 := k1.cell (i := 1) rfl
          have d2 := k1.cell (i := 2) rfl
          have d3 := k1.cell (i := 3) rfl
          rw [show errE true 30 = 0 from rfl]
          go_wp2_with fail
          refine (HSO.out _).mono ?_
          rintro e' w5 ⟨rfl, hb5⟩
          have k0 := k0.kept hb5
          have k1 := k1.kept hb5
          have hb := hb.trans (hb5.mono hb.size)
          clear hb5 c0 d0 c1 d1 c2 d2 c3 d3
          have c0 := k0.cell (i := 0) rfl
          have c1 := k0.cell (i := 1) rfl
          have c2 := k0.cell (i := 2) rfl
          have c3 := k0.cell (i := 3) rfl
          have d0 := k1.cell (i := 0) rfl
          have d1 := k1.cell (i := 1) rfl
          have d2 := k1.cell (i := 2) rfl
          have d3 := k1.cell (i := 3) rfl
          clear HSD HBAD HSO c0 d0 c1 d1 c2 d2 c3 d3
          go_upto_region 10 with fail
          refine wp_region_pure 4 (fun ix => match ix with | 0 => .agg #[.int .i64 p.a, .int .i64 p.b, .int .i64 p.c, .int .i64 p.d] | 1 => .agg #[.int .i64 (tameV p 5).a, .int .i64 (tameV p 5).b, .int .i64 (tameV p 5).c, .int .i64 (tameV p 5).d] | 2 => .agg #[.int .i64 q.a, .int .i64 q.b, .int .i64 q.c, .int .i64 q.d] | _ => .agg #[.int .i64 (placeV q).a, .int .i64 (placeV q).b, .int .i64 (placeV q).c, .int .i64 (placeV q).d]) (by kernel_rfl) (by kernel_rfl) (by kernel_rfl) ?_ ?_ ?_
          · decide
          · rintro ix hx f ww hS hd
            have ka := k0.kept hS
            have kb := k1.kept hS
            have a0_ := ka.cell (i := 0) rfl
            have a1_ := ka.cell (i := 1) rfl
            have a2_ := ka.cell (i := 2) rfl
            have a3_ := ka.cell (i := 3) rfl
            have b0_ := kb.cell (i := 0) rfl
            have b1_ := kb.cell (i := 1) rfl
            have b2_ := kb.cell (i := 2) rfl
            have b3_ := kb.cell (i := 3) rfl
            rcases ix with _ | _ | _ | _ | ix
            · refine wpOp_list rfl ?_
              simp only [tmOf, putAll, List.map_cons, List.map_nil, List.setIfInBounds_toArray, List.set_cons_zero, List.set_cons_succ]
              go_wp2
              simp [upd, Below.refl]
            · have g0 : f 0 = .agg #[.int .i64 p.a, .int .i64 p.b, .int .i64 p.c, .int .i64 p.d] := hd 0 (by kernel_rfl)
              refine wpOp_list rfl ?_
              simp only [tmOf, putAll, List.map_cons, List.map_nil, List.setIfInBounds_toArray, List.set_cons_zero, List.set_cons_succ]
              go_wp2_with fail
              refine (HTM.out _).mono ?_
              rintro e' wf ⟨rfl, hbf⟩
              go_wp2_with fail
              simp [upd, g0, hbf]
            · refine wpOp_list rfl ?_
              simp only [tmOf, putAll, List.map_cons, List.map_nil, List.setIfInBounds_toArray, List.set_cons_zero, List.set_cons_succ]
              go_wp2
              simp [upd, Below.refl]
            · have g2 : f 2 = .agg #[.int .i64 q.a, .int .i64 q.b, .int .i64 q.c, .int .i64 q.d] := hd 2 (by kernel_rfl)
              refine wpOp_list rfl ?_
              simp only [tmOf, putAll, List.map_cons, List.map_nil, List.setIfInBounds_toArray, List.set_cons_zero, List.set_cons_succ]
              go_wp2_with fail
              refine (HPL.out _).mono ?_
              rintro e' wf ⟨rfl, hbf⟩
              go_wp2_with fail
              simp [upd, g2, hbf]
            · omega
          · rintro f ww hS hd
            have ka := k0.kept hS
            have kb := k1.kept hS
            have hbw := hb.trans (hS.mono hb.size)
            have a0 := ka.cell (i := 0) rfl
            have a1 := ka.cell (i := 1) rfl
            have a2 := ka.cell (i := 2) rfl
            have a3 := ka.cell (i := 3) rfl
            have e0 := ka.frozen 0
            have e1 := ka.frozen 1
            have e2 := ka.frozen 2
            have e3 := ka.frozen 3
            have b0 := kb.cell (i := 0) rfl
            have b1 := kb.cell (i := 1) rfl
            have b2 := kb.cell (i := 2) rfl
            have b3 := kb.cell (i := 3) rfl
            have f0 := kb.frozen 0
            have f1 := kb.frozen 1
            have f2 := kb.frozen 2
            have f3 := kb.frozen 3
            have g1 : f 1 = .agg #[.int .i64 (tameV p 5).a, .int .i64 (tameV p 5).b, .int .i64 (tameV p 5).c, .int .i64 (tameV p 5).d] := hd 1 (by decide)
            have g3 : f 3 = .agg #[.int .i64 (placeV q).a, .int .i64 (placeV q).b, .int .i64 (placeV q).c, .int .i64 (placeV q).d] := hd 3 (by decide)
            simp only [seqW, tmOf, putAll, List.map_cons, List.map_nil, List.setIfInBounds_toArray, List.set_cons_zero, List.set_cons_succ, List.length_cons, List.length_nil]
            refine wpOp_list rfl ?_
            go_wp2
            refine wpOp_list rfl ?_
            go_wp2
            have L0 := Blk.put4 ka (.int .i64 (tameV p 5).a) (.int .i64 (tameV p 5).b) (.int .i64 (tameV p 5).c) (.int .i64 (tameV p 5).d)
            have M0 := (((kb.other (C := w.heap.size) 0 (.int .i64 (tameV p 5).a) (by omega)).other (C := w.heap.size) 1 (.int .i64 (tameV p 5).b) (by omega)).other (C := w.heap.size) 2 (.int .i64 (tameV p 5).c) (by omega)).other (C := w.heap.size) 3 (.int .i64 (tameV p 5).d) (by omega)
            have L1 := (((L0.other (C := w.heap.size + 1) 0 (.int .i64 (placeV q).a) (by omega)).other (C := w.heap.size + 1) 1 (.int .i64 (placeV q).b) (by omega)).other (C := w.heap.size + 1) 2 (.int .i64 (placeV q).c) (by omega)).other (C := w.heap.size + 1) 3 (.int .i64 (placeV q).d) (by omega)
            have M1 := Blk.put4 M0 (.int .i64 (placeV q).a) (.int .i64 (placeV q).b) (.int .i64 (placeV q).c) (.int .i64 (placeV q).d)
            have hbX := (((((((hbw.setCell (p := ⟨w.heap.size, 0, none⟩) (by simp only; omega) (.int .i64 (tameV p 5).a)).setCell (p := ⟨w.heap.size, 1, none⟩) (by simp only; omega) (.int .i64 (tameV p 5).b)).setCell (p := ⟨w.heap.size, 2, none⟩) (by simp only; omega) (.int .i64 (tameV p 5).c)).setCell (p := ⟨w.heap.size, 3, none⟩) (by simp only; omega) (.int .i64 (tameV p 5).d)).setCell (p := ⟨w.heap.size + 1, 0, none⟩) (by simp only; omega) (.int .i64 (placeV q).a)).setCell (p := ⟨w.heap.size + 1, 1, none⟩) (by simp only; omega) (.int .i64 (placeV q).b)).setCell (p := ⟨w.heap.size + 1, 2, none⟩) (by simp only; omega) (.int .i64 (placeV q).c)).setCell (p := ⟨w.heap.size + 1, 3, none⟩) (by simp only; omega) (.int .i64 (placeV q).d)
            go_roundg (2 - (i + 1))
            case measure => rw [HGK.out]; omega
            case rel => exact ⟨i + 1, tameV p 5, placeV q, by omega, rfl, by go_num, right_in (tame_right (by decide) (by decide)), sound_in (place_sound q), L1, M1, hbX⟩
      · have hsd' : ∀ W, Calls Try.prog 21 #[.agg #[.int .i64 p.a, .int .i64 p.b, .int .i64 p.c, .int .i64 p.d], .agg #[.int .i64 q.a, .int .i64 q.b, .int .i64 q.c, .int .i64 q.d]] W fun e w' => e = .returned (.tuple #[.int .i64 0, .int .i64 30]) ∧ Below W.heap.size W w' := fun W => by
          have h := hsd W
          rw [if_neg (fun h => h1 h.1), decide_eq_false (show ¬ RightP p.a p.b p.c p.d from h1)] at h
          exact h
        rw [decide_eq_false h1] at hbad
        have HSD := Lib.hid hsd'
        have HBAD := Lib.hid (fun W b hR => hbad W b hR)
        clear hsd hsd' hbad hso hside h1
        go_wp2_with fail
        refine (HSD.out _).mono ?_
        rintro e' w2 ⟨rfl, hb2⟩
        have k0 := k0.kept hb2
        have k1 := k1.kept hb2
        have hb := hb.trans (hb2.mono hb.size)
        clear hb2 c0 d0 c1 d1 c2 d2 c3 d3
        have c0 := k0.cell (i := 0) rfl
        have c1 := k0.cell (i := 1) rfl
        have c2 := k0.cell (i := 2) rfl
        have c3 := k0.cell (i := 3) rfl
        have d0 := k1.cell (i := 0) rfl
        have d1 := k1.cell (i := 1) rfl
        have d2 := k1.cell (i := 2) rfl
        have d3 := k1.cell (i := 3) rfl
        obtain ⟨w3, hw3⟩ : ∃ w3, w2.alloc (.cells #[.int .i64 p.a, .int .i64 p.b, .int .i64 p.c, .int .i64 p.d] 23) = w3 := ⟨_, rfl⟩
        have hr3 : RdV w3 (some ⟨w2.heap.size, 0, none⟩) [p] := by rw [← hw3]; exact planes1 w2 p.a p.b p.c p.d _
        have hb3 : Below w2.heap.size w2 w3 := by rw [← hw3]; exact (Below.refl _ _).alloc (Nat.le_refl _) _
        have HBD := Lib.hid (HBAD.out _ _ hr3)
        clear hr3
        go_wp2_with fail
        refine HBD.out.mono ?_
        rintro e' w4 ⟨rfl, hb4⟩
        have hb34 := hb3.trans (hb4.mono hb3.size)
        have k0 := k0.kept hb34
        have k1 := k1.kept hb34
        have hb := hb.trans (hb34.mono hb.size)
        clear hw3 hb3 hb4 hb34 HBD c0 d0 c1 d1 c2 d2 c3 d3
        have c0 := k0.cell (i := 0) rfl
        have c1 := k0.cell (i := 1) rfl
        have c2 := k0.cell (i := 2) rfl
        have c3 := k0.cell (i := 3) rfl
        have d0 := k1.cell (i := 0) rfl
        have d1 := k1.cell (i := 1) rfl
        have d2 := k1.cell (i := 2) rfl
        have d3 := k1.cell (i := 3) rfl
        rw [show errE false 30 = 30 from rfl]
        clear HSD HBAD c0 d0 c1 d1 c2 d2 c3 d3
        go_upto_region 10 with fail
        refine wp_region_pure 4 (fun ix => match ix with | 0 => .agg #[.int .i64 p.a, .int .i64 p.b, .int .i64 p.c, .int .i64 p.d] | 1 => .agg #[.int .i64 (tameV p 5).a, .int .i64 (tameV p 5).b, .int .i64 (tameV p 5).c, .int .i64 (tameV p 5).d] | 2 => .agg #[.int .i64 q.a, .int .i64 q.b, .int .i64 q.c, .int .i64 q.d] | _ => .agg #[.int .i64 (placeV q).a, .int .i64 (placeV q).b, .int .i64 (placeV q).c, .int .i64 (placeV q).d]) (by kernel_rfl) (by kernel_rfl) (by kernel_rfl) ?_ ?_ ?_
        · decide
        · rintro ix hx f ww hS hd
          have ka := k0.kept hS
          have kb := k1.kept hS
          have a0_ := ka.cell (i := 0) rfl
          have a1_ := ka.cell (i := 1) rfl
          have a2_ := ka.cell (i := 2) rfl
          have a3_ := ka.cell (i := 3) rfl
          have b0_ := kb.cell (i := 0) rfl
          have b1_ := kb.cell (i := 1) rfl
          have b2_ := kb.cell (i := 2) rfl
          have b3_ := kb.cell (i := 3) rfl
          rcases ix with _ | _ | _ | _ | ix
          · refine wpOp_list rfl ?_
            simp only [tmOf, putAll, List.map_cons, List.map_nil, List.setIfInBounds_toArray, List.set_cons_zero, List.set_cons_succ]
            go_wp2
            simp [upd, Below.refl]
          · have g0 : f 0 = .agg #[.int .i64 p.a, .int .i64 p.b, .int .i64 p.c, .int .i64 p.d] := hd 0 (by kernel_rfl)
            refine wpOp_list rfl ?_
            simp only [tmOf, putAll, List.map_cons, List.map_nil, List.setIfInBounds_toArray, List.set_cons_zero, List.set_cons_succ]
            go_wp2_with fail
            refine (HTM.out _).mono ?_
            rintro e' wf ⟨rfl, hbf⟩
            go_wp2_with fail
            simp [upd, g0, hbf]
          · refine wpOp_list rfl ?_
            simp only [tmOf, putAll, List.map_cons, List.map_nil, List.setIfInBounds_toArray, List.set_cons_zero, List.set_cons_succ]
            go_wp2
            simp [upd, Below.refl]
          · have g2 : f 2 = .agg #[.int .i64 q.a, .int .i64 q.b, .int .i64 q.c, .int .i64 q.d] := hd 2 (by kernel_rfl)
            refine wpOp_list rfl ?_
            simp only [tmOf, putAll, List.map_cons, List.map_nil, List.setIfInBounds_toArray, List.set_cons_zero, List.set_cons_succ]
            go_wp2_with fail
            refine (HPL.out _).mono ?_
            rintro e' wf ⟨rfl, hbf⟩
            go_wp2_with fail
            simp [upd, g2, hbf]
          · omega
        · rintro f ww hS hd
          have ka := k0.kept hS
          have kb := k1.kept hS
          have hbw := hb.trans (hS.mono hb.size)
          have a0 := ka.cell (i := 0) rfl
          have a1 := ka.cell (i := 1) rfl
          have a2 := ka.cell (i := 2) rfl
          have a3 := ka.cell (i := 3) rfl
          have e0 := ka.frozen 0
          have e1 := ka.frozen 1
          have e2 := ka.frozen 2
          have e3 := ka.frozen 3
          have b0 := kb.cell (i := 0) rfl
          have b1 := kb.cell (i := 1) rfl
          have b2 := kb.cell (i := 2) rfl
          have b3 := kb.cell (i := 3) rfl
          have f0 := kb.frozen 0
          have f1 := kb.frozen 1
          have f2 := kb.frozen 2
          have f3 := kb.frozen 3
          have g1 : f 1 = .agg #[.int .i64 (tameV p 5).a, .int .i64 (tameV p 5).b, .int .i64 (tameV p 5).c, .int .i64 (tameV p 5).d] := hd 1 (by decide)
          have g3 : f 3 = .agg #[.int .i64 (placeV q).a, .int .i64 (placeV q).b, .int .i64 (placeV q).c, .int .i64 (placeV q).d] := hd 3 (by decide)
          simp only [seqW, tmOf, putAll, List.map_cons, List.map_nil, List.setIfInBounds_toArray, List.set_cons_zero, List.set_cons_succ, List.length_cons, List.length_nil]
          refine wpOp_list rfl ?_
          go_wp2
          refine wpOp_list rfl ?_
          go_wp2
          have L0 := Blk.put4 ka (.int .i64 (tameV p 5).a) (.int .i64 (tameV p 5).b) (.int .i64 (tameV p 5).c) (.int .i64 (tameV p 5).d)
          have M0 := (((kb.other (C := w.heap.size) 0 (.int .i64 (tameV p 5).a) (by omega)).other (C := w.heap.size) 1 (.int .i64 (tameV p 5).b) (by omega)).other (C := w.heap.size) 2 (.int .i64 (tameV p 5).c) (by omega)).other (C := w.heap.size) 3 (.int .i64 (tameV p 5).d) (by omega)
          have L1 := (((L0.other (C := w.heap.size + 1) 0 (.int .i64 (placeV q).a) (by omega)).other (C := w.heap.size + 1) 1 (.int .i64 (placeV q).b) (by omega)).other (C := w.heap.size + 1) 2 (.int .i64 (placeV q).c) (by omega)).other (C := w.heap.size + 1) 3 (.int .i64 (placeV q).d) (by omega)
          have M1 := Blk.put4 M0 (.int .i64 (placeV q).a) (.int .i64 (placeV q).b) (.int .i64 (placeV q).c) (.int .i64 (placeV q).d)
          have hbX := (((((((hbw.setCell (p := ⟨w.heap.size, 0, none⟩) (by simp only; omega) (.int .i64 (tameV p 5).a)).setCell (p := ⟨w.heap.size, 1, none⟩) (by simp only; omega) (.int .i64 (tameV p 5).b)).setCell (p := ⟨w.heap.size, 2, none⟩) (by simp only; omega) (.int .i64 (tameV p 5).c)).setCell (p := ⟨w.heap.size, 3, none⟩) (by simp only; omega) (.int .i64 (tameV p 5).d)).setCell (p := ⟨w.heap.size + 1, 0, none⟩) (by simp only; omega) (.int .i64 (placeV q).a)).setCell (p := ⟨w.heap.size + 1, 1, none⟩) (by simp only; omega) (.int .i64 (placeV q).b)).setCell (p := ⟨w.heap.size + 1, 2, none⟩) (by simp only; omega) (.int .i64 (placeV q).c)).setCell (p := ⟨w.heap.size + 1, 3, none⟩) (by simp only; omega) (.int .i64 (placeV q).d)
          go_roundg (2 - (i + 1))
          case measure => rw [HGK.out]; omega
          case rel => exact ⟨i + 1, tameV p 5, placeV q, by omega, rfl, by go_num, right_in (tame_right (by decide) (by decide)), sound_in (place_sound q), L1, M1, hbX⟩
    · have hlti : ¬ (i : Int) < 2 := by omega
      go_wp2_with fail
      refine (awake3_any _).mono ?_
      rintro e' w6 ⟨rfl, hb6⟩
      go_wp2_with fail
      go_ret
      exact ⟨rfl, hb.trans (hb6.mono hb.size)⟩

end Go.Proofs.Ytopdeakjnloemaa

namespace Go.Proofs.Ytopdeakjnloemaa
open Go Go.ChangeShapes Go.WideShapes Go.ChangeAt Go.WideMaps Go.WideElems Go.RowKit Go.ChangeMaps

theorem Try.ownP : ownKnob Try.prog.godebug = none := by kernel_rfl
theorem Try.laidOutP : laidOutB Try.prog = true := by kernel_rfl
theorem Try.cellsI64 : Try.prog.cellsOf 2 = 1 := by kernel_rfl

theorem inI64_wf {n : Int} (h : (Lit.int .i64 n).wf = true) : InI64 n := by
  unfold InI64
  have h1 : IntKind.i64.min = -9223372036854775808 := by decide
  have h2 : IntKind.i64.max = 9223372036854775807 := by decide
  simp [Lit.wf, h1, h2] at h
  omega

set_option maxRecDepth 100000 in
/-- Four int64 among the arguments. -/
theorem open_four {H : Type} {enc : TypeId × Value → H} {W : World} {base : Nat} {t : TypeId} {v : Value} {d : DataW H} {p : List MemPlace} {sp : Nat → Bool} (ht : Try.prog.underlying t = some (.array 4 2)) (hc : Try.prog.cellsOf t = 4) (hv : Value.okWide Try.prog W .any base t v) (hd : DataW.Trod enc Try.prog W 0 sp true t v d p) : ∃ q : V4, v = .agg #[.int .i64 q.a, .int .i64 q.b, .int .i64 q.c, .int .i64 q.d] ∧ InV q := by
  obtain ⟨cs, rfl, hsz, _⟩ : ∃ cs, v = .agg cs ∧ cs.size = Try.prog.cellsOf t ∧ Row.okWide Try.prog W .any base t cs := by
    simpa [Value.okWide, ht] using hv
  rw [hc] at hsz
  obtain ⟨l⟩ := cs
  have hl : l.length = 4 := hsz
  match l, hl with
  | [c0, c1, c2, c3], _ =>
    obtain ⟨fuel, hf⟩ := hd
    obtain ⟨z0, z1, z2, z3, m, _, hy0, hy1, hy2, hy3⟩ := trod_array4 ht Try.cellsI64 (by simpa [Value.cells] using hf)
    obtain ⟨x0, e0, _, w0⟩ := DataW.trod_int Try.underlying2 hy0
    obtain ⟨x1, e1, _, w1⟩ := DataW.trod_int Try.underlying2 hy1
    obtain ⟨x2, e2, _, w2⟩ := DataW.trod_int Try.underlying2 hy2
    obtain ⟨x3, e3, _, w3⟩ := DataW.trod_int Try.underlying2 hy3
    simp at e0 e1 e2 e3
    subst e0 e1 e2 e3
    exact ⟨⟨x0, x1, x2, x3⟩, rfl, inI64_wf w0, inI64_wf w1, inI64_wf w2, inI64_wf w3⟩

end Go.Proofs.Ytopdeakjnloemaa

namespace Go.Proofs.Ytopdeakjnloemaa
open Go Go.ChangeShapes Go.WideShapes Go.ChangeAt Go.WideMaps Go.WideElems Go.RowKit Go.ChangeMaps

set_option maxRecDepth 100000 in
theorem planeSides_lifted (os : Os) (started : os.Started) (H : Type) (enc : TypeId × Value → H) :
    ReturnsInHanded {} Try.checked os 4 .any (Rows.planeSidesSpec.pre6 enc Try.prog Try.f4 Rows.planeSidesRow.domain false) (Rows.planeSidesSpec.post enc Try.prog Try.f4 false true false false) := by
  refine returnsInHanded_of_change (C := Try.checked) Try.ownP started (by kernel_rfl) Try.func4
    (ChangeSpec.witness6 (enc := enc) (C := Try.checked) false ⟨#[], #[.agg #[.int .i64 0, .int .i64 0, .int .i64 0, .int .i64 0], .agg #[.int .i64 0, .int .i64 0, .int .i64 0, .int .i64 0]], []⟩ 8 (by kernel_rfl) (by kernel_rfl) (by kernel_rfl) (by kernel_rfl)) ?_
  intro W base args ds gs before hval0 hW _ _
  have hval : ∀ (j : Nat) t v, Try.f4.params[j]? = some t → args[j]? = some v → Value.okWide Try.prog W .any base t v := hval0
  have hW' := hW
  obtain ⟨p, q, hA0, hV, rfl, hfz, hnd⟩ := hW
  have hA : DataW.TrodAll enc Try.prog W 0 (fun _ => true) true Try.f4.params.toList args.toList ds p := hA0
  rw [Try.params4] at hA hval
  obtain ⟨v0, v1, d0, d1, p0, p1, rfl, rfl, rfl, h0, h1⟩ := trodAll_two hA
  obtain ⟨rfl, rfl⟩ := trodVars_none hV
  obtain ⟨x0, rfl, hx0⟩ := open_four Try.underlying23 (by kernel_rfl) (hval 0 23 v0 rfl rfl) h0
  obtain ⟨x1, rfl, hx1⟩ := open_four Try.underlying37 (by kernel_rfl) (hval 1 37 v1 rfl rfl) h1
  simp only [List.append_nil] at hW'
  have hlt0 : ∀ x ∈ p0, x.block < W.heap.size := fun x hx => by simpa using hW'.lt x (by simp [hx])
  have hlt1 : ∀ x ∈ p1, x.block < W.heap.size := fun x hx => by simpa using hW'.lt x (by simp [hx])
  refine (planeSides_walk x0 x1 W hx0 hx1).mono fun e W' ⟨he, hb⟩ => ?_
  subst he
  refine ⟨_, rfl, _, _, _, [], p0 ++ p1, [], hW', ?_, ?_, rfl, hb.frame _, fun h => by cases h⟩
  · exact trodAll_mk1 (shut_bool Try.underlying4 true)
  · exact trodAll_mk2 (Below.trod Try.laidOutP (by kernel_rfl) (of_decide_eq_true (by kernel_rfl)) h0 hb hlt0) (Below.trod Try.laidOutP (by kernel_rfl) (of_decide_eq_true (by kernel_rfl)) h1 hb hlt1)

theorem planeSides_holds : Rows.PlaneSidesSaid :=
  OpenClaim.holds_of_wide 4 Try.f4 rfl rfl rfl rfl rfl rfl rfl ⟨rfl, rfl, rfl, rfl, rfl⟩ rfl rfl rfl rfl rfl (by kernel_rfl) Try.func4 (by kernel_rfl)
    (of_decide_eq_true (by kernel_rfl)) (by unfold Func.isWrapper; first | (rw [if_pos (by decide +kernel)]; kernel_rfl) | (rw [if_neg (by decide +kernel)]; exact ⟨rfl, rfl⟩))
    (fun os started H enc _ => planeSides_lifted os started H enc)
#print axioms planeSides_holds

end Go.Proofs.Ytopdeakjnloemaa
