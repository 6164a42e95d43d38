/-
  PlaneTurns, its walk.
-/
import Derived.Test.YtopdeakjnloemaaK1
import Derived.Test.YtopdeakjnloemaaK2
import Derived.Test.YtopdeakjnloemaaK3
import Derived.Test.YtopdeakjnloemaaK4
import Derived.Test.YtopdeakjnloemaaK5
import Derived.Test.YtopdeakjnloemaaK6
import Derived.Test.YtopdeakjnloemaaK7
import Derived.Test.YtopdeakjnloemaaK8
import Derived.Test.YtopdeakjnloemaaK9
import Derived.Test.YtopdeakjnloemaaK10
import Derived.Test.YtopdeakjnloemaaK11
import Derived.Test.YtopdeakjnloemaaK12
import Derived.Test.YtopdeakjnloemaaK13
import Derived.Test.YtopdeakjnloemaaK14
import Derived.Test.YtopdeakjnloemaaK15
import Derived.Test.YtopdeakjnloemaaK16
import Derived.Test.YtopdeakjnloemaaK17
import Derived.Test.YtopdeakjnloemaaK18
namespace Go.Proofs.Ytopdeakjnloemaa
open Go.RowKit Go.Shelf
attribute [local go_sem] Oper.semAt_some

set_option maxRecDepth 100000 in
set_option maxHeartbeats 8000000 in
theorem planeTurns_walk (x l0 l1 l2 : V4) (v0 v1 v2 : Int) (w : World) (hx : InV x) (hl0 : InV l0) (hl1 : InV l1) (hl2 : InV l2) (hv0 : InI64 v0) (hv1 : InI64 v1) (hv2 : InI64 v2) :
    Calls Try.prog 9 #[.agg #[.int .i64 x.a, .int .i64 x.b, .int .i64 x.c, .int .i64 x.d], .agg #[.int .i64 l0.a, .int .i64 l0.b, .int .i64 l0.c, .int .i64 l0.d, .int .i64 l1.a, .int .i64 l1.b, .int .i64 l1.c, .int .i64 l1.d, .int .i64 l2.a, .int .i64 l2.b, .int .i64 l2.c, .int .i64 l2.d], .agg #[.int .i64 v0, .int .i64 v1, .int .i64 v2]] w fun e w' => e = .returned (.bool true) ∧ Below w.heap.size w w' := by
  obtain ⟨w1, hw1⟩ : ∃ w1, (((w.alloc (.cells #[.int .i64 x.a, .int .i64 x.b, .int .i64 x.c, .int .i64 x.d] 22)).alloc (.cells #[.int .i64 l0.a, .int .i64 l0.b, .int .i64 l0.c, .int .i64 l0.d, .int .i64 l1.a, .int .i64 l1.b, .int .i64 l1.c, .int .i64 l1.d, .int .i64 l2.a, .int .i64 l2.b, .int .i64 l2.c, .int .i64 l2.d] 66)).alloc (.cells #[.int .i64 v0, .int .i64 v1, .int .i64 v2] 53)) = w1 := ⟨_, rfl⟩
  have hb : Below w.heap.size w w1 := by rw [← hw1]; exact bw3 w _ _ _
  have k0 : Blk w1 (w.heap.size) #[.int .i64 x.a, .int .i64 x.b, .int .i64 x.c, .int .i64 x.d] 22 := by rw [← hw1]; exact ((Blk.new w _ _).alloc _).alloc _
  have k1 : Blk w1 (w.heap.size + 1) #[.int .i64 l0.a, .int .i64 l0.b, .int .i64 l0.c, .int .i64 l0.d, .int .i64 l1.a, .int .i64 l1.b, .int .i64 l1.c, .int .i64 l1.d, .int .i64 l2.a, .int .i64 l2.b, .int .i64 l2.c, .int .i64 l2.d] 66 := by rw [← hw1]; exact (Blk.new' _ _ _ (by simp)).alloc _
  have k2 : Blk w1 (w.heap.size + 1 + 1) #[.int .i64 v0, .int .i64 v1, .int .i64 v2] 53 := by rw [← hw1]; exact Blk.new' _ _ _ (by simp)
  have HTM := Lib.hid (fun W => tame_any x 6 W hx (by decide) (by decide))
  obtain ⟨p, hp⟩ : ∃ p, tameV x 6 = p := ⟨_, rfl⟩
  have hpr : RightQ p := by rw [← hp]; exact tame_right (by decide) (by decide)
  have hps : p.a.natAbs ≤ 6 ∧ p.b.natAbs ≤ 6 ∧ p.c.natAbs ≤ 6 ∧ p.d.natAbs ≤ 20 := by rw [← hp]; exact tame_small (x := x) (most := 6) (by decide)
  rw [hp] at HTM
  have HPA := Lib.hid (fun W => place_any l0 W hl0)
  have HPB := Lib.hid (fun W => place_any l1 W hl1)
  have HPC := Lib.hid (fun W => place_any l2 W hl2)
  obtain ⟨A, hA⟩ : ∃ A, placeV l0 = A := ⟨_, rfl⟩
  obtain ⟨B, hB⟩ : ∃ A, placeV l1 = A := ⟨_, rfl⟩
  obtain ⟨C, hC⟩ : ∃ A, placeV l2 = A := ⟨_, rfl⟩
  have hAs : SoundQ A := by rw [← hA]; exact place_sound l0
  have hBs : SoundQ B := by rw [← hB]; exact place_sound l1
  have hCs : SoundQ C := by rw [← hC]; exact place_sound l2
  have hAm : A.a.natAbs ≤ 20 ∧ A.b.natAbs ≤ 20 ∧ A.c.natAbs ≤ 20 ∧ A.d.natAbs ≤ 4 := by rw [← hA]; exact place_small l0
  rw [hA] at HPA
  rw [hB] at HPB
  rw [hC] at HPC
  have HP := Lib.hid (And.intro hpr hps)
  have HS := Lib.hid (And.intro hAs (And.intro hBs (And.intro hCs hAm)))
  have HV := Lib.hid (And.intro hv0 (And.intro hv1 hv2))
  clear hx hl0 hl1 hl2 hp hA hB hC hpr hps hAs hBs hCs hAm hv0 hv1 hv2
  go_enter Try.func9, Try.ntmps9
  have k0_0 := k0.cell (i := 0) rfl
  have k0_1 := k0.cell (i := 1) rfl
  have k0_2 := k0.cell (i := 2) rfl
  have k0_3 := k0.cell (i := 3) rfl
  have k1_0 := k1.cell (i := 0) rfl
  have k1_1 := k1.cell (i := 1) rfl
  have k1_2 := k1.cell (i := 2) rfl
  have k1_3 := k1.cell (i := 3) rfl
  have k1_4 := k1.cell (i := 4) rfl
  have k1_5 := k1.cell (i := 5) rfl
  have k1_6 := k1.cell (i := 6) rfl
  have k1_7 := k1.cell (i := 7) rfl
  have k1_8 := k1.cell (i := 8) rfl
  have k1_9 := k1.cell (i := 9) rfl
  have k1_10 := k1.cell (i := 10) rfl
  have k1_11 := k1.cell (i := 11) rfl
  have k2_0 := k2.cell (i := 0) rfl
  have k2_1 := k2.cell (i := 1) rfl
  have k2_2 := k2.cell (i := 2) rfl
  go_wp2_with fail
  refine (HTM.out _).mono ?_
  rintro e' wc1 ⟨rfl, hc1⟩
  clear k0_0 k0_1 k0_2 k0_3 k1_0 k1_1 k1_2 k1_3 k1_4 k1_5 k1_6 k1_7 k1_8 k1_9 k1_10 k1_11 k2_0 k2_1 k2_2
  have k0 := k0.kept hc1
  have k1 := k1.kept hc1
  have k2 := k2.kept hc1
  have hb := hb.trans (hc1.mono hb.size)
  clear hc1
  have k0_0 := k0.cell (i := 0) rfl
  have k0_1 := k0.cell (i := 1) rfl
  have k0_2 := k0.cell (i := 2) rfl
  have k0_3 := k0.cell (i := 3) rfl
  have k1_0 := k1.cell (i := 0) rfl
  have k1_1 := k1.cell (i := 1) rfl
  have k1_2 := k1.cell (i := 2) rfl
  have k1_3 := k1.cell (i := 3) rfl
  have k1_4 := k1.cell (i := 4) rfl
  have k1_5 := k1.cell (i := 5) rfl
  have k1_6 := k1.cell (i := 6) rfl
  have k1_7 := k1.cell (i := 7) rfl
  have k1_8 := k1.cell (i := 8) rfl
  have k1_9 := k1.cell (i := 9) rfl
  have k1_10 := k1.cell (i := 10) rfl
  have k1_11 := k1.cell (i := 11) rfl
  have k2_0 := k2.cell (i := 0) rfl
  have k2_1 := k2.cell (i := 1) rfl
  have k2_2 := k2.cell (i := 2) rfl
  have lt7 : w.heap.size + 1 + 1 < wc1.heap.size := k2.lt
  clear k0_0 k0_1 k0_2 k0_3
  clear k1_0 k1_1 k1_2 k1_3 k1_4 k1_5 k1_6 k1_7 k1_8 k1_9 k1_10 k1_11 k2_0 k2_1 k2_2
  obtain ⟨wa2, hwa2⟩ : ∃ w', wc1.alloc (.cells #[.int .i64 0, .int .i64 0, .int .i64 0, .int .i64 0] 23) = w' := ⟨_, rfl⟩
  have kk2 : Blk wa2 wc1.heap.size #[.int .i64 0, .int .i64 0, .int .i64 0, .int .i64 0] 23 := by rw [← hwa2]; exact Blk.new _ _ _
  have hk2 : Below wc1.heap.size wc1 wa2 := by rw [← hwa2]; exact (Below.refl _ _).alloc (Nat.le_refl _) _
  obtain ⟨ws2, hws2⟩ : ∃ w', ((((wa2.setCell ⟨wc1.heap.size, 0, none⟩ (.int .i64 p.a)).setCell ⟨wc1.heap.size, 1, none⟩ (.int .i64 p.b)).setCell ⟨wc1.heap.size, 2, none⟩ (.int .i64 p.c)).setCell ⟨wc1.heap.size, 3, none⟩ (.int .i64 p.d)) = w' := ⟨_, rfl⟩
  have hj2 : Below wc1.heap.size wc1 ws2 := by rw [← hws2]; exact ((((hk2.setCell (by simp only; omega) _).setCell (by simp only; omega) _).setCell (by simp only; omega) _).setCell (by simp only; omega) _)
  have k7 : Blk ws2 wc1.heap.size #[.int .i64 p.a, .int .i64 p.b, .int .i64 p.c, .int .i64 p.d] 23 := by rw [← hws2]; exact Blk.put4 kk2 _ _ _ _
  have kc20 := kk2.cell (i := 0) rfl
  have kf20 := kk2.frozen 0
  have kc21 := kk2.cell (i := 1) rfl
  have kf21 := kk2.frozen 1
  have kc22 := kk2.cell (i := 2) rfl
  have kf22 := kk2.frozen 2
  have kc23 := kk2.cell (i := 3) rfl
  have kf23 := kk2.frozen 3
  have k1 := k1.kept hj2
  have k2 := k2.kept hj2
  have hb := hb.trans (hj2.mono hb.size)
  clear hj2 hk2
  have k1_0 := k1.cell (i := 0) rfl
  have k1_1 := k1.cell (i := 1) rfl
  have k1_2 := k1.cell (i := 2) rfl
  have k1_3 := k1.cell (i := 3) rfl
  have k1_4 := k1.cell (i := 4) rfl
  have k1_5 := k1.cell (i := 5) rfl
  have k1_6 := k1.cell (i := 6) rfl
  have k1_7 := k1.cell (i := 7) rfl
  have k1_8 := k1.cell (i := 8) rfl
  have k1_9 := k1.cell (i := 9) rfl
  have k1_10 := k1.cell (i := 10) rfl
  have k1_11 := k1.cell (i := 11) rfl
  have k2_0 := k2.cell (i := 0) rfl
  have k2_1 := k2.cell (i := 1) rfl
  have k2_2 := k2.cell (i := 2) rfl
  have k7_0 := k7.cell (i := 0) rfl
  have k7_1 := k7.cell (i := 1) rfl
  have k7_2 := k7.cell (i := 2) rfl
  have k7_3 := k7.cell (i := 3) rfl
  clear k1_0 k1_1 k1_2 k1_3 k1_4 k1_5 k1_6 k1_7 k1_8 k1_9 k1_10 k1_11 k2_0 k2_1 k2_2 k7_0 k7_1 k7_2 k7_3
  have hlt2 : w.heap.size + 1 + 1 < ws2.heap.size := k2.lt
  go_upto_region 2 with fail
  go_cut [8, 9, 10] from 39 to 47 (fun v8 v9 v10 wx => ∃ B8 B9 B10, v8 = .pointer (some ⟨B8, 0, none⟩) ∧ v9 = .pointer (some ⟨B9, 0, none⟩) ∧ v10 = .pointer (some ⟨B10, 0, none⟩) ∧ ws2.heap.size ≤ B8 ∧ ws2.heap.size ≤ B9 ∧ ws2.heap.size ≤ B10 ∧ Blk wx B8 #[.int .i64 A.a, .int .i64 A.b, .int .i64 A.c, .int .i64 A.d] 37 ∧ Blk wx B9 #[.int .i64 B.a, .int .i64 B.b, .int .i64 B.c, .int .i64 B.d] 37 ∧ Blk wx B10 #[.int .i64 C.a, .int .i64 C.b, .int .i64 C.c, .int .i64 C.d] 37 ∧ Below ws2.heap.size ws2 wx)
  case first =>
    refine wp_region_defs 9 3 (fun ix => match ix with | 0 => .pointer (some ⟨w.heap.size + 1, 0, none⟩) | 1 => .agg #[.int .i64 l0.a, .int .i64 l0.b, .int .i64 l0.c, .int .i64 l0.d] | 2 => .agg #[.int .i64 A.a, .int .i64 A.b, .int .i64 A.c, .int .i64 A.d] | 3 => .pointer (some ⟨w.heap.size + 1, 4, none⟩) | 4 => .agg #[.int .i64 l1.a, .int .i64 l1.b, .int .i64 l1.c, .int .i64 l1.d] | 5 => .agg #[.int .i64 B.a, .int .i64 B.b, .int .i64 B.c, .int .i64 B.d] | 6 => .pointer (some ⟨w.heap.size + 1, 8, none⟩) | 7 => .agg #[.int .i64 l2.a, .int .i64 l2.b, .int .i64 l2.c, .int .i64 l2.d] | _ => .agg #[.int .i64 C.a, .int .i64 C.b, .int .i64 C.c, .int .i64 C.d]) #[.int .i64 0, .int .i64 0, .int .i64 0, .int .i64 0] (fun j => match j with | 0 => #[.int .i64 A.a, .int .i64 A.b, .int .i64 A.c, .int .i64 A.d] | 1 => #[.int .i64 B.a, .int .i64 B.b, .int .i64 B.c, .int .i64 B.d] | _ => #[.int .i64 C.a, .int .i64 C.b, .int .i64 C.c, .int .i64 C.d]) 37 (by kernel_rfl) (by kernel_rfl) rfl ?_ ?_ ?_ ?_ ?_
    · intro j hj
      have h3 : j = 0 ∨ j = 1 ∨ j = 2 := by omega
      rcases h3 with rfl | rfl | rfl
      · first | kernel_rfl | decide +kernel
      · first | kernel_rfl | decide +kernel
      · first | kernel_rfl | decide +kernel
    · rintro ix hx f ww hS hd
      have ka := k1.kept hS
      have a0_ := ka.cell (i := 0) rfl
      have a1_ := ka.cell (i := 1) rfl
      have a2_ := ka.cell (i := 2) rfl
      have a3_ := ka.cell (i := 3) rfl
      have a4_ := ka.cell (i := 4) rfl
      have a5_ := ka.cell (i := 5) rfl
      have a6_ := ka.cell (i := 6) rfl
      have a7_ := ka.cell (i := 7) rfl
      have a8_ := ka.cell (i := 8) rfl
      have a9_ := ka.cell (i := 9) rfl
      have a10_ := ka.cell (i := 10) rfl
      have a11_ := ka.cell (i := 11) rfl
      rcases ix with _ | _ | _ | _ | _ | _ | _ | _ | _ | ix
      · refine wpOp_list rfl ?_
        simp only [tmOf, putAll, List.map_cons, List.map_nil, List.setIfInBounds_toArray, List.set_cons_zero, List.set_cons_succ]
        go_wp2
        simp [upd, Below.refl]
      · have g0 : f 0 = .pointer (some ⟨w.heap.size + 1, 0, none⟩) := hd 0 (by decide) (by kernel_rfl)
        refine wpOp_list rfl ?_
        simp only [tmOf, putAll, List.map_cons, List.map_nil, List.setIfInBounds_toArray, List.set_cons_zero, List.set_cons_succ]
        go_wp2
        simp [upd, g0, Below.refl]
      · have g1 : f 1 = .agg #[.int .i64 l0.a, .int .i64 l0.b, .int .i64 l0.c, .int .i64 l0.d] := hd 1 (by decide) (by kernel_rfl)
        refine wpOp_list rfl ?_
        simp only [tmOf, putAll, List.map_cons, List.map_nil, List.setIfInBounds_toArray, List.set_cons_zero, List.set_cons_succ]
        go_wp2_with fail
        refine (HPA.out _).mono ?_
        rintro e' wf ⟨rfl, hbf⟩
        go_wp2_with fail
        simp [upd, g1, hbf]
      · refine wpOp_list rfl ?_
        simp only [tmOf, putAll, List.map_cons, List.map_nil, List.setIfInBounds_toArray, List.set_cons_zero, List.set_cons_succ]
        go_wp2
        simp [upd, Below.refl]
      · have g3 : f 3 = .pointer (some ⟨w.heap.size + 1, 4, none⟩) := hd 3 (by decide) (by kernel_rfl)
        refine wpOp_list rfl ?_
        simp only [tmOf, putAll, List.map_cons, List.map_nil, List.setIfInBounds_toArray, List.set_cons_zero, List.set_cons_succ]
        go_wp2
        simp [upd, g3, Below.refl]
      · have g4 : f 4 = .agg #[.int .i64 l1.a, .int .i64 l1.b, .int .i64 l1.c, .int .i64 l1.d] := hd 4 (by decide) (by kernel_rfl)
        refine wpOp_list rfl ?_
        simp only [tmOf, putAll, List.map_cons, List.map_nil, List.setIfInBounds_toArray, List.set_cons_zero, List.set_cons_succ]
        go_wp2_with fail
        refine (HPB.out _).mono ?_
        rintro e' wf ⟨rfl, hbf⟩
        go_wp2_with fail
        simp [upd, g4, hbf]
      · refine wpOp_list rfl ?_
        simp only [tmOf, putAll, List.map_cons, List.map_nil, List.setIfInBounds_toArray, List.set_cons_zero, List.set_cons_succ]
        go_wp2
        simp [upd, Below.refl]
      · have g6 : f 6 = .pointer (some ⟨w.heap.size + 1, 8, none⟩) := hd 6 (by decide) (by kernel_rfl)
        refine wpOp_list rfl ?_
        simp only [tmOf, putAll, List.map_cons, List.map_nil, List.setIfInBounds_toArray, List.set_cons_zero, List.set_cons_succ]
        go_wp2
        simp [upd, g6, Below.refl]
      · have g7 : f 7 = .agg #[.int .i64 l2.a, .int .i64 l2.b, .int .i64 l2.c, .int .i64 l2.d] := hd 7 (by decide) (by kernel_rfl)
        refine wpOp_list rfl ?_
        simp only [tmOf, putAll, List.map_cons, List.map_nil, List.setIfInBounds_toArray, List.set_cons_zero, List.set_cons_succ]
        go_wp2_with fail
        refine (HPC.out _).mono ?_
        rintro e' wf ⟨rfl, hbf⟩
        go_wp2_with fail
        simp [upd, g7, hbf]
      · omega
    · intro j hj f ww
      have h3 : j = 0 ∨ j = 1 ∨ j = 2 := by omega
      rcases h3 with rfl | rfl | rfl
      · refine wpOp_list rfl ?_
        simp only [tmOf, putAll, List.map_cons, List.map_nil, List.setIfInBounds_toArray, List.set_cons_zero, List.set_cons_succ]
        go_wp2
        simp [upd, ptrV]
      · refine wpOp_list rfl ?_
        simp only [tmOf, putAll, List.map_cons, List.map_nil, List.setIfInBounds_toArray, List.set_cons_zero, List.set_cons_succ]
        go_wp2
        simp [upd, ptrV]
      · refine wpOp_list rfl ?_
        simp only [tmOf, putAll, List.map_cons, List.map_nil, List.setIfInBounds_toArray, List.set_cons_zero, List.set_cons_succ]
        go_wp2
        simp [upd, ptrV]
    · intro j hj f ww b hd hf hB
      unfold ptrV at hf
      have e0 := hB.cell (i := 0) rfl
      have e1 := hB.cell (i := 1) rfl
      have e2 := hB.cell (i := 2) rfl
      have e3 := hB.cell (i := 3) rfl
      have q0 := hB.frozen 0
      have q1 := hB.frozen 1
      have q2 := hB.frozen 2
      have q3 := hB.frozen 3
      have oth : ∀ {D cs T} (a' b' c' d' : Value), D ≠ b → Blk ww D cs T → Blk ((((ww.setCell ⟨b, 0, none⟩ a').setCell ⟨b, 1, none⟩ b').setCell ⟨b, 2, none⟩ c').setCell ⟨b, 3, none⟩ d') D cs T := fun _ _ _ _ hne h => (((h.other 0 _ (Ne.symm hne)).other 1 _ (Ne.symm hne)).other 2 _ (Ne.symm hne)).other 3 _ (Ne.symm hne)
      have bel : ∀ (D : Nat) (a' b' c' d' : Value), D ≤ b → D ≤ ww.heap.size → Below D ww ((((ww.setCell ⟨b, 0, none⟩ a').setCell ⟨b, 1, none⟩ b').setCell ⟨b, 2, none⟩ c').setCell ⟨b, 3, none⟩ d') := fun D _ _ _ _ h1 h2 => (((((Below.refl _ ww).mono h2).setCell (p := ⟨b, 0, none⟩) h1 _).setCell (p := ⟨b, 1, none⟩) h1 _).setCell (p := ⟨b, 2, none⟩) h1 _).setCell (p := ⟨b, 3, none⟩) h1 _
      have h3 : j = 0 ∨ j = 1 ∨ j = 2 := by omega
      rcases h3 with rfl | rfl | rfl
      · have g2 : f 2 = .agg #[.int .i64 A.a, .int .i64 A.b, .int .i64 A.c, .int .i64 A.d] := hd 2 (by decide) (by kernel_rfl)
        refine wpOp_list rfl ?_
        simp only [tmOf, putAll, List.map_cons, List.map_nil, List.setIfInBounds_toArray, List.set_cons_zero, List.set_cons_succ]
        go_wp2
        exact ⟨Blk.put4 hB _ _ _ _, fun D cs hne h => oth _ _ _ _ hne h, fun D h1 h2 => bel D _ _ _ _ h1 h2⟩
      · have g5 : f 5 = .agg #[.int .i64 B.a, .int .i64 B.b, .int .i64 B.c, .int .i64 B.d] := hd 5 (by decide) (by kernel_rfl)
        refine wpOp_list rfl ?_
        simp only [tmOf, putAll, List.map_cons, List.map_nil, List.setIfInBounds_toArray, List.set_cons_zero, List.set_cons_succ]
        go_wp2
        exact ⟨Blk.put4 hB _ _ _ _, fun D cs hne h => oth _ _ _ _ hne h, fun D h1 h2 => bel D _ _ _ _ h1 h2⟩
      · have g8 : f 8 = .agg #[.int .i64 C.a, .int .i64 C.b, .int .i64 C.c, .int .i64 C.d] := hd 8 (by decide) (by kernel_rfl)
        refine wpOp_list rfl ?_
        simp only [tmOf, putAll, List.map_cons, List.map_nil, List.setIfInBounds_toArray, List.set_cons_zero, List.set_cons_succ]
        go_wp2
        exact ⟨Blk.put4 hB _ _ _ _, fun D cs hne h => oth _ _ _ _ hne h, fun D h1 h2 => bel D _ _ _ _ h1 h2⟩
    · intro f ww bs hS hbs hne hall
      have h0 := hbs 0 (by decide)
      have h1 := hbs 1 (by decide)
      have h2 := hbs 2 (by decide)
      simp only [tmOf, putAll, List.map_cons, List.map_nil, List.setIfInBounds_toArray, List.set_cons_zero, List.set_cons_succ]
      refine ‹∀ (a' : Act) (w' : World), Met _ a' w' → _› _ _ ?_
      go_meet
      case rel => exact ⟨bs 0, bs 1, bs 2, h0.1, h1.1, h2.1, h0.2.1, h1.2.1, h2.2.1, h0.2.2, h1.2.2, h2.2.2, hS⟩
  case rest =>
  obtain ⟨B8, B9, B10, rfl, rfl, rfl, l8, l9, l10, kA, kB, kC, hbx⟩ := hcut
  have k2 := k2.kept hbx
  have k7 := k7.kept hbx
  have hb := hb.trans (hbx.mono hb.size)
  clear HTM HPA HPB HPC hbx k1
  have k2' : Blk wc (w.heap.size + 1 + 1) #[.int .i64 v0, .int .i64 v1, .int .i64 v2] 53 := k2
  go_wp2_with fail
  go_loopg [11] 3 (fun gk v11 wx => ∃ (j : Nat) (s : Nat → Int), j ≤ 3 ∧ gk = 3 - j ∧ v11 = .int .i64 (j : Int) ∧ Hid (∀ k, k < 3 → InI64 (s k)) ∧ Hid (∀ k, k < j → (s k).natAbs ≤ 50) ∧ Blk wx (w.heap.size + 1 + 1) #[.int .i64 (s 0), .int .i64 (s 1), .int .i64 (s 2)] 53 ∧ Blk wx wc1.heap.size #[.int .i64 p.a, .int .i64 p.b, .int .i64 p.c, .int .i64 p.d] 23 ∧ Blk wx B8 #[.int .i64 A.a, .int .i64 A.b, .int .i64 A.c, .int .i64 A.d] 37 ∧ Blk wx B9 #[.int .i64 B.a, .int .i64 B.b, .int .i64 B.c, .int .i64 B.d] 37 ∧ Blk wx B10 #[.int .i64 C.a, .int .i64 C.b, .int .i64 C.c, .int .i64 C.d] 37 ∧ Below w.heap.size w wx)
  case atStart =>
    refine ⟨0, fun k => if k = 0 then v0 else if k = 1 then v1 else v2, by decide, rfl, rfl, ?_, fun k hk => absurd hk (by omega), k2, k7, kA, kB, kC, hb⟩
    intro k hk
    have h3 : k = 0 ∨ k = 1 ∨ k = 2 := by omega
    rcases h3 with rfl | rfl | rfl
    · exact HV.out.1
    · exact HV.out.2.1
    · exact HV.out.2.2
  case round =>
    clear k2 k2' k7 kA kB kC hb
    obtain ⟨j, s, hj, hgk, rfl, HSI, HSS, k2, k7, kA, kB, kC, hb⟩ := hrel
    have HGK := Lib.hid hgk
    clear hgk
    by_cases hj3 : j < 3
    · have hji : (j : Int) < 3 := by omega
      have c0 := int3_at k2 hj3
      have f0 := k2.frozen j
      have hvi := HSI.out j hj3
      obtain ⟨v, hv⟩ : ∃ v, s j = v := ⟨_, rfl⟩
      rw [hv] at c0 hvi
      have hsm := tameC_le (v := v) (most := 50) (by decide)
      have hin := tameC_in (v := v) (most := 50) (by decide) (by decide)
      obtain ⟨u, hu⟩ : ∃ u, v % 18446744073709551616 = u := ⟨_, rfl⟩
      have u0 : 0 ≤ u := by omega
      obtain ⟨m, hm⟩ : ∃ m, u % 101 = m := ⟨_, rfl⟩
      have m0 : 0 ≤ m ∧ m < 101 := by omega
      have ht : tameC v 50 = m - 50 := by unfold tameC; rw [hu]; omega
      rw [ht] at hin hsm
      have e1 : IntKind.u64.wrap v = u := by rw [IntKind.wrap_u64, hu]
      have e5 : u.tmod 101 = m := by rw [Int.tmod_eq_emod_of_nonneg u0]; exact hm
      have e6 : IntKind.u64.wrap m = m := by rw [IntKind.wrap_u64]; omega
      have e7 : wrap64 m = m := by unfold wrap64; omega
      have e8 : wrap64 (m - 50) = m - 50 := by unfold wrap64; omega
      have HIN := Lib.hid (And.intro hin hsm)
      clear hin hsm ht hm hu hv hvi
      go_wp2_with fail
      go_roundg (3 - (j + 1))
      case measure => rw [HGK.out]; omega
      case rel =>
        refine ⟨j + 1, fun k => if k = j then m - 50 else s k, by omega, rfl, by go_num, ?_, ?_, k2.set_eq j _ (int3_set hj3 _), k7.other (C := w.heap.size + 1 + 1) j _ (by omega), kA.other (C := w.heap.size + 1 + 1) j _ (by omega), kB.other (C := w.heap.size + 1 + 1) j _ (by omega), kC.other (C := w.heap.size + 1 + 1) j _ (by omega), hb.setCell (by simp only; omega) _⟩
        · intro k hk
          show InI64 (if k = j then m - 50 else s k)
          by_cases hkj : k = j
          · rw [if_pos hkj]; exact HIN.out.1
          · rw [if_neg hkj]; exact HSI.out k hk
        · intro k hk
          show (if k = j then m - 50 else s k).natAbs ≤ 50
          by_cases hkj : k = j
          · rw [if_pos hkj]; exact HIN.out.2
          · rw [if_neg hkj]; exact HSS.out k (by omega)
    · obtain rfl : j = 3 := by omega
      have hx0 := HSS.out 0 (by decide)
      have hx1 := HSS.out 1 (by decide)
      have hx2 := HSS.out 2 (by decide)
      obtain ⟨x0, hx0e⟩ : ∃ v, s 0 = v := ⟨_, rfl⟩
      obtain ⟨x1, hx1e⟩ : ∃ v, s 1 = v := ⟨_, rfl⟩
      obtain ⟨x2, hx2e⟩ : ∃ v, s 2 = v := ⟨_, rfl⟩
      rw [hx0e, hx1e, hx2e] at k2
      rw [hx0e] at hx0
      rw [hx1e] at hx1
      rw [hx2e] at hx2
      clear hx0e hx1e hx2e HSI HSS HGK
      obtain ⟨O, M, G, H, S, TT, u0, u1, u2, E, HOP, HSA, HSO, HSH, HBK, HSM, HT1, HT2, hneg, hneg3, w0, w1', w2, w3, w4, w5, w6, w7, w8, HEC, HE0⟩ := turn_facts HP.out HS.out hx0 hx1 hx2
      have heqp := fun w => eqPlane p p w
      simp only [decide_true] at heqp
      clear hx0 hx1 hx2
      have k2_0 := k2.cell (i := 0) rfl
      have k2_1 := k2.cell (i := 1) rfl
      have k2_2 := k2.cell (i := 2) rfl
      have k7_0 := k7.cell (i := 0) rfl
      have k7_1 := k7.cell (i := 1) rfl
      have k7_2 := k7.cell (i := 2) rfl
      have k7_3 := k7.cell (i := 3) rfl
      have kA_0 := kA.cell (i := 0) rfl
      have kA_1 := kA.cell (i := 1) rfl
      have kA_2 := kA.cell (i := 2) rfl
      have kA_3 := kA.cell (i := 3) rfl
      have kB_0 := kB.cell (i := 0) rfl
      have kB_1 := kB.cell (i := 1) rfl
      have kB_2 := kB.cell (i := 2) rfl
      have kB_3 := kB.cell (i := 3) rfl
      have kC_0 := kC.cell (i := 0) rfl
      have kC_1 := kC.cell (i := 1) rfl
      have kC_2 := kC.cell (i := 2) rfl
      have kC_3 := kC.cell (i := 3) rfl
      go_wp2_with fail
      refine (HOP.out _).mono ?_
      rintro e' wc1 ⟨rfl, hc1⟩
      clear k2_0 k2_1 k2_2 k7_0 k7_1 k7_2 k7_3 kA_0 kA_1 kA_2 kA_3 kB_0 kB_1 kB_2 kB_3 kC_0 kC_1 kC_2 kC_3
      have k2 := k2.kept hc1
      have k7 := k7.kept hc1
      have kA := kA.kept hc1
      have kB := kB.kept hc1
      have kC := kC.kept hc1
      have hb := hb.trans (hc1.mono hb.size)
      clear hc1
      have k2_0 := k2.cell (i := 0) rfl
      have k2_1 := k2.cell (i := 1) rfl
      have k2_2 := k2.cell (i := 2) rfl
      have k7_0 := k7.cell (i := 0) rfl
      have k7_1 := k7.cell (i := 1) rfl
      have k7_2 := k7.cell (i := 2) rfl
      have k7_3 := k7.cell (i := 3) rfl
      have kA_0 := kA.cell (i := 0) rfl
      have kA_1 := kA.cell (i := 1) rfl
      have kA_2 := kA.cell (i := 2) rfl
      have kA_3 := kA.cell (i := 3) rfl
      have kB_0 := kB.cell (i := 0) rfl
      have kB_1 := kB.cell (i := 1) rfl
      have kB_2 := kB.cell (i := 2) rfl
      have kB_3 := kB.cell (i := 3) rfl
      have kC_0 := kC.cell (i := 0) rfl
      have kC_1 := kC.cell (i := 1) rfl
      have kC_2 := kC.cell (i := 2) rfl
      have kC_3 := kC.cell (i := 3) rfl
      clear k2_0 k2_1 k2_2 k7_0 k7_1 k7_2 k7_3 kA_0 kA_1 kA_2 kA_3 kB_0 kB_1 kB_2 kB_3 kC_0 kC_1 kC_2 kC_3
      obtain ⟨wa2, hwa2⟩ : ∃ w', wc1.alloc (.cells #[.int .i64 0, .int .i64 0, .int .i64 0, .int .i64 0] 23) = w' := ⟨_, rfl⟩
      have kk2 : Blk wa2 wc1.heap.size #[.int .i64 0, .int .i64 0, .int .i64 0, .int .i64 0] 23 := by rw [← hwa2]; exact Blk.new _ _ _
      have hk2 : Below wc1.heap.size wc1 wa2 := by rw [← hwa2]; exact (Below.refl _ _).alloc (Nat.le_refl _) _
      obtain ⟨ws2, hws2⟩ : ∃ w', ((((wa2.setCell ⟨wc1.heap.size, 0, none⟩ (.int .i64 O.a)).setCell ⟨wc1.heap.size, 1, none⟩ (.int .i64 O.b)).setCell ⟨wc1.heap.size, 2, none⟩ (.int .i64 O.c)).setCell ⟨wc1.heap.size, 3, none⟩ (.int .i64 O.d)) = w' := ⟨_, rfl⟩
      have hj2 : Below wc1.heap.size wc1 ws2 := by rw [← hws2]; exact ((((hk2.setCell (by simp only; omega) _).setCell (by simp only; omega) _).setCell (by simp only; omega) _).setCell (by simp only; omega) _)
      have kO : Blk ws2 wc1.heap.size #[.int .i64 O.a, .int .i64 O.b, .int .i64 O.c, .int .i64 O.d] 23 := by rw [← hws2]; exact Blk.put4 kk2 _ _ _ _
      have kc20 := kk2.cell (i := 0) rfl
      have kf20 := kk2.frozen 0
      have kc21 := kk2.cell (i := 1) rfl
      have kf21 := kk2.frozen 1
      have kc22 := kk2.cell (i := 2) rfl
      have kf22 := kk2.frozen 2
      have kc23 := kk2.cell (i := 3) rfl
      have kf23 := kk2.frozen 3
      have k2 := k2.kept hj2
      have k7 := k7.kept hj2
      have kA := kA.kept hj2
      have kB := kB.kept hj2
      have kC := kC.kept hj2
      have hb := hb.trans (hj2.mono hb.size)
      clear hj2 hk2
      have k2_0 := k2.cell (i := 0) rfl
      have k2_1 := k2.cell (i := 1) rfl
      have k2_2 := k2.cell (i := 2) rfl
      have k7_0 := k7.cell (i := 0) rfl
      have k7_1 := k7.cell (i := 1) rfl
      have k7_2 := k7.cell (i := 2) rfl
      have k7_3 := k7.cell (i := 3) rfl
      have kA_0 := kA.cell (i := 0) rfl
      have kA_1 := kA.cell (i := 1) rfl
      have kA_2 := kA.cell (i := 2) rfl
      have kA_3 := kA.cell (i := 3) rfl
      have kB_0 := kB.cell (i := 0) rfl
      have kB_1 := kB.cell (i := 1) rfl
      have kB_2 := kB.cell (i := 2) rfl
      have kB_3 := kB.cell (i := 3) rfl
      have kC_0 := kC.cell (i := 0) rfl
      have kC_1 := kC.cell (i := 1) rfl
      have kC_2 := kC.cell (i := 2) rfl
      have kC_3 := kC.cell (i := 3) rfl
      have kO_0 := kO.cell (i := 0) rfl
      have kO_1 := kO.cell (i := 1) rfl
      have kO_2 := kO.cell (i := 2) rfl
      have kO_3 := kO.cell (i := 3) rfl
      go_wp2_with fail
      refine (HSA.out _).mono ?_
      rintro e' wc3 ⟨rfl, hc3⟩
      clear k2_0 k2_1 k2_2 k7_0 k7_1 k7_2 k7_3 kA_0 kA_1 kA_2 kA_3 kB_0 kB_1 kB_2 kB_3 kC_0 kC_1 kC_2 kC_3 kO_0 kO_1 kO_2 kO_3
      have k2 := k2.kept hc3
      have k7 := k7.kept hc3
      have kA := kA.kept hc3
      have kB := kB.kept hc3
      have kC := kC.kept hc3
      have kO := kO.kept hc3
      have hb := hb.trans (hc3.mono hb.size)
      clear hc3
      have k2_0 := k2.cell (i := 0) rfl
      have k2_1 := k2.cell (i := 1) rfl
      have k2_2 := k2.cell (i := 2) rfl
      have k7_0 := k7.cell (i := 0) rfl
      have k7_1 := k7.cell (i := 1) rfl
      have k7_2 := k7.cell (i := 2) rfl
      have k7_3 := k7.cell (i := 3) rfl
      have kA_0 := kA.cell (i := 0) rfl
      have kA_1 := kA.cell (i := 1) rfl
      have kA_2 := kA.cell (i := 2) rfl
      have kA_3 := kA.cell (i := 3) rfl
      have kB_0 := kB.cell (i := 0) rfl
      have kB_1 := kB.cell (i := 1) rfl
      have kB_2 := kB.cell (i := 2) rfl
      have kB_3 := kB.cell (i := 3) rfl
      have kC_0 := kC.cell (i := 0) rfl
      have kC_1 := kC.cell (i := 1) rfl
      have kC_2 := kC.cell (i := 2) rfl
      have kC_3 := kC.cell (i := 3) rfl
      have kO_0 := kO.cell (i := 0) rfl
      have kO_1 := kO.cell (i := 1) rfl
      have kO_2 := kO.cell (i := 2) rfl
      have kO_3 := kO.cell (i := 3) rfl
      go_wp2_with fail
      refine (HSO.out _).mono ?_
      rintro e' wc4 ⟨rfl, hc4⟩
      clear k2_0 k2_1 k2_2 k7_0 k7_1 k7_2 k7_3 kA_0 kA_1 kA_2 kA_3 kB_0 kB_1 kB_2 kB_3 kC_0 kC_1 kC_2 kC_3 kO_0 kO_1 kO_2 kO_3
      have k2 := k2.kept hc4
      have k7 := k7.kept hc4
      have kA := kA.kept hc4
      have kB := kB.kept hc4
      have kC := kC.kept hc4
      have kO := kO.kept hc4
      have hb := hb.trans (hc4.mono hb.size)
      clear hc4
      have k2_0 := k2.cell (i := 0) rfl
      have k2_1 := k2.cell (i := 1) rfl
      have k2_2 := k2.cell (i := 2) rfl
      have k7_0 := k7.cell (i := 0) rfl
      have k7_1 := k7.cell (i := 1) rfl
      have k7_2 := k7.cell (i := 2) rfl
      have k7_3 := k7.cell (i := 3) rfl
      have kA_0 := kA.cell (i := 0) rfl
      have kA_1 := kA.cell (i := 1) rfl
      have kA_2 := kA.cell (i := 2) rfl
      have kA_3 := kA.cell (i := 3) rfl
      have kB_0 := kB.cell (i := 0) rfl
      have kB_1 := kB.cell (i := 1) rfl
      have kB_2 := kB.cell (i := 2) rfl
      have kB_3 := kB.cell (i := 3) rfl
      have kC_0 := kC.cell (i := 0) rfl
      have kC_1 := kC.cell (i := 1) rfl
      have kC_2 := kC.cell (i := 2) rfl
      have kC_3 := kC.cell (i := 3) rfl
      have kO_0 := kO.cell (i := 0) rfl
      have kO_1 := kO.cell (i := 1) rfl
      have kO_2 := kO.cell (i := 2) rfl
      have kO_3 := kO.cell (i := 3) rfl
      go_wp2_with fail
      refine (HSH.out _).mono ?_
      rintro e' wc5 ⟨rfl, hc5⟩
      clear k2_0 k2_1 k2_2 k7_0 k7_1 k7_2 k7_3 kA_0 kA_1 kA_2 kA_3 kB_0 kB_1 kB_2 kB_3 kC_0 kC_1 kC_2 kC_3 kO_0 kO_1 kO_2 kO_3
      have k2 := k2.kept hc5
      have k7 := k7.kept hc5
      have kA := kA.kept hc5
      have kB := kB.kept hc5
      have kC := kC.kept hc5
      have kO := kO.kept hc5
      have hb := hb.trans (hc5.mono hb.size)
      clear hc5
      have k2_0 := k2.cell (i := 0) rfl
      have k2_1 := k2.cell (i := 1) rfl
      have k2_2 := k2.cell (i := 2) rfl
      have k7_0 := k7.cell (i := 0) rfl
      have k7_1 := k7.cell (i := 1) rfl
      have k7_2 := k7.cell (i := 2) rfl
      have k7_3 := k7.cell (i := 3) rfl
      have kA_0 := kA.cell (i := 0) rfl
      have kA_1 := kA.cell (i := 1) rfl
      have kA_2 := kA.cell (i := 2) rfl
      have kA_3 := kA.cell (i := 3) rfl
      have kB_0 := kB.cell (i := 0) rfl
      have kB_1 := kB.cell (i := 1) rfl
      have kB_2 := kB.cell (i := 2) rfl
      have kB_3 := kB.cell (i := 3) rfl
      have kC_0 := kC.cell (i := 0) rfl
      have kC_1 := kC.cell (i := 1) rfl
      have kC_2 := kC.cell (i := 2) rfl
      have kC_3 := kC.cell (i := 3) rfl
      have kO_0 := kO.cell (i := 0) rfl
      have kO_1 := kO.cell (i := 1) rfl
      have kO_2 := kO.cell (i := 2) rfl
      have kO_3 := kO.cell (i := 3) rfl
      clear k2_0 k2_1 k2_2 k7_0 k7_1 k7_2 k7_3 kA_0 kA_1 kA_2 kA_3 kB_0 kB_1 kB_2 kB_3 kC_0 kC_1 kC_2 kC_3 kO_0 kO_1 kO_2 kO_3
      obtain ⟨wa6, hwa6⟩ : ∃ w', wc5.alloc (.cells #[.int .i64 0, .int .i64 0, .int .i64 0, .int .i64 0] 23) = w' := ⟨_, rfl⟩
      have kk6 : Blk wa6 wc5.heap.size #[.int .i64 0, .int .i64 0, .int .i64 0, .int .i64 0] 23 := by rw [← hwa6]; exact Blk.new _ _ _
      have hk6 : Below wc5.heap.size wc5 wa6 := by rw [← hwa6]; exact (Below.refl _ _).alloc (Nat.le_refl _) _
      obtain ⟨ws6, hws6⟩ : ∃ w', ((((wa6.setCell ⟨wc5.heap.size, 0, none⟩ (.int .i64 M.a)).setCell ⟨wc5.heap.size, 1, none⟩ (.int .i64 M.b)).setCell ⟨wc5.heap.size, 2, none⟩ (.int .i64 M.c)).setCell ⟨wc5.heap.size, 3, none⟩ (.int .i64 M.d)) = w' := ⟨_, rfl⟩
      have hj6 : Below wc5.heap.size wc5 ws6 := by rw [← hws6]; exact ((((hk6.setCell (by simp only; omega) _).setCell (by simp only; omega) _).setCell (by simp only; omega) _).setCell (by simp only; omega) _)
      have kM : Blk ws6 wc5.heap.size #[.int .i64 M.a, .int .i64 M.b, .int .i64 M.c, .int .i64 M.d] 23 := by rw [← hws6]; exact Blk.put4 kk6 _ _ _ _
      have kc60 := kk6.cell (i := 0) rfl
      have kf60 := kk6.frozen 0
      have kc61 := kk6.cell (i := 1) rfl
      have kf61 := kk6.frozen 1
      have kc62 := kk6.cell (i := 2) rfl
      have kf62 := kk6.frozen 2
      have kc63 := kk6.cell (i := 3) rfl
      have kf63 := kk6.frozen 3
      have k2 := k2.kept hj6
      have k7 := k7.kept hj6
      have kA := kA.kept hj6
      have kB := kB.kept hj6
      have kC := kC.kept hj6
      have kO := kO.kept hj6
      have hb := hb.trans (hj6.mono hb.size)
      clear hj6 hk6
      have k2_0 := k2.cell (i := 0) rfl
      have k2_1 := k2.cell (i := 1) rfl
      have k2_2 := k2.cell (i := 2) rfl
      have k7_0 := k7.cell (i := 0) rfl
      have k7_1 := k7.cell (i := 1) rfl
      have k7_2 := k7.cell (i := 2) rfl
      have k7_3 := k7.cell (i := 3) rfl
      have kA_0 := kA.cell (i := 0) rfl
      have kA_1 := kA.cell (i := 1) rfl
      have kA_2 := kA.cell (i := 2) rfl
      have kA_3 := kA.cell (i := 3) rfl
      have kB_0 := kB.cell (i := 0) rfl
      have kB_1 := kB.cell (i := 1) rfl
      have kB_2 := kB.cell (i := 2) rfl
      have kB_3 := kB.cell (i := 3) rfl
      have kC_0 := kC.cell (i := 0) rfl
      have kC_1 := kC.cell (i := 1) rfl
      have kC_2 := kC.cell (i := 2) rfl
      have kC_3 := kC.cell (i := 3) rfl
      have kO_0 := kO.cell (i := 0) rfl
      have kO_1 := kO.cell (i := 1) rfl
      have kO_2 := kO.cell (i := 2) rfl
      have kO_3 := kO.cell (i := 3) rfl
      have kM_0 := kM.cell (i := 0) rfl
      have kM_1 := kM.cell (i := 1) rfl
      have kM_2 := kM.cell (i := 2) rfl
      have kM_3 := kM.cell (i := 3) rfl
      go_wp2_with fail
      refine (HBK.out _).mono ?_
      rintro e' wc7 ⟨rfl, hc7⟩
      clear k2_0 k2_1 k2_2 k7_0 k7_1 k7_2 k7_3 kA_0 kA_1 kA_2 kA_3 kB_0 kB_1 kB_2 kB_3 kC_0 kC_1 kC_2 kC_3 kO_0 kO_1 kO_2 kO_3 kM_0 kM_1 kM_2 kM_3
      have k2 := k2.kept hc7
      have k7 := k7.kept hc7
      have kA := kA.kept hc7
      have kB := kB.kept hc7
      have kC := kC.kept hc7
      have kO := kO.kept hc7
      have kM := kM.kept hc7
      have hb := hb.trans (hc7.mono hb.size)
      clear hc7
      have k2_0 := k2.cell (i := 0) rfl
      have k2_1 := k2.cell (i := 1) rfl
      have k2_2 := k2.cell (i := 2) rfl
      have k7_0 := k7.cell (i := 0) rfl
      have k7_1 := k7.cell (i := 1) rfl
      have k7_2 := k7.cell (i := 2) rfl
      have k7_3 := k7.cell (i := 3) rfl
      have kA_0 := kA.cell (i := 0) rfl
      have kA_1 := kA.cell (i := 1) rfl
      have kA_2 := kA.cell (i := 2) rfl
      have kA_3 := kA.cell (i := 3) rfl
      have kB_0 := kB.cell (i := 0) rfl
      have kB_1 := kB.cell (i := 1) rfl
      have kB_2 := kB.cell (i := 2) rfl
      have kB_3 := kB.cell (i := 3) rfl
      have kC_0 := kC.cell (i := 0) rfl
      have kC_1 := kC.cell (i := 1) rfl
      have kC_2 := kC.cell (i := 2) rfl
      have kC_3 := kC.cell (i := 3) rfl
      have kO_0 := kO.cell (i := 0) rfl
      have kO_1 := kO.cell (i := 1) rfl
      have kO_2 := kO.cell (i := 2) rfl
      have kO_3 := kO.cell (i := 3) rfl
      have kM_0 := kM.cell (i := 0) rfl
      have kM_1 := kM.cell (i := 1) rfl
      have kM_2 := kM.cell (i := 2) rfl
      have kM_3 := kM.cell (i := 3) rfl
      clear k2_0 k2_1 k2_2 k7_0 k7_1 k7_2 k7_3 kA_0 kA_1 kA_2 kA_3 kB_0 kB_1 kB_2 kB_3 kC_0 kC_1 kC_2 kC_3 kO_0 kO_1 kO_2 kO_3 kM_0 kM_1 kM_2 kM_3
      obtain ⟨wa8, hwa8⟩ : ∃ w', wc7.alloc (.cells #[.int .i64 0, .int .i64 0, .int .i64 0, .int .i64 0] 23) = w' := ⟨_, rfl⟩
      have kk8 : Blk wa8 wc7.heap.size #[.int .i64 0, .int .i64 0, .int .i64 0, .int .i64 0] 23 := by rw [← hwa8]; exact Blk.new _ _ _
      have hk8 : Below wc7.heap.size wc7 wa8 := by rw [← hwa8]; exact (Below.refl _ _).alloc (Nat.le_refl _) _
      obtain ⟨ws8, hws8⟩ : ∃ w', ((((wa8.setCell ⟨wc7.heap.size, 0, none⟩ (.int .i64 p.a)).setCell ⟨wc7.heap.size, 1, none⟩ (.int .i64 p.b)).setCell ⟨wc7.heap.size, 2, none⟩ (.int .i64 p.c)).setCell ⟨wc7.heap.size, 3, none⟩ (.int .i64 p.d)) = w' := ⟨_, rfl⟩
      have hj8 : Below wc7.heap.size wc7 ws8 := by rw [← hws8]; exact ((((hk8.setCell (by simp only; omega) _).setCell (by simp only; omega) _).setCell (by simp only; omega) _).setCell (by simp only; omega) _)
      have kK : Blk ws8 wc7.heap.size #[.int .i64 p.a, .int .i64 p.b, .int .i64 p.c, .int .i64 p.d] 23 := by rw [← hws8]; exact Blk.put4 kk8 _ _ _ _
      have kc80 := kk8.cell (i := 0) rfl
      have kf80 := kk8.frozen 0
      have kc81 := kk8.cell (i := 1) rfl
      have kf81 := kk8.frozen 1
      have kc82 := kk8.cell (i := 2) rfl
      have kf82 := kk8.frozen 2
      have kc83 := kk8.cell (i := 3) rfl
      have kf83 := kk8.frozen 3
      have k2 := k2.kept hj8
      have k7 := k7.kept hj8
      have kA := kA.kept hj8
      have kB := kB.kept hj8
      have kC := kC.kept hj8
      have kO := kO.kept hj8
      have kM := kM.kept hj8
      have hb := hb.trans (hj8.mono hb.size)
      clear hj8 hk8
      have k2_0 := k2.cell (i := 0) rfl
      have k2_1 := k2.cell (i := 1) rfl
      have k2_2 := k2.cell (i := 2) rfl
      have k7_0 := k7.cell (i := 0) rfl
      have k7_1 := k7.cell (i := 1) rfl
      have k7_2 := k7.cell (i := 2) rfl
      have k7_3 := k7.cell (i := 3) rfl
      have kA_0 := kA.cell (i := 0) rfl
      have kA_1 := kA.cell (i := 1) rfl
      have kA_2 := kA.cell (i := 2) rfl
      have kA_3 := kA.cell (i := 3) rfl
      have kB_0 := kB.cell (i := 0) rfl
      have kB_1 := kB.cell (i := 1) rfl
      have kB_2 := kB.cell (i := 2) rfl
      have kB_3 := kB.cell (i := 3) rfl
      have kC_0 := kC.cell (i := 0) rfl
      have kC_1 := kC.cell (i := 1) rfl
      have kC_2 := kC.cell (i := 2) rfl
      have kC_3 := kC.cell (i := 3) rfl
      have kO_0 := kO.cell (i := 0) rfl
      have kO_1 := kO.cell (i := 1) rfl
      have kO_2 := kO.cell (i := 2) rfl
      have kO_3 := kO.cell (i := 3) rfl
      have kM_0 := kM.cell (i := 0) rfl
      have kM_1 := kM.cell (i := 1) rfl
      have kM_2 := kM.cell (i := 2) rfl
      have kM_3 := kM.cell (i := 3) rfl
      have kK_0 := kK.cell (i := 0) rfl
      have kK_1 := kK.cell (i := 1) rfl
      have kK_2 := kK.cell (i := 2) rfl
      have kK_3 := kK.cell (i := 3) rfl
      have zk2_0 := k2_0
      have zk2_1 := k2_1
      have zk2_2 := k2_2
      have zk7_0 := k7_0
      have zk7_1 := k7_1
      have zk7_2 := k7_2
      have zk7_3 := k7_3
      have zkA_0 := kA_0
      have zkA_1 := kA_1
      have zkA_2 := kA_2
      have zkA_3 := kA_3
      have zkB_0 := kB_0
      have zkB_1 := kB_1
      have zkB_2 := kB_2
      have zkB_3 := kB_3
      have zkC_0 := kC_0
      have zkC_1 := kC_1
      have zkC_2 := kC_2
      have zkC_3 := kC_3
      have zkO_0 := kO_0
      have zkO_1 := kO_1
      have zkO_2 := kO_2
      have zkO_3 := kO_3
      have zkM_0 := kM_0
      have zkM_1 := kM_1
      have zkM_2 := kM_2
      have zkM_3 := kM_3
      have zkK_0 := kK_0
      have zkK_1 := kK_1
      have zkK_2 := kK_2
      have zkK_3 := kK_3
      clear k2_0 k2_1 k2_2 k7_0 k7_1 k7_2 k7_3 kA_0 kA_1 kA_2 kA_3 kB_0 kB_1 kB_2 kB_3 kC_0 kC_1 kC_2 kC_3 kO_0 kO_1 kO_2 kO_3 kM_0 kM_1 kM_2 kM_3 kK_0 kK_1 kK_2 kK_3
      obtain ⟨wa9, hwa9⟩ : ∃ w', ws8.alloc (.cells #[.int .i64 0, .int .i64 0, .int .i64 0, .int .i64 0] 37) = w' := ⟨_, rfl⟩
      have kk9 : Blk wa9 ws8.heap.size #[.int .i64 0, .int .i64 0, .int .i64 0, .int .i64 0] 37 := by rw [← hwa9]; exact Blk.new _ _ _
      have hk9 : Below ws8.heap.size ws8 wa9 := by rw [← hwa9]; exact (Below.refl _ _).alloc (Nat.le_refl _) _
      obtain ⟨ws9, hws9⟩ : ∃ w', ((((wa9.setCell ⟨ws8.heap.size, 0, none⟩ (.int .i64 (A.a + u0))).setCell ⟨ws8.heap.size, 1, none⟩ (.int .i64 (A.b + u1))).setCell ⟨ws8.heap.size, 2, none⟩ (.int .i64 (A.c + u2))).setCell ⟨ws8.heap.size, 3, none⟩ (.int .i64 A.d)) = w' := ⟨_, rfl⟩
      have hj9 : Below ws8.heap.size ws8 ws9 := by rw [← hws9]; exact ((((hk9.setCell (by simp only; omega) _).setCell (by simp only; omega) _).setCell (by simp only; omega) _).setCell (by simp only; omega) _)
      have kQ : Blk ws9 ws8.heap.size #[.int .i64 (A.a + u0), .int .i64 (A.b + u1), .int .i64 (A.c + u2), .int .i64 A.d] 37 := by rw [← hws9]; exact Blk.put4 kk9 _ _ _ _
      have kc90 := kk9.cell (i := 0) rfl
      have kf90 := kk9.frozen 0
      have kc91 := kk9.cell (i := 1) rfl
      have kf91 := kk9.frozen 1
      have kc92 := kk9.cell (i := 2) rfl
      have kf92 := kk9.frozen 2
      have kc93 := kk9.cell (i := 3) rfl
      have kf93 := kk9.frozen 3
      have k2 := k2.kept hj9
      have k7 := k7.kept hj9
      have kA := kA.kept hj9
      have kB := kB.kept hj9
      have kC := kC.kept hj9
      have kO := kO.kept hj9
      have kM := kM.kept hj9
      have kK := kK.kept hj9
      have hb := hb.trans (hj9.mono hb.size)
      clear hj9 hk9
      have k2_0 := k2.cell (i := 0) rfl
      have k2_1 := k2.cell (i := 1) rfl
      have k2_2 := k2.cell (i := 2) rfl
      have k7_0 := k7.cell (i := 0) rfl
      have k7_1 := k7.cell (i := 1) rfl
      have k7_2 := k7.cell (i := 2) rfl
      have k7_3 := k7.cell (i := 3) rfl
      have kA_0 := kA.cell (i := 0) rfl
      have kA_1 := kA.cell (i := 1) rfl
      have kA_2 := kA.cell (i := 2) rfl
      have kA_3 := kA.cell (i := 3) rfl
      have kB_0 := kB.cell (i := 0) rfl
      have kB_1 := kB.cell (i := 1) rfl
      have kB_2 := kB.cell (i := 2) rfl
      have kB_3 := kB.cell (i := 3) rfl
      have kC_0 := kC.cell (i := 0) rfl
      have kC_1 := kC.cell (i := 1) rfl
      have kC_2 := kC.cell (i := 2) rfl
      have kC_3 := kC.cell (i := 3) rfl
      have kO_0 := kO.cell (i := 0) rfl
      have kO_1 := kO.cell (i := 1) rfl
      have kO_2 := kO.cell (i := 2) rfl
      have kO_3 := kO.cell (i := 3) rfl
      have kM_0 := kM.cell (i := 0) rfl
      have kM_1 := kM.cell (i := 1) rfl
      have kM_2 := kM.cell (i := 2) rfl
      have kM_3 := kM.cell (i := 3) rfl
      have kK_0 := kK.cell (i := 0) rfl
      have kK_1 := kK.cell (i := 1) rfl
      have kK_2 := kK.cell (i := 2) rfl
      have kK_3 := kK.cell (i := 3) rfl
      have kQ_0 := kQ.cell (i := 0) rfl
      have kQ_1 := kQ.cell (i := 1) rfl
      have kQ_2 := kQ.cell (i := 2) rfl
      have kQ_3 := kQ.cell (i := 3) rfl
      go_wp2_with fail
      refine (HSM.out _).mono ?_
      rintro e' wc10 ⟨rfl, hc10⟩
      clear zk2_0 zk2_1 zk2_2 zk7_0 zk7_1 zk7_2 zk7_3 zkA_0 zkA_1 zkA_2 zkA_3 zkB_0 zkB_1 zkB_2 zkB_3 zkC_0 zkC_1 zkC_2 zkC_3 zkO_0 zkO_1 zkO_2 zkO_3 zkM_0 zkM_1 zkM_2 zkM_3 zkK_0 zkK_1 zkK_2 zkK_3
      clear k2_0 k2_1 k2_2 k7_0 k7_1 k7_2 k7_3 kA_0 kA_1 kA_2 kA_3 kB_0 kB_1 kB_2 kB_3 kC_0 kC_1 kC_2 kC_3 kO_0 kO_1 kO_2 kO_3 kM_0 kM_1 kM_2 kM_3 kK_0 kK_1 kK_2 kK_3 kQ_0 kQ_1 kQ_2 kQ_3
      have k2 := k2.kept hc10
      have k7 := k7.kept hc10
      have kA := kA.kept hc10
      have kB := kB.kept hc10
      have kC := kC.kept hc10
      have kO := kO.kept hc10
      have kM := kM.kept hc10
      have kK := kK.kept hc10
      have kQ := kQ.kept hc10
      have hb := hb.trans (hc10.mono hb.size)
      clear hc10
      have k2_0 := k2.cell (i := 0) rfl
      have k2_1 := k2.cell (i := 1) rfl
      have k2_2 := k2.cell (i := 2) rfl
      have k7_0 := k7.cell (i := 0) rfl
      have k7_1 := k7.cell (i := 1) rfl
      have k7_2 := k7.cell (i := 2) rfl
      have k7_3 := k7.cell (i := 3) rfl
      have kA_0 := kA.cell (i := 0) rfl
      have kA_1 := kA.cell (i := 1) rfl
      have kA_2 := kA.cell (i := 2) rfl
      have kA_3 := kA.cell (i := 3) rfl
      have kB_0 := kB.cell (i := 0) rfl
      have kB_1 := kB.cell (i := 1) rfl
      have kB_2 := kB.cell (i := 2) rfl
      have kB_3 := kB.cell (i := 3) rfl
      have kC_0 := kC.cell (i := 0) rfl
      have kC_1 := kC.cell (i := 1) rfl
      have kC_2 := kC.cell (i := 2) rfl
      have kC_3 := kC.cell (i := 3) rfl
      have kO_0 := kO.cell (i := 0) rfl
      have kO_1 := kO.cell (i := 1) rfl
      have kO_2 := kO.cell (i := 2) rfl
      have kO_3 := kO.cell (i := 3) rfl
      have kM_0 := kM.cell (i := 0) rfl
      have kM_1 := kM.cell (i := 1) rfl
      have kM_2 := kM.cell (i := 2) rfl
      have kM_3 := kM.cell (i := 3) rfl
      have kK_0 := kK.cell (i := 0) rfl
      have kK_1 := kK.cell (i := 1) rfl
      have kK_2 := kK.cell (i := 2) rfl
      have kK_3 := kK.cell (i := 3) rfl
      have kQ_0 := kQ.cell (i := 0) rfl
      have kQ_1 := kQ.cell (i := 1) rfl
      have kQ_2 := kQ.cell (i := 2) rfl
      have kQ_3 := kQ.cell (i := 3) rfl
      clear kO_0 kO_1 kO_2 kO_3
      clear kM_0 kM_1 kM_2 kM_3
      clear kK_0 kK_1 kK_2 kK_3
      clear kQ_0 kQ_1 kQ_2 kQ_3
      clear k2_0 k2_1 k2_2
      clear k7_0 k7_1 k7_2 k7_3
      go_wp2_with fail
      refine (HT1.out _).mono ?_
      rintro e' wc11 ⟨rfl, hc11⟩
      clear kA_0 kA_1 kA_2 kA_3 kB_0 kB_1 kB_2 kB_3 kC_0 kC_1 kC_2 kC_3
      have kA := kA.kept hc11
      have kB := kB.kept hc11
      have kC := kC.kept hc11
      have hb := hb.trans (hc11.mono hb.size)
      clear hc11
      have kA_0 := kA.cell (i := 0) rfl
      have kA_1 := kA.cell (i := 1) rfl
      have kA_2 := kA.cell (i := 2) rfl
      have kA_3 := kA.cell (i := 3) rfl
      have kB_0 := kB.cell (i := 0) rfl
      have kB_1 := kB.cell (i := 1) rfl
      have kB_2 := kB.cell (i := 2) rfl
      have kB_3 := kB.cell (i := 3) rfl
      have kC_0 := kC.cell (i := 0) rfl
      have kC_1 := kC.cell (i := 1) rfl
      have kC_2 := kC.cell (i := 2) rfl
      have kC_3 := kC.cell (i := 3) rfl
      clear kA_0 kA_1 kA_2 kA_3 kB_0 kB_1 kB_2 kB_3 kC_0 kC_1 kC_2 kC_3
      obtain ⟨wa12, hwa12⟩ : ∃ w', wc11.alloc (.cells #[.int .i64 0, .int .i64 0, .int .i64 0, .int .i64 0] 23) = w' := ⟨_, rfl⟩
      have kk12 : Blk wa12 wc11.heap.size #[.int .i64 0, .int .i64 0, .int .i64 0, .int .i64 0] 23 := by rw [← hwa12]; exact Blk.new _ _ _
      have hk12 : Below wc11.heap.size wc11 wa12 := by rw [← hwa12]; exact (Below.refl _ _).alloc (Nat.le_refl _) _
      obtain ⟨ws12, hws12⟩ : ∃ w', ((((wa12.setCell ⟨wc11.heap.size, 0, none⟩ (.int .i64 G.a)).setCell ⟨wc11.heap.size, 1, none⟩ (.int .i64 G.b)).setCell ⟨wc11.heap.size, 2, none⟩ (.int .i64 G.c)).setCell ⟨wc11.heap.size, 3, none⟩ (.int .i64 G.d)) = w' := ⟨_, rfl⟩
      have hj12 : Below wc11.heap.size wc11 ws12 := by rw [← hws12]; exact ((((hk12.setCell (by simp only; omega) _).setCell (by simp only; omega) _).setCell (by simp only; omega) _).setCell (by simp only; omega) _)
      have kG : Blk ws12 wc11.heap.size #[.int .i64 G.a, .int .i64 G.b, .int .i64 G.c, .int .i64 G.d] 23 := by rw [← hws12]; exact Blk.put4 kk12 _ _ _ _
      have kc120 := kk12.cell (i := 0) rfl
      have kf120 := kk12.frozen 0
      have kc121 := kk12.cell (i := 1) rfl
      have kf121 := kk12.frozen 1
      have kc122 := kk12.cell (i := 2) rfl
      have kf122 := kk12.frozen 2
      have kc123 := kk12.cell (i := 3) rfl
      have kf123 := kk12.frozen 3
      have kA := kA.kept hj12
      have kB := kB.kept hj12
      have kC := kC.kept hj12
      have hb := hb.trans (hj12.mono hb.size)
      clear hj12 hk12
      have kA_0 := kA.cell (i := 0) rfl
      have kA_1 := kA.cell (i := 1) rfl
      have kA_2 := kA.cell (i := 2) rfl
      have kA_3 := kA.cell (i := 3) rfl
      have kB_0 := kB.cell (i := 0) rfl
      have kB_1 := kB.cell (i := 1) rfl
      have kB_2 := kB.cell (i := 2) rfl
      have kB_3 := kB.cell (i := 3) rfl
      have kC_0 := kC.cell (i := 0) rfl
      have kC_1 := kC.cell (i := 1) rfl
      have kC_2 := kC.cell (i := 2) rfl
      have kC_3 := kC.cell (i := 3) rfl
      have kG_0 := kG.cell (i := 0) rfl
      have kG_1 := kG.cell (i := 1) rfl
      have kG_2 := kG.cell (i := 2) rfl
      have kG_3 := kG.cell (i := 3) rfl
      go_wp2_with fail
      refine (HT2.out _).mono ?_
      rintro e' wc13 ⟨rfl, hc13⟩
      clear kA_0 kA_1 kA_2 kA_3 kB_0 kB_1 kB_2 kB_3 kC_0 kC_1 kC_2 kC_3 kG_0 kG_1 kG_2 kG_3
      have kA := kA.kept hc13
      have kB := kB.kept hc13
      have kC := kC.kept hc13
      have kG := kG.kept hc13
      have hb := hb.trans (hc13.mono hb.size)
      clear hc13
      have kA_0 := kA.cell (i := 0) rfl
      have kA_1 := kA.cell (i := 1) rfl
      have kA_2 := kA.cell (i := 2) rfl
      have kA_3 := kA.cell (i := 3) rfl
      have kB_0 := kB.cell (i := 0) rfl
      have kB_1 := kB.cell (i := 1) rfl
      have kB_2 := kB.cell (i := 2) rfl
      have kB_3 := kB.cell (i := 3) rfl
      have kC_0 := kC.cell (i := 0) rfl
      have kC_1 := kC.cell (i := 1) rfl
      have kC_2 := kC.cell (i := 2) rfl
      have kC_3 := kC.cell (i := 3) rfl
      have kG_0 := kG.cell (i := 0) rfl
      have kG_1 := kG.cell (i := 1) rfl
      have kG_2 := kG.cell (i := 2) rfl
      have kG_3 := kG.cell (i := 3) rfl
      clear kA_0 kA_1 kA_2 kA_3 kB_0 kB_1 kB_2 kB_3 kC_0 kC_1 kC_2 kC_3 kG_0 kG_1 kG_2 kG_3
      obtain ⟨wa14, hwa14⟩ : ∃ w', wc13.alloc (.cells #[.int .i64 0, .int .i64 0, .int .i64 0, .int .i64 0] 23) = w' := ⟨_, rfl⟩
      have kk14 : Blk wa14 wc13.heap.size #[.int .i64 0, .int .i64 0, .int .i64 0, .int .i64 0] 23 := by rw [← hwa14]; exact Blk.new _ _ _
      have hk14 : Below wc13.heap.size wc13 wa14 := by rw [← hwa14]; exact (Below.refl _ _).alloc (Nat.le_refl _) _
      obtain ⟨ws14, hws14⟩ : ∃ w', ((((wa14.setCell ⟨wc13.heap.size, 0, none⟩ (.int .i64 H.a)).setCell ⟨wc13.heap.size, 1, none⟩ (.int .i64 H.b)).setCell ⟨wc13.heap.size, 2, none⟩ (.int .i64 H.c)).setCell ⟨wc13.heap.size, 3, none⟩ (.int .i64 H.d)) = w' := ⟨_, rfl⟩
      have hj14 : Below wc13.heap.size wc13 ws14 := by rw [← hws14]; exact ((((hk14.setCell (by simp only; omega) _).setCell (by simp only; omega) _).setCell (by simp only; omega) _).setCell (by simp only; omega) _)
      have kH : Blk ws14 wc13.heap.size #[.int .i64 H.a, .int .i64 H.b, .int .i64 H.c, .int .i64 H.d] 23 := by rw [← hws14]; exact Blk.put4 kk14 _ _ _ _
      have kc140 := kk14.cell (i := 0) rfl
      have kf140 := kk14.frozen 0
      have kc141 := kk14.cell (i := 1) rfl
      have kf141 := kk14.frozen 1
      have kc142 := kk14.cell (i := 2) rfl
      have kf142 := kk14.frozen 2
      have kc143 := kk14.cell (i := 3) rfl
      have kf143 := kk14.frozen 3
      have kA := kA.kept hj14
      have kB := kB.kept hj14
      have kC := kC.kept hj14
      have kG := kG.kept hj14
      have hb := hb.trans (hj14.mono hb.size)
      clear hj14 hk14
      have kA_0 := kA.cell (i := 0) rfl
      have kA_1 := kA.cell (i := 1) rfl
      have kA_2 := kA.cell (i := 2) rfl
      have kA_3 := kA.cell (i := 3) rfl
      have kB_0 := kB.cell (i := 0) rfl
      have kB_1 := kB.cell (i := 1) rfl
      have kB_2 := kB.cell (i := 2) rfl
      have kB_3 := kB.cell (i := 3) rfl
      have kC_0 := kC.cell (i := 0) rfl
      have kC_1 := kC.cell (i := 1) rfl
      have kC_2 := kC.cell (i := 2) rfl
      have kC_3 := kC.cell (i := 3) rfl
      have kG_0 := kG.cell (i := 0) rfl
      have kG_1 := kG.cell (i := 1) rfl
      have kG_2 := kG.cell (i := 2) rfl
      have kG_3 := kG.cell (i := 3) rfl
      have kH_0 := kH.cell (i := 0) rfl
      have kH_1 := kH.cell (i := 1) rfl
      have kH_2 := kH.cell (i := 2) rfl
      have kH_3 := kH.cell (i := 3) rfl
      clear HOP HSA HSO HSH HBK HSM HT1 HT2 heqp
      rcases HEC.out with rfl | rfl | rfl
      · obtain ⟨hGr, hH, d0, d1, d2⟩ := HE0.out rfl
        obtain ⟨hAs, hBs, hCs, _⟩ := HS.out
        have q0 := fun W => side_q W hGr hAs
        have q1 := fun W => side_q W hGr hBs
        have q2 := fun W => side_q W hGr hCs
        rw [d0, show sgnI 0 = 0 from rfl] at q0
        rw [d1, show sgnI 0 = 0 from rfl] at q1
        rw [d2, show sgnI 0 = 0 from rfl] at q2
        have hop := fun W => opp_ok W hGr
        rw [← hH] at hop
        have Q0 := Lib.hid q0
        have Q1 := Lib.hid q1
        have Q2 := Lib.hid q2
        have HOP := Lib.hid hop
        have heqp := fun w => eqPlane H H w
        simp only [decide_true] at heqp
        clear HE0 HEC HS q0 q1 q2 hop hH hGr d0 d1 d2 hAs hBs hCs
        go_wp2_with fail
        refine (Q0.out _).mono ?_
        rintro e' wc15 ⟨rfl, hc15⟩
        clear kA_0 kA_1 kA_2 kA_3 kB_0 kB_1 kB_2 kB_3 kC_0 kC_1 kC_2 kC_3 kG_0 kG_1 kG_2 kG_3 kH_0 kH_1 kH_2 kH_3
        have kA := kA.kept hc15
        have kB := kB.kept hc15
        have kC := kC.kept hc15
        have kG := kG.kept hc15
        have kH := kH.kept hc15
        have hb := hb.trans (hc15.mono hb.size)
        clear hc15
        have kA_0 := kA.cell (i := 0) rfl
        have kA_1 := kA.cell (i := 1) rfl
        have kA_2 := kA.cell (i := 2) rfl
        have kA_3 := kA.cell (i := 3) rfl
        have kB_0 := kB.cell (i := 0) rfl
        have kB_1 := kB.cell (i := 1) rfl
        have kB_2 := kB.cell (i := 2) rfl
        have kB_3 := kB.cell (i := 3) rfl
        have kC_0 := kC.cell (i := 0) rfl
        have kC_1 := kC.cell (i := 1) rfl
        have kC_2 := kC.cell (i := 2) rfl
        have kC_3 := kC.cell (i := 3) rfl
        have kG_0 := kG.cell (i := 0) rfl
        have kG_1 := kG.cell (i := 1) rfl
        have kG_2 := kG.cell (i := 2) rfl
        have kG_3 := kG.cell (i := 3) rfl
        have kH_0 := kH.cell (i := 0) rfl
        have kH_1 := kH.cell (i := 1) rfl
        have kH_2 := kH.cell (i := 2) rfl
        have kH_3 := kH.cell (i := 3) rfl
        go_wp2_with fail
        refine (Q1.out _).mono ?_
        rintro e' wc16 ⟨rfl, hc16⟩
        clear kA_0 kA_1 kA_2 kA_3 kB_0 kB_1 kB_2 kB_3 kC_0 kC_1 kC_2 kC_3 kG_0 kG_1 kG_2 kG_3 kH_0 kH_1 kH_2 kH_3
        have kA := kA.kept hc16
        have kB := kB.kept hc16
        have kC := kC.kept hc16
        have kG := kG.kept hc16
        have kH := kH.kept hc16
        have hb := hb.trans (hc16.mono hb.size)
        clear hc16
        have kA_0 := kA.cell (i := 0) rfl
        have kA_1 := kA.cell (i := 1) rfl
        have kA_2 := kA.cell (i := 2) rfl
        have kA_3 := kA.cell (i := 3) rfl
        have kB_0 := kB.cell (i := 0) rfl
        have kB_1 := kB.cell (i := 1) rfl
        have kB_2 := kB.cell (i := 2) rfl
        have kB_3 := kB.cell (i := 3) rfl
        have kC_0 := kC.cell (i := 0) rfl
        have kC_1 := kC.cell (i := 1) rfl
        have kC_2 := kC.cell (i := 2) rfl
        have kC_3 := kC.cell (i := 3) rfl
        have kG_0 := kG.cell (i := 0) rfl
        have kG_1 := kG.cell (i := 1) rfl
        have kG_2 := kG.cell (i := 2) rfl
        have kG_3 := kG.cell (i := 3) rfl
        have kH_0 := kH.cell (i := 0) rfl
        have kH_1 := kH.cell (i := 1) rfl
        have kH_2 := kH.cell (i := 2) rfl
        have kH_3 := kH.cell (i := 3) rfl
        go_wp2_with fail
        refine (Q2.out _).mono ?_
        rintro e' wc17 ⟨rfl, hc17⟩
        clear kA_0 kA_1 kA_2 kA_3 kB_0 kB_1 kB_2 kB_3 kC_0 kC_1 kC_2 kC_3 kG_0 kG_1 kG_2 kG_3 kH_0 kH_1 kH_2 kH_3
        have kA := kA.kept hc17
        have kB := kB.kept hc17
        have kC := kC.kept hc17
        have kG := kG.kept hc17
        have kH := kH.kept hc17
        have hb := hb.trans (hc17.mono hb.size)
        clear hc17
        have kA_0 := kA.cell (i := 0) rfl
        have kA_1 := kA.cell (i := 1) rfl
        have kA_2 := kA.cell (i := 2) rfl
        have kA_3 := kA.cell (i := 3) rfl
        have kB_0 := kB.cell (i := 0) rfl
        have kB_1 := kB.cell (i := 1) rfl
        have kB_2 := kB.cell (i := 2) rfl
        have kB_3 := kB.cell (i := 3) rfl
        have kC_0 := kC.cell (i := 0) rfl
        have kC_1 := kC.cell (i := 1) rfl
        have kC_2 := kC.cell (i := 2) rfl
        have kC_3 := kC.cell (i := 3) rfl
        have kG_0 := kG.cell (i := 0) rfl
        have kG_1 := kG.cell (i := 1) rfl
        have kG_2 := kG.cell (i := 2) rfl
        have kG_3 := kG.cell (i := 3) rfl
        have kH_0 := kH.cell (i := 0) rfl
        have kH_1 := kH.cell (i := 1) rfl
        have kH_2 := kH.cell (i := 2) rfl
        have kH_3 := kH.cell (i := 3) rfl
        go_wp2_with fail
        refine (HOP.out _).mono ?_
        rintro e' wc18 ⟨rfl, hc18⟩
        clear kA_0 kA_1 kA_2 kA_3 kB_0 kB_1 kB_2 kB_3 kC_0 kC_1 kC_2 kC_3 kG_0 kG_1 kG_2 kG_3 kH_0 kH_1 kH_2 kH_3
        have kA := kA.kept hc18
        have kB := kB.kept hc18
        have kC := kC.kept hc18
        have kG := kG.kept hc18
        have kH := kH.kept hc18
        have hb := hb.trans (hc18.mono hb.size)
        clear hc18
        have kA_0 := kA.cell (i := 0) rfl
        have kA_1 := kA.cell (i := 1) rfl
        have kA_2 := kA.cell (i := 2) rfl
        have kA_3 := kA.cell (i := 3) rfl
        have kB_0 := kB.cell (i := 0) rfl
        have kB_1 := kB.cell (i := 1) rfl
        have kB_2 := kB.cell (i := 2) rfl
        have kB_3 := kB.cell (i := 3) rfl
        have kC_0 := kC.cell (i := 0) rfl
        have kC_1 := kC.cell (i := 1) rfl
        have kC_2 := kC.cell (i := 2) rfl
        have kC_3 := kC.cell (i := 3) rfl
        have kG_0 := kG.cell (i := 0) rfl
        have kG_1 := kG.cell (i := 1) rfl
        have kG_2 := kG.cell (i := 2) rfl
        have kG_3 := kG.cell (i := 3) rfl
        have kH_0 := kH.cell (i := 0) rfl
        have kH_1 := kH.cell (i := 1) rfl
        have kH_2 := kH.cell (i := 2) rfl
        have kH_3 := kH.cell (i := 3) rfl
        clear kA_0 kA_1 kA_2 kA_3 kB_0 kB_1 kB_2 kB_3 kC_0 kC_1 kC_2 kC_3 kG_0 kG_1 kG_2 kG_3 kH_0 kH_1 kH_2 kH_3
        obtain ⟨wa19, hwa19⟩ : ∃ w', wc18.alloc (.cells #[.int .i64 0, .int .i64 0, .int .i64 0, .int .i64 0] 23) = w' := ⟨_, rfl⟩
        have kk19 : Blk wa19 wc18.heap.size #[.int .i64 0, .int .i64 0, .int .i64 0, .int .i64 0] 23 := by rw [← hwa19]; exact Blk.new _ _ _
        have hk19 : Below wc18.heap.size wc18 wa19 := by rw [← hwa19]; exact (Below.refl _ _).alloc (Nat.le_refl _) _
        obtain ⟨ws19, hws19⟩ : ∃ w', ((((wa19.setCell ⟨wc18.heap.size, 0, none⟩ (.int .i64 H.a)).setCell ⟨wc18.heap.size, 1, none⟩ (.int .i64 H.b)).setCell ⟨wc18.heap.size, 2, none⟩ (.int .i64 H.c)).setCell ⟨wc18.heap.size, 3, none⟩ (.int .i64 H.d)) = w' := ⟨_, rfl⟩
        have hj19 : Below wc18.heap.size wc18 ws19 := by rw [← hws19]; exact ((((hk19.setCell (by simp only; omega) _).setCell (by simp only; omega) _).setCell (by simp only; omega) _).setCell (by simp only; omega) _)
        have kT : Blk ws19 wc18.heap.size #[.int .i64 H.a, .int .i64 H.b, .int .i64 H.c, .int .i64 H.d] 23 := by rw [← hws19]; exact Blk.put4 kk19 _ _ _ _
        have kc190 := kk19.cell (i := 0) rfl
        have kf190 := kk19.frozen 0
        have kc191 := kk19.cell (i := 1) rfl
        have kf191 := kk19.frozen 1
        have kc192 := kk19.cell (i := 2) rfl
        have kf192 := kk19.frozen 2
        have kc193 := kk19.cell (i := 3) rfl
        have kf193 := kk19.frozen 3
        have kA := kA.kept hj19
        have kB := kB.kept hj19
        have kC := kC.kept hj19
        have kG := kG.kept hj19
        have kH := kH.kept hj19
        have hb := hb.trans (hj19.mono hb.size)
        clear hj19 hk19
        have kA_0 := kA.cell (i := 0) rfl
        have kA_1 := kA.cell (i := 1) rfl
        have kA_2 := kA.cell (i := 2) rfl
        have kA_3 := kA.cell (i := 3) rfl
        have kB_0 := kB.cell (i := 0) rfl
        have kB_1 := kB.cell (i := 1) rfl
        have kB_2 := kB.cell (i := 2) rfl
        have kB_3 := kB.cell (i := 3) rfl
        have kC_0 := kC.cell (i := 0) rfl
        have kC_1 := kC.cell (i := 1) rfl
        have kC_2 := kC.cell (i := 2) rfl
        have kC_3 := kC.cell (i := 3) rfl
        have kG_0 := kG.cell (i := 0) rfl
        have kG_1 := kG.cell (i := 1) rfl
        have kG_2 := kG.cell (i := 2) rfl
        have kG_3 := kG.cell (i := 3) rfl
        have kH_0 := kH.cell (i := 0) rfl
        have kH_1 := kH.cell (i := 1) rfl
        have kH_2 := kH.cell (i := 2) rfl
        have kH_3 := kH.cell (i := 3) rfl
        have kT_0 := kT.cell (i := 0) rfl
        have kT_1 := kT.cell (i := 1) rfl
        have kT_2 := kT.cell (i := 2) rfl
        have kT_3 := kT.cell (i := 3) rfl
        clear Q0 Q1 Q2 HOP
        go_wp2_with fail
        refine (awake3_any _).mono ?_
        rintro e' wz ⟨rfl, hz⟩
        go_wp2_with fail
        go_ret
        exact ⟨rfl, hb.trans (hz.mono hb.size)⟩
      · clear HE0 HS
        go_wp2_with fail
        refine (awake3_any _).mono ?_
        rintro e' wz ⟨rfl, hz⟩
        go_wp2_with fail
        go_ret
        exact ⟨rfl, hb.trans (hz.mono hb.size)⟩
      · clear HE0 HS
        go_wp2_with fail
        refine (awake3_any _).mono ?_
        rintro e' wz ⟨rfl, hz⟩
        go_wp2_with fail
        go_ret
        exact ⟨rfl, hb.trans (hz.mono hb.size)⟩
end Go.Proofs.Ytopdeakjnloemaa
