/-
  PlaneThrough: for every three points' numbers the law returns true, and the arguments read as they did. No condition.
-/
import Derived.Test.YthdhakpmhndbfaaRows
import Derived.ProofKit
import Derived.Laws.IdiomArrays
import Derived.Test.YthdhakpmhndbfaaK1
import Derived.Test.YthdhakpmhndbfaaK2
import Derived.Test.YthdhakpmhndbfaaK3
import Derived.Test.YthdhakpmhndbfaaK4
import Derived.Test.YthdhakpmhndbfaaK5
import Derived.Test.YthdhakpmhndbfaaK6
import Derived.Test.YthdhakpmhndbfaaK7
import Derived.Test.YthdhakpmhndbfaaK8
import Derived.Test.YthdhakpmhndbfaaK9
import Derived.Test.YthdhakpmhndbfaaK10
import Derived.Test.YthdhakpmhndbfaaK11
import Derived.Test.YthdhakpmhndbfaaK12
import Derived.Test.YthdhakpmhndbfaaK13
import Derived.Test.YthdhakpmhndbfaaK14
import Derived.Test.YthdhakpmhndbfaaK15
import Derived.Test.YthdhakpmhndbfaaK16
import Derived.Test.YthdhakpmhndbfaaK17
import Derived.Test.YthdhakpmhndbfaaK18
import Derived.Test.YthdhakpmhndbfaaK19
import Derived.Test.YthdhakpmhndbfaaK20
namespace Go.Proofs.Ythdhakpmhndbfaa
open Go.RowKit Go.Shelf
attribute [local go_sem] Oper.semAt_some

theorem thr_same {A B C : V4} (h : sound3 A B C = true) : rthrP A B C = thrP A B C ∧ rthrE A B C = thrE A B C := by
  unfold rthrP rthrE thrP thrE
  rw [if_pos h, if_pos h]; exact ⟨rfl, rfl⟩
theorem thr_bad {A B C : V4} (h : sound3 A B C = false) : thrP A B C = ⟨0, 0, 0, 0⟩ ∧ thrE A B C = 40 := by
  unfold thrP thrE
  rw [if_neg (by rw [h]; decide), if_neg (by rw [h]; decide)]; exact ⟨rfl, rfl⟩
theorem thr_zero {A B C : V4} (h : thrE A B C ≠ 0) : thrP A B C = ⟨0, 0, 0, 0⟩ := by
  unfold thrP thrE at *
  by_cases h1 : sound3 A B C = true
  · rw [if_pos h1] at h ⊢
    by_cases h2 : zero3 A B C
    · rw [if_pos h2]
    · rw [if_neg h2] at h ⊢
      by_cases h3 : thrOk A B C
      · rw [decide_eq_true h3] at h; exact absurd rfl h
      · rw [if_neg h3]
  · rw [if_neg h1]

set_option maxRecDepth 100000 in
set_option maxHeartbeats 8000000 in
theorem planeThrough_walk (x0 y0 z0 : V4) (w : World) (hx : InV x0) (hy : InV y0) (hz : InV z0) :
    Calls Try.prog 5 #[.agg #[.int .i64 x0.a, .int .i64 x0.b, .int .i64 x0.c, .int .i64 x0.d], .agg #[.int .i64 y0.a, .int .i64 y0.b, .int .i64 y0.c, .int .i64 y0.d], .agg #[.int .i64 z0.a, .int .i64 z0.b, .int .i64 z0.c, .int .i64 z0.d]] w fun e w' => e = .returned (.bool true) ∧ Below w.heap.size w w' := by
  obtain ⟨w1, hw1⟩ : ∃ w1, (((w.alloc (.cells #[.int .i64 x0.a, .int .i64 x0.b, .int .i64 x0.c, .int .i64 x0.d] 37)).alloc (.cells #[.int .i64 y0.a, .int .i64 y0.b, .int .i64 y0.c, .int .i64 y0.d] 37)).alloc (.cells #[.int .i64 z0.a, .int .i64 z0.b, .int .i64 z0.c, .int .i64 z0.d] 37)) = w1 := ⟨_, rfl⟩
  have hb1 : Below w.heap.size w w1 := by rw [← hw1]; exact bw3 w _ _ _
  have k0 : Blk w1 (w.heap.size) #[.int .i64 x0.a, .int .i64 x0.b, .int .i64 x0.c, .int .i64 x0.d] 37 := by rw [← hw1]; exact ((Blk.new w _ _).alloc _).alloc _
  have k1 : Blk w1 (w.heap.size + 1) #[.int .i64 y0.a, .int .i64 y0.b, .int .i64 y0.c, .int .i64 y0.d] 37 := by rw [← hw1]; exact (Blk.new' _ _ _ (by simp)).alloc _
  have k2 : Blk w1 (w.heap.size + 1 + 1) #[.int .i64 z0.a, .int .i64 z0.b, .int .i64 z0.c, .int .i64 z0.d] 37 := by rw [← hw1]; exact Blk.new' _ _ _ (by simp)
  go_enter Try.func5, Try.ntmps5
  go_wp2_with fail
  go_loopg [7] 2 (fun gk v7 wr => ∃ (i : Nat) (A B C : V4), i ≤ 2 ∧ gk = 2 - i ∧ v7 = .int .i64 (i : Int) ∧ Hid (InV A ∧ InV B ∧ InV C) ∧ Blk wr (w.heap.size) #[.int .i64 A.a, .int .i64 A.b, .int .i64 A.c, .int .i64 A.d] 37 ∧ Blk wr (w.heap.size + 1) #[.int .i64 B.a, .int .i64 B.b, .int .i64 B.c, .int .i64 B.d] 37 ∧ Blk wr (w.heap.size + 1 + 1) #[.int .i64 C.a, .int .i64 C.b, .int .i64 C.c, .int .i64 C.d] 37 ∧ Below w.heap.size w wr)
  case atStart => exact ⟨0, x0, y0, z0, by decide, rfl, rfl, ⟨hx, hy, hz⟩, k0, k1, k2, hb1⟩
  case round =>
    clear hx hy hz k0 k1 k2 hb1 hw1
    obtain ⟨i, A, B, C, hi, hgk, rfl, HIN, k0, k1, k2, hb⟩ := hrel
    have HGK := Lib.hid hgk
    clear hgk
    by_cases hlt : i < 2
    · have hlti : (i : Int) < 2 := by omega
      have hth := fun W => through_any A B C W HIN.out.1 HIN.out.2.1 HIN.out.2.2
      obtain ⟨T, hT⟩ : ∃ T, thrP A B C = T := ⟨_, rfl⟩
      obtain ⟨E, hE⟩ : ∃ E, thrE A B C = E := ⟨_, rfl⟩
      rw [hT, hE] at hth
      have HTH := Lib.hid hth
      have HTE := Lib.hid (And.intro hT hE)
      have HSA := Lib.hid (fun W => sound3_any A W HIN.out.1)
      have HSB := Lib.hid (fun W => sound3_any B W HIN.out.2.1)
      have HSC := Lib.hid (fun W => sound3_any C W HIN.out.2.2)
      have HPA := Lib.hid (fun W => place_any A W HIN.out.1)
      have HPB := Lib.hid (fun W => place_any B W HIN.out.2.1)
      have HPC := Lib.hid (fun W => place_any C W HIN.out.2.2)
      obtain ⟨sb, hsb⟩ : ∃ b, sound3 A B C = b := ⟨_, rfl⟩
      have HS3 := Lib.hid hsb
      clear hth hT hE hsb
      have k0_0 := k0.cell (i := 0) rfl
      have k0_f0 := k0.frozen 0
      have k0_1 := k0.cell (i := 1) rfl
      have k0_f1 := k0.frozen 1
      have k0_2 := k0.cell (i := 2) rfl
      have k0_f2 := k0.frozen 2
      have k0_3 := k0.cell (i := 3) rfl
      have k0_f3 := k0.frozen 3
      have k1_0 := k1.cell (i := 0) rfl
      have k1_f0 := k1.frozen 0
      have k1_1 := k1.cell (i := 1) rfl
      have k1_f1 := k1.frozen 1
      have k1_2 := k1.cell (i := 2) rfl
      have k1_f2 := k1.frozen 2
      have k1_3 := k1.cell (i := 3) rfl
      have k1_f3 := k1.frozen 3
      have k2_0 := k2.cell (i := 0) rfl
      have k2_f0 := k2.frozen 0
      have k2_1 := k2.cell (i := 1) rfl
      have k2_f1 := k2.frozen 1
      have k2_2 := k2.cell (i := 2) rfl
      have k2_f2 := k2.frozen 2
      have k2_3 := k2.cell (i := 3) rfl
      have k2_f3 := k2.frozen 3
      go_wp2_with fail
      refine (HTH.out _).mono ?_
      rintro e' wc1 ⟨rfl, hc1⟩
      clear k0_0 k0_f0 k0_1 k0_f1 k0_2 k0_f2 k0_3 k0_f3 k1_0 k1_f0 k1_1 k1_f1 k1_2 k1_f2 k1_3 k1_f3 k2_0 k2_f0 k2_1 k2_f1 k2_2 k2_f2 k2_3 k2_f3
      have k0 := k0.kept hc1
      have k1 := k1.kept hc1
      have k2 := k2.kept hc1
      have hb := hb.trans (hc1.mono hb.size)
      clear hc1
      have k0_0 := k0.cell (i := 0) rfl
      have k0_f0 := k0.frozen 0
      have k0_1 := k0.cell (i := 1) rfl
      have k0_f1 := k0.frozen 1
      have k0_2 := k0.cell (i := 2) rfl
      have k0_f2 := k0.frozen 2
      have k0_3 := k0.cell (i := 3) rfl
      have k0_f3 := k0.frozen 3
      have k1_0 := k1.cell (i := 0) rfl
      have k1_f0 := k1.frozen 0
      have k1_1 := k1.cell (i := 1) rfl
      have k1_f1 := k1.frozen 1
      have k1_2 := k1.cell (i := 2) rfl
      have k1_f2 := k1.frozen 2
      have k1_3 := k1.cell (i := 3) rfl
      have k1_f3 := k1.frozen 3
      have k2_0 := k2.cell (i := 0) rfl
      have k2_f0 := k2.frozen 0
      have k2_1 := k2.cell (i := 1) rfl
      have k2_f1 := k2.frozen 1
      have k2_2 := k2.cell (i := 2) rfl
      have k2_f2 := k2.frozen 2
      have k2_3 := k2.cell (i := 3) rfl
      have k2_f3 := k2.frozen 3
      have lt2 : w.heap.size + 1 + 1 < wc1.heap.size := k2.lt
      clear k0_0 k0_f0 k0_1 k0_f1 k0_2 k0_f2 k0_3 k0_f3 k1_0 k1_f0 k1_1 k1_f1 k1_2 k1_f2 k1_3 k1_f3 k2_0 k2_f0 k2_1 k2_f1 k2_2 k2_f2 k2_3 k2_f3
      obtain ⟨wa2, hwa2⟩ : ∃ w', wc1.alloc (.cells #[.int .i64 0, .int .i64 0, .int .i64 0, .int .i64 0] 23) = w' := ⟨_, rfl⟩
      have kk2 : Blk wa2 wc1.heap.size #[.int .i64 0, .int .i64 0, .int .i64 0, .int .i64 0] 23 := by rw [← hwa2]; exact Blk.new _ _ _
      have hk2 : Below wc1.heap.size wc1 wa2 := by rw [← hwa2]; exact (Below.refl _ _).alloc (Nat.le_refl _) _
      obtain ⟨ws2, hws2⟩ : ∃ w', ((((wa2.setCell ⟨wc1.heap.size, 0, none⟩ (.int .i64 T.a)).setCell ⟨wc1.heap.size, 1, none⟩ (.int .i64 T.b)).setCell ⟨wc1.heap.size, 2, none⟩ (.int .i64 T.c)).setCell ⟨wc1.heap.size, 3, none⟩ (.int .i64 T.d)) = w' := ⟨_, rfl⟩
      have hj2 : Below wc1.heap.size wc1 ws2 := by rw [← hws2]; exact ((((hk2.setCell (by simp only; omega) _).setCell (by simp only; omega) _).setCell (by simp only; omega) _).setCell (by simp only; omega) _)
      have kS : Blk ws2 wc1.heap.size #[.int .i64 T.a, .int .i64 T.b, .int .i64 T.c, .int .i64 T.d] 23 := by rw [← hws2]; exact Blk.put4 kk2 _ _ _ _
      have kc20 := kk2.cell (i := 0) rfl
      have kf20 := kk2.frozen 0
      have kc21 := kk2.cell (i := 1) rfl
      have kf21 := kk2.frozen 1
      have kc22 := kk2.cell (i := 2) rfl
      have kf22 := kk2.frozen 2
      have kc23 := kk2.cell (i := 3) rfl
      have kf23 := kk2.frozen 3
      have k0 := k0.kept hj2
      have k1 := k1.kept hj2
      have k2 := k2.kept hj2
      have hb := hb.trans (hj2.mono hb.size)
      clear hj2 hk2
      have k0_0 := k0.cell (i := 0) rfl
      have k0_f0 := k0.frozen 0
      have k0_1 := k0.cell (i := 1) rfl
      have k0_f1 := k0.frozen 1
      have k0_2 := k0.cell (i := 2) rfl
      have k0_f2 := k0.frozen 2
      have k0_3 := k0.cell (i := 3) rfl
      have k0_f3 := k0.frozen 3
      have k1_0 := k1.cell (i := 0) rfl
      have k1_f0 := k1.frozen 0
      have k1_1 := k1.cell (i := 1) rfl
      have k1_f1 := k1.frozen 1
      have k1_2 := k1.cell (i := 2) rfl
      have k1_f2 := k1.frozen 2
      have k1_3 := k1.cell (i := 3) rfl
      have k1_f3 := k1.frozen 3
      have k2_0 := k2.cell (i := 0) rfl
      have k2_f0 := k2.frozen 0
      have k2_1 := k2.cell (i := 1) rfl
      have k2_f1 := k2.frozen 1
      have k2_2 := k2.cell (i := 2) rfl
      have k2_f2 := k2.frozen 2
      have k2_3 := k2.cell (i := 3) rfl
      have k2_f3 := k2.frozen 3
      have kS_0 := kS.cell (i := 0) rfl
      have kS_1 := kS.cell (i := 1) rfl
      have kS_2 := kS.cell (i := 2) rfl
      have kS_3 := kS.cell (i := 3) rfl
      have lt3 : wc1.heap.size < ws2.heap.size := kS.lt
      clear k0_0 k0_f0 k0_1 k0_f1 k0_2 k0_f2 k0_3 k0_f3 k1_0 k1_f0 k1_1 k1_f1 k1_2 k1_f2 k1_3 k1_f3 k2_0 k2_f0 k2_1 k2_f1 k2_2 k2_f2 k2_3 k2_f3 kS_0 kS_1 kS_2 kS_3
      obtain ⟨wa3, hwa3⟩ : ∃ w', ws2.alloc (.cells #[.int .i64 0, .int .i64 0, .int .i64 0, .int .i64 0] 23) = w' := ⟨_, rfl⟩
      have kX : Blk wa3 ws2.heap.size #[.int .i64 0, .int .i64 0, .int .i64 0, .int .i64 0] 23 := by rw [← hwa3]; exact Blk.new _ _ _
      have hk3 : Below ws2.heap.size ws2 wa3 := by rw [← hwa3]; exact (Below.refl _ _).alloc (Nat.le_refl _) _
      have k0 := k0.kept hk3
      have k1 := k1.kept hk3
      have k2 := k2.kept hk3
      have kS := kS.kept hk3
      have hb := hb.trans (hk3.mono hb.size)
      clear hk3
      have k0_0 := k0.cell (i := 0) rfl
      have k0_f0 := k0.frozen 0
      have k0_1 := k0.cell (i := 1) rfl
      have k0_f1 := k0.frozen 1
      have k0_2 := k0.cell (i := 2) rfl
      have k0_f2 := k0.frozen 2
      have k0_3 := k0.cell (i := 3) rfl
      have k0_f3 := k0.frozen 3
      have k1_0 := k1.cell (i := 0) rfl
      have k1_f0 := k1.frozen 0
      have k1_1 := k1.cell (i := 1) rfl
      have k1_f1 := k1.frozen 1
      have k1_2 := k1.cell (i := 2) rfl
      have k1_f2 := k1.frozen 2
      have k1_3 := k1.cell (i := 3) rfl
      have k1_f3 := k1.frozen 3
      have k2_0 := k2.cell (i := 0) rfl
      have k2_f0 := k2.frozen 0
      have k2_1 := k2.cell (i := 1) rfl
      have k2_f1 := k2.frozen 1
      have k2_2 := k2.cell (i := 2) rfl
      have k2_f2 := k2.frozen 2
      have k2_3 := k2.cell (i := 3) rfl
      have k2_f3 := k2.frozen 3
      have kS_0 := kS.cell (i := 0) rfl
      have kS_1 := kS.cell (i := 1) rfl
      have kS_2 := kS.cell (i := 2) rfl
      have kS_3 := kS.cell (i := 3) rfl
      have kX_0 := kX.cell (i := 0) rfl
      have kX_f0 := kX.frozen 0
      have kX_1 := kX.cell (i := 1) rfl
      have kX_f1 := kX.frozen 1
      have kX_2 := kX.cell (i := 2) rfl
      have kX_f2 := kX.frozen 2
      have kX_3 := kX.cell (i := 3) rfl
      have kX_f3 := kX.frozen 3
      go_upto_region 7 with fail
      go_cut [35] from 23 to 35 (fun v35 wx => v35 = .bool (!sb) ∧ Blk wx (w.heap.size) #[.int .i64 A.a, .int .i64 A.b, .int .i64 A.c, .int .i64 A.d] 37 ∧ Blk wx (w.heap.size + 1) #[.int .i64 B.a, .int .i64 B.b, .int .i64 B.c, .int .i64 B.d] 37 ∧ Blk wx (w.heap.size + 1 + 1) #[.int .i64 C.a, .int .i64 C.b, .int .i64 C.c, .int .i64 C.d] 37 ∧ Blk wx wc1.heap.size #[.int .i64 T.a, .int .i64 T.b, .int .i64 T.c, .int .i64 T.d] 23 ∧ Blk wx ws2.heap.size #[.int .i64 0, .int .i64 0, .int .i64 0, .int .i64 0] 23 ∧ Below w.heap.size w wx)
      case first =>
        by_cases h0 : SoundQ A
        · rw [decide_eq_true h0] at HSA
          by_cases h1 : SoundQ B
          · rw [decide_eq_true h1] at HSB
            have hz : (!sb) = !decide (SoundQ C) := by rw [← HS3.out]; unfold sound3; rw [decide_eq_true h0, decide_eq_true h1]; rfl
            obtain ⟨b2, hb2⟩ : ∃ b, decide (SoundQ C) = b := ⟨_, rfl⟩
            rw [hb2] at hz HSC
            have HZE := Lib.hid hz
            clear h0 h1 hz hb2
            go_wp2_with fail
            refine (HSA.out _).mono ?_
            rintro e' wc51 ⟨rfl, hc51⟩
            clear k0_0 k0_f0 k0_1 k0_f1 k0_2 k0_f2 k0_3 k0_f3 k1_0 k1_f0 k1_1 k1_f1 k1_2 k1_f2 k1_3 k1_f3 k2_0 k2_f0 k2_1 k2_f1 k2_2 k2_f2 k2_3 k2_f3 kS_0 kS_1 kS_2 kS_3 kX_0 kX_f0 kX_1 kX_f1 kX_2 kX_f2 kX_3 kX_f3
            have k0 := k0.kept hc51
            have k1 := k1.kept hc51
            have k2 := k2.kept hc51
            have kS := kS.kept hc51
            have kX := kX.kept hc51
            have hb := hb.trans (hc51.mono hb.size)
            clear hc51
            have k0_0 := k0.cell (i := 0) rfl
            have k0_f0 := k0.frozen 0
            have k0_1 := k0.cell (i := 1) rfl
            have k0_f1 := k0.frozen 1
            have k0_2 := k0.cell (i := 2) rfl
            have k0_f2 := k0.frozen 2
            have k0_3 := k0.cell (i := 3) rfl
            have k0_f3 := k0.frozen 3
            have k1_0 := k1.cell (i := 0) rfl
            have k1_f0 := k1.frozen 0
            have k1_1 := k1.cell (i := 1) rfl
            have k1_f1 := k1.frozen 1
            have k1_2 := k1.cell (i := 2) rfl
            have k1_f2 := k1.frozen 2
            have k1_3 := k1.cell (i := 3) rfl
            have k1_f3 := k1.frozen 3
            have k2_0 := k2.cell (i := 0) rfl
            have k2_f0 := k2.frozen 0
            have k2_1 := k2.cell (i := 1) rfl
            have k2_f1 := k2.frozen 1
            have k2_2 := k2.cell (i := 2) rfl
            have k2_f2 := k2.frozen 2
            have k2_3 := k2.cell (i := 3) rfl
            have k2_f3 := k2.frozen 3
            have kS_0 := kS.cell (i := 0) rfl
            have kS_1 := kS.cell (i := 1) rfl
            have kS_2 := kS.cell (i := 2) rfl
            have kS_3 := kS.cell (i := 3) rfl
            have kX_0 := kX.cell (i := 0) rfl
            have kX_f0 := kX.frozen 0
            have kX_1 := kX.cell (i := 1) rfl
            have kX_f1 := kX.frozen 1
            have kX_2 := kX.cell (i := 2) rfl
            have kX_f2 := kX.frozen 2
            have kX_3 := kX.cell (i := 3) rfl
            have kX_f3 := kX.frozen 3
            go_wp2_with fail
            refine (HSB.out _).mono ?_
            rintro e' wc52 ⟨rfl, hc52⟩
            clear k0_0 k0_f0 k0_1 k0_f1 k0_2 k0_f2 k0_3 k0_f3 k1_0 k1_f0 k1_1 k1_f1 k1_2 k1_f2 k1_3 k1_f3 k2_0 k2_f0 k2_1 k2_f1 k2_2 k2_f2 k2_3 k2_f3 kS_0 kS_1 kS_2 kS_3 kX_0 kX_f0 kX_1 kX_f1 kX_2 kX_f2 kX_3 kX_f3
            have k0 := k0.kept hc52
            have k1 := k1.kept hc52
            have k2 := k2.kept hc52
            have kS := kS.kept hc52
            have kX := kX.kept hc52
            have hb := hb.trans (hc52.mono hb.size)
            clear hc52
            have k0_0 := k0.cell (i := 0) rfl
            have k0_f0 := k0.frozen 0
            have k0_1 := k0.cell (i := 1) rfl
            have k0_f1 := k0.frozen 1
            have k0_2 := k0.cell (i := 2) rfl
            have k0_f2 := k0.frozen 2
            have k0_3 := k0.cell (i := 3) rfl
            have k0_f3 := k0.frozen 3
            have k1_0 := k1.cell (i := 0) rfl
            have k1_f0 := k1.frozen 0
            have k1_1 := k1.cell (i := 1) rfl
            have k1_f1 := k1.frozen 1
            have k1_2 := k1.cell (i := 2) rfl
            have k1_f2 := k1.frozen 2
            have k1_3 := k1.cell (i := 3) rfl
            have k1_f3 := k1.frozen 3
            have k2_0 := k2.cell (i := 0) rfl
            have k2_f0 := k2.frozen 0
            have k2_1 := k2.cell (i := 1) rfl
            have k2_f1 := k2.frozen 1
            have k2_2 := k2.cell (i := 2) rfl
            have k2_f2 := k2.frozen 2
            have k2_3 := k2.cell (i := 3) rfl
            have k2_f3 := k2.frozen 3
            have kS_0 := kS.cell (i := 0) rfl
            have kS_1 := kS.cell (i := 1) rfl
            have kS_2 := kS.cell (i := 2) rfl
            have kS_3 := kS.cell (i := 3) rfl
            have kX_0 := kX.cell (i := 0) rfl
            have kX_f0 := kX.frozen 0
            have kX_1 := kX.cell (i := 1) rfl
            have kX_f1 := kX.frozen 1
            have kX_2 := kX.cell (i := 2) rfl
            have kX_f2 := kX.frozen 2
            have kX_3 := kX.cell (i := 3) rfl
            have kX_f3 := kX.frozen 3
            go_wp2_with fail
            refine (HSC.out _).mono ?_
            rintro e' wc53 ⟨rfl, hc53⟩
            clear k0_0 k0_f0 k0_1 k0_f1 k0_2 k0_f2 k0_3 k0_f3 k1_0 k1_f0 k1_1 k1_f1 k1_2 k1_f2 k1_3 k1_f3 k2_0 k2_f0 k2_1 k2_f1 k2_2 k2_f2 k2_3 k2_f3 kS_0 kS_1 kS_2 kS_3 kX_0 kX_f0 kX_1 kX_f1 kX_2 kX_f2 kX_3 kX_f3
            have k0 := k0.kept hc53
            have k1 := k1.kept hc53
            have k2 := k2.kept hc53
            have kS := kS.kept hc53
            have kX := kX.kept hc53
            have hb := hb.trans (hc53.mono hb.size)
            clear hc53
            have k0_0 := k0.cell (i := 0) rfl
            have k0_f0 := k0.frozen 0
            have k0_1 := k0.cell (i := 1) rfl
            have k0_f1 := k0.frozen 1
            have k0_2 := k0.cell (i := 2) rfl
            have k0_f2 := k0.frozen 2
            have k0_3 := k0.cell (i := 3) rfl
            have k0_f3 := k0.frozen 3
            have k1_0 := k1.cell (i := 0) rfl
            have k1_f0 := k1.frozen 0
            have k1_1 := k1.cell (i := 1) rfl
            have k1_f1 := k1.frozen 1
            have k1_2 := k1.cell (i := 2) rfl
            have k1_f2 := k1.frozen 2
            have k1_3 := k1.cell (i := 3) rfl
            have k1_f3 := k1.frozen 3
            have k2_0 := k2.cell (i := 0) rfl
            have k2_f0 := k2.frozen 0
            have k2_1 := k2.cell (i := 1) rfl
            have k2_f1 := k2.frozen 1
            have k2_2 := k2.cell (i := 2) rfl
            have k2_f2 := k2.frozen 2
            have k2_3 := k2.cell (i := 3) rfl
            have k2_f3 := k2.frozen 3
            have kS_0 := kS.cell (i := 0) rfl
            have kS_1 := kS.cell (i := 1) rfl
            have kS_2 := kS.cell (i := 2) rfl
            have kS_3 := kS.cell (i := 3) rfl
            have kX_0 := kX.cell (i := 0) rfl
            have kX_f0 := kX.frozen 0
            have kX_1 := kX.cell (i := 1) rfl
            have kX_f1 := kX.frozen 1
            have kX_2 := kX.cell (i := 2) rfl
            have kX_f2 := kX.frozen 2
            have kX_3 := kX.cell (i := 3) rfl
            have kX_f3 := kX.frozen 3
            go_wp2_with fail
            go_meet
            case rel => exact ⟨by rw [HZE.out], k0, k1, k2, kS, kX, hb⟩
          · rw [decide_eq_false h1] at HSB
            have HZE := Lib.hid (show (!sb) = true by rw [← HS3.out]; unfold sound3; rw [decide_eq_true h0, decide_eq_false h1]; rfl)
            clear h0 h1
            go_wp2_with fail
            refine (HSA.out _).mono ?_
            rintro e' wc51 ⟨rfl, hc51⟩
            clear k0_0 k0_f0 k0_1 k0_f1 k0_2 k0_f2 k0_3 k0_f3 k1_0 k1_f0 k1_1 k1_f1 k1_2 k1_f2 k1_3 k1_f3 k2_0 k2_f0 k2_1 k2_f1 k2_2 k2_f2 k2_3 k2_f3 kS_0 kS_1 kS_2 kS_3 kX_0 kX_f0 kX_1 kX_f1 kX_2 kX_f2 kX_3 kX_f3
            have k0 := k0.kept hc51
            have k1 := k1.kept hc51
            have k2 := k2.kept hc51
            have kS := kS.kept hc51
            have kX := kX.kept hc51
            have hb := hb.trans (hc51.mono hb.size)
            clear hc51
            have k0_0 := k0.cell (i := 0) rfl
            have k0_f0 := k0.frozen 0
            have k0_1 := k0.cell (i := 1) rfl
            have k0_f1 := k0.frozen 1
            have k0_2 := k0.cell (i := 2) rfl
            have k0_f2 := k0.frozen 2
            have k0_3 := k0.cell (i := 3) rfl
            have k0_f3 := k0.frozen 3
            have k1_0 := k1.cell (i := 0) rfl
            have k1_f0 := k1.frozen 0
            have k1_1 := k1.cell (i := 1) rfl
            have k1_f1 := k1.frozen 1
            have k1_2 := k1.cell (i := 2) rfl
            have k1_f2 := k1.frozen 2
            have k1_3 := k1.cell (i := 3) rfl
            have k1_f3 := k1.frozen 3
            have k2_0 := k2.cell (i := 0) rfl
            have k2_f0 := k2.frozen 0
            have k2_1 := k2.cell (i := 1) rfl
            have k2_f1 := k2.frozen 1
            have k2_2 := k2.cell (i := 2) rfl
            have k2_f2 := k2.frozen 2
            have k2_3 := k2.cell (i := 3) rfl
            have k2_f3 := k2.frozen 3
            have kS_0 := kS.cell (i := 0) rfl
            have kS_1 := kS.cell (i := 1) rfl
            have kS_2 := kS.cell (i := 2) rfl
            have kS_3 := kS.cell (i := 3) rfl
            have kX_0 := kX.cell (i := 0) rfl
            have kX_f0 := kX.frozen 0
            have kX_1 := kX.cell (i := 1) rfl
            have kX_f1 := kX.frozen 1
            have kX_2 := kX.cell (i := 2) rfl
            have kX_f2 := kX.frozen 2
            have kX_3 := kX.cell (i := 3) rfl
            have kX_f3 := kX.frozen 3
            go_wp2_with fail
            refine (HSB.out _).mono ?_
            rintro e' wc52 ⟨rfl, hc52⟩
            clear k0_0 k0_f0 k0_1 k0_f1 k0_2 k0_f2 k0_3 k0_f3 k1_0 k1_f0 k1_1 k1_f1 k1_2 k1_f2 k1_3 k1_f3 k2_0 k2_f0 k2_1 k2_f1 k2_2 k2_f2 k2_3 k2_f3 kS_0 kS_1 kS_2 kS_3 kX_0 kX_f0 kX_1 kX_f1 kX_2 kX_f2 kX_3 kX_f3
            have k0 := k0.kept hc52
            have k1 := k1.kept hc52
            have k2 := k2.kept hc52
            have kS := kS.kept hc52
            have kX := kX.kept hc52
            have hb := hb.trans (hc52.mono hb.size)
            clear hc52
            have k0_0 := k0.cell (i := 0) rfl
            have k0_f0 := k0.frozen 0
            have k0_1 := k0.cell (i := 1) rfl
            have k0_f1 := k0.frozen 1
            have k0_2 := k0.cell (i := 2) rfl
            have k0_f2 := k0.frozen 2
            have k0_3 := k0.cell (i := 3) rfl
            have k0_f3 := k0.frozen 3
            have k1_0 := k1.cell (i := 0) rfl
            have k1_f0 := k1.frozen 0
            have k1_1 := k1.cell (i := 1) rfl
            have k1_f1 := k1.frozen 1
            have k1_2 := k1.cell (i := 2) rfl
            have k1_f2 := k1.frozen 2
            have k1_3 := k1.cell (i := 3) rfl
            have k1_f3 := k1.frozen 3
            have k2_0 := k2.cell (i := 0) rfl
            have k2_f0 := k2.frozen 0
            have k2_1 := k2.cell (i := 1) rfl
            have k2_f1 := k2.frozen 1
            have k2_2 := k2.cell (i := 2) rfl
            have k2_f2 := k2.frozen 2
            have k2_3 := k2.cell (i := 3) rfl
            have k2_f3 := k2.frozen 3
            have kS_0 := kS.cell (i := 0) rfl
            have kS_1 := kS.cell (i := 1) rfl
            have kS_2 := kS.cell (i := 2) rfl
            have kS_3 := kS.cell (i := 3) rfl
            have kX_0 := kX.cell (i := 0) rfl
            have kX_f0 := kX.frozen 0
            have kX_1 := kX.cell (i := 1) rfl
            have kX_f1 := kX.frozen 1
            have kX_2 := kX.cell (i := 2) rfl
            have kX_f2 := kX.frozen 2
            have kX_3 := kX.cell (i := 3) rfl
            have kX_f3 := kX.frozen 3
            go_wp2_with fail
            go_meet
            case rel => exact ⟨by rw [HZE.out], k0, k1, k2, kS, kX, hb⟩
        · rw [decide_eq_false h0] at HSA
          have HZE := Lib.hid (show (!sb) = true by rw [← HS3.out]; unfold sound3; rw [decide_eq_false h0]; rfl)
          clear h0
          go_wp2_with fail
          refine (HSA.out _).mono ?_
          rintro e' wc51 ⟨rfl, hc51⟩
          clear k0_0 k0_f0 k0_1 k0_f1 k0_2 k0_f2 k0_3 k0_f3 k1_0 k1_f0 k1_1 k1_f1 k1_2 k1_f2 k1_3 k1_f3 k2_0 k2_f0 k2_1 k2_f1 k2_2 k2_f2 k2_3 k2_f3 kS_0 kS_1 kS_2 kS_3 kX_0 kX_f0 kX_1 kX_f1 kX_2 kX_f2 kX_3 kX_f3
          have k0 := k0.kept hc51
          have k1 := k1.kept hc51
          have k2 := k2.kept hc51
          have kS := kS.kept hc51
          have kX := kX.kept hc51
          have hb := hb.trans (hc51.mono hb.size)
          clear hc51
          have k0_0 := k0.cell (i := 0) rfl
          have k0_f0 := k0.frozen 0
          have k0_1 := k0.cell (i := 1) rfl
          have k0_f1 := k0.frozen 1
          have k0_2 := k0.cell (i := 2) rfl
          have k0_f2 := k0.frozen 2
          have k0_3 := k0.cell (i := 3) rfl
          have k0_f3 := k0.frozen 3
          have k1_0 := k1.cell (i := 0) rfl
          have k1_f0 := k1.frozen 0
          have k1_1 := k1.cell (i := 1) rfl
          have k1_f1 := k1.frozen 1
          have k1_2 := k1.cell (i := 2) rfl
          have k1_f2 := k1.frozen 2
          have k1_3 := k1.cell (i := 3) rfl
          have k1_f3 := k1.frozen 3
          have k2_0 := k2.cell (i := 0) rfl
          have k2_f0 := k2.frozen 0
          have k2_1 := k2.cell (i := 1) rfl
          have k2_f1 := k2.frozen 1
          have k2_2 := k2.cell (i := 2) rfl
          have k2_f2 := k2.frozen 2
          have k2_3 := k2.cell (i := 3) rfl
          have k2_f3 := k2.frozen 3
          have kS_0 := kS.cell (i := 0) rfl
          have kS_1 := kS.cell (i := 1) rfl
          have kS_2 := kS.cell (i := 2) rfl
          have kS_3 := kS.cell (i := 3) rfl
          have kX_0 := kX.cell (i := 0) rfl
          have kX_f0 := kX.frozen 0
          have kX_1 := kX.cell (i := 1) rfl
          have kX_f1 := kX.frozen 1
          have kX_2 := kX.cell (i := 2) rfl
          have kX_f2 := kX.frozen 2
          have kX_3 := kX.cell (i := 3) rfl
          have kX_f3 := kX.frozen 3
          go_wp2_with fail
          go_meet
          case rel => exact ⟨by rw [HZE.out], k0, k1, k2, kS, kX, hb⟩
      case rest =>
      clear k0_0 k0_f0 k0_1 k0_f1 k0_2 k0_f2 k0_3 k0_f3 k1_0 k1_f0 k1_1 k1_f1 k1_2 k1_f2 k1_3 k1_f3 k2_0 k2_f0 k2_1 k2_f1 k2_2 k2_f2 k2_3 k2_f3 kS_0 kS_1 kS_2 kS_3 kX_0 kX_f0 kX_1 kX_f1 kX_2 kX_f2 kX_3 kX_f3 k0 k1 k2 kS kX hb HTH HSA HSB HSC
      obtain ⟨rfl, k0, k1, k2, kS, kX, hb⟩ := hcut
      go_upto_if 35 with fail
      go_cut [10] from 36 to 42 (fun v10 wx => v10 = .int .i64 E ∧ (∃ X : V4, Hid (plainQ T E E X = true) ∧ Blk wx ws2.heap.size #[.int .i64 X.a, .int .i64 X.b, .int .i64 X.c, .int .i64 X.d] 23) ∧ Blk wx (w.heap.size) #[.int .i64 A.a, .int .i64 A.b, .int .i64 A.c, .int .i64 A.d] 37 ∧ Blk wx (w.heap.size + 1) #[.int .i64 B.a, .int .i64 B.b, .int .i64 B.c, .int .i64 B.d] 37 ∧ Blk wx (w.heap.size + 1 + 1) #[.int .i64 C.a, .int .i64 C.b, .int .i64 C.c, .int .i64 C.d] 37 ∧ Blk wx wc1.heap.size #[.int .i64 T.a, .int .i64 T.b, .int .i64 T.c, .int .i64 T.d] 23 ∧ Below w.heap.size w wx)
      case first =>
        cases sb with
        | true =>
          have hs : sound3 A B C = true := HS3.out
          have hrt := fun W => rthr_any A B C W HIN.out.1 HIN.out.2.1 HIN.out.2.2
          rw [(thr_same hs).1, (thr_same hs).2, HTE.out.1, HTE.out.2] at hrt
          have HRT := Lib.hid hrt
          have HQ := Lib.hid (plainQ_true (p := T) (v := T) (e := E) (fun _ => rfl) (fun h => by rw [← HTE.out.1]; exact thr_zero (by rw [HTE.out.2]; exact h)))
          clear hrt hs
          have k0_0 := k0.cell (i := 0) rfl
          have k0_f0 := k0.frozen 0
          have k0_1 := k0.cell (i := 1) rfl
          have k0_f1 := k0.frozen 1
          have k0_2 := k0.cell (i := 2) rfl
          have k0_f2 := k0.frozen 2
          have k0_3 := k0.cell (i := 3) rfl
          have k0_f3 := k0.frozen 3
          have k1_0 := k1.cell (i := 0) rfl
          have k1_f0 := k1.frozen 0
          have k1_1 := k1.cell (i := 1) rfl
          have k1_f1 := k1.frozen 1
          have k1_2 := k1.cell (i := 2) rfl
          have k1_f2 := k1.frozen 2
          have k1_3 := k1.cell (i := 3) rfl
          have k1_f3 := k1.frozen 3
          have k2_0 := k2.cell (i := 0) rfl
          have k2_f0 := k2.frozen 0
          have k2_1 := k2.cell (i := 1) rfl
          have k2_f1 := k2.frozen 1
          have k2_2 := k2.cell (i := 2) rfl
          have k2_f2 := k2.frozen 2
          have k2_3 := k2.cell (i := 3) rfl
          have k2_f3 := k2.frozen 3
          have kS_0 := kS.cell (i := 0) rfl
          have kS_1 := kS.cell (i := 1) rfl
          have kS_2 := kS.cell (i := 2) rfl
          have kS_3 := kS.cell (i := 3) rfl
          have kX_0 := kX.cell (i := 0) rfl
          have kX_f0 := kX.frozen 0
          have kX_1 := kX.cell (i := 1) rfl
          have kX_f1 := kX.frozen 1
          have kX_2 := kX.cell (i := 2) rfl
          have kX_f2 := kX.frozen 2
          have kX_3 := kX.cell (i := 3) rfl
          have kX_f3 := kX.frozen 3
          go_wp2_with fail
          refine (HRT.out _).mono ?_
          rintro e' wc61 ⟨rfl, hc61⟩
          clear k0_0 k0_f0 k0_1 k0_f1 k0_2 k0_f2 k0_3 k0_f3 k1_0 k1_f0 k1_1 k1_f1 k1_2 k1_f2 k1_3 k1_f3 k2_0 k2_f0 k2_1 k2_f1 k2_2 k2_f2 k2_3 k2_f3 kS_0 kS_1 kS_2 kS_3 kX_0 kX_f0 kX_1 kX_f1 kX_2 kX_f2 kX_3 kX_f3
          have k0 := k0.kept hc61
          have k1 := k1.kept hc61
          have k2 := k2.kept hc61
          have kS := kS.kept hc61
          have kX := kX.kept hc61
          have hb := hb.trans (hc61.mono hb.size)
          clear hc61
          have k0_0 := k0.cell (i := 0) rfl
          have k0_f0 := k0.frozen 0
          have k0_1 := k0.cell (i := 1) rfl
          have k0_f1 := k0.frozen 1
          have k0_2 := k0.cell (i := 2) rfl
          have k0_f2 := k0.frozen 2
          have k0_3 := k0.cell (i := 3) rfl
          have k0_f3 := k0.frozen 3
          have k1_0 := k1.cell (i := 0) rfl
          have k1_f0 := k1.frozen 0
          have k1_1 := k1.cell (i := 1) rfl
          have k1_f1 := k1.frozen 1
          have k1_2 := k1.cell (i := 2) rfl
          have k1_f2 := k1.frozen 2
          have k1_3 := k1.cell (i := 3) rfl
          have k1_f3 := k1.frozen 3
          have k2_0 := k2.cell (i := 0) rfl
          have k2_f0 := k2.frozen 0
          have k2_1 := k2.cell (i := 1) rfl
          have k2_f1 := k2.frozen 1
          have k2_2 := k2.cell (i := 2) rfl
          have k2_f2 := k2.frozen 2
          have k2_3 := k2.cell (i := 3) rfl
          have k2_f3 := k2.frozen 3
          have kS_0 := kS.cell (i := 0) rfl
          have kS_1 := kS.cell (i := 1) rfl
          have kS_2 := kS.cell (i := 2) rfl
          have kS_3 := kS.cell (i := 3) rfl
          have kX_0 := kX.cell (i := 0) rfl
          have kX_f0 := kX.frozen 0
          have kX_1 := kX.cell (i := 1) rfl
          have kX_f1 := kX.frozen 1
          have kX_2 := kX.cell (i := 2) rfl
          have kX_f2 := kX.frozen 2
          have kX_3 := kX.cell (i := 3) rfl
          have kX_f3 := kX.frozen 3
          have LX := Blk.put4 kX (.int .i64 T.a) (.int .i64 T.b) (.int .i64 T.c) (.int .i64 T.d)
          have l0 := ((((((((k0).other (C := ws2.heap.size) 0 (.int .i64 T.a) (by omega))).other (C := ws2.heap.size) 1 (.int .i64 T.b) (by omega))).other (C := ws2.heap.size) 2 (.int .i64 T.c) (by omega))).other (C := ws2.heap.size) 3 (.int .i64 T.d) (by omega))
          have l1 := ((((((((k1).other (C := ws2.heap.size) 0 (.int .i64 T.a) (by omega))).other (C := ws2.heap.size) 1 (.int .i64 T.b) (by omega))).other (C := ws2.heap.size) 2 (.int .i64 T.c) (by omega))).other (C := ws2.heap.size) 3 (.int .i64 T.d) (by omega))
          have l2 := ((((((((k2).other (C := ws2.heap.size) 0 (.int .i64 T.a) (by omega))).other (C := ws2.heap.size) 1 (.int .i64 T.b) (by omega))).other (C := ws2.heap.size) 2 (.int .i64 T.c) (by omega))).other (C := ws2.heap.size) 3 (.int .i64 T.d) (by omega))
          have lS := ((((((((kS).other (C := ws2.heap.size) 0 (.int .i64 T.a) (by omega))).other (C := ws2.heap.size) 1 (.int .i64 T.b) (by omega))).other (C := ws2.heap.size) 2 (.int .i64 T.c) (by omega))).other (C := ws2.heap.size) 3 (.int .i64 T.d) (by omega))
          have hbX := ((((hb.setCell (p := ⟨ws2.heap.size, 0, none⟩) (by simp only; omega) (.int .i64 T.a)).setCell (p := ⟨ws2.heap.size, 1, none⟩) (by simp only; omega) (.int .i64 T.b)).setCell (p := ⟨ws2.heap.size, 2, none⟩) (by simp only; omega) (.int .i64 T.c)).setCell (p := ⟨ws2.heap.size, 3, none⟩) (by simp only; omega) (.int .i64 T.d))
          go_wp2_with fail
          go_meet
          case rel => exact ⟨rfl, ⟨_, HQ, LX⟩, l0, l1, l2, lS, hbX⟩
        | false =>
          have hb0 := thr_bad (A := A) (B := B) (C := C) HS3.out
          rw [HTE.out.1, HTE.out.2] at hb0
          have HB0 := Lib.hid hb0
          have HQ := Lib.hid (plainQ_true (p := T) (v := ⟨0, 0, 0, 0⟩) (e := E) (fun h => by rw [hb0.2] at h; cases h) (fun _ => hb0.1))
          clear hb0
          go_wp2_with fail
          go_meet
          case rel => exact ⟨by rw [HB0.out.2], ⟨⟨0, 0, 0, 0⟩, HQ, kX⟩, k0, k1, k2, kS, hb⟩
      case rest =>
      clear k0 k1 k2 kS kX hb HTE
      obtain ⟨rfl, ⟨X, HQ, kX⟩, k0, k1, k2, kS, hb⟩ := hcut
      have hpl := fun W => plain_any T X E E W
      rw [HQ.out] at hpl
      have HPLN := Lib.hid hpl
      clear hpl HQ
      have k0_0 := k0.cell (i := 0) rfl
      have k0_f0 := k0.frozen 0
      have k0_1 := k0.cell (i := 1) rfl
      have k0_f1 := k0.frozen 1
      have k0_2 := k0.cell (i := 2) rfl
      have k0_f2 := k0.frozen 2
      have k0_3 := k0.cell (i := 3) rfl
      have k0_f3 := k0.frozen 3
      have k1_0 := k1.cell (i := 0) rfl
      have k1_f0 := k1.frozen 0
      have k1_1 := k1.cell (i := 1) rfl
      have k1_f1 := k1.frozen 1
      have k1_2 := k1.cell (i := 2) rfl
      have k1_f2 := k1.frozen 2
      have k1_3 := k1.cell (i := 3) rfl
      have k1_f3 := k1.frozen 3
      have k2_0 := k2.cell (i := 0) rfl
      have k2_f0 := k2.frozen 0
      have k2_1 := k2.cell (i := 1) rfl
      have k2_f1 := k2.frozen 1
      have k2_2 := k2.cell (i := 2) rfl
      have k2_f2 := k2.frozen 2
      have k2_3 := k2.cell (i := 3) rfl
      have k2_f3 := k2.frozen 3
      have kS_0 := kS.cell (i := 0) rfl
      have kS_1 := kS.cell (i := 1) rfl
      have kS_2 := kS.cell (i := 2) rfl
      have kS_3 := kS.cell (i := 3) rfl
      have kX_0 := kX.cell (i := 0) rfl
      have kX_1 := kX.cell (i := 1) rfl
      have kX_2 := kX.cell (i := 2) rfl
      have kX_3 := kX.cell (i := 3) rfl
      go_wp2_with fail
      refine (HPLN.out _).mono ?_
      rintro e' wc71 ⟨rfl, hc71⟩
      clear k0_0 k0_f0 k0_1 k0_f1 k0_2 k0_f2 k0_3 k0_f3 k1_0 k1_f0 k1_1 k1_f1 k1_2 k1_f2 k1_3 k1_f3 k2_0 k2_f0 k2_1 k2_f1 k2_2 k2_f2 k2_3 k2_f3 kS_0 kS_1 kS_2 kS_3 kX_0 kX_1 kX_2 kX_3
      have k0 := k0.kept hc71
      have k1 := k1.kept hc71
      have k2 := k2.kept hc71
      have kS := kS.kept hc71
      have kX := kX.kept hc71
      have hb := hb.trans (hc71.mono hb.size)
      clear hc71
      have k0_0 := k0.cell (i := 0) rfl
      have k0_f0 := k0.frozen 0
      have k0_1 := k0.cell (i := 1) rfl
      have k0_f1 := k0.frozen 1
      have k0_2 := k0.cell (i := 2) rfl
      have k0_f2 := k0.frozen 2
      have k0_3 := k0.cell (i := 3) rfl
      have k0_f3 := k0.frozen 3
      have k1_0 := k1.cell (i := 0) rfl
      have k1_f0 := k1.frozen 0
      have k1_1 := k1.cell (i := 1) rfl
      have k1_f1 := k1.frozen 1
      have k1_2 := k1.cell (i := 2) rfl
      have k1_f2 := k1.frozen 2
      have k1_3 := k1.cell (i := 3) rfl
      have k1_f3 := k1.frozen 3
      have k2_0 := k2.cell (i := 0) rfl
      have k2_f0 := k2.frozen 0
      have k2_1 := k2.cell (i := 1) rfl
      have k2_f1 := k2.frozen 1
      have k2_2 := k2.cell (i := 2) rfl
      have k2_f2 := k2.frozen 2
      have k2_3 := k2.cell (i := 3) rfl
      have k2_f3 := k2.frozen 3
      have kS_0 := kS.cell (i := 0) rfl
      have kS_1 := kS.cell (i := 1) rfl
      have kS_2 := kS.cell (i := 2) rfl
      have kS_3 := kS.cell (i := 3) rfl
      have kX_0 := kX.cell (i := 0) rfl
      have kX_1 := kX.cell (i := 1) rfl
      have kX_2 := kX.cell (i := 2) rfl
      have kX_3 := kX.cell (i := 3) rfl
      clear k0_0 k0_f0 k0_1 k0_f1 k0_2 k0_f2 k0_3 k0_f3 k1_0 k1_f0 k1_1 k1_f1 k1_2 k1_f2 k1_3 k1_f3 k2_0 k2_f0 k2_1 k2_f1 k2_2 k2_f2 k2_3 k2_f3 kS_0 kS_1 kS_2 kS_3 kX_0 kX_1 kX_2 kX_3
      go_upto_region 12 with fail
      refine wp_region_pure 6 (fun ix => match ix with | 0 => .agg #[.int .i64 A.a, .int .i64 A.b, .int .i64 A.c, .int .i64 A.d] | 1 => .agg #[.int .i64 (placeV A).a, .int .i64 (placeV A).b, .int .i64 (placeV A).c, .int .i64 (placeV A).d] | 2 => .agg #[.int .i64 B.a, .int .i64 B.b, .int .i64 B.c, .int .i64 B.d] | 3 => .agg #[.int .i64 (placeV B).a, .int .i64 (placeV B).b, .int .i64 (placeV B).c, .int .i64 (placeV B).d] | 4 => .agg #[.int .i64 C.a, .int .i64 C.b, .int .i64 C.c, .int .i64 C.d] | _ => .agg #[.int .i64 (placeV C).a, .int .i64 (placeV C).b, .int .i64 (placeV C).c, .int .i64 (placeV C).d]) (by kernel_rfl) (by kernel_rfl) (by kernel_rfl) (by decide) ?_ ?_
      · rintro ix hx f ww hS hd
        have ka := k0.kept hS
        have kb := k1.kept hS
        have kc := k2.kept hS
        have aa0_ := ka.cell (i := 0) rfl
        have aa1_ := ka.cell (i := 1) rfl
        have aa2_ := ka.cell (i := 2) rfl
        have aa3_ := ka.cell (i := 3) rfl
        have ab0_ := kb.cell (i := 0) rfl
        have ab1_ := kb.cell (i := 1) rfl
        have ab2_ := kb.cell (i := 2) rfl
        have ab3_ := kb.cell (i := 3) rfl
        have ac0_ := kc.cell (i := 0) rfl
        have ac1_ := kc.cell (i := 1) rfl
        have ac2_ := kc.cell (i := 2) rfl
        have ac3_ := kc.cell (i := 3) rfl
        rcases ix with _ | _ | _ | _ | _ | _ | ix
        · refine wpOp_list rfl ?_
          simp only [tmOf, putAll, List.map_cons, List.map_nil, List.setIfInBounds_toArray, List.set_cons_zero, List.set_cons_succ]
          go_wp2
          simp [upd, Below.refl]
        · have g0 : f 0 = .agg #[.int .i64 A.a, .int .i64 A.b, .int .i64 A.c, .int .i64 A.d] := hd 0 (by kernel_rfl)
          refine wpOp_list rfl ?_
          simp only [tmOf, putAll, List.map_cons, List.map_nil, List.setIfInBounds_toArray, List.set_cons_zero, List.set_cons_succ]
          go_wp2_with fail
          refine (HPA.out _).mono ?_
          rintro e' wf ⟨rfl, hbf⟩
          go_wp2_with fail
          simp [upd, g0, hbf]
        · refine wpOp_list rfl ?_
          simp only [tmOf, putAll, List.map_cons, List.map_nil, List.setIfInBounds_toArray, List.set_cons_zero, List.set_cons_succ]
          go_wp2
          simp [upd, Below.refl]
        · have g2 : f 2 = .agg #[.int .i64 B.a, .int .i64 B.b, .int .i64 B.c, .int .i64 B.d] := hd 2 (by kernel_rfl)
          refine wpOp_list rfl ?_
          simp only [tmOf, putAll, List.map_cons, List.map_nil, List.setIfInBounds_toArray, List.set_cons_zero, List.set_cons_succ]
          go_wp2_with fail
          refine (HPB.out _).mono ?_
          rintro e' wf ⟨rfl, hbf⟩
          go_wp2_with fail
          simp [upd, g2, hbf]
        · refine wpOp_list rfl ?_
          simp only [tmOf, putAll, List.map_cons, List.map_nil, List.setIfInBounds_toArray, List.set_cons_zero, List.set_cons_succ]
          go_wp2
          simp [upd, Below.refl]
        · have g4 : f 4 = .agg #[.int .i64 C.a, .int .i64 C.b, .int .i64 C.c, .int .i64 C.d] := hd 4 (by kernel_rfl)
          refine wpOp_list rfl ?_
          simp only [tmOf, putAll, List.map_cons, List.map_nil, List.setIfInBounds_toArray, List.set_cons_zero, List.set_cons_succ]
          go_wp2_with fail
          refine (HPC.out _).mono ?_
          rintro e' wf ⟨rfl, hbf⟩
          go_wp2_with fail
          simp [upd, g4, hbf]
        · omega
      · rintro f ww hS hd
        have g1 : f 1 = .agg #[.int .i64 (placeV A).a, .int .i64 (placeV A).b, .int .i64 (placeV A).c, .int .i64 (placeV A).d] := hd 1 (by decide)
        have g3 : f 3 = .agg #[.int .i64 (placeV B).a, .int .i64 (placeV B).b, .int .i64 (placeV B).c, .int .i64 (placeV B).d] := hd 3 (by decide)
        have g5 : f 5 = .agg #[.int .i64 (placeV C).a, .int .i64 (placeV C).b, .int .i64 (placeV C).c, .int .i64 (placeV C).d] := hd 5 (by decide)
        have k0 := k0.kept hS
        have k1 := k1.kept hS
        have k2 := k2.kept hS
        have hb := hb.trans (hS.mono hb.size)
        clear hS hd kS kX
        simp only [seqW, List.length_cons, List.length_nil]
        have e0 := k0.cell (i := 0) rfl
        have f0 := k0.frozen 0
        have e1 := k0.cell (i := 1) rfl
        have f1 := k0.frozen 1
        have e2 := k0.cell (i := 2) rfl
        have f2 := k0.frozen 2
        have e3 := k0.cell (i := 3) rfl
        have f3 := k0.frozen 3
        obtain ⟨wz0, hwz0⟩ : ∃ w', ((((ww.setCell ⟨w.heap.size, 0, none⟩ (.int .i64 (placeV A).a)).setCell ⟨w.heap.size, 1, none⟩ (.int .i64 (placeV A).b)).setCell ⟨w.heap.size, 2, none⟩ (.int .i64 (placeV A).c)).setCell ⟨w.heap.size, 3, none⟩ (.int .i64 (placeV A).d)) = w' := ⟨_, rfl⟩
        refine wpOp_list rfl ?_
        try simp only [tmOf, putAll, List.map_cons, List.map_nil, List.setIfInBounds_toArray, List.set_cons_zero, List.set_cons_succ]
        go_wp2_with fail
        have nk0 : Blk wz0 (w.heap.size) #[.int .i64 (placeV A).a, .int .i64 (placeV A).b, .int .i64 (placeV A).c, .int .i64 (placeV A).d] 37 := by rw [← hwz0]; exact Blk.put4 k0 _ _ _ _
        have nk1 : Blk wz0 (w.heap.size + 1) #[.int .i64 B.a, .int .i64 B.b, .int .i64 B.c, .int .i64 B.d] 37 := by rw [← hwz0]; exact ((((k1.other 0 _ (by omega)).other 1 _ (by omega)).other 2 _ (by omega)).other 3 _ (by omega))
        have nk2 : Blk wz0 (w.heap.size + 1 + 1) #[.int .i64 C.a, .int .i64 C.b, .int .i64 C.c, .int .i64 C.d] 37 := by rw [← hwz0]; exact ((((k2.other 0 _ (by omega)).other 1 _ (by omega)).other 2 _ (by omega)).other 3 _ (by omega))
        have nhb : Below w.heap.size w wz0 := by rw [← hwz0]; exact (((hb.setCell (by simp only; omega) _).setCell (by simp only; omega) _).setCell (by simp only; omega) _).setCell (by simp only; omega) _
        clear e0 f0 e1 f1 e2 f2 e3 f3 k0 k1 k2 hb hwz0
        have k0 := nk0
        have k1 := nk1
        have k2 := nk2
        have hb := nhb
        clear nk0 nk1 nk2 nhb
        have e0 := k1.cell (i := 0) rfl
        have f0 := k1.frozen 0
        have e1 := k1.cell (i := 1) rfl
        have f1 := k1.frozen 1
        have e2 := k1.cell (i := 2) rfl
        have f2 := k1.frozen 2
        have e3 := k1.cell (i := 3) rfl
        have f3 := k1.frozen 3
        obtain ⟨wz1, hwz1⟩ : ∃ w', ((((wz0.setCell ⟨w.heap.size + 1, 0, none⟩ (.int .i64 (placeV B).a)).setCell ⟨w.heap.size + 1, 1, none⟩ (.int .i64 (placeV B).b)).setCell ⟨w.heap.size + 1, 2, none⟩ (.int .i64 (placeV B).c)).setCell ⟨w.heap.size + 1, 3, none⟩ (.int .i64 (placeV B).d)) = w' := ⟨_, rfl⟩
        refine wpOp_list rfl ?_
        try simp only [tmOf, putAll, List.map_cons, List.map_nil, List.setIfInBounds_toArray, List.set_cons_zero, List.set_cons_succ]
        go_wp2_with fail
        have nk0 : Blk wz1 (w.heap.size) #[.int .i64 (placeV A).a, .int .i64 (placeV A).b, .int .i64 (placeV A).c, .int .i64 (placeV A).d] 37 := by rw [← hwz1]; exact ((((k0.other 0 _ (by omega)).other 1 _ (by omega)).other 2 _ (by omega)).other 3 _ (by omega))
        have nk1 : Blk wz1 (w.heap.size + 1) #[.int .i64 (placeV B).a, .int .i64 (placeV B).b, .int .i64 (placeV B).c, .int .i64 (placeV B).d] 37 := by rw [← hwz1]; exact Blk.put4 k1 _ _ _ _
        have nk2 : Blk wz1 (w.heap.size + 1 + 1) #[.int .i64 C.a, .int .i64 C.b, .int .i64 C.c, .int .i64 C.d] 37 := by rw [← hwz1]; exact ((((k2.other 0 _ (by omega)).other 1 _ (by omega)).other 2 _ (by omega)).other 3 _ (by omega))
        have nhb : Below w.heap.size w wz1 := by rw [← hwz1]; exact (((hb.setCell (by simp only; omega) _).setCell (by simp only; omega) _).setCell (by simp only; omega) _).setCell (by simp only; omega) _
        clear e0 f0 e1 f1 e2 f2 e3 f3 k0 k1 k2 hb hwz1
        have k0 := nk0
        have k1 := nk1
        have k2 := nk2
        have hb := nhb
        clear nk0 nk1 nk2 nhb
        have e0 := k2.cell (i := 0) rfl
        have f0 := k2.frozen 0
        have e1 := k2.cell (i := 1) rfl
        have f1 := k2.frozen 1
        have e2 := k2.cell (i := 2) rfl
        have f2 := k2.frozen 2
        have e3 := k2.cell (i := 3) rfl
        have f3 := k2.frozen 3
        obtain ⟨wz2, hwz2⟩ : ∃ w', ((((wz1.setCell ⟨w.heap.size + 1 + 1, 0, none⟩ (.int .i64 (placeV C).a)).setCell ⟨w.heap.size + 1 + 1, 1, none⟩ (.int .i64 (placeV C).b)).setCell ⟨w.heap.size + 1 + 1, 2, none⟩ (.int .i64 (placeV C).c)).setCell ⟨w.heap.size + 1 + 1, 3, none⟩ (.int .i64 (placeV C).d)) = w' := ⟨_, rfl⟩
        refine wpOp_list rfl ?_
        try simp only [tmOf, putAll, List.map_cons, List.map_nil, List.setIfInBounds_toArray, List.set_cons_zero, List.set_cons_succ]
        go_wp2_with fail
        have nk0 : Blk wz2 (w.heap.size) #[.int .i64 (placeV A).a, .int .i64 (placeV A).b, .int .i64 (placeV A).c, .int .i64 (placeV A).d] 37 := by rw [← hwz2]; exact ((((k0.other 0 _ (by omega)).other 1 _ (by omega)).other 2 _ (by omega)).other 3 _ (by omega))
        have nk1 : Blk wz2 (w.heap.size + 1) #[.int .i64 (placeV B).a, .int .i64 (placeV B).b, .int .i64 (placeV B).c, .int .i64 (placeV B).d] 37 := by rw [← hwz2]; exact ((((k1.other 0 _ (by omega)).other 1 _ (by omega)).other 2 _ (by omega)).other 3 _ (by omega))
        have nk2 : Blk wz2 (w.heap.size + 1 + 1) #[.int .i64 (placeV C).a, .int .i64 (placeV C).b, .int .i64 (placeV C).c, .int .i64 (placeV C).d] 37 := by rw [← hwz2]; exact Blk.put4 k2 _ _ _ _
        have nhb : Below w.heap.size w wz2 := by rw [← hwz2]; exact (((hb.setCell (by simp only; omega) _).setCell (by simp only; omega) _).setCell (by simp only; omega) _).setCell (by simp only; omega) _
        clear e0 f0 e1 f1 e2 f2 e3 f3 k0 k1 k2 hb hwz2
        have k0 := nk0
        have k1 := nk1
        have k2 := nk2
        have hb := nhb
        clear nk0 nk1 nk2 nhb
        go_wp2_with fail
        go_roundg (2 - (i + 1))
        case measure => rw [HGK.out]; omega
        case rel => exact ⟨i + 1, (placeV A), (placeV B), (placeV C), by omega, rfl, by go_num, ⟨sound_in (place_sound A), sound_in (place_sound B), sound_in (place_sound C)⟩, k0, k1, k2, hb⟩
    · have hlti : ¬ (i : Int) < 2 := by omega
      go_wp2_with fail
      refine (awake3_any _).mono ?_
      rintro e' w6 ⟨rfl, hb6⟩
      go_wp2_with fail
      go_ret
      exact ⟨rfl, hb.trans (hb6.mono hb.size)⟩

end Go.Proofs.Ythdhakpmhndbfaa

namespace Go.Proofs.Ythdhakpmhndbfaa
open Go Go.ChangeShapes Go.WideShapes Go.ChangeAt Go.WideMaps Go.WideElems Go.RowKit Go.ChangeMaps

theorem Try.ownP : ownKnob Try.prog.godebug = none := by kernel_rfl
theorem Try.laidOutP : laidOutB Try.prog = true := by kernel_rfl
theorem Try.cellsI64 : Try.prog.cellsOf 2 = 1 := by kernel_rfl

theorem inI64_wf {n : Int} (h : (Lit.int .i64 n).wf = true) : InI64 n := by
  unfold InI64
  have h1 : IntKind.i64.min = -9223372036854775808 := by decide
  have h2 : IntKind.i64.max = 9223372036854775807 := by decide
  simp [Lit.wf, h1, h2] at h
  omega

set_option maxRecDepth 100000 in
/-- Four int64 among the arguments. -/
theorem open_four {H : Type} {enc : TypeId × Value → H} {W : World} {base : Nat} {t : TypeId} {v : Value} {d : DataW H} {p : List MemPlace} {sp : Nat → Bool} (ht : Try.prog.underlying t = some (.array 4 2)) (hc : Try.prog.cellsOf t = 4) (hv : Value.okWide Try.prog W .any base t v) (hd : DataW.Trod enc Try.prog W 0 sp true t v d p) : ∃ q : V4, v = .agg #[.int .i64 q.a, .int .i64 q.b, .int .i64 q.c, .int .i64 q.d] ∧ InV q := by
  obtain ⟨cs, rfl, hsz, _⟩ : ∃ cs, v = .agg cs ∧ cs.size = Try.prog.cellsOf t ∧ Row.okWide Try.prog W .any base t cs := by
    simpa [Value.okWide, ht] using hv
  rw [hc] at hsz
  obtain ⟨l⟩ := cs
  have hl : l.length = 4 := hsz
  match l, hl with
  | [c0, c1, c2, c3], _ =>
    obtain ⟨fuel, hf⟩ := hd
    obtain ⟨z0, z1, z2, z3, m, _, hy0, hy1, hy2, hy3⟩ := trod_array4 ht Try.cellsI64 (by simpa [Value.cells] using hf)
    obtain ⟨x0, e0, _, w0⟩ := DataW.trod_int Try.underlying2 hy0
    obtain ⟨x1, e1, _, w1⟩ := DataW.trod_int Try.underlying2 hy1
    obtain ⟨x2, e2, _, w2⟩ := DataW.trod_int Try.underlying2 hy2
    obtain ⟨x3, e3, _, w3⟩ := DataW.trod_int Try.underlying2 hy3
    simp at e0 e1 e2 e3
    subst e0 e1 e2 e3
    exact ⟨⟨x0, x1, x2, x3⟩, rfl, inI64_wf w0, inI64_wf w1, inI64_wf w2, inI64_wf w3⟩

end Go.Proofs.Ythdhakpmhndbfaa

namespace Go.Proofs.Ythdhakpmhndbfaa
open Go Go.ChangeShapes Go.WideShapes Go.ChangeAt Go.WideMaps Go.WideElems Go.RowKit Go.ChangeMaps

set_option maxRecDepth 100000 in
theorem planeThrough_lifted (os : Os) (started : os.Started) (H : Type) (enc : TypeId × Value → H) :
    ReturnsInHanded {} Try.checked os 5 .any (Rows.planeThroughSpec.pre6 enc Try.prog Try.f5 Rows.planeThroughRow.domain false) (Rows.planeThroughSpec.post enc Try.prog Try.f5 false true false false) := by
  refine returnsInHanded_of_change (C := Try.checked) Try.ownP started (by kernel_rfl) Try.func5
    (ChangeSpec.witness6 (enc := enc) (C := Try.checked) false ⟨#[], #[.agg #[.int .i64 0, .int .i64 0, .int .i64 0, .int .i64 0], .agg #[.int .i64 0, .int .i64 0, .int .i64 0, .int .i64 0], .agg #[.int .i64 0, .int .i64 0, .int .i64 0, .int .i64 0]], []⟩ 8 (by kernel_rfl) (by kernel_rfl) (by kernel_rfl) (by kernel_rfl)) ?_
  intro W base args ds gs before hval0 hW _ _
  have hval : ∀ (j : Nat) t v, Try.f5.params[j]? = some t → args[j]? = some v → Value.okWide Try.prog W .any base t v := hval0
  have hW' := hW
  obtain ⟨p, q, hA0, hV, rfl, hfz, hnd⟩ := hW
  have hA : DataW.TrodAll enc Try.prog W 0 (fun _ => true) true Try.f5.params.toList args.toList ds p := hA0
  rw [Try.params5] at hA hval
  obtain ⟨v0, v1, v2, d0, d1, d2, p0, p1, p2, rfl, rfl, rfl, h0, h1, h2⟩ := trodAll_three hA
  obtain ⟨rfl, rfl⟩ := trodVars_none hV
  obtain ⟨x0, rfl, hx0⟩ := open_four Try.underlying37 (by kernel_rfl) (hval 0 37 v0 rfl rfl) h0
  obtain ⟨x1, rfl, hx1⟩ := open_four Try.underlying37 (by kernel_rfl) (hval 1 37 v1 rfl rfl) h1
  obtain ⟨x2, rfl, hx2⟩ := open_four Try.underlying37 (by kernel_rfl) (hval 2 37 v2 rfl rfl) h2
  simp only [List.append_nil, List.append_assoc] at hW'
  have hlt0 : ∀ x ∈ p0, x.block < W.heap.size := fun x hx => by simpa using hW'.lt x (by simp [hx])
  have hlt1 : ∀ x ∈ p1, x.block < W.heap.size := fun x hx => by simpa using hW'.lt x (by simp [hx])
  have hlt2 : ∀ x ∈ p2, x.block < W.heap.size := fun x hx => by simpa using hW'.lt x (by simp [hx])
  refine (planeThrough_walk x0 x1 x2 W hx0 hx1 hx2).mono fun e W' ⟨he, hb⟩ => ?_
  subst he
  refine ⟨_, rfl, _, _, _, [], p0 ++ (p1 ++ p2), [], hW', ?_, ?_, rfl, hb.frame _, fun h => by cases h⟩
  · exact trodAll_mk1 (shut_bool Try.underlying4 true)
  · exact trodAll_mk3 (Below.trod Try.laidOutP (by kernel_rfl) (of_decide_eq_true (by kernel_rfl)) h0 hb hlt0) (Below.trod Try.laidOutP (by kernel_rfl) (of_decide_eq_true (by kernel_rfl)) h1 hb hlt1) (Below.trod Try.laidOutP (by kernel_rfl) (of_decide_eq_true (by kernel_rfl)) h2 hb hlt2)

theorem planeThrough_holds : Rows.PlaneThroughSaid :=
  OpenClaim.holds_of_wide 5 Try.f5 rfl rfl rfl rfl rfl rfl rfl ⟨rfl, rfl, rfl, rfl, rfl⟩ rfl rfl rfl rfl rfl (by kernel_rfl) Try.func5 (by kernel_rfl)
    (of_decide_eq_true (by kernel_rfl)) (by unfold Func.isWrapper; first | (rw [if_pos (by decide +kernel)]; kernel_rfl) | (rw [if_neg (by decide +kernel)]; exact ⟨rfl, rfl⟩))
    (fun os started H enc _ => planeThrough_lifted os started H enc)
#print axioms planeThrough_holds

end Go.Proofs.Ythdhakpmhndbfaa
