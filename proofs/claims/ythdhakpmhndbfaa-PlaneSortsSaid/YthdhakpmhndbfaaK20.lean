/-
  The reference of planes: a right plane of any numbers; The laws of planes: what they share; The laws of planes: a few plain answers; A region that draws its order: operations behind '&&' and '||', whose guard is decided; PlaneMakes, its walk; Package plane: Sort.
-/
import Derived.Deep.CutBlock
import Derived.Test.YthdhakpmhndbfaaK1
import Derived.Test.YthdhakpmhndbfaaK2
import Derived.Test.YthdhakpmhndbfaaK3
import Derived.Test.YthdhakpmhndbfaaK4
import Derived.Test.YthdhakpmhndbfaaK5
import Derived.Test.YthdhakpmhndbfaaK6
import Derived.Test.YthdhakpmhndbfaaK7
import Derived.Test.YthdhakpmhndbfaaK8
import Derived.Test.YthdhakpmhndbfaaK9
import Derived.Test.YthdhakpmhndbfaaK10
import Derived.Test.YthdhakpmhndbfaaK11
import Derived.Test.YthdhakpmhndbfaaK12
import Derived.Test.YthdhakpmhndbfaaK13
import Derived.Test.YthdhakpmhndbfaaK14
import Derived.Test.YthdhakpmhndbfaaK15
import Derived.Test.YthdhakpmhndbfaaK16
import Derived.Test.YthdhakpmhndbfaaK17
import Derived.Test.YthdhakpmhndbfaaK18
import Derived.Test.YthdhakpmhndbfaaK19
namespace Go.Proofs.Ythdhakpmhndbfaa
open Go.RowKit Go.Shelf
attribute [local go_sem] Oper.semAt_some

/-- A number brought into a range. -/
def tameC (v most : Int) : Int := v % 18446744073709551616 % (2 * most + 1) - most
def tameA (x : V4) (most : Int) : Int := if tameC x.a most = 0 ∧ tameC x.b most = 0 ∧ tameC x.c most = 0 then 1 else tameC x.a most
def tameD (x : V4) : Int := x.d % 18446744073709551616 % 41 - 20
def tameV (x : V4) (most : Int) : V4 :=
  ⟨low4 (tameA x most) (tameC x.b most) (tameC x.c most) (tameD x) (tameA x most), low4 (tameA x most) (tameC x.b most) (tameC x.c most) (tameD x) (tameC x.b most), low4 (tameA x most) (tameC x.b most) (tameC x.c most) (tameD x) (tameC x.c most), low4 (tameA x most) (tameC x.b most) (tameC x.c most) (tameD x) (tameD x)⟩
theorem tameC_le {v most : Int} (h1 : 1 ≤ most) : (tameC v most).natAbs ≤ most.natAbs := by
  unfold tameC
  have a0 := Int.emod_nonneg (v % 18446744073709551616) (b := 2 * most + 1) (by omega)
  have a1 := Int.emod_lt_of_pos (v % 18446744073709551616) (b := 2 * most + 1) (by omega)
  omega
theorem tameD_le (x : V4) : (tameD x).natAbs ≤ 20 := by unfold tameD; omega
theorem tameA_le {x : V4} {most : Int} (h1 : 1 ≤ most) : (tameA x most).natAbs ≤ most.natAbs := by
  unfold tameA; split
  · omega
  · exact tameC_le h1
theorem tameA_ne (x : V4) (most : Int) : ¬ (tameA x most = 0 ∧ tameC x.b most = 0 ∧ tameC x.c most = 0) := by
  unfold tameA
  split
  · rintro ⟨h, _⟩; cases h
  · rename_i h; exact h
theorem makeOk_small {a b c d : Int} (hn : ¬ (a = 0 ∧ b = 0 ∧ c = 0)) (hA : a.natAbs ≤ 1000) (hB : b.natAbs ≤ 1000) (hC : c.natAbs ≤ 1000) (hD : d.natAbs ≤ 1000000) : MakeOk a b c d := by
  have hm := low4_mul a b c d
  have l0 := low4_le hn hm.1
  have l1 := low4_le hn hm.2.1
  have l2 := low4_le hn hm.2.2.1
  have l3 := low4_le hn hm.2.2.2
  have z0 := low4_zero hn hm.1
  have z1 := low4_zero hn hm.2.1
  have z2 := low4_zero hn hm.2.2.1
  have hg := low4_g4 (d := d) hn
  unfold MakeOk RightP
  exact ⟨fun h => hn ⟨z0.1 h.1, z1.1 h.2.1, z2.1 h.2.2⟩, Nat.le_trans l0 hA, Nat.le_trans l1 hB, Nat.le_trans l2 hC, Nat.le_trans l3 hD, hg⟩
theorem tame_ok {x : V4} {most : Int} (h1 : 1 ≤ most) (h2 : most ≤ 1000) : MakeOk (tameA x most) (tameC x.b most) (tameC x.c most) (tameD x) :=
  makeOk_small (tameA_ne x most) (Nat.le_trans (tameA_le h1) (by omega)) (Nat.le_trans (tameC_le h1) (by omega)) (Nat.le_trans (tameC_le h1) (by omega)) (Nat.le_trans (tameD_le x) (by decide))
theorem tame_right {x : V4} {most : Int} (h1 : 1 ≤ most) (h2 : most ≤ 1000) : RightQ (tameV x most) := tame_ok h1 h2
theorem right_in {p : V4} (h : RightQ p) : InV p := by
  obtain ⟨_, h0, h1, h2, h3, _⟩ := h
  unfold InV InI64
  omega
set_option maxRecDepth 100000 in
set_option maxHeartbeats 8000000 in
theorem tame_any (x : V4) (most : Int) (w : World) (hx : InV x) (h1 : 1 ≤ most) (h2 : most ≤ 1000) :
    Calls Try.prog 19 #[.agg #[.int .i64 x.a, .int .i64 x.b, .int .i64 x.c, .int .i64 x.d], .int .i64 most] w fun e w' => e = .returned (.agg #[.int .i64 (tameV x most).a, .int .i64 (tameV x most).b, .int .i64 (tameV x most).c, .int .i64 (tameV x most).d]) ∧ Below w.heap.size w w' := by
  have hm := fun W => rmake_some (tameA x most) (tameC x.b most) (tameC x.c most) (tameD x) W (tameA_ne x most) (by have := tameA_le (x := x) h1; unfold InI64; omega) (by have := tameC_le (v := x.b) h1; unfold InI64; omega) (by have := tameC_le (v := x.c) h1; unfold InI64; omega) (by have := tameD_le x; unfold InI64; omega)
  rw [decide_eq_true (tame_ok h1 h2)] at hm
  simp only [if_pos (tame_ok (x := x) h1 h2)] at hm
  obtain ⟨T, hT⟩ : ∃ T, tameV x most = T := ⟨_, rfl⟩
  have hm : ∀ W, Calls Try.prog 13 #[.int .i64 (tameA x most), .int .i64 (tameC x.b most), .int .i64 (tameC x.c most), .int .i64 (tameD x)] W fun e w' => e = .returned (.tuple #[.agg #[.int .i64 T.a, .int .i64 T.b, .int .i64 T.c, .int .i64 T.d], .int .i64 0]) ∧ Below W.heap.size W w' := fun W => by rw [← hT]; exact hm W
  rw [hT]
  clear hT
  obtain ⟨w1, hw1⟩ : ∃ w1, (((w.alloc (.cells #[.int .i64 x.a, .int .i64 x.b, .int .i64 x.c, .int .i64 x.d] 22)).alloc (.cells #[.int .i64 0, .int .i64 0, .int .i64 0, .int .i64 0] 23)).alloc (.cells #[.int .i64 0, .int .i64 0, .int .i64 0, .int .i64 0] 23)) = w1 := ⟨_, rfl⟩
  have hb1 : Below w.heap.size w w1 := by rw [← hw1]; exact bw3 w _ _ _
  have k0 : Blk w1 (w.heap.size) #[.int .i64 x.a, .int .i64 x.b, .int .i64 x.c, .int .i64 x.d] 22 := by rw [← hw1]; exact ((Blk.new w _ _).alloc _).alloc _
  have kR : Blk w1 (w.heap.size + 1) #[.int .i64 0, .int .i64 0, .int .i64 0, .int .i64 0] 23 := by rw [← hw1]; exact (Blk.new' _ _ _ (by simp)).alloc _
  have kP : Blk w1 (w.heap.size + 1 + 1) #[.int .i64 0, .int .i64 0, .int .i64 0, .int .i64 0] 23 := by rw [← hw1]; exact Blk.new' _ _ _ (by simp)
  have HM := Lib.hid hm
  have HX := Lib.hid hx
  clear hm hx
  go_enter Try.func19, Try.ntmps19
  go_wp2_with fail
  go_loopg [6] 3 (fun gk v6 wr => ∃ (i : Nat), i ≤ 3 ∧ gk = 3 - i ∧ v6 = .int .i64 (i : Int) ∧ Blk wr w.heap.size #[.int .i64 x.a, .int .i64 x.b, .int .i64 x.c, .int .i64 x.d] 22 ∧ Blk wr (w.heap.size + 1) #[.int .i64 0, .int .i64 0, .int .i64 0, .int .i64 0] 23 ∧ (∃ r : Nat → Int, Hid (∀ j, r j = if j < i then tameC (vg x j) most else 0) ∧ Blk wr (w.heap.size + 1 + 1) #[.int .i64 (r 0), .int .i64 (r 1), .int .i64 (r 2), .int .i64 (r 3)] 23) ∧ Below w.heap.size w wr)
  case atStart => exact ⟨0, by decide, rfl, rfl, k0, kR, ⟨fun _ => 0, fun j => rfl, kP⟩, hb1⟩
  case round =>
    clear k0 kR kP hb1 hw1
    obtain ⟨i, hi, hgk, rfl, k0, kR, ⟨r, HR, kP⟩, hb⟩ := hrel
    have HGK := Lib.hid hgk
    clear hgk
    by_cases hlt : i < 3
    · have hlti : (i : Int) < 3 := by omega
      have hlti4 : (i : Int) < 4 := by omega
      have hi4 : i < 4 := by omega
      have c0 := k0.vg hi4
      have f0 := kP.frozen i
      have d0 := int4_at kP hi4
      obtain ⟨v, hv⟩ : ∃ v, vg x i = v := ⟨_, rfl⟩
      have hvi := vg_in HX.out i
      rw [hv] at c0 hvi
      obtain ⟨u, hu⟩ : ∃ u, v % 18446744073709551616 = u := ⟨_, rfl⟩
      have u0 : 0 ≤ u := by omega
      have u1 : u < 18446744073709551616 := by omega
      obtain ⟨s, hs⟩ : ∃ s, u % (2 * most + 1) = s := ⟨_, rfl⟩
      have s0 : 0 ≤ s := by rw [← hs]; exact Int.emod_nonneg _ (by omega)
      have s1 : s < 2 * most + 1 := by rw [← hs]; exact Int.emod_lt_of_pos _ (by omega)
      have e1 : IntKind.u64.wrap v = u := by rw [IntKind.wrap_u64, hu]
      have e2 : wrap64 (2 * most) = 2 * most := by unfold wrap64; omega
      have e3 : wrap64 (2 * most + 1) = 2 * most + 1 := by unfold wrap64; omega
      have e4 : IntKind.u64.wrap (2 * most + 1) = 2 * most + 1 := by rw [IntKind.wrap_u64]; omega
      have e5 : u.tmod (2 * most + 1) = s := by rw [Int.tmod_eq_emod_of_nonneg u0]; exact hs
      have e6 : IntKind.u64.wrap s = s := by rw [IntKind.wrap_u64]; omega
      have e7 : wrap64 s = s := by unfold wrap64; omega
      have e8 : wrap64 (s - most) = s - most := by unfold wrap64; omega
      have e9 : ¬ (2 * most + 1 = 0) := by omega
      have ht : tameC (vg x i) most = s - most := by unfold tameC; rw [hv, hu, hs]
      have HT := Lib.hid ht
      clear ht hs hu hv hvi
      go_wp2_with fail
      go_roundg (3 - (i + 1))
      case measure => rw [HGK.out]; omega
      case rel =>
        refine ⟨i + 1, by omega, rfl, by go_num, k0.other (C := w.heap.size + 1 + 1) i _ (by omega), kR.other (C := w.heap.size + 1 + 1) i _ (by omega), ⟨fun j => if j = i then s - most else r j, ?_, kP.set_eq i _ (int4_set hi4 _)⟩, hb.setCell (by simp only; omega) _⟩
        intro j
        show (if j = i then s - most else r j) = if j < i + 1 then tameC (vg x j) most else 0
        by_cases hj : j = i
        · subst hj; rw [if_pos rfl, if_pos (by omega), HT.out]
        · rw [if_neg hj, HR.out j]
          by_cases h : j < i
          · rw [if_pos h, if_pos (by omega)]
          · rw [if_neg h, if_neg (by omega)]
    · obtain rfl : i = 3 := by omega
      have r0 : r 0 = tameC x.a most := HR.out 0
      have r1 : r 1 = tameC x.b most := HR.out 1
      have r2 : r 2 = tameC x.c most := HR.out 2
      have r3 : r 3 = 0 := HR.out 3
      rw [r0, r1, r2, r3] at kP
      have hA : tameA x most = if tameC x.a most = 0 ∧ tameC x.b most = 0 ∧ tameC x.c most = 0 then 1 else tameC x.a most := rfl
      have e0 : IntKind.u64.wrap x.d = x.d % 18446744073709551616 := by rw [IntKind.wrap_u64]
      obtain ⟨u, hu⟩ : ∃ u, x.d % 18446744073709551616 = u := ⟨_, rfl⟩
      have hD : tameD x = u % 41 - 20 := by unfold tameD; rw [hu]
      rw [hu] at e0
      have u0 : 0 ≤ u := by omega
      obtain ⟨s, hs⟩ : ∃ s, u % 41 = s := ⟨_, rfl⟩
      rw [hs] at hD
      have s0 : 0 ≤ s ∧ s < 41 := by omega
      have e5 : u.tmod 41 = s := by rw [Int.tmod_eq_emod_of_nonneg u0]; exact hs
      have e6 : IntKind.u64.wrap s = s := by rw [IntKind.wrap_u64]; omega
      have e7 : wrap64 s = s := by unfold wrap64; omega
      have e8 : wrap64 (s - 20) = s - 20 := by unfold wrap64; omega
      have HM2 := HM.out
      rw [hD] at HM2
      have HM := Lib.hid HM2
      obtain ⟨A, hAe⟩ : ∃ A, tameA x most = A := ⟨_, rfl⟩
      obtain ⟨a, ha⟩ : ∃ A, tameC x.a most = A := ⟨_, rfl⟩
      obtain ⟨b, hb'⟩ : ∃ A, tameC x.b most = A := ⟨_, rfl⟩
      obtain ⟨c, hc⟩ : ∃ A, tameC x.c most = A := ⟨_, rfl⟩
      have HM2 := HM.out
      rw [hAe, hb', hc] at HM2
      rw [hAe, ha, hb', hc] at hA
      rw [ha, hb', hc] at kP
      have HM := Lib.hid HM2
      clear HM2 hAe ha hb' hc hu hs hD r0 r1 r2 r3 HR
      go_upto_region 6 with fail
      go_cut [39] from 27 to 39 (fun v39 wx => v39 = .bool (decide (a = 0 ∧ b = 0 ∧ c = 0)) ∧ Hid (wr = wx))
      case first =>
        have d0 := kP.cell (i := 0) rfl
        have d1 := kP.cell (i := 1) rfl
        have d2 := kP.cell (i := 2) rfl
        by_cases ha : a = 0
        · have ha' : (a == 0) = true := by simp [ha]
          by_cases hb' : b = 0
          · have hb'' : (b == 0) = true := by simp [hb']
            by_cases hc : c = 0
            · have hc' : (c == 0) = true := by simp [hc]
              have HD : Hid (true = decide (a = 0 ∧ b = 0 ∧ c = 0)) := Lib.hid (by simp [ha, hb', hc])
              clear ha hb' hc
              go_wp2_with fail
              go_meet
              case rel => exact ⟨congrArg Value.bool HD.out, rfl⟩
            · have hc' : (c == 0) = false := by simp [hc]
              have HD : Hid (false = decide (a = 0 ∧ b = 0 ∧ c = 0)) := Lib.hid (by simp [hc])
              clear ha hb' hc
              go_wp2_with fail
              go_meet
              case rel => exact ⟨congrArg Value.bool HD.out, rfl⟩
          · have hb'' : (b == 0) = false := by simp [hb']
            have HD : Hid (false = decide (a = 0 ∧ b = 0 ∧ c = 0)) := Lib.hid (by simp [hb'])
            clear ha hb'
            go_wp2_with fail
            go_meet
            case rel => exact ⟨congrArg Value.bool HD.out, rfl⟩
        · have ha' : (a == 0) = false := by simp [ha]
          have HD : Hid (false = decide (a = 0 ∧ b = 0 ∧ c = 0)) := Lib.hid (by simp [ha])
          clear ha
          go_wp2_with fail
          go_meet
          case rel => exact ⟨congrArg Value.bool HD.out, rfl⟩
      case rest =>
      obtain ⟨rfl, hcut⟩ := hcut
      obtain rfl := hcut.out
      clear hcut
      by_cases hz : a = 0 ∧ b = 0 ∧ c = 0
      · rw [decide_eq_true hz]
        rw [if_pos hz] at hA
        subst hA
        obtain ⟨rfl, rfl, rfl⟩ := hz
        obtain ⟨w4, hw4⟩ : ∃ w', wr.setCell ⟨w.heap.size + 1 + 1, 0, none⟩ (.int .i64 1) = w' := ⟨_, rfl⟩
        have kP4 : Blk w4 (w.heap.size + 1 + 1) #[.int .i64 1, .int .i64 0, .int .i64 0, .int .i64 0] 23 := by rw [← hw4]; exact kP.set_eq 0 _ rfl
        have k04 : Blk w4 w.heap.size #[.int .i64 x.a, .int .i64 x.b, .int .i64 x.c, .int .i64 x.d] 22 := by rw [← hw4]; exact k0.other (C := w.heap.size + 1 + 1) 0 _ (by omega)
        have kR4 : Blk w4 (w.heap.size + 1) #[.int .i64 0, .int .i64 0, .int .i64 0, .int .i64 0] 23 := by rw [← hw4]; exact kR.other (C := w.heap.size + 1 + 1) 0 _ (by omega)
        have hb4 : Below w.heap.size w w4 := by rw [← hw4]; exact hb.setCell (by simp only; omega) _
        have g0 := kP.cell (i := 0) rfl
        have g1 := kP.frozen 0
        have e1 := k04.cell (i := 3) rfl
        have d0 := kP4.cell (i := 0) rfl
        have d1 := kP4.cell (i := 1) rfl
        have d2 := kP4.cell (i := 2) rfl
        go_wp2_with fail
        refine (HM.out _).mono ?_
        rintro e' w5 ⟨rfl, hb5⟩
        have kR := kR4.kept hb5
        have hb5' := (hb4).trans (hb5.mono (hb4).size)
        obtain ⟨w6, hw6⟩ : ∃ w6, w5.alloc (.cells #[.int .i64 0, .int .i64 0, .int .i64 0, .int .i64 0] 23) = w6 := ⟨_, rfl⟩
        have kQ : Blk w6 w5.heap.size #[.int .i64 0, .int .i64 0, .int .i64 0, .int .i64 0] 23 := by rw [← hw6]; exact Blk.new _ _ _
        have hlt5 : w.heap.size + 1 < w5.heap.size := kR.lt
        have kR : Blk w6 (w.heap.size + 1) #[.int .i64 0, .int .i64 0, .int .i64 0, .int .i64 0] 23 := by rw [← hw6]; exact kR.alloc _
        have hb6 : Below w.heap.size w w6 := by rw [← hw6]; exact hb5'.alloc hb5'.size _
        obtain ⟨w7, hw7⟩ : ∃ w8, ((((w6.setCell ⟨w5.heap.size, 0, none⟩ (.int .i64 T.a)).setCell ⟨w5.heap.size, 1, none⟩ (.int .i64 T.b)).setCell ⟨w5.heap.size, 2, none⟩ (.int .i64 T.c)).setCell ⟨w5.heap.size, 3, none⟩ (.int .i64 T.d)) = w8 := ⟨_, rfl⟩
        have kQ7 : Blk w7 w5.heap.size #[.int .i64 T.a, .int .i64 T.b, .int .i64 T.c, .int .i64 T.d] 23 := by rw [← hw7]; exact Blk.put4 kQ _ _ _ _
        have kR7 : Blk w7 (w.heap.size + 1) #[.int .i64 0, .int .i64 0, .int .i64 0, .int .i64 0] 23 := by rw [← hw7]; exact (((kR.other (C := w5.heap.size) 0 _ (by omega)).other (C := w5.heap.size) 1 _ (by omega)).other (C := w5.heap.size) 2 _ (by omega)).other (C := w5.heap.size) 3 _ (by omega)
        have hb7 : Below w.heap.size w w7 := by rw [← hw7]; exact (((hb6.setCell (by simp only; omega) _).setCell (by simp only; omega) _).setCell (by simp only; omega) _).setCell (by simp only; omega) _
        clear d0 d1 d2 e1
        have a0 := kQ.cell (i := 0) rfl
        have a1 := kQ.cell (i := 1) rfl
        have a2 := kQ.cell (i := 2) rfl
        have a3 := kQ.cell (i := 3) rfl
        have b0 := kQ.frozen 0
        have b1 := kQ.frozen 1
        have b2 := kQ.frozen 2
        have b3 := kQ.frozen 3
        have s0 := kQ7.cell (i := 0) rfl
        have s1 := kQ7.cell (i := 1) rfl
        have s2 := kQ7.cell (i := 2) rfl
        have s3 := kQ7.cell (i := 3) rfl
        have d0 := kR7.cell (i := 0) rfl
        have d1 := kR7.cell (i := 1) rfl
        have d2 := kR7.cell (i := 2) rfl
        have d3 := kR7.cell (i := 3) rfl
        have f0 := kR7.frozen 0
        have f1 := kR7.frozen 1
        have f2 := kR7.frozen 2
        have f3 := kR7.frozen 3
        go_wp2_with fail
        have L := Blk.put4 kR7 (.int .i64 T.a) (.int .i64 T.b) (.int .i64 T.c) (.int .i64 T.d)
        have y0 := L.cell (i := 0) rfl
        have y1 := L.cell (i := 1) rfl
        have y2 := L.cell (i := 2) rfl
        have y3 := L.cell (i := 3) rfl
        exact bodyPost_ret (v := .agg #[.int .i64 T.a, .int .i64 T.b, .int .i64 T.c, .int .i64 T.d]) (by simp [results, Try.results19, go_sem, y0, y1, y2, y3]) rfl ⟨rfl, (((hb7.setCell (by simp only; omega) _).setCell (by simp only; omega) _).setCell (by simp only; omega) _).setCell (by simp only; omega) _⟩
      · rw [decide_eq_false hz]
        rw [if_neg hz] at hA
        subst hA
        clear hz
        have e1 := k0.cell (i := 3) rfl
        have d0 := kP.cell (i := 0) rfl
        have d1 := kP.cell (i := 1) rfl
        have d2 := kP.cell (i := 2) rfl
        go_wp2_with fail
        refine (HM.out _).mono ?_
        rintro e' w5 ⟨rfl, hb5⟩
        have kR := kR.kept hb5
        have hb5' := (hb).trans (hb5.mono (hb).size)
        obtain ⟨w6, hw6⟩ : ∃ w6, w5.alloc (.cells #[.int .i64 0, .int .i64 0, .int .i64 0, .int .i64 0] 23) = w6 := ⟨_, rfl⟩
        have kQ : Blk w6 w5.heap.size #[.int .i64 0, .int .i64 0, .int .i64 0, .int .i64 0] 23 := by rw [← hw6]; exact Blk.new _ _ _
        have hlt5 : w.heap.size + 1 < w5.heap.size := kR.lt
        have kR : Blk w6 (w.heap.size + 1) #[.int .i64 0, .int .i64 0, .int .i64 0, .int .i64 0] 23 := by rw [← hw6]; exact kR.alloc _
        have hb6 : Below w.heap.size w w6 := by rw [← hw6]; exact hb5'.alloc hb5'.size _
        obtain ⟨w7, hw7⟩ : ∃ w8, ((((w6.setCell ⟨w5.heap.size, 0, none⟩ (.int .i64 T.a)).setCell ⟨w5.heap.size, 1, none⟩ (.int .i64 T.b)).setCell ⟨w5.heap.size, 2, none⟩ (.int .i64 T.c)).setCell ⟨w5.heap.size, 3, none⟩ (.int .i64 T.d)) = w8 := ⟨_, rfl⟩
        have kQ7 : Blk w7 w5.heap.size #[.int .i64 T.a, .int .i64 T.b, .int .i64 T.c, .int .i64 T.d] 23 := by rw [← hw7]; exact Blk.put4 kQ _ _ _ _
        have kR7 : Blk w7 (w.heap.size + 1) #[.int .i64 0, .int .i64 0, .int .i64 0, .int .i64 0] 23 := by rw [← hw7]; exact (((kR.other (C := w5.heap.size) 0 _ (by omega)).other (C := w5.heap.size) 1 _ (by omega)).other (C := w5.heap.size) 2 _ (by omega)).other (C := w5.heap.size) 3 _ (by omega)
        have hb7 : Below w.heap.size w w7 := by rw [← hw7]; exact (((hb6.setCell (by simp only; omega) _).setCell (by simp only; omega) _).setCell (by simp only; omega) _).setCell (by simp only; omega) _
        clear d0 d1 d2 e1
        have a0 := kQ.cell (i := 0) rfl
        have a1 := kQ.cell (i := 1) rfl
        have a2 := kQ.cell (i := 2) rfl
        have a3 := kQ.cell (i := 3) rfl
        have b0 := kQ.frozen 0
        have b1 := kQ.frozen 1
        have b2 := kQ.frozen 2
        have b3 := kQ.frozen 3
        have s0 := kQ7.cell (i := 0) rfl
        have s1 := kQ7.cell (i := 1) rfl
        have s2 := kQ7.cell (i := 2) rfl
        have s3 := kQ7.cell (i := 3) rfl
        have d0 := kR7.cell (i := 0) rfl
        have d1 := kR7.cell (i := 1) rfl
        have d2 := kR7.cell (i := 2) rfl
        have d3 := kR7.cell (i := 3) rfl
        have f0 := kR7.frozen 0
        have f1 := kR7.frozen 1
        have f2 := kR7.frozen 2
        have f3 := kR7.frozen 3
        go_wp2_with fail
        have L := Blk.put4 kR7 (.int .i64 T.a) (.int .i64 T.b) (.int .i64 T.c) (.int .i64 T.d)
        have y0 := L.cell (i := 0) rfl
        have y1 := L.cell (i := 1) rfl
        have y2 := L.cell (i := 2) rfl
        have y3 := L.cell (i := 3) rfl
        exact bodyPost_ret (v := .agg #[.int .i64 T.a, .int .i64 T.b, .int .i64 T.c, .int .i64 T.d]) (by simp [results, Try.results19, go_sem, y0, y1, y2, y3]) rfl ⟨rfl, (((hb7.setCell (by simp only; omega) _).setCell (by simp only; omega) _).setCell (by simp only; omega) _).setCell (by simp only; omega) _⟩

end Go.Proofs.Ythdhakpmhndbfaa

namespace Go.Proofs.Ythdhakpmhndbfaa
open Go.RowKit Go.Shelf
attribute [local go_sem] Oper.semAt_some

set_option maxRecDepth 100000 in
set_option maxHeartbeats 4000000 in
theorem bad_any (p : Option Addr) (n c : Nat) (ps : List V4) (w : World) (hl : ps.length = n) (hn : n ≤ 1000000000) (hr : RdV w p ps) (hi : ∀ q ∈ ps, InV q) :
    Calls Try.prog 10 #[.slice p n c] w fun e w' => e = .returned (.int .i64 (errE (ps.all fun q => decide (RightQ q)) 30)) ∧ Below w.heap.size w w' := by
  have HL := Lib.hid hl
  have HR := Lib.hid hr
  have HI := Lib.hid hi
  obtain ⟨E, hE⟩ : ∃ E, errE (ps.all fun q => decide (RightQ q)) 30 = E := ⟨_, rfl⟩
  rw [hE]
  have HE := Lib.hid hE
  clear hl hr hi hE
  go_enter Try.func10, Try.ntmps10
  go_wp2_with fail
  go_loopg [3] n (fun gk v3 wr => ∃ i : Nat, i ≤ n ∧ gk = n - i ∧ v3 = .int .i64 (i : Int) ∧ Hid (∀ q ∈ ps.take i, RightQ q) ∧ Below w.heap.size w wr)
  case atStart => exact ⟨0, Nat.zero_le _, rfl, rfl, fun q hq => by simp at hq, Below.refl _ _⟩
  case round =>
    obtain ⟨i, hi, hgk, rfl, HA, hb⟩ := hrel
    have HGK := Lib.hid hgk
    clear hgk
    by_cases hlt : i < n
    · have hil : i < ps.length := by rw [HL.out]; exact hlt
      have hlti : (i : Int) < (n : Int) := by omega
      obtain ⟨b, off, rfl, hbl, g0, g1, g2, g3⟩ := HR.out i _ (List.getElem?_eq_getElem hil)
      have htk : ps.take (i + 1) = ps.take i ++ [ps[i]] := List.take_succ_eq_append_getElem hil
      have hmem := List.getElem_mem hil
      have hin := HI.out _ hmem
      generalize ps[i] = q at *
      have g0 := (hb.cell (p := ⟨b, off + i * 4, none⟩) hbl).trans g0
      have g1 := (hb.cell (p := ⟨b, off + i * 4 + 1, none⟩) hbl).trans g1
      have g2 := (hb.cell (p := ⟨b, off + i * 4 + 2, none⟩) hbl).trans g2
      have g3 := (hb.cell (p := ⟨b, off + i * 4 + 3, none⟩) hbl).trans g3
      have HT := Lib.hid (And.intro htk hmem)
      have hp := fun W => right3_any q.a q.b q.c q.d W hin.1 hin.2.1 hin.2.2.1 hin.2.2.2
      have HP := Lib.hid hp
      clear hp htk hmem hin
      go_wp2_with fail
      refine (HP.out _).mono ?_
      rintro e w3 ⟨rfl, hb3⟩
      have hb3' := hb.trans (hb3.mono hb.size)
      by_cases hq : RightQ q
      · rw [show decide (RightP q.a q.b q.c q.d) = true from decide_eq_true hq]
        have HQ := Lib.hid hq
        clear hq
        go_wp2_with fail
        go_roundg (n - (i + 1))
        case measure => rw [HGK.out]; omega
        case rel =>
          refine ⟨i + 1, by omega, rfl, by go_num, ?_, hb3'⟩
          intro y hy
          rw [HT.out.1] at hy
          rcases List.mem_append.1 hy with hy | hy
          · exact HA.out y hy
          · rw [List.mem_singleton] at hy
            rw [hy]; exact HQ.out
      · rw [show decide (RightP q.a q.b q.c q.d) = false from decide_eq_false hq]
        have hz : 30 = E := by
          rw [← HE.out, show (ps.all fun q => decide (RightQ q)) = false from by rw [List.all_eq_false]; exact ⟨q, HT.out.2, by simpa using hq⟩]; rfl
        have HN := Lib.hid hz
        clear hq hz
        go_wp2_with fail
        go_ret
        exact ⟨congrArg (fun z : Int => Ending.returned (.int .i64 z)) HN.out, hb3'⟩
    · have hlti : ¬ (i : Int) < (n : Int) := by omega
      have hall : ∀ q ∈ ps, RightQ q := by
        have := HA.out
        rwa [List.take_of_length_le (by rw [HL.out]; omega)] at this
      have hz : 0 = E := by
        rw [← HE.out, show (ps.all fun q => decide (RightQ q)) = true from by rw [List.all_eq_true]; exact fun q hq => decide_eq_true (hall q hq)]; rfl
      have HN := Lib.hid hz
      clear hall hz
      go_wp2_with fail
      go_ret
      exact ⟨congrArg (fun z : Int => Ending.returned (.int .i64 z)) HN.out, hb⟩

end Go.Proofs.Ythdhakpmhndbfaa

namespace Go.Proofs.Ythdhakpmhndbfaa
open Go.RowKit Go.Shelf
attribute [local go_sem] Oper.semAt_some

theorem aw3_make (w : World) : Calls Try.prog 12 #[.int .i64 2, .int .i64 4, .int .i64 0, .int .i64 (-6)] w fun e w' => e = .returned (.tuple #[.agg #[.int .i64 1, .int .i64 2, .int .i64 0, .int .i64 (-3)], .int .i64 0]) ∧ Below w.heap.size w w' := by
  refine (make_some 2 4 0 (-6) w (by decide) (by decide) (by decide) (by decide) (by decide)).mono ?_
  rintro e w' ⟨rfl, hb⟩
  have h : MakeOk 2 4 0 (-6) := by decide +kernel
  have l0 : low4 2 4 0 (-6) 2 = 1 := by decide +kernel
  have l1 : low4 2 4 0 (-6) 4 = 2 := by decide +kernel
  have l2 : low4 2 4 0 (-6) 0 = 0 := by decide +kernel
  have l3 : low4 2 4 0 (-6) (-6) = -3 := by decide +kernel
  rw [if_pos h, decide_eq_true h, l0, l1, l2, l3]
  exact ⟨rfl, hb⟩
theorem aw3_side (w : World) : Calls Try.prog 21 #[.agg #[.int .i64 1, .int .i64 0, .int .i64 0, .int .i64 (-1)], .agg #[.int .i64 1, .int .i64 0, .int .i64 0, .int .i64 2]] w fun e w' => e = .returned (.tuple #[.int .i64 (-1), .int .i64 0]) ∧ Below w.heap.size w w' := by
  refine (side_any ⟨1, 0, 0, -1⟩ ⟨1, 0, 0, 2⟩ w (by unfold InV; decide) (by unfold InV; decide)).mono ?_
  rintro e w' ⟨rfl, hb⟩
  have h1 : RightP 1 0 0 (-1) := by decide +kernel
  have h2 : SoundP 1 0 0 2 := by decide +kernel
  have h3 : sgnI (dotL ⟨1, 0, 0, -1⟩ ⟨1, 0, 0, 2⟩ (List.range 4)) = -1 := by decide +kernel
  refine ⟨?_, hb⟩
  show Ending.returned (.tuple #[.int .i64 (if RightP 1 0 0 (-1) ∧ SoundP 1 0 0 2 then sgnI (dotL ⟨1, 0, 0, -1⟩ ⟨1, 0, 0, 2⟩ (List.range 4)) else 0), .int .i64 (firstE [errE (decide (RightP 1 0 0 (-1))) 30, errE (decide (SoundP 1 0 0 2)) 40])]) = _
  rw [if_pos ⟨h1, h2⟩, h3, decide_eq_true h1, decide_eq_true h2]; rfl
theorem aw3_through (w : World) : Calls Try.prog 25 #[.agg #[.int .i64 0, .int .i64 0, .int .i64 0, .int .i64 1], .agg #[.int .i64 1, .int .i64 0, .int .i64 0, .int .i64 1], .agg #[.int .i64 0, .int .i64 1, .int .i64 0, .int .i64 1]] w fun e w' => e = .returned (.tuple #[.agg #[.int .i64 0, .int .i64 0, .int .i64 1, .int .i64 0], .int .i64 0]) ∧ Below w.heap.size w w' := by
  refine (through_any ⟨0, 0, 0, 1⟩ ⟨1, 0, 0, 1⟩ ⟨0, 1, 0, 1⟩ w (by unfold InV; decide) (by unfold InV; decide) (by unfold InV; decide)).mono ?_
  rintro e w' ⟨rfl, hb⟩
  have h1 : thrP ⟨0, 0, 0, 1⟩ ⟨1, 0, 0, 1⟩ ⟨0, 1, 0, 1⟩ = ⟨0, 0, 1, 0⟩ := by decide +kernel
  have h2 : thrE ⟨0, 0, 0, 1⟩ ⟨1, 0, 0, 1⟩ ⟨0, 1, 0, 1⟩ = 0 := by decide +kernel
  rw [h1, h2]
  exact ⟨rfl, hb⟩
theorem aw3_shift (w : World) : Calls Try.prog 37 #[.agg #[.int .i64 1, .int .i64 0, .int .i64 0, .int .i64 (-1)], .agg #[.int .i64 2, .int .i64 7, .int .i64 7]] w fun e w' => e = .returned (.tuple #[.agg #[.int .i64 1, .int .i64 0, .int .i64 0, .int .i64 (-3)], .int .i64 0]) ∧ Below w.heap.size w w' := by
  refine (shift_any ⟨1, 0, 0, -1⟩ 2 7 7 w (by unfold InV; decide)).mono ?_
  rintro e w' ⟨rfl, hb⟩
  have h1 : shP ⟨1, 0, 0, -1⟩ 2 7 7 = ⟨1, 0, 0, -3⟩ := by decide +kernel
  have h2 : shE ⟨1, 0, 0, -1⟩ 2 7 7 = 0 := by decide +kernel
  rw [h1, h2]
  exact ⟨rfl, hb⟩
theorem aw3_check (w : World) : Calls Try.prog 11 #[.agg #[.int .i64 1, .int .i64 0, .int .i64 (-2), .int .i64 (-5)]] w fun e w' => e = .returned (.int .i64 0) ∧ Below w.heap.size w w' := by
  refine (check_any 1 0 (-2) (-5) w (by decide) (by decide) (by decide) (by decide)).mono ?_
  rintro e w' ⟨rfl, hb⟩
  have h : RightP 1 0 (-2) (-5) := by decide +kernel
  rw [decide_eq_true h]
  exact ⟨rfl, hb⟩
theorem aw3_check0 (w : World) : Calls Try.prog 11 #[.agg #[.int .i64 0, .int .i64 0, .int .i64 0, .int .i64 0]] w fun e w' => e = .returned (.int .i64 30) ∧ Below w.heap.size w w' := by
  refine (check_any 0 0 0 0 w (by decide) (by decide) (by decide) (by decide)).mono ?_
  rintro e w' ⟨rfl, hb⟩
  have h : ¬ RightP 0 0 0 0 := by decide +kernel
  rw [decide_eq_false h]
  exact ⟨rfl, hb⟩
theorem aw3_shown (w : World) : Calls Try.prog 15 #[.agg #[.int .i64 (-1), .int .i64 0, .int .i64 2, .int .i64 5]] w fun e w' => e = .returned (.tuple #[.agg #[.int .i64 1, .int .i64 0, .int .i64 (-2), .int .i64 (-5)], .int .i64 0]) ∧ Below w.heap.size w w' := by
  refine (shownApi_any (-1) 0 2 5 w (by decide) (by decide) (by decide) (by decide)).mono ?_
  rintro e w' ⟨rfl, hb⟩
  have h : RightP (-1) 0 2 5 := by decide +kernel
  have h2 : shownP ⟨-1, 0, 2, 5⟩ = ⟨1, 0, -2, -5⟩ := by decide +kernel
  rw [if_pos h, decide_eq_true h, h2]
  exact ⟨rfl, hb⟩

set_option maxRecDepth 100000 in
set_option maxHeartbeats 4000000 in
theorem awake3_any (w : World) : Calls Try.prog 20 #[] w fun e w' => e = .returned (.bool true) ∧ Below w.heap.size w w' := by
  have hq := fun p q w => eqPlane p q w
  go_enter Try.func20, Try.ntmps20
  go_wp2_with fail
  refine (aw3_make _).mono ?_
  rintro e w1 ⟨rfl, hb1⟩
  obtain ⟨wa1, hwa1⟩ : ∃ w', w1.alloc (.cells #[.int .i64 0, .int .i64 0, .int .i64 0, .int .i64 0] 23) = w' := ⟨_, rfl⟩
  have ka : Blk wa1 w1.heap.size #[.int .i64 0, .int .i64 0, .int .i64 0, .int .i64 0] 23 := by rw [← hwa1]; exact Blk.new _ _ _
  have hba1 : Below w.heap.size w wa1 := by rw [← hwa1]; exact hb1.alloc hb1.size _
  have a10 := ka.cell (i := 0) rfl
  have a11 := ka.cell (i := 1) rfl
  have a12 := ka.cell (i := 2) rfl
  have a13 := ka.cell (i := 3) rfl
  have f10 := ka.frozen 0
  have f11 := ka.frozen 1
  have f12 := ka.frozen 2
  have f13 := ka.frozen 3
  obtain ⟨ws1, hws1⟩ : ∃ w', ((((wa1.setCell ⟨w1.heap.size, 0, none⟩ (.int .i64 1)).setCell ⟨w1.heap.size, 1, none⟩ (.int .i64 2)).setCell ⟨w1.heap.size, 2, none⟩ (.int .i64 0)).setCell ⟨w1.heap.size, 3, none⟩ (.int .i64 (-3))) = w' := ⟨_, rfl⟩
  have K1 : Blk ws1 w1.heap.size #[.int .i64 1, .int .i64 2, .int .i64 0, .int .i64 (-3)] 23 := by rw [← hws1]; exact Blk.put4 ka _ _ _ _
  have hbs1 : Below w.heap.size w ws1 := by have := hb1.size; rw [← hws1]; exact (((hba1.setCell (by simp only; omega) _).setCell (by simp only; omega) _).setCell (by simp only; omega) _).setCell (by simp only; omega) _
  have hbk1 : Below w1.heap.size w1 ws1 := by rw [← hws1]; exact ((((by rw [← hwa1]; exact (Below.refl _ _).alloc (Nat.le_refl _) _ : Below w1.heap.size w1 wa1).setCell (by simp only; omega) _).setCell (by simp only; omega) _).setCell (by simp only; omega) _).setCell (by simp only; omega) _
  go_wp2_with fail
  refine (aw3_side _).mono ?_
  rintro e w2 ⟨rfl, hb2⟩
  have K1 := K1.kept hb2
  have hb2' := hbs1.trans (hb2.mono hbs1.size)
  go_wp2_with fail
  refine (aw3_through _).mono ?_
  rintro e w3 ⟨rfl, hb3⟩
  have K1 := K1.kept hb3
  have hb3' := hb2'.trans (hb3.mono hb2'.size)
  obtain ⟨wa2, hwa2⟩ : ∃ w', w3.alloc (.cells #[.int .i64 0, .int .i64 0, .int .i64 0, .int .i64 0] 23) = w' := ⟨_, rfl⟩
  have ka : Blk wa2 w3.heap.size #[.int .i64 0, .int .i64 0, .int .i64 0, .int .i64 0] 23 := by rw [← hwa2]; exact Blk.new _ _ _
  have hba2 : Below w.heap.size w wa2 := by rw [← hwa2]; exact hb3'.alloc hb3'.size _
  have a20 := ka.cell (i := 0) rfl
  have a21 := ka.cell (i := 1) rfl
  have a22 := ka.cell (i := 2) rfl
  have a23 := ka.cell (i := 3) rfl
  have f20 := ka.frozen 0
  have f21 := ka.frozen 1
  have f22 := ka.frozen 2
  have f23 := ka.frozen 3
  obtain ⟨ws2, hws2⟩ : ∃ w', ((((wa2.setCell ⟨w3.heap.size, 0, none⟩ (.int .i64 0)).setCell ⟨w3.heap.size, 1, none⟩ (.int .i64 0)).setCell ⟨w3.heap.size, 2, none⟩ (.int .i64 1)).setCell ⟨w3.heap.size, 3, none⟩ (.int .i64 0)) = w' := ⟨_, rfl⟩
  have K2 : Blk ws2 w3.heap.size #[.int .i64 0, .int .i64 0, .int .i64 1, .int .i64 0] 23 := by rw [← hws2]; exact Blk.put4 ka _ _ _ _
  have hbs2 : Below w.heap.size w ws2 := by have := hb3'.size; rw [← hws2]; exact (((hba2.setCell (by simp only; omega) _).setCell (by simp only; omega) _).setCell (by simp only; omega) _).setCell (by simp only; omega) _
  have hbk2 : Below w3.heap.size w3 ws2 := by rw [← hws2]; exact ((((by rw [← hwa2]; exact (Below.refl _ _).alloc (Nat.le_refl _) _ : Below w3.heap.size w3 wa2).setCell (by simp only; omega) _).setCell (by simp only; omega) _).setCell (by simp only; omega) _).setCell (by simp only; omega) _
  have K1 := K1.kept hbk2
  go_wp2_with fail
  refine (aw3_shown _).mono ?_
  rintro e w4 ⟨rfl, hb4⟩
  have K1 := K1.kept hb4
  have K2 := K2.kept hb4
  have hb4' := hbs2.trans (hb4.mono hbs2.size)
  obtain ⟨wa3, hwa3⟩ : ∃ w', w4.alloc (.cells #[.int .i64 0, .int .i64 0, .int .i64 0, .int .i64 0] 23) = w' := ⟨_, rfl⟩
  have ka : Blk wa3 w4.heap.size #[.int .i64 0, .int .i64 0, .int .i64 0, .int .i64 0] 23 := by rw [← hwa3]; exact Blk.new _ _ _
  have hba3 : Below w.heap.size w wa3 := by rw [← hwa3]; exact hb4'.alloc hb4'.size _
  have a30 := ka.cell (i := 0) rfl
  have a31 := ka.cell (i := 1) rfl
  have a32 := ka.cell (i := 2) rfl
  have a33 := ka.cell (i := 3) rfl
  have f30 := ka.frozen 0
  have f31 := ka.frozen 1
  have f32 := ka.frozen 2
  have f33 := ka.frozen 3
  obtain ⟨ws3, hws3⟩ : ∃ w', ((((wa3.setCell ⟨w4.heap.size, 0, none⟩ (.int .i64 1)).setCell ⟨w4.heap.size, 1, none⟩ (.int .i64 0)).setCell ⟨w4.heap.size, 2, none⟩ (.int .i64 (-2))).setCell ⟨w4.heap.size, 3, none⟩ (.int .i64 (-5))) = w' := ⟨_, rfl⟩
  have K3 : Blk ws3 w4.heap.size #[.int .i64 1, .int .i64 0, .int .i64 (-2), .int .i64 (-5)] 23 := by rw [← hws3]; exact Blk.put4 ka _ _ _ _
  have hbs3 : Below w.heap.size w ws3 := by have := hb4'.size; rw [← hws3]; exact (((hba3.setCell (by simp only; omega) _).setCell (by simp only; omega) _).setCell (by simp only; omega) _).setCell (by simp only; omega) _
  have hbk3 : Below w4.heap.size w4 ws3 := by rw [← hws3]; exact ((((by rw [← hwa3]; exact (Below.refl _ _).alloc (Nat.le_refl _) _ : Below w4.heap.size w4 wa3).setCell (by simp only; omega) _).setCell (by simp only; omega) _).setCell (by simp only; omega) _).setCell (by simp only; omega) _
  have K1 := K1.kept hbk3
  have K2 := K2.kept hbk3
  go_wp2_with fail
  refine (aw3_shift _).mono ?_
  rintro e w5 ⟨rfl, hb5⟩
  have K1 := K1.kept hb5
  have K2 := K2.kept hb5
  have K3 := K3.kept hb5
  have hb5' := hbs3.trans (hb5.mono hbs3.size)
  obtain ⟨wa4, hwa4⟩ : ∃ w', w5.alloc (.cells #[.int .i64 0, .int .i64 0, .int .i64 0, .int .i64 0] 23) = w' := ⟨_, rfl⟩
  have ka : Blk wa4 w5.heap.size #[.int .i64 0, .int .i64 0, .int .i64 0, .int .i64 0] 23 := by rw [← hwa4]; exact Blk.new _ _ _
  have hba4 : Below w.heap.size w wa4 := by rw [← hwa4]; exact hb5'.alloc hb5'.size _
  have a40 := ka.cell (i := 0) rfl
  have a41 := ka.cell (i := 1) rfl
  have a42 := ka.cell (i := 2) rfl
  have a43 := ka.cell (i := 3) rfl
  have f40 := ka.frozen 0
  have f41 := ka.frozen 1
  have f42 := ka.frozen 2
  have f43 := ka.frozen 3
  obtain ⟨ws4, hws4⟩ : ∃ w', ((((wa4.setCell ⟨w5.heap.size, 0, none⟩ (.int .i64 1)).setCell ⟨w5.heap.size, 1, none⟩ (.int .i64 0)).setCell ⟨w5.heap.size, 2, none⟩ (.int .i64 0)).setCell ⟨w5.heap.size, 3, none⟩ (.int .i64 (-3))) = w' := ⟨_, rfl⟩
  have K4 : Blk ws4 w5.heap.size #[.int .i64 1, .int .i64 0, .int .i64 0, .int .i64 (-3)] 23 := by rw [← hws4]; exact Blk.put4 ka _ _ _ _
  have hbs4 : Below w.heap.size w ws4 := by have := hb5'.size; rw [← hws4]; exact (((hba4.setCell (by simp only; omega) _).setCell (by simp only; omega) _).setCell (by simp only; omega) _).setCell (by simp only; omega) _
  have hbk4 : Below w5.heap.size w5 ws4 := by rw [← hws4]; exact ((((by rw [← hwa4]; exact (Below.refl _ _).alloc (Nat.le_refl _) _ : Below w5.heap.size w5 wa4).setCell (by simp only; omega) _).setCell (by simp only; omega) _).setCell (by simp only; omega) _).setCell (by simp only; omega) _
  have K1 := K1.kept hbk4
  have K2 := K2.kept hbk4
  have K3 := K3.kept hbk4
  have p0 := K1.cell (i := 0) rfl
  have p1 := K1.cell (i := 1) rfl
  have p2 := K1.cell (i := 2) rfl
  have p3 := K1.cell (i := 3) rfl
  have q0 := K2.cell (i := 0) rfl
  have q1 := K2.cell (i := 1) rfl
  have q2 := K2.cell (i := 2) rfl
  have q3 := K2.cell (i := 3) rfl
  have r0 := K3.cell (i := 0) rfl
  have r1 := K3.cell (i := 1) rfl
  have r2 := K3.cell (i := 2) rfl
  have r3 := K3.cell (i := 3) rfl
  have s0 := K4.cell (i := 0) rfl
  have s1 := K4.cell (i := 1) rfl
  have s2 := K4.cell (i := 2) rfl
  have s3 := K4.cell (i := 3) rfl
  have E1 := fun w => hq ⟨1, 2, 0, -3⟩ ⟨1, 2, 0, -3⟩ w
  have E2 := fun w => hq ⟨0, 0, 1, 0⟩ ⟨0, 0, 1, 0⟩ w
  have E3 := fun w => hq ⟨1, 0, -2, -5⟩ ⟨1, 0, -2, -5⟩ w
  have E4 := fun w => hq ⟨1, 0, 0, -3⟩ ⟨1, 0, 0, -3⟩ w
  simp only [decide_true] at E1 E2 E3 E4
  clear hq
  go_wp2_with fail
  refine (aw3_check _).mono ?_
  rintro e w6 ⟨rfl, hb6⟩
  have hb6' := hbs4.trans (hb6.mono hbs4.size)
  go_wp2_with fail
  refine (aw3_check0 _).mono ?_
  rintro e w7 ⟨rfl, hb7⟩
  have hb7' := hb6'.trans (hb7.mono hb6'.size)
  go_wp2_with fail
  go_ret
  exact ⟨rfl, hb7'⟩

end Go.Proofs.Ythdhakpmhndbfaa

namespace Go.Proofs.Ythdhakpmhndbfaa
open Go.RowKit
variable {P : Program} {Q : Exit → Act → World → Prop}

theorem yielded_of {ops : Array Oper} {t : Array Value} {oj : Oper} {j d : Nat} {b : Bool} (hj : ops[j]? = some oj) (hd : oj.dst = some d) (ht : t[d]? = some (.bool b)) : yielded ops t j = some b := by
  unfold yielded
  rw [hj]
  simp [hd, ht]
theorem wanted_of {ops : Array Oper} {t : Array Value} {o oj : Oper} {j d : Nat} {b : Bool} (hg : o.guard = some (j, b)) (hj : ops[j]? = some oj) (hd : oj.dst = some d) (ht : t[d]? = some (.bool b)) : Region.wanted o (yielded ops t) = true := by
  unfold Region.wanted
  rw [hg]
  simp [yielded_of hj hd ht]
theorem unwanted_of {ops : Array Oper} {t : Array Value} {o oj : Oper} {j d : Nat} {b : Bool} (hg : o.guard = some (j, !b)) (hj : ops[j]? = some oj) (hd : oj.dst = some d) (ht : t[d]? = some (.bool b)) : Region.wanted o (yielded ops t) = false := by
  unfold Region.wanted
  rw [hg]
  simp [yielded_of hj hd ht]

/-- An operation whose guard lets it be done. -/
theorem wpOp_on {ops : Array Oper} {i : Nat} {o : Oper} {K : Act → World → Prop} {a : Act} {w : World} (ho : ops[i]? = some o) (hw : Region.wanted o (yielded ops a.tmps) = true) (h : wpList P #[] (fun e a w => (e = .normal → K a w) ∧ (e ≠ .normal → Q e a w)) [{ o with guard := none }] a w) : wpOp P ops Q i K a w := by
  refine wpOp_list ho ?_
  unfold wpList at h ⊢
  rw [if_pos hw]
  rw [if_pos (show Region.wanted { o with guard := none } (yielded #[] a.tmps) = true from rfl)] at h
  exact h
/-- One that is not done. -/
theorem wpOp_off {ops : Array Oper} {i : Nat} {o : Oper} {K : Act → World → Prop} {a : Act} {w : World} (ho : ops[i]? = some o) (hw : Region.wanted o (yielded ops a.tmps) = false) (h : K (a.put o.dst undef) w) : wpOp P ops Q i K a w := by
  unfold wpOp
  rw [ho]
  simp only [hw]
  exact h

end Go.Proofs.Ythdhakpmhndbfaa

namespace Go.Proofs.Ythdhakpmhndbfaa
open Go.RowKit Go.Shelf
attribute [local go_sem] Oper.semAt_some

def zeroN (x : V4) : Prop := x.a = 0 ∧ x.b = 0 ∧ x.c = 0
instance (x : V4) : Decidable (zeroN x) := by unfold zeroN; infer_instance
def makeQ (x : V4) : Prop := MakeOk x.a x.b x.c x.d
instance (x : V4) : Decidable (makeQ x) := by unfold makeQ; infer_instance
end Go.Proofs.Ythdhakpmhndbfaa

namespace Go.Proofs.Ythdhakpmhndbfaa
open Go.RowKit Go.Shelf
attribute [local go_sem] Oper.semAt_some

theorem sgnCmp_lt0 {a b : Int} : sgnCmp a b < 0 ↔ a < b := by
  unfold sgnCmp; split
  · simp; omega
  · split <;> simp <;> omega
theorem cmpV_lt (p q : V4) : cmpV p q < 0 ↔ p.a < q.a ∨ (p.a = q.a ∧ (p.b < q.b ∨ (p.b = q.b ∧ (p.c < q.c ∨ (p.c = q.c ∧ p.d < q.d))))) := by
  unfold cmpV
  by_cases h1 : p.a = q.a
  · rw [if_neg (by simp [h1])]
    by_cases h2 : p.b = q.b
    · rw [if_neg (by simp [h2])]
      by_cases h3 : p.c = q.c
      · rw [if_neg (by simp [h3]), sgnCmp_lt0]; omega
      · rw [if_pos h3, sgnCmp_lt0]; omega
    · rw [if_pos h2, sgnCmp_lt0]; omega
  · rw [if_pos h1, sgnCmp_lt0]; omega
theorem ordP : Ord4 (fun _ => True) cmpV where
  irr x _ := by rw [cmpV_lt]; omega
  tr x y z _ _ _ h1 h2 := by rw [cmpV_lt] at *; omega
  tri x y _ _ := by
    rw [cmpV_lt, cmpV_lt]
    by_cases h : x = y
    · exact .inr (.inl h)
    · have hne : ¬ (x.a = y.a ∧ x.b = y.b ∧ x.c = y.c ∧ x.d = y.d) := fun ⟨h1, h2, h3, h4⟩ => h (by cases x; cases y; simp_all)
      omega

set_option maxRecDepth 100000 in
set_option maxHeartbeats 8000000 in
theorem sortApi_any (p : Option Addr) (n cap : Nat) (l : List V4) (w : World) (hl : l.length = n) (hn : n ≤ 100000) (hr : RdV w p l) (hi : ∀ q ∈ l, InV q) :
    Calls Try.prog 40 #[.slice p n cap] w fun e w' => ((∃ E, E = firstE [errE (l.all fun q => decide (RightQ q)) 30, errE (decide ((n : Int) ≤ 1000)) 2] ∧ ¬ E = 0 ∧ e = .returned (.tuple #[.slice none 0 0, .int .i64 E])) ∨
      (firstE [errE (l.all fun q => decide (RightQ q)) 30, errE (decide ((n : Int) ≤ 1000)) 2] = 0 ∧ ∃ p' c' l', e = .returned (.tuple #[.slice p' (List.length l') c', .int .i64 0]) ∧ RdV w' p' l' ∧ SortIs cmpV l l')) ∧ Below w.heap.size w w' := by
  have hpl := planes_any p n cap l w hl (by omega) hr hi
  have hqq : (l.all fun q => decide (RightP q.a q.b q.c q.d)) = (l.all fun q => decide (RightQ q)) := rfl
  rw [hqq] at hpl
  obtain ⟨r1, hr1⟩ : ∃ r, errE (l.all fun q => decide (RightQ q)) 30 = r := ⟨_, rfl⟩
  have hmo := fun W => most_any 1000 (n : Int) W
  obtain ⟨r2, hr2⟩ : ∃ r, errE (decide ((n : Int) ≤ 1000)) 2 = r := ⟨_, rfl⟩
  rw [hr1] at hpl
  rw [hr2] at hmo
  rw [hr1, hr2]
  obtain ⟨E, hE⟩ : ∃ E, firstE [r1, r2] = E := ⟨_, rfl⟩
  rw [hE]
  have HE0 := Lib.hid hE
  clear hE
  have hso := fun W (hW : Below w.heap.size w W) => sortedP_any (fun _ => True) ⟨0, 0, 0, 0⟩ trivial cmpV ordP 63 #[] p n cap l W hl hn (fun _ _ => trivial) (hr.below hW) (enters_of Try.func63 (by kernel_rfl) rfl) (fun W2 _ x y _ _ => compareP_any x y W2)
  have HPL := Lib.hid hpl
  have HMO := Lib.hid hmo
  have HSO := Lib.hid hso
  clear hpl hmo hso hr1 hr2 hqq hr hi hl
  go_enter Try.func40, Try.ntmps40
  go_wp2_with fail
  refine HPL.out.mono ?_
  rintro e w1 ⟨v1, rfl, hv1, hb1⟩
  obtain ⟨g1, caps1, rfl, _⟩ := id hv1
  have HV1 := Lib.hid hv1
  clear hv1 HPL
  go_wp2_with fail
  refine (HMO.out _).mono ?_
  rintro e w2 ⟨v2, rfl, hv2, hb2⟩
  obtain ⟨g2, caps2, rfl, _⟩ := id hv2
  have hb12 := hb1.trans (hb2.mono hb1.size)
  obtain ⟨w3, hw3⟩ : ∃ w', w2.alloc (.cells #[.func (.func g1) #[] caps1, .func (.func g2) #[] caps2] 70) = w' := ⟨_, rfl⟩
  have hr3 : RdC w3 (some ⟨w2.heap.size, 0, none⟩) [r1, r2] := by rw [← hw3]; exact checks2 w2 _ _ r1 r2 _ (HV1.out.below hb2) hv2
  have hb3 : Below w.heap.size w w3 := by rw [← hw3]; exact hb12.alloc hb12.size _
  have hf := first_any (some ⟨w2.heap.size, 0, none⟩) 2 2 [r1, r2] w3 rfl (by decide) hr3
  rw [HE0.out] at hf
  have HF := Lib.hid hf
  clear hf hr3 hv2 HV1 HMO hb1 hb2 hb12
  go_wp2_with fail
  refine HF.out.mono ?_
  rintro e w4 ⟨rfl, hb4⟩
  have hb4' := hb3.trans (hb4.mono hb3.size)
  by_cases hE0 : E = 0
  · subst hE0
    have HS := Lib.hid (HSO.out w4 hb4')
    clear HSO HF hb3 hb4 hw3
    go_wp2_with fail
    refine HS.out.mono ?_
    rintro e w5 ⟨p', c', l', rfl, hrd, hsi, hb5⟩
    obtain ⟨m, hm⟩ : ∃ m, l'.length = m := ⟨_, rfl⟩
    have HM := Lib.hid hm
    have HRD := Lib.hid (And.intro hrd hsi)
    rw [hm]
    clear hm hrd hsi HS
    go_wp2_with fail
    go_ret2
    first
      | exact ⟨.inr ⟨rfl, p', c', l', by rw [HM.out]; rfl, HRD.out.1, HRD.out.2⟩, hb4'.trans (hb5.mono hb4'.size)⟩
      | exact ⟨⟨p', c', l', by rw [HM.out]; rfl, HRD.out.1, HRD.out.2⟩, hb4'.trans (hb5.mono hb4'.size)⟩
  · have hE1 : (E == 0) = false := by simp [hE0]
    have hE2 : (E != 0) = true := by simp [hE0]
    have HE := Lib.hid hE0
    clear hE0 HSO HF hb3 hb4 hw3
    go_wp2_with fail
    go_ret2
    exact ⟨.inl ⟨E, rfl, HE.out, rfl⟩, hb4'⟩

end Go.Proofs.Ythdhakpmhndbfaa
