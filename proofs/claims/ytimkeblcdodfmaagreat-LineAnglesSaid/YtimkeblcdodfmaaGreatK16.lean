/-
  The reference of planes: a right plane of any numbers; The reference of planes: whether points are right; Numbers in lowest terms, with a last one that is not 0: plain; A region that draws its order: operations behind '&&' and '||', whose guard is decided; PlaneMakes, its walk; Parallel and alike planes: the reference's, and package plane's; LineTurns, plain: turned lines; Package point: whether a point is right.
-/
import Derived.Deep.CutBlock
import Derived.Test.YtimkeblcdodfmaaGreatK1
import Derived.Test.YtimkeblcdodfmaaGreatK2
import Derived.Test.YtimkeblcdodfmaaGreatK3
import Derived.Test.YtimkeblcdodfmaaGreatK4
import Derived.Test.YtimkeblcdodfmaaGreatK5
import Derived.Test.YtimkeblcdodfmaaGreatK6
import Derived.Test.YtimkeblcdodfmaaGreatK7
import Derived.Test.YtimkeblcdodfmaaGreatK8
import Derived.Test.YtimkeblcdodfmaaGreatK9
import Derived.Test.YtimkeblcdodfmaaGreatK10
import Derived.Test.YtimkeblcdodfmaaGreatK11
import Derived.Test.YtimkeblcdodfmaaGreatK12
import Derived.Test.YtimkeblcdodfmaaGreatK13
import Derived.Test.YtimkeblcdodfmaaGreatK14
import Derived.Test.YtimkeblcdodfmaaGreatK15
namespace Go.Proofs.YtimkeblcdodfmaaGreat
open Go.RowKit Go.Shelf
attribute [local go_sem] Oper.semAt_some

/-- A number brought into a range. -/
def tameC (v most : Int) : Int := v % 18446744073709551616 % (2 * most + 1) - most
def tameA (x : V4) (most : Int) : Int := if tameC x.a most = 0 ∧ tameC x.b most = 0 ∧ tameC x.c most = 0 then 1 else tameC x.a most
def tameD (x : V4) : Int := x.d % 18446744073709551616 % 41 - 20
def tameV (x : V4) (most : Int) : V4 :=
  ⟨low4 (tameA x most) (tameC x.b most) (tameC x.c most) (tameD x) (tameA x most), low4 (tameA x most) (tameC x.b most) (tameC x.c most) (tameD x) (tameC x.b most), low4 (tameA x most) (tameC x.b most) (tameC x.c most) (tameD x) (tameC x.c most), low4 (tameA x most) (tameC x.b most) (tameC x.c most) (tameD x) (tameD x)⟩
theorem tameC_le {v most : Int} (h1 : 1 ≤ most) : (tameC v most).natAbs ≤ most.natAbs := by
  unfold tameC
  have a0 := Int.emod_nonneg (v % 18446744073709551616) (b := 2 * most + 1) (by omega)
  have a1 := Int.emod_lt_of_pos (v % 18446744073709551616) (b := 2 * most + 1) (by omega)
  omega
theorem tameD_le (x : V4) : (tameD x).natAbs ≤ 20 := by unfold tameD; omega
theorem tameA_le {x : V4} {most : Int} (h1 : 1 ≤ most) : (tameA x most).natAbs ≤ most.natAbs := by
  unfold tameA; split
  · omega
  · exact tameC_le h1
theorem tameA_ne (x : V4) (most : Int) : ¬ (tameA x most = 0 ∧ tameC x.b most = 0 ∧ tameC x.c most = 0) := by
  unfold tameA
  split
  · rintro ⟨h, _⟩; cases h
  · rename_i h; exact h
theorem makeOk_small {a b c d : Int} (hn : ¬ (a = 0 ∧ b = 0 ∧ c = 0)) (hA : a.natAbs ≤ 1000) (hB : b.natAbs ≤ 1000) (hC : c.natAbs ≤ 1000) (hD : d.natAbs ≤ 1000000) : MakeOk a b c d := by
  have hm := low4_mul a b c d
  have l0 := low4_le hn hm.1
  have l1 := low4_le hn hm.2.1
  have l2 := low4_le hn hm.2.2.1
  have l3 := low4_le hn hm.2.2.2
  have z0 := low4_zero hn hm.1
  have z1 := low4_zero hn hm.2.1
  have z2 := low4_zero hn hm.2.2.1
  have hg := low4_g4 (d := d) hn
  unfold MakeOk RightP
  exact ⟨fun h => hn ⟨z0.1 h.1, z1.1 h.2.1, z2.1 h.2.2⟩, Nat.le_trans l0 hA, Nat.le_trans l1 hB, Nat.le_trans l2 hC, Nat.le_trans l3 hD, hg⟩
theorem tame_ok {x : V4} {most : Int} (h1 : 1 ≤ most) (h2 : most ≤ 1000) : MakeOk (tameA x most) (tameC x.b most) (tameC x.c most) (tameD x) :=
  makeOk_small (tameA_ne x most) (Nat.le_trans (tameA_le h1) (by omega)) (Nat.le_trans (tameC_le h1) (by omega)) (Nat.le_trans (tameC_le h1) (by omega)) (Nat.le_trans (tameD_le x) (by decide))
theorem tame_right {x : V4} {most : Int} (h1 : 1 ≤ most) (h2 : most ≤ 1000) : RightQ (tameV x most) := tame_ok h1 h2
theorem right_in {p : V4} (h : RightQ p) : InV p := by
  obtain ⟨_, h0, h1, h2, h3, _⟩ := h
  unfold InV InI64
  omega
set_option maxRecDepth 100000 in
set_option maxHeartbeats 8000000 in
theorem tame_any (x : V4) (most : Int) (w : World) (hx : InV x) (h1 : 1 ≤ most) (h2 : most ≤ 1000) :
    Calls Tryz.prog 19 #[.agg #[.int .i64 x.a, .int .i64 x.b, .int .i64 x.c, .int .i64 x.d], .int .i64 most] w fun e w' => e = .returned (.agg #[.int .i64 (tameV x most).a, .int .i64 (tameV x most).b, .int .i64 (tameV x most).c, .int .i64 (tameV x most).d]) ∧ Below w.heap.size w w' := by
  have hm := fun W => rmake_some (tameA x most) (tameC x.b most) (tameC x.c most) (tameD x) W (tameA_ne x most) (by have := tameA_le (x := x) h1; unfold InI64; omega) (by have := tameC_le (v := x.b) h1; unfold InI64; omega) (by have := tameC_le (v := x.c) h1; unfold InI64; omega) (by have := tameD_le x; unfold InI64; omega)
  rw [decide_eq_true (tame_ok h1 h2)] at hm
  simp only [if_pos (tame_ok (x := x) h1 h2)] at hm
  obtain ⟨T, hT⟩ : ∃ T, tameV x most = T := ⟨_, rfl⟩
  have hm : ∀ W, Calls Tryz.prog 35 #[.int .i64 (tameA x most), .int .i64 (tameC x.b most), .int .i64 (tameC x.c most), .int .i64 (tameD x)] W fun e w' => e = .returned (.tuple #[.agg #[.int .i64 T.a, .int .i64 T.b, .int .i64 T.c, .int .i64 T.d], .int .i64 0]) ∧ Below W.heap.size W w' := fun W => by rw [← hT]; exact hm W
  rw [hT]
  clear hT
  obtain ⟨w1, hw1⟩ : ∃ w1, (((w.alloc (.cells #[.int .i64 x.a, .int .i64 x.b, .int .i64 x.c, .int .i64 x.d] 22)).alloc (.cells #[.int .i64 0, .int .i64 0, .int .i64 0, .int .i64 0] 23)).alloc (.cells #[.int .i64 0, .int .i64 0, .int .i64 0, .int .i64 0] 23)) = w1 := ⟨_, rfl⟩
  have hb1 : Below w.heap.size w w1 := by rw [← hw1]; exact bw3 w _ _ _
  have k0 : Blk w1 (w.heap.size) #[.int .i64 x.a, .int .i64 x.b, .int .i64 x.c, .int .i64 x.d] 22 := by rw [← hw1]; exact ((Blk.new w _ _).alloc _).alloc _
  have kR : Blk w1 (w.heap.size + 1) #[.int .i64 0, .int .i64 0, .int .i64 0, .int .i64 0] 23 := by rw [← hw1]; exact (Blk.new' _ _ _ (by simp)).alloc _
  have kP : Blk w1 (w.heap.size + 1 + 1) #[.int .i64 0, .int .i64 0, .int .i64 0, .int .i64 0] 23 := by rw [← hw1]; exact Blk.new' _ _ _ (by simp)
  have HM := Lib.hid hm
  have HX := Lib.hid hx
  clear hm hx
  go_enter Tryz.func19, Tryz.ntmps19
  go_wp2_with fail
  go_loopg [6] 3 (fun gk v6 wr => ∃ (i : Nat), i ≤ 3 ∧ gk = 3 - i ∧ v6 = .int .i64 (i : Int) ∧ Blk wr w.heap.size #[.int .i64 x.a, .int .i64 x.b, .int .i64 x.c, .int .i64 x.d] 22 ∧ Blk wr (w.heap.size + 1) #[.int .i64 0, .int .i64 0, .int .i64 0, .int .i64 0] 23 ∧ (∃ r : Nat → Int, Hid (∀ j, r j = if j < i then tameC (vg x j) most else 0) ∧ Blk wr (w.heap.size + 1 + 1) #[.int .i64 (r 0), .int .i64 (r 1), .int .i64 (r 2), .int .i64 (r 3)] 23) ∧ Below w.heap.size w wr)
  case atStart => exact ⟨0, by decide, rfl, rfl, k0, kR, ⟨fun _ => 0, fun j => rfl, kP⟩, hb1⟩
  case round =>
    clear k0 kR kP hb1 hw1
    obtain ⟨i, hi, hgk, rfl, k0, kR, ⟨r, HR, kP⟩, hb⟩ := hrel
    have HGK := Lib.hid hgk
    clear hgk
    by_cases hlt : i < 3
    · have hlti : (i : Int) < 3 := by omega
      have hlti4 : (i : Int) < 4 := by omega
      have hi4 : i < 4 := by omega
      have c0 := k0.vg hi4
      have f0 := kP.frozen i
      have d0 := int4_at kP hi4
      obtain ⟨v, hv⟩ : ∃ v, vg x i = v := ⟨_, rfl⟩
      have hvi := vg_in HX.out i
      rw [hv] at c0 hvi
      obtain ⟨u, hu⟩ : ∃ u, v % 18446744073709551616 = u := ⟨_, rfl⟩
      have u0 : 0 ≤ u := by omega
      have u1 : u < 18446744073709551616 := by omega
      obtain ⟨s, hs⟩ : ∃ s, u % (2 * most + 1) = s := ⟨_, rfl⟩
      have s0 : 0 ≤ s := by rw [← hs]; exact Int.emod_nonneg _ (by omega)
      have s1 : s < 2 * most + 1 := by rw [← hs]; exact Int.emod_lt_of_pos _ (by omega)
      have e1 : IntKind.u64.wrap v = u := by rw [IntKind.wrap_u64, hu]
      have e2 : wrap64 (2 * most) = 2 * most := by unfold wrap64; omega
      have e3 : wrap64 (2 * most + 1) = 2 * most + 1 := by unfold wrap64; omega
      have e4 : IntKind.u64.wrap (2 * most + 1) = 2 * most + 1 := by rw [IntKind.wrap_u64]; omega
      have e5 : u.tmod (2 * most + 1) = s := by rw [Int.tmod_eq_emod_of_nonneg u0]; exact hs
      have e6 : IntKind.u64.wrap s = s := by rw [IntKind.wrap_u64]; omega
      have e7 : wrap64 s = s := by unfold wrap64; omega
      have e8 : wrap64 (s - most) = s - most := by unfold wrap64; omega
      have e9 : ¬ (2 * most + 1 = 0) := by omega
      have ht : tameC (vg x i) most = s - most := by unfold tameC; rw [hv, hu, hs]
      have HT := Lib.hid ht
      clear ht hs hu hv hvi
      go_wp2_with fail
      go_roundg (3 - (i + 1))
      case measure => rw [HGK.out]; omega
      case rel =>
        refine ⟨i + 1, by omega, rfl, by go_num, k0.other (C := w.heap.size + 1 + 1) i _ (by omega), kR.other (C := w.heap.size + 1 + 1) i _ (by omega), ⟨fun j => if j = i then s - most else r j, ?_, kP.set_eq i _ (int4_set hi4 _)⟩, hb.setCell (by simp only; omega) _⟩
        intro j
        show (if j = i then s - most else r j) = if j < i + 1 then tameC (vg x j) most else 0
        by_cases hj : j = i
        · subst hj; rw [if_pos rfl, if_pos (by omega), HT.out]
        · rw [if_neg hj, HR.out j]
          by_cases h : j < i
          · rw [if_pos h, if_pos (by omega)]
          · rw [if_neg h, if_neg (by omega)]
    · obtain rfl : i = 3 := by omega
      have r0 : r 0 = tameC x.a most := HR.out 0
      have r1 : r 1 = tameC x.b most := HR.out 1
      have r2 : r 2 = tameC x.c most := HR.out 2
      have r3 : r 3 = 0 := HR.out 3
      rw [r0, r1, r2, r3] at kP
      have hA : tameA x most = if tameC x.a most = 0 ∧ tameC x.b most = 0 ∧ tameC x.c most = 0 then 1 else tameC x.a most := rfl
      have e0 : IntKind.u64.wrap x.d = x.d % 18446744073709551616 := by rw [IntKind.wrap_u64]
      obtain ⟨u, hu⟩ : ∃ u, x.d % 18446744073709551616 = u := ⟨_, rfl⟩
      have hD : tameD x = u % 41 - 20 := by unfold tameD; rw [hu]
      rw [hu] at e0
      have u0 : 0 ≤ u := by omega
      obtain ⟨s, hs⟩ : ∃ s, u % 41 = s := ⟨_, rfl⟩
      rw [hs] at hD
      have s0 : 0 ≤ s ∧ s < 41 := by omega
      have e5 : u.tmod 41 = s := by rw [Int.tmod_eq_emod_of_nonneg u0]; exact hs
      have e6 : IntKind.u64.wrap s = s := by rw [IntKind.wrap_u64]; omega
      have e7 : wrap64 s = s := by unfold wrap64; omega
      have e8 : wrap64 (s - 20) = s - 20 := by unfold wrap64; omega
      have HM2 := HM.out
      rw [hD] at HM2
      have HM := Lib.hid HM2
      obtain ⟨A, hAe⟩ : ∃ A, tameA x most = A := ⟨_, rfl⟩
      obtain ⟨a, ha⟩ : ∃ A, tameC x.a most = A := ⟨_, rfl⟩
      obtain ⟨b, hb'⟩ : ∃ A, tameC x.b most = A := ⟨_, rfl⟩
      obtain ⟨c, hc⟩ : ∃ A, tameC x.c most = A := ⟨_, rfl⟩
      have HM2 := HM.out
      rw [hAe, hb', hc] at HM2
      rw [hAe, ha, hb', hc] at hA
      rw [ha, hb', hc] at kP
      have HM := Lib.hid HM2
      clear HM2 hAe ha hb' hc hu hs hD r0 r1 r2 r3 HR
      go_upto_region 6 with fail
      go_cut [39] from 27 to 39 (fun v39 wx => v39 = .bool (decide (a = 0 ∧ b = 0 ∧ c = 0)) ∧ Hid (wr = wx))
      case first =>
        have d0 := kP.cell (i := 0) rfl
        have d1 := kP.cell (i := 1) rfl
        have d2 := kP.cell (i := 2) rfl
        by_cases ha : a = 0
        · have ha' : (a == 0) = true := by simp [ha]
          by_cases hb' : b = 0
          · have hb'' : (b == 0) = true := by simp [hb']
            by_cases hc : c = 0
            · have hc' : (c == 0) = true := by simp [hc]
              have HD : Hid (true = decide (a = 0 ∧ b = 0 ∧ c = 0)) := Lib.hid (by simp [ha, hb', hc])
              clear ha hb' hc
              go_wp2_with fail
              go_meet
              case rel => exact ⟨congrArg Value.bool HD.out, rfl⟩
            · have hc' : (c == 0) = false := by simp [hc]
              have HD : Hid (false = decide (a = 0 ∧ b = 0 ∧ c = 0)) := Lib.hid (by simp [hc])
              clear ha hb' hc
              go_wp2_with fail
              go_meet
              case rel => exact ⟨congrArg Value.bool HD.out, rfl⟩
          · have hb'' : (b == 0) = false := by simp [hb']
            have HD : Hid (false = decide (a = 0 ∧ b = 0 ∧ c = 0)) := Lib.hid (by simp [hb'])
            clear ha hb'
            go_wp2_with fail
            go_meet
            case rel => exact ⟨congrArg Value.bool HD.out, rfl⟩
        · have ha' : (a == 0) = false := by simp [ha]
          have HD : Hid (false = decide (a = 0 ∧ b = 0 ∧ c = 0)) := Lib.hid (by simp [ha])
          clear ha
          go_wp2_with fail
          go_meet
          case rel => exact ⟨congrArg Value.bool HD.out, rfl⟩
      case rest =>
      obtain ⟨rfl, hcut⟩ := hcut
      obtain rfl := hcut.out
      clear hcut
      by_cases hz : a = 0 ∧ b = 0 ∧ c = 0
      · rw [decide_eq_true hz]
        rw [if_pos hz] at hA
        subst hA
        obtain ⟨rfl, rfl, rfl⟩ := hz
        obtain ⟨w4, hw4⟩ : ∃ w', wr.setCell ⟨w.heap.size + 1 + 1, 0, none⟩ (.int .i64 1) = w' := ⟨_, rfl⟩
        have kP4 : Blk w4 (w.heap.size + 1 + 1) #[.int .i64 1, .int .i64 0, .int .i64 0, .int .i64 0] 23 := by rw [← hw4]; exact kP.set_eq 0 _ rfl
        have k04 : Blk w4 w.heap.size #[.int .i64 x.a, .int .i64 x.b, .int .i64 x.c, .int .i64 x.d] 22 := by rw [← hw4]; exact k0.other (C := w.heap.size + 1 + 1) 0 _ (by omega)
        have kR4 : Blk w4 (w.heap.size + 1) #[.int .i64 0, .int .i64 0, .int .i64 0, .int .i64 0] 23 := by rw [← hw4]; exact kR.other (C := w.heap.size + 1 + 1) 0 _ (by omega)
        have hb4 : Below w.heap.size w w4 := by rw [← hw4]; exact hb.setCell (by simp only; omega) _
        have g0 := kP.cell (i := 0) rfl
        have g1 := kP.frozen 0
        have e1 := k04.cell (i := 3) rfl
        have d0 := kP4.cell (i := 0) rfl
        have d1 := kP4.cell (i := 1) rfl
        have d2 := kP4.cell (i := 2) rfl
        go_wp2_with fail
        refine (HM.out _).mono ?_
        rintro e' w5 ⟨rfl, hb5⟩
        have kR := kR4.kept hb5
        have hb5' := (hb4).trans (hb5.mono (hb4).size)
        obtain ⟨w6, hw6⟩ : ∃ w6, w5.alloc (.cells #[.int .i64 0, .int .i64 0, .int .i64 0, .int .i64 0] 23) = w6 := ⟨_, rfl⟩
        have kQ : Blk w6 w5.heap.size #[.int .i64 0, .int .i64 0, .int .i64 0, .int .i64 0] 23 := by rw [← hw6]; exact Blk.new _ _ _
        have hlt5 : w.heap.size + 1 < w5.heap.size := kR.lt
        have kR : Blk w6 (w.heap.size + 1) #[.int .i64 0, .int .i64 0, .int .i64 0, .int .i64 0] 23 := by rw [← hw6]; exact kR.alloc _
        have hb6 : Below w.heap.size w w6 := by rw [← hw6]; exact hb5'.alloc hb5'.size _
        obtain ⟨w7, hw7⟩ : ∃ w8, ((((w6.setCell ⟨w5.heap.size, 0, none⟩ (.int .i64 T.a)).setCell ⟨w5.heap.size, 1, none⟩ (.int .i64 T.b)).setCell ⟨w5.heap.size, 2, none⟩ (.int .i64 T.c)).setCell ⟨w5.heap.size, 3, none⟩ (.int .i64 T.d)) = w8 := ⟨_, rfl⟩
        have kQ7 : Blk w7 w5.heap.size #[.int .i64 T.a, .int .i64 T.b, .int .i64 T.c, .int .i64 T.d] 23 := by rw [← hw7]; exact Blk.put4 kQ _ _ _ _
        have kR7 : Blk w7 (w.heap.size + 1) #[.int .i64 0, .int .i64 0, .int .i64 0, .int .i64 0] 23 := by rw [← hw7]; exact (((kR.other (C := w5.heap.size) 0 _ (by omega)).other (C := w5.heap.size) 1 _ (by omega)).other (C := w5.heap.size) 2 _ (by omega)).other (C := w5.heap.size) 3 _ (by omega)
        have hb7 : Below w.heap.size w w7 := by rw [← hw7]; exact (((hb6.setCell (by simp only; omega) _).setCell (by simp only; omega) _).setCell (by simp only; omega) _).setCell (by simp only; omega) _
        clear d0 d1 d2 e1
        have a0 := kQ.cell (i := 0) rfl
        have a1 := kQ.cell (i := 1) rfl
        have a2 := kQ.cell (i := 2) rfl
        have a3 := kQ.cell (i := 3) rfl
        have b0 := kQ.frozen 0
        have b1 := kQ.frozen 1
        have b2 := kQ.frozen 2
        have b3 := kQ.frozen 3
        have s0 := kQ7.cell (i := 0) rfl
        have s1 := kQ7.cell (i := 1) rfl
        have s2 := kQ7.cell (i := 2) rfl
        have s3 := kQ7.cell (i := 3) rfl
        have d0 := kR7.cell (i := 0) rfl
        have d1 := kR7.cell (i := 1) rfl
        have d2 := kR7.cell (i := 2) rfl
        have d3 := kR7.cell (i := 3) rfl
        have f0 := kR7.frozen 0
        have f1 := kR7.frozen 1
        have f2 := kR7.frozen 2
        have f3 := kR7.frozen 3
        go_wp2_with fail
        have L := Blk.put4 kR7 (.int .i64 T.a) (.int .i64 T.b) (.int .i64 T.c) (.int .i64 T.d)
        have y0 := L.cell (i := 0) rfl
        have y1 := L.cell (i := 1) rfl
        have y2 := L.cell (i := 2) rfl
        have y3 := L.cell (i := 3) rfl
        exact bodyPost_ret (v := .agg #[.int .i64 T.a, .int .i64 T.b, .int .i64 T.c, .int .i64 T.d]) (by simp [results, Tryz.results19, go_sem, y0, y1, y2, y3]) rfl ⟨rfl, (((hb7.setCell (by simp only; omega) _).setCell (by simp only; omega) _).setCell (by simp only; omega) _).setCell (by simp only; omega) _⟩
      · rw [decide_eq_false hz]
        rw [if_neg hz] at hA
        subst hA
        clear hz
        have e1 := k0.cell (i := 3) rfl
        have d0 := kP.cell (i := 0) rfl
        have d1 := kP.cell (i := 1) rfl
        have d2 := kP.cell (i := 2) rfl
        go_wp2_with fail
        refine (HM.out _).mono ?_
        rintro e' w5 ⟨rfl, hb5⟩
        have kR := kR.kept hb5
        have hb5' := (hb).trans (hb5.mono (hb).size)
        obtain ⟨w6, hw6⟩ : ∃ w6, w5.alloc (.cells #[.int .i64 0, .int .i64 0, .int .i64 0, .int .i64 0] 23) = w6 := ⟨_, rfl⟩
        have kQ : Blk w6 w5.heap.size #[.int .i64 0, .int .i64 0, .int .i64 0, .int .i64 0] 23 := by rw [← hw6]; exact Blk.new _ _ _
        have hlt5 : w.heap.size + 1 < w5.heap.size := kR.lt
        have kR : Blk w6 (w.heap.size + 1) #[.int .i64 0, .int .i64 0, .int .i64 0, .int .i64 0] 23 := by rw [← hw6]; exact kR.alloc _
        have hb6 : Below w.heap.size w w6 := by rw [← hw6]; exact hb5'.alloc hb5'.size _
        obtain ⟨w7, hw7⟩ : ∃ w8, ((((w6.setCell ⟨w5.heap.size, 0, none⟩ (.int .i64 T.a)).setCell ⟨w5.heap.size, 1, none⟩ (.int .i64 T.b)).setCell ⟨w5.heap.size, 2, none⟩ (.int .i64 T.c)).setCell ⟨w5.heap.size, 3, none⟩ (.int .i64 T.d)) = w8 := ⟨_, rfl⟩
        have kQ7 : Blk w7 w5.heap.size #[.int .i64 T.a, .int .i64 T.b, .int .i64 T.c, .int .i64 T.d] 23 := by rw [← hw7]; exact Blk.put4 kQ _ _ _ _
        have kR7 : Blk w7 (w.heap.size + 1) #[.int .i64 0, .int .i64 0, .int .i64 0, .int .i64 0] 23 := by rw [← hw7]; exact (((kR.other (C := w5.heap.size) 0 _ (by omega)).other (C := w5.heap.size) 1 _ (by omega)).other (C := w5.heap.size) 2 _ (by omega)).other (C := w5.heap.size) 3 _ (by omega)
        have hb7 : Below w.heap.size w w7 := by rw [← hw7]; exact (((hb6.setCell (by simp only; omega) _).setCell (by simp only; omega) _).setCell (by simp only; omega) _).setCell (by simp only; omega) _
        clear d0 d1 d2 e1
        have a0 := kQ.cell (i := 0) rfl
        have a1 := kQ.cell (i := 1) rfl
        have a2 := kQ.cell (i := 2) rfl
        have a3 := kQ.cell (i := 3) rfl
        have b0 := kQ.frozen 0
        have b1 := kQ.frozen 1
        have b2 := kQ.frozen 2
        have b3 := kQ.frozen 3
        have s0 := kQ7.cell (i := 0) rfl
        have s1 := kQ7.cell (i := 1) rfl
        have s2 := kQ7.cell (i := 2) rfl
        have s3 := kQ7.cell (i := 3) rfl
        have d0 := kR7.cell (i := 0) rfl
        have d1 := kR7.cell (i := 1) rfl
        have d2 := kR7.cell (i := 2) rfl
        have d3 := kR7.cell (i := 3) rfl
        have f0 := kR7.frozen 0
        have f1 := kR7.frozen 1
        have f2 := kR7.frozen 2
        have f3 := kR7.frozen 3
        go_wp2_with fail
        have L := Blk.put4 kR7 (.int .i64 T.a) (.int .i64 T.b) (.int .i64 T.c) (.int .i64 T.d)
        have y0 := L.cell (i := 0) rfl
        have y1 := L.cell (i := 1) rfl
        have y2 := L.cell (i := 2) rfl
        have y3 := L.cell (i := 3) rfl
        exact bodyPost_ret (v := .agg #[.int .i64 T.a, .int .i64 T.b, .int .i64 T.c, .int .i64 T.d]) (by simp [results, Tryz.results19, go_sem, y0, y1, y2, y3]) rfl ⟨rfl, (((hb7.setCell (by simp only; omega) _).setCell (by simp only; omega) _).setCell (by simp only; omega) _).setCell (by simp only; omega) _⟩

end Go.Proofs.YtimkeblcdodfmaaGreat

namespace Go.Proofs.YtimkeblcdodfmaaGreat
open Go.RowKit Go.Shelf
attribute [local go_sem] Oper.semAt_some

theorem gcd_le_of {a b : Int} {m : Nat} (ha : a.natAbs ≤ m) (hb : b.natAbs ≤ m) : Int.gcd a b ≤ m := by
  rcases Nat.eq_zero_or_pos a.natAbs with h | h
  · have : Int.gcd a b = b.natAbs := by unfold Int.gcd; rw [h, Nat.gcd_zero_left]
    omega
  · exact Nat.le_trans (Nat.le_of_dvd h (Nat.gcd_dvd_left a.natAbs b.natAbs)) ha
end Go.Proofs.YtimkeblcdodfmaaGreat

namespace Go.Proofs.YtimkeblcdodfmaaGreat

theorem g4_pos' {a b c d : Int} (h : 1 ≤ d) : 0 < g4 a b c d := by
  rcases Nat.eq_zero_or_pos (g4 a b c d) with h0 | h0
  · exfalso
    have := g4_dvd a b c d
    rw [h0] at this
    have := Int.zero_dvd.1 this.2.2.2
    omega
  · exact h0
theorem low4_g4' {a b c d : Int} (hp : 0 < g4 a b c d) : g4 (low4 a b c d a) (low4 a b c d b) (low4 a b c d c) (low4 a b c d d) = 1 := by
  have hm := low4_mul a b c d
  have hs := g4_scale (g4 a b c d) (low4 a b c d a) (low4 a b c d b) (low4 a b c d c) (low4 a b c d d)
  rw [Int.mul_comm, hm.1, Int.mul_comm, hm.2.1, Int.mul_comm, hm.2.2.1, Int.mul_comm, hm.2.2.2] at hs
  exact Nat.eq_of_mul_eq_mul_left hp (by omega)
theorem low4_le' {a b c d x : Int} (hp : 0 < g4 a b c d) (hx : low4 a b c d x * g4 a b c d = x) : (low4 a b c d x).natAbs ≤ x.natAbs := by
  have e : (low4 a b c d x).natAbs * g4 a b c d = x.natAbs := by rw [← congrArg Int.natAbs hx, Int.natAbs_mul, Int.natAbs_natCast]
  have := Nat.le_mul_of_pos_right (low4 a b c d x).natAbs hp
  omega

end Go.Proofs.YtimkeblcdodfmaaGreat

namespace Go.Proofs.YtimkeblcdodfmaaGreat
open Go.RowKit
variable {P : Program} {Q : Exit → Act → World → Prop}

theorem yielded_of {ops : Array Oper} {t : Array Value} {oj : Oper} {j d : Nat} {b : Bool} (hj : ops[j]? = some oj) (hd : oj.dst = some d) (ht : t[d]? = some (.bool b)) : yielded ops t j = some b := by
  unfold yielded
  rw [hj]
  simp [hd, ht]
theorem wanted_of {ops : Array Oper} {t : Array Value} {o oj : Oper} {j d : Nat} {b : Bool} (hg : o.guard = some (j, b)) (hj : ops[j]? = some oj) (hd : oj.dst = some d) (ht : t[d]? = some (.bool b)) : Region.wanted o (yielded ops t) = true := by
  unfold Region.wanted
  rw [hg]
  simp [yielded_of hj hd ht]
theorem unwanted_of {ops : Array Oper} {t : Array Value} {o oj : Oper} {j d : Nat} {b : Bool} (hg : o.guard = some (j, !b)) (hj : ops[j]? = some oj) (hd : oj.dst = some d) (ht : t[d]? = some (.bool b)) : Region.wanted o (yielded ops t) = false := by
  unfold Region.wanted
  rw [hg]
  simp [yielded_of hj hd ht]

/-- An operation whose guard lets it be done. -/
theorem wpOp_on {ops : Array Oper} {i : Nat} {o : Oper} {K : Act → World → Prop} {a : Act} {w : World} (ho : ops[i]? = some o) (hw : Region.wanted o (yielded ops a.tmps) = true) (h : wpList P #[] (fun e a w => (e = .normal → K a w) ∧ (e ≠ .normal → Q e a w)) [{ o with guard := none }] a w) : wpOp P ops Q i K a w := by
  refine wpOp_list ho ?_
  unfold wpList at h ⊢
  rw [if_pos hw]
  rw [if_pos (show Region.wanted { o with guard := none } (yielded #[] a.tmps) = true from rfl)] at h
  exact h
/-- One that is not done. -/
theorem wpOp_off {ops : Array Oper} {i : Nat} {o : Oper} {K : Act → World → Prop} {a : Act} {w : World} (ho : ops[i]? = some o) (hw : Region.wanted o (yielded ops a.tmps) = false) (h : K (a.put o.dst undef) w) : wpOp P ops Q i K a w := by
  unfold wpOp
  rw [ho]
  simp only [hw]
  exact h

end Go.Proofs.YtimkeblcdodfmaaGreat

namespace Go.Proofs.YtimkeblcdodfmaaGreat
open Go.RowKit Go.Shelf
attribute [local go_sem] Oper.semAt_some

def zeroN (x : V4) : Prop := x.a = 0 ∧ x.b = 0 ∧ x.c = 0
instance (x : V4) : Decidable (zeroN x) := by unfold zeroN; infer_instance
def makeQ (x : V4) : Prop := MakeOk x.a x.b x.c x.d
instance (x : V4) : Decidable (makeQ x) := by unfold makeQ; infer_instance
end Go.Proofs.YtimkeblcdodfmaaGreat

namespace Go.Proofs.YtimkeblcdodfmaaGreat
open Go.RowKit Go.Shelf
attribute [local go_sem] Oper.semAt_some

theorem eqVec0 (x y z : Int) (w : World) : (Op.equalIn 10000 24 (.agg #[.int .i64 x, .int .i64 y, .int .i64 z]) (.agg #[.int .i64 0, .int .i64 0, .int .i64 0])).run Tryz.prog w = .ok (decide (x = 0) && (decide (y = 0) && decide (z = 0))) w := by
  have u3 := Tryz.underlying2
  have a3 := Tryz.isAgg2
  have z3 := Tryz.sizeOf2
  rw [show (10000 : Nat) = 9999 + 1 from rfl, Op.equalIn]
  simp only [Sem.run_bind, run_underlying Tryz.underlying24, Result.andThen_ok]
  simp only [Std.Legacy.Range.forIn_eq_forIn_range', Std.Legacy.Range.size, Nat.sub_zero, Nat.add_sub_cancel, Nat.div_one, List.range'_succ, List.range'_zero, List.forIn_cons, List.forIn_nil]
  go_simp
  by_cases h1 : x = 0 <;> by_cases h2 : y = 0 <;> by_cases h3 : z = 0 <;> simp [h1, h2, h3]
set_option maxRecDepth 100000 in
set_option maxHeartbeats 8000000 in
theorem parallel3_any (p q : V4) (w : World) (hp : RightQ p) (hq : RightQ q) :
    Calls Tryz.prog 24 #[.agg #[.int .i64 p.a, .int .i64 p.b, .int .i64 p.c, .int .i64 p.d], .agg #[.int .i64 q.a, .int .i64 q.b, .int .i64 q.c, .int .i64 q.d]] w fun e w' => e = .returned (.bool (parB p.a p.b p.c q.a q.b q.c)) ∧ Below w.heap.size w w' := by
  have HNP := Lib.hid (fun W => normal3_any p.a p.b p.c p.d W)
  have HNQ := Lib.hid (fun W => normal3_any q.a q.b q.c q.d W)
  have hcr := fun W => cross3_any p.a p.b p.c q.a q.b q.c W hp.2.1 hp.2.2.1 hp.2.2.2.1 hq.2.1 hq.2.2.1 hq.2.2.2.1
  have hB : parB p.a p.b p.c q.a q.b q.c = (decide (p.b * q.c - p.c * q.b = 0) && (decide (p.c * q.a - p.a * q.c = 0) && decide (p.a * q.b - p.b * q.a = 0))) := by
    unfold parB
    rw [decide_eq_decide.2 (show p.b * q.c = p.c * q.b ↔ p.b * q.c - p.c * q.b = 0 by omega), decide_eq_decide.2 (show p.c * q.a = p.a * q.c ↔ p.c * q.a - p.a * q.c = 0 by omega), decide_eq_decide.2 (show p.a * q.b = p.b * q.a ↔ p.a * q.b - p.b * q.a = 0 by omega)]
  rw [hB]
  obtain ⟨u0, h0⟩ : ∃ u, p.b * q.c - p.c * q.b = u := ⟨_, rfl⟩
  obtain ⟨u1, h1⟩ : ∃ u, p.c * q.a - p.a * q.c = u := ⟨_, rfl⟩
  obtain ⟨u2, h2⟩ : ∃ u, p.a * q.b - p.b * q.a = u := ⟨_, rfl⟩
  rw [h0, h1, h2] at hcr
  rw [h0, h1, h2]
  have heq := fun W => eqVec0 u0 u1 u2 W
  obtain ⟨B, hBB⟩ : ∃ B, (decide (u0 = 0) && (decide (u1 = 0) && decide (u2 = 0))) = B := ⟨_, rfl⟩
  rw [hBB] at heq ⊢
  have HCR := Lib.hid hcr
  clear hcr hB h0 h1 h2 hBB hp hq
  obtain ⟨w1, hw1⟩ : ∃ w1, ((w.alloc (.cells #[.int .i64 p.a, .int .i64 p.b, .int .i64 p.c, .int .i64 p.d] 23)).alloc (.cells #[.int .i64 q.a, .int .i64 q.b, .int .i64 q.c, .int .i64 q.d] 23)) = w1 := ⟨_, rfl⟩
  have hb1 : Below w.heap.size w w1 := by rw [← hw1]; exact bw2 w _ _
  have k0 : Blk w1 w.heap.size #[.int .i64 p.a, .int .i64 p.b, .int .i64 p.c, .int .i64 p.d] 23 := by rw [← hw1]; exact (Blk.new w _ _).alloc _
  have k1 : Blk w1 (w.heap.size + 1) #[.int .i64 q.a, .int .i64 q.b, .int .i64 q.c, .int .i64 q.d] 23 := by rw [← hw1]; exact Blk.new' _ _ _ (by simp)
  go_enter Tryz.func24, Tryz.ntmps24
  go_upto_region 1 with fail
  go_cut [4] from 5 to 11 (fun v4 wx => v4 = .bool B ∧ Below w1.heap.size w1 wx)
  case first =>
    refine wp_region_pure' (fun ix => match ix with | 0 => .agg #[.int .i64 p.a, .int .i64 p.b, .int .i64 p.c, .int .i64 p.d] | 1 => .agg #[.int .i64 p.a, .int .i64 p.b, .int .i64 p.c] | 2 => .agg #[.int .i64 q.a, .int .i64 q.b, .int .i64 q.c, .int .i64 q.d] | 3 => .agg #[.int .i64 q.a, .int .i64 q.b, .int .i64 q.c] | 4 => .agg #[.int .i64 u0, .int .i64 u1, .int .i64 u2] | 5 => .agg #[.int .i64 0, .int .i64 0, .int .i64 0] | 6 => .bool B | _ => .bool B) (by kernel_rfl) (by kernel_rfl) ?_ ?_
    · rintro ix hx f ww hS hd
      have ka := k0.kept hS
      have kb := k1.kept hS
      have a0_ := ka.cell (i := 0) rfl
      have a1_ := ka.cell (i := 1) rfl
      have a2_ := ka.cell (i := 2) rfl
      have a3_ := ka.cell (i := 3) rfl
      have b0_ := kb.cell (i := 0) rfl
      have b1_ := kb.cell (i := 1) rfl
      have b2_ := kb.cell (i := 2) rfl
      have b3_ := kb.cell (i := 3) rfl
      rcases ix with _ | _ | _ | _ | _ | _ | _ | _ | ix
      · refine wpOp_list rfl ?_
        simp only [tmOf, putAll, List.map_cons, List.map_nil, List.setIfInBounds_toArray, List.set_cons_zero, List.set_cons_succ]
        go_wp2
        simp [upd, Below.refl]
      · have g0 : f 0 = .agg #[.int .i64 p.a, .int .i64 p.b, .int .i64 p.c, .int .i64 p.d] := hd 0 (by kernel_rfl)
        refine wpOp_list rfl ?_
        simp only [tmOf, putAll, List.map_cons, List.map_nil, List.setIfInBounds_toArray, List.set_cons_zero, List.set_cons_succ]
        go_wp2_with fail
        refine (HNP.out _).mono ?_
        rintro e' wf ⟨rfl, hbf⟩
        go_wp2_with fail
        simp [upd, g0, hbf]
      · refine wpOp_list rfl ?_
        simp only [tmOf, putAll, List.map_cons, List.map_nil, List.setIfInBounds_toArray, List.set_cons_zero, List.set_cons_succ]
        go_wp2
        simp [upd, Below.refl]
      · have g2 : f 2 = .agg #[.int .i64 q.a, .int .i64 q.b, .int .i64 q.c, .int .i64 q.d] := hd 2 (by kernel_rfl)
        refine wpOp_list rfl ?_
        simp only [tmOf, putAll, List.map_cons, List.map_nil, List.setIfInBounds_toArray, List.set_cons_zero, List.set_cons_succ]
        go_wp2_with fail
        refine (HNQ.out _).mono ?_
        rintro e' wf ⟨rfl, hbf⟩
        go_wp2_with fail
        simp [upd, g2, hbf]
      · have g1 : f 1 = .agg #[.int .i64 p.a, .int .i64 p.b, .int .i64 p.c] := hd 1 (by kernel_rfl)
        have g3 : f 3 = .agg #[.int .i64 q.a, .int .i64 q.b, .int .i64 q.c] := hd 3 (by kernel_rfl)
        refine wpOp_list rfl ?_
        simp only [tmOf, putAll, List.map_cons, List.map_nil, List.setIfInBounds_toArray, List.set_cons_zero, List.set_cons_succ]
        go_wp2_with fail
        refine (HCR.out _).mono ?_
        rintro e' wf ⟨rfl, hbf⟩
        go_wp2_with fail
        simp [upd, g1, g3, hbf]
      · refine wpOp_list rfl ?_
        simp only [tmOf, putAll, List.map_cons, List.map_nil, List.setIfInBounds_toArray, List.set_cons_zero, List.set_cons_succ]
        go_wp2
        simp [upd, Below.refl]
      · have g4 : f 4 = .agg #[.int .i64 u0, .int .i64 u1, .int .i64 u2] := hd 4 (by kernel_rfl)
        have g5 : f 5 = .agg #[.int .i64 0, .int .i64 0, .int .i64 0] := hd 5 (by kernel_rfl)
        refine wpOp_list rfl ?_
        simp only [tmOf, putAll, List.map_cons, List.map_nil, List.setIfInBounds_toArray, List.set_cons_zero, List.set_cons_succ]
        go_wp2
        simp [upd, g4, g5, Below.refl]
      · have g6 : f 6 = .bool B := hd 6 (by kernel_rfl)
        refine wpOp_list rfl ?_
        simp only [tmOf, putAll, List.map_cons, List.map_nil, List.setIfInBounds_toArray, List.set_cons_zero, List.set_cons_succ]
        go_wp2
        simp [upd, g6, Below.refl]
      · simp only [List.length_cons, List.length_nil] at hx; omega
    · rintro f ww hS hd
      have g7 : f 7 = .bool B := hd 7 (by decide)
      simp only [tmOf, putAll, List.map_cons, List.map_nil, List.setIfInBounds_toArray, List.set_cons_zero, List.set_cons_succ]
      refine ‹∀ (a' : Act) (w' : World), Met _ a' w' → _› _ _ ?_
      go_meet
      case rel => exact ⟨g7, hS⟩
  case rest =>
  obtain ⟨rfl, hb2⟩ := hcut
  go_wp2_with fail
  go_ret
  exact ⟨rfl, hb1.trans (hb2.mono hb1.size)⟩

end Go.Proofs.YtimkeblcdodfmaaGreat

namespace Go.Proofs.YtimkeblcdodfmaaGreat
open Go.RowKit

theorem gV_pos {v : V3} (h : v ≠ ⟨0, 0, 0⟩) : 0 < gV v := by
  rcases Nat.eq_zero_or_pos (gV v) with h0 | h0
  · exfalso
    apply h
    unfold gV at h0
    obtain ⟨h1, h2⟩ := Nat.gcd_eq_zero_iff.1 h0
    obtain ⟨h3, h4⟩ := Nat.gcd_eq_zero_iff.1 h1
    obtain ⟨a, b, c⟩ := v
    simp only at h2 h3 h4
    simp only [V3.mk.injEq]
    omega
  · exact h0
theorem lineE3_of {p q r : V4} (hr : RightQ r) : lineE3 p q r = lineE p q := by
  unfold lineE3 lineE
  by_cases h : RightQ p ∧ RightQ q
  · rw [if_pos h, if_pos ⟨h.1, h.2, hr⟩]
  · rw [if_neg h, if_neg (fun hc => h ⟨hc.1, hc.2.1⟩)]
/-- Lines of right planes have no error just if the planes are not parallel. -/
theorem lineE_right {p q : V4} (hp : RightQ p) (hq : RightQ q) : lineE p q = (if parB p.a p.b p.c q.a q.b q.c = true then 4 else 0) := by
  unfold lineE
  rw [if_pos ⟨hp, hq⟩]
  have e : decide (crsV (nrm p) (nrm q) ≠ ⟨0, 0, 0⟩) = !parB p.a p.b p.c q.a q.b q.c := by
    unfold crsV nrm parB
    rw [Bool.eq_iff_iff]
    simp only [decide_eq_true_eq, Bool.not_eq_true', Bool.and_eq_false_iff, decide_eq_false_iff_not, ne_eq, V3.mk.injEq]
    constructor
    · intro h
      by_cases h1 : p.b * q.c = p.c * q.b
      · by_cases h2 : p.c * q.a = p.a * q.c
        · exact .inr (.inr (fun h3 => h ⟨by omega, by omega, by omega⟩))
        · exact .inr (.inl h2)
      · exact .inl h1
    · intro h ⟨h1, h2, h3⟩
      rcases h with h | h | h
      · exact h (by omega)
      · exact h (by omega)
      · exact h (by omega)
  rw [e]
  cases parB p.a p.b p.c q.a q.b q.c <;> rfl

end Go.Proofs.YtimkeblcdodfmaaGreat

namespace Go.Proofs.YtimkeblcdodfmaaGreat
open Go.RowKit Go.Shelf
attribute [local go_sem] Oper.semAt_some

set_option maxRecDepth 100000 in
set_option maxHeartbeats 2000000 in
theorem ptCheck_any (a b c d : Int) (w : World) (ha : InI64 a) (hb : InI64 b) (hc : InI64 c) (hd : InI64 d) :
    Calls Tryz.prog 150 #[.agg #[.int .i64 a, .int .i64 b, .int .i64 c, .int .i64 d]] w fun e w' => e = .returned (.int .i64 (errE (decide (SoundP a b c d)) 40)) ∧ Below w.heap.size w w' := by
  obtain ⟨w1, hw1⟩ : ∃ w1, w.alloc (.cells #[.int .i64 a, .int .i64 b, .int .i64 c, .int .i64 d] 41) = w1 := ⟨_, rfl⟩
  have hb1 : Below w.heap.size w w1 := by rw [← hw1]; exact (Below.refl _ w).alloc (Nat.le_refl _) _
  have k0 : Blk w1 w.heap.size #[.int .i64 a, .int .i64 b, .int .i64 c, .int .i64 d] 41 := by rw [← hw1]; exact Blk.new _ _ _
  have c0 := k0.cell (i := 0) rfl
  have c1 := k0.cell (i := 1) rfl
  have c2 := k0.cell (i := 2) rfl
  have c3 := k0.cell (i := 3) rfl
  obtain ⟨w2, hw2⟩ : ∃ w2, w1.alloc (.cells #[.int .i64 a, .int .i64 b, .int .i64 c, .int .i64 d] 41) = w2 := ⟨_, rfl⟩
  have hr2 : RdV w2 (some ⟨w1.heap.size, 0, none⟩) [⟨a, b, c, d⟩] := by rw [← hw2]; exact planes1 w1 a b c d _
  have hb2 : Below w.heap.size w w2 := by rw [← hw2]; exact hb1.alloc hb1.size _
  have hp := points_any (some ⟨w1.heap.size, 0, none⟩) 1 1 [⟨a, b, c, d⟩] w2 rfl (by decide) hr2 (by intro q hq; rw [List.mem_singleton.1 hq]; exact ⟨ha, hb, hc, hd⟩)
  have hall : ([⟨a, b, c, d⟩] : List V4).all (fun q => decide (SoundP q.a q.b q.c q.d)) = decide (SoundP a b c d) := by simp
  rw [hall] at hp
  obtain ⟨r, hr⟩ : ∃ r, errE (decide (SoundP a b c d)) 40 = r := ⟨_, rfl⟩
  rw [hr] at hp ⊢
  have HP := Lib.hid hp
  clear hp hall hr hr2 ha hb hc hd
  go_enter Tryz.func150, Tryz.ntmps150
  go_wp2_with fail
  refine HP.out.mono ?_
  rintro e w3 ⟨v, rfl, hv, hb3⟩
  have hb3' := hb2.trans (hb3.mono hb2.size)
  obtain ⟨g, caps, rfl, _⟩ := id hv
  obtain ⟨w4, hw4⟩ : ∃ w4, w3.alloc (.cells #[.func (.func g) #[] caps] 82) = w4 := ⟨_, rfl⟩
  have hr4 : RdC w4 (some ⟨w3.heap.size, 0, none⟩) [r] := by rw [← hw4]; exact checks1 w3 _ r _ hv
  have hb4 : Below w.heap.size w w4 := by rw [← hw4]; exact hb3'.alloc hb3'.size _
  have hf := first_any (some ⟨w3.heap.size, 0, none⟩) 1 1 [r] w4 rfl (by decide) hr4
  rw [firstE_one] at hf
  have HF := Lib.hid hf
  clear hf hr4 hv
  go_wp2_with fail
  refine HF.out.mono ?_
  rintro e w5 ⟨rfl, hb5⟩
  go_wp2_with fail
  go_ret
  exact ⟨rfl, hb4.trans (hb5.mono hb4.size)⟩

/-- A right point, or none and ErrLarge. -/
def smallV (q : V4) : V4 := if SoundQ q then q else ⟨0, 0, 0, 0⟩
def smallE (q : V4) : Int := if SoundQ q then 0 else 2

set_option maxRecDepth 100000 in
set_option maxHeartbeats 4000000 in
theorem small_any (q : V4) (w : World) (hq : InV q) :
    Calls Tryz.prog 132 #[.agg #[.int .i64 q.a, .int .i64 q.b, .int .i64 q.c, .int .i64 q.d]] w fun e w' => e = .returned (.tuple #[.agg #[.int .i64 (smallV q).a, .int .i64 (smallV q).b, .int .i64 (smallV q).c, .int .i64 (smallV q).d], .int .i64 (smallE q)]) ∧ Below w.heap.size w w' := by
  obtain ⟨w1, hw1⟩ : ∃ w1, ((w.alloc (.cells #[.int .i64 q.a, .int .i64 q.b, .int .i64 q.c, .int .i64 q.d] 41)).alloc (.cells #[.int .i64 0, .int .i64 0, .int .i64 0, .int .i64 0] 41)) = w1 := ⟨_, rfl⟩
  have hb1 : Below w.heap.size w w1 := by rw [← hw1]; exact bw2 w _ _
  have k0 : Blk w1 (w.heap.size) #[.int .i64 q.a, .int .i64 q.b, .int .i64 q.c, .int .i64 q.d] 41 := by rw [← hw1]; exact ((Blk.new w _ _).alloc _)
  have kR : Blk w1 (w.heap.size + 1) #[.int .i64 0, .int .i64 0, .int .i64 0, .int .i64 0] 41 := by rw [← hw1]; exact (Blk.new' _ _ _ (by simp))
  have hc := fun W => ptCheck_any q.a q.b q.c q.d W hq.1 hq.2.1 hq.2.2.1 hq.2.2.2
  have hv : Value.tuple #[.agg #[.int .i64 (smallV q).a, .int .i64 (smallV q).b, .int .i64 (smallV q).c, .int .i64 (smallV q).d], .int .i64 (smallE q)] = if SoundQ q then .tuple #[.agg #[.int .i64 q.a, .int .i64 q.b, .int .i64 q.c, .int .i64 q.d], .int .i64 0] else .tuple #[.agg #[.int .i64 0, .int .i64 0, .int .i64 0, .int .i64 0], .int .i64 2] := by
    unfold smallV smallE; by_cases h : SoundQ q
    · rw [if_pos h, if_pos h, if_pos h]
    · rw [if_neg h, if_neg h, if_neg h]
  obtain ⟨V, hV⟩ : ∃ y, Value.tuple #[.agg #[.int .i64 (smallV q).a, .int .i64 (smallV q).b, .int .i64 (smallV q).c, .int .i64 (smallV q).d], .int .i64 (smallE q)] = y := ⟨_, rfl⟩
  rw [hV] at hv ⊢
  clear hV
  have c0 := k0.cell (i := 0) rfl
  have c1 := k0.cell (i := 1) rfl
  have c2 := k0.cell (i := 2) rfl
  have c3 := k0.cell (i := 3) rfl
  by_cases h : SoundQ q
  · rw [if_pos h] at hv
    rw [show decide (SoundP q.a q.b q.c q.d) = true from decide_eq_true h] at hc
    have HV := Lib.hid hv
    have HC := Lib.hid hc
    clear hv hc h hq
    go_enter Tryz.func132, Tryz.ntmps132
    go_wp2_with fail
    refine (HC.out _).mono ?_
    rintro e' wa ⟨rfl, hba⟩
    have hb := hb1.trans (hba.mono hb1.size)
    have k0 := k0.kept hba
    have kR := kR.kept hba
    have c0 := k0.cell (i := 0) rfl
    have c1 := k0.cell (i := 1) rfl
    have c2 := k0.cell (i := 2) rfl
    have c3 := k0.cell (i := 3) rfl
    have d0 := kR.cell (i := 0) rfl
    have q0 := kR.frozen 0
    have d1 := kR.cell (i := 1) rfl
    have q1 := kR.frozen 1
    have d2 := kR.cell (i := 2) rfl
    have q2 := kR.frozen 2
    have d3 := kR.cell (i := 3) rfl
    have q3 := kR.frozen 3
    go_wp2_with fail
    have L := Blk.put4 kR (.int .i64 q.a) (.int .i64 q.b) (.int .i64 q.c) (.int .i64 q.d)
    have z0 := L.cell (i := 0) rfl
    have z1 := L.cell (i := 1) rfl
    have z2 := L.cell (i := 2) rfl
    have z3 := L.cell (i := 3) rfl
    exact bodyPost_ret (v := .tuple #[.agg #[.int .i64 q.a, .int .i64 q.b, .int .i64 q.c, .int .i64 q.d], .int .i64 0]) (by simp [results, Tryz.results132, go_sem, z0, z1, z2, z3]) rfl ⟨by rw [HV.out], (((hb.setCell (by simp only; omega) _).setCell (by simp only; omega) _).setCell (by simp only; omega) _).setCell (by simp only; omega) _⟩
  · rw [if_neg h] at hv
    rw [show decide (SoundP q.a q.b q.c q.d) = false from decide_eq_false h] at hc
    have HV := Lib.hid hv
    have HC := Lib.hid hc
    clear hv hc h hq
    go_enter Tryz.func132, Tryz.ntmps132
    go_wp2_with fail
    refine (HC.out _).mono ?_
    rintro e' wa ⟨rfl, hba⟩
    have hb := hb1.trans (hba.mono hb1.size)
    have kR := kR.kept hba
    have d0 := kR.cell (i := 0) rfl
    have q0 := kR.frozen 0
    have d1 := kR.cell (i := 1) rfl
    have q1 := kR.frozen 1
    have d2 := kR.cell (i := 2) rfl
    have q2 := kR.frozen 2
    have d3 := kR.cell (i := 3) rfl
    have q3 := kR.frozen 3
    go_wp2_with fail
    have L := Blk.put4 kR (.int .i64 0) (.int .i64 0) (.int .i64 0) (.int .i64 0)
    have z0 := L.cell (i := 0) rfl
    have z1 := L.cell (i := 1) rfl
    have z2 := L.cell (i := 2) rfl
    have z3 := L.cell (i := 3) rfl
    exact bodyPost_ret (v := .tuple #[.agg #[.int .i64 0, .int .i64 0, .int .i64 0, .int .i64 0], .int .i64 2]) (by simp [results, Tryz.results132, go_sem, z0, z1, z2, z3]) rfl ⟨by rw [HV.out], (((hb.setCell (by simp only; omega) _).setCell (by simp only; omega) _).setCell (by simp only; omega) _).setCell (by simp only; omega) _⟩

end Go.Proofs.YtimkeblcdodfmaaGreat
