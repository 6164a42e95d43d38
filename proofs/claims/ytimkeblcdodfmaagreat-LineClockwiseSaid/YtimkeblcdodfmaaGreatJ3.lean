/-
  LineAngles, its walk; Planes, points and vectors among the arguments, as the walks read them; LineAngles: for every plane's numbers and every two vectors the law returns true, and the arguments read as they did. No condition.
-/
import Derived.Sort.Grow
import Derived.Shelf.SlSortCmp.WholeK
import Derived.Test.YtimkeblcdodfmaaGreatProg
import Derived.ChangeKeysEq
import Derived.Lib.ItoaLen
import Derived.Deep.RegionHeld3
import Derived.Shelf.SlSortCmp.NoneTotal
import Derived.RangeFuncNested
import Derived.Test.YtimkeblcdodfmaaGreatRows
import Derived.ProofKit
import Derived.Laws.IdiomArrays
import Derived.Deep.Slices
import Derived.Test.YtimkeblcdodfmaaGreatK1
import Derived.Test.YtimkeblcdodfmaaGreatK2
import Derived.Test.YtimkeblcdodfmaaGreatK3
import Derived.Test.YtimkeblcdodfmaaGreatK4
import Derived.Test.YtimkeblcdodfmaaGreatK5
import Derived.Test.YtimkeblcdodfmaaGreatK6
import Derived.Test.YtimkeblcdodfmaaGreatK7
import Derived.Test.YtimkeblcdodfmaaGreatK8
import Derived.Test.YtimkeblcdodfmaaGreatK9
import Derived.Test.YtimkeblcdodfmaaGreatK10
import Derived.Test.YtimkeblcdodfmaaGreatK11
import Derived.Test.YtimkeblcdodfmaaGreatK12
import Derived.Test.YtimkeblcdodfmaaGreatK13
import Derived.Test.YtimkeblcdodfmaaGreatK14
import Derived.Test.YtimkeblcdodfmaaGreatK15
import Derived.Test.YtimkeblcdodfmaaGreatK16
import Derived.Test.YtimkeblcdodfmaaGreatK17
import Derived.Test.YtimkeblcdodfmaaGreatK18
import Derived.Test.YtimkeblcdodfmaaGreatK19
import Derived.Test.YtimkeblcdodfmaaGreatK20
import Derived.Test.YtimkeblcdodfmaaGreatK21
import Derived.Test.YtimkeblcdodfmaaGreatK22
import Derived.Test.YtimkeblcdodfmaaGreatK23
import Derived.Test.YtimkeblcdodfmaaGreatK24
import Derived.Test.YtimkeblcdodfmaaGreatK25
import Derived.Test.YtimkeblcdodfmaaGreatJ1
import Derived.Test.YtimkeblcdodfmaaGreatJ2
namespace Go.Proofs.YtimkeblcdodfmaaGreat
open Go.RowKit Go.Shelf
attribute [local go_sem] Oper.semAt_some

theorem wayE_bad {p : V4} (l : List V3) (h : ¬ RightQ p) : wayE p l = 30 := by unfold wayE; rw [if_neg h]
theorem wayE_out {p : V4} {l : List V3} (h : RightQ p) (hl : l.all (isInB p) = false) : wayE p l = 1 := by unfold wayE; rw [if_pos h, hl]; rfl
theorem wayE_in {p : V4} {l : List V3} (h : RightQ p) (hl : l.all (isInB p) = true) : wayE p l = 0 := by unfold wayE; rw [if_pos h, hl]; rfl
/-- What the law asks of the error and the angle. -/
theorem ang_cases (p : V4) (u v : V3) : ∃ (D bu bv : Bool) (E A : Int), decide (RightQ p) = D ∧ isInB p u = bu ∧ isInB p v = bv ∧ wayE p [u, v] = E ∧ angS p u v = A ∧
    ((D = false ∧ E = 30 ∧ A = 0) ∨ (D = true ∧ bu = false ∧ E = 1 ∧ A = 0) ∨ (D = true ∧ bu = true ∧ bv = false ∧ E = 1 ∧ A = 0) ∨ (D = true ∧ bu = true ∧ bv = true ∧ E = 0 ∧ (∀ W, Calls Tryz.prog 38 #[.agg #[.int .i64 p.a, .int .i64 p.b, .int .i64 p.c, .int .i64 p.d], .agg #[.int .i64 u.a, .int .i64 u.b, .int .i64 u.c], .agg #[.int .i64 v.a, .int .i64 v.b, .int .i64 v.c]] W fun e w' => e = .returned (.int .i64 A) ∧ Below W.heap.size W w'))) := by
  refine ⟨_, _, _, _, _, rfl, rfl, rfl, rfl, rfl, ?_⟩
  by_cases h : RightQ p
  · right
    cases hu : isInB p u with
    | false =>
      left
      have he : wayE p [u, v] = 1 := wayE_out h (by simp [hu])
      exact ⟨decide_eq_true h, rfl, he, by unfold angS; rw [he, if_neg (by decide)]⟩
    | true =>
      right
      cases hv : isInB p v with
      | false =>
        left
        have he : wayE p [u, v] = 1 := wayE_out h (by simp [hu, hv])
        exact ⟨decide_eq_true h, rfl, rfl, he, by unfold angS; rw [he, if_neg (by decide)]⟩
      | true =>
        right
        have he : wayE p [u, v] = 0 := wayE_in h (by simp [hu, hv])
        refine ⟨decide_eq_true h, rfl, rfl, he, fun W => ?_⟩
        have ha : angS p u v = angR (nrm p) u v := by unfold angS; rw [he, if_pos rfl, angR_eq h hu hv]
        rw [ha]
        exact angR_any p u v W (nrm_far h) (isInB_far hu) (isInB_far hv)
  · left
    have he := wayE_bad [u, v] h
    exact ⟨decide_eq_false h, he, by unfold angS; rw [he, if_neg (by decide)]⟩

set_option maxRecDepth 100000 in
set_option maxHeartbeats 8000000 in
theorem lineAngles_walk (p : V4) (u v : V3) (w : World) (hp : InV p) (hu : In3 u) (hv : In3 v) :
    Calls Tryz.prog 6 #[.agg #[.int .i64 p.a, .int .i64 p.b, .int .i64 p.c, .int .i64 p.d], .agg #[.int .i64 u.a, .int .i64 u.b, .int .i64 u.c], .agg #[.int .i64 v.a, .int .i64 v.b, .int .i64 v.c]] w fun e w' => e = .returned (.bool true) ∧ Below w.heap.size w w' := by
  obtain ⟨w1, hw1⟩ : ∃ w1, (((w.alloc (.cells #[.int .i64 p.a, .int .i64 p.b, .int .i64 p.c, .int .i64 p.d] 23)).alloc (.cells #[.int .i64 u.a, .int .i64 u.b, .int .i64 u.c] 24)).alloc (.cells #[.int .i64 v.a, .int .i64 v.b, .int .i64 v.c] 24)) = w1 := ⟨_, rfl⟩
  have hb1 : Below w.heap.size w w1 := by rw [← hw1]; exact bw3 w _ _ _
  have k0 : Blk w1 (w.heap.size) #[.int .i64 p.a, .int .i64 p.b, .int .i64 p.c, .int .i64 p.d] 23 := by rw [← hw1]; exact (((Blk.new w _ _).alloc _).alloc _)
  have k1 : Blk w1 (w.heap.size + 1) #[.int .i64 u.a, .int .i64 u.b, .int .i64 u.c] 24 := by rw [← hw1]; exact ((Blk.new' _ _ _ (by simp)).alloc _)
  have k2 : Blk w1 (w.heap.size + 1 + 1) #[.int .i64 v.a, .int .i64 v.b, .int .i64 v.c] 24 := by rw [← hw1]; exact (Blk.new' _ _ _ (by simp))
  go_enter Tryz.func6, Tryz.ntmps6
  go_wp2_with fail
  go_loopg [7] 3 (fun gk v7 wr => ∃ (i : Nat) (p : V4) (u v : V3), i ≤ 3 ∧ gk = 3 - i ∧ v7 = .int .i64 (i : Int) ∧ InV p ∧ In3 u ∧ In3 v ∧ Blk wr (w.heap.size) #[.int .i64 p.a, .int .i64 p.b, .int .i64 p.c, .int .i64 p.d] 23 ∧ Blk wr (w.heap.size + 1) #[.int .i64 u.a, .int .i64 u.b, .int .i64 u.c] 24 ∧ Blk wr (w.heap.size + 1 + 1) #[.int .i64 v.a, .int .i64 v.b, .int .i64 v.c] 24 ∧ Below w.heap.size w wr)
  case atStart => exact ⟨0, p, u, v, by decide, rfl, rfl, hp, hu, hv, k0, k1, k2, hb1⟩
  case round =>
    clear hp hu hv k0 k1 k2 hb1 hw1
    obtain ⟨i, p, u, v, hi, hgk, rfl, hp, hu, hv, k0, k1, k2, hb⟩ := hrel
    have HGK := Lib.hid hgk
    clear hgk
    by_cases hlt : i < 3
    · have hlti : (i : Int) < 3 := by omega
      have hkl : w.heap.size + 1 + 1 < wr.heap.size := k2.lt
      have htp := fun W => tame_any p 4 W hp (by decide) (by decide)
      have ipr : RightQ (tameV p 4) := tame_right (by decide) (by decide)
      obtain ⟨pp, hpp⟩ : ∃ y, tameV p 4 = y := ⟨_, rfl⟩
      rw [hpp] at htp ipr
      have ip : InV pp := right_in ipr
      have hwu := fun W => way_any pp u W (nrm_far ipr) hu
      have hwv := fun W => way_any pp v W (nrm_far ipr) hv
      have hfu : Far (wayV (nrm pp) u) 8000 := wayV_far (nrm_far ipr)
      have hfv : Far (wayV (nrm pp) v) 8000 := wayV_far (nrm_far ipr)
      obtain ⟨uu, huu⟩ : ∃ y, wayV (nrm pp) u = y := ⟨_, rfl⟩
      obtain ⟨vv, hvv⟩ : ∃ y, wayV (nrm pp) v = y := ⟨_, rfl⟩
      rw [huu] at hwu hfu
      rw [hvv] at hwv hfv
      have HTP := Lib.hid htp
      have HWU := Lib.hid hwu
      have HWV := Lib.hid hwv
      have HIN := Lib.hid (And.intro ip (And.intro (far_in hfu (by decide)) (far_in hfv (by decide))))
      clear htp hwu hwv ip ipr hpp huu hvv hfu hfv
      have ha := fun W => angleApi_any p u v W hp
      have hr := fun W => right3_any p.a p.b p.c p.d W hp.1 hp.2.1 hp.2.2.1 hp.2.2.2
      have h1 := fun W => wayR_any p u W hu
      have h2 := fun W => wayR_any p v W hv
      obtain ⟨D, bu, bv, E, A, hD, hbu, hbv, hE, hA, hcase⟩ := ang_cases p u v
      rw [show decide (RightP p.a p.b p.c p.d) = D from hD] at hr
      rw [hbu] at h1
      rw [hbv] at h2
      rw [hE, hA] at ha
      have HA := Lib.hid ha
      have HR := Lib.hid hr
      have H1 := Lib.hid h1
      have H2 := Lib.hid h2
      have HC := Lib.hid hcase
      clear ha hr h1 h2 hcase hD hbu hbv hE hA hp hu hv
      have a0 := k0.cell (i := 0) rfl
      have a1 := k0.cell (i := 1) rfl
      have a2 := k0.cell (i := 2) rfl
      have a3 := k0.cell (i := 3) rfl
      have b0 := k1.cell (i := 0) rfl
      have b1 := k1.cell (i := 1) rfl
      have b2 := k1.cell (i := 2) rfl
      have c0 := k2.cell (i := 0) rfl
      have c1 := k2.cell (i := 1) rfl
      have c2 := k2.cell (i := 2) rfl
      go_wp2_with fail
      refine (HA.out _).mono ?_
      rintro e' wa ⟨rfl, ha⟩
      clear a0 a1 a2 a3 b0 b1 b2 c0 c1 c2
      have k0 := k0.kept ha
      have k1 := k1.kept ha
      have k2 := k2.kept ha
      have hb := hb.trans (ha.mono hb.size)
      clear ha
      clear HA
      go_upto_block 2 with fail
      go_cut [10] from 12 to 90 (fun v10 wx => v10 = .int .i64 E ∧ Below wa.heap.size wa wx)
      case first =>
        have a0 := k0.cell (i := 0) rfl
        have a1 := k0.cell (i := 1) rfl
        have a2 := k0.cell (i := 2) rfl
        have a3 := k0.cell (i := 3) rfl
        go_wp2_with fail
        refine (HR.out _).mono ?_
        rintro e' wc ⟨rfl, hc⟩
        clear a0 a1 a2 a3
        have k0 := k0.kept hc
        have k1 := k1.kept hc
        have k2 := k2.kept hc
        have a0 := k0.cell (i := 0) rfl
        have a1 := k0.cell (i := 1) rfl
        have a2 := k0.cell (i := 2) rfl
        have a3 := k0.cell (i := 3) rfl
        have b0 := k1.cell (i := 0) rfl
        have b1 := k1.cell (i := 1) rfl
        have b2 := k1.cell (i := 2) rfl
        have c0 := k2.cell (i := 0) rfl
        have c1 := k2.cell (i := 1) rfl
        have c2 := k2.cell (i := 2) rfl
        rcases HC.out with ⟨rfl, rfl, rfl⟩ | ⟨rfl, rfl, rfl, rfl⟩ | ⟨rfl, rfl, rfl, rfl, rfl⟩ | ⟨rfl, rfl, rfl, rfl, _⟩
        · go_wp2_with fail
          go_meet
          case rel => exact ⟨rfl, hc⟩
        · go_wp2_with fail
          refine (H1.out _).mono ?_
          rintro e' w1 ⟨rfl, hw1⟩
          go_wp2_with fail
          go_meet
          case rel => exact ⟨rfl, hc.trans (hw1.mono hc.size)⟩
        · go_wp2_with fail
          refine (H1.out _).mono ?_
          rintro e' w1 ⟨rfl, hw1⟩
          clear a0 a1 a2 a3 b0 b1 b2 c0 c1 c2
          have k0 := k0.kept hw1
          have k2 := k2.kept hw1
          have a0 := k0.cell (i := 0) rfl
          have a1 := k0.cell (i := 1) rfl
          have a2 := k0.cell (i := 2) rfl
          have a3 := k0.cell (i := 3) rfl
          have c0 := k2.cell (i := 0) rfl
          have c1 := k2.cell (i := 1) rfl
          have c2 := k2.cell (i := 2) rfl
          go_wp2_with fail
          refine (H2.out _).mono ?_
          rintro e' w2 ⟨rfl, hw2⟩
          go_wp2_with fail
          go_meet
          case rel => exact ⟨rfl, hc.trans ((hw1.trans (hw2.mono hw1.size)).mono hc.size)⟩
        · go_wp2_with fail
          refine (H1.out _).mono ?_
          rintro e' w1 ⟨rfl, hw1⟩
          clear a0 a1 a2 a3 b0 b1 b2 c0 c1 c2
          have k0 := k0.kept hw1
          have k2 := k2.kept hw1
          have a0 := k0.cell (i := 0) rfl
          have a1 := k0.cell (i := 1) rfl
          have a2 := k0.cell (i := 2) rfl
          have a3 := k0.cell (i := 3) rfl
          have c0 := k2.cell (i := 0) rfl
          have c1 := k2.cell (i := 1) rfl
          have c2 := k2.cell (i := 2) rfl
          go_wp2_with fail
          refine (H2.out _).mono ?_
          rintro e' w2 ⟨rfl, hw2⟩
          go_wp2_with fail
          go_meet
          case rel => exact ⟨rfl, hc.trans ((hw1.trans (hw2.mono hw1.size)).mono hc.size)⟩
      case rest =>
      obtain ⟨rfl, hbx⟩ := hcut
      have k0 := k0.kept hbx
      have k1 := k1.kept hbx
      have k2 := k2.kept hbx
      have hb := hb.trans (hbx.mono hb.size)
      clear hbx
      clear H1 H2 HR
      generalize wc = wy at *
      go_upto_region 10 with fail
      go_cut [60] from 12 to 90 (fun v60 wx => v60 = .bool false ∧ Below wy.heap.size wy wx)
      case first =>
        have a0 := k0.cell (i := 0) rfl
        have a1 := k0.cell (i := 1) rfl
        have a2 := k0.cell (i := 2) rfl
        have a3 := k0.cell (i := 3) rfl
        have b0 := k1.cell (i := 0) rfl
        have b1 := k1.cell (i := 1) rfl
        have b2 := k1.cell (i := 2) rfl
        have c0 := k2.cell (i := 0) rfl
        have c1 := k2.cell (i := 1) rfl
        have c2 := k2.cell (i := 2) rfl
        rcases HC.out with ⟨rfl, rfl, rfl⟩ | ⟨rfl, rfl, rfl, rfl⟩ | ⟨rfl, rfl, rfl, rfl, rfl⟩ | ⟨rfl, rfl, rfl, rfl, hang⟩
        · go_wp2_with fail
          go_meet
          case rel => exact ⟨rfl, Below.refl _ _⟩
        · go_wp2_with fail
          go_meet
          case rel => exact ⟨rfl, Below.refl _ _⟩
        · go_wp2_with fail
          go_meet
          case rel => exact ⟨rfl, Below.refl _ _⟩
        · have HANG := Lib.hid hang
          clear hang
          go_wp2_with fail
          refine (HANG.out _).mono ?_
          rintro e' w1 ⟨rfl, hw1⟩
          go_wp2_with fail
          go_meet
          case rel => exact ⟨by simp, hw1⟩
      case rest =>
      obtain ⟨rfl, hbx⟩ := hcut
      have k0 := k0.kept hbx
      have k1 := k1.kept hbx
      have k2 := k2.kept hbx
      have hb := hb.trans (hbx.mono hb.size)
      clear hbx
      clear HC
      generalize wc = wz at *
      have a0 := k0.cell (i := 0) rfl
      have a1 := k0.cell (i := 1) rfl
      have a2 := k0.cell (i := 2) rfl
      have a3 := k0.cell (i := 3) rfl
      go_wp2_with fail
      refine (HTP.out _).mono ?_
      rintro e' wt ⟨rfl, ht⟩
      clear a0 a1 a2 a3 HTP
      have k0 := k0.kept ht
      have k1 := k1.kept ht
      have k2 := k2.kept ht
      have hb := hb.trans (ht.mono hb.size)
      clear ht
      have a0 := k0.cell (i := 0) rfl
      have a1 := k0.cell (i := 1) rfl
      have a2 := k0.cell (i := 2) rfl
      have a3 := k0.cell (i := 3) rfl
      have d0 := k0.frozen 0
      have d1 := k0.frozen 1
      have d2 := k0.frozen 2
      have d3 := k0.frozen 3
      obtain ⟨ws, hws⟩ : ∃ w', ((((wt.setCell ⟨w.heap.size, 0, none⟩ (.int .i64 pp.a)).setCell ⟨w.heap.size, 1, none⟩ (.int .i64 pp.b)).setCell ⟨w.heap.size, 2, none⟩ (.int .i64 pp.c)).setCell ⟨w.heap.size, 3, none⟩ (.int .i64 pp.d)) = w' := ⟨_, rfl⟩
      have hb : Below w.heap.size w ws := by rw [← hws]; exact ((((hb.setCell (p := ⟨w.heap.size, 0, none⟩) (by simp only; omega) _).setCell (p := ⟨w.heap.size, 1, none⟩) (by simp only; omega) _).setCell (p := ⟨w.heap.size, 2, none⟩) (by simp only; omega) _).setCell (p := ⟨w.heap.size, 3, none⟩) (by simp only; omega) _)
      have k0 : Blk ws (w.heap.size) #[.int .i64 pp.a, .int .i64 pp.b, .int .i64 pp.c, .int .i64 pp.d] 23 := by rw [← hws]; exact Blk.put4 k0 _ _ _ _
      have k1 : Blk ws (w.heap.size + 1) #[.int .i64 u.a, .int .i64 u.b, .int .i64 u.c] 24 := by rw [← hws]; exact ((((k1.other (C := w.heap.size) 0 _ (by omega)).other (C := w.heap.size) 1 _ (by omega)).other (C := w.heap.size) 2 _ (by omega)).other (C := w.heap.size) 3 _ (by omega))
      have k2 : Blk ws (w.heap.size + 1 + 1) #[.int .i64 v.a, .int .i64 v.b, .int .i64 v.c] 24 := by rw [← hws]; exact ((((k2.other (C := w.heap.size) 0 _ (by omega)).other (C := w.heap.size) 1 _ (by omega)).other (C := w.heap.size) 2 _ (by omega)).other (C := w.heap.size) 3 _ (by omega))
      go_upto_region 13 with fail
      clear a0 a1 a2 a3 d0 d1 d2 d3 hws
      go_cut [68] from 12 to 90 (fun v68 wx => v68 = .agg #[.int .i64 vv.a, .int .i64 vv.b, .int .i64 vv.c] ∧ Blk wx (w.heap.size) #[.int .i64 pp.a, .int .i64 pp.b, .int .i64 pp.c, .int .i64 pp.d] 23 ∧ Blk wx (w.heap.size + 1) #[.int .i64 uu.a, .int .i64 uu.b, .int .i64 uu.c] 24 ∧ Blk wx (w.heap.size + 1 + 1) #[.int .i64 vv.a, .int .i64 vv.b, .int .i64 vv.c] 24 ∧ Below w.heap.size w wx)
      case first =>
        refine wp_region_pure 6 (fun ix => match ix with | 0 => .agg #[.int .i64 pp.a, .int .i64 pp.b, .int .i64 pp.c, .int .i64 pp.d] | 1 => .agg #[.int .i64 u.a, .int .i64 u.b, .int .i64 u.c] | 2 => .agg #[.int .i64 uu.a, .int .i64 uu.b, .int .i64 uu.c] | 3 => .agg #[.int .i64 pp.a, .int .i64 pp.b, .int .i64 pp.c, .int .i64 pp.d] | 4 => .agg #[.int .i64 v.a, .int .i64 v.b, .int .i64 v.c] | _ => .agg #[.int .i64 vv.a, .int .i64 vv.b, .int .i64 vv.c]) (by kernel_rfl) (by kernel_rfl) (by kernel_rfl) (by decide) ?_ ?_
        · rintro ix hx f ww hS hd
          have ka := k0.kept hS
          have kb := k1.kept hS
          have kc := k2.kept hS
          have a0_ := ka.cell (i := 0) rfl
          have a1_ := ka.cell (i := 1) rfl
          have a2_ := ka.cell (i := 2) rfl
          have a3_ := ka.cell (i := 3) rfl
          have b0_ := kb.cell (i := 0) rfl
          have b1_ := kb.cell (i := 1) rfl
          have b2_ := kb.cell (i := 2) rfl
          have c0_ := kc.cell (i := 0) rfl
          have c1_ := kc.cell (i := 1) rfl
          have c2_ := kc.cell (i := 2) rfl
          rcases ix with _ | _ | _ | _ | _ | _ | ix
          · refine wpOp_list rfl ?_
            simp only [tmOf, putAll, List.map_cons, List.map_nil, List.setIfInBounds_toArray, List.set_cons_zero, List.set_cons_succ]
            go_wp2
            simp [upd, Below.refl]
          · refine wpOp_list rfl ?_
            simp only [tmOf, putAll, List.map_cons, List.map_nil, List.setIfInBounds_toArray, List.set_cons_zero, List.set_cons_succ]
            go_wp2
            simp [upd, Below.refl]
          · have g0 : f 0 = .agg #[.int .i64 pp.a, .int .i64 pp.b, .int .i64 pp.c, .int .i64 pp.d] := hd 0 (by kernel_rfl)
            have g1 : f 1 = .agg #[.int .i64 u.a, .int .i64 u.b, .int .i64 u.c] := hd 1 (by kernel_rfl)
            refine wpOp_list rfl ?_
            simp only [tmOf, putAll, List.map_cons, List.map_nil, List.setIfInBounds_toArray, List.set_cons_zero, List.set_cons_succ]
            go_wp2_with fail
            refine (HWU.out _).mono ?_
            rintro e' wf ⟨rfl, hbf⟩
            go_wp2_with fail
            simp [upd, g0, g1, hbf]
          · refine wpOp_list rfl ?_
            simp only [tmOf, putAll, List.map_cons, List.map_nil, List.setIfInBounds_toArray, List.set_cons_zero, List.set_cons_succ]
            go_wp2
            simp [upd, Below.refl]
          · refine wpOp_list rfl ?_
            simp only [tmOf, putAll, List.map_cons, List.map_nil, List.setIfInBounds_toArray, List.set_cons_zero, List.set_cons_succ]
            go_wp2
            simp [upd, Below.refl]
          · have g3 : f 3 = .agg #[.int .i64 pp.a, .int .i64 pp.b, .int .i64 pp.c, .int .i64 pp.d] := hd 3 (by kernel_rfl)
            have g4 : f 4 = .agg #[.int .i64 v.a, .int .i64 v.b, .int .i64 v.c] := hd 4 (by kernel_rfl)
            refine wpOp_list rfl ?_
            simp only [tmOf, putAll, List.map_cons, List.map_nil, List.setIfInBounds_toArray, List.set_cons_zero, List.set_cons_succ]
            go_wp2_with fail
            refine (HWV.out _).mono ?_
            rintro e' wf ⟨rfl, hbf⟩
            go_wp2_with fail
            simp [upd, g3, g4, hbf]
          · omega
        · rintro f ww hS hd
          have ka := k0.kept hS
          have kb := k1.kept hS
          have kc := k2.kept hS
          have hbw := hb.trans (hS.mono hb.size)
          have b0 := kb.cell (i := 0) rfl
          have b1 := kb.cell (i := 1) rfl
          have b2 := kb.cell (i := 2) rfl
          have e0 := kb.frozen 0
          have e1 := kb.frozen 1
          have e2 := kb.frozen 2
          have c0 := kc.cell (i := 0) rfl
          have c1 := kc.cell (i := 1) rfl
          have c2 := kc.cell (i := 2) rfl
          have i0 := kc.frozen 0
          have i1 := kc.frozen 1
          have i2 := kc.frozen 2
          have g2 : f 2 = .agg #[.int .i64 uu.a, .int .i64 uu.b, .int .i64 uu.c] := hd 2 (by decide)
          have g5 : f 5 = .agg #[.int .i64 vv.a, .int .i64 vv.b, .int .i64 vv.c] := hd 5 (by decide)
          simp only [seqW, tmOf, putAll, List.map_cons, List.map_nil, List.setIfInBounds_toArray, List.set_cons_zero, List.set_cons_succ, List.length_cons, List.length_nil]
          refine wpOp_list rfl ?_
          go_wp2
          refine wpOp_list rfl ?_
          go_wp2
          go_meet
          case rel => exact ⟨by first | exact g5 | rfl, ((((((ka.other (C := w.heap.size + 1) 0 _ (by omega)).other (C := w.heap.size + 1) 1 _ (by omega)).other (C := w.heap.size + 1) 2 _ (by omega)).other (C := w.heap.size + 1 + 1) 0 _ (by omega)).other (C := w.heap.size + 1 + 1) 1 _ (by omega)).other (C := w.heap.size + 1 + 1) 2 _ (by omega)), ((((Blk.put3 kb _ _ _).other (C := w.heap.size + 1 + 1) 0 _ (by omega)).other (C := w.heap.size + 1 + 1) 1 _ (by omega)).other (C := w.heap.size + 1 + 1) 2 _ (by omega)), (Blk.put3 (((kc.other (C := w.heap.size + 1) 0 _ (by omega)).other (C := w.heap.size + 1) 1 _ (by omega)).other (C := w.heap.size + 1) 2 _ (by omega)) _ _ _), ((((((hbw.setCell (p := ⟨w.heap.size + 1, 0, none⟩) (by simp only; omega) _).setCell (p := ⟨w.heap.size + 1, 1, none⟩) (by simp only; omega) _).setCell (p := ⟨w.heap.size + 1, 2, none⟩) (by simp only; omega) _).setCell (p := ⟨w.heap.size + 1 + 1, 0, none⟩) (by simp only; omega) _).setCell (p := ⟨w.heap.size + 1 + 1, 1, none⟩) (by simp only; omega) _).setCell (p := ⟨w.heap.size + 1 + 1, 2, none⟩) (by simp only; omega) _)⟩
      case rest =>
      obtain ⟨rfl, k0, k1, k2, hb⟩ := hcut
      clear HWU HWV
      generalize wc = wy at *
      by_cases hi1 : i = 1
      · subst hi1
        go_wp2_with fail
        go_loopg [11] 3 (fun gk v11 wr => ∃ j : Nat, j ≤ 3 ∧ gk = 3 - j ∧ v11 = .int .i64 (j : Int) ∧ Blk wr (w.heap.size) #[.int .i64 pp.a, .int .i64 pp.b, .int .i64 pp.c, .int .i64 pp.d] 23 ∧ Blk wr (w.heap.size + 1) #[.int .i64 uu.a, .int .i64 uu.b, .int .i64 uu.c] 24 ∧ (∃ r : Nat → Int, Hid (∀ k, InI64 (r k)) ∧ Blk wr (w.heap.size + 1 + 1) #[.int .i64 (r 0), .int .i64 (r 1), .int .i64 (r 2)] 24) ∧ Below w.heap.size w wr)
        case atStart => exact ⟨0, by decide, rfl, rfl, k0, k1, ⟨v3g vv, fun k => v3g_in HIN.out.2.2 k, k2⟩, hb⟩
        case round =>
          clear k0 k1 k2 hb
          obtain ⟨j, hj, hgj, rfl, k0, k1, ⟨r, HRI, k2⟩, hb⟩ := hrel
          have HGJ := Lib.hid hgj
          clear hgj
          by_cases hjt : j < 3
          · have hjti : (j : Int) < 3 := by omega
            have c0 := k1.v3g hjt
            have c1 := ivec_at k2 hjt
            have f0 := k2.frozen j
            have a0 := k0.cell (i := 0) rfl
            obtain ⟨x, hx⟩ : ∃ x, v3g uu j = x := ⟨_, rfl⟩
            rw [hx] at c0
            obtain ⟨s, hs⟩ : ∃ s, wrap64 (-2 * x) = s := ⟨_, rfl⟩
            obtain ⟨s3, hs3⟩ : ∃ s, wrap64 (3 * x) = s := ⟨_, rfl⟩
            have hsi : InI64 s := by rw [← hs]; exact wrap64_in _
            have hs3i : InI64 s3 := by rw [← hs3]; exact wrap64_in _
            have HS := Lib.hid (And.intro hsi hs3i)
            obtain ⟨m, hm⟩ : ∃ m, pp.a.tmod 2 = m := ⟨_, rfl⟩
            clear hsi hs3i hx
            by_cases hm0 : m = 0
            · subst hm0
              go_wp2_with fail
              go_roundg (3 - (j + 1))
              case measure => rw [HGJ.out]; omega
              case rel =>
                refine ⟨j + 1, by omega, rfl, by go_num, (k0.other (C := w.heap.size + 1 + 1) j _ (by omega)).other (C := w.heap.size + 1 + 1) j _ (by omega), (k1.other (C := w.heap.size + 1 + 1) j _ (by omega)).other (C := w.heap.size + 1 + 1) j _ (by omega), ⟨fun k => if k = j then s3 else (if k = j then s else r k), ?_, (k2.set_eq j _ (ivec_set hjt _)).set_eq j _ (ivec_set (r := fun k => if k = j then s else r k) hjt _)⟩, (hb.setCell (p := ⟨w.heap.size + 1 + 1, j, none⟩) (by simp only; omega) _).setCell (p := ⟨w.heap.size + 1 + 1, j, none⟩) (by simp only; omega) _⟩
                intro k
                show InI64 (if k = j then s3 else (if k = j then s else r k))
                split
                · exact HS.out.2
                · exact HRI.out k
            · have hmb : (m == 0) = false := by simp [hm0]
              go_wp2_with fail
              go_roundg (3 - (j + 1))
              case measure => rw [HGJ.out]; omega
              case rel =>
                refine ⟨j + 1, by omega, rfl, by go_num, k0.other (C := w.heap.size + 1 + 1) j _ (by omega), k1.other (C := w.heap.size + 1 + 1) j _ (by omega), ⟨fun k => if k = j then s else r k, ?_, k2.set_eq j _ (ivec_set hjt _)⟩, hb.setCell (p := ⟨w.heap.size + 1 + 1, j, none⟩) (by simp only; omega) _⟩
                intro k
                show InI64 (if k = j then s else r k)
                split
                · exact HS.out.1
                · exact HRI.out k
          · obtain rfl : j = 3 := by omega
            go_wp2_with fail
            go_roundg (3 - (1 + 1))
            case measure => rw [HGK.out]; omega
            case rel => exact ⟨1 + 1, pp, uu, ⟨r 0, r 1, r 2⟩, by omega, rfl, by go_num, HIN.out.1, HIN.out.2.1, ⟨HRI.out 0, HRI.out 1, HRI.out 2⟩, k0, k1, k2, hb⟩
      · have hi1b : ((i : Int) == 1) = false := by simp only [beq_eq_false_iff_ne]; omega
        go_wp2_with fail
        go_roundg (3 - (i + 1))
        case measure => rw [HGK.out]; omega
        case rel => exact ⟨i + 1, pp, uu, vv, by omega, rfl, by go_num, HIN.out.1, HIN.out.2.1, HIN.out.2.2, k0, k1, k2, hb⟩
    · obtain rfl : i = 3 := by omega
      go_wp2_with fail
      refine (awake5_any _).mono ?_
      rintro e' wz ⟨rfl, hz⟩
      go_wp2_with fail
      go_ret
      exact ⟨rfl, hb.trans (hz.mono hb.size)⟩

theorem lineAngles_walk6 (p : V4) (x1 y1 z1 x2 y2 z2 : Int) (w : World) (hp : InV p) (hx1 : InI64 x1) (hy1 : InI64 y1) (hz1 : InI64 z1) (hx2 : InI64 x2) (hy2 : InI64 y2) (hz2 : InI64 z2) :
    Calls Tryz.prog 6 #[.agg #[.int .i64 p.a, .int .i64 p.b, .int .i64 p.c, .int .i64 p.d], .agg #[.int .i64 x1, .int .i64 y1, .int .i64 z1], .agg #[.int .i64 x2, .int .i64 y2, .int .i64 z2]] w fun e w' => e = .returned (.bool true) ∧ Below w.heap.size w w' :=
  lineAngles_walk p ⟨x1, y1, z1⟩ ⟨x2, y2, z2⟩ w hp ⟨hx1, hy1, hz1⟩ ⟨hx2, hy2, hz2⟩

end Go.Proofs.YtimkeblcdodfmaaGreat

namespace Go.Proofs.YtimkeblcdodfmaaGreat
open Go Go.ChangeShapes Go.WideShapes Go.ChangeAt Go.WideMaps Go.WideElems Go.RowKit Go.ChangeMaps

theorem Tryz.ownP : ownKnob Tryz.prog.godebug = none := by kernel_rfl
theorem Tryz.laidOutP : laidOutB Tryz.prog = true := by kernel_rfl
theorem Tryz.cellsI64 : Tryz.prog.cellsOf 2 = 1 := by kernel_rfl

theorem inI64_wf {n : Int} (h : (Lit.int .i64 n).wf = true) : InI64 n := by
  unfold InI64
  have h1 : IntKind.i64.min = -9223372036854775808 := by decide
  have h2 : IntKind.i64.max = 9223372036854775807 := by decide
  simp [Lit.wf, h1, h2] at h
  omega

set_option maxRecDepth 100000 in
/-- Four int64 among the arguments. -/
theorem open_four {H : Type} {enc : TypeId × Value → H} {W : World} {base : Nat} {t : TypeId} {v : Value} {d : DataW H} {p : List MemPlace} {sp : Nat → Bool} (ht : Tryz.prog.underlying t = some (.array 4 2)) (hc : Tryz.prog.cellsOf t = 4) (hv : Value.okWide Tryz.prog W .any base t v) (hd : DataW.Trod enc Tryz.prog W 0 sp true t v d p) : ∃ q : V4, v = .agg #[.int .i64 q.a, .int .i64 q.b, .int .i64 q.c, .int .i64 q.d] ∧ InV q := by
  obtain ⟨cs, rfl, hsz, _⟩ : ∃ cs, v = .agg cs ∧ cs.size = Tryz.prog.cellsOf t ∧ Row.okWide Tryz.prog W .any base t cs := by
    simpa [Value.okWide, ht] using hv
  rw [hc] at hsz
  obtain ⟨l⟩ := cs
  have hl : l.length = 4 := hsz
  match l, hl with
  | [c0, c1, c2, c3], _ =>
    obtain ⟨fuel, hf⟩ := hd
    obtain ⟨z0, z1, z2, z3, m, _, hy0, hy1, hy2, hy3⟩ := trod_array4 ht Tryz.cellsI64 (by simpa [Value.cells] using hf)
    obtain ⟨x0, e0, _, w0⟩ := DataW.trod_int Tryz.underlying2 hy0
    obtain ⟨x1, e1, _, w1⟩ := DataW.trod_int Tryz.underlying2 hy1
    obtain ⟨x2, e2, _, w2⟩ := DataW.trod_int Tryz.underlying2 hy2
    obtain ⟨x3, e3, _, w3⟩ := DataW.trod_int Tryz.underlying2 hy3
    simp at e0 e1 e2 e3
    subst e0 e1 e2 e3
    exact ⟨⟨x0, x1, x2, x3⟩, rfl, inI64_wf w0, inI64_wf w1, inI64_wf w2, inI64_wf w3⟩

set_option maxRecDepth 100000 in
/-- Three int64 among the arguments. -/
theorem open_three {H : Type} {enc : TypeId × Value → H} {W : World} {base : Nat} {t : TypeId} {v : Value} {d : DataW H} {p : List MemPlace} {sp : Nat → Bool} (ht : Tryz.prog.underlying t = some (.array 3 2)) (hc : Tryz.prog.cellsOf t = 3) (hv : Value.okWide Tryz.prog W .any base t v) (hd : DataW.Trod enc Tryz.prog W 0 sp true t v d p) : ∃ x y z : Int, v = .agg #[.int .i64 x, .int .i64 y, .int .i64 z] ∧ InI64 x ∧ InI64 y ∧ InI64 z := by
  obtain ⟨cs, rfl, hsz, _⟩ : ∃ cs, v = .agg cs ∧ cs.size = Tryz.prog.cellsOf t ∧ Row.okWide Tryz.prog W .any base t cs := by
    simpa [Value.okWide, ht] using hv
  rw [hc] at hsz
  obtain ⟨l⟩ := cs
  have hl : l.length = 3 := hsz
  match l, hl with
  | [c0, c1, c2], _ =>
    obtain ⟨fuel, hf⟩ := hd
    obtain ⟨z0, z1, z2, m, _, hy0, hy1, hy2⟩ := trod_array3 ht Tryz.cellsI64 (by simpa [Value.cells] using hf)
    obtain ⟨x0, e0, _, w0⟩ := DataW.trod_int Tryz.underlying2 hy0
    obtain ⟨x1, e1, _, w1⟩ := DataW.trod_int Tryz.underlying2 hy1
    obtain ⟨x2, e2, _, w2⟩ := DataW.trod_int Tryz.underlying2 hy2
    simp at e0 e1 e2
    subst e0 e1 e2
    exact ⟨x0, x1, x2, rfl, inI64_wf w0, inI64_wf w1, inI64_wf w2⟩

end Go.Proofs.YtimkeblcdodfmaaGreat

namespace Go.Proofs.YtimkeblcdodfmaaGreat
open Go Go.ChangeShapes Go.WideShapes Go.ChangeAt Go.WideMaps Go.WideElems Go.RowKit Go.ChangeMaps

set_option maxRecDepth 100000 in
theorem lineAngles_lifted (os : Os) (started : os.Started) (H : Type) (enc : TypeId × Value → H) :
    ReturnsInHanded {} Tryz.checked os 6 .any (Rows.lineAnglesSpec.pre6 enc Tryz.prog Tryz.f6 Rows.lineAnglesRow.domain false) (Rows.lineAnglesSpec.post enc Tryz.prog Tryz.f6 false true false false) := by
  refine returnsInHanded_of_change (C := Tryz.checked) Tryz.ownP started (by kernel_rfl) Tryz.func6
    (ChangeSpec.witness6 (enc := enc) (C := Tryz.checked) false ⟨#[], #[.agg #[.int .i64 0, .int .i64 0, .int .i64 0, .int .i64 0], .agg #[.int .i64 0, .int .i64 0, .int .i64 0], .agg #[.int .i64 0, .int .i64 0, .int .i64 0]], []⟩ 8 (by kernel_rfl) (by kernel_rfl) (by kernel_rfl) (by kernel_rfl)) ?_
  intro W base args ds gs before hval0 hW _ _
  have hval : ∀ (j : Nat) t v, Tryz.f6.params[j]? = some t → args[j]? = some v → Value.okWide Tryz.prog W .any base t v := hval0
  have hW' := hW
  obtain ⟨p, q, hA0, hV, rfl, hfz, hnd⟩ := hW
  have hA : DataW.TrodAll enc Tryz.prog W 0 (fun _ => true) true Tryz.f6.params.toList args.toList ds p := hA0
  rw [Tryz.params6] at hA hval
  obtain ⟨v0, v1, v2, d0, d1, d2, p0, p1, p2, rfl, rfl, rfl, h0, h1, h2⟩ := trodAll_three hA
  obtain ⟨rfl, rfl⟩ := trodVars_none hV
  obtain ⟨x0, rfl, hx0⟩ := open_four Tryz.underlying23 (by kernel_rfl) (hval 0 23 v0 rfl rfl) h0
  obtain ⟨x1, y1, z1, rfl, hx1, hy1, hz1⟩ := open_three Tryz.underlying24 (by kernel_rfl) (hval 1 24 v1 rfl rfl) h1
  obtain ⟨x2, y2, z2, rfl, hx2, hy2, hz2⟩ := open_three Tryz.underlying24 (by kernel_rfl) (hval 2 24 v2 rfl rfl) h2
  simp only [List.append_nil, List.append_assoc] at hW'
  have hlt0 : ∀ x ∈ p0, x.block < W.heap.size := fun x hx => by simpa using hW'.lt x (by simp [hx])
  have hlt1 : ∀ x ∈ p1, x.block < W.heap.size := fun x hx => by simpa using hW'.lt x (by simp [hx])
  have hlt2 : ∀ x ∈ p2, x.block < W.heap.size := fun x hx => by simpa using hW'.lt x (by simp [hx])
  refine (lineAngles_walk6 x0 x1 y1 z1 x2 y2 z2 W hx0 hx1 hy1 hz1 hx2 hy2 hz2).mono fun e W' ⟨he, hb⟩ => ?_
  subst he
  refine ⟨_, rfl, _, _, _, [], p0 ++ (p1 ++ p2), [], hW', ?_, ?_, rfl, hb.frame _, fun h => by cases h⟩
  · exact trodAll_mk1 (shut_bool Tryz.underlying4 true)
  · exact trodAll_mk3 (Below.trod Tryz.laidOutP (by kernel_rfl) (of_decide_eq_true (by kernel_rfl)) h0 hb hlt0) (Below.trod Tryz.laidOutP (by kernel_rfl) (of_decide_eq_true (by kernel_rfl)) h1 hb hlt1) (Below.trod Tryz.laidOutP (by kernel_rfl) (of_decide_eq_true (by kernel_rfl)) h2 hb hlt2)

theorem lineAngles_holds : Rows.LineAnglesSaid :=
  OpenClaim.holds_of_wide 6 Tryz.f6 rfl rfl rfl rfl rfl rfl rfl ⟨rfl, rfl, rfl, rfl, rfl⟩ rfl rfl rfl rfl rfl (by kernel_rfl) Tryz.func6 (by kernel_rfl)
    (of_decide_eq_true (by kernel_rfl)) (by unfold Func.isWrapper; first | (rw [if_pos (by decide +kernel)]; kernel_rfl) | (rw [if_neg (by decide +kernel)]; exact ⟨rfl, rfl⟩))
    (fun os started H enc _ => lineAngles_lifted os started H enc)
#print axioms lineAngles_holds

end Go.Proofs.YtimkeblcdodfmaaGreat
