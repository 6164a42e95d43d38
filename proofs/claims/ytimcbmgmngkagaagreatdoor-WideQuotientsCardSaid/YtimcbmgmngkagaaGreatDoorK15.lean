/-
  The reference's greatest common divisors; A map from uint to numbers, as a function; What a determinant's closure keeps in memory.
-/
import Derived.Maps.OwnSet
import Derived.Maps.Views
import Derived.Test.YtimcbmgmngkagaaGreatDoorK1
import Derived.Test.YtimcbmgmngkagaaGreatDoorK2
import Derived.Test.YtimcbmgmngkagaaGreatDoorK3
import Derived.Test.YtimcbmgmngkagaaGreatDoorK4
import Derived.Test.YtimcbmgmngkagaaGreatDoorK5
import Derived.Test.YtimcbmgmngkagaaGreatDoorK6
import Derived.Test.YtimcbmgmngkagaaGreatDoorK7
import Derived.Test.YtimcbmgmngkagaaGreatDoorK8
import Derived.Test.YtimcbmgmngkagaaGreatDoorK9
import Derived.Test.YtimcbmgmngkagaaGreatDoorK12
import Derived.Test.YtimcbmgmngkagaaGreatDoorK13
import Derived.Test.YtimcbmgmngkagaaGreatDoorK14
namespace Go.Proofs.YtimcbmgmngkagaaGreatDoor
open Go.RowKit
attribute [local go_sem] Oper.semAt_some run_field1 run_field0

/-- What the operations of 'a, b = Abs(a), Abs(b)' yield. -/
def RAbs (vx vy : Value) (x y : Int) (i : Nat) (v : Value) (w : World) : Prop :=
  match i with
  | 0 => v = vx
  | 1 => ∃ neg p n c xs, v = .agg #[.bool neg, .slice p n c] ∧ RIs w neg p n c xs (x.natAbs : Int) ∧ n ≤ 100000
  | 2 => v = vy
  | 3 => ∃ neg p n c xs, v = .agg #[.bool neg, .slice p n c] ∧ RIs w neg p n c xs (y.natAbs : Int) ∧ n ≤ 100000
  | _ => True
theorem RAbs.mono {S : World → Prop} {vx vy : Value} {x y : Int} : ∀ i v w w', S w → S w' → Below w.heap.size w w' → RAbs vx vy x y i v w → RAbs vx vy x y i v w' := by
  intro i v w w' _ _ hb h
  match i, h with
  | 0, h => exact h
  | 1, ⟨neg, p, n, c, xs, e, hr, hn⟩ => exact ⟨neg, p, n, c, xs, e, hr.below hb, hn⟩
  | 2, h => exact h
  | 3, ⟨neg, p, n, c, xs, e, hr, hn⟩ => exact ⟨neg, p, n, c, xs, e, hr.below hb, hn⟩
  | i + 4, _ => trivial

set_option maxRecDepth 100000 in
set_option maxHeartbeats 8000000 in
theorem rgcd_any (a b : Bool) (p q : Option Addr) (n c m d : Nat) (xs ys : List Nat) (x y : Int) (w : World) (hn : n ≤ 100000) (hm : m ≤ 100000) (hx : RIs w a p n c xs x) (hy : RIs w b q m d ys y) :
    Calls Tryz.prog 18 #[.agg #[.bool a, .slice p n c], .agg #[.bool b, .slice q m d]] w (RV w ((Int.gcd x y : Nat) : Int) 100000) := by
  obtain ⟨w1, hw1⟩ : ∃ w1, (((w.alloc (.cells #[.bool a, .slice p n c] 31)).alloc (.cells #[.bool b, .slice q m d] 31)).alloc (.cells #[.bool false, .slice none 0 0] 31)) = w1 := ⟨_, rfl⟩
  have hb1 : Below w.heap.size w w1 := by
    rw [← hw1]
    exact (((Below.refl _ w).alloc (Nat.le_refl _) _).alloc (by simp) _).alloc (by rw [World.size_alloc, World.size_alloc]; omega) _
  have k0 : Blk w1 w.heap.size #[.bool a, .slice p n c] 31 := by
    rw [← hw1]; exact ((Blk.new w _ _).alloc _).alloc _
  have k1 : Blk w1 (w.heap.size + 1) #[.bool b, .slice q m d] 31 := by
    rw [← hw1]; exact (Blk.new' _ _ _ (by simp)).alloc _
  have k2 : Blk w1 (w.heap.size + 1 + 1) #[.bool false, .slice none 0 0] 31 := by
    rw [← hw1]; exact Blk.new' _ _ _ (by simp)
  have HX := Lib.hid (hx.below hb1)
  have HY := Lib.hid (hy.below hb1)
  obtain ⟨G, hG⟩ : ∃ G, Int.gcd x y = G := ⟨_, rfl⟩
  have HGE := Lib.hid hG
  rw [hG]
  clear hx hy hG
  go_enter Tryz.func18, Tryz.ntmps18
  go_wp2_with fail
  go_cut [] from 11 to 14 (fun wx => ∃ (g : Bool) (p' : Option Addr) (n' c' : Nat) (us : List Nat) (h : Bool) (q' : Option Addr) (m' d' : Nat) (vs : List Nat), Blk wx w.heap.size #[.bool g, .slice p' n' c'] 31 ∧ RIs wx g p' n' c' us (x.natAbs : Int) ∧ n' ≤ 100000 ∧ Blk wx (w.heap.size + 1) #[.bool h, .slice q' m' d'] 31 ∧ RIs wx h q' m' d' vs (y.natAbs : Int) ∧ m' ≤ 100000 ∧ Blk wx (w.heap.size + 1 + 1) #[.bool false, .slice none 0 0] 31 ∧ Below w.heap.size w wx)
  case first =>
    refine wp_region_flow_tail' 4 (by kernel_rfl) (by kernel_rfl) (by kernel_rfl) (by decide) (RAbs (.agg #[.bool a, .slice p n c]) (.agg #[.bool b, .slice q m d]) x y) (fun ww => Below w1.heap.size w1 ww) ((Below.refl _ _).drew) RAbs.mono ?_ ?_
    · rintro i hi f ww hS hd
      have f0 := (k0.kept hS).cell (i := 0) rfl
      have f1 := (k0.kept hS).cell (i := 1) rfl
      have f2 := (k1.kept hS).cell (i := 0) rfl
      have f3 := (k1.kept hS).cell (i := 1) rfl
      rcases i with _ | _ | _ | _ | i
      · refine wpOp_list rfl ?_
        simp only [tmOf, putAll, List.map_cons, List.map_nil, List.setIfInBounds_toArray, List.set_cons_zero, List.set_cons_succ]
        go_wp2
        exact ⟨_, ⟨rfl, rfl, rfl, rfl⟩, rfl, Below.refl _ _⟩
      · have g0 : f 0 = .agg #[.bool a, .slice p n c] := hd 0 (by kernel_rfl)
        refine wpOp_list rfl ?_
        simp only [tmOf, putAll, List.map_cons, List.map_nil, List.setIfInBounds_toArray, List.set_cons_zero, List.set_cons_succ]
        go_wp2_with fail
        refine (rabs_any a p n c xs x _ (by omega) (HX.out.below hS)).mono ?_
        rintro e wf ⟨nf, pf, lf, cf, xf, rfl, hzf, hnf, hbf⟩
        go_wp2_with fail
        exact ⟨_, ⟨g0.symm, rfl, rfl, rfl⟩, ⟨_, _, _, _, _, rfl, hzf, by omega⟩, hS.trans (hbf.mono hS.size)⟩
      · refine wpOp_list rfl ?_
        simp only [tmOf, putAll, List.map_cons, List.map_nil, List.setIfInBounds_toArray, List.set_cons_zero, List.set_cons_succ]
        go_wp2
        exact ⟨_, ⟨rfl, rfl, rfl, rfl⟩, rfl, Below.refl _ _⟩
      · have g2 : f 2 = .agg #[.bool b, .slice q m d] := hd 2 (by kernel_rfl)
        refine wpOp_list rfl ?_
        simp only [tmOf, putAll, List.map_cons, List.map_nil, List.setIfInBounds_toArray, List.set_cons_zero, List.set_cons_succ]
        go_wp2_with fail
        refine (rabs_any b q m d ys y _ (by omega) (HY.out.below hS)).mono ?_
        rintro e wf ⟨nf, pf, lf, cf, xf, rfl, hzf, hnf, hbf⟩
        go_wp2_with fail
        exact ⟨_, ⟨rfl, rfl, g2.symm, rfl⟩, ⟨_, _, _, _, _, rfl, hzf, by omega⟩, hS.trans (hbf.mono hS.size)⟩
      · omega
    · rintro f ww hS hd
      have K0 := k0.kept hS
      have K1 := k1.kept hS
      have f0 := K0.cell (i := 0) rfl
      have f1 := K0.cell (i := 1) rfl
      have f2 := K1.cell (i := 0) rfl
      have f3 := K1.cell (i := 1) rfl
      have e0 := K0.frozen 0
      have e1 := K0.frozen 1
      have e2 := K1.frozen 0
      have e3 := K1.frozen 1
      obtain ⟨n1, p1, l1, c1, x1, g1, hz1, hn1⟩ := hd 1 (by decide)
      obtain ⟨n2, p2, l2, c2, x2, g2, hz2, hn2⟩ := hd 3 (by decide)
      simp only [seqW, tmOf, putAll, List.map_cons, List.map_nil, List.setIfInBounds_toArray, List.set_cons_zero, List.set_cons_succ, List.length_cons, List.length_nil]
      refine wpOp_list rfl ?_
      go_wp2
      refine wpOp_list rfl ?_
      go_wp2
      have L0 := (((K0.set_eq 0 (.bool n1) rfl).set_eq 1 (.slice p1 l1 c1) rfl).other (C := w.heap.size + 1) 0 (.bool n2) (by omega)).other (C := w.heap.size + 1) 1 (.slice p2 l2 c2) (by omega)
      have L1' := (K1.other (C := w.heap.size) 0 (.bool n1) (by omega)).other (C := w.heap.size) 1 (.slice p1 l1 c1) (by omega)
      have L1 := (L1'.set_eq 0 (.bool n2) rfl).set_eq 1 (.slice p2 l2 c2) rfl
      have L2 := ((((k2.kept hS).other (C := w.heap.size) 0 (.bool n1) (by omega)).other (C := w.heap.size) 1 (.slice p1 l1 c1) (by omega)).other (C := w.heap.size + 1) 0 (.bool n2) (by omega)).other (C := w.heap.size + 1) 1 (.slice p2 l2 c2) (by omega)
      have M1 := (hz1.setBox K0 n1 (.slice p1 l1 c1)).setBox L1' n2 (.slice p2 l2 c2)
      have M2 := (hz2.setBox K0 n1 (.slice p1 l1 c1)).setBox L1' n2 (.slice p2 l2 c2)
      have hbX := ((((hb1.trans (hS.mono hb1.size)).setCell (p := ⟨w.heap.size, 0, none⟩) (Nat.le_refl _) (.bool n1)).setCell (p := ⟨w.heap.size, 1, none⟩) (Nat.le_refl _) (.slice p1 l1 c1)).setCell (p := ⟨w.heap.size + 1, 0, none⟩) (by simp only; omega) (.bool n2)).setCell (p := ⟨w.heap.size + 1, 1, none⟩) (by simp only; omega) (.slice p2 l2 c2)
      go_meet
      case rel => exact ⟨n1, p1, l1, c1, x1, n2, p2, l2, c2, x2, L0, M1, hn1, L1, M2, hn2, L2, hbX⟩
  case rest =>
    obtain ⟨g1, p1, n1, c1, us, g2, q1, m1, d1, vs, L0, M1, hn1, L1, M2, hm1, L2, hbc⟩ := hcut
    have HM := Lib.hid (And.intro L0 (And.intro M1 (And.intro L1 (And.intro M2 (And.intro L2 hbc)))))
    clear L0 M1 L1 M2 L2 hbc k0 k1 k2 hw1 hb1
    go_wp2_with fail
    go_loopg [] y.natAbs (fun gk wr => ∃ (g : Bool) (p' : Option Addr) (n' c' : Nat) (us : List Nat) (h : Bool) (q' : Option Addr) (m' d' : Nat) (vs : List Nat) (A B : Nat), gk = B ∧ Blk wr w.heap.size #[.bool g, .slice p' n' c'] 31 ∧ RIs wr g p' n' c' us (A : Int) ∧ n' ≤ 100000 ∧ Blk wr (w.heap.size + 1) #[.bool h, .slice q' m' d'] 31 ∧ RIs wr h q' m' d' vs (B : Int) ∧ m' ≤ 100000 ∧ Blk wr (w.heap.size + 1 + 1) #[.bool false, .slice none 0 0] 31 ∧ Hid (Nat.gcd A B = G) ∧ Below w.heap.size w wr)
    case atStart => exact ⟨g1, p1, n1, c1, us, g2, q1, m1, d1, vs, x.natAbs, y.natAbs, rfl, HM.out.1, HM.out.2.1, hn1, HM.out.2.2.1, HM.out.2.2.2.1, hm1, HM.out.2.2.2.2.1, HGE.out, HM.out.2.2.2.2.2⟩
    case round =>
      clear HM
      obtain ⟨g, p', n', c', us, h, q', m', d', vs, A, B, hgk, K0, hA, hn', K1, hB, hm', K2, HGG, hb⟩ := hrel
      have HGK := Lib.hid hgk
      clear hgk
      have f0 := K0.cell (i := 0) rfl
      have f1 := K0.cell (i := 1) rfl
      have f2 := K1.cell (i := 0) rfl
      have f3 := K1.cell (i := 1) rfl
      have e0 := K2.cell (i := 0) rfl
      have e1 := K2.cell (i := 1) rfl
      have e2 := K2.frozen 0
      have e3 := K2.frozen 1
      have hbz := hB.zero_iff
      by_cases hm0 : 0 < m'
      · have hm0i : (0 : Int) < (m' : Int) := by omega
        have hB0 : 0 < B := by
          rcases Nat.eq_zero_or_pos B with e | e
          · have := hbz.1 (by rw [e]; rfl); omega
          · exact e
        have HA := Lib.hid hA
        have HB := Lib.hid hB
        clear hA hB hbz
        by_cases hsm : n' ≤ 4 ∧ m' ≤ 4
        · obtain ⟨s1, s2⟩ := hsm
          have s1i : (n' : Int) ≤ 4 := by omega
          have s2i : (m' : Int) ≤ 4 := by omega
          obtain ⟨ix, vx, x0, x1⟩ := HA.out.int s1
          obtain ⟨iy, vy, y0, y1⟩ := HB.out.int s2
          go_wp2_with fail
          refine (rint_any g p' n' c' us A _ (by omega) HA.out).mono ?_
          rintro e w3 ⟨rfl, hb3⟩
          rw [ix, vx]
          have K1 := K1.kept hb3
          have f2 := K1.cell (i := 0) rfl
          have f3 := K1.cell (i := 1) rfl
          go_wp2_with fail
          refine (rint_any h q' m' d' vs B _ (by omega) (HB.out.below hb3)).mono ?_
          rintro e w4 ⟨rfl, hb4⟩
          rw [iy, vy]
          have hb34 := hb3.trans (hb4.mono hb3.size)
          have K2 := K2.kept hb34
          have hbw := hb.trans (hb34.mono hb.size)
          clear ix vx iy vy hb3 hb4 hb34 K0 K1 f0 f1 f2 f3 e0 e1 e2 e3
          go_wp2_with fail
          go_loopg [5, 7] B (fun gk v5 v7 wx => ∃ (A B : Nat), gk = B ∧ v5 = .int .i64 (A : Int) ∧ v7 = .int .i64 (B : Int) ∧ A < 10000000000000000 ∧ B < 10000000000000000 ∧ Hid (Nat.gcd A B = G) ∧ Blk wx (w.heap.size + 1 + 1) #[.bool false, .slice none 0 0] 31 ∧ Below w.heap.size w wx)
          case atStart => exact ⟨A, B, rfl, rfl, rfl, by omega, by omega, HGG, K2, hbw⟩
          case round =>
            clear hbw K2 HGG hB0 y1 y0 x1 x0 HA HB HGK
            obtain ⟨A, B, hgk, rfl, rfl, hA, hB, HG2, K2, hbw⟩ := hrel
            have HGK := Lib.hid hgk
            clear hgk
            by_cases h0 : B = 0
            · subst h0
              have hA0 : A = G := by have := HG2.out; rw [Nat.gcd_zero_right] at this; exact this
              subst hA0
              go_wp2_with fail
              refine (from_any _ (by omega) (by omega) _).mono ?_
              rintro e w5 ⟨n5, p5, l5, c5, x5, rfl, hz5, hn5, hb5⟩
              have K2 := K2.kept hb5
              have e2 := K2.frozen 0
              have e3 := K2.frozen 1
              have e0 := K2.cell (i := 0) rfl
              have e1 := K2.cell (i := 1) rfl
              have hb5' := hbw.trans (hb5.mono hbw.size)
              go_wp2_with fail
              have u2 := (K2.set_eq 0 (.bool n5) rfl).set_eq 1 (.slice p5 l5 c5) rfl
              have a0 := u2.cell (i := 0) rfl
              have a1 := u2.cell (i := 1) rfl
              refine bodyPost_ret (v := .agg #[.bool n5, .slice p5 l5 c5]) (by simp [results, Tryz.results18, go_sem, a0, a1]) rfl ⟨n5, p5, l5, c5, x5, rfl, hz5.setBox K2 n5 (.slice p5 l5 c5), by omega, ?_⟩
              exact (hb5'.setCell (p := ⟨w.heap.size + 1 + 1, 0, none⟩) (by simp only; omega) _).setCell (p := ⟨w.heap.size + 1 + 1, 1, none⟩) (by simp only; omega) _
            · have h0i : ¬ (B : Int) = 0 := by omega
              have h0p : (0 : Int) < (B : Int) := by omega
              obtain ⟨R, hR⟩ : ∃ R, A % B = R := ⟨_, rfl⟩
              have hRb : R < B := by rw [← hR]; exact Nat.mod_lt _ (by omega)
              have hRi : (A : Int) % (B : Int) = (R : Int) := by rw [← hR]; simp
              have HR := Lib.hid hR
              clear hR
              go_wp2_with fail
              go_quiet (fail)
              go_wp2_with fail
              go_roundg R
              case measure => rw [HGK.out]; exact hRb
              case rel => exact ⟨B, R, rfl, rfl, by first | rfl | exact congrArg (Value.int .i64) hRi, hB, by omega, by show Nat.gcd B R = _; rw [← HG2.out, ← HR.out, Nat.gcd_comm A B, Nat.gcd_rec B A, Nat.gcd_comm], K2, by first | exact hbw | exact below_drewN hbw _⟩
        · go_upto_region 3 with fail
          go_cut [28] from 19 to 28 (fun v wx => v = .bool false ∧ Hid (wr = wx))
          case first =>
            by_cases s1 : n' ≤ 4
            · have s1i : (n' : Int) ≤ 4 := by omega
              have s2i : ¬ (m' : Int) ≤ 4 := by omega
              go_wp2_with fail
              go_meet
              case rel => exact ⟨rfl, rfl⟩
            · have s1i : ¬ (n' : Int) ≤ 4 := by omega
              go_wp2_with fail
              go_meet
              case rel => exact ⟨rfl, rfl⟩
          case rest =>
            obtain ⟨rfl, hcut⟩ := hcut
            obtain rfl := hcut.out
            clear hcut
            go_wp2_with fail
            refine (rdiv_any _ _ _ _ _ _ _ _ us vs _ _ _ hn' hm' HA.out HB.out (by omega)).mono ?_
            rintro e w4 ⟨n5, p5, l5, c5, x5, n6, p6, l6, c6, x6, rfl, hz5, hz6, hb4⟩
            have hmd : (A : Int) % (B : Int) = ((A % B : Nat) : Int) := by simp
            rw [hmd] at hz6
            have hlt : A % B < B := Nat.mod_lt _ hB0
            obtain ⟨R, hR⟩ : ∃ R, A % B = R := ⟨_, rfl⟩
            rw [hR] at hz6 hlt
            have hl6 : l6 ≤ m' := hz6.len_le (by
              have h1 := HB.out.lt
              rw [Int.natAbs_natCast] at h1 ⊢
              omega)
            obtain ⟨wq, hwq⟩ : ∃ wq, (w4.alloc (.cells #[.bool n5, .slice p5 l5 c5] 31)).alloc (.cells #[.bool n6, .slice p6 l6 c6] 31) = wq := ⟨_, rfl⟩
            have hb4q : Below w4.heap.size w4 wq := by rw [← hwq]; exact ((Below.refl _ _).alloc (Nat.le_refl _) _).alloc (by simp) _
            have kq : Blk wq (w4.heap.size + 1) #[.bool n6, .slice p6 l6 c6] 31 := by rw [← hwq]; exact Blk.new' _ _ _ (by simp)
            have hbq := hb4.trans (hb4q.mono hb4.size)
            have szr : w.heap.size + 1 + 1 < wr.heap.size := K2.lt
            have sz4 : wr.heap.size ≤ w4.heap.size := hb4.size
            have K0 := K0.kept hbq
            have K1 := K1.kept hbq
            have K2 := K2.kept hbq
            have f0 := K0.cell (i := 0) rfl
            have f1 := K0.cell (i := 1) rfl
            have f2 := K1.cell (i := 0) rfl
            have f3 := K1.cell (i := 1) rfl
            have e0 := K0.frozen 0
            have e1 := K0.frozen 1
            have e2 := K1.frozen 0
            have e3 := K1.frozen 1
            have x2 := kq.cell (i := 0) rfl
            have x3 := kq.cell (i := 1) rfl
            have nn1 : w.heap.size ≠ w4.heap.size + 1 := by omega
            have nn2 : w.heap.size + 1 ≠ w4.heap.size + 1 := by omega
            have nn3 : ¬ w.heap.size = w4.heap.size := by omega
            have nn4 : ¬ w4.heap.size + 1 = w.heap.size := by omega
            have nn5 : ¬ w4.heap.size = w.heap.size := by omega
            have hz6q := hz6.below hb4q
            have hBq := HB.out.below hbq
            have HZ6 := Lib.hid (And.intro hz6q hBq)
            have HRE := Lib.hid hR
            clear hz5 hz6 hz6q hBq hR hmd
            go_wp2_with fail
            go_region
            all_goals
              go_wp2
              have u0 := ((K0.set_eq 0 (.bool h) rfl).set_eq 1 (.slice q' m' d') rfl)
              have u1 := (K1.other (C := w.heap.size) 0 (.bool h) (by omega)).other (C := w.heap.size) 1 (.slice q' m' d') (by omega)
              have v0 := (u0.other (C := w.heap.size + 1) 0 (.bool n6) (by omega)).other (C := w.heap.size + 1) 1 (.slice p6 l6 c6) (by omega)
              have v1 := (u1.set_eq 0 (.bool n6) rfl).set_eq 1 (.slice p6 l6 c6) rfl
              have v2 := (((K2.other (C := w.heap.size) 0 (.bool h) (by omega)).other (C := w.heap.size) 1 (.slice q' m' d') (by omega)).other (C := w.heap.size + 1) 0 (.bool n6) (by omega)).other (C := w.heap.size + 1) 1 (.slice p6 l6 c6) (by omega)
              have a1 := (HZ6.out.1.setBox K0 h (.slice q' m' d')).setBox u1 n6 (.slice p6 l6 c6)
              have a2 := (HZ6.out.2.setBox K0 h (.slice q' m' d')).setBox u1 n6 (.slice p6 l6 c6)
              have hbz := ((((hb.trans (hbq.mono hb.size)).setCell (p := ⟨w.heap.size, 0, none⟩) (Nat.le_refl _) (.bool h)).setCell (p := ⟨w.heap.size, 1, none⟩) (Nat.le_refl _) (.slice q' m' d')).setCell (p := ⟨w.heap.size + 1, 0, none⟩) (by simp only; omega) (.bool n6)).setCell (p := ⟨w.heap.size + 1, 1, none⟩) (by simp only; omega) (.slice p6 l6 c6)
              go_roundg R
              case measure => rw [HGK.out]; exact hlt
              case rel => exact ⟨h, q', m', d', vs, n6, p6, l6, c6, x6, B, R, rfl, v0, a2.drew, hm', v1, a1.drew, by omega, v2, by show Nat.gcd B R = _; rw [← HGG.out, ← HRE.out, Nat.gcd_comm A B, Nat.gcd_rec B A, Nat.gcd_comm], hbz.drew⟩
      · obtain rfl : m' = 0 := by omega
        have hB0 : B = 0 := by have := hbz.2 rfl; omega
        subst hB0
        have hA0 : A = G := by have := HGG.out; rw [Nat.gcd_zero_right] at this; exact this
        subst hA0
        clear hbz hB
        go_wp2_with fail
        have u2 := (K2.set_eq 0 (.bool g) rfl).set_eq 1 (.slice p' n' c') rfl
        have a0 := u2.cell (i := 0) rfl
        have a1 := u2.cell (i := 1) rfl
        refine bodyPost_ret (v := .agg #[.bool g, .slice p' n' c']) (by simp [results, Tryz.results18, go_sem, a0, a1]) rfl ⟨g, p', n', c', us, rfl, hA.setBox K2 g (.slice p' n' c'), hn', ?_⟩
        exact (hb.setCell (p := ⟨w.heap.size + 1 + 1, 0, none⟩) (by simp only; omega) _).setCell (p := ⟨w.heap.size + 1 + 1, 1, none⟩) (by simp only; omega) _

end Go.Proofs.YtimcbmgmngkagaaGreatDoor

namespace Go.Proofs.YtimcbmgmngkagaaGreatDoor
open Go.RowKit Go.Maps

/-- Elements are read as they are. -/
def anyR (v : Value) : Option (DataW Value × List MemPlace) := some (.held v, [])

def ulit (k : Nat) : Lit := .int .u64 (k : Int)
theorem ulit_wf {k : Nat} (h : k < 18446744073709551616) : (ulit k).wf = true := by
  have h1 : IntKind.u64.min = 0 := rfl
  have h2 : IntKind.u64.max = 18446744073709551615 := rfl
  unfold ulit Lit.wf
  simp [h1, h2]; omega
theorem ulit_key {k : Nat} (h : k < 18446744073709551616) : keyOf Tryz.prog 60 (.int .u64 (k : Int)) = some (ulit k) := keyOf_int_mk Tryz.underlying60 (ulit_wf h)
theorem ulit_isKey (k : Nat) : WideAt.IsKeyLit (ulit k) := trivial
theorem ulit_ne {j k : Nat} (h : j ≠ k) : ulit j ≠ ulit k := by
  intro e; unfold ulit at e; simp at e; omega

/-- Block b holds the map g, of at most n entries. -/
def MapIs (w : World) (b n : Nat) (g : Nat → Option Value) : Prop :=
  ∃ D : DataW Value, w.ownsMap Tryz.prog 60 anyR b n D ∧ IsMap D ∧ ∀ k, Maps.has D (ulit k) = (g k).isSome ∧ (∀ v, g k = some v → ∀ z, D.atKey (ulit k) z = .held v) ∧ (g k = none → ∀ z, D.atKey (ulit k) z = z)

theorem MapIs.made (w : World) : MapIs (w.alloc (.map #[] 0)) w.heap.size 0 (fun _ => none) :=
  ⟨.map [], World.ownsMap_made w _ _ _, (World.ownsMap_made w Tryz.prog 60 anyR).isMap, fun k => ⟨rfl, fun v h => (by simp at h), fun _ z => rfl⟩⟩

theorem MapIs.kept {w w' : World} {b n : Nat} {g : Nat → Option Value} {row : Option Nat} (h : MapIs w b n g) (hg : w.grownBy w' row) (hne : some b ≠ row) : MapIs w' b n g := by
  obtain ⟨D, h1, h2⟩ := h
  exact ⟨D, h1.kept hg hne, h2⟩

def putG (g : Nat → Option Value) (k : Nat) (v : Value) : Nat → Option Value := fun j => if j = k then some v else g j

def zeroNum : Value := .agg #[.bool false, .slice none 0 0]

theorem zero79 (w : World) : (zeroValue 78).run Tryz.prog w = .ok zeroNum w := by
  obtain ⟨i, hi, hz, _, _⟩ := info_parts Tryz.info79
  unfold zeroValue
  rw [Sem.run_bind, run_typeInfo w hi]
  simp only [Result.andThen, hz]
  rfl

theorem MapIs.look {w : World} {b n : Nat} {g : Nat → Option Value} (h : MapIs w b n g) {k : Nat} (hk : k < 18446744073709551616) :
    (Instr.lookup 175 (.map (some b)) (.int .u64 (k : Int)) true).run Tryz.prog w = .ok (.tuple #[(g k).getD zeroNum, .bool (g k).isSome]) w := by
  obtain ⟨D, h1, _, h2⟩ := h
  obtain ⟨a1, a2, a3⟩ := h2 k
  obtain ⟨v, ps, e1, e2⟩ := h1.look_ok (int_keyed Tryz.underlying60) Tryz.underlying175 (zero79 w) (zd := .held zeroNum) (zp := []) rfl (ulit_key hk)
  rw [a1] at e1
  rw [e1]
  simp only [anyR, Option.some.injEq, Prod.mk.injEq] at e2
  cases hg : g k with
  | none =>
    rw [a3 hg] at e2
    have := e2.1
    simp at this
    rw [this]; rfl
  | some u =>
    rw [a2 u hg] at e2
    have := e2.1
    simp at this
    rw [this]; rfl

theorem MapIs.store {w : World} {b n : Nat} {g : Nat → Option Value} (h : MapIs w b n g) {k : Nat} (hk : k < 18446744073709551616) (hn : n < 1000000) (v : Value) :
    ∃ w', (Instr.mapUpdate 175 (.map (some b)) (.int .u64 (k : Int)) v).run Tryz.prog w = .ok () w' ∧ MapIs w' b (n + 1) (putG g k v) ∧ w.grownBy w' (some b) := by
  obtain ⟨D, h1, hM, h2⟩ := h
  obtain ⟨w', e1, e2, e3⟩ := h1.update (int_keyed Tryz.underlying60) Tryz.underlying175 (by unfold maxLen; omega) (val := v) (d := .held v) (ps := []) (ulit_key hk) rfl
  refine ⟨w', e1, ⟨_, e2, e2.isMap, fun j => ?_⟩, e3⟩
  unfold putG
  by_cases hj : j = k
  · subst hj
    rw [if_pos rfl]
    refine ⟨has_put_same hM (ulit_isKey _) _, fun u hu z => ?_, fun h => by cases h⟩
    cases hu
    exact atKey_put_same hM (ulit_isKey _) _ _
  · rw [if_neg hj]
    obtain ⟨a1, a2, a3⟩ := h2 j
    exact ⟨by rw [has_put_other (ulit_ne hj)]; exact a1, fun u hu z => by rw [atKey_put_other (ulit_ne hj)]; exact a2 u hu z, fun hu z => by rw [atKey_put_other (ulit_ne hj)]; exact a3 hu z⟩

end Go.Proofs.YtimcbmgmngkagaaGreatDoor

namespace Go.Proofs.YtimcbmgmngkagaaGreatDoor

/-- An element of a row. -/
def ent (xs : List Int) (c : Nat) : Int := xs[c]?.getD 0

theorem ent_at {xs : List Int} {j : Nat} (h : j < xs.length) : ent xs j = xs[j] := by unfold ent; rw [List.getElem?_eq_getElem h]; rfl

/-- Along a row, the first j columns: the total, and whether the next term is turned. -/
def colS (xs : List Int) (f : Nat → Int) (u : Nat) : Nat → Int × Bool
  | 0 => (0, false)
  | j + 1 => if u.testBit j then colS xs f u j else ((colS xs f u j).1 + (if (colS xs f u j).2 then -(ent xs j * f j) else ent xs j * f j), !(colS xs f u j).2)

/-- The minor of the last k of n rows, without the columns of u. -/
def minorZ (M : List (List Int)) (n : Nat) : Nat → Nat → Int
  | 0, _ => 1
  | k + 1, u => (colS ((M[n - (k + 1)]?).getD []) (fun c => minorZ M n k (u ||| 2 ^ c)) u n).1

/-- How many of the first n columns are used. -/
def pop : Nat → Nat → Nat
  | 0, _ => 0
  | n + 1, u => pop n u + (if u.testBit n then 1 else 0)

theorem or_bit (u c i : Nat) : (u ||| 2 ^ c).testBit i = (u.testBit i || decide (c = i)) := by
  rw [Nat.testBit_or, Nat.testBit_two_pow]

theorem pop_or_ge : ∀ (n u c : Nat), n ≤ c → pop n (u ||| 2 ^ c) = pop n u
  | 0, _, _, _ => rfl
  | n + 1, u, c, h => by
    unfold pop
    rw [pop_or_ge n u c (by omega), or_bit]
    have : decide (c = n) = false := by simp; omega
    rw [this, Bool.or_false]

theorem pop_or : ∀ (n u c : Nat), c < n → u.testBit c = false → pop n (u ||| 2 ^ c) = pop n u + 1
  | n + 1, u, c, h, hu => by
    unfold pop
    rw [or_bit]
    by_cases e : c = n
    · subst e
      rw [pop_or_ge c u c (Nat.le_refl _), hu]; simp
    · have : decide (c = n) = false := by simp; exact e
      rw [pop_or n u c (by omega) hu, this, Bool.or_false]; omega

theorem or_lt {n u c : Nat} (hu : u < 2 ^ n) (hc : c < n) : u ||| 2 ^ c < 2 ^ n :=
  Nat.or_lt_two_pow hu (Nat.pow_lt_pow_right (by decide) hc)

theorem colS_used {xs : List Int} {f : Nat → Int} {u j : Nat} (h : u.testBit j = true) : colS xs f u (j + 1) = colS xs f u j := by
  conv => lhs; unfold colS
  rw [if_pos h]
theorem colS_free {xs : List Int} {f : Nat → Int} {u j : Nat} (h : u.testBit j = false) : colS xs f u (j + 1) = ((colS xs f u j).1 + (if (colS xs f u j).2 then -(ent xs j * f j) else ent xs j * f j), !(colS xs f u j).2) := by
  conv => lhs; unfold colS
  rw [if_neg (by rw [h]; decide)]

/-- A determinant. -/
def detZ (M : List (List Int)) : Int := minorZ M M.length M.length 0

/-- How long minors get, and how many are kept. -/
def detL (k : Nat) : Nat := 1 + k * 240
def detS : Nat → Nat
  | 0 => 0
  | k + 1 => 6 * detS k + 1
theorem detS_mono : ∀ {k m : Nat}, k ≤ m → detS k ≤ detS m
  | k, m, h => by
    induction m with
    | zero => rw [Nat.le_zero.1 h]; exact Nat.le_refl _
    | succ m ih =>
      rcases Nat.lt_or_ge m k with h' | h'
      · rw [show k = m + 1 by omega]; exact Nat.le_refl _
      · have := ih h'; show detS k ≤ 6 * detS m + 1; omega

theorem pop_zero : ∀ n, pop n 0 = 0
  | 0 => rfl
  | n + 1 => by unfold pop; rw [pop_zero n]; simp

end Go.Proofs.YtimcbmgmngkagaaGreatDoor

namespace Go.Proofs.YtimcbmgmngkagaaGreatDoor
open Go.RowKit Go.Maps

/-- Block b holds a map. -/
def MapAt (w : World) (b : Nat) : Prop := ∃ es clock, w.heap[b]? = some (.map es clock)

theorem MapIs.at {w : World} {b n : Nat} {g : Nat → Option Value} (h : MapIs w b n g) : MapAt w b := by
  obtain ⟨D, ⟨es, clock, h1, _⟩, _⟩ := h
  exact ⟨es, clock, h1⟩

theorem MapAt.ne {w : World} {b : Nat} (h : MapAt w b) {a : Addr} {v : Value} (hc : w.cell? a = some v) : a.block ≠ b := by
  obtain ⟨es, clock, h1⟩ := h
  intro e
  rw [← e] at h1
  simp [World.cell?, h1] at hc

theorem cell_grown {w w' : World} {b : Nat} (hm : MapAt w b) (hg : w.grownBy w' (some b)) {a : Addr} {v : Value} (hc : w.cell? a = some v) : w'.cell? a = some v :=
  hg.cell hc (fun e => hm.ne hc (Option.some.inj e))

theorem Rd.grown {k : IntKind} {w w' : World} {b : Nat} (hm : MapAt w b) (hg : w.grownBy w' (some b)) {p : Option Addr} {n : Nat} {xs : List Nat} (h : Rd k w p n xs) : Rd k w' p n xs := by
  refine ⟨h.1, fun i hi => ?_⟩
  obtain ⟨b', off, hp, hlt, hc⟩ := h.2 i hi
  exact ⟨b', off, hp, Nat.lt_of_lt_of_le hlt hg.size, cell_grown hm hg hc⟩

theorem NumIs.grown {w w' : World} {b : Nat} (hm : MapAt w b) (hg : w.grownBy w' (some b)) {neg : Bool} {p : Option Addr} {n c : Nat} {xs : List Nat} {z : Int} {L : Nat} (h : NumIs w neg p n c xs z L) : NumIs w' neg p n c xs z L :=
  { h with rd := h.rd.grown hm hg }

theorem Nums.grown {w w' : World} {b : Nat} (hm : MapAt w b) (hg : w.grownBy w' (some b)) {a : Option Addr} {zs : List Int} {L : Nat} (h : Nums w a zs L) : Nums w' a zs L := by
  intro i z hz
  obtain ⟨b', off, neg, p, n, c, xs, ha, hlt, h0, h1, hn⟩ := h i z hz
  exact ⟨b', off, neg, p, n, c, xs, ha, Nat.lt_of_lt_of_le hlt hg.size, cell_grown hm hg h0, cell_grown hm hg h1, hn.grown hm hg⟩

theorem grown_trans {a b c : World} {r : Option Nat} (h : a.grownBy b r) (k : b.grownBy c r) : a.grownBy c r :=
  ⟨k.os.trans h.os, k.tape.trans h.tape, k.output.trans h.output, Nat.le_trans h.size k.size, fun i hi hr => (k.block i (Nat.lt_of_lt_of_le hi h.size) hr).trans (h.block i hi hr)⟩
theorem grown_refl (a : World) (r : Option Nat) : a.grownBy a r := ⟨rfl, rfl, rfl, Nat.le_refl _, fun _ _ _ => rfl⟩
theorem grown_below {w w' : World} (h : Below w.heap.size w w') (r : Option Nat) : w.grownBy w' r := ⟨h.os, h.tape, h.output, h.size, fun k hk _ => h.block k hk⟩
theorem grown_drew {a b : World} {r : Option Nat} (h : a.grownBy b r) : a.grownBy b.drew r := ⟨h.os, h.tape, h.output, h.size, h.block⟩
theorem grown_set {a b : World} {r : Option Nat} (h : a.grownBy b r) {C i : Nat} (hC : a.heap.size ≤ C) (v : Value) : a.grownBy (b.setCell ⟨C, i, none⟩ v) r := by
  refine ⟨h.os, h.tape, h.output, by simpa using h.size, fun k hk hr => ?_⟩
  rw [Below.heap_setCell _ _ _ _ (by show k ≠ C; omega)]
  exact h.block k hk hr

theorem MapIs.setOther {w : World} {b n : Nat} {g : Nat → Option Value} (h : MapIs w b n g) {C i : Nat} (hne : b ≠ C) (v : Value) : MapIs (w.setCell ⟨C, i, none⟩ v) b n g := by
  obtain ⟨D, h1, h2⟩ := h
  exact ⟨D, h1.setCell (a := ⟨C, i, none⟩) hne v, h2⟩
theorem MapIs.drew {w : World} {b n : Nat} {g : Nat → Option Value} (h : MapIs w b n g) : MapIs w.drew b n g := h
theorem MapIs.mono {w : World} {b n m : Nat} {g : Nat → Option Value} (h : MapIs w b n g) (hm : n ≤ m) : MapIs w b m g := by
  obtain ⟨D, h1, h2⟩ := h
  exact ⟨D, h1.mono hm, h2⟩

/-- Rows of numbers. -/
def RowsIs (w : World) (ra : Option Addr) (M : List (List Int)) (L : Nat) : Prop :=
  ∀ i row, M[i]? = some row → ∃ b off p c, ra = some ⟨b, off, none⟩ ∧ b < w.heap.size ∧ w.cell? ⟨b, off + i, none⟩ = some (.slice p row.length c) ∧ Nums w p row L

theorem RowsIs.grown {w w' : World} {b : Nat} (hm : MapAt w b) (hg : w.grownBy w' (some b)) {ra : Option Addr} {M : List (List Int)} {L : Nat} (h : RowsIs w ra M L) : RowsIs w' ra M L := by
  intro i row hi
  obtain ⟨b', off, p, c, ha, hlt, hc, hn⟩ := h i row hi
  exact ⟨b', off, p, c, ha, Nat.lt_of_lt_of_le hlt hg.size, cell_grown hm hg hc, hn.grown hm hg⟩

theorem RowsIs.below {w w' : World} (hb : Below w.heap.size w w') {ra : Option Addr} {M : List (List Int)} {L : Nat} (h : RowsIs w ra M L) : RowsIs w' ra M L := by
  intro i row hi
  obtain ⟨b', off, p, c, ha, hlt, hc, hn⟩ := h i row hi
  exact ⟨b', off, p, c, ha, Nat.lt_of_lt_of_le hlt hb.size, (hb.cell (p := ⟨b', _, none⟩) hlt).trans hc, hn.below hb⟩

/-- A minor that is kept. -/
def KeptIs (w : World) (M : List (List Int)) (n : Nat) (g : Nat → Option Value) : Prop :=
  ∀ u v, g u = some v → ∃ neg p m c xs, v = .agg #[.bool neg, .slice p m c] ∧ NumIs w neg p m c xs (minorZ M n (n - pop n u) u) (detL (n - pop n u))

/-- The captured variables, and the map. -/
structure DetIs (w : World) (br bk bf bm : Nat) (ra : Option Addr) (n c cnt : Nat) (M : List (List Int)) (g : Nat → Option Value) : Prop where
  r : w.heap[br]? = some (.cells #[.slice ra n c] 137 (0, 0))
  k : w.heap[bk]? = some (.cells #[.map (some bm)] 175 (0, 0))
  f : w.heap[bf]? = some (.cells #[.func (.func 156) #[] #[.pointer (some ⟨br, 0, none⟩), .pointer (some ⟨bk, 0, none⟩), .pointer (some ⟨bf, 0, none⟩)]] 176 (0, 0))
  m : MapIs w bm cnt g
  rows : RowsIs w ra M 223
  kept : KeptIs w M n g

theorem one_at {w : World} {b : Nat} {v : Value} {t : TypeId} (h : w.heap[b]? = some (.cells #[v] t (0, 0))) : w.cell? ⟨b, 0, none⟩ = some v := by simp [World.cell?, h]

theorem KeptIs.grown {w w' : World} {b : Nat} (hm : MapAt w b) (hg : w.grownBy w' (some b)) {M : List (List Int)} {n : Nat} {g : Nat → Option Value} (h : KeptIs w M n g) : KeptIs w' M n g := by
  intro u v hu
  obtain ⟨neg, p, m, c, xs, e, hx⟩ := h u v hu
  exact ⟨neg, p, m, c, xs, e, hx.grown hm hg⟩

theorem MapAt.ne_cells {w : World} {b b' : Nat} (h : MapAt w b) {cs : Array Value} {t : TypeId} {f : Nat × Nat} (h' : w.heap[b']? = some (.cells cs t f)) : b' ≠ b := by
  obtain ⟨es, clock, h1⟩ := h
  rintro rfl
  rw [h'] at h1; cases h1

/-- Nothing but new blocks. -/
theorem DetIs.below {w w' : World} {br bk bf bm : Nat} {ra : Option Addr} {n c cnt : Nat} {M : List (List Int)} {g : Nat → Option Value} (h : DetIs w br bk bf bm ra n c cnt M g) (hb : Below w.heap.size w w') : DetIs w' br bk bf bm ra n c cnt M g := by
  have lt : ∀ {b : Nat} {o : Obj}, w.heap[b]? = some o → b < w.heap.size := fun h => (Array.getElem?_eq_some_iff.1 h).1
  have hm := h.m.at
  have hg := grown_below hb (some bm)
  obtain ⟨es, clock, h1⟩ := hm
  exact { r := (hb.block br (lt h.r)).trans h.r, k := (hb.block bk (lt h.k)).trans h.k, f := (hb.block bf (lt h.f)).trans h.f
          m := h.m.kept (grown_below hb none) (by simp)
          rows := h.rows.below hb, kept := h.kept.grown ⟨es, clock, h1⟩ hg }

theorem NumIs.setNum {w : World} {neg : Bool} {p : Option Addr} {n c : Nat} {xs : List Nat} {z : Int} {L : Nat} (h : NumIs w neg p n c xs z L) {B : Nat} {a : Bool} {q : Option Addr} {k d : Nat} {t : TypeId} (hb : Boxed2 w B (.bool a) (.slice q k d) t) (i : Nat) (v : Value) : NumIs (w.setCell ⟨B, i, none⟩ v) neg p n c xs z L :=
  { h with rd := h.rd.box hb v }

/-- A store into a number's variable of the call's own. -/
theorem DetIs.set {w0 w : World} {br bk bf bm : Nat} {ra : Option Addr} {n c cnt0 cnt : Nat} {M : List (List Int)} {g0 g : Nat → Option Value} (h0 : DetIs w0 br bk bf bm ra n c cnt0 M g0) (h : DetIs w br bk bf bm ra n c cnt M g) (hg : w0.grownBy w (some bm))
    {B : Nat} (hB : w0.heap.size ≤ B) {a : Bool} {q : Option Addr} {k d : Nat} {t : TypeId} (hb : Boxed2 w B (.bool a) (.slice q k d) t) (i : Nat) (v : Value) : DetIs (w.setCell ⟨B, i, none⟩ v) br bk bf bm ra n c cnt M g := by
  have hg' := grown_set (i := i) hg hB v
  have hm := h0.m.at
  have lt : ∀ {b : Nat} {o : Obj}, w0.heap[b]? = some o → b < w0.heap.size := fun h => (Array.getElem?_eq_some_iff.1 h).1
  have ne : ∀ {b : Nat} {cs : Array Value} {t : TypeId} {f : Nat × Nat}, w0.heap[b]? = some (.cells cs t f) → some b ≠ some bm := fun h e => hm.ne_cells h (Option.some.inj e)
  exact { r := (hg'.block br (lt h0.r) (ne h0.r)).trans h0.r, k := (hg'.block bk (lt h0.k) (ne h0.k)).trans h0.k, f := (hg'.block bf (lt h0.f) (ne h0.f)).trans h0.f
          m := h.m.setOther (fun e => h.m.at.ne_cells hb e.symm) v
          rows := h0.rows.grown hm hg'
          kept := fun u v' hu => by
            obtain ⟨neg, p, m, c, xs, e, hx⟩ := h.kept u v' hu
            exact ⟨neg, p, m, c, xs, e, hx.setNum hb i v⟩ }

theorem DetIs.set2 {w0 w : World} {br bk bf bm : Nat} {ra : Option Addr} {n c cnt0 cnt : Nat} {M : List (List Int)} {g0 g : Nat → Option Value} (h0 : DetIs w0 br bk bf bm ra n c cnt0 M g0) (h : DetIs w br bk bf bm ra n c cnt M g) (hg : w0.grownBy w (some bm))
    {B : Nat} (hB : w0.heap.size ≤ B) {a : Bool} {q : Option Addr} {k d : Nat} {t : TypeId} (hb : Boxed2 w B (.bool a) (.slice q k d) t) (a' : Bool) (q' : Option Addr) (k' d' : Nat) :
    DetIs ((w.setCell ⟨B, 0, none⟩ (.bool a')).setCell ⟨B, 1, none⟩ (.slice q' k' d')) br bk bf bm ra n c cnt M g ∧ w0.grownBy ((w.setCell ⟨B, 0, none⟩ (.bool a')).setCell ⟨B, 1, none⟩ (.slice q' k' d')) (some bm) :=
  ⟨DetIs.set h0 (DetIs.set h0 h hg hB hb 0 (.bool a')) (grown_set hg hB _) hB (hb.set0 (.bool a')) 1 _, grown_set (grown_set hg hB _) hB _⟩

theorem NumIs.set2 {w : World} {neg : Bool} {p : Option Addr} {n c : Nat} {xs : List Nat} {z : Int} {L : Nat} (h : NumIs w neg p n c xs z L) {B : Nat} {a : Bool} {q : Option Addr} {k d : Nat} {t : TypeId} (hb : Boxed2 w B (.bool a) (.slice q k d) t) (a' : Bool) (v : Value) :
    NumIs ((w.setCell ⟨B, 0, none⟩ (.bool a')).setCell ⟨B, 1, none⟩ v) neg p n c xs z L := (h.setNum hb 0 _).setNum (hb.set0 (.bool a')) 1 _

theorem Boxed2.grown {w w' : World} {b : Nat} (hm : MapAt w b) (hg : w.grownBy w' (some b)) {B : Nat} {x y : Value} {t : TypeId} (h : Boxed2 w B x y t) : Boxed2 w' B x y t := by
  unfold Boxed2 at *
  exact (hg.block B (Array.getElem?_eq_some_iff.1 h).1 (fun e => hm.ne_cells h (Option.some.inj e))).trans h

/-- What was done before, of what was there before the call. -/
theorem DetIs.grownFix {w0 w : World} {br bk bf bm : Nat} {ra : Option Addr} {n c cnt0 cnt : Nat} {M : List (List Int)} {g0 g : Nat → Option Value} (h0 : DetIs w0 br bk bf bm ra n c cnt0 M g0) (hg : w0.grownBy w (some bm)) (hm : MapIs w bm cnt g) (hk : KeptIs w M n g) : DetIs w br bk bf bm ra n c cnt M g := by
  have hmm := h0.m.at
  have lt : ∀ {b : Nat} {o : Obj}, w0.heap[b]? = some o → b < w0.heap.size := fun h => (Array.getElem?_eq_some_iff.1 h).1
  have ne : ∀ {b : Nat} {cs : Array Value} {t : TypeId} {f : Nat × Nat}, w0.heap[b]? = some (.cells cs t f) → some b ≠ some bm := fun h e => hmm.ne_cells h (Option.some.inj e)
  exact { r := (hg.block br (lt h0.r) (ne h0.r)).trans h0.r, k := (hg.block bk (lt h0.k) (ne h0.k)).trans h0.k, f := (hg.block bf (lt h0.f) (ne h0.f)).trans h0.f, m := hm, rows := h0.rows.grown hmm hg, kept := hk }

end Go.Proofs.YtimcbmgmngkagaaGreatDoor
