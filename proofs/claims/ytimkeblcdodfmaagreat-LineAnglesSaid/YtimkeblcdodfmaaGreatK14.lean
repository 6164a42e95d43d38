/-
  The reference's greatest common divisors; A region that draws its order and ends in 'q, r := ..' for two variables that lie in memory: of the operations ahead of that a relation is known.
-/
import Derived.Test.YtimkeblcdodfmaaGreatK1
import Derived.Test.YtimkeblcdodfmaaGreatK2
import Derived.Test.YtimkeblcdodfmaaGreatK3
import Derived.Test.YtimkeblcdodfmaaGreatK10
import Derived.Test.YtimkeblcdodfmaaGreatK11
import Derived.Test.YtimkeblcdodfmaaGreatK12
import Derived.Test.YtimkeblcdodfmaaGreatK13
namespace Go.Proofs.YtimkeblcdodfmaaGreat
open Go.RowKit
attribute [local go_sem] Oper.semAt_some run_field1 run_field0

/-- What the operations of 'a, b = Abs(a), Abs(b)' yield. -/
def RAbs (vx vy : Value) (x y : Int) (i : Nat) (v : Value) (w : World) : Prop :=
  match i with
  | 0 => v = vx
  | 1 => ∃ neg p n c xs, v = .agg #[.bool neg, .slice p n c] ∧ RIs w neg p n c xs (x.natAbs : Int) ∧ n ≤ 100000
  | 2 => v = vy
  | 3 => ∃ neg p n c xs, v = .agg #[.bool neg, .slice p n c] ∧ RIs w neg p n c xs (y.natAbs : Int) ∧ n ≤ 100000
  | _ => True
theorem RAbs.mono {S : World → Prop} {vx vy : Value} {x y : Int} : ∀ i v w w', S w → S w' → Below w.heap.size w w' → RAbs vx vy x y i v w → RAbs vx vy x y i v w' := by
  intro i v w w' _ _ hb h
  match i, h with
  | 0, h => exact h
  | 1, ⟨neg, p, n, c, xs, e, hr, hn⟩ => exact ⟨neg, p, n, c, xs, e, hr.below hb, hn⟩
  | 2, h => exact h
  | 3, ⟨neg, p, n, c, xs, e, hr, hn⟩ => exact ⟨neg, p, n, c, xs, e, hr.below hb, hn⟩
  | i + 4, _ => trivial

set_option maxRecDepth 100000 in
set_option maxHeartbeats 8000000 in
theorem rgcd_any (a b : Bool) (p q : Option Addr) (n c m d : Nat) (xs ys : List Nat) (x y : Int) (w : World) (hn : n ≤ 100000) (hm : m ≤ 100000) (hx : RIs w a p n c xs x) (hy : RIs w b q m d ys y) :
    Calls Tryz.prog 98 #[.agg #[.bool a, .slice p n c], .agg #[.bool b, .slice q m d]] w (RV w ((Int.gcd x y : Nat) : Int) 100000) := by
  obtain ⟨w1, hw1⟩ : ∃ w1, (((w.alloc (.cells #[.bool a, .slice p n c] 109)).alloc (.cells #[.bool b, .slice q m d] 109)).alloc (.cells #[.bool false, .slice none 0 0] 109)) = w1 := ⟨_, rfl⟩
  have hb1 : Below w.heap.size w w1 := by
    rw [← hw1]
    exact (((Below.refl _ w).alloc (Nat.le_refl _) _).alloc (by simp) _).alloc (by rw [World.size_alloc, World.size_alloc]; omega) _
  have k0 : Blk w1 w.heap.size #[.bool a, .slice p n c] 109 := by
    rw [← hw1]; exact ((Blk.new w _ _).alloc _).alloc _
  have k1 : Blk w1 (w.heap.size + 1) #[.bool b, .slice q m d] 109 := by
    rw [← hw1]; exact (Blk.new' _ _ _ (by simp)).alloc _
  have k2 : Blk w1 (w.heap.size + 1 + 1) #[.bool false, .slice none 0 0] 109 := by
    rw [← hw1]; exact Blk.new' _ _ _ (by simp)
  have HX := Lib.hid (hx.below hb1)
  have HY := Lib.hid (hy.below hb1)
  obtain ⟨G, hG⟩ : ∃ G, Int.gcd x y = G := ⟨_, rfl⟩
  have HGE := Lib.hid hG
  rw [hG]
  clear hx hy hG
  go_enter Tryz.func98, Tryz.ntmps98
  go_wp2_with fail
  go_cut [] from 11 to 14 (fun wx => ∃ (g : Bool) (p' : Option Addr) (n' c' : Nat) (us : List Nat) (h : Bool) (q' : Option Addr) (m' d' : Nat) (vs : List Nat), Blk wx w.heap.size #[.bool g, .slice p' n' c'] 109 ∧ RIs wx g p' n' c' us (x.natAbs : Int) ∧ n' ≤ 100000 ∧ Blk wx (w.heap.size + 1) #[.bool h, .slice q' m' d'] 109 ∧ RIs wx h q' m' d' vs (y.natAbs : Int) ∧ m' ≤ 100000 ∧ Blk wx (w.heap.size + 1 + 1) #[.bool false, .slice none 0 0] 109 ∧ Below w.heap.size w wx)
  case first =>
    refine wp_region_flow_tail' 4 (by kernel_rfl) (by kernel_rfl) (by kernel_rfl) (by decide) (RAbs (.agg #[.bool a, .slice p n c]) (.agg #[.bool b, .slice q m d]) x y) (fun ww => Below w1.heap.size w1 ww) ((Below.refl _ _).drew) RAbs.mono ?_ ?_
    · rintro i hi f ww hS hd
      have f0 := (k0.kept hS).cell (i := 0) rfl
      have f1 := (k0.kept hS).cell (i := 1) rfl
      have f2 := (k1.kept hS).cell (i := 0) rfl
      have f3 := (k1.kept hS).cell (i := 1) rfl
      rcases i with _ | _ | _ | _ | i
      · refine wpOp_list rfl ?_
        simp only [tmOf, putAll, List.map_cons, List.map_nil, List.setIfInBounds_toArray, List.set_cons_zero, List.set_cons_succ]
        go_wp2
        exact ⟨_, ⟨rfl, rfl, rfl, rfl⟩, rfl, Below.refl _ _⟩
      · have g0 : f 0 = .agg #[.bool a, .slice p n c] := hd 0 (by kernel_rfl)
        refine wpOp_list rfl ?_
        simp only [tmOf, putAll, List.map_cons, List.map_nil, List.setIfInBounds_toArray, List.set_cons_zero, List.set_cons_succ]
        go_wp2_with fail
        refine (rabs_any a p n c xs x _ (by omega) (HX.out.below hS)).mono ?_
        rintro e wf ⟨nf, pf, lf, cf, xf, rfl, hzf, hnf, hbf⟩
        go_wp2_with fail
        exact ⟨_, ⟨g0.symm, rfl, rfl, rfl⟩, ⟨_, _, _, _, _, rfl, hzf, by omega⟩, hS.trans (hbf.mono hS.size)⟩
      · refine wpOp_list rfl ?_
        simp only [tmOf, putAll, List.map_cons, List.map_nil, List.setIfInBounds_toArray, List.set_cons_zero, List.set_cons_succ]
        go_wp2
        exact ⟨_, ⟨rfl, rfl, rfl, rfl⟩, rfl, Below.refl _ _⟩
      · have g2 : f 2 = .agg #[.bool b, .slice q m d] := hd 2 (by kernel_rfl)
        refine wpOp_list rfl ?_
        simp only [tmOf, putAll, List.map_cons, List.map_nil, List.setIfInBounds_toArray, List.set_cons_zero, List.set_cons_succ]
        go_wp2_with fail
        refine (rabs_any b q m d ys y _ (by omega) (HY.out.below hS)).mono ?_
        rintro e wf ⟨nf, pf, lf, cf, xf, rfl, hzf, hnf, hbf⟩
        go_wp2_with fail
        exact ⟨_, ⟨rfl, rfl, g2.symm, rfl⟩, ⟨_, _, _, _, _, rfl, hzf, by omega⟩, hS.trans (hbf.mono hS.size)⟩
      · omega
    · rintro f ww hS hd
      have K0 := k0.kept hS
      have K1 := k1.kept hS
      have f0 := K0.cell (i := 0) rfl
      have f1 := K0.cell (i := 1) rfl
      have f2 := K1.cell (i := 0) rfl
      have f3 := K1.cell (i := 1) rfl
      have e0 := K0.frozen 0
      have e1 := K0.frozen 1
      have e2 := K1.frozen 0
      have e3 := K1.frozen 1
      obtain ⟨n1, p1, l1, c1, x1, g1, hz1, hn1⟩ := hd 1 (by decide)
      obtain ⟨n2, p2, l2, c2, x2, g2, hz2, hn2⟩ := hd 3 (by decide)
      simp only [seqW, tmOf, putAll, List.map_cons, List.map_nil, List.setIfInBounds_toArray, List.set_cons_zero, List.set_cons_succ, List.length_cons, List.length_nil]
      refine wpOp_list rfl ?_
      go_wp2
      refine wpOp_list rfl ?_
      go_wp2
      have L0 := (((K0.set_eq 0 (.bool n1) rfl).set_eq 1 (.slice p1 l1 c1) rfl).other (C := w.heap.size + 1) 0 (.bool n2) (by omega)).other (C := w.heap.size + 1) 1 (.slice p2 l2 c2) (by omega)
      have L1' := (K1.other (C := w.heap.size) 0 (.bool n1) (by omega)).other (C := w.heap.size) 1 (.slice p1 l1 c1) (by omega)
      have L1 := (L1'.set_eq 0 (.bool n2) rfl).set_eq 1 (.slice p2 l2 c2) rfl
      have L2 := ((((k2.kept hS).other (C := w.heap.size) 0 (.bool n1) (by omega)).other (C := w.heap.size) 1 (.slice p1 l1 c1) (by omega)).other (C := w.heap.size + 1) 0 (.bool n2) (by omega)).other (C := w.heap.size + 1) 1 (.slice p2 l2 c2) (by omega)
      have M1 := (hz1.setBox K0 n1 (.slice p1 l1 c1)).setBox L1' n2 (.slice p2 l2 c2)
      have M2 := (hz2.setBox K0 n1 (.slice p1 l1 c1)).setBox L1' n2 (.slice p2 l2 c2)
      have hbX := ((((hb1.trans (hS.mono hb1.size)).setCell (p := ⟨w.heap.size, 0, none⟩) (Nat.le_refl _) (.bool n1)).setCell (p := ⟨w.heap.size, 1, none⟩) (Nat.le_refl _) (.slice p1 l1 c1)).setCell (p := ⟨w.heap.size + 1, 0, none⟩) (by simp only; omega) (.bool n2)).setCell (p := ⟨w.heap.size + 1, 1, none⟩) (by simp only; omega) (.slice p2 l2 c2)
      go_meet
      case rel => exact ⟨n1, p1, l1, c1, x1, n2, p2, l2, c2, x2, L0, M1, hn1, L1, M2, hn2, L2, hbX⟩
  case rest =>
    obtain ⟨g1, p1, n1, c1, us, g2, q1, m1, d1, vs, L0, M1, hn1, L1, M2, hm1, L2, hbc⟩ := hcut
    have HM := Lib.hid (And.intro L0 (And.intro M1 (And.intro L1 (And.intro M2 (And.intro L2 hbc)))))
    clear L0 M1 L1 M2 L2 hbc k0 k1 k2 hw1 hb1
    go_wp2_with fail
    go_loopg [] y.natAbs (fun gk wr => ∃ (g : Bool) (p' : Option Addr) (n' c' : Nat) (us : List Nat) (h : Bool) (q' : Option Addr) (m' d' : Nat) (vs : List Nat) (A B : Nat), gk = B ∧ Blk wr w.heap.size #[.bool g, .slice p' n' c'] 109 ∧ RIs wr g p' n' c' us (A : Int) ∧ n' ≤ 100000 ∧ Blk wr (w.heap.size + 1) #[.bool h, .slice q' m' d'] 109 ∧ RIs wr h q' m' d' vs (B : Int) ∧ m' ≤ 100000 ∧ Blk wr (w.heap.size + 1 + 1) #[.bool false, .slice none 0 0] 109 ∧ Hid (Nat.gcd A B = G) ∧ Below w.heap.size w wr)
    case atStart => exact ⟨g1, p1, n1, c1, us, g2, q1, m1, d1, vs, x.natAbs, y.natAbs, rfl, HM.out.1, HM.out.2.1, hn1, HM.out.2.2.1, HM.out.2.2.2.1, hm1, HM.out.2.2.2.2.1, HGE.out, HM.out.2.2.2.2.2⟩
    case round =>
      clear HM
      obtain ⟨g, p', n', c', us, h, q', m', d', vs, A, B, hgk, K0, hA, hn', K1, hB, hm', K2, HGG, hb⟩ := hrel
      have HGK := Lib.hid hgk
      clear hgk
      have f0 := K0.cell (i := 0) rfl
      have f1 := K0.cell (i := 1) rfl
      have f2 := K1.cell (i := 0) rfl
      have f3 := K1.cell (i := 1) rfl
      have e0 := K2.cell (i := 0) rfl
      have e1 := K2.cell (i := 1) rfl
      have e2 := K2.frozen 0
      have e3 := K2.frozen 1
      have hbz := hB.zero_iff
      by_cases hm0 : 0 < m'
      · have hm0i : (0 : Int) < (m' : Int) := by omega
        have hB0 : 0 < B := by
          rcases Nat.eq_zero_or_pos B with e | e
          · have := hbz.1 (by rw [e]; rfl); omega
          · exact e
        have HA := Lib.hid hA
        have HB := Lib.hid hB
        clear hA hB hbz
        by_cases hsm : n' ≤ 4 ∧ m' ≤ 4
        · obtain ⟨s1, s2⟩ := hsm
          have s1i : (n' : Int) ≤ 4 := by omega
          have s2i : (m' : Int) ≤ 4 := by omega
          obtain ⟨ix, vx, x0, x1⟩ := HA.out.int s1
          obtain ⟨iy, vy, y0, y1⟩ := HB.out.int s2
          go_wp2_with fail
          refine (rint_any g p' n' c' us A _ (by omega) HA.out).mono ?_
          rintro e w3 ⟨rfl, hb3⟩
          rw [ix, vx]
          have K1 := K1.kept hb3
          have f2 := K1.cell (i := 0) rfl
          have f3 := K1.cell (i := 1) rfl
          go_wp2_with fail
          refine (rint_any h q' m' d' vs B _ (by omega) (HB.out.below hb3)).mono ?_
          rintro e w4 ⟨rfl, hb4⟩
          rw [iy, vy]
          have hb34 := hb3.trans (hb4.mono hb3.size)
          have K2 := K2.kept hb34
          have hbw := hb.trans (hb34.mono hb.size)
          clear ix vx iy vy hb3 hb4 hb34 K0 K1 f0 f1 f2 f3 e0 e1 e2 e3
          go_wp2_with fail
          go_loopg [5, 7] B (fun gk v5 v7 wx => ∃ (A B : Nat), gk = B ∧ v5 = .int .i64 (A : Int) ∧ v7 = .int .i64 (B : Int) ∧ A < 10000000000000000 ∧ B < 10000000000000000 ∧ Hid (Nat.gcd A B = G) ∧ Blk wx (w.heap.size + 1 + 1) #[.bool false, .slice none 0 0] 109 ∧ Below w.heap.size w wx)
          case atStart => exact ⟨A, B, rfl, rfl, rfl, by omega, by omega, HGG, K2, hbw⟩
          case round =>
            clear hbw K2 HGG hB0 y1 y0 x1 x0 HA HB HGK
            obtain ⟨A, B, hgk, rfl, rfl, hA, hB, HG2, K2, hbw⟩ := hrel
            have HGK := Lib.hid hgk
            clear hgk
            by_cases h0 : B = 0
            · subst h0
              have hA0 : A = G := by have := HG2.out; rw [Nat.gcd_zero_right] at this; exact this
              subst hA0
              go_wp2_with fail
              refine (from_any _ (by omega) (by omega) _).mono ?_
              rintro e w5 ⟨n5, p5, l5, c5, x5, rfl, hz5, hn5, hb5⟩
              have K2 := K2.kept hb5
              have e2 := K2.frozen 0
              have e3 := K2.frozen 1
              have e0 := K2.cell (i := 0) rfl
              have e1 := K2.cell (i := 1) rfl
              have hb5' := hbw.trans (hb5.mono hbw.size)
              go_wp2_with fail
              have u2 := (K2.set_eq 0 (.bool n5) rfl).set_eq 1 (.slice p5 l5 c5) rfl
              have a0 := u2.cell (i := 0) rfl
              have a1 := u2.cell (i := 1) rfl
              refine bodyPost_ret (v := .agg #[.bool n5, .slice p5 l5 c5]) (by simp [results, Tryz.results98, go_sem, a0, a1]) rfl ⟨n5, p5, l5, c5, x5, rfl, hz5.setBox K2 n5 (.slice p5 l5 c5), by omega, ?_⟩
              exact (hb5'.setCell (p := ⟨w.heap.size + 1 + 1, 0, none⟩) (by simp only; omega) _).setCell (p := ⟨w.heap.size + 1 + 1, 1, none⟩) (by simp only; omega) _
            · have h0i : ¬ (B : Int) = 0 := by omega
              have h0p : (0 : Int) < (B : Int) := by omega
              obtain ⟨R, hR⟩ : ∃ R, A % B = R := ⟨_, rfl⟩
              have hRb : R < B := by rw [← hR]; exact Nat.mod_lt _ (by omega)
              have hRi : (A : Int) % (B : Int) = (R : Int) := by rw [← hR]; simp
              have HR := Lib.hid hR
              clear hR
              go_wp2_with fail
              go_quiet (fail)
              go_wp2_with fail
              go_roundg R
              case measure => rw [HGK.out]; exact hRb
              case rel => exact ⟨B, R, rfl, rfl, by first | rfl | exact congrArg (Value.int .i64) hRi, hB, by omega, by show Nat.gcd B R = _; rw [← HG2.out, ← HR.out, Nat.gcd_comm A B, Nat.gcd_rec B A, Nat.gcd_comm], K2, by first | exact hbw | exact below_drewN hbw _⟩
        · go_upto_region 3 with fail
          go_cut [28] from 19 to 28 (fun v wx => v = .bool false ∧ Hid (wr = wx))
          case first =>
            by_cases s1 : n' ≤ 4
            · have s1i : (n' : Int) ≤ 4 := by omega
              have s2i : ¬ (m' : Int) ≤ 4 := by omega
              go_wp2_with fail
              go_meet
              case rel => exact ⟨rfl, rfl⟩
            · have s1i : ¬ (n' : Int) ≤ 4 := by omega
              go_wp2_with fail
              go_meet
              case rel => exact ⟨rfl, rfl⟩
          case rest =>
            obtain ⟨rfl, hcut⟩ := hcut
            obtain rfl := hcut.out
            clear hcut
            go_wp2_with fail
            refine (rdiv_any _ _ _ _ _ _ _ _ us vs _ _ _ hn' hm' HA.out HB.out (by omega)).mono ?_
            rintro e w4 ⟨n5, p5, l5, c5, x5, n6, p6, l6, c6, x6, rfl, hz5, hz6, hb4⟩
            have hmd : (A : Int) % (B : Int) = ((A % B : Nat) : Int) := by simp
            rw [hmd] at hz6
            have hlt : A % B < B := Nat.mod_lt _ hB0
            obtain ⟨R, hR⟩ : ∃ R, A % B = R := ⟨_, rfl⟩
            rw [hR] at hz6 hlt
            have hl6 : l6 ≤ m' := hz6.len_le (by
              have h1 := HB.out.lt
              rw [Int.natAbs_natCast] at h1 ⊢
              omega)
            obtain ⟨wq, hwq⟩ : ∃ wq, (w4.alloc (.cells #[.bool n5, .slice p5 l5 c5] 109)).alloc (.cells #[.bool n6, .slice p6 l6 c6] 109) = wq := ⟨_, rfl⟩
            have hb4q : Below w4.heap.size w4 wq := by rw [← hwq]; exact ((Below.refl _ _).alloc (Nat.le_refl _) _).alloc (by simp) _
            have kq : Blk wq (w4.heap.size + 1) #[.bool n6, .slice p6 l6 c6] 109 := by rw [← hwq]; exact Blk.new' _ _ _ (by simp)
            have hbq := hb4.trans (hb4q.mono hb4.size)
            have szr : w.heap.size + 1 + 1 < wr.heap.size := K2.lt
            have sz4 : wr.heap.size ≤ w4.heap.size := hb4.size
            have K0 := K0.kept hbq
            have K1 := K1.kept hbq
            have K2 := K2.kept hbq
            have f0 := K0.cell (i := 0) rfl
            have f1 := K0.cell (i := 1) rfl
            have f2 := K1.cell (i := 0) rfl
            have f3 := K1.cell (i := 1) rfl
            have e0 := K0.frozen 0
            have e1 := K0.frozen 1
            have e2 := K1.frozen 0
            have e3 := K1.frozen 1
            have x2 := kq.cell (i := 0) rfl
            have x3 := kq.cell (i := 1) rfl
            have nn1 : w.heap.size ≠ w4.heap.size + 1 := by omega
            have nn2 : w.heap.size + 1 ≠ w4.heap.size + 1 := by omega
            have nn3 : ¬ w.heap.size = w4.heap.size := by omega
            have nn4 : ¬ w4.heap.size + 1 = w.heap.size := by omega
            have nn5 : ¬ w4.heap.size = w.heap.size := by omega
            have hz6q := hz6.below hb4q
            have hBq := HB.out.below hbq
            have HZ6 := Lib.hid (And.intro hz6q hBq)
            have HRE := Lib.hid hR
            clear hz5 hz6 hz6q hBq hR hmd
            go_wp2_with fail
            go_region
            all_goals
              go_wp2
              have u0 := ((K0.set_eq 0 (.bool h) rfl).set_eq 1 (.slice q' m' d') rfl)
              have u1 := (K1.other (C := w.heap.size) 0 (.bool h) (by omega)).other (C := w.heap.size) 1 (.slice q' m' d') (by omega)
              have v0 := (u0.other (C := w.heap.size + 1) 0 (.bool n6) (by omega)).other (C := w.heap.size + 1) 1 (.slice p6 l6 c6) (by omega)
              have v1 := (u1.set_eq 0 (.bool n6) rfl).set_eq 1 (.slice p6 l6 c6) rfl
              have v2 := (((K2.other (C := w.heap.size) 0 (.bool h) (by omega)).other (C := w.heap.size) 1 (.slice q' m' d') (by omega)).other (C := w.heap.size + 1) 0 (.bool n6) (by omega)).other (C := w.heap.size + 1) 1 (.slice p6 l6 c6) (by omega)
              have a1 := (HZ6.out.1.setBox K0 h (.slice q' m' d')).setBox u1 n6 (.slice p6 l6 c6)
              have a2 := (HZ6.out.2.setBox K0 h (.slice q' m' d')).setBox u1 n6 (.slice p6 l6 c6)
              have hbz := ((((hb.trans (hbq.mono hb.size)).setCell (p := ⟨w.heap.size, 0, none⟩) (Nat.le_refl _) (.bool h)).setCell (p := ⟨w.heap.size, 1, none⟩) (Nat.le_refl _) (.slice q' m' d')).setCell (p := ⟨w.heap.size + 1, 0, none⟩) (by simp only; omega) (.bool n6)).setCell (p := ⟨w.heap.size + 1, 1, none⟩) (by simp only; omega) (.slice p6 l6 c6)
              go_roundg R
              case measure => rw [HGK.out]; exact hlt
              case rel => exact ⟨h, q', m', d', vs, n6, p6, l6, c6, x6, B, R, rfl, v0, a2.drew, hm', v1, a1.drew, by omega, v2, by show Nat.gcd B R = _; rw [← HGG.out, ← HRE.out, Nat.gcd_comm A B, Nat.gcd_rec B A, Nat.gcd_comm], hbz.drew⟩
      · obtain rfl : m' = 0 := by omega
        have hB0 : B = 0 := by have := hbz.2 rfl; omega
        subst hB0
        have hA0 : A = G := by have := HGG.out; rw [Nat.gcd_zero_right] at this; exact this
        subst hA0
        clear hbz hB
        go_wp2_with fail
        have u2 := (K2.set_eq 0 (.bool g) rfl).set_eq 1 (.slice p' n' c') rfl
        have a0 := u2.cell (i := 0) rfl
        have a1 := u2.cell (i := 1) rfl
        refine bodyPost_ret (v := .agg #[.bool g, .slice p' n' c']) (by simp [results, Tryz.results98, go_sem, a0, a1]) rfl ⟨g, p', n', c', us, rfl, hA.setBox K2 g (.slice p' n' c'), hn', ?_⟩
        exact (hb.setCell (p := ⟨w.heap.size + 1 + 1, 0, none⟩) (by simp only; omega) _).setCell (p := ⟨w.heap.size + 1 + 1, 1, none⟩) (by simp only; omega) _

end Go.Proofs.YtimkeblcdodfmaaGreat

namespace Go.Proofs.YtimkeblcdodfmaaGreat
open Go.RowKit
variable {P : Program} {Q : Exit → Act → World → Prop}

theorem wp_region_def2R {id : Nat} {l : List Oper} {a : Act} {w : World} (n j0 j1 : Nat) (R : Nat → Value → World → Prop) (Z : Array Value) (T : TypeId) (hm : P.follows .mixedOrders = true) (hE : earlierB l = true) (hlen : l.length = n + 4)
    (hj0 : j0 < n) (hj1 : j1 < n) (dj0 : depB l (n + 2) j0 = true) (dj1 : depB l (n + 3) j1 = true)
    (mono : ∀ i v w w', Below w.heap.size w w' → R i v w → R i v w')
    (monoS : ∀ i v w' b v0 v1, Blk w' b Z T → R i v w' → R i v ((w'.setCell ⟨b, 0, none⟩ v0).setCell ⟨b, 1, none⟩ v1))
    (d1 : depB l (n + 2) n = true) (d2 : depB l (n + 3) (n + 1) = true)
    (step : ∀ i, i < n → ∀ f w', Below w.heap.size w w' → (∀ j, j < n → depB l i j = true → R j (f j) w') → wpOp P l.toArray Q i (fun a' w'' => ∃ v, a' = tmOf a l (upd f i v) ∧ R i v w'' ∧ Below w'.heap.size w' w'') (tmOf a l f) w')
    (al : ∀ i, (i = n ∨ i = n + 1) → ∀ f w', wpOp P l.toArray Q i (fun a' w'' => a' = tmOf a l (upd f i (.pointer (some ⟨w'.heap.size, 0, none⟩))) ∧ w'' = w'.alloc (.cells Z T)) (tmOf a l f) w')
    (st0 : ∀ f w' b, (∀ j, j < n → depB l (n + 2) j = true → R j (f j) w') → f n = .pointer (some ⟨b, 0, none⟩) → Blk w' b Z T → wpOp P l.toArray Q (n + 2) (fun a' w'' => a' = tmOf a l f ∧ ∃ v0 v1, w'' = (w'.setCell ⟨b, 0, none⟩ v0).setCell ⟨b, 1, none⟩ v1 ∧ (Z.setIfInBounds 0 v0).setIfInBounds 1 v1 = (f j0).cells) (tmOf a l f) w')
    (st1 : ∀ f w' b, (∀ j, j < n → depB l (n + 3) j = true → R j (f j) w') → f (n + 1) = .pointer (some ⟨b, 0, none⟩) → Blk w' b Z T → wpOp P l.toArray Q (n + 3) (fun a' w'' => a' = tmOf a l f ∧ ∃ v0 v1, w'' = (w'.setCell ⟨b, 0, none⟩ v0).setCell ⟨b, 1, none⟩ v1 ∧ (Z.setIfInBounds 0 v0).setIfInBounds 1 v1 = (f j1).cells) (tmOf a l f) w')
    (done : ∀ f w' b0 b1, Below w.heap.size w w' → b0 ≠ b1 → w.heap.size ≤ b0 → w.heap.size ≤ b1 → f n = .pointer (some ⟨b0, 0, none⟩) → f (n + 1) = .pointer (some ⟨b1, 0, none⟩) → Blk w' b0 (f j0).cells T → Blk w' b1 (f j1).cells T → (∀ i, i < n → R i (f i) w') → Q .normal (tmOf a l f) w') : (Code.region id l.toArray true).wp P Q a w := by
  have h : (Code.region id l.toArray true).wp P Q (tmOf a l (slotsOf a.tmps (l.map (·.dst)) 0)) w := by
    refine wp_region_inv hm hE (fun L a' w' => ∃ f, a' = tmOf a l f ∧ Below w.heap.size w w' ∧ (∀ i, i < n → L i = true → R i (f i) w') ∧
      (L n = true → ∃ b, f n = .pointer (some ⟨b, 0, none⟩) ∧ w.heap.size ≤ b ∧ Blk w' b (if L (n + 2) = true then (f j0).cells else Z) T ∧ (L (n + 1) = true → f (n + 1) ≠ .pointer (some ⟨b, 0, none⟩))) ∧
      (L (n + 1) = true → ∃ b, f (n + 1) = .pointer (some ⟨b, 0, none⟩) ∧ w.heap.size ≤ b ∧ Blk w' b (if L (n + 3) = true then (f j1).cells else Z) T) ∧ (L (n + 2) = true → L n = true ∧ L j0 = true) ∧ (L (n + 3) = true → L (n + 1) = true ∧ L j1 = true))
      ⟨_, rfl, (Below.refl _ _).drew, fun _ _ h => (by cases h), fun h => (by cases h), fun h => (by cases h), fun h => (by cases h), fun h => (by cases h)⟩ ?_ ?_
    · rintro L i a' w' ⟨f, rfl, hs, hr, h0, h1, c0, c1⟩ hi hL hd
      have hdep : ∀ k j, k = i → j < n → depB l k j = true → R j (f j) w' := fun k j hk hj hdj => hr j hj (depsB_dep hd (hk ▸ hdj))
      rw [hlen] at hi
      rcases Nat.lt_or_ge i n with hin | hin
      · refine wpOp_mono (fun a' w'' h => ?_) (step i hin f w' hs (fun j => hdep i j rfl))
        obtain ⟨v, rfl, hv, hb⟩ := h
        have u0 : (if L (n + 2) = true then (upd f i v j0).cells else Z) = if L (n + 2) = true then (f j0).cells else Z := by
          split
          · rename_i e
            have : j0 ≠ i := fun e' => by rw [← e', (c0 e).2] at hL; cases hL
            simp only [upd, if_neg this]
          · rfl
        have u1 : (if L (n + 3) = true then (upd f i v j1).cells else Z) = if L (n + 3) = true then (f j1).cells else Z := by
          split
          · rename_i e
            have : j1 ≠ i := fun e' => by rw [← e', (c1 e).2] at hL; cases hL
            simp only [upd, if_neg this]
          · rfl
        have e0 : (n == i) = false := by simp; omega
        have e1 : (n + 1 == i) = false := by simp; omega
        have e2 : (n + 2 == i) = false := by simp; omega
        have e3 : (n + 3 == i) = false := by simp; omega
        refine ⟨_, rfl, hs.trans (hb.mono hs.size), fun j hj hj2 => ?_, ?_, ?_, ?_, ?_⟩
        · by_cases e : j = i
          · subst e; simp only [upd, if_true]; exact hv
          · simp only [upd, if_neg e]; exact mono _ _ _ _ hb (hr j hj (by simpa [e] using hj2))
        · simp only [e0, e1, e2, Bool.or_false, u0]
          simp only [upd, if_neg (show ¬ n = i by omega), if_neg (show ¬ n + 1 = i by omega)]
          intro hx
          obtain ⟨b, hf, hb0, hB, hne⟩ := h0 hx
          exact ⟨b, hf, hb0, hB.kept hb, hne⟩
        · simp only [e1, e3, Bool.or_false, u1]
          simp only [upd, if_neg (show ¬ n + 1 = i by omega)]
          intro hx
          obtain ⟨b, hf, hb0, hB⟩ := h1 hx
          exact ⟨b, hf, hb0, hB.kept hb⟩
        · simp only [e0, e2, Bool.or_false]; exact fun h => ⟨(c0 h).1, by simp [(c0 h).2]⟩
        · simp only [e1, e3, Bool.or_false]; exact fun h => ⟨(c1 h).1, by simp [(c1 h).2]⟩
      · have hi4 : i = n ∨ i = n + 1 ∨ i = n + 2 ∨ i = n + 3 := by omega
        rcases hi4 with e | e | e | e
        · subst e
          refine wpOp_mono (fun a' w'' h => ?_) (al i (Or.inl rfl) f w')
          obtain ⟨rfl, rfl⟩ := h
          have l2 : L (i + 2) = false := by
            cases e : L (i + 2)
            · rfl
            · rw [(c0 e).1] at hL; cases hL
          have nj0 : ¬ j0 = i := by omega
          have nj1 : ¬ j1 = i := by omega
          refine ⟨_, rfl, hs.alloc hs.size _, fun j hj hj2 => ?_, ?_, ?_, ?_, ?_⟩
          · simp only [upd, if_neg (show ¬ j = i by omega)]
            exact mono _ _ _ _ ((Below.refl _ w').alloc (Nat.le_refl _) _) (hr j hj (by
              have : (j == i) = false := by simp; omega
              simpa [this] using hj2))
          · intro _
            refine ⟨w'.heap.size, by simp [upd], hs.size, ?_, ?_⟩
            · simp only [l2, show (i + 2 == i) = false by simp, Bool.or_false, Bool.false_eq_true, if_false]
              exact Blk.new _ _ _
            · simp only [show (i + 1 == i) = false by simp, Bool.or_false, upd, if_neg (show ¬ i + 1 = i by omega)]
              intro hx hy
              obtain ⟨b, hf, _, hB⟩ := h1 hx
              rw [hf] at hy
              have := hB.lt
              injection hy with hy; injection hy with hy; injection hy with hy
              omega
          · simp only [show (i + 1 == i) = false by simp, show (i + 3 == i) = false by simp, Bool.or_false, upd, if_neg (show ¬ i + 1 = i by omega), if_neg nj1]
            intro hx
            obtain ⟨b, hf, hb0, hB⟩ := h1 hx
            exact ⟨b, hf, hb0, hB.alloc _⟩
          · intro hx; simp [l2] at hx
          · simp only [show (i + 1 == i) = false by simp, show (i + 3 == i) = false by simp, Bool.or_false]; exact fun h => ⟨(c1 h).1, by simp [(c1 h).2]⟩
        · subst e
          refine wpOp_mono (fun a' w'' h => ?_) (al (n + 1) (Or.inr rfl) f w')
          obtain ⟨rfl, rfl⟩ := h
          have l2 : L (n + 3) = false := by
            cases e : L (n + 3)
            · rfl
            · rw [(c1 e).1] at hL; cases hL
          have nj0 : ¬ j0 = n + 1 := by omega
          have nj1 : ¬ j1 = n + 1 := by omega
          refine ⟨_, rfl, hs.alloc hs.size _, fun j hj hj2 => ?_, ?_, ?_, ?_, ?_⟩
          · simp only [upd, if_neg (show ¬ j = n + 1 by omega)]
            exact mono _ _ _ _ ((Below.refl _ w').alloc (Nat.le_refl _) _) (hr j hj (by
              have : (j == n + 1) = false := by simp; omega
              simpa [this] using hj2))
          · simp only [show (n == n + 1) = false by simp, show (n + 2 == n + 1) = false by simp, Bool.or_false, upd, if_neg (show ¬ n = n + 1 by omega), if_neg nj0]
            intro hx
            obtain ⟨b, hf, hb0, hB, hne⟩ := h0 hx
            refine ⟨b, hf, hb0, hB.alloc _, fun _ hy => ?_⟩
            simp only [if_true] at hy
            have := hB.lt
            injection hy with hy; injection hy with hy; injection hy with hy
            omega
          · intro _
            refine ⟨w'.heap.size, by simp [upd], hs.size, ?_⟩
            simp only [l2, show (n + 3 == n + 1) = false by simp, Bool.or_false, Bool.false_eq_true, if_false]
            exact Blk.new _ _ _
          · simp only [show (n == n + 1) = false by simp, show (n + 2 == n + 1) = false by simp, Bool.or_false]; exact fun h => ⟨(c0 h).1, by simp [(c0 h).2]⟩
          · intro hx; simp [l2] at hx
        · subst e
          have ln : L n = true := depsB_dep hd d1
          have lj0 : L j0 = true := depsB_dep hd dj0
          obtain ⟨b, hf, hb0, hB, hne⟩ := h0 ln
          rw [hL] at hB
          simp only [Bool.false_eq_true, if_false] at hB
          refine wpOp_mono (fun a' w'' h => ?_) (st0 f w' b (fun j => hdep (n + 2) j rfl) hf hB)
          obtain ⟨rfl, v0, v1, rfl, hq⟩ := h
          refine ⟨f, rfl, (hs.setCell hb0 _).setCell hb0 _, fun j hj hj2 => ?_, ?_, ?_, ?_, ?_⟩
          · exact monoS _ _ _ _ _ _ hB (hr j hj (by
              have : (j == n + 2) = false := by simp; omega
              simpa [this] using hj2))
          · intro _
            refine ⟨b, hf, hb0, ?_, ?_⟩
            · simp only [BEq.rfl, Bool.or_true, if_true]
              rw [← hq]; exact (hB.set 0 v0).set 1 v1
            · simp only [show (n + 1 == n + 2) = false by simp, Bool.or_false]; exact hne
          · simp only [show (n + 1 == n + 2) = false by simp, show (n + 3 == n + 2) = false by simp, Bool.or_false]
            intro hx
            obtain ⟨b', hf', hb', hB'⟩ := h1 hx
            have hbb : b ≠ b' := fun e => hne hx (by rw [hf', e])
            exact ⟨b', hf', hb', (hB'.other 0 _ hbb).other 1 _ hbb⟩
          · intro _; simp [ln, lj0]
          · simp only [show (n + 1 == n + 2) = false by simp, show (n + 3 == n + 2) = false by simp, Bool.or_false]; exact fun h => ⟨(c1 h).1, by simp [(c1 h).2]⟩
        · subst e
          have ln : L (n + 1) = true := depsB_dep hd d2
          have lj1 : L j1 = true := depsB_dep hd dj1
          obtain ⟨b, hf, hb0, hB⟩ := h1 ln
          rw [hL] at hB
          simp only [Bool.false_eq_true, if_false] at hB
          refine wpOp_mono (fun a' w'' h => ?_) (st1 f w' b (fun j => hdep (n + 3) j rfl) hf hB)
          obtain ⟨rfl, v0, v1, rfl, hq⟩ := h
          refine ⟨f, rfl, (hs.setCell hb0 _).setCell hb0 _, fun j hj hj2 => ?_, ?_, ?_, ?_, ?_⟩
          · exact monoS _ _ _ _ _ _ hB (hr j hj (by
              have : (j == n + 3) = false := by simp; omega
              simpa [this] using hj2))
          · simp only [show (n == n + 3) = false by simp, show (n + 1 == n + 3) = false by simp, show (n + 2 == n + 3) = false by simp, Bool.or_false]
            intro hx
            obtain ⟨b', hf', hb', hB', hne⟩ := h0 hx
            have hbb : b ≠ b' := fun e => hne ln (by rw [hf, e])
            exact ⟨b', hf', hb', (hB'.other 0 _ hbb).other 1 _ hbb, hne⟩
          · intro _
            refine ⟨b, hf, hb0, ?_⟩
            simp only [BEq.rfl, Bool.or_true, if_true]
            rw [← hq]; exact (hB.set 0 v0).set 1 v1
          · simp only [show (n == n + 3) = false by simp, show (n + 2 == n + 3) = false by simp, Bool.or_false]; exact fun h => ⟨(c0 h).1, by simp [(c0 h).2]⟩
          · intro _; simp [ln, lj1]
    · rintro L a' w' hall ⟨f, rfl, hs, hr, h0, h1, c0, c1⟩
      obtain ⟨b0, hf0, hb0, hB0, hne⟩ := h0 (hall n (by omega))
      obtain ⟨b1, hf1, hb1, hB1⟩ := h1 (hall (n + 1) (by omega))
      rw [hall (n + 2) (by omega)] at hB0
      rw [hall (n + 3) (by omega)] at hB1
      simp only [if_true] at hB0 hB1
      exact done f w' b0 b1 hs (fun e => hne (hall (n + 1) (by omega)) (by rw [hf1, e])) hb0 hb1 hf0 hf1 hB0 hB1 (fun i hi => hr i hi (hall i (by omega)))
  rw [tmOf_same] at h
  exact h

end Go.Proofs.YtimkeblcdodfmaaGreat
