/-
  LineDirections, its walk.
-/
import Derived.Test.YtimkeblcdodfmaaGreatK1
import Derived.Test.YtimkeblcdodfmaaGreatK2
import Derived.Test.YtimkeblcdodfmaaGreatK3
import Derived.Test.YtimkeblcdodfmaaGreatK4
import Derived.Test.YtimkeblcdodfmaaGreatK5
import Derived.Test.YtimkeblcdodfmaaGreatK6
import Derived.Test.YtimkeblcdodfmaaGreatK7
import Derived.Test.YtimkeblcdodfmaaGreatK8
import Derived.Test.YtimkeblcdodfmaaGreatK9
import Derived.Test.YtimkeblcdodfmaaGreatK10
import Derived.Test.YtimkeblcdodfmaaGreatK11
import Derived.Test.YtimkeblcdodfmaaGreatK12
import Derived.Test.YtimkeblcdodfmaaGreatK13
import Derived.Test.YtimkeblcdodfmaaGreatK14
import Derived.Test.YtimkeblcdodfmaaGreatK15
import Derived.Test.YtimkeblcdodfmaaGreatK16
import Derived.Test.YtimkeblcdodfmaaGreatK17
import Derived.Test.YtimkeblcdodfmaaGreatK18
import Derived.Test.YtimkeblcdodfmaaGreatK19
import Derived.Test.YtimkeblcdodfmaaGreatK20
import Derived.Test.YtimkeblcdodfmaaGreatK21
import Derived.Test.YtimkeblcdodfmaaGreatK22
import Derived.Test.YtimkeblcdodfmaaGreatK23
import Derived.Test.YtimkeblcdodfmaaGreatK24
import Derived.Test.YtimkeblcdodfmaaGreatK25
namespace Go.Proofs.YtimkeblcdodfmaaGreat
open Go.RowKit Go.Shelf
attribute [local go_sem] Oper.semAt_some

theorem dot_comm3 (u v : V3) : dotV u v = dotV v u := by unfold dotV; grind
theorem badZ_nil (p q : V4) : badZ p q [] = lineE p q := by
  unfold badZ lineE
  by_cases h : RightQ p ∧ RightQ q
  · rw [if_pos ⟨h.1, h.2, fun r hr => by simp at hr⟩]
  · rw [if_neg h, if_neg (fun hc => h ⟨hc.1, hc.2.1⟩)]
theorem badZ_one (p q r : V4) : badZ p q [r] = lineE3 p q r := by
  unfold badZ lineE3 lineE
  by_cases h : RightQ p ∧ RightQ q ∧ RightQ r
  · rw [if_pos h, if_pos ⟨h.1, h.2.1, fun x hx => by rw [List.mem_singleton.1 hx]; exact h.2.2⟩, if_pos ⟨h.1, h.2.1⟩]
  · rw [if_neg h, if_neg (fun hc => h ⟨hc.1, hc.2.1, hc.2.2 r (by simp)⟩)]
theorem lineE3_lineE {p q r : V4} (h : lineE3 p q r = 0) : lineE p q = 0 := by
  have hg := lineE3_good h
  rw [← lineE3_of (p := p) (q := q) hg.2.2]; exact h

attribute [local irreducible] wpOp
set_option maxRecDepth 100000 in
set_option maxHeartbeats 8000000 in
theorem lineDirections_walk (p q r : V4) (w : World) (hp : InV p) (hq : InV q) (hr : InV r) :
    Calls Tryz.prog 3 #[.agg #[.int .i64 p.a, .int .i64 p.b, .int .i64 p.c, .int .i64 p.d], .agg #[.int .i64 q.a, .int .i64 q.b, .int .i64 q.c, .int .i64 q.d], .agg #[.int .i64 r.a, .int .i64 r.b, .int .i64 r.c, .int .i64 r.d]] w fun e w' => e = .returned (.bool true) ∧ Below w.heap.size w w' := by
  obtain ⟨w1, hw1⟩ : ∃ w1, (((w.alloc (.cells #[.int .i64 p.a, .int .i64 p.b, .int .i64 p.c, .int .i64 p.d] 23)).alloc (.cells #[.int .i64 q.a, .int .i64 q.b, .int .i64 q.c, .int .i64 q.d] 23)).alloc (.cells #[.int .i64 r.a, .int .i64 r.b, .int .i64 r.c, .int .i64 r.d] 23)) = w1 := ⟨_, rfl⟩
  have hb1 : Below w.heap.size w w1 := by rw [← hw1]; exact bw3 w _ _ _
  have k0 : Blk w1 (w.heap.size) #[.int .i64 p.a, .int .i64 p.b, .int .i64 p.c, .int .i64 p.d] 23 := by rw [← hw1]; exact (((Blk.new w _ _).alloc _).alloc _)
  have k1 : Blk w1 (w.heap.size + 1) #[.int .i64 q.a, .int .i64 q.b, .int .i64 q.c, .int .i64 q.d] 23 := by rw [← hw1]; exact ((Blk.new' _ _ _ (by simp)).alloc _)
  have k2 : Blk w1 (w.heap.size + 1 + 1) #[.int .i64 r.a, .int .i64 r.b, .int .i64 r.c, .int .i64 r.d] 23 := by rw [← hw1]; exact (Blk.new' _ _ _ (by simp))
  go_enter Tryz.func3, Tryz.ntmps3
  go_wp2_with fail
  go_loopg [7] 2 (fun gk v7 wr => ∃ (i : Nat) (p q r : V4), i ≤ 2 ∧ gk = 2 - i ∧ v7 = .int .i64 (i : Int) ∧ InV p ∧ InV q ∧ InV r ∧ Blk wr (w.heap.size) #[.int .i64 p.a, .int .i64 p.b, .int .i64 p.c, .int .i64 p.d] 23 ∧ Blk wr (w.heap.size + 1) #[.int .i64 q.a, .int .i64 q.b, .int .i64 q.c, .int .i64 q.d] 23 ∧ Blk wr (w.heap.size + 1 + 1) #[.int .i64 r.a, .int .i64 r.b, .int .i64 r.c, .int .i64 r.d] 23 ∧ Below w.heap.size w wr)
  case atStart => exact ⟨0, p, q, r, by decide, rfl, rfl, hp, hq, hr, k0, k1, k2, hb1⟩
  case round =>
    clear hp hq hr k0 k1 k2 hb1 hw1
    obtain ⟨i, p, q, r, hi, hgk, rfl, hp, hq, hr, k0, k1, k2, hb⟩ := hrel
    have HGK := Lib.hid hgk
    clear hgk
    by_cases hlt : i < 2
    · have hlti : (i : Int) < 2 := by omega
      have hkl : w.heap.size + 1 + 1 < wr.heap.size := k2.lt
      have htp := fun W => tame_any p 4 W hp (by decide) (by decide)
      have htq := fun W => tame_any q 4 W hq (by decide) (by decide)
      have htr := fun W => tame_any r 4 W hr (by decide) (by decide)
      have ip : InV (tameV p 4) := right_in (tame_right (by decide) (by decide))
      have iq : InV (tameV q 4) := right_in (tame_right (by decide) (by decide))
      have ir : InV (tameV r 4) := right_in (tame_right (by decide) (by decide))
      obtain ⟨pp, hpp⟩ : ∃ y, tameV p 4 = y := ⟨_, rfl⟩
      obtain ⟨qq, hqq⟩ : ∃ y, tameV q 4 = y := ⟨_, rfl⟩
      obtain ⟨rr, hrr⟩ : ∃ y, tameV r 4 = y := ⟨_, rfl⟩
      rw [hpp] at htp ip
      rw [hqq] at htq iq
      rw [hrr] at htr ir
      have HTP := Lib.hid htp
      have HTQ := Lib.hid htq
      have HTR := Lib.hid htr
      have HIN := Lib.hid (And.intro ip (And.intro iq ir))
      clear htp htq htr ip iq ir hpp hqq hrr
      have hd := fun W => directionApi_any p q W hp hq
      have hc := fun W => crosses_any p q r W hp hq hr
      have hl := fun W => left_any p q r W hp hq hr
      have hb0 := fun W => bad5_any p q none 0 0 [] W hp hq (fun x hx => by simp at hx) rfl (by decide) (fun i q hi => by simp at hi)
      rw [badZ_nil] at hb0
      have hb1 := fun b W (hR : RdV W (some ⟨b, 0, none⟩) [r]) => bad5_any p q (some ⟨b, 0, none⟩) 1 1 [r] W hp hq (fun x hx => by rw [List.mem_singleton.1 hx]; exact hr) rfl (by decide) hR
      simp only [badZ_one] at hb1
      by_cases hE3 : lineE3 p q r = 0
      · have hE := lineE3_lineE hE3
        obtain ⟨rp, rq, hne⟩ := lineE_good hE
        have rr' := (lineE3_good hE3).2.2
        have e1 : dirP p q = dirV p q := by unfold dirP; rw [if_pos hE]
        have ec : crossS p q r = sgnI (dotV (dirV p q) (nrm r)) := by unfold crossS; rw [if_pos hE3]
        have el : leftS p q r = sgnI (dotV (nrm r) (crsV (nrm p) (dirV p q))) := by unfold leftS; rw [if_pos hE3, dot_comm3]
        rw [hE, e1] at hd
        rw [hE3] at hc hl
        rw [hE] at hb0
        simp only [hE3] at hb1
        have hrd := fun W => directionR_any p q W rp rq hne
        have hrn := fun W => normalR_any r W
        have hrt := fun W => dotR_any (dirV p q) (nrm r) 2000000 1000 W (dir_far rp rq) (nrm_far rr') (by decide)
        have hrs := fun W => signR_any (dotV (dirV p q) (nrm r)) W
        have hrl := fun W => leftR_any p q r W rp rq rr' hne
        rw [← ec] at hrs
        rw [← el] at hrl
        have heqd := fun W => eqVec (dirV p q) (dirV p q) W
        simp only [decide_true] at heqd
        generalize crossS p q r = C at *
        generalize leftS p q r = L at *
        generalize nrm r = n at *
        generalize dirV p q = d at *
        generalize dotV d n = t at *
        have HD := Lib.hid hd
        have HC := Lib.hid hc
        have HL := Lib.hid hl
        have HB0 := Lib.hid hb0
        have HB1 := Lib.hid hb1
        have HRD := Lib.hid hrd
        have HRN := Lib.hid hrn
        have HRT := Lib.hid hrt
        have HRS := Lib.hid hrs
        have HRL := Lib.hid hrl
        clear hd hc hl hb0 hb1 hrd hrn hrt hrs hrl e1 ec el hE hE3 rp rq rr' hne hp hq hr
        have k0_0 := k0.cell (i := 0) rfl
        have k0_1 := k0.cell (i := 1) rfl
        have k0_2 := k0.cell (i := 2) rfl
        have k0_3 := k0.cell (i := 3) rfl
        have k1_0 := k1.cell (i := 0) rfl
        have k1_1 := k1.cell (i := 1) rfl
        have k1_2 := k1.cell (i := 2) rfl
        have k1_3 := k1.cell (i := 3) rfl
        have k2_0 := k2.cell (i := 0) rfl
        have k2_1 := k2.cell (i := 1) rfl
        have k2_2 := k2.cell (i := 2) rfl
        have k2_3 := k2.cell (i := 3) rfl
        go_wp2_with fail
        refine (HD.out _).mono ?_
        rintro e' wc1 ⟨rfl, hc1⟩
        clear k0_0 k0_1 k0_2 k0_3 k1_0 k1_1 k1_2 k1_3 k2_0 k2_1 k2_2 k2_3
        have k0 := k0.kept hc1
        have k1 := k1.kept hc1
        have k2 := k2.kept hc1
        have hb := hb.trans (hc1.mono hb.size)
        clear hc1
        have k0_0 := k0.cell (i := 0) rfl
        have k0_1 := k0.cell (i := 1) rfl
        have k0_2 := k0.cell (i := 2) rfl
        have k0_3 := k0.cell (i := 3) rfl
        have k1_0 := k1.cell (i := 0) rfl
        have k1_1 := k1.cell (i := 1) rfl
        have k1_2 := k1.cell (i := 2) rfl
        have k1_3 := k1.cell (i := 3) rfl
        have k2_0 := k2.cell (i := 0) rfl
        have k2_1 := k2.cell (i := 1) rfl
        have k2_2 := k2.cell (i := 2) rfl
        have k2_3 := k2.cell (i := 3) rfl
        clear k2_0 k2_1 k2_2 k2_3
        clear k0_0 k0_1 k0_2 k0_3 k1_0 k1_1 k1_2 k1_3
        obtain ⟨wa2, hwa2⟩ : ∃ w', wc1.alloc (.cells #[.int .i64 0, .int .i64 0, .int .i64 0] 24) = w' := ⟨_, rfl⟩
        have kk2 : Blk wa2 wc1.heap.size #[.int .i64 0, .int .i64 0, .int .i64 0] 24 := by rw [← hwa2]; exact Blk.new _ _ _
        have hk2 : Below wc1.heap.size wc1 wa2 := by rw [← hwa2]; exact (Below.refl _ _).alloc (Nat.le_refl _) _
        obtain ⟨ws2, hws2⟩ : ∃ w', (((wa2.setCell ⟨wc1.heap.size, 0, none⟩ (.int .i64 d.a)).setCell ⟨wc1.heap.size, 1, none⟩ (.int .i64 d.b)).setCell ⟨wc1.heap.size, 2, none⟩ (.int .i64 d.c)) = w' := ⟨_, rfl⟩
        have hj2 : Below wc1.heap.size wc1 ws2 := by rw [← hws2]; exact (((hk2.setCell (by simp only; omega) _).setCell (by simp only; omega) _).setCell (by simp only; omega) _)
        have kd : Blk ws2 wc1.heap.size #[.int .i64 d.a, .int .i64 d.b, .int .i64 d.c] 24 := by rw [← hws2]; exact (((kk2.set_eq 0 _ rfl).set_eq 1 _ rfl).set_eq 2 _ rfl)
        have kc20 := kk2.cell (i := 0) rfl
        have kf20 := kk2.frozen 0
        have kc21 := kk2.cell (i := 1) rfl
        have kf21 := kk2.frozen 1
        have kc22 := kk2.cell (i := 2) rfl
        have kf22 := kk2.frozen 2
        have k0 := k0.kept hj2
        have k1 := k1.kept hj2
        have k2 := k2.kept hj2
        have hb := hb.trans (hj2.mono hb.size)
        clear hj2 hk2
        have k0_0 := k0.cell (i := 0) rfl
        have k0_1 := k0.cell (i := 1) rfl
        have k0_2 := k0.cell (i := 2) rfl
        have k0_3 := k0.cell (i := 3) rfl
        have k1_0 := k1.cell (i := 0) rfl
        have k1_1 := k1.cell (i := 1) rfl
        have k1_2 := k1.cell (i := 2) rfl
        have k1_3 := k1.cell (i := 3) rfl
        have kd_0 := kd.cell (i := 0) rfl
        have kd_1 := kd.cell (i := 1) rfl
        have kd_2 := kd.cell (i := 2) rfl
        clear k0_0 k0_1 k0_2 k0_3 k1_0 k1_1 k1_2 k1_3 kd_0 kd_1 kd_2
        have k0_0 := k0.cell (i := 0) rfl
        have k0_1 := k0.cell (i := 1) rfl
        have k0_2 := k0.cell (i := 2) rfl
        have k0_3 := k0.cell (i := 3) rfl
        have k1_0 := k1.cell (i := 0) rfl
        have k1_1 := k1.cell (i := 1) rfl
        have k1_2 := k1.cell (i := 2) rfl
        have k1_3 := k1.cell (i := 3) rfl
        have k2_0 := k2.cell (i := 0) rfl
        have k2_1 := k2.cell (i := 1) rfl
        have k2_2 := k2.cell (i := 2) rfl
        have k2_3 := k2.cell (i := 3) rfl
        have kd_0 := kd.cell (i := 0) rfl
        have kd_1 := kd.cell (i := 1) rfl
        have kd_2 := kd.cell (i := 2) rfl
        clear kd_0 kd_1 kd_2
        go_wp2_with fail
        refine (HC.out _).mono ?_
        rintro e' wc3 ⟨rfl, hc3⟩
        clear k0_0 k0_1 k0_2 k0_3 k1_0 k1_1 k1_2 k1_3 k2_0 k2_1 k2_2 k2_3
        have k0 := k0.kept hc3
        have k1 := k1.kept hc3
        have k2 := k2.kept hc3
        have kd := kd.kept hc3
        have hb := hb.trans (hc3.mono hb.size)
        clear hc3
        have k0_0 := k0.cell (i := 0) rfl
        have k0_1 := k0.cell (i := 1) rfl
        have k0_2 := k0.cell (i := 2) rfl
        have k0_3 := k0.cell (i := 3) rfl
        have k1_0 := k1.cell (i := 0) rfl
        have k1_1 := k1.cell (i := 1) rfl
        have k1_2 := k1.cell (i := 2) rfl
        have k1_3 := k1.cell (i := 3) rfl
        have k2_0 := k2.cell (i := 0) rfl
        have k2_1 := k2.cell (i := 1) rfl
        have k2_2 := k2.cell (i := 2) rfl
        have k2_3 := k2.cell (i := 3) rfl
        go_wp2_with fail
        refine (HL.out _).mono ?_
        rintro e' wc4 ⟨rfl, hc4⟩
        clear k0_0 k0_1 k0_2 k0_3 k1_0 k1_1 k1_2 k1_3 k2_0 k2_1 k2_2 k2_3
        have k0 := k0.kept hc4
        have k1 := k1.kept hc4
        have k2 := k2.kept hc4
        have kd := kd.kept hc4
        have hb := hb.trans (hc4.mono hb.size)
        clear hc4
        have k0_0 := k0.cell (i := 0) rfl
        have k0_1 := k0.cell (i := 1) rfl
        have k0_2 := k0.cell (i := 2) rfl
        have k0_3 := k0.cell (i := 3) rfl
        have k1_0 := k1.cell (i := 0) rfl
        have k1_1 := k1.cell (i := 1) rfl
        have k1_2 := k1.cell (i := 2) rfl
        have k1_3 := k1.cell (i := 3) rfl
        have k2_0 := k2.cell (i := 0) rfl
        have k2_1 := k2.cell (i := 1) rfl
        have k2_2 := k2.cell (i := 2) rfl
        have k2_3 := k2.cell (i := 3) rfl
        clear k0_0 k0_1 k0_2 k0_3 k1_0 k1_1 k1_2 k1_3 k2_0 k2_1 k2_2 k2_3
        go_upto_region 7 with fail
        go_cut [14, 15] from 40 to 47 (fun v14 v15 wx => v14 = .int .i64 0 ∧ v15 = .int .i64 0 ∧ Below wc4.heap.size wc4 wx)
        case first =>
          refine wp_region_kn' (fun ix => ix != 6) (fun ix => match ix with | 0 => .agg #[.int .i64 p.a, .int .i64 p.b, .int .i64 p.c, .int .i64 p.d] | 1 => .agg #[.int .i64 q.a, .int .i64 q.b, .int .i64 q.c, .int .i64 q.d] | 2 => .int .i64 0 | 3 => .agg #[.int .i64 p.a, .int .i64 p.b, .int .i64 p.c, .int .i64 p.d] | 4 => .agg #[.int .i64 q.a, .int .i64 q.b, .int .i64 q.c, .int .i64 q.d] | 5 => .agg #[.int .i64 r.a, .int .i64 r.b, .int .i64 r.c, .int .i64 r.d] | 7 => .int .i64 0 | 8 => .int .i64 0 | _ => .int .i64 0) (fun ix v w => match ix with  | _ => ∃ b, v = .slice (some ⟨b, 0, none⟩) 1 1 ∧ RdV w (some ⟨b, 0, none⟩) [r]) (by kernel_rfl) (by kernel_rfl) ?_ ?_ ?_
          · intro ix v w8 w9 hb h
            rcases ix with _ | _ | _ | _ | _ | _ | _ | ix
            · obtain ⟨b, e, h⟩ := h; exact ⟨b, e, h.below hb⟩
            · obtain ⟨b, e, h⟩ := h; exact ⟨b, e, h.below hb⟩
            · obtain ⟨b, e, h⟩ := h; exact ⟨b, e, h.below hb⟩
            · obtain ⟨b, e, h⟩ := h; exact ⟨b, e, h.below hb⟩
            · obtain ⟨b, e, h⟩ := h; exact ⟨b, e, h.below hb⟩
            · obtain ⟨b, e, h⟩ := h; exact ⟨b, e, h.below hb⟩
            · obtain ⟨b, e, h⟩ := h; exact ⟨b, e, h.below hb⟩
            · obtain ⟨b, e, h⟩ := h; exact ⟨b, e, h.below hb⟩
          · rintro ix hx f ww hS hd
            have ka := k0.kept hS
            have kb := k1.kept hS
            have kc := k2.kept hS
            have a0_ := ka.cell (i := 0) rfl
            have a1_ := ka.cell (i := 1) rfl
            have a2_ := ka.cell (i := 2) rfl
            have a3_ := ka.cell (i := 3) rfl
            have b0_ := kb.cell (i := 0) rfl
            have b1_ := kb.cell (i := 1) rfl
            have b2_ := kb.cell (i := 2) rfl
            have b3_ := kb.cell (i := 3) rfl
            have c0_ := kc.cell (i := 0) rfl
            have c1_ := kc.cell (i := 1) rfl
            have c2_ := kc.cell (i := 2) rfl
            have c3_ := kc.cell (i := 3) rfl
            rcases ix with _ | _ | _ | _ | _ | _ | _ | _ | _ | _ | ix
            · refine wpOp_list rfl ?_
              simp only [tmOf, putAll, List.map_cons, List.map_nil, List.setIfInBounds_toArray, List.set_cons_zero, List.set_cons_succ]
              go_wp2
              refine ⟨.agg #[.int .i64 p.a, .int .i64 p.b, .int .i64 p.c, .int .i64 p.d], ?_⟩
              simp [upd, Below.refl]
            · refine wpOp_list rfl ?_
              simp only [tmOf, putAll, List.map_cons, List.map_nil, List.setIfInBounds_toArray, List.set_cons_zero, List.set_cons_succ]
              go_wp2
              refine ⟨.agg #[.int .i64 q.a, .int .i64 q.b, .int .i64 q.c, .int .i64 q.d], ?_⟩
              simp [upd, Below.refl]
            · have g0 : f 0 = .agg #[.int .i64 p.a, .int .i64 p.b, .int .i64 p.c, .int .i64 p.d] := hd 0 (by kernel_rfl)
              have g1 : f 1 = .agg #[.int .i64 q.a, .int .i64 q.b, .int .i64 q.c, .int .i64 q.d] := hd 1 (by kernel_rfl)
              refine wpOp_list rfl ?_
              simp only [tmOf, putAll, List.map_cons, List.map_nil, List.setIfInBounds_toArray, List.set_cons_zero, List.set_cons_succ]
              go_wp2_with fail
              refine (HB0.out _).mono ?_
              rintro e' wf ⟨rfl, hbf⟩
              go_wp2_with fail
              try refine ⟨.int .i64 0, ?_⟩
              simp [upd, g0, g1, hbf]
            · refine wpOp_list rfl ?_
              simp only [tmOf, putAll, List.map_cons, List.map_nil, List.setIfInBounds_toArray, List.set_cons_zero, List.set_cons_succ]
              go_wp2
              refine ⟨.agg #[.int .i64 p.a, .int .i64 p.b, .int .i64 p.c, .int .i64 p.d], ?_⟩
              simp [upd, Below.refl]
            · refine wpOp_list rfl ?_
              simp only [tmOf, putAll, List.map_cons, List.map_nil, List.setIfInBounds_toArray, List.set_cons_zero, List.set_cons_succ]
              go_wp2
              refine ⟨.agg #[.int .i64 q.a, .int .i64 q.b, .int .i64 q.c, .int .i64 q.d], ?_⟩
              simp [upd, Below.refl]
            · refine wpOp_list rfl ?_
              simp only [tmOf, putAll, List.map_cons, List.map_nil, List.setIfInBounds_toArray, List.set_cons_zero, List.set_cons_succ]
              go_wp2
              refine ⟨.agg #[.int .i64 r.a, .int .i64 r.b, .int .i64 r.c, .int .i64 r.d], ?_⟩
              simp [upd, Below.refl]
            · have g5 : f 5 = .agg #[.int .i64 r.a, .int .i64 r.b, .int .i64 r.c, .int .i64 r.d] := hd 5 (by kernel_rfl)
              refine wpOp_list rfl ?_
              simp only [tmOf, putAll, List.map_cons, List.map_nil, List.setIfInBounds_toArray, List.set_cons_zero, List.set_cons_succ]
              go_wp2
              exact ⟨.slice (some ⟨ww.heap.size, 0, none⟩) 1 1, by simp [upd, g5], ⟨_, rfl, planes1 ww r.a r.b r.c r.d _⟩, (Below.refl _ ww).alloc (Nat.le_refl _) _⟩
            · have g3 : f 3 = .agg #[.int .i64 p.a, .int .i64 p.b, .int .i64 p.c, .int .i64 p.d] := hd 3 (by kernel_rfl)
              have g4 : f 4 = .agg #[.int .i64 q.a, .int .i64 q.b, .int .i64 q.c, .int .i64 q.d] := hd 4 (by kernel_rfl)
              obtain ⟨b46, g6, hR46⟩ : ∃ b, f 6 = .slice (some ⟨b, 0, none⟩) 1 1 ∧ RdV ww (some ⟨b, 0, none⟩) [r] := hd 6 (by kernel_rfl)
              refine wpOp_list rfl ?_
              simp only [tmOf, putAll, List.map_cons, List.map_nil, List.setIfInBounds_toArray, List.set_cons_zero, List.set_cons_succ]
              have hf := HB1.out _ ww hR46
              have HF := Lib.hid hf
              clear hf hR46
              go_wp2_with fail
              refine HF.out.mono ?_
              rintro e' wf ⟨rfl, hbf⟩
              go_wp2_with fail
              try refine ⟨.int .i64 0, ?_⟩
              simp [upd, g3, g4, g6, hbf]
            · have g2 : f 2 = .int .i64 0 := hd 2 (by kernel_rfl)
              refine wpOp_list rfl ?_
              simp only [tmOf, putAll, List.map_cons, List.map_nil, List.setIfInBounds_toArray, List.set_cons_zero, List.set_cons_succ]
              go_wp2
              refine ⟨.int .i64 0, ?_⟩
              simp [upd, g2, Below.refl]
            · have g7 : f 7 = .int .i64 0 := hd 7 (by kernel_rfl)
              refine wpOp_list rfl ?_
              simp only [tmOf, putAll, List.map_cons, List.map_nil, List.setIfInBounds_toArray, List.set_cons_zero, List.set_cons_succ]
              go_wp2
              refine ⟨.int .i64 0, ?_⟩
              simp [upd, g7, Below.refl]
            · simp only [List.length_cons, List.length_nil] at hx; omega
          · rintro f ww hS hd
            have G14 : f 8 = .int .i64 0 := hd 8 (by decide)
            have G15 : f 9 = .int .i64 0 := hd 9 (by decide)
            simp only [tmOf, putAll, List.map_cons, List.map_nil, List.setIfInBounds_toArray, List.set_cons_zero, List.set_cons_succ]
            refine ‹∀ (a' : Act) (w' : World), Met _ a' w' → _› _ _ ?_
            go_meet
            case rel => exact ⟨G14, G15, hS⟩
        case rest =>
        obtain ⟨rfl, rfl, hbx⟩ := hcut
        have k0 := k0.kept hbx
        have k1 := k1.kept hbx
        have k2 := k2.kept hbx
        have kd := kd.kept hbx
        have hb := hb.trans (hbx.mono hb.size)
        clear hbx HB0 HB1
        generalize wc = w7_ at *
        have k0_0 := k0.cell (i := 0) rfl
        have k0_1 := k0.cell (i := 1) rfl
        have k0_2 := k0.cell (i := 2) rfl
        have k0_3 := k0.cell (i := 3) rfl
        have k1_0 := k1.cell (i := 0) rfl
        have k1_1 := k1.cell (i := 1) rfl
        have k1_2 := k1.cell (i := 2) rfl
        have k1_3 := k1.cell (i := 3) rfl
        have k2_0 := k2.cell (i := 0) rfl
        have k2_1 := k2.cell (i := 1) rfl
        have k2_2 := k2.cell (i := 2) rfl
        have k2_3 := k2.cell (i := 3) rfl
        have kd_0 := kd.cell (i := 0) rfl
        have kd_1 := kd.cell (i := 1) rfl
        have kd_2 := kd.cell (i := 2) rfl
        clear k0_0 k0_1 k0_2 k0_3 k1_0 k1_1 k1_2 k1_3 k2_0 k2_1 k2_2 k2_3 kd_0 kd_1 kd_2
        go_upto_region 10 with fail
        go_cut [90] from 82 to 90 (fun v90 wx => v90 = .bool false ∧ Below w7_.heap.size w7_ wx)
        case first =>
          refine wp_region_pure' (fun ix => match ix with | 0 => .int .i64 0 | 1 => .bool true | 2 => .bool true | 3 => .agg #[.int .i64 d.a, .int .i64 d.b, .int .i64 d.c] | 4 => .agg #[.int .i64 p.a, .int .i64 p.b, .int .i64 p.c, .int .i64 p.d] | 5 => .agg #[.int .i64 q.a, .int .i64 q.b, .int .i64 q.c, .int .i64 q.d] | 6 => .agg #[.int .i64 d.a, .int .i64 d.b, .int .i64 d.c] | 7 => .bool false | _ => .bool false) (by kernel_rfl) (by kernel_rfl) ?_ ?_
          · rintro ix hx f ww hS hd
            have ka := k0.kept hS
            have kb := k1.kept hS
            have kc := k2.kept hS
            have a0_ := ka.cell (i := 0) rfl
            have a1_ := ka.cell (i := 1) rfl
            have a2_ := ka.cell (i := 2) rfl
            have a3_ := ka.cell (i := 3) rfl
            have b0_ := kb.cell (i := 0) rfl
            have b1_ := kb.cell (i := 1) rfl
            have b2_ := kb.cell (i := 2) rfl
            have b3_ := kb.cell (i := 3) rfl
            have c0_ := kc.cell (i := 0) rfl
            have c1_ := kc.cell (i := 1) rfl
            have c2_ := kc.cell (i := 2) rfl
            have c3_ := kc.cell (i := 3) rfl
            have kx := kd.kept hS
            have x0_ := kx.cell (i := 0) rfl
            have x1_ := kx.cell (i := 1) rfl
            have x2_ := kx.cell (i := 2) rfl
            rcases ix with _ | _ | _ | _ | _ | _ | _ | _ | _ | ix
            · refine fastO (Op.move (Operand.tmp 14)) 82 (by first | exact hx | decide) (by kernel_rfl) (by kernel_rfl) (by kernel_rfl) (wantedN (by kernel_rfl)) ex_move ?_
              refine run1 (.tmp 14) (.int .i64 0) (eval_const _) (by kernel_rfl) (fun ρ hc h0 => ?_)
              simp [execOp, bare, hc, h0, go_sem, *]
            · have g0 : f 0 = .int .i64 0 := hd 0 (by kernel_rfl)
              refine fastO (Op.binOp BinOp.eql 3 (Operand.tmp 82) (Operand.const (Value.int IntKind.i64 0)) 3) 83 (by first | exact hx | decide) (by kernel_rfl) (by kernel_rfl) (by kernel_rfl) (wantedN (by kernel_rfl)) ex_binOp ?_
              refine run1 (.tmp 82) (.int .i64 0) (eval_const _) (Eq.trans (by kernel_rfl) g0) (fun ρ hc h0 => ?_)
              simp [execOp, bare, hc, h0, go_sem, *]
            · have g1 : f 1 = .bool true := hd 1 (by kernel_rfl)
              refine fastO (Op.move (Operand.tmp 83)) 84 (by first | exact hx | decide) (by kernel_rfl) (by kernel_rfl) (by kernel_rfl) (wantedN (by kernel_rfl)) ex_move ?_
              refine run1 (.tmp 83) (.bool true) (eval_const _) (Eq.trans (by kernel_rfl) g1) (fun ρ hc h0 => ?_)
              simp [execOp, bare, hc, h0, go_sem, *]
            · have g2 : f 2 = .bool true := hd 2 (by kernel_rfl)
              refine fastO (Op.load 24 (Operand.tmp 8)) 85 (by first | exact hx | decide) (by kernel_rfl) (by kernel_rfl) (by kernel_rfl) (wantedG 2 84 (by decide) (by kernel_rfl) (by kernel_rfl) (Eq.trans (by kernel_rfl) (congrArg some g2))) ex_load ?_
              refine run1 (.tmp 8) (.pointer (some ⟨wc1.heap.size, 0, none⟩)) (eval_const _) (by kernel_rfl) (fun ρ hc h0 => ?_)
              simp [execOp, bare, hc, h0, go_sem, *]
            · have g2 : f 2 = .bool true := hd 2 (by kernel_rfl)
              refine fastO (Op.load 23 (Operand.tmp 3)) 86 (by first | exact hx | decide) (by kernel_rfl) (by kernel_rfl) (by kernel_rfl) (wantedG 2 84 (by decide) (by kernel_rfl) (by kernel_rfl) (Eq.trans (by kernel_rfl) (congrArg some g2))) ex_load ?_
              refine run1 (.tmp 3) (.pointer (some ⟨w.heap.size, 0, none⟩)) (eval_const _) (by kernel_rfl) (fun ρ hc h0 => ?_)
              simp [execOp, bare, hc, h0, go_sem, *]
            · have g2 : f 2 = .bool true := hd 2 (by kernel_rfl)
              refine fastO (Op.load 23 (Operand.tmp 4)) 87 (by first | exact hx | decide) (by kernel_rfl) (by kernel_rfl) (by kernel_rfl) (wantedG 2 84 (by decide) (by kernel_rfl) (by kernel_rfl) (Eq.trans (by kernel_rfl) (congrArg some g2))) ex_load ?_
              refine run1 (.tmp 4) (.pointer (some ⟨w.heap.size + 1, 0, none⟩)) (eval_const _) (by kernel_rfl) (fun ρ hc h0 => ?_)
              simp [execOp, bare, hc, h0, go_sem, *]
            · have g2 : f 2 = .bool true := hd 2 (by kernel_rfl)
              have g4 : f 4 = .agg #[.int .i64 p.a, .int .i64 p.b, .int .i64 p.c, .int .i64 p.d] := hd 4 (by kernel_rfl)
              have g5 : f 5 = .agg #[.int .i64 q.a, .int .i64 q.b, .int .i64 q.c, .int .i64 q.d] := hd 5 (by kernel_rfl)
              refine fastC (Op.call { callee := .value (Operand.func 14), args := #[(Operand.tmp 86), (Operand.tmp 87)], argTypes := #[23, 23] }) 88 14 #[.agg #[.int .i64 p.a, .int .i64 p.b, .int .i64 p.c, .int .i64 p.d], .agg #[.int .i64 q.a, .int .i64 q.b, .int .i64 q.c, .int .i64 q.d]] (by first | exact hx | decide) (by kernel_rfl) (by kernel_rfl) (by kernel_rfl) (wantedG 2 84 (by decide) (by kernel_rfl) (by kernel_rfl) (Eq.trans (by kernel_rfl) (congrArg some g2))) ?_ (HRD.out _)
              refine runC2 (eval_func _) (eval_const _) (.tmp 86) (.tmp 87) (.agg #[.int .i64 p.a, .int .i64 p.b, .int .i64 p.c, .int .i64 p.d]) (.agg #[.int .i64 q.a, .int .i64 q.b, .int .i64 q.c, .int .i64 q.d]) (Eq.trans (by kernel_rfl) g4) (Eq.trans (by kernel_rfl) g5) (fun ρ o hF hC ho h0 h1 => ?_)
              simp [execOp, ho, hF, hC, h0, h1, resolve, invoke, go_sem, enters_of Tryz.func14 (by kernel_rfl) rfl]
            · have g2 : f 2 = .bool true := hd 2 (by kernel_rfl)
              have g3 : f 3 = .agg #[.int .i64 d.a, .int .i64 d.b, .int .i64 d.c] := hd 3 (by kernel_rfl)
              have g6 : f 6 = .agg #[.int .i64 d.a, .int .i64 d.b, .int .i64 d.c] := hd 6 (by kernel_rfl)
              refine fastO (Op.binOp BinOp.neq 24 (Operand.tmp 85) (Operand.tmp 88) 24) 89 (by first | exact hx | decide) (by kernel_rfl) (by kernel_rfl) (by kernel_rfl) (wantedG 2 84 (by decide) (by kernel_rfl) (by kernel_rfl) (Eq.trans (by kernel_rfl) (congrArg some g2))) ex_binOp ?_
              refine run2 (.tmp 85) (.tmp 88) (.agg #[.int .i64 d.a, .int .i64 d.b, .int .i64 d.c]) (.agg #[.int .i64 d.a, .int .i64 d.b, .int .i64 d.c]) (eval_const _) (Eq.trans (by kernel_rfl) g3) (Eq.trans (by kernel_rfl) g6) (fun ρ hc h0 h1 => ?_)
              simp [execOp, bare, hc, h0, h1, go_sem, *]
            · have g2 : f 2 = .bool true := hd 2 (by kernel_rfl)
              have g7 : f 7 = .bool false := hd 7 (by kernel_rfl)
              refine fastO (Op.pick (Operand.tmp 84) (Operand.tmp 89) (Operand.const (Value.bool false))) 90 (by first | exact hx | decide) (by kernel_rfl) (by kernel_rfl) (by kernel_rfl) (wantedN (by kernel_rfl)) ex_pick ?_
              refine run2 (.tmp 84) (.tmp 89) (.bool true) (.bool false) (eval_const _) (Eq.trans (by kernel_rfl) g2) (Eq.trans (by kernel_rfl) g7) (fun ρ hc h0 h1 => ?_)
              simp [execOp, bare, hc, h0, h1, go_sem, *]
            · simp only [List.length_cons, List.length_nil] at hx; omega
          · rintro f ww hS hd
            have gl : f 8 = .bool false := hd 8 (by decide)
            simp only [tmOf, putAll, List.map_cons, List.map_nil, List.setIfInBounds_toArray, List.set_cons_zero, List.set_cons_succ]
            refine ‹∀ (a' : Act) (w' : World), Met _ a' w' → _› _ _ ?_
            go_meet
            case rel => exact ⟨gl, hS⟩
        case rest =>
        obtain ⟨rfl, hbx⟩ := hcut
        have k0 := k0.kept hbx
        have k1 := k1.kept hbx
        have k2 := k2.kept hbx
        have kd := kd.kept hbx
        have hb := hb.trans (hbx.mono hb.size)
        clear hbx
        generalize wc = w10_ at *
        go_upto_region 12 with fail
        go_cut [111] from 91 to 111 (fun v111 wx => v111 = .bool false ∧ Below w10_.heap.size w10_ wx)
        case first =>
          refine wp_region_pure' (fun ix => match ix with | 0 => .int .i64 0 | 1 => .bool true | 2 => .bool true | 3 => .int .i64 C | 4 => .agg #[.int .i64 p.a, .int .i64 p.b, .int .i64 p.c, .int .i64 p.d] | 5 => .agg #[.int .i64 q.a, .int .i64 q.b, .int .i64 q.c, .int .i64 q.d] | 6 => .agg #[.int .i64 d.a, .int .i64 d.b, .int .i64 d.c] | 7 => .agg #[.int .i64 r.a, .int .i64 r.b, .int .i64 r.c, .int .i64 r.d] | 8 => .agg #[.int .i64 n.a, .int .i64 n.b, .int .i64 n.c] | 9 => .int .i64 t | 10 => .int .i64 C | 11 => .bool false | 12 => .bool false | 13 => .int .i64 L | 14 => .agg #[.int .i64 p.a, .int .i64 p.b, .int .i64 p.c, .int .i64 p.d] | 15 => .agg #[.int .i64 q.a, .int .i64 q.b, .int .i64 q.c, .int .i64 q.d] | 16 => .agg #[.int .i64 r.a, .int .i64 r.b, .int .i64 r.c, .int .i64 r.d] | 17 => .int .i64 L | 18 => .bool false | 19 => .bool false | _ => .bool false) (by kernel_rfl) (by kernel_rfl) ?_ ?_
          · rintro ix hx f ww hS hd
            have ka := k0.kept hS
            have kb := k1.kept hS
            have kc := k2.kept hS
            have a0_ := ka.cell (i := 0) rfl
            have a1_ := ka.cell (i := 1) rfl
            have a2_ := ka.cell (i := 2) rfl
            have a3_ := ka.cell (i := 3) rfl
            have b0_ := kb.cell (i := 0) rfl
            have b1_ := kb.cell (i := 1) rfl
            have b2_ := kb.cell (i := 2) rfl
            have b3_ := kb.cell (i := 3) rfl
            have c0_ := kc.cell (i := 0) rfl
            have c1_ := kc.cell (i := 1) rfl
            have c2_ := kc.cell (i := 2) rfl
            have c3_ := kc.cell (i := 3) rfl
            rcases ix with _ | _ | _ | _ | _ | _ | _ | _ | _ | _ | _ | _ | _ | _ | _ | _ | _ | _ | _ | _ | _ | ix
            · refine fastO (Op.move (Operand.tmp 15)) 91 (by first | exact hx | decide) (by kernel_rfl) (by kernel_rfl) (by kernel_rfl) (wantedN (by kernel_rfl)) ex_move ?_
              refine run1 (.tmp 15) (.int .i64 0) (eval_const _) (by kernel_rfl) (fun ρ hc h0 => ?_)
              simp [execOp, bare, hc, h0, go_sem, *]
            · have g0 : f 0 = .int .i64 0 := hd 0 (by kernel_rfl)
              refine fastO (Op.binOp BinOp.eql 3 (Operand.tmp 91) (Operand.const (Value.int IntKind.i64 0)) 3) 92 (by first | exact hx | decide) (by kernel_rfl) (by kernel_rfl) (by kernel_rfl) (wantedN (by kernel_rfl)) ex_binOp ?_
              refine run1 (.tmp 91) (.int .i64 0) (eval_const _) (Eq.trans (by kernel_rfl) g0) (fun ρ hc h0 => ?_)
              simp [execOp, bare, hc, h0, go_sem, *]
            · have g1 : f 1 = .bool true := hd 1 (by kernel_rfl)
              refine fastO (Op.move (Operand.tmp 92)) 93 (by first | exact hx | decide) (by kernel_rfl) (by kernel_rfl) (by kernel_rfl) (wantedN (by kernel_rfl)) ex_move ?_
              refine run1 (.tmp 92) (.bool true) (eval_const _) (Eq.trans (by kernel_rfl) g1) (fun ρ hc h0 => ?_)
              simp [execOp, bare, hc, h0, go_sem, *]
            · have g2 : f 2 = .bool true := hd 2 (by kernel_rfl)
              refine fastO (Op.move (Operand.tmp 10)) 94 (by first | exact hx | decide) (by kernel_rfl) (by kernel_rfl) (by kernel_rfl) (wantedG 2 93 (by decide) (by kernel_rfl) (by kernel_rfl) (Eq.trans (by kernel_rfl) (congrArg some g2))) ex_move ?_
              refine run1 (.tmp 10) (.int .i64 C) (eval_const _) (by kernel_rfl) (fun ρ hc h0 => ?_)
              simp [execOp, bare, hc, h0, go_sem, *]
            · have g2 : f 2 = .bool true := hd 2 (by kernel_rfl)
              refine fastO (Op.load 23 (Operand.tmp 3)) 95 (by first | exact hx | decide) (by kernel_rfl) (by kernel_rfl) (by kernel_rfl) (wantedG 2 93 (by decide) (by kernel_rfl) (by kernel_rfl) (Eq.trans (by kernel_rfl) (congrArg some g2))) ex_load ?_
              refine run1 (.tmp 3) (.pointer (some ⟨w.heap.size, 0, none⟩)) (eval_const _) (by kernel_rfl) (fun ρ hc h0 => ?_)
              simp [execOp, bare, hc, h0, go_sem, *]
            · have g2 : f 2 = .bool true := hd 2 (by kernel_rfl)
              refine fastO (Op.load 23 (Operand.tmp 4)) 96 (by first | exact hx | decide) (by kernel_rfl) (by kernel_rfl) (by kernel_rfl) (wantedG 2 93 (by decide) (by kernel_rfl) (by kernel_rfl) (Eq.trans (by kernel_rfl) (congrArg some g2))) ex_load ?_
              refine run1 (.tmp 4) (.pointer (some ⟨w.heap.size + 1, 0, none⟩)) (eval_const _) (by kernel_rfl) (fun ρ hc h0 => ?_)
              simp [execOp, bare, hc, h0, go_sem, *]
            · have g2 : f 2 = .bool true := hd 2 (by kernel_rfl)
              have g4 : f 4 = .agg #[.int .i64 p.a, .int .i64 p.b, .int .i64 p.c, .int .i64 p.d] := hd 4 (by kernel_rfl)
              have g5 : f 5 = .agg #[.int .i64 q.a, .int .i64 q.b, .int .i64 q.c, .int .i64 q.d] := hd 5 (by kernel_rfl)
              refine fastC (Op.call { callee := .value (Operand.func 14), args := #[(Operand.tmp 95), (Operand.tmp 96)], argTypes := #[23, 23] }) 97 14 #[.agg #[.int .i64 p.a, .int .i64 p.b, .int .i64 p.c, .int .i64 p.d], .agg #[.int .i64 q.a, .int .i64 q.b, .int .i64 q.c, .int .i64 q.d]] (by first | exact hx | decide) (by kernel_rfl) (by kernel_rfl) (by kernel_rfl) (wantedG 2 93 (by decide) (by kernel_rfl) (by kernel_rfl) (Eq.trans (by kernel_rfl) (congrArg some g2))) ?_ (HRD.out _)
              refine runC2 (eval_func _) (eval_const _) (.tmp 95) (.tmp 96) (.agg #[.int .i64 p.a, .int .i64 p.b, .int .i64 p.c, .int .i64 p.d]) (.agg #[.int .i64 q.a, .int .i64 q.b, .int .i64 q.c, .int .i64 q.d]) (Eq.trans (by kernel_rfl) g4) (Eq.trans (by kernel_rfl) g5) (fun ρ o hF hC ho h0 h1 => ?_)
              simp [execOp, ho, hF, hC, h0, h1, resolve, invoke, go_sem, enters_of Tryz.func14 (by kernel_rfl) rfl]
            · have g2 : f 2 = .bool true := hd 2 (by kernel_rfl)
              refine fastO (Op.load 23 (Operand.tmp 5)) 98 (by first | exact hx | decide) (by kernel_rfl) (by kernel_rfl) (by kernel_rfl) (wantedG 2 93 (by decide) (by kernel_rfl) (by kernel_rfl) (Eq.trans (by kernel_rfl) (congrArg some g2))) ex_load ?_
              refine run1 (.tmp 5) (.pointer (some ⟨w.heap.size + 1 + 1, 0, none⟩)) (eval_const _) (by kernel_rfl) (fun ρ hc h0 => ?_)
              simp [execOp, bare, hc, h0, go_sem, *]
            · have g2 : f 2 = .bool true := hd 2 (by kernel_rfl)
              have g7 : f 7 = .agg #[.int .i64 r.a, .int .i64 r.b, .int .i64 r.c, .int .i64 r.d] := hd 7 (by kernel_rfl)
              refine fastC (Op.call { callee := .value (Operand.func 17), args := #[(Operand.tmp 98)], argTypes := #[23] }) 99 17 #[.agg #[.int .i64 r.a, .int .i64 r.b, .int .i64 r.c, .int .i64 r.d]] (by first | exact hx | decide) (by kernel_rfl) (by kernel_rfl) (by kernel_rfl) (wantedG 2 93 (by decide) (by kernel_rfl) (by kernel_rfl) (Eq.trans (by kernel_rfl) (congrArg some g2))) ?_ (HRN.out _)
              refine runC1 (eval_func _) (eval_const _) (.tmp 98) (.agg #[.int .i64 r.a, .int .i64 r.b, .int .i64 r.c, .int .i64 r.d]) (Eq.trans (by kernel_rfl) g7) (fun ρ o hF hC ho h0 => ?_)
              simp [execOp, ho, hF, hC, h0, resolve, invoke, go_sem, enters_of Tryz.func17 (by kernel_rfl) rfl]
            · have g2 : f 2 = .bool true := hd 2 (by kernel_rfl)
              have g6 : f 6 = .agg #[.int .i64 d.a, .int .i64 d.b, .int .i64 d.c] := hd 6 (by kernel_rfl)
              have g8 : f 8 = .agg #[.int .i64 n.a, .int .i64 n.b, .int .i64 n.c] := hd 8 (by kernel_rfl)
              refine fastC (Op.call { callee := .value (Operand.func 16), args := #[(Operand.tmp 97), (Operand.tmp 99)], argTypes := #[24, 24] }) 100 16 #[.agg #[.int .i64 d.a, .int .i64 d.b, .int .i64 d.c], .agg #[.int .i64 n.a, .int .i64 n.b, .int .i64 n.c]] (by first | exact hx | decide) (by kernel_rfl) (by kernel_rfl) (by kernel_rfl) (wantedG 2 93 (by decide) (by kernel_rfl) (by kernel_rfl) (Eq.trans (by kernel_rfl) (congrArg some g2))) ?_ (HRT.out _)
              refine runC2 (eval_func _) (eval_const _) (.tmp 97) (.tmp 99) (.agg #[.int .i64 d.a, .int .i64 d.b, .int .i64 d.c]) (.agg #[.int .i64 n.a, .int .i64 n.b, .int .i64 n.c]) (Eq.trans (by kernel_rfl) g6) (Eq.trans (by kernel_rfl) g8) (fun ρ o hF hC ho h0 h1 => ?_)
              simp [execOp, ho, hF, hC, h0, h1, resolve, invoke, go_sem, enters_of Tryz.func16 (by kernel_rfl) rfl]
            · have g2 : f 2 = .bool true := hd 2 (by kernel_rfl)
              have g9 : f 9 = .int .i64 t := hd 9 (by kernel_rfl)
              refine fastC (Op.call { callee := .value (Operand.func 15), args := #[(Operand.tmp 100)], argTypes := #[2] }) 101 15 #[.int .i64 t] (by first | exact hx | decide) (by kernel_rfl) (by kernel_rfl) (by kernel_rfl) (wantedG 2 93 (by decide) (by kernel_rfl) (by kernel_rfl) (Eq.trans (by kernel_rfl) (congrArg some g2))) ?_ (HRS.out _)
              refine runC1 (eval_func _) (eval_const _) (.tmp 100) (.int .i64 t) (Eq.trans (by kernel_rfl) g9) (fun ρ o hF hC ho h0 => ?_)
              simp [execOp, ho, hF, hC, h0, resolve, invoke, go_sem, enters_of Tryz.func15 (by kernel_rfl) rfl]
            · have g2 : f 2 = .bool true := hd 2 (by kernel_rfl)
              have g3 : f 3 = .int .i64 C := hd 3 (by kernel_rfl)
              have g10 : f 10 = .int .i64 C := hd 10 (by kernel_rfl)
              refine fastO (Op.binOp BinOp.neq 3 (Operand.tmp 94) (Operand.tmp 101) 3) 102 (by first | exact hx | decide) (by kernel_rfl) (by kernel_rfl) (by kernel_rfl) (wantedG 2 93 (by decide) (by kernel_rfl) (by kernel_rfl) (Eq.trans (by kernel_rfl) (congrArg some g2))) ex_binOp ?_
              refine run2 (.tmp 94) (.tmp 101) (.int .i64 C) (.int .i64 C) (eval_const _) (Eq.trans (by kernel_rfl) g3) (Eq.trans (by kernel_rfl) g10) (fun ρ hc h0 h1 => ?_)
              simp [execOp, bare, hc, h0, h1, go_sem, *]
            · have g2 : f 2 = .bool true := hd 2 (by kernel_rfl)
              have g11 : f 11 = .bool false := hd 11 (by kernel_rfl)
              refine fastO (Op.move (Operand.tmp 102)) 103 (by first | exact hx | decide) (by kernel_rfl) (by kernel_rfl) (by kernel_rfl) (wantedG 2 93 (by decide) (by kernel_rfl) (by kernel_rfl) (Eq.trans (by kernel_rfl) (congrArg some g2))) ex_move ?_
              refine run1 (.tmp 102) (.bool false) (eval_const _) (Eq.trans (by kernel_rfl) g11) (fun ρ hc h0 => ?_)
              simp [execOp, bare, hc, h0, go_sem, *]
            · have g12 : f 12 = .bool false := hd 12 (by kernel_rfl)
              refine fastO (Op.move (Operand.tmp 12)) 104 (by first | exact hx | decide) (by kernel_rfl) (by kernel_rfl) (by kernel_rfl) (wantedG 12 103 (by decide) (by kernel_rfl) (by kernel_rfl) (Eq.trans (by kernel_rfl) (congrArg some g12))) ex_move ?_
              refine run1 (.tmp 12) (.int .i64 L) (eval_const _) (by kernel_rfl) (fun ρ hc h0 => ?_)
              simp [execOp, bare, hc, h0, go_sem, *]
            · have g12 : f 12 = .bool false := hd 12 (by kernel_rfl)
              refine fastO (Op.load 23 (Operand.tmp 3)) 105 (by first | exact hx | decide) (by kernel_rfl) (by kernel_rfl) (by kernel_rfl) (wantedG 12 103 (by decide) (by kernel_rfl) (by kernel_rfl) (Eq.trans (by kernel_rfl) (congrArg some g12))) ex_load ?_
              refine run1 (.tmp 3) (.pointer (some ⟨w.heap.size, 0, none⟩)) (eval_const _) (by kernel_rfl) (fun ρ hc h0 => ?_)
              simp [execOp, bare, hc, h0, go_sem, *]
            · have g12 : f 12 = .bool false := hd 12 (by kernel_rfl)
              refine fastO (Op.load 23 (Operand.tmp 4)) 106 (by first | exact hx | decide) (by kernel_rfl) (by kernel_rfl) (by kernel_rfl) (wantedG 12 103 (by decide) (by kernel_rfl) (by kernel_rfl) (Eq.trans (by kernel_rfl) (congrArg some g12))) ex_load ?_
              refine run1 (.tmp 4) (.pointer (some ⟨w.heap.size + 1, 0, none⟩)) (eval_const _) (by kernel_rfl) (fun ρ hc h0 => ?_)
              simp [execOp, bare, hc, h0, go_sem, *]
            · have g12 : f 12 = .bool false := hd 12 (by kernel_rfl)
              refine fastO (Op.load 23 (Operand.tmp 5)) 107 (by first | exact hx | decide) (by kernel_rfl) (by kernel_rfl) (by kernel_rfl) (wantedG 12 103 (by decide) (by kernel_rfl) (by kernel_rfl) (Eq.trans (by kernel_rfl) (congrArg some g12))) ex_load ?_
              refine run1 (.tmp 5) (.pointer (some ⟨w.heap.size + 1 + 1, 0, none⟩)) (eval_const _) (by kernel_rfl) (fun ρ hc h0 => ?_)
              simp [execOp, bare, hc, h0, go_sem, *]
            · have g12 : f 12 = .bool false := hd 12 (by kernel_rfl)
              have g14 : f 14 = .agg #[.int .i64 p.a, .int .i64 p.b, .int .i64 p.c, .int .i64 p.d] := hd 14 (by kernel_rfl)
              have g15 : f 15 = .agg #[.int .i64 q.a, .int .i64 q.b, .int .i64 q.c, .int .i64 q.d] := hd 15 (by kernel_rfl)
              have g16 : f 16 = .agg #[.int .i64 r.a, .int .i64 r.b, .int .i64 r.c, .int .i64 r.d] := hd 16 (by kernel_rfl)
              refine fastC (Op.call { callee := .value (Operand.func 18), args := #[(Operand.tmp 105), (Operand.tmp 106), (Operand.tmp 107)], argTypes := #[23, 23, 23] }) 108 18 #[.agg #[.int .i64 p.a, .int .i64 p.b, .int .i64 p.c, .int .i64 p.d], .agg #[.int .i64 q.a, .int .i64 q.b, .int .i64 q.c, .int .i64 q.d], .agg #[.int .i64 r.a, .int .i64 r.b, .int .i64 r.c, .int .i64 r.d]] (by first | exact hx | decide) (by kernel_rfl) (by kernel_rfl) (by kernel_rfl) (wantedG 12 103 (by decide) (by kernel_rfl) (by kernel_rfl) (Eq.trans (by kernel_rfl) (congrArg some g12))) ?_ (HRL.out _)
              refine runC3 (eval_func _) (eval_const _) (.tmp 105) (.tmp 106) (.tmp 107) (.agg #[.int .i64 p.a, .int .i64 p.b, .int .i64 p.c, .int .i64 p.d]) (.agg #[.int .i64 q.a, .int .i64 q.b, .int .i64 q.c, .int .i64 q.d]) (.agg #[.int .i64 r.a, .int .i64 r.b, .int .i64 r.c, .int .i64 r.d]) (Eq.trans (by kernel_rfl) g14) (Eq.trans (by kernel_rfl) g15) (Eq.trans (by kernel_rfl) g16) (fun ρ o hF hC ho h0 h1 h2 => ?_)
              simp [execOp, ho, hF, hC, h0, h1, h2, resolve, invoke, go_sem, enters_of Tryz.func18 (by kernel_rfl) rfl]
            · have g12 : f 12 = .bool false := hd 12 (by kernel_rfl)
              have g13 : f 13 = .int .i64 L := hd 13 (by kernel_rfl)
              have g17 : f 17 = .int .i64 L := hd 17 (by kernel_rfl)
              refine fastO (Op.binOp BinOp.neq 3 (Operand.tmp 104) (Operand.tmp 108) 3) 109 (by first | exact hx | decide) (by kernel_rfl) (by kernel_rfl) (by kernel_rfl) (wantedG 12 103 (by decide) (by kernel_rfl) (by kernel_rfl) (Eq.trans (by kernel_rfl) (congrArg some g12))) ex_binOp ?_
              refine run2 (.tmp 104) (.tmp 108) (.int .i64 L) (.int .i64 L) (eval_const _) (Eq.trans (by kernel_rfl) g13) (Eq.trans (by kernel_rfl) g17) (fun ρ hc h0 h1 => ?_)
              simp [execOp, bare, hc, h0, h1, go_sem, *]
            · have g2 : f 2 = .bool true := hd 2 (by kernel_rfl)
              have g12 : f 12 = .bool false := hd 12 (by kernel_rfl)
              have g18 : f 18 = .bool false := hd 18 (by kernel_rfl)
              refine fastO (Op.pick (Operand.tmp 103) (Operand.const (Value.bool true)) (Operand.tmp 109)) 110 (by first | exact hx | decide) (by kernel_rfl) (by kernel_rfl) (by kernel_rfl) (wantedG 2 93 (by decide) (by kernel_rfl) (by kernel_rfl) (Eq.trans (by kernel_rfl) (congrArg some g2))) ex_pick ?_
              refine run2 (.tmp 103) (.tmp 109) (.bool false) (.bool false) (eval_const _) (Eq.trans (by kernel_rfl) g12) (Eq.trans (by kernel_rfl) g18) (fun ρ hc h0 h1 => ?_)
              simp [execOp, bare, hc, h0, h1, go_sem, *]
            · have g2 : f 2 = .bool true := hd 2 (by kernel_rfl)
              have g19 : f 19 = .bool false := hd 19 (by kernel_rfl)
              refine fastO (Op.pick (Operand.tmp 93) (Operand.tmp 110) (Operand.const (Value.bool false))) 111 (by first | exact hx | decide) (by kernel_rfl) (by kernel_rfl) (by kernel_rfl) (wantedN (by kernel_rfl)) ex_pick ?_
              refine run2 (.tmp 93) (.tmp 110) (.bool true) (.bool false) (eval_const _) (Eq.trans (by kernel_rfl) g2) (Eq.trans (by kernel_rfl) g19) (fun ρ hc h0 h1 => ?_)
              simp [execOp, bare, hc, h0, h1, go_sem, *]
            · simp only [List.length_cons, List.length_nil] at hx; omega
          · rintro f ww hS hd
            have gl : f 20 = .bool false := hd 20 (by decide)
            simp only [tmOf, putAll, List.map_cons, List.map_nil, List.setIfInBounds_toArray, List.set_cons_zero, List.set_cons_succ]
            refine ‹∀ (a' : Act) (w' : World), Met _ a' w' → _› _ _ ?_
            go_meet
            case rel => exact ⟨gl, hS⟩
        case rest =>
        obtain ⟨rfl, hbx⟩ := hcut
        have k0 := k0.kept hbx
        have k1 := k1.kept hbx
        have k2 := k2.kept hbx
        have kd := kd.kept hbx
        have hb := hb.trans (hbx.mono hb.size)
        clear hbx
        generalize wc = w12_ at *
        go_upto_region 14 with fail
        refine wp_region_pure 6 (fun ix => match ix with | 0 => .agg #[.int .i64 p.a, .int .i64 p.b, .int .i64 p.c, .int .i64 p.d] | 1 => .agg #[.int .i64 pp.a, .int .i64 pp.b, .int .i64 pp.c, .int .i64 pp.d] | 2 => .agg #[.int .i64 q.a, .int .i64 q.b, .int .i64 q.c, .int .i64 q.d] | 3 => .agg #[.int .i64 qq.a, .int .i64 qq.b, .int .i64 qq.c, .int .i64 qq.d] | 4 => .agg #[.int .i64 r.a, .int .i64 r.b, .int .i64 r.c, .int .i64 r.d] | _ => .agg #[.int .i64 rr.a, .int .i64 rr.b, .int .i64 rr.c, .int .i64 rr.d]) (by kernel_rfl) (by kernel_rfl) (by kernel_rfl) (by decide) ?_ ?_
        · rintro ix hx f ww hS hd
          have ka := k0.kept hS
          have kb := k1.kept hS
          have kc := k2.kept hS
          have a0_ := ka.cell (i := 0) rfl
          have a1_ := ka.cell (i := 1) rfl
          have a2_ := ka.cell (i := 2) rfl
          have a3_ := ka.cell (i := 3) rfl
          have b0_ := kb.cell (i := 0) rfl
          have b1_ := kb.cell (i := 1) rfl
          have b2_ := kb.cell (i := 2) rfl
          have b3_ := kb.cell (i := 3) rfl
          have c0_ := kc.cell (i := 0) rfl
          have c1_ := kc.cell (i := 1) rfl
          have c2_ := kc.cell (i := 2) rfl
          have c3_ := kc.cell (i := 3) rfl
          rcases ix with _ | _ | _ | _ | _ | _ | ix
          · refine fastO (Op.load 23 (Operand.tmp 3)) 112 (by first | exact hx | decide) (by kernel_rfl) (by kernel_rfl) (by kernel_rfl) (wantedN (by kernel_rfl)) ex_load ?_
            refine run1 (.tmp 3) (.pointer (some ⟨w.heap.size, 0, none⟩)) (eval_const _) (by kernel_rfl) (fun ρ hc h0 => ?_)
            simp [execOp, bare, hc, h0, go_sem, *]
          · have g0 : f 0 = .agg #[.int .i64 p.a, .int .i64 p.b, .int .i64 p.c, .int .i64 p.d] := hd 0 (by kernel_rfl)
            refine fastC (Op.call { callee := .value (Operand.func 19), args := #[(Operand.tmp 112), Operand.const (Value.int IntKind.i64 4)], argTypes := #[22, 2] }) 113 19 #[.agg #[.int .i64 p.a, .int .i64 p.b, .int .i64 p.c, .int .i64 p.d], .int .i64 4] (by first | exact hx | decide) (by kernel_rfl) (by kernel_rfl) (by kernel_rfl) (wantedN (by kernel_rfl)) ?_ (HTP.out _)
            refine runC1 (eval_func _) (eval_const _) (.tmp 112) (.agg #[.int .i64 p.a, .int .i64 p.b, .int .i64 p.c, .int .i64 p.d]) (Eq.trans (by kernel_rfl) g0) (fun ρ o hF hC ho h0 => ?_)
            simp [execOp, ho, hF, hC, h0, resolve, invoke, go_sem, enters_of Tryz.func19 (by kernel_rfl) rfl]
          · refine fastO (Op.load 23 (Operand.tmp 4)) 114 (by first | exact hx | decide) (by kernel_rfl) (by kernel_rfl) (by kernel_rfl) (wantedN (by kernel_rfl)) ex_load ?_
            refine run1 (.tmp 4) (.pointer (some ⟨w.heap.size + 1, 0, none⟩)) (eval_const _) (by kernel_rfl) (fun ρ hc h0 => ?_)
            simp [execOp, bare, hc, h0, go_sem, *]
          · have g2 : f 2 = .agg #[.int .i64 q.a, .int .i64 q.b, .int .i64 q.c, .int .i64 q.d] := hd 2 (by kernel_rfl)
            refine fastC (Op.call { callee := .value (Operand.func 19), args := #[(Operand.tmp 114), Operand.const (Value.int IntKind.i64 4)], argTypes := #[22, 2] }) 115 19 #[.agg #[.int .i64 q.a, .int .i64 q.b, .int .i64 q.c, .int .i64 q.d], .int .i64 4] (by first | exact hx | decide) (by kernel_rfl) (by kernel_rfl) (by kernel_rfl) (wantedN (by kernel_rfl)) ?_ (HTQ.out _)
            refine runC1 (eval_func _) (eval_const _) (.tmp 114) (.agg #[.int .i64 q.a, .int .i64 q.b, .int .i64 q.c, .int .i64 q.d]) (Eq.trans (by kernel_rfl) g2) (fun ρ o hF hC ho h0 => ?_)
            simp [execOp, ho, hF, hC, h0, resolve, invoke, go_sem, enters_of Tryz.func19 (by kernel_rfl) rfl]
          · refine fastO (Op.load 23 (Operand.tmp 5)) 116 (by first | exact hx | decide) (by kernel_rfl) (by kernel_rfl) (by kernel_rfl) (wantedN (by kernel_rfl)) ex_load ?_
            refine run1 (.tmp 5) (.pointer (some ⟨w.heap.size + 1 + 1, 0, none⟩)) (eval_const _) (by kernel_rfl) (fun ρ hc h0 => ?_)
            simp [execOp, bare, hc, h0, go_sem, *]
          · have g4 : f 4 = .agg #[.int .i64 r.a, .int .i64 r.b, .int .i64 r.c, .int .i64 r.d] := hd 4 (by kernel_rfl)
            refine fastC (Op.call { callee := .value (Operand.func 19), args := #[(Operand.tmp 116), Operand.const (Value.int IntKind.i64 4)], argTypes := #[22, 2] }) 117 19 #[.agg #[.int .i64 r.a, .int .i64 r.b, .int .i64 r.c, .int .i64 r.d], .int .i64 4] (by first | exact hx | decide) (by kernel_rfl) (by kernel_rfl) (by kernel_rfl) (wantedN (by kernel_rfl)) ?_ (HTR.out _)
            refine runC1 (eval_func _) (eval_const _) (.tmp 116) (.agg #[.int .i64 r.a, .int .i64 r.b, .int .i64 r.c, .int .i64 r.d]) (Eq.trans (by kernel_rfl) g4) (fun ρ o hF hC ho h0 => ?_)
            simp [execOp, ho, hF, hC, h0, resolve, invoke, go_sem, enters_of Tryz.func19 (by kernel_rfl) rfl]
          · omega
        · rintro f ww hS hd
          have ka := k0.kept hS
          have kb := k1.kept hS
          have kc := k2.kept hS
          have hbw := hb.trans (hS.mono hb.size)
          have a0 := ka.cell (i := 0) rfl
          have a1 := ka.cell (i := 1) rfl
          have a2 := ka.cell (i := 2) rfl
          have a3 := ka.cell (i := 3) rfl
          have e0 := ka.frozen 0
          have e1 := ka.frozen 1
          have e2 := ka.frozen 2
          have e3 := ka.frozen 3
          have b0 := kb.cell (i := 0) rfl
          have b1 := kb.cell (i := 1) rfl
          have b2 := kb.cell (i := 2) rfl
          have b3 := kb.cell (i := 3) rfl
          have f0 := kb.frozen 0
          have f1 := kb.frozen 1
          have f2 := kb.frozen 2
          have f3 := kb.frozen 3
          have c0 := kc.cell (i := 0) rfl
          have c1 := kc.cell (i := 1) rfl
          have c2 := kc.cell (i := 2) rfl
          have c3 := kc.cell (i := 3) rfl
          have i0 := kc.frozen 0
          have i1 := kc.frozen 1
          have i2 := kc.frozen 2
          have i3 := kc.frozen 3
          have g1 : f 1 = .agg #[.int .i64 pp.a, .int .i64 pp.b, .int .i64 pp.c, .int .i64 pp.d] := hd 1 (by decide)
          have g3 : f 3 = .agg #[.int .i64 qq.a, .int .i64 qq.b, .int .i64 qq.c, .int .i64 qq.d] := hd 3 (by decide)
          have g5 : f 5 = .agg #[.int .i64 rr.a, .int .i64 rr.b, .int .i64 rr.c, .int .i64 rr.d] := hd 5 (by decide)
          simp only [seqW, tmOf, putAll, List.map_cons, List.map_nil, List.setIfInBounds_toArray, List.set_cons_zero, List.set_cons_succ, List.length_cons, List.length_nil]
          refine wpOp_list rfl ?_
          go_wp2
          refine wpOp_list rfl ?_
          go_wp2
          refine wpOp_list rfl ?_
          go_wp2
          have L0 := (((((((((Blk.put4 ka (.int .i64 pp.a) (.int .i64 pp.b) (.int .i64 pp.c) (.int .i64 pp.d)).other (C := w.heap.size + 1) 0 (.int .i64 qq.a) (by omega)).other (C := w.heap.size + 1) 1 (.int .i64 qq.b) (by omega)).other (C := w.heap.size + 1) 2 (.int .i64 qq.c) (by omega)).other (C := w.heap.size + 1) 3 (.int .i64 qq.d) (by omega)).other (C := w.heap.size + 1 + 1) 0 (.int .i64 rr.a) (by omega)).other (C := w.heap.size + 1 + 1) 1 (.int .i64 rr.b) (by omega)).other (C := w.heap.size + 1 + 1) 2 (.int .i64 rr.c) (by omega)).other (C := w.heap.size + 1 + 1) 3 (.int .i64 rr.d) (by omega))
          have L1 := (((((Blk.put4 ((((kb.other (C := w.heap.size) 0 (.int .i64 pp.a) (by omega)).other (C := w.heap.size) 1 (.int .i64 pp.b) (by omega)).other (C := w.heap.size) 2 (.int .i64 pp.c) (by omega)).other (C := w.heap.size) 3 (.int .i64 pp.d) (by omega)) (.int .i64 qq.a) (.int .i64 qq.b) (.int .i64 qq.c) (.int .i64 qq.d)).other (C := w.heap.size + 1 + 1) 0 (.int .i64 rr.a) (by omega)).other (C := w.heap.size + 1 + 1) 1 (.int .i64 rr.b) (by omega)).other (C := w.heap.size + 1 + 1) 2 (.int .i64 rr.c) (by omega)).other (C := w.heap.size + 1 + 1) 3 (.int .i64 rr.d) (by omega))
          have L2 := (Blk.put4 ((((((((kc.other (C := w.heap.size) 0 (.int .i64 pp.a) (by omega)).other (C := w.heap.size) 1 (.int .i64 pp.b) (by omega)).other (C := w.heap.size) 2 (.int .i64 pp.c) (by omega)).other (C := w.heap.size) 3 (.int .i64 pp.d) (by omega)).other (C := w.heap.size + 1) 0 (.int .i64 qq.a) (by omega)).other (C := w.heap.size + 1) 1 (.int .i64 qq.b) (by omega)).other (C := w.heap.size + 1) 2 (.int .i64 qq.c) (by omega)).other (C := w.heap.size + 1) 3 (.int .i64 qq.d) (by omega)) (.int .i64 rr.a) (.int .i64 rr.b) (.int .i64 rr.c) (.int .i64 rr.d))
          have hbX := ((((((((((((hbw.setCell (p := ⟨w.heap.size, 0, none⟩) (by simp only; omega) (.int .i64 pp.a)).setCell (p := ⟨w.heap.size, 1, none⟩) (by simp only; omega) (.int .i64 pp.b)).setCell (p := ⟨w.heap.size, 2, none⟩) (by simp only; omega) (.int .i64 pp.c)).setCell (p := ⟨w.heap.size, 3, none⟩) (by simp only; omega) (.int .i64 pp.d)).setCell (p := ⟨w.heap.size + 1, 0, none⟩) (by simp only; omega) (.int .i64 qq.a)).setCell (p := ⟨w.heap.size + 1, 1, none⟩) (by simp only; omega) (.int .i64 qq.b)).setCell (p := ⟨w.heap.size + 1, 2, none⟩) (by simp only; omega) (.int .i64 qq.c)).setCell (p := ⟨w.heap.size + 1, 3, none⟩) (by simp only; omega) (.int .i64 qq.d)).setCell (p := ⟨w.heap.size + 1 + 1, 0, none⟩) (by simp only; omega) (.int .i64 rr.a)).setCell (p := ⟨w.heap.size + 1 + 1, 1, none⟩) (by simp only; omega) (.int .i64 rr.b)).setCell (p := ⟨w.heap.size + 1 + 1, 2, none⟩) (by simp only; omega) (.int .i64 rr.c)).setCell (p := ⟨w.heap.size + 1 + 1, 3, none⟩) (by simp only; omega) (.int .i64 rr.d))
          try simp only [Exit.inBlock, Exit.then]
          go_wp2_with fail
          go_roundg (2 - (i + 1))
          case measure => rw [HGK.out]; omega
          case rel => exact ⟨i + 1, pp, qq, rr, by omega, rfl, by go_num, HIN.out.1, HIN.out.2.1, HIN.out.2.2, L0, L1, L2, hbX⟩
      · have c0 : crossS p q r = 0 := by unfold crossS; rw [if_neg hE3]
        have l0 : leftS p q r = 0 := by unfold leftS; rw [if_neg hE3]
        rw [c0] at hc
        rw [l0] at hl
        obtain ⟨E3, hE3e⟩ : ∃ y, lineE3 p q r = y := ⟨_, rfl⟩
        rw [hE3e] at hc hl hE3
        simp only [hE3e] at hb1
        have e3a : (E3 == 0) = false := by simp [hE3]
        have e3b : (E3 != 0) = true := by simp [hE3]
        by_cases hE : lineE p q = 0
        · obtain ⟨rp, rq, hne⟩ := lineE_good hE
          have e1 : dirP p q = dirV p q := by unfold dirP; rw [if_pos hE]
          rw [hE, e1] at hd
          rw [hE] at hb0
          have hrd := fun W => directionR_any p q W rp rq hne
          have heqd := fun W => eqVec (dirV p q) (dirV p q) W
          simp only [decide_true] at heqd
          generalize dirV p q = d at *
          have HD := Lib.hid hd
          have HC := Lib.hid hc
          have HL := Lib.hid hl
          have HB0 := Lib.hid hb0
          have HB1 := Lib.hid hb1
          have HRD := Lib.hid hrd
          clear hd hc hl hb0 hb1 hrd e1 c0 l0 hE rp rq hne hp hq hr hE3e
          have k0_0 := k0.cell (i := 0) rfl
          have k0_1 := k0.cell (i := 1) rfl
          have k0_2 := k0.cell (i := 2) rfl
          have k0_3 := k0.cell (i := 3) rfl
          have k1_0 := k1.cell (i := 0) rfl
          have k1_1 := k1.cell (i := 1) rfl
          have k1_2 := k1.cell (i := 2) rfl
          have k1_3 := k1.cell (i := 3) rfl
          have k2_0 := k2.cell (i := 0) rfl
          have k2_1 := k2.cell (i := 1) rfl
          have k2_2 := k2.cell (i := 2) rfl
          have k2_3 := k2.cell (i := 3) rfl
          go_wp2_with fail
          refine (HD.out _).mono ?_
          rintro e' wc1 ⟨rfl, hc1⟩
          clear k0_0 k0_1 k0_2 k0_3 k1_0 k1_1 k1_2 k1_3 k2_0 k2_1 k2_2 k2_3
          have k0 := k0.kept hc1
          have k1 := k1.kept hc1
          have k2 := k2.kept hc1
          have hb := hb.trans (hc1.mono hb.size)
          clear hc1
          have k0_0 := k0.cell (i := 0) rfl
          have k0_1 := k0.cell (i := 1) rfl
          have k0_2 := k0.cell (i := 2) rfl
          have k0_3 := k0.cell (i := 3) rfl
          have k1_0 := k1.cell (i := 0) rfl
          have k1_1 := k1.cell (i := 1) rfl
          have k1_2 := k1.cell (i := 2) rfl
          have k1_3 := k1.cell (i := 3) rfl
          have k2_0 := k2.cell (i := 0) rfl
          have k2_1 := k2.cell (i := 1) rfl
          have k2_2 := k2.cell (i := 2) rfl
          have k2_3 := k2.cell (i := 3) rfl
          clear k2_0 k2_1 k2_2 k2_3
          clear k0_0 k0_1 k0_2 k0_3 k1_0 k1_1 k1_2 k1_3
          obtain ⟨wa2, hwa2⟩ : ∃ w', wc1.alloc (.cells #[.int .i64 0, .int .i64 0, .int .i64 0] 24) = w' := ⟨_, rfl⟩
          have kk2 : Blk wa2 wc1.heap.size #[.int .i64 0, .int .i64 0, .int .i64 0] 24 := by rw [← hwa2]; exact Blk.new _ _ _
          have hk2 : Below wc1.heap.size wc1 wa2 := by rw [← hwa2]; exact (Below.refl _ _).alloc (Nat.le_refl _) _
          obtain ⟨ws2, hws2⟩ : ∃ w', (((wa2.setCell ⟨wc1.heap.size, 0, none⟩ (.int .i64 d.a)).setCell ⟨wc1.heap.size, 1, none⟩ (.int .i64 d.b)).setCell ⟨wc1.heap.size, 2, none⟩ (.int .i64 d.c)) = w' := ⟨_, rfl⟩
          have hj2 : Below wc1.heap.size wc1 ws2 := by rw [← hws2]; exact (((hk2.setCell (by simp only; omega) _).setCell (by simp only; omega) _).setCell (by simp only; omega) _)
          have kd : Blk ws2 wc1.heap.size #[.int .i64 d.a, .int .i64 d.b, .int .i64 d.c] 24 := by rw [← hws2]; exact (((kk2.set_eq 0 _ rfl).set_eq 1 _ rfl).set_eq 2 _ rfl)
          have kc20 := kk2.cell (i := 0) rfl
          have kf20 := kk2.frozen 0
          have kc21 := kk2.cell (i := 1) rfl
          have kf21 := kk2.frozen 1
          have kc22 := kk2.cell (i := 2) rfl
          have kf22 := kk2.frozen 2
          have k0 := k0.kept hj2
          have k1 := k1.kept hj2
          have k2 := k2.kept hj2
          have hb := hb.trans (hj2.mono hb.size)
          clear hj2 hk2
          have k0_0 := k0.cell (i := 0) rfl
          have k0_1 := k0.cell (i := 1) rfl
          have k0_2 := k0.cell (i := 2) rfl
          have k0_3 := k0.cell (i := 3) rfl
          have k1_0 := k1.cell (i := 0) rfl
          have k1_1 := k1.cell (i := 1) rfl
          have k1_2 := k1.cell (i := 2) rfl
          have k1_3 := k1.cell (i := 3) rfl
          have kd_0 := kd.cell (i := 0) rfl
          have kd_1 := kd.cell (i := 1) rfl
          have kd_2 := kd.cell (i := 2) rfl
          clear k0_0 k0_1 k0_2 k0_3 k1_0 k1_1 k1_2 k1_3 kd_0 kd_1 kd_2
          have k0_0 := k0.cell (i := 0) rfl
          have k0_1 := k0.cell (i := 1) rfl
          have k0_2 := k0.cell (i := 2) rfl
          have k0_3 := k0.cell (i := 3) rfl
          have k1_0 := k1.cell (i := 0) rfl
          have k1_1 := k1.cell (i := 1) rfl
          have k1_2 := k1.cell (i := 2) rfl
          have k1_3 := k1.cell (i := 3) rfl
          have k2_0 := k2.cell (i := 0) rfl
          have k2_1 := k2.cell (i := 1) rfl
          have k2_2 := k2.cell (i := 2) rfl
          have k2_3 := k2.cell (i := 3) rfl
          have kd_0 := kd.cell (i := 0) rfl
          have kd_1 := kd.cell (i := 1) rfl
          have kd_2 := kd.cell (i := 2) rfl
          clear kd_0 kd_1 kd_2
          go_wp2_with fail
          refine (HC.out _).mono ?_
          rintro e' wc3 ⟨rfl, hc3⟩
          clear k0_0 k0_1 k0_2 k0_3 k1_0 k1_1 k1_2 k1_3 k2_0 k2_1 k2_2 k2_3
          have k0 := k0.kept hc3
          have k1 := k1.kept hc3
          have k2 := k2.kept hc3
          have kd := kd.kept hc3
          have hb := hb.trans (hc3.mono hb.size)
          clear hc3
          have k0_0 := k0.cell (i := 0) rfl
          have k0_1 := k0.cell (i := 1) rfl
          have k0_2 := k0.cell (i := 2) rfl
          have k0_3 := k0.cell (i := 3) rfl
          have k1_0 := k1.cell (i := 0) rfl
          have k1_1 := k1.cell (i := 1) rfl
          have k1_2 := k1.cell (i := 2) rfl
          have k1_3 := k1.cell (i := 3) rfl
          have k2_0 := k2.cell (i := 0) rfl
          have k2_1 := k2.cell (i := 1) rfl
          have k2_2 := k2.cell (i := 2) rfl
          have k2_3 := k2.cell (i := 3) rfl
          go_wp2_with fail
          refine (HL.out _).mono ?_
          rintro e' wc4 ⟨rfl, hc4⟩
          clear k0_0 k0_1 k0_2 k0_3 k1_0 k1_1 k1_2 k1_3 k2_0 k2_1 k2_2 k2_3
          have k0 := k0.kept hc4
          have k1 := k1.kept hc4
          have k2 := k2.kept hc4
          have kd := kd.kept hc4
          have hb := hb.trans (hc4.mono hb.size)
          clear hc4
          have k0_0 := k0.cell (i := 0) rfl
          have k0_1 := k0.cell (i := 1) rfl
          have k0_2 := k0.cell (i := 2) rfl
          have k0_3 := k0.cell (i := 3) rfl
          have k1_0 := k1.cell (i := 0) rfl
          have k1_1 := k1.cell (i := 1) rfl
          have k1_2 := k1.cell (i := 2) rfl
          have k1_3 := k1.cell (i := 3) rfl
          have k2_0 := k2.cell (i := 0) rfl
          have k2_1 := k2.cell (i := 1) rfl
          have k2_2 := k2.cell (i := 2) rfl
          have k2_3 := k2.cell (i := 3) rfl
          clear k0_0 k0_1 k0_2 k0_3 k1_0 k1_1 k1_2 k1_3 k2_0 k2_1 k2_2 k2_3
          go_upto_region 7 with fail
          go_cut [14, 15] from 40 to 47 (fun v14 v15 wx => v14 = .int .i64 0 ∧ v15 = .int .i64 E3 ∧ Below wc4.heap.size wc4 wx)
          case first =>
            refine wp_region_kn' (fun ix => ix != 6) (fun ix => match ix with | 0 => .agg #[.int .i64 p.a, .int .i64 p.b, .int .i64 p.c, .int .i64 p.d] | 1 => .agg #[.int .i64 q.a, .int .i64 q.b, .int .i64 q.c, .int .i64 q.d] | 2 => .int .i64 0 | 3 => .agg #[.int .i64 p.a, .int .i64 p.b, .int .i64 p.c, .int .i64 p.d] | 4 => .agg #[.int .i64 q.a, .int .i64 q.b, .int .i64 q.c, .int .i64 q.d] | 5 => .agg #[.int .i64 r.a, .int .i64 r.b, .int .i64 r.c, .int .i64 r.d] | 7 => .int .i64 E3 | 8 => .int .i64 0 | _ => .int .i64 E3) (fun ix v w => match ix with  | _ => ∃ b, v = .slice (some ⟨b, 0, none⟩) 1 1 ∧ RdV w (some ⟨b, 0, none⟩) [r]) (by kernel_rfl) (by kernel_rfl) ?_ ?_ ?_
            · intro ix v w8 w9 hb h
              rcases ix with _ | _ | _ | _ | _ | _ | _ | ix
              · obtain ⟨b, e, h⟩ := h; exact ⟨b, e, h.below hb⟩
              · obtain ⟨b, e, h⟩ := h; exact ⟨b, e, h.below hb⟩
              · obtain ⟨b, e, h⟩ := h; exact ⟨b, e, h.below hb⟩
              · obtain ⟨b, e, h⟩ := h; exact ⟨b, e, h.below hb⟩
              · obtain ⟨b, e, h⟩ := h; exact ⟨b, e, h.below hb⟩
              · obtain ⟨b, e, h⟩ := h; exact ⟨b, e, h.below hb⟩
              · obtain ⟨b, e, h⟩ := h; exact ⟨b, e, h.below hb⟩
              · obtain ⟨b, e, h⟩ := h; exact ⟨b, e, h.below hb⟩
            · rintro ix hx f ww hS hd
              have ka := k0.kept hS
              have kb := k1.kept hS
              have kc := k2.kept hS
              have a0_ := ka.cell (i := 0) rfl
              have a1_ := ka.cell (i := 1) rfl
              have a2_ := ka.cell (i := 2) rfl
              have a3_ := ka.cell (i := 3) rfl
              have b0_ := kb.cell (i := 0) rfl
              have b1_ := kb.cell (i := 1) rfl
              have b2_ := kb.cell (i := 2) rfl
              have b3_ := kb.cell (i := 3) rfl
              have c0_ := kc.cell (i := 0) rfl
              have c1_ := kc.cell (i := 1) rfl
              have c2_ := kc.cell (i := 2) rfl
              have c3_ := kc.cell (i := 3) rfl
              rcases ix with _ | _ | _ | _ | _ | _ | _ | _ | _ | _ | ix
              · refine wpOp_list rfl ?_
                simp only [tmOf, putAll, List.map_cons, List.map_nil, List.setIfInBounds_toArray, List.set_cons_zero, List.set_cons_succ]
                go_wp2
                refine ⟨.agg #[.int .i64 p.a, .int .i64 p.b, .int .i64 p.c, .int .i64 p.d], ?_⟩
                simp [upd, Below.refl]
              · refine wpOp_list rfl ?_
                simp only [tmOf, putAll, List.map_cons, List.map_nil, List.setIfInBounds_toArray, List.set_cons_zero, List.set_cons_succ]
                go_wp2
                refine ⟨.agg #[.int .i64 q.a, .int .i64 q.b, .int .i64 q.c, .int .i64 q.d], ?_⟩
                simp [upd, Below.refl]
              · have g0 : f 0 = .agg #[.int .i64 p.a, .int .i64 p.b, .int .i64 p.c, .int .i64 p.d] := hd 0 (by kernel_rfl)
                have g1 : f 1 = .agg #[.int .i64 q.a, .int .i64 q.b, .int .i64 q.c, .int .i64 q.d] := hd 1 (by kernel_rfl)
                refine wpOp_list rfl ?_
                simp only [tmOf, putAll, List.map_cons, List.map_nil, List.setIfInBounds_toArray, List.set_cons_zero, List.set_cons_succ]
                go_wp2_with fail
                refine (HB0.out _).mono ?_
                rintro e' wf ⟨rfl, hbf⟩
                go_wp2_with fail
                try refine ⟨.int .i64 0, ?_⟩
                simp [upd, g0, g1, hbf]
              · refine wpOp_list rfl ?_
                simp only [tmOf, putAll, List.map_cons, List.map_nil, List.setIfInBounds_toArray, List.set_cons_zero, List.set_cons_succ]
                go_wp2
                refine ⟨.agg #[.int .i64 p.a, .int .i64 p.b, .int .i64 p.c, .int .i64 p.d], ?_⟩
                simp [upd, Below.refl]
              · refine wpOp_list rfl ?_
                simp only [tmOf, putAll, List.map_cons, List.map_nil, List.setIfInBounds_toArray, List.set_cons_zero, List.set_cons_succ]
                go_wp2
                refine ⟨.agg #[.int .i64 q.a, .int .i64 q.b, .int .i64 q.c, .int .i64 q.d], ?_⟩
                simp [upd, Below.refl]
              · refine wpOp_list rfl ?_
                simp only [tmOf, putAll, List.map_cons, List.map_nil, List.setIfInBounds_toArray, List.set_cons_zero, List.set_cons_succ]
                go_wp2
                refine ⟨.agg #[.int .i64 r.a, .int .i64 r.b, .int .i64 r.c, .int .i64 r.d], ?_⟩
                simp [upd, Below.refl]
              · have g5 : f 5 = .agg #[.int .i64 r.a, .int .i64 r.b, .int .i64 r.c, .int .i64 r.d] := hd 5 (by kernel_rfl)
                refine wpOp_list rfl ?_
                simp only [tmOf, putAll, List.map_cons, List.map_nil, List.setIfInBounds_toArray, List.set_cons_zero, List.set_cons_succ]
                go_wp2
                exact ⟨.slice (some ⟨ww.heap.size, 0, none⟩) 1 1, by simp [upd, g5], ⟨_, rfl, planes1 ww r.a r.b r.c r.d _⟩, (Below.refl _ ww).alloc (Nat.le_refl _) _⟩
              · have g3 : f 3 = .agg #[.int .i64 p.a, .int .i64 p.b, .int .i64 p.c, .int .i64 p.d] := hd 3 (by kernel_rfl)
                have g4 : f 4 = .agg #[.int .i64 q.a, .int .i64 q.b, .int .i64 q.c, .int .i64 q.d] := hd 4 (by kernel_rfl)
                obtain ⟨b46, g6, hR46⟩ : ∃ b, f 6 = .slice (some ⟨b, 0, none⟩) 1 1 ∧ RdV ww (some ⟨b, 0, none⟩) [r] := hd 6 (by kernel_rfl)
                refine wpOp_list rfl ?_
                simp only [tmOf, putAll, List.map_cons, List.map_nil, List.setIfInBounds_toArray, List.set_cons_zero, List.set_cons_succ]
                have hf := HB1.out _ ww hR46
                have HF := Lib.hid hf
                clear hf hR46
                go_wp2_with fail
                refine HF.out.mono ?_
                rintro e' wf ⟨rfl, hbf⟩
                go_wp2_with fail
                try refine ⟨.int .i64 E3, ?_⟩
                simp [upd, g3, g4, g6, hbf]
              · have g2 : f 2 = .int .i64 0 := hd 2 (by kernel_rfl)
                refine wpOp_list rfl ?_
                simp only [tmOf, putAll, List.map_cons, List.map_nil, List.setIfInBounds_toArray, List.set_cons_zero, List.set_cons_succ]
                go_wp2
                refine ⟨.int .i64 0, ?_⟩
                simp [upd, g2, Below.refl]
              · have g7 : f 7 = .int .i64 E3 := hd 7 (by kernel_rfl)
                refine wpOp_list rfl ?_
                simp only [tmOf, putAll, List.map_cons, List.map_nil, List.setIfInBounds_toArray, List.set_cons_zero, List.set_cons_succ]
                go_wp2
                refine ⟨.int .i64 E3, ?_⟩
                simp [upd, g7, Below.refl]
              · simp only [List.length_cons, List.length_nil] at hx; omega
            · rintro f ww hS hd
              have G14 : f 8 = .int .i64 0 := hd 8 (by decide)
              have G15 : f 9 = .int .i64 E3 := hd 9 (by decide)
              simp only [tmOf, putAll, List.map_cons, List.map_nil, List.setIfInBounds_toArray, List.set_cons_zero, List.set_cons_succ]
              refine ‹∀ (a' : Act) (w' : World), Met _ a' w' → _› _ _ ?_
              go_meet
              case rel => exact ⟨G14, G15, hS⟩
          case rest =>
          obtain ⟨rfl, rfl, hbx⟩ := hcut
          have k0 := k0.kept hbx
          have k1 := k1.kept hbx
          have k2 := k2.kept hbx
          have kd := kd.kept hbx
          have hb := hb.trans (hbx.mono hb.size)
          clear hbx HB0 HB1
          generalize wc = w7_ at *
          have k0_0 := k0.cell (i := 0) rfl
          have k0_1 := k0.cell (i := 1) rfl
          have k0_2 := k0.cell (i := 2) rfl
          have k0_3 := k0.cell (i := 3) rfl
          have k1_0 := k1.cell (i := 0) rfl
          have k1_1 := k1.cell (i := 1) rfl
          have k1_2 := k1.cell (i := 2) rfl
          have k1_3 := k1.cell (i := 3) rfl
          have k2_0 := k2.cell (i := 0) rfl
          have k2_1 := k2.cell (i := 1) rfl
          have k2_2 := k2.cell (i := 2) rfl
          have k2_3 := k2.cell (i := 3) rfl
          have kd_0 := kd.cell (i := 0) rfl
          have kd_1 := kd.cell (i := 1) rfl
          have kd_2 := kd.cell (i := 2) rfl
          clear k0_0 k0_1 k0_2 k0_3 k1_0 k1_1 k1_2 k1_3 k2_0 k2_1 k2_2 k2_3 kd_0 kd_1 kd_2
          go_upto_region 10 with fail
          go_cut [90] from 82 to 90 (fun v90 wx => v90 = .bool false ∧ Below w7_.heap.size w7_ wx)
          case first =>
            refine wp_region_pure' (fun ix => match ix with | 0 => .int .i64 0 | 1 => .bool true | 2 => .bool true | 3 => .agg #[.int .i64 d.a, .int .i64 d.b, .int .i64 d.c] | 4 => .agg #[.int .i64 p.a, .int .i64 p.b, .int .i64 p.c, .int .i64 p.d] | 5 => .agg #[.int .i64 q.a, .int .i64 q.b, .int .i64 q.c, .int .i64 q.d] | 6 => .agg #[.int .i64 d.a, .int .i64 d.b, .int .i64 d.c] | 7 => .bool false | _ => .bool false) (by kernel_rfl) (by kernel_rfl) ?_ ?_
            · rintro ix hx f ww hS hd
              have ka := k0.kept hS
              have kb := k1.kept hS
              have kc := k2.kept hS
              have a0_ := ka.cell (i := 0) rfl
              have a1_ := ka.cell (i := 1) rfl
              have a2_ := ka.cell (i := 2) rfl
              have a3_ := ka.cell (i := 3) rfl
              have b0_ := kb.cell (i := 0) rfl
              have b1_ := kb.cell (i := 1) rfl
              have b2_ := kb.cell (i := 2) rfl
              have b3_ := kb.cell (i := 3) rfl
              have c0_ := kc.cell (i := 0) rfl
              have c1_ := kc.cell (i := 1) rfl
              have c2_ := kc.cell (i := 2) rfl
              have c3_ := kc.cell (i := 3) rfl
              have kx := kd.kept hS
              have x0_ := kx.cell (i := 0) rfl
              have x1_ := kx.cell (i := 1) rfl
              have x2_ := kx.cell (i := 2) rfl
              rcases ix with _ | _ | _ | _ | _ | _ | _ | _ | _ | ix
              · refine fastO (Op.move (Operand.tmp 14)) 82 (by first | exact hx | decide) (by kernel_rfl) (by kernel_rfl) (by kernel_rfl) (wantedN (by kernel_rfl)) ex_move ?_
                refine run1 (.tmp 14) (.int .i64 0) (eval_const _) (by kernel_rfl) (fun ρ hc h0 => ?_)
                simp [execOp, bare, hc, h0, go_sem, *]
              · have g0 : f 0 = .int .i64 0 := hd 0 (by kernel_rfl)
                refine fastO (Op.binOp BinOp.eql 3 (Operand.tmp 82) (Operand.const (Value.int IntKind.i64 0)) 3) 83 (by first | exact hx | decide) (by kernel_rfl) (by kernel_rfl) (by kernel_rfl) (wantedN (by kernel_rfl)) ex_binOp ?_
                refine run1 (.tmp 82) (.int .i64 0) (eval_const _) (Eq.trans (by kernel_rfl) g0) (fun ρ hc h0 => ?_)
                simp [execOp, bare, hc, h0, go_sem, *]
              · have g1 : f 1 = .bool true := hd 1 (by kernel_rfl)
                refine fastO (Op.move (Operand.tmp 83)) 84 (by first | exact hx | decide) (by kernel_rfl) (by kernel_rfl) (by kernel_rfl) (wantedN (by kernel_rfl)) ex_move ?_
                refine run1 (.tmp 83) (.bool true) (eval_const _) (Eq.trans (by kernel_rfl) g1) (fun ρ hc h0 => ?_)
                simp [execOp, bare, hc, h0, go_sem, *]
              · have g2 : f 2 = .bool true := hd 2 (by kernel_rfl)
                refine fastO (Op.load 24 (Operand.tmp 8)) 85 (by first | exact hx | decide) (by kernel_rfl) (by kernel_rfl) (by kernel_rfl) (wantedG 2 84 (by decide) (by kernel_rfl) (by kernel_rfl) (Eq.trans (by kernel_rfl) (congrArg some g2))) ex_load ?_
                refine run1 (.tmp 8) (.pointer (some ⟨wc1.heap.size, 0, none⟩)) (eval_const _) (by kernel_rfl) (fun ρ hc h0 => ?_)
                simp [execOp, bare, hc, h0, go_sem, *]
              · have g2 : f 2 = .bool true := hd 2 (by kernel_rfl)
                refine fastO (Op.load 23 (Operand.tmp 3)) 86 (by first | exact hx | decide) (by kernel_rfl) (by kernel_rfl) (by kernel_rfl) (wantedG 2 84 (by decide) (by kernel_rfl) (by kernel_rfl) (Eq.trans (by kernel_rfl) (congrArg some g2))) ex_load ?_
                refine run1 (.tmp 3) (.pointer (some ⟨w.heap.size, 0, none⟩)) (eval_const _) (by kernel_rfl) (fun ρ hc h0 => ?_)
                simp [execOp, bare, hc, h0, go_sem, *]
              · have g2 : f 2 = .bool true := hd 2 (by kernel_rfl)
                refine fastO (Op.load 23 (Operand.tmp 4)) 87 (by first | exact hx | decide) (by kernel_rfl) (by kernel_rfl) (by kernel_rfl) (wantedG 2 84 (by decide) (by kernel_rfl) (by kernel_rfl) (Eq.trans (by kernel_rfl) (congrArg some g2))) ex_load ?_
                refine run1 (.tmp 4) (.pointer (some ⟨w.heap.size + 1, 0, none⟩)) (eval_const _) (by kernel_rfl) (fun ρ hc h0 => ?_)
                simp [execOp, bare, hc, h0, go_sem, *]
              · have g2 : f 2 = .bool true := hd 2 (by kernel_rfl)
                have g4 : f 4 = .agg #[.int .i64 p.a, .int .i64 p.b, .int .i64 p.c, .int .i64 p.d] := hd 4 (by kernel_rfl)
                have g5 : f 5 = .agg #[.int .i64 q.a, .int .i64 q.b, .int .i64 q.c, .int .i64 q.d] := hd 5 (by kernel_rfl)
                refine fastC (Op.call { callee := .value (Operand.func 14), args := #[(Operand.tmp 86), (Operand.tmp 87)], argTypes := #[23, 23] }) 88 14 #[.agg #[.int .i64 p.a, .int .i64 p.b, .int .i64 p.c, .int .i64 p.d], .agg #[.int .i64 q.a, .int .i64 q.b, .int .i64 q.c, .int .i64 q.d]] (by first | exact hx | decide) (by kernel_rfl) (by kernel_rfl) (by kernel_rfl) (wantedG 2 84 (by decide) (by kernel_rfl) (by kernel_rfl) (Eq.trans (by kernel_rfl) (congrArg some g2))) ?_ (HRD.out _)
                refine runC2 (eval_func _) (eval_const _) (.tmp 86) (.tmp 87) (.agg #[.int .i64 p.a, .int .i64 p.b, .int .i64 p.c, .int .i64 p.d]) (.agg #[.int .i64 q.a, .int .i64 q.b, .int .i64 q.c, .int .i64 q.d]) (Eq.trans (by kernel_rfl) g4) (Eq.trans (by kernel_rfl) g5) (fun ρ o hF hC ho h0 h1 => ?_)
                simp [execOp, ho, hF, hC, h0, h1, resolve, invoke, go_sem, enters_of Tryz.func14 (by kernel_rfl) rfl]
              · have g2 : f 2 = .bool true := hd 2 (by kernel_rfl)
                have g3 : f 3 = .agg #[.int .i64 d.a, .int .i64 d.b, .int .i64 d.c] := hd 3 (by kernel_rfl)
                have g6 : f 6 = .agg #[.int .i64 d.a, .int .i64 d.b, .int .i64 d.c] := hd 6 (by kernel_rfl)
                refine fastO (Op.binOp BinOp.neq 24 (Operand.tmp 85) (Operand.tmp 88) 24) 89 (by first | exact hx | decide) (by kernel_rfl) (by kernel_rfl) (by kernel_rfl) (wantedG 2 84 (by decide) (by kernel_rfl) (by kernel_rfl) (Eq.trans (by kernel_rfl) (congrArg some g2))) ex_binOp ?_
                refine run2 (.tmp 85) (.tmp 88) (.agg #[.int .i64 d.a, .int .i64 d.b, .int .i64 d.c]) (.agg #[.int .i64 d.a, .int .i64 d.b, .int .i64 d.c]) (eval_const _) (Eq.trans (by kernel_rfl) g3) (Eq.trans (by kernel_rfl) g6) (fun ρ hc h0 h1 => ?_)
                simp [execOp, bare, hc, h0, h1, go_sem, *]
              · have g2 : f 2 = .bool true := hd 2 (by kernel_rfl)
                have g7 : f 7 = .bool false := hd 7 (by kernel_rfl)
                refine fastO (Op.pick (Operand.tmp 84) (Operand.tmp 89) (Operand.const (Value.bool false))) 90 (by first | exact hx | decide) (by kernel_rfl) (by kernel_rfl) (by kernel_rfl) (wantedN (by kernel_rfl)) ex_pick ?_
                refine run2 (.tmp 84) (.tmp 89) (.bool true) (.bool false) (eval_const _) (Eq.trans (by kernel_rfl) g2) (Eq.trans (by kernel_rfl) g7) (fun ρ hc h0 h1 => ?_)
                simp [execOp, bare, hc, h0, h1, go_sem, *]
              · simp only [List.length_cons, List.length_nil] at hx; omega
            · rintro f ww hS hd
              have gl : f 8 = .bool false := hd 8 (by decide)
              simp only [tmOf, putAll, List.map_cons, List.map_nil, List.setIfInBounds_toArray, List.set_cons_zero, List.set_cons_succ]
              refine ‹∀ (a' : Act) (w' : World), Met _ a' w' → _› _ _ ?_
              go_meet
              case rel => exact ⟨gl, hS⟩
          case rest =>
          obtain ⟨rfl, hbx⟩ := hcut
          have k0 := k0.kept hbx
          have k1 := k1.kept hbx
          have k2 := k2.kept hbx
          have kd := kd.kept hbx
          have hb := hb.trans (hbx.mono hb.size)
          clear hbx
          generalize wc = w10_ at *
          go_upto_region 12 with fail
          go_cut [111] from 91 to 111 (fun v111 wx => v111 = .bool false ∧ Below w10_.heap.size w10_ wx)
          case first =>
            refine wp_region_pure' (fun ix => match ix with | 0 => .int .i64 E3 | 1 => .bool false | 2 => .bool false | 3 => undef | 4 => undef | 5 => undef | 6 => undef | 7 => undef | 8 => undef | 9 => undef | 10 => undef | 11 => undef | 12 => undef | 13 => undef | 14 => undef | 15 => undef | 16 => undef | 17 => undef | 18 => undef | 19 => undef | _ => .bool false) (by kernel_rfl) (by kernel_rfl) ?_ ?_
            · rintro ix hx f ww hS hd
              have ka := k0.kept hS
              have kb := k1.kept hS
              have kc := k2.kept hS
              have a0_ := ka.cell (i := 0) rfl
              have a1_ := ka.cell (i := 1) rfl
              have a2_ := ka.cell (i := 2) rfl
              have a3_ := ka.cell (i := 3) rfl
              have b0_ := kb.cell (i := 0) rfl
              have b1_ := kb.cell (i := 1) rfl
              have b2_ := kb.cell (i := 2) rfl
              have b3_ := kb.cell (i := 3) rfl
              have c0_ := kc.cell (i := 0) rfl
              have c1_ := kc.cell (i := 1) rfl
              have c2_ := kc.cell (i := 2) rfl
              have c3_ := kc.cell (i := 3) rfl
              rcases ix with _ | _ | _ | _ | _ | _ | _ | _ | _ | _ | _ | _ | _ | _ | _ | _ | _ | _ | _ | _ | _ | ix
              · refine fastO (Op.move (Operand.tmp 15)) 91 (by first | exact hx | decide) (by kernel_rfl) (by kernel_rfl) (by kernel_rfl) (wantedN (by kernel_rfl)) ex_move ?_
                refine run1 (.tmp 15) (.int .i64 E3) (eval_const _) (by kernel_rfl) (fun ρ hc h0 => ?_)
                simp [execOp, bare, hc, h0, go_sem, *]
              · have g0 : f 0 = .int .i64 E3 := hd 0 (by kernel_rfl)
                refine fastO (Op.binOp BinOp.eql 3 (Operand.tmp 91) (Operand.const (Value.int IntKind.i64 0)) 3) 92 (by first | exact hx | decide) (by kernel_rfl) (by kernel_rfl) (by kernel_rfl) (wantedN (by kernel_rfl)) ex_binOp ?_
                refine run1 (.tmp 91) (.int .i64 E3) (eval_const _) (Eq.trans (by kernel_rfl) g0) (fun ρ hc h0 => ?_)
                simp [execOp, bare, hc, h0, go_sem, *]
              · have g1 : f 1 = .bool false := hd 1 (by kernel_rfl)
                refine fastO (Op.move (Operand.tmp 92)) 93 (by first | exact hx | decide) (by kernel_rfl) (by kernel_rfl) (by kernel_rfl) (wantedN (by kernel_rfl)) ex_move ?_
                refine run1 (.tmp 92) (.bool false) (eval_const _) (Eq.trans (by kernel_rfl) g1) (fun ρ hc h0 => ?_)
                simp [execOp, bare, hc, h0, go_sem, *]
              · have g2 : f 2 = .bool false := hd 2 (by kernel_rfl)
                exact fastOff 94 (by first | exact hx | decide) (by kernel_rfl) (by kernel_rfl) (unwantedG (b := false) 2 93 (by decide) (by kernel_rfl) (by kernel_rfl) (Eq.trans (by kernel_rfl) (congrArg some g2))) rfl
              · have g2 : f 2 = .bool false := hd 2 (by kernel_rfl)
                exact fastOff 95 (by first | exact hx | decide) (by kernel_rfl) (by kernel_rfl) (unwantedG (b := false) 2 93 (by decide) (by kernel_rfl) (by kernel_rfl) (Eq.trans (by kernel_rfl) (congrArg some g2))) rfl
              · have g2 : f 2 = .bool false := hd 2 (by kernel_rfl)
                exact fastOff 96 (by first | exact hx | decide) (by kernel_rfl) (by kernel_rfl) (unwantedG (b := false) 2 93 (by decide) (by kernel_rfl) (by kernel_rfl) (Eq.trans (by kernel_rfl) (congrArg some g2))) rfl
              · have g2 : f 2 = .bool false := hd 2 (by kernel_rfl)
                exact fastOff 97 (by first | exact hx | decide) (by kernel_rfl) (by kernel_rfl) (unwantedG (b := false) 2 93 (by decide) (by kernel_rfl) (by kernel_rfl) (Eq.trans (by kernel_rfl) (congrArg some g2))) rfl
              · have g2 : f 2 = .bool false := hd 2 (by kernel_rfl)
                exact fastOff 98 (by first | exact hx | decide) (by kernel_rfl) (by kernel_rfl) (unwantedG (b := false) 2 93 (by decide) (by kernel_rfl) (by kernel_rfl) (Eq.trans (by kernel_rfl) (congrArg some g2))) rfl
              · have g2 : f 2 = .bool false := hd 2 (by kernel_rfl)
                exact fastOff 99 (by first | exact hx | decide) (by kernel_rfl) (by kernel_rfl) (unwantedG (b := false) 2 93 (by decide) (by kernel_rfl) (by kernel_rfl) (Eq.trans (by kernel_rfl) (congrArg some g2))) rfl
              · have g2 : f 2 = .bool false := hd 2 (by kernel_rfl)
                exact fastOff 100 (by first | exact hx | decide) (by kernel_rfl) (by kernel_rfl) (unwantedG (b := false) 2 93 (by decide) (by kernel_rfl) (by kernel_rfl) (Eq.trans (by kernel_rfl) (congrArg some g2))) rfl
              · have g2 : f 2 = .bool false := hd 2 (by kernel_rfl)
                exact fastOff 101 (by first | exact hx | decide) (by kernel_rfl) (by kernel_rfl) (unwantedG (b := false) 2 93 (by decide) (by kernel_rfl) (by kernel_rfl) (Eq.trans (by kernel_rfl) (congrArg some g2))) rfl
              · have g2 : f 2 = .bool false := hd 2 (by kernel_rfl)
                exact fastOff 102 (by first | exact hx | decide) (by kernel_rfl) (by kernel_rfl) (unwantedG (b := false) 2 93 (by decide) (by kernel_rfl) (by kernel_rfl) (Eq.trans (by kernel_rfl) (congrArg some g2))) rfl
              · have g2 : f 2 = .bool false := hd 2 (by kernel_rfl)
                exact fastOff 103 (by first | exact hx | decide) (by kernel_rfl) (by kernel_rfl) (unwantedG (b := false) 2 93 (by decide) (by kernel_rfl) (by kernel_rfl) (Eq.trans (by kernel_rfl) (congrArg some g2))) rfl
              · have g12 : f 12 = undef := hd 12 (by kernel_rfl)
                exact fastOff 104 (by first | exact hx | decide) (by kernel_rfl) (by kernel_rfl) (unwantedU (b := false) 12 103 (by decide) (by kernel_rfl) (by kernel_rfl) (Eq.trans (by kernel_rfl) (congrArg some g12))) rfl
              · have g12 : f 12 = undef := hd 12 (by kernel_rfl)
                exact fastOff 105 (by first | exact hx | decide) (by kernel_rfl) (by kernel_rfl) (unwantedU (b := false) 12 103 (by decide) (by kernel_rfl) (by kernel_rfl) (Eq.trans (by kernel_rfl) (congrArg some g12))) rfl
              · have g12 : f 12 = undef := hd 12 (by kernel_rfl)
                exact fastOff 106 (by first | exact hx | decide) (by kernel_rfl) (by kernel_rfl) (unwantedU (b := false) 12 103 (by decide) (by kernel_rfl) (by kernel_rfl) (Eq.trans (by kernel_rfl) (congrArg some g12))) rfl
              · have g12 : f 12 = undef := hd 12 (by kernel_rfl)
                exact fastOff 107 (by first | exact hx | decide) (by kernel_rfl) (by kernel_rfl) (unwantedU (b := false) 12 103 (by decide) (by kernel_rfl) (by kernel_rfl) (Eq.trans (by kernel_rfl) (congrArg some g12))) rfl
              · have g12 : f 12 = undef := hd 12 (by kernel_rfl)
                exact fastOff 108 (by first | exact hx | decide) (by kernel_rfl) (by kernel_rfl) (unwantedU (b := false) 12 103 (by decide) (by kernel_rfl) (by kernel_rfl) (Eq.trans (by kernel_rfl) (congrArg some g12))) rfl
              · have g12 : f 12 = undef := hd 12 (by kernel_rfl)
                exact fastOff 109 (by first | exact hx | decide) (by kernel_rfl) (by kernel_rfl) (unwantedU (b := false) 12 103 (by decide) (by kernel_rfl) (by kernel_rfl) (Eq.trans (by kernel_rfl) (congrArg some g12))) rfl
              · have g2 : f 2 = .bool false := hd 2 (by kernel_rfl)
                exact fastOff 110 (by first | exact hx | decide) (by kernel_rfl) (by kernel_rfl) (unwantedG (b := false) 2 93 (by decide) (by kernel_rfl) (by kernel_rfl) (Eq.trans (by kernel_rfl) (congrArg some g2))) rfl
              · have g2 : f 2 = .bool false := hd 2 (by kernel_rfl)
                have g19 : f 19 = undef := hd 19 (by kernel_rfl)
                refine fastO (Op.pick (Operand.tmp 93) (Operand.tmp 110) (Operand.const (Value.bool false))) 111 (by first | exact hx | decide) (by kernel_rfl) (by kernel_rfl) (by kernel_rfl) (wantedN (by kernel_rfl)) ex_pick ?_
                refine run2 (.tmp 93) (.tmp 110) (.bool false) (undef) (eval_const _) (Eq.trans (by kernel_rfl) g2) (Eq.trans (by kernel_rfl) g19) (fun ρ hc h0 h1 => ?_)
                simp [execOp, bare, hc, h0, h1, go_sem, *]
              · simp only [List.length_cons, List.length_nil] at hx; omega
            · rintro f ww hS hd
              have gl : f 20 = .bool false := hd 20 (by decide)
              simp only [tmOf, putAll, List.map_cons, List.map_nil, List.setIfInBounds_toArray, List.set_cons_zero, List.set_cons_succ]
              refine ‹∀ (a' : Act) (w' : World), Met _ a' w' → _› _ _ ?_
              go_meet
              case rel => exact ⟨gl, hS⟩
          case rest =>
          obtain ⟨rfl, hbx⟩ := hcut
          have k0 := k0.kept hbx
          have k1 := k1.kept hbx
          have k2 := k2.kept hbx
          have kd := kd.kept hbx
          have hb := hb.trans (hbx.mono hb.size)
          clear hbx
          generalize wc = w12_ at *
          go_upto_region 14 with fail
          refine wp_region_pure 6 (fun ix => match ix with | 0 => .agg #[.int .i64 p.a, .int .i64 p.b, .int .i64 p.c, .int .i64 p.d] | 1 => .agg #[.int .i64 pp.a, .int .i64 pp.b, .int .i64 pp.c, .int .i64 pp.d] | 2 => .agg #[.int .i64 q.a, .int .i64 q.b, .int .i64 q.c, .int .i64 q.d] | 3 => .agg #[.int .i64 qq.a, .int .i64 qq.b, .int .i64 qq.c, .int .i64 qq.d] | 4 => .agg #[.int .i64 r.a, .int .i64 r.b, .int .i64 r.c, .int .i64 r.d] | _ => .agg #[.int .i64 rr.a, .int .i64 rr.b, .int .i64 rr.c, .int .i64 rr.d]) (by kernel_rfl) (by kernel_rfl) (by kernel_rfl) (by decide) ?_ ?_
          · rintro ix hx f ww hS hd
            have ka := k0.kept hS
            have kb := k1.kept hS
            have kc := k2.kept hS
            have a0_ := ka.cell (i := 0) rfl
            have a1_ := ka.cell (i := 1) rfl
            have a2_ := ka.cell (i := 2) rfl
            have a3_ := ka.cell (i := 3) rfl
            have b0_ := kb.cell (i := 0) rfl
            have b1_ := kb.cell (i := 1) rfl
            have b2_ := kb.cell (i := 2) rfl
            have b3_ := kb.cell (i := 3) rfl
            have c0_ := kc.cell (i := 0) rfl
            have c1_ := kc.cell (i := 1) rfl
            have c2_ := kc.cell (i := 2) rfl
            have c3_ := kc.cell (i := 3) rfl
            rcases ix with _ | _ | _ | _ | _ | _ | ix
            · refine fastO (Op.load 23 (Operand.tmp 3)) 112 (by first | exact hx | decide) (by kernel_rfl) (by kernel_rfl) (by kernel_rfl) (wantedN (by kernel_rfl)) ex_load ?_
              refine run1 (.tmp 3) (.pointer (some ⟨w.heap.size, 0, none⟩)) (eval_const _) (by kernel_rfl) (fun ρ hc h0 => ?_)
              simp [execOp, bare, hc, h0, go_sem, *]
            · have g0 : f 0 = .agg #[.int .i64 p.a, .int .i64 p.b, .int .i64 p.c, .int .i64 p.d] := hd 0 (by kernel_rfl)
              refine fastC (Op.call { callee := .value (Operand.func 19), args := #[(Operand.tmp 112), Operand.const (Value.int IntKind.i64 4)], argTypes := #[22, 2] }) 113 19 #[.agg #[.int .i64 p.a, .int .i64 p.b, .int .i64 p.c, .int .i64 p.d], .int .i64 4] (by first | exact hx | decide) (by kernel_rfl) (by kernel_rfl) (by kernel_rfl) (wantedN (by kernel_rfl)) ?_ (HTP.out _)
              refine runC1 (eval_func _) (eval_const _) (.tmp 112) (.agg #[.int .i64 p.a, .int .i64 p.b, .int .i64 p.c, .int .i64 p.d]) (Eq.trans (by kernel_rfl) g0) (fun ρ o hF hC ho h0 => ?_)
              simp [execOp, ho, hF, hC, h0, resolve, invoke, go_sem, enters_of Tryz.func19 (by kernel_rfl) rfl]
            · refine fastO (Op.load 23 (Operand.tmp 4)) 114 (by first | exact hx | decide) (by kernel_rfl) (by kernel_rfl) (by kernel_rfl) (wantedN (by kernel_rfl)) ex_load ?_
              refine run1 (.tmp 4) (.pointer (some ⟨w.heap.size + 1, 0, none⟩)) (eval_const _) (by kernel_rfl) (fun ρ hc h0 => ?_)
              simp [execOp, bare, hc, h0, go_sem, *]
            · have g2 : f 2 = .agg #[.int .i64 q.a, .int .i64 q.b, .int .i64 q.c, .int .i64 q.d] := hd 2 (by kernel_rfl)
              refine fastC (Op.call { callee := .value (Operand.func 19), args := #[(Operand.tmp 114), Operand.const (Value.int IntKind.i64 4)], argTypes := #[22, 2] }) 115 19 #[.agg #[.int .i64 q.a, .int .i64 q.b, .int .i64 q.c, .int .i64 q.d], .int .i64 4] (by first | exact hx | decide) (by kernel_rfl) (by kernel_rfl) (by kernel_rfl) (wantedN (by kernel_rfl)) ?_ (HTQ.out _)
              refine runC1 (eval_func _) (eval_const _) (.tmp 114) (.agg #[.int .i64 q.a, .int .i64 q.b, .int .i64 q.c, .int .i64 q.d]) (Eq.trans (by kernel_rfl) g2) (fun ρ o hF hC ho h0 => ?_)
              simp [execOp, ho, hF, hC, h0, resolve, invoke, go_sem, enters_of Tryz.func19 (by kernel_rfl) rfl]
            · refine fastO (Op.load 23 (Operand.tmp 5)) 116 (by first | exact hx | decide) (by kernel_rfl) (by kernel_rfl) (by kernel_rfl) (wantedN (by kernel_rfl)) ex_load ?_
              refine run1 (.tmp 5) (.pointer (some ⟨w.heap.size + 1 + 1, 0, none⟩)) (eval_const _) (by kernel_rfl) (fun ρ hc h0 => ?_)
              simp [execOp, bare, hc, h0, go_sem, *]
            · have g4 : f 4 = .agg #[.int .i64 r.a, .int .i64 r.b, .int .i64 r.c, .int .i64 r.d] := hd 4 (by kernel_rfl)
              refine fastC (Op.call { callee := .value (Operand.func 19), args := #[(Operand.tmp 116), Operand.const (Value.int IntKind.i64 4)], argTypes := #[22, 2] }) 117 19 #[.agg #[.int .i64 r.a, .int .i64 r.b, .int .i64 r.c, .int .i64 r.d], .int .i64 4] (by first | exact hx | decide) (by kernel_rfl) (by kernel_rfl) (by kernel_rfl) (wantedN (by kernel_rfl)) ?_ (HTR.out _)
              refine runC1 (eval_func _) (eval_const _) (.tmp 116) (.agg #[.int .i64 r.a, .int .i64 r.b, .int .i64 r.c, .int .i64 r.d]) (Eq.trans (by kernel_rfl) g4) (fun ρ o hF hC ho h0 => ?_)
              simp [execOp, ho, hF, hC, h0, resolve, invoke, go_sem, enters_of Tryz.func19 (by kernel_rfl) rfl]
            · omega
          · rintro f ww hS hd
            have ka := k0.kept hS
            have kb := k1.kept hS
            have kc := k2.kept hS
            have hbw := hb.trans (hS.mono hb.size)
            have a0 := ka.cell (i := 0) rfl
            have a1 := ka.cell (i := 1) rfl
            have a2 := ka.cell (i := 2) rfl
            have a3 := ka.cell (i := 3) rfl
            have e0 := ka.frozen 0
            have e1 := ka.frozen 1
            have e2 := ka.frozen 2
            have e3 := ka.frozen 3
            have b0 := kb.cell (i := 0) rfl
            have b1 := kb.cell (i := 1) rfl
            have b2 := kb.cell (i := 2) rfl
            have b3 := kb.cell (i := 3) rfl
            have f0 := kb.frozen 0
            have f1 := kb.frozen 1
            have f2 := kb.frozen 2
            have f3 := kb.frozen 3
            have c0 := kc.cell (i := 0) rfl
            have c1 := kc.cell (i := 1) rfl
            have c2 := kc.cell (i := 2) rfl
            have c3 := kc.cell (i := 3) rfl
            have i0 := kc.frozen 0
            have i1 := kc.frozen 1
            have i2 := kc.frozen 2
            have i3 := kc.frozen 3
            have g1 : f 1 = .agg #[.int .i64 pp.a, .int .i64 pp.b, .int .i64 pp.c, .int .i64 pp.d] := hd 1 (by decide)
            have g3 : f 3 = .agg #[.int .i64 qq.a, .int .i64 qq.b, .int .i64 qq.c, .int .i64 qq.d] := hd 3 (by decide)
            have g5 : f 5 = .agg #[.int .i64 rr.a, .int .i64 rr.b, .int .i64 rr.c, .int .i64 rr.d] := hd 5 (by decide)
            simp only [seqW, tmOf, putAll, List.map_cons, List.map_nil, List.setIfInBounds_toArray, List.set_cons_zero, List.set_cons_succ, List.length_cons, List.length_nil]
            refine wpOp_list rfl ?_
            go_wp2
            refine wpOp_list rfl ?_
            go_wp2
            refine wpOp_list rfl ?_
            go_wp2
            have L0 := (((((((((Blk.put4 ka (.int .i64 pp.a) (.int .i64 pp.b) (.int .i64 pp.c) (.int .i64 pp.d)).other (C := w.heap.size + 1) 0 (.int .i64 qq.a) (by omega)).other (C := w.heap.size + 1) 1 (.int .i64 qq.b) (by omega)).other (C := w.heap.size + 1) 2 (.int .i64 qq.c) (by omega)).other (C := w.heap.size + 1) 3 (.int .i64 qq.d) (by omega)).other (C := w.heap.size + 1 + 1) 0 (.int .i64 rr.a) (by omega)).other (C := w.heap.size + 1 + 1) 1 (.int .i64 rr.b) (by omega)).other (C := w.heap.size + 1 + 1) 2 (.int .i64 rr.c) (by omega)).other (C := w.heap.size + 1 + 1) 3 (.int .i64 rr.d) (by omega))
            have L1 := (((((Blk.put4 ((((kb.other (C := w.heap.size) 0 (.int .i64 pp.a) (by omega)).other (C := w.heap.size) 1 (.int .i64 pp.b) (by omega)).other (C := w.heap.size) 2 (.int .i64 pp.c) (by omega)).other (C := w.heap.size) 3 (.int .i64 pp.d) (by omega)) (.int .i64 qq.a) (.int .i64 qq.b) (.int .i64 qq.c) (.int .i64 qq.d)).other (C := w.heap.size + 1 + 1) 0 (.int .i64 rr.a) (by omega)).other (C := w.heap.size + 1 + 1) 1 (.int .i64 rr.b) (by omega)).other (C := w.heap.size + 1 + 1) 2 (.int .i64 rr.c) (by omega)).other (C := w.heap.size + 1 + 1) 3 (.int .i64 rr.d) (by omega))
            have L2 := (Blk.put4 ((((((((kc.other (C := w.heap.size) 0 (.int .i64 pp.a) (by omega)).other (C := w.heap.size) 1 (.int .i64 pp.b) (by omega)).other (C := w.heap.size) 2 (.int .i64 pp.c) (by omega)).other (C := w.heap.size) 3 (.int .i64 pp.d) (by omega)).other (C := w.heap.size + 1) 0 (.int .i64 qq.a) (by omega)).other (C := w.heap.size + 1) 1 (.int .i64 qq.b) (by omega)).other (C := w.heap.size + 1) 2 (.int .i64 qq.c) (by omega)).other (C := w.heap.size + 1) 3 (.int .i64 qq.d) (by omega)) (.int .i64 rr.a) (.int .i64 rr.b) (.int .i64 rr.c) (.int .i64 rr.d))
            have hbX := ((((((((((((hbw.setCell (p := ⟨w.heap.size, 0, none⟩) (by simp only; omega) (.int .i64 pp.a)).setCell (p := ⟨w.heap.size, 1, none⟩) (by simp only; omega) (.int .i64 pp.b)).setCell (p := ⟨w.heap.size, 2, none⟩) (by simp only; omega) (.int .i64 pp.c)).setCell (p := ⟨w.heap.size, 3, none⟩) (by simp only; omega) (.int .i64 pp.d)).setCell (p := ⟨w.heap.size + 1, 0, none⟩) (by simp only; omega) (.int .i64 qq.a)).setCell (p := ⟨w.heap.size + 1, 1, none⟩) (by simp only; omega) (.int .i64 qq.b)).setCell (p := ⟨w.heap.size + 1, 2, none⟩) (by simp only; omega) (.int .i64 qq.c)).setCell (p := ⟨w.heap.size + 1, 3, none⟩) (by simp only; omega) (.int .i64 qq.d)).setCell (p := ⟨w.heap.size + 1 + 1, 0, none⟩) (by simp only; omega) (.int .i64 rr.a)).setCell (p := ⟨w.heap.size + 1 + 1, 1, none⟩) (by simp only; omega) (.int .i64 rr.b)).setCell (p := ⟨w.heap.size + 1 + 1, 2, none⟩) (by simp only; omega) (.int .i64 rr.c)).setCell (p := ⟨w.heap.size + 1 + 1, 3, none⟩) (by simp only; omega) (.int .i64 rr.d))
            try simp only [Exit.inBlock, Exit.then]
            go_wp2_with fail
            go_roundg (2 - (i + 1))
            case measure => rw [HGK.out]; omega
            case rel => exact ⟨i + 1, pp, qq, rr, by omega, rfl, by go_num, HIN.out.1, HIN.out.2.1, HIN.out.2.2, L0, L1, L2, hbX⟩
        · have e1 : dirP p q = ⟨0, 0, 0⟩ := by unfold dirP; rw [if_neg hE]
          rw [e1] at hd
          obtain ⟨E, hEe⟩ : ∃ y, lineE p q = y := ⟨_, rfl⟩
          rw [hEe] at hd hb0 hE
          have ea : (E == 0) = false := by simp [hE]
          have eb : (E != 0) = true := by simp [hE]
          have heqd := fun W => eqVec ⟨0, 0, 0⟩ ⟨0, 0, 0⟩ W
          simp only [decide_true] at heqd
          have HD := Lib.hid hd
          have HC := Lib.hid hc
          have HL := Lib.hid hl
          have HB0 := Lib.hid hb0
          have HB1 := Lib.hid hb1
          clear hd hc hl hb0 hb1 e1 c0 l0 hp hq hr hE3e hEe
          have k0_0 := k0.cell (i := 0) rfl
          have k0_1 := k0.cell (i := 1) rfl
          have k0_2 := k0.cell (i := 2) rfl
          have k0_3 := k0.cell (i := 3) rfl
          have k1_0 := k1.cell (i := 0) rfl
          have k1_1 := k1.cell (i := 1) rfl
          have k1_2 := k1.cell (i := 2) rfl
          have k1_3 := k1.cell (i := 3) rfl
          have k2_0 := k2.cell (i := 0) rfl
          have k2_1 := k2.cell (i := 1) rfl
          have k2_2 := k2.cell (i := 2) rfl
          have k2_3 := k2.cell (i := 3) rfl
          go_wp2_with fail
          refine (HD.out _).mono ?_
          rintro e' wc1 ⟨rfl, hc1⟩
          clear k0_0 k0_1 k0_2 k0_3 k1_0 k1_1 k1_2 k1_3 k2_0 k2_1 k2_2 k2_3
          have k0 := k0.kept hc1
          have k1 := k1.kept hc1
          have k2 := k2.kept hc1
          have hb := hb.trans (hc1.mono hb.size)
          clear hc1
          have k0_0 := k0.cell (i := 0) rfl
          have k0_1 := k0.cell (i := 1) rfl
          have k0_2 := k0.cell (i := 2) rfl
          have k0_3 := k0.cell (i := 3) rfl
          have k1_0 := k1.cell (i := 0) rfl
          have k1_1 := k1.cell (i := 1) rfl
          have k1_2 := k1.cell (i := 2) rfl
          have k1_3 := k1.cell (i := 3) rfl
          have k2_0 := k2.cell (i := 0) rfl
          have k2_1 := k2.cell (i := 1) rfl
          have k2_2 := k2.cell (i := 2) rfl
          have k2_3 := k2.cell (i := 3) rfl
          clear k2_0 k2_1 k2_2 k2_3
          clear k0_0 k0_1 k0_2 k0_3 k1_0 k1_1 k1_2 k1_3
          obtain ⟨wa2, hwa2⟩ : ∃ w', wc1.alloc (.cells #[.int .i64 0, .int .i64 0, .int .i64 0] 24) = w' := ⟨_, rfl⟩
          have kk2 : Blk wa2 wc1.heap.size #[.int .i64 0, .int .i64 0, .int .i64 0] 24 := by rw [← hwa2]; exact Blk.new _ _ _
          have hk2 : Below wc1.heap.size wc1 wa2 := by rw [← hwa2]; exact (Below.refl _ _).alloc (Nat.le_refl _) _
          obtain ⟨ws2, hws2⟩ : ∃ w', (((wa2.setCell ⟨wc1.heap.size, 0, none⟩ (.int .i64 0)).setCell ⟨wc1.heap.size, 1, none⟩ (.int .i64 0)).setCell ⟨wc1.heap.size, 2, none⟩ (.int .i64 0)) = w' := ⟨_, rfl⟩
          have hj2 : Below wc1.heap.size wc1 ws2 := by rw [← hws2]; exact (((hk2.setCell (by simp only; omega) _).setCell (by simp only; omega) _).setCell (by simp only; omega) _)
          have kd : Blk ws2 wc1.heap.size #[.int .i64 0, .int .i64 0, .int .i64 0] 24 := by rw [← hws2]; exact (((kk2.set_eq 0 _ rfl).set_eq 1 _ rfl).set_eq 2 _ rfl)
          have kc20 := kk2.cell (i := 0) rfl
          have kf20 := kk2.frozen 0
          have kc21 := kk2.cell (i := 1) rfl
          have kf21 := kk2.frozen 1
          have kc22 := kk2.cell (i := 2) rfl
          have kf22 := kk2.frozen 2
          have k0 := k0.kept hj2
          have k1 := k1.kept hj2
          have k2 := k2.kept hj2
          have hb := hb.trans (hj2.mono hb.size)
          clear hj2 hk2
          have k0_0 := k0.cell (i := 0) rfl
          have k0_1 := k0.cell (i := 1) rfl
          have k0_2 := k0.cell (i := 2) rfl
          have k0_3 := k0.cell (i := 3) rfl
          have k1_0 := k1.cell (i := 0) rfl
          have k1_1 := k1.cell (i := 1) rfl
          have k1_2 := k1.cell (i := 2) rfl
          have k1_3 := k1.cell (i := 3) rfl
          have kd_0 := kd.cell (i := 0) rfl
          have kd_1 := kd.cell (i := 1) rfl
          have kd_2 := kd.cell (i := 2) rfl
          clear k0_0 k0_1 k0_2 k0_3 k1_0 k1_1 k1_2 k1_3 kd_0 kd_1 kd_2
          have k0_0 := k0.cell (i := 0) rfl
          have k0_1 := k0.cell (i := 1) rfl
          have k0_2 := k0.cell (i := 2) rfl
          have k0_3 := k0.cell (i := 3) rfl
          have k1_0 := k1.cell (i := 0) rfl
          have k1_1 := k1.cell (i := 1) rfl
          have k1_2 := k1.cell (i := 2) rfl
          have k1_3 := k1.cell (i := 3) rfl
          have k2_0 := k2.cell (i := 0) rfl
          have k2_1 := k2.cell (i := 1) rfl
          have k2_2 := k2.cell (i := 2) rfl
          have k2_3 := k2.cell (i := 3) rfl
          have kd_0 := kd.cell (i := 0) rfl
          have kd_1 := kd.cell (i := 1) rfl
          have kd_2 := kd.cell (i := 2) rfl
          clear kd_0 kd_1 kd_2
          go_wp2_with fail
          refine (HC.out _).mono ?_
          rintro e' wc3 ⟨rfl, hc3⟩
          clear k0_0 k0_1 k0_2 k0_3 k1_0 k1_1 k1_2 k1_3 k2_0 k2_1 k2_2 k2_3
          have k0 := k0.kept hc3
          have k1 := k1.kept hc3
          have k2 := k2.kept hc3
          have kd := kd.kept hc3
          have hb := hb.trans (hc3.mono hb.size)
          clear hc3
          have k0_0 := k0.cell (i := 0) rfl
          have k0_1 := k0.cell (i := 1) rfl
          have k0_2 := k0.cell (i := 2) rfl
          have k0_3 := k0.cell (i := 3) rfl
          have k1_0 := k1.cell (i := 0) rfl
          have k1_1 := k1.cell (i := 1) rfl
          have k1_2 := k1.cell (i := 2) rfl
          have k1_3 := k1.cell (i := 3) rfl
          have k2_0 := k2.cell (i := 0) rfl
          have k2_1 := k2.cell (i := 1) rfl
          have k2_2 := k2.cell (i := 2) rfl
          have k2_3 := k2.cell (i := 3) rfl
          go_wp2_with fail
          refine (HL.out _).mono ?_
          rintro e' wc4 ⟨rfl, hc4⟩
          clear k0_0 k0_1 k0_2 k0_3 k1_0 k1_1 k1_2 k1_3 k2_0 k2_1 k2_2 k2_3
          have k0 := k0.kept hc4
          have k1 := k1.kept hc4
          have k2 := k2.kept hc4
          have kd := kd.kept hc4
          have hb := hb.trans (hc4.mono hb.size)
          clear hc4
          have k0_0 := k0.cell (i := 0) rfl
          have k0_1 := k0.cell (i := 1) rfl
          have k0_2 := k0.cell (i := 2) rfl
          have k0_3 := k0.cell (i := 3) rfl
          have k1_0 := k1.cell (i := 0) rfl
          have k1_1 := k1.cell (i := 1) rfl
          have k1_2 := k1.cell (i := 2) rfl
          have k1_3 := k1.cell (i := 3) rfl
          have k2_0 := k2.cell (i := 0) rfl
          have k2_1 := k2.cell (i := 1) rfl
          have k2_2 := k2.cell (i := 2) rfl
          have k2_3 := k2.cell (i := 3) rfl
          clear k0_0 k0_1 k0_2 k0_3 k1_0 k1_1 k1_2 k1_3 k2_0 k2_1 k2_2 k2_3
          go_upto_region 7 with fail
          go_cut [14, 15] from 40 to 47 (fun v14 v15 wx => v14 = .int .i64 E ∧ v15 = .int .i64 E3 ∧ Below wc4.heap.size wc4 wx)
          case first =>
            refine wp_region_kn' (fun ix => ix != 6) (fun ix => match ix with | 0 => .agg #[.int .i64 p.a, .int .i64 p.b, .int .i64 p.c, .int .i64 p.d] | 1 => .agg #[.int .i64 q.a, .int .i64 q.b, .int .i64 q.c, .int .i64 q.d] | 2 => .int .i64 E | 3 => .agg #[.int .i64 p.a, .int .i64 p.b, .int .i64 p.c, .int .i64 p.d] | 4 => .agg #[.int .i64 q.a, .int .i64 q.b, .int .i64 q.c, .int .i64 q.d] | 5 => .agg #[.int .i64 r.a, .int .i64 r.b, .int .i64 r.c, .int .i64 r.d] | 7 => .int .i64 E3 | 8 => .int .i64 E | _ => .int .i64 E3) (fun ix v w => match ix with  | _ => ∃ b, v = .slice (some ⟨b, 0, none⟩) 1 1 ∧ RdV w (some ⟨b, 0, none⟩) [r]) (by kernel_rfl) (by kernel_rfl) ?_ ?_ ?_
            · intro ix v w8 w9 hb h
              rcases ix with _ | _ | _ | _ | _ | _ | _ | ix
              · obtain ⟨b, e, h⟩ := h; exact ⟨b, e, h.below hb⟩
              · obtain ⟨b, e, h⟩ := h; exact ⟨b, e, h.below hb⟩
              · obtain ⟨b, e, h⟩ := h; exact ⟨b, e, h.below hb⟩
              · obtain ⟨b, e, h⟩ := h; exact ⟨b, e, h.below hb⟩
              · obtain ⟨b, e, h⟩ := h; exact ⟨b, e, h.below hb⟩
              · obtain ⟨b, e, h⟩ := h; exact ⟨b, e, h.below hb⟩
              · obtain ⟨b, e, h⟩ := h; exact ⟨b, e, h.below hb⟩
              · obtain ⟨b, e, h⟩ := h; exact ⟨b, e, h.below hb⟩
            · rintro ix hx f ww hS hd
              have ka := k0.kept hS
              have kb := k1.kept hS
              have kc := k2.kept hS
              have a0_ := ka.cell (i := 0) rfl
              have a1_ := ka.cell (i := 1) rfl
              have a2_ := ka.cell (i := 2) rfl
              have a3_ := ka.cell (i := 3) rfl
              have b0_ := kb.cell (i := 0) rfl
              have b1_ := kb.cell (i := 1) rfl
              have b2_ := kb.cell (i := 2) rfl
              have b3_ := kb.cell (i := 3) rfl
              have c0_ := kc.cell (i := 0) rfl
              have c1_ := kc.cell (i := 1) rfl
              have c2_ := kc.cell (i := 2) rfl
              have c3_ := kc.cell (i := 3) rfl
              rcases ix with _ | _ | _ | _ | _ | _ | _ | _ | _ | _ | ix
              · refine wpOp_list rfl ?_
                simp only [tmOf, putAll, List.map_cons, List.map_nil, List.setIfInBounds_toArray, List.set_cons_zero, List.set_cons_succ]
                go_wp2
                refine ⟨.agg #[.int .i64 p.a, .int .i64 p.b, .int .i64 p.c, .int .i64 p.d], ?_⟩
                simp [upd, Below.refl]
              · refine wpOp_list rfl ?_
                simp only [tmOf, putAll, List.map_cons, List.map_nil, List.setIfInBounds_toArray, List.set_cons_zero, List.set_cons_succ]
                go_wp2
                refine ⟨.agg #[.int .i64 q.a, .int .i64 q.b, .int .i64 q.c, .int .i64 q.d], ?_⟩
                simp [upd, Below.refl]
              · have g0 : f 0 = .agg #[.int .i64 p.a, .int .i64 p.b, .int .i64 p.c, .int .i64 p.d] := hd 0 (by kernel_rfl)
                have g1 : f 1 = .agg #[.int .i64 q.a, .int .i64 q.b, .int .i64 q.c, .int .i64 q.d] := hd 1 (by kernel_rfl)
                refine wpOp_list rfl ?_
                simp only [tmOf, putAll, List.map_cons, List.map_nil, List.setIfInBounds_toArray, List.set_cons_zero, List.set_cons_succ]
                go_wp2_with fail
                refine (HB0.out _).mono ?_
                rintro e' wf ⟨rfl, hbf⟩
                go_wp2_with fail
                try refine ⟨.int .i64 E, ?_⟩
                simp [upd, g0, g1, hbf]
              · refine wpOp_list rfl ?_
                simp only [tmOf, putAll, List.map_cons, List.map_nil, List.setIfInBounds_toArray, List.set_cons_zero, List.set_cons_succ]
                go_wp2
                refine ⟨.agg #[.int .i64 p.a, .int .i64 p.b, .int .i64 p.c, .int .i64 p.d], ?_⟩
                simp [upd, Below.refl]
              · refine wpOp_list rfl ?_
                simp only [tmOf, putAll, List.map_cons, List.map_nil, List.setIfInBounds_toArray, List.set_cons_zero, List.set_cons_succ]
                go_wp2
                refine ⟨.agg #[.int .i64 q.a, .int .i64 q.b, .int .i64 q.c, .int .i64 q.d], ?_⟩
                simp [upd, Below.refl]
              · refine wpOp_list rfl ?_
                simp only [tmOf, putAll, List.map_cons, List.map_nil, List.setIfInBounds_toArray, List.set_cons_zero, List.set_cons_succ]
                go_wp2
                refine ⟨.agg #[.int .i64 r.a, .int .i64 r.b, .int .i64 r.c, .int .i64 r.d], ?_⟩
                simp [upd, Below.refl]
              · have g5 : f 5 = .agg #[.int .i64 r.a, .int .i64 r.b, .int .i64 r.c, .int .i64 r.d] := hd 5 (by kernel_rfl)
                refine wpOp_list rfl ?_
                simp only [tmOf, putAll, List.map_cons, List.map_nil, List.setIfInBounds_toArray, List.set_cons_zero, List.set_cons_succ]
                go_wp2
                exact ⟨.slice (some ⟨ww.heap.size, 0, none⟩) 1 1, by simp [upd, g5], ⟨_, rfl, planes1 ww r.a r.b r.c r.d _⟩, (Below.refl _ ww).alloc (Nat.le_refl _) _⟩
              · have g3 : f 3 = .agg #[.int .i64 p.a, .int .i64 p.b, .int .i64 p.c, .int .i64 p.d] := hd 3 (by kernel_rfl)
                have g4 : f 4 = .agg #[.int .i64 q.a, .int .i64 q.b, .int .i64 q.c, .int .i64 q.d] := hd 4 (by kernel_rfl)
                obtain ⟨b46, g6, hR46⟩ : ∃ b, f 6 = .slice (some ⟨b, 0, none⟩) 1 1 ∧ RdV ww (some ⟨b, 0, none⟩) [r] := hd 6 (by kernel_rfl)
                refine wpOp_list rfl ?_
                simp only [tmOf, putAll, List.map_cons, List.map_nil, List.setIfInBounds_toArray, List.set_cons_zero, List.set_cons_succ]
                have hf := HB1.out _ ww hR46
                have HF := Lib.hid hf
                clear hf hR46
                go_wp2_with fail
                refine HF.out.mono ?_
                rintro e' wf ⟨rfl, hbf⟩
                go_wp2_with fail
                try refine ⟨.int .i64 E3, ?_⟩
                simp [upd, g3, g4, g6, hbf]
              · have g2 : f 2 = .int .i64 E := hd 2 (by kernel_rfl)
                refine wpOp_list rfl ?_
                simp only [tmOf, putAll, List.map_cons, List.map_nil, List.setIfInBounds_toArray, List.set_cons_zero, List.set_cons_succ]
                go_wp2
                refine ⟨.int .i64 E, ?_⟩
                simp [upd, g2, Below.refl]
              · have g7 : f 7 = .int .i64 E3 := hd 7 (by kernel_rfl)
                refine wpOp_list rfl ?_
                simp only [tmOf, putAll, List.map_cons, List.map_nil, List.setIfInBounds_toArray, List.set_cons_zero, List.set_cons_succ]
                go_wp2
                refine ⟨.int .i64 E3, ?_⟩
                simp [upd, g7, Below.refl]
              · simp only [List.length_cons, List.length_nil] at hx; omega
            · rintro f ww hS hd
              have G14 : f 8 = .int .i64 E := hd 8 (by decide)
              have G15 : f 9 = .int .i64 E3 := hd 9 (by decide)
              simp only [tmOf, putAll, List.map_cons, List.map_nil, List.setIfInBounds_toArray, List.set_cons_zero, List.set_cons_succ]
              refine ‹∀ (a' : Act) (w' : World), Met _ a' w' → _› _ _ ?_
              go_meet
              case rel => exact ⟨G14, G15, hS⟩
          case rest =>
          obtain ⟨rfl, rfl, hbx⟩ := hcut
          have k0 := k0.kept hbx
          have k1 := k1.kept hbx
          have k2 := k2.kept hbx
          have kd := kd.kept hbx
          have hb := hb.trans (hbx.mono hb.size)
          clear hbx HB0 HB1
          generalize wc = w7_ at *
          have k0_0 := k0.cell (i := 0) rfl
          have k0_1 := k0.cell (i := 1) rfl
          have k0_2 := k0.cell (i := 2) rfl
          have k0_3 := k0.cell (i := 3) rfl
          have k1_0 := k1.cell (i := 0) rfl
          have k1_1 := k1.cell (i := 1) rfl
          have k1_2 := k1.cell (i := 2) rfl
          have k1_3 := k1.cell (i := 3) rfl
          have k2_0 := k2.cell (i := 0) rfl
          have k2_1 := k2.cell (i := 1) rfl
          have k2_2 := k2.cell (i := 2) rfl
          have k2_3 := k2.cell (i := 3) rfl
          have kd_0 := kd.cell (i := 0) rfl
          have kd_1 := kd.cell (i := 1) rfl
          have kd_2 := kd.cell (i := 2) rfl
          clear k0_0 k0_1 k0_2 k0_3 k1_0 k1_1 k1_2 k1_3 k2_0 k2_1 k2_2 k2_3 kd_0 kd_1 kd_2
          have dd0 := kd.cell (i := 0) rfl
          have dd1 := kd.cell (i := 1) rfl
          have dd2 := kd.cell (i := 2) rfl
          go_upto_region 10 with fail
          go_cut [90] from 82 to 90 (fun v90 wx => v90 = .bool false ∧ Below w7_.heap.size w7_ wx)
          case first =>
            refine wp_region_pure' (fun ix => match ix with | 0 => .int .i64 E | 1 => .bool false | 2 => .bool false | 3 => undef | 4 => undef | 5 => undef | 6 => undef | 7 => undef | _ => .bool false) (by kernel_rfl) (by kernel_rfl) ?_ ?_
            · rintro ix hx f ww hS hd
              have ka := k0.kept hS
              have kb := k1.kept hS
              have kc := k2.kept hS
              have a0_ := ka.cell (i := 0) rfl
              have a1_ := ka.cell (i := 1) rfl
              have a2_ := ka.cell (i := 2) rfl
              have a3_ := ka.cell (i := 3) rfl
              have b0_ := kb.cell (i := 0) rfl
              have b1_ := kb.cell (i := 1) rfl
              have b2_ := kb.cell (i := 2) rfl
              have b3_ := kb.cell (i := 3) rfl
              have c0_ := kc.cell (i := 0) rfl
              have c1_ := kc.cell (i := 1) rfl
              have c2_ := kc.cell (i := 2) rfl
              have c3_ := kc.cell (i := 3) rfl
              have kx := kd.kept hS
              have x0_ := kx.cell (i := 0) rfl
              have x1_ := kx.cell (i := 1) rfl
              have x2_ := kx.cell (i := 2) rfl
              rcases ix with _ | _ | _ | _ | _ | _ | _ | _ | _ | ix
              · refine fastO (Op.move (Operand.tmp 14)) 82 (by first | exact hx | decide) (by kernel_rfl) (by kernel_rfl) (by kernel_rfl) (wantedN (by kernel_rfl)) ex_move ?_
                refine run1 (.tmp 14) (.int .i64 E) (eval_const _) (by kernel_rfl) (fun ρ hc h0 => ?_)
                simp [execOp, bare, hc, h0, go_sem, *]
              · have g0 : f 0 = .int .i64 E := hd 0 (by kernel_rfl)
                refine fastO (Op.binOp BinOp.eql 3 (Operand.tmp 82) (Operand.const (Value.int IntKind.i64 0)) 3) 83 (by first | exact hx | decide) (by kernel_rfl) (by kernel_rfl) (by kernel_rfl) (wantedN (by kernel_rfl)) ex_binOp ?_
                refine run1 (.tmp 82) (.int .i64 E) (eval_const _) (Eq.trans (by kernel_rfl) g0) (fun ρ hc h0 => ?_)
                simp [execOp, bare, hc, h0, go_sem, *]
              · have g1 : f 1 = .bool false := hd 1 (by kernel_rfl)
                refine fastO (Op.move (Operand.tmp 83)) 84 (by first | exact hx | decide) (by kernel_rfl) (by kernel_rfl) (by kernel_rfl) (wantedN (by kernel_rfl)) ex_move ?_
                refine run1 (.tmp 83) (.bool false) (eval_const _) (Eq.trans (by kernel_rfl) g1) (fun ρ hc h0 => ?_)
                simp [execOp, bare, hc, h0, go_sem, *]
              · have g2 : f 2 = .bool false := hd 2 (by kernel_rfl)
                exact fastOff 85 (by first | exact hx | decide) (by kernel_rfl) (by kernel_rfl) (unwantedG (b := false) 2 84 (by decide) (by kernel_rfl) (by kernel_rfl) (Eq.trans (by kernel_rfl) (congrArg some g2))) rfl
              · have g2 : f 2 = .bool false := hd 2 (by kernel_rfl)
                exact fastOff 86 (by first | exact hx | decide) (by kernel_rfl) (by kernel_rfl) (unwantedG (b := false) 2 84 (by decide) (by kernel_rfl) (by kernel_rfl) (Eq.trans (by kernel_rfl) (congrArg some g2))) rfl
              · have g2 : f 2 = .bool false := hd 2 (by kernel_rfl)
                exact fastOff 87 (by first | exact hx | decide) (by kernel_rfl) (by kernel_rfl) (unwantedG (b := false) 2 84 (by decide) (by kernel_rfl) (by kernel_rfl) (Eq.trans (by kernel_rfl) (congrArg some g2))) rfl
              · have g2 : f 2 = .bool false := hd 2 (by kernel_rfl)
                exact fastOff 88 (by first | exact hx | decide) (by kernel_rfl) (by kernel_rfl) (unwantedG (b := false) 2 84 (by decide) (by kernel_rfl) (by kernel_rfl) (Eq.trans (by kernel_rfl) (congrArg some g2))) rfl
              · have g2 : f 2 = .bool false := hd 2 (by kernel_rfl)
                exact fastOff 89 (by first | exact hx | decide) (by kernel_rfl) (by kernel_rfl) (unwantedG (b := false) 2 84 (by decide) (by kernel_rfl) (by kernel_rfl) (Eq.trans (by kernel_rfl) (congrArg some g2))) rfl
              · have g2 : f 2 = .bool false := hd 2 (by kernel_rfl)
                have g7 : f 7 = undef := hd 7 (by kernel_rfl)
                refine fastO (Op.pick (Operand.tmp 84) (Operand.tmp 89) (Operand.const (Value.bool false))) 90 (by first | exact hx | decide) (by kernel_rfl) (by kernel_rfl) (by kernel_rfl) (wantedN (by kernel_rfl)) ex_pick ?_
                refine run2 (.tmp 84) (.tmp 89) (.bool false) (undef) (eval_const _) (Eq.trans (by kernel_rfl) g2) (Eq.trans (by kernel_rfl) g7) (fun ρ hc h0 h1 => ?_)
                simp [execOp, bare, hc, h0, h1, go_sem, *]
              · simp only [List.length_cons, List.length_nil] at hx; omega
            · rintro f ww hS hd
              have gl : f 8 = .bool false := hd 8 (by decide)
              simp only [tmOf, putAll, List.map_cons, List.map_nil, List.setIfInBounds_toArray, List.set_cons_zero, List.set_cons_succ]
              refine ‹∀ (a' : Act) (w' : World), Met _ a' w' → _› _ _ ?_
              go_meet
              case rel => exact ⟨gl, hS⟩
          case rest =>
          obtain ⟨rfl, hbx⟩ := hcut
          clear dd0 dd1 dd2
          have k0 := k0.kept hbx
          have k1 := k1.kept hbx
          have k2 := k2.kept hbx
          have kd := kd.kept hbx
          have hb := hb.trans (hbx.mono hb.size)
          clear hbx
          generalize wc = w10_ at *
          go_upto_region 12 with fail
          go_cut [111] from 91 to 111 (fun v111 wx => v111 = .bool false ∧ Below w10_.heap.size w10_ wx)
          case first =>
            refine wp_region_pure' (fun ix => match ix with | 0 => .int .i64 E3 | 1 => .bool false | 2 => .bool false | 3 => undef | 4 => undef | 5 => undef | 6 => undef | 7 => undef | 8 => undef | 9 => undef | 10 => undef | 11 => undef | 12 => undef | 13 => undef | 14 => undef | 15 => undef | 16 => undef | 17 => undef | 18 => undef | 19 => undef | _ => .bool false) (by kernel_rfl) (by kernel_rfl) ?_ ?_
            · rintro ix hx f ww hS hd
              have ka := k0.kept hS
              have kb := k1.kept hS
              have kc := k2.kept hS
              have a0_ := ka.cell (i := 0) rfl
              have a1_ := ka.cell (i := 1) rfl
              have a2_ := ka.cell (i := 2) rfl
              have a3_ := ka.cell (i := 3) rfl
              have b0_ := kb.cell (i := 0) rfl
              have b1_ := kb.cell (i := 1) rfl
              have b2_ := kb.cell (i := 2) rfl
              have b3_ := kb.cell (i := 3) rfl
              have c0_ := kc.cell (i := 0) rfl
              have c1_ := kc.cell (i := 1) rfl
              have c2_ := kc.cell (i := 2) rfl
              have c3_ := kc.cell (i := 3) rfl
              rcases ix with _ | _ | _ | _ | _ | _ | _ | _ | _ | _ | _ | _ | _ | _ | _ | _ | _ | _ | _ | _ | _ | ix
              · refine fastO (Op.move (Operand.tmp 15)) 91 (by first | exact hx | decide) (by kernel_rfl) (by kernel_rfl) (by kernel_rfl) (wantedN (by kernel_rfl)) ex_move ?_
                refine run1 (.tmp 15) (.int .i64 E3) (eval_const _) (by kernel_rfl) (fun ρ hc h0 => ?_)
                simp [execOp, bare, hc, h0, go_sem, *]
              · have g0 : f 0 = .int .i64 E3 := hd 0 (by kernel_rfl)
                refine fastO (Op.binOp BinOp.eql 3 (Operand.tmp 91) (Operand.const (Value.int IntKind.i64 0)) 3) 92 (by first | exact hx | decide) (by kernel_rfl) (by kernel_rfl) (by kernel_rfl) (wantedN (by kernel_rfl)) ex_binOp ?_
                refine run1 (.tmp 91) (.int .i64 E3) (eval_const _) (Eq.trans (by kernel_rfl) g0) (fun ρ hc h0 => ?_)
                simp [execOp, bare, hc, h0, go_sem, *]
              · have g1 : f 1 = .bool false := hd 1 (by kernel_rfl)
                refine fastO (Op.move (Operand.tmp 92)) 93 (by first | exact hx | decide) (by kernel_rfl) (by kernel_rfl) (by kernel_rfl) (wantedN (by kernel_rfl)) ex_move ?_
                refine run1 (.tmp 92) (.bool false) (eval_const _) (Eq.trans (by kernel_rfl) g1) (fun ρ hc h0 => ?_)
                simp [execOp, bare, hc, h0, go_sem, *]
              · have g2 : f 2 = .bool false := hd 2 (by kernel_rfl)
                exact fastOff 94 (by first | exact hx | decide) (by kernel_rfl) (by kernel_rfl) (unwantedG (b := false) 2 93 (by decide) (by kernel_rfl) (by kernel_rfl) (Eq.trans (by kernel_rfl) (congrArg some g2))) rfl
              · have g2 : f 2 = .bool false := hd 2 (by kernel_rfl)
                exact fastOff 95 (by first | exact hx | decide) (by kernel_rfl) (by kernel_rfl) (unwantedG (b := false) 2 93 (by decide) (by kernel_rfl) (by kernel_rfl) (Eq.trans (by kernel_rfl) (congrArg some g2))) rfl
              · have g2 : f 2 = .bool false := hd 2 (by kernel_rfl)
                exact fastOff 96 (by first | exact hx | decide) (by kernel_rfl) (by kernel_rfl) (unwantedG (b := false) 2 93 (by decide) (by kernel_rfl) (by kernel_rfl) (Eq.trans (by kernel_rfl) (congrArg some g2))) rfl
              · have g2 : f 2 = .bool false := hd 2 (by kernel_rfl)
                exact fastOff 97 (by first | exact hx | decide) (by kernel_rfl) (by kernel_rfl) (unwantedG (b := false) 2 93 (by decide) (by kernel_rfl) (by kernel_rfl) (Eq.trans (by kernel_rfl) (congrArg some g2))) rfl
              · have g2 : f 2 = .bool false := hd 2 (by kernel_rfl)
                exact fastOff 98 (by first | exact hx | decide) (by kernel_rfl) (by kernel_rfl) (unwantedG (b := false) 2 93 (by decide) (by kernel_rfl) (by kernel_rfl) (Eq.trans (by kernel_rfl) (congrArg some g2))) rfl
              · have g2 : f 2 = .bool false := hd 2 (by kernel_rfl)
                exact fastOff 99 (by first | exact hx | decide) (by kernel_rfl) (by kernel_rfl) (unwantedG (b := false) 2 93 (by decide) (by kernel_rfl) (by kernel_rfl) (Eq.trans (by kernel_rfl) (congrArg some g2))) rfl
              · have g2 : f 2 = .bool false := hd 2 (by kernel_rfl)
                exact fastOff 100 (by first | exact hx | decide) (by kernel_rfl) (by kernel_rfl) (unwantedG (b := false) 2 93 (by decide) (by kernel_rfl) (by kernel_rfl) (Eq.trans (by kernel_rfl) (congrArg some g2))) rfl
              · have g2 : f 2 = .bool false := hd 2 (by kernel_rfl)
                exact fastOff 101 (by first | exact hx | decide) (by kernel_rfl) (by kernel_rfl) (unwantedG (b := false) 2 93 (by decide) (by kernel_rfl) (by kernel_rfl) (Eq.trans (by kernel_rfl) (congrArg some g2))) rfl
              · have g2 : f 2 = .bool false := hd 2 (by kernel_rfl)
                exact fastOff 102 (by first | exact hx | decide) (by kernel_rfl) (by kernel_rfl) (unwantedG (b := false) 2 93 (by decide) (by kernel_rfl) (by kernel_rfl) (Eq.trans (by kernel_rfl) (congrArg some g2))) rfl
              · have g2 : f 2 = .bool false := hd 2 (by kernel_rfl)
                exact fastOff 103 (by first | exact hx | decide) (by kernel_rfl) (by kernel_rfl) (unwantedG (b := false) 2 93 (by decide) (by kernel_rfl) (by kernel_rfl) (Eq.trans (by kernel_rfl) (congrArg some g2))) rfl
              · have g12 : f 12 = undef := hd 12 (by kernel_rfl)
                exact fastOff 104 (by first | exact hx | decide) (by kernel_rfl) (by kernel_rfl) (unwantedU (b := false) 12 103 (by decide) (by kernel_rfl) (by kernel_rfl) (Eq.trans (by kernel_rfl) (congrArg some g12))) rfl
              · have g12 : f 12 = undef := hd 12 (by kernel_rfl)
                exact fastOff 105 (by first | exact hx | decide) (by kernel_rfl) (by kernel_rfl) (unwantedU (b := false) 12 103 (by decide) (by kernel_rfl) (by kernel_rfl) (Eq.trans (by kernel_rfl) (congrArg some g12))) rfl
              · have g12 : f 12 = undef := hd 12 (by kernel_rfl)
                exact fastOff 106 (by first | exact hx | decide) (by kernel_rfl) (by kernel_rfl) (unwantedU (b := false) 12 103 (by decide) (by kernel_rfl) (by kernel_rfl) (Eq.trans (by kernel_rfl) (congrArg some g12))) rfl
              · have g12 : f 12 = undef := hd 12 (by kernel_rfl)
                exact fastOff 107 (by first | exact hx | decide) (by kernel_rfl) (by kernel_rfl) (unwantedU (b := false) 12 103 (by decide) (by kernel_rfl) (by kernel_rfl) (Eq.trans (by kernel_rfl) (congrArg some g12))) rfl
              · have g12 : f 12 = undef := hd 12 (by kernel_rfl)
                exact fastOff 108 (by first | exact hx | decide) (by kernel_rfl) (by kernel_rfl) (unwantedU (b := false) 12 103 (by decide) (by kernel_rfl) (by kernel_rfl) (Eq.trans (by kernel_rfl) (congrArg some g12))) rfl
              · have g12 : f 12 = undef := hd 12 (by kernel_rfl)
                exact fastOff 109 (by first | exact hx | decide) (by kernel_rfl) (by kernel_rfl) (unwantedU (b := false) 12 103 (by decide) (by kernel_rfl) (by kernel_rfl) (Eq.trans (by kernel_rfl) (congrArg some g12))) rfl
              · have g2 : f 2 = .bool false := hd 2 (by kernel_rfl)
                exact fastOff 110 (by first | exact hx | decide) (by kernel_rfl) (by kernel_rfl) (unwantedG (b := false) 2 93 (by decide) (by kernel_rfl) (by kernel_rfl) (Eq.trans (by kernel_rfl) (congrArg some g2))) rfl
              · have g2 : f 2 = .bool false := hd 2 (by kernel_rfl)
                have g19 : f 19 = undef := hd 19 (by kernel_rfl)
                refine fastO (Op.pick (Operand.tmp 93) (Operand.tmp 110) (Operand.const (Value.bool false))) 111 (by first | exact hx | decide) (by kernel_rfl) (by kernel_rfl) (by kernel_rfl) (wantedN (by kernel_rfl)) ex_pick ?_
                refine run2 (.tmp 93) (.tmp 110) (.bool false) (undef) (eval_const _) (Eq.trans (by kernel_rfl) g2) (Eq.trans (by kernel_rfl) g19) (fun ρ hc h0 h1 => ?_)
                simp [execOp, bare, hc, h0, h1, go_sem, *]
              · simp only [List.length_cons, List.length_nil] at hx; omega
            · rintro f ww hS hd
              have gl : f 20 = .bool false := hd 20 (by decide)
              simp only [tmOf, putAll, List.map_cons, List.map_nil, List.setIfInBounds_toArray, List.set_cons_zero, List.set_cons_succ]
              refine ‹∀ (a' : Act) (w' : World), Met _ a' w' → _› _ _ ?_
              go_meet
              case rel => exact ⟨gl, hS⟩
          case rest =>
          obtain ⟨rfl, hbx⟩ := hcut
          have k0 := k0.kept hbx
          have k1 := k1.kept hbx
          have k2 := k2.kept hbx
          have kd := kd.kept hbx
          have hb := hb.trans (hbx.mono hb.size)
          clear hbx
          generalize wc = w12_ at *
          go_upto_region 14 with fail
          refine wp_region_pure 6 (fun ix => match ix with | 0 => .agg #[.int .i64 p.a, .int .i64 p.b, .int .i64 p.c, .int .i64 p.d] | 1 => .agg #[.int .i64 pp.a, .int .i64 pp.b, .int .i64 pp.c, .int .i64 pp.d] | 2 => .agg #[.int .i64 q.a, .int .i64 q.b, .int .i64 q.c, .int .i64 q.d] | 3 => .agg #[.int .i64 qq.a, .int .i64 qq.b, .int .i64 qq.c, .int .i64 qq.d] | 4 => .agg #[.int .i64 r.a, .int .i64 r.b, .int .i64 r.c, .int .i64 r.d] | _ => .agg #[.int .i64 rr.a, .int .i64 rr.b, .int .i64 rr.c, .int .i64 rr.d]) (by kernel_rfl) (by kernel_rfl) (by kernel_rfl) (by decide) ?_ ?_
          · rintro ix hx f ww hS hd
            have ka := k0.kept hS
            have kb := k1.kept hS
            have kc := k2.kept hS
            have a0_ := ka.cell (i := 0) rfl
            have a1_ := ka.cell (i := 1) rfl
            have a2_ := ka.cell (i := 2) rfl
            have a3_ := ka.cell (i := 3) rfl
            have b0_ := kb.cell (i := 0) rfl
            have b1_ := kb.cell (i := 1) rfl
            have b2_ := kb.cell (i := 2) rfl
            have b3_ := kb.cell (i := 3) rfl
            have c0_ := kc.cell (i := 0) rfl
            have c1_ := kc.cell (i := 1) rfl
            have c2_ := kc.cell (i := 2) rfl
            have c3_ := kc.cell (i := 3) rfl
            rcases ix with _ | _ | _ | _ | _ | _ | ix
            · refine fastO (Op.load 23 (Operand.tmp 3)) 112 (by first | exact hx | decide) (by kernel_rfl) (by kernel_rfl) (by kernel_rfl) (wantedN (by kernel_rfl)) ex_load ?_
              refine run1 (.tmp 3) (.pointer (some ⟨w.heap.size, 0, none⟩)) (eval_const _) (by kernel_rfl) (fun ρ hc h0 => ?_)
              simp [execOp, bare, hc, h0, go_sem, *]
            · have g0 : f 0 = .agg #[.int .i64 p.a, .int .i64 p.b, .int .i64 p.c, .int .i64 p.d] := hd 0 (by kernel_rfl)
              refine fastC (Op.call { callee := .value (Operand.func 19), args := #[(Operand.tmp 112), Operand.const (Value.int IntKind.i64 4)], argTypes := #[22, 2] }) 113 19 #[.agg #[.int .i64 p.a, .int .i64 p.b, .int .i64 p.c, .int .i64 p.d], .int .i64 4] (by first | exact hx | decide) (by kernel_rfl) (by kernel_rfl) (by kernel_rfl) (wantedN (by kernel_rfl)) ?_ (HTP.out _)
              refine runC1 (eval_func _) (eval_const _) (.tmp 112) (.agg #[.int .i64 p.a, .int .i64 p.b, .int .i64 p.c, .int .i64 p.d]) (Eq.trans (by kernel_rfl) g0) (fun ρ o hF hC ho h0 => ?_)
              simp [execOp, ho, hF, hC, h0, resolve, invoke, go_sem, enters_of Tryz.func19 (by kernel_rfl) rfl]
            · refine fastO (Op.load 23 (Operand.tmp 4)) 114 (by first | exact hx | decide) (by kernel_rfl) (by kernel_rfl) (by kernel_rfl) (wantedN (by kernel_rfl)) ex_load ?_
              refine run1 (.tmp 4) (.pointer (some ⟨w.heap.size + 1, 0, none⟩)) (eval_const _) (by kernel_rfl) (fun ρ hc h0 => ?_)
              simp [execOp, bare, hc, h0, go_sem, *]
            · have g2 : f 2 = .agg #[.int .i64 q.a, .int .i64 q.b, .int .i64 q.c, .int .i64 q.d] := hd 2 (by kernel_rfl)
              refine fastC (Op.call { callee := .value (Operand.func 19), args := #[(Operand.tmp 114), Operand.const (Value.int IntKind.i64 4)], argTypes := #[22, 2] }) 115 19 #[.agg #[.int .i64 q.a, .int .i64 q.b, .int .i64 q.c, .int .i64 q.d], .int .i64 4] (by first | exact hx | decide) (by kernel_rfl) (by kernel_rfl) (by kernel_rfl) (wantedN (by kernel_rfl)) ?_ (HTQ.out _)
              refine runC1 (eval_func _) (eval_const _) (.tmp 114) (.agg #[.int .i64 q.a, .int .i64 q.b, .int .i64 q.c, .int .i64 q.d]) (Eq.trans (by kernel_rfl) g2) (fun ρ o hF hC ho h0 => ?_)
              simp [execOp, ho, hF, hC, h0, resolve, invoke, go_sem, enters_of Tryz.func19 (by kernel_rfl) rfl]
            · refine fastO (Op.load 23 (Operand.tmp 5)) 116 (by first | exact hx | decide) (by kernel_rfl) (by kernel_rfl) (by kernel_rfl) (wantedN (by kernel_rfl)) ex_load ?_
              refine run1 (.tmp 5) (.pointer (some ⟨w.heap.size + 1 + 1, 0, none⟩)) (eval_const _) (by kernel_rfl) (fun ρ hc h0 => ?_)
              simp [execOp, bare, hc, h0, go_sem, *]
            · have g4 : f 4 = .agg #[.int .i64 r.a, .int .i64 r.b, .int .i64 r.c, .int .i64 r.d] := hd 4 (by kernel_rfl)
              refine fastC (Op.call { callee := .value (Operand.func 19), args := #[(Operand.tmp 116), Operand.const (Value.int IntKind.i64 4)], argTypes := #[22, 2] }) 117 19 #[.agg #[.int .i64 r.a, .int .i64 r.b, .int .i64 r.c, .int .i64 r.d], .int .i64 4] (by first | exact hx | decide) (by kernel_rfl) (by kernel_rfl) (by kernel_rfl) (wantedN (by kernel_rfl)) ?_ (HTR.out _)
              refine runC1 (eval_func _) (eval_const _) (.tmp 116) (.agg #[.int .i64 r.a, .int .i64 r.b, .int .i64 r.c, .int .i64 r.d]) (Eq.trans (by kernel_rfl) g4) (fun ρ o hF hC ho h0 => ?_)
              simp [execOp, ho, hF, hC, h0, resolve, invoke, go_sem, enters_of Tryz.func19 (by kernel_rfl) rfl]
            · omega
          · rintro f ww hS hd
            have ka := k0.kept hS
            have kb := k1.kept hS
            have kc := k2.kept hS
            have hbw := hb.trans (hS.mono hb.size)
            have a0 := ka.cell (i := 0) rfl
            have a1 := ka.cell (i := 1) rfl
            have a2 := ka.cell (i := 2) rfl
            have a3 := ka.cell (i := 3) rfl
            have e0 := ka.frozen 0
            have e1 := ka.frozen 1
            have e2 := ka.frozen 2
            have e3 := ka.frozen 3
            have b0 := kb.cell (i := 0) rfl
            have b1 := kb.cell (i := 1) rfl
            have b2 := kb.cell (i := 2) rfl
            have b3 := kb.cell (i := 3) rfl
            have f0 := kb.frozen 0
            have f1 := kb.frozen 1
            have f2 := kb.frozen 2
            have f3 := kb.frozen 3
            have c0 := kc.cell (i := 0) rfl
            have c1 := kc.cell (i := 1) rfl
            have c2 := kc.cell (i := 2) rfl
            have c3 := kc.cell (i := 3) rfl
            have i0 := kc.frozen 0
            have i1 := kc.frozen 1
            have i2 := kc.frozen 2
            have i3 := kc.frozen 3
            have g1 : f 1 = .agg #[.int .i64 pp.a, .int .i64 pp.b, .int .i64 pp.c, .int .i64 pp.d] := hd 1 (by decide)
            have g3 : f 3 = .agg #[.int .i64 qq.a, .int .i64 qq.b, .int .i64 qq.c, .int .i64 qq.d] := hd 3 (by decide)
            have g5 : f 5 = .agg #[.int .i64 rr.a, .int .i64 rr.b, .int .i64 rr.c, .int .i64 rr.d] := hd 5 (by decide)
            simp only [seqW, tmOf, putAll, List.map_cons, List.map_nil, List.setIfInBounds_toArray, List.set_cons_zero, List.set_cons_succ, List.length_cons, List.length_nil]
            refine wpOp_list rfl ?_
            go_wp2
            refine wpOp_list rfl ?_
            go_wp2
            refine wpOp_list rfl ?_
            go_wp2
            have L0 := (((((((((Blk.put4 ka (.int .i64 pp.a) (.int .i64 pp.b) (.int .i64 pp.c) (.int .i64 pp.d)).other (C := w.heap.size + 1) 0 (.int .i64 qq.a) (by omega)).other (C := w.heap.size + 1) 1 (.int .i64 qq.b) (by omega)).other (C := w.heap.size + 1) 2 (.int .i64 qq.c) (by omega)).other (C := w.heap.size + 1) 3 (.int .i64 qq.d) (by omega)).other (C := w.heap.size + 1 + 1) 0 (.int .i64 rr.a) (by omega)).other (C := w.heap.size + 1 + 1) 1 (.int .i64 rr.b) (by omega)).other (C := w.heap.size + 1 + 1) 2 (.int .i64 rr.c) (by omega)).other (C := w.heap.size + 1 + 1) 3 (.int .i64 rr.d) (by omega))
            have L1 := (((((Blk.put4 ((((kb.other (C := w.heap.size) 0 (.int .i64 pp.a) (by omega)).other (C := w.heap.size) 1 (.int .i64 pp.b) (by omega)).other (C := w.heap.size) 2 (.int .i64 pp.c) (by omega)).other (C := w.heap.size) 3 (.int .i64 pp.d) (by omega)) (.int .i64 qq.a) (.int .i64 qq.b) (.int .i64 qq.c) (.int .i64 qq.d)).other (C := w.heap.size + 1 + 1) 0 (.int .i64 rr.a) (by omega)).other (C := w.heap.size + 1 + 1) 1 (.int .i64 rr.b) (by omega)).other (C := w.heap.size + 1 + 1) 2 (.int .i64 rr.c) (by omega)).other (C := w.heap.size + 1 + 1) 3 (.int .i64 rr.d) (by omega))
            have L2 := (Blk.put4 ((((((((kc.other (C := w.heap.size) 0 (.int .i64 pp.a) (by omega)).other (C := w.heap.size) 1 (.int .i64 pp.b) (by omega)).other (C := w.heap.size) 2 (.int .i64 pp.c) (by omega)).other (C := w.heap.size) 3 (.int .i64 pp.d) (by omega)).other (C := w.heap.size + 1) 0 (.int .i64 qq.a) (by omega)).other (C := w.heap.size + 1) 1 (.int .i64 qq.b) (by omega)).other (C := w.heap.size + 1) 2 (.int .i64 qq.c) (by omega)).other (C := w.heap.size + 1) 3 (.int .i64 qq.d) (by omega)) (.int .i64 rr.a) (.int .i64 rr.b) (.int .i64 rr.c) (.int .i64 rr.d))
            have hbX := ((((((((((((hbw.setCell (p := ⟨w.heap.size, 0, none⟩) (by simp only; omega) (.int .i64 pp.a)).setCell (p := ⟨w.heap.size, 1, none⟩) (by simp only; omega) (.int .i64 pp.b)).setCell (p := ⟨w.heap.size, 2, none⟩) (by simp only; omega) (.int .i64 pp.c)).setCell (p := ⟨w.heap.size, 3, none⟩) (by simp only; omega) (.int .i64 pp.d)).setCell (p := ⟨w.heap.size + 1, 0, none⟩) (by simp only; omega) (.int .i64 qq.a)).setCell (p := ⟨w.heap.size + 1, 1, none⟩) (by simp only; omega) (.int .i64 qq.b)).setCell (p := ⟨w.heap.size + 1, 2, none⟩) (by simp only; omega) (.int .i64 qq.c)).setCell (p := ⟨w.heap.size + 1, 3, none⟩) (by simp only; omega) (.int .i64 qq.d)).setCell (p := ⟨w.heap.size + 1 + 1, 0, none⟩) (by simp only; omega) (.int .i64 rr.a)).setCell (p := ⟨w.heap.size + 1 + 1, 1, none⟩) (by simp only; omega) (.int .i64 rr.b)).setCell (p := ⟨w.heap.size + 1 + 1, 2, none⟩) (by simp only; omega) (.int .i64 rr.c)).setCell (p := ⟨w.heap.size + 1 + 1, 3, none⟩) (by simp only; omega) (.int .i64 rr.d))
            try simp only [Exit.inBlock, Exit.then]
            go_wp2_with fail
            go_roundg (2 - (i + 1))
            case measure => rw [HGK.out]; omega
            case rel => exact ⟨i + 1, pp, qq, rr, by omega, rfl, by go_num, HIN.out.1, HIN.out.2.1, HIN.out.2.2, L0, L1, L2, hbX⟩
    · obtain rfl : i = 2 := by omega
      go_wp2_with fail
      refine (awake5_any _).mono ?_
      rintro e' wz ⟨rfl, hz⟩
      go_wp2_with fail
      go_ret
      exact ⟨rfl, hb.trans (hz.mono hb.size)⟩

end Go.Proofs.YtimkeblcdodfmaaGreat
