/-
  PlaneTells: for every two planes' four numbers the law returns true, and both arguments read as they did. No condition.
-/
import Derived.Deep.CutRange
import Derived.Test.YthdhakpmhndbfaaRows
import Derived.ProofKit
import Derived.Laws.IdiomArrays
import Derived.Test.YthdhakpmhndbfaaK1
import Derived.Test.YthdhakpmhndbfaaK2
import Derived.Test.YthdhakpmhndbfaaK3
import Derived.Test.YthdhakpmhndbfaaK4
import Derived.Test.YthdhakpmhndbfaaK5
import Derived.Test.YthdhakpmhndbfaaK6
import Derived.Test.YthdhakpmhndbfaaK7
import Derived.Test.YthdhakpmhndbfaaK8
import Derived.Test.YthdhakpmhndbfaaK9
import Derived.Test.YthdhakpmhndbfaaK10
import Derived.Test.YthdhakpmhndbfaaK11
import Derived.Test.YthdhakpmhndbfaaK12
import Derived.Test.YthdhakpmhndbfaaK13
import Derived.Test.YthdhakpmhndbfaaK14
import Derived.Test.YthdhakpmhndbfaaK15
import Derived.Test.YthdhakpmhndbfaaK16
import Derived.Test.YthdhakpmhndbfaaK17
import Derived.Test.YthdhakpmhndbfaaK18
namespace Go.Proofs.Ythdhakpmhndbfaa
open Go.RowKit Go.Shelf
attribute [local go_sem] Oper.semAt_some

set_option maxRecDepth 100000 in
set_option maxHeartbeats 8000000 in
theorem planeTells_walk (p q : V4) (w : World) (hp : InV p) (hq : InV q) :
    Calls Try.prog 6 #[.agg #[.int .i64 p.a, .int .i64 p.b, .int .i64 p.c, .int .i64 p.d], .agg #[.int .i64 q.a, .int .i64 q.b, .int .i64 q.c, .int .i64 q.d]] w fun e w' => e = .returned (.bool true) ∧ Below w.heap.size w w' := by
  obtain ⟨w1, hw1⟩ : ∃ w1, ((w.alloc (.cells #[.int .i64 p.a, .int .i64 p.b, .int .i64 p.c, .int .i64 p.d] 23)).alloc (.cells #[.int .i64 q.a, .int .i64 q.b, .int .i64 q.c, .int .i64 q.d] 23)) = w1 := ⟨_, rfl⟩
  have hb1 : Below w.heap.size w w1 := by rw [← hw1]; exact bw2 w _ _
  have k0 : Blk w1 w.heap.size #[.int .i64 p.a, .int .i64 p.b, .int .i64 p.c, .int .i64 p.d] 23 := by rw [← hw1]; exact (Blk.new w _ _).alloc _
  have k1 : Blk w1 (w.heap.size + 1) #[.int .i64 q.a, .int .i64 q.b, .int .i64 q.c, .int .i64 q.d] 23 := by rw [← hw1]; exact Blk.new' _ _ _ (by simp)
  go_enter Try.func6, Try.ntmps6
  go_wp2_with fail
  go_loopg [5] 3 (fun gk v5 wr => ∃ (i : Nat) (p q : V4), i ≤ 3 ∧ gk = 3 - i ∧ v5 = .int .i64 (i : Int) ∧ InV p ∧ InV q ∧ Blk wr w.heap.size #[.int .i64 p.a, .int .i64 p.b, .int .i64 p.c, .int .i64 p.d] 23 ∧ Blk wr (w.heap.size + 1) #[.int .i64 q.a, .int .i64 q.b, .int .i64 q.c, .int .i64 q.d] 23 ∧ Below w.heap.size w wr)
  case atStart => exact ⟨0, p, q, by decide, rfl, rfl, hp, hq, k0, k1, hb1⟩
  case round =>
    clear hp hq k0 k1 hb1 hw1
    obtain ⟨i, p, q, hi, hgk, rfl, hp, hq, k0, k1, hb⟩ := hrel
    have HGK := Lib.hid hgk
    clear hgk
    by_cases hlt : i < 3
    · have hlti : (i : Int) < 3 := by omega
      have htp := fun W => tame_any p 3 W hp (by decide) (by decide)
      have htq := fun W => tame_any q 3 W hq (by decide) (by decide)
      have ip : InV (tameV p 3) := right_in (tame_right (by decide) (by decide))
      have iq : InV (tameV q 3) := right_in (tame_right (by decide) (by decide))
      obtain ⟨pp, hpp⟩ : ∃ x, tameV p 3 = x := ⟨_, rfl⟩
      obtain ⟨qq, hqq⟩ : ∃ x, tameV q 3 = x := ⟨_, rfl⟩
      rw [hpp] at htp ip
      rw [hqq] at htq iq
      have hmk := fun W => rmake_q ⟨wrap64 (-2 * pp.a), wrap64 (-2 * pp.b), wrap64 (-2 * pp.c), qq.d⟩ W ⟨wrap64_in _, wrap64_in _, wrap64_in _, iq.2.2.2⟩
      have im := makeP_in ⟨wrap64 (-2 * pp.a), wrap64 (-2 * pp.b), wrap64 (-2 * pp.c), qq.d⟩
      obtain ⟨MP, hMP⟩ : ∃ M, makeP ⟨wrap64 (-2 * pp.a), wrap64 (-2 * pp.b), wrap64 (-2 * pp.c), qq.d⟩ = M := ⟨_, rfl⟩
      obtain ⟨ME, hME⟩ : ∃ M, makeE ⟨wrap64 (-2 * pp.a), wrap64 (-2 * pp.b), wrap64 (-2 * pp.c), qq.d⟩ = M := ⟨_, rfl⟩
      rw [hMP, hME] at hmk
      rw [hMP] at im
      dsimp only at hmk
      have HMK := Lib.hid hmk
      have HTP := Lib.hid htp
      have HTQ := Lib.hid htq
      have HIN := Lib.hid (And.intro ip (And.intro iq im))
      clear hmk htp htq ip iq im hMP hME hpp hqq
      have hbad := fun W b hR => bad2 p q W b hp hq hR
      by_cases hR : RightQ p ∧ RightQ q
      · obtain ⟨h1, h2⟩ := hR
        rw [decide_eq_true h1, decide_eq_true h2] at hbad
        have hpa := fun W => par_t hp hq h1 h2 W
        have hal := fun W => alike_t hp hq h1 h2 W
        have htu := fun W => turn_t hp hq h1 h2 W
        have hcm := fun W => cmp_t hp hq h1 h2 W
        have hrp := fun W => parallel3_any p q W h1 h2
        have hra := fun W => alike3_any p q W h2
        have hdt := fun W => dot_b h1 h2 W
        have hsg := fun W => sign_b (dotN p q) W
        have hl1 := fun W => less3_any p q W
        have hl2 := fun W => less3_any q p W
        have h3 := cmpV_three p q
        unfold lessV at hl1 hl2
        rw [cmpV_swap] at hl2
        obtain ⟨PB, hPB⟩ : ∃ x, parB p.a p.b p.c q.a q.b q.c = x := ⟨_, rfl⟩
        obtain ⟨AB, hAB⟩ : ∃ x, alikeB p q = x := ⟨_, rfl⟩
        obtain ⟨D, hD⟩ : ∃ x, dotN p q = x := ⟨_, rfl⟩
        obtain ⟨C, hC⟩ : ∃ x, cmpV p q = x := ⟨_, rfl⟩
        rw [hPB] at hpa hrp
        rw [hAB] at hal hra
        rw [hD] at htu hdt hsg
        rw [hC] at hcm hl1 hl2 h3
        obtain ⟨T, hT⟩ : ∃ x, sgnI D = x := ⟨_, rfl⟩
        rw [hT] at htu hsg
        have HPA := Lib.hid hpa
        have HAL := Lib.hid hal
        have HTU := Lib.hid htu
        have HCM := Lib.hid hcm
        have HBAD := Lib.hid (fun W b hR => hbad W b hR)
        have HRP := Lib.hid hrp
        have HRA := Lib.hid hra
        have HDT := Lib.hid hdt
        have HSG := Lib.hid hsg
        have HNP := Lib.hid (fun W => normal3_any p.a p.b p.c p.d W)
        have HNQ := Lib.hid (fun W => normal3_any q.a q.b q.c q.d W)
        obtain ⟨L1, hL1⟩ : ∃ x, decide (C < 0) = x := ⟨_, rfl⟩
        obtain ⟨L2, hL2⟩ : ∃ x, decide (-C < 0) = x := ⟨_, rfl⟩
        have h1t : L1 = true → C = -1 := fun h => by have := of_decide_eq_true (hL1.trans h); omega
        have h2t : L1 = false → L2 = true → C = 1 := fun _ h => by have := of_decide_eq_true (hL2.trans h); omega
        have h2f : L1 = false → L2 = false → C = 0 := fun h h' => by have := of_decide_eq_false (hL1.trans h); have := of_decide_eq_false (hL2.trans h'); omega
        rw [hL1] at hl1
        rw [hL2] at hl2
        have HL1 := Lib.hid hl1
        have HL2 := Lib.hid hl2
        have HC3 := Lib.hid (And.intro h1t (And.intro h2t h2f))
        clear h1t h2t h2f hL1 hL2 hl1 hl2 h3
        have hbb1 : (PB != PB) = false := by simp
        have hbb2 : (AB != AB) = false := by simp
        clear hpa hal htu hcm hbad hrp hra hdt hsg hPB hAB hD hC hT h1 h2 hp hq
        have k0_0 := k0.cell (i := 0) rfl
        have k0_1 := k0.cell (i := 1) rfl
        have k0_2 := k0.cell (i := 2) rfl
        have k0_3 := k0.cell (i := 3) rfl
        have k1_0 := k1.cell (i := 0) rfl
        have k1_1 := k1.cell (i := 1) rfl
        have k1_2 := k1.cell (i := 2) rfl
        have k1_3 := k1.cell (i := 3) rfl
        go_wp2_with fail
        refine (HPA.out _).mono ?_
        rintro e' wc1 ⟨rfl, hc1⟩
        clear k0_0 k0_1 k0_2 k0_3 k1_0 k1_1 k1_2 k1_3
        have k0 := k0.kept hc1
        have k1 := k1.kept hc1
        have hb := hb.trans (hc1.mono hb.size)
        clear hc1
        have k0_0 := k0.cell (i := 0) rfl
        have k0_1 := k0.cell (i := 1) rfl
        have k0_2 := k0.cell (i := 2) rfl
        have k0_3 := k0.cell (i := 3) rfl
        have k1_0 := k1.cell (i := 0) rfl
        have k1_1 := k1.cell (i := 1) rfl
        have k1_2 := k1.cell (i := 2) rfl
        have k1_3 := k1.cell (i := 3) rfl
        go_wp2_with fail
        refine (HAL.out _).mono ?_
        rintro e' wc2 ⟨rfl, hc2⟩
        clear k0_0 k0_1 k0_2 k0_3 k1_0 k1_1 k1_2 k1_3
        have k0 := k0.kept hc2
        have k1 := k1.kept hc2
        have hb := hb.trans (hc2.mono hb.size)
        clear hc2
        have k0_0 := k0.cell (i := 0) rfl
        have k0_1 := k0.cell (i := 1) rfl
        have k0_2 := k0.cell (i := 2) rfl
        have k0_3 := k0.cell (i := 3) rfl
        have k1_0 := k1.cell (i := 0) rfl
        have k1_1 := k1.cell (i := 1) rfl
        have k1_2 := k1.cell (i := 2) rfl
        have k1_3 := k1.cell (i := 3) rfl
        go_wp2_with fail
        refine (HTU.out _).mono ?_
        rintro e' wc3 ⟨rfl, hc3⟩
        clear k0_0 k0_1 k0_2 k0_3 k1_0 k1_1 k1_2 k1_3
        have k0 := k0.kept hc3
        have k1 := k1.kept hc3
        have hb := hb.trans (hc3.mono hb.size)
        clear hc3
        have k0_0 := k0.cell (i := 0) rfl
        have k0_1 := k0.cell (i := 1) rfl
        have k0_2 := k0.cell (i := 2) rfl
        have k0_3 := k0.cell (i := 3) rfl
        have k1_0 := k1.cell (i := 0) rfl
        have k1_1 := k1.cell (i := 1) rfl
        have k1_2 := k1.cell (i := 2) rfl
        have k1_3 := k1.cell (i := 3) rfl
        go_wp2_with fail
        refine (HCM.out _).mono ?_
        rintro e' wc4 ⟨rfl, hc4⟩
        clear k0_0 k0_1 k0_2 k0_3 k1_0 k1_1 k1_2 k1_3
        have k0 := k0.kept hc4
        have k1 := k1.kept hc4
        have hb := hb.trans (hc4.mono hb.size)
        clear hc4
        have k0_0 := k0.cell (i := 0) rfl
        have k0_1 := k0.cell (i := 1) rfl
        have k0_2 := k0.cell (i := 2) rfl
        have k0_3 := k0.cell (i := 3) rfl
        have k1_0 := k1.cell (i := 0) rfl
        have k1_1 := k1.cell (i := 1) rfl
        have k1_2 := k1.cell (i := 2) rfl
        have k1_3 := k1.cell (i := 3) rfl
        obtain ⟨wl, hwl⟩ : ∃ w', wc4.alloc (.cells #[.int .i64 p.a, .int .i64 p.b, .int .i64 p.c, .int .i64 p.d, .int .i64 q.a, .int .i64 q.b, .int .i64 q.c, .int .i64 q.d] 23) = w' := ⟨_, rfl⟩
        have hrl : RdV wl (some ⟨wc4.heap.size, 0, none⟩) [p, q] := by rw [← hwl]; exact planes2 wc4 p.a p.b p.c p.d q.a q.b q.c q.d _
        have hbl : Below wc4.heap.size wc4 wl := by rw [← hwl]; exact (Below.refl _ _).alloc (Nat.le_refl _) _
        have HBD := Lib.hid (HBAD.out _ _ hrl)
        clear hrl
        go_wp2_with fail
        refine HBD.out.mono ?_
        rintro e' wc5 ⟨rfl, hc5⟩
        have hc5 := hbl.trans (hc5.mono hbl.size)
        clear hbl hwl HBD
        clear k0_0 k0_1 k0_2 k0_3 k1_0 k1_1 k1_2 k1_3
        have k0 := k0.kept hc5
        have k1 := k1.kept hc5
        have hb := hb.trans (hc5.mono hb.size)
        clear hc5
        have k0_0 := k0.cell (i := 0) rfl
        have k0_1 := k0.cell (i := 1) rfl
        have k0_2 := k0.cell (i := 2) rfl
        have k0_3 := k0.cell (i := 3) rfl
        have k1_0 := k1.cell (i := 0) rfl
        have k1_1 := k1.cell (i := 1) rfl
        have k1_2 := k1.cell (i := 2) rfl
        have k1_3 := k1.cell (i := 3) rfl
        rw [show errE (true && true) 30 = 0 from rfl]
        clear HPA HAL HTU HCM HBAD
        go_wp2_with fail
        refine (HL1.out _).mono ?_
        rintro e' wc6 ⟨rfl, hc6⟩
        clear k0_0 k0_1 k0_2 k0_3 k1_0 k1_1 k1_2 k1_3
        have k0 := k0.kept hc6
        have k1 := k1.kept hc6
        have hb := hb.trans (hc6.mono hb.size)
        clear hc6
        have k0_0 := k0.cell (i := 0) rfl
        have k0_1 := k0.cell (i := 1) rfl
        have k0_2 := k0.cell (i := 2) rfl
        have k0_3 := k0.cell (i := 3) rfl
        have k1_0 := k1.cell (i := 0) rfl
        have k1_1 := k1.cell (i := 1) rfl
        have k1_2 := k1.cell (i := 2) rfl
        have k1_3 := k1.cell (i := 3) rfl
        go_upto_if 84 with fail
        go_cut [15] from 85 to 87 (fun v15 wx => v15 = .int .i64 C ∧ Below wc6.heap.size wc6 wx)
        case first =>
          cases L1
          · go_wp2_with fail
            refine (HL2.out _).mono ?_
            rintro e' wf ⟨rfl, hbf⟩
            cases L2
            · go_wp2_with fail
              go_meet
              case rel => exact ⟨by rw [HC3.out.2.2 (by trivial) (by trivial)], hbf⟩
            · go_wp2_with fail
              go_meet
              case rel => exact ⟨by rw [HC3.out.2.1 (by trivial) (by trivial)], hbf⟩
          · go_wp2_with fail
            go_meet
            case rel => exact ⟨by rw [HC3.out.1 (by trivial)], Below.refl _ _⟩
        case rest =>
        obtain ⟨rfl, hcl⟩ := hcut
        obtain ⟨wy, hwy⟩ : ∃ x, wc = x := ⟨_, rfl⟩
        rw [hwy] at hcl ⊢
        clear HL1 HL2 HC3
        clear k0_0 k0_1 k0_2 k0_3 k1_0 k1_1 k1_2 k1_3
        have k0 := k0.kept hcl
        have k1 := k1.kept hcl
        have hb := hb.trans (hcl.mono hb.size)
        clear hcl
        have k0_0 := k0.cell (i := 0) rfl
        have k0_1 := k0.cell (i := 1) rfl
        have k0_2 := k0.cell (i := 2) rfl
        have k0_3 := k0.cell (i := 3) rfl
        have k1_0 := k1.cell (i := 0) rfl
        have k1_1 := k1.cell (i := 1) rfl
        have k1_2 := k1.cell (i := 2) rfl
        have k1_3 := k1.cell (i := 3) rfl
        go_upto_region 17 with fail
        go_cut [130] from 88 to 129 (fun v130 wx => v130 = .bool false ∧ Below wy.heap.size wy wx)
        case first =>
          refine wp_region_pure' (fun ix => match ix with | 0 => .int .i64 0 | 1 => .bool false | 2 => .bool false | 3 => .bool PB | 4 => .agg #[.int .i64 p.a, .int .i64 p.b, .int .i64 p.c, .int .i64 p.d] | 5 => .agg #[.int .i64 q.a, .int .i64 q.b, .int .i64 q.c, .int .i64 q.d] | 6 => .bool PB | 7 => .bool false | 8 => .bool false | 9 => .bool false | 10 => .int .i64 0 | 11 => .bool false | 12 => .bool false | 13 => .bool false | 14 => .bool AB | 15 => .agg #[.int .i64 p.a, .int .i64 p.b, .int .i64 p.c, .int .i64 p.d] | 16 => .agg #[.int .i64 q.a, .int .i64 q.b, .int .i64 q.c, .int .i64 q.d] | 17 => .bool AB | 18 => .bool false | 19 => .bool false | 20 => .bool false | 21 => .int .i64 0 | 22 => .bool false | 23 => .bool false | 24 => .bool false | 25 => .int .i64 T | 26 => .agg #[.int .i64 p.a, .int .i64 p.b, .int .i64 p.c, .int .i64 p.d] | 27 => .agg #[.int .i64 p.a, .int .i64 p.b, .int .i64 p.c] | 28 => .agg #[.int .i64 q.a, .int .i64 q.b, .int .i64 q.c, .int .i64 q.d] | 29 => .agg #[.int .i64 q.a, .int .i64 q.b, .int .i64 q.c] | 30 => .int .i64 D | 31 => .int .i64 T | 32 => .bool false | 33 => .bool false | 34 => .bool false | 35 => .int .i64 0 | 36 => .bool false | 37 => .bool false | 38 => .bool false | 39 => .int .i64 (C) | 40 => .int .i64 (C) | 41 => .bool false | _ => .bool false) (by kernel_rfl) (by kernel_rfl) ?_ ?_
          · rintro ix hx f ww hS hd
            have ka := k0.kept hS
            have kb := k1.kept hS
            have a0_ := ka.cell (i := 0) rfl
            have a1_ := ka.cell (i := 1) rfl
            have a2_ := ka.cell (i := 2) rfl
            have a3_ := ka.cell (i := 3) rfl
            have b0_ := kb.cell (i := 0) rfl
            have b1_ := kb.cell (i := 1) rfl
            have b2_ := kb.cell (i := 2) rfl
            have b3_ := kb.cell (i := 3) rfl
            simp only [tmOf, putAll, List.map_cons, List.map_nil, List.setIfInBounds_toArray, List.set_cons_zero, List.set_cons_succ]
            rcases ix with _ | _ | _ | _ | _ | _ | _ | _ | _ | _ | _ | _ | _ | _ | _ | _ | _ | _ | _ | _ | _ | _ | _ | _ | _ | _ | _ | _ | _ | _ | _ | _ | _ | _ | _ | _ | _ | _ | _ | _ | _ | _ | _ | ix
            · refine wpOp_list rfl ?_
              go_wp2
              simp [upd, Below.refl]
            · have g0 : f 0 = .int .i64 0 := hd 0 (by kernel_rfl)
              refine wpOp_list rfl ?_
              go_wp2
              simp [upd, g0, Below.refl]
            · have g1 : f 1 = .bool false := hd 1 (by kernel_rfl)
              refine wpOp_list rfl ?_
              go_wp2
              simp [upd, g1, Below.refl]
            · have g2 : f 2 = .bool false := hd 2 (by kernel_rfl)
              refine wpOp_on rfl (wanted_of (b := false) rfl rfl rfl (congrArg some g2)) ?_
              go_wp2
              simp [upd, g2, Below.refl]
            · have g2 : f 2 = .bool false := hd 2 (by kernel_rfl)
              refine wpOp_on rfl (wanted_of (b := false) rfl rfl rfl (congrArg some g2)) ?_
              go_wp2
              simp [upd, g2, Below.refl]
            · have g2 : f 2 = .bool false := hd 2 (by kernel_rfl)
              refine wpOp_on rfl (wanted_of (b := false) rfl rfl rfl (congrArg some g2)) ?_
              go_wp2
              simp [upd, g2, Below.refl]
            · have g4 : f 4 = .agg #[.int .i64 p.a, .int .i64 p.b, .int .i64 p.c, .int .i64 p.d] := hd 4 (by kernel_rfl)
              have g5 : f 5 = .agg #[.int .i64 q.a, .int .i64 q.b, .int .i64 q.c, .int .i64 q.d] := hd 5 (by kernel_rfl)
              have g2 : f 2 = .bool false := hd 2 (by kernel_rfl)
              refine wpOp_on rfl (wanted_of (b := false) rfl rfl rfl (congrArg some g2)) ?_
              go_wp2_with fail
              refine (HRP.out _).mono ?_
              rintro e' wf ⟨rfl, hbf⟩
              go_wp2_with fail
              simp [upd, g4, g5, g2, hbf]
            · have g3 : f 3 = .bool PB := hd 3 (by kernel_rfl)
              have g6 : f 6 = .bool PB := hd 6 (by kernel_rfl)
              have g2 : f 2 = .bool false := hd 2 (by kernel_rfl)
              refine wpOp_on rfl (wanted_of (b := false) rfl rfl rfl (congrArg some g2)) ?_
              go_wp2
              simp [upd, g3, g6, g2, Below.refl]
            · have g2 : f 2 = .bool false := hd 2 (by kernel_rfl)
              have g7 : f 7 = .bool false := hd 7 (by kernel_rfl)
              refine wpOp_list rfl ?_
              go_wp2
              simp [upd, g2, g7, Below.refl]
            · have g8 : f 8 = .bool false := hd 8 (by kernel_rfl)
              refine wpOp_list rfl ?_
              go_wp2
              simp [upd, g8, Below.refl]
            · have g9 : f 9 = .bool false := hd 9 (by kernel_rfl)
              refine wpOp_on rfl (wanted_of (b := false) rfl rfl rfl (congrArg some g9)) ?_
              go_wp2
              simp [upd, g9, Below.refl]
            · have g10 : f 10 = .int .i64 0 := hd 10 (by kernel_rfl)
              have g9 : f 9 = .bool false := hd 9 (by kernel_rfl)
              refine wpOp_on rfl (wanted_of (b := false) rfl rfl rfl (congrArg some g9)) ?_
              go_wp2
              simp [upd, g10, g9, Below.refl]
            · have g9 : f 9 = .bool false := hd 9 (by kernel_rfl)
              have g11 : f 11 = .bool false := hd 11 (by kernel_rfl)
              refine wpOp_list rfl ?_
              go_wp2
              simp [upd, g9, g11, Below.refl]
            · have g12 : f 12 = .bool false := hd 12 (by kernel_rfl)
              refine wpOp_list rfl ?_
              go_wp2
              simp [upd, g12, Below.refl]
            · have g13 : f 13 = .bool false := hd 13 (by kernel_rfl)
              refine wpOp_on rfl (wanted_of (b := false) rfl rfl rfl (congrArg some g13)) ?_
              go_wp2
              simp [upd, g13, Below.refl]
            · have g13 : f 13 = .bool false := hd 13 (by kernel_rfl)
              refine wpOp_on rfl (wanted_of (b := false) rfl rfl rfl (congrArg some g13)) ?_
              go_wp2
              simp [upd, g13, Below.refl]
            · have g13 : f 13 = .bool false := hd 13 (by kernel_rfl)
              refine wpOp_on rfl (wanted_of (b := false) rfl rfl rfl (congrArg some g13)) ?_
              go_wp2
              simp [upd, g13, Below.refl]
            · have g15 : f 15 = .agg #[.int .i64 p.a, .int .i64 p.b, .int .i64 p.c, .int .i64 p.d] := hd 15 (by kernel_rfl)
              have g16 : f 16 = .agg #[.int .i64 q.a, .int .i64 q.b, .int .i64 q.c, .int .i64 q.d] := hd 16 (by kernel_rfl)
              have g13 : f 13 = .bool false := hd 13 (by kernel_rfl)
              refine wpOp_on rfl (wanted_of (b := false) rfl rfl rfl (congrArg some g13)) ?_
              go_wp2_with fail
              refine (HRA.out _).mono ?_
              rintro e' wf ⟨rfl, hbf⟩
              go_wp2_with fail
              simp [upd, g15, g16, g13, hbf]
            · have g14 : f 14 = .bool AB := hd 14 (by kernel_rfl)
              have g17 : f 17 = .bool AB := hd 17 (by kernel_rfl)
              have g13 : f 13 = .bool false := hd 13 (by kernel_rfl)
              refine wpOp_on rfl (wanted_of (b := false) rfl rfl rfl (congrArg some g13)) ?_
              go_wp2
              simp [upd, g14, g17, g13, Below.refl]
            · have g13 : f 13 = .bool false := hd 13 (by kernel_rfl)
              have g18 : f 18 = .bool false := hd 18 (by kernel_rfl)
              refine wpOp_list rfl ?_
              go_wp2
              simp [upd, g13, g18, Below.refl]
            · have g19 : f 19 = .bool false := hd 19 (by kernel_rfl)
              refine wpOp_list rfl ?_
              go_wp2
              simp [upd, g19, Below.refl]
            · have g20 : f 20 = .bool false := hd 20 (by kernel_rfl)
              refine wpOp_on rfl (wanted_of (b := false) rfl rfl rfl (congrArg some g20)) ?_
              go_wp2
              simp [upd, g20, Below.refl]
            · have g21 : f 21 = .int .i64 0 := hd 21 (by kernel_rfl)
              have g20 : f 20 = .bool false := hd 20 (by kernel_rfl)
              refine wpOp_on rfl (wanted_of (b := false) rfl rfl rfl (congrArg some g20)) ?_
              go_wp2
              simp [upd, g21, g20, Below.refl]
            · have g20 : f 20 = .bool false := hd 20 (by kernel_rfl)
              have g22 : f 22 = .bool false := hd 22 (by kernel_rfl)
              refine wpOp_list rfl ?_
              go_wp2
              simp [upd, g20, g22, Below.refl]
            · have g23 : f 23 = .bool false := hd 23 (by kernel_rfl)
              refine wpOp_list rfl ?_
              go_wp2
              simp [upd, g23, Below.refl]
            · have g24 : f 24 = .bool false := hd 24 (by kernel_rfl)
              refine wpOp_on rfl (wanted_of (b := false) rfl rfl rfl (congrArg some g24)) ?_
              go_wp2
              simp [upd, g24, Below.refl]
            · have g24 : f 24 = .bool false := hd 24 (by kernel_rfl)
              refine wpOp_on rfl (wanted_of (b := false) rfl rfl rfl (congrArg some g24)) ?_
              go_wp2
              simp [upd, g24, Below.refl]
            · have g26 : f 26 = .agg #[.int .i64 p.a, .int .i64 p.b, .int .i64 p.c, .int .i64 p.d] := hd 26 (by kernel_rfl)
              have g24 : f 24 = .bool false := hd 24 (by kernel_rfl)
              refine wpOp_on rfl (wanted_of (b := false) rfl rfl rfl (congrArg some g24)) ?_
              go_wp2_with fail
              refine (HNP.out _).mono ?_
              rintro e' wf ⟨rfl, hbf⟩
              go_wp2_with fail
              simp [upd, g26, g24, hbf]
            · have g24 : f 24 = .bool false := hd 24 (by kernel_rfl)
              refine wpOp_on rfl (wanted_of (b := false) rfl rfl rfl (congrArg some g24)) ?_
              go_wp2
              simp [upd, g24, Below.refl]
            · have g28 : f 28 = .agg #[.int .i64 q.a, .int .i64 q.b, .int .i64 q.c, .int .i64 q.d] := hd 28 (by kernel_rfl)
              have g24 : f 24 = .bool false := hd 24 (by kernel_rfl)
              refine wpOp_on rfl (wanted_of (b := false) rfl rfl rfl (congrArg some g24)) ?_
              go_wp2_with fail
              refine (HNQ.out _).mono ?_
              rintro e' wf ⟨rfl, hbf⟩
              go_wp2_with fail
              simp [upd, g28, g24, hbf]
            · have g27 : f 27 = .agg #[.int .i64 p.a, .int .i64 p.b, .int .i64 p.c] := hd 27 (by kernel_rfl)
              have g29 : f 29 = .agg #[.int .i64 q.a, .int .i64 q.b, .int .i64 q.c] := hd 29 (by kernel_rfl)
              have g24 : f 24 = .bool false := hd 24 (by kernel_rfl)
              refine wpOp_on rfl (wanted_of (b := false) rfl rfl rfl (congrArg some g24)) ?_
              go_wp2_with fail
              refine (HDT.out _).mono ?_
              rintro e' wf ⟨rfl, hbf⟩
              go_wp2_with fail
              simp [upd, g27, g29, g24, hbf]
            · have g30 : f 30 = .int .i64 D := hd 30 (by kernel_rfl)
              have g24 : f 24 = .bool false := hd 24 (by kernel_rfl)
              refine wpOp_on rfl (wanted_of (b := false) rfl rfl rfl (congrArg some g24)) ?_
              go_wp2_with fail
              refine (HSG.out _).mono ?_
              rintro e' wf ⟨rfl, hbf⟩
              go_wp2_with fail
              simp [upd, g30, g24, hbf]
            · have g25 : f 25 = .int .i64 T := hd 25 (by kernel_rfl)
              have g31 : f 31 = .int .i64 T := hd 31 (by kernel_rfl)
              have g24 : f 24 = .bool false := hd 24 (by kernel_rfl)
              refine wpOp_on rfl (wanted_of (b := false) rfl rfl rfl (congrArg some g24)) ?_
              go_wp2
              simp [upd, g25, g31, g24, Below.refl]
            · have g24 : f 24 = .bool false := hd 24 (by kernel_rfl)
              have g32 : f 32 = .bool false := hd 32 (by kernel_rfl)
              refine wpOp_list rfl ?_
              go_wp2
              simp [upd, g24, g32, Below.refl]
            · have g33 : f 33 = .bool false := hd 33 (by kernel_rfl)
              refine wpOp_list rfl ?_
              go_wp2
              simp [upd, g33, Below.refl]
            · have g34 : f 34 = .bool false := hd 34 (by kernel_rfl)
              refine wpOp_on rfl (wanted_of (b := false) rfl rfl rfl (congrArg some g34)) ?_
              go_wp2
              simp [upd, g34, Below.refl]
            · have g35 : f 35 = .int .i64 0 := hd 35 (by kernel_rfl)
              have g34 : f 34 = .bool false := hd 34 (by kernel_rfl)
              refine wpOp_on rfl (wanted_of (b := false) rfl rfl rfl (congrArg some g34)) ?_
              go_wp2
              simp [upd, g35, g34, Below.refl]
            · have g34 : f 34 = .bool false := hd 34 (by kernel_rfl)
              have g36 : f 36 = .bool false := hd 36 (by kernel_rfl)
              refine wpOp_list rfl ?_
              go_wp2
              simp [upd, g34, g36, Below.refl]
            · have g37 : f 37 = .bool false := hd 37 (by kernel_rfl)
              refine wpOp_list rfl ?_
              go_wp2
              simp [upd, g37, Below.refl]
            · have g38 : f 38 = .bool false := hd 38 (by kernel_rfl)
              refine wpOp_on rfl (wanted_of (b := false) rfl rfl rfl (congrArg some g38)) ?_
              go_wp2
              simp [upd, g38, Below.refl]
            · have g38 : f 38 = .bool false := hd 38 (by kernel_rfl)
              refine wpOp_on rfl (wanted_of (b := false) rfl rfl rfl (congrArg some g38)) ?_
              go_wp2
              simp [upd, g38, Below.refl]
            · have g39 : f 39 = .int .i64 (C) := hd 39 (by kernel_rfl)
              have g40 : f 40 = .int .i64 (C) := hd 40 (by kernel_rfl)
              have g38 : f 38 = .bool false := hd 38 (by kernel_rfl)
              refine wpOp_on rfl (wanted_of (b := false) rfl rfl rfl (congrArg some g38)) ?_
              go_wp2
              simp [upd, g39, g40, g38, Below.refl]
            · have g38 : f 38 = .bool false := hd 38 (by kernel_rfl)
              have g41 : f 41 = .bool false := hd 41 (by kernel_rfl)
              refine wpOp_list rfl ?_
              go_wp2
              simp [upd, g38, g41, Below.refl]
            · simp only [List.length_cons, List.length_nil] at hx; omega
          · rintro f ww hS hd
            have g42 : f 42 = .bool false := hd 42 (by decide)
            simp only [tmOf, putAll, List.map_cons, List.map_nil, List.setIfInBounds_toArray, List.set_cons_zero, List.set_cons_succ]
            refine ‹∀ (a' : Act) (w' : World), Met _ a' w' → _› _ _ ?_
            go_meet
            case rel => exact ⟨g42, hS⟩
        case rest =>
        obtain ⟨rfl, hb9⟩ := hcut
        clear HRP HRA HDT HSG HNP HNQ k0_0 k0_1 k0_2 k0_3 k1_0 k1_1 k1_2 k1_3
        have k0 := k0.kept hb9
        have k1 := k1.kept hb9
        have hb := hb.trans (hb9.mono hb.size)
        clear hb9
        go_upto_region 19 with fail
        go_cut [134] from 131 to 133 (fun v134 wx => v134 = .agg #[.int .i64 qq.a, .int .i64 qq.b, .int .i64 qq.c, .int .i64 qq.d] ∧ Blk wx w.heap.size #[.int .i64 pp.a, .int .i64 pp.b, .int .i64 pp.c, .int .i64 pp.d] 23 ∧ Blk wx (w.heap.size + 1) #[.int .i64 qq.a, .int .i64 qq.b, .int .i64 qq.c, .int .i64 qq.d] 23 ∧ Below w.heap.size w wx)
        case first =>
          refine wp_region_pure 4 (fun ix => match ix with | 0 => .agg #[.int .i64 p.a, .int .i64 p.b, .int .i64 p.c, .int .i64 p.d] | 1 => .agg #[.int .i64 pp.a, .int .i64 pp.b, .int .i64 pp.c, .int .i64 pp.d] | 2 => .agg #[.int .i64 q.a, .int .i64 q.b, .int .i64 q.c, .int .i64 q.d] | _ => .agg #[.int .i64 qq.a, .int .i64 qq.b, .int .i64 qq.c, .int .i64 qq.d]) (by kernel_rfl) (by kernel_rfl) (by kernel_rfl) ?_ ?_ ?_
          · decide
          · rintro ix hx f ww hS hd
            have ka := k0.kept hS
            have kb := k1.kept hS
            have a0_ := ka.cell (i := 0) rfl
            have a1_ := ka.cell (i := 1) rfl
            have a2_ := ka.cell (i := 2) rfl
            have a3_ := ka.cell (i := 3) rfl
            have b0_ := kb.cell (i := 0) rfl
            have b1_ := kb.cell (i := 1) rfl
            have b2_ := kb.cell (i := 2) rfl
            have b3_ := kb.cell (i := 3) rfl
            simp only [tmOf, putAll, List.map_cons, List.map_nil, List.setIfInBounds_toArray, List.set_cons_zero, List.set_cons_succ]
            rcases ix with _ | _ | _ | _ | ix
            · refine wpOp_list rfl ?_
              go_wp2
              simp [upd, Below.refl]
            · have g0 : f 0 = .agg #[.int .i64 p.a, .int .i64 p.b, .int .i64 p.c, .int .i64 p.d] := hd 0 (by kernel_rfl)
              refine wpOp_list rfl ?_
              go_wp2_with fail
              refine (HTP.out _).mono ?_
              rintro e' wf ⟨rfl, hbf⟩
              go_wp2_with fail
              simp [upd, g0, hbf]
            · refine wpOp_list rfl ?_
              go_wp2
              simp [upd, Below.refl]
            · have g2 : f 2 = .agg #[.int .i64 q.a, .int .i64 q.b, .int .i64 q.c, .int .i64 q.d] := hd 2 (by kernel_rfl)
              refine wpOp_list rfl ?_
              go_wp2_with fail
              refine (HTQ.out _).mono ?_
              rintro e' wf ⟨rfl, hbf⟩
              go_wp2_with fail
              simp [upd, g2, hbf]
            · omega
          · rintro f ww hS hd
            have ka := k0.kept hS
            have kb := k1.kept hS
            have hbw := hb.trans (hS.mono hb.size)
            have a0 := ka.cell (i := 0) rfl
            have a1 := ka.cell (i := 1) rfl
            have a2 := ka.cell (i := 2) rfl
            have a3 := ka.cell (i := 3) rfl
            have e0 := ka.frozen 0
            have e1 := ka.frozen 1
            have e2 := ka.frozen 2
            have e3 := ka.frozen 3
            have b0 := kb.cell (i := 0) rfl
            have b1 := kb.cell (i := 1) rfl
            have b2 := kb.cell (i := 2) rfl
            have b3 := kb.cell (i := 3) rfl
            have f0 := kb.frozen 0
            have f1 := kb.frozen 1
            have f2 := kb.frozen 2
            have f3 := kb.frozen 3
            have g1 : f 1 = .agg #[.int .i64 pp.a, .int .i64 pp.b, .int .i64 pp.c, .int .i64 pp.d] := hd 1 (by decide)
            have g3 : f 3 = .agg #[.int .i64 qq.a, .int .i64 qq.b, .int .i64 qq.c, .int .i64 qq.d] := hd 3 (by decide)
            simp only [seqW, tmOf, putAll, List.map_cons, List.map_nil, List.setIfInBounds_toArray, List.set_cons_zero, List.set_cons_succ, List.length_cons, List.length_nil]
            refine wpOp_list rfl ?_
            go_wp2
            refine wpOp_list rfl ?_
            go_wp2
            have L0 := Blk.put4 ka (.int .i64 pp.a) (.int .i64 pp.b) (.int .i64 pp.c) (.int .i64 pp.d)
            have M0 := (((kb.other (C := w.heap.size) 0 (.int .i64 pp.a) (by omega)).other (C := w.heap.size) 1 (.int .i64 pp.b) (by omega)).other (C := w.heap.size) 2 (.int .i64 pp.c) (by omega)).other (C := w.heap.size) 3 (.int .i64 pp.d) (by omega)
            have L1 := (((L0.other (C := w.heap.size + 1) 0 (.int .i64 qq.a) (by omega)).other (C := w.heap.size + 1) 1 (.int .i64 qq.b) (by omega)).other (C := w.heap.size + 1) 2 (.int .i64 qq.c) (by omega)).other (C := w.heap.size + 1) 3 (.int .i64 qq.d) (by omega)
            have M1 := Blk.put4 M0 (.int .i64 qq.a) (.int .i64 qq.b) (.int .i64 qq.c) (.int .i64 qq.d)
            have hbX := (((((((hbw.setCell (p := ⟨w.heap.size, 0, none⟩) (by simp only; omega) (.int .i64 pp.a)).setCell (p := ⟨w.heap.size, 1, none⟩) (by simp only; omega) (.int .i64 pp.b)).setCell (p := ⟨w.heap.size, 2, none⟩) (by simp only; omega) (.int .i64 pp.c)).setCell (p := ⟨w.heap.size, 3, none⟩) (by simp only; omega) (.int .i64 pp.d)).setCell (p := ⟨w.heap.size + 1, 0, none⟩) (by simp only; omega) (.int .i64 qq.a)).setCell (p := ⟨w.heap.size + 1, 1, none⟩) (by simp only; omega) (.int .i64 qq.b)).setCell (p := ⟨w.heap.size + 1, 2, none⟩) (by simp only; omega) (.int .i64 qq.c)).setCell (p := ⟨w.heap.size + 1, 3, none⟩) (by simp only; omega) (.int .i64 qq.d)
            go_meet
            case rel => exact ⟨by first | rfl | exact g3, L1, M1, hbX⟩
        case rest =>
        obtain ⟨rfl, k0, k1, hb⟩ := hcut
        clear HTP HTQ
        have c0 := k0.cell (i := 0) rfl
        have c1 := k0.cell (i := 1) rfl
        have c2 := k0.cell (i := 2) rfl
        have c3 := k0.cell (i := 3) rfl
        have d0 := k1.cell (i := 0) rfl
        have d1 := k1.cell (i := 1) rfl
        have d2 := k1.cell (i := 2) rfl
        have d3 := k1.cell (i := 3) rfl
        by_cases hi1 : i = 1
        · subst hi1
          go_wp2_with fail
          refine (HMK.out _).mono ?_
          rintro e' wz ⟨rfl, hz⟩
          have k0 := k0.kept hz
          have k1 := k1.kept hz
          have hb := hb.trans (hz.mono hb.size)
          clear hz c0 d0 c1 d1 c2 d2 c3 d3
          have d0 := k1.cell (i := 0) rfl
          have d1 := k1.cell (i := 1) rfl
          have d2 := k1.cell (i := 2) rfl
          have d3 := k1.cell (i := 3) rfl
          have f0 := k1.frozen 0
          have f1 := k1.frozen 1
          have f2 := k1.frozen 2
          have f3 := k1.frozen 3
          go_wp2_with fail
          go_roundg (3 - (1 + 1))
          case measure => rw [HGK.out]; decide
          case rel => exact ⟨1 + 1, pp, MP, by omega, rfl, by go_num, HIN.out.1, HIN.out.2.2, (((k0.other (C := w.heap.size + 1) 0 (.int .i64 MP.a) (by omega)).other (C := w.heap.size + 1) 1 (.int .i64 MP.b) (by omega)).other (C := w.heap.size + 1) 2 (.int .i64 MP.c) (by omega)).other (C := w.heap.size + 1) 3 (.int .i64 MP.d) (by omega), Blk.put4 k1 _ _ _ _, (((hb.setCell (by simp only; omega) _).setCell (by simp only; omega) _).setCell (by simp only; omega) _).setCell (by simp only; omega) _⟩
        · have hi1' : ((i : Int) == 1) = false := by simp; omega
          go_wp2_with fail
          go_roundg (3 - (i + 1))
          case measure => rw [HGK.out]; omega
          case rel => exact ⟨i + 1, pp, qq, by omega, rfl, by go_num, HIN.out.1, HIN.out.2.1, k0, k1, hb⟩
      · have hpa := fun W => par_f hp hq hR W
        have hal := fun W => alike_f hp hq hR W
        have htu := fun W => turn_f hp hq hR W
        have hcm := fun W => cmp_f hp hq hR W
        have hbf : (decide (RightQ p) && decide (RightQ q)) = false := both_bf hR
        rw [hbf] at hbad
        have HPA := Lib.hid hpa
        have HAL := Lib.hid hal
        have HTU := Lib.hid htu
        have HCM := Lib.hid hcm
        have HBAD := Lib.hid (fun W b hR => hbad W b hR)
        clear hpa hal htu hcm hbad hbf hR hp hq
        have k0_0 := k0.cell (i := 0) rfl
        have k0_1 := k0.cell (i := 1) rfl
        have k0_2 := k0.cell (i := 2) rfl
        have k0_3 := k0.cell (i := 3) rfl
        have k1_0 := k1.cell (i := 0) rfl
        have k1_1 := k1.cell (i := 1) rfl
        have k1_2 := k1.cell (i := 2) rfl
        have k1_3 := k1.cell (i := 3) rfl
        go_wp2_with fail
        refine (HPA.out _).mono ?_
        rintro e' wc1 ⟨rfl, hc1⟩
        clear k0_0 k0_1 k0_2 k0_3 k1_0 k1_1 k1_2 k1_3
        have k0 := k0.kept hc1
        have k1 := k1.kept hc1
        have hb := hb.trans (hc1.mono hb.size)
        clear hc1
        have k0_0 := k0.cell (i := 0) rfl
        have k0_1 := k0.cell (i := 1) rfl
        have k0_2 := k0.cell (i := 2) rfl
        have k0_3 := k0.cell (i := 3) rfl
        have k1_0 := k1.cell (i := 0) rfl
        have k1_1 := k1.cell (i := 1) rfl
        have k1_2 := k1.cell (i := 2) rfl
        have k1_3 := k1.cell (i := 3) rfl
        go_wp2_with fail
        refine (HAL.out _).mono ?_
        rintro e' wc2 ⟨rfl, hc2⟩
        clear k0_0 k0_1 k0_2 k0_3 k1_0 k1_1 k1_2 k1_3
        have k0 := k0.kept hc2
        have k1 := k1.kept hc2
        have hb := hb.trans (hc2.mono hb.size)
        clear hc2
        have k0_0 := k0.cell (i := 0) rfl
        have k0_1 := k0.cell (i := 1) rfl
        have k0_2 := k0.cell (i := 2) rfl
        have k0_3 := k0.cell (i := 3) rfl
        have k1_0 := k1.cell (i := 0) rfl
        have k1_1 := k1.cell (i := 1) rfl
        have k1_2 := k1.cell (i := 2) rfl
        have k1_3 := k1.cell (i := 3) rfl
        go_wp2_with fail
        refine (HTU.out _).mono ?_
        rintro e' wc3 ⟨rfl, hc3⟩
        clear k0_0 k0_1 k0_2 k0_3 k1_0 k1_1 k1_2 k1_3
        have k0 := k0.kept hc3
        have k1 := k1.kept hc3
        have hb := hb.trans (hc3.mono hb.size)
        clear hc3
        have k0_0 := k0.cell (i := 0) rfl
        have k0_1 := k0.cell (i := 1) rfl
        have k0_2 := k0.cell (i := 2) rfl
        have k0_3 := k0.cell (i := 3) rfl
        have k1_0 := k1.cell (i := 0) rfl
        have k1_1 := k1.cell (i := 1) rfl
        have k1_2 := k1.cell (i := 2) rfl
        have k1_3 := k1.cell (i := 3) rfl
        go_wp2_with fail
        refine (HCM.out _).mono ?_
        rintro e' wc4 ⟨rfl, hc4⟩
        clear k0_0 k0_1 k0_2 k0_3 k1_0 k1_1 k1_2 k1_3
        have k0 := k0.kept hc4
        have k1 := k1.kept hc4
        have hb := hb.trans (hc4.mono hb.size)
        clear hc4
        have k0_0 := k0.cell (i := 0) rfl
        have k0_1 := k0.cell (i := 1) rfl
        have k0_2 := k0.cell (i := 2) rfl
        have k0_3 := k0.cell (i := 3) rfl
        have k1_0 := k1.cell (i := 0) rfl
        have k1_1 := k1.cell (i := 1) rfl
        have k1_2 := k1.cell (i := 2) rfl
        have k1_3 := k1.cell (i := 3) rfl
        obtain ⟨wl, hwl⟩ : ∃ w', wc4.alloc (.cells #[.int .i64 p.a, .int .i64 p.b, .int .i64 p.c, .int .i64 p.d, .int .i64 q.a, .int .i64 q.b, .int .i64 q.c, .int .i64 q.d] 23) = w' := ⟨_, rfl⟩
        have hrl : RdV wl (some ⟨wc4.heap.size, 0, none⟩) [p, q] := by rw [← hwl]; exact planes2 wc4 p.a p.b p.c p.d q.a q.b q.c q.d _
        have hbl : Below wc4.heap.size wc4 wl := by rw [← hwl]; exact (Below.refl _ _).alloc (Nat.le_refl _) _
        have HBD := Lib.hid (HBAD.out _ _ hrl)
        clear hrl
        go_wp2_with fail
        refine HBD.out.mono ?_
        rintro e' wc5 ⟨rfl, hc5⟩
        have hc5 := hbl.trans (hc5.mono hbl.size)
        clear hbl hwl HBD
        clear k0_0 k0_1 k0_2 k0_3 k1_0 k1_1 k1_2 k1_3
        have k0 := k0.kept hc5
        have k1 := k1.kept hc5
        have hb := hb.trans (hc5.mono hb.size)
        clear hc5
        have k0_0 := k0.cell (i := 0) rfl
        have k0_1 := k0.cell (i := 1) rfl
        have k0_2 := k0.cell (i := 2) rfl
        have k0_3 := k0.cell (i := 3) rfl
        have k1_0 := k1.cell (i := 0) rfl
        have k1_1 := k1.cell (i := 1) rfl
        have k1_2 := k1.cell (i := 2) rfl
        have k1_3 := k1.cell (i := 3) rfl
        rw [show errE false 30 = 30 from rfl]
        clear HPA HAL HTU HCM HBAD k0_0 k0_1 k0_2 k0_3 k1_0 k1_1 k1_2 k1_3
        go_upto_region 19 with fail
        go_cut [134] from 131 to 133 (fun v134 wx => v134 = .agg #[.int .i64 qq.a, .int .i64 qq.b, .int .i64 qq.c, .int .i64 qq.d] ∧ Blk wx w.heap.size #[.int .i64 pp.a, .int .i64 pp.b, .int .i64 pp.c, .int .i64 pp.d] 23 ∧ Blk wx (w.heap.size + 1) #[.int .i64 qq.a, .int .i64 qq.b, .int .i64 qq.c, .int .i64 qq.d] 23 ∧ Below w.heap.size w wx)
        case first =>
          refine wp_region_pure 4 (fun ix => match ix with | 0 => .agg #[.int .i64 p.a, .int .i64 p.b, .int .i64 p.c, .int .i64 p.d] | 1 => .agg #[.int .i64 pp.a, .int .i64 pp.b, .int .i64 pp.c, .int .i64 pp.d] | 2 => .agg #[.int .i64 q.a, .int .i64 q.b, .int .i64 q.c, .int .i64 q.d] | _ => .agg #[.int .i64 qq.a, .int .i64 qq.b, .int .i64 qq.c, .int .i64 qq.d]) (by kernel_rfl) (by kernel_rfl) (by kernel_rfl) ?_ ?_ ?_
          · decide
          · rintro ix hx f ww hS hd
            have ka := k0.kept hS
            have kb := k1.kept hS
            have a0_ := ka.cell (i := 0) rfl
            have a1_ := ka.cell (i := 1) rfl
            have a2_ := ka.cell (i := 2) rfl
            have a3_ := ka.cell (i := 3) rfl
            have b0_ := kb.cell (i := 0) rfl
            have b1_ := kb.cell (i := 1) rfl
            have b2_ := kb.cell (i := 2) rfl
            have b3_ := kb.cell (i := 3) rfl
            simp only [tmOf, putAll, List.map_cons, List.map_nil, List.setIfInBounds_toArray, List.set_cons_zero, List.set_cons_succ]
            rcases ix with _ | _ | _ | _ | ix
            · refine wpOp_list rfl ?_
              go_wp2
              simp [upd, Below.refl]
            · have g0 : f 0 = .agg #[.int .i64 p.a, .int .i64 p.b, .int .i64 p.c, .int .i64 p.d] := hd 0 (by kernel_rfl)
              refine wpOp_list rfl ?_
              go_wp2_with fail
              refine (HTP.out _).mono ?_
              rintro e' wf ⟨rfl, hbf⟩
              go_wp2_with fail
              simp [upd, g0, hbf]
            · refine wpOp_list rfl ?_
              go_wp2
              simp [upd, Below.refl]
            · have g2 : f 2 = .agg #[.int .i64 q.a, .int .i64 q.b, .int .i64 q.c, .int .i64 q.d] := hd 2 (by kernel_rfl)
              refine wpOp_list rfl ?_
              go_wp2_with fail
              refine (HTQ.out _).mono ?_
              rintro e' wf ⟨rfl, hbf⟩
              go_wp2_with fail
              simp [upd, g2, hbf]
            · omega
          · rintro f ww hS hd
            have ka := k0.kept hS
            have kb := k1.kept hS
            have hbw := hb.trans (hS.mono hb.size)
            have a0 := ka.cell (i := 0) rfl
            have a1 := ka.cell (i := 1) rfl
            have a2 := ka.cell (i := 2) rfl
            have a3 := ka.cell (i := 3) rfl
            have e0 := ka.frozen 0
            have e1 := ka.frozen 1
            have e2 := ka.frozen 2
            have e3 := ka.frozen 3
            have b0 := kb.cell (i := 0) rfl
            have b1 := kb.cell (i := 1) rfl
            have b2 := kb.cell (i := 2) rfl
            have b3 := kb.cell (i := 3) rfl
            have f0 := kb.frozen 0
            have f1 := kb.frozen 1
            have f2 := kb.frozen 2
            have f3 := kb.frozen 3
            have g1 : f 1 = .agg #[.int .i64 pp.a, .int .i64 pp.b, .int .i64 pp.c, .int .i64 pp.d] := hd 1 (by decide)
            have g3 : f 3 = .agg #[.int .i64 qq.a, .int .i64 qq.b, .int .i64 qq.c, .int .i64 qq.d] := hd 3 (by decide)
            simp only [seqW, tmOf, putAll, List.map_cons, List.map_nil, List.setIfInBounds_toArray, List.set_cons_zero, List.set_cons_succ, List.length_cons, List.length_nil]
            refine wpOp_list rfl ?_
            go_wp2
            refine wpOp_list rfl ?_
            go_wp2
            have L0 := Blk.put4 ka (.int .i64 pp.a) (.int .i64 pp.b) (.int .i64 pp.c) (.int .i64 pp.d)
            have M0 := (((kb.other (C := w.heap.size) 0 (.int .i64 pp.a) (by omega)).other (C := w.heap.size) 1 (.int .i64 pp.b) (by omega)).other (C := w.heap.size) 2 (.int .i64 pp.c) (by omega)).other (C := w.heap.size) 3 (.int .i64 pp.d) (by omega)
            have L1 := (((L0.other (C := w.heap.size + 1) 0 (.int .i64 qq.a) (by omega)).other (C := w.heap.size + 1) 1 (.int .i64 qq.b) (by omega)).other (C := w.heap.size + 1) 2 (.int .i64 qq.c) (by omega)).other (C := w.heap.size + 1) 3 (.int .i64 qq.d) (by omega)
            have M1 := Blk.put4 M0 (.int .i64 qq.a) (.int .i64 qq.b) (.int .i64 qq.c) (.int .i64 qq.d)
            have hbX := (((((((hbw.setCell (p := ⟨w.heap.size, 0, none⟩) (by simp only; omega) (.int .i64 pp.a)).setCell (p := ⟨w.heap.size, 1, none⟩) (by simp only; omega) (.int .i64 pp.b)).setCell (p := ⟨w.heap.size, 2, none⟩) (by simp only; omega) (.int .i64 pp.c)).setCell (p := ⟨w.heap.size, 3, none⟩) (by simp only; omega) (.int .i64 pp.d)).setCell (p := ⟨w.heap.size + 1, 0, none⟩) (by simp only; omega) (.int .i64 qq.a)).setCell (p := ⟨w.heap.size + 1, 1, none⟩) (by simp only; omega) (.int .i64 qq.b)).setCell (p := ⟨w.heap.size + 1, 2, none⟩) (by simp only; omega) (.int .i64 qq.c)).setCell (p := ⟨w.heap.size + 1, 3, none⟩) (by simp only; omega) (.int .i64 qq.d)
            go_meet
            case rel => exact ⟨by first | rfl | exact g3, L1, M1, hbX⟩
        case rest =>
        obtain ⟨rfl, k0, k1, hb⟩ := hcut
        clear HTP HTQ
        have c0 := k0.cell (i := 0) rfl
        have c1 := k0.cell (i := 1) rfl
        have c2 := k0.cell (i := 2) rfl
        have c3 := k0.cell (i := 3) rfl
        have d0 := k1.cell (i := 0) rfl
        have d1 := k1.cell (i := 1) rfl
        have d2 := k1.cell (i := 2) rfl
        have d3 := k1.cell (i := 3) rfl
        by_cases hi1 : i = 1
        · subst hi1
          go_wp2_with fail
          refine (HMK.out _).mono ?_
          rintro e' wz ⟨rfl, hz⟩
          have k0 := k0.kept hz
          have k1 := k1.kept hz
          have hb := hb.trans (hz.mono hb.size)
          clear hz c0 d0 c1 d1 c2 d2 c3 d3
          have d0 := k1.cell (i := 0) rfl
          have d1 := k1.cell (i := 1) rfl
          have d2 := k1.cell (i := 2) rfl
          have d3 := k1.cell (i := 3) rfl
          have f0 := k1.frozen 0
          have f1 := k1.frozen 1
          have f2 := k1.frozen 2
          have f3 := k1.frozen 3
          go_wp2_with fail
          go_roundg (3 - (1 + 1))
          case measure => rw [HGK.out]; decide
          case rel => exact ⟨1 + 1, pp, MP, by omega, rfl, by go_num, HIN.out.1, HIN.out.2.2, (((k0.other (C := w.heap.size + 1) 0 (.int .i64 MP.a) (by omega)).other (C := w.heap.size + 1) 1 (.int .i64 MP.b) (by omega)).other (C := w.heap.size + 1) 2 (.int .i64 MP.c) (by omega)).other (C := w.heap.size + 1) 3 (.int .i64 MP.d) (by omega), Blk.put4 k1 _ _ _ _, (((hb.setCell (by simp only; omega) _).setCell (by simp only; omega) _).setCell (by simp only; omega) _).setCell (by simp only; omega) _⟩
        · have hi1' : ((i : Int) == 1) = false := by simp; omega
          go_wp2_with fail
          go_roundg (3 - (i + 1))
          case measure => rw [HGK.out]; omega
          case rel => exact ⟨i + 1, pp, qq, by omega, rfl, by go_num, HIN.out.1, HIN.out.2.1, k0, k1, hb⟩
    · have hlti : ¬ (i : Int) < 3 := by omega
      go_wp2_with fail
      refine (awake3_any _).mono ?_
      rintro e' w6 ⟨rfl, hb6⟩
      go_wp2_with fail
      go_ret
      exact ⟨rfl, hb.trans (hb6.mono hb.size)⟩

end Go.Proofs.Ythdhakpmhndbfaa

namespace Go.Proofs.Ythdhakpmhndbfaa
open Go Go.ChangeShapes Go.WideShapes Go.ChangeAt Go.WideMaps Go.WideElems Go.RowKit Go.ChangeMaps

theorem Try.ownP : ownKnob Try.prog.godebug = none := by kernel_rfl
theorem Try.laidOutP : laidOutB Try.prog = true := by kernel_rfl
theorem Try.cellsI64 : Try.prog.cellsOf 2 = 1 := by kernel_rfl

theorem inI64_wf {n : Int} (h : (Lit.int .i64 n).wf = true) : InI64 n := by
  unfold InI64
  have h1 : IntKind.i64.min = -9223372036854775808 := by decide
  have h2 : IntKind.i64.max = 9223372036854775807 := by decide
  simp [Lit.wf, h1, h2] at h
  omega

set_option maxRecDepth 100000 in
/-- Four int64 among the arguments. -/
theorem open_four {H : Type} {enc : TypeId × Value → H} {W : World} {base : Nat} {t : TypeId} {v : Value} {d : DataW H} {p : List MemPlace} {sp : Nat → Bool} (ht : Try.prog.underlying t = some (.array 4 2)) (hc : Try.prog.cellsOf t = 4) (hv : Value.okWide Try.prog W .any base t v) (hd : DataW.Trod enc Try.prog W 0 sp true t v d p) : ∃ q : V4, v = .agg #[.int .i64 q.a, .int .i64 q.b, .int .i64 q.c, .int .i64 q.d] ∧ InV q := by
  obtain ⟨cs, rfl, hsz, _⟩ : ∃ cs, v = .agg cs ∧ cs.size = Try.prog.cellsOf t ∧ Row.okWide Try.prog W .any base t cs := by
    simpa [Value.okWide, ht] using hv
  rw [hc] at hsz
  obtain ⟨l⟩ := cs
  have hl : l.length = 4 := hsz
  match l, hl with
  | [c0, c1, c2, c3], _ =>
    obtain ⟨fuel, hf⟩ := hd
    obtain ⟨z0, z1, z2, z3, m, _, hy0, hy1, hy2, hy3⟩ := trod_array4 ht Try.cellsI64 (by simpa [Value.cells] using hf)
    obtain ⟨x0, e0, _, w0⟩ := DataW.trod_int Try.underlying2 hy0
    obtain ⟨x1, e1, _, w1⟩ := DataW.trod_int Try.underlying2 hy1
    obtain ⟨x2, e2, _, w2⟩ := DataW.trod_int Try.underlying2 hy2
    obtain ⟨x3, e3, _, w3⟩ := DataW.trod_int Try.underlying2 hy3
    simp at e0 e1 e2 e3
    subst e0 e1 e2 e3
    exact ⟨⟨x0, x1, x2, x3⟩, rfl, inI64_wf w0, inI64_wf w1, inI64_wf w2, inI64_wf w3⟩

end Go.Proofs.Ythdhakpmhndbfaa

namespace Go.Proofs.Ythdhakpmhndbfaa
open Go Go.ChangeShapes Go.WideShapes Go.ChangeAt Go.WideMaps Go.WideElems Go.RowKit Go.ChangeMaps

set_option maxRecDepth 100000 in
theorem planeTells_lifted (os : Os) (started : os.Started) (H : Type) (enc : TypeId × Value → H) :
    ReturnsInHanded {} Try.checked os 6 .any (Rows.planeTellsSpec.pre6 enc Try.prog Try.f6 Rows.planeTellsRow.domain false) (Rows.planeTellsSpec.post enc Try.prog Try.f6 false true false false) := by
  refine returnsInHanded_of_change (C := Try.checked) Try.ownP started (by kernel_rfl) Try.func6
    (ChangeSpec.witness6 (enc := enc) (C := Try.checked) false ⟨#[], #[.agg #[.int .i64 0, .int .i64 0, .int .i64 0, .int .i64 0], .agg #[.int .i64 0, .int .i64 0, .int .i64 0, .int .i64 0]], []⟩ 8 (by kernel_rfl) (by kernel_rfl) (by kernel_rfl) (by kernel_rfl)) ?_
  intro W base args ds gs before hval0 hW _ _
  have hval : ∀ (j : Nat) t v, Try.f6.params[j]? = some t → args[j]? = some v → Value.okWide Try.prog W .any base t v := hval0
  have hW' := hW
  obtain ⟨p, q, hA0, hV, rfl, hfz, hnd⟩ := hW
  have hA : DataW.TrodAll enc Try.prog W 0 (fun _ => true) true Try.f6.params.toList args.toList ds p := hA0
  rw [Try.params6] at hA hval
  obtain ⟨v0, v1, d0, d1, p0, p1, rfl, rfl, rfl, h0, h1⟩ := trodAll_two hA
  obtain ⟨rfl, rfl⟩ := trodVars_none hV
  obtain ⟨x0, rfl, hx0⟩ := open_four Try.underlying23 (by kernel_rfl) (hval 0 23 v0 rfl rfl) h0
  obtain ⟨x1, rfl, hx1⟩ := open_four Try.underlying23 (by kernel_rfl) (hval 1 23 v1 rfl rfl) h1
  simp only [List.append_nil, List.append_assoc] at hW'
  have hlt0 : ∀ x ∈ p0, x.block < W.heap.size := fun x hx => by simpa using hW'.lt x (by simp [hx])
  have hlt1 : ∀ x ∈ p1, x.block < W.heap.size := fun x hx => by simpa using hW'.lt x (by simp [hx])
  refine (planeTells_walk x0 x1 W hx0 hx1).mono fun e W' ⟨he, hb⟩ => ?_
  subst he
  refine ⟨_, rfl, _, _, _, [], p0 ++ p1, [], hW', ?_, ?_, rfl, hb.frame _, fun h => by cases h⟩
  · exact trodAll_mk1 (shut_bool Try.underlying4 true)
  · exact trodAll_mk2 (Below.trod Try.laidOutP (by kernel_rfl) (of_decide_eq_true (by kernel_rfl)) h0 hb hlt0) (Below.trod Try.laidOutP (by kernel_rfl) (of_decide_eq_true (by kernel_rfl)) h1 hb hlt1)

theorem planeTells_holds : Rows.PlaneTellsSaid :=
  OpenClaim.holds_of_wide 6 Try.f6 rfl rfl rfl rfl rfl rfl rfl ⟨rfl, rfl, rfl, rfl, rfl⟩ rfl rfl rfl rfl rfl (by kernel_rfl) Try.func6 (by kernel_rfl)
    (of_decide_eq_true (by kernel_rfl)) (by unfold Func.isWrapper; first | (rw [if_pos (by decide +kernel)]; kernel_rfl) | (rw [if_neg (by decide +kernel)]; exact ⟨rfl, rfl⟩))
    (fun os started H enc _ => planeTells_lifted os started H enc)
#print axioms planeTells_holds

end Go.Proofs.Ythdhakpmhndbfaa
