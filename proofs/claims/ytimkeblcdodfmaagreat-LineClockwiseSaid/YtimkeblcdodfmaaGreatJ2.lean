/-
  The reference of lines: whether a vector is a direction of a plane; the law's directions of any numbers.
-/
import Derived.Test.YtimkeblcdodfmaaGreatK1
import Derived.Test.YtimkeblcdodfmaaGreatK2
import Derived.Test.YtimkeblcdodfmaaGreatK3
import Derived.Test.YtimkeblcdodfmaaGreatK4
import Derived.Test.YtimkeblcdodfmaaGreatK5
import Derived.Test.YtimkeblcdodfmaaGreatK6
import Derived.Test.YtimkeblcdodfmaaGreatK7
import Derived.Test.YtimkeblcdodfmaaGreatK8
import Derived.Test.YtimkeblcdodfmaaGreatK9
import Derived.Test.YtimkeblcdodfmaaGreatK10
import Derived.Test.YtimkeblcdodfmaaGreatK11
import Derived.Test.YtimkeblcdodfmaaGreatK12
import Derived.Test.YtimkeblcdodfmaaGreatK13
import Derived.Test.YtimkeblcdodfmaaGreatK14
import Derived.Test.YtimkeblcdodfmaaGreatK15
import Derived.Test.YtimkeblcdodfmaaGreatK16
import Derived.Test.YtimkeblcdodfmaaGreatK17
import Derived.Test.YtimkeblcdodfmaaGreatK18
import Derived.Test.YtimkeblcdodfmaaGreatK19
import Derived.Test.YtimkeblcdodfmaaGreatK20
import Derived.Test.YtimkeblcdodfmaaGreatK21
import Derived.Test.YtimkeblcdodfmaaGreatK22
import Derived.Test.YtimkeblcdodfmaaGreatK23
import Derived.Test.YtimkeblcdodfmaaGreatK24
import Derived.Test.YtimkeblcdodfmaaGreatK25
import Derived.Test.YtimkeblcdodfmaaGreatJ1
namespace Go.Proofs.YtimkeblcdodfmaaGreat
open Go.RowKit Go.Shelf
attribute [local go_sem] Oper.semAt_some

def In3 (v : V3) : Prop := InI64 v.a ∧ InI64 v.b ∧ InI64 v.c
theorem v3g_in {v : V3} (h : In3 v) (i : Nat) : InI64 (v3g v i) := by
  match i with
  | 0 => exact h.1
  | 1 => exact h.2.1
  | i + 2 => exact h.2.2
theorem far_in {v : V3} {m : Nat} (h : Far v m) (hm : m ≤ 9000000000000000000) : In3 v := by
  unfold Far at h
  unfold In3 InI64
  omega
theorem far_at {v : V3} {m : Nat} (h : Far v m) (i : Nat) : (v3g v i).natAbs ≤ m := by
  match i with
  | 0 => exact h.1
  | 1 => exact h.2.1
  | i + 2 => exact h.2.2

set_option maxRecDepth 100000 in
set_option maxHeartbeats 4000000 in
theorem wayR_any (p : V4) (v : V3) (w : World) (hv : In3 v) : Calls Tryz.prog 37 #[.agg #[.int .i64 p.a, .int .i64 p.b, .int .i64 p.c, .int .i64 p.d], .agg #[.int .i64 v.a, .int .i64 v.b, .int .i64 v.c]] w fun e w' => e = .returned (.bool (isInB p v)) ∧ Below w.heap.size w w' := by
  obtain ⟨w1, hw1⟩ : ∃ w1, ((w.alloc (.cells #[.int .i64 p.a, .int .i64 p.b, .int .i64 p.c, .int .i64 p.d] 23)).alloc (.cells #[.int .i64 v.a, .int .i64 v.b, .int .i64 v.c] 24)) = w1 := ⟨_, rfl⟩
  have hb1 : Below w.heap.size w w1 := by rw [← hw1]; exact bw2 w _ _
  have k0 : Blk w1 (w.heap.size) #[.int .i64 p.a, .int .i64 p.b, .int .i64 p.c, .int .i64 p.d] 23 := by rw [← hw1]; exact ((Blk.new w _ _).alloc _)
  have k1 : Blk w1 (w.heap.size + 1) #[.int .i64 v.a, .int .i64 v.b, .int .i64 v.c] 24 := by rw [← hw1]; exact (Blk.new' _ _ _ (by simp))
  have hn := fun W => normalR_any p W
  have hd := fun W => dotWR_any (nrm p) v W
  rw [dotW_comm] at hd
  have heq := fun w => eqVec v ⟨0, 0, 0⟩ w
  have hbig : ∀ i, 2000000 < (v3g v i).natAbs → isInB p v = false := fun i hi => by
    cases h : isInB p v with
    | false => rfl
    | true => have := far_at (isInB_far h) i; omega
  have hsm : (∀ j, j < 3 → (v3g v j).natAbs ≤ 2000000) → isInB p v = (!decide (v = ⟨0, 0, 0⟩) && decide (dotW v (nrm p) = 0)) := fun h => by
    have h0 : v.a.natAbs ≤ 2000000 := h 0 (by omega)
    have h1 : v.b.natAbs ≤ 2000000 := h 1 (by omega)
    have h2 : v.c.natAbs ≤ 2000000 := h 2 (by omega)
    have hw : within 2000000 [v.a, v.b, v.c] = true := by
      unfold within
      simp only [List.all_cons, List.all_nil, Bool.and_true, Bool.and_eq_true, decide_eq_true_eq]
      omega
    unfold isInB
    rw [hw, Bool.true_and]
  obtain ⟨R, hR⟩ : ∃ y, isInB p v = y := ⟨_, rfl⟩
  rw [hR] at hsm ⊢
  simp only [hR] at hbig
  obtain ⟨d, hde⟩ : ∃ y, dotW v (nrm p) = y := ⟨_, rfl⟩
  rw [hde] at hd hsm
  obtain ⟨n, hne⟩ : ∃ y, nrm p = y := ⟨_, rfl⟩
  rw [hne] at hn hd
  obtain ⟨t, hte⟩ : ∃ y, decide (v = ⟨0, 0, 0⟩) = y := ⟨_, rfl⟩
  rw [hte] at heq hsm
  have HN := Lib.hid hn
  have HD := Lib.hid hd
  have HBG := Lib.hid hbig
  have HSM := Lib.hid hsm
  have HV := Lib.hid hv
  clear hn hd hde hne hte hR hbig hsm hv
  go_enter Tryz.func37, Tryz.ntmps37
  go_wp2_with fail
  go_loopg [5] 3 (fun gk v5 wr => ∃ i : Nat, i ≤ 3 ∧ gk = 3 - i ∧ v5 = .int .i64 (i : Int) ∧ Hid (∀ j, j < i → (v3g v j).natAbs ≤ 2000000) ∧ Blk wr (w.heap.size) #[.int .i64 p.a, .int .i64 p.b, .int .i64 p.c, .int .i64 p.d] 23 ∧ Blk wr (w.heap.size + 1) #[.int .i64 v.a, .int .i64 v.b, .int .i64 v.c] 24 ∧ Below w.heap.size w wr)
  case atStart => exact ⟨0, by decide, rfl, rfl, fun j h => absurd h (by omega), k0, k1, hb1⟩
  case round =>
    clear k0 k1 hb1 hw1
    obtain ⟨i, hi, hgk, rfl, HA, k0, k1, hb⟩ := hrel
    have HGK := Lib.hid hgk
    clear hgk
    by_cases hlt : i < 3
    · have hlti : (i : Int) < 3 := by omega
      have c0 := k1.v3g hlt
      have hs := fun W => size3_any (v3g v i) W (v3g_in HV.out i)
      have hbg := HBG.out i
      obtain ⟨x, hx⟩ : ∃ x, v3g v i = x := ⟨_, rfl⟩
      rw [hx] at c0 hs hbg
      have HSZ := Lib.hid hs
      clear hs
      by_cases hbig : 2000000 < sizeZ x
      · have hno : R = false := hbg (by unfold sizeZ at hbig; split at hbig <;> omega)
        have HNO := Lib.hid hno
        clear hno hbg hx
        go_wp2_with fail
        refine (HSZ.out _).mono ?_
        rintro e w2 ⟨rfl, hw2⟩
        rw [hw2]
        go_wp2_with fail
        go_ret
        exact ⟨congrArg (fun z => Ending.returned (.bool z)) HNO.out.symm, hb⟩
      · have HB := Lib.hid (sizeZ_small (lim := 2000000) hbig (by decide)).1
        have HX := Lib.hid hx
        clear hx hbg
        go_wp2_with fail
        refine (HSZ.out _).mono ?_
        rintro e w2 ⟨rfl, hw2⟩
        rw [hw2]
        go_wp2_with fail
        go_roundg (3 - (i + 1))
        case measure => rw [HGK.out]; omega
        case rel =>
          refine ⟨i + 1, by omega, rfl, by go_num, ?_, k0, k1, hb⟩
          intro j hj
          by_cases hji : j = i
          · rw [hji, HX.out]; exact HB.out
          · exact HA.out j (by omega)
    · obtain rfl : i = 3 := by omega
      have hR := HSM.out HA.out
      have HR := Lib.hid hR
      clear hR HSM HA HBG
      generalize wr = wy at *
      cases t with
      | true =>
        have HR1 : Hid (R = false) := Lib.hid (by rw [HR.out]; simp)
        clear HR
        go_upto_region 6 with fail
        go_cut [4] from 15 to 24 (fun v4 wx => v4 = .bool false ∧ Below wy.heap.size wy wx)
        case first =>
          refine wp_region_pure' (fun ix => match ix with | 0 => .agg #[.int .i64 v.a, .int .i64 v.b, .int .i64 v.c] | 1 => .agg #[.int .i64 0, .int .i64 0, .int .i64 0] | 2 => .bool false | 3 => .bool false | 4 => undef | 5 => undef | 6 => undef | 7 => undef | 8 => undef | 9 => .bool false | _ => .bool false) (by kernel_rfl) (by kernel_rfl) ?_ ?_
          · rintro ix hx f ww hS hd
            have ka := k0.kept hS
            have kb := k1.kept hS
            have a0_ := ka.cell (i := 0) rfl
            have a1_ := ka.cell (i := 1) rfl
            have a2_ := ka.cell (i := 2) rfl
            have a3_ := ka.cell (i := 3) rfl
            have b0_ := kb.cell (i := 0) rfl
            have b1_ := kb.cell (i := 1) rfl
            have b2_ := kb.cell (i := 2) rfl
            rcases ix with _ | _ | _ | _ | _ | _ | _ | _ | _ | _ | _ | ix
            · refine wpOp_list rfl ?_
              simp only [tmOf, putAll, List.map_cons, List.map_nil, List.setIfInBounds_toArray, List.set_cons_zero, List.set_cons_succ]
              go_wp2
              simp [upd, Below.refl]
            · refine wpOp_list rfl ?_
              simp only [tmOf, putAll, List.map_cons, List.map_nil, List.setIfInBounds_toArray, List.set_cons_zero, List.set_cons_succ]
              go_wp2
              simp [upd, Below.refl]
            · have g0 : f 0 = .agg #[.int .i64 v.a, .int .i64 v.b, .int .i64 v.c] := hd 0 (by kernel_rfl)
              have g1 : f 1 = .agg #[.int .i64 0, .int .i64 0, .int .i64 0] := hd 1 (by kernel_rfl)
              refine wpOp_list rfl ?_
              simp only [tmOf, putAll, List.map_cons, List.map_nil, List.setIfInBounds_toArray, List.set_cons_zero, List.set_cons_succ]
              go_wp2
              simp [upd, g0, g1, Below.refl]
            · have g2 : f 2 = .bool false := hd 2 (by kernel_rfl)
              refine wpOp_list rfl ?_
              simp only [tmOf, putAll, List.map_cons, List.map_nil, List.setIfInBounds_toArray, List.set_cons_zero, List.set_cons_succ]
              go_wp2
              simp [upd, g2, Below.refl]
            · have g3 : f 3 = .bool false := hd 3 (by kernel_rfl)
              simp only [tmOf, putAll, List.map_cons, List.map_nil, List.setIfInBounds_toArray, List.set_cons_zero, List.set_cons_succ]
              refine wpOp_off rfl (unwanted_of (b := false) rfl rfl rfl (congrArg some g3)) ?_
              simp [tmOf, Act.put, putAll, upd, Below.refl]
            · have g3 : f 3 = .bool false := hd 3 (by kernel_rfl)
              simp only [tmOf, putAll, List.map_cons, List.map_nil, List.setIfInBounds_toArray, List.set_cons_zero, List.set_cons_succ]
              refine wpOp_off rfl (unwanted_of (b := false) rfl rfl rfl (congrArg some g3)) ?_
              simp [tmOf, Act.put, putAll, upd, Below.refl]
            · have g3 : f 3 = .bool false := hd 3 (by kernel_rfl)
              simp only [tmOf, putAll, List.map_cons, List.map_nil, List.setIfInBounds_toArray, List.set_cons_zero, List.set_cons_succ]
              refine wpOp_off rfl (unwanted_of (b := false) rfl rfl rfl (congrArg some g3)) ?_
              simp [tmOf, Act.put, putAll, upd, Below.refl]
            · have g3 : f 3 = .bool false := hd 3 (by kernel_rfl)
              simp only [tmOf, putAll, List.map_cons, List.map_nil, List.setIfInBounds_toArray, List.set_cons_zero, List.set_cons_succ]
              refine wpOp_off rfl (unwanted_of (b := false) rfl rfl rfl (congrArg some g3)) ?_
              simp [tmOf, Act.put, putAll, upd, Below.refl]
            · have g3 : f 3 = .bool false := hd 3 (by kernel_rfl)
              simp only [tmOf, putAll, List.map_cons, List.map_nil, List.setIfInBounds_toArray, List.set_cons_zero, List.set_cons_succ]
              refine wpOp_off rfl (unwanted_of (b := false) rfl rfl rfl (congrArg some g3)) ?_
              simp [tmOf, Act.put, putAll, upd, Below.refl]
            · have g3 : f 3 = .bool false := hd 3 (by kernel_rfl)
              have g8 : f 8 = undef := hd 8 (by kernel_rfl)
              refine wpOp_list rfl ?_
              simp only [tmOf, putAll, List.map_cons, List.map_nil, List.setIfInBounds_toArray, List.set_cons_zero, List.set_cons_succ]
              go_wp2
              simp [upd, g3, g8, Below.refl]
            · have g9 : f 9 = .bool false := hd 9 (by kernel_rfl)
              refine wpOp_list rfl ?_
              simp only [tmOf, putAll, List.map_cons, List.map_nil, List.setIfInBounds_toArray, List.set_cons_zero, List.set_cons_succ]
              go_wp2
              simp [upd, g9, Below.refl]
            · simp only [List.length_cons, List.length_nil] at hx; omega
          · rintro f ww hS hd
            have gl : f 10 = .bool false := hd 10 (by decide)
            simp only [tmOf, putAll, List.map_cons, List.map_nil, List.setIfInBounds_toArray, List.set_cons_zero, List.set_cons_succ]
            refine ‹∀ (a' : Act) (w' : World), Met _ a' w' → _› _ _ ?_
            go_meet
            case rel => exact ⟨gl, hS⟩
        case rest =>
        obtain ⟨rfl, hbx⟩ := hcut
        have hb := hb.trans (hbx.mono hb.size)
        clear hbx
        go_wp2_with fail
        go_ret
        exact ⟨by rw [HR1.out]; rfl, hb⟩
      | false =>
        by_cases h0 : d = 0
        · have HR1 : Hid (R = true) := Lib.hid (by rw [HR.out]; simp [h0])
          subst h0
          clear HR
          go_upto_region 6 with fail
          go_cut [4] from 15 to 24 (fun v4 wx => v4 = .bool true ∧ Below wy.heap.size wy wx)
          case first =>
            refine wp_region_pure' (fun ix => match ix with | 0 => .agg #[.int .i64 v.a, .int .i64 v.b, .int .i64 v.c] | 1 => .agg #[.int .i64 0, .int .i64 0, .int .i64 0] | 2 => .bool true | 3 => .bool true | 4 => .agg #[.int .i64 p.a, .int .i64 p.b, .int .i64 p.c, .int .i64 p.d] | 5 => .agg #[.int .i64 n.a, .int .i64 n.b, .int .i64 n.c] | 6 => .agg #[.int .i64 v.a, .int .i64 v.b, .int .i64 v.c] | 7 => .int .i64 0 | 8 => .bool true | 9 => .bool true | _ => .bool true) (by kernel_rfl) (by kernel_rfl) ?_ ?_
            · rintro ix hx f ww hS hd
              have ka := k0.kept hS
              have kb := k1.kept hS
              have a0_ := ka.cell (i := 0) rfl
              have a1_ := ka.cell (i := 1) rfl
              have a2_ := ka.cell (i := 2) rfl
              have a3_ := ka.cell (i := 3) rfl
              have b0_ := kb.cell (i := 0) rfl
              have b1_ := kb.cell (i := 1) rfl
              have b2_ := kb.cell (i := 2) rfl
              rcases ix with _ | _ | _ | _ | _ | _ | _ | _ | _ | _ | _ | ix
              · refine wpOp_list rfl ?_
                simp only [tmOf, putAll, List.map_cons, List.map_nil, List.setIfInBounds_toArray, List.set_cons_zero, List.set_cons_succ]
                go_wp2
                simp [upd, Below.refl]
              · refine wpOp_list rfl ?_
                simp only [tmOf, putAll, List.map_cons, List.map_nil, List.setIfInBounds_toArray, List.set_cons_zero, List.set_cons_succ]
                go_wp2
                simp [upd, Below.refl]
              · have g0 : f 0 = .agg #[.int .i64 v.a, .int .i64 v.b, .int .i64 v.c] := hd 0 (by kernel_rfl)
                have g1 : f 1 = .agg #[.int .i64 0, .int .i64 0, .int .i64 0] := hd 1 (by kernel_rfl)
                refine wpOp_list rfl ?_
                simp only [tmOf, putAll, List.map_cons, List.map_nil, List.setIfInBounds_toArray, List.set_cons_zero, List.set_cons_succ]
                go_wp2
                simp [upd, g0, g1, Below.refl]
              · have g2 : f 2 = .bool true := hd 2 (by kernel_rfl)
                refine wpOp_list rfl ?_
                simp only [tmOf, putAll, List.map_cons, List.map_nil, List.setIfInBounds_toArray, List.set_cons_zero, List.set_cons_succ]
                go_wp2
                simp [upd, g2, Below.refl]
              · have g3 : f 3 = .bool true := hd 3 (by kernel_rfl)
                simp only [tmOf, putAll, List.map_cons, List.map_nil, List.setIfInBounds_toArray, List.set_cons_zero, List.set_cons_succ]
                refine wpOp_on rfl (wanted_of (b := true) rfl rfl rfl (congrArg some g3)) ?_
                go_wp2
                simp [upd, g3, Below.refl]
              · have g4 : f 4 = .agg #[.int .i64 p.a, .int .i64 p.b, .int .i64 p.c, .int .i64 p.d] := hd 4 (by kernel_rfl)
                have g3 : f 3 = .bool true := hd 3 (by kernel_rfl)
                simp only [tmOf, putAll, List.map_cons, List.map_nil, List.setIfInBounds_toArray, List.set_cons_zero, List.set_cons_succ]
                refine wpOp_on rfl (wanted_of (b := true) rfl rfl rfl (congrArg some g3)) ?_
                go_wp2_with fail
                refine (HN.out _).mono ?_
                rintro e' wf ⟨rfl, hbf⟩
                go_wp2_with fail
                simp [upd, g4, g3, hbf]
              · have g3 : f 3 = .bool true := hd 3 (by kernel_rfl)
                simp only [tmOf, putAll, List.map_cons, List.map_nil, List.setIfInBounds_toArray, List.set_cons_zero, List.set_cons_succ]
                refine wpOp_on rfl (wanted_of (b := true) rfl rfl rfl (congrArg some g3)) ?_
                go_wp2
                simp [upd, g3, Below.refl]
              · have g5 : f 5 = .agg #[.int .i64 n.a, .int .i64 n.b, .int .i64 n.c] := hd 5 (by kernel_rfl)
                have g6 : f 6 = .agg #[.int .i64 v.a, .int .i64 v.b, .int .i64 v.c] := hd 6 (by kernel_rfl)
                have g3 : f 3 = .bool true := hd 3 (by kernel_rfl)
                simp only [tmOf, putAll, List.map_cons, List.map_nil, List.setIfInBounds_toArray, List.set_cons_zero, List.set_cons_succ]
                refine wpOp_on rfl (wanted_of (b := true) rfl rfl rfl (congrArg some g3)) ?_
                go_wp2_with fail
                refine (HD.out _).mono ?_
                rintro e' wf ⟨rfl, hbf⟩
                go_wp2_with fail
                simp [upd, g5, g6, g3, hbf]
              · have g7 : f 7 = .int .i64 0 := hd 7 (by kernel_rfl)
                have g3 : f 3 = .bool true := hd 3 (by kernel_rfl)
                simp only [tmOf, putAll, List.map_cons, List.map_nil, List.setIfInBounds_toArray, List.set_cons_zero, List.set_cons_succ]
                refine wpOp_on rfl (wanted_of (b := true) rfl rfl rfl (congrArg some g3)) ?_
                go_wp2
                simp [upd, g7, g3, Below.refl]
              · have g3 : f 3 = .bool true := hd 3 (by kernel_rfl)
                have g8 : f 8 = .bool true := hd 8 (by kernel_rfl)
                refine wpOp_list rfl ?_
                simp only [tmOf, putAll, List.map_cons, List.map_nil, List.setIfInBounds_toArray, List.set_cons_zero, List.set_cons_succ]
                go_wp2
                simp [upd, g3, g8, Below.refl]
              · have g9 : f 9 = .bool true := hd 9 (by kernel_rfl)
                refine wpOp_list rfl ?_
                simp only [tmOf, putAll, List.map_cons, List.map_nil, List.setIfInBounds_toArray, List.set_cons_zero, List.set_cons_succ]
                go_wp2
                simp [upd, g9, Below.refl]
              · simp only [List.length_cons, List.length_nil] at hx; omega
            · rintro f ww hS hd
              have gl : f 10 = .bool true := hd 10 (by decide)
              simp only [tmOf, putAll, List.map_cons, List.map_nil, List.setIfInBounds_toArray, List.set_cons_zero, List.set_cons_succ]
              refine ‹∀ (a' : Act) (w' : World), Met _ a' w' → _› _ _ ?_
              go_meet
              case rel => exact ⟨gl, hS⟩
          case rest =>
          obtain ⟨rfl, hbx⟩ := hcut
          have hb := hb.trans (hbx.mono hb.size)
          clear hbx
          go_wp2_with fail
          go_ret
          exact ⟨by rw [HR1.out]; rfl, hb⟩
        · have HR1 : Hid (R = false) := Lib.hid (by rw [HR.out]; simp [h0])
          have e1 : (d == 0) = false := by simp [h0]
          clear HR h0
          go_upto_region 6 with fail
          go_cut [4] from 15 to 24 (fun v4 wx => v4 = .bool false ∧ Below wy.heap.size wy wx)
          case first =>
            refine wp_region_pure' (fun ix => match ix with | 0 => .agg #[.int .i64 v.a, .int .i64 v.b, .int .i64 v.c] | 1 => .agg #[.int .i64 0, .int .i64 0, .int .i64 0] | 2 => .bool true | 3 => .bool true | 4 => .agg #[.int .i64 p.a, .int .i64 p.b, .int .i64 p.c, .int .i64 p.d] | 5 => .agg #[.int .i64 n.a, .int .i64 n.b, .int .i64 n.c] | 6 => .agg #[.int .i64 v.a, .int .i64 v.b, .int .i64 v.c] | 7 => .int .i64 d | 8 => .bool false | 9 => .bool false | _ => .bool false) (by kernel_rfl) (by kernel_rfl) ?_ ?_
            · rintro ix hx f ww hS hd
              have ka := k0.kept hS
              have kb := k1.kept hS
              have a0_ := ka.cell (i := 0) rfl
              have a1_ := ka.cell (i := 1) rfl
              have a2_ := ka.cell (i := 2) rfl
              have a3_ := ka.cell (i := 3) rfl
              have b0_ := kb.cell (i := 0) rfl
              have b1_ := kb.cell (i := 1) rfl
              have b2_ := kb.cell (i := 2) rfl
              rcases ix with _ | _ | _ | _ | _ | _ | _ | _ | _ | _ | _ | ix
              · refine wpOp_list rfl ?_
                simp only [tmOf, putAll, List.map_cons, List.map_nil, List.setIfInBounds_toArray, List.set_cons_zero, List.set_cons_succ]
                go_wp2
                simp [upd, Below.refl]
              · refine wpOp_list rfl ?_
                simp only [tmOf, putAll, List.map_cons, List.map_nil, List.setIfInBounds_toArray, List.set_cons_zero, List.set_cons_succ]
                go_wp2
                simp [upd, Below.refl]
              · have g0 : f 0 = .agg #[.int .i64 v.a, .int .i64 v.b, .int .i64 v.c] := hd 0 (by kernel_rfl)
                have g1 : f 1 = .agg #[.int .i64 0, .int .i64 0, .int .i64 0] := hd 1 (by kernel_rfl)
                refine wpOp_list rfl ?_
                simp only [tmOf, putAll, List.map_cons, List.map_nil, List.setIfInBounds_toArray, List.set_cons_zero, List.set_cons_succ]
                go_wp2
                simp [upd, g0, g1, Below.refl]
              · have g2 : f 2 = .bool true := hd 2 (by kernel_rfl)
                refine wpOp_list rfl ?_
                simp only [tmOf, putAll, List.map_cons, List.map_nil, List.setIfInBounds_toArray, List.set_cons_zero, List.set_cons_succ]
                go_wp2
                simp [upd, g2, Below.refl]
              · have g3 : f 3 = .bool true := hd 3 (by kernel_rfl)
                simp only [tmOf, putAll, List.map_cons, List.map_nil, List.setIfInBounds_toArray, List.set_cons_zero, List.set_cons_succ]
                refine wpOp_on rfl (wanted_of (b := true) rfl rfl rfl (congrArg some g3)) ?_
                go_wp2
                simp [upd, g3, Below.refl]
              · have g4 : f 4 = .agg #[.int .i64 p.a, .int .i64 p.b, .int .i64 p.c, .int .i64 p.d] := hd 4 (by kernel_rfl)
                have g3 : f 3 = .bool true := hd 3 (by kernel_rfl)
                simp only [tmOf, putAll, List.map_cons, List.map_nil, List.setIfInBounds_toArray, List.set_cons_zero, List.set_cons_succ]
                refine wpOp_on rfl (wanted_of (b := true) rfl rfl rfl (congrArg some g3)) ?_
                go_wp2_with fail
                refine (HN.out _).mono ?_
                rintro e' wf ⟨rfl, hbf⟩
                go_wp2_with fail
                simp [upd, g4, g3, hbf]
              · have g3 : f 3 = .bool true := hd 3 (by kernel_rfl)
                simp only [tmOf, putAll, List.map_cons, List.map_nil, List.setIfInBounds_toArray, List.set_cons_zero, List.set_cons_succ]
                refine wpOp_on rfl (wanted_of (b := true) rfl rfl rfl (congrArg some g3)) ?_
                go_wp2
                simp [upd, g3, Below.refl]
              · have g5 : f 5 = .agg #[.int .i64 n.a, .int .i64 n.b, .int .i64 n.c] := hd 5 (by kernel_rfl)
                have g6 : f 6 = .agg #[.int .i64 v.a, .int .i64 v.b, .int .i64 v.c] := hd 6 (by kernel_rfl)
                have g3 : f 3 = .bool true := hd 3 (by kernel_rfl)
                simp only [tmOf, putAll, List.map_cons, List.map_nil, List.setIfInBounds_toArray, List.set_cons_zero, List.set_cons_succ]
                refine wpOp_on rfl (wanted_of (b := true) rfl rfl rfl (congrArg some g3)) ?_
                go_wp2_with fail
                refine (HD.out _).mono ?_
                rintro e' wf ⟨rfl, hbf⟩
                go_wp2_with fail
                simp [upd, g5, g6, g3, hbf]
              · have g7 : f 7 = .int .i64 d := hd 7 (by kernel_rfl)
                have g3 : f 3 = .bool true := hd 3 (by kernel_rfl)
                simp only [tmOf, putAll, List.map_cons, List.map_nil, List.setIfInBounds_toArray, List.set_cons_zero, List.set_cons_succ]
                refine wpOp_on rfl (wanted_of (b := true) rfl rfl rfl (congrArg some g3)) ?_
                go_wp2
                simp [upd, g7, g3, Below.refl]
              · have g3 : f 3 = .bool true := hd 3 (by kernel_rfl)
                have g8 : f 8 = .bool false := hd 8 (by kernel_rfl)
                refine wpOp_list rfl ?_
                simp only [tmOf, putAll, List.map_cons, List.map_nil, List.setIfInBounds_toArray, List.set_cons_zero, List.set_cons_succ]
                go_wp2
                simp [upd, g3, g8, Below.refl]
              · have g9 : f 9 = .bool false := hd 9 (by kernel_rfl)
                refine wpOp_list rfl ?_
                simp only [tmOf, putAll, List.map_cons, List.map_nil, List.setIfInBounds_toArray, List.set_cons_zero, List.set_cons_succ]
                go_wp2
                simp [upd, g9, Below.refl]
              · simp only [List.length_cons, List.length_nil] at hx; omega
            · rintro f ww hS hd
              have gl : f 10 = .bool false := hd 10 (by decide)
              simp only [tmOf, putAll, List.map_cons, List.map_nil, List.setIfInBounds_toArray, List.set_cons_zero, List.set_cons_succ]
              refine ‹∀ (a' : Act) (w' : World), Met _ a' w' → _› _ _ ?_
              go_meet
              case rel => exact ⟨gl, hS⟩
          case rest =>
          obtain ⟨rfl, hbx⟩ := hcut
          have hb := hb.trans (hbx.mono hb.size)
          clear hbx
          go_wp2_with fail
          go_ret
          exact ⟨by rw [HR1.out]; rfl, hb⟩

/-- Three cells that a loop writes one by one. -/
theorem ivec_set {r : Nat → Int} {i : Nat} (hi : i < 3) (v : Int) : (#[.int .i64 (r 0), .int .i64 (r 1), .int .i64 (r 2)] : Array Value).setIfInBounds i (.int .i64 v) = #[.int .i64 (if 0 = i then v else r 0), .int .i64 (if 1 = i then v else r 1), .int .i64 (if 2 = i then v else r 2)] := by
  match i, hi with
  | 0, _ => rfl
  | 1, _ => rfl
  | 2, _ => rfl
theorem ivec_at {W : World} {B : Nat} {r : Nat → Int} {t : TypeId} (h : Blk W B #[.int .i64 (r 0), .int .i64 (r 1), .int .i64 (r 2)] t) {i : Nat} (hi : i < 3) : W.cell? ⟨B, i, none⟩ = some (.int .i64 (r i)) := by
  match i, hi with
  | 0, _ => exact h.cell (i := 0) rfl
  | 1, _ => exact h.cell (i := 1) rfl
  | 2, _ => exact h.cell (i := 2) rfl

set_option maxRecDepth 100000 in
set_option maxHeartbeats 8000000 in
theorem way_any (p : V4) (v : V3) (w : World) (hpn : Far (nrm p) 1000) (hv : In3 v) : Calls Tryz.prog 39 #[.agg #[.int .i64 p.a, .int .i64 p.b, .int .i64 p.c, .int .i64 p.d], .agg #[.int .i64 v.a, .int .i64 v.b, .int .i64 v.c]] w fun e w' => e = .returned (.agg #[.int .i64 (wayV (nrm p) v).a, .int .i64 (wayV (nrm p) v).b, .int .i64 (wayV (nrm p) v).c]) ∧ Below w.heap.size w w' := by
  obtain ⟨w1, hw1⟩ : ∃ w1, (((w.alloc (.cells #[.int .i64 p.a, .int .i64 p.b, .int .i64 p.c, .int .i64 p.d] 23)).alloc (.cells #[.int .i64 v.a, .int .i64 v.b, .int .i64 v.c] 24)).alloc (.cells #[.int .i64 0, .int .i64 0, .int .i64 0] 24)) = w1 := ⟨_, rfl⟩
  have hb1 : Below w.heap.size w w1 := by rw [← hw1]; exact bw3 w _ _ _
  have k0 : Blk w1 (w.heap.size) #[.int .i64 p.a, .int .i64 p.b, .int .i64 p.c, .int .i64 p.d] 23 := by rw [← hw1]; exact (((Blk.new w _ _).alloc _).alloc _)
  have k1 : Blk w1 (w.heap.size + 1) #[.int .i64 v.a, .int .i64 v.b, .int .i64 v.c] 24 := by rw [← hw1]; exact ((Blk.new' _ _ _ (by simp)).alloc _)
  have kR : Blk w1 (w.heap.size + 1 + 1) #[.int .i64 0, .int .i64 0, .int .i64 0] 24 := by rw [← hw1]; exact (Blk.new' _ _ _ (by simp))
  have hn := fun W => normalR_any p W
  have hx := fun W => crsR_any (nrm p) (wayA v) 1000 4 W hpn (wayA_far v) (by decide)
  have hc1 := fun W => crsR_any (nrm p) ⟨1, 0, 0⟩ 1000 4 W hpn (by unfold Far; decide) (by decide)
  have hc2 := fun W => crsR_any (nrm p) ⟨0, 1, 0⟩ 1000 4 W hpn (by unfold Far; decide) (by decide)
  unfold wayV
  obtain ⟨n, hne⟩ : ∃ y, nrm p = y := ⟨_, rfl⟩
  rw [hne] at hn ⊢
  simp only [hne] at hx hc1 hc2
  obtain ⟨x, hxe⟩ : ∃ y, crsV n (wayA v) = y := ⟨_, rfl⟩
  rw [hxe]
  simp only [hxe] at hx
  obtain ⟨y1, hy1⟩ : ∃ y, crsV n ⟨1, 0, 0⟩ = y := ⟨_, rfl⟩
  rw [hy1]
  simp only [hy1] at hc1
  obtain ⟨y2, hy2⟩ : ∃ y, crsV n ⟨0, 1, 0⟩ = y := ⟨_, rfl⟩
  rw [hy2]
  simp only [hy2] at hc2
  obtain ⟨V, hV⟩ : ∃ y, (if x ≠ ⟨0, 0, 0⟩ then x else if y1 ≠ ⟨0, 0, 0⟩ then y1 else y2) = y := ⟨_, rfl⟩
  rw [hV]
  have hya : ∀ j : Nat, j < 3 → v3g (wayA v) j = wayC (v3g v j) := fun j hj => by
    match j, hj with
    | 0, _ => rfl
    | 1, _ => rfl
    | 2, _ => rfl
  have HN := Lib.hid hn
  have HX := Lib.hid hx
  have HC1 := Lib.hid hc1
  have HC2 := Lib.hid hc2
  have HV := Lib.hid hV
  have HI := Lib.hid hv
  have HY := Lib.hid hya
  have heqx := fun w => eqVec x ⟨0, 0, 0⟩ w
  have heqy := fun w => eqVec y1 ⟨0, 0, 0⟩ w
  generalize wayA v = y at *
  clear hn hx hc1 hc2 hV hv hya hne hxe hy1 hy2 hpn
  go_enter Tryz.func39, Tryz.ntmps39
  go_wp2_with fail
  go_loopg [5] 3 (fun gk v5 wr => ∃ i : Nat, i ≤ 3 ∧ gk = 3 - i ∧ v5 = .int .i64 (i : Int) ∧ Blk wr (w.heap.size) #[.int .i64 p.a, .int .i64 p.b, .int .i64 p.c, .int .i64 p.d] 23 ∧ (∃ r : Nat → Int, Hid (∀ j, r j = if j < i then wayC (v3g v j) else v3g v j) ∧ Blk wr (w.heap.size + 1) #[.int .i64 (r 0), .int .i64 (r 1), .int .i64 (r 2)] 24) ∧ Blk wr (w.heap.size + 1 + 1) #[.int .i64 0, .int .i64 0, .int .i64 0] 24 ∧ Below w.heap.size w wr)
  case atStart => exact ⟨0, by decide, rfl, rfl, k0, ⟨v3g v, fun j => rfl, k1⟩, kR, hb1⟩
  case round =>
    clear k0 k1 kR hb1 hw1
    obtain ⟨i, hi, hgk, rfl, k0, ⟨r, HR, k1⟩, kR, hb⟩ := hrel
    have HGK := Lib.hid hgk
    clear hgk
    by_cases hlt : i < 3
    · have hlti : (i : Int) < 3 := by omega
      have c0 := ivec_at k1 hlt
      have f0 := k1.frozen i
      obtain ⟨z, hz⟩ : ∃ z, v3g v i = z := ⟨_, rfl⟩
      have hri : r i = z := by rw [HR.out i, if_neg (by omega), hz]
      rw [hri] at c0
      have hzi := v3g_in HI.out i
      rw [hz] at hzi
      obtain ⟨u, hu⟩ : ∃ u, z % 18446744073709551616 = u := ⟨_, rfl⟩
      have u0 : 0 ≤ u := by omega
      have u1 : u < 18446744073709551616 := by omega
      obtain ⟨s, hs⟩ : ∃ s, u % 9 = s := ⟨_, rfl⟩
      have s0 : 0 ≤ s := by omega
      have s1 : s < 9 := by omega
      have e1 : IntKind.u64.wrap z = u := by rw [IntKind.wrap_u64, hu]
      have e5 : u.tmod 9 = s := by rw [Int.tmod_eq_emod_of_nonneg u0]; exact hs
      have e6 : IntKind.u64.wrap s = s := by rw [IntKind.wrap_u64]; omega
      have e7 : wrap64 s = s := by unfold wrap64; omega
      have e8 : wrap64 (s - 4) = s - 4 := by unfold wrap64; omega
      have ht : wayC (v3g v i) = s - 4 := by unfold wayC; rw [hz, hu, hs]
      have HT := Lib.hid ht
      clear ht hs hu hz hzi hri
      go_wp2_with fail
      go_roundg (3 - (i + 1))
      case measure => rw [HGK.out]; omega
      case rel =>
        refine ⟨i + 1, by omega, rfl, by go_num, k0.other (C := w.heap.size + 1) i _ (by omega), ⟨fun j => if j = i then s - 4 else r j, ?_, k1.set_eq i _ (ivec_set hlt _)⟩, kR.other (C := w.heap.size + 1) i _ (by omega), hb.setCell (p := ⟨w.heap.size + 1, i, none⟩) (by simp only; omega) _⟩
        intro j
        show (if j = i then s - 4 else r j) = if j < i + 1 then wayC (v3g v j) else v3g v j
        by_cases hj : j = i
        · rw [if_pos hj, if_pos (by omega), hj]; exact HT.out.symm
        · rw [if_neg hj, HR.out j]
          by_cases hj2 : j < i
          · rw [if_pos hj2, if_pos (by omega)]
          · rw [if_neg hj2, if_neg (by omega)]
    · obtain rfl : i = 3 := by omega
      have r0 : r 0 = y.a := by rw [HR.out 0, if_pos (by omega)]; exact (HY.out 0 (by omega)).symm
      have r1 : r 1 = y.b := by rw [HR.out 1, if_pos (by omega)]; exact (HY.out 1 (by omega)).symm
      have r2 : r 2 = y.c := by rw [HR.out 2, if_pos (by omega)]; exact (HY.out 2 (by omega)).symm
      rw [r0, r1, r2] at k1
      clear r0 r1 r2 HR HY
      have hkl : w.heap.size + 1 + 1 < wr.heap.size := kR.lt
      generalize wr = wo at *
      go_upto_region 5 with fail
      go_cut [6] from 20 to 23 (fun v6 wx => ∃ B, v6 = .pointer (some ⟨B, 0, none⟩) ∧ wo.heap.size ≤ B ∧ Blk wx B #[.int .i64 x.a, .int .i64 x.b, .int .i64 x.c] 24 ∧ Below wo.heap.size wo wx)
      case first =>
        refine wp_region_defs 4 1 (fun ix => match ix with | 0 => .agg #[.int .i64 p.a, .int .i64 p.b, .int .i64 p.c, .int .i64 p.d] | 1 => .agg #[.int .i64 n.a, .int .i64 n.b, .int .i64 n.c] | 2 => .agg #[.int .i64 y.a, .int .i64 y.b, .int .i64 y.c] | _ => .agg #[.int .i64 x.a, .int .i64 x.b, .int .i64 x.c]) #[.int .i64 0, .int .i64 0, .int .i64 0] (fun _ => #[.int .i64 x.a, .int .i64 x.b, .int .i64 x.c]) 24 (by kernel_rfl) (by kernel_rfl) rfl ?_ ?_ ?_ ?_ ?_
        · intro j hj
          obtain rfl : j = 0 := by omega
          first | kernel_rfl | decide +kernel
        · rintro ix hx f ww hS hd
          have ka := k0.kept hS
          have kb := k1.kept hS
          have a0_ := ka.cell (i := 0) rfl
          have a1_ := ka.cell (i := 1) rfl
          have a2_ := ka.cell (i := 2) rfl
          have a3_ := ka.cell (i := 3) rfl
          have b0_ := kb.cell (i := 0) rfl
          have b1_ := kb.cell (i := 1) rfl
          have b2_ := kb.cell (i := 2) rfl
          rcases ix with _ | _ | _ | _ | ix
          · refine wpOp_list rfl ?_
            simp only [tmOf, putAll, List.map_cons, List.map_nil, List.setIfInBounds_toArray, List.set_cons_zero, List.set_cons_succ]
            go_wp2
            simp [upd, Below.refl]
          · have g0 : f 0 = .agg #[.int .i64 p.a, .int .i64 p.b, .int .i64 p.c, .int .i64 p.d] := hd 0 (by decide) (by kernel_rfl)
            refine wpOp_list rfl ?_
            simp only [tmOf, putAll, List.map_cons, List.map_nil, List.setIfInBounds_toArray, List.set_cons_zero, List.set_cons_succ]
            go_wp2_with fail
            refine (HN.out _).mono ?_
            rintro e' wf ⟨rfl, hbf⟩
            go_wp2_with fail
            simp [upd, g0, hbf]
          · refine wpOp_list rfl ?_
            simp only [tmOf, putAll, List.map_cons, List.map_nil, List.setIfInBounds_toArray, List.set_cons_zero, List.set_cons_succ]
            go_wp2
            simp [upd, Below.refl]
          · have g1 : f 1 = .agg #[.int .i64 n.a, .int .i64 n.b, .int .i64 n.c] := hd 1 (by decide) (by kernel_rfl)
            have g2 : f 2 = .agg #[.int .i64 y.a, .int .i64 y.b, .int .i64 y.c] := hd 2 (by decide) (by kernel_rfl)
            refine wpOp_list rfl ?_
            simp only [tmOf, putAll, List.map_cons, List.map_nil, List.setIfInBounds_toArray, List.set_cons_zero, List.set_cons_succ]
            go_wp2_with fail
            refine (HX.out _).mono ?_
            rintro e' wf ⟨rfl, hbf⟩
            go_wp2_with fail
            simp [upd, g1, g2, hbf]
          · omega
        · intro j hj f ww
          obtain rfl : j = 0 := by omega
          refine wpOp_list rfl ?_
          simp only [tmOf, putAll, List.map_cons, List.map_nil, List.setIfInBounds_toArray, List.set_cons_zero, List.set_cons_succ]
          go_wp2
          simp [upd, ptrV]
        · intro j hj f ww b hd hf hB
          obtain rfl : j = 0 := by omega
          unfold ptrV at hf
          have e0 := hB.cell (i := 0) rfl
          have e1 := hB.cell (i := 1) rfl
          have e2 := hB.cell (i := 2) rfl
          have y0 := hB.frozen 0
          have y1 := hB.frozen 1
          have y2 := hB.frozen 2
          have g4 : f 3 = .agg #[.int .i64 x.a, .int .i64 x.b, .int .i64 x.c] := hd 3 (by decide) (by kernel_rfl)
          refine wpOp_list rfl ?_
          simp only [tmOf, putAll, List.map_cons, List.map_nil, List.setIfInBounds_toArray, List.set_cons_zero, List.set_cons_succ]
          go_wp2
          exact ⟨Blk.put3 hB _ _ _, fun D cs hne h => ((h.other 0 _ (Ne.symm hne)).other 1 _ (Ne.symm hne)).other 2 _ (Ne.symm hne), fun D h1 h2 => ((((Below.refl _ ww).mono h2).setCell (p := ⟨b, 0, none⟩) h1 _).setCell (p := ⟨b, 1, none⟩) h1 _).setCell (p := ⟨b, 2, none⟩) h1 _⟩
        · intro f ww bs hS hbs hne hall
          have h0 := hbs 0 (by decide)
          simp only [tmOf, putAll, List.map_cons, List.map_nil, List.setIfInBounds_toArray, List.set_cons_zero, List.set_cons_succ]
          refine ‹∀ (a' : Act) (w' : World), Met _ a' w' → _› _ _ ?_
          go_meet
          case rel => exact ⟨bs 0, h0.1, h0.2.1, h0.2.2, hS⟩
      case rest =>
      obtain ⟨B, rfl, hBl, kX, hbx⟩ := hcut
      have kR := kR.kept hbx
      have k0 := k0.kept hbx
      have hb := hb.trans (hbx.mono hb.size)
      have hB0 : w.heap.size + 1 + 1 < B := by omega
      clear hbx HX k1 hkl hBl
      generalize wc = wy at *
      by_cases h1 : x = ⟨0, 0, 0⟩
      · rw [decide_eq_true h1] at heqx
        have hVy : V = if y1 ≠ ⟨0, 0, 0⟩ then y1 else y2 := by rw [← HV.out, if_neg (fun h => h h1)]
        have HVY := Lib.hid hVy
        clear hVy HV h1
        have x_0 := kX.cell (i := 0) rfl
        have x_1 := kX.cell (i := 1) rfl
        have x_2 := kX.cell (i := 2) rfl
        have a_0 := k0.cell (i := 0) rfl
        have a_1 := k0.cell (i := 1) rfl
        have a_2 := k0.cell (i := 2) rfl
        have a_3 := k0.cell (i := 3) rfl
        go_wp2_with fail
        refine (HN.out _).mono ?_
        rintro e' wp ⟨rfl, hp⟩
        clear x_0 x_1 x_2 a_0 a_1 a_2 a_3
        go_wp2_with fail
        refine (HC1.out _).mono ?_
        rintro e' wq ⟨rfl, hq⟩
        have hpq := hp.trans (hq.mono hp.size)
        have kX := kX.kept hpq
        have k0 := k0.kept hpq
        have kR := kR.kept hpq
        have hb := hb.trans (hpq.mono hb.size)
        clear hp hq hpq
        have xq0 := kX.cell (i := 0) rfl
        have xq1 := kX.cell (i := 1) rfl
        have xq2 := kX.cell (i := 2) rfl
        have f_0 := kX.frozen 0
        have f_1 := kX.frozen 1
        have f_2 := kX.frozen 2
        obtain ⟨wm, hwm⟩ : ∃ w', (((wq.setCell ⟨B, 0, none⟩ (.int .i64 y1.a)).setCell ⟨B, 1, none⟩ (.int .i64 y1.b)).setCell ⟨B, 2, none⟩ (.int .i64 y1.c)) = w' := ⟨_, rfl⟩
        have hb : Below w.heap.size w wm := by rw [← hwm]; exact ((hb.setCell (p := ⟨B, 0, none⟩) (by simp only; omega) _).setCell (p := ⟨B, 1, none⟩) (by simp only; omega) _).setCell (p := ⟨B, 2, none⟩) (by simp only; omega) _
        have k0 : Blk wm (w.heap.size) #[.int .i64 p.a, .int .i64 p.b, .int .i64 p.c, .int .i64 p.d] 23 := by rw [← hwm]; exact ((k0.other (C := B) 0 _ (by omega)).other (C := B) 1 _ (by omega)).other (C := B) 2 _ (by omega)
        have kR : Blk wm (w.heap.size + 1 + 1) #[.int .i64 0, .int .i64 0, .int .i64 0] 24 := by rw [← hwm]; exact ((kR.other (C := B) 0 _ (by omega)).other (C := B) 1 _ (by omega)).other (C := B) 2 _ (by omega)
        have kX : Blk wm B #[.int .i64 y1.a, .int .i64 y1.b, .int .i64 y1.c] 24 := by rw [← hwm]; exact Blk.put3 kX _ _ _
        by_cases h2 : y1 = ⟨0, 0, 0⟩
        · have hVz : V = y2 := by rw [HVY.out, if_neg (fun h => h h2)]
          rw [decide_eq_true h2] at heqy
          subst hVz
          clear HVY h2
          have x_0 := kX.cell (i := 0) rfl
          have x_1 := kX.cell (i := 1) rfl
          have x_2 := kX.cell (i := 2) rfl
          have a_0 := k0.cell (i := 0) rfl
          have a_1 := k0.cell (i := 1) rfl
          have a_2 := k0.cell (i := 2) rfl
          have a_3 := k0.cell (i := 3) rfl
          go_wp2_with fail
          refine (HN.out _).mono ?_
          rintro e' wp ⟨rfl, hp⟩
          clear x_0 x_1 x_2 a_0 a_1 a_2 a_3
          go_wp2_with fail
          refine (HC2.out _).mono ?_
          rintro e' wq ⟨rfl, hq⟩
          have hpq := hp.trans (hq.mono hp.size)
          have kX := kX.kept hpq
          have k0 := k0.kept hpq
          have kR := kR.kept hpq
          have hb := hb.trans (hpq.mono hb.size)
          clear hp hq hpq
          have xq0 := kX.cell (i := 0) rfl
          have xq1 := kX.cell (i := 1) rfl
          have xq2 := kX.cell (i := 2) rfl
          have f_0 := kX.frozen 0
          have f_1 := kX.frozen 1
          have f_2 := kX.frozen 2
          obtain ⟨wn, hwn⟩ : ∃ w', (((wq.setCell ⟨B, 0, none⟩ (.int .i64 V.a)).setCell ⟨B, 1, none⟩ (.int .i64 V.b)).setCell ⟨B, 2, none⟩ (.int .i64 V.c)) = w' := ⟨_, rfl⟩
          have hb : Below w.heap.size w wn := by rw [← hwn]; exact ((hb.setCell (p := ⟨B, 0, none⟩) (by simp only; omega) _).setCell (p := ⟨B, 1, none⟩) (by simp only; omega) _).setCell (p := ⟨B, 2, none⟩) (by simp only; omega) _
          have k0 : Blk wn (w.heap.size) #[.int .i64 p.a, .int .i64 p.b, .int .i64 p.c, .int .i64 p.d] 23 := by rw [← hwn]; exact ((k0.other (C := B) 0 _ (by omega)).other (C := B) 1 _ (by omega)).other (C := B) 2 _ (by omega)
          have kR : Blk wn (w.heap.size + 1 + 1) #[.int .i64 0, .int .i64 0, .int .i64 0] 24 := by rw [← hwn]; exact ((kR.other (C := B) 0 _ (by omega)).other (C := B) 1 _ (by omega)).other (C := B) 2 _ (by omega)
          have kX : Blk wn B #[.int .i64 V.a, .int .i64 V.b, .int .i64 V.c] 24 := by rw [← hwn]; exact Blk.put3 kX _ _ _
          have x_0 := kX.cell (i := 0) rfl
          have x_1 := kX.cell (i := 1) rfl
          have x_2 := kX.cell (i := 2) rfl
          have z_0 := kR.cell (i := 0) rfl
          have z_1 := kR.cell (i := 1) rfl
          have z_2 := kR.cell (i := 2) rfl
          have y_0 := kR.frozen 0
          have y_1 := kR.frozen 1
          have y_2 := kR.frozen 2
          go_wp2_with fail
          have L := Blk.put3 kR (.int .i64 V.a) (.int .i64 V.b) (.int .i64 V.c)
          have z0 := L.cell (i := 0) rfl
          have z1 := L.cell (i := 1) rfl
          have z2 := L.cell (i := 2) rfl
          exact bodyPost_ret (v := .agg #[.int .i64 V.a, .int .i64 V.b, .int .i64 V.c]) (by simp [results, Tryz.results39, go_sem, z0, z1, z2]) rfl ⟨rfl, ((hb.setCell (by simp only; omega) _).setCell (by simp only; omega) _).setCell (by simp only; omega) _⟩
        · have hVz : V = y1 := by rw [HVY.out, if_pos h2]
          rw [decide_eq_false h2] at heqy
          subst hVz
          clear HVY h2
          have x_0 := kX.cell (i := 0) rfl
          have x_1 := kX.cell (i := 1) rfl
          have x_2 := kX.cell (i := 2) rfl
          have z_0 := kR.cell (i := 0) rfl
          have z_1 := kR.cell (i := 1) rfl
          have z_2 := kR.cell (i := 2) rfl
          have y_0 := kR.frozen 0
          have y_1 := kR.frozen 1
          have y_2 := kR.frozen 2
          go_wp2_with fail
          have L := Blk.put3 kR (.int .i64 V.a) (.int .i64 V.b) (.int .i64 V.c)
          have z0 := L.cell (i := 0) rfl
          have z1 := L.cell (i := 1) rfl
          have z2 := L.cell (i := 2) rfl
          exact bodyPost_ret (v := .agg #[.int .i64 V.a, .int .i64 V.b, .int .i64 V.c]) (by simp [results, Tryz.results39, go_sem, z0, z1, z2]) rfl ⟨rfl, ((hb.setCell (by simp only; omega) _).setCell (by simp only; omega) _).setCell (by simp only; omega) _⟩
      · rw [decide_eq_false h1] at heqx
        have hVx : V = x := by rw [← HV.out, if_pos h1]
        subst hVx
        clear HV h1
        have x_0 := kX.cell (i := 0) rfl
        have x_1 := kX.cell (i := 1) rfl
        have x_2 := kX.cell (i := 2) rfl
        have z_0 := kR.cell (i := 0) rfl
        have z_1 := kR.cell (i := 1) rfl
        have z_2 := kR.cell (i := 2) rfl
        have y_0 := kR.frozen 0
        have y_1 := kR.frozen 1
        have y_2 := kR.frozen 2
        go_wp2_with fail
        have L := Blk.put3 kR (.int .i64 V.a) (.int .i64 V.b) (.int .i64 V.c)
        have z0 := L.cell (i := 0) rfl
        have z1 := L.cell (i := 1) rfl
        have z2 := L.cell (i := 2) rfl
        exact bodyPost_ret (v := .agg #[.int .i64 V.a, .int .i64 V.b, .int .i64 V.c]) (by simp [results, Tryz.results39, go_sem, z0, z1, z2]) rfl ⟨rfl, ((hb.setCell (by simp only; omega) _).setCell (by simp only; omega) _).setCell (by simp only; omega) _⟩

end Go.Proofs.YtimkeblcdodfmaaGreat
