/-
  Package line: whether a vector is a direction in a plane; Package line: whether vectors are directions in a plane, as a check; Package line: how a vector lies to another one, with its checks.
-/
import Derived.Test.YtimkeblcdodfmaaGreatK1
import Derived.Test.YtimkeblcdodfmaaGreatK2
import Derived.Test.YtimkeblcdodfmaaGreatK3
import Derived.Test.YtimkeblcdodfmaaGreatK4
import Derived.Test.YtimkeblcdodfmaaGreatK5
import Derived.Test.YtimkeblcdodfmaaGreatK6
import Derived.Test.YtimkeblcdodfmaaGreatK7
import Derived.Test.YtimkeblcdodfmaaGreatK8
import Derived.Test.YtimkeblcdodfmaaGreatK9
import Derived.Test.YtimkeblcdodfmaaGreatK16
import Derived.Test.YtimkeblcdodfmaaGreatK17
namespace Go.Proofs.YtimkeblcdodfmaaGreat
open Go.RowKit Go.Shelf
attribute [local go_sem] Oper.semAt_some

/-- As the machine reckons. -/
def isInB (p : V4) (v : V3) : Bool := within 2000000 [v.a, v.b, v.c] && (!decide (v = ⟨0, 0, 0⟩) && decide (dotW v (nrm p) = 0))

set_option maxRecDepth 100000 in
set_option maxHeartbeats 4000000 in
theorem isIn_any (p : V4) (v : V3) (w : World) : Calls Tryz.prog 103 #[.agg #[.int .i64 p.a, .int .i64 p.b, .int .i64 p.c, .int .i64 p.d], .agg #[.int .i64 v.a, .int .i64 v.b, .int .i64 v.c]] w fun e w' => e = .returned (.bool (isInB p v)) ∧ Below w.heap.size w w' := by
  obtain ⟨w1, hw1⟩ : ∃ w1, ((w.alloc (.cells #[.int .i64 p.a, .int .i64 p.b, .int .i64 p.c, .int .i64 p.d] 23)).alloc (.cells #[.int .i64 v.a, .int .i64 v.b, .int .i64 v.c] 24)) = w1 := ⟨_, rfl⟩
  have hb1 : Below w.heap.size w w1 := by rw [← hw1]; exact bw2 w _ _
  have k0 : Blk w1 (w.heap.size) #[.int .i64 p.a, .int .i64 p.b, .int .i64 p.c, .int .i64 p.d] 23 := by rw [← hw1]; exact ((Blk.new w _ _).alloc _)
  have k1 : Blk w1 (w.heap.size + 1) #[.int .i64 v.a, .int .i64 v.b, .int .i64 v.c] 24 := by rw [← hw1]; exact (Blk.new' _ _ _ (by simp))
  have hwi : ∀ W, RdI W (some ⟨w.heap.size + 1, 0, none⟩) [v.a, v.b, v.c] → Calls Tryz.prog 126 #[.int .i64 2000000, .slice (some ⟨w.heap.size + 1, 0, none⟩) 3 3] W fun e w' => ∃ x, e = .returned x ∧ ChkIs w' x (errE (within 2000000 [v.a, v.b, v.c]) 1) ∧ Below W.heap.size W w' := fun W hR =>
    withins_any 2000000 (some ⟨w.heap.size + 1, 0, none⟩) 3 3 [v.a, v.b, v.c] W rfl (by decide) hR (by decide) (by decide)
  have hn := fun W => normal_any p W
  have hd := fun W => dotW_any v (nrm p) W
  have heq := fun w => eqVec v ⟨0, 0, 0⟩ w
  unfold isInB
  obtain ⟨d, hde⟩ : ∃ y, dotW v (nrm p) = y := ⟨_, rfl⟩
  rw [hde] at hd ⊢
  obtain ⟨n, hne⟩ : ∃ y, nrm p = y := ⟨_, rfl⟩
  rw [hne] at hn hd
  obtain ⟨t, hte⟩ : ∃ y, decide (v = ⟨0, 0, 0⟩) = y := ⟨_, rfl⟩
  rw [hte] at heq ⊢
  obtain ⟨i, hie⟩ : ∃ y, within 2000000 [v.a, v.b, v.c] = y := ⟨_, rfl⟩
  rw [hie] at hwi ⊢
  have HWI := Lib.hid hwi
  have HN := Lib.hid hn
  have HD := Lib.hid hd
  obtain ⟨R, hR⟩ : ∃ y, (i && (!t && decide (d = 0))) = y := ⟨_, rfl⟩
  rw [hR]
  have HR := Lib.hid hR
  clear hwi hn hd hde hne hte hie hR
  obtain ⟨r, hr⟩ : ∃ y, errE i 1 = y := ⟨_, rfl⟩
  have hri : (i = true ∧ r = 0) ∨ (i = false ∧ r = 1) := by cases i <;> simp [← hr, errE]
  have HRI := Lib.hid hri
  rw [hr] at HWI
  clear hr hri
  go_enter Tryz.func103, Tryz.ntmps103
  go_wp2_with fail
  refine (HWI.out _ (rdI3 k1)).mono ?_
  rintro e wa ⟨cv, rfl, hcv, hba⟩
  have hb3' := hb1.trans (hba.mono hb1.size)
  have k0 := k0.kept hba
  have k1 := k1.kept hba
  obtain ⟨g, caps, rfl, _⟩ := id hcv
  obtain ⟨w4, hw4⟩ : ∃ w4, wa.alloc (.cells #[.func (.func g) #[] caps] 82) = w4 := ⟨_, rfl⟩
  have hr4 : RdC w4 (some ⟨wa.heap.size, 0, none⟩) [r] := by rw [← hw4]; exact checks1 wa _ r _ hcv
  have hb4 : Below w.heap.size w w4 := by rw [← hw4]; exact hb3'.alloc hb3'.size _
  have hb5 : Below wa.heap.size wa w4 := by rw [← hw4]; exact (Below.refl _ wa).alloc (Nat.le_refl _) _
  have k0 := k0.kept hb5
  have k1 := k1.kept hb5
  have hf := first_any (some ⟨wa.heap.size, 0, none⟩) 1 1 [r] w4 rfl (by decide) hr4
  rw [firstE_one] at hf
  have HF := Lib.hid hf
  clear hf hr4 hcv HWI hw1 hb5
  go_wp2_with fail
  refine HF.out.mono ?_
  rintro e wy ⟨rfl, hb5⟩
  have hb := hb4.trans (hb5.mono hb4.size)
  have k0 := k0.kept hb5
  have k1 := k1.kept hb5
  clear hb5 hb4 hb3' hba HF hw4 hb1
  rcases HRI.out with ⟨rfl, rfl⟩ | ⟨rfl, rfl⟩
  · clear HRI
    cases t with
    | true =>
      have HR1 : Hid (R = false) := Lib.hid (by rw [← HR.out]; simp)
      clear HR
      go_upto_region 3 with fail
      go_cut [4] from 10 to 19 (fun v4 wx => v4 = .bool false ∧ Below wy.heap.size wy wx)
      case first =>
        refine wp_region_pure' (fun ix => match ix with | 0 => .agg #[.int .i64 v.a, .int .i64 v.b, .int .i64 v.c] | 1 => .agg #[.int .i64 0, .int .i64 0, .int .i64 0] | 2 => .bool false | 3 => .bool false | 4 => undef | 5 => undef | 6 => undef | 7 => undef | 8 => undef | 9 => .bool false | _ => .bool false) (by kernel_rfl) (by kernel_rfl) ?_ ?_
        · rintro ix hx f ww hS hd
          have ka := k0.kept hS
          have kb := k1.kept hS
          have a0_ := ka.cell (i := 0) rfl
          have a1_ := ka.cell (i := 1) rfl
          have a2_ := ka.cell (i := 2) rfl
          have a3_ := ka.cell (i := 3) rfl
          have b0_ := kb.cell (i := 0) rfl
          have b1_ := kb.cell (i := 1) rfl
          have b2_ := kb.cell (i := 2) rfl
          rcases ix with _ | _ | _ | _ | _ | _ | _ | _ | _ | _ | _ | ix
          · refine wpOp_list rfl ?_
            simp only [tmOf, putAll, List.map_cons, List.map_nil, List.setIfInBounds_toArray, List.set_cons_zero, List.set_cons_succ]
            go_wp2
            simp [upd, Below.refl]
          · refine wpOp_list rfl ?_
            simp only [tmOf, putAll, List.map_cons, List.map_nil, List.setIfInBounds_toArray, List.set_cons_zero, List.set_cons_succ]
            go_wp2
            simp [upd, Below.refl]
          · have g0 : f 0 = .agg #[.int .i64 v.a, .int .i64 v.b, .int .i64 v.c] := hd 0 (by kernel_rfl)
            have g1 : f 1 = .agg #[.int .i64 0, .int .i64 0, .int .i64 0] := hd 1 (by kernel_rfl)
            refine wpOp_list rfl ?_
            simp only [tmOf, putAll, List.map_cons, List.map_nil, List.setIfInBounds_toArray, List.set_cons_zero, List.set_cons_succ]
            go_wp2
            simp [upd, g0, g1, Below.refl]
          · have g2 : f 2 = .bool false := hd 2 (by kernel_rfl)
            refine wpOp_list rfl ?_
            simp only [tmOf, putAll, List.map_cons, List.map_nil, List.setIfInBounds_toArray, List.set_cons_zero, List.set_cons_succ]
            go_wp2
            simp [upd, g2, Below.refl]
          · have g3 : f 3 = .bool false := hd 3 (by kernel_rfl)
            simp only [tmOf, putAll, List.map_cons, List.map_nil, List.setIfInBounds_toArray, List.set_cons_zero, List.set_cons_succ]
            refine wpOp_off rfl (unwanted_of (b := false) rfl rfl rfl (congrArg some g3)) ?_
            simp [tmOf, Act.put, putAll, upd, Below.refl]
          · have g3 : f 3 = .bool false := hd 3 (by kernel_rfl)
            simp only [tmOf, putAll, List.map_cons, List.map_nil, List.setIfInBounds_toArray, List.set_cons_zero, List.set_cons_succ]
            refine wpOp_off rfl (unwanted_of (b := false) rfl rfl rfl (congrArg some g3)) ?_
            simp [tmOf, Act.put, putAll, upd, Below.refl]
          · have g3 : f 3 = .bool false := hd 3 (by kernel_rfl)
            simp only [tmOf, putAll, List.map_cons, List.map_nil, List.setIfInBounds_toArray, List.set_cons_zero, List.set_cons_succ]
            refine wpOp_off rfl (unwanted_of (b := false) rfl rfl rfl (congrArg some g3)) ?_
            simp [tmOf, Act.put, putAll, upd, Below.refl]
          · have g3 : f 3 = .bool false := hd 3 (by kernel_rfl)
            simp only [tmOf, putAll, List.map_cons, List.map_nil, List.setIfInBounds_toArray, List.set_cons_zero, List.set_cons_succ]
            refine wpOp_off rfl (unwanted_of (b := false) rfl rfl rfl (congrArg some g3)) ?_
            simp [tmOf, Act.put, putAll, upd, Below.refl]
          · have g3 : f 3 = .bool false := hd 3 (by kernel_rfl)
            simp only [tmOf, putAll, List.map_cons, List.map_nil, List.setIfInBounds_toArray, List.set_cons_zero, List.set_cons_succ]
            refine wpOp_off rfl (unwanted_of (b := false) rfl rfl rfl (congrArg some g3)) ?_
            simp [tmOf, Act.put, putAll, upd, Below.refl]
          · have g3 : f 3 = .bool false := hd 3 (by kernel_rfl)
            have g8 : f 8 = undef := hd 8 (by kernel_rfl)
            refine wpOp_list rfl ?_
            simp only [tmOf, putAll, List.map_cons, List.map_nil, List.setIfInBounds_toArray, List.set_cons_zero, List.set_cons_succ]
            go_wp2
            simp [upd, g3, g8, Below.refl]
          · have g9 : f 9 = .bool false := hd 9 (by kernel_rfl)
            refine wpOp_list rfl ?_
            simp only [tmOf, putAll, List.map_cons, List.map_nil, List.setIfInBounds_toArray, List.set_cons_zero, List.set_cons_succ]
            go_wp2
            simp [upd, g9, Below.refl]
          · simp only [List.length_cons, List.length_nil] at hx; omega
        · rintro f ww hS hd
          have gl : f 10 = .bool false := hd 10 (by decide)
          simp only [tmOf, putAll, List.map_cons, List.map_nil, List.setIfInBounds_toArray, List.set_cons_zero, List.set_cons_succ]
          refine ‹∀ (a' : Act) (w' : World), Met _ a' w' → _› _ _ ?_
          go_meet
          case rel => exact ⟨gl, hS⟩
      case rest =>
      obtain ⟨rfl, hbx⟩ := hcut
      have hb := hb.trans (hbx.mono hb.size)
      clear hbx
      go_wp2_with fail
      go_ret
      exact ⟨by rw [HR1.out]; rfl, hb⟩
    | false =>
      by_cases h0 : d = 0
      · have HR1 : Hid (R = true) := Lib.hid (by rw [← HR.out]; simp [h0])
        subst h0
        clear HR
        go_upto_region 3 with fail
        go_cut [4] from 10 to 19 (fun v4 wx => v4 = .bool true ∧ Below wy.heap.size wy wx)
        case first =>
          refine wp_region_pure' (fun ix => match ix with | 0 => .agg #[.int .i64 v.a, .int .i64 v.b, .int .i64 v.c] | 1 => .agg #[.int .i64 0, .int .i64 0, .int .i64 0] | 2 => .bool true | 3 => .bool true | 4 => .agg #[.int .i64 v.a, .int .i64 v.b, .int .i64 v.c] | 5 => .agg #[.int .i64 p.a, .int .i64 p.b, .int .i64 p.c, .int .i64 p.d] | 6 => .agg #[.int .i64 n.a, .int .i64 n.b, .int .i64 n.c] | 7 => .int .i64 0 | 8 => .bool true | 9 => .bool true | _ => .bool true) (by kernel_rfl) (by kernel_rfl) ?_ ?_
          · rintro ix hx f ww hS hd
            have ka := k0.kept hS
            have kb := k1.kept hS
            have a0_ := ka.cell (i := 0) rfl
            have a1_ := ka.cell (i := 1) rfl
            have a2_ := ka.cell (i := 2) rfl
            have a3_ := ka.cell (i := 3) rfl
            have b0_ := kb.cell (i := 0) rfl
            have b1_ := kb.cell (i := 1) rfl
            have b2_ := kb.cell (i := 2) rfl
            rcases ix with _ | _ | _ | _ | _ | _ | _ | _ | _ | _ | _ | ix
            · refine wpOp_list rfl ?_
              simp only [tmOf, putAll, List.map_cons, List.map_nil, List.setIfInBounds_toArray, List.set_cons_zero, List.set_cons_succ]
              go_wp2
              simp [upd, Below.refl]
            · refine wpOp_list rfl ?_
              simp only [tmOf, putAll, List.map_cons, List.map_nil, List.setIfInBounds_toArray, List.set_cons_zero, List.set_cons_succ]
              go_wp2
              simp [upd, Below.refl]
            · have g0 : f 0 = .agg #[.int .i64 v.a, .int .i64 v.b, .int .i64 v.c] := hd 0 (by kernel_rfl)
              have g1 : f 1 = .agg #[.int .i64 0, .int .i64 0, .int .i64 0] := hd 1 (by kernel_rfl)
              refine wpOp_list rfl ?_
              simp only [tmOf, putAll, List.map_cons, List.map_nil, List.setIfInBounds_toArray, List.set_cons_zero, List.set_cons_succ]
              go_wp2
              simp [upd, g0, g1, Below.refl]
            · have g2 : f 2 = .bool true := hd 2 (by kernel_rfl)
              refine wpOp_list rfl ?_
              simp only [tmOf, putAll, List.map_cons, List.map_nil, List.setIfInBounds_toArray, List.set_cons_zero, List.set_cons_succ]
              go_wp2
              simp [upd, g2, Below.refl]
            · have g3 : f 3 = .bool true := hd 3 (by kernel_rfl)
              simp only [tmOf, putAll, List.map_cons, List.map_nil, List.setIfInBounds_toArray, List.set_cons_zero, List.set_cons_succ]
              refine wpOp_on rfl (wanted_of (b := true) rfl rfl rfl (congrArg some g3)) ?_
              go_wp2
              simp [upd, g3, Below.refl]
            · have g3 : f 3 = .bool true := hd 3 (by kernel_rfl)
              simp only [tmOf, putAll, List.map_cons, List.map_nil, List.setIfInBounds_toArray, List.set_cons_zero, List.set_cons_succ]
              refine wpOp_on rfl (wanted_of (b := true) rfl rfl rfl (congrArg some g3)) ?_
              go_wp2
              simp [upd, g3, Below.refl]
            · have g5 : f 5 = .agg #[.int .i64 p.a, .int .i64 p.b, .int .i64 p.c, .int .i64 p.d] := hd 5 (by kernel_rfl)
              have g3 : f 3 = .bool true := hd 3 (by kernel_rfl)
              simp only [tmOf, putAll, List.map_cons, List.map_nil, List.setIfInBounds_toArray, List.set_cons_zero, List.set_cons_succ]
              refine wpOp_on rfl (wanted_of (b := true) rfl rfl rfl (congrArg some g3)) ?_
              go_wp2_with fail
              refine (HN.out _).mono ?_
              rintro e' wf ⟨rfl, hbf⟩
              go_wp2_with fail
              simp [upd, g5, g3, hbf]
            · have g4 : f 4 = .agg #[.int .i64 v.a, .int .i64 v.b, .int .i64 v.c] := hd 4 (by kernel_rfl)
              have g6 : f 6 = .agg #[.int .i64 n.a, .int .i64 n.b, .int .i64 n.c] := hd 6 (by kernel_rfl)
              have g3 : f 3 = .bool true := hd 3 (by kernel_rfl)
              simp only [tmOf, putAll, List.map_cons, List.map_nil, List.setIfInBounds_toArray, List.set_cons_zero, List.set_cons_succ]
              refine wpOp_on rfl (wanted_of (b := true) rfl rfl rfl (congrArg some g3)) ?_
              go_wp2_with fail
              refine (HD.out _).mono ?_
              rintro e' wf ⟨rfl, hbf⟩
              go_wp2_with fail
              simp [upd, g4, g6, g3, hbf]
            · have g7 : f 7 = .int .i64 0 := hd 7 (by kernel_rfl)
              have g3 : f 3 = .bool true := hd 3 (by kernel_rfl)
              simp only [tmOf, putAll, List.map_cons, List.map_nil, List.setIfInBounds_toArray, List.set_cons_zero, List.set_cons_succ]
              refine wpOp_on rfl (wanted_of (b := true) rfl rfl rfl (congrArg some g3)) ?_
              go_wp2
              simp [upd, g7, g3, Below.refl]
            · have g3 : f 3 = .bool true := hd 3 (by kernel_rfl)
              have g8 : f 8 = .bool true := hd 8 (by kernel_rfl)
              refine wpOp_list rfl ?_
              simp only [tmOf, putAll, List.map_cons, List.map_nil, List.setIfInBounds_toArray, List.set_cons_zero, List.set_cons_succ]
              go_wp2
              simp [upd, g3, g8, Below.refl]
            · have g9 : f 9 = .bool true := hd 9 (by kernel_rfl)
              refine wpOp_list rfl ?_
              simp only [tmOf, putAll, List.map_cons, List.map_nil, List.setIfInBounds_toArray, List.set_cons_zero, List.set_cons_succ]
              go_wp2
              simp [upd, g9, Below.refl]
            · simp only [List.length_cons, List.length_nil] at hx; omega
          · rintro f ww hS hd
            have gl : f 10 = .bool true := hd 10 (by decide)
            simp only [tmOf, putAll, List.map_cons, List.map_nil, List.setIfInBounds_toArray, List.set_cons_zero, List.set_cons_succ]
            refine ‹∀ (a' : Act) (w' : World), Met _ a' w' → _› _ _ ?_
            go_meet
            case rel => exact ⟨gl, hS⟩
        case rest =>
        obtain ⟨rfl, hbx⟩ := hcut
        have hb := hb.trans (hbx.mono hb.size)
        clear hbx
        go_wp2_with fail
        go_ret
        exact ⟨by rw [HR1.out]; rfl, hb⟩
      · have HR1 : Hid (R = false) := Lib.hid (by rw [← HR.out]; simp [h0])
        have e1 : (d == 0) = false := by simp [h0]
        clear HR h0
        go_upto_region 3 with fail
        go_cut [4] from 10 to 19 (fun v4 wx => v4 = .bool false ∧ Below wy.heap.size wy wx)
        case first =>
          refine wp_region_pure' (fun ix => match ix with | 0 => .agg #[.int .i64 v.a, .int .i64 v.b, .int .i64 v.c] | 1 => .agg #[.int .i64 0, .int .i64 0, .int .i64 0] | 2 => .bool true | 3 => .bool true | 4 => .agg #[.int .i64 v.a, .int .i64 v.b, .int .i64 v.c] | 5 => .agg #[.int .i64 p.a, .int .i64 p.b, .int .i64 p.c, .int .i64 p.d] | 6 => .agg #[.int .i64 n.a, .int .i64 n.b, .int .i64 n.c] | 7 => .int .i64 d | 8 => .bool false | 9 => .bool false | _ => .bool false) (by kernel_rfl) (by kernel_rfl) ?_ ?_
          · rintro ix hx f ww hS hd
            have ka := k0.kept hS
            have kb := k1.kept hS
            have a0_ := ka.cell (i := 0) rfl
            have a1_ := ka.cell (i := 1) rfl
            have a2_ := ka.cell (i := 2) rfl
            have a3_ := ka.cell (i := 3) rfl
            have b0_ := kb.cell (i := 0) rfl
            have b1_ := kb.cell (i := 1) rfl
            have b2_ := kb.cell (i := 2) rfl
            rcases ix with _ | _ | _ | _ | _ | _ | _ | _ | _ | _ | _ | ix
            · refine wpOp_list rfl ?_
              simp only [tmOf, putAll, List.map_cons, List.map_nil, List.setIfInBounds_toArray, List.set_cons_zero, List.set_cons_succ]
              go_wp2
              simp [upd, Below.refl]
            · refine wpOp_list rfl ?_
              simp only [tmOf, putAll, List.map_cons, List.map_nil, List.setIfInBounds_toArray, List.set_cons_zero, List.set_cons_succ]
              go_wp2
              simp [upd, Below.refl]
            · have g0 : f 0 = .agg #[.int .i64 v.a, .int .i64 v.b, .int .i64 v.c] := hd 0 (by kernel_rfl)
              have g1 : f 1 = .agg #[.int .i64 0, .int .i64 0, .int .i64 0] := hd 1 (by kernel_rfl)
              refine wpOp_list rfl ?_
              simp only [tmOf, putAll, List.map_cons, List.map_nil, List.setIfInBounds_toArray, List.set_cons_zero, List.set_cons_succ]
              go_wp2
              simp [upd, g0, g1, Below.refl]
            · have g2 : f 2 = .bool true := hd 2 (by kernel_rfl)
              refine wpOp_list rfl ?_
              simp only [tmOf, putAll, List.map_cons, List.map_nil, List.setIfInBounds_toArray, List.set_cons_zero, List.set_cons_succ]
              go_wp2
              simp [upd, g2, Below.refl]
            · have g3 : f 3 = .bool true := hd 3 (by kernel_rfl)
              simp only [tmOf, putAll, List.map_cons, List.map_nil, List.setIfInBounds_toArray, List.set_cons_zero, List.set_cons_succ]
              refine wpOp_on rfl (wanted_of (b := true) rfl rfl rfl (congrArg some g3)) ?_
              go_wp2
              simp [upd, g3, Below.refl]
            · have g3 : f 3 = .bool true := hd 3 (by kernel_rfl)
              simp only [tmOf, putAll, List.map_cons, List.map_nil, List.setIfInBounds_toArray, List.set_cons_zero, List.set_cons_succ]
              refine wpOp_on rfl (wanted_of (b := true) rfl rfl rfl (congrArg some g3)) ?_
              go_wp2
              simp [upd, g3, Below.refl]
            · have g5 : f 5 = .agg #[.int .i64 p.a, .int .i64 p.b, .int .i64 p.c, .int .i64 p.d] := hd 5 (by kernel_rfl)
              have g3 : f 3 = .bool true := hd 3 (by kernel_rfl)
              simp only [tmOf, putAll, List.map_cons, List.map_nil, List.setIfInBounds_toArray, List.set_cons_zero, List.set_cons_succ]
              refine wpOp_on rfl (wanted_of (b := true) rfl rfl rfl (congrArg some g3)) ?_
              go_wp2_with fail
              refine (HN.out _).mono ?_
              rintro e' wf ⟨rfl, hbf⟩
              go_wp2_with fail
              simp [upd, g5, g3, hbf]
            · have g4 : f 4 = .agg #[.int .i64 v.a, .int .i64 v.b, .int .i64 v.c] := hd 4 (by kernel_rfl)
              have g6 : f 6 = .agg #[.int .i64 n.a, .int .i64 n.b, .int .i64 n.c] := hd 6 (by kernel_rfl)
              have g3 : f 3 = .bool true := hd 3 (by kernel_rfl)
              simp only [tmOf, putAll, List.map_cons, List.map_nil, List.setIfInBounds_toArray, List.set_cons_zero, List.set_cons_succ]
              refine wpOp_on rfl (wanted_of (b := true) rfl rfl rfl (congrArg some g3)) ?_
              go_wp2_with fail
              refine (HD.out _).mono ?_
              rintro e' wf ⟨rfl, hbf⟩
              go_wp2_with fail
              simp [upd, g4, g6, g3, hbf]
            · have g7 : f 7 = .int .i64 d := hd 7 (by kernel_rfl)
              have g3 : f 3 = .bool true := hd 3 (by kernel_rfl)
              simp only [tmOf, putAll, List.map_cons, List.map_nil, List.setIfInBounds_toArray, List.set_cons_zero, List.set_cons_succ]
              refine wpOp_on rfl (wanted_of (b := true) rfl rfl rfl (congrArg some g3)) ?_
              go_wp2
              simp [upd, g7, g3, Below.refl]
            · have g3 : f 3 = .bool true := hd 3 (by kernel_rfl)
              have g8 : f 8 = .bool false := hd 8 (by kernel_rfl)
              refine wpOp_list rfl ?_
              simp only [tmOf, putAll, List.map_cons, List.map_nil, List.setIfInBounds_toArray, List.set_cons_zero, List.set_cons_succ]
              go_wp2
              simp [upd, g3, g8, Below.refl]
            · have g9 : f 9 = .bool false := hd 9 (by kernel_rfl)
              refine wpOp_list rfl ?_
              simp only [tmOf, putAll, List.map_cons, List.map_nil, List.setIfInBounds_toArray, List.set_cons_zero, List.set_cons_succ]
              go_wp2
              simp [upd, g9, Below.refl]
            · simp only [List.length_cons, List.length_nil] at hx; omega
          · rintro f ww hS hd
            have gl : f 10 = .bool false := hd 10 (by decide)
            simp only [tmOf, putAll, List.map_cons, List.map_nil, List.setIfInBounds_toArray, List.set_cons_zero, List.set_cons_succ]
            refine ‹∀ (a' : Act) (w' : World), Met _ a' w' → _› _ _ ?_
            go_meet
            case rel => exact ⟨gl, hS⟩
        case rest =>
        obtain ⟨rfl, hbx⟩ := hcut
        have hb := hb.trans (hbx.mono hb.size)
        clear hbx
        go_wp2_with fail
        go_ret
        exact ⟨by rw [HR1.out]; rfl, hb⟩
  · have HR1 : Hid (R = false) := Lib.hid (by rw [← HR.out]; simp)
    clear HRI HR
    go_wp2_with fail
    go_ret
    exact ⟨by rw [HR1.out]; rfl, hb⟩

end Go.Proofs.YtimkeblcdodfmaaGreat

namespace Go.Proofs.YtimkeblcdodfmaaGreat
open Go.RowKit Go.Shelf
attribute [local go_sem] Oper.semAt_some

/-- A slice of vectors. -/
def RdD (w : World) (p : Option Addr) (ps : List V3) : Prop :=
  ∀ i q, ps[i]? = some q → ∃ b off, p = some ⟨b, off, none⟩ ∧ b < w.heap.size ∧ w.cell? ⟨b, off + i * 3, none⟩ = some (.int .i64 q.a) ∧ w.cell? ⟨b, off + i * 3 + 1, none⟩ = some (.int .i64 q.b) ∧ w.cell? ⟨b, off + i * 3 + 2, none⟩ = some (.int .i64 q.c)
theorem RdD.below {w w' : World} {p : Option Addr} {ps : List V3} (h : RdD w p ps) (hb : Below w.heap.size w w') : RdD w' p ps := by
  intro i q hi
  obtain ⟨b, off, rfl, hlt, h0, h1, h2⟩ := h i q hi
  exact ⟨b, off, rfl, Nat.lt_of_lt_of_le hlt hb.size, (hb.cell (p := ⟨b, _, none⟩) hlt).trans h0, (hb.cell (p := ⟨b, _, none⟩) hlt).trans h1, (hb.cell (p := ⟨b, _, none⟩) hlt).trans h2⟩
theorem vecs1 (w : World) (u : V3) (t : TypeId) : RdD (w.alloc (.cells #[.int .i64 u.a, .int .i64 u.b, .int .i64 u.c] t)) (some ⟨w.heap.size, 0, none⟩) [u] := by
  have hB := Blk.new w #[.int .i64 u.a, .int .i64 u.b, .int .i64 u.c] t
  intro i y hi
  match i, hi with
  | 0, hi => cases hi; exact ⟨_, 0, rfl, hB.lt, hB.cell (i := 0) rfl, hB.cell (i := 1) rfl, hB.cell (i := 2) rfl⟩
  | i + 1, hi => simp at hi
theorem vecs2 (w : World) (u v : V3) (t : TypeId) : RdD (w.alloc (.cells #[.int .i64 u.a, .int .i64 u.b, .int .i64 u.c, .int .i64 v.a, .int .i64 v.b, .int .i64 v.c] t)) (some ⟨w.heap.size, 0, none⟩) [u, v] := by
  have hB := Blk.new w #[.int .i64 u.a, .int .i64 u.b, .int .i64 u.c, .int .i64 v.a, .int .i64 v.b, .int .i64 v.c] t
  intro i y hi
  match i, hi with
  | 0, hi => cases hi; exact ⟨_, 0, rfl, hB.lt, hB.cell (i := 0) rfl, hB.cell (i := 1) rfl, hB.cell (i := 2) rfl⟩
  | 1, hi => cases hi; exact ⟨_, 0, rfl, hB.lt, hB.cell (i := 3) rfl, hB.cell (i := 4) rfl, hB.cell (i := 5) rfl⟩
  | i + 2, hi => simp at hi

set_option maxRecDepth 100000 in
set_option maxHeartbeats 4000000 in
theorem areIn_closure (bl bp : Nat) (a : Option Addr) (n c : Nat) (vs : List V3) (p : V4) (w : World) (hl : vs.length = n) (hn : n ≤ 1000000000) (hr : RdD w a vs)
    (h0 : w.cell? ⟨bl, 0, none⟩ = some (.slice a n c)) (l0 : bl < w.heap.size) (k1 : Blk w bp #[.int .i64 p.a, .int .i64 p.b, .int .i64 p.c, .int .i64 p.d] 23) :
    Calls Tryz.prog 102 #[.pointer (some ⟨bl, 0, none⟩), .pointer (some ⟨bp, 0, none⟩)] w fun e w' => e = .returned (.int .i64 (errE (vs.all (isInB p)) 1)) ∧ Below w.heap.size w w' := by
  have HL := Lib.hid hl
  have HR := Lib.hid hr
  clear hl hr
  go_enter Tryz.func102, Tryz.ntmps102
  go_wp2_with fail
  go_loopg [7] n (fun gk v7 wr => ∃ i : Nat, i ≤ n ∧ gk = n - i ∧ v7 = .int .i64 (i : Int) ∧ Hid (∀ q ∈ vs.take i, isInB p q = true) ∧ Below w.heap.size w wr)
  case atStart => exact ⟨0, Nat.zero_le _, rfl, rfl, fun q hq => by simp at hq, Below.refl _ _⟩
  case round =>
    obtain ⟨i, hi, hgk, rfl, HA, hb⟩ := hrel
    have HGK := Lib.hid hgk
    clear hgk
    by_cases hlt : i < n
    · have hil : i < vs.length := by rw [HL.out]; exact hlt
      have hlti : (i : Int) < (n : Int) := by omega
      obtain ⟨b, off, rfl, hbl, g0, g1, g2⟩ := HR.out i _ (List.getElem?_eq_getElem hil)
      have htk : vs.take (i + 1) = vs.take i ++ [vs[i]] := List.take_succ_eq_append_getElem hil
      have hmem := List.getElem_mem hil
      generalize vs[i] = q at *
      have g0 := (hb.cell (p := ⟨b, off + i * 3, none⟩) hbl).trans g0
      have g1 := (hb.cell (p := ⟨b, off + i * 3 + 1, none⟩) hbl).trans g1
      have g2 := (hb.cell (p := ⟨b, off + i * 3 + 2, none⟩) hbl).trans g2
      have HT := Lib.hid (And.intro htk hmem)
      have hp := fun W => isIn_any p q W
      obtain ⟨B, hB⟩ : ∃ y, isInB p q = y := ⟨_, rfl⟩
      rw [hB] at hp
      have HP := Lib.hid hp
      have HB := Lib.hid hB
      clear hp htk hmem hB
      have k1 := k1.kept hb
      obtain ⟨wa, hwa⟩ : ∃ w', wr.alloc (.cells #[.int .i64 0, .int .i64 0, .int .i64 0] 24) = w' := ⟨_, rfl⟩
      have kk : Blk wa wr.heap.size #[.int .i64 0, .int .i64 0, .int .i64 0] 24 := by rw [← hwa]; exact Blk.new _ _ _
      have hk : Below wr.heap.size wr wa := by rw [← hwa]; exact (Below.refl _ _).alloc (Nat.le_refl _) _
      obtain ⟨ws, hws⟩ : ∃ w', (((wa.setCell ⟨wr.heap.size, 0, none⟩ (.int .i64 q.a)).setCell ⟨wr.heap.size, 1, none⟩ (.int .i64 q.b)).setCell ⟨wr.heap.size, 2, none⟩ (.int .i64 q.c)) = w' := ⟨_, rfl⟩
      have hj : Below wr.heap.size wr ws := by rw [← hws]; exact ((hk.setCell (by simp only; omega) _).setCell (by simp only; omega) _).setCell (by simp only; omega) _
      have kv : Blk ws wr.heap.size #[.int .i64 q.a, .int .i64 q.b, .int .i64 q.c] 24 := by rw [← hws]; exact Blk.put3 kk _ _ _
      have z0 := kk.cell (i := 0) rfl
      have z1 := kk.cell (i := 1) rfl
      have z2 := kk.cell (i := 2) rfl
      have f0 := kk.frozen 0
      have f1 := kk.frozen 1
      have f2 := kk.frozen 2
      have k1 := k1.kept hj
      have hb2' := hb.trans (hj.mono hb.size)
      have c0 := kv.cell (i := 0) rfl
      have c1 := kv.cell (i := 1) rfl
      have c2 := kv.cell (i := 2) rfl
      have p0 := k1.cell (i := 0) rfl
      have p1 := k1.cell (i := 1) rfl
      have p2 := k1.cell (i := 2) rfl
      have p3 := k1.cell (i := 3) rfl
      clear hj hk
      go_wp2_with fail
      refine (HP.out _).mono ?_
      rintro e w3 ⟨rfl, hb3⟩
      have hb3' := hb2'.trans (hb3.mono hb2'.size)
      clear z0 z1 z2 f0 f1 f2 c0 c1 c2 p0 p1 p2 p3 kv kk hwa hws
      cases B with
      | true =>
        go_wp2_with fail
        go_roundg (n - (i + 1))
        case measure => rw [HGK.out]; omega
        case rel =>
          refine ⟨i + 1, by omega, rfl, by go_num, ?_, hb3'⟩
          intro y hy
          rw [HT.out.1] at hy
          rcases List.mem_append.1 hy with hy | hy
          · exact HA.out y hy
          · rw [List.mem_singleton] at hy
            rw [hy]; exact HB.out
      | false =>
        have hz : errE (vs.all (isInB p)) 1 = 1 := by
          rw [show vs.all (isInB p) = false from by rw [List.all_eq_false]; exact ⟨q, HT.out.2, by rw [HB.out]; decide⟩]; rfl
        have HN := Lib.hid hz
        clear hz
        go_wp2_with fail
        go_ret
        exact ⟨congrArg (fun z : Int => Ending.returned (.int .i64 z)) HN.out.symm, hb3'⟩
    · have hlti : ¬ (i : Int) < (n : Int) := by omega
      have hall : ∀ q ∈ vs, isInB p q = true := by
        have := HA.out
        rwa [List.take_of_length_le (by rw [HL.out]; omega)] at this
      have hz : errE (vs.all (isInB p)) 1 = 0 := by
        rw [show vs.all (isInB p) = true from by rw [List.all_eq_true]; exact hall]; rfl
      have HN := Lib.hid hz
      clear hall hz
      go_wp2_with fail
      go_ret
      exact ⟨congrArg (fun z : Int => Ending.returned (.int .i64 z)) HN.out.symm, hb⟩

set_option maxRecDepth 100000 in
set_option maxHeartbeats 2000000 in
theorem areIn_any (p : V4) (a : Option Addr) (n c : Nat) (vs : List V3) (w : World) (hl : vs.length = n) (hn : n ≤ 1000000000) (hr : RdD w a vs) :
    Calls Tryz.prog 71 #[.agg #[.int .i64 p.a, .int .i64 p.b, .int .i64 p.c, .int .i64 p.d], .slice a n c] w fun e w' => ∃ v, e = .returned v ∧ ChkIs w' v (errE (vs.all (isInB p)) 1) ∧ Below w.heap.size w w' := by
  have hb0 : Below w.heap.size w ((w.alloc (.cells #[.int .i64 p.a, .int .i64 p.b, .int .i64 p.c, .int .i64 p.d] 23)).alloc (.cells #[.slice a n c] 69)) := bw2 w _ _
  have k0 : Blk ((w.alloc (.cells #[.int .i64 p.a, .int .i64 p.b, .int .i64 p.c, .int .i64 p.d] 23)).alloc (.cells #[.slice a n c] 69)) w.heap.size #[.int .i64 p.a, .int .i64 p.b, .int .i64 p.c, .int .i64 p.d] 23 := (Blk.new w _ _).alloc _
  have k1 : Blk ((w.alloc (.cells #[.int .i64 p.a, .int .i64 p.b, .int .i64 p.c, .int .i64 p.d] 23)).alloc (.cells #[.slice a n c] 69)) (w.heap.size + 1) #[.slice a n c] 69 := Blk.new' _ _ _ (by simp)
  have HR := Lib.hid hr
  have HL := Lib.hid hl
  clear hr hl
  go_enter Tryz.func71, Tryz.ntmps71
  go_wp2
  go_ret
  refine ⟨_, rfl, ⟨_, _, rfl, enters_of Tryz.func102 (by kernel_rfl) rfl, fun W hW => ?_⟩, hb0⟩
  exact areIn_closure _ _ a n c vs p W HL.out hn ((HR.out.below hb0).below hW) ((k1.kept hW).cell (i := 0) rfl) (k1.kept hW).lt (k0.kept hW)

end Go.Proofs.YtimkeblcdodfmaaGreat

namespace Go.Proofs.YtimkeblcdodfmaaGreat
open Go.RowKit Go.Shelf
attribute [local go_sem] Oper.semAt_some

theorem isInB_far {p : V4} {v : V3} (h : isInB p v = true) : Far v 2000000 := by
  unfold isInB at h
  rw [Bool.and_eq_true] at h
  have h1 := h.1
  unfold within at h1
  simp only [List.all_cons, List.all_nil, Bool.and_true, Bool.and_eq_true, decide_eq_true_eq] at h1
  unfold Far
  omega
/-- The error of a plane and vectors. -/
def wayE (p : V4) (l : List V3) : Int := if RightQ p then errE (l.all (isInB p)) 1 else 30
theorem wayE_first (p : V4) (l : List V3) : firstE [errE (decide (RightQ p)) 30, errE (l.all (isInB p)) 1] = wayE p l := by
  unfold wayE
  by_cases h : RightQ p
  · rw [if_pos h, decide_eq_true h]
    cases l.all (isInB p) <;> rfl
  · rw [if_neg h, decide_eq_false h]; rfl
theorem wayE_good {p : V4} {l : List V3} (h : wayE p l = 0) : RightQ p ∧ ∀ v ∈ l, isInB p v = true := by
  unfold wayE at h
  by_cases h1 : RightQ p
  · rw [if_pos h1] at h
    refine ⟨h1, ?_⟩
    cases hb : l.all (isInB p) with
    | true => exact List.all_eq_true.1 hb
    | false => rw [hb] at h; exact absurd h (by decide)
  · rw [if_neg h1] at h; exact absurd h (by decide)
def angS (p : V4) (u y : V3) : Int := if wayE p [u, y] = 0 then angV (nrm p) u y else 0

set_option maxRecDepth 100000 in
set_option maxHeartbeats 8000000 in
theorem angleApi_any (p : V4) (u y : V3) (w : World) (hp : InV p) :
    Calls Tryz.prog 36 #[.agg #[.int .i64 p.a, .int .i64 p.b, .int .i64 p.c, .int .i64 p.d], .agg #[.int .i64 u.a, .int .i64 u.b, .int .i64 u.c], .agg #[.int .i64 y.a, .int .i64 y.b, .int .i64 y.c]] w fun e w' => e = .returned (.tuple #[.int .i64 (angS p u y), .int .i64 (wayE p [u, y])]) ∧ Below w.heap.size w w' := by
  obtain ⟨w1, hw1⟩ : ∃ w1, (((w.alloc (.cells #[.int .i64 p.a, .int .i64 p.b, .int .i64 p.c, .int .i64 p.d] 23)).alloc (.cells #[.int .i64 u.a, .int .i64 u.b, .int .i64 u.c] 24)).alloc (.cells #[.int .i64 y.a, .int .i64 y.b, .int .i64 y.c] 24)) = w1 := ⟨_, rfl⟩
  have hb1 : Below w.heap.size w w1 := by rw [← hw1]; exact bw3 w _ _ _
  have k0 : Blk w1 (w.heap.size) #[.int .i64 p.a, .int .i64 p.b, .int .i64 p.c, .int .i64 p.d] 23 := by rw [← hw1]; exact (((Blk.new w _ _).alloc _).alloc _)
  have k1 : Blk w1 (w.heap.size + 1) #[.int .i64 u.a, .int .i64 u.b, .int .i64 u.c] 24 := by rw [← hw1]; exact ((Blk.new' _ _ _ (by simp)).alloc _)
  have k2 : Blk w1 (w.heap.size + 1 + 1) #[.int .i64 y.a, .int .i64 y.b, .int .i64 y.c] 24 := by rw [← hw1]; exact (Blk.new' _ _ _ (by simp))
  have hpl : ∀ b W, RdV W (some ⟨b, 0, none⟩) [p] → Calls Tryz.prog 46 #[.slice (some ⟨b, 0, none⟩) 1 1] W fun e w' => ∃ v, e = .returned v ∧ ChkIs w' v (errE (decide (RightQ p)) 30) ∧ Below W.heap.size W w' := fun b W hR => by
    have h := planes_any (some ⟨b, 0, none⟩) 1 1 [p] W rfl (by decide) hR (fun x hx => by
      rw [List.mem_singleton.1 hx]; exact hp)
    simpa [RightQ] using h
  have hcr := fun b W (hR : RdD W (some ⟨b, 0, none⟩) [u, y]) => areIn_any p (some ⟨b, 0, none⟩) 2 2 [u, y] W rfl (by decide) hR
  have hE := wayE_first p [u, y]
  obtain ⟨rp, hrp⟩ : ∃ e0, errE (decide (RightQ p)) 30 = e0 := ⟨_, rfl⟩
  obtain ⟨rc, hrc⟩ : ∃ e0, errE ([u, y].all (isInB p)) 1 = e0 := ⟨_, rfl⟩
  rw [hrp] at hpl
  rw [hrp, hrc] at hE
  simp only [hrc] at hcr
  have HPL := Lib.hid hpl
  have HCR := Lib.hid hcr
  obtain ⟨E, hEE⟩ : ∃ E, wayE p [u, y] = E := ⟨_, rfl⟩
  rw [hEE] at hE
  obtain ⟨s, hs⟩ : ∃ s, angS p u y = s := ⟨_, rfl⟩
  have hbad : ¬ E = 0 → s = 0 := fun h0 => by rw [← hs]; unfold angS; rw [if_neg (by rw [hEE]; exact h0)]
  have hgood : E = 0 → ∃ (n : V3), (∀ W, Calls Tryz.prog 51 #[.agg #[.int .i64 p.a, .int .i64 p.b, .int .i64 p.c, .int .i64 p.d]] W fun e w' => e = .returned (.agg #[.int .i64 n.a, .int .i64 n.b, .int .i64 n.c]) ∧ Below W.heap.size W w') ∧ (∀ W, Calls Tryz.prog 72 #[.agg #[.int .i64 n.a, .int .i64 n.b, .int .i64 n.c], .agg #[.int .i64 u.a, .int .i64 u.b, .int .i64 u.c], .agg #[.int .i64 y.a, .int .i64 y.b, .int .i64 y.c]] W fun e w' => e = .returned (.int .i64 s) ∧ Below W.heap.size W w') := fun h0 => by
    have hl : wayE p [u, y] = 0 := by rw [hEE]; exact h0
    obtain ⟨h1, h2⟩ := wayE_good hl
    refine ⟨nrm p, fun W => normal_any p W, fun W => ?_⟩
    have h := angle_any (nrm p) u y W (nrm_far h1) (isInB_far (h2 u (by simp))) (isInB_far (h2 y (by simp)))
    rw [← hs]; unfold angS; rw [if_pos hl]; exact h
  rw [hEE, hs]
  have HE := Lib.hid hE
  have HG := Lib.hid hgood
  have HBD := Lib.hid hbad
  clear hpl hcr hrp hrc hE hEE hs hgood hbad hp
  go_enter Tryz.func36, Tryz.ntmps36
  go_upto_region 1 with fail
  go_cut [8] from 9 to 18 (fun v8 wx => v8 = .int .i64 (firstE [rp, rc]) ∧ Below w1.heap.size w1 wx)
  case first =>
    refine wp_region_kn' (fun ix => ix != 1 && ix != 2 && ix != 6 && ix != 7 && ix != 8) (fun ix => match ix with | 0 => .agg #[.int .i64 p.a, .int .i64 p.b, .int .i64 p.c, .int .i64 p.d] | 3 => .agg #[.int .i64 p.a, .int .i64 p.b, .int .i64 p.c, .int .i64 p.d] | 4 => .agg #[.int .i64 u.a, .int .i64 u.b, .int .i64 u.c] | 5 => .agg #[.int .i64 y.a, .int .i64 y.b, .int .i64 y.c] | 9 => .int .i64 (firstE [rp, rc]) | _ => .int .i64 (firstE [rp, rc])) (fun ix v w => match ix with | 1 => ∃ b, v = .slice (some ⟨b, 0, none⟩) 1 1 ∧ RdV w (some ⟨b, 0, none⟩) [p] | 2 => ChkIs w v rp | 6 => ∃ b, v = .slice (some ⟨b, 0, none⟩) 2 2 ∧ RdD w (some ⟨b, 0, none⟩) [u, y] | 7 => ChkIs w v rc | _ => ∃ b, v = .slice (some ⟨b, 0, none⟩) 2 2 ∧ RdC w (some ⟨b, 0, none⟩) [rp, rc]) (by kernel_rfl) (by kernel_rfl) ?_ ?_ ?_
    · intro ix v w8 w9 hb h
      rcases ix with _ | _ | _ | _ | _ | _ | _ | _ | _ | ix
      · obtain ⟨b, e, h⟩ := h; exact ⟨b, e, h.below hb⟩
      · obtain ⟨b, e, h⟩ := h; exact ⟨b, e, h.below hb⟩
      · exact ChkIs.below h hb
      · obtain ⟨b, e, h⟩ := h; exact ⟨b, e, h.below hb⟩
      · obtain ⟨b, e, h⟩ := h; exact ⟨b, e, h.below hb⟩
      · obtain ⟨b, e, h⟩ := h; exact ⟨b, e, h.below hb⟩
      · obtain ⟨b, e, h⟩ := h; exact ⟨b, e, h.below hb⟩
      · exact ChkIs.below h hb
      · obtain ⟨b, e, h⟩ := h; exact ⟨b, e, h.below hb⟩
      · obtain ⟨b, e, h⟩ := h; exact ⟨b, e, h.below hb⟩
    · rintro ix hx f ww hS hd
      have ka := k0.kept hS
      have kb := k1.kept hS
      have kc := k2.kept hS
      have a0_ := ka.cell (i := 0) rfl
      have a1_ := ka.cell (i := 1) rfl
      have a2_ := ka.cell (i := 2) rfl
      have a3_ := ka.cell (i := 3) rfl
      have b0_ := kb.cell (i := 0) rfl
      have b1_ := kb.cell (i := 1) rfl
      have b2_ := kb.cell (i := 2) rfl
      have c0_ := kc.cell (i := 0) rfl
      have c1_ := kc.cell (i := 1) rfl
      have c2_ := kc.cell (i := 2) rfl
      rcases ix with _ | _ | _ | _ | _ | _ | _ | _ | _ | _ | _ | ix
      · refine wpOp_list rfl ?_
        simp only [tmOf, putAll, List.map_cons, List.map_nil, List.setIfInBounds_toArray, List.set_cons_zero, List.set_cons_succ]
        go_wp2
        refine ⟨.agg #[.int .i64 p.a, .int .i64 p.b, .int .i64 p.c, .int .i64 p.d], ?_⟩
        simp [upd, Below.refl]
      · have g0 : f 0 = .agg #[.int .i64 p.a, .int .i64 p.b, .int .i64 p.c, .int .i64 p.d] := hd 0 (by kernel_rfl)
        refine wpOp_list rfl ?_
        simp only [tmOf, putAll, List.map_cons, List.map_nil, List.setIfInBounds_toArray, List.set_cons_zero, List.set_cons_succ]
        go_wp2
        exact ⟨.slice (some ⟨ww.heap.size, 0, none⟩) 1 1, by simp [upd, g0], ⟨_, rfl, planes1 ww p.a p.b p.c p.d _⟩, (Below.refl _ ww).alloc (Nat.le_refl _) _⟩
      · obtain ⟨b10, g1, hR10⟩ : ∃ b, f 1 = .slice (some ⟨b, 0, none⟩) 1 1 ∧ RdV ww (some ⟨b, 0, none⟩) [p] := hd 1 (by kernel_rfl)
        refine wpOp_list rfl ?_
        simp only [tmOf, putAll, List.map_cons, List.map_nil, List.setIfInBounds_toArray, List.set_cons_zero, List.set_cons_succ]
        go_wp2_with fail
        refine (HPL.out b10 _ hR10).mono ?_
        rintro e' wf ⟨v, rfl, hv, hbf⟩
        go_wp2_with fail
        first
          | exact ⟨v, by simp [upd, g1], hv, hbf⟩
          | exact ⟨v, by simp [upd, g1], hv⟩
      · refine wpOp_list rfl ?_
        simp only [tmOf, putAll, List.map_cons, List.map_nil, List.setIfInBounds_toArray, List.set_cons_zero, List.set_cons_succ]
        go_wp2
        refine ⟨.agg #[.int .i64 p.a, .int .i64 p.b, .int .i64 p.c, .int .i64 p.d], ?_⟩
        simp [upd, Below.refl]
      · refine wpOp_list rfl ?_
        simp only [tmOf, putAll, List.map_cons, List.map_nil, List.setIfInBounds_toArray, List.set_cons_zero, List.set_cons_succ]
        go_wp2
        refine ⟨.agg #[.int .i64 u.a, .int .i64 u.b, .int .i64 u.c], ?_⟩
        simp [upd, Below.refl]
      · refine wpOp_list rfl ?_
        simp only [tmOf, putAll, List.map_cons, List.map_nil, List.setIfInBounds_toArray, List.set_cons_zero, List.set_cons_succ]
        go_wp2
        refine ⟨.agg #[.int .i64 y.a, .int .i64 y.b, .int .i64 y.c], ?_⟩
        simp [upd, Below.refl]
      · have g4 : f 4 = .agg #[.int .i64 u.a, .int .i64 u.b, .int .i64 u.c] := hd 4 (by kernel_rfl)
        have g5 : f 5 = .agg #[.int .i64 y.a, .int .i64 y.b, .int .i64 y.c] := hd 5 (by kernel_rfl)
        refine wpOp_list rfl ?_
        simp only [tmOf, putAll, List.map_cons, List.map_nil, List.setIfInBounds_toArray, List.set_cons_zero, List.set_cons_succ]
        go_wp2
        exact ⟨.slice (some ⟨ww.heap.size, 0, none⟩) 2 2, by simp [upd, g4, g5], ⟨_, rfl, vecs2 ww u y _⟩, (Below.refl _ ww).alloc (Nat.le_refl _) _⟩
      · have g3 : f 3 = .agg #[.int .i64 p.a, .int .i64 p.b, .int .i64 p.c, .int .i64 p.d] := hd 3 (by kernel_rfl)
        obtain ⟨b15, g6, hR15⟩ : ∃ b, f 6 = .slice (some ⟨b, 0, none⟩) 2 2 ∧ RdD ww (some ⟨b, 0, none⟩) [u, y] := hd 6 (by kernel_rfl)
        refine wpOp_list rfl ?_
        simp only [tmOf, putAll, List.map_cons, List.map_nil, List.setIfInBounds_toArray, List.set_cons_zero, List.set_cons_succ]
        go_wp2_with fail
        refine (HCR.out b15 _ hR15).mono ?_
        rintro e' wf ⟨v, rfl, hv, hbf⟩
        go_wp2_with fail
        first
          | exact ⟨v, by simp [upd, g3, g6], hv, hbf⟩
          | exact ⟨v, by simp [upd, g3, g6], hv⟩
      · have h11 : ChkIs ww (f 2) rp := hd 2 (by kernel_rfl)
        obtain ⟨gf11, caps11, g2, _⟩ := id h11
        have h16 : ChkIs ww (f 7) rc := hd 7 (by kernel_rfl)
        obtain ⟨gf16, caps16, g7, _⟩ := id h16
        refine wpOp_list rfl ?_
        simp only [tmOf, putAll, List.map_cons, List.map_nil, List.setIfInBounds_toArray, List.set_cons_zero, List.set_cons_succ]
        have hrc17 := checks2 ww _ _ rp rc 82 h11 h16
        rw [g2, g7] at hrc17
        clear h11 h16
        go_wp2
        exact ⟨.slice (some ⟨ww.heap.size, 0, none⟩) 2 2, by simp [upd, g2, g7], ⟨_, rfl, hrc17⟩, (Below.refl _ ww).alloc (Nat.le_refl _) _⟩
      · obtain ⟨b17, g8, hR17⟩ : ∃ b, f 8 = .slice (some ⟨b, 0, none⟩) 2 2 ∧ RdC ww (some ⟨b, 0, none⟩) [rp, rc] := hd 8 (by kernel_rfl)
        refine wpOp_list rfl ?_
        simp only [tmOf, putAll, List.map_cons, List.map_nil, List.setIfInBounds_toArray, List.set_cons_zero, List.set_cons_succ]
        have hf := first_any (some ⟨b17, 0, none⟩) 2 2 [rp, rc] ww rfl (by decide) hR17
        have HF := Lib.hid hf
        clear hf hR17
        go_wp2_with fail
        refine HF.out.mono ?_
        rintro e' wf ⟨rfl, hbf⟩
        go_wp2_with fail
        try refine ⟨.int .i64 (firstE [rp, rc]), ?_⟩
        simp [upd, g8, hbf]
      · have g9 : f 9 = .int .i64 (firstE [rp, rc]) := hd 9 (by kernel_rfl)
        refine wpOp_list rfl ?_
        simp only [tmOf, putAll, List.map_cons, List.map_nil, List.setIfInBounds_toArray, List.set_cons_zero, List.set_cons_succ]
        go_wp2
        refine ⟨.int .i64 (firstE [rp, rc]), ?_⟩
        simp [upd, g9, Below.refl]
      · simp only [List.length_cons, List.length_nil] at hx; omega
    · rintro f ww hS hd
      have G8 : f 10 = .int .i64 (firstE [rp, rc]) := hd 10 (by decide)
      simp only [tmOf, putAll, List.map_cons, List.map_nil, List.setIfInBounds_toArray, List.set_cons_zero, List.set_cons_succ]
      refine ‹∀ (a' : Act) (w' : World), Met _ a' w' → _› _ _ ?_
      go_meet
      case rel => exact ⟨G8, hS⟩
  case rest =>
  obtain ⟨rfl, hbx⟩ := hcut
  rw [HE.out]
  have k0 := k0.kept hbx
  have k1 := k1.kept hbx
  have k2 := k2.kept hbx
  have hb := hb1.trans (hbx.mono hb1.size)
  clear hbx hw1 hb1 HPL HCR HE
  generalize wc = wy at *
  by_cases h0 : E = 0
  · subst h0
    obtain ⟨n, hn, hs⟩ := HG.out rfl
    have HN := Lib.hid hn
    have HS := Lib.hid hs
    clear hn hs HG HBD
    go_upto_region 4 with fail
    go_cut [6, 7] from 22 to 26 (fun v6 v7 wx => v6 = .int .i64 s ∧ v7 = .int .i64 0 ∧ Below wy.heap.size wy wx)
    case first =>
      refine wp_region_pure' (fun ix => match ix with | 0 => .agg #[.int .i64 p.a, .int .i64 p.b, .int .i64 p.c, .int .i64 p.d] | 1 => .agg #[.int .i64 n.a, .int .i64 n.b, .int .i64 n.c] | 2 => .agg #[.int .i64 u.a, .int .i64 u.b, .int .i64 u.c] | 3 => .agg #[.int .i64 y.a, .int .i64 y.b, .int .i64 y.c] | 4 => .int .i64 s | 5 => .int .i64 s | _ => .int .i64 0) (by kernel_rfl) (by kernel_rfl) ?_ ?_
      · rintro ix hx f ww hS hd
        have ka := k0.kept hS
        have kb := k1.kept hS
        have kc := k2.kept hS
        have a0_ := ka.cell (i := 0) rfl
        have a1_ := ka.cell (i := 1) rfl
        have a2_ := ka.cell (i := 2) rfl
        have a3_ := ka.cell (i := 3) rfl
        have b0_ := kb.cell (i := 0) rfl
        have b1_ := kb.cell (i := 1) rfl
        have b2_ := kb.cell (i := 2) rfl
        have c0_ := kc.cell (i := 0) rfl
        have c1_ := kc.cell (i := 1) rfl
        have c2_ := kc.cell (i := 2) rfl
        rcases ix with _ | _ | _ | _ | _ | _ | _ | ix
        · refine wpOp_list rfl ?_
          simp only [tmOf, putAll, List.map_cons, List.map_nil, List.setIfInBounds_toArray, List.set_cons_zero, List.set_cons_succ]
          go_wp2
          simp [upd, Below.refl]
        · have g0 : f 0 = .agg #[.int .i64 p.a, .int .i64 p.b, .int .i64 p.c, .int .i64 p.d] := hd 0 (by kernel_rfl)
          refine wpOp_list rfl ?_
          simp only [tmOf, putAll, List.map_cons, List.map_nil, List.setIfInBounds_toArray, List.set_cons_zero, List.set_cons_succ]
          go_wp2_with fail
          refine (HN.out _).mono ?_
          rintro e' wf ⟨rfl, hbf⟩
          go_wp2_with fail
          simp [upd, g0, hbf]
        · refine wpOp_list rfl ?_
          simp only [tmOf, putAll, List.map_cons, List.map_nil, List.setIfInBounds_toArray, List.set_cons_zero, List.set_cons_succ]
          go_wp2
          simp [upd, Below.refl]
        · refine wpOp_list rfl ?_
          simp only [tmOf, putAll, List.map_cons, List.map_nil, List.setIfInBounds_toArray, List.set_cons_zero, List.set_cons_succ]
          go_wp2
          simp [upd, Below.refl]
        · have g1 : f 1 = .agg #[.int .i64 n.a, .int .i64 n.b, .int .i64 n.c] := hd 1 (by kernel_rfl)
          have g2 : f 2 = .agg #[.int .i64 u.a, .int .i64 u.b, .int .i64 u.c] := hd 2 (by kernel_rfl)
          have g3 : f 3 = .agg #[.int .i64 y.a, .int .i64 y.b, .int .i64 y.c] := hd 3 (by kernel_rfl)
          refine wpOp_list rfl ?_
          simp only [tmOf, putAll, List.map_cons, List.map_nil, List.setIfInBounds_toArray, List.set_cons_zero, List.set_cons_succ]
          go_wp2_with fail
          refine (HS.out _).mono ?_
          rintro e' wf ⟨rfl, hbf⟩
          go_wp2_with fail
          simp [upd, g1, g2, g3, hbf]
        · have g4 : f 4 = .int .i64 s := hd 4 (by kernel_rfl)
          refine wpOp_list rfl ?_
          simp only [tmOf, putAll, List.map_cons, List.map_nil, List.setIfInBounds_toArray, List.set_cons_zero, List.set_cons_succ]
          go_wp2
          simp [upd, g4, Below.refl]
        · refine wpOp_list rfl ?_
          simp only [tmOf, putAll, List.map_cons, List.map_nil, List.setIfInBounds_toArray, List.set_cons_zero, List.set_cons_succ]
          go_wp2
          simp [upd, Below.refl]
        · simp only [List.length_cons, List.length_nil] at hx; omega
      · rintro f ww hS hd
        have g6 : f 5 = .int .i64 s := hd 5 (by decide)
        have g7 : f 6 = .int .i64 0 := hd 6 (by decide)
        simp only [tmOf, putAll, List.map_cons, List.map_nil, List.setIfInBounds_toArray, List.set_cons_zero, List.set_cons_succ]
        refine ‹∀ (a' : Act) (w' : World), Met _ a' w' → _› _ _ ?_
        go_meet
        case rel => exact ⟨g6, g7, hS⟩
    case rest =>
    obtain ⟨rfl, rfl, hbz⟩ := hcut
    go_wp2_with fail
    go_ret2
    exact ⟨rfl, hb.trans (hbz.mono hb.size)⟩
  · have hE1 : (E == 0) = false := by simp [h0]
    have hE2 : (E != 0) = true := by simp [h0]
    have hs0 := HBD.out h0
    have HS0 := Lib.hid hs0
    clear h0 hs0 HG HBD
    go_wp2_with fail
    go_ret2
    exact ⟨by rw [HS0.out]; rfl, hb⟩

end Go.Proofs.YtimkeblcdodfmaaGreat
