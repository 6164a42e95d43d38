/-
  The reference of lines: the direction that comes first, clockwise; Rows of vectors that the call itself has made; A region that draws, of known values, whose last operation writes a slot that others of it read.
-/
import Derived.Test.YtimkeblcdodfmaaGreatK1
import Derived.Test.YtimkeblcdodfmaaGreatK2
import Derived.Test.YtimkeblcdodfmaaGreatK3
import Derived.Test.YtimkeblcdodfmaaGreatK4
import Derived.Test.YtimkeblcdodfmaaGreatK5
import Derived.Test.YtimkeblcdodfmaaGreatK6
import Derived.Test.YtimkeblcdodfmaaGreatK7
import Derived.Test.YtimkeblcdodfmaaGreatK8
import Derived.Test.YtimkeblcdodfmaaGreatK9
import Derived.Test.YtimkeblcdodfmaaGreatK10
import Derived.Test.YtimkeblcdodfmaaGreatK11
import Derived.Test.YtimkeblcdodfmaaGreatK12
import Derived.Test.YtimkeblcdodfmaaGreatK13
import Derived.Test.YtimkeblcdodfmaaGreatK14
import Derived.Test.YtimkeblcdodfmaaGreatK15
import Derived.Test.YtimkeblcdodfmaaGreatK16
import Derived.Test.YtimkeblcdodfmaaGreatK17
import Derived.Test.YtimkeblcdodfmaaGreatK18
import Derived.Test.YtimkeblcdodfmaaGreatK19
import Derived.Test.YtimkeblcdodfmaaGreatK20
import Derived.Test.YtimkeblcdodfmaaGreatK21
import Derived.Test.YtimkeblcdodfmaaGreatK22
import Derived.Test.YtimkeblcdodfmaaGreatK23
import Derived.Test.YtimkeblcdodfmaaGreatK24
import Derived.Test.YtimkeblcdodfmaaGreatK25
import Derived.Test.YtimkeblcdodfmaaGreatJ1
import Derived.Test.YtimkeblcdodfmaaGreatJ2
import Derived.Test.YtimkeblcdodfmaaGreatJ3
namespace Go.Proofs.YtimkeblcdodfmaaGreat
open Go.RowKit Go.Shelf
attribute [local go_sem] Oper.semAt_some

theorem ord_at {W : World} {B : Nat} {t : TypeId} (h : Blk W B #[.int .i64 3, .int .i64 2, .int .i64 1, .int .i64 0] t) {a : Nat} (ha : a < 4) : W.cell? ⟨B, a, none⟩ = some (.int .i64 (3 - (a : Int))) := by
  match a, ha with
  | 0, _ => exact h.cell (i := 0) rfl
  | 1, _ => exact h.cell (i := 1) rfl
  | 2, _ => exact h.cell (i := 2) rfl
  | 3, _ => exact h.cell (i := 3) rfl
theorem ang_nat (n u v : V3) : ∃ a : Nat, a < 4 ∧ angV n u v = (a : Int) := by
  have := ang_range n u v
  exact ⟨(angV n u v).toNat, by omega, by omega⟩
theorem angRV_any {p : V4} {u v : V3} (hp : RightQ p) (hu : isInB p u = true) (hv : isInB p v = true) (w : World) : Calls Tryz.prog 38 #[.agg #[.int .i64 p.a, .int .i64 p.b, .int .i64 p.c, .int .i64 p.d], .agg #[.int .i64 u.a, .int .i64 u.b, .int .i64 u.c], .agg #[.int .i64 v.a, .int .i64 v.b, .int .i64 v.c]] w fun e w' => e = .returned (.int .i64 (angV (nrm p) u v)) ∧ Below w.heap.size w w' := by
  rw [← angR_eq hp hu hv]
  exact angR_any p u v w (nrm_far hp) (isInB_far hu) (isInB_far hv)

set_option maxRecDepth 100000 in
set_option maxHeartbeats 8000000 in
theorem sooner_any (p : V4) (vf x y : V3) (w : World) (hp : RightQ p) (hf : isInB p vf = true) (hx : isInB p x = true) (hy : isInB p y = true) :
    Calls Tryz.prog 75 #[.agg #[.int .i64 p.a, .int .i64 p.b, .int .i64 p.c, .int .i64 p.d], .agg #[.int .i64 vf.a, .int .i64 vf.b, .int .i64 vf.c], .agg #[.int .i64 x.a, .int .i64 x.b, .int .i64 x.c], .agg #[.int .i64 y.a, .int .i64 y.b, .int .i64 y.c]] w fun e w' => e = .returned (.bool (if 3 - angV (nrm p) vf x ≠ 3 - angV (nrm p) vf y then decide (3 - angV (nrm p) vf x < 3 - angV (nrm p) vf y) else decide (angV (nrm p) x y = 3))) ∧ Below w.heap.size w w' := by
  obtain ⟨w1, hw1⟩ : ∃ w1, ((((w.alloc (.cells #[.int .i64 p.a, .int .i64 p.b, .int .i64 p.c, .int .i64 p.d] 23)).alloc (.cells #[.int .i64 vf.a, .int .i64 vf.b, .int .i64 vf.c] 24)).alloc (.cells #[.int .i64 x.a, .int .i64 x.b, .int .i64 x.c] 24)).alloc (.cells #[.int .i64 y.a, .int .i64 y.b, .int .i64 y.c] 24)) = w1 := ⟨_, rfl⟩
  have hb1 : Below w.heap.size w w1 := by rw [← hw1]; exact bw4' w _ _ _ _
  have k0 : Blk w1 (w.heap.size) #[.int .i64 p.a, .int .i64 p.b, .int .i64 p.c, .int .i64 p.d] 23 := by rw [← hw1]; exact ((((Blk.new w _ _).alloc _).alloc _).alloc _)
  have k1 : Blk w1 (w.heap.size + 1) #[.int .i64 vf.a, .int .i64 vf.b, .int .i64 vf.c] 24 := by rw [← hw1]; exact (((Blk.new' _ _ _ (by simp)).alloc _).alloc _)
  have k2 : Blk w1 (w.heap.size + 1 + 1) #[.int .i64 x.a, .int .i64 x.b, .int .i64 x.c] 24 := by rw [← hw1]; exact ((Blk.new' _ _ _ (by simp)).alloc _)
  have k3 : Blk w1 (w.heap.size + 1 + 1 + 1) #[.int .i64 y.a, .int .i64 y.b, .int .i64 y.c] 24 := by rw [← hw1]; exact (Blk.new' _ _ _ (by simp))
  have hca := fun W => angRV_any hp hf hx W
  have hcb := fun W => angRV_any hp hf hy W
  have hcc := fun W => angRV_any hp hx hy W
  obtain ⟨a, ha4, hae⟩ := ang_nat (nrm p) vf x
  obtain ⟨b, hb4, hbe⟩ := ang_nat (nrm p) vf y
  obtain ⟨C, hC⟩ : ∃ C, angV (nrm p) x y = C := ⟨_, rfl⟩
  rw [hae] at hca ⊢
  rw [hbe] at hcb ⊢
  rw [hC] at hcc ⊢
  obtain ⟨ou, hu⟩ : ∃ ou, 3 - (a : Int) = ou := ⟨_, rfl⟩
  obtain ⟨ov, hv⟩ : ∃ ov, 3 - (b : Int) = ov := ⟨_, rfl⟩
  rw [hu, hv]
  have ha4i : (a : Int) < 4 := by omega
  have hb4i : (b : Int) < 4 := by omega
  obtain ⟨R, hR⟩ : ∃ R, (if ou ≠ ov then decide (ou < ov) else decide (C = 3)) = R := ⟨_, rfl⟩
  rw [hR]
  have HA := Lib.hid hca
  have HB := Lib.hid hcb
  have HC := Lib.hid hcc
  have HR := Lib.hid hR
  clear hca hcb hcc hae hbe hC hR hp hf hx hy
  obtain ⟨wo, hwo⟩ : ∃ w', w1.alloc (.cells #[.int .i64 0, .int .i64 0, .int .i64 0, .int .i64 0] 78) = w' := ⟨_, rfl⟩
  have kZ : Blk wo w1.heap.size #[.int .i64 0, .int .i64 0, .int .i64 0, .int .i64 0] 78 := by rw [← hwo]; exact Blk.new _ _ _
  have hk : Below w1.heap.size w1 wo := by rw [← hwo]; exact (Below.refl _ _).alloc (Nat.le_refl _) _
  obtain ⟨ws, hws⟩ : ∃ w', ((((wo.setCell ⟨w1.heap.size, 0, none⟩ (.int .i64 3)).setCell ⟨w1.heap.size, 1, none⟩ (.int .i64 2)).setCell ⟨w1.heap.size, 2, none⟩ (.int .i64 1)).setCell ⟨w1.heap.size, 3, none⟩ (.int .i64 0)) = w' := ⟨_, rfl⟩
  have hj : Below w1.heap.size w1 ws := by rw [← hws]; exact (((hk.setCell (by simp only; omega) _).setCell (by simp only; omega) _).setCell (by simp only; omega) _).setCell (by simp only; omega) _
  have kO : Blk ws w1.heap.size #[.int .i64 3, .int .i64 2, .int .i64 1, .int .i64 0] 78 := by rw [← hws]; exact Blk.put4 kZ _ _ _ _
  have z0 := kZ.cell (i := 0) rfl
  have z1 := kZ.cell (i := 1) rfl
  have z2 := kZ.cell (i := 2) rfl
  have z3 := kZ.cell (i := 3) rfl
  have q0 := kZ.frozen 0
  have q1 := kZ.frozen 1
  have q2 := kZ.frozen 2
  have q3 := kZ.frozen 3
  have k0 := k0.kept hj
  have k1 := k1.kept hj
  have k2 := k2.kept hj
  have k3 := k3.kept hj
  have hb := hb1.trans (hj.mono hb1.size)
  clear hj hk
  go_enter Tryz.func75, Tryz.ntmps75
  go_upto_region 2 with fail
  clear z0 z1 z2 z3 q0 q1 q2 q3 hwo hws kZ
  go_cut [10, 11] from 13 to 24 (fun v10 v11 wx => v10 = .int .i64 ou ∧ v11 = .int .i64 ov ∧ Below ws.heap.size ws wx)
  case first =>
    refine wp_region_pure' (fun ix => match ix with | 0 => .agg #[.int .i64 p.a, .int .i64 p.b, .int .i64 p.c, .int .i64 p.d] | 1 => .agg #[.int .i64 vf.a, .int .i64 vf.b, .int .i64 vf.c] | 2 => .agg #[.int .i64 x.a, .int .i64 x.b, .int .i64 x.c] | 3 => .int .i64 (a : Int) | 4 => .pointer (some ⟨w1.heap.size, a, none⟩) | 5 => .int .i64 ou | 6 => .agg #[.int .i64 p.a, .int .i64 p.b, .int .i64 p.c, .int .i64 p.d] | 7 => .agg #[.int .i64 vf.a, .int .i64 vf.b, .int .i64 vf.c] | 8 => .agg #[.int .i64 y.a, .int .i64 y.b, .int .i64 y.c] | 9 => .int .i64 (b : Int) | 10 => .pointer (some ⟨w1.heap.size, b, none⟩) | 11 => .int .i64 ov | 12 => .int .i64 ou | _ => .int .i64 ov) (by kernel_rfl) (by kernel_rfl) ?_ ?_
    · rintro ix hx f ww hS hd
      have ka := k0.kept hS
      have kb := k1.kept hS
      have kc := k2.kept hS
      have kd := k3.kept hS
      have ko := kO.kept hS
      have a0_ := ka.cell (i := 0) rfl
      have a1_ := ka.cell (i := 1) rfl
      have a2_ := ka.cell (i := 2) rfl
      have a3_ := ka.cell (i := 3) rfl
      have b0_ := kb.cell (i := 0) rfl
      have b1_ := kb.cell (i := 1) rfl
      have b2_ := kb.cell (i := 2) rfl
      have c0_ := kc.cell (i := 0) rfl
      have c1_ := kc.cell (i := 1) rfl
      have c2_ := kc.cell (i := 2) rfl
      have d0_ := kd.cell (i := 0) rfl
      have d1_ := kd.cell (i := 1) rfl
      have d2_ := kd.cell (i := 2) rfl
      have oa_ := ord_at ko ha4
      have ob_ := ord_at ko hb4
      rw [hu] at oa_
      rw [hv] at ob_
      rcases ix with _ | _ | _ | _ | _ | _ | _ | _ | _ | _ | _ | _ | _ | _ | ix
      · refine wpOp_list rfl ?_
        simp only [tmOf, putAll, List.map_cons, List.map_nil, List.setIfInBounds_toArray, List.set_cons_zero, List.set_cons_succ]
        go_wp2
        simp [upd, Below.refl]
      · refine wpOp_list rfl ?_
        simp only [tmOf, putAll, List.map_cons, List.map_nil, List.setIfInBounds_toArray, List.set_cons_zero, List.set_cons_succ]
        go_wp2
        simp [upd, Below.refl]
      · refine wpOp_list rfl ?_
        simp only [tmOf, putAll, List.map_cons, List.map_nil, List.setIfInBounds_toArray, List.set_cons_zero, List.set_cons_succ]
        go_wp2
        simp [upd, Below.refl]
      · have g0 : f 0 = .agg #[.int .i64 p.a, .int .i64 p.b, .int .i64 p.c, .int .i64 p.d] := hd 0 (by kernel_rfl)
        have g1 : f 1 = .agg #[.int .i64 vf.a, .int .i64 vf.b, .int .i64 vf.c] := hd 1 (by kernel_rfl)
        have g2 : f 2 = .agg #[.int .i64 x.a, .int .i64 x.b, .int .i64 x.c] := hd 2 (by kernel_rfl)
        refine wpOp_list rfl ?_
        simp only [tmOf, putAll, List.map_cons, List.map_nil, List.setIfInBounds_toArray, List.set_cons_zero, List.set_cons_succ]
        go_wp2_with fail
        refine (HA.out _).mono ?_
        rintro e' wf ⟨rfl, hbf⟩
        go_wp2_with fail
        simp [upd, g0, g1, g2, hbf]
      · have g3 : f 3 = .int .i64 (a : Int) := hd 3 (by kernel_rfl)
        refine wpOp_list rfl ?_
        simp only [tmOf, putAll, List.map_cons, List.map_nil, List.setIfInBounds_toArray, List.set_cons_zero, List.set_cons_succ]
        go_wp2
        simp [upd, g3, Below.refl]
      · have g4 : f 4 = .pointer (some ⟨w1.heap.size, a, none⟩) := hd 4 (by kernel_rfl)
        refine wpOp_list rfl ?_
        simp only [tmOf, putAll, List.map_cons, List.map_nil, List.setIfInBounds_toArray, List.set_cons_zero, List.set_cons_succ]
        go_wp2
        simp [upd, g4, Below.refl]
      · refine wpOp_list rfl ?_
        simp only [tmOf, putAll, List.map_cons, List.map_nil, List.setIfInBounds_toArray, List.set_cons_zero, List.set_cons_succ]
        go_wp2
        simp [upd, Below.refl]
      · refine wpOp_list rfl ?_
        simp only [tmOf, putAll, List.map_cons, List.map_nil, List.setIfInBounds_toArray, List.set_cons_zero, List.set_cons_succ]
        go_wp2
        simp [upd, Below.refl]
      · refine wpOp_list rfl ?_
        simp only [tmOf, putAll, List.map_cons, List.map_nil, List.setIfInBounds_toArray, List.set_cons_zero, List.set_cons_succ]
        go_wp2
        simp [upd, Below.refl]
      · have g6 : f 6 = .agg #[.int .i64 p.a, .int .i64 p.b, .int .i64 p.c, .int .i64 p.d] := hd 6 (by kernel_rfl)
        have g7 : f 7 = .agg #[.int .i64 vf.a, .int .i64 vf.b, .int .i64 vf.c] := hd 7 (by kernel_rfl)
        have g8 : f 8 = .agg #[.int .i64 y.a, .int .i64 y.b, .int .i64 y.c] := hd 8 (by kernel_rfl)
        refine wpOp_list rfl ?_
        simp only [tmOf, putAll, List.map_cons, List.map_nil, List.setIfInBounds_toArray, List.set_cons_zero, List.set_cons_succ]
        go_wp2_with fail
        refine (HB.out _).mono ?_
        rintro e' wf ⟨rfl, hbf⟩
        go_wp2_with fail
        simp [upd, g6, g7, g8, hbf]
      · have g9 : f 9 = .int .i64 (b : Int) := hd 9 (by kernel_rfl)
        refine wpOp_list rfl ?_
        simp only [tmOf, putAll, List.map_cons, List.map_nil, List.setIfInBounds_toArray, List.set_cons_zero, List.set_cons_succ]
        go_wp2
        simp [upd, g9, Below.refl]
      · have g10 : f 10 = .pointer (some ⟨w1.heap.size, b, none⟩) := hd 10 (by kernel_rfl)
        refine wpOp_list rfl ?_
        simp only [tmOf, putAll, List.map_cons, List.map_nil, List.setIfInBounds_toArray, List.set_cons_zero, List.set_cons_succ]
        go_wp2
        simp [upd, g10, Below.refl]
      · have g5 : f 5 = .int .i64 ou := hd 5 (by kernel_rfl)
        refine wpOp_list rfl ?_
        simp only [tmOf, putAll, List.map_cons, List.map_nil, List.setIfInBounds_toArray, List.set_cons_zero, List.set_cons_succ]
        go_wp2
        simp [upd, g5, Below.refl]
      · have g11 : f 11 = .int .i64 ov := hd 11 (by kernel_rfl)
        refine wpOp_list rfl ?_
        simp only [tmOf, putAll, List.map_cons, List.map_nil, List.setIfInBounds_toArray, List.set_cons_zero, List.set_cons_succ]
        go_wp2
        simp [upd, g11, Below.refl]
      · simp only [List.length_cons, List.length_nil] at hx; omega
    · rintro f' ww hS hd
      have g10 : f' 12 = .int .i64 ou := hd 12 (by decide)
      have g11 : f' 13 = .int .i64 ov := hd 13 (by decide)
      simp only [tmOf, putAll, List.map_cons, List.map_nil, List.setIfInBounds_toArray, List.set_cons_zero, List.set_cons_succ]
      refine ‹∀ (a' : Act) (w' : World), Met _ a' w' → _› _ _ ?_
      go_meet
      case rel => exact ⟨g10, g11, hS⟩
  case rest =>
  obtain ⟨rfl, rfl, hbx⟩ := hcut
  have k0 := k0.kept hbx
  have k2 := k2.kept hbx
  have k3 := k3.kept hbx
  have hb := hb.trans (hbx.mono hb.size)
  clear hbx hb1 HA HB k1 kO hu hv
  generalize wc = wy at *
  by_cases huv : ou = ov
  · have hR1 : R = decide (C = 3) := by rw [← HR.out, if_neg (fun h => h huv)]
    have HR1 := Lib.hid hR1
    have e1 : (ou != ov) = false := by simp [huv]
    clear hR1 HR huv
    have a0 := k0.cell (i := 0) rfl
    have a1 := k0.cell (i := 1) rfl
    have a2 := k0.cell (i := 2) rfl
    have a3 := k0.cell (i := 3) rfl
    have c0 := k2.cell (i := 0) rfl
    have c1 := k2.cell (i := 1) rfl
    have c2 := k2.cell (i := 2) rfl
    have d0 := k3.cell (i := 0) rfl
    have d1 := k3.cell (i := 1) rfl
    have d2 := k3.cell (i := 2) rfl
    go_wp2_with fail
    refine (HC.out _).mono ?_
    rintro e' wz ⟨rfl, hz⟩
    have hb := hb.trans (hz.mono hb.size)
    clear a0 a1 a2 a3 c0 c1 c2 d0 d1 d2 hz k0 k2 k3
    by_cases h3 : C = 3
    · have hR2 : R = true := by rw [HR1.out, decide_eq_true h3]
      have HR2 := Lib.hid hR2
      subst h3
      clear hR2 HR1 HC
      go_wp2_with fail
      go_ret
      exact ⟨by rw [HR2.out]; rfl, hb⟩
    · have hR2 : R = false := by rw [HR1.out, decide_eq_false h3]
      have HR2 := Lib.hid hR2
      have e3 : (C == 3) = false := by simp [h3]
      clear hR2 HR1 h3 HC
      go_wp2_with fail
      go_ret
      exact ⟨by rw [HR2.out]; rfl, hb⟩
  · have hR1 : R = decide (ou < ov) := by rw [← HR.out, if_pos huv]
    have HR1 := Lib.hid hR1
    have e1 : (ou != ov) = true := by simp [huv]
    clear hR1 HR huv HC
    by_cases hlt : ou < ov
    · have hR2 : R = true := by rw [HR1.out, decide_eq_true hlt]
      have HR2 := Lib.hid hR2
      clear hR2 HR1
      go_wp2_with fail
      go_ret
      exact ⟨by rw [HR2.out]; first | rfl | simp [hlt], hb⟩
    · have hR2 : R = false := by rw [HR1.out, decide_eq_false hlt]
      have HR2 := Lib.hid hR2
      clear hR2 HR1
      go_wp2_with fail
      go_ret
      exact ⟨by rw [HR2.out]; first | rfl | simp [hlt], hb⟩

set_option maxRecDepth 100000 in
set_option maxHeartbeats 8000000 in
theorem clockR_any (p : V4) (vf : V3) (a : Option Addr) (m c : Nat) (l : List V3) (w : World) (hl : l.length = m) (hm : m ≤ 1000000000) (hr : RdD w a l) (hp : RightQ p) (hf : isInB p vf = true) (hls : ∀ y ∈ l, isInB p y = true) (hne : l ≠ []) :
    Calls Tryz.prog 41 #[.agg #[.int .i64 p.a, .int .i64 p.b, .int .i64 p.c, .int .i64 p.d], .agg #[.int .i64 vf.a, .int .i64 vf.b, .int .i64 vf.c], .slice a m c] w fun e w' => e = .returned (.int .i64 (firstV (nrm p) vf l)) ∧ Below w.heap.size w w' := by
  have hlp : 0 < l.length := List.length_pos_iff.2 hne
  have hv := firstV_best (n := nrm p) (f := vf) hne
  rw [hl] at hv hlp
  rw [hv]
  obtain ⟨w1, hw1⟩ : ∃ w1, ((w.alloc (.cells #[.int .i64 p.a, .int .i64 p.b, .int .i64 p.c, .int .i64 p.d] 23)).alloc (.cells #[.int .i64 vf.a, .int .i64 vf.b, .int .i64 vf.c] 24)) = w1 := ⟨_, rfl⟩
  have hb1 : Below w.heap.size w w1 := by rw [← hw1]; exact bw2 w _ _
  have k0 : Blk w1 (w.heap.size) #[.int .i64 p.a, .int .i64 p.b, .int .i64 p.c, .int .i64 p.d] 23 := by rw [← hw1]; exact ((Blk.new w _ _).alloc _)
  have k1 : Blk w1 (w.heap.size + 1) #[.int .i64 vf.a, .int .i64 vf.b, .int .i64 vf.c] 24 := by rw [← hw1]; exact (Blk.new' _ _ _ (by simp))
  have HL := Lib.hid hl
  have HR := Lib.hid (hr.below hb1)
  have HF := Lib.hid (And.intro hp (And.intro hf hls))
  clear hl hr hp hf hls hne hv
  go_enter Tryz.func41, Tryz.ntmps41
  go_wp2_with fail
  go_loopg [7, 8] m (fun gk v7 v8 wr => ∃ i : Nat, 1 ≤ i ∧ i ≤ m ∧ gk = m + 1 - i ∧ v8 = .int .i64 (i : Int) ∧ v7 = .int .i64 ((bestN (nrm p) vf l (i - 1) : Nat) : Int) ∧ Below w1.heap.size w1 wr)
  case atStart => exact ⟨1, by omega, by omega, by omega, rfl, rfl, Below.refl _ _⟩
  case round =>
    obtain ⟨i, hi1, hi, hgk, rfl, rfl, hb⟩ := hrel
    have HGK := Lib.hid hgk
    clear hgk
    by_cases hlt : i < m
    · have hil : i < l.length := by rw [HL.out]; exact hlt
      have hlti : (i : Int) < (m : Int) := by omega
      obtain ⟨bb, off, rfl, hgb, g0, g1, g2⟩ := HR.out i _ (List.getElem?_eq_getElem hil)
      have hat : atV l i = l[i] := by unfold atV; rw [List.getElem?_eq_getElem hil]; rfl
      have hq := HF.out.2.2 _ (List.getElem_mem hil)
      have hbl := bestN_le (nrm p) vf l (i - 1)
      have hstep : bestN (nrm p) vf l i = if (if 3 - angV (nrm p) vf (atV l i) ≠ 3 - angV (nrm p) vf (atV l (bestN (nrm p) vf l (i - 1))) then decide (3 - angV (nrm p) vf (atV l i) < 3 - angV (nrm p) vf (atV l (bestN (nrm p) vf l (i - 1)))) else decide (angV (nrm p) (atV l i) (atV l (bestN (nrm p) vf l (i - 1))) = 3)) = true then i else bestN (nrm p) vf l (i - 1) := by
        obtain ⟨j, rfl⟩ : ∃ j, i = j + 1 := ⟨i - 1, by omega⟩
        rfl
      obtain ⟨k, hk⟩ : ∃ k, bestN (nrm p) vf l (i - 1) = k := ⟨_, rfl⟩
      rw [hk] at hbl hstep ⊢
      have hkm : k < m := by omega
      have hkmi : (k : Int) < (m : Int) := by omega
      have hkl : k < l.length := by rw [HL.out]; exact hkm
      have hatk : atV l k = l[k] := by unfold atV; rw [List.getElem?_eq_getElem hkl]; rfl
      have hu := HF.out.2.2 _ (List.getElem_mem hkl)
      obtain ⟨b2, off2, he, heb, e0, e1, e2⟩ := HR.out k _ (List.getElem?_eq_getElem hkl)
      cases he
      rw [hat, hatk] at hstep
      generalize l[k] = u at *
      generalize l[i] = q at *
      have hs := fun W => sooner_any p vf q u W HF.out.1 HF.out.2.1 hq hu
      obtain ⟨S, hS⟩ : ∃ S, (if 3 - angV (nrm p) vf q ≠ 3 - angV (nrm p) vf u then decide (3 - angV (nrm p) vf q < 3 - angV (nrm p) vf u) else decide (angV (nrm p) q u = 3)) = S := ⟨_, rfl⟩
      rw [hS] at hs hstep
      have HS := Lib.hid hs
      have HST := Lib.hid hstep
      clear hs hS hstep hq hu hat hatk hk hbl
      have g0 := (hb.cell (p := ⟨bb, off + i * 3, none⟩) hgb).trans g0
      have g1 := (hb.cell (p := ⟨bb, off + i * 3 + 1, none⟩) hgb).trans g1
      have g2 := (hb.cell (p := ⟨bb, off + i * 3 + 2, none⟩) hgb).trans g2
      have e0 := (hb.cell (p := ⟨bb, off + k * 3, none⟩) heb).trans e0
      have e1 := (hb.cell (p := ⟨bb, off + k * 3 + 1, none⟩) heb).trans e1
      have e2 := (hb.cell (p := ⟨bb, off + k * 3 + 2, none⟩) heb).trans e2
      have hgb := Nat.lt_of_lt_of_le hgb hb.size
      have heb := Nat.lt_of_lt_of_le heb hb.size
      have k0 := k0.kept hb
      have k1 := k1.kept hb
      go_upto_region 5 with fail
      go_cut [25] from 9 to 26 (fun v25 wx => v25 = .bool S ∧ Below wr.heap.size wr wx)
      case first =>
        refine wp_region_pure' (fun ix => match ix with | 0 => .agg #[.int .i64 p.a, .int .i64 p.b, .int .i64 p.c, .int .i64 p.d] | 1 => .agg #[.int .i64 vf.a, .int .i64 vf.b, .int .i64 vf.c] | 2 => .slice (some ⟨bb, off, none⟩) m c | 3 => .int .i64 (i : Int) | 4 => .pointer (some ⟨bb, off + i * 3, none⟩) | 5 => .agg #[.int .i64 q.a, .int .i64 q.b, .int .i64 q.c] | 6 => .slice (some ⟨bb, off, none⟩) m c | 7 => .int .i64 (k : Int) | 8 => .pointer (some ⟨bb, off + k * 3, none⟩) | 9 => .agg #[.int .i64 u.a, .int .i64 u.b, .int .i64 u.c] | _ => .bool S) (by kernel_rfl) (by kernel_rfl) ?_ ?_
        · rintro ix hx f ww hS hd
          have ka := k0.kept hS
          have kb := k1.kept hS
          have a0_ := ka.cell (i := 0) rfl
          have a1_ := ka.cell (i := 1) rfl
          have a2_ := ka.cell (i := 2) rfl
          have a3_ := ka.cell (i := 3) rfl
          have b0_ := kb.cell (i := 0) rfl
          have b1_ := kb.cell (i := 1) rfl
          have b2_ := kb.cell (i := 2) rfl
          have g0_ := (hS.cell (p := ⟨bb, off + i * 3, none⟩) hgb).trans g0
          have g1_ := (hS.cell (p := ⟨bb, off + i * 3 + 1, none⟩) hgb).trans g1
          have g2_ := (hS.cell (p := ⟨bb, off + i * 3 + 2, none⟩) hgb).trans g2
          have e0_ := (hS.cell (p := ⟨bb, off + k * 3, none⟩) heb).trans e0
          have e1_ := (hS.cell (p := ⟨bb, off + k * 3 + 1, none⟩) heb).trans e1
          have e2_ := (hS.cell (p := ⟨bb, off + k * 3 + 2, none⟩) heb).trans e2
          rcases ix with _ | _ | _ | _ | _ | _ | _ | _ | _ | _ | _ | ix
          · refine wpOp_list rfl ?_
            simp only [tmOf, putAll, List.map_cons, List.map_nil, List.setIfInBounds_toArray, List.set_cons_zero, List.set_cons_succ]
            go_wp2
            simp [upd, Below.refl]
          · refine wpOp_list rfl ?_
            simp only [tmOf, putAll, List.map_cons, List.map_nil, List.setIfInBounds_toArray, List.set_cons_zero, List.set_cons_succ]
            go_wp2
            simp [upd, Below.refl]
          · refine wpOp_list rfl ?_
            simp only [tmOf, putAll, List.map_cons, List.map_nil, List.setIfInBounds_toArray, List.set_cons_zero, List.set_cons_succ]
            go_wp2
            simp [upd, Below.refl]
          · refine wpOp_list rfl ?_
            simp only [tmOf, putAll, List.map_cons, List.map_nil, List.setIfInBounds_toArray, List.set_cons_zero, List.set_cons_succ]
            go_wp2
            simp [upd, Below.refl]
          · have g2 : f 2 = .slice (some ⟨bb, off, none⟩) m c := hd 2 (by kernel_rfl)
            have g3 : f 3 = .int .i64 (i : Int) := hd 3 (by kernel_rfl)
            refine wpOp_list rfl ?_
            simp only [tmOf, putAll, List.map_cons, List.map_nil, List.setIfInBounds_toArray, List.set_cons_zero, List.set_cons_succ]
            go_wp2
            simp [upd, g2, g3, Below.refl]
          · have g4 : f 4 = .pointer (some ⟨bb, off + i * 3, none⟩) := hd 4 (by kernel_rfl)
            refine wpOp_list rfl ?_
            simp only [tmOf, putAll, List.map_cons, List.map_nil, List.setIfInBounds_toArray, List.set_cons_zero, List.set_cons_succ]
            go_wp2
            simp [upd, g4, Below.refl]
          · refine wpOp_list rfl ?_
            simp only [tmOf, putAll, List.map_cons, List.map_nil, List.setIfInBounds_toArray, List.set_cons_zero, List.set_cons_succ]
            go_wp2
            simp [upd, Below.refl]
          · refine wpOp_list rfl ?_
            simp only [tmOf, putAll, List.map_cons, List.map_nil, List.setIfInBounds_toArray, List.set_cons_zero, List.set_cons_succ]
            go_wp2
            simp [upd, Below.refl]
          · have g6 : f 6 = .slice (some ⟨bb, off, none⟩) m c := hd 6 (by kernel_rfl)
            have g7 : f 7 = .int .i64 (k : Int) := hd 7 (by kernel_rfl)
            refine wpOp_list rfl ?_
            simp only [tmOf, putAll, List.map_cons, List.map_nil, List.setIfInBounds_toArray, List.set_cons_zero, List.set_cons_succ]
            go_wp2
            simp [upd, g6, g7, Below.refl]
          · have g8 : f 8 = .pointer (some ⟨bb, off + k * 3, none⟩) := hd 8 (by kernel_rfl)
            refine wpOp_list rfl ?_
            simp only [tmOf, putAll, List.map_cons, List.map_nil, List.setIfInBounds_toArray, List.set_cons_zero, List.set_cons_succ]
            go_wp2
            simp [upd, g8, Below.refl]
          · have g0 : f 0 = .agg #[.int .i64 p.a, .int .i64 p.b, .int .i64 p.c, .int .i64 p.d] := hd 0 (by kernel_rfl)
            have g1 : f 1 = .agg #[.int .i64 vf.a, .int .i64 vf.b, .int .i64 vf.c] := hd 1 (by kernel_rfl)
            have g5 : f 5 = .agg #[.int .i64 q.a, .int .i64 q.b, .int .i64 q.c] := hd 5 (by kernel_rfl)
            have g9 : f 9 = .agg #[.int .i64 u.a, .int .i64 u.b, .int .i64 u.c] := hd 9 (by kernel_rfl)
            refine wpOp_list rfl ?_
            simp only [tmOf, putAll, List.map_cons, List.map_nil, List.setIfInBounds_toArray, List.set_cons_zero, List.set_cons_succ]
            go_wp2_with fail
            refine (HS.out _).mono ?_
            rintro e' wf ⟨rfl, hbf⟩
            go_wp2_with fail
            simp [upd, g0, g1, g5, g9, hbf]
          · simp only [List.length_cons, List.length_nil] at hx; omega
        · rintro f' ww hS hd
          have gl : f' 10 = .bool S := hd 10 (by decide)
          simp only [tmOf, putAll, List.map_cons, List.map_nil, List.setIfInBounds_toArray, List.set_cons_zero, List.set_cons_succ]
          refine ‹∀ (a' : Act) (w' : World), Met _ a' w' → _› _ _ ?_
          go_meet
          case rel => exact ⟨gl, hS⟩
      case rest =>
      obtain ⟨rfl, hbx⟩ := hcut
      have hb := hb.trans (hbx.mono hb.size)
      clear hbx k0 k1 g0 g1 g2 e0 e1 e2 hgb heb HS
      cases S with
      | true =>
        go_wp2_with fail
        go_roundg (m + 1 - (i + 1))
        case measure => rw [HGK.out]; omega
        case rel => exact ⟨i + 1, by omega, by omega, rfl, by go_num, by rw [Nat.add_sub_cancel, HST.out]; simp, hb⟩
      | false =>
        go_wp2_with fail
        go_roundg (m + 1 - (i + 1))
        case measure => rw [HGK.out]; omega
        case rel => exact ⟨i + 1, by omega, by omega, rfl, by go_num, by rw [Nat.add_sub_cancel, HST.out]; simp, hb⟩
    · obtain rfl : i = m := by omega
      go_wp2_with fail
      go_ret
      exact ⟨rfl, hb1.trans (hb.mono hb1.size)⟩

end Go.Proofs.YtimkeblcdodfmaaGreat

namespace Go.Proofs.YtimkeblcdodfmaaGreat
open Go.RowKit Go.Shelf

theorem RdD.empty {W : World} {p : Option Addr} : RdD W p [] := fun i q hi => by simp at hi
/-- The block's first cells are these; they may be written. -/
def RowD (W : World) (B : Nat) (l : List V3) : Prop :=
  B < W.heap.size ∧ ∀ i q, l[i]? = some q → (W.cell? ⟨B, i * 3, none⟩ = some (.int .i64 q.a) ∧ W.cell? ⟨B, i * 3 + 1, none⟩ = some (.int .i64 q.b) ∧ W.cell? ⟨B, i * 3 + 2, none⟩ = some (.int .i64 q.c)) ∧
    (W.frozen? ⟨B, i * 3, none⟩ = false ∧ W.frozen? ⟨B, i * 3 + 1, none⟩ = false ∧ W.frozen? ⟨B, i * 3 + 2, none⟩ = false)
theorem RowD.rdD {W : World} {B : Nat} {l : List V3} (h : RowD W B l) : RdD W (some ⟨B, 0, none⟩) l := by
  intro i q hi
  obtain ⟨h0, h1, h2⟩ := (h.2 i q hi).1
  exact ⟨B, 0, rfl, h.1, by rw [Nat.zero_add]; exact h0, by rw [Nat.zero_add]; exact h1, by rw [Nat.zero_add]; exact h2⟩
theorem RowD.of_block {W W' : World} {B : Nat} {l : List V3} (h : RowD W B l) (hs : W.heap.size ≤ W'.heap.size) (hb : W'.heap[B]? = W.heap[B]?) : RowD W' B l := by
  refine ⟨Nat.lt_of_lt_of_le h.1 hs, fun i q hi => ?_⟩
  obtain ⟨⟨h0, h1, h2⟩, f0, f1, f2⟩ := h.2 i q hi
  have hc : ∀ o, W'.cell? ⟨B, o, none⟩ = W.cell? ⟨B, o, none⟩ := fun o => World.cell?_of_block hb
  have hf : ∀ o, W'.frozen? ⟨B, o, none⟩ = W.frozen? ⟨B, o, none⟩ := fun o => World.frozen?_of_block hb
  exact ⟨⟨(hc _).trans h0, (hc _).trans h1, (hc _).trans h2⟩, (hf _).trans f0, (hf _).trans f1, (hf _).trans f2⟩
theorem RowD.below {W W' : World} {B : Nat} {l : List V3} (h : RowD W B l) (hb : Below W.heap.size W W') : RowD W' B l := h.of_block hb.size (hb.block B h.1)
theorem RowD.other {W : World} {B C : Nat} {l : List V3} (h : RowD W B l) (o : Nat) (v : Value) (hne : C ≠ B) : RowD (W.setCell ⟨C, o, none⟩ v) B l :=
  h.of_block (by simp [World.setCell]) (Below.heap_setCell _ _ _ _ (by simpa using Ne.symm hne))
theorem RowD.take {W : World} {B : Nat} {l : List V3} (h : RowD W B l) (n : Nat) : RowD W B (l.take n) := by
  refine ⟨h.1, fun i q hi => h.2 i q ?_⟩
  by_cases hn : i < n
  · rwa [List.getElem?_take_of_lt hn] at hi
  · rw [List.getElem?_take_eq_none (by omega)] at hi; cases hi
/-- A store at place k. -/
theorem RowD.set {W : World} {B : Nat} {l : List V3} (h : RowD W B l) {k : Nat} (hk : k < l.length) (q : V3) :
    RowD (((W.setCell ⟨B, k * 3, none⟩ (.int .i64 q.a)).setCell ⟨B, k * 3 + 1, none⟩ (.int .i64 q.b)).setCell ⟨B, k * 3 + 2, none⟩ (.int .i64 q.c)) B (l.set k q) := by
  refine ⟨by simpa [World.setCell] using h.1, fun i p hi => ?_⟩
  have hfr : ∀ o, (((W.setCell ⟨B, k * 3, none⟩ (.int .i64 q.a)).setCell ⟨B, k * 3 + 1, none⟩ (.int .i64 q.b)).setCell ⟨B, k * 3 + 2, none⟩ (.int .i64 q.c)).frozen? ⟨B, o, none⟩ = W.frozen? ⟨B, o, none⟩ := fun o => by simp only [World.frozen?_setCell]
  have hkk := (h.2 k l[k] (List.getElem?_eq_getElem hk)).1
  have ha : ∀ (X : World) (a b : Nat) (v : Value), a ≠ b → (X.setCell ⟨B, a, none⟩ v).cell? ⟨B, b, none⟩ = X.cell? ⟨B, b, none⟩ := fun X a b v hab => World.cell?_setCell_other _ _ _ _ (by intro e; cases e; exact hab rfl)
  have hs : ∀ (X : World) (a : Nat) (v u : Value), X.cell? ⟨B, a, none⟩ = some u → (X.setCell ⟨B, a, none⟩ v).cell? ⟨B, a, none⟩ = some v := fun X a v u hu => World.cell?_setCell_same _ _ _ (by rw [hu])
  simp only [hfr]
  by_cases hik : k = i
  · subst hik
    rw [List.getElem?_set_self hk] at hi
    cases hi
    obtain ⟨c0, c1, c2⟩ := hkk
    refine ⟨⟨?_, ?_, ?_⟩, (h.2 k _ (List.getElem?_eq_getElem hk)).2⟩
    · rw [ha _ _ _ _ (by omega), ha _ _ _ _ (by omega)]; exact hs _ _ _ _ c0
    · rw [ha _ _ _ _ (by omega)]; exact hs _ _ _ _ (by rw [ha _ _ _ _ (by omega)]; exact c1)
    · exact hs _ _ _ _ (by rw [ha _ _ _ _ (by omega), ha _ _ _ _ (by omega)]; exact c2)
  · rw [List.getElem?_set_ne hik] at hi
    have hx := h.2 i p hi
    refine ⟨?_, hx.2⟩
    obtain ⟨c0, c1, c2⟩ := hx.1
    refine ⟨?_, ?_, ?_⟩ <;> (rw [ha _ _ _ _ (by omega), ha _ _ _ _ (by omega), ha _ _ _ _ (by omega)]; assumption)

/-- Three numbers as cells. -/
def encD (q : V3) : List Value := [.int .i64 q.a, .int .i64 q.b, .int .i64 q.c]
theorem encD_len (q : V3) : (encD q).length = 3 := rfl
def flatD (l : List V3) : List Value := l.flatMap encD
theorem flatD_len (l : List V3) : (flatD l).length = l.length * 3 := by
  induction l with
  | nil => rfl
  | cons q r ih => unfold flatD at *; rw [List.flatMap_cons, List.length_append, ih, encD_len, List.length_cons]; omega
theorem flatD_append (a b : List V3) : flatD (a ++ b) = flatD a ++ flatD b := by unfold flatD; rw [List.flatMap_append]
theorem flatD_at {l : List V3} {i : Nat} {q : V3} (h : l[i]? = some q) {c : Nat} (hc : c < 3) : (flatD l)[i * 3 + c]? = (encD q)[c]? := by
  induction l generalizing i with
  | nil => simp at h
  | cons p r ih =>
    show (encD p ++ flatD r)[i * 3 + c]? = _
    cases i with
    | zero =>
      simp only [List.getElem?_cons_zero, Option.some.injEq] at h
      subst h
      rw [Nat.zero_mul, Nat.zero_add, List.getElem?_append_left (by rw [encD_len]; exact hc)]
    | succ i =>
      rw [List.getElem?_cons_succ] at h
      rw [List.getElem?_append_right (by rw [encD_len]; omega), encD_len, show (i + 1) * 3 + c - 3 = i * 3 + c by omega]
      exact ih h
theorem flatD_one (l : List V3) : ∀ u ∈ flatD l, u.oneCell' = true := by
  intro u hu
  obtain ⟨q, _, hq⟩ := List.mem_flatMap.1 hu
  unfold encD at hq
  simp at hq
  rcases hq with rfl | rfl | rfl <;> rfl
/-- The cells of a slice of them. -/
theorem RdD.cells {W : World} {b off : Nat} {l : List V3} (h : RdD W (some ⟨b, off, none⟩) l) : ∀ j u, (flatD l)[j]? = some u → W.cell? ⟨b, off + j, none⟩ = some u := by
  intro j u hj
  have hlt := (List.getElem?_eq_some_iff.1 hj).1
  rw [flatD_len] at hlt
  have hi : j / 3 < l.length := by omega
  obtain ⟨q, hq⟩ : ∃ q, l[j / 3]? = some q := ⟨_, List.getElem?_eq_getElem hi⟩
  obtain ⟨b', off', e, _, h0, h1, h2⟩ := h (j / 3) q hq
  cases e
  clear hi hlt
  obtain ⟨m, hm⟩ : ∃ m, j / 3 = m := ⟨_, rfl⟩
  rw [hm] at h0 h1 h2 hq
  have h4 : j % 3 = 0 ∨ j % 3 = 1 ∨ j % 3 = 2 := by omega
  rcases h4 with e | e | e
  · have ej : j = m * 3 + 0 := by omega
    subst ej
    rw [flatD_at hq (by decide)] at hj
    cases hj
    exact h0
  · have ej : j = m * 3 + 1 := by omega
    subst ej
    rw [flatD_at hq (by decide)] at hj
    cases hj
    rw [← Nat.add_assoc]; exact h1
  · have ej : j = m * 3 + 2 := by omega
    subst ej
    rw [flatD_at hq (by decide)] at hj
    cases hj
    rw [← Nat.add_assoc]; exact h2
/-- A block whose first cells these are. -/
theorem RowD.of_cells {W : World} {B : Nat} {l : List V3} {cur : Array Value} {e : TypeId} (hb : W.heap[B]? = some (.cells cur e (0, 0))) (ht : cur.toList.take (l.length * 3) = flatD l) : RowD W B l := by
  refine ⟨(Array.getElem?_eq_some_iff.1 hb).1, fun i q hi => ?_⟩
  have hil := (List.getElem?_eq_some_iff.1 hi).1
  have hc : ∀ c, c < 3 → W.cell? ⟨B, i * 3 + c, none⟩ = (encD q)[c]? := by
    intro c hc
    have := flatD_at hi hc
    rw [← ht, List.getElem?_take_of_lt (by omega)] at this
    unfold World.cell?
    simp only [hb]
    simpa using this
  have hf : ∀ o, W.frozen? ⟨B, o, none⟩ = false := fun o => by unfold World.frozen?; simp [hb]
  exact ⟨⟨hc 0 (by decide), hc 1 (by decide), hc 2 (by decide)⟩, hf _, hf _, hf _⟩

theorem Tryz.infoVD : (Tryz.prog.info? 24).map (fun i => (i.zero, i.size, i.bytes)) = some (some (.agg #[.int .i64 0, .int .i64 0, .int .i64 0]), 3, 24) := by kernel_rfl
/-- A row of the call's own. -/
def GrVD (w : World) (base : Nat) (v : Value) (l : List V3) : Prop := OwnQ w base 24 3 v l.length (flatD l) (fun _ => True)
theorem GrVD.nil (w : World) (base : Nat) : GrVD w base (.slice none 0 0) [] := OwnQ.nil _ _ _ _ _
theorem GrVD.below {w w' : World} {base : Nat} {v : Value} {l : List V3} (h : GrVD w base v l) (hb : Below w.heap.size w w') : GrVD w' base v l := OwnQ.below h hb
theorem GrVD.row {w : World} {base : Nat} {v : Value} {l : List V3} (h : GrVD w base v l) : (v = .slice none 0 0 ∧ l = []) ∨ ∃ g c, v = .slice (some ⟨g, 0, none⟩) l.length c ∧ base ≤ g ∧ l.length ≤ c ∧ RowD w g l := by
  rcases h.1.2 with ⟨rfl, h0⟩ | ⟨g, cap, cur, rfl, hb, hg, hc, _, _, ht⟩
  · exact .inl ⟨rfl, List.length_eq_zero_iff.1 h0⟩
  · exact .inr ⟨g, cap, rfl, hb, hc, RowD.of_cells hg ht⟩

/-- append(row, seg...), as the walk meets it. -/
theorem pushVD_law {ops : Array Oper} {Q : Exit → Act → World → Prop} {o : Oper} {rest : List Oper} {a : Act} {W : World} (hgd : o.guard = none) (s x : Operand)
    (ho : o.op = .call { callee := .builtin .append, args := #[s, x], argTypes := #[69, 69] }) {base : Nat} {v : Value} {l seg : List V3} (hs : a.eval s = v) (h : GrVD W base v l)
    {b off n c : Nat} (hn : seg.length = n) (hr : RdD W (some ⟨b, off, none⟩) seg) (hx : a.eval x = .slice (some ⟨b, off, none⟩) n c) (hl : l.length ≤ 1000000000) (hl2 : n ≤ 1000000000) (hbase : base ≤ W.heap.size)
    (k : ∀ v' w', GrVD w' base v' (l ++ seg) → Below base W w' → wpList Tryz.prog ops Q rest (a.put o.dst v') w') : wpList Tryz.prog ops Q (o :: rest) a W := by
  subst hn
  obtain ⟨i0, hi, hz0, hz1, hz2⟩ := info_parts Tryz.infoVD
  refine wpList_append_q hgd s x 69 ho base 24 i0 (.agg #[.int .i64 0, .int .i64 0, .int .i64 0]) 3 24 Tryz.underlying69 hi hz0 hz1 hz2 rfl (fun _ => True) (fun _ _ => trivial) v l.length (flatD l) hs h ⟨b, off, none⟩ seg.length c (flatD seg) hx (flatD_len seg)
    (by intro j u hj; rw [Go.WideShapes.add_plain]; exact hr.cells j u hj) (flatD_one seg) (fun _ _ => trivial) (by unfold maxLen; omega) (by omega) hbase ?_
  intro v' w' h3 hg
  refine k v' w' ?_ (h.base_below hg hbase)
  unfold GrVD
  rw [List.length_append, flatD_append]; exact h3

/-- The law's own row, or none. -/
def RdY (base : Nat) (W : World) (p : Option Addr) (xs : List V3) : Prop := xs = [] ∨ ∃ g, p = some ⟨g, 0, none⟩ ∧ base ≤ g ∧ RowD W g xs
theorem RdY.below {base : Nat} {W W' : World} {p : Option Addr} {xs : List V3} (h : RdY base W p xs) (hb : Below W.heap.size W W') : RdY base W' p xs := by
  rcases h with h | ⟨g, e, hg, hr⟩
  · exact .inl h
  · exact .inr ⟨g, e, hg, hr.below hb⟩
theorem RdY.rd {base : Nat} {W : World} {p : Option Addr} {xs : List V3} (h : RdY base W p xs) : RdD W p xs := by
  rcases h with rfl | ⟨g, rfl, hg, hr⟩
  · exact RdD.empty
  · exact hr.rdD
theorem RdY.other {base : Nat} {W : World} {p : Option Addr} {xs : List V3} (h : RdY base W p xs) (C o : Nat) (v : Value) (hC : C < base) : RdY base (W.setCell ⟨C, o, none⟩ v) p xs := by
  rcases h with h | ⟨g, e, hg, hr⟩
  · exact .inl h
  · exact .inr ⟨g, e, hg, hr.other o v (by omega)⟩
theorem made_flatD (n : Nat) : (Go.madeCells #[Value.int .i64 0, .int .i64 0, .int .i64 0] (n * 3)).toList = flatD (List.replicate n ⟨0, 0, 0⟩) := by
  have h1 : (Go.madeCells #[Value.int .i64 0, .int .i64 0, .int .i64 0] (n * 3)).toList = List.replicate (n * 3) (.int .i64 0) := by
    rw [List.eq_replicate_iff]
    refine ⟨by simp [Go.madeCells], fun u hu => ?_⟩
    unfold Go.madeCells at hu
    simp only [Array.toList_map, Array.toList_range, List.mem_map, List.mem_range] at hu
    obtain ⟨i, _, rfl⟩ := hu
    have h4 : i % 3 = 0 ∨ i % 3 = 1 ∨ i % 3 = 2 := by omega
    rcases h4 with e | e | e <;> simp [e]
  have h2 : flatD (List.replicate n ⟨0, 0, 0⟩) = List.replicate (n * 3) (.int .i64 0) := by
    rw [List.eq_replicate_iff]
    refine ⟨by rw [flatD_len, List.length_replicate], fun u hu => ?_⟩
    unfold flatD at hu
    rw [List.mem_flatMap] at hu
    obtain ⟨q, hq, hu⟩ := hu
    rw [List.eq_of_mem_replicate hq] at hu
    unfold encD at hu
    simp at hu
    exact hu
  rw [h1, h2]
theorem mkVecs (w : World) : ∃ w', (Instr.makeSlice 69 (.int .i64 1001) (.int .i64 1001)).run Tryz.prog w = .ok (.slice (some ⟨w.heap.size, 0, none⟩) 1001 1001) w' ∧ RowD w' w.heap.size (List.replicate 1001 ⟨0, 0, 0⟩) ∧ Below w.heap.size w w' := by
  obtain ⟨i0, hi, hz0, hz1, hz2⟩ := info_parts Tryz.infoVD
  obtain ⟨w', h1, h2, h3⟩ := run_makeSlice_full (P := Tryz.prog) (w := w) w.heap.size 69 24 i0 (.agg #[.int .i64 0, .int .i64 0, .int .i64 0]) 3 Tryz.underlying69 hi hz0 hz1 .i64 .i64 1001 (by decide) (by rw [hz2]; decide) (by unfold maxLen; omega) (Nat.le_refl _)
  refine ⟨w', h1, ?_, ⟨h3.os, h3.tape, h3.output, h3.size, fun k hk => h3.block k hk (by simp)⟩⟩
  rcases h2.2 with ⟨e, _⟩ | ⟨g, cap, cur, e, _, hg, _, _, _, ht⟩
  · cases e
  · cases e
    refine RowD.of_cells hg ?_
    rw [List.length_replicate, ht, ← made_flatD]
    rfl

end Go.Proofs.YtimkeblcdodfmaaGreat

namespace Go.Proofs.YtimkeblcdodfmaaGreat
open Go.RowKit

/-- The last operation comes behind all others. -/
def lastB (l : List Oper) (n0 : Nat) : Bool := (List.range n0).all fun j => depB l n0 j
theorem lastB_dep {l : List Oper} {n0 j : Nat} (h : lastB l n0 = true) (hj : j < n0) : depB l n0 j = true := by
  unfold lastB at h
  rw [List.all_eq_true] at h
  exact h j (List.mem_range.2 hj)

section
variable {P : Program} {Q : Exit → Act → World → Prop}
theorem wp_region_last {id : Nat} {l : List Oper} {a : Act} {w : World} (n0 : Nat) (vs : Nat → Value) (hm : P.follows .mixedOrders = true) (hE : earlierB l = true) (hn0 : l.length = n0 + 1) (hT : lastB l n0 = true)
    (step : ∀ i, i < n0 → ∀ f w', Below w.heap.size w w' → (∀ j, depB l i j = true → j < n0 → f j = vs j) → wpOp P l.toArray Q i (fun a' w'' => a' = tmOf a (l.take n0) (upd f i (vs i)) ∧ Below w'.heap.size w' w'') (tmOf a (l.take n0) f) w')
    (last : ∀ f w', Below w.heap.size w w' → (∀ j, j < n0 → f j = vs j) → wpOp P l.toArray Q n0 (fun a' w'' => Q .normal a' w'') (tmOf a (l.take n0) f) w') : (Code.region id l.toArray true).wp P Q a w := by
  refine wp_region_inv hm hE (fun L a' w' => ((L n0 = false ∧ ∃ f, a' = tmOf a (l.take n0) f ∧ Below w.heap.size w w' ∧ ∀ j, j < n0 → L j = true → f j = vs j) ∨ (L n0 = true ∧ (∀ j, j < n0 → L j = true) ∧ Q .normal a' w')))
    (.inl ⟨rfl, _, (tmOf_same a (l.take n0)).symm, (Below.refl _ _).drew, fun _ _ h => by cases h⟩) ?_ ?_
  · rintro L i a' w' (⟨h0, f, rfl, hb, hf⟩ | ⟨h0, hall, _⟩) hi hL hd
    · by_cases hin : i < n0
      · refine wpOp_mono (fun a' w'' h => ?_) (step i hin f w' hb (fun j hj hjn => hf j hjn (depsB_dep hd hj)))
        obtain ⟨rfl, hb2⟩ := h
        refine .inl ⟨?_, _, rfl, hb.trans (hb2.mono hb.size), fun j hj hLj => ?_⟩
        · have : (n0 == i) = false := by simp; omega
          simp [h0, this]
        · by_cases e : j = i
          · subst e; simp [upd]
          · simp only [upd, if_neg e]
            exact hf j hj (by simpa [e] using hLj)
      · obtain rfl : i = n0 := by omega
        have hLs : ∀ j, j < i → L j = true := fun j hj => depsB_dep hd (lastB_dep hT hj)
        refine wpOp_mono (fun a' w'' h => ?_) (last f w' hb (fun j hj => hf j hj (hLs j hj)))
        exact .inr ⟨by simp, fun j hj => by simp [hLs j hj], h⟩
    · exfalso
      by_cases hin : i < n0
      · rw [hall i hin] at hL; cases hL
      · obtain rfl : i = n0 := by omega
        rw [h0] at hL; cases hL
  · rintro L a' w' hall (⟨h0, _⟩ | ⟨_, _, h⟩)
    · rw [hall n0 (by omega)] at h0; cases h0
    · exact h
end

end Go.Proofs.YtimkeblcdodfmaaGreat
