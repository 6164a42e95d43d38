/-
  The reference of lines: the direction, what lies to the left; Law 5: the first error of planes; A region that draws, over a long frame: operations that their guards keep from being done.
-/
import Derived.Test.YtimkeblcdodfmaaGreatK1
import Derived.Test.YtimkeblcdodfmaaGreatK2
import Derived.Test.YtimkeblcdodfmaaGreatK3
import Derived.Test.YtimkeblcdodfmaaGreatK4
import Derived.Test.YtimkeblcdodfmaaGreatK5
import Derived.Test.YtimkeblcdodfmaaGreatK6
import Derived.Test.YtimkeblcdodfmaaGreatK7
import Derived.Test.YtimkeblcdodfmaaGreatK8
import Derived.Test.YtimkeblcdodfmaaGreatK9
import Derived.Test.YtimkeblcdodfmaaGreatK10
import Derived.Test.YtimkeblcdodfmaaGreatK11
import Derived.Test.YtimkeblcdodfmaaGreatK12
import Derived.Test.YtimkeblcdodfmaaGreatK13
import Derived.Test.YtimkeblcdodfmaaGreatK14
import Derived.Test.YtimkeblcdodfmaaGreatK15
import Derived.Test.YtimkeblcdodfmaaGreatK16
import Derived.Test.YtimkeblcdodfmaaGreatK17
import Derived.Test.YtimkeblcdodfmaaGreatK18
import Derived.Test.YtimkeblcdodfmaaGreatK19
import Derived.Test.YtimkeblcdodfmaaGreatK20
import Derived.Test.YtimkeblcdodfmaaGreatK21
import Derived.Test.YtimkeblcdodfmaaGreatK22
import Derived.Test.YtimkeblcdodfmaaGreatK23
import Derived.Test.YtimkeblcdodfmaaGreatK24
namespace Go.Proofs.YtimkeblcdodfmaaGreat
open Go.RowKit Go.Shelf
attribute [local go_sem] Oper.semAt_some

set_option maxRecDepth 100000 in
set_option maxHeartbeats 4000000 in
theorem crsWR_any (u v : V3) (w : World) : Calls Tryz.prog 53 #[.agg #[.int .i64 u.a, .int .i64 u.b, .int .i64 u.c], .agg #[.int .i64 v.a, .int .i64 v.b, .int .i64 v.c]] w fun e w' => e = .returned (.agg #[.int .i64 (crsW u v).a, .int .i64 (crsW u v).b, .int .i64 (crsW u v).c]) ∧ Below w.heap.size w w' := by
  obtain ⟨w1, hw1⟩ : ∃ w1, (((w.alloc (.cells #[.int .i64 u.a, .int .i64 u.b, .int .i64 u.c] 24)).alloc (.cells #[.int .i64 v.a, .int .i64 v.b, .int .i64 v.c] 24)).alloc (.cells #[.int .i64 0, .int .i64 0, .int .i64 0] 24)) = w1 := ⟨_, rfl⟩
  have hb1 : Below w.heap.size w w1 := by rw [← hw1]; exact bw3 w _ _ _
  have k0 : Blk w1 (w.heap.size) #[.int .i64 u.a, .int .i64 u.b, .int .i64 u.c] 24 := by rw [← hw1]; exact (((Blk.new w _ _).alloc _).alloc _)
  have k1 : Blk w1 (w.heap.size + 1) #[.int .i64 v.a, .int .i64 v.b, .int .i64 v.c] 24 := by rw [← hw1]; exact ((Blk.new' _ _ _ (by simp)).alloc _)
  have kR : Blk w1 (w.heap.size + 1 + 1) #[.int .i64 0, .int .i64 0, .int .i64 0] 24 := by rw [← hw1]; exact (Blk.new' _ _ _ (by simp))
  unfold crsW
  have c0 := k0.cell (i := 0) rfl
  have g0 := k1.cell (i := 0) rfl
  have d0 := kR.cell (i := 0) rfl
  have q0 := kR.frozen 0
  have c1 := k0.cell (i := 1) rfl
  have g1 := k1.cell (i := 1) rfl
  have d1 := kR.cell (i := 1) rfl
  have q1 := kR.frozen 1
  have c2 := k0.cell (i := 2) rfl
  have g2 := k1.cell (i := 2) rfl
  have d2 := kR.cell (i := 2) rfl
  have q2 := kR.frozen 2
  go_enter Tryz.func53, Tryz.ntmps53
  go_wp2_with fail
  have L := Blk.put3 kR (.int .i64 (wrap64 (wrap64 (u.b * v.c) - wrap64 (u.c * v.b)))) (.int .i64 (wrap64 (wrap64 (u.c * v.a) - wrap64 (u.a * v.c)))) (.int .i64 (wrap64 (wrap64 (u.a * v.b) - wrap64 (u.b * v.a))))
  have z0 := L.cell (i := 0) rfl
  have z1 := L.cell (i := 1) rfl
  have z2 := L.cell (i := 2) rfl
  exact bodyPost_ret (v := .agg #[.int .i64 (wrap64 (wrap64 (u.b * v.c) - wrap64 (u.c * v.b))), .int .i64 (wrap64 (wrap64 (u.c * v.a) - wrap64 (u.a * v.c))), .int .i64 (wrap64 (wrap64 (u.a * v.b) - wrap64 (u.b * v.a)))]) (by simp [results, Tryz.results53, go_sem, z0, z1, z2]) rfl ⟨rfl, ((hb1.setCell (by simp only; omega) _).setCell (by simp only; omega) _).setCell (by simp only; omega) _⟩

set_option maxRecDepth 100000 in
set_option maxHeartbeats 4000000 in
theorem dotWR_any (u v : V3) (w : World) : Calls Tryz.prog 16 #[.agg #[.int .i64 u.a, .int .i64 u.b, .int .i64 u.c], .agg #[.int .i64 v.a, .int .i64 v.b, .int .i64 v.c]] w fun e w' => e = .returned (.int .i64 (dotW u v)) ∧ Below w.heap.size w w' := by
  obtain ⟨w1, hw1⟩ : ∃ w1, ((w.alloc (.cells #[.int .i64 u.a, .int .i64 u.b, .int .i64 u.c] 24)).alloc (.cells #[.int .i64 v.a, .int .i64 v.b, .int .i64 v.c] 24)) = w1 := ⟨_, rfl⟩
  have hb1 : Below w.heap.size w w1 := by rw [← hw1]; exact bw2 w _ _
  have k0 : Blk w1 (w.heap.size) #[.int .i64 u.a, .int .i64 u.b, .int .i64 u.c] 24 := by rw [← hw1]; exact ((Blk.new w _ _).alloc _)
  have k1 : Blk w1 (w.heap.size + 1) #[.int .i64 v.a, .int .i64 v.b, .int .i64 v.c] 24 := by rw [← hw1]; exact (Blk.new' _ _ _ (by simp))
  unfold dotW
  have c0 := k0.cell (i := 0) rfl
  have g0 := k1.cell (i := 0) rfl
  have c1 := k0.cell (i := 1) rfl
  have g1 := k1.cell (i := 1) rfl
  have c2 := k0.cell (i := 2) rfl
  have g2 := k1.cell (i := 2) rfl
  go_enter Tryz.func16, Tryz.ntmps16
  go_wp2_with fail
  go_ret
  exact ⟨rfl, hb1⟩
theorem crsR_any (u v : V3) (m n : Nat) (w : World) (hu : Far u m) (hv : Far v n) (hmn : m * n ≤ 4000000000000000000) : Calls Tryz.prog 53 #[.agg #[.int .i64 u.a, .int .i64 u.b, .int .i64 u.c], .agg #[.int .i64 v.a, .int .i64 v.b, .int .i64 v.c]] w fun e w' => e = .returned (.agg #[.int .i64 (crsV u v).a, .int .i64 (crsV u v).b, .int .i64 (crsV u v).c]) ∧ Below w.heap.size w w' := by
  rw [← crsW_eq hu hv hmn]; exact crsWR_any u v w
theorem dotR_any (u v : V3) (m n : Nat) (w : World) (hu : Far u m) (hv : Far v n) (hmn : m * n ≤ 3000000000000000000) : Calls Tryz.prog 16 #[.agg #[.int .i64 u.a, .int .i64 u.b, .int .i64 u.c], .agg #[.int .i64 v.a, .int .i64 v.b, .int .i64 v.c]] w fun e w' => e = .returned (.int .i64 (dotV u v)) ∧ Below w.heap.size w w' := by
  rw [← dotW_eq hu hv hmn]; exact dotWR_any u v w


theorem normalR_any (p : V4) (W : World) : Calls Tryz.prog 17 #[.agg #[.int .i64 p.a, .int .i64 p.b, .int .i64 p.c, .int .i64 p.d]] W fun e w' => e = .returned (.agg #[.int .i64 (nrm p).a, .int .i64 (nrm p).b, .int .i64 (nrm p).c]) ∧ Below W.heap.size W w' := normal3_any p.a p.b p.c p.d W
theorem signR_any (x : Int) (W : World) : Calls Tryz.prog 15 #[.int .i64 x] W fun e w' => e = .returned (.int .i64 (sgnI x)) ∧ Below W.heap.size W w' := (sign3_any x W).mono fun e w' h => ⟨h.1, h.2 ▸ Below.refl _ _⟩
theorem quo_lowR {x : Int} {g : Nat} (h : x.natAbs ≤ 2000000) : wrap64 (x.tdiv (g : Int)) = x.tdiv (g : Int) := by
  have := tdiv_abs x g
  exact wrap_id (by omega)

set_option maxRecDepth 100000 in
set_option maxHeartbeats 8000000 in
theorem directionR_any (p q : V4) (w : World) (hp : RightQ p) (hq : RightQ q) (hne : crsV (nrm p) (nrm q) ≠ ⟨0, 0, 0⟩) :
    Calls Tryz.prog 14 #[.agg #[.int .i64 p.a, .int .i64 p.b, .int .i64 p.c, .int .i64 p.d], .agg #[.int .i64 q.a, .int .i64 q.b, .int .i64 q.c, .int .i64 q.d]] w fun e w' => e = .returned (.agg #[.int .i64 (dirV p q).a, .int .i64 (dirV p q).b, .int .i64 (dirV p q).c]) ∧ Below w.heap.size w w' := by
  obtain ⟨w1, hw1⟩ : ∃ w1, (((w.alloc (.cells #[.int .i64 p.a, .int .i64 p.b, .int .i64 p.c, .int .i64 p.d] 23)).alloc (.cells #[.int .i64 q.a, .int .i64 q.b, .int .i64 q.c, .int .i64 q.d] 23)).alloc (.cells #[.int .i64 0, .int .i64 0, .int .i64 0] 24)) = w1 := ⟨_, rfl⟩
  have hb1 : Below w.heap.size w w1 := by rw [← hw1]; exact bw3 w _ _ _
  have k0 : Blk w1 (w.heap.size) #[.int .i64 p.a, .int .i64 p.b, .int .i64 p.c, .int .i64 p.d] 23 := by rw [← hw1]; exact (((Blk.new w _ _).alloc _).alloc _)
  have k1 : Blk w1 (w.heap.size + 1) #[.int .i64 q.a, .int .i64 q.b, .int .i64 q.c, .int .i64 q.d] 23 := by rw [← hw1]; exact ((Blk.new' _ _ _ (by simp)).alloc _)
  have kR : Blk w1 (w.heap.size + 1 + 1) #[.int .i64 0, .int .i64 0, .int .i64 0] 24 := by rw [← hw1]; exact (Blk.new' _ _ _ (by simp))
  have hm := fun W => normalR_any p W
  have hn := fun W => normalR_any q W
  have hx := fun W => crsR_any (nrm p) (nrm q) 1000 1000 W (nrm_far hp) (nrm_far hq) (by decide)
  have hfar : Far (crsV (nrm p) (nrm q)) 2000000 := crs_far (nrm_far hp) (nrm_far hq)
  unfold dirV
  generalize nrm p = m at *
  generalize nrm q = n at *
  generalize crsV m n = x at *
  obtain ⟨f0, f1, f2⟩ := hfar
  have ia : InI64 x.a := by unfold InI64; omega
  have ib : InI64 x.b := by unfold InI64; omega
  have ic : InI64 x.c := by unfold InI64; omega
  have hg := gcd_b ia ib
  rw [size_small f0, size_small f1, Int.gcd_natCast_natCast] at hg
  have hgl : Nat.gcd x.a.natAbs x.b.natAbs ≤ 2000000 := gcd_le_of (a := x.a) (b := x.b) f0 f1
  have hgg := gcd_b (a := ((Nat.gcd x.a.natAbs x.b.natAbs : Nat) : Int)) (b := x.c) (by unfold InI64; omega) ic
  rw [size_small (a := ((Nat.gcd x.a.natAbs x.b.natAbs : Nat) : Int)) (by rw [Int.natAbs_natCast]; exact hgl), size_small f2, Int.gcd_natCast_natCast, Int.natAbs_natCast] at hgg
  have hgp := gV_pos hne
  have hgv : ((Nat.gcd (Nat.gcd x.a.natAbs x.b.natAbs) x.c.natAbs : Nat) : Int) = (gV x : Int) := rfl
  rw [hgv] at hgg
  have q0 := quo_lowR (g := gV x) f0
  have q1 := quo_lowR (g := gV x) f1
  have q2 := quo_lowR (g := gV x) f2
  obtain ⟨g1, hg1⟩ : ∃ y, ((Nat.gcd x.a.natAbs x.b.natAbs : Nat) : Int) = y := ⟨_, rfl⟩
  rw [hg1] at hg hgg
  obtain ⟨d, hd⟩ : ∃ y, lowV x = y := ⟨_, rfl⟩
  have d0 : x.a.tdiv (gV x : Int) = d.a := congrArg V3.a hd
  have d1 : x.b.tdiv (gV x : Int) = d.b := congrArg V3.b hd
  have d2 : x.c.tdiv (gV x : Int) = d.c := congrArg V3.c hd
  rw [hd]
  obtain ⟨g, hgE⟩ : ∃ y, (gV x : Int) = y := ⟨_, rfl⟩
  have hg0 : ¬ g = 0 := by omega
  have hg0b : (g == 0) = false := by simp [hg0]
  have hgm : ¬ g = -1 := by omega
  rw [hgE] at hgg q0 q1 q2 d0 d1 d2
  rw [d0] at q0
  rw [d1] at q1
  rw [d2] at q2
  have HM := Lib.hid hm
  have HN := Lib.hid hn
  have HX := Lib.hid hx
  have HG1 := Lib.hid hg
  have HG2 := Lib.hid hgg
  clear hm hn hx hg hgg hgl hgp hgv hg1 hd hgE f0 f1 f2 ia ib ic hne hp hq
  go_enter Tryz.func14, Tryz.ntmps14
  go_upto_region 1 with fail
  go_cut [5] from 7 to 11 (fun v5 wx => ∃ B, v5 = .pointer (some ⟨B, 0, none⟩) ∧ w1.heap.size ≤ B ∧ Blk wx B #[.int .i64 x.a, .int .i64 x.b, .int .i64 x.c] 24 ∧ Below w1.heap.size w1 wx)
  case first =>
    refine wp_region_defs 5 1 (fun ix => match ix with | 0 => .agg #[.int .i64 p.a, .int .i64 p.b, .int .i64 p.c, .int .i64 p.d] | 1 => .agg #[.int .i64 m.a, .int .i64 m.b, .int .i64 m.c] | 2 => .agg #[.int .i64 q.a, .int .i64 q.b, .int .i64 q.c, .int .i64 q.d] | 3 => .agg #[.int .i64 n.a, .int .i64 n.b, .int .i64 n.c] | _ => .agg #[.int .i64 x.a, .int .i64 x.b, .int .i64 x.c]) #[.int .i64 0, .int .i64 0, .int .i64 0] (fun _ => #[.int .i64 x.a, .int .i64 x.b, .int .i64 x.c]) 24 (by kernel_rfl) (by kernel_rfl) rfl ?_ ?_ ?_ ?_ ?_
    · intro j hj
      obtain rfl : j = 0 := by omega
      first | kernel_rfl | decide +kernel
    · rintro ix hx f ww hS hd
      have ka := k0.kept hS
      have kb := k1.kept hS
      have a0_ := ka.cell (i := 0) rfl
      have a1_ := ka.cell (i := 1) rfl
      have a2_ := ka.cell (i := 2) rfl
      have a3_ := ka.cell (i := 3) rfl
      have b0_ := kb.cell (i := 0) rfl
      have b1_ := kb.cell (i := 1) rfl
      have b2_ := kb.cell (i := 2) rfl
      have b3_ := kb.cell (i := 3) rfl
      rcases ix with _ | _ | _ | _ | _ | ix
      · refine wpOp_list rfl ?_
        simp only [tmOf, putAll, List.map_cons, List.map_nil, List.setIfInBounds_toArray, List.set_cons_zero, List.set_cons_succ]
        go_wp2
        simp [upd, Below.refl]
      · have g0 : f 0 = .agg #[.int .i64 p.a, .int .i64 p.b, .int .i64 p.c, .int .i64 p.d] := hd 0 (by decide) (by kernel_rfl)
        refine wpOp_list rfl ?_
        simp only [tmOf, putAll, List.map_cons, List.map_nil, List.setIfInBounds_toArray, List.set_cons_zero, List.set_cons_succ]
        go_wp2_with fail
        refine (HM.out _).mono ?_
        rintro e' wf ⟨rfl, hbf⟩
        go_wp2_with fail
        simp [upd, g0, hbf]
      · refine wpOp_list rfl ?_
        simp only [tmOf, putAll, List.map_cons, List.map_nil, List.setIfInBounds_toArray, List.set_cons_zero, List.set_cons_succ]
        go_wp2
        simp [upd, Below.refl]
      · have g2 : f 2 = .agg #[.int .i64 q.a, .int .i64 q.b, .int .i64 q.c, .int .i64 q.d] := hd 2 (by decide) (by kernel_rfl)
        refine wpOp_list rfl ?_
        simp only [tmOf, putAll, List.map_cons, List.map_nil, List.setIfInBounds_toArray, List.set_cons_zero, List.set_cons_succ]
        go_wp2_with fail
        refine (HN.out _).mono ?_
        rintro e' wf ⟨rfl, hbf⟩
        go_wp2_with fail
        simp [upd, g2, hbf]
      · have g1 : f 1 = .agg #[.int .i64 m.a, .int .i64 m.b, .int .i64 m.c] := hd 1 (by decide) (by kernel_rfl)
        have g3 : f 3 = .agg #[.int .i64 n.a, .int .i64 n.b, .int .i64 n.c] := hd 3 (by decide) (by kernel_rfl)
        refine wpOp_list rfl ?_
        simp only [tmOf, putAll, List.map_cons, List.map_nil, List.setIfInBounds_toArray, List.set_cons_zero, List.set_cons_succ]
        go_wp2_with fail
        refine (HX.out _).mono ?_
        rintro e' wf ⟨rfl, hbf⟩
        go_wp2_with fail
        simp [upd, g1, g3, hbf]
      · omega
    · intro j hj f ww
      obtain rfl : j = 0 := by omega
      refine wpOp_list rfl ?_
      simp only [tmOf, putAll, List.map_cons, List.map_nil, List.setIfInBounds_toArray, List.set_cons_zero, List.set_cons_succ]
      go_wp2
      simp [upd, ptrV]
    · intro j hj f ww b hd hf hB
      obtain rfl : j = 0 := by omega
      unfold ptrV at hf
      have e0 := hB.cell (i := 0) rfl
      have e1 := hB.cell (i := 1) rfl
      have e2 := hB.cell (i := 2) rfl
      have y0 := hB.frozen 0
      have y1 := hB.frozen 1
      have y2 := hB.frozen 2
      have g4 : f 4 = .agg #[.int .i64 x.a, .int .i64 x.b, .int .i64 x.c] := hd 4 (by decide) (by kernel_rfl)
      refine wpOp_list rfl ?_
      simp only [tmOf, putAll, List.map_cons, List.map_nil, List.setIfInBounds_toArray, List.set_cons_zero, List.set_cons_succ]
      go_wp2
      exact ⟨Blk.put3 hB _ _ _, fun D cs hne h => ((h.other 0 _ (Ne.symm hne)).other 1 _ (Ne.symm hne)).other 2 _ (Ne.symm hne), fun D h1 h2 => ((((Below.refl _ ww).mono h2).setCell (p := ⟨b, 0, none⟩) h1 _).setCell (p := ⟨b, 1, none⟩) h1 _).setCell (p := ⟨b, 2, none⟩) h1 _⟩
    · intro f ww bs hS hbs hne hall
      have h0 := hbs 0 (by decide)
      simp only [tmOf, putAll, List.map_cons, List.map_nil, List.setIfInBounds_toArray, List.set_cons_zero, List.set_cons_succ]
      refine ‹∀ (a' : Act) (w' : World), Met _ a' w' → _› _ _ ?_
      go_meet
      case rel => exact ⟨bs 0, h0.1, h0.2.1, h0.2.2, hS⟩
  case rest =>
  obtain ⟨B, rfl, hBl, kX, hbx⟩ := hcut
  have kR := kR.kept hbx
  have hb := hb1.trans (hbx.mono hb1.size)
  clear hbx hw1 hb1 HM HN HX k0 k1
  generalize wc = wy at *
  go_upto_region 2 with fail
  go_cut [6] from 12 to 19 (fun v6 wx => v6 = .int .i64 g ∧ Below wy.heap.size wy wx)
  case first =>
    refine wp_region_pure' (fun ix => match ix with | 0 => .pointer (some ⟨B, 0, none⟩) | 1 => .int .i64 x.a | 2 => .pointer (some ⟨B, 1, none⟩) | 3 => .int .i64 x.b | 4 => .int .i64 g1 | 5 => .pointer (some ⟨B, 2, none⟩) | 6 => .int .i64 x.c | 7 => .int .i64 g | _ => .int .i64 g) (by kernel_rfl) (by kernel_rfl) ?_ ?_
    · rintro ix hx f ww hS hd
      have kx := kX.kept hS
      have x0_ := kx.cell (i := 0) rfl
      have x1_ := kx.cell (i := 1) rfl
      have x2_ := kx.cell (i := 2) rfl
      rcases ix with _ | _ | _ | _ | _ | _ | _ | _ | _ | ix
      · refine wpOp_list rfl ?_
        simp only [tmOf, putAll, List.map_cons, List.map_nil, List.setIfInBounds_toArray, List.set_cons_zero, List.set_cons_succ]
        go_wp2
        simp [upd, Below.refl]
      · have g0 : f 0 = .pointer (some ⟨B, 0, none⟩) := hd 0 (by kernel_rfl)
        refine wpOp_list rfl ?_
        simp only [tmOf, putAll, List.map_cons, List.map_nil, List.setIfInBounds_toArray, List.set_cons_zero, List.set_cons_succ]
        go_wp2
        simp [upd, g0, Below.refl]
      · refine wpOp_list rfl ?_
        simp only [tmOf, putAll, List.map_cons, List.map_nil, List.setIfInBounds_toArray, List.set_cons_zero, List.set_cons_succ]
        go_wp2
        simp [upd, Below.refl]
      · have g2 : f 2 = .pointer (some ⟨B, 1, none⟩) := hd 2 (by kernel_rfl)
        refine wpOp_list rfl ?_
        simp only [tmOf, putAll, List.map_cons, List.map_nil, List.setIfInBounds_toArray, List.set_cons_zero, List.set_cons_succ]
        go_wp2
        simp [upd, g2, Below.refl]
      · have g1 : f 1 = .int .i64 x.a := hd 1 (by kernel_rfl)
        have g3 : f 3 = .int .i64 x.b := hd 3 (by kernel_rfl)
        refine wpOp_list rfl ?_
        simp only [tmOf, putAll, List.map_cons, List.map_nil, List.setIfInBounds_toArray, List.set_cons_zero, List.set_cons_succ]
        go_wp2_with fail
        refine (HG1.out _).mono ?_
        rintro e' wf ⟨rfl, hbf⟩
        go_wp2_with fail
        simp [upd, g1, g3, hbf]
      · refine wpOp_list rfl ?_
        simp only [tmOf, putAll, List.map_cons, List.map_nil, List.setIfInBounds_toArray, List.set_cons_zero, List.set_cons_succ]
        go_wp2
        simp [upd, Below.refl]
      · have g5 : f 5 = .pointer (some ⟨B, 2, none⟩) := hd 5 (by kernel_rfl)
        refine wpOp_list rfl ?_
        simp only [tmOf, putAll, List.map_cons, List.map_nil, List.setIfInBounds_toArray, List.set_cons_zero, List.set_cons_succ]
        go_wp2
        simp [upd, g5, Below.refl]
      · have g4 : f 4 = .int .i64 g1 := hd 4 (by kernel_rfl)
        have g6 : f 6 = .int .i64 x.c := hd 6 (by kernel_rfl)
        refine wpOp_list rfl ?_
        simp only [tmOf, putAll, List.map_cons, List.map_nil, List.setIfInBounds_toArray, List.set_cons_zero, List.set_cons_succ]
        go_wp2_with fail
        refine (HG2.out _).mono ?_
        rintro e' wf ⟨rfl, hbf⟩
        go_wp2_with fail
        simp [upd, g4, g6, hbf]
      · have g7 : f 7 = .int .i64 g := hd 7 (by kernel_rfl)
        refine wpOp_list rfl ?_
        simp only [tmOf, putAll, List.map_cons, List.map_nil, List.setIfInBounds_toArray, List.set_cons_zero, List.set_cons_succ]
        go_wp2
        simp [upd, g7, Below.refl]
      · simp only [List.length_cons, List.length_nil] at hx; omega
    · rintro f ww hS hd
      have g8 : f 8 = .int .i64 g := hd 8 (by decide)
      simp only [tmOf, putAll, List.map_cons, List.map_nil, List.setIfInBounds_toArray, List.set_cons_zero, List.set_cons_succ]
      refine ‹∀ (a' : Act) (w' : World), Met _ a' w' → _› _ _ ?_
      go_meet
      case rel => exact ⟨g8, hS⟩
  case rest =>
  obtain ⟨rfl, hbz⟩ := hcut
  have kR := kR.kept hbz
  have kX := kX.kept hbz
  have hb := hb.trans (hbz.mono hb.size)
  clear hbz HG1 HG2
  generalize wc = wz at *
  go_upto_region 3 with fail
  refine wp_region_pure 13 (fun ix => match ix with | 0 => .pointer (some ⟨B, 0, none⟩) | 1 => .int .i64 x.a | 2 => .int .i64 g | 3 => .int .i64 d.a | 4 => .pointer (some ⟨B, 1, none⟩) | 5 => .int .i64 x.b | 6 => .int .i64 g | 7 => .int .i64 d.b | 8 => .pointer (some ⟨B, 2, none⟩) | 9 => .int .i64 x.c | 10 => .int .i64 g | 11 => .int .i64 d.c | _ => .agg #[.int .i64 d.a, .int .i64 d.b, .int .i64 d.c]) (by kernel_rfl) (by kernel_rfl) (by kernel_rfl) (by decide) ?_ ?_
  · rintro ix hx f ww hS hd
    have kx := kX.kept hS
    have x0_ := kx.cell (i := 0) rfl
    have x1_ := kx.cell (i := 1) rfl
    have x2_ := kx.cell (i := 2) rfl
    rcases ix with _ | _ | _ | _ | _ | _ | _ | _ | _ | _ | _ | _ | _ | ix
    · refine wpOp_list rfl ?_
      simp only [tmOf, putAll, List.map_cons, List.map_nil, List.setIfInBounds_toArray, List.set_cons_zero, List.set_cons_succ]
      go_wp2
      simp [upd, Below.refl]
    · have g0 : f 0 = .pointer (some ⟨B, 0, none⟩) := hd 0 (by kernel_rfl)
      refine wpOp_list rfl ?_
      simp only [tmOf, putAll, List.map_cons, List.map_nil, List.setIfInBounds_toArray, List.set_cons_zero, List.set_cons_succ]
      go_wp2
      simp [upd, g0, Below.refl]
    · refine wpOp_list rfl ?_
      simp only [tmOf, putAll, List.map_cons, List.map_nil, List.setIfInBounds_toArray, List.set_cons_zero, List.set_cons_succ]
      go_wp2
      simp [upd, Below.refl]
    · have g1 : f 1 = .int .i64 x.a := hd 1 (by kernel_rfl)
      have g2 : f 2 = .int .i64 g := hd 2 (by kernel_rfl)
      refine wpOp_list rfl ?_
      simp only [tmOf, putAll, List.map_cons, List.map_nil, List.setIfInBounds_toArray, List.set_cons_zero, List.set_cons_succ]
      go_wp2
      simp [upd, g1, g2, Below.refl]
    · refine wpOp_list rfl ?_
      simp only [tmOf, putAll, List.map_cons, List.map_nil, List.setIfInBounds_toArray, List.set_cons_zero, List.set_cons_succ]
      go_wp2
      simp [upd, Below.refl]
    · have g4 : f 4 = .pointer (some ⟨B, 1, none⟩) := hd 4 (by kernel_rfl)
      refine wpOp_list rfl ?_
      simp only [tmOf, putAll, List.map_cons, List.map_nil, List.setIfInBounds_toArray, List.set_cons_zero, List.set_cons_succ]
      go_wp2
      simp [upd, g4, Below.refl]
    · refine wpOp_list rfl ?_
      simp only [tmOf, putAll, List.map_cons, List.map_nil, List.setIfInBounds_toArray, List.set_cons_zero, List.set_cons_succ]
      go_wp2
      simp [upd, Below.refl]
    · have g5 : f 5 = .int .i64 x.b := hd 5 (by kernel_rfl)
      have g6 : f 6 = .int .i64 g := hd 6 (by kernel_rfl)
      refine wpOp_list rfl ?_
      simp only [tmOf, putAll, List.map_cons, List.map_nil, List.setIfInBounds_toArray, List.set_cons_zero, List.set_cons_succ]
      go_wp2
      simp [upd, g5, g6, Below.refl]
    · refine wpOp_list rfl ?_
      simp only [tmOf, putAll, List.map_cons, List.map_nil, List.setIfInBounds_toArray, List.set_cons_zero, List.set_cons_succ]
      go_wp2
      simp [upd, Below.refl]
    · have g8 : f 8 = .pointer (some ⟨B, 2, none⟩) := hd 8 (by kernel_rfl)
      refine wpOp_list rfl ?_
      simp only [tmOf, putAll, List.map_cons, List.map_nil, List.setIfInBounds_toArray, List.set_cons_zero, List.set_cons_succ]
      go_wp2
      simp [upd, g8, Below.refl]
    · refine wpOp_list rfl ?_
      simp only [tmOf, putAll, List.map_cons, List.map_nil, List.setIfInBounds_toArray, List.set_cons_zero, List.set_cons_succ]
      go_wp2
      simp [upd, Below.refl]
    · have g9 : f 9 = .int .i64 x.c := hd 9 (by kernel_rfl)
      have g10 : f 10 = .int .i64 g := hd 10 (by kernel_rfl)
      refine wpOp_list rfl ?_
      simp only [tmOf, putAll, List.map_cons, List.map_nil, List.setIfInBounds_toArray, List.set_cons_zero, List.set_cons_succ]
      go_wp2
      simp [upd, g9, g10, Below.refl]
    · have g3 : f 3 = .int .i64 d.a := hd 3 (by kernel_rfl)
      have g7 : f 7 = .int .i64 d.b := hd 7 (by kernel_rfl)
      have g11 : f 11 = .int .i64 d.c := hd 11 (by kernel_rfl)
      refine wpOp_list rfl ?_
      simp only [tmOf, putAll, List.map_cons, List.map_nil, List.setIfInBounds_toArray, List.set_cons_zero, List.set_cons_succ]
      go_wp2
      simp [upd, g3, g7, g11, Below.refl]
    · omega
  · rintro f ww hS hd
    have kR := kR.kept hS
    have hb := hb.trans (hS.mono hb.size)
    have z0_ := kR.cell (i := 0) rfl
    have z1_ := kR.cell (i := 1) rfl
    have z2_ := kR.cell (i := 2) rfl
    have y0 := kR.frozen 0
    have y1 := kR.frozen 1
    have y2 := kR.frozen 2
    have g12 : f 12 = .agg #[.int .i64 d.a, .int .i64 d.b, .int .i64 d.c] := hd 12 (by decide)
    simp only [seqW, tmOf, putAll, List.map_cons, List.map_nil, List.setIfInBounds_toArray, List.set_cons_zero, List.set_cons_succ, List.length_cons, List.length_nil]
    refine wpOp_list rfl ?_
    go_wp2
    have L := Blk.put3 kR (.int .i64 d.a) (.int .i64 d.b) (.int .i64 d.c)
    have z0 := L.cell (i := 0) rfl
    have z1 := L.cell (i := 1) rfl
    have z2 := L.cell (i := 2) rfl
    exact bodyPost_ret (v := .agg #[.int .i64 d.a, .int .i64 d.b, .int .i64 d.c]) (by simp [results, Tryz.results14, go_sem, z0, z1, z2]) rfl ⟨rfl, ((hb.setCell (by simp only; omega) _).setCell (by simp only; omega) _).setCell (by simp only; omega) _⟩

set_option maxRecDepth 100000 in
set_option maxHeartbeats 8000000 in
theorem leftR_any (p q r : V4) (w : World) (hp : RightQ p) (hq : RightQ q) (hr : RightQ r) (hne : crsV (nrm p) (nrm q) ≠ ⟨0, 0, 0⟩) :
    Calls Tryz.prog 18 #[.agg #[.int .i64 p.a, .int .i64 p.b, .int .i64 p.c, .int .i64 p.d], .agg #[.int .i64 q.a, .int .i64 q.b, .int .i64 q.c, .int .i64 q.d], .agg #[.int .i64 r.a, .int .i64 r.b, .int .i64 r.c, .int .i64 r.d]] w fun e w' => e = .returned (.int .i64 (sgnI (dotV (nrm r) (crsV (nrm p) (dirV p q))))) ∧ Below w.heap.size w w' := by
  obtain ⟨w1, hw1⟩ : ∃ w1, (((w.alloc (.cells #[.int .i64 p.a, .int .i64 p.b, .int .i64 p.c, .int .i64 p.d] 23)).alloc (.cells #[.int .i64 q.a, .int .i64 q.b, .int .i64 q.c, .int .i64 q.d] 23)).alloc (.cells #[.int .i64 r.a, .int .i64 r.b, .int .i64 r.c, .int .i64 r.d] 23)) = w1 := ⟨_, rfl⟩
  have hb1 : Below w.heap.size w w1 := by rw [← hw1]; exact bw3 w _ _ _
  have k0 : Blk w1 (w.heap.size) #[.int .i64 p.a, .int .i64 p.b, .int .i64 p.c, .int .i64 p.d] 23 := by rw [← hw1]; exact (((Blk.new w _ _).alloc _).alloc _)
  have k1 : Blk w1 (w.heap.size + 1) #[.int .i64 q.a, .int .i64 q.b, .int .i64 q.c, .int .i64 q.d] 23 := by rw [← hw1]; exact ((Blk.new' _ _ _ (by simp)).alloc _)
  have k2 : Blk w1 (w.heap.size + 1 + 1) #[.int .i64 r.a, .int .i64 r.b, .int .i64 r.c, .int .i64 r.d] 23 := by rw [← hw1]; exact (Blk.new' _ _ _ (by simp))
  have hn := fun W => normalR_any r W
  have hm := fun W => normalR_any p W
  have hd := fun W => directionR_any p q W hp hq hne
  have hx := fun W => crsR_any (nrm p) (dirV p q) 1000 2000000 W (nrm_far hp) (dir_far hp hq) (by decide)
  have ht := fun W => dotR_any (nrm r) (crsV (nrm p) (dirV p q)) 1000 4000000000 W (nrm_far hr) (crs_far (nrm_far hp) (dir_far hp hq)) (by decide)
  have hs := fun W => signR_any (dotV (nrm r) (crsV (nrm p) (dirV p q))) W
  generalize nrm p = m at *
  generalize nrm r = n at *
  generalize dirV p q = d at *
  obtain ⟨x, hxe⟩ : ∃ y, crsV m d = y := ⟨_, rfl⟩
  rw [hxe] at hs ⊢
  simp only [hxe] at hx ht
  obtain ⟨t, hte⟩ : ∃ y, dotV n x = y := ⟨_, rfl⟩
  rw [hte] at hs ⊢
  simp only [hte] at ht
  obtain ⟨s, hse⟩ : ∃ y, sgnI t = y := ⟨_, rfl⟩
  rw [hse]
  simp only [hse] at hs
  have HM := Lib.hid hm
  have HN := Lib.hid hn
  have HD := Lib.hid hd
  have HX := Lib.hid hx
  have HT := Lib.hid ht
  have HS := Lib.hid hs
  clear hm hn hd hx ht hs hxe hte hse hp hq hr hne
  go_enter Tryz.func18, Tryz.ntmps18
  go_upto_region 1 with fail
  go_cut [6] from 7 to 16 (fun v6 wx => v6 = .int .i64 s ∧ Below w1.heap.size w1 wx)
  case first =>
    refine wp_region_pure' (fun ix => match ix with | 0 => .agg #[.int .i64 r.a, .int .i64 r.b, .int .i64 r.c, .int .i64 r.d] | 1 => .agg #[.int .i64 n.a, .int .i64 n.b, .int .i64 n.c] | 2 => .agg #[.int .i64 p.a, .int .i64 p.b, .int .i64 p.c, .int .i64 p.d] | 3 => .agg #[.int .i64 m.a, .int .i64 m.b, .int .i64 m.c] | 4 => .agg #[.int .i64 p.a, .int .i64 p.b, .int .i64 p.c, .int .i64 p.d] | 5 => .agg #[.int .i64 q.a, .int .i64 q.b, .int .i64 q.c, .int .i64 q.d] | 6 => .agg #[.int .i64 d.a, .int .i64 d.b, .int .i64 d.c] | 7 => .agg #[.int .i64 x.a, .int .i64 x.b, .int .i64 x.c] | 8 => .int .i64 t | 9 => .int .i64 s | _ => .int .i64 s) (by kernel_rfl) (by kernel_rfl) ?_ ?_
    · rintro ix hx f ww hS hd
      have ka := k0.kept hS
      have kb := k1.kept hS
      have a0_ := ka.cell (i := 0) rfl
      have a1_ := ka.cell (i := 1) rfl
      have a2_ := ka.cell (i := 2) rfl
      have a3_ := ka.cell (i := 3) rfl
      have b0_ := kb.cell (i := 0) rfl
      have b1_ := kb.cell (i := 1) rfl
      have b2_ := kb.cell (i := 2) rfl
      have b3_ := kb.cell (i := 3) rfl
      have kc := k2.kept hS
      have c0_ := kc.cell (i := 0) rfl
      have c1_ := kc.cell (i := 1) rfl
      have c2_ := kc.cell (i := 2) rfl
      have c3_ := kc.cell (i := 3) rfl
      rcases ix with _ | _ | _ | _ | _ | _ | _ | _ | _ | _ | _ | ix
      · refine wpOp_list rfl ?_
        simp only [tmOf, putAll, List.map_cons, List.map_nil, List.setIfInBounds_toArray, List.set_cons_zero, List.set_cons_succ]
        go_wp2
        simp [upd, Below.refl]
      · have g0 : f 0 = .agg #[.int .i64 r.a, .int .i64 r.b, .int .i64 r.c, .int .i64 r.d] := hd 0 (by kernel_rfl)
        refine wpOp_list rfl ?_
        simp only [tmOf, putAll, List.map_cons, List.map_nil, List.setIfInBounds_toArray, List.set_cons_zero, List.set_cons_succ]
        go_wp2_with fail
        refine (HN.out _).mono ?_
        rintro e' wf ⟨rfl, hbf⟩
        go_wp2_with fail
        simp [upd, g0, hbf]
      · refine wpOp_list rfl ?_
        simp only [tmOf, putAll, List.map_cons, List.map_nil, List.setIfInBounds_toArray, List.set_cons_zero, List.set_cons_succ]
        go_wp2
        simp [upd, Below.refl]
      · have g2 : f 2 = .agg #[.int .i64 p.a, .int .i64 p.b, .int .i64 p.c, .int .i64 p.d] := hd 2 (by kernel_rfl)
        refine wpOp_list rfl ?_
        simp only [tmOf, putAll, List.map_cons, List.map_nil, List.setIfInBounds_toArray, List.set_cons_zero, List.set_cons_succ]
        go_wp2_with fail
        refine (HM.out _).mono ?_
        rintro e' wf ⟨rfl, hbf⟩
        go_wp2_with fail
        simp [upd, g2, hbf]
      · refine wpOp_list rfl ?_
        simp only [tmOf, putAll, List.map_cons, List.map_nil, List.setIfInBounds_toArray, List.set_cons_zero, List.set_cons_succ]
        go_wp2
        simp [upd, Below.refl]
      · refine wpOp_list rfl ?_
        simp only [tmOf, putAll, List.map_cons, List.map_nil, List.setIfInBounds_toArray, List.set_cons_zero, List.set_cons_succ]
        go_wp2
        simp [upd, Below.refl]
      · have g4 : f 4 = .agg #[.int .i64 p.a, .int .i64 p.b, .int .i64 p.c, .int .i64 p.d] := hd 4 (by kernel_rfl)
        have g5 : f 5 = .agg #[.int .i64 q.a, .int .i64 q.b, .int .i64 q.c, .int .i64 q.d] := hd 5 (by kernel_rfl)
        refine wpOp_list rfl ?_
        simp only [tmOf, putAll, List.map_cons, List.map_nil, List.setIfInBounds_toArray, List.set_cons_zero, List.set_cons_succ]
        go_wp2_with fail
        refine (HD.out _).mono ?_
        rintro e' wf ⟨rfl, hbf⟩
        go_wp2_with fail
        simp [upd, g4, g5, hbf]
      · have g3 : f 3 = .agg #[.int .i64 m.a, .int .i64 m.b, .int .i64 m.c] := hd 3 (by kernel_rfl)
        have g6 : f 6 = .agg #[.int .i64 d.a, .int .i64 d.b, .int .i64 d.c] := hd 6 (by kernel_rfl)
        refine wpOp_list rfl ?_
        simp only [tmOf, putAll, List.map_cons, List.map_nil, List.setIfInBounds_toArray, List.set_cons_zero, List.set_cons_succ]
        go_wp2_with fail
        refine (HX.out _).mono ?_
        rintro e' wf ⟨rfl, hbf⟩
        go_wp2_with fail
        simp [upd, g3, g6, hbf]
      · have g1 : f 1 = .agg #[.int .i64 n.a, .int .i64 n.b, .int .i64 n.c] := hd 1 (by kernel_rfl)
        have g7 : f 7 = .agg #[.int .i64 x.a, .int .i64 x.b, .int .i64 x.c] := hd 7 (by kernel_rfl)
        refine wpOp_list rfl ?_
        simp only [tmOf, putAll, List.map_cons, List.map_nil, List.setIfInBounds_toArray, List.set_cons_zero, List.set_cons_succ]
        go_wp2_with fail
        refine (HT.out _).mono ?_
        rintro e' wf ⟨rfl, hbf⟩
        go_wp2_with fail
        simp [upd, g1, g7, hbf]
      · have g8 : f 8 = .int .i64 t := hd 8 (by kernel_rfl)
        refine wpOp_list rfl ?_
        simp only [tmOf, putAll, List.map_cons, List.map_nil, List.setIfInBounds_toArray, List.set_cons_zero, List.set_cons_succ]
        go_wp2_with fail
        refine (HS.out _).mono ?_
        rintro e' wf ⟨rfl, hbf⟩
        go_wp2_with fail
        simp [upd, g8, hbf]
      · have g9 : f 9 = .int .i64 s := hd 9 (by kernel_rfl)
        refine wpOp_list rfl ?_
        simp only [tmOf, putAll, List.map_cons, List.map_nil, List.setIfInBounds_toArray, List.set_cons_zero, List.set_cons_succ]
        go_wp2
        simp [upd, g9, Below.refl]
      · simp only [List.length_cons, List.length_nil] at hx; omega
    · rintro f ww hS hd
      have gl : f 10 = .int .i64 s := hd 10 (by decide)
      simp only [tmOf, putAll, List.map_cons, List.map_nil, List.setIfInBounds_toArray, List.set_cons_zero, List.set_cons_succ]
      refine ‹∀ (a' : Act) (w' : World), Met _ a' w' → _› _ _ ?_
      go_meet
      case rel => exact ⟨gl, hS⟩
  case rest =>
  obtain ⟨rfl, hbz⟩ := hcut
  go_wp2_with fail
  go_ret
  exact ⟨rfl, hb1.trans (hbz.mono hb1.size)⟩

end Go.Proofs.YtimkeblcdodfmaaGreat

namespace Go.Proofs.YtimkeblcdodfmaaGreat
open Go.RowKit Go.Shelf
attribute [local go_sem] Oper.semAt_some

/-- ErrPlane, and ErrNone for two that are parallel. -/
def badZ (p q : V4) (rs : List V4) : Int := if RightQ p ∧ RightQ q ∧ (∀ r ∈ rs, RightQ r) then lineE p q else 30
theorem rightB_any (p : V4) (hp : InV p) (W : World) : Calls Tryz.prog 22 #[.agg #[.int .i64 p.a, .int .i64 p.b, .int .i64 p.c, .int .i64 p.d]] W fun e w' => e = .returned (.bool (decide (RightQ p))) ∧ Below W.heap.size W w' := right3_any p.a p.b p.c p.d W hp.1 hp.2.1 hp.2.2.1 hp.2.2.2

set_option maxRecDepth 100000 in
set_option maxHeartbeats 8000000 in
theorem bad5_any (p q : V4) (a : Option Addr) (n c : Nat) (rs : List V4) (w : World) (hp : InV p) (hq : InV q) (hrs : ∀ x ∈ rs, InV x) (hl : rs.length = n) (hn : n ≤ 1000000000) (hr : RdV w a rs) :
    Calls Tryz.prog 13 #[.agg #[.int .i64 p.a, .int .i64 p.b, .int .i64 p.c, .int .i64 p.d], .agg #[.int .i64 q.a, .int .i64 q.b, .int .i64 q.c, .int .i64 q.d], .slice a n c] w fun e w' => e = .returned (.int .i64 (badZ p q rs)) ∧ Below w.heap.size w w' := by
  obtain ⟨w1, hw1⟩ : ∃ w1, ((w.alloc (.cells #[.int .i64 p.a, .int .i64 p.b, .int .i64 p.c, .int .i64 p.d] 23)).alloc (.cells #[.int .i64 q.a, .int .i64 q.b, .int .i64 q.c, .int .i64 q.d] 23)) = w1 := ⟨_, rfl⟩
  have hb1 : Below w.heap.size w w1 := by rw [← hw1]; exact bw2 w _ _
  have k0 : Blk w1 (w.heap.size) #[.int .i64 p.a, .int .i64 p.b, .int .i64 p.c, .int .i64 p.d] 23 := by rw [← hw1]; exact ((Blk.new w _ _).alloc _)
  have k1 : Blk w1 (w.heap.size + 1) #[.int .i64 q.a, .int .i64 q.b, .int .i64 q.c, .int .i64 q.d] 23 := by rw [← hw1]; exact (Blk.new' _ _ _ (by simp))
  have hrp := fun W => rightB_any p hp W
  have hrq := fun W => rightB_any q hq W
  have HR := Lib.hid (hr.below hb1)
  have HL := Lib.hid hl
  have HI := Lib.hid hrs
  have p0 := k0.cell (i := 0) rfl
  have p1 := k0.cell (i := 1) rfl
  have p2 := k0.cell (i := 2) rfl
  have p3 := k0.cell (i := 3) rfl
  have q0 := k1.cell (i := 0) rfl
  have q1 := k1.cell (i := 1) rfl
  have q2 := k1.cell (i := 2) rfl
  have q3 := k1.cell (i := 3) rfl
  by_cases h1 : RightQ p
  · simp only [decide_eq_true h1] at hrp
    by_cases h2 : RightQ q
    · simp only [decide_eq_true h2] at hrq
      have hpa := fun W => parallel3_any p q W h1 h2
      have hEP := lineE_right h1 h2
      obtain ⟨B, hB⟩ : ∃ y, parB p.a p.b p.c q.a q.b q.c = y := ⟨_, rfl⟩
      rw [hB] at hEP
      simp only [hB] at hpa
      have HRP := Lib.hid hrp
      have HRQ := Lib.hid hrq
      have HPA := Lib.hid hpa
      have HEP := Lib.hid hEP
      have hbad : ∀ r, r ∈ rs → ¬ RightQ r → badZ p q rs = 30 := fun r hm hn => by unfold badZ; rw [if_neg (fun h => hn (h.2.2 r hm))]
      have hok : (∀ r ∈ rs, RightQ r) → badZ p q rs = lineE p q := fun h => by unfold badZ; rw [if_pos ⟨h1, h2, h⟩]
      obtain ⟨Z, hZ⟩ : ∃ y, badZ p q rs = y := ⟨_, rfl⟩
      simp only [hZ] at hbad hok
      rw [hZ]
      have HBD := Lib.hid hbad
      have HOK := Lib.hid hok
      clear hrp hrq hpa hEP hB hbad hok hZ h1 h2 hp hq hrs hl hr
      go_enter Tryz.func13, Tryz.ntmps13
      go_wp2_with fail
      refine (HRP.out _).mono ?_
      rintro e' w2 ⟨rfl, hb2⟩
      have k0 := k0.kept hb2
      have k1 := k1.kept hb2
      clear p0 p1 p2 p3 q0 q1 q2 q3
      have p0 := k0.cell (i := 0) rfl
      have p1 := k0.cell (i := 1) rfl
      have p2 := k0.cell (i := 2) rfl
      have p3 := k0.cell (i := 3) rfl
      have q0 := k1.cell (i := 0) rfl
      have q1 := k1.cell (i := 1) rfl
      have q2 := k1.cell (i := 2) rfl
      have q3 := k1.cell (i := 3) rfl
      go_wp2_with fail
      refine (HRQ.out _).mono ?_
      rintro e' w3 ⟨rfl, hb3⟩
      have k0 := k0.kept hb3
      have k1 := k1.kept hb3
      have hb13 := hb2.trans (hb3.mono hb2.size)
      have HR := Lib.hid (HR.out.below hb13)
      have hb := hb1.trans (hb13.mono hb1.size)
      clear p0 p1 p2 p3 q0 q1 q2 q3 hb2 hb3 hb13 hb1 HRP HRQ
      go_wp2_with fail
      go_loopg [7] n (fun gk v7 wr => ∃ i : Nat, i ≤ n ∧ gk = n - i ∧ v7 = .int .i64 (i : Int) ∧ Hid (∀ x ∈ rs.take i, RightQ x) ∧ Below w3.heap.size w3 wr)
      case atStart => exact ⟨0, Nat.zero_le _, rfl, rfl, Lib.hid (fun x hx => by simp at hx), Below.refl _ _⟩
      case round =>
        obtain ⟨i, hi, hgk, rfl, HA, hbr⟩ := hrel
        have HGK := Lib.hid hgk
        clear hgk
        by_cases hlt : i < n
        · have hil : i < rs.length := by rw [HL.out]; exact hlt
          have hlti : (i : Int) < (n : Int) := by omega
          obtain ⟨b, off, rfl, hbl, g0, g1, g2, g3⟩ := HR.out i _ (List.getElem?_eq_getElem hil)
          have htk : rs.take (i + 1) = rs.take i ++ [rs[i]] := List.take_succ_eq_append_getElem hil
          have hmem := List.getElem_mem hil
          have hin := HI.out _ hmem
          generalize rs[i] = r at *
          have g0 := (hbr.cell (p := ⟨b, off + i * 4, none⟩) hbl).trans g0
          have g1 := (hbr.cell (p := ⟨b, off + i * 4 + 1, none⟩) hbl).trans g1
          have g2 := (hbr.cell (p := ⟨b, off + i * 4 + 2, none⟩) hbl).trans g2
          have g3 := (hbr.cell (p := ⟨b, off + i * 4 + 3, none⟩) hbl).trans g3
          have hrr := fun W => rightB_any r hin W
          obtain ⟨D, hD⟩ : ∃ y, decide (RightQ r) = y := ⟨_, rfl⟩
          simp only [hD] at hrr
          have HRR := Lib.hid hrr
          have HT := Lib.hid (And.intro htk (And.intro hmem hD))
          clear hrr hD htk hmem hin hil
          go_wp2_with fail
          refine (HRR.out _).mono ?_
          rintro e' w4 ⟨rfl, hb4⟩
          have hbr := hbr.trans (hb4.mono hbr.size)
          clear g0 g1 g2 g3 hb4 HRR
          cases D with
          | true =>
            go_wp2_with fail
            go_roundg (n - (i + 1))
            case measure => rw [HGK.out]; omega
            case rel =>
              refine ⟨i + 1, by omega, rfl, by go_num, Lib.hid ?_, hbr⟩
              intro y hy
              rw [HT.out.1] at hy
              rcases List.mem_append.1 hy with hy | hy
              · exact HA.out y hy
              · rw [List.mem_singleton.1 hy]; exact of_decide_eq_true HT.out.2.2
          | false =>
            have hz : Z = 30 := HBD.out r HT.out.2.1 (of_decide_eq_false HT.out.2.2)
            have HZ := Lib.hid hz
            clear hz
            go_wp2_with fail
            go_ret
            exact ⟨by rw [HZ.out]; rfl, hb.trans (hbr.mono hb.size)⟩
        · obtain rfl : i = n := by omega
          have hlti : ¬ (i : Int) < (i : Int) := by omega
          have hz : Z = (if B = true then 4 else 0) := by
            rw [← HEP.out]
            refine HOK.out (fun x hx => ?_)
            have h := HA.out
            rw [List.take_of_length_le (by rw [HL.out]; exact Nat.le_refl _)] at h
            exact h x hx
          have HZ := Lib.hid hz
          clear hz
          have k0 := k0.kept hbr
          have k1 := k1.kept hbr
          have p0 := k0.cell (i := 0) rfl
          have p1 := k0.cell (i := 1) rfl
          have p2 := k0.cell (i := 2) rfl
          have p3 := k0.cell (i := 3) rfl
          have q0 := k1.cell (i := 0) rfl
          have q1 := k1.cell (i := 1) rfl
          have q2 := k1.cell (i := 2) rfl
          have q3 := k1.cell (i := 3) rfl
          go_wp2_with fail
          refine (HPA.out _).mono ?_
          rintro e' w4 ⟨rfl, hb4⟩
          have hbr := hbr.trans (hb4.mono hbr.size)
          cases B with
          | true =>
            go_wp2_with fail
            go_ret
            exact ⟨by rw [HZ.out]; rfl, hb.trans (hbr.mono hb.size)⟩
          | false =>
            go_wp2_with fail
            go_ret
            exact ⟨by rw [HZ.out]; rfl, hb.trans (hbr.mono hb.size)⟩
    · have hz : badZ p q rs = 30 := by unfold badZ; rw [if_neg (fun h => h2 h.2.1)]
      rw [hz]
      simp only [decide_eq_false h2] at hrq
      have HRP := Lib.hid hrp
      have HRQ := Lib.hid hrq
      clear hrp hrq hz h1 h2 hp hq hrs hl hr
      go_enter Tryz.func13, Tryz.ntmps13
      go_wp2_with fail
      refine (HRP.out _).mono ?_
      rintro e' w2 ⟨rfl, hb2⟩
      have k0 := k0.kept hb2
      have k1 := k1.kept hb2
      clear p0 p1 p2 p3 q0 q1 q2 q3
      have p0 := k0.cell (i := 0) rfl
      have p1 := k0.cell (i := 1) rfl
      have p2 := k0.cell (i := 2) rfl
      have p3 := k0.cell (i := 3) rfl
      have q0 := k1.cell (i := 0) rfl
      have q1 := k1.cell (i := 1) rfl
      have q2 := k1.cell (i := 2) rfl
      have q3 := k1.cell (i := 3) rfl
      go_wp2_with fail
      refine (HRQ.out _).mono ?_
      rintro e' w3 ⟨rfl, hb3⟩
      have hb13 := hb2.trans (hb3.mono hb2.size)
      go_wp2_with fail
      go_ret
      exact ⟨rfl, hb1.trans (hb13.mono hb1.size)⟩
  · have hz : badZ p q rs = 30 := by unfold badZ; rw [if_neg (fun h => h1 h.1)]
    rw [hz]
    simp only [decide_eq_false h1] at hrp
    have HRP := Lib.hid hrp
    clear hrp hrq hz h1 hp hq hrs hl hr
    go_enter Tryz.func13, Tryz.ntmps13
    go_wp2_with fail
    refine (HRP.out _).mono ?_
    rintro e' w2 ⟨rfl, hb2⟩
    go_wp2_with fail
    go_ret
    exact ⟨rfl, hb1.trans (hb2.mono hb1.size)⟩

end Go.Proofs.YtimkeblcdodfmaaGreat

namespace Go.Proofs.YtimkeblcdodfmaaGreat
open Go.RowKit
variable {P : Program} {Q : Exit → Act → World → Prop}

/-- Its guard keeps it from being done. -/
theorem unwantedG {a : Act} {l : List Oper} {f : Nat → Value} {o : Oper} (j dj : Nat) {b : Bool} (hj : j < l.length) (hg : o.guard = some (j, !b)) (hdj : (opAt l j).dst = some dj) (ht : (tmOf a l f).tmps[dj]? = some (.bool b)) : Region.wanted o (yielded l.toArray (tmOf a l f).tmps) = false :=
  unwanted_of hg (opAt_eq hj) hdj ht
/-- Its guard was not done itself. -/
theorem unwantedU {a : Act} {l : List Oper} {f : Nat → Value} {o : Oper} (j dj : Nat) {b : Bool} (hj : j < l.length) (hg : o.guard = some (j, b)) (hdj : (opAt l j).dst = some dj) (ht : (tmOf a l f).tmps[dj]? = some undef) : Region.wanted o (yielded l.toArray (tmOf a l f).tmps) = false := by
  have hy : yielded l.toArray (tmOf a l f).tmps j = none := by
    unfold yielded
    rw [opAt_eq hj]
    simp [hdj, ht, undef]
  unfold Region.wanted
  rw [hg]
  simp [hy]
theorem fastOff {a : Act} {l : List Oper} {f : Nat → Value} {w : World} {i : Nat} {v : Value} (d : Nat) (hi : i < l.length) (hd : (opAt l i).dst = some d) (h1 : onceB l i d = true)
    (hw : Region.wanted (opAt l i) (yielded l.toArray (tmOf a l f).tmps) = false) (hv : v = undef) : wpOp P l.toArray Q i (fun a' w'' => a' = tmOf a l (upd f i v) ∧ Below w.heap.size w w'') (tmOf a l f) w := by
  subst hv
  unfold wpOp
  rw [opAt_eq hi]
  simp only [hw]
  refine ⟨?_, Below.refl _ _⟩
  rw [hd, tmOf_put h1]

end Go.Proofs.YtimkeblcdodfmaaGreat
