/-
  Package plane: planes moved; The reference of planes: a right plane of any numbers; The reference of planes: whether points are right; The reference of planes: a right point of any numbers.
-/
import Derived.Test.YtopdeakjnloemaaK1
import Derived.Test.YtopdeakjnloemaaK2
import Derived.Test.YtopdeakjnloemaaK3
import Derived.Test.YtopdeakjnloemaaK4
import Derived.Test.YtopdeakjnloemaaK5
import Derived.Test.YtopdeakjnloemaaK6
import Derived.Test.YtopdeakjnloemaaK7
import Derived.Test.YtopdeakjnloemaaK8
import Derived.Test.YtopdeakjnloemaaK9
import Derived.Test.YtopdeakjnloemaaK10
import Derived.Test.YtopdeakjnloemaaK11
import Derived.Test.YtopdeakjnloemaaK12
import Derived.Test.YtopdeakjnloemaaK13
import Derived.Test.YtopdeakjnloemaaK14
import Derived.Test.YtopdeakjnloemaaK15
import Derived.Test.YtopdeakjnloemaaK16
namespace Go.Proofs.Ytopdeakjnloemaa
open Go.RowKit Go.Shelf
attribute [local go_sem] Oper.semAt_some

/-- The last coefficient of a plane that is moved. -/
def shD (p : V4) (x y z : Int) : Int := p.d - p.a * x - p.b * y - p.c * z
def RightQ (p : V4) : Prop := RightP p.a p.b p.c p.d
instance (p : V4) : Decidable (RightQ p) := by unfold RightQ; infer_instance
def far3 (x y z : Int) : Prop := x.natAbs ≤ 1000000 ∧ y.natAbs ≤ 1000000 ∧ z.natAbs ≤ 1000000
instance (x y z : Int) : Decidable (far3 x y z) := by unfold far3; infer_instance
def shOk (p : V4) (x y z : Int) : Prop := RightP p.a p.b p.c (shD p x y z)
instance (p : V4) (x y z : Int) : Decidable (shOk p x y z) := by unfold shOk; infer_instance
def shE (p : V4) (x y z : Int) : Int := if RightQ p then (if far3 x y z then errE (decide (shOk p x y z)) 2 else 1) else 30
def shP (p : V4) (x y z : Int) : V4 := if RightQ p then (if far3 x y z then (if shOk p x y z then ⟨p.a, p.b, p.c, shD p x y z⟩ else ⟨0, 0, 0, 0⟩) else ⟨0, 0, 0, 0⟩) else ⟨0, 0, 0, 0⟩
theorem within3M (x y z : Int) : within 1000000 [x, y, z] = decide (far3 x y z) := by
  have s : ∀ n : Int, (-1000000 ≤ n ∧ n ≤ 1000000) ↔ n.natAbs ≤ 1000000 := fun n => by omega
  rw [Bool.eq_iff_iff, decide_eq_true_iff]
  unfold far3
  simp [within, s]

set_option maxRecDepth 100000 in
set_option maxHeartbeats 8000000 in
theorem shift_any (p : V4) (x y z : Int) (w : World) (hp : InV p) :
    Calls Try.prog 37 #[.agg #[.int .i64 p.a, .int .i64 p.b, .int .i64 p.c, .int .i64 p.d], .agg #[.int .i64 x, .int .i64 y, .int .i64 z]] w fun e w' => e = .returned (.tuple #[.agg #[.int .i64 (shP p x y z).a, .int .i64 (shP p x y z).b, .int .i64 (shP p x y z).c, .int .i64 (shP p x y z).d], .int .i64 (shE p x y z)]) ∧ Below w.heap.size w w' := by
  obtain ⟨w1, hw1⟩ : ∃ w1, (((w.alloc (.cells #[.int .i64 p.a, .int .i64 p.b, .int .i64 p.c, .int .i64 p.d] 23)).alloc (.cells #[.int .i64 x, .int .i64 y, .int .i64 z] 53)).alloc (.cells #[.int .i64 0, .int .i64 0, .int .i64 0, .int .i64 0] 23)) = w1 := ⟨_, rfl⟩
  have hb1 : Below w.heap.size w w1 := by rw [← hw1]; exact bw3 w _ _ _
  have k0 : Blk w1 (w.heap.size) #[.int .i64 p.a, .int .i64 p.b, .int .i64 p.c, .int .i64 p.d] 23 := by rw [← hw1]; exact ((Blk.new w _ _).alloc _).alloc _
  have k1 : Blk w1 (w.heap.size + 1) #[.int .i64 x, .int .i64 y, .int .i64 z] 53 := by rw [← hw1]; exact (Blk.new' _ _ _ (by simp)).alloc _
  have kR : Blk w1 (w.heap.size + 1 + 1) #[.int .i64 0, .int .i64 0, .int .i64 0, .int .i64 0] 23 := by rw [← hw1]; exact Blk.new' _ _ _ (by simp)
  have hpl : ∀ b W, RdV W (some ⟨b, 0, none⟩) [p] → Calls Try.prog 44 #[.slice (some ⟨b, 0, none⟩) 1 1] W fun e w' => ∃ v, e = .returned v ∧ ChkIs w' v (errE (decide (RightQ p)) 30) ∧ Below W.heap.size W w' := fun b W hR => by
    have h := planes_any (some ⟨b, 0, none⟩) 1 1 [p] W rfl (by decide) hR (by intro x hx; rw [List.mem_singleton.1 hx]; exact hp)
    rw [show decide (RightQ p) = decide (RightP p.a p.b p.c p.d) from decide_eq_decide.2 Iff.rfl]
    simpa using h
  have hwi : ∀ W, RdI W (some ⟨w.heap.size + 1, 0, none⟩) [x, y, z] → Calls Try.prog 57 #[.int .i64 1000000, .slice (some ⟨w.heap.size + 1, 0, none⟩) 3 3] W fun e w' => ∃ v, e = .returned v ∧ ChkIs w' v (errE (decide (far3 x y z)) 1) ∧ Below W.heap.size W w' := fun W hR => by
    have h := withins_any 1000000 (some ⟨w.heap.size + 1, 0, none⟩) 3 3 [x, y, z] W rfl (by decide) hR (by decide) (by decide)
    rw [within3M] at h
    exact h
  obtain ⟨rp, hrp⟩ : ∃ r, errE (decide (RightQ p)) 30 = r := ⟨_, rfl⟩
  obtain ⟨rv, hrv⟩ : ∃ r, errE (decide (far3 x y z)) 1 = r := ⟨_, rfl⟩
  rw [hrp] at hpl
  rw [hrv] at hwi
  have HPL := Lib.hid hpl
  have HWI := Lib.hid hwi
  obtain ⟨PV, hPV⟩ : ∃ v, shP p x y z = v := ⟨_, rfl⟩
  obtain ⟨EV, hEV⟩ : ∃ v, shE p x y z = v := ⟨_, rfl⟩
  rw [hPV, hEV]
  have hcase : (firstE [rp, rv] = 0 ∧ RightQ p ∧ far3 x y z) ∨ ((firstE [rp, rv] != 0) = true ∧ PV = ⟨0, 0, 0, 0⟩ ∧ EV = firstE [rp, rv]) := by
    rw [← hPV, ← hEV, ← hrp, ← hrv]
    unfold shP shE
    by_cases h1 : RightQ p
    · by_cases h2 : far3 x y z
      · left; rw [decide_eq_true h1, decide_eq_true h2]; exact ⟨rfl, h1, h2⟩
      · right; rw [decide_eq_true h1, decide_eq_false h2, if_pos h1, if_pos h1, if_neg h2, if_neg h2]; exact ⟨rfl, rfl, rfl⟩
    · right; rw [decide_eq_false h1, if_neg h1, if_neg h1]; exact ⟨rfl, rfl, rfl⟩
  have HC := Lib.hid hcase
  have hPE : RightQ p → far3 x y z → PV = (if shOk p x y z then ⟨p.a, p.b, p.c, shD p x y z⟩ else ⟨0, 0, 0, 0⟩) ∧ EV = errE (decide (shOk p x y z)) 2 := fun h1 h2 => by
    rw [← hPV, ← hEV]; unfold shP shE; rw [if_pos h1, if_pos h2, if_pos h1, if_pos h2]; exact ⟨rfl, rfl⟩
  have HPE := Lib.hid hPE
  clear hpl hwi hrp hrv hPV hEV hcase hPE hp
  go_enter Try.func37, Try.ntmps37
  go_upto_region 1 with fail
  go_cut [6] from 7 to 13 (fun v6 wx => v6 = .int .i64 (firstE [rp, rv]) ∧ Below w1.heap.size w1 wx)
  case first =>
    refine wp_region_kn' (fun ix => ix != 1 && ix != 2 && ix != 4 && ix != 5) (fun ix => match ix with | 0 => .agg #[.int .i64 p.a, .int .i64 p.b, .int .i64 p.c, .int .i64 p.d] | 3 => .slice (some ⟨w.heap.size + 1, 0, none⟩) 3 3 | 6 => .int .i64 (firstE [rp, rv]) | _ => .int .i64 (firstE [rp, rv])) (fun ix v w => match ix with | 1 => ∃ b, v = .slice (some ⟨b, 0, none⟩) 1 1 ∧ RdV w (some ⟨b, 0, none⟩) [p] | 2 => ChkIs w v rp | 4 => ChkIs w v rv | _ => ∃ b, v = .slice (some ⟨b, 0, none⟩) 2 2 ∧ RdC w (some ⟨b, 0, none⟩) [rp, rv]) (by kernel_rfl) (by kernel_rfl) ?_ ?_ ?_
    · intro ix v w8 w9 hb9 h
      have hd : ∀ {rs : List Int}, (∃ b, v = .slice (some ⟨b, 0, none⟩) 2 2 ∧ RdC w8 (some ⟨b, 0, none⟩) rs) → ∃ b, v = .slice (some ⟨b, 0, none⟩) 2 2 ∧ RdC w9 (some ⟨b, 0, none⟩) rs := fun ⟨b, e, hr⟩ => ⟨b, e, hr.below hb9⟩
      rcases ix with _ | _ | _ | _ | _ | ix
      · exact hd h
      · obtain ⟨b, e, hr⟩ := h; exact ⟨b, e, hr.below hb9⟩
      · exact ChkIs.below h hb9
      · exact hd h
      · exact ChkIs.below h hb9
      · exact hd h
    · rintro ix hx f ww hS hd
      have ka := k0.kept hS
      have kb := k1.kept hS
      have a0_ := ka.cell (i := 0) rfl
      have a1_ := ka.cell (i := 1) rfl
      have a2_ := ka.cell (i := 2) rfl
      have a3_ := ka.cell (i := 3) rfl
      have b0_ := kb.cell (i := 0) rfl
      have b1_ := kb.cell (i := 1) rfl
      have b2_ := kb.cell (i := 2) rfl
      rcases ix with _ | _ | _ | _ | _ | _ | _ | _ | ix
      · refine wpOp_list rfl ?_
        simp only [tmOf, putAll, List.map_cons, List.map_nil, List.setIfInBounds_toArray, List.set_cons_zero, List.set_cons_succ]
        go_wp2
        refine ⟨.agg #[.int .i64 p.a, .int .i64 p.b, .int .i64 p.c, .int .i64 p.d], ?_⟩
        simp [upd, Below.refl]
      · have g0 : f 0 = .agg #[.int .i64 p.a, .int .i64 p.b, .int .i64 p.c, .int .i64 p.d] := hd 0 (by kernel_rfl)
        refine wpOp_list rfl ?_
        simp only [tmOf, putAll, List.map_cons, List.map_nil, List.setIfInBounds_toArray, List.set_cons_zero, List.set_cons_succ]
        go_wp2
        exact ⟨.slice (some ⟨ww.heap.size, 0, none⟩) 1 1, by simp [upd, g0], ⟨_, rfl, planes1 ww p.a p.b p.c p.d _⟩, (Below.refl _ ww).alloc (Nat.le_refl _) _⟩
      · obtain ⟨b8, g1, hR8⟩ : ∃ b, f 1 = .slice (some ⟨b, 0, none⟩) 1 1 ∧ RdV ww (some ⟨b, 0, none⟩) [p] := hd 1 (by kernel_rfl)
        refine wpOp_list rfl ?_
        simp only [tmOf, putAll, List.map_cons, List.map_nil, List.setIfInBounds_toArray, List.set_cons_zero, List.set_cons_succ]
        go_wp2_with fail
        refine (HPL.out b8 _ hR8).mono ?_
        rintro e' wf ⟨v, rfl, hv, hbf⟩
        go_wp2_with fail
        first
          | exact ⟨v, by simp [upd, g1], hv, hbf⟩
          | exact ⟨v, by simp [upd, g1], hv⟩
      · refine wpOp_list rfl ?_
        simp only [tmOf, putAll, List.map_cons, List.map_nil, List.setIfInBounds_toArray, List.set_cons_zero, List.set_cons_succ]
        go_wp2
        refine ⟨.slice (some ⟨w.heap.size + 1, 0, none⟩) 3 3, ?_⟩
        simp [upd, Below.refl]
      · have g3 : f 3 = .slice (some ⟨w.heap.size + 1, 0, none⟩) 3 3 := hd 3 (by kernel_rfl)
        refine wpOp_list rfl ?_
        simp only [tmOf, putAll, List.map_cons, List.map_nil, List.setIfInBounds_toArray, List.set_cons_zero, List.set_cons_succ]
        go_wp2_with fail
        refine (HWI.out _ (rdI3 kb)).mono ?_
        rintro e' wf ⟨v, rfl, hv, hbf⟩
        go_wp2_with fail
        first
          | exact ⟨v, by simp [upd, g3], hv, hbf⟩
          | exact ⟨v, by simp [upd, g3], hv⟩
      · have h9 : ChkIs ww (f 2) rp := hd 2 (by kernel_rfl)
        obtain ⟨gf9, caps9, g2, _⟩ := id h9
        have h11 : ChkIs ww (f 4) rv := hd 4 (by kernel_rfl)
        obtain ⟨gf11, caps11, g4, _⟩ := id h11
        refine wpOp_list rfl ?_
        simp only [tmOf, putAll, List.map_cons, List.map_nil, List.setIfInBounds_toArray, List.set_cons_zero, List.set_cons_succ]
        have hr2 := checks2 ww _ _ rp rv 70 h9 h11
        rw [g2, g4] at hr2
        clear h9 h11
        go_wp2
        exact ⟨.slice (some ⟨ww.heap.size, 0, none⟩) 2 2, by simp [upd, g2, g4], ⟨_, rfl, hr2⟩, (Below.refl _ ww).alloc (Nat.le_refl _) _⟩
      · obtain ⟨b12, g5, hR12⟩ : ∃ b, f 5 = .slice (some ⟨b, 0, none⟩) 2 2 ∧ RdC ww (some ⟨b, 0, none⟩) [rp, rv] := hd 5 (by kernel_rfl)
        refine wpOp_list rfl ?_
        simp only [tmOf, putAll, List.map_cons, List.map_nil, List.setIfInBounds_toArray, List.set_cons_zero, List.set_cons_succ]
        have hf := first_any (some ⟨b12, 0, none⟩) 2 2 [rp, rv] ww rfl (by decide) hR12
        have HF := Lib.hid hf
        clear hf hR12
        go_wp2_with fail
        refine HF.out.mono ?_
        rintro e' wf ⟨rfl, hbf⟩
        go_wp2_with fail
        try refine ⟨.int .i64 (firstE [rp, rv]), ?_⟩
        simp [upd, g5, hbf]
      · have g6 : f 6 = .int .i64 (firstE [rp, rv]) := hd 6 (by kernel_rfl)
        refine wpOp_list rfl ?_
        simp only [tmOf, putAll, List.map_cons, List.map_nil, List.setIfInBounds_toArray, List.set_cons_zero, List.set_cons_succ]
        go_wp2
        refine ⟨.int .i64 (firstE [rp, rv]), ?_⟩
        simp [upd, g6, Below.refl]
      · simp only [List.length_cons, List.length_nil] at hx; omega
    · rintro f ww hS hd
      have g7 : f 7 = .int .i64 (firstE [rp, rv]) := hd 7 (by decide)
      simp only [tmOf, putAll, List.map_cons, List.map_nil, List.setIfInBounds_toArray, List.set_cons_zero, List.set_cons_succ]
      refine ‹∀ (a' : Act) (w' : World), Met _ a' w' → _› _ _ ?_
      go_meet
      case rel => exact ⟨g7, hS⟩
  case rest =>
  obtain ⟨rfl, hb2⟩ := hcut
  have k0 := k0.kept hb2
  have k1 := k1.kept hb2
  have kR := kR.kept hb2
  have hb2' := hb1.trans (hb2.mono hb1.size)
  clear hw1 hb1 hb2
  have a0 := k0.cell (i := 0) rfl
  have a1 := k0.cell (i := 1) rfl
  have a2 := k0.cell (i := 2) rfl
  have a3 := k0.cell (i := 3) rfl
  have b0 := k1.cell (i := 0) rfl
  have b1 := k1.cell (i := 1) rfl
  have b2 := k1.cell (i := 2) rfl
  have d0 := kR.cell (i := 0) rfl
  have d1 := kR.cell (i := 1) rfl
  have d2 := kR.cell (i := 2) rfl
  have d3 := kR.cell (i := 3) rfl
  have q0 := kR.frozen 0
  have q1 := kR.frozen 1
  have q2 := kR.frozen 2
  have q3 := kR.frozen 3
  obtain ⟨n, hn⟩ : ∃ n, firstE [rp, rv] = n := ⟨_, rfl⟩
  rw [hn] at HC ⊢
  rcases HC.out with ⟨rfl, h1, h2⟩ | ⟨h1, h2, h3⟩
  · have hpe := HPE.out h1 h2
    obtain ⟨_, s0, s1, s2, s3, _⟩ := h1
    obtain ⟨v0, v1, v2⟩ := h2
    have m0 := mul_le_nat s0 v0
    have m1 := mul_le_nat s1 v1
    have m2 := mul_le_nat s2 v2
    have e0 : shD p x y z = p.d - p.a * x - p.b * y - p.c * z := rfl
    rw [e0] at hpe
    obtain ⟨u0, hu0⟩ : ∃ u, p.a * x = u := ⟨_, rfl⟩
    obtain ⟨u1, hu1⟩ : ∃ u, p.b * y = u := ⟨_, rfl⟩
    obtain ⟨u2, hu2⟩ : ∃ u, p.c * z = u := ⟨_, rfl⟩
    have hok : RightP p.a p.b p.c (p.d - u0 - u1 - u2) ↔ shOk p x y z := by unfold shOk; rw [e0, hu0, hu1, hu2]
    rw [hu0, hu1, hu2] at hpe
    rw [hu0] at m0
    rw [hu1] at m1
    rw [hu2] at m2
    have e1 : wrap64 u0 = u0 := by unfold wrap64; omega
    have e2 : wrap64 u1 = u1 := by unfold wrap64; omega
    have e3 : wrap64 u2 = u2 := by unfold wrap64; omega
    have e4 : wrap64 (p.d - u0) = p.d - u0 := by unfold wrap64; omega
    have e5 : wrap64 (p.d - u0 - u1) = p.d - u0 - u1 := by unfold wrap64; omega
    have e6 : wrap64 (p.d - u0 - u1 - u2) = p.d - u0 - u1 - u2 := by unfold wrap64; omega
    have hs := fun W => small_any p.a p.b p.c (p.d - u0 - u1 - u2) W (by unfold InI64; omega) (by unfold InI64; omega) (by unfold InI64; omega) (by unfold InI64; omega)
    simp only [ite_iff hok, show decide (RightP p.a p.b p.c (p.d - u0 - u1 - u2)) = decide (shOk p x y z) from decide_eq_decide.2 hok] at hs
    obtain ⟨T, hT⟩ : ∃ T : V4, (if shOk p x y z then ⟨p.a, p.b, p.c, p.d - u0 - u1 - u2⟩ else ⟨0, 0, 0, 0⟩) = T := ⟨_, rfl⟩
    have hTv : (if shOk p x y z then Value.agg #[.int .i64 p.a, .int .i64 p.b, .int .i64 p.c, .int .i64 (p.d - u0 - u1 - u2)] else .agg #[.int .i64 0, .int .i64 0, .int .i64 0, .int .i64 0]) = .agg #[.int .i64 T.a, .int .i64 T.b, .int .i64 T.c, .int .i64 T.d] := by
      rw [← hT]; split <;> rfl
    rw [hT] at hpe
    obtain ⟨E, hE⟩ : ∃ E, errE (decide (shOk p x y z)) 2 = E := ⟨_, rfl⟩
    rw [hE] at hpe
    simp only [hTv, hE] at hs
    have HS := Lib.hid hs
    have HV : Hid (Ending.returned (.tuple #[.agg #[.int .i64 T.a, .int .i64 T.b, .int .i64 T.c, .int .i64 T.d], .int .i64 E]) = Ending.returned (.tuple #[.agg #[.int .i64 PV.a, .int .i64 PV.b, .int .i64 PV.c, .int .i64 PV.d], .int .i64 EV])) := Lib.hid (by rw [hpe.1, hpe.2])
    clear hs hpe hT hTv hE hok s0 s1 s2 s3 v0 v1 v2 m0 m1 m2 e0 HPE HC hn HPL HWI
    go_wp2_with fail
    refine (HS.out _).mono ?_
    rintro e' w5 ⟨rfl, hb5⟩
    have kR := kR.kept hb5
    have hb5' := hb2'.trans (hb5.mono hb2'.size)
    clear d0 d1 d2 d3 q0 q1 q2 q3
    have d0 := kR.cell (i := 0) rfl
    have d1 := kR.cell (i := 1) rfl
    have d2 := kR.cell (i := 2) rfl
    have d3 := kR.cell (i := 3) rfl
    have q0 := kR.frozen 0
    have q1 := kR.frozen 1
    have q2 := kR.frozen 2
    have q3 := kR.frozen 3
    go_wp2_with fail
    have L := Blk.put4 kR (.int .i64 T.a) (.int .i64 T.b) (.int .i64 T.c) (.int .i64 T.d)
    have z0 := L.cell (i := 0) rfl
    have z1 := L.cell (i := 1) rfl
    have z2 := L.cell (i := 2) rfl
    have z3 := L.cell (i := 3) rfl
    exact bodyPost_ret (v := .tuple #[.agg #[.int .i64 T.a, .int .i64 T.b, .int .i64 T.c, .int .i64 T.d], .int .i64 E]) (by simp [results, Try.results37, go_sem, z0, z1, z2, z3]) rfl ⟨HV.out, (((hb5'.setCell (by simp only; omega) _).setCell (by simp only; omega) _).setCell (by simp only; omega) _).setCell (by simp only; omega) _⟩
  · have HV : Hid (Ending.returned (.tuple #[.agg #[.int .i64 0, .int .i64 0, .int .i64 0, .int .i64 0], .int .i64 n]) = Ending.returned (.tuple #[.agg #[.int .i64 PV.a, .int .i64 PV.b, .int .i64 PV.c, .int .i64 PV.d], .int .i64 EV])) := Lib.hid (by rw [h2, h3])
    clear h2 h3 HC HPE hn HPL HWI
    go_wp2_with fail
    have L := Blk.put4 kR (.int .i64 0) (.int .i64 0) (.int .i64 0) (.int .i64 0)
    have z0 := L.cell (i := 0) rfl
    have z1 := L.cell (i := 1) rfl
    have z2 := L.cell (i := 2) rfl
    have z3 := L.cell (i := 3) rfl
    exact bodyPost_ret (v := .tuple #[.agg #[.int .i64 0, .int .i64 0, .int .i64 0, .int .i64 0], .int .i64 n]) (by simp [results, Try.results37, go_sem, z0, z1, z2, z3]) rfl ⟨HV.out, (((hb2'.setCell (by simp only; omega) _).setCell (by simp only; omega) _).setCell (by simp only; omega) _).setCell (by simp only; omega) _⟩

end Go.Proofs.Ytopdeakjnloemaa

namespace Go.Proofs.Ytopdeakjnloemaa
open Go.RowKit Go.Shelf
attribute [local go_sem] Oper.semAt_some

/-- A number brought into a range. -/
def tameC (v most : Int) : Int := v % 18446744073709551616 % (2 * most + 1) - most
def tameA (x : V4) (most : Int) : Int := if tameC x.a most = 0 ∧ tameC x.b most = 0 ∧ tameC x.c most = 0 then 1 else tameC x.a most
def tameD (x : V4) : Int := x.d % 18446744073709551616 % 41 - 20
def tameV (x : V4) (most : Int) : V4 :=
  ⟨low4 (tameA x most) (tameC x.b most) (tameC x.c most) (tameD x) (tameA x most), low4 (tameA x most) (tameC x.b most) (tameC x.c most) (tameD x) (tameC x.b most), low4 (tameA x most) (tameC x.b most) (tameC x.c most) (tameD x) (tameC x.c most), low4 (tameA x most) (tameC x.b most) (tameC x.c most) (tameD x) (tameD x)⟩
theorem tameC_le {v most : Int} (h1 : 1 ≤ most) : (tameC v most).natAbs ≤ most.natAbs := by
  unfold tameC
  have a0 := Int.emod_nonneg (v % 18446744073709551616) (b := 2 * most + 1) (by omega)
  have a1 := Int.emod_lt_of_pos (v % 18446744073709551616) (b := 2 * most + 1) (by omega)
  omega
theorem tameD_le (x : V4) : (tameD x).natAbs ≤ 20 := by unfold tameD; omega
theorem tameA_le {x : V4} {most : Int} (h1 : 1 ≤ most) : (tameA x most).natAbs ≤ most.natAbs := by
  unfold tameA; split
  · omega
  · exact tameC_le h1
theorem tameA_ne (x : V4) (most : Int) : ¬ (tameA x most = 0 ∧ tameC x.b most = 0 ∧ tameC x.c most = 0) := by
  unfold tameA
  split
  · rintro ⟨h, _⟩; cases h
  · rename_i h; exact h
theorem makeOk_small {a b c d : Int} (hn : ¬ (a = 0 ∧ b = 0 ∧ c = 0)) (hA : a.natAbs ≤ 1000) (hB : b.natAbs ≤ 1000) (hC : c.natAbs ≤ 1000) (hD : d.natAbs ≤ 1000000) : MakeOk a b c d := by
  have hm := low4_mul a b c d
  have l0 := low4_le hn hm.1
  have l1 := low4_le hn hm.2.1
  have l2 := low4_le hn hm.2.2.1
  have l3 := low4_le hn hm.2.2.2
  have z0 := low4_zero hn hm.1
  have z1 := low4_zero hn hm.2.1
  have z2 := low4_zero hn hm.2.2.1
  have hg := low4_g4 (d := d) hn
  unfold MakeOk RightP
  exact ⟨fun h => hn ⟨z0.1 h.1, z1.1 h.2.1, z2.1 h.2.2⟩, Nat.le_trans l0 hA, Nat.le_trans l1 hB, Nat.le_trans l2 hC, Nat.le_trans l3 hD, hg⟩
theorem tame_ok {x : V4} {most : Int} (h1 : 1 ≤ most) (h2 : most ≤ 1000) : MakeOk (tameA x most) (tameC x.b most) (tameC x.c most) (tameD x) :=
  makeOk_small (tameA_ne x most) (Nat.le_trans (tameA_le h1) (by omega)) (Nat.le_trans (tameC_le h1) (by omega)) (Nat.le_trans (tameC_le h1) (by omega)) (Nat.le_trans (tameD_le x) (by decide))
theorem tame_right {x : V4} {most : Int} (h1 : 1 ≤ most) (h2 : most ≤ 1000) : RightQ (tameV x most) := tame_ok h1 h2
theorem right_in {p : V4} (h : RightQ p) : InV p := by
  obtain ⟨_, h0, h1, h2, h3, _⟩ := h
  unfold InV InI64
  omega
theorem sound_in {p : V4} (h : SoundQ p) : InV p := by
  obtain ⟨h0, h1, h2, h3, h4, _⟩ := h
  unfold InV InI64
  omega

set_option maxRecDepth 100000 in
set_option maxHeartbeats 8000000 in
theorem tame_any (x : V4) (most : Int) (w : World) (hx : InV x) (h1 : 1 ≤ most) (h2 : most ≤ 1000) :
    Calls Try.prog 19 #[.agg #[.int .i64 x.a, .int .i64 x.b, .int .i64 x.c, .int .i64 x.d], .int .i64 most] w fun e w' => e = .returned (.agg #[.int .i64 (tameV x most).a, .int .i64 (tameV x most).b, .int .i64 (tameV x most).c, .int .i64 (tameV x most).d]) ∧ Below w.heap.size w w' := by
  have hm := fun W => rmake_some (tameA x most) (tameC x.b most) (tameC x.c most) (tameD x) W (tameA_ne x most) (by have := tameA_le (x := x) h1; unfold InI64; omega) (by have := tameC_le (v := x.b) h1; unfold InI64; omega) (by have := tameC_le (v := x.c) h1; unfold InI64; omega) (by have := tameD_le x; unfold InI64; omega)
  rw [decide_eq_true (tame_ok h1 h2)] at hm
  simp only [if_pos (tame_ok (x := x) h1 h2)] at hm
  obtain ⟨T, hT⟩ : ∃ T, tameV x most = T := ⟨_, rfl⟩
  have hm : ∀ W, Calls Try.prog 13 #[.int .i64 (tameA x most), .int .i64 (tameC x.b most), .int .i64 (tameC x.c most), .int .i64 (tameD x)] W fun e w' => e = .returned (.tuple #[.agg #[.int .i64 T.a, .int .i64 T.b, .int .i64 T.c, .int .i64 T.d], .int .i64 0]) ∧ Below W.heap.size W w' := fun W => by rw [← hT]; exact hm W
  rw [hT]
  clear hT
  obtain ⟨w1, hw1⟩ : ∃ w1, (((w.alloc (.cells #[.int .i64 x.a, .int .i64 x.b, .int .i64 x.c, .int .i64 x.d] 22)).alloc (.cells #[.int .i64 0, .int .i64 0, .int .i64 0, .int .i64 0] 23)).alloc (.cells #[.int .i64 0, .int .i64 0, .int .i64 0, .int .i64 0] 23)) = w1 := ⟨_, rfl⟩
  have hb1 : Below w.heap.size w w1 := by rw [← hw1]; exact bw3 w _ _ _
  have k0 : Blk w1 (w.heap.size) #[.int .i64 x.a, .int .i64 x.b, .int .i64 x.c, .int .i64 x.d] 22 := by rw [← hw1]; exact ((Blk.new w _ _).alloc _).alloc _
  have kR : Blk w1 (w.heap.size + 1) #[.int .i64 0, .int .i64 0, .int .i64 0, .int .i64 0] 23 := by rw [← hw1]; exact (Blk.new' _ _ _ (by simp)).alloc _
  have kP : Blk w1 (w.heap.size + 1 + 1) #[.int .i64 0, .int .i64 0, .int .i64 0, .int .i64 0] 23 := by rw [← hw1]; exact Blk.new' _ _ _ (by simp)
  have HM := Lib.hid hm
  have HX := Lib.hid hx
  clear hm hx
  go_enter Try.func19, Try.ntmps19
  go_wp2_with fail
  go_loopg [6] 3 (fun gk v6 wr => ∃ (i : Nat), i ≤ 3 ∧ gk = 3 - i ∧ v6 = .int .i64 (i : Int) ∧ Blk wr w.heap.size #[.int .i64 x.a, .int .i64 x.b, .int .i64 x.c, .int .i64 x.d] 22 ∧ Blk wr (w.heap.size + 1) #[.int .i64 0, .int .i64 0, .int .i64 0, .int .i64 0] 23 ∧ (∃ r : Nat → Int, Hid (∀ j, r j = if j < i then tameC (vg x j) most else 0) ∧ Blk wr (w.heap.size + 1 + 1) #[.int .i64 (r 0), .int .i64 (r 1), .int .i64 (r 2), .int .i64 (r 3)] 23) ∧ Below w.heap.size w wr)
  case atStart => exact ⟨0, by decide, rfl, rfl, k0, kR, ⟨fun _ => 0, fun j => rfl, kP⟩, hb1⟩
  case round =>
    clear k0 kR kP hb1 hw1
    obtain ⟨i, hi, hgk, rfl, k0, kR, ⟨r, HR, kP⟩, hb⟩ := hrel
    have HGK := Lib.hid hgk
    clear hgk
    by_cases hlt : i < 3
    · have hlti : (i : Int) < 3 := by omega
      have hlti4 : (i : Int) < 4 := by omega
      have hi4 : i < 4 := by omega
      have c0 := k0.vg hi4
      have f0 := kP.frozen i
      have d0 := int4_at kP hi4
      obtain ⟨v, hv⟩ : ∃ v, vg x i = v := ⟨_, rfl⟩
      have hvi := vg_in HX.out i
      rw [hv] at c0 hvi
      obtain ⟨u, hu⟩ : ∃ u, v % 18446744073709551616 = u := ⟨_, rfl⟩
      have u0 : 0 ≤ u := by omega
      have u1 : u < 18446744073709551616 := by omega
      obtain ⟨s, hs⟩ : ∃ s, u % (2 * most + 1) = s := ⟨_, rfl⟩
      have s0 : 0 ≤ s := by rw [← hs]; exact Int.emod_nonneg _ (by omega)
      have s1 : s < 2 * most + 1 := by rw [← hs]; exact Int.emod_lt_of_pos _ (by omega)
      have e1 : IntKind.u64.wrap v = u := by rw [IntKind.wrap_u64, hu]
      have e2 : wrap64 (2 * most) = 2 * most := by unfold wrap64; omega
      have e3 : wrap64 (2 * most + 1) = 2 * most + 1 := by unfold wrap64; omega
      have e4 : IntKind.u64.wrap (2 * most + 1) = 2 * most + 1 := by rw [IntKind.wrap_u64]; omega
      have e5 : u.tmod (2 * most + 1) = s := by rw [Int.tmod_eq_emod_of_nonneg u0]; exact hs
      have e6 : IntKind.u64.wrap s = s := by rw [IntKind.wrap_u64]; omega
      have e7 : wrap64 s = s := by unfold wrap64; omega
      have e8 : wrap64 (s - most) = s - most := by unfold wrap64; omega
      have e9 : ¬ (2 * most + 1 = 0) := by omega
      have ht : tameC (vg x i) most = s - most := by unfold tameC; rw [hv, hu, hs]
      have HT := Lib.hid ht
      clear ht hs hu hv hvi
      go_wp2_with fail
      go_roundg (3 - (i + 1))
      case measure => rw [HGK.out]; omega
      case rel =>
        refine ⟨i + 1, by omega, rfl, by go_num, k0.other (C := w.heap.size + 1 + 1) i _ (by omega), kR.other (C := w.heap.size + 1 + 1) i _ (by omega), ⟨fun j => if j = i then s - most else r j, ?_, kP.set_eq i _ (int4_set hi4 _)⟩, hb.setCell (by simp only; omega) _⟩
        intro j
        show (if j = i then s - most else r j) = if j < i + 1 then tameC (vg x j) most else 0
        by_cases hj : j = i
        · subst hj; rw [if_pos rfl, if_pos (by omega), HT.out]
        · rw [if_neg hj, HR.out j]
          by_cases h : j < i
          · rw [if_pos h, if_pos (by omega)]
          · rw [if_neg h, if_neg (by omega)]
    · obtain rfl : i = 3 := by omega
      have r0 : r 0 = tameC x.a most := HR.out 0
      have r1 : r 1 = tameC x.b most := HR.out 1
      have r2 : r 2 = tameC x.c most := HR.out 2
      have r3 : r 3 = 0 := HR.out 3
      rw [r0, r1, r2, r3] at kP
      have hA : tameA x most = if tameC x.a most = 0 ∧ tameC x.b most = 0 ∧ tameC x.c most = 0 then 1 else tameC x.a most := rfl
      have e0 : IntKind.u64.wrap x.d = x.d % 18446744073709551616 := by rw [IntKind.wrap_u64]
      obtain ⟨u, hu⟩ : ∃ u, x.d % 18446744073709551616 = u := ⟨_, rfl⟩
      have hD : tameD x = u % 41 - 20 := by unfold tameD; rw [hu]
      rw [hu] at e0
      have u0 : 0 ≤ u := by omega
      obtain ⟨s, hs⟩ : ∃ s, u % 41 = s := ⟨_, rfl⟩
      rw [hs] at hD
      have s0 : 0 ≤ s ∧ s < 41 := by omega
      have e5 : u.tmod 41 = s := by rw [Int.tmod_eq_emod_of_nonneg u0]; exact hs
      have e6 : IntKind.u64.wrap s = s := by rw [IntKind.wrap_u64]; omega
      have e7 : wrap64 s = s := by unfold wrap64; omega
      have e8 : wrap64 (s - 20) = s - 20 := by unfold wrap64; omega
      have HM2 := HM.out
      rw [hD] at HM2
      have HM := Lib.hid HM2
      obtain ⟨A, hAe⟩ : ∃ A, tameA x most = A := ⟨_, rfl⟩
      obtain ⟨a, ha⟩ : ∃ A, tameC x.a most = A := ⟨_, rfl⟩
      obtain ⟨b, hb'⟩ : ∃ A, tameC x.b most = A := ⟨_, rfl⟩
      obtain ⟨c, hc⟩ : ∃ A, tameC x.c most = A := ⟨_, rfl⟩
      have HM2 := HM.out
      rw [hAe, hb', hc] at HM2
      rw [hAe, ha, hb', hc] at hA
      rw [ha, hb', hc] at kP
      have HM := Lib.hid HM2
      clear HM2 hAe ha hb' hc hu hs hD r0 r1 r2 r3 HR
      go_upto_region 6 with fail
      go_cut [39] from 27 to 39 (fun v39 wx => v39 = .bool (decide (a = 0 ∧ b = 0 ∧ c = 0)) ∧ Hid (wr = wx))
      case first =>
        have d0 := kP.cell (i := 0) rfl
        have d1 := kP.cell (i := 1) rfl
        have d2 := kP.cell (i := 2) rfl
        by_cases ha : a = 0
        · have ha' : (a == 0) = true := by simp [ha]
          by_cases hb' : b = 0
          · have hb'' : (b == 0) = true := by simp [hb']
            by_cases hc : c = 0
            · have hc' : (c == 0) = true := by simp [hc]
              have HD : Hid (true = decide (a = 0 ∧ b = 0 ∧ c = 0)) := Lib.hid (by simp [ha, hb', hc])
              clear ha hb' hc
              go_wp2_with fail
              go_meet
              case rel => exact ⟨congrArg Value.bool HD.out, rfl⟩
            · have hc' : (c == 0) = false := by simp [hc]
              have HD : Hid (false = decide (a = 0 ∧ b = 0 ∧ c = 0)) := Lib.hid (by simp [hc])
              clear ha hb' hc
              go_wp2_with fail
              go_meet
              case rel => exact ⟨congrArg Value.bool HD.out, rfl⟩
          · have hb'' : (b == 0) = false := by simp [hb']
            have HD : Hid (false = decide (a = 0 ∧ b = 0 ∧ c = 0)) := Lib.hid (by simp [hb'])
            clear ha hb'
            go_wp2_with fail
            go_meet
            case rel => exact ⟨congrArg Value.bool HD.out, rfl⟩
        · have ha' : (a == 0) = false := by simp [ha]
          have HD : Hid (false = decide (a = 0 ∧ b = 0 ∧ c = 0)) := Lib.hid (by simp [ha])
          clear ha
          go_wp2_with fail
          go_meet
          case rel => exact ⟨congrArg Value.bool HD.out, rfl⟩
      case rest =>
      obtain ⟨rfl, hcut⟩ := hcut
      obtain rfl := hcut.out
      clear hcut
      by_cases hz : a = 0 ∧ b = 0 ∧ c = 0
      · rw [decide_eq_true hz]
        rw [if_pos hz] at hA
        subst hA
        obtain ⟨rfl, rfl, rfl⟩ := hz
        obtain ⟨w4, hw4⟩ : ∃ w', wr.setCell ⟨w.heap.size + 1 + 1, 0, none⟩ (.int .i64 1) = w' := ⟨_, rfl⟩
        have kP4 : Blk w4 (w.heap.size + 1 + 1) #[.int .i64 1, .int .i64 0, .int .i64 0, .int .i64 0] 23 := by rw [← hw4]; exact kP.set_eq 0 _ rfl
        have k04 : Blk w4 w.heap.size #[.int .i64 x.a, .int .i64 x.b, .int .i64 x.c, .int .i64 x.d] 22 := by rw [← hw4]; exact k0.other (C := w.heap.size + 1 + 1) 0 _ (by omega)
        have kR4 : Blk w4 (w.heap.size + 1) #[.int .i64 0, .int .i64 0, .int .i64 0, .int .i64 0] 23 := by rw [← hw4]; exact kR.other (C := w.heap.size + 1 + 1) 0 _ (by omega)
        have hb4 : Below w.heap.size w w4 := by rw [← hw4]; exact hb.setCell (by simp only; omega) _
        have g0 := kP.cell (i := 0) rfl
        have g1 := kP.frozen 0
        have e1 := k04.cell (i := 3) rfl
        have d0 := kP4.cell (i := 0) rfl
        have d1 := kP4.cell (i := 1) rfl
        have d2 := kP4.cell (i := 2) rfl
        go_wp2_with fail
        refine (HM.out _).mono ?_
        rintro e' w5 ⟨rfl, hb5⟩
        have kR := kR4.kept hb5
        have hb5' := (hb4).trans (hb5.mono (hb4).size)
        obtain ⟨w6, hw6⟩ : ∃ w6, w5.alloc (.cells #[.int .i64 0, .int .i64 0, .int .i64 0, .int .i64 0] 23) = w6 := ⟨_, rfl⟩
        have kQ : Blk w6 w5.heap.size #[.int .i64 0, .int .i64 0, .int .i64 0, .int .i64 0] 23 := by rw [← hw6]; exact Blk.new _ _ _
        have hlt5 : w.heap.size + 1 < w5.heap.size := kR.lt
        have kR : Blk w6 (w.heap.size + 1) #[.int .i64 0, .int .i64 0, .int .i64 0, .int .i64 0] 23 := by rw [← hw6]; exact kR.alloc _
        have hb6 : Below w.heap.size w w6 := by rw [← hw6]; exact hb5'.alloc hb5'.size _
        obtain ⟨w7, hw7⟩ : ∃ w8, ((((w6.setCell ⟨w5.heap.size, 0, none⟩ (.int .i64 T.a)).setCell ⟨w5.heap.size, 1, none⟩ (.int .i64 T.b)).setCell ⟨w5.heap.size, 2, none⟩ (.int .i64 T.c)).setCell ⟨w5.heap.size, 3, none⟩ (.int .i64 T.d)) = w8 := ⟨_, rfl⟩
        have kQ7 : Blk w7 w5.heap.size #[.int .i64 T.a, .int .i64 T.b, .int .i64 T.c, .int .i64 T.d] 23 := by rw [← hw7]; exact Blk.put4 kQ _ _ _ _
        have kR7 : Blk w7 (w.heap.size + 1) #[.int .i64 0, .int .i64 0, .int .i64 0, .int .i64 0] 23 := by rw [← hw7]; exact (((kR.other (C := w5.heap.size) 0 _ (by omega)).other (C := w5.heap.size) 1 _ (by omega)).other (C := w5.heap.size) 2 _ (by omega)).other (C := w5.heap.size) 3 _ (by omega)
        have hb7 : Below w.heap.size w w7 := by rw [← hw7]; exact (((hb6.setCell (by simp only; omega) _).setCell (by simp only; omega) _).setCell (by simp only; omega) _).setCell (by simp only; omega) _
        clear d0 d1 d2 e1
        have a0 := kQ.cell (i := 0) rfl
        have a1 := kQ.cell (i := 1) rfl
        have a2 := kQ.cell (i := 2) rfl
        have a3 := kQ.cell (i := 3) rfl
        have b0 := kQ.frozen 0
        have b1 := kQ.frozen 1
        have b2 := kQ.frozen 2
        have b3 := kQ.frozen 3
        have s0 := kQ7.cell (i := 0) rfl
        have s1 := kQ7.cell (i := 1) rfl
        have s2 := kQ7.cell (i := 2) rfl
        have s3 := kQ7.cell (i := 3) rfl
        have d0 := kR7.cell (i := 0) rfl
        have d1 := kR7.cell (i := 1) rfl
        have d2 := kR7.cell (i := 2) rfl
        have d3 := kR7.cell (i := 3) rfl
        have f0 := kR7.frozen 0
        have f1 := kR7.frozen 1
        have f2 := kR7.frozen 2
        have f3 := kR7.frozen 3
        go_wp2_with fail
        have L := Blk.put4 kR7 (.int .i64 T.a) (.int .i64 T.b) (.int .i64 T.c) (.int .i64 T.d)
        have y0 := L.cell (i := 0) rfl
        have y1 := L.cell (i := 1) rfl
        have y2 := L.cell (i := 2) rfl
        have y3 := L.cell (i := 3) rfl
        exact bodyPost_ret (v := .agg #[.int .i64 T.a, .int .i64 T.b, .int .i64 T.c, .int .i64 T.d]) (by simp [results, Try.results19, go_sem, y0, y1, y2, y3]) rfl ⟨rfl, (((hb7.setCell (by simp only; omega) _).setCell (by simp only; omega) _).setCell (by simp only; omega) _).setCell (by simp only; omega) _⟩
      · rw [decide_eq_false hz]
        rw [if_neg hz] at hA
        subst hA
        clear hz
        have e1 := k0.cell (i := 3) rfl
        have d0 := kP.cell (i := 0) rfl
        have d1 := kP.cell (i := 1) rfl
        have d2 := kP.cell (i := 2) rfl
        go_wp2_with fail
        refine (HM.out _).mono ?_
        rintro e' w5 ⟨rfl, hb5⟩
        have kR := kR.kept hb5
        have hb5' := (hb).trans (hb5.mono (hb).size)
        obtain ⟨w6, hw6⟩ : ∃ w6, w5.alloc (.cells #[.int .i64 0, .int .i64 0, .int .i64 0, .int .i64 0] 23) = w6 := ⟨_, rfl⟩
        have kQ : Blk w6 w5.heap.size #[.int .i64 0, .int .i64 0, .int .i64 0, .int .i64 0] 23 := by rw [← hw6]; exact Blk.new _ _ _
        have hlt5 : w.heap.size + 1 < w5.heap.size := kR.lt
        have kR : Blk w6 (w.heap.size + 1) #[.int .i64 0, .int .i64 0, .int .i64 0, .int .i64 0] 23 := by rw [← hw6]; exact kR.alloc _
        have hb6 : Below w.heap.size w w6 := by rw [← hw6]; exact hb5'.alloc hb5'.size _
        obtain ⟨w7, hw7⟩ : ∃ w8, ((((w6.setCell ⟨w5.heap.size, 0, none⟩ (.int .i64 T.a)).setCell ⟨w5.heap.size, 1, none⟩ (.int .i64 T.b)).setCell ⟨w5.heap.size, 2, none⟩ (.int .i64 T.c)).setCell ⟨w5.heap.size, 3, none⟩ (.int .i64 T.d)) = w8 := ⟨_, rfl⟩
        have kQ7 : Blk w7 w5.heap.size #[.int .i64 T.a, .int .i64 T.b, .int .i64 T.c, .int .i64 T.d] 23 := by rw [← hw7]; exact Blk.put4 kQ _ _ _ _
        have kR7 : Blk w7 (w.heap.size + 1) #[.int .i64 0, .int .i64 0, .int .i64 0, .int .i64 0] 23 := by rw [← hw7]; exact (((kR.other (C := w5.heap.size) 0 _ (by omega)).other (C := w5.heap.size) 1 _ (by omega)).other (C := w5.heap.size) 2 _ (by omega)).other (C := w5.heap.size) 3 _ (by omega)
        have hb7 : Below w.heap.size w w7 := by rw [← hw7]; exact (((hb6.setCell (by simp only; omega) _).setCell (by simp only; omega) _).setCell (by simp only; omega) _).setCell (by simp only; omega) _
        clear d0 d1 d2 e1
        have a0 := kQ.cell (i := 0) rfl
        have a1 := kQ.cell (i := 1) rfl
        have a2 := kQ.cell (i := 2) rfl
        have a3 := kQ.cell (i := 3) rfl
        have b0 := kQ.frozen 0
        have b1 := kQ.frozen 1
        have b2 := kQ.frozen 2
        have b3 := kQ.frozen 3
        have s0 := kQ7.cell (i := 0) rfl
        have s1 := kQ7.cell (i := 1) rfl
        have s2 := kQ7.cell (i := 2) rfl
        have s3 := kQ7.cell (i := 3) rfl
        have d0 := kR7.cell (i := 0) rfl
        have d1 := kR7.cell (i := 1) rfl
        have d2 := kR7.cell (i := 2) rfl
        have d3 := kR7.cell (i := 3) rfl
        have f0 := kR7.frozen 0
        have f1 := kR7.frozen 1
        have f2 := kR7.frozen 2
        have f3 := kR7.frozen 3
        go_wp2_with fail
        have L := Blk.put4 kR7 (.int .i64 T.a) (.int .i64 T.b) (.int .i64 T.c) (.int .i64 T.d)
        have y0 := L.cell (i := 0) rfl
        have y1 := L.cell (i := 1) rfl
        have y2 := L.cell (i := 2) rfl
        have y3 := L.cell (i := 3) rfl
        exact bodyPost_ret (v := .agg #[.int .i64 T.a, .int .i64 T.b, .int .i64 T.c, .int .i64 T.d]) (by simp [results, Try.results19, go_sem, y0, y1, y2, y3]) rfl ⟨rfl, (((hb7.setCell (by simp only; omega) _).setCell (by simp only; omega) _).setCell (by simp only; omega) _).setCell (by simp only; omega) _⟩

end Go.Proofs.Ytopdeakjnloemaa

namespace Go.Proofs.Ytopdeakjnloemaa
open Go.RowKit Go.Shelf
attribute [local go_sem] Oper.semAt_some

theorem gcd_le_of {a b : Int} {m : Nat} (ha : a.natAbs ≤ m) (hb : b.natAbs ≤ m) : Int.gcd a b ≤ m := by
  rcases Nat.eq_zero_or_pos a.natAbs with h | h
  · have : Int.gcd a b = b.natAbs := by unfold Int.gcd; rw [h, Nat.gcd_zero_left]
    omega
  · exact Nat.le_trans (Nat.le_of_dvd h (Nat.gcd_dvd_left a.natAbs b.natAbs)) ha
end Go.Proofs.Ytopdeakjnloemaa

namespace Go.Proofs.Ytopdeakjnloemaa
open Go.RowKit Go.Shelf
attribute [local go_sem] Oper.semAt_some

def placeCA (x : V4) : Int := x.a % 18446744073709551616 % 41 - 20
def placeCB (x : V4) : Int := x.b % 18446744073709551616 % 41 - 20
def placeCC (x : V4) : Int := x.c % 18446744073709551616 % 41 - 20
def placeCD (x : V4) : Int := 1 + x.d % 18446744073709551616 % 4
def placeV (x : V4) : V4 := ⟨low4 (placeCA x) (placeCB x) (placeCC x) (placeCD x) (placeCA x), low4 (placeCA x) (placeCB x) (placeCC x) (placeCD x) (placeCB x), low4 (placeCA x) (placeCB x) (placeCC x) (placeCD x) (placeCC x), low4 (placeCA x) (placeCB x) (placeCC x) (placeCD x) (placeCD x)⟩

theorem g4_pos' {a b c d : Int} (h : 1 ≤ d) : 0 < g4 a b c d := by
  rcases Nat.eq_zero_or_pos (g4 a b c d) with h0 | h0
  · exfalso
    have := g4_dvd a b c d
    rw [h0] at this
    have := Int.zero_dvd.1 this.2.2.2
    omega
  · exact h0
theorem low4_g4' {a b c d : Int} (hp : 0 < g4 a b c d) : g4 (low4 a b c d a) (low4 a b c d b) (low4 a b c d c) (low4 a b c d d) = 1 := by
  have hm := low4_mul a b c d
  have hs := g4_scale (g4 a b c d) (low4 a b c d a) (low4 a b c d b) (low4 a b c d c) (low4 a b c d d)
  rw [Int.mul_comm, hm.1, Int.mul_comm, hm.2.1, Int.mul_comm, hm.2.2.1, Int.mul_comm, hm.2.2.2] at hs
  exact Nat.eq_of_mul_eq_mul_left hp (by omega)
theorem low4_le' {a b c d x : Int} (hp : 0 < g4 a b c d) (hx : low4 a b c d x * g4 a b c d = x) : (low4 a b c d x).natAbs ≤ x.natAbs := by
  have e : (low4 a b c d x).natAbs * g4 a b c d = x.natAbs := by rw [← congrArg Int.natAbs hx, Int.natAbs_mul, Int.natAbs_natCast]
  have := Nat.le_mul_of_pos_right (low4 a b c d x).natAbs hp
  omega
theorem soundP_small {a b c d : Int} (hA : a.natAbs ≤ 20) (hB : b.natAbs ≤ 20) (hC : c.natAbs ≤ 20) (hd1 : 1 ≤ d) (hd2 : d ≤ 4) : SoundP (low4 a b c d a) (low4 a b c d b) (low4 a b c d c) (low4 a b c d d) := by
  have hp := g4_pos' (a := a) (b := b) (c := c) hd1
  have hm := low4_mul a b c d
  have l0 := low4_le' hp hm.1
  have l1 := low4_le' hp hm.2.1
  have l2 := low4_le' hp hm.2.2.1
  have l3 := low4_le' hp hm.2.2.2
  have hg := low4_g4' hp
  have h3 := hm.2.2.2
  have hdp : 0 < low4 a b c d d := by
    rcases Int.lt_or_le 0 (low4 a b c d d) with h | h
    · exact h
    · exfalso
      have : low4 a b c d d * (g4 a b c d : Int) ≤ 0 := Int.mul_nonpos_of_nonpos_of_nonneg h (by omega)
      omega
  unfold SoundP
  exact ⟨by omega, by omega, by omega, by omega, by omega, hg⟩
theorem place_sound (x : V4) : SoundQ (placeV x) := by
  have hA : (placeCA x).natAbs ≤ 20 := by unfold placeCA; omega
  have hB : (placeCB x).natAbs ≤ 20 := by unfold placeCB; omega
  have hC : (placeCC x).natAbs ≤ 20 := by unfold placeCC; omega
  have hD : 1 ≤ placeCD x ∧ placeCD x ≤ 4 := by unfold placeCD; omega
  exact soundP_small hA hB hC hD.1 hD.2

set_option maxRecDepth 100000 in
set_option maxHeartbeats 8000000 in
theorem place_any (x : V4) (w : World) (hx : InV x) :
    Calls Try.prog 24 #[.agg #[.int .i64 x.a, .int .i64 x.b, .int .i64 x.c, .int .i64 x.d]] w fun e w' => e = .returned (.agg #[.int .i64 (placeV x).a, .int .i64 (placeV x).b, .int .i64 (placeV x).c, .int .i64 (placeV x).d]) ∧ Below w.heap.size w w' := by
  unfold placeV
  obtain ⟨ua, hua⟩ : ∃ u, x.a % 18446744073709551616 = u := ⟨_, rfl⟩
  have na : 0 ≤ ua := by omega
  obtain ⟨sa, hsa⟩ : ∃ s, ua % 41 = s := ⟨_, rfl⟩
  have ba : 0 ≤ sa ∧ sa < 41 := by omega
  have ea1 : IntKind.u64.wrap x.a = ua := by rw [IntKind.wrap_u64, hua]
  have ea2 : ua.tmod 41 = sa := by rw [Int.tmod_eq_emod_of_nonneg na]; exact hsa
  have ea3 : IntKind.u64.wrap sa = sa := by rw [IntKind.wrap_u64]; omega
  have ea4 : wrap64 sa = sa := by unfold wrap64; omega
  obtain ⟨a, ha⟩ : ∃ v, sa - 20 = v := ⟨_, rfl⟩
  have ea5 : wrap64 a = a := by unfold wrap64; omega
  have pa : placeCA x = a := by unfold placeCA; rw [hua, hsa, ha]
  obtain ⟨ub, hub⟩ : ∃ u, x.b % 18446744073709551616 = u := ⟨_, rfl⟩
  have nb : 0 ≤ ub := by omega
  obtain ⟨sb, hsb⟩ : ∃ s, ub % 41 = s := ⟨_, rfl⟩
  have bb : 0 ≤ sb ∧ sb < 41 := by omega
  have eb1 : IntKind.u64.wrap x.b = ub := by rw [IntKind.wrap_u64, hub]
  have eb2 : ub.tmod 41 = sb := by rw [Int.tmod_eq_emod_of_nonneg nb]; exact hsb
  have eb3 : IntKind.u64.wrap sb = sb := by rw [IntKind.wrap_u64]; omega
  have eb4 : wrap64 sb = sb := by unfold wrap64; omega
  obtain ⟨b, hb⟩ : ∃ v, sb - 20 = v := ⟨_, rfl⟩
  have eb5 : wrap64 b = b := by unfold wrap64; omega
  have pb : placeCB x = b := by unfold placeCB; rw [hub, hsb, hb]
  obtain ⟨uc, huc⟩ : ∃ u, x.c % 18446744073709551616 = u := ⟨_, rfl⟩
  have nc : 0 ≤ uc := by omega
  obtain ⟨sc, hsc⟩ : ∃ s, uc % 41 = s := ⟨_, rfl⟩
  have bc : 0 ≤ sc ∧ sc < 41 := by omega
  have ec1 : IntKind.u64.wrap x.c = uc := by rw [IntKind.wrap_u64, huc]
  have ec2 : uc.tmod 41 = sc := by rw [Int.tmod_eq_emod_of_nonneg nc]; exact hsc
  have ec3 : IntKind.u64.wrap sc = sc := by rw [IntKind.wrap_u64]; omega
  have ec4 : wrap64 sc = sc := by unfold wrap64; omega
  obtain ⟨c, hc⟩ : ∃ v, sc - 20 = v := ⟨_, rfl⟩
  have ec5 : wrap64 c = c := by unfold wrap64; omega
  have pc : placeCC x = c := by unfold placeCC; rw [huc, hsc, hc]
  obtain ⟨ud, hud⟩ : ∃ u, x.d % 18446744073709551616 = u := ⟨_, rfl⟩
  have nd : 0 ≤ ud := by omega
  obtain ⟨sd, hsd⟩ : ∃ s, ud % 4 = s := ⟨_, rfl⟩
  have bd : 0 ≤ sd ∧ sd < 4 := by omega
  have ed1 : IntKind.u64.wrap x.d = ud := by rw [IntKind.wrap_u64, hud]
  have ed2 : ud.tmod 4 = sd := by rw [Int.tmod_eq_emod_of_nonneg nd]; exact hsd
  have ed3 : IntKind.u64.wrap sd = sd := by rw [IntKind.wrap_u64]; omega
  have ed4 : wrap64 sd = sd := by unfold wrap64; omega
  obtain ⟨d, hd⟩ : ∃ v, 1 + sd = v := ⟨_, rfl⟩
  have ed5 : wrap64 d = d := by unfold wrap64; omega
  have pd : placeCD x = d := by unfold placeCD; rw [hud, hsd, hd]
  rw [pa, pb, pc, pd]
  have hda : a.natAbs ≤ 20 := by omega
  have hdb : b.natAbs ≤ 20 := by omega
  have hdc : c.natAbs ≤ 20 := by omega
  have hdd : 1 ≤ d ∧ d ≤ 4 := by omega
  clear pa pb pc pd hua hub huc hud hsa hsb hsc hsd
  have hp := g4_pos' (a := a) (b := b) (c := c) hdd.1
  have hdv := g4_dvd a b c d
  have t0 := tdiv_low a b c d a hdv.1
  have t1 := tdiv_low a b c d b hdv.2.1
  have t2 := tdiv_low a b c d c hdv.2.2.1
  have t3 := tdiv_low a b c d d hdv.2.2.2
  have hm := low4_mul a b c d
  have l0 := low4_le' hp hm.1
  have l1 := low4_le' hp hm.2.1
  have l2 := low4_le' hp hm.2.2.1
  have l3 := low4_le' hp hm.2.2.2
  obtain ⟨g, hg⟩ : ∃ g, g4 a b c d = g := ⟨_, rfl⟩
  rw [hg] at t0 t1 t2 t3 hp
  obtain ⟨r0, hr0⟩ : ∃ r, low4 a b c d a = r := ⟨_, rfl⟩
  obtain ⟨r1, hr1⟩ : ∃ r, low4 a b c d b = r := ⟨_, rfl⟩
  obtain ⟨r2, hr2⟩ : ∃ r, low4 a b c d c = r := ⟨_, rfl⟩
  obtain ⟨r3, hr3⟩ : ∃ r, low4 a b c d d = r := ⟨_, rfl⟩
  rw [hr0] at t0 l0 ⊢
  rw [hr1] at t1 l1 ⊢
  rw [hr2] at t2 l2 ⊢
  rw [hr3] at t3 l3 ⊢
  have y0 : wrap64 r0 = r0 := by unfold wrap64; omega
  have y1 : wrap64 r1 = r1 := by unfold wrap64; omega
  have y2 : wrap64 r2 = r2 := by unfold wrap64; omega
  have y3 : wrap64 r3 = r3 := by unfold wrap64; omega
  have hsz : ∀ {v : Int}, v.natAbs ≤ 20 → sizeZ v = (v.natAbs : Int) := fun h => by unfold sizeZ; rw [if_neg (by omega)]
  have q1 := fun W => gcd3_any a b W (by unfold InI64; omega) (by unfold InI64; omega)
  have q2 := fun W => gcd3_any c d W (by unfold InI64; omega) (by unfold InI64; omega)
  rw [show Int.gcd (sizeZ a) (sizeZ b) = Int.gcd a b by rw [hsz hda, hsz hdb]; rfl] at q1
  rw [show Int.gcd (sizeZ c) (sizeZ d) = Int.gcd c d by rw [hsz hdc, hsz (by omega)]; rfl] at q2
  have g1 := gcd_le_of hda hdb
  have g2 := gcd_le_of hdc (show d.natAbs ≤ 20 by omega)
  have hg3 : Nat.gcd (Int.gcd a b) (Int.gcd c d) = g := hg
  obtain ⟨m, hm'⟩ : ∃ m, Int.gcd a b = m := ⟨_, rfl⟩
  obtain ⟨n, hn⟩ : ∃ n, Int.gcd c d = n := ⟨_, rfl⟩
  rw [hm'] at q1 g1 hg3
  rw [hn] at q2 g2 hg3
  have q3 := fun W => gcd3_any (m : Int) (n : Int) W (by unfold InI64; omega) (by unfold InI64; omega)
  rw [sizeZ_of_nat (by omega), sizeZ_of_nat (by omega), show Int.gcd (m : Int) (n : Int) = g from hg3] at q3
  have Q1 := Lib.hid q1
  have Q2 := Lib.hid q2
  have Q3 := Lib.hid q3
  have hg0 : ¬ (g : Int) = 0 := by omega
  clear q1 q2 q3 hsz hg3 hm' hn hdv hm hg hr0 hr1 hr2 hr3 g1 g2 l0 l1 l2 l3 hda hdb hdc hdd hp hx ba bb bc bd na nb nc nd
  obtain ⟨w1, hw1⟩ : ∃ w1, ((w.alloc (.cells #[.int .i64 x.a, .int .i64 x.b, .int .i64 x.c, .int .i64 x.d] 22)).alloc (.cells #[.int .i64 0, .int .i64 0, .int .i64 0, .int .i64 0] 37)) = w1 := ⟨_, rfl⟩
  have hb1 : Below w.heap.size w w1 := by rw [← hw1]; exact bw2 w _ _
  have k0 : Blk w1 w.heap.size #[.int .i64 x.a, .int .i64 x.b, .int .i64 x.c, .int .i64 x.d] 22 := by rw [← hw1]; exact (Blk.new w _ _).alloc _
  have kR : Blk w1 (w.heap.size + 1) #[.int .i64 0, .int .i64 0, .int .i64 0, .int .i64 0] 37 := by rw [← hw1]; exact Blk.new' _ _ _ (by simp)
  have c0 := k0.cell (i := 0) rfl
  have c1 := k0.cell (i := 1) rfl
  have c2 := k0.cell (i := 2) rfl
  have c3 := k0.cell (i := 3) rfl
  obtain ⟨w7, hw7⟩ : ∃ w7, w1.alloc (.cells #[.int .i64 0, .int .i64 0, .int .i64 0, .int .i64 0] 37) = w7 := ⟨_, rfl⟩
  have kQ : Blk w7 w1.heap.size #[.int .i64 0, .int .i64 0, .int .i64 0, .int .i64 0] 37 := by rw [← hw7]; exact Blk.new _ _ _
  have kR : Blk w7 (w.heap.size + 1) #[.int .i64 0, .int .i64 0, .int .i64 0, .int .i64 0] 37 := by rw [← hw7]; exact kR.alloc _
  have hb7 : Below w.heap.size w w7 := by rw [← hw7]; exact hb1.alloc hb1.size _
  have hlt : w.heap.size + 1 < w1.heap.size := by rw [← hw1]; simp
  have d0 := kQ.cell (i := 0) rfl
  have d1 := kQ.cell (i := 1) rfl
  have d2 := kQ.cell (i := 2) rfl
  have d3 := kQ.cell (i := 3) rfl
  have f0 := kQ.frozen 0
  have f1 := kQ.frozen 1
  have f2 := kQ.frozen 2
  have f3 := kQ.frozen 3
  obtain ⟨w8, hw8⟩ : ∃ w8, ((((w7.setCell ⟨w1.heap.size, 0, none⟩ (.int .i64 a)).setCell ⟨w1.heap.size, 1, none⟩ (.int .i64 b)).setCell ⟨w1.heap.size, 2, none⟩ (.int .i64 c)).setCell ⟨w1.heap.size, 3, none⟩ (.int .i64 d)) = w8 := ⟨_, rfl⟩
  have kQ8 : Blk w8 w1.heap.size #[.int .i64 a, .int .i64 b, .int .i64 c, .int .i64 d] 37 := by rw [← hw8]; exact Blk.put4 kQ _ _ _ _
  have kR8 : Blk w8 (w.heap.size + 1) #[.int .i64 0, .int .i64 0, .int .i64 0, .int .i64 0] 37 := by rw [← hw8]; exact (((kR.other (C := w1.heap.size) 0 _ (by omega)).other (C := w1.heap.size) 1 _ (by omega)).other (C := w1.heap.size) 2 _ (by omega)).other (C := w1.heap.size) 3 _ (by omega)
  have hb8 : Below w.heap.size w w8 := by rw [← hw8]; exact (((hb7.setCell (by simp only; omega) _).setCell (by simp only; omega) _).setCell (by simp only; omega) _).setCell (by simp only; omega) _
  have s0 := kQ8.cell (i := 0) rfl
  have s1 := kQ8.cell (i := 1) rfl
  have s2 := kQ8.cell (i := 2) rfl
  have s3 := kQ8.cell (i := 3) rfl
  go_enter Try.func24, Try.ntmps24
  go_upto_region 2 with fail
  go_quiet (first | (with_reducible exact Calls.quiet_of (Q1.out _)) | (with_reducible exact Calls.quiet_of (Q2.out _)) | (with_reducible exact Calls.quiet_of (Q3.out _)))
  go_upto_region 3 with fail
  have hb89 := drewN_below w8.heap.size w8 nq
  obtain ⟨w9, hw9⟩ : ∃ w9, w8.drewN nq = w9 := ⟨_, rfl⟩
  rw [hw9] at hb89 ⊢
  have kQ := kQ8.kept hb89
  have kR := kR8.kept hb89
  have hb9 := hb8.trans (hb89.mono hb8.size)
  clear hw9 hb89 hb8 hb7 hw7 hw8 d0 d1 d2 d3 f0 f1 f2 f3 s0 s1 s2 s3
  refine wp_region_pure 17 (fun ix => match ix with | 0 => .pointer (some ⟨w1.heap.size, 0, none⟩) | 1 => .int .i64 a | 2 => .int .i64 (g : Int) | 3 => .int .i64 r0 | 4 => .pointer (some ⟨w1.heap.size, 1, none⟩) | 5 => .int .i64 b | 6 => .int .i64 (g : Int) | 7 => .int .i64 r1 | 8 => .pointer (some ⟨w1.heap.size, 2, none⟩) | 9 => .int .i64 c | 10 => .int .i64 (g : Int) | 11 => .int .i64 r2 | 12 => .pointer (some ⟨w1.heap.size, 3, none⟩) | 13 => .int .i64 d | 14 => .int .i64 (g : Int) | 15 => .int .i64 r3 | _ => .agg #[.int .i64 r0, .int .i64 r1, .int .i64 r2, .int .i64 r3]) (by kernel_rfl) (by kernel_rfl) (by kernel_rfl) ?_ ?_ ?_
  · decide
  · rintro ix hx f ww hS hd
    have kQ := kQ.kept hS
    have m0_ := kQ.cell (i := 0) rfl
    have m1_ := kQ.cell (i := 1) rfl
    have m2_ := kQ.cell (i := 2) rfl
    have m3_ := kQ.cell (i := 3) rfl
    rcases ix with _ | _ | _ | _ | _ | _ | _ | _ | _ | _ | _ | _ | _ | _ | _ | _ | _ | ix
    · refine wpOp_list rfl ?_
      simp only [tmOf, putAll, List.map_cons, List.map_nil, List.setIfInBounds_toArray, List.set_cons_zero, List.set_cons_succ]
      go_wp2
      simp [upd, Below.refl]
    · have g0 : f 0 = .pointer (some ⟨w1.heap.size, 0, none⟩) := hd 0 (by kernel_rfl)
      refine wpOp_list rfl ?_
      simp only [tmOf, putAll, List.map_cons, List.map_nil, List.setIfInBounds_toArray, List.set_cons_zero, List.set_cons_succ]
      go_wp2
      simp [upd, g0, Below.refl]
    · refine wpOp_list rfl ?_
      simp only [tmOf, putAll, List.map_cons, List.map_nil, List.setIfInBounds_toArray, List.set_cons_zero, List.set_cons_succ]
      go_wp2
      simp [upd, Below.refl]
    · have g1 : f 1 = .int .i64 a := hd 1 (by kernel_rfl)
      have g2 : f 2 = .int .i64 (g : Int) := hd 2 (by kernel_rfl)
      refine wpOp_list rfl ?_
      simp only [tmOf, putAll, List.map_cons, List.map_nil, List.setIfInBounds_toArray, List.set_cons_zero, List.set_cons_succ]
      go_wp2
      simp [upd, g1, g2, Below.refl]
    · refine wpOp_list rfl ?_
      simp only [tmOf, putAll, List.map_cons, List.map_nil, List.setIfInBounds_toArray, List.set_cons_zero, List.set_cons_succ]
      go_wp2
      simp [upd, Below.refl]
    · have g4 : f 4 = .pointer (some ⟨w1.heap.size, 1, none⟩) := hd 4 (by kernel_rfl)
      refine wpOp_list rfl ?_
      simp only [tmOf, putAll, List.map_cons, List.map_nil, List.setIfInBounds_toArray, List.set_cons_zero, List.set_cons_succ]
      go_wp2
      simp [upd, g4, Below.refl]
    · refine wpOp_list rfl ?_
      simp only [tmOf, putAll, List.map_cons, List.map_nil, List.setIfInBounds_toArray, List.set_cons_zero, List.set_cons_succ]
      go_wp2
      simp [upd, Below.refl]
    · have g5 : f 5 = .int .i64 b := hd 5 (by kernel_rfl)
      have g6 : f 6 = .int .i64 (g : Int) := hd 6 (by kernel_rfl)
      refine wpOp_list rfl ?_
      simp only [tmOf, putAll, List.map_cons, List.map_nil, List.setIfInBounds_toArray, List.set_cons_zero, List.set_cons_succ]
      go_wp2
      simp [upd, g5, g6, Below.refl]
    · refine wpOp_list rfl ?_
      simp only [tmOf, putAll, List.map_cons, List.map_nil, List.setIfInBounds_toArray, List.set_cons_zero, List.set_cons_succ]
      go_wp2
      simp [upd, Below.refl]
    · have g8 : f 8 = .pointer (some ⟨w1.heap.size, 2, none⟩) := hd 8 (by kernel_rfl)
      refine wpOp_list rfl ?_
      simp only [tmOf, putAll, List.map_cons, List.map_nil, List.setIfInBounds_toArray, List.set_cons_zero, List.set_cons_succ]
      go_wp2
      simp [upd, g8, Below.refl]
    · refine wpOp_list rfl ?_
      simp only [tmOf, putAll, List.map_cons, List.map_nil, List.setIfInBounds_toArray, List.set_cons_zero, List.set_cons_succ]
      go_wp2
      simp [upd, Below.refl]
    · have g9 : f 9 = .int .i64 c := hd 9 (by kernel_rfl)
      have g10 : f 10 = .int .i64 (g : Int) := hd 10 (by kernel_rfl)
      refine wpOp_list rfl ?_
      simp only [tmOf, putAll, List.map_cons, List.map_nil, List.setIfInBounds_toArray, List.set_cons_zero, List.set_cons_succ]
      go_wp2
      simp [upd, g9, g10, Below.refl]
    · refine wpOp_list rfl ?_
      simp only [tmOf, putAll, List.map_cons, List.map_nil, List.setIfInBounds_toArray, List.set_cons_zero, List.set_cons_succ]
      go_wp2
      simp [upd, Below.refl]
    · have g12 : f 12 = .pointer (some ⟨w1.heap.size, 3, none⟩) := hd 12 (by kernel_rfl)
      refine wpOp_list rfl ?_
      simp only [tmOf, putAll, List.map_cons, List.map_nil, List.setIfInBounds_toArray, List.set_cons_zero, List.set_cons_succ]
      go_wp2
      simp [upd, g12, Below.refl]
    · refine wpOp_list rfl ?_
      simp only [tmOf, putAll, List.map_cons, List.map_nil, List.setIfInBounds_toArray, List.set_cons_zero, List.set_cons_succ]
      go_wp2
      simp [upd, Below.refl]
    · have g13 : f 13 = .int .i64 d := hd 13 (by kernel_rfl)
      have g14 : f 14 = .int .i64 (g : Int) := hd 14 (by kernel_rfl)
      refine wpOp_list rfl ?_
      simp only [tmOf, putAll, List.map_cons, List.map_nil, List.setIfInBounds_toArray, List.set_cons_zero, List.set_cons_succ]
      go_wp2
      simp [upd, g13, g14, Below.refl]
    · have g3 : f 3 = .int .i64 r0 := hd 3 (by kernel_rfl)
      have g7 : f 7 = .int .i64 r1 := hd 7 (by kernel_rfl)
      have g11 : f 11 = .int .i64 r2 := hd 11 (by kernel_rfl)
      have g15 : f 15 = .int .i64 r3 := hd 15 (by kernel_rfl)
      refine wpOp_list rfl ?_
      simp only [tmOf, putAll, List.map_cons, List.map_nil, List.setIfInBounds_toArray, List.set_cons_zero, List.set_cons_succ]
      go_wp2
      simp [upd, g3, g7, g11, g15, Below.refl]
    · omega
  · rintro f ww hS hd
    have KR := kR.kept hS
    have d0 := KR.cell (i := 0) rfl
    have d1 := KR.cell (i := 1) rfl
    have d2 := KR.cell (i := 2) rfl
    have d3 := KR.cell (i := 3) rfl
    have q0 := KR.frozen 0
    have q1 := KR.frozen 1
    have q2 := KR.frozen 2
    have q3 := KR.frozen 3
    have g16 : f 16 = .agg #[.int .i64 r0, .int .i64 r1, .int .i64 r2, .int .i64 r3] := hd 16 (by decide)
    simp only [seqW, tmOf, putAll, List.map_cons, List.map_nil, List.setIfInBounds_toArray, List.set_cons_zero, List.set_cons_succ, List.length_cons, List.length_nil]
    refine wpOp_list rfl ?_
    go_wp2
    have L := Blk.put4 KR (.int .i64 r0) (.int .i64 r1) (.int .i64 r2) (.int .i64 r3)
    have z0 := L.cell (i := 0) rfl
    have z1 := L.cell (i := 1) rfl
    have z2 := L.cell (i := 2) rfl
    have z3 := L.cell (i := 3) rfl
    exact bodyPost_ret (v := .agg #[.int .i64 r0, .int .i64 r1, .int .i64 r2, .int .i64 r3]) (by simp [results, Try.results24, go_sem, z0, z1, z2, z3]) rfl ⟨rfl, ((((hb9.trans (hS.mono hb9.size)).setCell (by simp only; omega) _).setCell (by simp only; omega) _).setCell (by simp only; omega) _).setCell (by simp only; omega) _⟩

end Go.Proofs.Ytopdeakjnloemaa
