/-
  Package plane: planes moved; The reference of planes: a right plane of any numbers; The reference of planes: whether points are right.
-/
import Derived.Test.YthdhakpmhndbfaaK1
import Derived.Test.YthdhakpmhndbfaaK2
import Derived.Test.YthdhakpmhndbfaaK3
import Derived.Test.YthdhakpmhndbfaaK4
import Derived.Test.YthdhakpmhndbfaaK5
import Derived.Test.YthdhakpmhndbfaaK6
import Derived.Test.YthdhakpmhndbfaaK7
import Derived.Test.YthdhakpmhndbfaaK8
import Derived.Test.YthdhakpmhndbfaaK9
import Derived.Test.YthdhakpmhndbfaaK10
import Derived.Test.YthdhakpmhndbfaaK11
import Derived.Test.YthdhakpmhndbfaaK12
import Derived.Test.YthdhakpmhndbfaaK13
import Derived.Test.YthdhakpmhndbfaaK14
import Derived.Test.YthdhakpmhndbfaaK15
import Derived.Test.YthdhakpmhndbfaaK16
import Derived.Test.YthdhakpmhndbfaaK17
namespace Go.Proofs.Ythdhakpmhndbfaa
open Go.RowKit Go.Shelf
attribute [local go_sem] Oper.semAt_some

/-- The last coefficient of a plane that is moved. -/
def shD (p : V4) (x y z : Int) : Int := p.d - p.a * x - p.b * y - p.c * z
def RightQ (p : V4) : Prop := RightP p.a p.b p.c p.d
instance (p : V4) : Decidable (RightQ p) := by unfold RightQ; infer_instance
def far3 (x y z : Int) : Prop := x.natAbs ≤ 1000000 ∧ y.natAbs ≤ 1000000 ∧ z.natAbs ≤ 1000000
instance (x y z : Int) : Decidable (far3 x y z) := by unfold far3; infer_instance
def shOk (p : V4) (x y z : Int) : Prop := RightP p.a p.b p.c (shD p x y z)
instance (p : V4) (x y z : Int) : Decidable (shOk p x y z) := by unfold shOk; infer_instance
def shE (p : V4) (x y z : Int) : Int := if RightQ p then (if far3 x y z then errE (decide (shOk p x y z)) 2 else 1) else 30
def shP (p : V4) (x y z : Int) : V4 := if RightQ p then (if far3 x y z then (if shOk p x y z then ⟨p.a, p.b, p.c, shD p x y z⟩ else ⟨0, 0, 0, 0⟩) else ⟨0, 0, 0, 0⟩) else ⟨0, 0, 0, 0⟩
theorem within3M (x y z : Int) : within 1000000 [x, y, z] = decide (far3 x y z) := by
  have s : ∀ n : Int, (-1000000 ≤ n ∧ n ≤ 1000000) ↔ n.natAbs ≤ 1000000 := fun n => by omega
  rw [Bool.eq_iff_iff, decide_eq_true_iff]
  unfold far3
  simp [within, s]

set_option maxRecDepth 100000 in
set_option maxHeartbeats 8000000 in
theorem shift_any (p : V4) (x y z : Int) (w : World) (hp : InV p) :
    Calls Try.prog 37 #[.agg #[.int .i64 p.a, .int .i64 p.b, .int .i64 p.c, .int .i64 p.d], .agg #[.int .i64 x, .int .i64 y, .int .i64 z]] w fun e w' => e = .returned (.tuple #[.agg #[.int .i64 (shP p x y z).a, .int .i64 (shP p x y z).b, .int .i64 (shP p x y z).c, .int .i64 (shP p x y z).d], .int .i64 (shE p x y z)]) ∧ Below w.heap.size w w' := by
  obtain ⟨w1, hw1⟩ : ∃ w1, (((w.alloc (.cells #[.int .i64 p.a, .int .i64 p.b, .int .i64 p.c, .int .i64 p.d] 23)).alloc (.cells #[.int .i64 x, .int .i64 y, .int .i64 z] 53)).alloc (.cells #[.int .i64 0, .int .i64 0, .int .i64 0, .int .i64 0] 23)) = w1 := ⟨_, rfl⟩
  have hb1 : Below w.heap.size w w1 := by rw [← hw1]; exact bw3 w _ _ _
  have k0 : Blk w1 (w.heap.size) #[.int .i64 p.a, .int .i64 p.b, .int .i64 p.c, .int .i64 p.d] 23 := by rw [← hw1]; exact ((Blk.new w _ _).alloc _).alloc _
  have k1 : Blk w1 (w.heap.size + 1) #[.int .i64 x, .int .i64 y, .int .i64 z] 53 := by rw [← hw1]; exact (Blk.new' _ _ _ (by simp)).alloc _
  have kR : Blk w1 (w.heap.size + 1 + 1) #[.int .i64 0, .int .i64 0, .int .i64 0, .int .i64 0] 23 := by rw [← hw1]; exact Blk.new' _ _ _ (by simp)
  have hpl : ∀ b W, RdV W (some ⟨b, 0, none⟩) [p] → Calls Try.prog 44 #[.slice (some ⟨b, 0, none⟩) 1 1] W fun e w' => ∃ v, e = .returned v ∧ ChkIs w' v (errE (decide (RightQ p)) 30) ∧ Below W.heap.size W w' := fun b W hR => by
    have h := planes_any (some ⟨b, 0, none⟩) 1 1 [p] W rfl (by decide) hR (by intro x hx; rw [List.mem_singleton.1 hx]; exact hp)
    rw [show decide (RightQ p) = decide (RightP p.a p.b p.c p.d) from decide_eq_decide.2 Iff.rfl]
    simpa using h
  have hwi : ∀ W, RdI W (some ⟨w.heap.size + 1, 0, none⟩) [x, y, z] → Calls Try.prog 57 #[.int .i64 1000000, .slice (some ⟨w.heap.size + 1, 0, none⟩) 3 3] W fun e w' => ∃ v, e = .returned v ∧ ChkIs w' v (errE (decide (far3 x y z)) 1) ∧ Below W.heap.size W w' := fun W hR => by
    have h := withins_any 1000000 (some ⟨w.heap.size + 1, 0, none⟩) 3 3 [x, y, z] W rfl (by decide) hR (by decide) (by decide)
    rw [within3M] at h
    exact h
  obtain ⟨rp, hrp⟩ : ∃ r, errE (decide (RightQ p)) 30 = r := ⟨_, rfl⟩
  obtain ⟨rv, hrv⟩ : ∃ r, errE (decide (far3 x y z)) 1 = r := ⟨_, rfl⟩
  rw [hrp] at hpl
  rw [hrv] at hwi
  have HPL := Lib.hid hpl
  have HWI := Lib.hid hwi
  obtain ⟨PV, hPV⟩ : ∃ v, shP p x y z = v := ⟨_, rfl⟩
  obtain ⟨EV, hEV⟩ : ∃ v, shE p x y z = v := ⟨_, rfl⟩
  rw [hPV, hEV]
  have hcase : (firstE [rp, rv] = 0 ∧ RightQ p ∧ far3 x y z) ∨ ((firstE [rp, rv] != 0) = true ∧ PV = ⟨0, 0, 0, 0⟩ ∧ EV = firstE [rp, rv]) := by
    rw [← hPV, ← hEV, ← hrp, ← hrv]
    unfold shP shE
    by_cases h1 : RightQ p
    · by_cases h2 : far3 x y z
      · left; rw [decide_eq_true h1, decide_eq_true h2]; exact ⟨rfl, h1, h2⟩
      · right; rw [decide_eq_true h1, decide_eq_false h2, if_pos h1, if_pos h1, if_neg h2, if_neg h2]; exact ⟨rfl, rfl, rfl⟩
    · right; rw [decide_eq_false h1, if_neg h1, if_neg h1]; exact ⟨rfl, rfl, rfl⟩
  have HC := Lib.hid hcase
  have hPE : RightQ p → far3 x y z → PV = (if shOk p x y z then ⟨p.a, p.b, p.c, shD p x y z⟩ else ⟨0, 0, 0, 0⟩) ∧ EV = errE (decide (shOk p x y z)) 2 := fun h1 h2 => by
    rw [← hPV, ← hEV]; unfold shP shE; rw [if_pos h1, if_pos h2, if_pos h1, if_pos h2]; exact ⟨rfl, rfl⟩
  have HPE := Lib.hid hPE
  clear hpl hwi hrp hrv hPV hEV hcase hPE hp
  go_enter Try.func37, Try.ntmps37
  go_upto_region 1 with fail
  go_cut [6] from 7 to 13 (fun v6 wx => v6 = .int .i64 (firstE [rp, rv]) ∧ Below w1.heap.size w1 wx)
  case first =>
    refine wp_region_kn' (fun ix => ix != 1 && ix != 2 && ix != 4 && ix != 5) (fun ix => match ix with | 0 => .agg #[.int .i64 p.a, .int .i64 p.b, .int .i64 p.c, .int .i64 p.d] | 3 => .slice (some ⟨w.heap.size + 1, 0, none⟩) 3 3 | 6 => .int .i64 (firstE [rp, rv]) | _ => .int .i64 (firstE [rp, rv])) (fun ix v w => match ix with | 1 => ∃ b, v = .slice (some ⟨b, 0, none⟩) 1 1 ∧ RdV w (some ⟨b, 0, none⟩) [p] | 2 => ChkIs w v rp | 4 => ChkIs w v rv | _ => ∃ b, v = .slice (some ⟨b, 0, none⟩) 2 2 ∧ RdC w (some ⟨b, 0, none⟩) [rp, rv]) (by kernel_rfl) (by kernel_rfl) ?_ ?_ ?_
    · intro ix v w8 w9 hb9 h
      have hd : ∀ {rs : List Int}, (∃ b, v = .slice (some ⟨b, 0, none⟩) 2 2 ∧ RdC w8 (some ⟨b, 0, none⟩) rs) → ∃ b, v = .slice (some ⟨b, 0, none⟩) 2 2 ∧ RdC w9 (some ⟨b, 0, none⟩) rs := fun ⟨b, e, hr⟩ => ⟨b, e, hr.below hb9⟩
      rcases ix with _ | _ | _ | _ | _ | ix
      · exact hd h
      · obtain ⟨b, e, hr⟩ := h; exact ⟨b, e, hr.below hb9⟩
      · exact ChkIs.below h hb9
      · exact hd h
      · exact ChkIs.below h hb9
      · exact hd h
    · rintro ix hx f ww hS hd
      have ka := k0.kept hS
      have kb := k1.kept hS
      have a0_ := ka.cell (i := 0) rfl
      have a1_ := ka.cell (i := 1) rfl
      have a2_ := ka.cell (i := 2) rfl
      have a3_ := ka.cell (i := 3) rfl
      have b0_ := kb.cell (i := 0) rfl
      have b1_ := kb.cell (i := 1) rfl
      have b2_ := kb.cell (i := 2) rfl
      rcases ix with _ | _ | _ | _ | _ | _ | _ | _ | ix
      · refine wpOp_list rfl ?_
        simp only [tmOf, putAll, List.map_cons, List.map_nil, List.setIfInBounds_toArray, List.set_cons_zero, List.set_cons_succ]
        go_wp2
        refine ⟨.agg #[.int .i64 p.a, .int .i64 p.b, .int .i64 p.c, .int .i64 p.d], ?_⟩
        simp [upd, Below.refl]
      · have g0 : f 0 = .agg #[.int .i64 p.a, .int .i64 p.b, .int .i64 p.c, .int .i64 p.d] := hd 0 (by kernel_rfl)
        refine wpOp_list rfl ?_
        simp only [tmOf, putAll, List.map_cons, List.map_nil, List.setIfInBounds_toArray, List.set_cons_zero, List.set_cons_succ]
        go_wp2
        exact ⟨.slice (some ⟨ww.heap.size, 0, none⟩) 1 1, by simp [upd, g0], ⟨_, rfl, planes1 ww p.a p.b p.c p.d _⟩, (Below.refl _ ww).alloc (Nat.le_refl _) _⟩
      · obtain ⟨b8, g1, hR8⟩ : ∃ b, f 1 = .slice (some ⟨b, 0, none⟩) 1 1 ∧ RdV ww (some ⟨b, 0, none⟩) [p] := hd 1 (by kernel_rfl)
        refine wpOp_list rfl ?_
        simp only [tmOf, putAll, List.map_cons, List.map_nil, List.setIfInBounds_toArray, List.set_cons_zero, List.set_cons_succ]
        go_wp2_with fail
        refine (HPL.out b8 _ hR8).mono ?_
        rintro e' wf ⟨v, rfl, hv, hbf⟩
        go_wp2_with fail
        first
          | exact ⟨v, by simp [upd, g1], hv, hbf⟩
          | exact ⟨v, by simp [upd, g1], hv⟩
      · refine wpOp_list rfl ?_
        simp only [tmOf, putAll, List.map_cons, List.map_nil, List.setIfInBounds_toArray, List.set_cons_zero, List.set_cons_succ]
        go_wp2
        refine ⟨.slice (some ⟨w.heap.size + 1, 0, none⟩) 3 3, ?_⟩
        simp [upd, Below.refl]
      · have g3 : f 3 = .slice (some ⟨w.heap.size + 1, 0, none⟩) 3 3 := hd 3 (by kernel_rfl)
        refine wpOp_list rfl ?_
        simp only [tmOf, putAll, List.map_cons, List.map_nil, List.setIfInBounds_toArray, List.set_cons_zero, List.set_cons_succ]
        go_wp2_with fail
        refine (HWI.out _ (rdI3 kb)).mono ?_
        rintro e' wf ⟨v, rfl, hv, hbf⟩
        go_wp2_with fail
        first
          | exact ⟨v, by simp [upd, g3], hv, hbf⟩
          | exact ⟨v, by simp [upd, g3], hv⟩
      · have h9 : ChkIs ww (f 2) rp := hd 2 (by kernel_rfl)
        obtain ⟨gf9, caps9, g2, _⟩ := id h9
        have h11 : ChkIs ww (f 4) rv := hd 4 (by kernel_rfl)
        obtain ⟨gf11, caps11, g4, _⟩ := id h11
        refine wpOp_list rfl ?_
        simp only [tmOf, putAll, List.map_cons, List.map_nil, List.setIfInBounds_toArray, List.set_cons_zero, List.set_cons_succ]
        have hr2 := checks2 ww _ _ rp rv 70 h9 h11
        rw [g2, g4] at hr2
        clear h9 h11
        go_wp2
        exact ⟨.slice (some ⟨ww.heap.size, 0, none⟩) 2 2, by simp [upd, g2, g4], ⟨_, rfl, hr2⟩, (Below.refl _ ww).alloc (Nat.le_refl _) _⟩
      · obtain ⟨b12, g5, hR12⟩ : ∃ b, f 5 = .slice (some ⟨b, 0, none⟩) 2 2 ∧ RdC ww (some ⟨b, 0, none⟩) [rp, rv] := hd 5 (by kernel_rfl)
        refine wpOp_list rfl ?_
        simp only [tmOf, putAll, List.map_cons, List.map_nil, List.setIfInBounds_toArray, List.set_cons_zero, List.set_cons_succ]
        have hf := first_any (some ⟨b12, 0, none⟩) 2 2 [rp, rv] ww rfl (by decide) hR12
        have HF := Lib.hid hf
        clear hf hR12
        go_wp2_with fail
        refine HF.out.mono ?_
        rintro e' wf ⟨rfl, hbf⟩
        go_wp2_with fail
        try refine ⟨.int .i64 (firstE [rp, rv]), ?_⟩
        simp [upd, g5, hbf]
      · have g6 : f 6 = .int .i64 (firstE [rp, rv]) := hd 6 (by kernel_rfl)
        refine wpOp_list rfl ?_
        simp only [tmOf, putAll, List.map_cons, List.map_nil, List.setIfInBounds_toArray, List.set_cons_zero, List.set_cons_succ]
        go_wp2
        refine ⟨.int .i64 (firstE [rp, rv]), ?_⟩
        simp [upd, g6, Below.refl]
      · simp only [List.length_cons, List.length_nil] at hx; omega
    · rintro f ww hS hd
      have g7 : f 7 = .int .i64 (firstE [rp, rv]) := hd 7 (by decide)
      simp only [tmOf, putAll, List.map_cons, List.map_nil, List.setIfInBounds_toArray, List.set_cons_zero, List.set_cons_succ]
      refine ‹∀ (a' : Act) (w' : World), Met _ a' w' → _› _ _ ?_
      go_meet
      case rel => exact ⟨g7, hS⟩
  case rest =>
  obtain ⟨rfl, hb2⟩ := hcut
  have k0 := k0.kept hb2
  have k1 := k1.kept hb2
  have kR := kR.kept hb2
  have hb2' := hb1.trans (hb2.mono hb1.size)
  clear hw1 hb1 hb2
  have a0 := k0.cell (i := 0) rfl
  have a1 := k0.cell (i := 1) rfl
  have a2 := k0.cell (i := 2) rfl
  have a3 := k0.cell (i := 3) rfl
  have b0 := k1.cell (i := 0) rfl
  have b1 := k1.cell (i := 1) rfl
  have b2 := k1.cell (i := 2) rfl
  have d0 := kR.cell (i := 0) rfl
  have d1 := kR.cell (i := 1) rfl
  have d2 := kR.cell (i := 2) rfl
  have d3 := kR.cell (i := 3) rfl
  have q0 := kR.frozen 0
  have q1 := kR.frozen 1
  have q2 := kR.frozen 2
  have q3 := kR.frozen 3
  obtain ⟨n, hn⟩ : ∃ n, firstE [rp, rv] = n := ⟨_, rfl⟩
  rw [hn] at HC ⊢
  rcases HC.out with ⟨rfl, h1, h2⟩ | ⟨h1, h2, h3⟩
  · have hpe := HPE.out h1 h2
    obtain ⟨_, s0, s1, s2, s3, _⟩ := h1
    obtain ⟨v0, v1, v2⟩ := h2
    have m0 := mul_le_nat s0 v0
    have m1 := mul_le_nat s1 v1
    have m2 := mul_le_nat s2 v2
    have e0 : shD p x y z = p.d - p.a * x - p.b * y - p.c * z := rfl
    rw [e0] at hpe
    obtain ⟨u0, hu0⟩ : ∃ u, p.a * x = u := ⟨_, rfl⟩
    obtain ⟨u1, hu1⟩ : ∃ u, p.b * y = u := ⟨_, rfl⟩
    obtain ⟨u2, hu2⟩ : ∃ u, p.c * z = u := ⟨_, rfl⟩
    have hok : RightP p.a p.b p.c (p.d - u0 - u1 - u2) ↔ shOk p x y z := by unfold shOk; rw [e0, hu0, hu1, hu2]
    rw [hu0, hu1, hu2] at hpe
    rw [hu0] at m0
    rw [hu1] at m1
    rw [hu2] at m2
    have e1 : wrap64 u0 = u0 := by unfold wrap64; omega
    have e2 : wrap64 u1 = u1 := by unfold wrap64; omega
    have e3 : wrap64 u2 = u2 := by unfold wrap64; omega
    have e4 : wrap64 (p.d - u0) = p.d - u0 := by unfold wrap64; omega
    have e5 : wrap64 (p.d - u0 - u1) = p.d - u0 - u1 := by unfold wrap64; omega
    have e6 : wrap64 (p.d - u0 - u1 - u2) = p.d - u0 - u1 - u2 := by unfold wrap64; omega
    have hs := fun W => small_any p.a p.b p.c (p.d - u0 - u1 - u2) W (by unfold InI64; omega) (by unfold InI64; omega) (by unfold InI64; omega) (by unfold InI64; omega)
    simp only [ite_iff hok, show decide (RightP p.a p.b p.c (p.d - u0 - u1 - u2)) = decide (shOk p x y z) from decide_eq_decide.2 hok] at hs
    obtain ⟨T, hT⟩ : ∃ T : V4, (if shOk p x y z then ⟨p.a, p.b, p.c, p.d - u0 - u1 - u2⟩ else ⟨0, 0, 0, 0⟩) = T := ⟨_, rfl⟩
    have hTv : (if shOk p x y z then Value.agg #[.int .i64 p.a, .int .i64 p.b, .int .i64 p.c, .int .i64 (p.d - u0 - u1 - u2)] else .agg #[.int .i64 0, .int .i64 0, .int .i64 0, .int .i64 0]) = .agg #[.int .i64 T.a, .int .i64 T.b, .int .i64 T.c, .int .i64 T.d] := by
      rw [← hT]; split <;> rfl
    rw [hT] at hpe
    obtain ⟨E, hE⟩ : ∃ E, errE (decide (shOk p x y z)) 2 = E := ⟨_, rfl⟩
    rw [hE] at hpe
    simp only [hTv, hE] at hs
    have HS := Lib.hid hs
    have HV : Hid (Ending.returned (.tuple #[.agg #[.int .i64 T.a, .int .i64 T.b, .int .i64 T.c, .int .i64 T.d], .int .i64 E]) = Ending.returned (.tuple #[.agg #[.int .i64 PV.a, .int .i64 PV.b, .int .i64 PV.c, .int .i64 PV.d], .int .i64 EV])) := Lib.hid (by rw [hpe.1, hpe.2])
    clear hs hpe hT hTv hE hok s0 s1 s2 s3 v0 v1 v2 m0 m1 m2 e0 HPE HC hn HPL HWI
    go_wp2_with fail
    refine (HS.out _).mono ?_
    rintro e' w5 ⟨rfl, hb5⟩
    have kR := kR.kept hb5
    have hb5' := hb2'.trans (hb5.mono hb2'.size)
    clear d0 d1 d2 d3 q0 q1 q2 q3
    have d0 := kR.cell (i := 0) rfl
    have d1 := kR.cell (i := 1) rfl
    have d2 := kR.cell (i := 2) rfl
    have d3 := kR.cell (i := 3) rfl
    have q0 := kR.frozen 0
    have q1 := kR.frozen 1
    have q2 := kR.frozen 2
    have q3 := kR.frozen 3
    go_wp2_with fail
    have L := Blk.put4 kR (.int .i64 T.a) (.int .i64 T.b) (.int .i64 T.c) (.int .i64 T.d)
    have z0 := L.cell (i := 0) rfl
    have z1 := L.cell (i := 1) rfl
    have z2 := L.cell (i := 2) rfl
    have z3 := L.cell (i := 3) rfl
    exact bodyPost_ret (v := .tuple #[.agg #[.int .i64 T.a, .int .i64 T.b, .int .i64 T.c, .int .i64 T.d], .int .i64 E]) (by simp [results, Try.results37, go_sem, z0, z1, z2, z3]) rfl ⟨HV.out, (((hb5'.setCell (by simp only; omega) _).setCell (by simp only; omega) _).setCell (by simp only; omega) _).setCell (by simp only; omega) _⟩
  · have HV : Hid (Ending.returned (.tuple #[.agg #[.int .i64 0, .int .i64 0, .int .i64 0, .int .i64 0], .int .i64 n]) = Ending.returned (.tuple #[.agg #[.int .i64 PV.a, .int .i64 PV.b, .int .i64 PV.c, .int .i64 PV.d], .int .i64 EV])) := Lib.hid (by rw [h2, h3])
    clear h2 h3 HC HPE hn HPL HWI
    go_wp2_with fail
    have L := Blk.put4 kR (.int .i64 0) (.int .i64 0) (.int .i64 0) (.int .i64 0)
    have z0 := L.cell (i := 0) rfl
    have z1 := L.cell (i := 1) rfl
    have z2 := L.cell (i := 2) rfl
    have z3 := L.cell (i := 3) rfl
    exact bodyPost_ret (v := .tuple #[.agg #[.int .i64 0, .int .i64 0, .int .i64 0, .int .i64 0], .int .i64 n]) (by simp [results, Try.results37, go_sem, z0, z1, z2, z3]) rfl ⟨HV.out, (((hb2'.setCell (by simp only; omega) _).setCell (by simp only; omega) _).setCell (by simp only; omega) _).setCell (by simp only; omega) _⟩

end Go.Proofs.Ythdhakpmhndbfaa

namespace Go.Proofs.Ythdhakpmhndbfaa
open Go.RowKit Go.Shelf
attribute [local go_sem] Oper.semAt_some

theorem sound_in {p : V4} (h : SoundQ p) : InV p := by
  obtain ⟨h0, h1, h2, h3, h4, _⟩ := h
  unfold InV InI64
  omega

end Go.Proofs.Ythdhakpmhndbfaa

namespace Go.Proofs.Ythdhakpmhndbfaa
open Go.RowKit Go.Shelf
attribute [local go_sem] Oper.semAt_some

theorem gcd_le_of {a b : Int} {m : Nat} (ha : a.natAbs ≤ m) (hb : b.natAbs ≤ m) : Int.gcd a b ≤ m := by
  rcases Nat.eq_zero_or_pos a.natAbs with h | h
  · have : Int.gcd a b = b.natAbs := by unfold Int.gcd; rw [h, Nat.gcd_zero_left]
    omega
  · exact Nat.le_trans (Nat.le_of_dvd h (Nat.gcd_dvd_left a.natAbs b.natAbs)) ha
theorem sound_at {q : V4} (h : SoundQ q) {i : Nat} (hi : i < 3) : (vg q i).natAbs ≤ 8796093022208 := by
  have h4 : i = 0 ∨ i = 1 ∨ i = 2 := by omega
  rcases h4 with rfl | rfl | rfl
  · exact h.1
  · exact h.2.1
  · exact h.2.2.1

set_option maxRecDepth 100000 in
set_option maxHeartbeats 4000000 in
theorem sound3_any (q : V4) (w : World) (hq : InV q) :
    Calls Try.prog 22 #[.agg #[.int .i64 q.a, .int .i64 q.b, .int .i64 q.c, .int .i64 q.d]] w fun e w' => e = .returned (.bool (decide (SoundQ q))) ∧ Below w.heap.size w w' := by
  obtain ⟨w1, hw1⟩ : ∃ w1, w.alloc (.cells #[.int .i64 q.a, .int .i64 q.b, .int .i64 q.c, .int .i64 q.d] 37) = w1 := ⟨_, rfl⟩
  have hb1 : Below w.heap.size w w1 := by rw [← hw1]; exact (Below.refl _ w).alloc (Nat.le_refl _) _
  have k0 : Blk w1 w.heap.size #[.int .i64 q.a, .int .i64 q.b, .int .i64 q.c, .int .i64 q.d] 37 := by rw [← hw1]; exact Blk.new _ _ _
  have HI := Lib.hid hq
  obtain ⟨D, hD⟩ : ∃ D, decide (SoundQ q) = D := ⟨_, rfl⟩
  rw [hD]
  have HD := Lib.hid hD
  clear hq hD
  go_enter Try.func22, Try.ntmps22
  go_wp2_with fail
  go_loopg [3] 3 (fun gk v3 wr => ∃ i : Nat, i ≤ 3 ∧ gk = 3 - i ∧ v3 = .int .i64 (i : Int) ∧ Hid (∀ j, j < i → (vg q j).natAbs ≤ 8796093022208) ∧ Blk wr w.heap.size #[.int .i64 q.a, .int .i64 q.b, .int .i64 q.c, .int .i64 q.d] 37 ∧ Below w.heap.size w wr)
  case atStart => exact ⟨0, by decide, rfl, rfl, fun j h => absurd h (by omega), k0, hb1⟩
  case round =>
    clear k0 hb1 hw1
    obtain ⟨i, hi, hgk, rfl, HA, hk, hbw⟩ := hrel
    have HGK := Lib.hid hgk
    clear hgk
    by_cases hlt : i < 3
    · have hlti : (i : Int) < 3 := by omega
      have hlti4 : (i : Int) < 4 := by omega
      have hi4 : i < 4 := by omega
      have c0 := hk.vg hi4
      have hs := fun W => size3_any (vg q i) W (vg_in HI.out i)
      have hsa := fun h : SoundQ q => sound_at h hlt
      obtain ⟨v, hv⟩ : ∃ v, vg q i = v := ⟨_, rfl⟩
      rw [hv] at c0 hs hsa
      have HSZ := Lib.hid hs
      clear hs
      by_cases hbig : 8796093022208 < sizeZ v
      · have hno : D = false := by rw [← HD.out]; exact decide_eq_false (fun h => by have := hsa h; unfold sizeZ at hbig; split at hbig <;> omega)
        have HN := Lib.hid hno
        clear hno hsa hv
        go_wp2_with fail
        refine (HSZ.out _).mono ?_
        rintro e w2 ⟨rfl, hw2⟩
        rw [hw2]
        go_wp2_with fail
        go_ret
        exact ⟨congrArg (fun z => Ending.returned (.bool z)) HN.out.symm, hbw⟩
      · have HB := Lib.hid (sizeZ_small (lim := 8796093022208) hbig (by decide)).1
        have HV := Lib.hid hv
        clear hv hsa
        go_wp2_with fail
        refine (HSZ.out _).mono ?_
        rintro e w2 ⟨rfl, hw2⟩
        rw [hw2]
        go_wp2_with fail
        go_roundg (3 - (i + 1))
        case measure => rw [HGK.out]; omega
        case rel =>
          refine ⟨i + 1, by omega, rfl, by go_num, ?_, hk, hbw⟩
          intro j hj
          by_cases hji : j = i
          · rw [hji, HV.out]; exact HB.out
          · exact HA.out j (by omega)
    · obtain rfl : i = 3 := by omega
      have za : q.a.natAbs ≤ 8796093022208 := HA.out 0 (by decide)
      have zb : q.b.natAbs ≤ 8796093022208 := HA.out 1 (by decide)
      have zc : q.c.natAbs ≤ 8796093022208 := HA.out 2 (by decide)
      have c0 := hk.cell (i := 0) rfl
      have c1 := hk.cell (i := 1) rfl
      have c2 := hk.cell (i := 2) rfl
      have c3 := hk.cell (i := 3) rfl
      have hsz : ∀ {v : Int}, v.natAbs ≤ 8796093022208 → sizeZ v = (v.natAbs : Int) := fun h => by unfold sizeZ; rw [if_neg (by omega)]
      have q1 := fun W => gcd3_any q.a q.b W HI.out.1 HI.out.2.1
      have q2 := fun W => gcd3_any q.c q.d W HI.out.2.2.1 HI.out.2.2.2
      by_cases hd1 : 1 ≤ q.d
      · by_cases hd2 : q.d ≤ 8589934592
        · have zd : q.d.natAbs ≤ 8796093022208 := by omega
          have hg1 : Int.gcd (sizeZ q.a) (sizeZ q.b) = Int.gcd q.a q.b := by rw [hsz za, hsz zb]; rfl
          have hg2 : Int.gcd (sizeZ q.c) (sizeZ q.d) = Int.gcd q.c q.d := by rw [hsz zc, hsz zd]; rfl
          rw [hg1] at q1
          rw [hg2] at q2
          have l1 := gcd_le_of za zb
          have l2 := gcd_le_of zc zd
          have hall : D = decide (g4 q.a q.b q.c q.d = 1) := by
            rw [← HD.out]; exact decide_eq_decide.2 ⟨fun h => h.2.2.2.2.2, fun h => ⟨za, zb, zc, hd1, hd2, h⟩⟩
          have hg3 : g4 q.a q.b q.c q.d = Nat.gcd (Int.gcd q.a q.b) (Int.gcd q.c q.d) := rfl
          obtain ⟨m, hm⟩ : ∃ m, Int.gcd q.a q.b = m := ⟨_, rfl⟩
          obtain ⟨n, hn⟩ : ∃ n, Int.gcd q.c q.d = n := ⟨_, rfl⟩
          rw [hm] at q1 l1 hg3
          rw [hn] at q2 l2 hg3
          have q3 := fun W => gcd3_any (m : Int) (n : Int) W (by unfold InI64; omega) (by unfold InI64; omega)
          rw [sizeZ_of_nat (by omega), sizeZ_of_nat (by omega)] at q3
          obtain ⟨G, hG⟩ : ∃ G, Int.gcd (m : Int) (n : Int) = G := ⟨_, rfl⟩
          rw [hG] at q3
          have hG' : g4 q.a q.b q.c q.d = G := by rw [hg3]; exact hG
          rw [hG'] at hall
          have Q1 := Lib.hid q1
          have Q2 := Lib.hid q2
          have Q3 := Lib.hid q3
          have HALL := Lib.hid hall
          have heq : ((G : Int) == 1) = decide (G = 1) := by
            by_cases h : G = 1
            · rw [h]; rfl
            · rw [decide_eq_false h]; simp only [beq_eq_false_iff_ne]; omega
          clear q1 q2 q3 hg1 hg2 l1 l2 hall hg3 hm hn hG hG' zd za zb zc hsz
          go_upto_region 6 with fail
          go_quiet (first | (with_reducible exact Calls.quiet_of (Q1.out _)) | (with_reducible exact Calls.quiet_of (Q2.out _)) | (with_reducible exact Calls.quiet_of (Q3.out _)))
          go_wp2_with fail
          go_ret
          exact ⟨congrArg (fun z => Ending.returned (.bool z)) HALL.out.symm, below_drewN hbw _⟩
        · have hno : D = false := by rw [← HD.out]; exact decide_eq_false (fun h => hd2 h.2.2.2.2.1)
          have HN := Lib.hid hno
          clear hno q1 q2 hsz za zb zc
          go_upto_region 6 with fail
          go_quiet (fail)
          go_wp2_with fail
          go_ret
          exact ⟨congrArg (fun z => Ending.returned (.bool z)) HN.out.symm, below_drewN hbw _⟩
      · have hno : D = false := by rw [← HD.out]; exact decide_eq_false (fun h => hd1 h.2.2.2.1)
        have HN := Lib.hid hno
        clear hno q1 q2 hsz za zb zc
        go_upto_region 6 with fail
        go_quiet (fail)
        go_wp2_with fail
        go_ret
        exact ⟨congrArg (fun z => Ending.returned (.bool z)) HN.out.symm, below_drewN hbw _⟩

end Go.Proofs.Ythdhakpmhndbfaa
