/-
  Package plane: planes moved; The reference of planes: sizes, divisors, whether planes are right; The reference of planes: whether planes are right; The reference of planes: cross products, the order.
-/
import Derived.Test.YthdhakpmhndbfaaK1
import Derived.Test.YthdhakpmhndbfaaK2
import Derived.Test.YthdhakpmhndbfaaK3
import Derived.Test.YthdhakpmhndbfaaK4
import Derived.Test.YthdhakpmhndbfaaK5
import Derived.Test.YthdhakpmhndbfaaK6
import Derived.Test.YthdhakpmhndbfaaK7
import Derived.Test.YthdhakpmhndbfaaK8
import Derived.Test.YthdhakpmhndbfaaK9
import Derived.Test.YthdhakpmhndbfaaK12
import Derived.Test.YthdhakpmhndbfaaK13
import Derived.Test.YthdhakpmhndbfaaK14
namespace Go.Proofs.Ythdhakpmhndbfaa
open Go.RowKit Go.Shelf
attribute [local go_sem] Oper.semAt_some

/-- The last coefficient of a plane that is moved. -/
def shD (p : V4) (x y z : Int) : Int := p.d - p.a * x - p.b * y - p.c * z
def RightQ (p : V4) : Prop := RightP p.a p.b p.c p.d
instance (p : V4) : Decidable (RightQ p) := by unfold RightQ; infer_instance
def far3 (x y z : Int) : Prop := x.natAbs ≤ 1000000 ∧ y.natAbs ≤ 1000000 ∧ z.natAbs ≤ 1000000
instance (x y z : Int) : Decidable (far3 x y z) := by unfold far3; infer_instance
def shOk (p : V4) (x y z : Int) : Prop := RightP p.a p.b p.c (shD p x y z)
instance (p : V4) (x y z : Int) : Decidable (shOk p x y z) := by unfold shOk; infer_instance
def shE (p : V4) (x y z : Int) : Int := if RightQ p then (if far3 x y z then errE (decide (shOk p x y z)) 2 else 1) else 30
def shP (p : V4) (x y z : Int) : V4 := if RightQ p then (if far3 x y z then (if shOk p x y z then ⟨p.a, p.b, p.c, shD p x y z⟩ else ⟨0, 0, 0, 0⟩) else ⟨0, 0, 0, 0⟩) else ⟨0, 0, 0, 0⟩
theorem within3M (x y z : Int) : within 1000000 [x, y, z] = decide (far3 x y z) := by
  have s : ∀ n : Int, (-1000000 ≤ n ∧ n ≤ 1000000) ↔ n.natAbs ≤ 1000000 := fun n => by omega
  rw [Bool.eq_iff_iff, decide_eq_true_iff]
  unfold far3
  simp [within, s]

set_option maxRecDepth 100000 in
set_option maxHeartbeats 8000000 in
theorem shift_any (p : V4) (x y z : Int) (w : World) (hp : InV p) :
    Calls Try.prog 37 #[.agg #[.int .i64 p.a, .int .i64 p.b, .int .i64 p.c, .int .i64 p.d], .agg #[.int .i64 x, .int .i64 y, .int .i64 z]] w fun e w' => e = .returned (.tuple #[.agg #[.int .i64 (shP p x y z).a, .int .i64 (shP p x y z).b, .int .i64 (shP p x y z).c, .int .i64 (shP p x y z).d], .int .i64 (shE p x y z)]) ∧ Below w.heap.size w w' := by
  obtain ⟨w1, hw1⟩ : ∃ w1, (((w.alloc (.cells #[.int .i64 p.a, .int .i64 p.b, .int .i64 p.c, .int .i64 p.d] 23)).alloc (.cells #[.int .i64 x, .int .i64 y, .int .i64 z] 53)).alloc (.cells #[.int .i64 0, .int .i64 0, .int .i64 0, .int .i64 0] 23)) = w1 := ⟨_, rfl⟩
  have hb1 : Below w.heap.size w w1 := by rw [← hw1]; exact bw3 w _ _ _
  have k0 : Blk w1 (w.heap.size) #[.int .i64 p.a, .int .i64 p.b, .int .i64 p.c, .int .i64 p.d] 23 := by rw [← hw1]; exact ((Blk.new w _ _).alloc _).alloc _
  have k1 : Blk w1 (w.heap.size + 1) #[.int .i64 x, .int .i64 y, .int .i64 z] 53 := by rw [← hw1]; exact (Blk.new' _ _ _ (by simp)).alloc _
  have kR : Blk w1 (w.heap.size + 1 + 1) #[.int .i64 0, .int .i64 0, .int .i64 0, .int .i64 0] 23 := by rw [← hw1]; exact Blk.new' _ _ _ (by simp)
  have hpl : ∀ b W, RdV W (some ⟨b, 0, none⟩) [p] → Calls Try.prog 44 #[.slice (some ⟨b, 0, none⟩) 1 1] W fun e w' => ∃ v, e = .returned v ∧ ChkIs w' v (errE (decide (RightQ p)) 30) ∧ Below W.heap.size W w' := fun b W hR => by
    have h := planes_any (some ⟨b, 0, none⟩) 1 1 [p] W rfl (by decide) hR (by intro x hx; rw [List.mem_singleton.1 hx]; exact hp)
    rw [show decide (RightQ p) = decide (RightP p.a p.b p.c p.d) from decide_eq_decide.2 Iff.rfl]
    simpa using h
  have hwi : ∀ W, RdI W (some ⟨w.heap.size + 1, 0, none⟩) [x, y, z] → Calls Try.prog 57 #[.int .i64 1000000, .slice (some ⟨w.heap.size + 1, 0, none⟩) 3 3] W fun e w' => ∃ v, e = .returned v ∧ ChkIs w' v (errE (decide (far3 x y z)) 1) ∧ Below W.heap.size W w' := fun W hR => by
    have h := withins_any 1000000 (some ⟨w.heap.size + 1, 0, none⟩) 3 3 [x, y, z] W rfl (by decide) hR (by decide) (by decide)
    rw [within3M] at h
    exact h
  obtain ⟨rp, hrp⟩ : ∃ r, errE (decide (RightQ p)) 30 = r := ⟨_, rfl⟩
  obtain ⟨rv, hrv⟩ : ∃ r, errE (decide (far3 x y z)) 1 = r := ⟨_, rfl⟩
  rw [hrp] at hpl
  rw [hrv] at hwi
  have HPL := Lib.hid hpl
  have HWI := Lib.hid hwi
  obtain ⟨PV, hPV⟩ : ∃ v, shP p x y z = v := ⟨_, rfl⟩
  obtain ⟨EV, hEV⟩ : ∃ v, shE p x y z = v := ⟨_, rfl⟩
  rw [hPV, hEV]
  have hcase : (firstE [rp, rv] = 0 ∧ RightQ p ∧ far3 x y z) ∨ ((firstE [rp, rv] != 0) = true ∧ PV = ⟨0, 0, 0, 0⟩ ∧ EV = firstE [rp, rv]) := by
    rw [← hPV, ← hEV, ← hrp, ← hrv]
    unfold shP shE
    by_cases h1 : RightQ p
    · by_cases h2 : far3 x y z
      · left; rw [decide_eq_true h1, decide_eq_true h2]; exact ⟨rfl, h1, h2⟩
      · right; rw [decide_eq_true h1, decide_eq_false h2, if_pos h1, if_pos h1, if_neg h2, if_neg h2]; exact ⟨rfl, rfl, rfl⟩
    · right; rw [decide_eq_false h1, if_neg h1, if_neg h1]; exact ⟨rfl, rfl, rfl⟩
  have HC := Lib.hid hcase
  have hPE : RightQ p → far3 x y z → PV = (if shOk p x y z then ⟨p.a, p.b, p.c, shD p x y z⟩ else ⟨0, 0, 0, 0⟩) ∧ EV = errE (decide (shOk p x y z)) 2 := fun h1 h2 => by
    rw [← hPV, ← hEV]; unfold shP shE; rw [if_pos h1, if_pos h2, if_pos h1, if_pos h2]; exact ⟨rfl, rfl⟩
  have HPE := Lib.hid hPE
  clear hpl hwi hrp hrv hPV hEV hcase hPE hp
  go_enter Try.func37, Try.ntmps37
  go_upto_region 1 with fail
  go_cut [6] from 7 to 13 (fun v6 wx => v6 = .int .i64 (firstE [rp, rv]) ∧ Below w1.heap.size w1 wx)
  case first =>
    refine wp_region_kn' (fun ix => ix != 1 && ix != 2 && ix != 4 && ix != 5) (fun ix => match ix with | 0 => .agg #[.int .i64 p.a, .int .i64 p.b, .int .i64 p.c, .int .i64 p.d] | 3 => .slice (some ⟨w.heap.size + 1, 0, none⟩) 3 3 | 6 => .int .i64 (firstE [rp, rv]) | _ => .int .i64 (firstE [rp, rv])) (fun ix v w => match ix with | 1 => ∃ b, v = .slice (some ⟨b, 0, none⟩) 1 1 ∧ RdV w (some ⟨b, 0, none⟩) [p] | 2 => ChkIs w v rp | 4 => ChkIs w v rv | _ => ∃ b, v = .slice (some ⟨b, 0, none⟩) 2 2 ∧ RdC w (some ⟨b, 0, none⟩) [rp, rv]) (by kernel_rfl) (by kernel_rfl) ?_ ?_ ?_
    · intro ix v w8 w9 hb9 h
      have hd : ∀ {rs : List Int}, (∃ b, v = .slice (some ⟨b, 0, none⟩) 2 2 ∧ RdC w8 (some ⟨b, 0, none⟩) rs) → ∃ b, v = .slice (some ⟨b, 0, none⟩) 2 2 ∧ RdC w9 (some ⟨b, 0, none⟩) rs := fun ⟨b, e, hr⟩ => ⟨b, e, hr.below hb9⟩
      rcases ix with _ | _ | _ | _ | _ | ix
      · exact hd h
      · obtain ⟨b, e, hr⟩ := h; exact ⟨b, e, hr.below hb9⟩
      · exact ChkIs.below h hb9
      · exact hd h
      · exact ChkIs.below h hb9
      · exact hd h
    · rintro ix hx f ww hS hd
      have ka := k0.kept hS
      have kb := k1.kept hS
      have a0_ := ka.cell (i := 0) rfl
      have a1_ := ka.cell (i := 1) rfl
      have a2_ := ka.cell (i := 2) rfl
      have a3_ := ka.cell (i := 3) rfl
      have b0_ := kb.cell (i := 0) rfl
      have b1_ := kb.cell (i := 1) rfl
      have b2_ := kb.cell (i := 2) rfl
      rcases ix with _ | _ | _ | _ | _ | _ | _ | _ | ix
      · refine wpOp_list rfl ?_
        simp only [tmOf, putAll, List.map_cons, List.map_nil, List.setIfInBounds_toArray, List.set_cons_zero, List.set_cons_succ]
        go_wp2
        refine ⟨.agg #[.int .i64 p.a, .int .i64 p.b, .int .i64 p.c, .int .i64 p.d], ?_⟩
        simp [upd, Below.refl]
      · have g0 : f 0 = .agg #[.int .i64 p.a, .int .i64 p.b, .int .i64 p.c, .int .i64 p.d] := hd 0 (by kernel_rfl)
        refine wpOp_list rfl ?_
        simp only [tmOf, putAll, List.map_cons, List.map_nil, List.setIfInBounds_toArray, List.set_cons_zero, List.set_cons_succ]
        go_wp2
        exact ⟨.slice (some ⟨ww.heap.size, 0, none⟩) 1 1, by simp [upd, g0], ⟨_, rfl, planes1 ww p.a p.b p.c p.d _⟩, (Below.refl _ ww).alloc (Nat.le_refl _) _⟩
      · obtain ⟨b8, g1, hR8⟩ : ∃ b, f 1 = .slice (some ⟨b, 0, none⟩) 1 1 ∧ RdV ww (some ⟨b, 0, none⟩) [p] := hd 1 (by kernel_rfl)
        refine wpOp_list rfl ?_
        simp only [tmOf, putAll, List.map_cons, List.map_nil, List.setIfInBounds_toArray, List.set_cons_zero, List.set_cons_succ]
        go_wp2_with fail
        refine (HPL.out b8 _ hR8).mono ?_
        rintro e' wf ⟨v, rfl, hv, hbf⟩
        go_wp2_with fail
        first
          | exact ⟨v, by simp [upd, g1], hv, hbf⟩
          | exact ⟨v, by simp [upd, g1], hv⟩
      · refine wpOp_list rfl ?_
        simp only [tmOf, putAll, List.map_cons, List.map_nil, List.setIfInBounds_toArray, List.set_cons_zero, List.set_cons_succ]
        go_wp2
        refine ⟨.slice (some ⟨w.heap.size + 1, 0, none⟩) 3 3, ?_⟩
        simp [upd, Below.refl]
      · have g3 : f 3 = .slice (some ⟨w.heap.size + 1, 0, none⟩) 3 3 := hd 3 (by kernel_rfl)
        refine wpOp_list rfl ?_
        simp only [tmOf, putAll, List.map_cons, List.map_nil, List.setIfInBounds_toArray, List.set_cons_zero, List.set_cons_succ]
        go_wp2_with fail
        refine (HWI.out _ (rdI3 kb)).mono ?_
        rintro e' wf ⟨v, rfl, hv, hbf⟩
        go_wp2_with fail
        first
          | exact ⟨v, by simp [upd, g3], hv, hbf⟩
          | exact ⟨v, by simp [upd, g3], hv⟩
      · have h9 : ChkIs ww (f 2) rp := hd 2 (by kernel_rfl)
        obtain ⟨gf9, caps9, g2, _⟩ := id h9
        have h11 : ChkIs ww (f 4) rv := hd 4 (by kernel_rfl)
        obtain ⟨gf11, caps11, g4, _⟩ := id h11
        refine wpOp_list rfl ?_
        simp only [tmOf, putAll, List.map_cons, List.map_nil, List.setIfInBounds_toArray, List.set_cons_zero, List.set_cons_succ]
        have hr2 := checks2 ww _ _ rp rv 70 h9 h11
        rw [g2, g4] at hr2
        clear h9 h11
        go_wp2
        exact ⟨.slice (some ⟨ww.heap.size, 0, none⟩) 2 2, by simp [upd, g2, g4], ⟨_, rfl, hr2⟩, (Below.refl _ ww).alloc (Nat.le_refl _) _⟩
      · obtain ⟨b12, g5, hR12⟩ : ∃ b, f 5 = .slice (some ⟨b, 0, none⟩) 2 2 ∧ RdC ww (some ⟨b, 0, none⟩) [rp, rv] := hd 5 (by kernel_rfl)
        refine wpOp_list rfl ?_
        simp only [tmOf, putAll, List.map_cons, List.map_nil, List.setIfInBounds_toArray, List.set_cons_zero, List.set_cons_succ]
        have hf := first_any (some ⟨b12, 0, none⟩) 2 2 [rp, rv] ww rfl (by decide) hR12
        have HF := Lib.hid hf
        clear hf hR12
        go_wp2_with fail
        refine HF.out.mono ?_
        rintro e' wf ⟨rfl, hbf⟩
        go_wp2_with fail
        try refine ⟨.int .i64 (firstE [rp, rv]), ?_⟩
        simp [upd, g5, hbf]
      · have g6 : f 6 = .int .i64 (firstE [rp, rv]) := hd 6 (by kernel_rfl)
        refine wpOp_list rfl ?_
        simp only [tmOf, putAll, List.map_cons, List.map_nil, List.setIfInBounds_toArray, List.set_cons_zero, List.set_cons_succ]
        go_wp2
        refine ⟨.int .i64 (firstE [rp, rv]), ?_⟩
        simp [upd, g6, Below.refl]
      · simp only [List.length_cons, List.length_nil] at hx; omega
    · rintro f ww hS hd
      have g7 : f 7 = .int .i64 (firstE [rp, rv]) := hd 7 (by decide)
      simp only [tmOf, putAll, List.map_cons, List.map_nil, List.setIfInBounds_toArray, List.set_cons_zero, List.set_cons_succ]
      refine ‹∀ (a' : Act) (w' : World), Met _ a' w' → _› _ _ ?_
      go_meet
      case rel => exact ⟨g7, hS⟩
  case rest =>
  obtain ⟨rfl, hb2⟩ := hcut
  have k0 := k0.kept hb2
  have k1 := k1.kept hb2
  have kR := kR.kept hb2
  have hb2' := hb1.trans (hb2.mono hb1.size)
  clear hw1 hb1 hb2
  have a0 := k0.cell (i := 0) rfl
  have a1 := k0.cell (i := 1) rfl
  have a2 := k0.cell (i := 2) rfl
  have a3 := k0.cell (i := 3) rfl
  have b0 := k1.cell (i := 0) rfl
  have b1 := k1.cell (i := 1) rfl
  have b2 := k1.cell (i := 2) rfl
  have d0 := kR.cell (i := 0) rfl
  have d1 := kR.cell (i := 1) rfl
  have d2 := kR.cell (i := 2) rfl
  have d3 := kR.cell (i := 3) rfl
  have q0 := kR.frozen 0
  have q1 := kR.frozen 1
  have q2 := kR.frozen 2
  have q3 := kR.frozen 3
  obtain ⟨n, hn⟩ : ∃ n, firstE [rp, rv] = n := ⟨_, rfl⟩
  rw [hn] at HC ⊢
  rcases HC.out with ⟨rfl, h1, h2⟩ | ⟨h1, h2, h3⟩
  · have hpe := HPE.out h1 h2
    obtain ⟨_, s0, s1, s2, s3, _⟩ := h1
    obtain ⟨v0, v1, v2⟩ := h2
    have m0 := mul_le_nat s0 v0
    have m1 := mul_le_nat s1 v1
    have m2 := mul_le_nat s2 v2
    have e0 : shD p x y z = p.d - p.a * x - p.b * y - p.c * z := rfl
    rw [e0] at hpe
    obtain ⟨u0, hu0⟩ : ∃ u, p.a * x = u := ⟨_, rfl⟩
    obtain ⟨u1, hu1⟩ : ∃ u, p.b * y = u := ⟨_, rfl⟩
    obtain ⟨u2, hu2⟩ : ∃ u, p.c * z = u := ⟨_, rfl⟩
    have hok : RightP p.a p.b p.c (p.d - u0 - u1 - u2) ↔ shOk p x y z := by unfold shOk; rw [e0, hu0, hu1, hu2]
    rw [hu0, hu1, hu2] at hpe
    rw [hu0] at m0
    rw [hu1] at m1
    rw [hu2] at m2
    have e1 : wrap64 u0 = u0 := by unfold wrap64; omega
    have e2 : wrap64 u1 = u1 := by unfold wrap64; omega
    have e3 : wrap64 u2 = u2 := by unfold wrap64; omega
    have e4 : wrap64 (p.d - u0) = p.d - u0 := by unfold wrap64; omega
    have e5 : wrap64 (p.d - u0 - u1) = p.d - u0 - u1 := by unfold wrap64; omega
    have e6 : wrap64 (p.d - u0 - u1 - u2) = p.d - u0 - u1 - u2 := by unfold wrap64; omega
    have hs := fun W => small_any p.a p.b p.c (p.d - u0 - u1 - u2) W (by unfold InI64; omega) (by unfold InI64; omega) (by unfold InI64; omega) (by unfold InI64; omega)
    simp only [ite_iff hok, show decide (RightP p.a p.b p.c (p.d - u0 - u1 - u2)) = decide (shOk p x y z) from decide_eq_decide.2 hok] at hs
    obtain ⟨T, hT⟩ : ∃ T : V4, (if shOk p x y z then ⟨p.a, p.b, p.c, p.d - u0 - u1 - u2⟩ else ⟨0, 0, 0, 0⟩) = T := ⟨_, rfl⟩
    have hTv : (if shOk p x y z then Value.agg #[.int .i64 p.a, .int .i64 p.b, .int .i64 p.c, .int .i64 (p.d - u0 - u1 - u2)] else .agg #[.int .i64 0, .int .i64 0, .int .i64 0, .int .i64 0]) = .agg #[.int .i64 T.a, .int .i64 T.b, .int .i64 T.c, .int .i64 T.d] := by
      rw [← hT]; split <;> rfl
    rw [hT] at hpe
    obtain ⟨E, hE⟩ : ∃ E, errE (decide (shOk p x y z)) 2 = E := ⟨_, rfl⟩
    rw [hE] at hpe
    simp only [hTv, hE] at hs
    have HS := Lib.hid hs
    have HV : Hid (Ending.returned (.tuple #[.agg #[.int .i64 T.a, .int .i64 T.b, .int .i64 T.c, .int .i64 T.d], .int .i64 E]) = Ending.returned (.tuple #[.agg #[.int .i64 PV.a, .int .i64 PV.b, .int .i64 PV.c, .int .i64 PV.d], .int .i64 EV])) := Lib.hid (by rw [hpe.1, hpe.2])
    clear hs hpe hT hTv hE hok s0 s1 s2 s3 v0 v1 v2 m0 m1 m2 e0 HPE HC hn HPL HWI
    go_wp2_with fail
    refine (HS.out _).mono ?_
    rintro e' w5 ⟨rfl, hb5⟩
    have kR := kR.kept hb5
    have hb5' := hb2'.trans (hb5.mono hb2'.size)
    clear d0 d1 d2 d3 q0 q1 q2 q3
    have d0 := kR.cell (i := 0) rfl
    have d1 := kR.cell (i := 1) rfl
    have d2 := kR.cell (i := 2) rfl
    have d3 := kR.cell (i := 3) rfl
    have q0 := kR.frozen 0
    have q1 := kR.frozen 1
    have q2 := kR.frozen 2
    have q3 := kR.frozen 3
    go_wp2_with fail
    have L := Blk.put4 kR (.int .i64 T.a) (.int .i64 T.b) (.int .i64 T.c) (.int .i64 T.d)
    have z0 := L.cell (i := 0) rfl
    have z1 := L.cell (i := 1) rfl
    have z2 := L.cell (i := 2) rfl
    have z3 := L.cell (i := 3) rfl
    exact bodyPost_ret (v := .tuple #[.agg #[.int .i64 T.a, .int .i64 T.b, .int .i64 T.c, .int .i64 T.d], .int .i64 E]) (by simp [results, Try.results37, go_sem, z0, z1, z2, z3]) rfl ⟨HV.out, (((hb5'.setCell (by simp only; omega) _).setCell (by simp only; omega) _).setCell (by simp only; omega) _).setCell (by simp only; omega) _⟩
  · have HV : Hid (Ending.returned (.tuple #[.agg #[.int .i64 0, .int .i64 0, .int .i64 0, .int .i64 0], .int .i64 n]) = Ending.returned (.tuple #[.agg #[.int .i64 PV.a, .int .i64 PV.b, .int .i64 PV.c, .int .i64 PV.d], .int .i64 EV])) := Lib.hid (by rw [h2, h3])
    clear h2 h3 HC HPE hn HPL HWI
    go_wp2_with fail
    have L := Blk.put4 kR (.int .i64 0) (.int .i64 0) (.int .i64 0) (.int .i64 0)
    have z0 := L.cell (i := 0) rfl
    have z1 := L.cell (i := 1) rfl
    have z2 := L.cell (i := 2) rfl
    have z3 := L.cell (i := 3) rfl
    exact bodyPost_ret (v := .tuple #[.agg #[.int .i64 0, .int .i64 0, .int .i64 0, .int .i64 0], .int .i64 n]) (by simp [results, Try.results37, go_sem, z0, z1, z2, z3]) rfl ⟨HV.out, (((hb2'.setCell (by simp only; omega) _).setCell (by simp only; omega) _).setCell (by simp only; omega) _).setCell (by simp only; omega) _⟩

end Go.Proofs.Ythdhakpmhndbfaa

namespace Go.Proofs.Ythdhakpmhndbfaa
open Go.RowKit Go.Shelf
attribute [local go_sem] Oper.semAt_some

/-- An absolute value, of the least integer the greatest. -/
def sizeZ (x : Int) : Int := if x = -9223372036854775808 then 9223372036854775807 else (x.natAbs : Int)

set_option maxHeartbeats 1000000 in
theorem size3_any (x : Int) (w : World) (h : InI64 x) :
    Calls Try.prog 38 #[.int .i64 x] w fun e w' => e = .returned (.int .i64 (sizeZ x)) ∧ w' = w := by
  unfold InI64 at h
  by_cases h0 : x = -9223372036854775808
  · subst h0
    have hl : wrap64 9223372036854775808 = -9223372036854775808 := by unfold wrap64; rfl
    clear h
    go_enter Try.func38, Try.ntmps38
    go_wp2_with fail
    go_ret
    exact ⟨rfl, rfl⟩
  · have hw : wrap64 (-x) = -x := by unfold wrap64; omega
    have hs : sizeZ x = (x.natAbs : Int) := by unfold sizeZ; rw [if_neg h0]
    by_cases hz : x = 0
    · subst hz
      clear h0 hs
      go_enter Try.func38, Try.ntmps38
      go_wp2_with fail
      go_ret
      exact ⟨rfl, rfl⟩
    · have hne : (x == -x) = false := by simp; omega
      have hm : max x (-x) = (x.natAbs : Int) := by omega
      have HS := Lib.hid hs
      have HM := Lib.hid hm
      clear h0 hs hz hm
      go_enter Try.func38, Try.ntmps38
      go_wp2_with fail
      go_ret
      exact ⟨congrArg (fun z : Int => Ending.returned (.int .i64 z)) (HM.out.trans HS.out.symm), rfl⟩

theorem sizeZ_nat {x : Int} (h : InI64 x) : ∃ n : Nat, sizeZ x = (n : Int) ∧ n < 9223372036854775808 := by
  unfold InI64 at h
  unfold sizeZ
  split
  · exact ⟨9223372036854775807, rfl, by decide⟩
  · exact ⟨x.natAbs, rfl, by omega⟩

set_option maxHeartbeats 2000000 in
theorem gcd3_any (a b : Int) (w : World) (ha : InI64 a) (hb : InI64 b) :
    Calls Try.prog 55 #[.int .i64 a, .int .i64 b] w fun e w' => e = .returned (.int .i64 ((Int.gcd (sizeZ a) (sizeZ b) : Nat) : Int)) ∧ ∃ k, w' = w.drewN k := by
  have s1 := fun W => size3_any a W ha
  have s2 := fun W => size3_any b W hb
  obtain ⟨m, hm, hm1⟩ := sizeZ_nat ha
  obtain ⟨n, hn, hn1⟩ := sizeZ_nat hb
  rw [hm] at s1
  rw [hn] at s2
  rw [hm, hn]
  obtain ⟨G, hG⟩ : ∃ G, Int.gcd (m : Int) (n : Int) = G := ⟨_, rfl⟩
  have hG' : Nat.gcd m n = G := hG
  rw [hG]
  have HG := Lib.hid (And.intro hG' (And.intro hm1 hn1))
  have S1 := Lib.hid s1
  have S2 := Lib.hid s2
  clear s1 s2 hm hn hG hG' hm1 hn1 ha hb
  go_enter Try.func55, Try.ntmps55
  go_wp2_with fail
  refine (S1.out _).mono ?_
  rintro e w2 ⟨rfl, hw2⟩
  rw [hw2]
  go_wp2_with fail
  refine (S2.out _).mono ?_
  rintro e w3 ⟨rfl, hw3⟩
  rw [hw3]
  go_wp2_with fail
  go_loopg [0, 1] n (fun gk v0 v1 wr => ∃ x y : Nat, gk = y ∧ v0 = .int .i64 (x : Int) ∧ v1 = .int .i64 (y : Int) ∧ Hid (Nat.gcd x y = G ∧ x < 9223372036854775808 ∧ y < 9223372036854775808) ∧ ∃ k, wr = w.drewN k)
  case atStart => exact ⟨m, n, rfl, rfl, rfl, HG.out, 0, rfl⟩
  case round =>
    obtain ⟨x, y, hgk, rfl, rfl, HX, k, rfl⟩ := hrel
    have HGK := Lib.hid hgk
    clear hgk
    rcases Nat.eq_zero_or_pos y with h0 | h0
    · subst h0
      have hx : x = G := by rw [← HX.out.1, Nat.gcd_zero_right]
      have HXX := Lib.hid hx
      clear hx
      go_wp2_with fail
      go_ret
      exact ⟨congrArg (fun g : Nat => Ending.returned (.int .i64 (g : Int))) HXX.out, k, rfl⟩
    · have h1 : ((y : Int) != 0) = true := by simp; omega
      have h2 : ¬ (y : Int) = 0 := by omega
      have h3 : (x : Int).tmod (y : Int) = ((x % y : Nat) : Int) := rfl
      have hm := Nat.mod_lt x h0
      have hg : Nat.gcd y (x % y) = G := by rw [← HX.out.1, Nat.gcd_comm x y, Nat.gcd_rec y x, Nat.gcd_comm]
      have HN := Lib.hid (And.intro hg (And.intro HX.out.2.2 (Nat.lt_trans hm HX.out.2.2)))
      have hwr : wrap64 ((x % y : Nat) : Int) = ((x % y : Nat) : Int) := by have := HX.out.2.2; unfold wrap64; omega
      clear hg
      generalize x % y = r at *
      go_upto_region 3 with fail
      go_quiet (fail)
      go_wp2_with fail
      go_roundg r
      case measure => rw [HGK.out]; exact hm
      case rel => exact ⟨y, r, rfl, rfl, by first | rfl | (congr 1) | simp [h3, hwr], HN.out, k + nq, by rw [World.drewN_drewN]⟩

end Go.Proofs.Ythdhakpmhndbfaa

namespace Go.Proofs.Ythdhakpmhndbfaa
open Go.RowKit Go.Shelf
attribute [local go_sem] Oper.semAt_some

theorem sizeZ_small {x : Int} {lim : Nat} (h : ¬ (lim : Int) < sizeZ x) (hl : lim < 9223372036854775807) : x.natAbs ≤ lim ∧ sizeZ x = (x.natAbs : Int) := by
  unfold sizeZ at *
  split at h
  · omega
  · rename_i hne; rw [if_neg hne]; exact ⟨by omega, rfl⟩
theorem sizeZ_of_nat {n : Nat} (_h : n < 9223372036854775808) : sizeZ (n : Int) = (n : Int) := by
  unfold sizeZ; rw [if_neg (by omega)]; simp

set_option maxRecDepth 100000 in
set_option maxHeartbeats 4000000 in
theorem right3_any (a b c d : Int) (w : World) (ha : InI64 a) (hb : InI64 b) (hc : InI64 c) (hd : InI64 d) :
    Calls Try.prog 42 #[.agg #[.int .i64 a, .int .i64 b, .int .i64 c, .int .i64 d]] w fun e w' => e = .returned (.bool (decide (RightP a b c d))) ∧ Below w.heap.size w w' := by
  obtain ⟨w1, hw1⟩ : ∃ w1, w.alloc (.cells #[.int .i64 a, .int .i64 b, .int .i64 c, .int .i64 d] 23) = w1 := ⟨_, rfl⟩
  have hb1 : Below w.heap.size w w1 := by rw [← hw1]; exact (Below.refl _ w).alloc (Nat.le_refl _) _
  have k0 : Blk w1 w.heap.size #[.int .i64 a, .int .i64 b, .int .i64 c, .int .i64 d] 23 := by rw [← hw1]; exact Blk.new _ _ _
  have HI := Lib.hid (And.intro ha (And.intro hb (And.intro hc hd)))
  clear ha hb hc hd
  go_enter Try.func42, Try.ntmps42
  go_wp2_with fail
  go_loopg [3] 3 (fun gk v3 wr => ∃ i : Nat, i ≤ 3 ∧ gk = 3 - i ∧ v3 = .int .i64 (i : Int) ∧ (0 < i → ¬ 1000 < sizeZ a) ∧ (1 < i → ¬ 1000 < sizeZ b) ∧ (2 < i → ¬ 1000 < sizeZ c) ∧ Blk wr w.heap.size #[.int .i64 a, .int .i64 b, .int .i64 c, .int .i64 d] 23 ∧ Below w.heap.size w wr)
  case atStart => exact ⟨0, by decide, rfl, rfl, fun h => absurd h (by decide), fun h => absurd h (by decide), fun h => absurd h (by decide), k0, hb1⟩
  case round =>
    clear k0 hb1 hw1
    obtain ⟨i, hi, hgk, rfl, h0, h1, h2, hk, hbw⟩ := hrel
    have HGK := Lib.hid hgk
    have HA := Lib.hid (And.intro h0 (And.intro h1 h2))
    clear hgk h0 h1 h2
    have c0 := hk.cell (i := 0) rfl
    have c1 := hk.cell (i := 1) rfl
    have c2 := hk.cell (i := 2) rfl
    have c3 := hk.cell (i := 3) rfl
    have hi4 : i = 0 ∨ i = 1 ∨ i = 2 ∨ i = 3 := by omega
    clear hi
    rcases hi4 with rfl | rfl | rfl | rfl
    · have hs := fun W => size3_any a W HI.out.1
      have HSZ := Lib.hid hs
      clear hs
      by_cases hbig : 1000 < sizeZ a
      · have hno : decide (RightP a b c d) = false := decide_eq_false (fun h => by have := h.2.1; unfold sizeZ at hbig; split at hbig <;> omega)
        have HN := Lib.hid hno
        clear hno
        go_wp2_with fail
        refine (HSZ.out _).mono ?_
        rintro e w2 ⟨rfl, hw2⟩
        rw [hw2]
        go_wp2_with fail
        go_ret
        exact ⟨congrArg (fun z => Ending.returned (.bool z)) HN.out.symm, hbw⟩
      · have HB := Lib.hid hbig
        go_wp2_with fail
        refine (HSZ.out _).mono ?_
        rintro e w2 ⟨rfl, hw2⟩
        rw [hw2]
        go_wp2_with fail
        go_roundg (2)
        case measure => rw [HGK.out]; decide
        case rel => exact ⟨1, by decide, rfl, rfl, by have := HA.out; have := HB.out; intro h1; omega, by have := HA.out; have := HB.out; intro h1; omega, by have := HA.out; have := HB.out; intro h1; omega, hk, hbw⟩
    · have hs := fun W => size3_any b W HI.out.2.1
      have HSZ := Lib.hid hs
      clear hs
      by_cases hbig : 1000 < sizeZ b
      · have hno : decide (RightP a b c d) = false := decide_eq_false (fun h => by have := h.2.2.1; unfold sizeZ at hbig; split at hbig <;> omega)
        have HN := Lib.hid hno
        clear hno
        go_wp2_with fail
        refine (HSZ.out _).mono ?_
        rintro e w2 ⟨rfl, hw2⟩
        rw [hw2]
        go_wp2_with fail
        go_ret
        exact ⟨congrArg (fun z => Ending.returned (.bool z)) HN.out.symm, hbw⟩
      · have HB := Lib.hid hbig
        go_wp2_with fail
        refine (HSZ.out _).mono ?_
        rintro e w2 ⟨rfl, hw2⟩
        rw [hw2]
        go_wp2_with fail
        go_roundg (1)
        case measure => rw [HGK.out]; decide
        case rel => exact ⟨2, by decide, rfl, rfl, by have := HA.out; have := HB.out; intro h1; omega, by have := HA.out; have := HB.out; intro h1; omega, by have := HA.out; have := HB.out; intro h1; omega, hk, hbw⟩
    · have hs := fun W => size3_any c W HI.out.2.2.1
      have HSZ := Lib.hid hs
      clear hs
      by_cases hbig : 1000 < sizeZ c
      · have hno : decide (RightP a b c d) = false := decide_eq_false (fun h => by have := h.2.2.2.1; unfold sizeZ at hbig; split at hbig <;> omega)
        have HN := Lib.hid hno
        clear hno
        go_wp2_with fail
        refine (HSZ.out _).mono ?_
        rintro e w2 ⟨rfl, hw2⟩
        rw [hw2]
        go_wp2_with fail
        go_ret
        exact ⟨congrArg (fun z => Ending.returned (.bool z)) HN.out.symm, hbw⟩
      · have HB := Lib.hid hbig
        go_wp2_with fail
        refine (HSZ.out _).mono ?_
        rintro e w2 ⟨rfl, hw2⟩
        rw [hw2]
        go_wp2_with fail
        go_roundg (0)
        case measure => rw [HGK.out]; decide
        case rel => exact ⟨3, by decide, rfl, rfl, by have := HA.out; have := HB.out; intro h1; omega, by have := HA.out; have := HB.out; intro h1; omega, by have := HA.out; have := HB.out; intro h1; omega, hk, hbw⟩
    · obtain ⟨za, ea⟩ := sizeZ_small (lim := 1000) (HA.out.1 (by decide)) (by decide)
      obtain ⟨zb, eb⟩ := sizeZ_small (lim := 1000) (HA.out.2.1 (by decide)) (by decide)
      obtain ⟨zc, ec⟩ := sizeZ_small (lim := 1000) (HA.out.2.2 (by decide)) (by decide)
      have hs := fun W => size3_any d W HI.out.2.2.2
      have HSZ := Lib.hid hs
      clear hs
      by_cases hz : a = 0 ∧ b = 0 ∧ c = 0
      · have hno : decide (RightP a b c d) = false := decide_eq_false (fun h => h.1 hz)
        have HN := Lib.hid hno
        obtain ⟨rfl, rfl, rfl⟩ := hz
        clear hno za zb zc ea eb ec
        go_wp2_with fail
        go_ret
        exact ⟨congrArg (fun z => Ending.returned (.bool z)) HN.out.symm, hbw⟩
      · have hg1 : Int.gcd (sizeZ a) (sizeZ b) = Int.gcd a b := by rw [ea, eb]; rfl
        have q1 := fun W => gcd3_any a b W HI.out.1 HI.out.2.1
        rw [hg1] at q1
        have HZ := Lib.hid hz
        have HE := Lib.hid (And.intro za (And.intro zb (And.intro zc ec)))
        clear hz hg1 ea eb ec za zb zc
        go_upto_region 6 with fail
        go_cut [31] from 13 to 31 (fun v31 wx => v31 = .bool (decide (1000000 < sizeZ d)) ∧ wr = wx)
        case first =>
          by_cases ha : a = 0
          · have ha' : (a == 0) = true := by simp [ha]
            by_cases hb : b = 0
            · have hb' : (b == 0) = true := by simp [hb]
              have hc : ¬ c = 0 := fun e => HZ.out ⟨ha, hb, e⟩
              have hc' : (c == 0) = false := by simp [hc]
              clear ha hb hc
              go_wp2_with fail
              refine (HSZ.out _).mono ?_
              rintro e w2 ⟨rfl, hw2⟩
              rw [hw2]
              go_wp2_with fail
              go_meet
              case rel => exact ⟨rfl, rfl⟩
            · have hb' : (b == 0) = false := by simp [hb]
              clear ha hb
              go_wp2_with fail
              refine (HSZ.out _).mono ?_
              rintro e w2 ⟨rfl, hw2⟩
              rw [hw2]
              go_wp2_with fail
              go_meet
              case rel => exact ⟨rfl, rfl⟩
          · have ha' : (a == 0) = false := by simp [ha]
            clear ha
            go_wp2_with fail
            refine (HSZ.out _).mono ?_
            rintro e w2 ⟨rfl, hw2⟩
            rw [hw2]
            go_wp2_with fail
            go_meet
            case rel => exact ⟨rfl, rfl⟩
        case rest =>
        obtain ⟨rfl, rfl⟩ := hcut
        by_cases hbig : 1000000 < sizeZ d
        · have hno : decide (RightP a b c d) = false := decide_eq_false (fun h => by have := h.2.2.2.2.1; unfold sizeZ at hbig; split at hbig <;> omega)
          have HN := Lib.hid hno
          rw [decide_eq_true hbig]
          clear hno hbig
          go_wp2_with fail
          go_ret
          exact ⟨congrArg (fun z => Ending.returned (.bool z)) HN.out.symm, hbw⟩
        · obtain ⟨zd, ed⟩ := sizeZ_small (lim := 1000000) hbig (by decide)
          have hg2 : Int.gcd (sizeZ c) (sizeZ d) = Int.gcd c d := by rw [HE.out.2.2.2, ed]; rfl
          have q2 := fun W => gcd3_any c d W HI.out.2.2.1 HI.out.2.2.2
          rw [hg2] at q2
          have l1 : Int.gcd a b ≤ 1000 := by
            rcases Int.lt_trichotomy a 0 with h | h | h
            · exact Nat.le_trans (Nat.le_of_dvd (by omega) (Nat.gcd_dvd_left a.natAbs b.natAbs)) HE.out.1
            · rw [h]; simpa using HE.out.2.1
            · exact Nat.le_trans (Nat.le_of_dvd (by omega) (Nat.gcd_dvd_left a.natAbs b.natAbs)) HE.out.1
          have l2 : Int.gcd c d ≤ 1000000 := by
            rcases Int.lt_trichotomy c 0 with h | h | h
            · exact Nat.le_trans (Nat.le_trans (Nat.le_of_dvd (by omega) (Nat.gcd_dvd_left c.natAbs d.natAbs)) HE.out.2.2.1) (by decide)
            · rw [h]; simpa using zd
            · exact Nat.le_trans (Nat.le_trans (Nat.le_of_dvd (by omega) (Nat.gcd_dvd_left c.natAbs d.natAbs)) HE.out.2.2.1) (by decide)
          have hall : decide (RightP a b c d) = decide (g4 a b c d = 1) := decide_eq_decide.2 ⟨fun h => h.2.2.2.2.2, fun h => ⟨HZ.out, HE.out.1, HE.out.2.1, HE.out.2.2.1, zd, h⟩⟩
          have hg3 : g4 a b c d = Nat.gcd (Int.gcd a b) (Int.gcd c d) := rfl
          obtain ⟨m, hm⟩ : ∃ m, Int.gcd a b = m := ⟨_, rfl⟩
          obtain ⟨n, hn⟩ : ∃ n, Int.gcd c d = n := ⟨_, rfl⟩
          rw [hm] at q1 l1 hg3
          rw [hn] at q2 l2 hg3
          have q3 := fun W => gcd3_any (m : Int) (n : Int) W (by unfold InI64; omega) (by unfold InI64; omega)
          rw [sizeZ_of_nat (by omega), sizeZ_of_nat (by omega)] at q3
          obtain ⟨G, hG⟩ : ∃ G, Int.gcd (m : Int) (n : Int) = G := ⟨_, rfl⟩
          rw [hG] at q3
          have hG' : g4 a b c d = G := by rw [hg3]; exact hG
          rw [hG'] at hall
          have Q1 := Lib.hid q1
          have Q2 := Lib.hid q2
          have Q3 := Lib.hid q3
          have HALL := Lib.hid hall
          have heq : ((G : Int) == 1) = decide (G = 1) := by
            by_cases h : G = 1
            · rw [h]; rfl
            · rw [decide_eq_false h]; simp only [beq_eq_false_iff_ne]; omega
          rw [decide_eq_false hbig]
          clear hbig q1 q2 q3 hg2 l1 l2 hall hg3 hm hn hG hG' zd ed HZ HE HSZ
          go_upto_region 8 with fail
          go_quiet (first | (with_reducible exact Calls.quiet_of (Q1.out _)) | (with_reducible exact Calls.quiet_of (Q2.out _)) | (with_reducible exact Calls.quiet_of (Q3.out _)))
          go_wp2_with fail
          go_ret
          exact ⟨congrArg (fun z => Ending.returned (.bool z)) HALL.out.symm, below_drewN hbw _⟩

end Go.Proofs.Ythdhakpmhndbfaa

namespace Go.Proofs.Ythdhakpmhndbfaa
open Go.RowKit Go.Shelf
attribute [local go_sem] Oper.semAt_some

/-- Whether one plane comes before another one. -/
def lessV (p q : V4) : Bool := decide (cmpV p q < 0)
theorem sgnCmp_lt' {a b : Int} : (sgnCmp a b < 0) ↔ a < b := by unfold sgnCmp; split <;> (try split) <;> constructor <;> intro <;> omega
theorem less_at {p q : V4} {i : Nat} (hi : i < 4) (h : ∀ k, k < i → vg p k = vg q k) (hne : vg p i ≠ vg q i) : lessV p q = decide (vg p i < vg q i) := by
  have h4 : i = 0 ∨ i = 1 ∨ i = 2 ∨ i = 3 := by omega
  unfold lessV cmpV
  rw [decide_eq_decide]
  rcases h4 with rfl | rfl | rfl | rfl
  · rw [if_pos (show p.a ≠ q.a from hne)]; exact sgnCmp_lt'
  · rw [if_neg (show ¬ p.a ≠ q.a from fun x => x (h 0 (by decide))), if_pos (show p.b ≠ q.b from hne)]; exact sgnCmp_lt'
  · rw [if_neg (show ¬ p.a ≠ q.a from fun x => x (h 0 (by decide))), if_neg (show ¬ p.b ≠ q.b from fun x => x (h 1 (by decide))), if_pos (show p.c ≠ q.c from hne)]; exact sgnCmp_lt'
  · rw [if_neg (show ¬ p.a ≠ q.a from fun x => x (h 0 (by decide))), if_neg (show ¬ p.b ≠ q.b from fun x => x (h 1 (by decide))), if_neg (show ¬ p.c ≠ q.c from fun x => x (h 2 (by decide)))]; exact sgnCmp_lt'
theorem less_eq {p q : V4} (h : ∀ k, k < 4 → vg p k = vg q k) : lessV p q = false := by
  have ha : p.a = q.a := h 0 (by decide)
  have hb : p.b = q.b := h 1 (by decide)
  have hc : p.c = q.c := h 2 (by decide)
  have hd : p.d = q.d := h 3 (by decide)
  unfold lessV cmpV
  rw [decide_eq_false_iff_not, if_neg (fun x => x ha), if_neg (fun x => x hb), if_neg (fun x => x hc), hd, sgnCmp_eq]
  decide
set_option maxRecDepth 100000 in
set_option maxHeartbeats 8000000 in
theorem less3_any (p q : V4) (w : World) :
    Calls Try.prog 31 #[.agg #[.int .i64 p.a, .int .i64 p.b, .int .i64 p.c, .int .i64 p.d], .agg #[.int .i64 q.a, .int .i64 q.b, .int .i64 q.c, .int .i64 q.d]] w fun e w' => e = .returned (.bool (lessV p q)) ∧ Below w.heap.size w w' := by
  obtain ⟨w1, hw1⟩ : ∃ w1, ((w.alloc (.cells #[.int .i64 p.a, .int .i64 p.b, .int .i64 p.c, .int .i64 p.d] 23)).alloc (.cells #[.int .i64 q.a, .int .i64 q.b, .int .i64 q.c, .int .i64 q.d] 23)) = w1 := ⟨_, rfl⟩
  have hb1 : Below w.heap.size w w1 := by rw [← hw1]; exact bw2 w _ _
  have k0 : Blk w1 w.heap.size #[.int .i64 p.a, .int .i64 p.b, .int .i64 p.c, .int .i64 p.d] 23 := by rw [← hw1]; exact (Blk.new w _ _).alloc _
  have k1 : Blk w1 (w.heap.size + 1) #[.int .i64 q.a, .int .i64 q.b, .int .i64 q.c, .int .i64 q.d] 23 := by rw [← hw1]; exact Blk.new' _ _ _ (by simp)
  have HL := Lib.hid (fun (i : Nat) (hi : i < 4) => less_at (p := p) (q := q) hi)
  have HE := Lib.hid (less_eq (p := p) (q := q))
  obtain ⟨R, hR⟩ : ∃ R, lessV p q = R := ⟨_, rfl⟩
  rw [hR] at HL HE ⊢
  clear hR
  go_enter Try.func31, Try.ntmps31
  go_wp2_with fail
  go_loopg [5] 4 (fun gk v5 wr => ∃ i : Nat, i ≤ 4 ∧ gk = 4 - i ∧ v5 = .int .i64 (i : Int) ∧ Hid (∀ k, k < i → vg p k = vg q k) ∧ Blk wr w.heap.size #[.int .i64 p.a, .int .i64 p.b, .int .i64 p.c, .int .i64 p.d] 23 ∧ Blk wr (w.heap.size + 1) #[.int .i64 q.a, .int .i64 q.b, .int .i64 q.c, .int .i64 q.d] 23 ∧ Below w.heap.size w wr)
  case atStart => exact ⟨0, by decide, rfl, rfl, fun k hk => absurd hk (by omega), k0, k1, hb1⟩
  case round =>
    clear k0 k1 hb1 hw1
    obtain ⟨i, hi, hgk, rfl, HK, k0, k1, hb⟩ := hrel
    have HGK := Lib.hid hgk
    clear hgk
    by_cases hlt : i < 4
    · have hlti : (i : Int) < 4 := by omega
      obtain ⟨x, hxe⟩ : ∃ x, vg p i = x := ⟨_, rfl⟩
      obtain ⟨y, hye⟩ : ∃ y, vg q i = y := ⟨_, rfl⟩
      have HXY := Lib.hid (And.intro hxe hye)
      clear hxe hye
      go_upto_region 4 with fail
      go_cut [16] from 10 to 15 (fun v16 wx => v16 = .bool (x != y) ∧ Below wr.heap.size wr wx)
      case first =>
        refine wp_region_pure' (fun ix => match ix with | 0 => .int .i64 (i : Int) | 1 => .pointer (some ⟨w.heap.size, i, none⟩) | 2 => .int .i64 x | 3 => .int .i64 (i : Int) | 4 => .pointer (some ⟨w.heap.size + 1, i, none⟩) | 5 => .int .i64 y | _ => .bool (x != y)) (by kernel_rfl) (by kernel_rfl) ?_ ?_
        · rintro ix hx f ww hS hd
          have f0 := ((k0.kept hS).vg hlt).trans (congrArg (fun z : Int => some (Value.int .i64 z)) HXY.out.1)
          have f1 := ((k1.kept hS).vg hlt).trans (congrArg (fun z : Int => some (Value.int .i64 z)) HXY.out.2)
          rcases ix with _ | _ | _ | _ | _ | _ | _ | ix
          · refine wpOp_list rfl ?_
            simp only [tmOf, putAll, List.map_cons, List.map_nil, List.setIfInBounds_toArray, List.set_cons_zero, List.set_cons_succ]
            go_wp2
            simp [upd, Below.refl]
          · have g0 : f 0 = .int .i64 (i : Int) := hd 0 (by kernel_rfl)
            refine wpOp_list rfl ?_
            simp only [tmOf, putAll, List.map_cons, List.map_nil, List.setIfInBounds_toArray, List.set_cons_zero, List.set_cons_succ]
            go_wp2
            simp [upd, g0, Below.refl]
          · have g1 : f 1 = .pointer (some ⟨w.heap.size, i, none⟩) := hd 1 (by kernel_rfl)
            refine wpOp_list rfl ?_
            simp only [tmOf, putAll, List.map_cons, List.map_nil, List.setIfInBounds_toArray, List.set_cons_zero, List.set_cons_succ]
            go_wp2
            simp [upd, g1, Below.refl]
          · refine wpOp_list rfl ?_
            simp only [tmOf, putAll, List.map_cons, List.map_nil, List.setIfInBounds_toArray, List.set_cons_zero, List.set_cons_succ]
            go_wp2
            simp [upd, Below.refl]
          · have g3 : f 3 = .int .i64 (i : Int) := hd 3 (by kernel_rfl)
            refine wpOp_list rfl ?_
            simp only [tmOf, putAll, List.map_cons, List.map_nil, List.setIfInBounds_toArray, List.set_cons_zero, List.set_cons_succ]
            go_wp2
            simp [upd, g3, Below.refl]
          · have g4 : f 4 = .pointer (some ⟨w.heap.size + 1, i, none⟩) := hd 4 (by kernel_rfl)
            refine wpOp_list rfl ?_
            simp only [tmOf, putAll, List.map_cons, List.map_nil, List.setIfInBounds_toArray, List.set_cons_zero, List.set_cons_succ]
            go_wp2
            simp [upd, g4, Below.refl]
          · have g2 : f 2 = .int .i64 x := hd 2 (by kernel_rfl)
            have g5 : f 5 = .int .i64 y := hd 5 (by kernel_rfl)
            refine wpOp_list rfl ?_
            simp only [tmOf, putAll, List.map_cons, List.map_nil, List.setIfInBounds_toArray, List.set_cons_zero, List.set_cons_succ]
            go_wp2
            simp [upd, g2, g5, Below.refl]
          · simp only [List.length_cons, List.length_nil] at hx; omega
        · rintro f ww hS hd
          have g6 : f 6 = .bool (x != y) := hd 6 (by decide)
          simp only [tmOf, putAll, List.map_cons, List.map_nil, List.setIfInBounds_toArray, List.set_cons_zero, List.set_cons_succ]
          refine ‹∀ (a' : Act) (w' : World), Met _ a' w' → _› _ _ ?_
          go_meet
          case rel => exact ⟨g6, hS⟩
      case rest =>
      obtain ⟨rfl, hb2⟩ := hcut
      have k0 := k0.kept hb2
      have k1 := k1.kept hb2
      have hb := hb.trans (hb2.mono hb.size)
      clear hb2
      by_cases hx : x = y
      · have hx' : (x != y) = false := by simp [hx]
        have HX := Lib.hid hx
        clear hx
        go_wp2_with fail
        go_roundg (4 - (i + 1))
        case measure => rw [HGK.out]; omega
        case rel =>
          refine ⟨i + 1, by omega, rfl, by go_num, fun k hk => ?_, k0, k1, hb⟩
          by_cases e : k = i
          · rw [e, HXY.out.1, HXY.out.2]; exact HX.out
          · exact HK.out k (by omega)
      · have hx' : (x != y) = true := by simp [hx]
        have hr := HL.out i hlt HK.out (by rw [HXY.out.1, HXY.out.2]; exact hx)
        rw [HXY.out.1, HXY.out.2] at hr
        have HR := Lib.hid hr
        clear hx hr HK
        go_upto_region 5 with fail
        go_cut [4] from 17 to 23 (fun v4 wx => v4 = .bool (decide (x < y)) ∧ Below wc.heap.size wc wx)
        case first =>
          refine wp_region_pure' (fun ix => match ix with | 0 => .int .i64 (i : Int) | 1 => .pointer (some ⟨w.heap.size, i, none⟩) | 2 => .int .i64 x | 3 => .int .i64 (i : Int) | 4 => .pointer (some ⟨w.heap.size + 1, i, none⟩) | 5 => .int .i64 y | 6 => .bool (decide (x < y)) | _ => .bool (decide (x < y))) (by kernel_rfl) (by kernel_rfl) ?_ ?_
          · rintro ix hx f ww hS hd
            have f0 := ((k0.kept hS).vg hlt).trans (congrArg (fun z : Int => some (Value.int .i64 z)) HXY.out.1)
            have f1 := ((k1.kept hS).vg hlt).trans (congrArg (fun z : Int => some (Value.int .i64 z)) HXY.out.2)
            rcases ix with _ | _ | _ | _ | _ | _ | _ | _ | ix
            · refine wpOp_list rfl ?_
              simp only [tmOf, putAll, List.map_cons, List.map_nil, List.setIfInBounds_toArray, List.set_cons_zero, List.set_cons_succ]
              go_wp2
              simp [upd, Below.refl]
            · have g0 : f 0 = .int .i64 (i : Int) := hd 0 (by kernel_rfl)
              refine wpOp_list rfl ?_
              simp only [tmOf, putAll, List.map_cons, List.map_nil, List.setIfInBounds_toArray, List.set_cons_zero, List.set_cons_succ]
              go_wp2
              simp [upd, g0, Below.refl]
            · have g1 : f 1 = .pointer (some ⟨w.heap.size, i, none⟩) := hd 1 (by kernel_rfl)
              refine wpOp_list rfl ?_
              simp only [tmOf, putAll, List.map_cons, List.map_nil, List.setIfInBounds_toArray, List.set_cons_zero, List.set_cons_succ]
              go_wp2
              simp [upd, g1, Below.refl]
            · refine wpOp_list rfl ?_
              simp only [tmOf, putAll, List.map_cons, List.map_nil, List.setIfInBounds_toArray, List.set_cons_zero, List.set_cons_succ]
              go_wp2
              simp [upd, Below.refl]
            · have g3 : f 3 = .int .i64 (i : Int) := hd 3 (by kernel_rfl)
              refine wpOp_list rfl ?_
              simp only [tmOf, putAll, List.map_cons, List.map_nil, List.setIfInBounds_toArray, List.set_cons_zero, List.set_cons_succ]
              go_wp2
              simp [upd, g3, Below.refl]
            · have g4 : f 4 = .pointer (some ⟨w.heap.size + 1, i, none⟩) := hd 4 (by kernel_rfl)
              refine wpOp_list rfl ?_
              simp only [tmOf, putAll, List.map_cons, List.map_nil, List.setIfInBounds_toArray, List.set_cons_zero, List.set_cons_succ]
              go_wp2
              simp [upd, g4, Below.refl]
            · have g2 : f 2 = .int .i64 x := hd 2 (by kernel_rfl)
              have g5 : f 5 = .int .i64 y := hd 5 (by kernel_rfl)
              refine wpOp_list rfl ?_
              simp only [tmOf, putAll, List.map_cons, List.map_nil, List.setIfInBounds_toArray, List.set_cons_zero, List.set_cons_succ]
              go_wp2
              simp [upd, g2, g5, Below.refl]
            · have g6 : f 6 = .bool (decide (x < y)) := hd 6 (by kernel_rfl)
              refine wpOp_list rfl ?_
              simp only [tmOf, putAll, List.map_cons, List.map_nil, List.setIfInBounds_toArray, List.set_cons_zero, List.set_cons_succ]
              go_wp2
              simp [upd, g6, Below.refl]
            · simp only [List.length_cons, List.length_nil] at hx; omega
          · rintro f ww hS hd
            have g7 : f 7 = .bool (decide (x < y)) := hd 7 (by decide)
            simp only [tmOf, putAll, List.map_cons, List.map_nil, List.setIfInBounds_toArray, List.set_cons_zero, List.set_cons_succ]
            refine ‹∀ (a' : Act) (w' : World), Met _ a' w' → _› _ _ ?_
            go_meet
            case rel => exact ⟨g7, hS⟩
        case rest =>
        obtain ⟨rfl, hb2⟩ := hcut
        have hb := hb.trans (hb2.mono hb.size)
        go_wp2_with fail
        go_ret
        exact ⟨congrArg (fun b : Bool => Ending.returned (.bool b)) HR.out.symm, hb⟩
    · obtain rfl : i = 4 := by omega
      have HR := Lib.hid (HE.out HK.out)
      go_wp2_with fail
      go_ret
      exact ⟨congrArg (fun b : Bool => Ending.returned (.bool b)) HR.out.symm, hb⟩

end Go.Proofs.Ythdhakpmhndbfaa
