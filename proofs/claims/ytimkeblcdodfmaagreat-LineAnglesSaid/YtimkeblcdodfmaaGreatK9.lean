/-
  Package line: Direction; Package line: how a line crosses a plane, and what lies to its left.
-/
import Derived.Test.YtimkeblcdodfmaaGreatK1
import Derived.Test.YtimkeblcdodfmaaGreatK2
import Derived.Test.YtimkeblcdodfmaaGreatK3
import Derived.Test.YtimkeblcdodfmaaGreatK4
import Derived.Test.YtimkeblcdodfmaaGreatK5
import Derived.Test.YtimkeblcdodfmaaGreatK6
import Derived.Test.YtimkeblcdodfmaaGreatK7
import Derived.Test.YtimkeblcdodfmaaGreatK8
namespace Go.Proofs.YtimkeblcdodfmaaGreat
open Go.RowKit Go.Shelf
attribute [local go_sem] Oper.semAt_some

theorem planesQ2 (w : World) (q0 q1 : V4) (t : TypeId) : RdV (w.alloc (.cells #[.int .i64 q0.a, .int .i64 q0.b, .int .i64 q0.c, .int .i64 q0.d, .int .i64 q1.a, .int .i64 q1.b, .int .i64 q1.c, .int .i64 q1.d] t)) (some ⟨w.heap.size, 0, none⟩) [q0, q1] := by
  have hB := Blk.new w #[.int .i64 q0.a, .int .i64 q0.b, .int .i64 q0.c, .int .i64 q0.d, .int .i64 q1.a, .int .i64 q1.b, .int .i64 q1.c, .int .i64 q1.d] t
  intro i y hi
  match i, hi with
  | 0, hi => cases hi; exact ⟨_, 0, rfl, hB.lt, hB.cell (i := 0) rfl, hB.cell (i := 1) rfl, hB.cell (i := 2) rfl, hB.cell (i := 3) rfl⟩
  | 1, hi => cases hi; exact ⟨_, 0, rfl, hB.lt, hB.cell (i := 4) rfl, hB.cell (i := 5) rfl, hB.cell (i := 6) rfl, hB.cell (i := 7) rfl⟩
  | i + 2, hi => simp at hi
theorem planesQ3 (w : World) (q0 q1 q2 : V4) (t : TypeId) : RdV (w.alloc (.cells #[.int .i64 q0.a, .int .i64 q0.b, .int .i64 q0.c, .int .i64 q0.d, .int .i64 q1.a, .int .i64 q1.b, .int .i64 q1.c, .int .i64 q1.d, .int .i64 q2.a, .int .i64 q2.b, .int .i64 q2.c, .int .i64 q2.d] t)) (some ⟨w.heap.size, 0, none⟩) [q0, q1, q2] := by
  have hB := Blk.new w #[.int .i64 q0.a, .int .i64 q0.b, .int .i64 q0.c, .int .i64 q0.d, .int .i64 q1.a, .int .i64 q1.b, .int .i64 q1.c, .int .i64 q1.d, .int .i64 q2.a, .int .i64 q2.b, .int .i64 q2.c, .int .i64 q2.d] t
  intro i y hi
  match i, hi with
  | 0, hi => cases hi; exact ⟨_, 0, rfl, hB.lt, hB.cell (i := 0) rfl, hB.cell (i := 1) rfl, hB.cell (i := 2) rfl, hB.cell (i := 3) rfl⟩
  | 1, hi => cases hi; exact ⟨_, 0, rfl, hB.lt, hB.cell (i := 4) rfl, hB.cell (i := 5) rfl, hB.cell (i := 6) rfl, hB.cell (i := 7) rfl⟩
  | 2, hi => cases hi; exact ⟨_, 0, rfl, hB.lt, hB.cell (i := 8) rfl, hB.cell (i := 9) rfl, hB.cell (i := 10) rfl, hB.cell (i := 11) rfl⟩
  | i + 3, hi => simp at hi

/-- The error of two planes that should have a line. -/
def lineE (p q : V4) : Int := if RightQ p ∧ RightQ q then errE (decide (crsV (nrm p) (nrm q) ≠ ⟨0, 0, 0⟩)) 4 else 30
theorem lineE_first (p q : V4) : firstE [errE (decide (RightQ p) && decide (RightQ q)) 30, crossE p q] = lineE p q := by
  unfold lineE
  by_cases h : RightQ p ∧ RightQ q
  · rw [if_pos h, ← crossE_zero h.1 h.2, decide_eq_true h.1, decide_eq_true h.2]
    unfold firstE; simp [errE]
    unfold firstE; split <;> simp_all [firstE]
  · rw [if_neg h]
    have hb : (decide (RightQ p) && decide (RightQ q)) = false := by
      by_cases h1 : RightQ p
      · have h2 : ¬ RightQ q := fun h2 => h ⟨h1, h2⟩
        rw [decide_eq_false h2, Bool.and_false]
      · rw [decide_eq_false h1, Bool.false_and]
    rw [hb]; rfl
def dirP (p q : V4) : V3 := if lineE p q = 0 then dirV p q else ⟨0, 0, 0⟩
theorem lineE_good {p q : V4} (h : lineE p q = 0) : RightQ p ∧ RightQ q ∧ crsV (nrm p) (nrm q) ≠ ⟨0, 0, 0⟩ := by
  unfold lineE at h
  by_cases h1 : RightQ p ∧ RightQ q
  · rw [if_pos h1] at h
    refine ⟨h1.1, h1.2, ?_⟩
    by_cases h2 : crsV (nrm p) (nrm q) ≠ ⟨0, 0, 0⟩
    · exact h2
    · rw [decide_eq_false h2] at h; exact absurd h (by decide)
  · rw [if_neg h1] at h; exact absurd h (by decide)

set_option maxRecDepth 100000 in
set_option maxHeartbeats 8000000 in
theorem directionApi_any (p q : V4) (w : World) (hp : InV p) (hq : InV q) :
    Calls Tryz.prog 10 #[.agg #[.int .i64 p.a, .int .i64 p.b, .int .i64 p.c, .int .i64 p.d], .agg #[.int .i64 q.a, .int .i64 q.b, .int .i64 q.c, .int .i64 q.d]] w fun e w' => e = .returned (.tuple #[.agg #[.int .i64 (dirP p q).a, .int .i64 (dirP p q).b, .int .i64 (dirP p q).c], .int .i64 (lineE p q)]) ∧ Below w.heap.size w w' := by
  obtain ⟨w1, hw1⟩ : ∃ w1, (((w.alloc (.cells #[.int .i64 p.a, .int .i64 p.b, .int .i64 p.c, .int .i64 p.d] 23)).alloc (.cells #[.int .i64 q.a, .int .i64 q.b, .int .i64 q.c, .int .i64 q.d] 23)).alloc (.cells #[.int .i64 0, .int .i64 0, .int .i64 0] 24)) = w1 := ⟨_, rfl⟩
  have hb1 : Below w.heap.size w w1 := by rw [← hw1]; exact bw3 w _ _ _
  have k0 : Blk w1 (w.heap.size) #[.int .i64 p.a, .int .i64 p.b, .int .i64 p.c, .int .i64 p.d] 23 := by rw [← hw1]; exact (((Blk.new w _ _).alloc _).alloc _)
  have k1 : Blk w1 (w.heap.size + 1) #[.int .i64 q.a, .int .i64 q.b, .int .i64 q.c, .int .i64 q.d] 23 := by rw [← hw1]; exact ((Blk.new' _ _ _ (by simp)).alloc _)
  have kR : Blk w1 (w.heap.size + 1 + 1) #[.int .i64 0, .int .i64 0, .int .i64 0] 24 := by rw [← hw1]; exact (Blk.new' _ _ _ (by simp))
  have hpl : ∀ b W, RdV W (some ⟨b, 0, none⟩) [p, q] → Calls Tryz.prog 46 #[.slice (some ⟨b, 0, none⟩) 2 2] W fun e w' => ∃ v, e = .returned v ∧ ChkIs w' v (errE ((decide (RightQ p) && decide (RightQ q))) 30) ∧ Below W.heap.size W w' := fun b W hR => by
    have h := planes_any (some ⟨b, 0, none⟩) 2 2 [p, q] W rfl (by decide) hR (fun x hx => by
      have hx' : x = p ∨ x = q := by simpa using hx
      rcases hx' with rfl | rfl
      · exact hp
      · exact hq)
    simpa [RightQ] using h
  have HCR := Lib.hid (fun W => crossing_any p q W)
  have hE := lineE_first p q
  obtain ⟨rp, hrp⟩ : ∃ r, errE ((decide (RightQ p) && decide (RightQ q))) 30 = r := ⟨_, rfl⟩
  obtain ⟨rc, hrc⟩ : ∃ r, crossE p q = r := ⟨_, rfl⟩
  rw [hrp] at hpl
  rw [hrc] at HCR
  rw [hrp, hrc] at hE
  have HPL := Lib.hid hpl
  obtain ⟨E, hEE⟩ : ∃ E, lineE p q = E := ⟨_, rfl⟩
  rw [hEE] at hE
  obtain ⟨d, hdd⟩ : ∃ d, dirP p q = d := ⟨_, rfl⟩
  have hgood : E = 0 → ∀ W, Calls Tryz.prog 48 #[.agg #[.int .i64 p.a, .int .i64 p.b, .int .i64 p.c, .int .i64 p.d], .agg #[.int .i64 q.a, .int .i64 q.b, .int .i64 q.c, .int .i64 q.d]] W fun e w' => e = .returned (.agg #[.int .i64 d.a, .int .i64 d.b, .int .i64 d.c]) ∧ Below W.heap.size W w' := fun h0 W => by
    have hl : lineE p q = 0 := by rw [hEE]; exact h0
    obtain ⟨h1, h2, _⟩ := lineE_good hl
    have := direction_any p q W h1 h2
    rw [← hdd]; unfold dirP; rw [if_pos hl]; exact this
  have hbad : ¬ E = 0 → d = ⟨0, 0, 0⟩ := fun h0 => by rw [← hdd]; unfold dirP; rw [if_neg (by rw [hEE]; exact h0)]
  rw [hEE, hdd]
  have HE := Lib.hid hE
  have HG := Lib.hid hgood
  have HBD := Lib.hid hbad
  clear hpl hrp hrc hE hEE hdd hgood hbad hp hq
  go_enter Tryz.func10, Tryz.ntmps10
  go_upto_region 1 with fail
  go_cut [6] from 7 to 15 (fun v6 wx => v6 = .int .i64 (firstE [rp, rc]) ∧ Below w1.heap.size w1 wx)
  case first =>
    refine wp_region_kn' (fun ix => ix != 2 && ix != 3 && ix != 6 && ix != 7) (fun ix => match ix with | 0 => .agg #[.int .i64 p.a, .int .i64 p.b, .int .i64 p.c, .int .i64 p.d] | 1 => .agg #[.int .i64 q.a, .int .i64 q.b, .int .i64 q.c, .int .i64 q.d] | 4 => .agg #[.int .i64 p.a, .int .i64 p.b, .int .i64 p.c, .int .i64 p.d] | 5 => .agg #[.int .i64 q.a, .int .i64 q.b, .int .i64 q.c, .int .i64 q.d] | 8 => .int .i64 (firstE [rp, rc]) | _ => .int .i64 (firstE [rp, rc])) (fun ix v w => match ix with | 2 => ∃ b, v = .slice (some ⟨b, 0, none⟩) 2 2 ∧ RdV w (some ⟨b, 0, none⟩) [p, q] | 3 => ChkIs w v rp | 6 => ChkIs w v rc | _ => ∃ b, v = .slice (some ⟨b, 0, none⟩) 2 2 ∧ RdC w (some ⟨b, 0, none⟩) [rp, rc]) (by kernel_rfl) (by kernel_rfl) ?_ ?_ ?_
    · intro ix v w8 w9 hb h
      rcases ix with _ | _ | _ | _ | _ | _ | _ | _ | ix
      · obtain ⟨b, e, h⟩ := h; exact ⟨b, e, h.below hb⟩
      · obtain ⟨b, e, h⟩ := h; exact ⟨b, e, h.below hb⟩
      · obtain ⟨b, e, h⟩ := h; exact ⟨b, e, h.below hb⟩
      · exact ChkIs.below h hb
      · obtain ⟨b, e, h⟩ := h; exact ⟨b, e, h.below hb⟩
      · obtain ⟨b, e, h⟩ := h; exact ⟨b, e, h.below hb⟩
      · exact ChkIs.below h hb
      · obtain ⟨b, e, h⟩ := h; exact ⟨b, e, h.below hb⟩
      · obtain ⟨b, e, h⟩ := h; exact ⟨b, e, h.below hb⟩
    · rintro ix hx f ww hS hd
      have ka := k0.kept hS
      have kb := k1.kept hS
      have a0_ := ka.cell (i := 0) rfl
      have a1_ := ka.cell (i := 1) rfl
      have a2_ := ka.cell (i := 2) rfl
      have a3_ := ka.cell (i := 3) rfl
      have b0_ := kb.cell (i := 0) rfl
      have b1_ := kb.cell (i := 1) rfl
      have b2_ := kb.cell (i := 2) rfl
      have b3_ := kb.cell (i := 3) rfl
      rcases ix with _ | _ | _ | _ | _ | _ | _ | _ | _ | _ | ix
      · refine wpOp_list rfl ?_
        simp only [tmOf, putAll, List.map_cons, List.map_nil, List.setIfInBounds_toArray, List.set_cons_zero, List.set_cons_succ]
        go_wp2
        refine ⟨.agg #[.int .i64 p.a, .int .i64 p.b, .int .i64 p.c, .int .i64 p.d], ?_⟩
        simp [upd, Below.refl]
      · refine wpOp_list rfl ?_
        simp only [tmOf, putAll, List.map_cons, List.map_nil, List.setIfInBounds_toArray, List.set_cons_zero, List.set_cons_succ]
        go_wp2
        refine ⟨.agg #[.int .i64 q.a, .int .i64 q.b, .int .i64 q.c, .int .i64 q.d], ?_⟩
        simp [upd, Below.refl]
      · have g0 : f 0 = .agg #[.int .i64 p.a, .int .i64 p.b, .int .i64 p.c, .int .i64 p.d] := hd 0 (by kernel_rfl)
        have g1 : f 1 = .agg #[.int .i64 q.a, .int .i64 q.b, .int .i64 q.c, .int .i64 q.d] := hd 1 (by kernel_rfl)
        refine wpOp_list rfl ?_
        simp only [tmOf, putAll, List.map_cons, List.map_nil, List.setIfInBounds_toArray, List.set_cons_zero, List.set_cons_succ]
        go_wp2
        exact ⟨.slice (some ⟨ww.heap.size, 0, none⟩) 2 2, by simp [upd, g0, g1], ⟨_, rfl, planesQ2 ww p q _⟩, (Below.refl _ ww).alloc (Nat.le_refl _) _⟩
      · obtain ⟨b9, g2, hR9⟩ : ∃ b, f 2 = .slice (some ⟨b, 0, none⟩) 2 2 ∧ RdV ww (some ⟨b, 0, none⟩) [p, q] := hd 2 (by kernel_rfl)
        refine wpOp_list rfl ?_
        simp only [tmOf, putAll, List.map_cons, List.map_nil, List.setIfInBounds_toArray, List.set_cons_zero, List.set_cons_succ]
        go_wp2_with fail
        refine (HPL.out b9 _ hR9).mono ?_
        rintro e' wf ⟨v, rfl, hv, hbf⟩
        go_wp2_with fail
        first
          | exact ⟨v, by simp [upd, g2], hv, hbf⟩
          | exact ⟨v, by simp [upd, g2], hv⟩
      · refine wpOp_list rfl ?_
        simp only [tmOf, putAll, List.map_cons, List.map_nil, List.setIfInBounds_toArray, List.set_cons_zero, List.set_cons_succ]
        go_wp2
        refine ⟨.agg #[.int .i64 p.a, .int .i64 p.b, .int .i64 p.c, .int .i64 p.d], ?_⟩
        simp [upd, Below.refl]
      · refine wpOp_list rfl ?_
        simp only [tmOf, putAll, List.map_cons, List.map_nil, List.setIfInBounds_toArray, List.set_cons_zero, List.set_cons_succ]
        go_wp2
        refine ⟨.agg #[.int .i64 q.a, .int .i64 q.b, .int .i64 q.c, .int .i64 q.d], ?_⟩
        simp [upd, Below.refl]
      · have g4 : f 4 = .agg #[.int .i64 p.a, .int .i64 p.b, .int .i64 p.c, .int .i64 p.d] := hd 4 (by kernel_rfl)
        have g5 : f 5 = .agg #[.int .i64 q.a, .int .i64 q.b, .int .i64 q.c, .int .i64 q.d] := hd 5 (by kernel_rfl)
        refine wpOp_list rfl ?_
        simp only [tmOf, putAll, List.map_cons, List.map_nil, List.setIfInBounds_toArray, List.set_cons_zero, List.set_cons_succ]
        go_wp2_with fail
        refine (HCR.out _).mono ?_
        rintro e' wf ⟨v, rfl, hv, hbf⟩
        go_wp2_with fail
        first
          | exact ⟨v, by simp [upd, g4, g5], hv, hbf⟩
          | exact ⟨v, by simp [upd, g4, g5], hv⟩
      · have h10 : ChkIs ww (f 3) rp := hd 3 (by kernel_rfl)
        obtain ⟨gf10, caps10, g3, _⟩ := id h10
        have h13 : ChkIs ww (f 6) rc := hd 6 (by kernel_rfl)
        obtain ⟨gf13, caps13, g6, _⟩ := id h13
        refine wpOp_list rfl ?_
        simp only [tmOf, putAll, List.map_cons, List.map_nil, List.setIfInBounds_toArray, List.set_cons_zero, List.set_cons_succ]
        have hrc14 := checks2 ww _ _ rp rc 82 h10 h13
        rw [g3, g6] at hrc14
        clear h10 h13
        go_wp2
        exact ⟨.slice (some ⟨ww.heap.size, 0, none⟩) 2 2, by simp [upd, g3, g6], ⟨_, rfl, hrc14⟩, (Below.refl _ ww).alloc (Nat.le_refl _) _⟩
      · obtain ⟨b14, g7, hR14⟩ : ∃ b, f 7 = .slice (some ⟨b, 0, none⟩) 2 2 ∧ RdC ww (some ⟨b, 0, none⟩) [rp, rc] := hd 7 (by kernel_rfl)
        refine wpOp_list rfl ?_
        simp only [tmOf, putAll, List.map_cons, List.map_nil, List.setIfInBounds_toArray, List.set_cons_zero, List.set_cons_succ]
        have hf := first_any (some ⟨b14, 0, none⟩) 2 2 [rp, rc] ww rfl (by decide) hR14
        have HF := Lib.hid hf
        clear hf hR14
        go_wp2_with fail
        refine HF.out.mono ?_
        rintro e' wf ⟨rfl, hbf⟩
        go_wp2_with fail
        try refine ⟨.int .i64 (firstE [rp, rc]), ?_⟩
        simp [upd, g7, hbf]
      · have g8 : f 8 = .int .i64 (firstE [rp, rc]) := hd 8 (by kernel_rfl)
        refine wpOp_list rfl ?_
        simp only [tmOf, putAll, List.map_cons, List.map_nil, List.setIfInBounds_toArray, List.set_cons_zero, List.set_cons_succ]
        go_wp2
        refine ⟨.int .i64 (firstE [rp, rc]), ?_⟩
        simp [upd, g8, Below.refl]
      · simp only [List.length_cons, List.length_nil] at hx; omega
    · rintro f ww hS hd
      have G6 : f 9 = .int .i64 (firstE [rp, rc]) := hd 9 (by decide)
      simp only [tmOf, putAll, List.map_cons, List.map_nil, List.setIfInBounds_toArray, List.set_cons_zero, List.set_cons_succ]
      refine ‹∀ (a' : Act) (w' : World), Met _ a' w' → _› _ _ ?_
      go_meet
      case rel => exact ⟨G6, hS⟩
  case rest =>
  obtain ⟨rfl, hbx⟩ := hcut
  rw [HE.out]
  have k0 := k0.kept hbx
  have k1 := k1.kept hbx
  have kR := kR.kept hbx
  have hb := hb1.trans (hbx.mono hb1.size)
  clear hbx hw1 hb1 HPL HCR HE
  generalize wc = wy at *
  by_cases h0 : E = 0
  · subst h0
    have HD := Lib.hid (HG.out rfl)
    clear HG HBD
    have a0_ := k0.cell (i := 0) rfl
    have b0_ := k1.cell (i := 0) rfl
    have a1_ := k0.cell (i := 1) rfl
    have b1_ := k1.cell (i := 1) rfl
    have a2_ := k0.cell (i := 2) rfl
    have b2_ := k1.cell (i := 2) rfl
    have a3_ := k0.cell (i := 3) rfl
    have b3_ := k1.cell (i := 3) rfl
    go_wp2_with fail
    refine (HD.out _).mono ?_
    rintro e ww ⟨rfl, hbd⟩
    have kR := kR.kept hbd
    have hb := hb.trans (hbd.mono hb.size)
    clear hbd HD a0_ a1_ a2_ a3_ b0_ b1_ b2_ b3_
    have d0 := kR.cell (i := 0) rfl
    have q0 := kR.frozen 0
    have d1 := kR.cell (i := 1) rfl
    have q1 := kR.frozen 1
    have d2 := kR.cell (i := 2) rfl
    have q2 := kR.frozen 2
    go_wp2_with fail
    have L := Blk.put3 kR (.int .i64 d.a) (.int .i64 d.b) (.int .i64 d.c)
    have z0 := L.cell (i := 0) rfl
    have z1 := L.cell (i := 1) rfl
    have z2 := L.cell (i := 2) rfl
    exact bodyPost_ret (v := .tuple #[.agg #[.int .i64 d.a, .int .i64 d.b, .int .i64 d.c], .int .i64 0]) (by simp [results, Tryz.results10, go_sem, z0, z1, z2]) rfl ⟨rfl, ((hb.setCell (by simp only; omega) _).setCell (by simp only; omega) _).setCell (by simp only; omega) _⟩
  · have hE1 : (E == 0) = false := by simp [h0]
    have hE2 : (E != 0) = true := by simp [h0]
    have hd0 := HBD.out h0
    have HD0 := Lib.hid hd0
    clear h0 hd0 HG HBD
    have d0 := kR.cell (i := 0) rfl
    have q0 := kR.frozen 0
    have d1 := kR.cell (i := 1) rfl
    have q1 := kR.frozen 1
    have d2 := kR.cell (i := 2) rfl
    have q2 := kR.frozen 2
    go_wp2_with fail
    have L := Blk.put3 kR (.int .i64 0) (.int .i64 0) (.int .i64 0)
    have z0 := L.cell (i := 0) rfl
    have z1 := L.cell (i := 1) rfl
    have z2 := L.cell (i := 2) rfl
    exact bodyPost_ret (v := .tuple #[.agg #[.int .i64 0, .int .i64 0, .int .i64 0], .int .i64 E]) (by simp [results, Tryz.results10, go_sem, z0, z1, z2]) rfl ⟨by rw [HD0.out], ((hb.setCell (by simp only; omega) _).setCell (by simp only; omega) _).setCell (by simp only; omega) _⟩

end Go.Proofs.YtimkeblcdodfmaaGreat

namespace Go.Proofs.YtimkeblcdodfmaaGreat
open Go.RowKit Go.Shelf
attribute [local go_sem] Oper.semAt_some

/-- The error of a line and a third plane. -/
def lineE3 (p q r : V4) : Int := if RightQ p ∧ RightQ q ∧ RightQ r then errE (decide (crsV (nrm p) (nrm q) ≠ ⟨0, 0, 0⟩)) 4 else 30
theorem lineE3_first (p q r : V4) : firstE [errE (decide (RightQ p) && (decide (RightQ q) && decide (RightQ r))) 30, crossE p q] = lineE3 p q r := by
  unfold lineE3
  by_cases h : RightQ p ∧ RightQ q ∧ RightQ r
  · rw [if_pos h, ← crossE_zero h.1 h.2.1, decide_eq_true h.1, decide_eq_true h.2.1, decide_eq_true h.2.2]
    unfold firstE; simp [errE]
    unfold firstE; split <;> simp_all [firstE]
  · rw [if_neg h]
    have hb : (decide (RightQ p) && (decide (RightQ q) && decide (RightQ r))) = false := by
      by_cases h1 : RightQ p
      · by_cases h2 : RightQ q
        · have h3 : ¬ RightQ r := fun h3 => h ⟨h1, h2, h3⟩
          rw [decide_eq_false h3, Bool.and_false, Bool.and_false]
        · rw [decide_eq_false h2, Bool.false_and, Bool.and_false]
      · rw [decide_eq_false h1, Bool.false_and]
    rw [hb]; rfl
theorem lineE3_good {p q r : V4} (h : lineE3 p q r = 0) : RightQ p ∧ RightQ q ∧ RightQ r := by
  unfold lineE3 at h
  by_cases h1 : RightQ p ∧ RightQ q ∧ RightQ r
  · exact h1
  · rw [if_neg h1] at h; exact absurd h (by decide)
def crossS (p q r : V4) : Int := if lineE3 p q r = 0 then sgnI (dotV (dirV p q) (nrm r)) else 0
def leftS (p q r : V4) : Int := if lineE3 p q r = 0 then sgnI (dotV (crsV (nrm p) (dirV p q)) (nrm r)) else 0

set_option maxRecDepth 100000 in
set_option maxHeartbeats 8000000 in
theorem crosses_any (p q r : V4) (w : World) (hp : InV p) (hq : InV q) (hr : InV r) :
    Calls Tryz.prog 11 #[.agg #[.int .i64 p.a, .int .i64 p.b, .int .i64 p.c, .int .i64 p.d], .agg #[.int .i64 q.a, .int .i64 q.b, .int .i64 q.c, .int .i64 q.d], .agg #[.int .i64 r.a, .int .i64 r.b, .int .i64 r.c, .int .i64 r.d]] w fun e w' => e = .returned (.tuple #[.int .i64 (crossS p q r), .int .i64 (lineE3 p q r)]) ∧ Below w.heap.size w w' := by
  obtain ⟨w1, hw1⟩ : ∃ w1, (((w.alloc (.cells #[.int .i64 p.a, .int .i64 p.b, .int .i64 p.c, .int .i64 p.d] 23)).alloc (.cells #[.int .i64 q.a, .int .i64 q.b, .int .i64 q.c, .int .i64 q.d] 23)).alloc (.cells #[.int .i64 r.a, .int .i64 r.b, .int .i64 r.c, .int .i64 r.d] 23)) = w1 := ⟨_, rfl⟩
  have hb1 : Below w.heap.size w w1 := by rw [← hw1]; exact bw3 w _ _ _
  have k0 : Blk w1 (w.heap.size) #[.int .i64 p.a, .int .i64 p.b, .int .i64 p.c, .int .i64 p.d] 23 := by rw [← hw1]; exact (((Blk.new w _ _).alloc _).alloc _)
  have k1 : Blk w1 (w.heap.size + 1) #[.int .i64 q.a, .int .i64 q.b, .int .i64 q.c, .int .i64 q.d] 23 := by rw [← hw1]; exact ((Blk.new' _ _ _ (by simp)).alloc _)
  have k2 : Blk w1 (w.heap.size + 1 + 1) #[.int .i64 r.a, .int .i64 r.b, .int .i64 r.c, .int .i64 r.d] 23 := by rw [← hw1]; exact (Blk.new' _ _ _ (by simp))
  have hpl : ∀ b W, RdV W (some ⟨b, 0, none⟩) [p, q, r] → Calls Tryz.prog 46 #[.slice (some ⟨b, 0, none⟩) 3 3] W fun e w' => ∃ v, e = .returned v ∧ ChkIs w' v (errE ((decide (RightQ p) && (decide (RightQ q) && decide (RightQ r)))) 30) ∧ Below W.heap.size W w' := fun b W hR => by
    have h := planes_any (some ⟨b, 0, none⟩) 3 3 [p, q, r] W rfl (by decide) hR (fun x hx => by
      have hx' : x = p ∨ x = q ∨ x = r := by simpa using hx
      rcases hx' with rfl | rfl | rfl
      · exact hp
      · exact hq
      · exact hr)
    simpa [RightQ] using h
  have HCR := Lib.hid (fun W => crossing_any p q W)
  have hE := lineE3_first p q r
  obtain ⟨rp, hrp⟩ : ∃ e0, errE ((decide (RightQ p) && (decide (RightQ q) && decide (RightQ r)))) 30 = e0 := ⟨_, rfl⟩
  obtain ⟨rc, hrc⟩ : ∃ e0, crossE p q = e0 := ⟨_, rfl⟩
  rw [hrp] at hpl
  rw [hrc] at HCR
  rw [hrp, hrc] at hE
  have HPL := Lib.hid hpl
  obtain ⟨E, hEE⟩ : ∃ E, lineE3 p q r = E := ⟨_, rfl⟩
  rw [hEE] at hE
  obtain ⟨s, hs⟩ : ∃ s, crossS p q r = s := ⟨_, rfl⟩
  have hbad : ¬ E = 0 → s = 0 := fun h0 => by rw [← hs]; unfold crossS; rw [if_neg (by rw [hEE]; exact h0)]
  have hgood : E = 0 → ∃ (d n : V3) (t : Int), (∀ W, Calls Tryz.prog 48 #[.agg #[.int .i64 p.a, .int .i64 p.b, .int .i64 p.c, .int .i64 p.d], .agg #[.int .i64 q.a, .int .i64 q.b, .int .i64 q.c, .int .i64 q.d]] W fun e w' => e = .returned (.agg #[.int .i64 d.a, .int .i64 d.b, .int .i64 d.c]) ∧ Below W.heap.size W w') ∧ (∀ W, Calls Tryz.prog 51 #[.agg #[.int .i64 r.a, .int .i64 r.b, .int .i64 r.c, .int .i64 r.d]] W fun e w' => e = .returned (.agg #[.int .i64 n.a, .int .i64 n.b, .int .i64 n.c]) ∧ Below W.heap.size W w') ∧
      (∀ W, Calls Tryz.prog 50 #[.agg #[.int .i64 d.a, .int .i64 d.b, .int .i64 d.c], .agg #[.int .i64 n.a, .int .i64 n.b, .int .i64 n.c]] W fun e w' => e = .returned (.int .i64 t) ∧ Below W.heap.size W w') ∧ (∀ W, Calls Tryz.prog 49 #[.int .i64 t] W fun e w' => e = .returned (.int .i64 s) ∧ Below W.heap.size W w') := fun h0 => by
    have hl : lineE3 p q r = 0 := by rw [hEE]; exact h0
    obtain ⟨h1, h2, h3⟩ := lineE3_good hl
    refine ⟨dirV p q, nrm r, dotV (dirV p q) (nrm r), fun W => direction_any p q W h1 h2, fun W => normal_any r W, fun W => dotL_any _ _ 2000000 1000 W (dir_far h1 h2) (nrm_far h3) (by decide), fun W => ?_⟩
    have h := signL_any (dotV (dirV p q) (nrm r)) W
    rw [← hs]; unfold crossS; rw [if_pos hl]; exact h
  rw [hEE, hs]
  have HE := Lib.hid hE
  have HG := Lib.hid hgood
  have HBD := Lib.hid hbad
  clear hpl hrp hrc hE hEE hs hgood hbad hp hq hr
  go_enter Tryz.func11, Tryz.ntmps11
  go_upto_region 1 with fail
  go_cut [8] from 9 to 18 (fun v8 wx => v8 = .int .i64 (firstE [rp, rc]) ∧ Below w1.heap.size w1 wx)
  case first =>
    refine wp_region_kn' (fun ix => ix != 3 && ix != 4 && ix != 7 && ix != 8) (fun ix => match ix with | 0 => .agg #[.int .i64 p.a, .int .i64 p.b, .int .i64 p.c, .int .i64 p.d] | 1 => .agg #[.int .i64 q.a, .int .i64 q.b, .int .i64 q.c, .int .i64 q.d] | 2 => .agg #[.int .i64 r.a, .int .i64 r.b, .int .i64 r.c, .int .i64 r.d] | 5 => .agg #[.int .i64 p.a, .int .i64 p.b, .int .i64 p.c, .int .i64 p.d] | 6 => .agg #[.int .i64 q.a, .int .i64 q.b, .int .i64 q.c, .int .i64 q.d] | 9 => .int .i64 (firstE [rp, rc]) | _ => .int .i64 (firstE [rp, rc])) (fun ix v w => match ix with | 3 => ∃ b, v = .slice (some ⟨b, 0, none⟩) 3 3 ∧ RdV w (some ⟨b, 0, none⟩) [p, q, r] | 4 => ChkIs w v rp | 7 => ChkIs w v rc | _ => ∃ b, v = .slice (some ⟨b, 0, none⟩) 2 2 ∧ RdC w (some ⟨b, 0, none⟩) [rp, rc]) (by kernel_rfl) (by kernel_rfl) ?_ ?_ ?_
    · intro ix v w8 w9 hb h
      rcases ix with _ | _ | _ | _ | _ | _ | _ | _ | _ | ix
      · obtain ⟨b, e, h⟩ := h; exact ⟨b, e, h.below hb⟩
      · obtain ⟨b, e, h⟩ := h; exact ⟨b, e, h.below hb⟩
      · obtain ⟨b, e, h⟩ := h; exact ⟨b, e, h.below hb⟩
      · obtain ⟨b, e, h⟩ := h; exact ⟨b, e, h.below hb⟩
      · exact ChkIs.below h hb
      · obtain ⟨b, e, h⟩ := h; exact ⟨b, e, h.below hb⟩
      · obtain ⟨b, e, h⟩ := h; exact ⟨b, e, h.below hb⟩
      · exact ChkIs.below h hb
      · obtain ⟨b, e, h⟩ := h; exact ⟨b, e, h.below hb⟩
      · obtain ⟨b, e, h⟩ := h; exact ⟨b, e, h.below hb⟩
    · rintro ix hx f ww hS hd
      have ka := k0.kept hS
      have kb := k1.kept hS
      have kc := k2.kept hS
      have a0_ := ka.cell (i := 0) rfl
      have a1_ := ka.cell (i := 1) rfl
      have a2_ := ka.cell (i := 2) rfl
      have a3_ := ka.cell (i := 3) rfl
      have b0_ := kb.cell (i := 0) rfl
      have b1_ := kb.cell (i := 1) rfl
      have b2_ := kb.cell (i := 2) rfl
      have b3_ := kb.cell (i := 3) rfl
      have c0_ := kc.cell (i := 0) rfl
      have c1_ := kc.cell (i := 1) rfl
      have c2_ := kc.cell (i := 2) rfl
      have c3_ := kc.cell (i := 3) rfl
      rcases ix with _ | _ | _ | _ | _ | _ | _ | _ | _ | _ | _ | ix
      · refine wpOp_list rfl ?_
        simp only [tmOf, putAll, List.map_cons, List.map_nil, List.setIfInBounds_toArray, List.set_cons_zero, List.set_cons_succ]
        go_wp2
        refine ⟨.agg #[.int .i64 p.a, .int .i64 p.b, .int .i64 p.c, .int .i64 p.d], ?_⟩
        simp [upd, Below.refl]
      · refine wpOp_list rfl ?_
        simp only [tmOf, putAll, List.map_cons, List.map_nil, List.setIfInBounds_toArray, List.set_cons_zero, List.set_cons_succ]
        go_wp2
        refine ⟨.agg #[.int .i64 q.a, .int .i64 q.b, .int .i64 q.c, .int .i64 q.d], ?_⟩
        simp [upd, Below.refl]
      · refine wpOp_list rfl ?_
        simp only [tmOf, putAll, List.map_cons, List.map_nil, List.setIfInBounds_toArray, List.set_cons_zero, List.set_cons_succ]
        go_wp2
        refine ⟨.agg #[.int .i64 r.a, .int .i64 r.b, .int .i64 r.c, .int .i64 r.d], ?_⟩
        simp [upd, Below.refl]
      · have g0 : f 0 = .agg #[.int .i64 p.a, .int .i64 p.b, .int .i64 p.c, .int .i64 p.d] := hd 0 (by kernel_rfl)
        have g1 : f 1 = .agg #[.int .i64 q.a, .int .i64 q.b, .int .i64 q.c, .int .i64 q.d] := hd 1 (by kernel_rfl)
        have g2 : f 2 = .agg #[.int .i64 r.a, .int .i64 r.b, .int .i64 r.c, .int .i64 r.d] := hd 2 (by kernel_rfl)
        refine wpOp_list rfl ?_
        simp only [tmOf, putAll, List.map_cons, List.map_nil, List.setIfInBounds_toArray, List.set_cons_zero, List.set_cons_succ]
        go_wp2
        exact ⟨.slice (some ⟨ww.heap.size, 0, none⟩) 3 3, by simp [upd, g0, g1, g2], ⟨_, rfl, planesQ3 ww p q r _⟩, (Below.refl _ ww).alloc (Nat.le_refl _) _⟩
      · obtain ⟨b12, g3, hR12⟩ : ∃ b, f 3 = .slice (some ⟨b, 0, none⟩) 3 3 ∧ RdV ww (some ⟨b, 0, none⟩) [p, q, r] := hd 3 (by kernel_rfl)
        refine wpOp_list rfl ?_
        simp only [tmOf, putAll, List.map_cons, List.map_nil, List.setIfInBounds_toArray, List.set_cons_zero, List.set_cons_succ]
        go_wp2_with fail
        refine (HPL.out b12 _ hR12).mono ?_
        rintro e' wf ⟨v, rfl, hv, hbf⟩
        go_wp2_with fail
        first
          | exact ⟨v, by simp [upd, g3], hv, hbf⟩
          | exact ⟨v, by simp [upd, g3], hv⟩
      · refine wpOp_list rfl ?_
        simp only [tmOf, putAll, List.map_cons, List.map_nil, List.setIfInBounds_toArray, List.set_cons_zero, List.set_cons_succ]
        go_wp2
        refine ⟨.agg #[.int .i64 p.a, .int .i64 p.b, .int .i64 p.c, .int .i64 p.d], ?_⟩
        simp [upd, Below.refl]
      · refine wpOp_list rfl ?_
        simp only [tmOf, putAll, List.map_cons, List.map_nil, List.setIfInBounds_toArray, List.set_cons_zero, List.set_cons_succ]
        go_wp2
        refine ⟨.agg #[.int .i64 q.a, .int .i64 q.b, .int .i64 q.c, .int .i64 q.d], ?_⟩
        simp [upd, Below.refl]
      · have g5 : f 5 = .agg #[.int .i64 p.a, .int .i64 p.b, .int .i64 p.c, .int .i64 p.d] := hd 5 (by kernel_rfl)
        have g6 : f 6 = .agg #[.int .i64 q.a, .int .i64 q.b, .int .i64 q.c, .int .i64 q.d] := hd 6 (by kernel_rfl)
        refine wpOp_list rfl ?_
        simp only [tmOf, putAll, List.map_cons, List.map_nil, List.setIfInBounds_toArray, List.set_cons_zero, List.set_cons_succ]
        go_wp2_with fail
        refine (HCR.out _).mono ?_
        rintro e' wf ⟨v, rfl, hv, hbf⟩
        go_wp2_with fail
        first
          | exact ⟨v, by simp [upd, g5, g6], hv, hbf⟩
          | exact ⟨v, by simp [upd, g5, g6], hv⟩
      · have h13 : ChkIs ww (f 4) rp := hd 4 (by kernel_rfl)
        obtain ⟨gf13, caps13, g4, _⟩ := id h13
        have h16 : ChkIs ww (f 7) rc := hd 7 (by kernel_rfl)
        obtain ⟨gf16, caps16, g7, _⟩ := id h16
        refine wpOp_list rfl ?_
        simp only [tmOf, putAll, List.map_cons, List.map_nil, List.setIfInBounds_toArray, List.set_cons_zero, List.set_cons_succ]
        have hrc17 := checks2 ww _ _ rp rc 82 h13 h16
        rw [g4, g7] at hrc17
        clear h13 h16
        go_wp2
        exact ⟨.slice (some ⟨ww.heap.size, 0, none⟩) 2 2, by simp [upd, g4, g7], ⟨_, rfl, hrc17⟩, (Below.refl _ ww).alloc (Nat.le_refl _) _⟩
      · obtain ⟨b17, g8, hR17⟩ : ∃ b, f 8 = .slice (some ⟨b, 0, none⟩) 2 2 ∧ RdC ww (some ⟨b, 0, none⟩) [rp, rc] := hd 8 (by kernel_rfl)
        refine wpOp_list rfl ?_
        simp only [tmOf, putAll, List.map_cons, List.map_nil, List.setIfInBounds_toArray, List.set_cons_zero, List.set_cons_succ]
        have hf := first_any (some ⟨b17, 0, none⟩) 2 2 [rp, rc] ww rfl (by decide) hR17
        have HF := Lib.hid hf
        clear hf hR17
        go_wp2_with fail
        refine HF.out.mono ?_
        rintro e' wf ⟨rfl, hbf⟩
        go_wp2_with fail
        try refine ⟨.int .i64 (firstE [rp, rc]), ?_⟩
        simp [upd, g8, hbf]
      · have g9 : f 9 = .int .i64 (firstE [rp, rc]) := hd 9 (by kernel_rfl)
        refine wpOp_list rfl ?_
        simp only [tmOf, putAll, List.map_cons, List.map_nil, List.setIfInBounds_toArray, List.set_cons_zero, List.set_cons_succ]
        go_wp2
        refine ⟨.int .i64 (firstE [rp, rc]), ?_⟩
        simp [upd, g9, Below.refl]
      · simp only [List.length_cons, List.length_nil] at hx; omega
    · rintro f ww hS hd
      have G8 : f 10 = .int .i64 (firstE [rp, rc]) := hd 10 (by decide)
      simp only [tmOf, putAll, List.map_cons, List.map_nil, List.setIfInBounds_toArray, List.set_cons_zero, List.set_cons_succ]
      refine ‹∀ (a' : Act) (w' : World), Met _ a' w' → _› _ _ ?_
      go_meet
      case rel => exact ⟨G8, hS⟩
  case rest =>
  obtain ⟨rfl, hbx⟩ := hcut
  rw [HE.out]
  have k0 := k0.kept hbx
  have k1 := k1.kept hbx
  have k2 := k2.kept hbx
  have hb := hb1.trans (hbx.mono hb1.size)
  clear hbx hw1 hb1 HPL HCR HE
  generalize wc = wy at *
  by_cases h0 : E = 0
  · subst h0
    obtain ⟨d, n, t, hd, hn, ht, hs⟩ := HG.out rfl
    have HD := Lib.hid hd
    have HN := Lib.hid hn
    have HT := Lib.hid ht
    have HS := Lib.hid hs
    clear hd hn ht hs HG HBD
    go_upto_region 4 with fail
    go_cut [6, 7] from 22 to 28 (fun v6 v7 wx => v6 = .int .i64 s ∧ v7 = .int .i64 0 ∧ Below wy.heap.size wy wx)
    case first =>
      refine wp_region_pure' (fun ix => match ix with | 0 => .agg #[.int .i64 p.a, .int .i64 p.b, .int .i64 p.c, .int .i64 p.d] | 1 => .agg #[.int .i64 q.a, .int .i64 q.b, .int .i64 q.c, .int .i64 q.d] | 2 => .agg #[.int .i64 d.a, .int .i64 d.b, .int .i64 d.c] | 3 => .agg #[.int .i64 r.a, .int .i64 r.b, .int .i64 r.c, .int .i64 r.d] | 4 => .agg #[.int .i64 n.a, .int .i64 n.b, .int .i64 n.c] | 5 => .int .i64 t | 6 => .int .i64 s | 7 => .int .i64 s | _ => .int .i64 0) (by kernel_rfl) (by kernel_rfl) ?_ ?_
      · rintro ix hx f ww hS hd
        have ka := k0.kept hS
        have kb := k1.kept hS
        have kc := k2.kept hS
        have a0_ := ka.cell (i := 0) rfl
        have a1_ := ka.cell (i := 1) rfl
        have a2_ := ka.cell (i := 2) rfl
        have a3_ := ka.cell (i := 3) rfl
        have b0_ := kb.cell (i := 0) rfl
        have b1_ := kb.cell (i := 1) rfl
        have b2_ := kb.cell (i := 2) rfl
        have b3_ := kb.cell (i := 3) rfl
        have c0_ := kc.cell (i := 0) rfl
        have c1_ := kc.cell (i := 1) rfl
        have c2_ := kc.cell (i := 2) rfl
        have c3_ := kc.cell (i := 3) rfl
        rcases ix with _ | _ | _ | _ | _ | _ | _ | _ | _ | ix
        · refine wpOp_list rfl ?_
          simp only [tmOf, putAll, List.map_cons, List.map_nil, List.setIfInBounds_toArray, List.set_cons_zero, List.set_cons_succ]
          go_wp2
          simp [upd, Below.refl]
        · refine wpOp_list rfl ?_
          simp only [tmOf, putAll, List.map_cons, List.map_nil, List.setIfInBounds_toArray, List.set_cons_zero, List.set_cons_succ]
          go_wp2
          simp [upd, Below.refl]
        · have g0 : f 0 = .agg #[.int .i64 p.a, .int .i64 p.b, .int .i64 p.c, .int .i64 p.d] := hd 0 (by kernel_rfl)
          have g1 : f 1 = .agg #[.int .i64 q.a, .int .i64 q.b, .int .i64 q.c, .int .i64 q.d] := hd 1 (by kernel_rfl)
          refine wpOp_list rfl ?_
          simp only [tmOf, putAll, List.map_cons, List.map_nil, List.setIfInBounds_toArray, List.set_cons_zero, List.set_cons_succ]
          go_wp2_with fail
          refine (HD.out _).mono ?_
          rintro e' wf ⟨rfl, hbf⟩
          go_wp2_with fail
          simp [upd, g0, g1, hbf]
        · refine wpOp_list rfl ?_
          simp only [tmOf, putAll, List.map_cons, List.map_nil, List.setIfInBounds_toArray, List.set_cons_zero, List.set_cons_succ]
          go_wp2
          simp [upd, Below.refl]
        · have g3 : f 3 = .agg #[.int .i64 r.a, .int .i64 r.b, .int .i64 r.c, .int .i64 r.d] := hd 3 (by kernel_rfl)
          refine wpOp_list rfl ?_
          simp only [tmOf, putAll, List.map_cons, List.map_nil, List.setIfInBounds_toArray, List.set_cons_zero, List.set_cons_succ]
          go_wp2_with fail
          refine (HN.out _).mono ?_
          rintro e' wf ⟨rfl, hbf⟩
          go_wp2_with fail
          simp [upd, g3, hbf]
        · have g2 : f 2 = .agg #[.int .i64 d.a, .int .i64 d.b, .int .i64 d.c] := hd 2 (by kernel_rfl)
          have g4 : f 4 = .agg #[.int .i64 n.a, .int .i64 n.b, .int .i64 n.c] := hd 4 (by kernel_rfl)
          refine wpOp_list rfl ?_
          simp only [tmOf, putAll, List.map_cons, List.map_nil, List.setIfInBounds_toArray, List.set_cons_zero, List.set_cons_succ]
          go_wp2_with fail
          refine (HT.out _).mono ?_
          rintro e' wf ⟨rfl, hbf⟩
          go_wp2_with fail
          simp [upd, g2, g4, hbf]
        · have g5 : f 5 = .int .i64 t := hd 5 (by kernel_rfl)
          refine wpOp_list rfl ?_
          simp only [tmOf, putAll, List.map_cons, List.map_nil, List.setIfInBounds_toArray, List.set_cons_zero, List.set_cons_succ]
          go_wp2_with fail
          refine (HS.out _).mono ?_
          rintro e' wf ⟨rfl, hbf⟩
          go_wp2_with fail
          simp [upd, g5, hbf]
        · have g6 : f 6 = .int .i64 s := hd 6 (by kernel_rfl)
          refine wpOp_list rfl ?_
          simp only [tmOf, putAll, List.map_cons, List.map_nil, List.setIfInBounds_toArray, List.set_cons_zero, List.set_cons_succ]
          go_wp2
          simp [upd, g6, Below.refl]
        · refine wpOp_list rfl ?_
          simp only [tmOf, putAll, List.map_cons, List.map_nil, List.setIfInBounds_toArray, List.set_cons_zero, List.set_cons_succ]
          go_wp2
          simp [upd, Below.refl]
        · simp only [List.length_cons, List.length_nil] at hx; omega
      · rintro f ww hS hd
        have g6 : f 7 = .int .i64 s := hd 7 (by decide)
        have g7 : f 8 = .int .i64 0 := hd 8 (by decide)
        simp only [tmOf, putAll, List.map_cons, List.map_nil, List.setIfInBounds_toArray, List.set_cons_zero, List.set_cons_succ]
        refine ‹∀ (a' : Act) (w' : World), Met _ a' w' → _› _ _ ?_
        go_meet
        case rel => exact ⟨g6, g7, hS⟩
    case rest =>
    obtain ⟨rfl, rfl, hbz⟩ := hcut
    go_wp2_with fail
    go_ret2
    exact ⟨rfl, hb.trans (hbz.mono hb.size)⟩
  · have hE1 : (E == 0) = false := by simp [h0]
    have hE2 : (E != 0) = true := by simp [h0]
    have hs0 := HBD.out h0
    have HS0 := Lib.hid hs0
    clear h0 hs0 HG HBD
    go_wp2_with fail
    go_ret2
    exact ⟨by rw [HS0.out]; rfl, hb⟩

set_option maxRecDepth 100000 in
set_option maxHeartbeats 8000000 in
theorem left_any (p q r : V4) (w : World) (hp : InV p) (hq : InV q) (hr : InV r) :
    Calls Tryz.prog 12 #[.agg #[.int .i64 p.a, .int .i64 p.b, .int .i64 p.c, .int .i64 p.d], .agg #[.int .i64 q.a, .int .i64 q.b, .int .i64 q.c, .int .i64 q.d], .agg #[.int .i64 r.a, .int .i64 r.b, .int .i64 r.c, .int .i64 r.d]] w fun e w' => e = .returned (.tuple #[.int .i64 (leftS p q r), .int .i64 (lineE3 p q r)]) ∧ Below w.heap.size w w' := by
  obtain ⟨w1, hw1⟩ : ∃ w1, (((w.alloc (.cells #[.int .i64 p.a, .int .i64 p.b, .int .i64 p.c, .int .i64 p.d] 23)).alloc (.cells #[.int .i64 q.a, .int .i64 q.b, .int .i64 q.c, .int .i64 q.d] 23)).alloc (.cells #[.int .i64 r.a, .int .i64 r.b, .int .i64 r.c, .int .i64 r.d] 23)) = w1 := ⟨_, rfl⟩
  have hb1 : Below w.heap.size w w1 := by rw [← hw1]; exact bw3 w _ _ _
  have k0 : Blk w1 (w.heap.size) #[.int .i64 p.a, .int .i64 p.b, .int .i64 p.c, .int .i64 p.d] 23 := by rw [← hw1]; exact (((Blk.new w _ _).alloc _).alloc _)
  have k1 : Blk w1 (w.heap.size + 1) #[.int .i64 q.a, .int .i64 q.b, .int .i64 q.c, .int .i64 q.d] 23 := by rw [← hw1]; exact ((Blk.new' _ _ _ (by simp)).alloc _)
  have k2 : Blk w1 (w.heap.size + 1 + 1) #[.int .i64 r.a, .int .i64 r.b, .int .i64 r.c, .int .i64 r.d] 23 := by rw [← hw1]; exact (Blk.new' _ _ _ (by simp))
  have hpl : ∀ b W, RdV W (some ⟨b, 0, none⟩) [p, q, r] → Calls Tryz.prog 46 #[.slice (some ⟨b, 0, none⟩) 3 3] W fun e w' => ∃ v, e = .returned v ∧ ChkIs w' v (errE ((decide (RightQ p) && (decide (RightQ q) && decide (RightQ r)))) 30) ∧ Below W.heap.size W w' := fun b W hR => by
    have h := planes_any (some ⟨b, 0, none⟩) 3 3 [p, q, r] W rfl (by decide) hR (fun x hx => by
      have hx' : x = p ∨ x = q ∨ x = r := by simpa using hx
      rcases hx' with rfl | rfl | rfl
      · exact hp
      · exact hq
      · exact hr)
    simpa [RightQ] using h
  have HCR := Lib.hid (fun W => crossing_any p q W)
  have hE := lineE3_first p q r
  obtain ⟨rp, hrp⟩ : ∃ e0, errE ((decide (RightQ p) && (decide (RightQ q) && decide (RightQ r)))) 30 = e0 := ⟨_, rfl⟩
  obtain ⟨rc, hrc⟩ : ∃ e0, crossE p q = e0 := ⟨_, rfl⟩
  rw [hrp] at hpl
  rw [hrc] at HCR
  rw [hrp, hrc] at hE
  have HPL := Lib.hid hpl
  obtain ⟨E, hEE⟩ : ∃ E, lineE3 p q r = E := ⟨_, rfl⟩
  rw [hEE] at hE
  obtain ⟨s, hs⟩ : ∃ s, leftS p q r = s := ⟨_, rfl⟩
  have hbad : ¬ E = 0 → s = 0 := fun h0 => by rw [← hs]; unfold leftS; rw [if_neg (by rw [hEE]; exact h0)]
  have hgood : E = 0 → ∃ (m d x n : V3) (t : Int), (∀ W, Calls Tryz.prog 51 #[.agg #[.int .i64 p.a, .int .i64 p.b, .int .i64 p.c, .int .i64 p.d]] W fun e w' => e = .returned (.agg #[.int .i64 m.a, .int .i64 m.b, .int .i64 m.c]) ∧ Below W.heap.size W w') ∧ (∀ W, Calls Tryz.prog 48 #[.agg #[.int .i64 p.a, .int .i64 p.b, .int .i64 p.c, .int .i64 p.d], .agg #[.int .i64 q.a, .int .i64 q.b, .int .i64 q.c, .int .i64 q.d]] W fun e w' => e = .returned (.agg #[.int .i64 d.a, .int .i64 d.b, .int .i64 d.c]) ∧ Below W.heap.size W w') ∧
      (∀ W, Calls Tryz.prog 52 #[.agg #[.int .i64 m.a, .int .i64 m.b, .int .i64 m.c], .agg #[.int .i64 d.a, .int .i64 d.b, .int .i64 d.c]] W fun e w' => e = .returned (.agg #[.int .i64 x.a, .int .i64 x.b, .int .i64 x.c]) ∧ Below W.heap.size W w') ∧ (∀ W, Calls Tryz.prog 51 #[.agg #[.int .i64 r.a, .int .i64 r.b, .int .i64 r.c, .int .i64 r.d]] W fun e w' => e = .returned (.agg #[.int .i64 n.a, .int .i64 n.b, .int .i64 n.c]) ∧ Below W.heap.size W w') ∧
      (∀ W, Calls Tryz.prog 50 #[.agg #[.int .i64 x.a, .int .i64 x.b, .int .i64 x.c], .agg #[.int .i64 n.a, .int .i64 n.b, .int .i64 n.c]] W fun e w' => e = .returned (.int .i64 t) ∧ Below W.heap.size W w') ∧ (∀ W, Calls Tryz.prog 49 #[.int .i64 t] W fun e w' => e = .returned (.int .i64 s) ∧ Below W.heap.size W w') := fun h0 => by
    have hl : lineE3 p q r = 0 := by rw [hEE]; exact h0
    obtain ⟨h1, h2, h3⟩ := lineE3_good hl
    refine ⟨nrm p, dirV p q, crsV (nrm p) (dirV p q), nrm r, dotV (crsV (nrm p) (dirV p q)) (nrm r), fun W => normal_any p W, fun W => direction_any p q W h1 h2, fun W => crs_any _ _ 1000 2000000 W (nrm_far h1) (dir_far h1 h2) (by decide), fun W => normal_any r W, fun W => dotL_any _ _ (2 * (1000 * 2000000)) 1000 W (crs_far (nrm_far h1) (dir_far h1 h2)) (nrm_far h3) (by decide), fun W => ?_⟩
    have h := signL_any (dotV (crsV (nrm p) (dirV p q)) (nrm r)) W
    rw [← hs]; unfold leftS; rw [if_pos hl]; exact h
  rw [hEE, hs]
  have HE := Lib.hid hE
  have HG := Lib.hid hgood
  have HBD := Lib.hid hbad
  clear hpl hrp hrc hE hEE hs hgood hbad hp hq hr
  go_enter Tryz.func12, Tryz.ntmps12
  go_upto_region 1 with fail
  go_cut [8] from 10 to 19 (fun v8 wx => v8 = .int .i64 (firstE [rp, rc]) ∧ Below w1.heap.size w1 wx)
  case first =>
    refine wp_region_kn' (fun ix => ix != 3 && ix != 4 && ix != 7 && ix != 8) (fun ix => match ix with | 0 => .agg #[.int .i64 p.a, .int .i64 p.b, .int .i64 p.c, .int .i64 p.d] | 1 => .agg #[.int .i64 q.a, .int .i64 q.b, .int .i64 q.c, .int .i64 q.d] | 2 => .agg #[.int .i64 r.a, .int .i64 r.b, .int .i64 r.c, .int .i64 r.d] | 5 => .agg #[.int .i64 p.a, .int .i64 p.b, .int .i64 p.c, .int .i64 p.d] | 6 => .agg #[.int .i64 q.a, .int .i64 q.b, .int .i64 q.c, .int .i64 q.d] | 9 => .int .i64 (firstE [rp, rc]) | _ => .int .i64 (firstE [rp, rc])) (fun ix v w => match ix with | 3 => ∃ b, v = .slice (some ⟨b, 0, none⟩) 3 3 ∧ RdV w (some ⟨b, 0, none⟩) [p, q, r] | 4 => ChkIs w v rp | 7 => ChkIs w v rc | _ => ∃ b, v = .slice (some ⟨b, 0, none⟩) 2 2 ∧ RdC w (some ⟨b, 0, none⟩) [rp, rc]) (by kernel_rfl) (by kernel_rfl) ?_ ?_ ?_
    · intro ix v w8 w9 hb h
      rcases ix with _ | _ | _ | _ | _ | _ | _ | _ | _ | ix
      · obtain ⟨b, e, h⟩ := h; exact ⟨b, e, h.below hb⟩
      · obtain ⟨b, e, h⟩ := h; exact ⟨b, e, h.below hb⟩
      · obtain ⟨b, e, h⟩ := h; exact ⟨b, e, h.below hb⟩
      · obtain ⟨b, e, h⟩ := h; exact ⟨b, e, h.below hb⟩
      · exact ChkIs.below h hb
      · obtain ⟨b, e, h⟩ := h; exact ⟨b, e, h.below hb⟩
      · obtain ⟨b, e, h⟩ := h; exact ⟨b, e, h.below hb⟩
      · exact ChkIs.below h hb
      · obtain ⟨b, e, h⟩ := h; exact ⟨b, e, h.below hb⟩
      · obtain ⟨b, e, h⟩ := h; exact ⟨b, e, h.below hb⟩
    · rintro ix hx f ww hS hd
      have ka := k0.kept hS
      have kb := k1.kept hS
      have kc := k2.kept hS
      have a0_ := ka.cell (i := 0) rfl
      have a1_ := ka.cell (i := 1) rfl
      have a2_ := ka.cell (i := 2) rfl
      have a3_ := ka.cell (i := 3) rfl
      have b0_ := kb.cell (i := 0) rfl
      have b1_ := kb.cell (i := 1) rfl
      have b2_ := kb.cell (i := 2) rfl
      have b3_ := kb.cell (i := 3) rfl
      have c0_ := kc.cell (i := 0) rfl
      have c1_ := kc.cell (i := 1) rfl
      have c2_ := kc.cell (i := 2) rfl
      have c3_ := kc.cell (i := 3) rfl
      rcases ix with _ | _ | _ | _ | _ | _ | _ | _ | _ | _ | _ | ix
      · refine wpOp_list rfl ?_
        simp only [tmOf, putAll, List.map_cons, List.map_nil, List.setIfInBounds_toArray, List.set_cons_zero, List.set_cons_succ]
        go_wp2
        refine ⟨.agg #[.int .i64 p.a, .int .i64 p.b, .int .i64 p.c, .int .i64 p.d], ?_⟩
        simp [upd, Below.refl]
      · refine wpOp_list rfl ?_
        simp only [tmOf, putAll, List.map_cons, List.map_nil, List.setIfInBounds_toArray, List.set_cons_zero, List.set_cons_succ]
        go_wp2
        refine ⟨.agg #[.int .i64 q.a, .int .i64 q.b, .int .i64 q.c, .int .i64 q.d], ?_⟩
        simp [upd, Below.refl]
      · refine wpOp_list rfl ?_
        simp only [tmOf, putAll, List.map_cons, List.map_nil, List.setIfInBounds_toArray, List.set_cons_zero, List.set_cons_succ]
        go_wp2
        refine ⟨.agg #[.int .i64 r.a, .int .i64 r.b, .int .i64 r.c, .int .i64 r.d], ?_⟩
        simp [upd, Below.refl]
      · have g0 : f 0 = .agg #[.int .i64 p.a, .int .i64 p.b, .int .i64 p.c, .int .i64 p.d] := hd 0 (by kernel_rfl)
        have g1 : f 1 = .agg #[.int .i64 q.a, .int .i64 q.b, .int .i64 q.c, .int .i64 q.d] := hd 1 (by kernel_rfl)
        have g2 : f 2 = .agg #[.int .i64 r.a, .int .i64 r.b, .int .i64 r.c, .int .i64 r.d] := hd 2 (by kernel_rfl)
        refine wpOp_list rfl ?_
        simp only [tmOf, putAll, List.map_cons, List.map_nil, List.setIfInBounds_toArray, List.set_cons_zero, List.set_cons_succ]
        go_wp2
        exact ⟨.slice (some ⟨ww.heap.size, 0, none⟩) 3 3, by simp [upd, g0, g1, g2], ⟨_, rfl, planesQ3 ww p q r _⟩, (Below.refl _ ww).alloc (Nat.le_refl _) _⟩
      · obtain ⟨b13, g3, hR13⟩ : ∃ b, f 3 = .slice (some ⟨b, 0, none⟩) 3 3 ∧ RdV ww (some ⟨b, 0, none⟩) [p, q, r] := hd 3 (by kernel_rfl)
        refine wpOp_list rfl ?_
        simp only [tmOf, putAll, List.map_cons, List.map_nil, List.setIfInBounds_toArray, List.set_cons_zero, List.set_cons_succ]
        go_wp2_with fail
        refine (HPL.out b13 _ hR13).mono ?_
        rintro e' wf ⟨v, rfl, hv, hbf⟩
        go_wp2_with fail
        first
          | exact ⟨v, by simp [upd, g3], hv, hbf⟩
          | exact ⟨v, by simp [upd, g3], hv⟩
      · refine wpOp_list rfl ?_
        simp only [tmOf, putAll, List.map_cons, List.map_nil, List.setIfInBounds_toArray, List.set_cons_zero, List.set_cons_succ]
        go_wp2
        refine ⟨.agg #[.int .i64 p.a, .int .i64 p.b, .int .i64 p.c, .int .i64 p.d], ?_⟩
        simp [upd, Below.refl]
      · refine wpOp_list rfl ?_
        simp only [tmOf, putAll, List.map_cons, List.map_nil, List.setIfInBounds_toArray, List.set_cons_zero, List.set_cons_succ]
        go_wp2
        refine ⟨.agg #[.int .i64 q.a, .int .i64 q.b, .int .i64 q.c, .int .i64 q.d], ?_⟩
        simp [upd, Below.refl]
      · have g5 : f 5 = .agg #[.int .i64 p.a, .int .i64 p.b, .int .i64 p.c, .int .i64 p.d] := hd 5 (by kernel_rfl)
        have g6 : f 6 = .agg #[.int .i64 q.a, .int .i64 q.b, .int .i64 q.c, .int .i64 q.d] := hd 6 (by kernel_rfl)
        refine wpOp_list rfl ?_
        simp only [tmOf, putAll, List.map_cons, List.map_nil, List.setIfInBounds_toArray, List.set_cons_zero, List.set_cons_succ]
        go_wp2_with fail
        refine (HCR.out _).mono ?_
        rintro e' wf ⟨v, rfl, hv, hbf⟩
        go_wp2_with fail
        first
          | exact ⟨v, by simp [upd, g5, g6], hv, hbf⟩
          | exact ⟨v, by simp [upd, g5, g6], hv⟩
      · have h14 : ChkIs ww (f 4) rp := hd 4 (by kernel_rfl)
        obtain ⟨gf14, caps14, g4, _⟩ := id h14
        have h17 : ChkIs ww (f 7) rc := hd 7 (by kernel_rfl)
        obtain ⟨gf17, caps17, g7, _⟩ := id h17
        refine wpOp_list rfl ?_
        simp only [tmOf, putAll, List.map_cons, List.map_nil, List.setIfInBounds_toArray, List.set_cons_zero, List.set_cons_succ]
        have hrc18 := checks2 ww _ _ rp rc 82 h14 h17
        rw [g4, g7] at hrc18
        clear h14 h17
        go_wp2
        exact ⟨.slice (some ⟨ww.heap.size, 0, none⟩) 2 2, by simp [upd, g4, g7], ⟨_, rfl, hrc18⟩, (Below.refl _ ww).alloc (Nat.le_refl _) _⟩
      · obtain ⟨b18, g8, hR18⟩ : ∃ b, f 8 = .slice (some ⟨b, 0, none⟩) 2 2 ∧ RdC ww (some ⟨b, 0, none⟩) [rp, rc] := hd 8 (by kernel_rfl)
        refine wpOp_list rfl ?_
        simp only [tmOf, putAll, List.map_cons, List.map_nil, List.setIfInBounds_toArray, List.set_cons_zero, List.set_cons_succ]
        have hf := first_any (some ⟨b18, 0, none⟩) 2 2 [rp, rc] ww rfl (by decide) hR18
        have HF := Lib.hid hf
        clear hf hR18
        go_wp2_with fail
        refine HF.out.mono ?_
        rintro e' wf ⟨rfl, hbf⟩
        go_wp2_with fail
        try refine ⟨.int .i64 (firstE [rp, rc]), ?_⟩
        simp [upd, g8, hbf]
      · have g9 : f 9 = .int .i64 (firstE [rp, rc]) := hd 9 (by kernel_rfl)
        refine wpOp_list rfl ?_
        simp only [tmOf, putAll, List.map_cons, List.map_nil, List.setIfInBounds_toArray, List.set_cons_zero, List.set_cons_succ]
        go_wp2
        refine ⟨.int .i64 (firstE [rp, rc]), ?_⟩
        simp [upd, g9, Below.refl]
      · simp only [List.length_cons, List.length_nil] at hx; omega
    · rintro f ww hS hd
      have G8 : f 10 = .int .i64 (firstE [rp, rc]) := hd 10 (by decide)
      simp only [tmOf, putAll, List.map_cons, List.map_nil, List.setIfInBounds_toArray, List.set_cons_zero, List.set_cons_succ]
      refine ‹∀ (a' : Act) (w' : World), Met _ a' w' → _› _ _ ?_
      go_meet
      case rel => exact ⟨G8, hS⟩
  case rest =>
  obtain ⟨rfl, hbx⟩ := hcut
  rw [HE.out]
  have k0 := k0.kept hbx
  have k1 := k1.kept hbx
  have k2 := k2.kept hbx
  have hb := hb1.trans (hbx.mono hb1.size)
  clear hbx hw1 hb1 HPL HCR HE
  generalize wc = wy at *
  by_cases h0 : E = 0
  · subst h0
    obtain ⟨m, d, x, n, t, hm, hd, hx, hn, ht, hs⟩ := HG.out rfl
    have HM := Lib.hid hm
    have HD := Lib.hid hd
    have HX := Lib.hid hx
    have HN := Lib.hid hn
    have HT := Lib.hid ht
    have HS := Lib.hid hs
    clear hm hd hx hn ht hs HG HBD
    go_upto_region 4 with fail
    go_cut [9] from 23 to 28 (fun v9 wx => ∃ B, v9 = .pointer (some ⟨B, 0, none⟩) ∧ wy.heap.size ≤ B ∧ Blk wx B #[.int .i64 x.a, .int .i64 x.b, .int .i64 x.c] 24 ∧ Below wy.heap.size wy wx)
    case first =>
      refine wp_region_defs 6 1 (fun ix => match ix with | 0 => .agg #[.int .i64 p.a, .int .i64 p.b, .int .i64 p.c, .int .i64 p.d] | 1 => .agg #[.int .i64 m.a, .int .i64 m.b, .int .i64 m.c] | 2 => .agg #[.int .i64 p.a, .int .i64 p.b, .int .i64 p.c, .int .i64 p.d] | 3 => .agg #[.int .i64 q.a, .int .i64 q.b, .int .i64 q.c, .int .i64 q.d] | 4 => .agg #[.int .i64 d.a, .int .i64 d.b, .int .i64 d.c] | _ => .agg #[.int .i64 x.a, .int .i64 x.b, .int .i64 x.c]) #[.int .i64 0, .int .i64 0, .int .i64 0] (fun _ => #[.int .i64 x.a, .int .i64 x.b, .int .i64 x.c]) 24 (by kernel_rfl) (by kernel_rfl) rfl ?_ ?_ ?_ ?_ ?_
      · intro j hj
        obtain rfl : j = 0 := by omega
        first | kernel_rfl | decide +kernel
      · rintro ix hx f ww hS hd
        have ka := k0.kept hS
        have kb := k1.kept hS
        have kc := k2.kept hS
        have a0_ := ka.cell (i := 0) rfl
        have a1_ := ka.cell (i := 1) rfl
        have a2_ := ka.cell (i := 2) rfl
        have a3_ := ka.cell (i := 3) rfl
        have b0_ := kb.cell (i := 0) rfl
        have b1_ := kb.cell (i := 1) rfl
        have b2_ := kb.cell (i := 2) rfl
        have b3_ := kb.cell (i := 3) rfl
        have c0_ := kc.cell (i := 0) rfl
        have c1_ := kc.cell (i := 1) rfl
        have c2_ := kc.cell (i := 2) rfl
        have c3_ := kc.cell (i := 3) rfl
        rcases ix with _ | _ | _ | _ | _ | _ | ix
        · refine wpOp_list rfl ?_
          simp only [tmOf, putAll, List.map_cons, List.map_nil, List.setIfInBounds_toArray, List.set_cons_zero, List.set_cons_succ]
          go_wp2
          simp [upd, Below.refl]
        · have g0 : f 0 = .agg #[.int .i64 p.a, .int .i64 p.b, .int .i64 p.c, .int .i64 p.d] := hd 0 (by decide) (by kernel_rfl)
          refine wpOp_list rfl ?_
          simp only [tmOf, putAll, List.map_cons, List.map_nil, List.setIfInBounds_toArray, List.set_cons_zero, List.set_cons_succ]
          go_wp2_with fail
          refine (HM.out _).mono ?_
          rintro e' wf ⟨rfl, hbf⟩
          go_wp2_with fail
          simp [upd, g0, hbf]
        · refine wpOp_list rfl ?_
          simp only [tmOf, putAll, List.map_cons, List.map_nil, List.setIfInBounds_toArray, List.set_cons_zero, List.set_cons_succ]
          go_wp2
          simp [upd, Below.refl]
        · refine wpOp_list rfl ?_
          simp only [tmOf, putAll, List.map_cons, List.map_nil, List.setIfInBounds_toArray, List.set_cons_zero, List.set_cons_succ]
          go_wp2
          simp [upd, Below.refl]
        · have g2 : f 2 = .agg #[.int .i64 p.a, .int .i64 p.b, .int .i64 p.c, .int .i64 p.d] := hd 2 (by decide) (by kernel_rfl)
          have g3 : f 3 = .agg #[.int .i64 q.a, .int .i64 q.b, .int .i64 q.c, .int .i64 q.d] := hd 3 (by decide) (by kernel_rfl)
          refine wpOp_list rfl ?_
          simp only [tmOf, putAll, List.map_cons, List.map_nil, List.setIfInBounds_toArray, List.set_cons_zero, List.set_cons_succ]
          go_wp2_with fail
          refine (HD.out _).mono ?_
          rintro e' wf ⟨rfl, hbf⟩
          go_wp2_with fail
          simp [upd, g2, g3, hbf]
        · have g1 : f 1 = .agg #[.int .i64 m.a, .int .i64 m.b, .int .i64 m.c] := hd 1 (by decide) (by kernel_rfl)
          have g4 : f 4 = .agg #[.int .i64 d.a, .int .i64 d.b, .int .i64 d.c] := hd 4 (by decide) (by kernel_rfl)
          refine wpOp_list rfl ?_
          simp only [tmOf, putAll, List.map_cons, List.map_nil, List.setIfInBounds_toArray, List.set_cons_zero, List.set_cons_succ]
          go_wp2_with fail
          refine (HX.out _).mono ?_
          rintro e' wf ⟨rfl, hbf⟩
          go_wp2_with fail
          simp [upd, g1, g4, hbf]
        · omega
      · intro j hj f ww
        obtain rfl : j = 0 := by omega
        refine wpOp_list rfl ?_
        simp only [tmOf, putAll, List.map_cons, List.map_nil, List.setIfInBounds_toArray, List.set_cons_zero, List.set_cons_succ]
        go_wp2
        simp [upd, ptrV]
      · intro j hj f ww b hd hf hB
        obtain rfl : j = 0 := by omega
        unfold ptrV at hf
        have e0 := hB.cell (i := 0) rfl
        have e1 := hB.cell (i := 1) rfl
        have e2 := hB.cell (i := 2) rfl
        have q0 := hB.frozen 0
        have q1 := hB.frozen 1
        have q2 := hB.frozen 2
        have g5 : f 5 = .agg #[.int .i64 x.a, .int .i64 x.b, .int .i64 x.c] := hd 5 (by decide) (by kernel_rfl)
        refine wpOp_list rfl ?_
        simp only [tmOf, putAll, List.map_cons, List.map_nil, List.setIfInBounds_toArray, List.set_cons_zero, List.set_cons_succ]
        go_wp2
        exact ⟨Blk.put3 hB _ _ _, fun D cs hne h => ((h.other 0 _ (Ne.symm hne)).other 1 _ (Ne.symm hne)).other 2 _ (Ne.symm hne), fun D h1 h2 => ((((Below.refl _ ww).mono h2).setCell (p := ⟨b, 0, none⟩) h1 _).setCell (p := ⟨b, 1, none⟩) h1 _).setCell (p := ⟨b, 2, none⟩) h1 _⟩
      · intro f ww bs hS hbs hne hall
        have h0 := hbs 0 (by decide)
        simp only [tmOf, putAll, List.map_cons, List.map_nil, List.setIfInBounds_toArray, List.set_cons_zero, List.set_cons_succ]
        refine ‹∀ (a' : Act) (w' : World), Met _ a' w' → _› _ _ ?_
        go_meet
        case rel => exact ⟨bs 0, h0.1, h0.2.1, h0.2.2, hS⟩
    case rest =>
    obtain ⟨B, rfl, hBl, kX, hbx⟩ := hcut
    have k0 := k0.kept hbx
    have k1 := k1.kept hbx
    have k2 := k2.kept hbx
    have hb := hb.trans (hbx.mono hb.size)
    clear hbx hBl HM HD HX
    generalize wc = wz at *
    go_upto_region 5 with fail
    go_cut [6, 7] from 29 to 33 (fun v6 v7 wx => v6 = .int .i64 s ∧ v7 = .int .i64 0 ∧ Below wz.heap.size wz wx)
    case first =>
      refine wp_region_pure' (fun ix => match ix with | 0 => .agg #[.int .i64 x.a, .int .i64 x.b, .int .i64 x.c] | 1 => .agg #[.int .i64 r.a, .int .i64 r.b, .int .i64 r.c, .int .i64 r.d] | 2 => .agg #[.int .i64 n.a, .int .i64 n.b, .int .i64 n.c] | 3 => .int .i64 t | 4 => .int .i64 s | 5 => .int .i64 s | _ => .int .i64 0) (by kernel_rfl) (by kernel_rfl) ?_ ?_
      · rintro ix hx f ww hS hd
        have ka := k0.kept hS
        have kb := k1.kept hS
        have kc := k2.kept hS
        have a0_ := ka.cell (i := 0) rfl
        have a1_ := ka.cell (i := 1) rfl
        have a2_ := ka.cell (i := 2) rfl
        have a3_ := ka.cell (i := 3) rfl
        have b0_ := kb.cell (i := 0) rfl
        have b1_ := kb.cell (i := 1) rfl
        have b2_ := kb.cell (i := 2) rfl
        have b3_ := kb.cell (i := 3) rfl
        have c0_ := kc.cell (i := 0) rfl
        have c1_ := kc.cell (i := 1) rfl
        have c2_ := kc.cell (i := 2) rfl
        have c3_ := kc.cell (i := 3) rfl
        have kx := kX.kept hS
        have x0_ := kx.cell (i := 0) rfl
        have x1_ := kx.cell (i := 1) rfl
        have x2_ := kx.cell (i := 2) rfl
        rcases ix with _ | _ | _ | _ | _ | _ | _ | ix
        · refine wpOp_list rfl ?_
          simp only [tmOf, putAll, List.map_cons, List.map_nil, List.setIfInBounds_toArray, List.set_cons_zero, List.set_cons_succ]
          go_wp2
          simp [upd, Below.refl]
        · refine wpOp_list rfl ?_
          simp only [tmOf, putAll, List.map_cons, List.map_nil, List.setIfInBounds_toArray, List.set_cons_zero, List.set_cons_succ]
          go_wp2
          simp [upd, Below.refl]
        · have g1 : f 1 = .agg #[.int .i64 r.a, .int .i64 r.b, .int .i64 r.c, .int .i64 r.d] := hd 1 (by kernel_rfl)
          refine wpOp_list rfl ?_
          simp only [tmOf, putAll, List.map_cons, List.map_nil, List.setIfInBounds_toArray, List.set_cons_zero, List.set_cons_succ]
          go_wp2_with fail
          refine (HN.out _).mono ?_
          rintro e' wf ⟨rfl, hbf⟩
          go_wp2_with fail
          simp [upd, g1, hbf]
        · have g0 : f 0 = .agg #[.int .i64 x.a, .int .i64 x.b, .int .i64 x.c] := hd 0 (by kernel_rfl)
          have g2 : f 2 = .agg #[.int .i64 n.a, .int .i64 n.b, .int .i64 n.c] := hd 2 (by kernel_rfl)
          refine wpOp_list rfl ?_
          simp only [tmOf, putAll, List.map_cons, List.map_nil, List.setIfInBounds_toArray, List.set_cons_zero, List.set_cons_succ]
          go_wp2_with fail
          refine (HT.out _).mono ?_
          rintro e' wf ⟨rfl, hbf⟩
          go_wp2_with fail
          simp [upd, g0, g2, hbf]
        · have g3 : f 3 = .int .i64 t := hd 3 (by kernel_rfl)
          refine wpOp_list rfl ?_
          simp only [tmOf, putAll, List.map_cons, List.map_nil, List.setIfInBounds_toArray, List.set_cons_zero, List.set_cons_succ]
          go_wp2_with fail
          refine (HS.out _).mono ?_
          rintro e' wf ⟨rfl, hbf⟩
          go_wp2_with fail
          simp [upd, g3, hbf]
        · have g4 : f 4 = .int .i64 s := hd 4 (by kernel_rfl)
          refine wpOp_list rfl ?_
          simp only [tmOf, putAll, List.map_cons, List.map_nil, List.setIfInBounds_toArray, List.set_cons_zero, List.set_cons_succ]
          go_wp2
          simp [upd, g4, Below.refl]
        · refine wpOp_list rfl ?_
          simp only [tmOf, putAll, List.map_cons, List.map_nil, List.setIfInBounds_toArray, List.set_cons_zero, List.set_cons_succ]
          go_wp2
          simp [upd, Below.refl]
        · simp only [List.length_cons, List.length_nil] at hx; omega
      · rintro f ww hS hd
        have g6 : f 5 = .int .i64 s := hd 5 (by decide)
        have g7 : f 6 = .int .i64 0 := hd 6 (by decide)
        simp only [tmOf, putAll, List.map_cons, List.map_nil, List.setIfInBounds_toArray, List.set_cons_zero, List.set_cons_succ]
        refine ‹∀ (a' : Act) (w' : World), Met _ a' w' → _› _ _ ?_
        go_meet
        case rel => exact ⟨g6, g7, hS⟩
    case rest =>
    obtain ⟨rfl, rfl, hbz⟩ := hcut
    go_wp2_with fail
    go_ret2
    exact ⟨rfl, hb.trans (hbz.mono hb.size)⟩
  · have hE1 : (E == 0) = false := by simp [h0]
    have hE2 : (E != 0) = true := by simp [h0]
    have hs0 := HBD.out h0
    have HS0 := Lib.hid hs0
    clear h0 hs0 HG HBD
    go_wp2_with fail
    go_ret2
    exact ⟨by rw [HS0.out]; rfl, hb⟩

end Go.Proofs.YtimkeblcdodfmaaGreat
