/-
  Parallel and alike planes: the reference's, and package plane's; What PlaneTells compares: plain.
-/
import Derived.Test.YthdhakpmhndbfaaK1
import Derived.Test.YthdhakpmhndbfaaK2
import Derived.Test.YthdhakpmhndbfaaK3
import Derived.Test.YthdhakpmhndbfaaK4
import Derived.Test.YthdhakpmhndbfaaK5
import Derived.Test.YthdhakpmhndbfaaK6
import Derived.Test.YthdhakpmhndbfaaK7
import Derived.Test.YthdhakpmhndbfaaK8
import Derived.Test.YthdhakpmhndbfaaK9
import Derived.Test.YthdhakpmhndbfaaK10
import Derived.Test.YthdhakpmhndbfaaK11
import Derived.Test.YthdhakpmhndbfaaK12
import Derived.Test.YthdhakpmhndbfaaK13
import Derived.Test.YthdhakpmhndbfaaK14
import Derived.Test.YthdhakpmhndbfaaK15
import Derived.Test.YthdhakpmhndbfaaK16
import Derived.Test.YthdhakpmhndbfaaK17
namespace Go.Proofs.Ythdhakpmhndbfaa
open Go.RowKit Go.Shelf
attribute [local go_sem] Oper.semAt_some

theorem eqVec0 (x y z : Int) (w : World) : (Op.equalIn 10000 53 (.agg #[.int .i64 x, .int .i64 y, .int .i64 z]) (.agg #[.int .i64 0, .int .i64 0, .int .i64 0])).run Try.prog w = .ok (decide (x = 0) && (decide (y = 0) && decide (z = 0))) w := by
  have u3 := Try.underlying2
  have a3 := Try.isAgg2
  have z3 := Try.sizeOf2
  rw [show (10000 : Nat) = 9999 + 1 from rfl, Op.equalIn]
  simp only [Sem.run_bind, run_underlying Try.underlying53, Result.andThen_ok]
  simp only [Std.Legacy.Range.forIn_eq_forIn_range', Std.Legacy.Range.size, Nat.sub_zero, Nat.add_sub_cancel, Nat.div_one, List.range'_succ, List.range'_zero, List.forIn_cons, List.forIn_nil]
  go_simp
  by_cases h1 : x = 0 <;> by_cases h2 : y = 0 <;> by_cases h3 : z = 0 <;> simp [h1, h2, h3]
theorem eqPlane_b {p q : V4} {b : Bool} (h : decide (p = q) = b) (w : World) : (Op.equalIn 10000 23 (.agg #[.int .i64 p.a, .int .i64 p.b, .int .i64 p.c, .int .i64 p.d]) (.agg #[.int .i64 q.a, .int .i64 q.b, .int .i64 q.c, .int .i64 q.d])).run Try.prog w = .ok b w := by rw [eqPlane, h]

set_option maxRecDepth 100000 in
set_option maxHeartbeats 8000000 in
theorem parallel3_any (p q : V4) (w : World) (hp : RightQ p) (hq : RightQ q) :
    Calls Try.prog 32 #[.agg #[.int .i64 p.a, .int .i64 p.b, .int .i64 p.c, .int .i64 p.d], .agg #[.int .i64 q.a, .int .i64 q.b, .int .i64 q.c, .int .i64 q.d]] w fun e w' => e = .returned (.bool (parB p.a p.b p.c q.a q.b q.c)) ∧ Below w.heap.size w w' := by
  have HNP := Lib.hid (fun W => normal3_any p.a p.b p.c p.d W)
  have HNQ := Lib.hid (fun W => normal3_any q.a q.b q.c q.d W)
  have hcr := fun W => cross3_any p.a p.b p.c q.a q.b q.c W hp.2.1 hp.2.2.1 hp.2.2.2.1 hq.2.1 hq.2.2.1 hq.2.2.2.1
  have hB : parB p.a p.b p.c q.a q.b q.c = (decide (p.b * q.c - p.c * q.b = 0) && (decide (p.c * q.a - p.a * q.c = 0) && decide (p.a * q.b - p.b * q.a = 0))) := by
    unfold parB
    rw [decide_eq_decide.2 (show p.b * q.c = p.c * q.b ↔ p.b * q.c - p.c * q.b = 0 by omega), decide_eq_decide.2 (show p.c * q.a = p.a * q.c ↔ p.c * q.a - p.a * q.c = 0 by omega), decide_eq_decide.2 (show p.a * q.b = p.b * q.a ↔ p.a * q.b - p.b * q.a = 0 by omega)]
  rw [hB]
  obtain ⟨u0, h0⟩ : ∃ u, p.b * q.c - p.c * q.b = u := ⟨_, rfl⟩
  obtain ⟨u1, h1⟩ : ∃ u, p.c * q.a - p.a * q.c = u := ⟨_, rfl⟩
  obtain ⟨u2, h2⟩ : ∃ u, p.a * q.b - p.b * q.a = u := ⟨_, rfl⟩
  rw [h0, h1, h2] at hcr
  rw [h0, h1, h2]
  have heq := fun W => eqVec0 u0 u1 u2 W
  obtain ⟨B, hBB⟩ : ∃ B, (decide (u0 = 0) && (decide (u1 = 0) && decide (u2 = 0))) = B := ⟨_, rfl⟩
  rw [hBB] at heq ⊢
  have HCR := Lib.hid hcr
  clear hcr hB h0 h1 h2 hBB hp hq
  obtain ⟨w1, hw1⟩ : ∃ w1, ((w.alloc (.cells #[.int .i64 p.a, .int .i64 p.b, .int .i64 p.c, .int .i64 p.d] 23)).alloc (.cells #[.int .i64 q.a, .int .i64 q.b, .int .i64 q.c, .int .i64 q.d] 23)) = w1 := ⟨_, rfl⟩
  have hb1 : Below w.heap.size w w1 := by rw [← hw1]; exact bw2 w _ _
  have k0 : Blk w1 w.heap.size #[.int .i64 p.a, .int .i64 p.b, .int .i64 p.c, .int .i64 p.d] 23 := by rw [← hw1]; exact (Blk.new w _ _).alloc _
  have k1 : Blk w1 (w.heap.size + 1) #[.int .i64 q.a, .int .i64 q.b, .int .i64 q.c, .int .i64 q.d] 23 := by rw [← hw1]; exact Blk.new' _ _ _ (by simp)
  go_enter Try.func32, Try.ntmps32
  go_upto_region 1 with fail
  go_cut [4] from 5 to 11 (fun v4 wx => v4 = .bool B ∧ Below w1.heap.size w1 wx)
  case first =>
    refine wp_region_pure' (fun ix => match ix with | 0 => .agg #[.int .i64 p.a, .int .i64 p.b, .int .i64 p.c, .int .i64 p.d] | 1 => .agg #[.int .i64 p.a, .int .i64 p.b, .int .i64 p.c] | 2 => .agg #[.int .i64 q.a, .int .i64 q.b, .int .i64 q.c, .int .i64 q.d] | 3 => .agg #[.int .i64 q.a, .int .i64 q.b, .int .i64 q.c] | 4 => .agg #[.int .i64 u0, .int .i64 u1, .int .i64 u2] | 5 => .agg #[.int .i64 0, .int .i64 0, .int .i64 0] | 6 => .bool B | _ => .bool B) (by kernel_rfl) (by kernel_rfl) ?_ ?_
    · rintro ix hx f ww hS hd
      have ka := k0.kept hS
      have kb := k1.kept hS
      have a0_ := ka.cell (i := 0) rfl
      have a1_ := ka.cell (i := 1) rfl
      have a2_ := ka.cell (i := 2) rfl
      have a3_ := ka.cell (i := 3) rfl
      have b0_ := kb.cell (i := 0) rfl
      have b1_ := kb.cell (i := 1) rfl
      have b2_ := kb.cell (i := 2) rfl
      have b3_ := kb.cell (i := 3) rfl
      rcases ix with _ | _ | _ | _ | _ | _ | _ | _ | ix
      · refine wpOp_list rfl ?_
        simp only [tmOf, putAll, List.map_cons, List.map_nil, List.setIfInBounds_toArray, List.set_cons_zero, List.set_cons_succ]
        go_wp2
        simp [upd, Below.refl]
      · have g0 : f 0 = .agg #[.int .i64 p.a, .int .i64 p.b, .int .i64 p.c, .int .i64 p.d] := hd 0 (by kernel_rfl)
        refine wpOp_list rfl ?_
        simp only [tmOf, putAll, List.map_cons, List.map_nil, List.setIfInBounds_toArray, List.set_cons_zero, List.set_cons_succ]
        go_wp2_with fail
        refine (HNP.out _).mono ?_
        rintro e' wf ⟨rfl, hbf⟩
        go_wp2_with fail
        simp [upd, g0, hbf]
      · refine wpOp_list rfl ?_
        simp only [tmOf, putAll, List.map_cons, List.map_nil, List.setIfInBounds_toArray, List.set_cons_zero, List.set_cons_succ]
        go_wp2
        simp [upd, Below.refl]
      · have g2 : f 2 = .agg #[.int .i64 q.a, .int .i64 q.b, .int .i64 q.c, .int .i64 q.d] := hd 2 (by kernel_rfl)
        refine wpOp_list rfl ?_
        simp only [tmOf, putAll, List.map_cons, List.map_nil, List.setIfInBounds_toArray, List.set_cons_zero, List.set_cons_succ]
        go_wp2_with fail
        refine (HNQ.out _).mono ?_
        rintro e' wf ⟨rfl, hbf⟩
        go_wp2_with fail
        simp [upd, g2, hbf]
      · have g1 : f 1 = .agg #[.int .i64 p.a, .int .i64 p.b, .int .i64 p.c] := hd 1 (by kernel_rfl)
        have g3 : f 3 = .agg #[.int .i64 q.a, .int .i64 q.b, .int .i64 q.c] := hd 3 (by kernel_rfl)
        refine wpOp_list rfl ?_
        simp only [tmOf, putAll, List.map_cons, List.map_nil, List.setIfInBounds_toArray, List.set_cons_zero, List.set_cons_succ]
        go_wp2_with fail
        refine (HCR.out _).mono ?_
        rintro e' wf ⟨rfl, hbf⟩
        go_wp2_with fail
        simp [upd, g1, g3, hbf]
      · refine wpOp_list rfl ?_
        simp only [tmOf, putAll, List.map_cons, List.map_nil, List.setIfInBounds_toArray, List.set_cons_zero, List.set_cons_succ]
        go_wp2
        simp [upd, Below.refl]
      · have g4 : f 4 = .agg #[.int .i64 u0, .int .i64 u1, .int .i64 u2] := hd 4 (by kernel_rfl)
        have g5 : f 5 = .agg #[.int .i64 0, .int .i64 0, .int .i64 0] := hd 5 (by kernel_rfl)
        refine wpOp_list rfl ?_
        simp only [tmOf, putAll, List.map_cons, List.map_nil, List.setIfInBounds_toArray, List.set_cons_zero, List.set_cons_succ]
        go_wp2
        simp [upd, g4, g5, Below.refl]
      · have g6 : f 6 = .bool B := hd 6 (by kernel_rfl)
        refine wpOp_list rfl ?_
        simp only [tmOf, putAll, List.map_cons, List.map_nil, List.setIfInBounds_toArray, List.set_cons_zero, List.set_cons_succ]
        go_wp2
        simp [upd, g6, Below.refl]
      · simp only [List.length_cons, List.length_nil] at hx; omega
    · rintro f ww hS hd
      have g7 : f 7 = .bool B := hd 7 (by decide)
      simp only [tmOf, putAll, List.map_cons, List.map_nil, List.setIfInBounds_toArray, List.set_cons_zero, List.set_cons_succ]
      refine ‹∀ (a' : Act) (w' : World), Met _ a' w' → _› _ _ ?_
      go_meet
      case rel => exact ⟨g7, hS⟩
  case rest =>
  obtain ⟨rfl, hb2⟩ := hcut
  go_wp2_with fail
  go_ret
  exact ⟨rfl, hb1.trans (hb2.mono hb1.size)⟩

/-- Whether two planes are equal or opposite. -/
def alikeB (p q : V4) : Bool := decide (p = q) || decide (p = oppN q)
theorem oppV_opp {q : V4} (h : RightQ q) : oppV q = oppN q := oppV_right h

set_option maxRecDepth 100000 in
set_option maxHeartbeats 8000000 in
theorem alike3_any (p q : V4) (w : World) (hq : RightQ q) :
    Calls Try.prog 33 #[.agg #[.int .i64 p.a, .int .i64 p.b, .int .i64 p.c, .int .i64 p.d], .agg #[.int .i64 q.a, .int .i64 q.b, .int .i64 q.c, .int .i64 q.d]] w fun e w' => e = .returned (.bool (alikeB p q)) ∧ Below w.heap.size w w' := by
  have hop : ∀ W, Calls Try.prog 17 #[.agg #[.int .i64 q.a, .int .i64 q.b, .int .i64 q.c, .int .i64 q.d]] W fun e w' => e = .returned (.agg #[.int .i64 (oppN q).a, .int .i64 (oppN q).b, .int .i64 (oppN q).c, .int .i64 (oppN q).d]) ∧ Below W.heap.size W w' := fun W => by rw [← oppV_opp hq]; exact opposite3_any q.a q.b q.c q.d W
  unfold alikeB
  obtain ⟨o, ho⟩ : ∃ o, oppN q = o := ⟨_, rfl⟩
  rw [ho] at hop ⊢
  have HOP := Lib.hid hop
  clear hop ho hq
  obtain ⟨w1, hw1⟩ : ∃ w1, ((w.alloc (.cells #[.int .i64 p.a, .int .i64 p.b, .int .i64 p.c, .int .i64 p.d] 23)).alloc (.cells #[.int .i64 q.a, .int .i64 q.b, .int .i64 q.c, .int .i64 q.d] 23)) = w1 := ⟨_, rfl⟩
  have hb1 : Below w.heap.size w w1 := by rw [← hw1]; exact bw2 w _ _
  have k0 : Blk w1 w.heap.size #[.int .i64 p.a, .int .i64 p.b, .int .i64 p.c, .int .i64 p.d] 23 := by rw [← hw1]; exact (Blk.new w _ _).alloc _
  have k1 : Blk w1 (w.heap.size + 1) #[.int .i64 q.a, .int .i64 q.b, .int .i64 q.c, .int .i64 q.d] 23 := by rw [← hw1]; exact Blk.new' _ _ _ (by simp)
  by_cases hpq : p = q
  · have heq := fun W => eqPlane_b (decide_eq_true hpq) W
    rw [decide_eq_true hpq, Bool.true_or]
    clear hpq
    go_enter Try.func33, Try.ntmps33
    go_upto_region 1 with fail
    go_cut [4] from 5 to 13 (fun v4 wx => v4 = .bool true ∧ Below w1.heap.size w1 wx)
    case first =>
      refine wp_region_pure' (fun ix => match ix with | 0 => .agg #[.int .i64 p.a, .int .i64 p.b, .int .i64 p.c, .int .i64 p.d] | 1 => .agg #[.int .i64 q.a, .int .i64 q.b, .int .i64 q.c, .int .i64 q.d] | 2 => .bool true | 3 => .bool true | 4 => undef | 5 => undef | 6 => undef | 7 => undef | 8 => .bool true | _ => .bool true) (by kernel_rfl) (by kernel_rfl) ?_ ?_
      · rintro ix hx f ww hS hd
        have ka := k0.kept hS
        have kb := k1.kept hS
        have a0_ := ka.cell (i := 0) rfl
        have a1_ := ka.cell (i := 1) rfl
        have a2_ := ka.cell (i := 2) rfl
        have a3_ := ka.cell (i := 3) rfl
        have b0_ := kb.cell (i := 0) rfl
        have b1_ := kb.cell (i := 1) rfl
        have b2_ := kb.cell (i := 2) rfl
        have b3_ := kb.cell (i := 3) rfl
        rcases ix with _ | _ | _ | _ | _ | _ | _ | _ | _ | _ | ix
        · refine wpOp_list rfl ?_
          simp only [tmOf, putAll, List.map_cons, List.map_nil, List.setIfInBounds_toArray, List.set_cons_zero, List.set_cons_succ]
          go_wp2
          simp [upd, Below.refl]
        · refine wpOp_list rfl ?_
          simp only [tmOf, putAll, List.map_cons, List.map_nil, List.setIfInBounds_toArray, List.set_cons_zero, List.set_cons_succ]
          go_wp2
          simp [upd, Below.refl]
        · have g0 : f 0 = .agg #[.int .i64 p.a, .int .i64 p.b, .int .i64 p.c, .int .i64 p.d] := hd 0 (by kernel_rfl)
          have g1 : f 1 = .agg #[.int .i64 q.a, .int .i64 q.b, .int .i64 q.c, .int .i64 q.d] := hd 1 (by kernel_rfl)
          refine wpOp_list rfl ?_
          simp only [tmOf, putAll, List.map_cons, List.map_nil, List.setIfInBounds_toArray, List.set_cons_zero, List.set_cons_succ]
          go_wp2
          simp [upd, g0, g1, Below.refl]
        · have g2 : f 2 = .bool true := hd 2 (by kernel_rfl)
          refine wpOp_list rfl ?_
          simp only [tmOf, putAll, List.map_cons, List.map_nil, List.setIfInBounds_toArray, List.set_cons_zero, List.set_cons_succ]
          go_wp2
          simp [upd, g2, Below.refl]
        · have g3 : f 3 = .bool true := hd 3 (by kernel_rfl)
          simp only [tmOf, putAll, List.map_cons, List.map_nil, List.setIfInBounds_toArray, List.set_cons_zero, List.set_cons_succ]
          refine wpOp_off rfl (unwanted_of (b := true) rfl rfl rfl (congrArg some g3)) ?_
          simp [tmOf, Act.put, putAll, upd, Below.refl]
        · have g3 : f 3 = .bool true := hd 3 (by kernel_rfl)
          simp only [tmOf, putAll, List.map_cons, List.map_nil, List.setIfInBounds_toArray, List.set_cons_zero, List.set_cons_succ]
          refine wpOp_off rfl (unwanted_of (b := true) rfl rfl rfl (congrArg some g3)) ?_
          simp [tmOf, Act.put, putAll, upd, Below.refl]
        · have g3 : f 3 = .bool true := hd 3 (by kernel_rfl)
          simp only [tmOf, putAll, List.map_cons, List.map_nil, List.setIfInBounds_toArray, List.set_cons_zero, List.set_cons_succ]
          refine wpOp_off rfl (unwanted_of (b := true) rfl rfl rfl (congrArg some g3)) ?_
          simp [tmOf, Act.put, putAll, upd, Below.refl]
        · have g3 : f 3 = .bool true := hd 3 (by kernel_rfl)
          simp only [tmOf, putAll, List.map_cons, List.map_nil, List.setIfInBounds_toArray, List.set_cons_zero, List.set_cons_succ]
          refine wpOp_off rfl (unwanted_of (b := true) rfl rfl rfl (congrArg some g3)) ?_
          simp [tmOf, Act.put, putAll, upd, Below.refl]
        · have g3 : f 3 = .bool true := hd 3 (by kernel_rfl)
          have g7 : f 7 = undef := hd 7 (by kernel_rfl)
          refine wpOp_list rfl ?_
          simp only [tmOf, putAll, List.map_cons, List.map_nil, List.setIfInBounds_toArray, List.set_cons_zero, List.set_cons_succ]
          go_wp2
          simp [upd, g3, g7, Below.refl]
        · have g8 : f 8 = .bool true := hd 8 (by kernel_rfl)
          refine wpOp_list rfl ?_
          simp only [tmOf, putAll, List.map_cons, List.map_nil, List.setIfInBounds_toArray, List.set_cons_zero, List.set_cons_succ]
          go_wp2
          simp [upd, g8, Below.refl]
        · simp only [List.length_cons, List.length_nil] at hx; omega
      · rintro f ww hS hd
        have g9 : f 9 = .bool true := hd 9 (by decide)
        simp only [tmOf, putAll, List.map_cons, List.map_nil, List.setIfInBounds_toArray, List.set_cons_zero, List.set_cons_succ]
        refine ‹∀ (a' : Act) (w' : World), Met _ a' w' → _› _ _ ?_
        go_meet
        case rel => exact ⟨g9, hS⟩
    case rest =>
    obtain ⟨rfl, hb2⟩ := hcut
    go_wp2_with fail
    go_ret
    exact ⟨rfl, hb1.trans (hb2.mono hb1.size)⟩
  · have heq := fun W => eqPlane_b (decide_eq_false hpq) W
    rw [decide_eq_false hpq, Bool.false_or]
    obtain ⟨B, hB⟩ : ∃ B, decide (p = o) = B := ⟨_, rfl⟩
    have heq2 := fun W => eqPlane_b hB W
    rw [hB]
    clear hpq hB
    go_enter Try.func33, Try.ntmps33
    go_upto_region 1 with fail
    go_cut [4] from 5 to 13 (fun v4 wx => v4 = .bool B ∧ Below w1.heap.size w1 wx)
    case first =>
      refine wp_region_pure' (fun ix => match ix with | 0 => .agg #[.int .i64 p.a, .int .i64 p.b, .int .i64 p.c, .int .i64 p.d] | 1 => .agg #[.int .i64 q.a, .int .i64 q.b, .int .i64 q.c, .int .i64 q.d] | 2 => .bool false | 3 => .bool false | 4 => .agg #[.int .i64 p.a, .int .i64 p.b, .int .i64 p.c, .int .i64 p.d] | 5 => .agg #[.int .i64 q.a, .int .i64 q.b, .int .i64 q.c, .int .i64 q.d] | 6 => .agg #[.int .i64 o.a, .int .i64 o.b, .int .i64 o.c, .int .i64 o.d] | 7 => .bool B | 8 => .bool B | _ => .bool B) (by kernel_rfl) (by kernel_rfl) ?_ ?_
      · rintro ix hx f ww hS hd
        have ka := k0.kept hS
        have kb := k1.kept hS
        have a0_ := ka.cell (i := 0) rfl
        have a1_ := ka.cell (i := 1) rfl
        have a2_ := ka.cell (i := 2) rfl
        have a3_ := ka.cell (i := 3) rfl
        have b0_ := kb.cell (i := 0) rfl
        have b1_ := kb.cell (i := 1) rfl
        have b2_ := kb.cell (i := 2) rfl
        have b3_ := kb.cell (i := 3) rfl
        rcases ix with _ | _ | _ | _ | _ | _ | _ | _ | _ | _ | ix
        · refine wpOp_list rfl ?_
          simp only [tmOf, putAll, List.map_cons, List.map_nil, List.setIfInBounds_toArray, List.set_cons_zero, List.set_cons_succ]
          go_wp2
          simp [upd, Below.refl]
        · refine wpOp_list rfl ?_
          simp only [tmOf, putAll, List.map_cons, List.map_nil, List.setIfInBounds_toArray, List.set_cons_zero, List.set_cons_succ]
          go_wp2
          simp [upd, Below.refl]
        · have g0 : f 0 = .agg #[.int .i64 p.a, .int .i64 p.b, .int .i64 p.c, .int .i64 p.d] := hd 0 (by kernel_rfl)
          have g1 : f 1 = .agg #[.int .i64 q.a, .int .i64 q.b, .int .i64 q.c, .int .i64 q.d] := hd 1 (by kernel_rfl)
          refine wpOp_list rfl ?_
          simp only [tmOf, putAll, List.map_cons, List.map_nil, List.setIfInBounds_toArray, List.set_cons_zero, List.set_cons_succ]
          go_wp2
          simp [upd, g0, g1, Below.refl]
        · have g2 : f 2 = .bool false := hd 2 (by kernel_rfl)
          refine wpOp_list rfl ?_
          simp only [tmOf, putAll, List.map_cons, List.map_nil, List.setIfInBounds_toArray, List.set_cons_zero, List.set_cons_succ]
          go_wp2
          simp [upd, g2, Below.refl]
        · have g3 : f 3 = .bool false := hd 3 (by kernel_rfl)
          simp only [tmOf, putAll, List.map_cons, List.map_nil, List.setIfInBounds_toArray, List.set_cons_zero, List.set_cons_succ]
          refine wpOp_on rfl (wanted_of (b := false) rfl rfl rfl (congrArg some g3)) ?_
          go_wp2
          simp [upd, g3, Below.refl]
        · have g3 : f 3 = .bool false := hd 3 (by kernel_rfl)
          simp only [tmOf, putAll, List.map_cons, List.map_nil, List.setIfInBounds_toArray, List.set_cons_zero, List.set_cons_succ]
          refine wpOp_on rfl (wanted_of (b := false) rfl rfl rfl (congrArg some g3)) ?_
          go_wp2
          simp [upd, g3, Below.refl]
        · have g5 : f 5 = .agg #[.int .i64 q.a, .int .i64 q.b, .int .i64 q.c, .int .i64 q.d] := hd 5 (by kernel_rfl)
          have g3 : f 3 = .bool false := hd 3 (by kernel_rfl)
          simp only [tmOf, putAll, List.map_cons, List.map_nil, List.setIfInBounds_toArray, List.set_cons_zero, List.set_cons_succ]
          refine wpOp_on rfl (wanted_of (b := false) rfl rfl rfl (congrArg some g3)) ?_
          go_wp2_with fail
          refine (HOP.out _).mono ?_
          rintro e' wf ⟨rfl, hbf⟩
          go_wp2_with fail
          simp [upd, g5, g3, hbf]
        · have g4 : f 4 = .agg #[.int .i64 p.a, .int .i64 p.b, .int .i64 p.c, .int .i64 p.d] := hd 4 (by kernel_rfl)
          have g6 : f 6 = .agg #[.int .i64 o.a, .int .i64 o.b, .int .i64 o.c, .int .i64 o.d] := hd 6 (by kernel_rfl)
          have g3 : f 3 = .bool false := hd 3 (by kernel_rfl)
          simp only [tmOf, putAll, List.map_cons, List.map_nil, List.setIfInBounds_toArray, List.set_cons_zero, List.set_cons_succ]
          refine wpOp_on rfl (wanted_of (b := false) rfl rfl rfl (congrArg some g3)) ?_
          go_wp2
          simp [upd, g4, g6, g3, Below.refl]
        · have g3 : f 3 = .bool false := hd 3 (by kernel_rfl)
          have g7 : f 7 = .bool B := hd 7 (by kernel_rfl)
          refine wpOp_list rfl ?_
          simp only [tmOf, putAll, List.map_cons, List.map_nil, List.setIfInBounds_toArray, List.set_cons_zero, List.set_cons_succ]
          go_wp2
          simp [upd, g3, g7, Below.refl]
        · have g8 : f 8 = .bool B := hd 8 (by kernel_rfl)
          refine wpOp_list rfl ?_
          simp only [tmOf, putAll, List.map_cons, List.map_nil, List.setIfInBounds_toArray, List.set_cons_zero, List.set_cons_succ]
          go_wp2
          simp [upd, g8, Below.refl]
        · simp only [List.length_cons, List.length_nil] at hx; omega
      · rintro f ww hS hd
        have g9 : f 9 = .bool B := hd 9 (by decide)
        simp only [tmOf, putAll, List.map_cons, List.map_nil, List.setIfInBounds_toArray, List.set_cons_zero, List.set_cons_succ]
        refine ‹∀ (a' : Act) (w' : World), Met _ a' w' → _› _ _ ?_
        go_meet
        case rel => exact ⟨g9, hS⟩
    case rest =>
    obtain ⟨rfl, hb2⟩ := hcut
    go_wp2_with fail
    go_ret
    exact ⟨rfl, hb1.trans (hb2.mono hb1.size)⟩

set_option maxRecDepth 100000 in
set_option maxHeartbeats 8000000 in
theorem alikeApi_any (a b c d e f g h : Int) (w : World) (hp : InV ⟨a, b, c, d⟩) (hq : InV ⟨e, f, g, h⟩) :
    Calls Try.prog 28 #[.agg #[.int .i64 a, .int .i64 b, .int .i64 c, .int .i64 d], .agg #[.int .i64 e, .int .i64 f, .int .i64 g, .int .i64 h]] w fun e' w' => e' = .returned (.tuple #[.bool ((decide (RightP a b c d) && decide (RightP e f g h)) && alikeB ⟨a, b, c, d⟩ ⟨e, f, g, h⟩), .int .i64 (both a b c d e f g h)]) ∧ Below w.heap.size w w' := by
  obtain ⟨w1, hw1⟩ : ∃ w1, ((w.alloc (.cells #[.int .i64 a, .int .i64 b, .int .i64 c, .int .i64 d] 23)).alloc (.cells #[.int .i64 e, .int .i64 f, .int .i64 g, .int .i64 h] 23)) = w1 := ⟨_, rfl⟩
  have hb1 : Below w.heap.size w w1 := by rw [← hw1]; exact bw2 w _ _
  have k0 : Blk w1 w.heap.size #[.int .i64 a, .int .i64 b, .int .i64 c, .int .i64 d] 23 := by rw [← hw1]; exact (Blk.new w _ _).alloc _
  have k1 : Blk w1 (w.heap.size + 1) #[.int .i64 e, .int .i64 f, .int .i64 g, .int .i64 h] 23 := by rw [← hw1]; exact Blk.new' _ _ _ (by simp)
  have c0 := k0.cell (i := 0) rfl
  have c1 := k0.cell (i := 1) rfl
  have c2 := k0.cell (i := 2) rfl
  have c3 := k0.cell (i := 3) rfl
  have d0 := k1.cell (i := 0) rfl
  have d1 := k1.cell (i := 1) rfl
  have d2 := k1.cell (i := 2) rfl
  have d3 := k1.cell (i := 3) rfl
  obtain ⟨w2, hw2⟩ : ∃ w2, w1.alloc (.cells #[.int .i64 a, .int .i64 b, .int .i64 c, .int .i64 d, .int .i64 e, .int .i64 f, .int .i64 g, .int .i64 h] 23) = w2 := ⟨_, rfl⟩
  have hr2 : RdV w2 (some ⟨w1.heap.size, 0, none⟩) [⟨a, b, c, d⟩, ⟨e, f, g, h⟩] := by rw [← hw2]; exact planes2 w1 a b c d e f g h _
  have hb2 : Below w1.heap.size w1 w2 := by rw [← hw2]; exact (Below.refl _ w1).alloc (Nat.le_refl _) _
  have hpl := planes_any (some ⟨w1.heap.size, 0, none⟩) 2 2 [⟨a, b, c, d⟩, ⟨e, f, g, h⟩] w2 rfl (by decide) hr2 (by intro q hq'; simp at hq'; rcases hq' with rfl | rfl; exact hp; exact hq)
  have hall : ([⟨a, b, c, d⟩, ⟨e, f, g, h⟩] : List V4).all (fun q => decide (RightP q.a q.b q.c q.d)) = (decide (RightP a b c d) && decide (RightP e f g h)) := by simp
  rw [hall] at hpl
  have hbd : (decide (RightP a b c d) && decide (RightP e f g h)) = true → RightP a b c d ∧ RightP e f g h := fun hh => by simpa using hh
  unfold both
  obtain ⟨t, ht⟩ : ∃ t, (decide (RightP a b c d) && decide (RightP e f g h)) = t := ⟨_, rfl⟩
  rw [ht] at hpl hbd ⊢
  have HP := Lib.hid hpl
  have HBD := Lib.hid hbd
  clear hpl hall hr2 hp hq hbd ht
  obtain ⟨R, hR⟩ : ∃ R, alikeB ⟨a, b, c, d⟩ ⟨e, f, g, h⟩ = R := ⟨_, rfl⟩
  rw [hR]
  have HR := Lib.hid hR
  clear hR
  go_enter Try.func28, Try.ntmps28
  go_wp2_with fail
  refine HP.out.mono ?_
  rintro e' w3 ⟨v, rfl, hv, hb3⟩
  have hb13 := hb2.trans (hb3.mono hb2.size)
  obtain ⟨gf, caps, rfl, _⟩ := id hv
  obtain ⟨w4, hw4⟩ : ∃ w4, w3.alloc (.cells #[.func (.func gf) #[] caps] 70) = w4 := ⟨_, rfl⟩
  have hr4 : RdC w4 (some ⟨w3.heap.size, 0, none⟩) [errE t 30] := by rw [← hw4]; exact checks1 w3 _ _ _ hv
  have hb14 : Below w1.heap.size w1 w4 := by rw [← hw4]; exact hb13.alloc hb13.size _
  have hf := first_any (some ⟨w3.heap.size, 0, none⟩) 1 1 [errE t 30] w4 rfl (by decide) hr4
  rw [firstE_one] at hf
  have HF := Lib.hid hf
  clear hf hr4 hv
  go_wp2_with fail
  refine HF.out.mono ?_
  rintro e' w5 ⟨rfl, hb5⟩
  have hb15 := hb14.trans (hb5.mono hb14.size)
  have hb5' := hb1.trans (hb15.mono hb1.size)
  have k0 := k0.kept hb15
  have k1 := k1.kept hb15
  have c0 := k0.cell (i := 0) rfl
  have c1 := k0.cell (i := 1) rfl
  have c2 := k0.cell (i := 2) rfl
  have c3 := k0.cell (i := 3) rfl
  have d0 := k1.cell (i := 0) rfl
  have d1 := k1.cell (i := 1) rfl
  have d2 := k1.cell (i := 2) rfl
  have d3 := k1.cell (i := 3) rfl
  clear hw1 hw2 hw4 hb2 hb3 hb13 hb14 hb15 hb5
  cases t
  · rw [show errE false 30 = 30 from rfl]
    go_wp2_with fail
    go_ret2
    exact ⟨rfl, hb5'⟩
  · rw [show errE true 30 = 0 from rfl]
    have hqr := (HBD.out rfl).2
    have hop := fun W => opposite_any e f g h W hqr
    have HOP := Lib.hid hop
    clear hop hqr HBD
    by_cases hpq : (⟨a, b, c, d⟩ : V4) = ⟨e, f, g, h⟩
    · have heq := fun W => eqPlane_b (decide_eq_true hpq) W
      have hal : alikeB ⟨a, b, c, d⟩ ⟨e, f, g, h⟩ = true := by unfold alikeB; rw [decide_eq_true hpq, Bool.true_or]
      have HE := Lib.hid (HR.out.symm.trans hal)
      clear hpq hal
      dsimp only at heq
      go_upto_region 4 with fail
      go_cut [4, 5] from 16 to 24 (fun v4 v5 wx => v4 = .bool true ∧ v5 = .int .i64 0 ∧ Below w5.heap.size w5 wx)
      case first =>
        refine wp_region_pure' (fun ix => match ix with | 0 => .agg #[.int .i64 a, .int .i64 b, .int .i64 c, .int .i64 d] | 1 => .agg #[.int .i64 e, .int .i64 f, .int .i64 g, .int .i64 h] | 2 => .bool true | 3 => .bool true | 4 => undef | 5 => undef | 6 => undef | 7 => undef | 8 => .bool true | 9 => .bool true | _ => .int .i64 0) (by kernel_rfl) (by kernel_rfl) ?_ ?_
        · rintro ix hx ff ww hS hd
          have ka := k0.kept hS
          have kb := k1.kept hS
          have a0_ := ka.cell (i := 0) rfl
          have a1_ := ka.cell (i := 1) rfl
          have a2_ := ka.cell (i := 2) rfl
          have a3_ := ka.cell (i := 3) rfl
          have b0_ := kb.cell (i := 0) rfl
          have b1_ := kb.cell (i := 1) rfl
          have b2_ := kb.cell (i := 2) rfl
          have b3_ := kb.cell (i := 3) rfl
          rcases ix with _ | _ | _ | _ | _ | _ | _ | _ | _ | _ | _ | ix
          · refine wpOp_list rfl ?_
            simp only [tmOf, putAll, List.map_cons, List.map_nil, List.setIfInBounds_toArray, List.set_cons_zero, List.set_cons_succ]
            go_wp2
            simp [upd, Below.refl]
          · refine wpOp_list rfl ?_
            simp only [tmOf, putAll, List.map_cons, List.map_nil, List.setIfInBounds_toArray, List.set_cons_zero, List.set_cons_succ]
            go_wp2
            simp [upd, Below.refl]
          · have g0 : ff 0 = .agg #[.int .i64 a, .int .i64 b, .int .i64 c, .int .i64 d] := hd 0 (by kernel_rfl)
            have g1 : ff 1 = .agg #[.int .i64 e, .int .i64 f, .int .i64 g, .int .i64 h] := hd 1 (by kernel_rfl)
            refine wpOp_list rfl ?_
            simp only [tmOf, putAll, List.map_cons, List.map_nil, List.setIfInBounds_toArray, List.set_cons_zero, List.set_cons_succ]
            go_wp2
            simp [upd, g0, g1, Below.refl]
          · have g2 : ff 2 = .bool true := hd 2 (by kernel_rfl)
            refine wpOp_list rfl ?_
            simp only [tmOf, putAll, List.map_cons, List.map_nil, List.setIfInBounds_toArray, List.set_cons_zero, List.set_cons_succ]
            go_wp2
            simp [upd, g2, Below.refl]
          · have g3 : ff 3 = .bool true := hd 3 (by kernel_rfl)
            simp only [tmOf, putAll, List.map_cons, List.map_nil, List.setIfInBounds_toArray, List.set_cons_zero, List.set_cons_succ]
            refine wpOp_off rfl (unwanted_of (b := true) rfl rfl rfl (congrArg some g3)) ?_
            simp [tmOf, Act.put, putAll, upd, Below.refl]
          · have g3 : ff 3 = .bool true := hd 3 (by kernel_rfl)
            simp only [tmOf, putAll, List.map_cons, List.map_nil, List.setIfInBounds_toArray, List.set_cons_zero, List.set_cons_succ]
            refine wpOp_off rfl (unwanted_of (b := true) rfl rfl rfl (congrArg some g3)) ?_
            simp [tmOf, Act.put, putAll, upd, Below.refl]
          · have g3 : ff 3 = .bool true := hd 3 (by kernel_rfl)
            simp only [tmOf, putAll, List.map_cons, List.map_nil, List.setIfInBounds_toArray, List.set_cons_zero, List.set_cons_succ]
            refine wpOp_off rfl (unwanted_of (b := true) rfl rfl rfl (congrArg some g3)) ?_
            simp [tmOf, Act.put, putAll, upd, Below.refl]
          · have g3 : ff 3 = .bool true := hd 3 (by kernel_rfl)
            simp only [tmOf, putAll, List.map_cons, List.map_nil, List.setIfInBounds_toArray, List.set_cons_zero, List.set_cons_succ]
            refine wpOp_off rfl (unwanted_of (b := true) rfl rfl rfl (congrArg some g3)) ?_
            simp [tmOf, Act.put, putAll, upd, Below.refl]
          · have g3 : ff 3 = .bool true := hd 3 (by kernel_rfl)
            have g7 : ff 7 = undef := hd 7 (by kernel_rfl)
            refine wpOp_list rfl ?_
            simp only [tmOf, putAll, List.map_cons, List.map_nil, List.setIfInBounds_toArray, List.set_cons_zero, List.set_cons_succ]
            go_wp2
            simp [upd, g3, g7, Below.refl]
          · have g8 : ff 8 = .bool true := hd 8 (by kernel_rfl)
            refine wpOp_list rfl ?_
            simp only [tmOf, putAll, List.map_cons, List.map_nil, List.setIfInBounds_toArray, List.set_cons_zero, List.set_cons_succ]
            go_wp2
            simp [upd, g8, Below.refl]
          · refine wpOp_list rfl ?_
            simp only [tmOf, putAll, List.map_cons, List.map_nil, List.setIfInBounds_toArray, List.set_cons_zero, List.set_cons_succ]
            go_wp2
            simp [upd, Below.refl]
          · simp only [List.length_cons, List.length_nil] at hx; omega
        · rintro ff ww hS hd
          have g9 : ff 9 = .bool true := hd 9 (by decide)
          have g10 : ff 10 = .int .i64 0 := hd 10 (by decide)
          simp only [tmOf, putAll, List.map_cons, List.map_nil, List.setIfInBounds_toArray, List.set_cons_zero, List.set_cons_succ]
          refine ‹∀ (a' : Act) (w' : World), Met _ a' w' → _› _ _ ?_
          go_meet
          case rel => exact ⟨g9, g10, hS⟩
      case rest =>
      obtain ⟨rfl, rfl, hb6⟩ := hcut
      go_wp2_with fail
      go_ret2
      exact ⟨by rw [HE.out]; rfl, hb5'.trans (hb6.mono hb5'.size)⟩
    · have heq := fun W => eqPlane_b (decide_eq_false hpq) W
      obtain ⟨B, hB⟩ : ∃ B, decide ((⟨a, b, c, d⟩ : V4) = ⟨-e, -f, -g, -h⟩) = B := ⟨_, rfl⟩
      have heq2 := fun W => eqPlane_b hB W
      have hal : alikeB ⟨a, b, c, d⟩ ⟨e, f, g, h⟩ = B := by unfold alikeB; rw [decide_eq_false hpq, Bool.false_or]; exact hB
      have HE := Lib.hid (HR.out.symm.trans hal)
      clear hpq hal hB
      dsimp only at heq heq2
      go_upto_region 4 with fail
      go_cut [4, 5] from 16 to 24 (fun v4 v5 wx => v4 = .bool B ∧ v5 = .int .i64 0 ∧ Below w5.heap.size w5 wx)
      case first =>
        refine wp_region_pure' (fun ix => match ix with | 0 => .agg #[.int .i64 a, .int .i64 b, .int .i64 c, .int .i64 d] | 1 => .agg #[.int .i64 e, .int .i64 f, .int .i64 g, .int .i64 h] | 2 => .bool false | 3 => .bool false | 4 => .agg #[.int .i64 a, .int .i64 b, .int .i64 c, .int .i64 d] | 5 => .agg #[.int .i64 e, .int .i64 f, .int .i64 g, .int .i64 h] | 6 => .agg #[.int .i64 (-e), .int .i64 (-f), .int .i64 (-g), .int .i64 (-h)] | 7 => .bool B | 8 => .bool B | 9 => .bool B | _ => .int .i64 0) (by kernel_rfl) (by kernel_rfl) ?_ ?_
        · rintro ix hx ff ww hS hd
          have ka := k0.kept hS
          have kb := k1.kept hS
          have a0_ := ka.cell (i := 0) rfl
          have a1_ := ka.cell (i := 1) rfl
          have a2_ := ka.cell (i := 2) rfl
          have a3_ := ka.cell (i := 3) rfl
          have b0_ := kb.cell (i := 0) rfl
          have b1_ := kb.cell (i := 1) rfl
          have b2_ := kb.cell (i := 2) rfl
          have b3_ := kb.cell (i := 3) rfl
          rcases ix with _ | _ | _ | _ | _ | _ | _ | _ | _ | _ | _ | ix
          · refine wpOp_list rfl ?_
            simp only [tmOf, putAll, List.map_cons, List.map_nil, List.setIfInBounds_toArray, List.set_cons_zero, List.set_cons_succ]
            go_wp2
            simp [upd, Below.refl]
          · refine wpOp_list rfl ?_
            simp only [tmOf, putAll, List.map_cons, List.map_nil, List.setIfInBounds_toArray, List.set_cons_zero, List.set_cons_succ]
            go_wp2
            simp [upd, Below.refl]
          · have g0 : ff 0 = .agg #[.int .i64 a, .int .i64 b, .int .i64 c, .int .i64 d] := hd 0 (by kernel_rfl)
            have g1 : ff 1 = .agg #[.int .i64 e, .int .i64 f, .int .i64 g, .int .i64 h] := hd 1 (by kernel_rfl)
            refine wpOp_list rfl ?_
            simp only [tmOf, putAll, List.map_cons, List.map_nil, List.setIfInBounds_toArray, List.set_cons_zero, List.set_cons_succ]
            go_wp2
            simp [upd, g0, g1, Below.refl]
          · have g2 : ff 2 = .bool false := hd 2 (by kernel_rfl)
            refine wpOp_list rfl ?_
            simp only [tmOf, putAll, List.map_cons, List.map_nil, List.setIfInBounds_toArray, List.set_cons_zero, List.set_cons_succ]
            go_wp2
            simp [upd, g2, Below.refl]
          · have g3 : ff 3 = .bool false := hd 3 (by kernel_rfl)
            simp only [tmOf, putAll, List.map_cons, List.map_nil, List.setIfInBounds_toArray, List.set_cons_zero, List.set_cons_succ]
            refine wpOp_on rfl (wanted_of (b := false) rfl rfl rfl (congrArg some g3)) ?_
            go_wp2
            simp [upd, g3, Below.refl]
          · have g3 : ff 3 = .bool false := hd 3 (by kernel_rfl)
            simp only [tmOf, putAll, List.map_cons, List.map_nil, List.setIfInBounds_toArray, List.set_cons_zero, List.set_cons_succ]
            refine wpOp_on rfl (wanted_of (b := false) rfl rfl rfl (congrArg some g3)) ?_
            go_wp2
            simp [upd, g3, Below.refl]
          · have g5 : ff 5 = .agg #[.int .i64 e, .int .i64 f, .int .i64 g, .int .i64 h] := hd 5 (by kernel_rfl)
            have g3 : ff 3 = .bool false := hd 3 (by kernel_rfl)
            simp only [tmOf, putAll, List.map_cons, List.map_nil, List.setIfInBounds_toArray, List.set_cons_zero, List.set_cons_succ]
            refine wpOp_on rfl (wanted_of (b := false) rfl rfl rfl (congrArg some g3)) ?_
            go_wp2_with fail
            refine (HOP.out _).mono ?_
            rintro e' wf ⟨rfl, hbf⟩
            go_wp2_with fail
            simp [upd, g5, g3, hbf]
          · have g4 : ff 4 = .agg #[.int .i64 a, .int .i64 b, .int .i64 c, .int .i64 d] := hd 4 (by kernel_rfl)
            have g6 : ff 6 = .agg #[.int .i64 (-e), .int .i64 (-f), .int .i64 (-g), .int .i64 (-h)] := hd 6 (by kernel_rfl)
            have g3 : ff 3 = .bool false := hd 3 (by kernel_rfl)
            simp only [tmOf, putAll, List.map_cons, List.map_nil, List.setIfInBounds_toArray, List.set_cons_zero, List.set_cons_succ]
            refine wpOp_on rfl (wanted_of (b := false) rfl rfl rfl (congrArg some g3)) ?_
            go_wp2
            simp [upd, g4, g6, g3, Below.refl]
          · have g3 : ff 3 = .bool false := hd 3 (by kernel_rfl)
            have g7 : ff 7 = .bool B := hd 7 (by kernel_rfl)
            refine wpOp_list rfl ?_
            simp only [tmOf, putAll, List.map_cons, List.map_nil, List.setIfInBounds_toArray, List.set_cons_zero, List.set_cons_succ]
            go_wp2
            simp [upd, g3, g7, Below.refl]
          · have g8 : ff 8 = .bool B := hd 8 (by kernel_rfl)
            refine wpOp_list rfl ?_
            simp only [tmOf, putAll, List.map_cons, List.map_nil, List.setIfInBounds_toArray, List.set_cons_zero, List.set_cons_succ]
            go_wp2
            simp [upd, g8, Below.refl]
          · refine wpOp_list rfl ?_
            simp only [tmOf, putAll, List.map_cons, List.map_nil, List.setIfInBounds_toArray, List.set_cons_zero, List.set_cons_succ]
            go_wp2
            simp [upd, Below.refl]
          · simp only [List.length_cons, List.length_nil] at hx; omega
        · rintro ff ww hS hd
          have g9 : ff 9 = .bool B := hd 9 (by decide)
          have g10 : ff 10 = .int .i64 0 := hd 10 (by decide)
          simp only [tmOf, putAll, List.map_cons, List.map_nil, List.setIfInBounds_toArray, List.set_cons_zero, List.set_cons_succ]
          refine ‹∀ (a' : Act) (w' : World), Met _ a' w' → _› _ _ ?_
          go_meet
          case rel => exact ⟨g9, g10, hS⟩
      case rest =>
      obtain ⟨rfl, rfl, hb6⟩ := hcut
      go_wp2_with fail
      go_ret2
      exact ⟨by rw [HE.out]; rfl, hb5'.trans (hb6.mono hb5'.size)⟩

end Go.Proofs.Ythdhakpmhndbfaa

namespace Go.Proofs.Ythdhakpmhndbfaa
open Go.RowKit Go.Shelf

def dotN (p q : V4) : Int := p.a * q.a + p.b * q.b + p.c * q.c
theorem both_t {p q : V4} (h1 : RightQ p) (h2 : RightQ q) : both p.a p.b p.c p.d q.a q.b q.c q.d = 0 := by
  unfold both; rw [decide_eq_true (show RightP p.a p.b p.c p.d from h1), decide_eq_true (show RightP q.a q.b q.c q.d from h2)]; rfl
theorem both_bt {p q : V4} (h1 : RightQ p) (h2 : RightQ q) : (decide (RightP p.a p.b p.c p.d) && decide (RightP q.a q.b q.c q.d)) = true := by
  rw [decide_eq_true (show RightP p.a p.b p.c p.d from h1), decide_eq_true (show RightP q.a q.b q.c q.d from h2)]; rfl
theorem both_bf {p q : V4} (h : ¬ (RightQ p ∧ RightQ q)) : (decide (RightP p.a p.b p.c p.d) && decide (RightP q.a q.b q.c q.d)) = false := by
  by_cases h1 : RightQ p
  · rw [decide_eq_false (show ¬ RightP q.a q.b q.c q.d from fun h2 => h ⟨h1, h2⟩), Bool.and_false]
  · rw [decide_eq_false (show ¬ RightP p.a p.b p.c p.d from h1), Bool.false_and]
theorem both_f {p q : V4} (h : ¬ (RightQ p ∧ RightQ q)) : both p.a p.b p.c p.d q.a q.b q.c q.d = 30 := by
  unfold both; rw [both_bf h]; rfl
theorem par_t {p q : V4} (hp : InV p) (hq : InV q) (h1 : RightQ p) (h2 : RightQ q) (W : World) : Calls Try.prog 27 #[.agg #[.int .i64 p.a, .int .i64 p.b, .int .i64 p.c, .int .i64 p.d], .agg #[.int .i64 q.a, .int .i64 q.b, .int .i64 q.c, .int .i64 q.d]] W fun e w' => e = .returned (.tuple #[.bool (parB p.a p.b p.c q.a q.b q.c), .int .i64 0]) ∧ Below W.heap.size W w' := by
  have h := parallel_any p.a p.b p.c p.d q.a q.b q.c q.d W hp hq
  rw [both_t h1 h2, both_bt h1 h2, Bool.true_and] at h
  exact h
theorem par_f {p q : V4} (hp : InV p) (hq : InV q) (hn : ¬ (RightQ p ∧ RightQ q)) (W : World) : Calls Try.prog 27 #[.agg #[.int .i64 p.a, .int .i64 p.b, .int .i64 p.c, .int .i64 p.d], .agg #[.int .i64 q.a, .int .i64 q.b, .int .i64 q.c, .int .i64 q.d]] W fun e w' => e = .returned (.tuple #[.bool false, .int .i64 30]) ∧ Below W.heap.size W w' := by
  have h := parallel_any p.a p.b p.c p.d q.a q.b q.c q.d W hp hq
  rw [both_f hn, both_bf hn, Bool.false_and] at h
  exact h
theorem alike_t {p q : V4} (hp : InV p) (hq : InV q) (h1 : RightQ p) (h2 : RightQ q) (W : World) : Calls Try.prog 28 #[.agg #[.int .i64 p.a, .int .i64 p.b, .int .i64 p.c, .int .i64 p.d], .agg #[.int .i64 q.a, .int .i64 q.b, .int .i64 q.c, .int .i64 q.d]] W fun e w' => e = .returned (.tuple #[.bool (alikeB p q), .int .i64 0]) ∧ Below W.heap.size W w' := by
  have h := alikeApi_any p.a p.b p.c p.d q.a q.b q.c q.d W hp hq
  rw [both_t h1 h2, both_bt h1 h2, Bool.true_and] at h
  exact h
theorem alike_f {p q : V4} (hp : InV p) (hq : InV q) (hn : ¬ (RightQ p ∧ RightQ q)) (W : World) : Calls Try.prog 28 #[.agg #[.int .i64 p.a, .int .i64 p.b, .int .i64 p.c, .int .i64 p.d], .agg #[.int .i64 q.a, .int .i64 q.b, .int .i64 q.c, .int .i64 q.d]] W fun e w' => e = .returned (.tuple #[.bool false, .int .i64 30]) ∧ Below W.heap.size W w' := by
  have h := alikeApi_any p.a p.b p.c p.d q.a q.b q.c q.d W hp hq
  rw [both_f hn, both_bf hn, Bool.false_and] at h
  exact h
theorem turn_t {p q : V4} (hp : InV p) (hq : InV q) (h1 : RightQ p) (h2 : RightQ q) (W : World) : Calls Try.prog 29 #[.agg #[.int .i64 p.a, .int .i64 p.b, .int .i64 p.c, .int .i64 p.d], .agg #[.int .i64 q.a, .int .i64 q.b, .int .i64 q.c, .int .i64 q.d]] W fun e w' => e = .returned (.tuple #[.int .i64 (sgnI (dotN p q)), .int .i64 0]) ∧ Below W.heap.size W w' := by
  have h := turn_any p.a p.b p.c p.d q.a q.b q.c q.d W hp hq
  rw [both_t h1 h2, if_pos (both_bt h1 h2)] at h
  exact h
theorem turn_f {p q : V4} (hp : InV p) (hq : InV q) (hn : ¬ (RightQ p ∧ RightQ q)) (W : World) : Calls Try.prog 29 #[.agg #[.int .i64 p.a, .int .i64 p.b, .int .i64 p.c, .int .i64 p.d], .agg #[.int .i64 q.a, .int .i64 q.b, .int .i64 q.c, .int .i64 q.d]] W fun e w' => e = .returned (.tuple #[.int .i64 0, .int .i64 30]) ∧ Below W.heap.size W w' := by
  have h := turn_any p.a p.b p.c p.d q.a q.b q.c q.d W hp hq
  rw [both_f hn, both_bf hn, if_neg (by decide)] at h
  exact h
theorem cmp_t {p q : V4} (hp : InV p) (hq : InV q) (h1 : RightQ p) (h2 : RightQ q) (W : World) : Calls Try.prog 30 #[.agg #[.int .i64 p.a, .int .i64 p.b, .int .i64 p.c, .int .i64 p.d], .agg #[.int .i64 q.a, .int .i64 q.b, .int .i64 q.c, .int .i64 q.d]] W fun e w' => e = .returned (.tuple #[.int .i64 (cmpV p q), .int .i64 0]) ∧ Below W.heap.size W w' := by
  have h := cmpApi_any p.a p.b p.c p.d q.a q.b q.c q.d W hp hq
  rw [both_t h1 h2, if_pos (both_bt h1 h2)] at h
  exact h
theorem cmp_f {p q : V4} (hp : InV p) (hq : InV q) (hn : ¬ (RightQ p ∧ RightQ q)) (W : World) : Calls Try.prog 30 #[.agg #[.int .i64 p.a, .int .i64 p.b, .int .i64 p.c, .int .i64 p.d], .agg #[.int .i64 q.a, .int .i64 q.b, .int .i64 q.c, .int .i64 q.d]] W fun e w' => e = .returned (.tuple #[.int .i64 0, .int .i64 30]) ∧ Below W.heap.size W w' := by
  have h := cmpApi_any p.a p.b p.c p.d q.a q.b q.c q.d W hp hq
  rw [both_f hn, both_bf hn, if_neg (by decide)] at h
  exact h
theorem bad2 (p q : V4) (W : World) (b : Nat) (hp : InV p) (hq : InV q) (hR : RdV W (some ⟨b, 0, none⟩) [p, q]) : Calls Try.prog 10 #[.slice (some ⟨b, 0, none⟩) 2 2] W fun e w' => e = .returned (.int .i64 (errE (decide (RightQ p) && decide (RightQ q)) 30)) ∧ Below W.heap.size W w' := by
  have h := bad_any (some ⟨b, 0, none⟩) 2 2 [p, q] W rfl (by decide) hR (by intro x hx; simp at hx; rcases hx with rfl | rfl; exact hp; exact hq)
  simpa using h
theorem sign_b (x : Int) (W : World) : Calls Try.prog 34 #[.int .i64 x] W fun e w' => e = .returned (.int .i64 (sgnI x)) ∧ Below W.heap.size W w' := (sign3_any x W).mono fun e w' h => ⟨h.1, h.2 ▸ Below.refl _ _⟩
theorem dot_b {p q : V4} (h1 : RightQ p) (h2 : RightQ q) (W : World) : Calls Try.prog 35 #[.agg #[.int .i64 p.a, .int .i64 p.b, .int .i64 p.c], .agg #[.int .i64 q.a, .int .i64 q.b, .int .i64 q.c]] W fun e w' => e = .returned (.int .i64 (dotN p q)) ∧ Below W.heap.size W w' :=
  dot3_any p.a p.b p.c q.a q.b q.c W (by have := h1.2.1; omega) (by have := h1.2.2.1; omega) (by have := h1.2.2.2.1; omega) (by have := h2.2.1; omega) (by have := h2.2.2.1; omega) (by have := h2.2.2.2.1; omega)
theorem sgnCmp_swap (a b : Int) : sgnCmp b a = -sgnCmp a b := by
  rcases Int.lt_trichotomy a b with h | h | h
  · rw [sgnCmp_lt h, sgnCmp_gt h]; rfl
  · rw [h, sgnCmp_eq]; rfl
  · rw [sgnCmp_gt h, sgnCmp_lt h]
theorem ite_swap {a b : Int} {x y : Int} (h : ¬ a ≠ b → y = -x) : (if b ≠ a then sgnCmp b a else y) = -(if a ≠ b then sgnCmp a b else x) := by
  by_cases e : a = b
  · rw [if_neg (fun hh => hh e.symm), if_neg (fun hh => hh e)]; exact h (fun hh => hh e)
  · rw [if_pos (fun hh => e hh.symm), if_pos e, sgnCmp_swap]
theorem cmpV_swap (p q : V4) : cmpV q p = -cmpV p q := by
  unfold cmpV
  exact ite_swap fun _ => ite_swap fun _ => ite_swap fun _ => sgnCmp_swap ..
theorem sgnCmp_three (a b : Int) : sgnCmp a b = -1 ∨ sgnCmp a b = 0 ∨ sgnCmp a b = 1 := by
  unfold sgnCmp; split
  · exact .inl rfl
  · split
    · exact .inr (.inl rfl)
    · exact .inr (.inr rfl)
theorem cmpV_three (p q : V4) : cmpV p q = -1 ∨ cmpV p q = 0 ∨ cmpV p q = 1 := by
  unfold cmpV; split
  · exact sgnCmp_three ..
  · split
    · exact sgnCmp_three ..
    · split <;> exact sgnCmp_three ..
theorem zero_in : InV ⟨0, 0, 0, 0⟩ := by exact ⟨⟨by decide, by decide⟩, ⟨by decide, by decide⟩, ⟨by decide, by decide⟩, ⟨by decide, by decide⟩⟩
theorem makeP_in (x : V4) : InV (makeP x) := by
  unfold makeP
  split
  · exact zero_in
  · split
    · rename_i h
      exact right_in (show RightQ (lowQ x) from h)
    · exact zero_in

end Go.Proofs.Ythdhakpmhndbfaa
