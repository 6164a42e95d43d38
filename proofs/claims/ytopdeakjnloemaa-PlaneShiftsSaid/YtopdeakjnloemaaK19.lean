/-
  PlaneMakes: for every four numbers the law returns true, and the argument reads as it did. No condition.
-/
import Derived.Test.YtopdeakjnloemaaRows
import Derived.ProofKit
import Derived.Laws.IdiomArrays
import Derived.Test.YtopdeakjnloemaaK1
import Derived.Test.YtopdeakjnloemaaK2
import Derived.Test.YtopdeakjnloemaaK3
import Derived.Test.YtopdeakjnloemaaK4
import Derived.Test.YtopdeakjnloemaaK5
import Derived.Test.YtopdeakjnloemaaK6
import Derived.Test.YtopdeakjnloemaaK7
import Derived.Test.YtopdeakjnloemaaK8
import Derived.Test.YtopdeakjnloemaaK9
import Derived.Test.YtopdeakjnloemaaK10
import Derived.Test.YtopdeakjnloemaaK11
import Derived.Test.YtopdeakjnloemaaK12
import Derived.Test.YtopdeakjnloemaaK13
import Derived.Test.YtopdeakjnloemaaK14
import Derived.Test.YtopdeakjnloemaaK15
import Derived.Test.YtopdeakjnloemaaK16
import Derived.Test.YtopdeakjnloemaaK17
import Derived.Test.YtopdeakjnloemaaK18
namespace Go.Proofs.Ytopdeakjnloemaa
open Go Go.ChangeShapes Go.WideShapes Go.ChangeAt Go.WideMaps Go.WideElems Go.RowKit Go.ChangeMaps

theorem Try.ownP : ownKnob Try.prog.godebug = none := by kernel_rfl
theorem Try.laidOutP : laidOutB Try.prog = true := by kernel_rfl
theorem Try.cellsI64 : Try.prog.cellsOf 2 = 1 := by kernel_rfl

theorem inI64_wf {n : Int} (h : (Lit.int .i64 n).wf = true) : InI64 n := by
  unfold InI64
  have h1 : IntKind.i64.min = -9223372036854775808 := by decide
  have h2 : IntKind.i64.max = 9223372036854775807 := by decide
  simp [Lit.wf, h1, h2] at h
  omega

set_option maxRecDepth 100000 in
/-- Four int64 among the arguments. -/
theorem open_four {H : Type} {enc : TypeId × Value → H} {W : World} {base : Nat} {t : TypeId} {v : Value} {d : DataW H} {p : List MemPlace} {sp : Nat → Bool} (ht : Try.prog.underlying t = some (.array 4 2)) (hc : Try.prog.cellsOf t = 4) (hv : Value.okWide Try.prog W .any base t v) (hd : DataW.Trod enc Try.prog W 0 sp true t v d p) : ∃ q : V4, v = .agg #[.int .i64 q.a, .int .i64 q.b, .int .i64 q.c, .int .i64 q.d] ∧ InV q := by
  obtain ⟨cs, rfl, hsz, _⟩ : ∃ cs, v = .agg cs ∧ cs.size = Try.prog.cellsOf t ∧ Row.okWide Try.prog W .any base t cs := by
    simpa [Value.okWide, ht] using hv
  rw [hc] at hsz
  obtain ⟨l⟩ := cs
  have hl : l.length = 4 := hsz
  match l, hl with
  | [c0, c1, c2, c3], _ =>
    obtain ⟨fuel, hf⟩ := hd
    obtain ⟨z0, z1, z2, z3, m, _, hy0, hy1, hy2, hy3⟩ := trod_array4 ht Try.cellsI64 (by simpa [Value.cells] using hf)
    obtain ⟨x0, e0, _, w0⟩ := DataW.trod_int Try.underlying2 hy0
    obtain ⟨x1, e1, _, w1⟩ := DataW.trod_int Try.underlying2 hy1
    obtain ⟨x2, e2, _, w2⟩ := DataW.trod_int Try.underlying2 hy2
    obtain ⟨x3, e3, _, w3⟩ := DataW.trod_int Try.underlying2 hy3
    simp at e0 e1 e2 e3
    subst e0 e1 e2 e3
    exact ⟨⟨x0, x1, x2, x3⟩, rfl, inI64_wf w0, inI64_wf w1, inI64_wf w2, inI64_wf w3⟩

set_option maxRecDepth 100000 in
/-- Three int64 among the arguments. -/
theorem open_three {H : Type} {enc : TypeId × Value → H} {W : World} {base : Nat} {t : TypeId} {v : Value} {d : DataW H} {p : List MemPlace} {sp : Nat → Bool} (ht : Try.prog.underlying t = some (.array 3 2)) (hc : Try.prog.cellsOf t = 3) (hv : Value.okWide Try.prog W .any base t v) (hd : DataW.Trod enc Try.prog W 0 sp true t v d p) : ∃ x y z : Int, v = .agg #[.int .i64 x, .int .i64 y, .int .i64 z] ∧ InI64 x ∧ InI64 y ∧ InI64 z := by
  obtain ⟨cs, rfl, hsz, _⟩ : ∃ cs, v = .agg cs ∧ cs.size = Try.prog.cellsOf t ∧ Row.okWide Try.prog W .any base t cs := by
    simpa [Value.okWide, ht] using hv
  rw [hc] at hsz
  obtain ⟨l⟩ := cs
  have hl : l.length = 3 := hsz
  match l, hl with
  | [c0, c1, c2], _ =>
    obtain ⟨fuel, hf⟩ := hd
    obtain ⟨z0, z1, z2, m, _, hy0, hy1, hy2⟩ := trod_array3 ht Try.cellsI64 (by simpa [Value.cells] using hf)
    obtain ⟨x0, e0, _, w0⟩ := DataW.trod_int Try.underlying2 hy0
    obtain ⟨x1, e1, _, w1⟩ := DataW.trod_int Try.underlying2 hy1
    obtain ⟨x2, e2, _, w2⟩ := DataW.trod_int Try.underlying2 hy2
    simp at e0 e1 e2
    subst e0 e1 e2
    exact ⟨x0, x1, x2, rfl, inI64_wf w0, inI64_wf w1, inI64_wf w2⟩

end Go.Proofs.Ytopdeakjnloemaa

namespace Go.Proofs.Ytopdeakjnloemaa
open Go Go.ChangeShapes Go.WideShapes Go.ChangeAt Go.WideMaps Go.WideElems Go.RowKit Go.ChangeMaps

set_option maxRecDepth 100000 in
theorem planeShifts_lifted (os : Os) (started : os.Started) (H : Type) (enc : TypeId × Value → H) :
    ReturnsInHanded {} Try.checked os 7 .any (Rows.planeShiftsSpec.pre6 enc Try.prog Try.f7 Rows.planeShiftsRow.domain false) (Rows.planeShiftsSpec.post enc Try.prog Try.f7 false true false false) := by
  refine returnsInHanded_of_change (C := Try.checked) Try.ownP started (by kernel_rfl) Try.func7
    (ChangeSpec.witness6 (enc := enc) (C := Try.checked) false ⟨#[], #[.agg #[.int .i64 0, .int .i64 0, .int .i64 0, .int .i64 0], .agg #[.int .i64 0, .int .i64 0, .int .i64 0]], []⟩ 8 (by kernel_rfl) (by kernel_rfl) (by kernel_rfl) (by kernel_rfl)) ?_
  intro W base args ds gs before hval0 hW _ _
  have hval : ∀ (j : Nat) t v, Try.f7.params[j]? = some t → args[j]? = some v → Value.okWide Try.prog W .any base t v := hval0
  have hW' := hW
  obtain ⟨p, q, hA0, hV, rfl, hfz, hnd⟩ := hW
  have hA : DataW.TrodAll enc Try.prog W 0 (fun _ => true) true Try.f7.params.toList args.toList ds p := hA0
  rw [Try.params7] at hA hval
  obtain ⟨v0, v1, d0, d1, p0, p1, rfl, rfl, rfl, h0, h1⟩ := trodAll_two hA
  obtain ⟨rfl, rfl⟩ := trodVars_none hV
  obtain ⟨x0, rfl, hx0⟩ := open_four Try.underlying23 (by kernel_rfl) (hval 0 23 v0 rfl rfl) h0
  obtain ⟨x1, y1, z1, rfl, hx1, hy1, hz1⟩ := open_three Try.underlying53 (by kernel_rfl) (hval 1 53 v1 rfl rfl) h1
  simp only [List.append_nil, List.append_assoc] at hW'
  have hlt0 : ∀ x ∈ p0, x.block < W.heap.size := fun x hx => by simpa using hW'.lt x (by simp [hx])
  have hlt1 : ∀ x ∈ p1, x.block < W.heap.size := fun x hx => by simpa using hW'.lt x (by simp [hx])
  refine (planeShifts_walk x0 x1 y1 z1 W hx0 hx1 hy1 hz1).mono fun e W' ⟨he, hb⟩ => ?_
  subst he
  refine ⟨_, rfl, _, _, _, [], p0 ++ p1, [], hW', ?_, ?_, rfl, hb.frame _, fun h => by cases h⟩
  · exact trodAll_mk1 (shut_bool Try.underlying4 true)
  · exact trodAll_mk2 (Below.trod Try.laidOutP (by kernel_rfl) (of_decide_eq_true (by kernel_rfl)) h0 hb hlt0) (Below.trod Try.laidOutP (by kernel_rfl) (of_decide_eq_true (by kernel_rfl)) h1 hb hlt1)

theorem planeShifts_holds : Rows.PlaneShiftsSaid :=
  OpenClaim.holds_of_wide 7 Try.f7 rfl rfl rfl rfl rfl rfl rfl ⟨rfl, rfl, rfl, rfl, rfl⟩ rfl rfl rfl rfl rfl (by kernel_rfl) Try.func7 (by kernel_rfl)
    (of_decide_eq_true (by kernel_rfl)) (by unfold Func.isWrapper; first | (rw [if_pos (by decide +kernel)]; kernel_rfl) | (rw [if_neg (by decide +kernel)]; exact ⟨rfl, rfl⟩))
    (fun os started H enc _ => planeShifts_lifted os started H enc)
#print axioms planeShifts_holds

end Go.Proofs.Ytopdeakjnloemaa

namespace Go.Proofs.Ytopdeakjnloemaa
open Go.RowKit
variable {P : Program} {Q : Exit → Act → World → Prop}

theorem yielded_of {ops : Array Oper} {t : Array Value} {oj : Oper} {j d : Nat} {b : Bool} (hj : ops[j]? = some oj) (hd : oj.dst = some d) (ht : t[d]? = some (.bool b)) : yielded ops t j = some b := by
  unfold yielded
  rw [hj]
  simp [hd, ht]
theorem wanted_of {ops : Array Oper} {t : Array Value} {o oj : Oper} {j d : Nat} {b : Bool} (hg : o.guard = some (j, b)) (hj : ops[j]? = some oj) (hd : oj.dst = some d) (ht : t[d]? = some (.bool b)) : Region.wanted o (yielded ops t) = true := by
  unfold Region.wanted
  rw [hg]
  simp [yielded_of hj hd ht]
/-- An operation whose guard lets it be done. -/
theorem wpOp_on {ops : Array Oper} {i : Nat} {o : Oper} {K : Act → World → Prop} {a : Act} {w : World} (ho : ops[i]? = some o) (hw : Region.wanted o (yielded ops a.tmps) = true) (h : wpList P #[] (fun e a w => (e = .normal → K a w) ∧ (e ≠ .normal → Q e a w)) [{ o with guard := none }] a w) : wpOp P ops Q i K a w := by
  refine wpOp_list ho ?_
  unfold wpList at h ⊢
  rw [if_pos hw]
  rw [if_pos (show Region.wanted { o with guard := none } (yielded #[] a.tmps) = true from rfl)] at h
  exact h
end Go.Proofs.Ytopdeakjnloemaa

namespace Go.Proofs.Ytopdeakjnloemaa
open Go.RowKit Go.Shelf
attribute [local go_sem] Oper.semAt_some

def zeroN (x : V4) : Prop := x.a = 0 ∧ x.b = 0 ∧ x.c = 0
instance (x : V4) : Decidable (zeroN x) := by unfold zeroN; infer_instance
def makeQ (x : V4) : Prop := MakeOk x.a x.b x.c x.d
instance (x : V4) : Decidable (makeQ x) := by unfold makeQ; infer_instance
def lowQ (x : V4) : V4 := ⟨low4 x.a x.b x.c x.d x.a, low4 x.a x.b x.c x.d x.b, low4 x.a x.b x.c x.d x.c, low4 x.a x.b x.c x.d x.d⟩
/-- What Make returns. -/
def makeP (x : V4) : V4 := if zeroN x then ⟨0, 0, 0, 0⟩ else if makeQ x then lowQ x else ⟨0, 0, 0, 0⟩
def makeE (x : V4) : Int := if zeroN x then 1 else errE (decide (makeQ x)) 2

theorem ite_low (x : V4) : (if MakeOk x.a x.b x.c x.d then .agg #[.int .i64 (lowQ x).a, .int .i64 (lowQ x).b, .int .i64 (lowQ x).c, .int .i64 (lowQ x).d] else Value.agg #[.int .i64 0, .int .i64 0, .int .i64 0, .int .i64 0]) = (fun q : V4 => .agg #[.int .i64 q.a, .int .i64 q.b, .int .i64 q.c, .int .i64 q.d]) (if makeQ x then lowQ x else ⟨0, 0, 0, 0⟩) := by
  by_cases h : makeQ x
  · rw [if_pos h, if_pos (show MakeOk x.a x.b x.c x.d from h)]
  · rw [if_neg h, if_neg (show ¬ MakeOk x.a x.b x.c x.d from h)]

theorem make_q (x : V4) (w : World) (hx : InV x) : Calls Try.prog 12 #[.int .i64 x.a, .int .i64 x.b, .int .i64 x.c, .int .i64 x.d] w fun e w' => e = .returned (.tuple #[.agg #[.int .i64 (makeP x).a, .int .i64 (makeP x).b, .int .i64 (makeP x).c, .int .i64 (makeP x).d], .int .i64 (makeE x)]) ∧ Below w.heap.size w w' := by
  unfold makeP makeE
  by_cases hz : zeroN x
  · obtain ⟨h0, h1, h2⟩ := id hz
    rw [if_pos hz, if_pos hz, h0, h1, h2]
    exact make_zero x.d w
  · have h := make_some x.a x.b x.c x.d w hz hx.1 hx.2.1 hx.2.2.1 hx.2.2.2
    rw [if_neg hz, if_neg hz]
    have e := ite_low x
    rw [show decide (MakeOk x.a x.b x.c x.d) = decide (makeQ x) from decide_eq_decide.2 Iff.rfl] at h
    refine h.mono ?_
    rintro e' w' ⟨rfl, hb⟩
    refine ⟨?_, hb⟩
    exact congrArg (fun v => Ending.returned (.tuple #[v, .int .i64 (errE (decide (makeQ x)) 2)])) e
theorem rmake_q (x : V4) (w : World) (hx : InV x) : Calls Try.prog 13 #[.int .i64 x.a, .int .i64 x.b, .int .i64 x.c, .int .i64 x.d] w fun e w' => e = .returned (.tuple #[.agg #[.int .i64 (makeP x).a, .int .i64 (makeP x).b, .int .i64 (makeP x).c, .int .i64 (makeP x).d], .int .i64 (makeE x)]) ∧ Below w.heap.size w w' := by
  unfold makeP makeE
  by_cases hz : zeroN x
  · obtain ⟨h0, h1, h2⟩ := id hz
    rw [if_pos hz, if_pos hz, h0, h1, h2]
    exact rmake_zero x.d w
  · have h := rmake_some x.a x.b x.c x.d w hz hx.1 hx.2.1 hx.2.2.1 hx.2.2.2
    rw [if_neg hz, if_neg hz]
    have e := ite_low x
    rw [show decide (MakeOk x.a x.b x.c x.d) = decide (makeQ x) from decide_eq_decide.2 Iff.rfl] at h
    refine h.mono ?_
    rintro e' w' ⟨rfl, hb⟩
    refine ⟨?_, hb⟩
    exact congrArg (fun v => Ending.returned (.tuple #[v, .int .i64 (errE (decide (makeQ x)) 2)])) e

/-- What Opposite and Shown return. -/
def oppP (x : V4) : V4 := if RightQ x then ⟨-x.a, -x.b, -x.c, -x.d⟩ else ⟨0, 0, 0, 0⟩
def shwP (x : V4) : V4 := if RightQ x then shownP x else ⟨0, 0, 0, 0⟩
theorem opp_q (x : V4) (w : World) (hx : InV x) : Calls Try.prog 14 #[.agg #[.int .i64 x.a, .int .i64 x.b, .int .i64 x.c, .int .i64 x.d]] w fun e w' => e = .returned (.tuple #[.agg #[.int .i64 (oppP x).a, .int .i64 (oppP x).b, .int .i64 (oppP x).c, .int .i64 (oppP x).d], .int .i64 (errE (decide (RightQ x)) 30)]) ∧ Below w.heap.size w w' := by
  have h := oppositeApi_any x.a x.b x.c x.d w hx.1 hx.2.1 hx.2.2.1 hx.2.2.2
  rw [show decide (RightP x.a x.b x.c x.d) = decide (RightQ x) from decide_eq_decide.2 Iff.rfl] at h
  refine h.mono ?_
  rintro e' w' ⟨rfl, hb⟩
  refine ⟨?_, hb⟩
  unfold oppP
  by_cases hr : RightQ x
  · rw [if_pos hr, if_pos (show RightP x.a x.b x.c x.d from hr)]
  · rw [if_neg hr, if_neg (show ¬ RightP x.a x.b x.c x.d from hr)]
theorem shw_q (x : V4) (w : World) (hx : InV x) : Calls Try.prog 15 #[.agg #[.int .i64 x.a, .int .i64 x.b, .int .i64 x.c, .int .i64 x.d]] w fun e w' => e = .returned (.tuple #[.agg #[.int .i64 (shwP x).a, .int .i64 (shwP x).b, .int .i64 (shwP x).c, .int .i64 (shwP x).d], .int .i64 (errE (decide (RightQ x)) 30)]) ∧ Below w.heap.size w w' := by
  have h := shownApi_any x.a x.b x.c x.d w hx.1 hx.2.1 hx.2.2.1 hx.2.2.2
  rw [show decide (RightP x.a x.b x.c x.d) = decide (RightQ x) from decide_eq_decide.2 Iff.rfl] at h
  refine h.mono ?_
  rintro e' w' ⟨rfl, hb⟩
  refine ⟨?_, hb⟩
  unfold shwP
  by_cases hr : RightQ x
  · rw [if_pos hr, if_pos (show RightP x.a x.b x.c x.d from hr)]
  · rw [if_neg hr, if_neg (show ¬ RightP x.a x.b x.c x.d from hr)]
theorem oppV_right {x : V4} (h : RightQ x) : oppV x = ⟨-x.a, -x.b, -x.c, -x.d⟩ := by
  obtain ⟨_, h0, h1, h2, h3, _⟩ := h
  unfold oppV wrap64
  congr 1 <;> omega
theorem sgnCmp_neg {a b : Int} : sgnCmp a b < 0 ↔ a < b := by unfold sgnCmp; split <;> (try split) <;> constructor <;> intro <;> omega
theorem shown_right {x : V4} (h : RightQ x) : shownP x = shownV x := by
  unfold shownP shownV
  rw [oppV_right h]
  have hz := h.1
  unfold cmpV
  by_cases ha : x.a = 0
  · rw [if_neg (show ¬ x.a ≠ 0 by omega), if_neg (show ¬ x.a ≠ (⟨0, 0, 0, 0⟩ : V4).a from fun h => h ha)]
    by_cases hb : x.b = 0
    · rw [if_neg (show ¬ x.b ≠ 0 by omega), if_neg (show ¬ x.b ≠ (⟨0, 0, 0, 0⟩ : V4).b from fun h => h hb)]
      have hc : x.c ≠ 0 := fun hc => hz ⟨ha, hb, hc⟩
      rw [if_pos hc, if_pos (show x.c ≠ (⟨0, 0, 0, 0⟩ : V4).c from hc)]
      by_cases hn : x.c < 0
      · rw [if_pos hn, if_pos (sgnCmp_neg.2 hn)]
      · rw [if_neg hn, if_neg (fun h => hn (sgnCmp_neg.1 h))]
    · rw [if_pos hb, if_pos (show x.b ≠ (⟨0, 0, 0, 0⟩ : V4).b from hb)]
      by_cases hn : x.b < 0
      · rw [if_pos hn, if_pos (sgnCmp_neg.2 hn)]
      · rw [if_neg hn, if_neg (fun h => hn (sgnCmp_neg.1 h))]
  · rw [if_pos ha, if_pos (show x.a ≠ (⟨0, 0, 0, 0⟩ : V4).a from ha)]
    by_cases hn : x.a < 0
    · rw [if_pos hn, if_pos (sgnCmp_neg.2 hn)]
    · rw [if_neg hn, if_neg (fun h => hn (sgnCmp_neg.1 h))]
theorem wrap64_in (x : Int) : InI64 (wrap64 x) := by unfold InI64 wrap64; omega
theorem errE_zero {b : Bool} : errE b 30 = 0 → b = true := by cases b <;> simp [errE]

set_option maxRecDepth 100000 in
set_option maxHeartbeats 8000000 in
theorem planeMakes_walk (x : V4) (w : World) (hx : InV x) :
    Calls Try.prog 3 #[.agg #[.int .i64 x.a, .int .i64 x.b, .int .i64 x.c, .int .i64 x.d]] w fun e w' => e = .returned (.bool true) ∧ Below w.heap.size w w' := by
  obtain ⟨w1, hw1⟩ : ∃ w1, w.alloc (.cells #[.int .i64 x.a, .int .i64 x.b, .int .i64 x.c, .int .i64 x.d] 23) = w1 := ⟨_, rfl⟩
  have hb1 : Below w.heap.size w w1 := by rw [← hw1]; exact (Below.refl _ w).alloc (Nat.le_refl _) _
  have k0 : Blk w1 w.heap.size #[.int .i64 x.a, .int .i64 x.b, .int .i64 x.c, .int .i64 x.d] 23 := by rw [← hw1]; exact Blk.new _ _ _
  go_enter Try.func3, Try.ntmps3
  go_wp2_with fail
  go_loopg [3] 3 (fun gk v3 wr => ∃ (i : Nat) (x : V4), i ≤ 3 ∧ gk = 3 - i ∧ v3 = .int .i64 (i : Int) ∧ InV x ∧ Blk wr w.heap.size #[.int .i64 x.a, .int .i64 x.b, .int .i64 x.c, .int .i64 x.d] 23 ∧ Below w.heap.size w wr)
  case atStart => exact ⟨0, x, by decide, rfl, rfl, hx, k0, hb1⟩
  case round =>
    clear hx k0 hb1 hw1
    obtain ⟨i, x, hi, hgk, rfl, hx, k0, hb⟩ := hrel
    have HGK := Lib.hid hgk
    clear hgk
    by_cases hlt : i < 3
    · have hlti : (i : Int) < 3 := by omega
      have hbad := fun W b hR => bad1 x W b hx hR
      have hch := fun W => check_any x.a x.b x.c x.d W hx.1 hx.2.1 hx.2.2.1 hx.2.2.2
      rw [show decide (RightP x.a x.b x.c x.d) = decide (RightQ x) from decide_eq_decide.2 Iff.rfl] at hch
      have hop := fun W => opp_q x W hx
      have hsh := fun W => shw_q x W hx
      obtain ⟨B, hB⟩ : ∃ B, errE (decide (RightQ x)) 30 = B := ⟨_, rfl⟩
      rw [hB] at hch hop hsh
      have hbad' : ∀ W b, RdV W (some ⟨b, 0, none⟩) [x] → Calls Try.prog 10 #[.slice (some ⟨b, 0, none⟩) 1 1] W fun e w' => e = .returned (.int .i64 B) ∧ Below W.heap.size W w' := fun W b hR => by rw [← hB]; exact hbad W b hR
      have hB0 : B = 0 → RightQ x := fun h => by rw [← hB] at h; exact of_decide_eq_true (errE_zero h)
      have hB1 : B ≠ 0 → ¬ RightQ x := fun h hr => h (by rw [← hB, decide_eq_true hr]; rfl)
      obtain ⟨MP, hMP⟩ : ∃ M, makeP x = M := ⟨_, rfl⟩
      obtain ⟨ME, hME⟩ : ∃ M, makeE x = M := ⟨_, rfl⟩
      have hmk := fun W => make_q x W hx
      have hrm := fun W => rmake_q x W hx
      rw [hMP, hME] at hmk hrm
      have hmz : ME ≠ 0 → MP = ⟨0, 0, 0, 0⟩ := fun h => by
        rw [← hME] at h; rw [← hMP]; unfold makeE at h; unfold makeP
        by_cases hz : zeroN x
        · rw [if_pos hz]
        · rw [if_neg hz] at h ⊢
          by_cases hq : makeQ x
          · rw [decide_eq_true hq] at h; exact absurd rfl h
          · rw [if_neg hq]
      have hpA := fun W => plain_any MP MP ME ME W
      rw [plainQ_true (fun _ => rfl) hmz] at hpA
      obtain ⟨OP, hOP⟩ : ∃ M, oppP x = M := ⟨_, rfl⟩
      obtain ⟨SP, hSP⟩ : ∃ M, shwP x = M := ⟨_, rfl⟩
      obtain ⟨OX, hOX⟩ : ∃ M, oppV x = M := ⟨_, rfl⟩
      obtain ⟨SX, hSX⟩ : ∃ M, shownV x = M := ⟨_, rfl⟩
      rw [hOP] at hop
      rw [hSP] at hsh
      have hro : ∀ W, Calls Try.prog 17 #[.agg #[.int .i64 x.a, .int .i64 x.b, .int .i64 x.c, .int .i64 x.d]] W fun e w' => e = .returned (.agg #[.int .i64 OX.a, .int .i64 OX.b, .int .i64 OX.c, .int .i64 OX.d]) ∧ Below W.heap.size W w' := fun W => by rw [← hOX]; exact opposite3_any x.a x.b x.c x.d W
      have hrs : ∀ W, Calls Try.prog 18 #[.agg #[.int .i64 x.a, .int .i64 x.b, .int .i64 x.c, .int .i64 x.d]] W fun e w' => e = .returned (.agg #[.int .i64 SX.a, .int .i64 SX.b, .int .i64 SX.c, .int .i64 SX.d]) ∧ Below W.heap.size W w' := fun W => by rw [← hSX]; exact shown3_any x.a x.b x.c x.d W
      have hpB := fun W => plain_any OP OX B B W
      rw [plainQ_true (fun h => by rw [← hOP, ← hOX, oppV_right (hB0 h)]; unfold oppP; rw [if_pos (hB0 h)]) (fun h => by rw [← hOP]; unfold oppP; rw [if_neg (hB1 h)])] at hpB
      have hpC := fun W => plain_any SP SX B B W
      rw [plainQ_true (fun h => by rw [← hSP, ← hSX, ← shown_right (hB0 h)]; unfold shwP; rw [if_pos (hB0 h)]) (fun h => by rw [← hSP]; unfold shwP; rw [if_neg (hB1 h)])] at hpC
      have HTM := Lib.hid (fun W => tame_any x 1000 W hx (by decide) (by decide))
      have HBAD := Lib.hid hbad'
      have HCH := Lib.hid hch
      have HMK := Lib.hid hmk
      have HRM := Lib.hid hrm
      have HOP := Lib.hid hop
      have HSH := Lib.hid hsh
      have HPA := Lib.hid hpA
      have HPB := Lib.hid hpB
      have HPC := Lib.hid hpC
      have HRO := Lib.hid hro
      have HRS := Lib.hid hrs
      clear hbad hbad' hch hmk hrm hop hsh hpA hpB hpC hro hrs hB0 hB1 hmz hMP hME hOP hSP hOX hSX hB hx
      have k0_0 := k0.cell (i := 0) rfl
      have k0_1 := k0.cell (i := 1) rfl
      have k0_2 := k0.cell (i := 2) rfl
      have k0_3 := k0.cell (i := 3) rfl
      obtain ⟨wl1, hwl1⟩ : ∃ w', wr.alloc (.cells #[.int .i64 x.a, .int .i64 x.b, .int .i64 x.c, .int .i64 x.d] 23) = w' := ⟨_, rfl⟩
      have hrl1 : RdV wl1 (some ⟨wr.heap.size, 0, none⟩) [x] := by rw [← hwl1]; exact planes1 wr x.a x.b x.c x.d _
      have hbl1 : Below wr.heap.size wr wl1 := by rw [← hwl1]; exact (Below.refl _ _).alloc (Nat.le_refl _) _
      have HBD1 := Lib.hid (HBAD.out _ _ hrl1)
      clear hrl1
      go_wp2_with fail
      refine (HBD1.out).mono ?_
      rintro e' wc1 ⟨rfl, hc1⟩
      have hc1 := hbl1.trans (hc1.mono hbl1.size)
      clear hbl1 hwl1 HBD1
      clear k0_0 k0_1 k0_2 k0_3
      have k0 := k0.kept hc1
      have hb := hb.trans (hc1.mono hb.size)
      clear hc1
      have k0_0 := k0.cell (i := 0) rfl
      have k0_1 := k0.cell (i := 1) rfl
      have k0_2 := k0.cell (i := 2) rfl
      have k0_3 := k0.cell (i := 3) rfl
      go_wp2_with fail
      refine (HCH.out _).mono ?_
      rintro e' wc2 ⟨rfl, hc2⟩
      clear k0_0 k0_1 k0_2 k0_3
      have k0 := k0.kept hc2
      have hb := hb.trans (hc2.mono hb.size)
      clear hc2
      have k0_0 := k0.cell (i := 0) rfl
      have k0_1 := k0.cell (i := 1) rfl
      have k0_2 := k0.cell (i := 2) rfl
      have k0_3 := k0.cell (i := 3) rfl
      go_wp2_with fail
      refine (HMK.out _).mono ?_
      rintro e' wc3 ⟨rfl, hc3⟩
      clear k0_0 k0_1 k0_2 k0_3
      have k0 := k0.kept hc3
      have hb := hb.trans (hc3.mono hb.size)
      clear hc3
      have k0_0 := k0.cell (i := 0) rfl
      have k0_1 := k0.cell (i := 1) rfl
      have k0_2 := k0.cell (i := 2) rfl
      have k0_3 := k0.cell (i := 3) rfl
      clear k0_0 k0_1 k0_2 k0_3
      obtain ⟨wa4, hwa4⟩ : ∃ w', wc3.alloc (.cells #[.int .i64 0, .int .i64 0, .int .i64 0, .int .i64 0] 23) = w' := ⟨_, rfl⟩
      have kk4 : Blk wa4 wc3.heap.size #[.int .i64 0, .int .i64 0, .int .i64 0, .int .i64 0] 23 := by rw [← hwa4]; exact Blk.new _ _ _
      have hk4 : Below wc3.heap.size wc3 wa4 := by rw [← hwa4]; exact (Below.refl _ _).alloc (Nat.le_refl _) _
      obtain ⟨ws4, hws4⟩ : ∃ w', ((((wa4.setCell ⟨wc3.heap.size, 0, none⟩ (.int .i64 MP.a)).setCell ⟨wc3.heap.size, 1, none⟩ (.int .i64 MP.b)).setCell ⟨wc3.heap.size, 2, none⟩ (.int .i64 MP.c)).setCell ⟨wc3.heap.size, 3, none⟩ (.int .i64 MP.d)) = w' := ⟨_, rfl⟩
      have hj4 : Below wc3.heap.size wc3 ws4 := by rw [← hws4]; exact ((((hk4.setCell (by simp only; omega) _).setCell (by simp only; omega) _).setCell (by simp only; omega) _).setCell (by simp only; omega) _)
      have kP : Blk ws4 wc3.heap.size #[.int .i64 MP.a, .int .i64 MP.b, .int .i64 MP.c, .int .i64 MP.d] 23 := by rw [← hws4]; exact Blk.put4 kk4 _ _ _ _
      have kc40 := kk4.cell (i := 0) rfl
      have kf40 := kk4.frozen 0
      have kc41 := kk4.cell (i := 1) rfl
      have kf41 := kk4.frozen 1
      have kc42 := kk4.cell (i := 2) rfl
      have kf42 := kk4.frozen 2
      have kc43 := kk4.cell (i := 3) rfl
      have kf43 := kk4.frozen 3
      have k0 := k0.kept hj4
      have hb := hb.trans (hj4.mono hb.size)
      clear hj4 hk4
      have k0_0 := k0.cell (i := 0) rfl
      have k0_1 := k0.cell (i := 1) rfl
      have k0_2 := k0.cell (i := 2) rfl
      have k0_3 := k0.cell (i := 3) rfl
      have kP_0 := kP.cell (i := 0) rfl
      have kP_1 := kP.cell (i := 1) rfl
      have kP_2 := kP.cell (i := 2) rfl
      have kP_3 := kP.cell (i := 3) rfl
      go_wp2_with fail
      refine (HRM.out _).mono ?_
      rintro e' wc5 ⟨rfl, hc5⟩
      clear k0_0 k0_1 k0_2 k0_3 kP_0 kP_1 kP_2 kP_3
      have k0 := k0.kept hc5
      have kP := kP.kept hc5
      have hb := hb.trans (hc5.mono hb.size)
      clear hc5
      have k0_0 := k0.cell (i := 0) rfl
      have k0_1 := k0.cell (i := 1) rfl
      have k0_2 := k0.cell (i := 2) rfl
      have k0_3 := k0.cell (i := 3) rfl
      have kP_0 := kP.cell (i := 0) rfl
      have kP_1 := kP.cell (i := 1) rfl
      have kP_2 := kP.cell (i := 2) rfl
      have kP_3 := kP.cell (i := 3) rfl
      clear k0_0 k0_1 k0_2 k0_3 kP_0 kP_1 kP_2 kP_3
      obtain ⟨wa6, hwa6⟩ : ∃ w', wc5.alloc (.cells #[.int .i64 0, .int .i64 0, .int .i64 0, .int .i64 0] 23) = w' := ⟨_, rfl⟩
      have kk6 : Blk wa6 wc5.heap.size #[.int .i64 0, .int .i64 0, .int .i64 0, .int .i64 0] 23 := by rw [← hwa6]; exact Blk.new _ _ _
      have hk6 : Below wc5.heap.size wc5 wa6 := by rw [← hwa6]; exact (Below.refl _ _).alloc (Nat.le_refl _) _
      obtain ⟨ws6, hws6⟩ : ∃ w', ((((wa6.setCell ⟨wc5.heap.size, 0, none⟩ (.int .i64 MP.a)).setCell ⟨wc5.heap.size, 1, none⟩ (.int .i64 MP.b)).setCell ⟨wc5.heap.size, 2, none⟩ (.int .i64 MP.c)).setCell ⟨wc5.heap.size, 3, none⟩ (.int .i64 MP.d)) = w' := ⟨_, rfl⟩
      have hj6 : Below wc5.heap.size wc5 ws6 := by rw [← hws6]; exact ((((hk6.setCell (by simp only; omega) _).setCell (by simp only; omega) _).setCell (by simp only; omega) _).setCell (by simp only; omega) _)
      have kV : Blk ws6 wc5.heap.size #[.int .i64 MP.a, .int .i64 MP.b, .int .i64 MP.c, .int .i64 MP.d] 23 := by rw [← hws6]; exact Blk.put4 kk6 _ _ _ _
      have kc60 := kk6.cell (i := 0) rfl
      have kf60 := kk6.frozen 0
      have kc61 := kk6.cell (i := 1) rfl
      have kf61 := kk6.frozen 1
      have kc62 := kk6.cell (i := 2) rfl
      have kf62 := kk6.frozen 2
      have kc63 := kk6.cell (i := 3) rfl
      have kf63 := kk6.frozen 3
      have k0 := k0.kept hj6
      have kP := kP.kept hj6
      have hb := hb.trans (hj6.mono hb.size)
      clear hj6 hk6
      have k0_0 := k0.cell (i := 0) rfl
      have k0_1 := k0.cell (i := 1) rfl
      have k0_2 := k0.cell (i := 2) rfl
      have k0_3 := k0.cell (i := 3) rfl
      have kP_0 := kP.cell (i := 0) rfl
      have kP_1 := kP.cell (i := 1) rfl
      have kP_2 := kP.cell (i := 2) rfl
      have kP_3 := kP.cell (i := 3) rfl
      have kV_0 := kV.cell (i := 0) rfl
      have kV_1 := kV.cell (i := 1) rfl
      have kV_2 := kV.cell (i := 2) rfl
      have kV_3 := kV.cell (i := 3) rfl
      go_wp2_with fail
      refine (HOP.out _).mono ?_
      rintro e' wc7 ⟨rfl, hc7⟩
      clear k0_0 k0_1 k0_2 k0_3 kP_0 kP_1 kP_2 kP_3 kV_0 kV_1 kV_2 kV_3
      have k0 := k0.kept hc7
      have kP := kP.kept hc7
      have kV := kV.kept hc7
      have hb := hb.trans (hc7.mono hb.size)
      clear hc7
      have k0_0 := k0.cell (i := 0) rfl
      have k0_1 := k0.cell (i := 1) rfl
      have k0_2 := k0.cell (i := 2) rfl
      have k0_3 := k0.cell (i := 3) rfl
      have kP_0 := kP.cell (i := 0) rfl
      have kP_1 := kP.cell (i := 1) rfl
      have kP_2 := kP.cell (i := 2) rfl
      have kP_3 := kP.cell (i := 3) rfl
      have kV_0 := kV.cell (i := 0) rfl
      have kV_1 := kV.cell (i := 1) rfl
      have kV_2 := kV.cell (i := 2) rfl
      have kV_3 := kV.cell (i := 3) rfl
      clear k0_0 k0_1 k0_2 k0_3 kP_0 kP_1 kP_2 kP_3 kV_0 kV_1 kV_2 kV_3
      obtain ⟨wa8, hwa8⟩ : ∃ w', wc7.alloc (.cells #[.int .i64 0, .int .i64 0, .int .i64 0, .int .i64 0] 23) = w' := ⟨_, rfl⟩
      have kk8 : Blk wa8 wc7.heap.size #[.int .i64 0, .int .i64 0, .int .i64 0, .int .i64 0] 23 := by rw [← hwa8]; exact Blk.new _ _ _
      have hk8 : Below wc7.heap.size wc7 wa8 := by rw [← hwa8]; exact (Below.refl _ _).alloc (Nat.le_refl _) _
      obtain ⟨ws8, hws8⟩ : ∃ w', ((((wa8.setCell ⟨wc7.heap.size, 0, none⟩ (.int .i64 OP.a)).setCell ⟨wc7.heap.size, 1, none⟩ (.int .i64 OP.b)).setCell ⟨wc7.heap.size, 2, none⟩ (.int .i64 OP.c)).setCell ⟨wc7.heap.size, 3, none⟩ (.int .i64 OP.d)) = w' := ⟨_, rfl⟩
      have hj8 : Below wc7.heap.size wc7 ws8 := by rw [← hws8]; exact ((((hk8.setCell (by simp only; omega) _).setCell (by simp only; omega) _).setCell (by simp only; omega) _).setCell (by simp only; omega) _)
      have kO : Blk ws8 wc7.heap.size #[.int .i64 OP.a, .int .i64 OP.b, .int .i64 OP.c, .int .i64 OP.d] 23 := by rw [← hws8]; exact Blk.put4 kk8 _ _ _ _
      have kc80 := kk8.cell (i := 0) rfl
      have kf80 := kk8.frozen 0
      have kc81 := kk8.cell (i := 1) rfl
      have kf81 := kk8.frozen 1
      have kc82 := kk8.cell (i := 2) rfl
      have kf82 := kk8.frozen 2
      have kc83 := kk8.cell (i := 3) rfl
      have kf83 := kk8.frozen 3
      have k0 := k0.kept hj8
      have kP := kP.kept hj8
      have kV := kV.kept hj8
      have hb := hb.trans (hj8.mono hb.size)
      clear hj8 hk8
      have k0_0 := k0.cell (i := 0) rfl
      have k0_1 := k0.cell (i := 1) rfl
      have k0_2 := k0.cell (i := 2) rfl
      have k0_3 := k0.cell (i := 3) rfl
      have kP_0 := kP.cell (i := 0) rfl
      have kP_1 := kP.cell (i := 1) rfl
      have kP_2 := kP.cell (i := 2) rfl
      have kP_3 := kP.cell (i := 3) rfl
      have kV_0 := kV.cell (i := 0) rfl
      have kV_1 := kV.cell (i := 1) rfl
      have kV_2 := kV.cell (i := 2) rfl
      have kV_3 := kV.cell (i := 3) rfl
      have kO_0 := kO.cell (i := 0) rfl
      have kO_1 := kO.cell (i := 1) rfl
      have kO_2 := kO.cell (i := 2) rfl
      have kO_3 := kO.cell (i := 3) rfl
      go_wp2_with fail
      refine (HSH.out _).mono ?_
      rintro e' wc9 ⟨rfl, hc9⟩
      clear k0_0 k0_1 k0_2 k0_3 kP_0 kP_1 kP_2 kP_3 kV_0 kV_1 kV_2 kV_3 kO_0 kO_1 kO_2 kO_3
      have k0 := k0.kept hc9
      have kP := kP.kept hc9
      have kV := kV.kept hc9
      have kO := kO.kept hc9
      have hb := hb.trans (hc9.mono hb.size)
      clear hc9
      have k0_0 := k0.cell (i := 0) rfl
      have k0_1 := k0.cell (i := 1) rfl
      have k0_2 := k0.cell (i := 2) rfl
      have k0_3 := k0.cell (i := 3) rfl
      have kP_0 := kP.cell (i := 0) rfl
      have kP_1 := kP.cell (i := 1) rfl
      have kP_2 := kP.cell (i := 2) rfl
      have kP_3 := kP.cell (i := 3) rfl
      have kV_0 := kV.cell (i := 0) rfl
      have kV_1 := kV.cell (i := 1) rfl
      have kV_2 := kV.cell (i := 2) rfl
      have kV_3 := kV.cell (i := 3) rfl
      have kO_0 := kO.cell (i := 0) rfl
      have kO_1 := kO.cell (i := 1) rfl
      have kO_2 := kO.cell (i := 2) rfl
      have kO_3 := kO.cell (i := 3) rfl
      clear k0_0 k0_1 k0_2 k0_3 kP_0 kP_1 kP_2 kP_3 kV_0 kV_1 kV_2 kV_3 kO_0 kO_1 kO_2 kO_3
      obtain ⟨wa10, hwa10⟩ : ∃ w', wc9.alloc (.cells #[.int .i64 0, .int .i64 0, .int .i64 0, .int .i64 0] 23) = w' := ⟨_, rfl⟩
      have kk10 : Blk wa10 wc9.heap.size #[.int .i64 0, .int .i64 0, .int .i64 0, .int .i64 0] 23 := by rw [← hwa10]; exact Blk.new _ _ _
      have hk10 : Below wc9.heap.size wc9 wa10 := by rw [← hwa10]; exact (Below.refl _ _).alloc (Nat.le_refl _) _
      obtain ⟨ws10, hws10⟩ : ∃ w', ((((wa10.setCell ⟨wc9.heap.size, 0, none⟩ (.int .i64 SP.a)).setCell ⟨wc9.heap.size, 1, none⟩ (.int .i64 SP.b)).setCell ⟨wc9.heap.size, 2, none⟩ (.int .i64 SP.c)).setCell ⟨wc9.heap.size, 3, none⟩ (.int .i64 SP.d)) = w' := ⟨_, rfl⟩
      have hj10 : Below wc9.heap.size wc9 ws10 := by rw [← hws10]; exact ((((hk10.setCell (by simp only; omega) _).setCell (by simp only; omega) _).setCell (by simp only; omega) _).setCell (by simp only; omega) _)
      have kS : Blk ws10 wc9.heap.size #[.int .i64 SP.a, .int .i64 SP.b, .int .i64 SP.c, .int .i64 SP.d] 23 := by rw [← hws10]; exact Blk.put4 kk10 _ _ _ _
      have kc100 := kk10.cell (i := 0) rfl
      have kf100 := kk10.frozen 0
      have kc101 := kk10.cell (i := 1) rfl
      have kf101 := kk10.frozen 1
      have kc102 := kk10.cell (i := 2) rfl
      have kf102 := kk10.frozen 2
      have kc103 := kk10.cell (i := 3) rfl
      have kf103 := kk10.frozen 3
      have k0 := k0.kept hj10
      have kP := kP.kept hj10
      have kV := kV.kept hj10
      have kO := kO.kept hj10
      have hb := hb.trans (hj10.mono hb.size)
      clear hj10 hk10
      have k0_0 := k0.cell (i := 0) rfl
      have k0_1 := k0.cell (i := 1) rfl
      have k0_2 := k0.cell (i := 2) rfl
      have k0_3 := k0.cell (i := 3) rfl
      have kP_0 := kP.cell (i := 0) rfl
      have kP_1 := kP.cell (i := 1) rfl
      have kP_2 := kP.cell (i := 2) rfl
      have kP_3 := kP.cell (i := 3) rfl
      have kV_0 := kV.cell (i := 0) rfl
      have kV_1 := kV.cell (i := 1) rfl
      have kV_2 := kV.cell (i := 2) rfl
      have kV_3 := kV.cell (i := 3) rfl
      have kO_0 := kO.cell (i := 0) rfl
      have kO_1 := kO.cell (i := 1) rfl
      have kO_2 := kO.cell (i := 2) rfl
      have kO_3 := kO.cell (i := 3) rfl
      have kS_0 := kS.cell (i := 0) rfl
      have kS_1 := kS.cell (i := 1) rfl
      have kS_2 := kS.cell (i := 2) rfl
      have kS_3 := kS.cell (i := 3) rfl
      go_upto_region 11 with fail
      go_cut [81] from 58 to 80 (fun v81 wx => v81 = .bool false ∧ Below ws10.heap.size ws10 wx)
      case first =>
        refine wp_region_pure' (fun ix => match ix with | 0 => .agg #[.int .i64 MP.a, .int .i64 MP.b, .int .i64 MP.c, .int .i64 MP.d] | 1 => .int .i64 ME | 2 => .int .i64 ME | 3 => .agg #[.int .i64 MP.a, .int .i64 MP.b, .int .i64 MP.c, .int .i64 MP.d] | 4 => .bool true | 5 => .bool false | 6 => .bool false | 7 => .agg #[.int .i64 OP.a, .int .i64 OP.b, .int .i64 OP.c, .int .i64 OP.d] | 8 => .int .i64 B | 9 => .int .i64 B | 10 => .agg #[.int .i64 x.a, .int .i64 x.b, .int .i64 x.c, .int .i64 x.d] | 11 => .agg #[.int .i64 OX.a, .int .i64 OX.b, .int .i64 OX.c, .int .i64 OX.d] | 12 => .bool true | 13 => .bool false | 14 => .bool false | 15 => .bool false | 16 => .agg #[.int .i64 SP.a, .int .i64 SP.b, .int .i64 SP.c, .int .i64 SP.d] | 17 => .int .i64 B | 18 => .int .i64 B | 19 => .agg #[.int .i64 x.a, .int .i64 x.b, .int .i64 x.c, .int .i64 x.d] | 20 => .agg #[.int .i64 SX.a, .int .i64 SX.b, .int .i64 SX.c, .int .i64 SX.d] | 21 => .bool true | 22 => .bool false | _ => .bool false) (by kernel_rfl) (by kernel_rfl) ?_ ?_
        · rintro ix hx f ww hS hd
          have ka := k0.kept hS
          have kb := kP.kept hS
          have kc := kV.kept hS
          have kd := kO.kept hS
          have ke := kS.kept hS
          have ka0_ := ka.cell (i := 0) rfl
          have ka1_ := ka.cell (i := 1) rfl
          have ka2_ := ka.cell (i := 2) rfl
          have ka3_ := ka.cell (i := 3) rfl
          have kb0_ := kb.cell (i := 0) rfl
          have kb1_ := kb.cell (i := 1) rfl
          have kb2_ := kb.cell (i := 2) rfl
          have kb3_ := kb.cell (i := 3) rfl
          have kc0_ := kc.cell (i := 0) rfl
          have kc1_ := kc.cell (i := 1) rfl
          have kc2_ := kc.cell (i := 2) rfl
          have kc3_ := kc.cell (i := 3) rfl
          have kd0_ := kd.cell (i := 0) rfl
          have kd1_ := kd.cell (i := 1) rfl
          have kd2_ := kd.cell (i := 2) rfl
          have kd3_ := kd.cell (i := 3) rfl
          have ke0_ := ke.cell (i := 0) rfl
          have ke1_ := ke.cell (i := 1) rfl
          have ke2_ := ke.cell (i := 2) rfl
          have ke3_ := ke.cell (i := 3) rfl
          rcases ix with _ | _ | _ | _ | _ | _ | _ | _ | _ | _ | _ | _ | _ | _ | _ | _ | _ | _ | _ | _ | _ | _ | _ | _ | ix
          · refine wpOp_list rfl ?_
            simp only [tmOf, putAll, List.map_cons, List.map_nil, List.setIfInBounds_toArray, List.set_cons_zero, List.set_cons_succ]
            go_wp2
            simp [upd, Below.refl]
          · refine wpOp_list rfl ?_
            simp only [tmOf, putAll, List.map_cons, List.map_nil, List.setIfInBounds_toArray, List.set_cons_zero, List.set_cons_succ]
            go_wp2
            simp [upd, Below.refl]
          · refine wpOp_list rfl ?_
            simp only [tmOf, putAll, List.map_cons, List.map_nil, List.setIfInBounds_toArray, List.set_cons_zero, List.set_cons_succ]
            go_wp2
            simp [upd, Below.refl]
          · refine wpOp_list rfl ?_
            simp only [tmOf, putAll, List.map_cons, List.map_nil, List.setIfInBounds_toArray, List.set_cons_zero, List.set_cons_succ]
            go_wp2
            simp [upd, Below.refl]
          · have g0 : f 0 = .agg #[.int .i64 MP.a, .int .i64 MP.b, .int .i64 MP.c, .int .i64 MP.d] := hd 0 (by kernel_rfl)
            have g1 : f 1 = .int .i64 ME := hd 1 (by kernel_rfl)
            have g2 : f 2 = .int .i64 ME := hd 2 (by kernel_rfl)
            have g3 : f 3 = .agg #[.int .i64 MP.a, .int .i64 MP.b, .int .i64 MP.c, .int .i64 MP.d] := hd 3 (by kernel_rfl)
            refine wpOp_list rfl ?_
            simp only [tmOf, putAll, List.map_cons, List.map_nil, List.setIfInBounds_toArray, List.set_cons_zero, List.set_cons_succ]
            go_wp2_with fail
            refine (HPA.out _).mono ?_
            rintro e' wf ⟨rfl, hbf⟩
            go_wp2_with fail
            simp [upd, g0, g1, g2, g3, hbf]
          · have g4 : f 4 = .bool true := hd 4 (by kernel_rfl)
            refine wpOp_list rfl ?_
            simp only [tmOf, putAll, List.map_cons, List.map_nil, List.setIfInBounds_toArray, List.set_cons_zero, List.set_cons_succ]
            go_wp2
            simp [upd, g4, Below.refl]
          · have g5 : f 5 = .bool false := hd 5 (by kernel_rfl)
            refine wpOp_list rfl ?_
            simp only [tmOf, putAll, List.map_cons, List.map_nil, List.setIfInBounds_toArray, List.set_cons_zero, List.set_cons_succ]
            go_wp2
            simp [upd, g5, Below.refl]
          · have g6 : f 6 = .bool false := hd 6 (by kernel_rfl)
            simp only [tmOf, putAll, List.map_cons, List.map_nil, List.setIfInBounds_toArray, List.set_cons_zero, List.set_cons_succ]
            refine wpOp_on rfl (wanted_of (b := false) rfl rfl rfl (congrArg some g6)) ?_
            go_wp2
            simp [upd, g6, Below.refl]
          · have g6 : f 6 = .bool false := hd 6 (by kernel_rfl)
            simp only [tmOf, putAll, List.map_cons, List.map_nil, List.setIfInBounds_toArray, List.set_cons_zero, List.set_cons_succ]
            refine wpOp_on rfl (wanted_of (b := false) rfl rfl rfl (congrArg some g6)) ?_
            go_wp2
            simp [upd, g6, Below.refl]
          · have g6 : f 6 = .bool false := hd 6 (by kernel_rfl)
            simp only [tmOf, putAll, List.map_cons, List.map_nil, List.setIfInBounds_toArray, List.set_cons_zero, List.set_cons_succ]
            refine wpOp_on rfl (wanted_of (b := false) rfl rfl rfl (congrArg some g6)) ?_
            go_wp2
            simp [upd, g6, Below.refl]
          · have g6 : f 6 = .bool false := hd 6 (by kernel_rfl)
            simp only [tmOf, putAll, List.map_cons, List.map_nil, List.setIfInBounds_toArray, List.set_cons_zero, List.set_cons_succ]
            refine wpOp_on rfl (wanted_of (b := false) rfl rfl rfl (congrArg some g6)) ?_
            go_wp2
            simp [upd, g6, Below.refl]
          · have g10 : f 10 = .agg #[.int .i64 x.a, .int .i64 x.b, .int .i64 x.c, .int .i64 x.d] := hd 10 (by kernel_rfl)
            have g6 : f 6 = .bool false := hd 6 (by kernel_rfl)
            simp only [tmOf, putAll, List.map_cons, List.map_nil, List.setIfInBounds_toArray, List.set_cons_zero, List.set_cons_succ]
            refine wpOp_on rfl (wanted_of (b := false) rfl rfl rfl (congrArg some g6)) ?_
            go_wp2_with fail
            refine (HRO.out _).mono ?_
            rintro e' wf ⟨rfl, hbf⟩
            go_wp2_with fail
            simp [upd, g10, g6, hbf]
          · have g7 : f 7 = .agg #[.int .i64 OP.a, .int .i64 OP.b, .int .i64 OP.c, .int .i64 OP.d] := hd 7 (by kernel_rfl)
            have g8 : f 8 = .int .i64 B := hd 8 (by kernel_rfl)
            have g9 : f 9 = .int .i64 B := hd 9 (by kernel_rfl)
            have g11 : f 11 = .agg #[.int .i64 OX.a, .int .i64 OX.b, .int .i64 OX.c, .int .i64 OX.d] := hd 11 (by kernel_rfl)
            have g6 : f 6 = .bool false := hd 6 (by kernel_rfl)
            simp only [tmOf, putAll, List.map_cons, List.map_nil, List.setIfInBounds_toArray, List.set_cons_zero, List.set_cons_succ]
            refine wpOp_on rfl (wanted_of (b := false) rfl rfl rfl (congrArg some g6)) ?_
            go_wp2_with fail
            refine (HPB.out _).mono ?_
            rintro e' wf ⟨rfl, hbf⟩
            go_wp2_with fail
            simp [upd, g7, g8, g9, g11, g6, hbf]
          · have g12 : f 12 = .bool true := hd 12 (by kernel_rfl)
            have g6 : f 6 = .bool false := hd 6 (by kernel_rfl)
            simp only [tmOf, putAll, List.map_cons, List.map_nil, List.setIfInBounds_toArray, List.set_cons_zero, List.set_cons_succ]
            refine wpOp_on rfl (wanted_of (b := false) rfl rfl rfl (congrArg some g6)) ?_
            go_wp2
            simp [upd, g12, g6, Below.refl]
          · have g6 : f 6 = .bool false := hd 6 (by kernel_rfl)
            have g13 : f 13 = .bool false := hd 13 (by kernel_rfl)
            refine wpOp_list rfl ?_
            simp only [tmOf, putAll, List.map_cons, List.map_nil, List.setIfInBounds_toArray, List.set_cons_zero, List.set_cons_succ]
            go_wp2
            simp [upd, g6, g13, Below.refl]
          · have g14 : f 14 = .bool false := hd 14 (by kernel_rfl)
            refine wpOp_list rfl ?_
            simp only [tmOf, putAll, List.map_cons, List.map_nil, List.setIfInBounds_toArray, List.set_cons_zero, List.set_cons_succ]
            go_wp2
            simp [upd, g14, Below.refl]
          · have g15 : f 15 = .bool false := hd 15 (by kernel_rfl)
            simp only [tmOf, putAll, List.map_cons, List.map_nil, List.setIfInBounds_toArray, List.set_cons_zero, List.set_cons_succ]
            refine wpOp_on rfl (wanted_of (b := false) rfl rfl rfl (congrArg some g15)) ?_
            go_wp2
            simp [upd, g15, Below.refl]
          · have g15 : f 15 = .bool false := hd 15 (by kernel_rfl)
            simp only [tmOf, putAll, List.map_cons, List.map_nil, List.setIfInBounds_toArray, List.set_cons_zero, List.set_cons_succ]
            refine wpOp_on rfl (wanted_of (b := false) rfl rfl rfl (congrArg some g15)) ?_
            go_wp2
            simp [upd, g15, Below.refl]
          · have g15 : f 15 = .bool false := hd 15 (by kernel_rfl)
            simp only [tmOf, putAll, List.map_cons, List.map_nil, List.setIfInBounds_toArray, List.set_cons_zero, List.set_cons_succ]
            refine wpOp_on rfl (wanted_of (b := false) rfl rfl rfl (congrArg some g15)) ?_
            go_wp2
            simp [upd, g15, Below.refl]
          · have g15 : f 15 = .bool false := hd 15 (by kernel_rfl)
            simp only [tmOf, putAll, List.map_cons, List.map_nil, List.setIfInBounds_toArray, List.set_cons_zero, List.set_cons_succ]
            refine wpOp_on rfl (wanted_of (b := false) rfl rfl rfl (congrArg some g15)) ?_
            go_wp2
            simp [upd, g15, Below.refl]
          · have g19 : f 19 = .agg #[.int .i64 x.a, .int .i64 x.b, .int .i64 x.c, .int .i64 x.d] := hd 19 (by kernel_rfl)
            have g15 : f 15 = .bool false := hd 15 (by kernel_rfl)
            simp only [tmOf, putAll, List.map_cons, List.map_nil, List.setIfInBounds_toArray, List.set_cons_zero, List.set_cons_succ]
            refine wpOp_on rfl (wanted_of (b := false) rfl rfl rfl (congrArg some g15)) ?_
            go_wp2_with fail
            refine (HRS.out _).mono ?_
            rintro e' wf ⟨rfl, hbf⟩
            go_wp2_with fail
            simp [upd, g19, g15, hbf]
          · have g16 : f 16 = .agg #[.int .i64 SP.a, .int .i64 SP.b, .int .i64 SP.c, .int .i64 SP.d] := hd 16 (by kernel_rfl)
            have g17 : f 17 = .int .i64 B := hd 17 (by kernel_rfl)
            have g18 : f 18 = .int .i64 B := hd 18 (by kernel_rfl)
            have g20 : f 20 = .agg #[.int .i64 SX.a, .int .i64 SX.b, .int .i64 SX.c, .int .i64 SX.d] := hd 20 (by kernel_rfl)
            have g15 : f 15 = .bool false := hd 15 (by kernel_rfl)
            simp only [tmOf, putAll, List.map_cons, List.map_nil, List.setIfInBounds_toArray, List.set_cons_zero, List.set_cons_succ]
            refine wpOp_on rfl (wanted_of (b := false) rfl rfl rfl (congrArg some g15)) ?_
            go_wp2_with fail
            refine (HPC.out _).mono ?_
            rintro e' wf ⟨rfl, hbf⟩
            go_wp2_with fail
            simp [upd, g16, g17, g18, g20, g15, hbf]
          · have g21 : f 21 = .bool true := hd 21 (by kernel_rfl)
            have g15 : f 15 = .bool false := hd 15 (by kernel_rfl)
            simp only [tmOf, putAll, List.map_cons, List.map_nil, List.setIfInBounds_toArray, List.set_cons_zero, List.set_cons_succ]
            refine wpOp_on rfl (wanted_of (b := false) rfl rfl rfl (congrArg some g15)) ?_
            go_wp2
            simp [upd, g21, g15, Below.refl]
          · have g15 : f 15 = .bool false := hd 15 (by kernel_rfl)
            have g22 : f 22 = .bool false := hd 22 (by kernel_rfl)
            refine wpOp_list rfl ?_
            simp only [tmOf, putAll, List.map_cons, List.map_nil, List.setIfInBounds_toArray, List.set_cons_zero, List.set_cons_succ]
            go_wp2
            simp [upd, g15, g22, Below.refl]
          · simp only [List.length_cons, List.length_nil] at hx; omega
        · rintro f ww hS hd
          have g23 : f 23 = .bool false := hd 23 (by decide)
          simp only [tmOf, putAll, List.map_cons, List.map_nil, List.setIfInBounds_toArray, List.set_cons_zero, List.set_cons_succ]
          refine ‹∀ (a' : Act) (w' : World), Met _ a' w' → _› _ _ ?_
          go_meet
          case rel => exact ⟨g23, hS⟩
      case rest =>
      obtain ⟨rfl, hb9⟩ := hcut
      clear k0_0 k0_1 k0_2 k0_3 kP_0 kP_1 kP_2 kP_3 kV_0 kV_1 kV_2 kV_3 kO_0 kO_1 kO_2 kO_3 kS_0 kS_1 kS_2 kS_3 HPA HPB HPC HRO HRS HMK HRM HOP HSH HBAD HCH
      have k0 := k0.kept hb9
      have hb := hb.trans (hb9.mono hb.size)
      clear hb9 kP kV kO kS
      have c0 := k0.cell (i := 0) rfl
      have c1 := k0.cell (i := 1) rfl
      have c2 := k0.cell (i := 2) rfl
      have c3 := k0.cell (i := 3) rfl
      by_cases hi0 : i = 0
      · subst hi0
        go_wp2_with fail
        refine (HTM.out _).mono ?_
        rintro e' wz ⟨rfl, hz⟩
        have k0 := k0.kept hz
        have hb := hb.trans (hz.mono hb.size)
        clear c0 c1 c2 c3 hz
        have c0 := k0.cell (i := 0) rfl
        have c1 := k0.cell (i := 1) rfl
        have c2 := k0.cell (i := 2) rfl
        have c3 := k0.cell (i := 3) rfl
        have f0 := k0.frozen 0
        have f1 := k0.frozen 1
        have f2 := k0.frozen 2
        have f3 := k0.frozen 3
        go_wp2_with fail
        go_roundg (3 - (0 + 1))
        case measure => rw [HGK.out]; decide
        case rel => exact ⟨0 + 1, (tameV x 1000), by omega, rfl, by go_num, right_in (tame_right (by decide) (by decide)), Blk.put4 k0 _ _ _ _, (((hb.setCell (by simp only; omega) _).setCell (by simp only; omega) _).setCell (by simp only; omega) _).setCell (by simp only; omega) _⟩
      · have hi0' : ((i : Int) == 0) = false := by simp; omega
        have f0 := k0.frozen 0
        have f1 := k0.frozen 1
        have f2 := k0.frozen 2
        have f3 := k0.frozen 3
        go_wp2_with fail
        go_roundg (3 - (i + 1))
        case measure => rw [HGK.out]; omega
        case rel => exact ⟨i + 1, ⟨wrap64 (7 * x.a), wrap64 (7 * x.b), wrap64 (7 * x.c), wrap64 (7 * x.d)⟩, by omega, rfl, by go_num, ⟨wrap64_in _, wrap64_in _, wrap64_in _, wrap64_in _⟩, Blk.put4 k0 _ _ _ _, (((hb.setCell (by simp only; omega) _).setCell (by simp only; omega) _).setCell (by simp only; omega) _).setCell (by simp only; omega) _⟩
    · have hlti : ¬ (i : Int) < 3 := by omega
      go_wp2_with fail
      refine (awake3_any _).mono ?_
      rintro e' w6 ⟨rfl, hb6⟩
      go_wp2_with fail
      go_ret
      exact ⟨rfl, hb.trans (hb6.mono hb.size)⟩

end Go.Proofs.Ytopdeakjnloemaa

namespace Go.Proofs.Ytopdeakjnloemaa
open Go Go.ChangeShapes Go.WideShapes Go.ChangeAt Go.WideMaps Go.WideElems Go.RowKit Go.ChangeMaps

set_option maxRecDepth 100000 in
theorem planeMakes_lifted (os : Os) (started : os.Started) (H : Type) (enc : TypeId × Value → H) :
    ReturnsInHanded {} Try.checked os 3 .any (Rows.planeMakesSpec.pre6 enc Try.prog Try.f3 Rows.planeMakesRow.domain false) (Rows.planeMakesSpec.post enc Try.prog Try.f3 false true false false) := by
  refine returnsInHanded_of_change (C := Try.checked) Try.ownP started (by kernel_rfl) Try.func3
    (ChangeSpec.witness6 (enc := enc) (C := Try.checked) false ⟨#[], #[.agg #[.int .i64 0, .int .i64 0, .int .i64 0, .int .i64 0]], []⟩ 8 (by kernel_rfl) (by kernel_rfl) (by kernel_rfl) (by kernel_rfl)) ?_
  intro W base args ds gs before hval0 hW _ _
  have hval : ∀ (j : Nat) t v, Try.f3.params[j]? = some t → args[j]? = some v → Value.okWide Try.prog W .any base t v := hval0
  have hW' := hW
  obtain ⟨p, q, hA0, hV, rfl, hfz, hnd⟩ := hW
  have hA : DataW.TrodAll enc Try.prog W 0 (fun _ => true) true Try.f3.params.toList args.toList ds p := hA0
  rw [Try.params3] at hA hval
  obtain ⟨v0, d0, rfl, rfl, h0⟩ := trodAll_one hA
  obtain ⟨rfl, rfl⟩ := trodVars_none hV
  obtain ⟨x0, rfl, hx0⟩ := open_four Try.underlying23 (by kernel_rfl) (hval 0 23 v0 rfl rfl) h0
  simp only [List.append_nil] at hW'
  have hlt0 : ∀ x ∈ p, x.block < W.heap.size := fun x hx => by simpa using hW'.lt x (by simp [hx])
  refine (planeMakes_walk x0 W hx0).mono fun e W' ⟨he, hb⟩ => ?_
  subst he
  refine ⟨_, rfl, _, _, _, [], p, [], hW', ?_, ?_, rfl, hb.frame _, fun h => by cases h⟩
  · exact trodAll_mk1 (shut_bool Try.underlying4 true)
  · exact trodAll_mk1 (Below.trod Try.laidOutP (by kernel_rfl) (of_decide_eq_true (by kernel_rfl)) h0 hb hlt0)

theorem planeMakes_holds : Rows.PlaneMakesSaid :=
  OpenClaim.holds_of_wide 3 Try.f3 rfl rfl rfl rfl rfl rfl rfl ⟨rfl, rfl, rfl, rfl, rfl⟩ rfl rfl rfl rfl rfl (by kernel_rfl) Try.func3 (by kernel_rfl)
    (of_decide_eq_true (by kernel_rfl)) (by unfold Func.isWrapper; first | (rw [if_pos (by decide +kernel)]; kernel_rfl) | (rw [if_neg (by decide +kernel)]; exact ⟨rfl, rfl⟩))
    (fun os started H enc _ => planeMakes_lifted os started H enc)
#print axioms planeMakes_holds

end Go.Proofs.Ytopdeakjnloemaa
