/-
  LineDirections: for every three planes' numbers the law returns true, and the arguments read as they did. No condition.
-/
import Derived.Test.YtimkeblcdodfmaaGreatRows
import Derived.ProofKit
import Derived.Laws.IdiomArrays
import Derived.Deep.Slices
import Derived.Test.YtimkeblcdodfmaaGreatK1
import Derived.Test.YtimkeblcdodfmaaGreatK2
import Derived.Test.YtimkeblcdodfmaaGreatK3
import Derived.Test.YtimkeblcdodfmaaGreatK4
import Derived.Test.YtimkeblcdodfmaaGreatK5
import Derived.Test.YtimkeblcdodfmaaGreatK6
import Derived.Test.YtimkeblcdodfmaaGreatK7
import Derived.Test.YtimkeblcdodfmaaGreatK8
import Derived.Test.YtimkeblcdodfmaaGreatK9
import Derived.Test.YtimkeblcdodfmaaGreatK10
import Derived.Test.YtimkeblcdodfmaaGreatK11
import Derived.Test.YtimkeblcdodfmaaGreatK12
import Derived.Test.YtimkeblcdodfmaaGreatK13
import Derived.Test.YtimkeblcdodfmaaGreatK14
import Derived.Test.YtimkeblcdodfmaaGreatK15
import Derived.Test.YtimkeblcdodfmaaGreatK16
import Derived.Test.YtimkeblcdodfmaaGreatK17
import Derived.Test.YtimkeblcdodfmaaGreatK18
import Derived.Test.YtimkeblcdodfmaaGreatK19
import Derived.Test.YtimkeblcdodfmaaGreatK20
import Derived.Test.YtimkeblcdodfmaaGreatK21
import Derived.Test.YtimkeblcdodfmaaGreatK22
import Derived.Test.YtimkeblcdodfmaaGreatK23
import Derived.Test.YtimkeblcdodfmaaGreatK24
import Derived.Test.YtimkeblcdodfmaaGreatK25
import Derived.Test.YtimkeblcdodfmaaGreatK26
namespace Go.Proofs.YtimkeblcdodfmaaGreat
open Go Go.ChangeShapes Go.WideShapes Go.ChangeAt Go.WideMaps Go.WideElems Go.RowKit Go.ChangeMaps

theorem Tryz.ownP : ownKnob Tryz.prog.godebug = none := by kernel_rfl
theorem Tryz.laidOutP : laidOutB Tryz.prog = true := by kernel_rfl
theorem Tryz.cellsI64 : Tryz.prog.cellsOf 2 = 1 := by kernel_rfl

theorem inI64_wf {n : Int} (h : (Lit.int .i64 n).wf = true) : InI64 n := by
  unfold InI64
  have h1 : IntKind.i64.min = -9223372036854775808 := by decide
  have h2 : IntKind.i64.max = 9223372036854775807 := by decide
  simp [Lit.wf, h1, h2] at h
  omega

set_option maxRecDepth 100000 in
/-- Four int64 among the arguments. -/
theorem open_four {H : Type} {enc : TypeId × Value → H} {W : World} {base : Nat} {t : TypeId} {v : Value} {d : DataW H} {p : List MemPlace} {sp : Nat → Bool} (ht : Tryz.prog.underlying t = some (.array 4 2)) (hc : Tryz.prog.cellsOf t = 4) (hv : Value.okWide Tryz.prog W .any base t v) (hd : DataW.Trod enc Tryz.prog W 0 sp true t v d p) : ∃ q : V4, v = .agg #[.int .i64 q.a, .int .i64 q.b, .int .i64 q.c, .int .i64 q.d] ∧ InV q := by
  obtain ⟨cs, rfl, hsz, _⟩ : ∃ cs, v = .agg cs ∧ cs.size = Tryz.prog.cellsOf t ∧ Row.okWide Tryz.prog W .any base t cs := by
    simpa [Value.okWide, ht] using hv
  rw [hc] at hsz
  obtain ⟨l⟩ := cs
  have hl : l.length = 4 := hsz
  match l, hl with
  | [c0, c1, c2, c3], _ =>
    obtain ⟨fuel, hf⟩ := hd
    obtain ⟨z0, z1, z2, z3, m, _, hy0, hy1, hy2, hy3⟩ := trod_array4 ht Tryz.cellsI64 (by simpa [Value.cells] using hf)
    obtain ⟨x0, e0, _, w0⟩ := DataW.trod_int Tryz.underlying2 hy0
    obtain ⟨x1, e1, _, w1⟩ := DataW.trod_int Tryz.underlying2 hy1
    obtain ⟨x2, e2, _, w2⟩ := DataW.trod_int Tryz.underlying2 hy2
    obtain ⟨x3, e3, _, w3⟩ := DataW.trod_int Tryz.underlying2 hy3
    simp at e0 e1 e2 e3
    subst e0 e1 e2 e3
    exact ⟨⟨x0, x1, x2, x3⟩, rfl, inI64_wf w0, inI64_wf w1, inI64_wf w2, inI64_wf w3⟩

end Go.Proofs.YtimkeblcdodfmaaGreat

namespace Go.Proofs.YtimkeblcdodfmaaGreat
open Go Go.ChangeShapes Go.WideShapes Go.ChangeAt Go.WideMaps Go.WideElems Go.RowKit Go.ChangeMaps

set_option maxRecDepth 100000 in
theorem lineDirections_lifted (os : Os) (started : os.Started) (H : Type) (enc : TypeId × Value → H) :
    ReturnsInHanded {} Tryz.checked os 3 .any (Rows.lineDirectionsSpec.pre6 enc Tryz.prog Tryz.f3 Rows.lineDirectionsRow.domain false) (Rows.lineDirectionsSpec.post enc Tryz.prog Tryz.f3 false true false false) := by
  refine returnsInHanded_of_change (C := Tryz.checked) Tryz.ownP started (by kernel_rfl) Tryz.func3
    (ChangeSpec.witness6 (enc := enc) (C := Tryz.checked) false ⟨#[], #[.agg #[.int .i64 0, .int .i64 0, .int .i64 0, .int .i64 0], .agg #[.int .i64 0, .int .i64 0, .int .i64 0, .int .i64 0], .agg #[.int .i64 0, .int .i64 0, .int .i64 0, .int .i64 0]], []⟩ 8 (by kernel_rfl) (by kernel_rfl) (by kernel_rfl) (by kernel_rfl)) ?_
  intro W base args ds gs before hval0 hW _ _
  have hval : ∀ (j : Nat) t v, Tryz.f3.params[j]? = some t → args[j]? = some v → Value.okWide Tryz.prog W .any base t v := hval0
  have hW' := hW
  obtain ⟨p, q, hA0, hV, rfl, hfz, hnd⟩ := hW
  have hA : DataW.TrodAll enc Tryz.prog W 0 (fun _ => true) true Tryz.f3.params.toList args.toList ds p := hA0
  rw [Tryz.params3] at hA hval
  obtain ⟨v0, v1, v2, d0, d1, d2, p0, p1, p2, rfl, rfl, rfl, h0, h1, h2⟩ := trodAll_three hA
  obtain ⟨rfl, rfl⟩ := trodVars_none hV
  obtain ⟨x0, rfl, hx0⟩ := open_four Tryz.underlying23 (by kernel_rfl) (hval 0 23 v0 rfl rfl) h0
  obtain ⟨x1, rfl, hx1⟩ := open_four Tryz.underlying23 (by kernel_rfl) (hval 1 23 v1 rfl rfl) h1
  obtain ⟨x2, rfl, hx2⟩ := open_four Tryz.underlying23 (by kernel_rfl) (hval 2 23 v2 rfl rfl) h2
  simp only [List.append_nil, List.append_assoc] at hW'
  have hlt0 : ∀ x ∈ p0, x.block < W.heap.size := fun x hx => by simpa using hW'.lt x (by simp [hx])
  have hlt1 : ∀ x ∈ p1, x.block < W.heap.size := fun x hx => by simpa using hW'.lt x (by simp [hx])
  have hlt2 : ∀ x ∈ p2, x.block < W.heap.size := fun x hx => by simpa using hW'.lt x (by simp [hx])
  refine (lineDirections_walk x0 x1 x2 W hx0 hx1 hx2).mono fun e W' ⟨he, hb⟩ => ?_
  subst he
  refine ⟨_, rfl, _, _, _, [], p0 ++ (p1 ++ p2), [], hW', ?_, ?_, rfl, hb.frame _, fun h => by cases h⟩
  · exact trodAll_mk1 (shut_bool Tryz.underlying4 true)
  · exact trodAll_mk3 (Below.trod Tryz.laidOutP (by kernel_rfl) (of_decide_eq_true (by kernel_rfl)) h0 hb hlt0) (Below.trod Tryz.laidOutP (by kernel_rfl) (of_decide_eq_true (by kernel_rfl)) h1 hb hlt1) (Below.trod Tryz.laidOutP (by kernel_rfl) (of_decide_eq_true (by kernel_rfl)) h2 hb hlt2)

theorem lineDirections_holds : Rows.LineDirectionsSaid :=
  OpenClaim.holds_of_wide 3 Tryz.f3 rfl rfl rfl rfl rfl rfl rfl ⟨rfl, rfl, rfl, rfl, rfl⟩ rfl rfl rfl rfl rfl (by kernel_rfl) Tryz.func3 (by kernel_rfl)
    (of_decide_eq_true (by kernel_rfl)) (by unfold Func.isWrapper; first | (rw [if_pos (by decide +kernel)]; kernel_rfl) | (rw [if_neg (by decide +kernel)]; exact ⟨rfl, rfl⟩))
    (fun os started H enc _ => lineDirections_lifted os started H enc)
#print axioms lineDirections_holds

end Go.Proofs.YtimkeblcdodfmaaGreat
