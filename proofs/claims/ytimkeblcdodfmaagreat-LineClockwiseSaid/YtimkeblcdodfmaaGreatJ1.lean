/-
  PlaneMakes, its walk; PlaneTurns, plain: turned planes, moved planes and points, the plane through three points; LineTurns, plain: turned lines; Angles in a plane, plain: the reference's way to tell them, directions of a plane out of any numbers, the first direction clockwise; The reference of lines: how a vector lies to another one.
-/
import Derived.Test.YtimkeblcdodfmaaGreatProg
import Derived.WalkKit
import Derived.WalkSpells
import Derived.WalkLawsBesides
import Derived.Outline
import Derived.Deep.QuietTactic
import Derived.Deep.OwnRows
import Derived.Deep.RegionHeld3
import Derived.Deep.DeepCutAuto
import Derived.Deep.LoopGhost
import Derived.BigQuiet
import Derived.Lib.Hide
import Derived.KernelRfl
import Derived.Test.YtimkeblcdodfmaaGreatShelf
import Derived.Laws.StructEq
import Derived.Laws.Externs
import Derived.Shelf.Spec.BitsCarry
import Derived.Laws.BitsAllLaws
import Derived.Laws.Bits64b
import Derived.Lib.ItoaNum
import Derived.Deep.CutBlock
import Derived.WalkMore
import Derived.Lib.OthersKept
import Derived.RangeFuncNested
import Derived.RangeFuncBound
import Derived.RangeFuncCalls
import Derived.RangeFuncLeaves
import Derived.Shelf.Abstract
import Derived.Shelf.RegionOpen
import Derived.BigRegionIn
import Derived.OwnWalkIn
import Derived.TacticsInMore
import Derived.LoopNIn
import Derived.LoopIn
import Derived.Lib.ItoaMem
import Derived.Lib.ItoaLen
import Derived.StillTailTactics
import Derived.OrdersIn
import Derived.Deep.RegionWith
import Derived.Lib.AppendStr
import Derived.Lib.BufferMore
import Derived.ChangeKeysEq
import Derived.Lib.AtoiErrMem
import Derived.Lib.ParseIntB
import Derived.Lib.ParseIntBCases
import Derived.Laws.AppendOwnNone
import Derived.Test.YtimkeblcdodfmaaGreatK1
import Derived.Test.YtimkeblcdodfmaaGreatK2
import Derived.Test.YtimkeblcdodfmaaGreatK3
import Derived.Test.YtimkeblcdodfmaaGreatK4
import Derived.Test.YtimkeblcdodfmaaGreatK5
import Derived.Test.YtimkeblcdodfmaaGreatK6
import Derived.Test.YtimkeblcdodfmaaGreatK7
import Derived.Test.YtimkeblcdodfmaaGreatK8
import Derived.Test.YtimkeblcdodfmaaGreatK9
import Derived.Test.YtimkeblcdodfmaaGreatK10
import Derived.Test.YtimkeblcdodfmaaGreatK11
import Derived.Test.YtimkeblcdodfmaaGreatK12
import Derived.Test.YtimkeblcdodfmaaGreatK13
import Derived.Test.YtimkeblcdodfmaaGreatK14
import Derived.Test.YtimkeblcdodfmaaGreatK15
import Derived.Test.YtimkeblcdodfmaaGreatK16
import Derived.Test.YtimkeblcdodfmaaGreatK17
import Derived.Test.YtimkeblcdodfmaaGreatK18
import Derived.Test.YtimkeblcdodfmaaGreatK19
import Derived.Test.YtimkeblcdodfmaaGreatK20
import Derived.Test.YtimkeblcdodfmaaGreatK21
import Derived.Test.YtimkeblcdodfmaaGreatK22
import Derived.Test.YtimkeblcdodfmaaGreatK23
import Derived.Test.YtimkeblcdodfmaaGreatK24
import Derived.Test.YtimkeblcdodfmaaGreatK25
namespace Go.Proofs.YtimkeblcdodfmaaGreat
open Go.RowKit Go.Shelf
attribute [local go_sem] Oper.semAt_some

theorem wrap64_in (x : Int) : InI64 (wrap64 x) := by unfold InI64 wrap64; omega
end Go.Proofs.YtimkeblcdodfmaaGreat

namespace Go.Proofs.YtimkeblcdodfmaaGreat
open Go.RowKit Go.Shelf
attribute [local go_sem] Oper.semAt_some

theorem sgnI_opp (x : Int) : sgnI (-x) = -sgnI x := by
  rcases Int.lt_trichotomy x 0 with h | h | h
  · rw [sgnI_neg h, sgnI_pos (by omega)]; rfl
  · rw [h]; rfl
  · rw [sgnI_pos h, sgnI_neg (by omega)]
end Go.Proofs.YtimkeblcdodfmaaGreat

namespace Go.Proofs.YtimkeblcdodfmaaGreat
open Go.RowKit

def negV (v : V3) : V3 := ⟨-v.a, -v.b, -v.c⟩
theorem crs_swap (u v : V3) : crsV v u = negV (crsV u v) := by
  unfold crsV negV; simp only [V3.mk.injEq]; refine ⟨?_, ?_, ?_⟩ <;> grind
theorem dot_negR (u v : V3) : dotV u (negV v) = -dotV u v := by unfold dotV negV; grind
theorem sgnI_negN (x : Int) : sgnI (-x) = -sgnI x := sgnI_opp x
theorem sq_nn (n : Int) : 0 ≤ n * n := by rw [← Int.natAbs_mul_self]; omega
theorem sq_pos {v : V3} (h : v ≠ ⟨0, 0, 0⟩) : 0 < v.a * v.a + v.b * v.b + v.c * v.c := by
  obtain ⟨a, b, c⟩ := v
  have s1 := sq_nn a
  have s2 := sq_nn b
  have s3 := sq_nn c
  simp only
  rcases Int.lt_or_le 0 (a * a + b * b + c * c) with h0 | h0
  · exact h0
  · exfalso
    apply h
    have z : ∀ n : Int, n * n = 0 → n = 0 := fun n h => by rcases Int.mul_eq_zero.1 h with h | h <;> exact h
    rw [z a (by omega), z b (by omega), z c (by omega)]
end Go.Proofs.YtimkeblcdodfmaaGreat

namespace Go.Proofs.YtimkeblcdodfmaaGreat
open Go.RowKit Go.Shelf

theorem dotW_comm (u v : V3) : dotW u v = dotW v u := by
  unfold dotW
  rw [Int.mul_comm u.a, Int.mul_comm u.b, Int.mul_comm u.c]
theorem isInB_good {p : V4} {v : V3} (hp : RightQ p) (h : isInB p v = true) : Far v 2000000 ∧ v ≠ ⟨0, 0, 0⟩ ∧ dotV v (nrm p) = 0 := by
  have hf := isInB_far h
  unfold isInB at h
  rw [Bool.and_eq_true, Bool.and_eq_true] at h
  have h2 := h.2.1
  have h3 := of_decide_eq_true h.2.2
  rw [dotW_eq hf (nrm_far hp) (by decide)] at h3
  refine ⟨hf, ?_, h3⟩
  intro hv
  rw [decide_eq_true hv] at h2
  exact absurd h2 (by decide)
theorem nrm_ne {p : V4} (hp : RightQ p) : nrm p ≠ ⟨0, 0, 0⟩ := by
  intro h
  have h0 := hp.1
  apply h0
  exact ⟨congrArg V3.a h, congrArg V3.b h, congrArg V3.c h⟩
theorem lagrange3 (a b c x y z : Int) : (a * a + b * b + c * c) * (x * x + y * y + z * z) = (a * x + b * y + c * z) * (a * x + b * y + c * z) + ((b * z - c * y) * (b * z - c * y) + (c * x - a * z) * (c * x - a * z) + (a * y - b * x) * (a * y - b * x)) := by grind
/-- Two directions of a plane that are not turned are not at a right angle. -/
theorem dot_ne {n u v : V3} (hn : n ≠ ⟨0, 0, 0⟩) (hu : u ≠ ⟨0, 0, 0⟩) (hv : v ≠ ⟨0, 0, 0⟩) (nu : dotV u n = 0) (nv : dotV v n = 0) (hc : dotV n (crsV u v) = 0) : dotV u v ≠ 0 := by
  intro hd
  have pn := sq_pos hn
  have pu := sq_pos hu
  have pv := sq_pos hv
  unfold dotV at nu nv hc hd
  unfold crsV at hc
  simp only at hc
  have l1 := lagrange3 n.a n.b n.c (u.b * v.c - u.c * v.b) (u.c * v.a - u.a * v.c) (u.a * v.b - u.b * v.a)
  have e1 : n.b * (u.a * v.b - u.b * v.a) - n.c * (u.c * v.a - u.a * v.c) = 0 := by grind
  have e2 : n.c * (u.b * v.c - u.c * v.b) - n.a * (u.a * v.b - u.b * v.a) = 0 := by grind
  have e3 : n.a * (u.c * v.a - u.a * v.c) - n.b * (u.b * v.c - u.c * v.b) = 0 := by grind
  rw [e1, e2, e3, hc] at l1
  have l2 := lagrange3 u.a u.b u.c v.a v.b v.c
  rw [hd] at l2
  obtain ⟨x, hx⟩ : ∃ x, u.b * v.c - u.c * v.b = x := ⟨_, rfl⟩
  obtain ⟨y, hy⟩ : ∃ y, u.c * v.a - u.a * v.c = y := ⟨_, rfl⟩
  obtain ⟨z, hz⟩ : ∃ z, u.a * v.b - u.b * v.a = z := ⟨_, rfl⟩
  rw [hx, hy, hz] at l1 l2
  have l3 : x * x + y * y + z * z = 0 := by
    rcases Int.mul_eq_zero.1 (show (n.a * n.a + n.b * n.b + n.c * n.c) * (x * x + y * y + z * z) = 0 by rw [l1]; rfl) with h | h
    · omega
    · exact h
  rw [l3] at l2
  have := Int.mul_pos pu pv
  omega

/-- The reference's angle. -/
def angR (n u v : V3) : Int := if 0 < dotV n (crsV u v) then 1 else if dotV n (crsV u v) < 0 then 3 else if dotV u v < 0 then 2 else 0
theorem sgnI_one {x : Int} : sgnI x = 1 ↔ 0 < x := by unfold sgnI; split <;> (try split) <;> omega
theorem sgnI_neg1 {x : Int} : sgnI x = -1 ↔ x < 0 := by unfold sgnI; split <;> (try split) <;> omega
theorem sgnI_gt {x : Int} : 0 < sgnI x ↔ 0 < x := by unfold sgnI; split <;> (try split) <;> omega
theorem angR_eq {p : V4} {u v : V3} (hp : RightQ p) (hu : isInB p u = true) (hv : isInB p v = true) : angR (nrm p) u v = angV (nrm p) u v := by
  obtain ⟨fu, nu, du⟩ := isInB_good hp hu
  obtain ⟨fv, nv, dv⟩ := isInB_good hp hv
  unfold angR angV
  by_cases h1 : 0 < dotV (nrm p) (crsV u v)
  · rw [if_pos h1, if_pos (sgnI_one.2 h1)]
  · by_cases h2 : dotV (nrm p) (crsV u v) < 0
    · rw [if_neg h1, if_pos h2, if_neg (fun h => h1 (sgnI_one.1 h)), if_pos (sgnI_neg1.2 h2)]
    · have h0 : dotV (nrm p) (crsV u v) = 0 := by omega
      have hne := dot_ne (nrm_ne hp) nu nv du dv h0
      rw [if_neg h1, if_neg h2, if_neg (fun h => h1 (sgnI_one.1 h)), if_neg (fun h => h2 (sgnI_neg1.1 h))]
      by_cases h3 : dotV u v < 0
      · rw [if_pos h3, if_neg (fun h => by have := sgnI_gt.1 h; omega)]
      · rw [if_neg h3, if_pos (sgnI_gt.2 (by omega))]

/-- A direction of a plane, of any numbers. -/
def wayC (x : Int) : Int := x % 18446744073709551616 % 9 - 4
def wayA (v : V3) : V3 := ⟨wayC v.a, wayC v.b, wayC v.c⟩
def wayV (n v : V3) : V3 :=
  if crsV n (wayA v) ≠ ⟨0, 0, 0⟩ then crsV n (wayA v) else if crsV n ⟨1, 0, 0⟩ ≠ ⟨0, 0, 0⟩ then crsV n ⟨1, 0, 0⟩ else crsV n ⟨0, 1, 0⟩
theorem wayC_le (x : Int) : (wayC x).natAbs ≤ 4 := by unfold wayC; omega
theorem wayA_far (v : V3) : Far (wayA v) 4 := ⟨wayC_le _, wayC_le _, wayC_le _⟩
theorem wayV_far {n v : V3} (hn : Far n 1000) : Far (wayV n v) 8000 := by
  unfold wayV
  split
  · exact crs_far hn (wayA_far v)
  · split
    · exact crs_far (n := 4) hn (by unfold Far; decide)
    · exact crs_far (n := 4) hn (by unfold Far; decide)
/-- The index that the reference has found in i + 1 vectors. -/
def bestN (n f : V3) (l : List V3) : Nat → Nat
  | 0 => 0
  | i + 1 => if (if 3 - angV n f (atV l (i + 1)) ≠ 3 - angV n f (atV l (bestN n f l i)) then decide (3 - angV n f (atV l (i + 1)) < 3 - angV n f (atV l (bestN n f l i))) else decide (angV n (atV l (i + 1)) (atV l (bestN n f l i)) = 3)) = true then i + 1 else bestN n f l i
theorem bestN_le (n f : V3) (l : List V3) : ∀ i, bestN n f l i ≤ i
  | 0 => Nat.le_refl _
  | i + 1 => by
    have h := bestN_le n f l i
    have key : ∀ c : Bool, (if c = true then i + 1 else bestN n f l i) ≤ i + 1 := fun c => by
      cases c with
      | true => exact Nat.le_refl _
      | false => exact Nat.le_succ_of_le h
    exact key _
theorem ang_range (n u v : V3) : 0 ≤ angV n u v ∧ angV n u v ≤ 3 := by
  unfold angV
  split
  · omega
  · split
    · omega
    · split <;> omega
theorem ang_back (n u v : V3) : angV n u v = 3 ↔ angV n v u = 1 := by
  have e : dotV n (crsV v u) = -dotV n (crsV u v) := by rw [crs_swap u v, dot_negR]
  unfold angV
  rw [e, sgnI_negN]
  generalize sgnI (dotV n (crsV u v)) = s
  by_cases h1 : s = 1
  · subst h1; simp
  · by_cases h2 : s = -1
    · subst h2; simp
    · rw [if_neg h1, if_neg h2, if_neg (show ¬ -s = 1 by omega), if_neg (show ¬ -s = -1 by omega)]
      constructor
      · intro h; split at h <;> omega
      · intro h; split at h <;> omega
/-- What has been found by the class of the best one, and by none before. -/
theorem bestN_scan (n f : V3) (l : List V3) : ∀ i : Nat, scanN n f l (angV n f (atV l (bestN n f l i))) (i + 1) = (bestN n f l i : Int) ∧ ∀ t : Int, angV n f (atV l (bestN n f l i)) < t → scanN n f l t (i + 1) = -1
  | 0 => by
    have hb : bestN n f l 0 = 0 := rfl
    rw [hb]
    constructor
    · unfold scanN
      rw [if_pos ⟨rfl, Or.inl (show (-1 : Int) < 0 by decide)⟩]
    · intro t ht
      unfold scanN
      rw [if_neg (fun h => Int.ne_of_lt ht h.1)]
      rfl
  | i + 1 => by
    obtain ⟨h1, h2⟩ := bestN_scan n f l i
    obtain ⟨b, hb⟩ : ∃ b, bestN n f l i = b := ⟨_, rfl⟩
    have hbn : bestN n f l (i + 1) = if (if 3 - angV n f (atV l (i + 1)) ≠ 3 - angV n f (atV l b) then decide (3 - angV n f (atV l (i + 1)) < 3 - angV n f (atV l b)) else decide (angV n (atV l (i + 1)) (atV l b) = 3)) = true then i + 1 else b := by
      rw [← hb]; rfl
    rw [hb] at h1 h2
    have hs : ∀ t, scanN n f l t (i + 1 + 1) = if angV n f (atV l (i + 1)) = t ∧ (scanN n f l t (i + 1) < 0 ∨ angV n (atV l (scanN n f l t (i + 1)).toNat) (atV l (i + 1)) = 1) then ((i + 1 : Nat) : Int) else scanN n f l t (i + 1) := fun t => rfl
    obtain ⟨A, hA⟩ : ∃ A, angV n f (atV l (i + 1)) = A := ⟨_, rfl⟩
    obtain ⟨B, hB⟩ : ∃ B, angV n f (atV l b) = B := ⟨_, rfl⟩
    rw [hA, hB] at hbn
    rw [hB] at h1 h2
    by_cases hlt : B < A
    · -- a nearer class
      have hn : bestN n f l (i + 1) = i + 1 := by rw [hbn, if_pos (show (3 - A ≠ 3 - B) by omega), if_pos (by rw [decide_eq_true_eq]; omega)]
      rw [hn, hA]
      refine ⟨?_, fun t ht => ?_⟩
      · rw [hs, hA, if_pos ⟨rfl, Or.inl (by rw [h2 A hlt]; omega)⟩]
      · rw [hs, hA, if_neg (fun h => by have := h.1; omega)]; exact h2 t (by omega)
    · by_cases heq : A = B
      · subst heq
        by_cases h3 : angV n (atV l (i + 1)) (atV l b) = 3
        · have hn : bestN n f l (i + 1) = i + 1 := by rw [hbn, if_neg (show ¬ (3 - A ≠ 3 - A) by omega), if_pos (by rw [decide_eq_true_eq]; exact h3)]
          rw [hn, hA]
          refine ⟨?_, fun t ht => ?_⟩
          · rw [hs, hA, h1, if_pos ⟨rfl, Or.inr (by rw [Int.toNat_natCast]; exact (ang_back n _ _).1 h3)⟩]
          · rw [hs, hA, if_neg (fun h => by have := h.1; omega)]; exact h2 t ht
        · have hn : bestN n f l (i + 1) = b := by rw [hbn, if_neg (show ¬ (3 - A ≠ 3 - A) by omega), if_neg (by rw [decide_eq_true_eq]; exact h3)]
          rw [hn, hB]
          refine ⟨?_, fun t ht => ?_⟩
          · rw [hs, hA, h1, if_neg (fun h => by
              rcases h.2 with h | h
              · omega
              · rw [Int.toNat_natCast] at h; exact h3 ((ang_back n _ _).2 h))]
          · rw [hs, hA, if_neg (fun h => by have := h.1; omega)]; exact h2 t ht
      · have hn : bestN n f l (i + 1) = b := by rw [hbn, if_pos (show (3 - A ≠ 3 - B) by omega), if_neg (by rw [decide_eq_true_eq]; omega)]
        rw [hn, hB]
        refine ⟨?_, fun t ht => ?_⟩
        · rw [hs, hA, if_neg (fun h => heq h.1)]; exact h1
        · rw [hs, hA, if_neg (fun h => by have := h.1; omega)]; exact h2 t ht
theorem firstV_best {n f : V3} {l : List V3} (h : l ≠ []) : firstV n f l = (bestN n f l (l.length - 1) : Int) := by
  have hl : 0 < l.length := List.length_pos_iff.2 h
  obtain ⟨h1, h2⟩ := bestN_scan n f l (l.length - 1)
  rw [show l.length - 1 + 1 = l.length by omega] at h1 h2
  have hr := ang_range n f (atV l (bestN n f l (l.length - 1)))
  obtain ⟨B, hB⟩ : ∃ B, angV n f (atV l (bestN n f l (l.length - 1))) = B := ⟨_, rfl⟩
  rw [hB] at h1 h2 hr
  have hj : ∃ j : Nat, j < 4 ∧ B = 3 - (j : Int) := ⟨(3 - B).toNat, by omega, by omega⟩
  obtain ⟨j, hj4, rfl⟩ := hj
  rw [firstV_at hj4 (fun i hi => by rw [h2 (3 - (i : Int)) (by omega)]; omega) (by rw [h1]; omega), h1]

end Go.Proofs.YtimkeblcdodfmaaGreat

namespace Go.Proofs.YtimkeblcdodfmaaGreat
open Go.RowKit Go.Shelf
attribute [local go_sem] Oper.semAt_some

set_option maxRecDepth 100000 in
set_option maxHeartbeats 4000000 in
theorem angR_any (p : V4) (u v : V3) (w : World) (hn : Far (nrm p) 1000) (hu : Far u 2000000) (hv : Far v 2000000) : Calls Tryz.prog 38 #[.agg #[.int .i64 p.a, .int .i64 p.b, .int .i64 p.c, .int .i64 p.d], .agg #[.int .i64 u.a, .int .i64 u.b, .int .i64 u.c], .agg #[.int .i64 v.a, .int .i64 v.b, .int .i64 v.c]] w fun e w' => e = .returned (.int .i64 (angR (nrm p) u v)) ∧ Below w.heap.size w w' := by
  obtain ⟨w1, hw1⟩ : ∃ w1, (((w.alloc (.cells #[.int .i64 p.a, .int .i64 p.b, .int .i64 p.c, .int .i64 p.d] 23)).alloc (.cells #[.int .i64 u.a, .int .i64 u.b, .int .i64 u.c] 24)).alloc (.cells #[.int .i64 v.a, .int .i64 v.b, .int .i64 v.c] 24)) = w1 := ⟨_, rfl⟩
  have hb1 : Below w.heap.size w w1 := by rw [← hw1]; exact bw3 w _ _ _
  have k0 : Blk w1 (w.heap.size) #[.int .i64 p.a, .int .i64 p.b, .int .i64 p.c, .int .i64 p.d] 23 := by rw [← hw1]; exact (((Blk.new w _ _).alloc _).alloc _)
  have k1 : Blk w1 (w.heap.size + 1) #[.int .i64 u.a, .int .i64 u.b, .int .i64 u.c] 24 := by rw [← hw1]; exact ((Blk.new' _ _ _ (by simp)).alloc _)
  have k2 : Blk w1 (w.heap.size + 1 + 1) #[.int .i64 v.a, .int .i64 v.b, .int .i64 v.c] 24 := by rw [← hw1]; exact (Blk.new' _ _ _ (by simp))
  have hxf := crs_far hu hv
  have hnr := fun W => normalR_any p W
  have hcr := fun W => crsR_any u v 2000000 2000000 W hu hv (by decide)
  have hdt := fun W => dotR_any (nrm p) (crsV u v) 1000 (2 * (2000000 * 2000000)) W hn hxf (by decide)
  have hd2 := fun W => dotR_any u v 2000000 2000000 W hu hv (by decide)
  unfold angR
  obtain ⟨t, ht⟩ : ∃ y, dotV (nrm p) (crsV u v) = y := ⟨_, rfl⟩
  rw [ht] at hdt ⊢
  obtain ⟨n, hne⟩ : ∃ y, nrm p = y := ⟨_, rfl⟩
  rw [hne] at hnr hdt
  obtain ⟨x, hx⟩ : ∃ y, crsV u v = y := ⟨_, rfl⟩
  rw [hx] at hdt hcr
  obtain ⟨t2, ht2⟩ : ∃ y, dotV u v = y := ⟨_, rfl⟩
  rw [ht2] at hd2 ⊢
  have HN := Lib.hid hnr
  have HX := Lib.hid hcr
  have HT := Lib.hid hdt
  have HT2 := Lib.hid hd2
  obtain ⟨R, hR⟩ : ∃ y : Int, (if 0 < t then 1 else if t < 0 then 3 else if t2 < 0 then 2 else 0) = y := ⟨_, rfl⟩
  rw [hR]
  have HR := Lib.hid hR
  clear hxf hnr hcr hdt hd2 ht hne hx ht2 hR hn hu hv
  go_enter Tryz.func38, Tryz.ntmps38
  go_upto_region 1 with fail
  go_cut [7] from 8 to 13 (fun v7 wx => v7 = .int .i64 t ∧ Below w1.heap.size w1 wx)
  case first =>
    refine wp_region_pure' (fun ix => match ix with | 0 => .agg #[.int .i64 p.a, .int .i64 p.b, .int .i64 p.c, .int .i64 p.d] | 1 => .agg #[.int .i64 n.a, .int .i64 n.b, .int .i64 n.c] | 2 => .agg #[.int .i64 u.a, .int .i64 u.b, .int .i64 u.c] | 3 => .agg #[.int .i64 v.a, .int .i64 v.b, .int .i64 v.c] | 4 => .agg #[.int .i64 x.a, .int .i64 x.b, .int .i64 x.c] | 5 => .int .i64 t | _ => .int .i64 t) (by kernel_rfl) (by kernel_rfl) ?_ ?_
    · rintro ix hx f ww hS hd
      have ka := k0.kept hS
      have kb := k1.kept hS
      have kc := k2.kept hS
      have a0_ := ka.cell (i := 0) rfl
      have a1_ := ka.cell (i := 1) rfl
      have a2_ := ka.cell (i := 2) rfl
      have a3_ := ka.cell (i := 3) rfl
      have b0_ := kb.cell (i := 0) rfl
      have b1_ := kb.cell (i := 1) rfl
      have b2_ := kb.cell (i := 2) rfl
      have c0_ := kc.cell (i := 0) rfl
      have c1_ := kc.cell (i := 1) rfl
      have c2_ := kc.cell (i := 2) rfl
      rcases ix with _ | _ | _ | _ | _ | _ | _ | ix
      · refine wpOp_list rfl ?_
        simp only [tmOf, putAll, List.map_cons, List.map_nil, List.setIfInBounds_toArray, List.set_cons_zero, List.set_cons_succ]
        go_wp2
        simp [upd, Below.refl]
      · have g0 : f 0 = .agg #[.int .i64 p.a, .int .i64 p.b, .int .i64 p.c, .int .i64 p.d] := hd 0 (by kernel_rfl)
        refine wpOp_list rfl ?_
        simp only [tmOf, putAll, List.map_cons, List.map_nil, List.setIfInBounds_toArray, List.set_cons_zero, List.set_cons_succ]
        go_wp2_with fail
        refine (HN.out _).mono ?_
        rintro e' wf ⟨rfl, hbf⟩
        go_wp2_with fail
        simp [upd, g0, hbf]
      · refine wpOp_list rfl ?_
        simp only [tmOf, putAll, List.map_cons, List.map_nil, List.setIfInBounds_toArray, List.set_cons_zero, List.set_cons_succ]
        go_wp2
        simp [upd, Below.refl]
      · refine wpOp_list rfl ?_
        simp only [tmOf, putAll, List.map_cons, List.map_nil, List.setIfInBounds_toArray, List.set_cons_zero, List.set_cons_succ]
        go_wp2
        simp [upd, Below.refl]
      · have g2 : f 2 = .agg #[.int .i64 u.a, .int .i64 u.b, .int .i64 u.c] := hd 2 (by kernel_rfl)
        have g3 : f 3 = .agg #[.int .i64 v.a, .int .i64 v.b, .int .i64 v.c] := hd 3 (by kernel_rfl)
        refine wpOp_list rfl ?_
        simp only [tmOf, putAll, List.map_cons, List.map_nil, List.setIfInBounds_toArray, List.set_cons_zero, List.set_cons_succ]
        go_wp2_with fail
        refine (HX.out _).mono ?_
        rintro e' wf ⟨rfl, hbf⟩
        go_wp2_with fail
        simp [upd, g2, g3, hbf]
      · have g1 : f 1 = .agg #[.int .i64 n.a, .int .i64 n.b, .int .i64 n.c] := hd 1 (by kernel_rfl)
        have g4 : f 4 = .agg #[.int .i64 x.a, .int .i64 x.b, .int .i64 x.c] := hd 4 (by kernel_rfl)
        refine wpOp_list rfl ?_
        simp only [tmOf, putAll, List.map_cons, List.map_nil, List.setIfInBounds_toArray, List.set_cons_zero, List.set_cons_succ]
        go_wp2_with fail
        refine (HT.out _).mono ?_
        rintro e' wf ⟨rfl, hbf⟩
        go_wp2_with fail
        simp [upd, g1, g4, hbf]
      · have g5 : f 5 = .int .i64 t := hd 5 (by kernel_rfl)
        refine wpOp_list rfl ?_
        simp only [tmOf, putAll, List.map_cons, List.map_nil, List.setIfInBounds_toArray, List.set_cons_zero, List.set_cons_succ]
        go_wp2
        simp [upd, g5, Below.refl]
      · simp only [List.length_cons, List.length_nil] at hx; omega
    · rintro f ww hS hd
      have gl : f 6 = .int .i64 t := hd 6 (by decide)
      simp only [tmOf, putAll, List.map_cons, List.map_nil, List.setIfInBounds_toArray, List.set_cons_zero, List.set_cons_succ]
      refine ‹∀ (a' : Act) (w' : World), Met _ a' w' → _› _ _ ?_
      go_meet
      case rel => exact ⟨gl, hS⟩
  case rest =>
  obtain ⟨rfl, hbx⟩ := hcut
  have k1 := k1.kept hbx
  have k2 := k2.kept hbx
  have hb := hb1.trans (hbx.mono hb1.size)
  clear hbx hw1 hb1 HN HX HT k0
  generalize wc = wy at *
  by_cases h1 : 0 < t
  · have hR1 : R = 1 := by rw [← HR.out, if_pos h1]
    have HR1 := Lib.hid hR1
    clear hR1 HR HT2
    go_wp2_with fail
    go_ret
    exact ⟨by rw [HR1.out]; rfl, hb⟩
  · by_cases h2 : t < 0
    · have hR1 : R = 3 := by rw [← HR.out, if_neg h1, if_pos h2]
      have HR1 := Lib.hid hR1
      clear hR1 HR HT2
      go_wp2_with fail
      go_ret
      exact ⟨by rw [HR1.out]; rfl, hb⟩
    · have hR1 : R = if t2 < 0 then 2 else 0 := by rw [← HR.out, if_neg h1, if_neg h2]
      have HR1 := Lib.hid hR1
      clear hR1 HR
      have b0 := k1.cell (i := 0) rfl
      have b1 := k1.cell (i := 1) rfl
      have b2 := k1.cell (i := 2) rfl
      have c0 := k2.cell (i := 0) rfl
      have c1 := k2.cell (i := 1) rfl
      have c2 := k2.cell (i := 2) rfl
      go_wp2_with fail
      refine (HT2.out _).mono ?_
      rintro e' wf ⟨rfl, hbf⟩
      have hb := hb.trans (hbf.mono hb.size)
      clear b0 b1 b2 c0 c1 c2 hbf k1 k2 HT2
      by_cases h3 : t2 < 0
      · have hR2 : R = 2 := by rw [HR1.out, if_pos h3]
        have HR2 := Lib.hid hR2
        clear hR2 HR1
        go_wp2_with fail
        go_ret
        exact ⟨by rw [HR2.out]; rfl, hb⟩
      · have hR2 : R = 0 := by rw [HR1.out, if_neg h3]
        have HR2 := Lib.hid hR2
        clear hR2 HR1
        go_wp2_with fail
        go_ret
        exact ⟨by rw [HR2.out]; rfl, hb⟩

end Go.Proofs.YtimkeblcdodfmaaGreat
