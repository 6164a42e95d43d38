/-
  Package plane: Through, plain; what it reads; Package plane: the order of two planes' coefficients; Package plane: on which side of a plane a point lies; Package plane: planes moved; Package line: vectors; A region that draws its order and ends in 'a, b, c := ..' for variables that lie in memory, of known values; Package line: the direction of a line; Package line: checks of two planes, of vectors.
-/
import Derived.ChangeKeysEq
import Derived.Deep.CutBlock
import Derived.Test.YtimkeblcdodfmaaGreatK1
import Derived.Test.YtimkeblcdodfmaaGreatK2
import Derived.Test.YtimkeblcdodfmaaGreatK3
import Derived.Test.YtimkeblcdodfmaaGreatK4
import Derived.Test.YtimkeblcdodfmaaGreatK5
import Derived.Test.YtimkeblcdodfmaaGreatK6
import Derived.Test.YtimkeblcdodfmaaGreatK7
namespace Go.Proofs.YtimkeblcdodfmaaGreat
open Go.RowKit Go.Shelf
attribute [local go_sem] Oper.semAt_some

theorem rdI3 {W : World} {B : Nat} {x y z : Int} {t : TypeId} (hB : Blk W B #[.int .i64 x, .int .i64 y, .int .i64 z] t) : RdI W (some ⟨B, 0, none⟩) [x, y, z] := by
  intro i q hi
  match i, hi with
  | 0, hi => cases hi; exact ⟨_, 0, rfl, hB.lt, hB.cell (i := 0) rfl⟩
  | 1, hi => cases hi; exact ⟨_, 0, rfl, hB.lt, hB.cell (i := 1) rfl⟩
  | 2, hi => cases hi; exact ⟨_, 0, rfl, hB.lt, hB.cell (i := 2) rfl⟩
  | i + 3, hi => simp at hi

theorem minor_fits {q1 q2 q3 r1 r2 r3 s1 s2 s3 : Int} {M K : Nat} (h1 : q1.natAbs ≤ M) (h2 : q2.natAbs ≤ M) (h3 : q3.natAbs ≤ K) (i1 : r1.natAbs ≤ M) (i2 : r2.natAbs ≤ M) (i3 : r3.natAbs ≤ K) (j1 : s1.natAbs ≤ M) (j2 : s2.natAbs ≤ M) (j3 : s3.natAbs ≤ K) :
    (minorZ q1 q2 q3 r1 r2 r3 s1 s2 s3).natAbs ≤ 6 * (M * M * K) := by
  have two : ∀ {a b c d : Int}, a.natAbs ≤ M → b.natAbs ≤ M → c.natAbs ≤ M → d.natAbs ≤ M → (a * b - c * d).natAbs ≤ 2 * (M * M) := by
    intro a b c d ha hb hc hd
    have e1 := mul_le_nat ha hb
    have e2 := mul_le_nat hc hd
    omega
  have e1 := mul_le_nat (two h1 i2 h2 i1) j3
  have e2 := mul_le_nat (two i1 j2 i2 j1) h3
  have e3 := mul_le_nat (two j1 h2 j2 h1) i3
  rw [Nat.mul_assoc 2] at e1 e2 e3
  unfold minorZ
  omega

/-- The last coefficient of the plane through three points. -/
def thrD (p q r : V4) : Int := -(minorZ p.a p.b p.c q.a q.b q.c r.a r.b r.c)
def SoundQ (p : V4) : Prop := SoundP p.a p.b p.c p.d
instance (p : V4) : Decidable (SoundQ p) := by unfold SoundQ; infer_instance
def zero3 (p q r : V4) : Prop := crossX p q r = 0 ∧ crossY p q r = 0 ∧ crossZ p q r = 0
instance (p q r : V4) : Decidable (zero3 p q r) := by unfold zero3; infer_instance
def thrOk (p q r : V4) : Prop := MakeOk (crossX p q r) (crossY p q r) (crossZ p q r) (thrD p q r)
instance (p q r : V4) : Decidable (thrOk p q r) := by unfold thrOk; infer_instance
end Go.Proofs.YtimkeblcdodfmaaGreat

namespace Go.Proofs.YtimkeblcdodfmaaGreat
open Go.RowKit Go.Shelf
attribute [local go_sem] Oper.semAt_some

theorem cmp_int64 (a b : Int) (w : World) :
    Calls Tryz.prog 81 #[.int .i64 a, .int .i64 b] w fun e w' => e = .returned (.int .i64 (sgnCmp a b)) ∧ w = w' := by
  rcases Int.lt_trichotomy a b with h | rfl | h
  · have H := Lib.hid (sgnCmp_lt h)
    go_enter Tryz.func81, Tryz.ntmps81
    go_wp2
    go_ret
    exact ⟨ret_int H.out.symm, rfl⟩
  · have H := Lib.hid (sgnCmp_eq a)
    go_enter Tryz.func81, Tryz.ntmps81
    go_wp2
    go_ret
    exact ⟨ret_int H.out.symm, rfl⟩
  · have H := Lib.hid (sgnCmp_gt h)
    go_enter Tryz.func81, Tryz.ntmps81
    go_wp2
    go_ret
    exact ⟨ret_int H.out.symm, rfl⟩

end Go.Proofs.YtimkeblcdodfmaaGreat

namespace Go.Proofs.YtimkeblcdodfmaaGreat
open Go.RowKit Go.Shelf
attribute [local go_sem] Oper.semAt_some

theorem checks2 (w : World) (v u : Value) (r s : Int) (t : TypeId) (h : ChkIs w v r) (h2 : ChkIs w u s) : RdC (w.alloc (.cells #[v, u] t)) (some ⟨w.heap.size, 0, none⟩) [r, s] := by
  have hB := Blk.new w #[v, u] t
  intro i y hi
  match i, hi with
  | 0, hi => cases hi; exact ⟨_, 0, v, rfl, hB.lt, hB.cell (i := 0) rfl, h.below ((Below.refl _ w).alloc (Nat.le_refl _) _)⟩
  | 1, hi => cases hi; exact ⟨_, 0, u, rfl, hB.lt, hB.cell (i := 1) rfl, h2.below ((Below.refl _ w).alloc (Nat.le_refl _) _)⟩
  | i + 2, hi => simp at hi

theorem RdC.below {w w' : World} {p : Option Addr} {rs : List Int} (h : RdC w p rs) (hb : Below w.heap.size w w') : RdC w' p rs := by
  intro i r hi
  obtain ⟨b, off, v, rfl, hl, hc, hv⟩ := h i r hi
  exact ⟨b, off, v, rfl, Nat.lt_of_lt_of_le hl hb.size, (hb.cell (p := ⟨b, off + i, none⟩) hl).trans hc, hv.below hb⟩

/-- What the checks of a plane and a point yield. -/
def SideR (p q : V4) (rp rq : Int) (i : Nat) (v : Value) (w : World) : Prop :=
  match i with
  | 0 => v = .agg #[.int .i64 p.a, .int .i64 p.b, .int .i64 p.c, .int .i64 p.d]
  | 1 => ∃ b, v = .slice (some ⟨b, 0, none⟩) 1 1 ∧ RdV w (some ⟨b, 0, none⟩) [p]
  | 2 => ChkIs w v rp
  | 3 => v = .agg #[.int .i64 q.a, .int .i64 q.b, .int .i64 q.c, .int .i64 q.d]
  | 4 => ∃ b, v = .slice (some ⟨b, 0, none⟩) 1 1 ∧ RdV w (some ⟨b, 0, none⟩) [q]
  | 5 => ChkIs w v rq
  | 6 => ∃ b, v = .slice (some ⟨b, 0, none⟩) 2 2 ∧ RdC w (some ⟨b, 0, none⟩) [rp, rq]
  | _ => v = .int .i64 (firstE [rp, rq])
theorem SideR.mono {p q : V4} {rp rq : Int} (i : Nat) (v : Value) (w w' : World) (hb : Below w.heap.size w w') (h : SideR p q rp rq i v w) : SideR p q rp rq i v w' := by
  rcases i with _ | _ | _ | _ | _ | _ | _ | i
  · exact h
  · obtain ⟨b, e, h⟩ := h; exact ⟨b, e, h.below hb⟩
  · exact ChkIs.below h hb
  · exact h
  · obtain ⟨b, e, h⟩ := h; exact ⟨b, e, h.below hb⟩
  · exact ChkIs.below h hb
  · obtain ⟨b, e, h⟩ := h; exact ⟨b, e, h.below hb⟩
  · exact h

end Go.Proofs.YtimkeblcdodfmaaGreat

namespace Go.Proofs.YtimkeblcdodfmaaGreat
open Go.RowKit Go.Shelf
attribute [local go_sem] Oper.semAt_some

/-- The last coefficient of a plane that is moved. -/
def shD (p : V4) (x y z : Int) : Int := p.d - p.a * x - p.b * y - p.c * z
def RightQ (p : V4) : Prop := RightP p.a p.b p.c p.d
instance (p : V4) : Decidable (RightQ p) := by unfold RightQ; infer_instance
def far3 (x y z : Int) : Prop := x.natAbs ≤ 1000000 ∧ y.natAbs ≤ 1000000 ∧ z.natAbs ≤ 1000000
instance (x y z : Int) : Decidable (far3 x y z) := by unfold far3; infer_instance
def shOk (p : V4) (x y z : Int) : Prop := RightP p.a p.b p.c (shD p x y z)
instance (p : V4) (x y z : Int) : Decidable (shOk p x y z) := by unfold shOk; infer_instance
end Go.Proofs.YtimkeblcdodfmaaGreat

namespace Go.Proofs.YtimkeblcdodfmaaGreat
open Go.RowKit Go.Shelf
attribute [local go_sem] Oper.semAt_some

/-- A vector. -/
structure V3 where
  a : Int
  b : Int
  c : Int
deriving DecidableEq
def nrm (p : V4) : V3 := ⟨p.a, p.b, p.c⟩
def crsV (u v : V3) : V3 := ⟨u.b * v.c - u.c * v.b, u.c * v.a - u.a * v.c, u.a * v.b - u.b * v.a⟩
def dotV (u v : V3) : Int := u.a * v.a + u.b * v.b + u.c * v.c
def Far (u : V3) (m : Nat) : Prop := u.a.natAbs ≤ m ∧ u.b.natAbs ≤ m ∧ u.c.natAbs ≤ m
theorem mul_fit {x y : Int} {m n : Nat} (hx : x.natAbs ≤ m) (hy : y.natAbs ≤ n) : (x * y).natAbs ≤ m * n := by
  rw [Int.natAbs_mul]; exact Nat.mul_le_mul hx hy
theorem crs_far {u v : V3} {m n : Nat} (hu : Far u m) (hv : Far v n) : Far (crsV u v) (2 * (m * n)) := by
  obtain ⟨u1, u2, u3⟩ := hu
  obtain ⟨v1, v2, v3⟩ := hv
  have h1 := mul_fit u2 v3
  have h2 := mul_fit u3 v2
  have h3 := mul_fit u3 v1
  have h4 := mul_fit u1 v3
  have h5 := mul_fit u1 v2
  have h6 := mul_fit u2 v1
  unfold Far crsV
  refine ⟨?_, ?_, ?_⟩ <;> simp only <;> omega
theorem Blk.put3 {W : World} {B : Nat} {a b c : Value} {t : TypeId} (h : Blk W B #[a, b, c] t) (a' b' c' : Value) : Blk (((W.setCell ⟨B, 0, none⟩ a').setCell ⟨B, 1, none⟩ b').setCell ⟨B, 2, none⟩ c') B #[a', b', c'] t :=
  ((h.set_eq 0 a' rfl).set_eq 1 b' rfl).set_eq 2 c' rfl

set_option maxRecDepth 100000 in
set_option maxHeartbeats 4000000 in
theorem normal_any (p : V4) (w : World) : Calls Tryz.prog 51 #[.agg #[.int .i64 p.a, .int .i64 p.b, .int .i64 p.c, .int .i64 p.d]] w fun e w' => e = .returned (.agg #[.int .i64 (nrm p).a, .int .i64 (nrm p).b, .int .i64 (nrm p).c]) ∧ Below w.heap.size w w' := by
  obtain ⟨w1, hw1⟩ : ∃ w1, ((w.alloc (.cells #[.int .i64 p.a, .int .i64 p.b, .int .i64 p.c, .int .i64 p.d] 23)).alloc (.cells #[.int .i64 0, .int .i64 0, .int .i64 0] 24)) = w1 := ⟨_, rfl⟩
  have hb1 : Below w.heap.size w w1 := by rw [← hw1]; exact bw2 w _ _
  have k0 : Blk w1 (w.heap.size) #[.int .i64 p.a, .int .i64 p.b, .int .i64 p.c, .int .i64 p.d] 23 := by rw [← hw1]; exact ((Blk.new w _ _).alloc _)
  have kR : Blk w1 (w.heap.size + 1) #[.int .i64 0, .int .i64 0, .int .i64 0] 24 := by rw [← hw1]; exact (Blk.new' _ _ _ (by simp))
  unfold nrm
  have c0 := k0.cell (i := 0) rfl
  have c1 := k0.cell (i := 1) rfl
  have c2 := k0.cell (i := 2) rfl
  have d0 := kR.cell (i := 0) rfl
  have q0 := kR.frozen 0
  have d1 := kR.cell (i := 1) rfl
  have q1 := kR.frozen 1
  have d2 := kR.cell (i := 2) rfl
  have q2 := kR.frozen 2
  go_enter Tryz.func51, Tryz.ntmps51
  go_wp2_with fail
  have L := Blk.put3 kR (.int .i64 p.a) (.int .i64 p.b) (.int .i64 p.c)
  have z0 := L.cell (i := 0) rfl
  have z1 := L.cell (i := 1) rfl
  have z2 := L.cell (i := 2) rfl
  exact bodyPost_ret (v := .agg #[.int .i64 p.a, .int .i64 p.b, .int .i64 p.c]) (by simp [results, Tryz.results51, go_sem, z0, z1, z2]) rfl ⟨rfl, ((hb1.setCell (by simp only; omega) _).setCell (by simp only; omega) _).setCell (by simp only; omega) _⟩

/-- As the machine reckons. -/
def crsW (u v : V3) : V3 := ⟨wrap64 (wrap64 (u.b * v.c) - wrap64 (u.c * v.b)), wrap64 (wrap64 (u.c * v.a) - wrap64 (u.a * v.c)), wrap64 (wrap64 (u.a * v.b) - wrap64 (u.b * v.a))⟩
def dotW (u v : V3) : Int := wrap64 (wrap64 (wrap64 (u.a * v.a) + wrap64 (u.b * v.b)) + wrap64 (u.c * v.c))
theorem wrap_id {x : Int} (h : x.natAbs < 9223372036854775808) : wrap64 x = x := by unfold wrap64; omega
theorem crsW_eq {u v : V3} {m n : Nat} (hu : Far u m) (hv : Far v n) (hmn : m * n ≤ 4000000000000000000) : crsW u v = crsV u v := by
  obtain ⟨u1, u2, u3⟩ := hu
  obtain ⟨v1, v2, v3⟩ := hv
  have h1 := mul_fit u2 v3
  have h2 := mul_fit u3 v2
  have h3 := mul_fit u3 v1
  have h4 := mul_fit u1 v3
  have h5 := mul_fit u1 v2
  have h6 := mul_fit u2 v1
  unfold crsW crsV
  rw [wrap_id (x := u.b * v.c) (by omega), wrap_id (x := u.c * v.b) (by omega), wrap_id (x := u.c * v.a) (by omega), wrap_id (x := u.a * v.c) (by omega), wrap_id (x := u.a * v.b) (by omega), wrap_id (x := u.b * v.a) (by omega), wrap_id (by omega), wrap_id (by omega), wrap_id (by omega)]
theorem dotW_eq {u v : V3} {m n : Nat} (hu : Far u m) (hv : Far v n) (hmn : m * n ≤ 3000000000000000000) : dotW u v = dotV u v := by
  obtain ⟨u1, u2, u3⟩ := hu
  obtain ⟨v1, v2, v3⟩ := hv
  have h1 := mul_fit u1 v1
  have h2 := mul_fit u2 v2
  have h3 := mul_fit u3 v3
  unfold dotW dotV
  rw [wrap_id (x := u.a * v.a) (by omega), wrap_id (x := u.b * v.b) (by omega), wrap_id (x := u.c * v.c) (by omega), wrap_id (x := u.a * v.a + u.b * v.b) (by omega), wrap_id (by omega)]

set_option maxRecDepth 100000 in
set_option maxHeartbeats 4000000 in
theorem crsW_any (u v : V3) (w : World) : Calls Tryz.prog 52 #[.agg #[.int .i64 u.a, .int .i64 u.b, .int .i64 u.c], .agg #[.int .i64 v.a, .int .i64 v.b, .int .i64 v.c]] w fun e w' => e = .returned (.agg #[.int .i64 (crsW u v).a, .int .i64 (crsW u v).b, .int .i64 (crsW u v).c]) ∧ Below w.heap.size w w' := by
  obtain ⟨w1, hw1⟩ : ∃ w1, (((w.alloc (.cells #[.int .i64 u.a, .int .i64 u.b, .int .i64 u.c] 24)).alloc (.cells #[.int .i64 v.a, .int .i64 v.b, .int .i64 v.c] 24)).alloc (.cells #[.int .i64 0, .int .i64 0, .int .i64 0] 24)) = w1 := ⟨_, rfl⟩
  have hb1 : Below w.heap.size w w1 := by rw [← hw1]; exact bw3 w _ _ _
  have k0 : Blk w1 (w.heap.size) #[.int .i64 u.a, .int .i64 u.b, .int .i64 u.c] 24 := by rw [← hw1]; exact (((Blk.new w _ _).alloc _).alloc _)
  have k1 : Blk w1 (w.heap.size + 1) #[.int .i64 v.a, .int .i64 v.b, .int .i64 v.c] 24 := by rw [← hw1]; exact ((Blk.new' _ _ _ (by simp)).alloc _)
  have kR : Blk w1 (w.heap.size + 1 + 1) #[.int .i64 0, .int .i64 0, .int .i64 0] 24 := by rw [← hw1]; exact (Blk.new' _ _ _ (by simp))
  unfold crsW
  have c0 := k0.cell (i := 0) rfl
  have g0 := k1.cell (i := 0) rfl
  have d0 := kR.cell (i := 0) rfl
  have q0 := kR.frozen 0
  have c1 := k0.cell (i := 1) rfl
  have g1 := k1.cell (i := 1) rfl
  have d1 := kR.cell (i := 1) rfl
  have q1 := kR.frozen 1
  have c2 := k0.cell (i := 2) rfl
  have g2 := k1.cell (i := 2) rfl
  have d2 := kR.cell (i := 2) rfl
  have q2 := kR.frozen 2
  go_enter Tryz.func52, Tryz.ntmps52
  go_wp2_with fail
  have L := Blk.put3 kR (.int .i64 (wrap64 (wrap64 (u.b * v.c) - wrap64 (u.c * v.b)))) (.int .i64 (wrap64 (wrap64 (u.c * v.a) - wrap64 (u.a * v.c)))) (.int .i64 (wrap64 (wrap64 (u.a * v.b) - wrap64 (u.b * v.a))))
  have z0 := L.cell (i := 0) rfl
  have z1 := L.cell (i := 1) rfl
  have z2 := L.cell (i := 2) rfl
  exact bodyPost_ret (v := .agg #[.int .i64 (wrap64 (wrap64 (u.b * v.c) - wrap64 (u.c * v.b))), .int .i64 (wrap64 (wrap64 (u.c * v.a) - wrap64 (u.a * v.c))), .int .i64 (wrap64 (wrap64 (u.a * v.b) - wrap64 (u.b * v.a)))]) (by simp [results, Tryz.results52, go_sem, z0, z1, z2]) rfl ⟨rfl, ((hb1.setCell (by simp only; omega) _).setCell (by simp only; omega) _).setCell (by simp only; omega) _⟩

set_option maxRecDepth 100000 in
set_option maxHeartbeats 4000000 in
theorem dotW_any (u v : V3) (w : World) : Calls Tryz.prog 50 #[.agg #[.int .i64 u.a, .int .i64 u.b, .int .i64 u.c], .agg #[.int .i64 v.a, .int .i64 v.b, .int .i64 v.c]] w fun e w' => e = .returned (.int .i64 (dotW u v)) ∧ Below w.heap.size w w' := by
  obtain ⟨w1, hw1⟩ : ∃ w1, ((w.alloc (.cells #[.int .i64 u.a, .int .i64 u.b, .int .i64 u.c] 24)).alloc (.cells #[.int .i64 v.a, .int .i64 v.b, .int .i64 v.c] 24)) = w1 := ⟨_, rfl⟩
  have hb1 : Below w.heap.size w w1 := by rw [← hw1]; exact bw2 w _ _
  have k0 : Blk w1 (w.heap.size) #[.int .i64 u.a, .int .i64 u.b, .int .i64 u.c] 24 := by rw [← hw1]; exact ((Blk.new w _ _).alloc _)
  have k1 : Blk w1 (w.heap.size + 1) #[.int .i64 v.a, .int .i64 v.b, .int .i64 v.c] 24 := by rw [← hw1]; exact (Blk.new' _ _ _ (by simp))
  unfold dotW
  have c0 := k0.cell (i := 0) rfl
  have g0 := k1.cell (i := 0) rfl
  have c1 := k0.cell (i := 1) rfl
  have g1 := k1.cell (i := 1) rfl
  have c2 := k0.cell (i := 2) rfl
  have g2 := k1.cell (i := 2) rfl
  go_enter Tryz.func50, Tryz.ntmps50
  go_wp2_with fail
  go_ret
  exact ⟨rfl, hb1⟩
theorem crs_any (u v : V3) (m n : Nat) (w : World) (hu : Far u m) (hv : Far v n) (hmn : m * n ≤ 4000000000000000000) : Calls Tryz.prog 52 #[.agg #[.int .i64 u.a, .int .i64 u.b, .int .i64 u.c], .agg #[.int .i64 v.a, .int .i64 v.b, .int .i64 v.c]] w fun e w' => e = .returned (.agg #[.int .i64 (crsV u v).a, .int .i64 (crsV u v).b, .int .i64 (crsV u v).c]) ∧ Below w.heap.size w w' := by
  rw [← crsW_eq hu hv hmn]; exact crsW_any u v w
theorem dotL_any (u v : V3) (m n : Nat) (w : World) (hu : Far u m) (hv : Far v n) (hmn : m * n ≤ 3000000000000000000) : Calls Tryz.prog 50 #[.agg #[.int .i64 u.a, .int .i64 u.b, .int .i64 u.c], .agg #[.int .i64 v.a, .int .i64 v.b, .int .i64 v.c]] w fun e w' => e = .returned (.int .i64 (dotV u v)) ∧ Below w.heap.size w w' := by
  rw [← dotW_eq hu hv hmn]; exact dotW_any u v w

theorem sgnCmp_zero (x : Int) : sgnCmp x 0 = sgnI x := by
  unfold sgnCmp sgnI
  by_cases h0 : x = 0
  · rw [h0]; rfl
  · by_cases h1 : x < 0
    · simp [h0, h1]
    · simp [h0, h1]
set_option maxHeartbeats 4000000 in
theorem signL_any (x : Int) (w : World) : Calls Tryz.prog 49 #[.int .i64 x] w fun e w' => e = .returned (.int .i64 (sgnI x)) ∧ Below w.heap.size w w' := by
  rw [← sgnCmp_zero]
  have HC := Lib.hid (fun W => cmp_int64 x 0 W)
  go_enter Tryz.func49, Tryz.ntmps49
  go_wp2_with fail
  refine (HC.out _).mono ?_
  rintro e w' ⟨rfl, rfl⟩
  go_wp2_with fail
  go_ret
  exact ⟨rfl, Below.refl _ _⟩

end Go.Proofs.YtimkeblcdodfmaaGreat

namespace Go.Proofs.YtimkeblcdodfmaaGreat
open Go.RowKit
variable {P : Program} {Q : Exit → Act → World → Prop}

def ptrV (b : Nat) : Value := .pointer (some ⟨b, 0, none⟩)
theorem ptrV_inj {b c : Nat} (h : ptrV b = ptrV c) : b = c := by
  unfold ptrV at h
  injection h with h; injection h with h; injection h with h

/-- n operations of known values, then k variables made, then k filled. -/
theorem wp_region_defs {id : Nat} {l : List Oper} {a : Act} {w : World} (n k : Nat) (vs : Nat → Value) (Z : Array Value) (Qs : Nat → Array Value) (T : TypeId) (hm : P.follows .mixedOrders = true) (hE : earlierB l = true) (hlen : l.length = n + k + k)
    (dep : ∀ j, j < k → depB l (n + k + j) (n + j) = true)
    (step : ∀ i, i < n → ∀ f w', Below w.heap.size w w' → (∀ j, j < n → depB l i j = true → f j = vs j) → wpOp P l.toArray Q i (fun a' w'' => a' = tmOf a l (upd f i (vs i)) ∧ Below w'.heap.size w' w'') (tmOf a l f) w')
    (al : ∀ j, j < k → ∀ f w', wpOp P l.toArray Q (n + j) (fun a' w'' => a' = tmOf a l (upd f (n + j) (ptrV w'.heap.size)) ∧ w'' = w'.alloc (.cells Z T)) (tmOf a l f) w')
    (st : ∀ j, j < k → ∀ f w' b, (∀ i, i < n → depB l (n + k + j) i = true → f i = vs i) → f (n + j) = ptrV b → Blk w' b Z T → wpOp P l.toArray Q (n + k + j) (fun a' w'' => a' = tmOf a l f ∧ Blk w'' b (Qs j) T ∧ (∀ B cs, B ≠ b → Blk w' B cs T → Blk w'' B cs T) ∧ ∀ C, C ≤ b → C ≤ w'.heap.size → Below C w' w'') (tmOf a l f) w')
    (done : ∀ f w' (bs : Nat → Nat), Below w.heap.size w w' → (∀ j, j < k → f (n + j) = ptrV (bs j) ∧ w.heap.size ≤ bs j ∧ Blk w' (bs j) (Qs j) T) → (∀ i j, i < k → j < k → i ≠ j → bs i ≠ bs j) → (∀ i, i < n → f i = vs i) → Q .normal (tmOf a l f) w') : (Code.region id l.toArray true).wp P Q a w := by
  have h : (Code.region id l.toArray true).wp P Q (tmOf a l (slotsOf a.tmps (l.map (·.dst)) 0)) w := by
    refine wp_region_inv hm hE (fun L a' w' => ∃ f, a' = tmOf a l f ∧ Below w.heap.size w w' ∧ (∀ i, i < n → L i = true → f i = vs i) ∧
      (∀ j, j < k → L (n + j) = true → ∃ b, f (n + j) = ptrV b ∧ w.heap.size ≤ b ∧ Blk w' b (if L (n + k + j) = true then Qs j else Z) T) ∧
      (∀ i j, i < k → j < k → i ≠ j → L (n + i) = true → L (n + j) = true → f (n + i) ≠ f (n + j)) ∧ (∀ j, j < k → L (n + k + j) = true → L (n + j) = true))
      ⟨_, rfl, (Below.refl _ _).drew, fun _ _ h => (by cases h), fun _ _ h => (by cases h), fun _ _ _ _ _ h => (by cases h), fun _ _ h => (by cases h)⟩ ?_ ?_
    · rintro L i a' w' ⟨f, rfl, hs, hr, h0, h1, c0⟩ hi hL hd
      rw [hlen] at hi
      rcases Nat.lt_or_ge i n with hin | hin
      · refine wpOp_mono (fun a' w'' h => ?_) (step i hin f w' hs (fun j hj hdj => hr j hj (depsB_dep hd hdj)))
        obtain ⟨rfl, hb⟩ := h
        have ne : ∀ m, n ≤ m → (m == i) = false := fun m hm => by simp; omega
        refine ⟨_, rfl, hs.trans (hb.mono hs.size), fun j hj hj2 => ?_, fun j hj hj2 => ?_, fun p q hp hq hpq hp2 hq2 => ?_, fun j hj hj2 => ?_⟩
        · by_cases e : j = i
          · subst e; simp only [upd, if_true]
          · simp only [upd, if_neg e]; exact hr j hj (by simpa [e] using hj2)
        · simp only [ne (n + j) (by omega), Bool.or_false] at hj2
          obtain ⟨b, hf, hb0, hB⟩ := h0 j hj hj2
          simp only [ne (n + k + j) (by omega), Bool.or_false, upd, if_neg (show ¬ n + j = i by omega)]
          exact ⟨b, hf, hb0, hB.kept hb⟩
        · simp only [ne (n + p) (by omega), Bool.or_false] at hp2
          simp only [ne (n + q) (by omega), Bool.or_false] at hq2
          simp only [upd, if_neg (show ¬ n + p = i by omega), if_neg (show ¬ n + q = i by omega)]
          exact h1 p q hp hq hpq hp2 hq2
        · simp only [ne (n + k + j) (by omega), Bool.or_false] at hj2
          simp only [ne (n + j) (by omega), Bool.or_false]
          exact c0 j hj hj2
      · rcases Nat.lt_or_ge i (n + k) with hik | hik
        · obtain ⟨m, rfl⟩ : ∃ m, i = n + m := ⟨i - n, by omega⟩
          have hmk : m < k := by omega
          refine wpOp_mono (fun a' w'' h => ?_) (al m hmk f w')
          obtain ⟨rfl, rfl⟩ := h
          have l2 : L (n + k + m) = false := by
            cases e : L (n + k + m)
            · rfl
            · rw [c0 m hmk e] at hL; cases hL
          refine ⟨_, rfl, hs.alloc hs.size _, fun j hj hj2 => ?_, fun j hj hj2 => ?_, fun p q hp hq hpq hp2 hq2 => ?_, fun j hj hj2 => ?_⟩
          · simp only [upd, if_neg (show ¬ j = n + m by omega)]
            exact hr j hj (by
              have : (j == n + m) = false := by simp; omega
              simpa [this] using hj2)
          · have e2 : (n + k + j == n + m) = false := by simp; omega
            simp only [e2, Bool.or_false]
            by_cases e : j = m
            · subst e
              refine ⟨w'.heap.size, by simp [upd], hs.size, ?_⟩
              simp only [l2, Bool.false_eq_true, if_false]
              exact Blk.new _ _ _
            · have e1 : (n + j == n + m) = false := by simp; omega
              simp only [e1, Bool.or_false] at hj2
              obtain ⟨b, hf, hb0, hB⟩ := h0 j hj hj2
              simp only [upd, if_neg (show ¬ n + j = n + m by omega)]
              exact ⟨b, hf, hb0, hB.alloc _⟩
          · have fresh : ∀ j, j < k → L (n + j) = true → f (n + j) ≠ ptrV w'.heap.size := fun j hj hj2 hx => by
              obtain ⟨b, hf, hb0, hB⟩ := h0 j hj hj2
              have := ptrV_inj (hf.symm.trans hx)
              have := hB.lt
              omega
            by_cases ep : p = m
            · subst ep
              have eq : (n + q == n + p) = false := by simp; omega
              simp only [eq, Bool.or_false] at hq2
              simp only [upd, if_true, if_neg (show ¬ n + q = n + p by omega)]
              exact fun hx => fresh q hq hq2 hx.symm
            · have e1 : (n + p == n + m) = false := by simp; omega
              simp only [e1, Bool.or_false] at hp2
              by_cases eq : q = m
              · subst eq
                simp only [upd, if_true, if_neg (show ¬ n + p = n + q by omega)]
                exact fresh p hp hp2
              · have e2 : (n + q == n + m) = false := by simp; omega
                simp only [e2, Bool.or_false] at hq2
                simp only [upd, if_neg (show ¬ n + p = n + m by omega), if_neg (show ¬ n + q = n + m by omega)]
                exact h1 p q hp hq hpq hp2 hq2
          · have e2 : (n + k + j == n + m) = false := by simp; omega
            simp only [e2, Bool.or_false] at hj2
            show (L (n + j) || n + j == n + m) = true
            rw [c0 j hj hj2]; rfl
        · obtain ⟨m, rfl⟩ : ∃ m, i = n + k + m := ⟨i - n - k, by omega⟩
          have hmk : m < k := by omega
          have ln : L (n + m) = true := depsB_dep hd (dep m hmk)
          obtain ⟨b, hf, hb0, hB⟩ := h0 m hmk ln
          rw [hL] at hB
          simp only [Bool.false_eq_true, if_false] at hB
          refine wpOp_mono (fun a' w'' h => ?_) (st m hmk f w' b (fun j hj hdj => hr j hj (depsB_dep hd hdj)) hf hB)
          obtain ⟨rfl, hQ, hk, hbl⟩ := h
          have hbw := hbl w.heap.size hb0 hs.size
          refine ⟨f, rfl, hs.trans hbw, fun j hj hj2 => ?_, fun j hj hj2 => ?_, fun p q hp hq hpq hp2 hq2 => ?_, fun j hj hj2 => ?_⟩
          · exact hr j hj (by
              have : (j == n + k + m) = false := by simp; omega
              simpa [this] using hj2)
          · have e1 : (n + j == n + k + m) = false := by simp; omega
            simp only [e1, Bool.or_false] at hj2
            by_cases e : j = m
            · subst e
              refine ⟨b, hf, hb0, ?_⟩
              simp only [BEq.rfl, Bool.or_true, if_true]
              exact hQ
            · have e2 : (n + k + j == n + k + m) = false := by simp; omega
              simp only [e2, Bool.or_false]
              obtain ⟨b', hf', hb', hB'⟩ := h0 j hj hj2
              have hbb : b' ≠ b := fun e' => h1 j m hj hmk e hj2 ln (by rw [hf', hf, e'])
              exact ⟨b', hf', hb', hk _ _ hbb hB'⟩
          · have e1 : (n + p == n + k + m) = false := by simp; omega
            have e2 : (n + q == n + k + m) = false := by simp; omega
            simp only [e1, Bool.or_false] at hp2
            simp only [e2, Bool.or_false] at hq2
            exact h1 p q hp hq hpq hp2 hq2
          · have e1 : (n + j == n + k + m) = false := by simp; omega
            simp only [e1, Bool.or_false]
            by_cases e : j = m
            · subst e; exact ln
            · have e2 : (n + k + j == n + k + m) = false := by simp; omega
              simp only [e2, Bool.or_false] at hj2
              exact c0 j hj hj2
    · rintro L a' w' hall ⟨f, rfl, hs, hr, h0, h1, c0⟩
      have hx : ∀ j, ∃ b, j < k → f (n + j) = ptrV b ∧ w.heap.size ≤ b ∧ Blk w' b (Qs j) T := by
        intro j
        by_cases hj : j < k
        · obtain ⟨b, hf, hb0, hB⟩ := h0 j hj (hall (n + j) (by omega))
          rw [hall (n + k + j) (by omega)] at hB
          simp only [if_true] at hB
          exact ⟨b, fun _ => ⟨hf, hb0, hB⟩⟩
        · exact ⟨0, fun h => absurd h hj⟩
      obtain ⟨bs, hbs⟩ := Classical.axiomOfChoice hx
      refine done f w' bs hs hbs (fun i j hi hj hij e => ?_) (fun i hi => hr i hi (hall i (by omega)))
      exact h1 i j hi hj hij (hall (n + i) (by omega)) (hall (n + j) (by omega)) (by rw [(hbs i hi).1, (hbs j hj).1, e])
  rw [tmOf_same] at h
  exact h

end Go.Proofs.YtimkeblcdodfmaaGreat

namespace Go.Proofs.YtimkeblcdodfmaaGreat
open Go.RowKit Go.Shelf
attribute [local go_sem] Oper.semAt_some

def gV (v : V3) : Nat := Nat.gcd (Nat.gcd v.a.natAbs v.b.natAbs) v.c.natAbs
/-- A vector in lowest terms. -/
def lowV (v : V3) : V3 := ⟨v.a.tdiv (gV v), v.b.tdiv (gV v), v.c.tdiv (gV v)⟩
def dirV (p q : V4) : V3 := lowV (crsV (nrm p) (nrm q))
theorem gcdL_three (x y z : Int) : gcdL 0 [x, y, z] = gV ⟨x, y, z⟩ := by
  unfold gcdL gV; simp
theorem tdiv_abs (x : Int) (g : Nat) : (x.tdiv g).natAbs ≤ x.natAbs := by
  rw [Int.natAbs_tdiv]; exact Nat.div_le_self _ _
theorem low_far {v : V3} {m : Nat} (h : Far v m) : Far (lowV v) m :=
  ⟨Nat.le_trans (tdiv_abs _ _) h.1, Nat.le_trans (tdiv_abs _ _) h.2.1, Nat.le_trans (tdiv_abs _ _) h.2.2⟩
theorem nrm_far {p : V4} (h : RightQ p) : Far (nrm p) 1000 := ⟨h.2.1, h.2.2.1, h.2.2.2.1⟩
theorem dir_far {p q : V4} (hp : RightQ p) (hq : RightQ q) : Far (dirV p q) 2000000 := low_far (crs_far (nrm_far hp) (nrm_far hq))

set_option maxRecDepth 100000 in
set_option maxHeartbeats 8000000 in
theorem direction_any (p q : V4) (w : World) (hp : RightQ p) (hq : RightQ q) : Calls Tryz.prog 48 #[.agg #[.int .i64 p.a, .int .i64 p.b, .int .i64 p.c, .int .i64 p.d], .agg #[.int .i64 q.a, .int .i64 q.b, .int .i64 q.c, .int .i64 q.d]] w fun e w' => e = .returned (.agg #[.int .i64 (dirV p q).a, .int .i64 (dirV p q).b, .int .i64 (dirV p q).c]) ∧ Below w.heap.size w w' := by
  obtain ⟨w1, hw1⟩ : ∃ w1, (((w.alloc (.cells #[.int .i64 p.a, .int .i64 p.b, .int .i64 p.c, .int .i64 p.d] 23)).alloc (.cells #[.int .i64 q.a, .int .i64 q.b, .int .i64 q.c, .int .i64 q.d] 23)).alloc (.cells #[.int .i64 0, .int .i64 0, .int .i64 0] 24)) = w1 := ⟨_, rfl⟩
  have hb1 : Below w.heap.size w w1 := by rw [← hw1]; exact bw3 w _ _ _
  have k0 : Blk w1 (w.heap.size) #[.int .i64 p.a, .int .i64 p.b, .int .i64 p.c, .int .i64 p.d] 23 := by rw [← hw1]; exact (((Blk.new w _ _).alloc _).alloc _)
  have k1 : Blk w1 (w.heap.size + 1) #[.int .i64 q.a, .int .i64 q.b, .int .i64 q.c, .int .i64 q.d] 23 := by rw [← hw1]; exact ((Blk.new' _ _ _ (by simp)).alloc _)
  have kR : Blk w1 (w.heap.size + 1 + 1) #[.int .i64 0, .int .i64 0, .int .i64 0] 24 := by rw [← hw1]; exact (Blk.new' _ _ _ (by simp))
  have HNP := Lib.hid (fun W => normal_any p W)
  have HNQ := Lib.hid (fun W => normal_any q W)
  have hcr := fun W => crs_any (nrm p) (nrm q) 1000 1000 W (nrm_far hp) (nrm_far hq) (by decide)
  have hvf := crs_far (nrm_far hp) (nrm_far hq)
  obtain ⟨vv, hv⟩ : ∃ vv, crsV (nrm p) (nrm q) = vv := ⟨_, rfl⟩
  rw [hv] at hcr hvf
  have hdv : dirV p q = lowV vv := by unfold dirV; rw [hv]
  rw [hdv]
  have HCR := Lib.hid hcr
  have hva : InI64 vv.a ∧ InI64 vv.b ∧ InI64 vv.c := by obtain ⟨h1, h2, h3⟩ := hvf; unfold InI64; omega
  have hlow : ∀ b W, RdSum W (some ⟨b, 0, none⟩) [vv.a, vv.b, vv.c] → Calls Tryz.prog 79 #[.slice (some ⟨b, 0, none⟩) 3 3] W fun e w' => ∃ b', e = .returned (.tuple #[.slice (some ⟨b', 0, none⟩) 3 3, .bool true]) ∧ Blk w' b' #[.int .i64 (lowV vv).a, .int .i64 (lowV vv).b, .int .i64 (lowV vv).c] 2 ∧ Below W.heap.size W w' := fun b W hR => by
    have h := lowest_any (some ⟨b, 0, none⟩) 3 3 [vv.a, vv.b, vv.c] W rfl (by decide) hR (fun x hx => by
      have hx' : x = vv.a ∨ x = vv.b ∨ x = vv.c := by simpa using hx
      obtain ⟨h1, h2, h3⟩ := hvf
      unfold In127
      rcases hx' with rfl | rfl | rfl <;> omega)
    refine h.mono fun e w' hh => ?_
    obtain ⟨hb, ⟨_, B, _, he, hB⟩ | ⟨⟨x, hx, hbad⟩, _⟩⟩ := hh
    · rw [gcdL_three] at hB
      exact ⟨B, he, hB, hb⟩
    · exfalso
      have hx' : x = vv.a ∨ x = vv.b ∨ x = vv.c := by simpa using hx
      rcases hx' with rfl | rfl | rfl
      · exact hbad (tdiv_in _ hva.1)
      · exact hbad (tdiv_in _ hva.2.1)
      · exact hbad (tdiv_in _ hva.2.2)
  have h0 := fun W => of_any vv.a W hva.1.1 hva.1.2
  have h1 := fun W => of_any vv.b W hva.2.1.1 hva.2.1.2
  have h2 := fun W => of_any vv.c W hva.2.2.1 hva.2.2.2
  have HW0 : Hid ((hiW vv.a = hiW vv.a ∧ loW vv.a = loW vv.a) ∧ (hiW vv.b = hiW vv.b ∧ loW vv.b = loW vv.b) ∧ (hiW vv.c = hiW vv.c ∧ loW vv.c = loW vv.c)) := ⟨⟨rfl, rfl⟩, ⟨rfl, rfl⟩, ⟨rfl, rfl⟩⟩
  unfold sumV at h0 h1 h2
  obtain ⟨n0, hn0⟩ : ∃ n, (lowV vv).a = n := ⟨_, rfl⟩
  obtain ⟨n1, hn1⟩ : ∃ n, (lowV vv).b = n := ⟨_, rfl⟩
  obtain ⟨n2, hn2⟩ : ∃ n, (lowV vv).c = n := ⟨_, rfl⟩
  simp only [hn0, hn1, hn2] at hlow ⊢
  have HLOW := Lib.hid hlow
  clear hlow hn0 hn1 hn2 hcr hv hdv hvf hva hp hq
  obtain ⟨x0h, e0h⟩ : ∃ x, hiW vv.a = x := ⟨_, rfl⟩
  obtain ⟨x0l, e0l⟩ : ∃ x, loW vv.a = x := ⟨_, rfl⟩
  obtain ⟨x1h, e1h⟩ : ∃ x, hiW vv.b = x := ⟨_, rfl⟩
  obtain ⟨x1l, e1l⟩ : ∃ x, loW vv.b = x := ⟨_, rfl⟩
  obtain ⟨x2h, e2h⟩ : ∃ x, hiW vv.c = x := ⟨_, rfl⟩
  obtain ⟨x2l, e2l⟩ : ∃ x, loW vv.c = x := ⟨_, rfl⟩
  rw [e0h, e0l] at h0
  rw [e1h, e1l] at h1
  rw [e2h, e2l] at h2
  have HW := Lib.hid (And.intro (And.intro e0h e0l) (And.intro (And.intro e1h e1l) (And.intro e2h e2l)))
  have H0 := Lib.hid h0
  have H1 := Lib.hid h1
  have H2 := Lib.hid h2
  clear h0 h1 h2 e0h e0l e1h e1l e2h e2l HW0
  go_enter Tryz.func48, Tryz.ntmps48
  go_upto_region 1 with fail
  go_cut [5] from 8 to 12 (fun v5 wx => ∃ B, v5 = .pointer (some ⟨B, 0, none⟩) ∧ w1.heap.size ≤ B ∧ Blk wx B #[.int .i64 vv.a, .int .i64 vv.b, .int .i64 vv.c] 24 ∧ Below w1.heap.size w1 wx)
  case first =>
    refine wp_region_defs 5 1 (fun ix => match ix with | 0 => .agg #[.int .i64 p.a, .int .i64 p.b, .int .i64 p.c, .int .i64 p.d] | 1 => .agg #[.int .i64 (nrm p).a, .int .i64 (nrm p).b, .int .i64 (nrm p).c] | 2 => .agg #[.int .i64 q.a, .int .i64 q.b, .int .i64 q.c, .int .i64 q.d] | 3 => .agg #[.int .i64 (nrm q).a, .int .i64 (nrm q).b, .int .i64 (nrm q).c] | _ => .agg #[.int .i64 vv.a, .int .i64 vv.b, .int .i64 vv.c]) #[.int .i64 0, .int .i64 0, .int .i64 0] (fun _ => #[.int .i64 vv.a, .int .i64 vv.b, .int .i64 vv.c]) 24 (by kernel_rfl) (by kernel_rfl) rfl ?_ ?_ ?_ ?_ ?_
    · intro j hj
      obtain rfl : j = 0 := by omega
      first | kernel_rfl | decide +kernel
    · rintro ix hx f ww hS hd
      have ka := k0.kept hS
      have kb := k1.kept hS
      have a0_ := ka.cell (i := 0) rfl
      have a1_ := ka.cell (i := 1) rfl
      have a2_ := ka.cell (i := 2) rfl
      have a3_ := ka.cell (i := 3) rfl
      have b0_ := kb.cell (i := 0) rfl
      have b1_ := kb.cell (i := 1) rfl
      have b2_ := kb.cell (i := 2) rfl
      have b3_ := kb.cell (i := 3) rfl
      rcases ix with _ | _ | _ | _ | _ | ix
      · refine wpOp_list rfl ?_
        simp only [tmOf, putAll, List.map_cons, List.map_nil, List.setIfInBounds_toArray, List.set_cons_zero, List.set_cons_succ]
        go_wp2
        simp [upd, Below.refl]
      · have g0 : f 0 = .agg #[.int .i64 p.a, .int .i64 p.b, .int .i64 p.c, .int .i64 p.d] := hd 0 (by decide) (by kernel_rfl)
        refine wpOp_list rfl ?_
        simp only [tmOf, putAll, List.map_cons, List.map_nil, List.setIfInBounds_toArray, List.set_cons_zero, List.set_cons_succ]
        go_wp2_with fail
        refine (HNP.out _).mono ?_
        rintro e' wf ⟨rfl, hbf⟩
        go_wp2_with fail
        simp [upd, g0, hbf]
      · refine wpOp_list rfl ?_
        simp only [tmOf, putAll, List.map_cons, List.map_nil, List.setIfInBounds_toArray, List.set_cons_zero, List.set_cons_succ]
        go_wp2
        simp [upd, Below.refl]
      · have g2 : f 2 = .agg #[.int .i64 q.a, .int .i64 q.b, .int .i64 q.c, .int .i64 q.d] := hd 2 (by decide) (by kernel_rfl)
        refine wpOp_list rfl ?_
        simp only [tmOf, putAll, List.map_cons, List.map_nil, List.setIfInBounds_toArray, List.set_cons_zero, List.set_cons_succ]
        go_wp2_with fail
        refine (HNQ.out _).mono ?_
        rintro e' wf ⟨rfl, hbf⟩
        go_wp2_with fail
        simp [upd, g2, hbf]
      · have g1 : f 1 = .agg #[.int .i64 (nrm p).a, .int .i64 (nrm p).b, .int .i64 (nrm p).c] := hd 1 (by decide) (by kernel_rfl)
        have g3 : f 3 = .agg #[.int .i64 (nrm q).a, .int .i64 (nrm q).b, .int .i64 (nrm q).c] := hd 3 (by decide) (by kernel_rfl)
        refine wpOp_list rfl ?_
        simp only [tmOf, putAll, List.map_cons, List.map_nil, List.setIfInBounds_toArray, List.set_cons_zero, List.set_cons_succ]
        go_wp2_with fail
        refine (HCR.out _).mono ?_
        rintro e' wf ⟨rfl, hbf⟩
        go_wp2_with fail
        simp [upd, g1, g3, hbf]
      · omega
    · intro j hj f ww
      obtain rfl : j = 0 := by omega
      refine wpOp_list rfl ?_
      simp only [tmOf, putAll, List.map_cons, List.map_nil, List.setIfInBounds_toArray, List.set_cons_zero, List.set_cons_succ]
      go_wp2
      simp [upd, ptrV]
    · intro j hj f ww b hd hf hB
      obtain rfl : j = 0 := by omega
      unfold ptrV at hf
      have e0 := hB.cell (i := 0) rfl
      have e1 := hB.cell (i := 1) rfl
      have e2 := hB.cell (i := 2) rfl
      have q0 := hB.frozen 0
      have q1 := hB.frozen 1
      have q2 := hB.frozen 2
      have g4 : f 4 = .agg #[.int .i64 vv.a, .int .i64 vv.b, .int .i64 vv.c] := hd 4 (by decide) (by kernel_rfl)
      refine wpOp_list rfl ?_
      simp only [tmOf, putAll, List.map_cons, List.map_nil, List.setIfInBounds_toArray, List.set_cons_zero, List.set_cons_succ]
      go_wp2
      exact ⟨Blk.put3 hB _ _ _, fun D cs hne h => ((h.other 0 _ (Ne.symm hne)).other 1 _ (Ne.symm hne)).other 2 _ (Ne.symm hne), fun D h1 h2 => ((((Below.refl _ ww).mono h2).setCell (p := ⟨b, 0, none⟩) h1 _).setCell (p := ⟨b, 1, none⟩) h1 _).setCell (p := ⟨b, 2, none⟩) h1 _⟩
    · intro f ww bs hS hbs hne hall
      have h0 := hbs 0 (by decide)
      simp only [tmOf, putAll, List.map_cons, List.map_nil, List.setIfInBounds_toArray, List.set_cons_zero, List.set_cons_succ]
      refine ‹∀ (a' : Act) (w' : World), Met _ a' w' → _› _ _ ?_
      go_meet
      case rel => exact ⟨bs 0, h0.1, h0.2.1, h0.2.2, hS⟩
  case rest =>
  obtain ⟨B, rfl, hBl, kV, hbx⟩ := hcut
  have kR := kR.kept hbx
  have hb := hb1.trans (hbx.mono hb1.size)
  clear hbx hw1 hb1 k0 k1 HNP HNQ HCR hBl
  generalize wc = wy at *
  go_upto_region 2 with fail
  go_cut [6, 7] from 14 to 26 (fun v6 v7 wx => ∃ b, v6 = .slice (some ⟨b, 0, none⟩) 3 3 ∧ Blk wx b #[.int .i64 n0, .int .i64 n1, .int .i64 n2] 2 ∧ v7 = .bool true ∧ Below wy.heap.size wy wx)
  case first =>
    refine wp_region_kn' (fun ix => ix != 9 && ix != 10 && ix != 11 && ix != 12 && ix != 14) (fun ix => match ix with | 0 => .pointer (some ⟨B, 0, none⟩) | 1 => .int .i64 vv.a | 2 => .agg #[.int .u64 x0h, .int .u64 x0l] | 3 => .pointer (some ⟨B, 1, none⟩) | 4 => .int .i64 vv.b | 5 => .agg #[.int .u64 x1h, .int .u64 x1l] | 6 => .pointer (some ⟨B, 2, none⟩) | 7 => .int .i64 vv.c | 8 => .agg #[.int .u64 x2h, .int .u64 x2l] | 13 => .bool true | _ => .bool true) (fun ix v w => match ix with | 9 => ∃ b, v = .slice (some ⟨b, 0, none⟩) 3 3 ∧ RdSum w (some ⟨b, 0, none⟩) [vv.a, vv.b, vv.c] | 10 => ∃ b, v = .tuple #[.slice (some ⟨b, 0, none⟩) 3 3, .bool true] ∧ Blk w b #[.int .i64 n0, .int .i64 n1, .int .i64 n2] 2 | 11 => ∃ b, v = .tuple #[.slice (some ⟨b, 0, none⟩) 3 3, .bool true] ∧ Blk w b #[.int .i64 n0, .int .i64 n1, .int .i64 n2] 2 | 12 => ∃ b, v = .slice (some ⟨b, 0, none⟩) 3 3 ∧ Blk w b #[.int .i64 n0, .int .i64 n1, .int .i64 n2] 2 | _ => ∃ b, v = .slice (some ⟨b, 0, none⟩) 3 3 ∧ Blk w b #[.int .i64 n0, .int .i64 n1, .int .i64 n2] 2) (by kernel_rfl) (by kernel_rfl) ?_ ?_ ?_
    · intro ix v w8 w9 hb h
      rcases ix with _ | _ | _ | _ | _ | _ | _ | _ | _ | _ | _ | _ | _ | _ | _ | ix
      · obtain ⟨b, e, h⟩ := h; exact ⟨b, e, h.kept hb⟩
      · obtain ⟨b, e, h⟩ := h; exact ⟨b, e, h.kept hb⟩
      · obtain ⟨b, e, h⟩ := h; exact ⟨b, e, h.kept hb⟩
      · obtain ⟨b, e, h⟩ := h; exact ⟨b, e, h.kept hb⟩
      · obtain ⟨b, e, h⟩ := h; exact ⟨b, e, h.kept hb⟩
      · obtain ⟨b, e, h⟩ := h; exact ⟨b, e, h.kept hb⟩
      · obtain ⟨b, e, h⟩ := h; exact ⟨b, e, h.kept hb⟩
      · obtain ⟨b, e, h⟩ := h; exact ⟨b, e, h.kept hb⟩
      · obtain ⟨b, e, h⟩ := h; exact ⟨b, e, h.kept hb⟩
      · obtain ⟨b, e, h⟩ := h; exact ⟨b, e, h.below hb⟩
      · obtain ⟨b, e, h⟩ := h; exact ⟨b, e, h.kept hb⟩
      · obtain ⟨b, e, h⟩ := h; exact ⟨b, e, h.kept hb⟩
      · obtain ⟨b, e, h⟩ := h; exact ⟨b, e, h.kept hb⟩
      · obtain ⟨b, e, h⟩ := h; exact ⟨b, e, h.kept hb⟩
      · obtain ⟨b, e, h⟩ := h; exact ⟨b, e, h.kept hb⟩
      · obtain ⟨b, e, h⟩ := h; exact ⟨b, e, h.kept hb⟩
    · rintro ix hx f ww hS hd
      have kv := kV.kept hS
      have a0_ := kv.cell (i := 0) rfl
      have a1_ := kv.cell (i := 1) rfl
      have a2_ := kv.cell (i := 2) rfl
      rcases ix with _ | _ | _ | _ | _ | _ | _ | _ | _ | _ | _ | _ | _ | _ | _ | _ | ix
      · refine wpOp_list rfl ?_
        simp only [tmOf, putAll, List.map_cons, List.map_nil, List.setIfInBounds_toArray, List.set_cons_zero, List.set_cons_succ]
        go_wp2
        refine ⟨.pointer (some ⟨B, 0, none⟩), ?_⟩
        simp [upd, Below.refl]
      · have g0 : f 0 = .pointer (some ⟨B, 0, none⟩) := hd 0 (by kernel_rfl)
        refine wpOp_list rfl ?_
        simp only [tmOf, putAll, List.map_cons, List.map_nil, List.setIfInBounds_toArray, List.set_cons_zero, List.set_cons_succ]
        go_wp2
        refine ⟨.int .i64 vv.a, ?_⟩
        simp [upd, g0, Below.refl]
      · have g1 : f 1 = .int .i64 vv.a := hd 1 (by kernel_rfl)
        refine wpOp_list rfl ?_
        simp only [tmOf, putAll, List.map_cons, List.map_nil, List.setIfInBounds_toArray, List.set_cons_zero, List.set_cons_succ]
        go_wp2_with fail
        refine (H0.out _).mono ?_
        rintro e' wf ⟨rfl, hbf⟩
        go_wp2_with fail
        try refine ⟨.agg #[.int .u64 x0h, .int .u64 x0l], ?_⟩
        simp [upd, g1, hbf]
      · refine wpOp_list rfl ?_
        simp only [tmOf, putAll, List.map_cons, List.map_nil, List.setIfInBounds_toArray, List.set_cons_zero, List.set_cons_succ]
        go_wp2
        refine ⟨.pointer (some ⟨B, 1, none⟩), ?_⟩
        simp [upd, Below.refl]
      · have g3 : f 3 = .pointer (some ⟨B, 1, none⟩) := hd 3 (by kernel_rfl)
        refine wpOp_list rfl ?_
        simp only [tmOf, putAll, List.map_cons, List.map_nil, List.setIfInBounds_toArray, List.set_cons_zero, List.set_cons_succ]
        go_wp2
        refine ⟨.int .i64 vv.b, ?_⟩
        simp [upd, g3, Below.refl]
      · have g4 : f 4 = .int .i64 vv.b := hd 4 (by kernel_rfl)
        refine wpOp_list rfl ?_
        simp only [tmOf, putAll, List.map_cons, List.map_nil, List.setIfInBounds_toArray, List.set_cons_zero, List.set_cons_succ]
        go_wp2_with fail
        refine (H1.out _).mono ?_
        rintro e' wf ⟨rfl, hbf⟩
        go_wp2_with fail
        try refine ⟨.agg #[.int .u64 x1h, .int .u64 x1l], ?_⟩
        simp [upd, g4, hbf]
      · refine wpOp_list rfl ?_
        simp only [tmOf, putAll, List.map_cons, List.map_nil, List.setIfInBounds_toArray, List.set_cons_zero, List.set_cons_succ]
        go_wp2
        refine ⟨.pointer (some ⟨B, 2, none⟩), ?_⟩
        simp [upd, Below.refl]
      · have g6 : f 6 = .pointer (some ⟨B, 2, none⟩) := hd 6 (by kernel_rfl)
        refine wpOp_list rfl ?_
        simp only [tmOf, putAll, List.map_cons, List.map_nil, List.setIfInBounds_toArray, List.set_cons_zero, List.set_cons_succ]
        go_wp2
        refine ⟨.int .i64 vv.c, ?_⟩
        simp [upd, g6, Below.refl]
      · have g7 : f 7 = .int .i64 vv.c := hd 7 (by kernel_rfl)
        refine wpOp_list rfl ?_
        simp only [tmOf, putAll, List.map_cons, List.map_nil, List.setIfInBounds_toArray, List.set_cons_zero, List.set_cons_succ]
        go_wp2_with fail
        refine (H2.out _).mono ?_
        rintro e' wf ⟨rfl, hbf⟩
        go_wp2_with fail
        try refine ⟨.agg #[.int .u64 x2h, .int .u64 x2l], ?_⟩
        simp [upd, g7, hbf]
      · have g2 : f 2 = .agg #[.int .u64 x0h, .int .u64 x0l] := hd 2 (by kernel_rfl)
        have g5 : f 5 = .agg #[.int .u64 x1h, .int .u64 x1l] := hd 5 (by kernel_rfl)
        have g8 : f 8 = .agg #[.int .u64 x2h, .int .u64 x2l] := hd 8 (by kernel_rfl)
        refine wpOp_list rfl ?_
        simp only [tmOf, putAll, List.map_cons, List.map_nil, List.setIfInBounds_toArray, List.set_cons_zero, List.set_cons_succ]
        go_wp2
        exact ⟨.slice (some ⟨ww.heap.size, 0, none⟩) 3 3, by simp [upd, g2, g5, g8], ⟨_, rfl, sums3 ww x0h x0l x1h x1l x2h x2l vv.a vv.b vv.c HW.out⟩, (Below.refl _ ww).alloc (Nat.le_refl _) _⟩
      · obtain ⟨b23, g9, hR23⟩ : ∃ b, f 9 = .slice (some ⟨b, 0, none⟩) 3 3 ∧ RdSum ww (some ⟨b, 0, none⟩) [vv.a, vv.b, vv.c] := hd 9 (by kernel_rfl)
        refine wpOp_list rfl ?_
        simp only [tmOf, putAll, List.map_cons, List.map_nil, List.setIfInBounds_toArray, List.set_cons_zero, List.set_cons_succ]
        have hlow := HLOW.out b23 ww hR23
        have HL := Lib.hid hlow
        clear hlow hR23
        go_wp2_with fail
        refine HL.out.mono ?_
        rintro e' wf ⟨b, rfl, hB, hbf⟩
        go_wp2_with fail
        first
          | exact ⟨.tuple #[.slice (some ⟨b, 0, none⟩) 3 3, .bool true], by simp [upd, g9], ⟨b, rfl, hB⟩, hbf⟩
          | exact ⟨.tuple #[.slice (some ⟨b, 0, none⟩) 3 3, .bool true], by simp [upd, g9], b, rfl, hB⟩
      · obtain ⟨b24, g10, hB24⟩ : ∃ b, f 10 = .tuple #[.slice (some ⟨b, 0, none⟩) 3 3, .bool true] ∧ Blk ww b #[.int .i64 n0, .int .i64 n1, .int .i64 n2] 2 := hd 10 (by kernel_rfl)
        refine wpOp_list rfl ?_
        simp only [tmOf, putAll, List.map_cons, List.map_nil, List.setIfInBounds_toArray, List.set_cons_zero, List.set_cons_succ]
        go_wp2
        exact ⟨.tuple #[.slice (some ⟨b24, 0, none⟩) 3 3, .bool true], by simp [upd, g10], ⟨b24, rfl, hB24⟩, Below.refl _ _⟩
      · obtain ⟨b13, g11, hB13⟩ : ∃ b, f 11 = .tuple #[.slice (some ⟨b, 0, none⟩) 3 3, .bool true] ∧ Blk ww b #[.int .i64 n0, .int .i64 n1, .int .i64 n2] 2 := hd 11 (by kernel_rfl)
        refine wpOp_list rfl ?_
        simp only [tmOf, putAll, List.map_cons, List.map_nil, List.setIfInBounds_toArray, List.set_cons_zero, List.set_cons_succ]
        go_wp2
        exact ⟨.slice (some ⟨b13, 0, none⟩) 3 3, by simp [upd, g11], ⟨b13, rfl, hB13⟩, Below.refl _ _⟩
      · obtain ⟨b13, g11, hB13⟩ : ∃ b, f 11 = .tuple #[.slice (some ⟨b, 0, none⟩) 3 3, .bool true] ∧ Blk ww b #[.int .i64 n0, .int .i64 n1, .int .i64 n2] 2 := hd 11 (by kernel_rfl)
        refine wpOp_list rfl ?_
        simp only [tmOf, putAll, List.map_cons, List.map_nil, List.setIfInBounds_toArray, List.set_cons_zero, List.set_cons_succ]
        go_wp2
        refine ⟨.bool true, ?_⟩
        simp [upd, g11, Below.refl]
      · obtain ⟨b25, g12, hB25⟩ : ∃ b, f 12 = .slice (some ⟨b, 0, none⟩) 3 3 ∧ Blk ww b #[.int .i64 n0, .int .i64 n1, .int .i64 n2] 2 := hd 12 (by kernel_rfl)
        refine wpOp_list rfl ?_
        simp only [tmOf, putAll, List.map_cons, List.map_nil, List.setIfInBounds_toArray, List.set_cons_zero, List.set_cons_succ]
        go_wp2
        exact ⟨.slice (some ⟨b25, 0, none⟩) 3 3, by simp [upd, g12], ⟨b25, rfl, hB25⟩, Below.refl _ _⟩
      · have g13 : f 13 = .bool true := hd 13 (by kernel_rfl)
        refine wpOp_list rfl ?_
        simp only [tmOf, putAll, List.map_cons, List.map_nil, List.setIfInBounds_toArray, List.set_cons_zero, List.set_cons_succ]
        go_wp2
        refine ⟨.bool true, ?_⟩
        simp [upd, g13, Below.refl]
      · simp only [List.length_cons, List.length_nil] at hx; omega
    · rintro f ww hS hd
      have G6 : ∃ b, (f 14) = .slice (some ⟨b, 0, none⟩) 3 3 ∧ Blk ww b #[.int .i64 n0, .int .i64 n1, .int .i64 n2] 2 := hd 14 (by decide)
      have G7 : f 15 = .bool true := hd 15 (by decide)
      simp only [tmOf, putAll, List.map_cons, List.map_nil, List.setIfInBounds_toArray, List.set_cons_zero, List.set_cons_succ]
      refine ‹∀ (a' : Act) (w' : World), Met _ a' w' → _› _ _ ?_
      go_meet
      case rel => exact (by obtain ⟨b, e, h⟩ := G6; exact ⟨b, e, h, G7, hS⟩)
  case rest =>
  obtain ⟨G, rfl, kG, rfl, hbz⟩ := hcut
  have kR := kR.kept hbz
  have hb := hb.trans (hbz.mono hb.size)
  clear hbz kV H0 H1 H2 HW HLOW
  generalize wc = wz at *
  go_upto_region 3 with fail
  refine wp_region_pure 10 (fun ix => match ix with | 0 => .slice (some ⟨G, 0, none⟩) 3 3 | 1 => .pointer (some ⟨G, 0, none⟩) | 2 => .int .i64 n0 | 3 => .slice (some ⟨G, 0, none⟩) 3 3 | 4 => .pointer (some ⟨G, 1, none⟩) | 5 => .int .i64 n1 | 6 => .slice (some ⟨G, 0, none⟩) 3 3 | 7 => .pointer (some ⟨G, 2, none⟩) | 8 => .int .i64 n2 | _ => .agg #[.int .i64 n0, .int .i64 n1, .int .i64 n2]) (by kernel_rfl) (by kernel_rfl) (by kernel_rfl) (by decide) ?_ ?_
  · rintro ix hx f ww hS hd
    have kg := kG.kept hS
    have a0_ := kg.cell (i := 0) rfl
    have a1_ := kg.cell (i := 1) rfl
    have a2_ := kg.cell (i := 2) rfl
    rcases ix with _ | _ | _ | _ | _ | _ | _ | _ | _ | _ | ix
    · refine wpOp_list rfl ?_
      simp only [tmOf, putAll, List.map_cons, List.map_nil, List.setIfInBounds_toArray, List.set_cons_zero, List.set_cons_succ]
      go_wp2
      simp [upd, Below.refl]
    · have g0 : f 0 = .slice (some ⟨G, 0, none⟩) 3 3 := hd 0 (by kernel_rfl)
      refine wpOp_list rfl ?_
      simp only [tmOf, putAll, List.map_cons, List.map_nil, List.setIfInBounds_toArray, List.set_cons_zero, List.set_cons_succ]
      go_wp2
      simp [upd, g0, Below.refl]
    · have g1 : f 1 = .pointer (some ⟨G, 0, none⟩) := hd 1 (by kernel_rfl)
      refine wpOp_list rfl ?_
      simp only [tmOf, putAll, List.map_cons, List.map_nil, List.setIfInBounds_toArray, List.set_cons_zero, List.set_cons_succ]
      go_wp2
      simp [upd, g1, Below.refl]
    · refine wpOp_list rfl ?_
      simp only [tmOf, putAll, List.map_cons, List.map_nil, List.setIfInBounds_toArray, List.set_cons_zero, List.set_cons_succ]
      go_wp2
      simp [upd, Below.refl]
    · have g3 : f 3 = .slice (some ⟨G, 0, none⟩) 3 3 := hd 3 (by kernel_rfl)
      refine wpOp_list rfl ?_
      simp only [tmOf, putAll, List.map_cons, List.map_nil, List.setIfInBounds_toArray, List.set_cons_zero, List.set_cons_succ]
      go_wp2
      simp [upd, g3, Below.refl]
    · have g4 : f 4 = .pointer (some ⟨G, 1, none⟩) := hd 4 (by kernel_rfl)
      refine wpOp_list rfl ?_
      simp only [tmOf, putAll, List.map_cons, List.map_nil, List.setIfInBounds_toArray, List.set_cons_zero, List.set_cons_succ]
      go_wp2
      simp [upd, g4, Below.refl]
    · refine wpOp_list rfl ?_
      simp only [tmOf, putAll, List.map_cons, List.map_nil, List.setIfInBounds_toArray, List.set_cons_zero, List.set_cons_succ]
      go_wp2
      simp [upd, Below.refl]
    · have g6 : f 6 = .slice (some ⟨G, 0, none⟩) 3 3 := hd 6 (by kernel_rfl)
      refine wpOp_list rfl ?_
      simp only [tmOf, putAll, List.map_cons, List.map_nil, List.setIfInBounds_toArray, List.set_cons_zero, List.set_cons_succ]
      go_wp2
      simp [upd, g6, Below.refl]
    · have g7 : f 7 = .pointer (some ⟨G, 2, none⟩) := hd 7 (by kernel_rfl)
      refine wpOp_list rfl ?_
      simp only [tmOf, putAll, List.map_cons, List.map_nil, List.setIfInBounds_toArray, List.set_cons_zero, List.set_cons_succ]
      go_wp2
      simp [upd, g7, Below.refl]
    · have g2 : f 2 = .int .i64 n0 := hd 2 (by kernel_rfl)
      have g5 : f 5 = .int .i64 n1 := hd 5 (by kernel_rfl)
      have g8 : f 8 = .int .i64 n2 := hd 8 (by kernel_rfl)
      refine wpOp_list rfl ?_
      simp only [tmOf, putAll, List.map_cons, List.map_nil, List.setIfInBounds_toArray, List.set_cons_zero, List.set_cons_succ]
      go_wp2
      simp [upd, g2, g5, g8, Below.refl]
    · omega
  · rintro f ww hS hd
    have kR := kR.kept hS
    have hb := hb.trans (hS.mono hb.size)
    have d0 := kR.cell (i := 0) rfl
    have q0 := kR.frozen 0
    have d1 := kR.cell (i := 1) rfl
    have q1 := kR.frozen 1
    have d2 := kR.cell (i := 2) rfl
    have q2 := kR.frozen 2
    have g9 : f 9 = .agg #[.int .i64 n0, .int .i64 n1, .int .i64 n2] := hd 9 (by decide)
    simp only [seqW, tmOf, putAll, List.map_cons, List.map_nil, List.setIfInBounds_toArray, List.set_cons_zero, List.set_cons_succ, List.length_cons, List.length_nil]
    refine wpOp_list rfl ?_
    go_wp2
    have L := Blk.put3 kR (.int .i64 n0) (.int .i64 n1) (.int .i64 n2)
    have z0 := L.cell (i := 0) rfl
    have z1 := L.cell (i := 1) rfl
    have z2 := L.cell (i := 2) rfl
    exact bodyPost_ret (v := .agg #[.int .i64 n0, .int .i64 n1, .int .i64 n2]) (by simp [results, Tryz.results48, go_sem, z0, z1, z2]) rfl ⟨rfl, ((hb.setCell (by simp only; omega) _).setCell (by simp only; omega) _).setCell (by simp only; omega) _⟩

end Go.Proofs.YtimkeblcdodfmaaGreat

namespace Go.Proofs.YtimkeblcdodfmaaGreat
open Go.RowKit Go.Shelf
attribute [local go_sem] Oper.semAt_some

theorem eqVec (u v : V3) (w : World) : (Op.equalIn 10000 24 (.agg #[.int .i64 u.a, .int .i64 u.b, .int .i64 u.c]) (.agg #[.int .i64 v.a, .int .i64 v.b, .int .i64 v.c])).run Tryz.prog w = .ok (decide (u = v)) w := by
  have u3 := Tryz.underlying2
  have a3 := Tryz.isAgg2
  have z3 := Tryz.sizeOf2
  rw [show (10000 : Nat) = 9999 + 1 from rfl, Op.equalIn]
  simp only [Sem.run_bind, run_underlying Tryz.underlying24, Result.andThen_ok]
  simp only [Std.Legacy.Range.forIn_eq_forIn_range', Std.Legacy.Range.size, Nat.sub_zero, Nat.add_sub_cancel, Nat.div_one, List.range'_succ, List.range'_zero, List.forIn_cons, List.forIn_nil]
  go_simp
  obtain ⟨a, b, c⟩ := u
  obtain ⟨e, f, g⟩ := v
  by_cases h1 : a = e <;> by_cases h2 : b = f <;> by_cases h3 : c = g <;> simp [h1, h2, h3]

/-- ErrNone for planes without a line. -/
def crossE (p q : V4) : Int := if crsW (nrm p) (nrm q) = ⟨0, 0, 0⟩ then 4 else 0

set_option maxRecDepth 100000 in
set_option maxHeartbeats 4000000 in
theorem crossing_closure (b0 b1 : Nat) (p q : V4) (w : World) (k0 : Blk w b0 #[.int .i64 p.a, .int .i64 p.b, .int .i64 p.c, .int .i64 p.d] 23) (k1 : Blk w b1 #[.int .i64 q.a, .int .i64 q.b, .int .i64 q.c, .int .i64 q.d] 23) :
    Calls Tryz.prog 78 #[.pointer (some ⟨b0, 0, none⟩), .pointer (some ⟨b1, 0, none⟩)] w fun e w' => e = .returned (.int .i64 (crossE p q)) ∧ Below w.heap.size w w' := by
  have HNP := Lib.hid (fun W => normal_any p W)
  have HNQ := Lib.hid (fun W => normal_any q W)
  have hcr := fun W => crsW_any (nrm p) (nrm q) W
  unfold crossE
  obtain ⟨v, hv⟩ : ∃ v, crsW (nrm p) (nrm q) = v := ⟨_, rfl⟩
  rw [hv] at hcr ⊢
  have HCR := Lib.hid hcr
  obtain ⟨t, ht⟩ : ∃ t, decide (v = ⟨0, 0, 0⟩) = t := ⟨_, rfl⟩
  have HT := Lib.hid ht
  have heq := fun w => eqVec v ⟨0, 0, 0⟩ w
  rw [ht] at heq
  obtain ⟨E, hE⟩ : ∃ E : Int, (if v = ⟨0, 0, 0⟩ then 4 else 0) = E := ⟨_, rfl⟩
  have hEt : E = if t = true then 4 else 0 := by rw [← hE, ← ht]; by_cases h : v = ⟨0, 0, 0⟩ <;> simp [h]
  rw [hE]
  have HE := Lib.hid hEt
  clear hcr hv ht hE hEt
  go_enter Tryz.func78, Tryz.ntmps78
  go_upto_region 1 with fail
  go_cut [9] from 3 to 9 (fun v9 wx => v9 = .bool t ∧ Below w.heap.size w wx)
  case first =>
    refine wp_region_pure' (fun ix => match ix with | 0 => .agg #[.int .i64 p.a, .int .i64 p.b, .int .i64 p.c, .int .i64 p.d] | 1 => .agg #[.int .i64 (nrm p).a, .int .i64 (nrm p).b, .int .i64 (nrm p).c] | 2 => .agg #[.int .i64 q.a, .int .i64 q.b, .int .i64 q.c, .int .i64 q.d] | 3 => .agg #[.int .i64 (nrm q).a, .int .i64 (nrm q).b, .int .i64 (nrm q).c] | 4 => .agg #[.int .i64 v.a, .int .i64 v.b, .int .i64 v.c] | 5 => .agg #[.int .i64 0, .int .i64 0, .int .i64 0] | _ => .bool t) (by kernel_rfl) (by kernel_rfl) ?_ ?_
    · rintro ix hx f ww hS hd
      have ka := k0.kept hS
      have kb := k1.kept hS
      have a0_ := ka.cell (i := 0) rfl
      have a1_ := ka.cell (i := 1) rfl
      have a2_ := ka.cell (i := 2) rfl
      have a3_ := ka.cell (i := 3) rfl
      have b0_ := kb.cell (i := 0) rfl
      have b1_ := kb.cell (i := 1) rfl
      have b2_ := kb.cell (i := 2) rfl
      have b3_ := kb.cell (i := 3) rfl
      rcases ix with _ | _ | _ | _ | _ | _ | _ | ix
      · refine wpOp_list rfl ?_
        simp only [tmOf, putAll, List.map_cons, List.map_nil, List.setIfInBounds_toArray, List.set_cons_zero, List.set_cons_succ]
        go_wp2
        simp [upd, Below.refl]
      · have g0 : f 0 = .agg #[.int .i64 p.a, .int .i64 p.b, .int .i64 p.c, .int .i64 p.d] := hd 0 (by kernel_rfl)
        refine wpOp_list rfl ?_
        simp only [tmOf, putAll, List.map_cons, List.map_nil, List.setIfInBounds_toArray, List.set_cons_zero, List.set_cons_succ]
        go_wp2_with fail
        refine (HNP.out _).mono ?_
        rintro e' wf ⟨rfl, hbf⟩
        go_wp2_with fail
        simp [upd, g0, hbf]
      · refine wpOp_list rfl ?_
        simp only [tmOf, putAll, List.map_cons, List.map_nil, List.setIfInBounds_toArray, List.set_cons_zero, List.set_cons_succ]
        go_wp2
        simp [upd, Below.refl]
      · have g2 : f 2 = .agg #[.int .i64 q.a, .int .i64 q.b, .int .i64 q.c, .int .i64 q.d] := hd 2 (by kernel_rfl)
        refine wpOp_list rfl ?_
        simp only [tmOf, putAll, List.map_cons, List.map_nil, List.setIfInBounds_toArray, List.set_cons_zero, List.set_cons_succ]
        go_wp2_with fail
        refine (HNQ.out _).mono ?_
        rintro e' wf ⟨rfl, hbf⟩
        go_wp2_with fail
        simp [upd, g2, hbf]
      · have g1 : f 1 = .agg #[.int .i64 (nrm p).a, .int .i64 (nrm p).b, .int .i64 (nrm p).c] := hd 1 (by kernel_rfl)
        have g3 : f 3 = .agg #[.int .i64 (nrm q).a, .int .i64 (nrm q).b, .int .i64 (nrm q).c] := hd 3 (by kernel_rfl)
        refine wpOp_list rfl ?_
        simp only [tmOf, putAll, List.map_cons, List.map_nil, List.setIfInBounds_toArray, List.set_cons_zero, List.set_cons_succ]
        go_wp2_with fail
        refine (HCR.out _).mono ?_
        rintro e' wf ⟨rfl, hbf⟩
        go_wp2_with fail
        simp [upd, g1, g3, hbf]
      · refine wpOp_list rfl ?_
        simp only [tmOf, putAll, List.map_cons, List.map_nil, List.setIfInBounds_toArray, List.set_cons_zero, List.set_cons_succ]
        go_wp2
        simp [upd, Below.refl]
      · have g4 : f 4 = .agg #[.int .i64 v.a, .int .i64 v.b, .int .i64 v.c] := hd 4 (by kernel_rfl)
        have g5 : f 5 = .agg #[.int .i64 0, .int .i64 0, .int .i64 0] := hd 5 (by kernel_rfl)
        refine wpOp_list rfl ?_
        simp only [tmOf, putAll, List.map_cons, List.map_nil, List.setIfInBounds_toArray, List.set_cons_zero, List.set_cons_succ]
        go_wp2
        simp [upd, g4, g5, Below.refl]
      · simp only [List.length_cons, List.length_nil] at hx; omega
    · rintro f ww hS hd
      have gl : f 6 = .bool t := hd 6 (by decide)
      simp only [tmOf, putAll, List.map_cons, List.map_nil, List.setIfInBounds_toArray, List.set_cons_zero, List.set_cons_succ]
      refine ‹∀ (a' : Act) (w' : World), Met _ a' w' → _› _ _ ?_
      go_meet
      case rel => exact ⟨gl, hS⟩
  case rest =>
  obtain ⟨rfl, hb⟩ := hcut
  cases t with
  | true =>
    have HE2 : Hid (E = 4) := Lib.hid HE.out
    go_wp2_with fail
    go_ret
    exact ⟨by rw [HE2.out]; rfl, hb⟩
  | false =>
    have HE2 : Hid (E = 0) := Lib.hid HE.out
    go_wp2_with fail
    go_ret
    exact ⟨by rw [HE2.out]; rfl, hb⟩

set_option maxRecDepth 100000 in
set_option maxHeartbeats 2000000 in
theorem crossing_any (p q : V4) (w : World) :
    Calls Tryz.prog 47 #[.agg #[.int .i64 p.a, .int .i64 p.b, .int .i64 p.c, .int .i64 p.d], .agg #[.int .i64 q.a, .int .i64 q.b, .int .i64 q.c, .int .i64 q.d]] w fun e w' => ∃ v, e = .returned v ∧ ChkIs w' v (crossE p q) ∧ Below w.heap.size w w' := by
  have hb0 : Below w.heap.size w ((w.alloc (.cells #[.int .i64 p.a, .int .i64 p.b, .int .i64 p.c, .int .i64 p.d] 23)).alloc (.cells #[.int .i64 q.a, .int .i64 q.b, .int .i64 q.c, .int .i64 q.d] 23)) := bw2 w _ _
  have k0 : Blk ((w.alloc (.cells #[.int .i64 p.a, .int .i64 p.b, .int .i64 p.c, .int .i64 p.d] 23)).alloc (.cells #[.int .i64 q.a, .int .i64 q.b, .int .i64 q.c, .int .i64 q.d] 23)) w.heap.size #[.int .i64 p.a, .int .i64 p.b, .int .i64 p.c, .int .i64 p.d] 23 := (Blk.new w _ _).alloc _
  have k1 : Blk ((w.alloc (.cells #[.int .i64 p.a, .int .i64 p.b, .int .i64 p.c, .int .i64 p.d] 23)).alloc (.cells #[.int .i64 q.a, .int .i64 q.b, .int .i64 q.c, .int .i64 q.d] 23)) (w.heap.size + 1) #[.int .i64 q.a, .int .i64 q.b, .int .i64 q.c, .int .i64 q.d] 23 := Blk.new' _ _ _ (by simp)
  go_enter Tryz.func47, Tryz.ntmps47
  go_wp2
  go_ret
  refine ⟨_, rfl, ⟨_, _, rfl, enters_of Tryz.func78 (by kernel_rfl) rfl, fun W hW => ?_⟩, hb0⟩
  exact crossing_closure _ _ p q W (k0.kept hW) (k1.kept hW)
theorem crossE_zero {p q : V4} (hp : RightQ p) (hq : RightQ q) : crossE p q = errE (decide (crsV (nrm p) (nrm q) ≠ ⟨0, 0, 0⟩)) 4 := by
  unfold crossE
  rw [crsW_eq (nrm_far hp) (nrm_far hq) (by decide)]
  by_cases h : crsV (nrm p) (nrm q) = ⟨0, 0, 0⟩
  · rw [if_pos h, decide_eq_false (by simp [h])]; rfl
  · rw [if_neg h, decide_eq_true h]; rfl

end Go.Proofs.YtimkeblcdodfmaaGreat
