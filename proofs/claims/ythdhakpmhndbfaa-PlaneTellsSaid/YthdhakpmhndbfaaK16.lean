/-
  Package sums: whether three sums are the same; Package plane: Through, plain; what it reads; Package plane: the plane through three points; Package plane: whether two planes' coefficients are the same; Package plane: on which side of a plane a point lies.
-/
import Derived.ChangeKeysEq
import Derived.Deep.CutBlock
import Derived.Test.YthdhakpmhndbfaaK1
import Derived.Test.YthdhakpmhndbfaaK2
import Derived.Test.YthdhakpmhndbfaaK3
import Derived.Test.YthdhakpmhndbfaaK4
import Derived.Test.YthdhakpmhndbfaaK5
import Derived.Test.YthdhakpmhndbfaaK6
import Derived.Test.YthdhakpmhndbfaaK7
import Derived.Test.YthdhakpmhndbfaaK8
import Derived.Test.YthdhakpmhndbfaaK9
import Derived.Test.YthdhakpmhndbfaaK13
import Derived.Test.YthdhakpmhndbfaaK14
import Derived.Test.YthdhakpmhndbfaaK15
namespace Go.Proofs.Ythdhakpmhndbfaa
open Go.RowKit Go.Shelf
attribute [local go_sem] Oper.semAt_some

theorem eqIn_sum (a b c d : Int) (w : World) : (Op.equalIn 9999 76 (.agg #[.int .u64 a, .int .u64 b]) (.agg #[.int .u64 c, .int .u64 d])).run Try.prog w = .ok (a == c && b == d) w := by
  have hS : Try.prog.underlying 76 = some (.struct (Try.prog.fieldsOf 76)) := by kernel_rfl
  have hp : Try.prog.stoodInHeld 76 = false := by kernel_rfl
  rw [show (9999 : Nat) = 9998 + 1 from rfl, run_equalIn_agg w 9998 _ _ _ hS hp]
  simp only [Program.fieldsOf, Try.underlying76]
  go_simp
  by_cases h1 : a = c <;> by_cases h2 : b = d <;> simp [h1, h2]

theorem eqIn_sum3 (a b c d e f : Int) (w : World) : (Op.equalIn 10000 89 (.agg #[.int .u64 a, .int .u64 b, .int .u64 c, .int .u64 d, .int .u64 e, .int .u64 f]) (.agg #[.int .u64 0, .int .u64 0, .int .u64 0, .int .u64 0, .int .u64 0, .int .u64 0])).run Try.prog w = .ok (decide ((a = 0 ∧ b = 0) ∧ (c = 0 ∧ d = 0) ∧ (e = 0 ∧ f = 0))) w := by
  have a3 := Try.isAgg76
  have z3 := Try.sizeOf76
  have h := fun a b c d w => eqIn_sum a b c d w
  rw [show (10000 : Nat) = 9999 + 1 from rfl, Op.equalIn]
  simp only [Sem.run_bind, run_underlying Try.underlying89, Result.andThen_ok]
  simp only [Std.Legacy.Range.forIn_eq_forIn_range', Std.Legacy.Range.size, Nat.sub_zero, Nat.add_sub_cancel, Nat.div_one, List.range'_succ, List.range'_zero, List.forIn_cons, List.forIn_nil]
  go_simp
  by_cases h1 : a = 0 <;> by_cases h2 : b = 0 <;> by_cases h3 : c = 0 <;> by_cases h4 : d = 0 <;> by_cases h5 : e = 0 <;> by_cases h6 : f = 0 <;> simp [h1, h2, h3, h4, h5, h6]

end Go.Proofs.Ythdhakpmhndbfaa

namespace Go.Proofs.Ythdhakpmhndbfaa
open Go.RowKit Go.Shelf
attribute [local go_sem] Oper.semAt_some

theorem points3 (w : World) (p q r : V4) (t : TypeId) : RdV (w.alloc (.cells #[.int .i64 p.a, .int .i64 p.b, .int .i64 p.c, .int .i64 p.d, .int .i64 q.a, .int .i64 q.b, .int .i64 q.c, .int .i64 q.d, .int .i64 r.a, .int .i64 r.b, .int .i64 r.c, .int .i64 r.d] t)) (some ⟨w.heap.size, 0, none⟩) [p, q, r] := by
  have hB := Blk.new w #[.int .i64 p.a, .int .i64 p.b, .int .i64 p.c, .int .i64 p.d, .int .i64 q.a, .int .i64 q.b, .int .i64 q.c, .int .i64 q.d, .int .i64 r.a, .int .i64 r.b, .int .i64 r.c, .int .i64 r.d] t
  intro i y hi
  match i, hi with
  | 0, hi => cases hi; exact ⟨_, 0, rfl, hB.lt, hB.cell (i := 0) rfl, hB.cell (i := 1) rfl, hB.cell (i := 2) rfl, hB.cell (i := 3) rfl⟩
  | 1, hi => cases hi; exact ⟨_, 0, rfl, hB.lt, hB.cell (i := 4) rfl, hB.cell (i := 5) rfl, hB.cell (i := 6) rfl, hB.cell (i := 7) rfl⟩
  | 2, hi => cases hi; exact ⟨_, 0, rfl, hB.lt, hB.cell (i := 8) rfl, hB.cell (i := 9) rfl, hB.cell (i := 10) rfl, hB.cell (i := 11) rfl⟩
  | i + 3, hi => simp at hi

theorem rdSum3 {W : World} {B : Nat} {x y z : Int} {xh xl yh yl zh zl : Int} {t : TypeId} (h : (hiW x = xh ∧ loW x = xl) ∧ (hiW y = yh ∧ loW y = yl) ∧ (hiW z = zh ∧ loW z = zl)) (hB : Blk W B #[.int .u64 xh, .int .u64 xl, .int .u64 yh, .int .u64 yl, .int .u64 zh, .int .u64 zl] t) : RdSum W (some ⟨B, 0, none⟩) [x, y, z] := by
  obtain ⟨⟨rfl, rfl⟩, ⟨rfl, rfl⟩, ⟨rfl, rfl⟩⟩ := h
  intro i q hi
  match i, hi with
  | 0, hi => cases hi; exact ⟨_, 0, rfl, hB.lt, hB.cell (i := 0) rfl, hB.cell (i := 1) rfl⟩
  | 1, hi => cases hi; exact ⟨_, 0, rfl, hB.lt, hB.cell (i := 2) rfl, hB.cell (i := 3) rfl⟩
  | 2, hi => cases hi; exact ⟨_, 0, rfl, hB.lt, hB.cell (i := 4) rfl, hB.cell (i := 5) rfl⟩
  | i + 3, hi => simp at hi

theorem rdI3 {W : World} {B : Nat} {x y z : Int} {t : TypeId} (hB : Blk W B #[.int .i64 x, .int .i64 y, .int .i64 z] t) : RdI W (some ⟨B, 0, none⟩) [x, y, z] := by
  intro i q hi
  match i, hi with
  | 0, hi => cases hi; exact ⟨_, 0, rfl, hB.lt, hB.cell (i := 0) rfl⟩
  | 1, hi => cases hi; exact ⟨_, 0, rfl, hB.lt, hB.cell (i := 1) rfl⟩
  | 2, hi => cases hi; exact ⟨_, 0, rfl, hB.lt, hB.cell (i := 2) rfl⟩
  | i + 3, hi => simp at hi

theorem minor_fits {q1 q2 q3 r1 r2 r3 s1 s2 s3 : Int} {M K : Nat} (h1 : q1.natAbs ≤ M) (h2 : q2.natAbs ≤ M) (h3 : q3.natAbs ≤ K) (i1 : r1.natAbs ≤ M) (i2 : r2.natAbs ≤ M) (i3 : r3.natAbs ≤ K) (j1 : s1.natAbs ≤ M) (j2 : s2.natAbs ≤ M) (j3 : s3.natAbs ≤ K) :
    (minorZ q1 q2 q3 r1 r2 r3 s1 s2 s3).natAbs ≤ 6 * (M * M * K) := by
  have two : ∀ {a b c d : Int}, a.natAbs ≤ M → b.natAbs ≤ M → c.natAbs ≤ M → d.natAbs ≤ M → (a * b - c * d).natAbs ≤ 2 * (M * M) := by
    intro a b c d ha hb hc hd
    have e1 := mul_le_nat ha hb
    have e2 := mul_le_nat hc hd
    omega
  have e1 := mul_le_nat (two h1 i2 h2 i1) j3
  have e2 := mul_le_nat (two i1 j2 i2 j1) h3
  have e3 := mul_le_nat (two j1 h2 j2 h1) i3
  rw [Nat.mul_assoc 2] at e1 e2 e3
  unfold minorZ
  omega

/-- The last coefficient of the plane through three points. -/
def thrD (p q r : V4) : Int := -(minorZ p.a p.b p.c q.a q.b q.c r.a r.b r.c)
def SoundQ (p : V4) : Prop := SoundP p.a p.b p.c p.d
instance (p : V4) : Decidable (SoundQ p) := by unfold SoundQ; infer_instance
theorem thr_rel (p q r : V4) : thrD p q r * p.d = -(crossX p q r * p.a + crossY p q r * p.b + crossZ p q r * p.c) := by
  have h := minor_rel p.a p.b p.c p.d q.a q.b q.c q.d r.a r.b r.c r.d
  unfold thrD crossX crossY crossZ
  rw [Int.neg_mul]
  omega
theorem cross_fits {p q r : V4} (hp : SoundQ p) (hq : SoundQ q) (hr : SoundQ r) : ∀ x ∈ [crossX p q r, crossY p q r, crossZ p q r], In127 x ∧ x.natAbs < 170141183460469231731687303715884105728 := by
  obtain ⟨p0, p1, p2, p3, p4, _⟩ := hp
  obtain ⟨q0, q1, q2, q3, q4, _⟩ := hq
  obtain ⟨r0, r1, r2, r3, r4, _⟩ := hr
  have p5 : p.d.natAbs ≤ 8589934592 := by omega
  have q5 : q.d.natAbs ≤ 8589934592 := by omega
  have r5 : r.d.natAbs ≤ 8589934592 := by omega
  have hx := minor_fits p1 p2 p5 q1 q2 q5 r1 r2 r5
  have hy := minor_fits p2 p0 p5 q2 q0 q5 r2 r0 r5
  have hz := minor_fits p0 p1 p5 q0 q1 q5 r0 r1 r5
  intro x hx'
  simp only [List.mem_cons, List.not_mem_nil, or_false] at hx'
  unfold In127
  rcases hx' with rfl | rfl | rfl
  · unfold crossX; omega
  · unfold crossY; omega
  · unfold crossZ; omega

def zero3 (p q r : V4) : Prop := crossX p q r = 0 ∧ crossY p q r = 0 ∧ crossZ p q r = 0
instance (p q r : V4) : Decidable (zero3 p q r) := by unfold zero3; infer_instance
def thrOk (p q r : V4) : Prop := MakeOk (crossX p q r) (crossY p q r) (crossZ p q r) (thrD p q r)
instance (p q r : V4) : Decidable (thrOk p q r) := by unfold thrOk; infer_instance
def thrL (p q r : V4) : V4 := ⟨low4 (crossX p q r) (crossY p q r) (crossZ p q r) (thrD p q r) (crossX p q r), low4 (crossX p q r) (crossY p q r) (crossZ p q r) (thrD p q r) (crossY p q r), low4 (crossX p q r) (crossY p q r) (crossZ p q r) (thrD p q r) (crossZ p q r), low4 (crossX p q r) (crossY p q r) (crossZ p q r) (thrD p q r) (thrD p q r)⟩
def sound3 (p q r : V4) : Bool := decide (SoundQ p) && (decide (SoundQ q) && decide (SoundQ r))
/-- The error of Through. -/
def thrE (p q r : V4) : Int := if sound3 p q r = true then (if zero3 p q r then 4 else errE (decide (thrOk p q r)) 2) else 40
/-- Its plane. -/
def thrP (p q r : V4) : V4 := if sound3 p q r = true then (if zero3 p q r then ⟨0, 0, 0, 0⟩ else if thrOk p q r then thrL p q r else ⟨0, 0, 0, 0⟩) else ⟨0, 0, 0, 0⟩

/-- With the normal's lowest terms: the same plane. -/
theorem at_thr (p q r : V4) (B c : Nat) (w : World) (hp : SoundQ p) (hz : ¬ zero3 p q r) (n0 n1 n2 : Int) (e0 : n0 * (gcdL 0 [crossX p q r, crossY p q r, crossZ p q r] : Nat) = crossX p q r) (e1 : n1 * (gcdL 0 [crossX p q r, crossY p q r, crossZ p q r] : Nat) = crossY p q r) (e2 : n2 * (gcdL 0 [crossX p q r, crossY p q r, crossZ p q r] : Nat) = crossZ p q r) (hg : 0 < gcdL 0 [crossX p q r, crossY p q r, crossZ p q r])
    (h0 : n0.natAbs ≤ 1000) (h1 : n1.natAbs ≤ 1000) (h2 : n2.natAbs ≤ 1000) (hB : Blk w B #[.int .i64 n0, .int .i64 n1, .int .i64 n2] 2) :
    Calls Try.prog 58 #[.agg #[.int .i64 p.a, .int .i64 p.b, .int .i64 p.c, .int .i64 p.d], .slice (some ⟨B, 0, none⟩) 3 c] w fun e w' => e = .returned (.tuple #[if thrOk p q r then .agg #[.int .i64 (thrL p q r).a, .int .i64 (thrL p q r).b, .int .i64 (thrL p q r).c, .int .i64 (thrL p q r).d] else .agg #[.int .i64 0, .int .i64 0, .int .i64 0, .int .i64 0], .int .i64 (errE (decide (thrOk p q r)) 2)]) ∧ Below w.heap.size w w' := by
  have hn : ¬ (n0 = 0 ∧ n1 = 0 ∧ n2 = 0) := by
    rintro ⟨rfl, rfl, rfl⟩
    rw [Int.zero_mul] at e0 e1 e2
    exact hz ⟨e0.symm, e1.symm, e2.symm⟩
  have h := at_any p B c n0 n1 n2 w hp hn h0 h1 h2 hB
  obtain ⟨l0, l1, l2, l3⟩ := through_same (x3 := thrD p q r) hg hp.2.2.2.1 e0 e1 e2 (thr_rel p q r)
  have hok : MakeOk (n0 * p.d) (n1 * p.d) (n2 * p.d) (-(n0 * p.a + n1 * p.b + n2 * p.c)) ↔ thrOk p q r := by
    unfold thrOk MakeOk; rw [l0, l1, l2, l3]
  rw [l0, l1, l2, l3, ite_iff hok, show decide (MakeOk (n0 * p.d) (n1 * p.d) (n2 * p.d) (-(n0 * p.a + n1 * p.b + n2 * p.c))) = decide (thrOk p q r) from decide_eq_decide.2 hok] at h
  exact h

end Go.Proofs.Ythdhakpmhndbfaa

namespace Go.Proofs.Ythdhakpmhndbfaa
open Go.RowKit Go.Shelf
attribute [local go_sem] Oper.semAt_some

set_option maxRecDepth 100000 in
set_option maxHeartbeats 8000000 in
theorem through_any (p q r : V4) (w : World) (hp : InV p) (hq : InV q) (hrr : InV r) :
    Calls Try.prog 25 #[.agg #[.int .i64 p.a, .int .i64 p.b, .int .i64 p.c, .int .i64 p.d], .agg #[.int .i64 q.a, .int .i64 q.b, .int .i64 q.c, .int .i64 q.d], .agg #[.int .i64 r.a, .int .i64 r.b, .int .i64 r.c, .int .i64 r.d]] w fun e w' => e = .returned (.tuple #[.agg #[.int .i64 (thrP p q r).a, .int .i64 (thrP p q r).b, .int .i64 (thrP p q r).c, .int .i64 (thrP p q r).d], .int .i64 (thrE p q r)]) ∧ Below w.heap.size w w' := by
  obtain ⟨w1, hw1⟩ : ∃ w1, ((((w.alloc (.cells #[.int .i64 p.a, .int .i64 p.b, .int .i64 p.c, .int .i64 p.d] 37)).alloc (.cells #[.int .i64 q.a, .int .i64 q.b, .int .i64 q.c, .int .i64 q.d] 37)).alloc (.cells #[.int .i64 r.a, .int .i64 r.b, .int .i64 r.c, .int .i64 r.d] 37)).alloc (.cells #[.int .i64 0, .int .i64 0, .int .i64 0, .int .i64 0] 23)) = w1 := ⟨_, rfl⟩
  have hb1 : Below w.heap.size w w1 := by rw [← hw1]; exact bw4' w _ _ _ _
  have k0 : Blk w1 (w.heap.size) #[.int .i64 p.a, .int .i64 p.b, .int .i64 p.c, .int .i64 p.d] 37 := by rw [← hw1]; exact (((Blk.new w _ _).alloc _).alloc _).alloc _
  have k1 : Blk w1 (w.heap.size + 1) #[.int .i64 q.a, .int .i64 q.b, .int .i64 q.c, .int .i64 q.d] 37 := by rw [← hw1]; exact ((Blk.new' _ _ _ (by simp)).alloc _).alloc _
  have k2 : Blk w1 (w.heap.size + 1 + 1) #[.int .i64 r.a, .int .i64 r.b, .int .i64 r.c, .int .i64 r.d] 37 := by rw [← hw1]; exact (Blk.new' _ _ _ (by simp)).alloc _
  have kR : Blk w1 (w.heap.size + 1 + 1 + 1) #[.int .i64 0, .int .i64 0, .int .i64 0, .int .i64 0] 23 := by rw [← hw1]; exact Blk.new' _ _ _ (by simp)
  have p00 := k0.cell (i := 0) rfl
  have p01 := k0.cell (i := 1) rfl
  have p02 := k0.cell (i := 2) rfl
  have p03 := k0.cell (i := 3) rfl
  have p10 := k1.cell (i := 0) rfl
  have p11 := k1.cell (i := 1) rfl
  have p12 := k1.cell (i := 2) rfl
  have p13 := k1.cell (i := 3) rfl
  have p20 := k2.cell (i := 0) rfl
  have p21 := k2.cell (i := 1) rfl
  have p22 := k2.cell (i := 2) rfl
  have p23 := k2.cell (i := 3) rfl
  obtain ⟨w2, hw2⟩ : ∃ w2, w1.alloc (.cells #[.int .i64 p.a, .int .i64 p.b, .int .i64 p.c, .int .i64 p.d, .int .i64 q.a, .int .i64 q.b, .int .i64 q.c, .int .i64 q.d, .int .i64 r.a, .int .i64 r.b, .int .i64 r.c, .int .i64 r.d] 37) = w2 := ⟨_, rfl⟩
  have hr2 : RdV w2 (some ⟨w1.heap.size, 0, none⟩) [p, q, r] := by rw [← hw2]; exact points3 w1 p q r _
  have hb2 : Below w1.heap.size w1 w2 := by rw [← hw2]; exact (Below.refl _ w1).alloc (Nat.le_refl _) _
  have hpl := points_any (some ⟨w1.heap.size, 0, none⟩) 3 3 [p, q, r] w2 rfl (by decide) hr2 (by intro x hx; simp at hx; rcases hx with rfl | rfl | rfl; exact hp; exact hq; exact hrr)
  have hall : ([p, q, r] : List V4).all (fun q => decide (SoundP q.a q.b q.c q.d)) = sound3 p q r := by simp [sound3, SoundQ]
  rw [hall] at hpl
  have hbd : sound3 p q r = true → SoundQ p ∧ SoundQ q ∧ SoundQ r := fun hh => by simpa [sound3] using hh
  have hX := fun W => cross_any p q r W hp hq hrr
  obtain ⟨t, ht⟩ : ∃ t, sound3 p q r = t := ⟨_, rfl⟩
  have hE : thrE p q r = if t = true then (if zero3 p q r then 4 else errE (decide (thrOk p q r)) 2) else 40 := by unfold thrE; rw [ht]
  have hP : thrP p q r = if t = true then (if zero3 p q r then ⟨0, 0, 0, 0⟩ else if thrOk p q r then thrL p q r else ⟨0, 0, 0, 0⟩) else ⟨0, 0, 0, 0⟩ := by unfold thrP; rw [ht]
  rw [ht] at hpl hbd
  obtain ⟨PV, hPV⟩ : ∃ v, thrP p q r = v := ⟨_, rfl⟩
  obtain ⟨EV, hEV⟩ : ∃ v, thrE p q r = v := ⟨_, rfl⟩
  rw [hPV] at hP ⊢
  rw [hEV] at hE ⊢
  have HPE := Lib.hid (And.intro hP hE)
  clear hPV hEV
  have HP := Lib.hid hpl
  have HX := Lib.hid hX
  have HBD := Lib.hid hbd
  clear hpl hall hr2 hp hq hrr hbd hX ht hE hP
  go_enter Try.func25, Try.ntmps25
  go_wp2_with fail
  refine HP.out.mono ?_
  rintro e' w3 ⟨v, rfl, hv, hb3⟩
  have hb13 := hb2.trans (hb3.mono hb2.size)
  obtain ⟨gf, caps, rfl, _⟩ := id hv
  obtain ⟨w4, hw4⟩ : ∃ w4, w3.alloc (.cells #[.func (.func gf) #[] caps] 70) = w4 := ⟨_, rfl⟩
  have hr4 : RdC w4 (some ⟨w3.heap.size, 0, none⟩) [errE t 40] := by rw [← hw4]; exact checks1 w3 _ _ _ hv
  have hb14 : Below w1.heap.size w1 w4 := by rw [← hw4]; exact hb13.alloc hb13.size _
  have hf := first_any (some ⟨w3.heap.size, 0, none⟩) 1 1 [errE t 40] w4 rfl (by decide) hr4
  rw [firstE_one] at hf
  have HF := Lib.hid hf
  clear hf hr4 hv
  go_wp2_with fail
  refine HF.out.mono ?_
  rintro e' w5 ⟨rfl, hb5⟩
  have hb15 := hb14.trans (hb5.mono hb14.size)
  have hb5' := hb1.trans (hb15.mono hb1.size)
  have k0 := k0.kept hb15
  have k1 := k1.kept hb15
  have k2 := k2.kept hb15
  have kR := kR.kept hb15
  have p00 := k0.cell (i := 0) rfl
  have p01 := k0.cell (i := 1) rfl
  have p02 := k0.cell (i := 2) rfl
  have p03 := k0.cell (i := 3) rfl
  have p10 := k1.cell (i := 0) rfl
  have p11 := k1.cell (i := 1) rfl
  have p12 := k1.cell (i := 2) rfl
  have p13 := k1.cell (i := 3) rfl
  have p20 := k2.cell (i := 0) rfl
  have p21 := k2.cell (i := 1) rfl
  have p22 := k2.cell (i := 2) rfl
  have p23 := k2.cell (i := 3) rfl
  clear hw1 hw2 hw4 hb1 hb2 hb3 hb13 hb14 hb15 hb5 HF HP
  cases t
  · rw [show errE false 40 = 40 from rfl]
    have HV : Hid (Ending.returned (.tuple #[.agg #[.int .i64 0, .int .i64 0, .int .i64 0, .int .i64 0], .int .i64 40]) = Ending.returned (.tuple #[.agg #[.int .i64 PV.a, .int .i64 PV.b, .int .i64 PV.c, .int .i64 PV.d], .int .i64 EV])) := Lib.hid (by rw [HPE.out.1, HPE.out.2]; rfl)
    have d0 := kR.cell (i := 0) rfl
    have d1 := kR.cell (i := 1) rfl
    have d2 := kR.cell (i := 2) rfl
    have d3 := kR.cell (i := 3) rfl
    have q0 := kR.frozen 0
    have q1 := kR.frozen 1
    have q2 := kR.frozen 2
    have q3 := kR.frozen 3
    go_wp2_with fail
    have L := Blk.put4 kR (.int .i64 0) (.int .i64 0) (.int .i64 0) (.int .i64 0)
    have z0 := L.cell (i := 0) rfl
    have z1 := L.cell (i := 1) rfl
    have z2 := L.cell (i := 2) rfl
    have z3 := L.cell (i := 3) rfl
    exact bodyPost_ret (v := .tuple #[.agg #[.int .i64 0, .int .i64 0, .int .i64 0, .int .i64 0], .int .i64 40]) (by simp [results, Try.results25, go_sem, z0, z1, z2, z3]) rfl ⟨HV.out, (((hb5'.setCell (by simp only; omega) _).setCell (by simp only; omega) _).setCell (by simp only; omega) _).setCell (by simp only; omega) _⟩
  · rw [show errE true 40 = 0 from rfl]
    obtain ⟨sp, sq, sr⟩ := HBD.out rfl
    have hfit := cross_fits sp sq sr
    have hat := fun B c W n0 n1 n2 e0 e1 e2 hg h0 h1 h2 hB hz => at_thr p q r B c W sp hz n0 n1 n2 e0 e1 e2 hg h0 h1 h2 hB
    obtain ⟨x, hx⟩ : ∃ x, crossX p q r = x := ⟨_, rfl⟩
    obtain ⟨y, hy⟩ : ∃ x, crossY p q r = x := ⟨_, rfl⟩
    obtain ⟨z, hz⟩ : ∃ x, crossZ p q r = x := ⟨_, rfl⟩
    rw [hx, hy, hz] at HX hfit hat
    have hzero : zero3 p q r ↔ (x = 0 ∧ y = 0 ∧ z = 0) := by unfold zero3; rw [hx, hy, hz]
    have hno : ∀ (n0 n1 n2 : Int) (g : Nat), 0 < g → g = gcdL 0 [x, y, z] → n0 * g = x → n1 * g = y → n2 * g = z → (1000 < n0.natAbs ∨ 1000 < n1.natAbs ∨ 1000 < n2.natAbs) → ¬ thrOk p q r := by
      intro n0 n1 n2 g hg hg3 e0 e1 e2 hb
      unfold thrOk
      rw [hx, hy, hz]
      exact through_big hg hg3 e0 e1 e2 hb
    obtain ⟨xh, hxh⟩ : ∃ v, hiW x = v := ⟨_, rfl⟩
    obtain ⟨xl, hxl⟩ : ∃ v, loW x = v := ⟨_, rfl⟩
    obtain ⟨yh, hyh⟩ : ∃ v, hiW y = v := ⟨_, rfl⟩
    obtain ⟨yl, hyl⟩ : ∃ v, loW y = v := ⟨_, rfl⟩
    obtain ⟨zh, hzh⟩ : ∃ v, hiW z = v := ⟨_, rfl⟩
    obtain ⟨zl, hzl⟩ : ∃ v, loW z = v := ⟨_, rfl⟩
    have hwz : (x = 0 ∧ y = 0 ∧ z = 0) ↔ ((xh = 0 ∧ xl = 0) ∧ (yh = 0 ∧ yl = 0) ∧ (zh = 0 ∧ zl = 0)) := by
      have a0 := zero_words (hfit x (by simp)).1
      have a1 := zero_words (hfit y (by simp)).1
      have a2 := zero_words (hfit z (by simp)).1
      rw [← a0, ← a1, ← a2, hxh, hxl, hyh, hyl, hzh, hzl]
    have HW := Lib.hid (And.intro (And.intro hxh hxl) (And.intro (And.intro hyh hyl) (And.intro hzh hzl)))
    have HX2 := HX.out
    unfold sum3V at HX2
    rw [hxh, hxl, hyh, hyl, hzh, hzl] at HX2
    have HX := Lib.hid HX2
    have HFIT := Lib.hid hfit
    have HAT := Lib.hid hat
    have HNO := Lib.hid hno
    clear HX2 hxh hxl hyh hyl hzh hzl hfit hat hno sp sq sr HBD hx hy hz
    go_upto_region 4 with fail
    go_cut [9] from 23 to 26 (fun v9 wx => ∃ b, v9 = .pointer (some ⟨b, 0, none⟩) ∧ w5.heap.size ≤ b ∧ Blk wx b #[.int .u64 xh, .int .u64 xl, .int .u64 yh, .int .u64 yl, .int .u64 zh, .int .u64 zl] 89 ∧ Below w5.heap.size w5 wx)
    case first =>
      go_wp2_with fail
      refine (HX.out _).mono ?_
      rintro e' w6 ⟨rfl, hb6⟩
      obtain ⟨w9, hw9⟩ : ∃ w9, w6.alloc (.cells #[.int .u64 0, .int .u64 0, .int .u64 0, .int .u64 0, .int .u64 0, .int .u64 0] 89) = w9 := ⟨_, rfl⟩
      have K9 : Blk w9 w6.heap.size #[.int .u64 0, .int .u64 0, .int .u64 0, .int .u64 0, .int .u64 0, .int .u64 0] 89 := by rw [← hw9]; exact Blk.new w6 _ _
      have h9 : Below w5.heap.size w5 w9 := by rw [← hw9]; exact hb6.alloc hb6.size _
      have d0 := K9.cell (i := 0) rfl
      have d1 := K9.cell (i := 1) rfl
      have d2 := K9.cell (i := 2) rfl
      have d3 := K9.cell (i := 3) rfl
      have d4 := K9.cell (i := 4) rfl
      have d5 := K9.cell (i := 5) rfl
      have q0 := K9.frozen 0
      have q1 := K9.frozen 1
      have q2 := K9.frozen 2
      have q3 := K9.frozen 3
      have q4 := K9.frozen 4
      have q5 := K9.frozen 5
      go_wp2_with fail
      go_meet
      case rel =>
        refine ⟨w6.heap.size, rfl, hb6.size, Blk.put6 K9 (.int .u64 xh) (.int .u64 xl) (.int .u64 yh) (.int .u64 yl) (.int .u64 zh) (.int .u64 zl), ?_⟩
        exact (((((h9.setCell (by simp only; exact hb6.size) _).setCell (by simp only; exact hb6.size) _).setCell (by simp only; exact hb6.size) _).setCell (by simp only; exact hb6.size) _).setCell (by simp only; exact hb6.size) _).setCell (by simp only; exact hb6.size) _
    case rest =>
    obtain ⟨b, rfl, hbN, k9, hb7⟩ := hcut
    have k0 := k0.kept hb7
    have k1 := k1.kept hb7
    have k2 := k2.kept hb7
    have kR := kR.kept hb7
    have hb7' := hb5'.trans (hb7.mono hb5'.size)
    clear hb7 hb5' p00 p01 p02 p03 p10 p11 p12 p13 p20 p21 p22 p23
    have p00 := k0.cell (i := 0) rfl
    have p01 := k0.cell (i := 1) rfl
    have p02 := k0.cell (i := 2) rfl
    have p03 := k0.cell (i := 3) rfl
    have p10 := k1.cell (i := 0) rfl
    have p11 := k1.cell (i := 1) rfl
    have p12 := k1.cell (i := 2) rfl
    have p13 := k1.cell (i := 3) rfl
    have p20 := k2.cell (i := 0) rfl
    have p21 := k2.cell (i := 1) rfl
    have p22 := k2.cell (i := 2) rfl
    have p23 := k2.cell (i := 3) rfl
    have s0 := k9.cell (i := 0) rfl
    have s1 := k9.cell (i := 1) rfl
    have s2 := k9.cell (i := 2) rfl
    have s3 := k9.cell (i := 3) rfl
    have s4 := k9.cell (i := 4) rfl
    have s5 := k9.cell (i := 5) rfl
    have heq := fun w => eqIn_sum3 xh xl yh yl zh zl w
    by_cases h0 : (xh = 0 ∧ xl = 0) ∧ (yh = 0 ∧ yl = 0) ∧ (zh = 0 ∧ zl = 0)
    · have hzz := hzero.2 (hwz.2 h0)
      have HV : Hid (Ending.returned (.tuple #[.agg #[.int .i64 0, .int .i64 0, .int .i64 0, .int .i64 0], .int .i64 4]) = Ending.returned (.tuple #[.agg #[.int .i64 PV.a, .int .i64 PV.b, .int .i64 PV.c, .int .i64 PV.d], .int .i64 EV])) := Lib.hid (by rw [HPE.out.1, HPE.out.2]; simp [hzz])
      clear hzz
      simp only [decide_eq_true h0] at heq
      clear h0 hzero hwz
      have d0 := kR.cell (i := 0) rfl
      have d1 := kR.cell (i := 1) rfl
      have d2 := kR.cell (i := 2) rfl
      have d3 := kR.cell (i := 3) rfl
      have q0 := kR.frozen 0
      have q1 := kR.frozen 1
      have q2 := kR.frozen 2
      have q3 := kR.frozen 3
      go_wp2_with fail
      have L := Blk.put4 kR (.int .i64 0) (.int .i64 0) (.int .i64 0) (.int .i64 0)
      have z0 := L.cell (i := 0) rfl
      have z1 := L.cell (i := 1) rfl
      have z2 := L.cell (i := 2) rfl
      have z3 := L.cell (i := 3) rfl
      exact bodyPost_ret (v := .tuple #[.agg #[.int .i64 0, .int .i64 0, .int .i64 0, .int .i64 0], .int .i64 4]) (by simp [results, Try.results25, go_sem, z0, z1, z2, z3]) rfl ⟨HV.out, (((hb7'.setCell (by simp only; omega) _).setCell (by simp only; omega) _).setCell (by simp only; omega) _).setCell (by simp only; omega) _⟩
    · have hnz : ¬ zero3 p q r := fun h => h0 (hwz.1 (hzero.1 h))
      have hxyz : ¬ (x = 0 ∧ y = 0 ∧ z = 0) := fun h => h0 (hwz.1 h)
      have hPE : PV = (if thrOk p q r then thrL p q r else ⟨0, 0, 0, 0⟩) ∧ EV = errE (decide (thrOk p q r)) 2 := by
        have := HPE.out
        simpa [hnz] using this
      have HPE := Lib.hid hPE
      clear hPE
      simp only [decide_eq_false h0] at heq
      have hls := lowest_any (some ⟨b, 0, none⟩) 3 3 [x, y, z] _ rfl (by decide) (rdSum3 HW.out k9) HFIT.out
      obtain ⟨g, hg⟩ : ∃ g, gcdL 0 [x, y, z] = g := ⟨_, rfl⟩
      have hdv := (gcdL_dvd [x, y, z] 0).2
      have hgp : 0 < g := by
        rcases Nat.eq_zero_or_pos g with h | h
        · exfalso
          rw [hg, h] at hdv
          have z0 := Nat.eq_zero_of_zero_dvd (hdv x (by simp))
          have z1 := Nat.eq_zero_of_zero_dvd (hdv y (by simp))
          have z2 := Nat.eq_zero_of_zero_dvd (hdv z (by simp))
          exact hxyz ⟨by omega, by omega, by omega⟩
        · exact h
      rw [hg] at hdv hls
      have hq' : ∀ v ∈ [x, y, z], v.tdiv g * g = v := fun v hv => by
        have hd : (g : Int) ∣ v := Int.ofNat_dvd_left.2 (hdv v hv)
        rw [Int.tdiv_eq_ediv_of_dvd hd]; exact Int.ediv_mul_cancel hd
      have e0 := hq' x (by simp)
      have e1 := hq' y (by simp)
      have e2 := hq' z (by simp)
      rw [show lowRow g [x, y, z] = [x.tdiv g, y.tdiv g, z.tdiv g] from rfl, show iCells [x.tdiv g, y.tdiv g, z.tdiv g] = #[.int .i64 (x.tdiv g), .int .i64 (y.tdiv g), .int .i64 (z.tdiv g)] from rfl] at hls
      have hbigI : ∀ n : Int, ¬ InI64 n → 1000 < n.natAbs := fun n h => by unfold InI64 at h; omega
      have hnot : (∃ v ∈ [x, y, z], ¬ InI64 (v.tdiv g)) → ¬ thrOk p q r := by
        rintro ⟨v, hv, hb⟩
        have := hbigI _ hb
        simp only [List.mem_cons, List.not_mem_nil, or_false] at hv
        refine HNO.out _ _ _ _ hgp hg.symm e0 e1 e2 ?_
        rcases hv with rfl | rfl | rfl
        · exact .inl this
        · exact .inr (.inl this)
        · exact .inr (.inr this)
      have hat2 := fun c B W h0 h1 h2 hB => HAT.out B c W (x.tdiv g) (y.tdiv g) (z.tdiv g) (by rw [hg]; exact e0) (by rw [hg]; exact e1) (by rw [hg]; exact e2) (by rw [hg]; exact hgp) h0 h1 h2 hB hnz
      have hno2 := HNO.out _ _ _ _ hgp hg.symm e0 e1 e2
      obtain ⟨n0, hn0⟩ : ∃ n, x.tdiv g = n := ⟨_, rfl⟩
      obtain ⟨n1, hn1⟩ : ∃ n, y.tdiv g = n := ⟨_, rfl⟩
      obtain ⟨n2, hn2⟩ : ∃ n, z.tdiv g = n := ⟨_, rfl⟩
      rw [hn0, hn1, hn2] at hls hat2 hno2
      have HLS := Lib.hid hls
      have HAT2 := Lib.hid hat2
      have HNOT := Lib.hid hnot
      have HNO2 := Lib.hid hno2
      clear hls hat2 hnot hno2 hq' e0 e1 e2 hn0 hn1 hn2 hbigI hdv hgp h0 hxyz hnz hzero hwz HNO HAT HFIT
      go_wp2_with fail
      refine HLS.out.mono ?_
      rintro e' w8 ⟨hb8, hcase⟩
      have k0 := k0.kept hb8
      have k1 := k1.kept hb8
      have k2 := k2.kept hb8
      have kR := kR.kept hb8
      have hb8' := hb7'.trans (hb8.mono hb7'.size)
      clear p00 p01 p02 p03 p10 p11 p12 p13 p20 p21 p22 p23 s0 s1 s2 s3 s4 s5
      have p00 := k0.cell (i := 0) rfl
      have p01 := k0.cell (i := 1) rfl
      have p02 := k0.cell (i := 2) rfl
      have p03 := k0.cell (i := 3) rfl
      have p10 := k1.cell (i := 0) rfl
      have p11 := k1.cell (i := 1) rfl
      have p12 := k1.cell (i := 2) rfl
      have p13 := k1.cell (i := 3) rfl
      have p20 := k2.cell (i := 0) rfl
      have p21 := k2.cell (i := 1) rfl
      have p22 := k2.cell (i := 2) rfl
      have p23 := k2.cell (i := 3) rfl
      have d0 := kR.cell (i := 0) rfl
      have d1 := kR.cell (i := 1) rfl
      have d2 := kR.cell (i := 2) rfl
      have d3 := kR.cell (i := 3) rfl
      have q0 := kR.frozen 0
      have q1 := kR.frozen 1
      have q2 := kR.frozen 2
      have q3 := kR.frozen 3
      rcases hcase with ⟨hin, B, hB8, rfl, kB⟩ | ⟨hex, rfl⟩
      · have hwi := withins_any 1000 (some ⟨B, 0, none⟩) 3 3 [n0, n1, n2] w8 rfl (by decide) (rdI3 kB) (by decide) (by decide)
        obtain ⟨tt, htt⟩ : ∃ t, within 1000 [n0, n1, n2] = t := ⟨_, rfl⟩
        have hws : within 1000 [n0, n1, n2] = decide (n0.natAbs ≤ 1000 ∧ n1.natAbs ≤ 1000 ∧ n2.natAbs ≤ 1000) := by
          have s : ∀ n : Int, (-1000 ≤ n ∧ n ≤ 1000) ↔ n.natAbs ≤ 1000 := fun n => by omega
          simp [within, s]
        rw [htt] at hwi
        rw [htt] at hws
        have HWI := Lib.hid hwi
        have HWS := Lib.hid hws
        clear hwi hws htt hin
        go_wp2_with fail
        refine HWI.out.mono ?_
        rintro e' w9 ⟨v, rfl, hv, hb9⟩
        obtain ⟨gf, caps, rfl, _⟩ := id hv
        obtain ⟨w10, hw10⟩ : ∃ w4, w9.alloc (.cells #[.func (.func gf) #[] caps] 70) = w4 := ⟨_, rfl⟩
        have hr10 : RdC w10 (some ⟨w9.heap.size, 0, none⟩) [errE tt 1] := by rw [← hw10]; exact checks1 w9 _ _ _ hv
        have hb10 : Below w8.heap.size w8 w10 := by rw [← hw10]; exact hb9.alloc hb9.size _
        have hf := first_any (some ⟨w9.heap.size, 0, none⟩) 1 1 [errE tt 1] w10 rfl (by decide) hr10
        rw [firstE_one] at hf
        have HF := Lib.hid hf
        clear hf hr10 hv
        go_wp2_with fail
        refine HF.out.mono ?_
        rintro e' w11 ⟨rfl, hb11⟩
        have hb811 := hb10.trans (hb11.mono hb10.size)
        have hb11' := hb8'.trans (hb811.mono hb8'.size)
        have k0 := k0.kept hb811
        have kR := kR.kept hb811
        have kB := kB.kept hb811
        clear hw10 hb9 hb10 hb11 hb811 HF HWI p00 p01 p02 p03 p10 p11 p12 p13 p20 p21 p22 p23 d0 q0 d1 q1 d2 q2 d3 q3
        have p00 := k0.cell (i := 0) rfl
        have p01 := k0.cell (i := 1) rfl
        have p02 := k0.cell (i := 2) rfl
        have p03 := k0.cell (i := 3) rfl
        have d0 := kR.cell (i := 0) rfl
        have d1 := kR.cell (i := 1) rfl
        have d2 := kR.cell (i := 2) rfl
        have d3 := kR.cell (i := 3) rfl
        have q0 := kR.frozen 0
        have q1 := kR.frozen 1
        have q2 := kR.frozen 2
        have q3 := kR.frozen 3
        cases tt
        · rw [show errE false 1 = 1 from rfl]
          have hbad : ¬ thrOk p q r := HNO2.out (by have := of_decide_eq_false HWS.out.symm; omega)
          have HV : Hid (Ending.returned (.tuple #[.agg #[.int .i64 0, .int .i64 0, .int .i64 0, .int .i64 0], .int .i64 2]) = Ending.returned (.tuple #[.agg #[.int .i64 PV.a, .int .i64 PV.b, .int .i64 PV.c, .int .i64 PV.d], .int .i64 EV])) := Lib.hid (by rw [HPE.out.1, HPE.out.2, if_neg hbad, decide_eq_false hbad]; rfl)
          clear hbad
          go_wp2_with fail
          have L := Blk.put4 kR (.int .i64 0) (.int .i64 0) (.int .i64 0) (.int .i64 0)
          have z0 := L.cell (i := 0) rfl
          have z1 := L.cell (i := 1) rfl
          have z2 := L.cell (i := 2) rfl
          have z3 := L.cell (i := 3) rfl
          exact bodyPost_ret (v := .tuple #[.agg #[.int .i64 0, .int .i64 0, .int .i64 0, .int .i64 0], .int .i64 2]) (by simp [results, Try.results25, go_sem, z0, z1, z2, z3]) rfl ⟨HV.out, (((hb11'.setCell (by simp only; omega) _).setCell (by simp only; omega) _).setCell (by simp only; omega) _).setCell (by simp only; omega) _⟩
        · rw [show errE true 1 = 0 from rfl]
          have hsm := of_decide_eq_true HWS.out.symm
          have ha := HAT2.out 3 B w11 hsm.1 hsm.2.1 hsm.2.2 kB
          obtain ⟨E, hE⟩ : ∃ E, errE (decide (thrOk p q r)) 2 = E := ⟨_, rfl⟩
          rw [hE] at ha
          obtain ⟨T, hT⟩ : ∃ T : V4, (if thrOk p q r then thrL p q r else ⟨0, 0, 0, 0⟩) = T := ⟨_, rfl⟩
          have hTv : (if thrOk p q r then .agg #[.int .i64 (thrL p q r).a, .int .i64 (thrL p q r).b, .int .i64 (thrL p q r).c, .int .i64 (thrL p q r).d] else Value.agg #[.int .i64 0, .int .i64 0, .int .i64 0, .int .i64 0]) = .agg #[.int .i64 T.a, .int .i64 T.b, .int .i64 T.c, .int .i64 T.d] := by
            rw [← hT]; split <;> rfl
          rw [hTv] at ha
          have HV : Hid (Ending.returned (.tuple #[.agg #[.int .i64 T.a, .int .i64 T.b, .int .i64 T.c, .int .i64 T.d], .int .i64 E]) = Ending.returned (.tuple #[.agg #[.int .i64 PV.a, .int .i64 PV.b, .int .i64 PV.c, .int .i64 PV.d], .int .i64 EV])) := Lib.hid (by rw [HPE.out.1, HPE.out.2, hT, hE])
          have HA := Lib.hid ha
          clear ha hsm hE hT hTv HAT2 HNO2 HWS
          go_wp2_with fail
          refine HA.out.mono ?_
          rintro e' w12 ⟨rfl, hb12⟩
          have kR := kR.kept hb12
          have hb12' := hb11'.trans (hb12.mono hb11'.size)
          clear d0 q0 d1 q1 d2 q2 d3 q3
          have d0 := kR.cell (i := 0) rfl
          have d1 := kR.cell (i := 1) rfl
          have d2 := kR.cell (i := 2) rfl
          have d3 := kR.cell (i := 3) rfl
          have q0 := kR.frozen 0
          have q1 := kR.frozen 1
          have q2 := kR.frozen 2
          have q3 := kR.frozen 3
          go_wp2_with fail
          have L := Blk.put4 kR (.int .i64 T.a) (.int .i64 T.b) (.int .i64 T.c) (.int .i64 T.d)
          have z0 := L.cell (i := 0) rfl
          have z1 := L.cell (i := 1) rfl
          have z2 := L.cell (i := 2) rfl
          have z3 := L.cell (i := 3) rfl
          exact bodyPost_ret (v := .tuple #[.agg #[.int .i64 T.a, .int .i64 T.b, .int .i64 T.c, .int .i64 T.d], .int .i64 E]) (by simp [results, Try.results25, go_sem, z0, z1, z2, z3]) rfl ⟨HV.out, (((hb12'.setCell (by simp only; omega) _).setCell (by simp only; omega) _).setCell (by simp only; omega) _).setCell (by simp only; omega) _⟩
      · have hbad : ¬ thrOk p q r := HNOT.out hex
        have HV : Hid (Ending.returned (.tuple #[.agg #[.int .i64 0, .int .i64 0, .int .i64 0, .int .i64 0], .int .i64 2]) = Ending.returned (.tuple #[.agg #[.int .i64 PV.a, .int .i64 PV.b, .int .i64 PV.c, .int .i64 PV.d], .int .i64 EV])) := Lib.hid (by rw [HPE.out.1, HPE.out.2, if_neg hbad, decide_eq_false hbad]; rfl)
        clear hex hbad
        go_wp2_with fail
        have L := Blk.put4 kR (.int .i64 0) (.int .i64 0) (.int .i64 0) (.int .i64 0)
        have z0 := L.cell (i := 0) rfl
        have z1 := L.cell (i := 1) rfl
        have z2 := L.cell (i := 2) rfl
        have z3 := L.cell (i := 3) rfl
        exact bodyPost_ret (v := .tuple #[.agg #[.int .i64 0, .int .i64 0, .int .i64 0, .int .i64 0], .int .i64 2]) (by simp [results, Try.results25, go_sem, z0, z1, z2, z3]) rfl ⟨HV.out, (((hb8'.setCell (by simp only; omega) _).setCell (by simp only; omega) _).setCell (by simp only; omega) _).setCell (by simp only; omega) _⟩

end Go.Proofs.Ythdhakpmhndbfaa

namespace Go.Proofs.Ythdhakpmhndbfaa
open Go.RowKit Go.Shelf
attribute [local go_sem] Oper.semAt_some

theorem eqPlane (p q : V4) (w : World) : (Op.equalIn 10000 23 (.agg #[.int .i64 p.a, .int .i64 p.b, .int .i64 p.c, .int .i64 p.d]) (.agg #[.int .i64 q.a, .int .i64 q.b, .int .i64 q.c, .int .i64 q.d])).run Try.prog w = .ok (decide (p = q)) w := by
  have u3 := Try.underlying2
  have a3 := Try.isAgg2
  have z3 := Try.sizeOf2
  rw [show (10000 : Nat) = 9999 + 1 from rfl, Op.equalIn]
  simp only [Sem.run_bind, run_underlying Try.underlying23, Result.andThen_ok]
  simp only [Std.Legacy.Range.forIn_eq_forIn_range', Std.Legacy.Range.size, Nat.sub_zero, Nat.add_sub_cancel, Nat.div_one, List.range'_succ, List.range'_zero, List.forIn_cons, List.forIn_nil]
  go_simp
  obtain ⟨a, b, c, d⟩ := p
  obtain ⟨e, f, g, h⟩ := q
  by_cases h1 : a = e <;> by_cases h2 : b = f <;> by_cases h3 : c = g <;> by_cases h4 : d = h <;> simp [h1, h2, h3, h4]

end Go.Proofs.Ythdhakpmhndbfaa

namespace Go.Proofs.Ythdhakpmhndbfaa
open Go.RowKit Go.Shelf
attribute [local go_sem] Oper.semAt_some

theorem checks2 (w : World) (v u : Value) (r s : Int) (t : TypeId) (h : ChkIs w v r) (h2 : ChkIs w u s) : RdC (w.alloc (.cells #[v, u] t)) (some ⟨w.heap.size, 0, none⟩) [r, s] := by
  have hB := Blk.new w #[v, u] t
  intro i y hi
  match i, hi with
  | 0, hi => cases hi; exact ⟨_, 0, v, rfl, hB.lt, hB.cell (i := 0) rfl, h.below ((Below.refl _ w).alloc (Nat.le_refl _) _)⟩
  | 1, hi => cases hi; exact ⟨_, 0, u, rfl, hB.lt, hB.cell (i := 1) rfl, h2.below ((Below.refl _ w).alloc (Nat.le_refl _) _)⟩
  | i + 2, hi => simp at hi

theorem RdC.below {w w' : World} {p : Option Addr} {rs : List Int} (h : RdC w p rs) (hb : Below w.heap.size w w') : RdC w' p rs := by
  intro i r hi
  obtain ⟨b, off, v, rfl, hl, hc, hv⟩ := h i r hi
  exact ⟨b, off, v, rfl, Nat.lt_of_lt_of_le hl hb.size, (hb.cell (p := ⟨b, off + i, none⟩) hl).trans hc, hv.below hb⟩

/-- What the checks of a plane and a point yield. -/
def SideR (p q : V4) (rp rq : Int) (i : Nat) (v : Value) (w : World) : Prop :=
  match i with
  | 0 => v = .agg #[.int .i64 p.a, .int .i64 p.b, .int .i64 p.c, .int .i64 p.d]
  | 1 => ∃ b, v = .slice (some ⟨b, 0, none⟩) 1 1 ∧ RdV w (some ⟨b, 0, none⟩) [p]
  | 2 => ChkIs w v rp
  | 3 => v = .agg #[.int .i64 q.a, .int .i64 q.b, .int .i64 q.c, .int .i64 q.d]
  | 4 => ∃ b, v = .slice (some ⟨b, 0, none⟩) 1 1 ∧ RdV w (some ⟨b, 0, none⟩) [q]
  | 5 => ChkIs w v rq
  | 6 => ∃ b, v = .slice (some ⟨b, 0, none⟩) 2 2 ∧ RdC w (some ⟨b, 0, none⟩) [rp, rq]
  | _ => v = .int .i64 (firstE [rp, rq])
theorem SideR.mono {p q : V4} {rp rq : Int} (i : Nat) (v : Value) (w w' : World) (hb : Below w.heap.size w w') (h : SideR p q rp rq i v w) : SideR p q rp rq i v w' := by
  rcases i with _ | _ | _ | _ | _ | _ | _ | i
  · exact h
  · obtain ⟨b, e, h⟩ := h; exact ⟨b, e, h.below hb⟩
  · exact ChkIs.below h hb
  · exact h
  · obtain ⟨b, e, h⟩ := h; exact ⟨b, e, h.below hb⟩
  · exact ChkIs.below h hb
  · obtain ⟨b, e, h⟩ := h; exact ⟨b, e, h.below hb⟩
  · exact h

theorem side_fits {p q : V4} (hp : RightP p.a p.b p.c p.d) (hq : SoundP q.a q.b q.c q.d) : In127 (dotL p q (List.range 4)) := by
  have e : dotL p q (List.range 4) = p.a * q.a + p.b * q.b + p.c * q.c + p.d * q.d := by simp [dotL, vg, List.range, List.range.loop]
  have m : ∀ {x y : Int} {a b : Nat}, x.natAbs ≤ a → y.natAbs ≤ b → (x * y).natAbs ≤ a * b := fun hx hy => by rw [Int.natAbs_mul]; exact Nat.mul_le_mul hx hy
  have h1 := m hp.2.1 hq.1
  have h2 := m hp.2.2.1 hq.2.1
  have h3 := m hp.2.2.2.1 hq.2.2.1
  have h4 := m hp.2.2.2.2.1 (show q.d.natAbs ≤ 8589934592 by have := hq.2.2.2.1; have := hq.2.2.2.2.1; omega)
  rw [e]
  unfold In127
  omega

set_option maxRecDepth 100000 in
set_option maxHeartbeats 4000000 in
theorem side_any (p q : V4) (w : World) (hp : InV p) (hq : InV q) :
    Calls Try.prog 21 #[.agg #[.int .i64 p.a, .int .i64 p.b, .int .i64 p.c, .int .i64 p.d], .agg #[.int .i64 q.a, .int .i64 q.b, .int .i64 q.c, .int .i64 q.d]] w fun e' w' => e' = .returned (.tuple #[.int .i64 (if RightP p.a p.b p.c p.d ∧ SoundP q.a q.b q.c q.d then sgnI (dotL p q (List.range 4)) else 0), .int .i64 (firstE [errE (decide (RightP p.a p.b p.c p.d)) 30, errE (decide (SoundP q.a q.b q.c q.d)) 40])]) ∧ Below w.heap.size w w' := by
  obtain ⟨w1, hw1⟩ : ∃ w1, ((w.alloc (.cells #[.int .i64 p.a, .int .i64 p.b, .int .i64 p.c, .int .i64 p.d] 23)).alloc (.cells #[.int .i64 q.a, .int .i64 q.b, .int .i64 q.c, .int .i64 q.d] 37)) = w1 := ⟨_, rfl⟩
  have hb1 : Below w.heap.size w w1 := by rw [← hw1]; exact bw2 w _ _
  have k0 : Blk w1 w.heap.size #[.int .i64 p.a, .int .i64 p.b, .int .i64 p.c, .int .i64 p.d] 23 := by rw [← hw1]; exact (Blk.new w _ _).alloc _
  have k1 : Blk w1 (w.heap.size + 1) #[.int .i64 q.a, .int .i64 q.b, .int .i64 q.c, .int .i64 q.d] 37 := by rw [← hw1]; exact Blk.new' _ _ _ (by simp)
  have hpl : ∀ b W, RdV W (some ⟨b, 0, none⟩) [p] → Calls Try.prog 44 #[.slice (some ⟨b, 0, none⟩) 1 1] W fun e w' => ∃ v, e = .returned v ∧ ChkIs w' v (errE (decide (RightP p.a p.b p.c p.d)) 30) ∧ Below W.heap.size W w' := fun b W hR => by
    have h := planes_any (some ⟨b, 0, none⟩) 1 1 [p] W rfl (by decide) hR (by intro x hx; rw [List.mem_singleton.1 hx]; exact hp)
    simpa using h
  have hpt : ∀ b W, RdV W (some ⟨b, 0, none⟩) [q] → Calls Try.prog 52 #[.slice (some ⟨b, 0, none⟩) 1 1] W fun e w' => ∃ v, e = .returned v ∧ ChkIs w' v (errE (decide (SoundP q.a q.b q.c q.d)) 40) ∧ Below W.heap.size W w' := fun b W hR => by
    have h := points_any (some ⟨b, 0, none⟩) 1 1 [q] W rfl (by decide) hR (by intro x hx; rw [List.mem_singleton.1 hx]; exact hq)
    simpa using h
  have hpr := fun W => productP_any p q W hp hq
  have hsg : RightP p.a p.b p.c p.d → SoundP q.a q.b q.c q.d → ∀ W, Calls Try.prog 54 #[sumV (dotL p q (List.range 4))] W fun e' w' => e' = .returned (.int .i64 (sgnI (dotL p q (List.range 4)))) ∧ Below W.heap.size W w' := fun h1 h2 W => sign_any _ W (side_fits h1 h2)
  obtain ⟨rp, hrp⟩ : ∃ r, errE (decide (RightP p.a p.b p.c p.d)) 30 = r := ⟨_, rfl⟩
  obtain ⟨rq, hrq⟩ : ∃ r, errE (decide (SoundP q.a q.b q.c q.d)) 40 = r := ⟨_, rfl⟩
  rw [hrp] at hpl ⊢
  rw [hrq] at hpt ⊢
  have HPL := Lib.hid hpl
  have HPT := Lib.hid hpt
  have HPR := Lib.hid hpr
  have HSG := Lib.hid hsg
  have HRP := Lib.hid hrp
  have HRQ := Lib.hid hrq
  clear hpl hpt hpr hsg hrp hrq hp hq
  obtain ⟨res, hres⟩ : ∃ res, (if RightP p.a p.b p.c p.d ∧ SoundP q.a q.b q.c q.d then sgnI (dotL p q (List.range 4)) else 0) = res := ⟨_, rfl⟩
  rw [hres]
  have HRES := Lib.hid hres
  clear hres
  have N := w.heap.size
  go_enter Try.func21, Try.ntmps21
  go_upto_region 1 with fail
  refine wp_region_flow' (by kernel_rfl) (by kernel_rfl) (SideR p q rp rq) (fun ww => Below w1.heap.size w1 ww) ((Below.refl _ _).drew) (fun i v a b _ _ hb h => SideR.mono i v a b hb h) ?_ ?_
  · intro i hi f ww hS hd
    have c0 := (k0.kept hS).cell (i := 0) rfl
    have c1 := (k0.kept hS).cell (i := 1) rfl
    have c2 := (k0.kept hS).cell (i := 2) rfl
    have c3 := (k0.kept hS).cell (i := 3) rfl
    have d0 := (k1.kept hS).cell (i := 0) rfl
    have d1 := (k1.kept hS).cell (i := 1) rfl
    have d2 := (k1.kept hS).cell (i := 2) rfl
    have d3 := (k1.kept hS).cell (i := 3) rfl
    rcases i with _ | _ | _ | _ | _ | _ | _ | _ | _ | i
    · refine wpOp_list rfl ?_
      simp only [tmOf, putAll, List.map_cons, List.map_nil, List.setIfInBounds_toArray, List.set_cons_zero, List.set_cons_succ]
      go_wp2
      refine ⟨.agg #[.int .i64 p.a, .int .i64 p.b, .int .i64 p.c, .int .i64 p.d], ?_, rfl, Below.refl _ _⟩
      simp [upd]
    · have g0 : f 0 = .agg #[.int .i64 p.a, .int .i64 p.b, .int .i64 p.c, .int .i64 p.d] := hd 0 (by kernel_rfl)
      refine wpOp_list rfl ?_
      simp only [tmOf, putAll, List.map_cons, List.map_nil, List.setIfInBounds_toArray, List.set_cons_zero, List.set_cons_succ]
      go_wp2
      refine ⟨.slice (some ⟨ww.heap.size, 0, none⟩) 1 1, ?_, Exists.intro ww.heap.size (And.intro rfl (planes1 ww p.a p.b p.c p.d _)), hS.alloc hS.size _, (Below.refl _ ww).alloc (Nat.le_refl _) _⟩
      simp [upd, g0]
    · obtain ⟨b, g1, hR⟩ : ∃ b, f 1 = .slice (some ⟨b, 0, none⟩) 1 1 ∧ RdV ww (some ⟨b, 0, none⟩) [p] := hd 1 (by kernel_rfl)
      refine wpOp_list rfl ?_
      simp only [tmOf, putAll, List.map_cons, List.map_nil, List.setIfInBounds_toArray, List.set_cons_zero, List.set_cons_succ]
      go_wp2_with fail
      refine (HPL.out b _ hR).mono ?_
      rintro e' wf ⟨v, rfl, hv, hbf⟩
      go_wp2_with fail
      refine ⟨v, ?_, hv, hS.trans (hbf.mono hS.size)⟩
      simp [upd, g1]
    · refine wpOp_list rfl ?_
      simp only [tmOf, putAll, List.map_cons, List.map_nil, List.setIfInBounds_toArray, List.set_cons_zero, List.set_cons_succ]
      go_wp2
      refine ⟨.agg #[.int .i64 q.a, .int .i64 q.b, .int .i64 q.c, .int .i64 q.d], ?_, rfl, Below.refl _ _⟩
      simp [upd]
    · have g3 : f 3 = .agg #[.int .i64 q.a, .int .i64 q.b, .int .i64 q.c, .int .i64 q.d] := hd 3 (by kernel_rfl)
      refine wpOp_list rfl ?_
      simp only [tmOf, putAll, List.map_cons, List.map_nil, List.setIfInBounds_toArray, List.set_cons_zero, List.set_cons_succ]
      go_wp2
      refine ⟨.slice (some ⟨ww.heap.size, 0, none⟩) 1 1, ?_, Exists.intro ww.heap.size (And.intro rfl (planes1 ww q.a q.b q.c q.d _)), hS.alloc hS.size _, (Below.refl _ ww).alloc (Nat.le_refl _) _⟩
      simp [upd, g3]
    · obtain ⟨b, g4, hR⟩ : ∃ b, f 4 = .slice (some ⟨b, 0, none⟩) 1 1 ∧ RdV ww (some ⟨b, 0, none⟩) [q] := hd 4 (by kernel_rfl)
      refine wpOp_list rfl ?_
      simp only [tmOf, putAll, List.map_cons, List.map_nil, List.setIfInBounds_toArray, List.set_cons_zero, List.set_cons_succ]
      go_wp2_with fail
      refine (HPT.out b _ hR).mono ?_
      rintro e' wf ⟨v, rfl, hv, hbf⟩
      go_wp2_with fail
      refine ⟨v, ?_, hv, hS.trans (hbf.mono hS.size)⟩
      simp [upd, g4]
    · have h2 : ChkIs ww (f 2) rp := hd 2 (by kernel_rfl)
      have h5 : ChkIs ww (f 5) rq := hd 5 (by kernel_rfl)
      obtain ⟨gf, caps, g2, _⟩ := id h2
      obtain ⟨gf', caps', g5, _⟩ := id h5
      have hr2 := checks2 ww _ _ rp rq 70 h2 h5
      rw [g2, g5] at hr2
      clear h2 h5
      refine wpOp_list rfl ?_
      simp only [tmOf, putAll, List.map_cons, List.map_nil, List.setIfInBounds_toArray, List.set_cons_zero, List.set_cons_succ]
      go_wp2
      refine ⟨.slice (some ⟨ww.heap.size, 0, none⟩) 2 2, ?_, Exists.intro ww.heap.size (And.intro rfl hr2), hS.alloc hS.size _, (Below.refl _ ww).alloc (Nat.le_refl _) _⟩
      simp [upd, g2, g5]
    · obtain ⟨b, g6, hR⟩ : ∃ b, f 6 = .slice (some ⟨b, 0, none⟩) 2 2 ∧ RdC ww (some ⟨b, 0, none⟩) [rp, rq] := hd 6 (by kernel_rfl)
      have hf := first_any (some ⟨b, 0, none⟩) 2 2 [rp, rq] ww rfl (by decide) hR
      have HF := Lib.hid hf
      clear hf hR
      refine wpOp_list rfl ?_
      simp only [tmOf, putAll, List.map_cons, List.map_nil, List.setIfInBounds_toArray, List.set_cons_zero, List.set_cons_succ]
      go_wp2_with fail
      refine HF.out.mono ?_
      rintro e' wf ⟨rfl, hbf⟩
      go_wp2_with fail
      refine ⟨.int .i64 (firstE [rp, rq]), ?_, rfl, hS.trans (hbf.mono hS.size)⟩
      simp [upd, g6]
    · have g7 : f 7 = .int .i64 (firstE [rp, rq]) := hd 7 (by kernel_rfl)
      refine wpOp_list rfl ?_
      simp only [tmOf, putAll, List.map_cons, List.map_nil, List.setIfInBounds_toArray, List.set_cons_zero, List.set_cons_succ]
      go_wp2
      refine ⟨.int .i64 (firstE [rp, rq]), ?_, rfl, Below.refl _ _⟩
      simp [upd, g7]
    · simp only [List.length_cons, List.length_nil] at hi; omega
  · intro f ww hS hd
    have g8 : f 8 = .int .i64 (firstE [rp, rq]) := hd 8 (by decide)
    simp only [tmOf, putAll, List.map_cons, List.map_nil, List.setIfInBounds_toArray, List.set_cons_zero, List.set_cons_succ]
    simp only [Nat.zero_add, Nat.reduceAdd, g8]
    have hbw := hb1.trans (hS.mono hb1.size)
    have c0 := (k0.kept hS).cell (i := 0) rfl
    have c1 := (k0.kept hS).cell (i := 1) rfl
    have c2 := (k0.kept hS).cell (i := 2) rfl
    have c3 := (k0.kept hS).cell (i := 3) rfl
    have d0 := (k1.kept hS).cell (i := 0) rfl
    have d1 := (k1.kept hS).cell (i := 1) rfl
    have d2 := (k1.kept hS).cell (i := 2) rfl
    have d3 := (k1.kept hS).cell (i := 3) rfl
    have hcase : (firstE [rp, rq] = 0 ∧ res = sgnI (dotL p q (List.range 4)) ∧ RightP p.a p.b p.c p.d ∧ SoundP q.a q.b q.c q.d) ∨ ((firstE [rp, rq] != 0) = true ∧ res = 0) := by
      rw [← HRP.out, ← HRQ.out, ← HRES.out]
      by_cases h1 : RightP p.a p.b p.c p.d
      · by_cases h2 : SoundP q.a q.b q.c q.d
        · left; rw [decide_eq_true h1, decide_eq_true h2]; exact ⟨rfl, if_pos ⟨h1, h2⟩, h1, h2⟩
        · right; rw [decide_eq_true h1, decide_eq_false h2]; exact ⟨rfl, if_neg (fun hh => h2 hh.2)⟩
      · right; rw [decide_eq_false h1]; exact ⟨rfl, if_neg (fun hh => h1 hh.1)⟩
    obtain ⟨n, hn⟩ : ∃ n, firstE [rp, rq] = n := ⟨_, rfl⟩
    rw [hn] at hcase ⊢
    have HN := Lib.hid hn
    clear hn hd g8 HRP HRQ HRES HPL HPT
    rcases hcase with ⟨rfl, rfl, h1, h2⟩ | ⟨h1, rfl⟩
    · have HSS := Lib.hid (HSG.out h1 h2)
      clear h1 h2 HSG
      go_wp2_with fail
      refine (HPR.out _).mono ?_
      rintro e' w6 ⟨rfl, hb6⟩
      have hb6' := hbw.trans (hb6.mono hbw.size)
      go_wp2_with fail
      refine (HSS.out _).mono ?_
      rintro e' w7 ⟨rfl, hb7⟩
      go_wp2_with fail
      go_ret2
      refine ⟨?_, hb6'.trans (hb7.mono hb6'.size)⟩
      simp [go_sem]
      exact HN.out.symm
    · go_wp2_with fail
      go_ret2
      refine ⟨?_, hbw⟩
      simp [go_sem]
      exact HN.out.symm

end Go.Proofs.Ythdhakpmhndbfaa
