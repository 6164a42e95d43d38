/-
  Package sums: the vector product of three rows; Package plane: the plane with a normal through a point; Package sums: whether three sums are the same; Package plane: Through, plain; what it reads.
-/
import Derived.ChangeKeysEq
import Derived.Test.YtopdeakjnloemaaK1
import Derived.Test.YtopdeakjnloemaaK4
import Derived.Test.YtopdeakjnloemaaK7
import Derived.Test.YtopdeakjnloemaaK8
import Derived.Test.YtopdeakjnloemaaK9
import Derived.Test.YtopdeakjnloemaaK10
import Derived.Test.YtopdeakjnloemaaK11
import Derived.Test.YtopdeakjnloemaaK12
import Derived.Test.YtopdeakjnloemaaK13
import Derived.Test.YtopdeakjnloemaaK14
namespace Go.Proofs.Ytopdeakjnloemaa
open Go.RowKit Go.Shelf
attribute [local go_sem] Oper.semAt_some

def crossX (p q r : V4) : Int := minorZ p.b p.c p.d q.b q.c q.d r.b r.c r.d
def crossY (p q r : V4) : Int := minorZ p.c p.a p.d q.c q.a q.d r.c r.a r.d
def crossZ (p q r : V4) : Int := minorZ p.a p.b p.d q.a q.b q.d r.a r.b r.d
/-- Three sums. -/
def sum3V (x y z : Int) : Value := .agg #[.int .u64 (hiW x), .int .u64 (loW x), .int .u64 (hiW y), .int .u64 (loW y), .int .u64 (hiW z), .int .u64 (loW z)]

theorem Blk.put6 {W : World} {B : Nat} {a b c d e f : Value} {t : TypeId} (h : Blk W B #[a, b, c, d, e, f] t) (a' b' c' d' e' f' : Value) : Blk ((((((W.setCell ⟨B, 0, none⟩ a').setCell ⟨B, 1, none⟩ b').setCell ⟨B, 2, none⟩ c').setCell ⟨B, 3, none⟩ d').setCell ⟨B, 4, none⟩ e').setCell ⟨B, 5, none⟩ f') B #[a', b', c', d', e', f'] t :=
  (((((h.set_eq 0 a' rfl).set_eq 1 b' rfl).set_eq 2 c' rfl).set_eq 3 d' rfl).set_eq 4 e' rfl).set_eq 5 f' rfl

theorem bw4' (w : World) (a b c d : Obj) : Below w.heap.size w ((((w.alloc a).alloc b).alloc c).alloc d) := (bw3 w a b c).alloc (bw3 w a b c).size d

set_option maxRecDepth 100000 in
set_option maxHeartbeats 8000000 in
theorem cross_any (p q r : V4) (w : World) (hp : InV p) (hq : InV q) (hrr : InV r) :
    Calls Try.prog 56 #[.agg #[.int .i64 p.a, .int .i64 p.b, .int .i64 p.c, .int .i64 p.d], .agg #[.int .i64 q.a, .int .i64 q.b, .int .i64 q.c, .int .i64 q.d], .agg #[.int .i64 r.a, .int .i64 r.b, .int .i64 r.c, .int .i64 r.d]] w fun e w' => e = .returned (sum3V (crossX p q r) (crossY p q r) (crossZ p q r)) ∧ Below w.heap.size w w' := by
  obtain ⟨w1, hw1⟩ : ∃ w1, ((((w.alloc (.cells #[.int .i64 p.a, .int .i64 p.b, .int .i64 p.c, .int .i64 p.d] 22)).alloc (.cells #[.int .i64 q.a, .int .i64 q.b, .int .i64 q.c, .int .i64 q.d] 22)).alloc (.cells #[.int .i64 r.a, .int .i64 r.b, .int .i64 r.c, .int .i64 r.d] 22)).alloc (.cells #[.int .u64 0, .int .u64 0, .int .u64 0, .int .u64 0, .int .u64 0, .int .u64 0] 89)) = w1 := ⟨_, rfl⟩
  have hb1 : Below w.heap.size w w1 := by rw [← hw1]; exact bw4' w _ _ _ _
  have k0 : Blk w1 (w.heap.size) #[.int .i64 p.a, .int .i64 p.b, .int .i64 p.c, .int .i64 p.d] 22 := by rw [← hw1]; exact (((Blk.new w _ _).alloc _).alloc _).alloc _
  have k1 : Blk w1 (w.heap.size + 1) #[.int .i64 q.a, .int .i64 q.b, .int .i64 q.c, .int .i64 q.d] 22 := by rw [← hw1]; exact ((Blk.new' _ _ _ (by simp)).alloc _).alloc _
  have k2 : Blk w1 (w.heap.size + 1 + 1) #[.int .i64 r.a, .int .i64 r.b, .int .i64 r.c, .int .i64 r.d] 22 := by rw [← hw1]; exact (Blk.new' _ _ _ (by simp)).alloc _
  have k3 : Blk w1 (w.heap.size + 1 + 1 + 1) #[.int .u64 0, .int .u64 0, .int .u64 0, .int .u64 0, .int .u64 0, .int .u64 0] 89 := by rw [← hw1]; exact Blk.new' _ _ _ (by simp)
  have hx : ∀ W, Calls Try.prog 81 #[.int .i64 1, .int .i64 2, .int .i64 3, .agg #[.int .i64 p.a, .int .i64 p.b, .int .i64 p.c, .int .i64 p.d], .agg #[.int .i64 q.a, .int .i64 q.b, .int .i64 q.c, .int .i64 q.d], .agg #[.int .i64 r.a, .int .i64 r.b, .int .i64 r.c, .int .i64 r.d]] W fun e w' => e = .returned (sumV (crossX p q r)) ∧ Below W.heap.size W w' := fun W => minor_any 1 2 3 p q r W (by decide) (by decide) (by decide) hp hq hrr
  have hy : ∀ W, Calls Try.prog 81 #[.int .i64 2, .int .i64 0, .int .i64 3, .agg #[.int .i64 p.a, .int .i64 p.b, .int .i64 p.c, .int .i64 p.d], .agg #[.int .i64 q.a, .int .i64 q.b, .int .i64 q.c, .int .i64 q.d], .agg #[.int .i64 r.a, .int .i64 r.b, .int .i64 r.c, .int .i64 r.d]] W fun e w' => e = .returned (sumV (crossY p q r)) ∧ Below W.heap.size W w' := fun W => minor_any 2 0 3 p q r W (by decide) (by decide) (by decide) hp hq hrr
  have hz : ∀ W, Calls Try.prog 81 #[.int .i64 0, .int .i64 1, .int .i64 3, .agg #[.int .i64 p.a, .int .i64 p.b, .int .i64 p.c, .int .i64 p.d], .agg #[.int .i64 q.a, .int .i64 q.b, .int .i64 q.c, .int .i64 q.d], .agg #[.int .i64 r.a, .int .i64 r.b, .int .i64 r.c, .int .i64 r.d]] W fun e w' => e = .returned (sumV (crossZ p q r)) ∧ Below W.heap.size W w' := fun W => minor_any 0 1 3 p q r W (by decide) (by decide) (by decide) hp hq hrr
  unfold sumV at hx hy hz
  unfold sum3V
  generalize hiW (crossX p q r) = xh at *
  generalize loW (crossX p q r) = xl at *
  generalize hiW (crossY p q r) = yh at *
  generalize loW (crossY p q r) = yl at *
  generalize hiW (crossZ p q r) = zh at *
  generalize loW (crossZ p q r) = zl at *
  have HX := Lib.hid hx
  have HY := Lib.hid hy
  have HZ := Lib.hid hz
  clear hx hy hz hp hq hrr
  go_enter Try.func56, Try.ntmps56
  go_upto_region 1 with fail
  refine wp_region_pure 13 (fun ix => match ix with | 0 => .agg #[.int .i64 p.a, .int .i64 p.b, .int .i64 p.c, .int .i64 p.d] | 1 => .agg #[.int .i64 q.a, .int .i64 q.b, .int .i64 q.c, .int .i64 q.d] | 2 => .agg #[.int .i64 r.a, .int .i64 r.b, .int .i64 r.c, .int .i64 r.d] | 3 => .agg #[.int .u64 xh, .int .u64 xl] | 4 => .agg #[.int .i64 p.a, .int .i64 p.b, .int .i64 p.c, .int .i64 p.d] | 5 => .agg #[.int .i64 q.a, .int .i64 q.b, .int .i64 q.c, .int .i64 q.d] | 6 => .agg #[.int .i64 r.a, .int .i64 r.b, .int .i64 r.c, .int .i64 r.d] | 7 => .agg #[.int .u64 yh, .int .u64 yl] | 8 => .agg #[.int .i64 p.a, .int .i64 p.b, .int .i64 p.c, .int .i64 p.d] | 9 => .agg #[.int .i64 q.a, .int .i64 q.b, .int .i64 q.c, .int .i64 q.d] | 10 => .agg #[.int .i64 r.a, .int .i64 r.b, .int .i64 r.c, .int .i64 r.d] | 11 => .agg #[.int .u64 zh, .int .u64 zl] | _ => .agg #[.int .u64 xh, .int .u64 xl, .int .u64 yh, .int .u64 yl, .int .u64 zh, .int .u64 zl]) (by kernel_rfl) (by kernel_rfl) (by kernel_rfl) ?_ ?_ ?_
  · decide
  · rintro ix hx f ww hS hd
    have k0 := k0.kept hS
    have k1 := k1.kept hS
    have k2 := k2.kept hS
    have p00 := k0.cell (i := 0) rfl
    have p01 := k0.cell (i := 1) rfl
    have p02 := k0.cell (i := 2) rfl
    have p03 := k0.cell (i := 3) rfl
    have p10 := k1.cell (i := 0) rfl
    have p11 := k1.cell (i := 1) rfl
    have p12 := k1.cell (i := 2) rfl
    have p13 := k1.cell (i := 3) rfl
    have p20 := k2.cell (i := 0) rfl
    have p21 := k2.cell (i := 1) rfl
    have p22 := k2.cell (i := 2) rfl
    have p23 := k2.cell (i := 3) rfl
    rcases ix with _ | _ | _ | _ | _ | _ | _ | _ | _ | _ | _ | _ | _ | ix
    · refine wpOp_list rfl ?_
      simp only [tmOf, putAll, List.map_cons, List.map_nil, List.setIfInBounds_toArray, List.set_cons_zero, List.set_cons_succ]
      go_wp2
      simp [upd, Below.refl]
    · refine wpOp_list rfl ?_
      simp only [tmOf, putAll, List.map_cons, List.map_nil, List.setIfInBounds_toArray, List.set_cons_zero, List.set_cons_succ]
      go_wp2
      simp [upd, Below.refl]
    · refine wpOp_list rfl ?_
      simp only [tmOf, putAll, List.map_cons, List.map_nil, List.setIfInBounds_toArray, List.set_cons_zero, List.set_cons_succ]
      go_wp2
      simp [upd, Below.refl]
    · have g0 : f 0 = .agg #[.int .i64 p.a, .int .i64 p.b, .int .i64 p.c, .int .i64 p.d] := hd 0 (by kernel_rfl)
      have g1 : f 1 = .agg #[.int .i64 q.a, .int .i64 q.b, .int .i64 q.c, .int .i64 q.d] := hd 1 (by kernel_rfl)
      have g2 : f 2 = .agg #[.int .i64 r.a, .int .i64 r.b, .int .i64 r.c, .int .i64 r.d] := hd 2 (by kernel_rfl)
      refine wpOp_list rfl ?_
      simp only [tmOf, putAll, List.map_cons, List.map_nil, List.setIfInBounds_toArray, List.set_cons_zero, List.set_cons_succ]
      go_wp2_with fail
      refine (HX.out _).mono ?_
      rintro e' wf ⟨rfl, hbf⟩
      go_wp2_with fail
      simp [upd, g0, g1, g2, hbf]
    · refine wpOp_list rfl ?_
      simp only [tmOf, putAll, List.map_cons, List.map_nil, List.setIfInBounds_toArray, List.set_cons_zero, List.set_cons_succ]
      go_wp2
      simp [upd, Below.refl]
    · refine wpOp_list rfl ?_
      simp only [tmOf, putAll, List.map_cons, List.map_nil, List.setIfInBounds_toArray, List.set_cons_zero, List.set_cons_succ]
      go_wp2
      simp [upd, Below.refl]
    · refine wpOp_list rfl ?_
      simp only [tmOf, putAll, List.map_cons, List.map_nil, List.setIfInBounds_toArray, List.set_cons_zero, List.set_cons_succ]
      go_wp2
      simp [upd, Below.refl]
    · have g4 : f 4 = .agg #[.int .i64 p.a, .int .i64 p.b, .int .i64 p.c, .int .i64 p.d] := hd 4 (by kernel_rfl)
      have g5 : f 5 = .agg #[.int .i64 q.a, .int .i64 q.b, .int .i64 q.c, .int .i64 q.d] := hd 5 (by kernel_rfl)
      have g6 : f 6 = .agg #[.int .i64 r.a, .int .i64 r.b, .int .i64 r.c, .int .i64 r.d] := hd 6 (by kernel_rfl)
      refine wpOp_list rfl ?_
      simp only [tmOf, putAll, List.map_cons, List.map_nil, List.setIfInBounds_toArray, List.set_cons_zero, List.set_cons_succ]
      go_wp2_with fail
      refine (HY.out _).mono ?_
      rintro e' wf ⟨rfl, hbf⟩
      go_wp2_with fail
      simp [upd, g4, g5, g6, hbf]
    · refine wpOp_list rfl ?_
      simp only [tmOf, putAll, List.map_cons, List.map_nil, List.setIfInBounds_toArray, List.set_cons_zero, List.set_cons_succ]
      go_wp2
      simp [upd, Below.refl]
    · refine wpOp_list rfl ?_
      simp only [tmOf, putAll, List.map_cons, List.map_nil, List.setIfInBounds_toArray, List.set_cons_zero, List.set_cons_succ]
      go_wp2
      simp [upd, Below.refl]
    · refine wpOp_list rfl ?_
      simp only [tmOf, putAll, List.map_cons, List.map_nil, List.setIfInBounds_toArray, List.set_cons_zero, List.set_cons_succ]
      go_wp2
      simp [upd, Below.refl]
    · have g8 : f 8 = .agg #[.int .i64 p.a, .int .i64 p.b, .int .i64 p.c, .int .i64 p.d] := hd 8 (by kernel_rfl)
      have g9 : f 9 = .agg #[.int .i64 q.a, .int .i64 q.b, .int .i64 q.c, .int .i64 q.d] := hd 9 (by kernel_rfl)
      have g10 : f 10 = .agg #[.int .i64 r.a, .int .i64 r.b, .int .i64 r.c, .int .i64 r.d] := hd 10 (by kernel_rfl)
      refine wpOp_list rfl ?_
      simp only [tmOf, putAll, List.map_cons, List.map_nil, List.setIfInBounds_toArray, List.set_cons_zero, List.set_cons_succ]
      go_wp2_with fail
      refine (HZ.out _).mono ?_
      rintro e' wf ⟨rfl, hbf⟩
      go_wp2_with fail
      simp [upd, g8, g9, g10, hbf]
    · have g3 : f 3 = .agg #[.int .u64 xh, .int .u64 xl] := hd 3 (by kernel_rfl)
      have g7 : f 7 = .agg #[.int .u64 yh, .int .u64 yl] := hd 7 (by kernel_rfl)
      have g11 : f 11 = .agg #[.int .u64 zh, .int .u64 zl] := hd 11 (by kernel_rfl)
      refine wpOp_list rfl ?_
      simp only [tmOf, putAll, List.map_cons, List.map_nil, List.setIfInBounds_toArray, List.set_cons_zero, List.set_cons_succ]
      go_wp2
      simp [upd, g3, g7, g11, Below.refl]
    · omega
  · rintro f ww hS hd
    have K3 := k3.kept hS
    have d0 := K3.cell (i := 0) rfl
    have q0 := K3.frozen 0
    have d1 := K3.cell (i := 1) rfl
    have q1 := K3.frozen 1
    have d2 := K3.cell (i := 2) rfl
    have q2 := K3.frozen 2
    have d3 := K3.cell (i := 3) rfl
    have q3 := K3.frozen 3
    have d4 := K3.cell (i := 4) rfl
    have q4 := K3.frozen 4
    have d5 := K3.cell (i := 5) rfl
    have q5 := K3.frozen 5
    have g12 : f 12 = .agg #[.int .u64 xh, .int .u64 xl, .int .u64 yh, .int .u64 yl, .int .u64 zh, .int .u64 zl] := hd 12 (by decide)
    simp only [seqW, tmOf, putAll, List.map_cons, List.map_nil, List.setIfInBounds_toArray, List.set_cons_zero, List.set_cons_succ, List.length_cons, List.length_nil]
    refine wpOp_list rfl ?_
    go_wp2
    have L := Blk.put6 K3 (.int .u64 xh) (.int .u64 xl) (.int .u64 yh) (.int .u64 yl) (.int .u64 zh) (.int .u64 zl)
    have z0 := L.cell (i := 0) rfl
    have z1 := L.cell (i := 1) rfl
    have z2 := L.cell (i := 2) rfl
    have z3 := L.cell (i := 3) rfl
    have z4 := L.cell (i := 4) rfl
    have z5 := L.cell (i := 5) rfl
    exact bodyPost_ret (v := .agg #[.int .u64 xh, .int .u64 xl, .int .u64 yh, .int .u64 yl, .int .u64 zh, .int .u64 zl]) (by simp [results, Try.results56, go_sem, z0, z1, z2, z3, z4, z5]) rfl ⟨rfl, ((((((hb1.trans (hS.mono hb1.size)).setCell (by simp only; omega) _).setCell (by simp only; omega) _).setCell (by simp only; omega) _).setCell (by simp only; omega) _).setCell (by simp only; omega) _).setCell (by simp only; omega) _⟩

end Go.Proofs.Ytopdeakjnloemaa

namespace Go.Proofs.Ytopdeakjnloemaa
open Go.RowKit Go.Shelf
attribute [local go_sem] Oper.semAt_some

theorem mul_le_nat {x y : Int} {m n : Nat} (hx : x.natAbs ≤ m) (hy : y.natAbs ≤ n) : (x * y).natAbs ≤ m * n := by
  rw [Int.natAbs_mul]; exact Nat.mul_le_mul hx hy

set_option maxRecDepth 100000 in
set_option maxHeartbeats 8000000 in
theorem at_any (q : V4) (B c : Nat) (n0 n1 n2 : Int) (w : World) (hq : SoundP q.a q.b q.c q.d) (hn : ¬ (n0 = 0 ∧ n1 = 0 ∧ n2 = 0)) (h0 : n0.natAbs ≤ 1000) (h1 : n1.natAbs ≤ 1000) (h2 : n2.natAbs ≤ 1000) (hB : Blk w B #[.int .i64 n0, .int .i64 n1, .int .i64 n2] 2) :
    Calls Try.prog 58 #[.agg #[.int .i64 q.a, .int .i64 q.b, .int .i64 q.c, .int .i64 q.d], .slice (some ⟨B, 0, none⟩) 3 c] w fun e w' => e = .returned (.tuple #[if MakeOk (n0 * q.d) (n1 * q.d) (n2 * q.d) (-(n0 * q.a + n1 * q.b + n2 * q.c)) then .agg #[.int .i64 (low4 (n0 * q.d) (n1 * q.d) (n2 * q.d) (-(n0 * q.a + n1 * q.b + n2 * q.c)) (n0 * q.d)), .int .i64 (low4 (n0 * q.d) (n1 * q.d) (n2 * q.d) (-(n0 * q.a + n1 * q.b + n2 * q.c)) (n1 * q.d)), .int .i64 (low4 (n0 * q.d) (n1 * q.d) (n2 * q.d) (-(n0 * q.a + n1 * q.b + n2 * q.c)) (n2 * q.d)), .int .i64 (low4 (n0 * q.d) (n1 * q.d) (n2 * q.d) (-(n0 * q.a + n1 * q.b + n2 * q.c)) (-(n0 * q.a + n1 * q.b + n2 * q.c)))] else .agg #[.int .i64 0, .int .i64 0, .int .i64 0, .int .i64 0], .int .i64 (errE (decide (MakeOk (n0 * q.d) (n1 * q.d) (n2 * q.d) (-(n0 * q.a + n1 * q.b + n2 * q.c)))) 2)]) ∧ Below w.heap.size w w' := by
  obtain ⟨s0, s1, s2, s3, s4, _⟩ := hq
  have s5 : q.d.natAbs ≤ 8589934592 := by omega
  have a0 := mul_le_nat h0 s0
  have a1 := mul_le_nat h1 s1
  have a2 := mul_le_nat h2 s2
  have b0 := mul_le_nat h0 s5
  have b1 := mul_le_nat h1 s5
  have b2 := mul_le_nat h2 s5
  have hz : ¬ (n0 * q.d = 0 ∧ n1 * q.d = 0 ∧ n2 * q.d = 0) := by
    intro ⟨e0, e1, e2⟩
    refine hn ⟨?_, ?_, ?_⟩
    · rcases Int.mul_eq_zero.1 e0 with h | h <;> omega
    · rcases Int.mul_eq_zero.1 e1 with h | h <;> omega
    · rcases Int.mul_eq_zero.1 e2 with h | h <;> omega
  obtain ⟨u0, hu0⟩ : ∃ u, n0 * q.a = u := ⟨_, rfl⟩
  obtain ⟨u1, hu1⟩ : ∃ u, n1 * q.b = u := ⟨_, rfl⟩
  obtain ⟨u2, hu2⟩ : ∃ u, n2 * q.c = u := ⟨_, rfl⟩
  obtain ⟨t0, ht0⟩ : ∃ u, n0 * q.d = u := ⟨_, rfl⟩
  obtain ⟨t1, ht1⟩ : ∃ u, n1 * q.d = u := ⟨_, rfl⟩
  obtain ⟨t2, ht2⟩ : ∃ u, n2 * q.d = u := ⟨_, rfl⟩
  rw [hu0] at a0
  rw [hu1] at a1
  rw [hu2] at a2
  rw [ht0] at b0
  rw [ht1] at b1
  rw [ht2] at b2
  rw [hu0, hu1, hu2, ht0, ht1, ht2]
  rw [ht0, ht1, ht2] at hz
  have e1 : wrap64 u0 = u0 := by unfold wrap64; omega
  have e2 : wrap64 u1 = u1 := by unfold wrap64; omega
  have e3 : wrap64 u2 = u2 := by unfold wrap64; omega
  have e4 : wrap64 t0 = t0 := by unfold wrap64; omega
  have e5 : wrap64 t1 = t1 := by unfold wrap64; omega
  have e6 : wrap64 t2 = t2 := by unfold wrap64; omega
  have e7 : wrap64 (u0 + u1) = u0 + u1 := by unfold wrap64; omega
  have e8 : wrap64 (u0 + u1 + u2) = u0 + u1 + u2 := by unfold wrap64; omega
  have e9 : wrap64 (-(u0 + u1 + u2)) = -(u0 + u1 + u2) := by unfold wrap64; omega
  have hM := fun W => make_some t0 t1 t2 (-(u0 + u1 + u2)) W hz (by unfold InI64; omega) (by unfold InI64; omega) (by unfold InI64; omega) (by unfold InI64; omega)
  obtain ⟨E, hE⟩ : ∃ E, errE (decide (MakeOk t0 t1 t2 (-(u0 + u1 + u2)))) 2 = E := ⟨_, rfl⟩
  rw [hE] at hM ⊢
  obtain ⟨r0, r1, r2, r3, hR⟩ : ∃ r0 r1 r2 r3 : Int, (if MakeOk t0 t1 t2 (-(u0 + u1 + u2)) then Value.agg #[.int .i64 (low4 t0 t1 t2 (-(u0 + u1 + u2)) t0), .int .i64 (low4 t0 t1 t2 (-(u0 + u1 + u2)) t1), .int .i64 (low4 t0 t1 t2 (-(u0 + u1 + u2)) t2), .int .i64 (low4 t0 t1 t2 (-(u0 + u1 + u2)) (-(u0 + u1 + u2)))] else .agg #[.int .i64 0, .int .i64 0, .int .i64 0, .int .i64 0]) = .agg #[.int .i64 r0, .int .i64 r1, .int .i64 r2, .int .i64 r3] := by
    by_cases h : MakeOk t0 t1 t2 (-(u0 + u1 + u2))
    · rw [if_pos h]; exact ⟨_, _, _, _, rfl⟩
    · rw [if_neg h]; exact ⟨_, _, _, _, rfl⟩
  rw [hR] at hM ⊢
  have HM := Lib.hid hM
  clear hM hE hR hz s0 s1 s2 s3 s4 s5 a0 a1 a2 b0 b1 b2 hn h0 h1 h2
  obtain ⟨w1, hw1⟩ : ∃ w1, ((w.alloc (.cells #[.int .i64 q.a, .int .i64 q.b, .int .i64 q.c, .int .i64 q.d] 37)).alloc (.cells #[.int .i64 0, .int .i64 0, .int .i64 0, .int .i64 0] 23)) = w1 := ⟨_, rfl⟩
  have hb1 : Below w.heap.size w w1 := by rw [← hw1]; exact bw2 w _ _
  have k0 : Blk w1 w.heap.size #[.int .i64 q.a, .int .i64 q.b, .int .i64 q.c, .int .i64 q.d] 37 := by rw [← hw1]; exact (Blk.new w _ _).alloc _
  have k1 : Blk w1 (w.heap.size + 1) #[.int .i64 0, .int .i64 0, .int .i64 0, .int .i64 0] 23 := by rw [← hw1]; exact Blk.new' _ _ _ (by simp)
  have hBN : B < w.heap.size := hB.lt
  have kB := hB.kept hb1
  clear hB
  go_enter Try.func58, Try.ntmps58
  go_upto_region 1 with fail
  go_cut [6] from 7 to 26 (fun v6 wx => v6 = .int .i64 (u0 + u1 + u2) ∧ Below w1.heap.size w1 wx)
  case first =>
    refine wp_region_pure' (fun ix => match ix with | 0 => .slice (some ⟨B, 0, none⟩) 3 c | 1 => .pointer (some ⟨B, 0, none⟩) | 2 => .int .i64 n0 | 3 => .pointer (some ⟨w.heap.size, 0, none⟩) | 4 => .int .i64 q.a | 5 => .int .i64 u0 | 6 => .slice (some ⟨B, 0, none⟩) 3 c | 7 => .pointer (some ⟨B, 1, none⟩) | 8 => .int .i64 n1 | 9 => .pointer (some ⟨w.heap.size, 1, none⟩) | 10 => .int .i64 q.b | 11 => .int .i64 u1 | 12 => .int .i64 (u0 + u1) | 13 => .slice (some ⟨B, 0, none⟩) 3 c | 14 => .pointer (some ⟨B, 2, none⟩) | 15 => .int .i64 n2 | 16 => .pointer (some ⟨w.heap.size, 2, none⟩) | 17 => .int .i64 q.c | 18 => .int .i64 u2 | 19 => .int .i64 (u0 + u1 + u2) | _ => .int .i64 (u0 + u1 + u2)) (by kernel_rfl) (by kernel_rfl) ?_ ?_
    · rintro ix hx f ww hS hd
      have ka := kB.kept hS
      have kb := k0.kept hS
      have n0_ := ka.cell (i := 0) rfl
      have n1_ := ka.cell (i := 1) rfl
      have n2_ := ka.cell (i := 2) rfl
      have m0_ := kb.cell (i := 0) rfl
      have m1_ := kb.cell (i := 1) rfl
      have m2_ := kb.cell (i := 2) rfl
      have m3_ := kb.cell (i := 3) rfl
      rcases ix with _ | _ | _ | _ | _ | _ | _ | _ | _ | _ | _ | _ | _ | _ | _ | _ | _ | _ | _ | _ | _ | ix
      · refine wpOp_list rfl ?_
        simp only [tmOf, putAll, List.map_cons, List.map_nil, List.setIfInBounds_toArray, List.set_cons_zero, List.set_cons_succ]
        go_wp2
        simp [upd, Below.refl]
      · have g0 : f 0 = .slice (some ⟨B, 0, none⟩) 3 c := hd 0 (by kernel_rfl)
        refine wpOp_list rfl ?_
        simp only [tmOf, putAll, List.map_cons, List.map_nil, List.setIfInBounds_toArray, List.set_cons_zero, List.set_cons_succ]
        go_wp2
        simp [upd, g0, Below.refl]
      · have g1 : f 1 = .pointer (some ⟨B, 0, none⟩) := hd 1 (by kernel_rfl)
        refine wpOp_list rfl ?_
        simp only [tmOf, putAll, List.map_cons, List.map_nil, List.setIfInBounds_toArray, List.set_cons_zero, List.set_cons_succ]
        go_wp2
        simp [upd, g1, Below.refl]
      · refine wpOp_list rfl ?_
        simp only [tmOf, putAll, List.map_cons, List.map_nil, List.setIfInBounds_toArray, List.set_cons_zero, List.set_cons_succ]
        go_wp2
        simp [upd, Below.refl]
      · have g3 : f 3 = .pointer (some ⟨w.heap.size, 0, none⟩) := hd 3 (by kernel_rfl)
        refine wpOp_list rfl ?_
        simp only [tmOf, putAll, List.map_cons, List.map_nil, List.setIfInBounds_toArray, List.set_cons_zero, List.set_cons_succ]
        go_wp2
        simp [upd, g3, Below.refl]
      · have g2 : f 2 = .int .i64 n0 := hd 2 (by kernel_rfl)
        have g4 : f 4 = .int .i64 q.a := hd 4 (by kernel_rfl)
        refine wpOp_list rfl ?_
        simp only [tmOf, putAll, List.map_cons, List.map_nil, List.setIfInBounds_toArray, List.set_cons_zero, List.set_cons_succ]
        go_wp2
        simp [upd, g2, g4, Below.refl]
      · refine wpOp_list rfl ?_
        simp only [tmOf, putAll, List.map_cons, List.map_nil, List.setIfInBounds_toArray, List.set_cons_zero, List.set_cons_succ]
        go_wp2
        simp [upd, Below.refl]
      · have g6 : f 6 = .slice (some ⟨B, 0, none⟩) 3 c := hd 6 (by kernel_rfl)
        refine wpOp_list rfl ?_
        simp only [tmOf, putAll, List.map_cons, List.map_nil, List.setIfInBounds_toArray, List.set_cons_zero, List.set_cons_succ]
        go_wp2
        simp [upd, g6, Below.refl]
      · have g7 : f 7 = .pointer (some ⟨B, 1, none⟩) := hd 7 (by kernel_rfl)
        refine wpOp_list rfl ?_
        simp only [tmOf, putAll, List.map_cons, List.map_nil, List.setIfInBounds_toArray, List.set_cons_zero, List.set_cons_succ]
        go_wp2
        simp [upd, g7, Below.refl]
      · refine wpOp_list rfl ?_
        simp only [tmOf, putAll, List.map_cons, List.map_nil, List.setIfInBounds_toArray, List.set_cons_zero, List.set_cons_succ]
        go_wp2
        simp [upd, Below.refl]
      · have g9 : f 9 = .pointer (some ⟨w.heap.size, 1, none⟩) := hd 9 (by kernel_rfl)
        refine wpOp_list rfl ?_
        simp only [tmOf, putAll, List.map_cons, List.map_nil, List.setIfInBounds_toArray, List.set_cons_zero, List.set_cons_succ]
        go_wp2
        simp [upd, g9, Below.refl]
      · have g8 : f 8 = .int .i64 n1 := hd 8 (by kernel_rfl)
        have g10 : f 10 = .int .i64 q.b := hd 10 (by kernel_rfl)
        refine wpOp_list rfl ?_
        simp only [tmOf, putAll, List.map_cons, List.map_nil, List.setIfInBounds_toArray, List.set_cons_zero, List.set_cons_succ]
        go_wp2
        simp [upd, g8, g10, Below.refl]
      · have g5 : f 5 = .int .i64 u0 := hd 5 (by kernel_rfl)
        have g11 : f 11 = .int .i64 u1 := hd 11 (by kernel_rfl)
        refine wpOp_list rfl ?_
        simp only [tmOf, putAll, List.map_cons, List.map_nil, List.setIfInBounds_toArray, List.set_cons_zero, List.set_cons_succ]
        go_wp2
        simp [upd, g5, g11, Below.refl]
      · refine wpOp_list rfl ?_
        simp only [tmOf, putAll, List.map_cons, List.map_nil, List.setIfInBounds_toArray, List.set_cons_zero, List.set_cons_succ]
        go_wp2
        simp [upd, Below.refl]
      · have g13 : f 13 = .slice (some ⟨B, 0, none⟩) 3 c := hd 13 (by kernel_rfl)
        refine wpOp_list rfl ?_
        simp only [tmOf, putAll, List.map_cons, List.map_nil, List.setIfInBounds_toArray, List.set_cons_zero, List.set_cons_succ]
        go_wp2
        simp [upd, g13, Below.refl]
      · have g14 : f 14 = .pointer (some ⟨B, 2, none⟩) := hd 14 (by kernel_rfl)
        refine wpOp_list rfl ?_
        simp only [tmOf, putAll, List.map_cons, List.map_nil, List.setIfInBounds_toArray, List.set_cons_zero, List.set_cons_succ]
        go_wp2
        simp [upd, g14, Below.refl]
      · refine wpOp_list rfl ?_
        simp only [tmOf, putAll, List.map_cons, List.map_nil, List.setIfInBounds_toArray, List.set_cons_zero, List.set_cons_succ]
        go_wp2
        simp [upd, Below.refl]
      · have g16 : f 16 = .pointer (some ⟨w.heap.size, 2, none⟩) := hd 16 (by kernel_rfl)
        refine wpOp_list rfl ?_
        simp only [tmOf, putAll, List.map_cons, List.map_nil, List.setIfInBounds_toArray, List.set_cons_zero, List.set_cons_succ]
        go_wp2
        simp [upd, g16, Below.refl]
      · have g15 : f 15 = .int .i64 n2 := hd 15 (by kernel_rfl)
        have g17 : f 17 = .int .i64 q.c := hd 17 (by kernel_rfl)
        refine wpOp_list rfl ?_
        simp only [tmOf, putAll, List.map_cons, List.map_nil, List.setIfInBounds_toArray, List.set_cons_zero, List.set_cons_succ]
        go_wp2
        simp [upd, g15, g17, Below.refl]
      · have g12 : f 12 = .int .i64 (u0 + u1) := hd 12 (by kernel_rfl)
        have g18 : f 18 = .int .i64 u2 := hd 18 (by kernel_rfl)
        refine wpOp_list rfl ?_
        simp only [tmOf, putAll, List.map_cons, List.map_nil, List.setIfInBounds_toArray, List.set_cons_zero, List.set_cons_succ]
        go_wp2
        simp [upd, g12, g18, Below.refl]
      · have g19 : f 19 = .int .i64 (u0 + u1 + u2) := hd 19 (by kernel_rfl)
        refine wpOp_list rfl ?_
        simp only [tmOf, putAll, List.map_cons, List.map_nil, List.setIfInBounds_toArray, List.set_cons_zero, List.set_cons_succ]
        go_wp2
        simp [upd, g19, Below.refl]
      · simp only [List.length_cons, List.length_nil] at hx; omega
    · rintro f ww hS hd
      have g20 : f 20 = .int .i64 (u0 + u1 + u2) := hd 20 (by decide)
      simp only [tmOf, putAll, List.map_cons, List.map_nil, List.setIfInBounds_toArray, List.set_cons_zero, List.set_cons_succ]
      refine ‹∀ (a' : Act) (w' : World), Met _ a' w' → _› _ _ ?_
      go_meet
      case rel => exact ⟨g20, hS⟩
  case rest =>
  obtain ⟨rfl, hbx⟩ := hcut
  have k0 := k0.kept hbx
  have k1 := k1.kept hbx
  have kB := kB.kept hbx
  have hb1 := hb1.trans (hbx.mono hb1.size)
  clear hbx hw1
  go_upto_region 2 with fail
  go_cut [5] from 27 to 49 (fun v5 wx => v5 = .int .i64 E ∧ Blk wx (w.heap.size + 1) #[.int .i64 r0, .int .i64 r1, .int .i64 r2, .int .i64 r3] 23 ∧ Below w.heap.size w wx)
  case first =>
    refine wp_region_keepP (fun ix => ix != 23) (fun ix => match ix with | 0 => .slice (some ⟨B, 0, none⟩) 3 c | 1 => .pointer (some ⟨B, 0, none⟩) | 2 => .int .i64 n0 | 3 => .pointer (some ⟨w.heap.size, 3, none⟩) | 4 => .int .i64 q.d | 5 => .int .i64 t0 | 6 => .slice (some ⟨B, 0, none⟩) 3 c | 7 => .pointer (some ⟨B, 1, none⟩) | 8 => .int .i64 n1 | 9 => .pointer (some ⟨w.heap.size, 3, none⟩) | 10 => .int .i64 q.d | 11 => .int .i64 t1 | 12 => .slice (some ⟨B, 0, none⟩) 3 c | 13 => .pointer (some ⟨B, 2, none⟩) | 14 => .int .i64 n2 | 15 => .pointer (some ⟨w.heap.size, 3, none⟩) | 16 => .int .i64 q.d | 17 => .int .i64 t2 | 18 => .int .i64 (u0 + u1 + u2) | 19 => .int .i64 (-(u0 + u1 + u2)) | 20 => .tuple #[.agg #[.int .i64 r0, .int .i64 r1, .int .i64 r2, .int .i64 r3], .int .i64 E] | 21 => .agg #[.int .i64 r0, .int .i64 r1, .int .i64 r2, .int .i64 r3] | 22 => .int .i64 E | _ => .int .i64 E) (fun _ => (w.heap.size + 1, #[.int .i64 r0, .int .i64 r1, .int .i64 r2, .int .i64 r3])) 23 (fun ww => Blk ww B #[.int .i64 n0, .int .i64 n1, .int .i64 n2] 2 ∧ Blk ww w.heap.size #[.int .i64 q.a, .int .i64 q.b, .int .i64 q.c, .int .i64 q.d] 37 ∧ (∃ y0 y1 y2 y3 : Int, Blk ww (w.heap.size + 1) #[.int .i64 y0, .int .i64 y1, .int .i64 y2, .int .i64 y3] 23) ∧ Below w.heap.size w ww) (by kernel_rfl) (by kernel_rfl) ?_ ?_ ?_ ?_ ?_ ?_
    · exact ⟨kB, k0, ⟨_, _, _, _, k1⟩, hb1.drew⟩
    · rintro w8 w9 ⟨ka, kb, ⟨y0, y1, y2, y3, kc⟩, hbw⟩ hb9
      exact ⟨ka.kept hb9, kb.kept hb9, ⟨y0, y1, y2, y3, kc.kept hb9⟩, hbw.trans (hb9.mono hbw.size)⟩
    · intro i j hi hj hpi hpj hne
      simp at hpi hpj
      omega
    · rintro ix hx hin f ww ⟨ka, kb, _, hbw⟩ hd
      have n0_ := ka.cell (i := 0) rfl
      have n1_ := ka.cell (i := 1) rfl
      have n2_ := ka.cell (i := 2) rfl
      have m0_ := kb.cell (i := 0) rfl
      have m1_ := kb.cell (i := 1) rfl
      have m2_ := kb.cell (i := 2) rfl
      have m3_ := kb.cell (i := 3) rfl
      rcases ix with _ | _ | _ | _ | _ | _ | _ | _ | _ | _ | _ | _ | _ | _ | _ | _ | _ | _ | _ | _ | _ | _ | _ | _ | _ | ix
      · refine wpOp_list rfl ?_
        simp only [tmOf, putAll, List.map_cons, List.map_nil, List.setIfInBounds_toArray, List.set_cons_zero, List.set_cons_succ]
        go_wp2
        simp [upd, Below.refl]
      · have g0 : f 0 = .slice (some ⟨B, 0, none⟩) 3 c := hd 0 (by decide) (by kernel_rfl)
        refine wpOp_list rfl ?_
        simp only [tmOf, putAll, List.map_cons, List.map_nil, List.setIfInBounds_toArray, List.set_cons_zero, List.set_cons_succ]
        go_wp2
        simp [upd, g0, Below.refl]
      · have g1 : f 1 = .pointer (some ⟨B, 0, none⟩) := hd 1 (by decide) (by kernel_rfl)
        refine wpOp_list rfl ?_
        simp only [tmOf, putAll, List.map_cons, List.map_nil, List.setIfInBounds_toArray, List.set_cons_zero, List.set_cons_succ]
        go_wp2
        simp [upd, g1, Below.refl]
      · refine wpOp_list rfl ?_
        simp only [tmOf, putAll, List.map_cons, List.map_nil, List.setIfInBounds_toArray, List.set_cons_zero, List.set_cons_succ]
        go_wp2
        simp [upd, Below.refl]
      · have g3 : f 3 = .pointer (some ⟨w.heap.size, 3, none⟩) := hd 3 (by decide) (by kernel_rfl)
        refine wpOp_list rfl ?_
        simp only [tmOf, putAll, List.map_cons, List.map_nil, List.setIfInBounds_toArray, List.set_cons_zero, List.set_cons_succ]
        go_wp2
        simp [upd, g3, Below.refl]
      · have g2 : f 2 = .int .i64 n0 := hd 2 (by decide) (by kernel_rfl)
        have g4 : f 4 = .int .i64 q.d := hd 4 (by decide) (by kernel_rfl)
        refine wpOp_list rfl ?_
        simp only [tmOf, putAll, List.map_cons, List.map_nil, List.setIfInBounds_toArray, List.set_cons_zero, List.set_cons_succ]
        go_wp2
        simp [upd, g2, g4, Below.refl]
      · refine wpOp_list rfl ?_
        simp only [tmOf, putAll, List.map_cons, List.map_nil, List.setIfInBounds_toArray, List.set_cons_zero, List.set_cons_succ]
        go_wp2
        simp [upd, Below.refl]
      · have g6 : f 6 = .slice (some ⟨B, 0, none⟩) 3 c := hd 6 (by decide) (by kernel_rfl)
        refine wpOp_list rfl ?_
        simp only [tmOf, putAll, List.map_cons, List.map_nil, List.setIfInBounds_toArray, List.set_cons_zero, List.set_cons_succ]
        go_wp2
        simp [upd, g6, Below.refl]
      · have g7 : f 7 = .pointer (some ⟨B, 1, none⟩) := hd 7 (by decide) (by kernel_rfl)
        refine wpOp_list rfl ?_
        simp only [tmOf, putAll, List.map_cons, List.map_nil, List.setIfInBounds_toArray, List.set_cons_zero, List.set_cons_succ]
        go_wp2
        simp [upd, g7, Below.refl]
      · refine wpOp_list rfl ?_
        simp only [tmOf, putAll, List.map_cons, List.map_nil, List.setIfInBounds_toArray, List.set_cons_zero, List.set_cons_succ]
        go_wp2
        simp [upd, Below.refl]
      · have g9 : f 9 = .pointer (some ⟨w.heap.size, 3, none⟩) := hd 9 (by decide) (by kernel_rfl)
        refine wpOp_list rfl ?_
        simp only [tmOf, putAll, List.map_cons, List.map_nil, List.setIfInBounds_toArray, List.set_cons_zero, List.set_cons_succ]
        go_wp2
        simp [upd, g9, Below.refl]
      · have g8 : f 8 = .int .i64 n1 := hd 8 (by decide) (by kernel_rfl)
        have g10 : f 10 = .int .i64 q.d := hd 10 (by decide) (by kernel_rfl)
        refine wpOp_list rfl ?_
        simp only [tmOf, putAll, List.map_cons, List.map_nil, List.setIfInBounds_toArray, List.set_cons_zero, List.set_cons_succ]
        go_wp2
        simp [upd, g8, g10, Below.refl]
      · refine wpOp_list rfl ?_
        simp only [tmOf, putAll, List.map_cons, List.map_nil, List.setIfInBounds_toArray, List.set_cons_zero, List.set_cons_succ]
        go_wp2
        simp [upd, Below.refl]
      · have g12 : f 12 = .slice (some ⟨B, 0, none⟩) 3 c := hd 12 (by decide) (by kernel_rfl)
        refine wpOp_list rfl ?_
        simp only [tmOf, putAll, List.map_cons, List.map_nil, List.setIfInBounds_toArray, List.set_cons_zero, List.set_cons_succ]
        go_wp2
        simp [upd, g12, Below.refl]
      · have g13 : f 13 = .pointer (some ⟨B, 2, none⟩) := hd 13 (by decide) (by kernel_rfl)
        refine wpOp_list rfl ?_
        simp only [tmOf, putAll, List.map_cons, List.map_nil, List.setIfInBounds_toArray, List.set_cons_zero, List.set_cons_succ]
        go_wp2
        simp [upd, g13, Below.refl]
      · refine wpOp_list rfl ?_
        simp only [tmOf, putAll, List.map_cons, List.map_nil, List.setIfInBounds_toArray, List.set_cons_zero, List.set_cons_succ]
        go_wp2
        simp [upd, Below.refl]
      · have g15 : f 15 = .pointer (some ⟨w.heap.size, 3, none⟩) := hd 15 (by decide) (by kernel_rfl)
        refine wpOp_list rfl ?_
        simp only [tmOf, putAll, List.map_cons, List.map_nil, List.setIfInBounds_toArray, List.set_cons_zero, List.set_cons_succ]
        go_wp2
        simp [upd, g15, Below.refl]
      · have g14 : f 14 = .int .i64 n2 := hd 14 (by decide) (by kernel_rfl)
        have g16 : f 16 = .int .i64 q.d := hd 16 (by decide) (by kernel_rfl)
        refine wpOp_list rfl ?_
        simp only [tmOf, putAll, List.map_cons, List.map_nil, List.setIfInBounds_toArray, List.set_cons_zero, List.set_cons_succ]
        go_wp2
        simp [upd, g14, g16, Below.refl]
      · refine wpOp_list rfl ?_
        simp only [tmOf, putAll, List.map_cons, List.map_nil, List.setIfInBounds_toArray, List.set_cons_zero, List.set_cons_succ]
        go_wp2
        simp [upd, Below.refl]
      · have g18 : f 18 = .int .i64 (u0 + u1 + u2) := hd 18 (by decide) (by kernel_rfl)
        refine wpOp_list rfl ?_
        simp only [tmOf, putAll, List.map_cons, List.map_nil, List.setIfInBounds_toArray, List.set_cons_zero, List.set_cons_succ]
        go_wp2
        simp [upd, g18, Below.refl]
      · have g5 : f 5 = .int .i64 t0 := hd 5 (by decide) (by kernel_rfl)
        have g11 : f 11 = .int .i64 t1 := hd 11 (by decide) (by kernel_rfl)
        have g17 : f 17 = .int .i64 t2 := hd 17 (by decide) (by kernel_rfl)
        have g19 : f 19 = .int .i64 (-(u0 + u1 + u2)) := hd 19 (by decide) (by kernel_rfl)
        refine wpOp_list rfl ?_
        simp only [tmOf, putAll, List.map_cons, List.map_nil, List.setIfInBounds_toArray, List.set_cons_zero, List.set_cons_succ]
        go_wp2_with fail
        refine (HM.out _).mono ?_
        rintro e' wf ⟨rfl, hbf⟩
        go_wp2_with fail
        simp [upd, g5, g11, g17, g19, hbf]
      · have g20 : f 20 = .tuple #[.agg #[.int .i64 r0, .int .i64 r1, .int .i64 r2, .int .i64 r3], .int .i64 E] := hd 20 (by decide) (by kernel_rfl)
        refine wpOp_list rfl ?_
        simp only [tmOf, putAll, List.map_cons, List.map_nil, List.setIfInBounds_toArray, List.set_cons_zero, List.set_cons_succ]
        go_wp2
        simp [upd, g20, Below.refl]
      · have g20 : f 20 = .tuple #[.agg #[.int .i64 r0, .int .i64 r1, .int .i64 r2, .int .i64 r3], .int .i64 E] := hd 20 (by decide) (by kernel_rfl)
        refine wpOp_list rfl ?_
        simp only [tmOf, putAll, List.map_cons, List.map_nil, List.setIfInBounds_toArray, List.set_cons_zero, List.set_cons_succ]
        go_wp2
        simp [upd, g20, Below.refl]
      · cases hin
      · have g22 : f 22 = .int .i64 E := hd 22 (by decide) (by kernel_rfl)
        refine wpOp_list rfl ?_
        simp only [tmOf, putAll, List.map_cons, List.map_nil, List.setIfInBounds_toArray, List.set_cons_zero, List.set_cons_succ]
        go_wp2
        simp [upd, g22, Below.refl]
      · simp only [List.length_cons, List.length_nil] at hx; omega
    · rintro ix hx hin f ww ⟨ka, kb, ⟨y0, y1, y2, y3, kc⟩, hbw⟩ hd
      have hi23 : ix = 23 := by simpa using hin
      subst hi23
      have g21 : f 21 = .agg #[.int .i64 r0, .int .i64 r1, .int .i64 r2, .int .i64 r3] := hd 21 (by decide) (by kernel_rfl)
      have c0_ := kc.cell (i := 0) rfl
      have c1_ := kc.cell (i := 1) rfl
      have c2_ := kc.cell (i := 2) rfl
      have c3_ := kc.cell (i := 3) rfl
      have q0 := kc.frozen 0
      have q1 := kc.frozen 1
      have q2 := kc.frozen 2
      have q3 := kc.frozen 3
      refine wpOp_list rfl ?_
      simp only [tmOf, putAll, List.map_cons, List.map_nil, List.setIfInBounds_toArray, List.set_cons_zero, List.set_cons_succ]
      go_wp2
      have oth : ∀ {C cs T}, C ≠ w.heap.size + 1 → Blk ww C cs T → Blk ((((ww.setCell ⟨w.heap.size + 1, 0, none⟩ (.int .i64 r0)).setCell ⟨w.heap.size + 1, 1, none⟩ (.int .i64 r1)).setCell ⟨w.heap.size + 1, 2, none⟩ (.int .i64 r2)).setCell ⟨w.heap.size + 1, 3, none⟩ (.int .i64 r3)) C cs T := fun hne h => (((h.other (C := w.heap.size + 1) 0 _ (by omega)).other (C := w.heap.size + 1) 1 _ (by omega)).other (C := w.heap.size + 1) 2 _ (by omega)).other (C := w.heap.size + 1) 3 _ (by omega)
      refine ⟨Blk.put4 kc _ _ _ _, ⟨oth (by omega) ka, oth (by omega) kb, ⟨_, _, _, _, Blk.put4 kc _ _ _ _⟩, (((hbw.setCell (by simp only; omega) _).setCell (by simp only; omega) _).setCell (by simp only; omega) _).setCell (by simp only; omega) _⟩, ?_⟩
      intro B' cs hne hB'
      exact oth (by simpa using hne) hB'
    · rintro f ww ⟨_, _, _, hbw⟩ hd hBk
      have g24 : f 24 = .int .i64 E := hd 24 (by decide) (by decide)
      have L : Blk ww (w.heap.size + 1) #[.int .i64 r0, .int .i64 r1, .int .i64 r2, .int .i64 r3] 23 := hBk 23 (by decide) (by decide)
      simp only [tmOf, putAll, List.map_cons, List.map_nil, List.setIfInBounds_toArray, List.set_cons_zero, List.set_cons_succ]
      simp only [Nat.zero_add, Nat.reduceAdd]
      refine ‹∀ (a' : Act) (w' : World), Met _ a' w' → _› _ _ ?_
      go_meet
      case rel => exact ⟨g24, L, hbw⟩
  case rest =>
  obtain ⟨rfl, L, hbx⟩ := hcut
  have z0 := L.cell (i := 0) rfl
  have z1 := L.cell (i := 1) rfl
  have z2 := L.cell (i := 2) rfl
  have z3 := L.cell (i := 3) rfl
  go_wp2_with fail
  exact bodyPost_ret (v := .tuple #[.agg #[.int .i64 r0, .int .i64 r1, .int .i64 r2, .int .i64 r3], .int .i64 E]) (by simp [results, Try.results58, go_sem, z0, z1, z2, z3]) rfl ⟨rfl, hbx⟩

end Go.Proofs.Ytopdeakjnloemaa

namespace Go.Proofs.Ytopdeakjnloemaa
open Go.RowKit Go.Shelf
attribute [local go_sem] Oper.semAt_some

theorem eqIn_sum (a b c d : Int) (w : World) : (Op.equalIn 9999 76 (.agg #[.int .u64 a, .int .u64 b]) (.agg #[.int .u64 c, .int .u64 d])).run Try.prog w = .ok (a == c && b == d) w := by
  have hS : Try.prog.underlying 76 = some (.struct (Try.prog.fieldsOf 76)) := by kernel_rfl
  have hp : Try.prog.stoodInHeld 76 = false := by kernel_rfl
  rw [show (9999 : Nat) = 9998 + 1 from rfl, run_equalIn_agg w 9998 _ _ _ hS hp]
  simp only [Program.fieldsOf, Try.underlying76]
  go_simp
  by_cases h1 : a = c <;> by_cases h2 : b = d <;> simp [h1, h2]

theorem eqIn_sum3 (a b c d e f : Int) (w : World) : (Op.equalIn 10000 89 (.agg #[.int .u64 a, .int .u64 b, .int .u64 c, .int .u64 d, .int .u64 e, .int .u64 f]) (.agg #[.int .u64 0, .int .u64 0, .int .u64 0, .int .u64 0, .int .u64 0, .int .u64 0])).run Try.prog w = .ok (decide ((a = 0 ∧ b = 0) ∧ (c = 0 ∧ d = 0) ∧ (e = 0 ∧ f = 0))) w := by
  have a3 := Try.isAgg76
  have z3 := Try.sizeOf76
  have h := fun a b c d w => eqIn_sum a b c d w
  rw [show (10000 : Nat) = 9999 + 1 from rfl, Op.equalIn]
  simp only [Sem.run_bind, run_underlying Try.underlying89, Result.andThen_ok]
  simp only [Std.Legacy.Range.forIn_eq_forIn_range', Std.Legacy.Range.size, Nat.sub_zero, Nat.add_sub_cancel, Nat.div_one, List.range'_succ, List.range'_zero, List.forIn_cons, List.forIn_nil]
  go_simp
  by_cases h1 : a = 0 <;> by_cases h2 : b = 0 <;> by_cases h3 : c = 0 <;> by_cases h4 : d = 0 <;> by_cases h5 : e = 0 <;> by_cases h6 : f = 0 <;> simp [h1, h2, h3, h4, h5, h6]

end Go.Proofs.Ytopdeakjnloemaa

namespace Go.Proofs.Ytopdeakjnloemaa
open Go.RowKit Go.Shelf
attribute [local go_sem] Oper.semAt_some

theorem points3 (w : World) (p q r : V4) (t : TypeId) : RdV (w.alloc (.cells #[.int .i64 p.a, .int .i64 p.b, .int .i64 p.c, .int .i64 p.d, .int .i64 q.a, .int .i64 q.b, .int .i64 q.c, .int .i64 q.d, .int .i64 r.a, .int .i64 r.b, .int .i64 r.c, .int .i64 r.d] t)) (some ⟨w.heap.size, 0, none⟩) [p, q, r] := by
  have hB := Blk.new w #[.int .i64 p.a, .int .i64 p.b, .int .i64 p.c, .int .i64 p.d, .int .i64 q.a, .int .i64 q.b, .int .i64 q.c, .int .i64 q.d, .int .i64 r.a, .int .i64 r.b, .int .i64 r.c, .int .i64 r.d] t
  intro i y hi
  match i, hi with
  | 0, hi => cases hi; exact ⟨_, 0, rfl, hB.lt, hB.cell (i := 0) rfl, hB.cell (i := 1) rfl, hB.cell (i := 2) rfl, hB.cell (i := 3) rfl⟩
  | 1, hi => cases hi; exact ⟨_, 0, rfl, hB.lt, hB.cell (i := 4) rfl, hB.cell (i := 5) rfl, hB.cell (i := 6) rfl, hB.cell (i := 7) rfl⟩
  | 2, hi => cases hi; exact ⟨_, 0, rfl, hB.lt, hB.cell (i := 8) rfl, hB.cell (i := 9) rfl, hB.cell (i := 10) rfl, hB.cell (i := 11) rfl⟩
  | i + 3, hi => simp at hi

theorem rdSum3 {W : World} {B : Nat} {x y z : Int} {xh xl yh yl zh zl : Int} {t : TypeId} (h : (hiW x = xh ∧ loW x = xl) ∧ (hiW y = yh ∧ loW y = yl) ∧ (hiW z = zh ∧ loW z = zl)) (hB : Blk W B #[.int .u64 xh, .int .u64 xl, .int .u64 yh, .int .u64 yl, .int .u64 zh, .int .u64 zl] t) : RdSum W (some ⟨B, 0, none⟩) [x, y, z] := by
  obtain ⟨⟨rfl, rfl⟩, ⟨rfl, rfl⟩, ⟨rfl, rfl⟩⟩ := h
  intro i q hi
  match i, hi with
  | 0, hi => cases hi; exact ⟨_, 0, rfl, hB.lt, hB.cell (i := 0) rfl, hB.cell (i := 1) rfl⟩
  | 1, hi => cases hi; exact ⟨_, 0, rfl, hB.lt, hB.cell (i := 2) rfl, hB.cell (i := 3) rfl⟩
  | 2, hi => cases hi; exact ⟨_, 0, rfl, hB.lt, hB.cell (i := 4) rfl, hB.cell (i := 5) rfl⟩
  | i + 3, hi => simp at hi

theorem rdI3 {W : World} {B : Nat} {x y z : Int} {t : TypeId} (hB : Blk W B #[.int .i64 x, .int .i64 y, .int .i64 z] t) : RdI W (some ⟨B, 0, none⟩) [x, y, z] := by
  intro i q hi
  match i, hi with
  | 0, hi => cases hi; exact ⟨_, 0, rfl, hB.lt, hB.cell (i := 0) rfl⟩
  | 1, hi => cases hi; exact ⟨_, 0, rfl, hB.lt, hB.cell (i := 1) rfl⟩
  | 2, hi => cases hi; exact ⟨_, 0, rfl, hB.lt, hB.cell (i := 2) rfl⟩
  | i + 3, hi => simp at hi

theorem minor_fits {q1 q2 q3 r1 r2 r3 s1 s2 s3 : Int} {M K : Nat} (h1 : q1.natAbs ≤ M) (h2 : q2.natAbs ≤ M) (h3 : q3.natAbs ≤ K) (i1 : r1.natAbs ≤ M) (i2 : r2.natAbs ≤ M) (i3 : r3.natAbs ≤ K) (j1 : s1.natAbs ≤ M) (j2 : s2.natAbs ≤ M) (j3 : s3.natAbs ≤ K) :
    (minorZ q1 q2 q3 r1 r2 r3 s1 s2 s3).natAbs ≤ 6 * (M * M * K) := by
  have two : ∀ {a b c d : Int}, a.natAbs ≤ M → b.natAbs ≤ M → c.natAbs ≤ M → d.natAbs ≤ M → (a * b - c * d).natAbs ≤ 2 * (M * M) := by
    intro a b c d ha hb hc hd
    have e1 := mul_le_nat ha hb
    have e2 := mul_le_nat hc hd
    omega
  have e1 := mul_le_nat (two h1 i2 h2 i1) j3
  have e2 := mul_le_nat (two i1 j2 i2 j1) h3
  have e3 := mul_le_nat (two j1 h2 j2 h1) i3
  rw [Nat.mul_assoc 2] at e1 e2 e3
  unfold minorZ
  omega

/-- The last coefficient of the plane through three points. -/
def thrD (p q r : V4) : Int := -(minorZ p.a p.b p.c q.a q.b q.c r.a r.b r.c)
def SoundQ (p : V4) : Prop := SoundP p.a p.b p.c p.d
instance (p : V4) : Decidable (SoundQ p) := by unfold SoundQ; infer_instance
theorem thr_rel (p q r : V4) : thrD p q r * p.d = -(crossX p q r * p.a + crossY p q r * p.b + crossZ p q r * p.c) := by
  have h := minor_rel p.a p.b p.c p.d q.a q.b q.c q.d r.a r.b r.c r.d
  unfold thrD crossX crossY crossZ
  rw [Int.neg_mul]
  omega
theorem cross_fits {p q r : V4} (hp : SoundQ p) (hq : SoundQ q) (hr : SoundQ r) : ∀ x ∈ [crossX p q r, crossY p q r, crossZ p q r], In127 x ∧ x.natAbs < 170141183460469231731687303715884105728 := by
  obtain ⟨p0, p1, p2, p3, p4, _⟩ := hp
  obtain ⟨q0, q1, q2, q3, q4, _⟩ := hq
  obtain ⟨r0, r1, r2, r3, r4, _⟩ := hr
  have p5 : p.d.natAbs ≤ 8589934592 := by omega
  have q5 : q.d.natAbs ≤ 8589934592 := by omega
  have r5 : r.d.natAbs ≤ 8589934592 := by omega
  have hx := minor_fits p1 p2 p5 q1 q2 q5 r1 r2 r5
  have hy := minor_fits p2 p0 p5 q2 q0 q5 r2 r0 r5
  have hz := minor_fits p0 p1 p5 q0 q1 q5 r0 r1 r5
  intro x hx'
  simp only [List.mem_cons, List.not_mem_nil, or_false] at hx'
  unfold In127
  rcases hx' with rfl | rfl | rfl
  · unfold crossX; omega
  · unfold crossY; omega
  · unfold crossZ; omega

def zero3 (p q r : V4) : Prop := crossX p q r = 0 ∧ crossY p q r = 0 ∧ crossZ p q r = 0
instance (p q r : V4) : Decidable (zero3 p q r) := by unfold zero3; infer_instance
def thrOk (p q r : V4) : Prop := MakeOk (crossX p q r) (crossY p q r) (crossZ p q r) (thrD p q r)
instance (p q r : V4) : Decidable (thrOk p q r) := by unfold thrOk; infer_instance
def thrL (p q r : V4) : V4 := ⟨low4 (crossX p q r) (crossY p q r) (crossZ p q r) (thrD p q r) (crossX p q r), low4 (crossX p q r) (crossY p q r) (crossZ p q r) (thrD p q r) (crossY p q r), low4 (crossX p q r) (crossY p q r) (crossZ p q r) (thrD p q r) (crossZ p q r), low4 (crossX p q r) (crossY p q r) (crossZ p q r) (thrD p q r) (thrD p q r)⟩
def sound3 (p q r : V4) : Bool := decide (SoundQ p) && (decide (SoundQ q) && decide (SoundQ r))
/-- The error of Through. -/
def thrE (p q r : V4) : Int := if sound3 p q r = true then (if zero3 p q r then 4 else errE (decide (thrOk p q r)) 2) else 40
/-- Its plane. -/
def thrP (p q r : V4) : V4 := if sound3 p q r = true then (if zero3 p q r then ⟨0, 0, 0, 0⟩ else if thrOk p q r then thrL p q r else ⟨0, 0, 0, 0⟩) else ⟨0, 0, 0, 0⟩

/-- With the normal's lowest terms: the same plane. -/
theorem at_thr (p q r : V4) (B c : Nat) (w : World) (hp : SoundQ p) (hz : ¬ zero3 p q r) (n0 n1 n2 : Int) (e0 : n0 * (gcdL 0 [crossX p q r, crossY p q r, crossZ p q r] : Nat) = crossX p q r) (e1 : n1 * (gcdL 0 [crossX p q r, crossY p q r, crossZ p q r] : Nat) = crossY p q r) (e2 : n2 * (gcdL 0 [crossX p q r, crossY p q r, crossZ p q r] : Nat) = crossZ p q r) (hg : 0 < gcdL 0 [crossX p q r, crossY p q r, crossZ p q r])
    (h0 : n0.natAbs ≤ 1000) (h1 : n1.natAbs ≤ 1000) (h2 : n2.natAbs ≤ 1000) (hB : Blk w B #[.int .i64 n0, .int .i64 n1, .int .i64 n2] 2) :
    Calls Try.prog 58 #[.agg #[.int .i64 p.a, .int .i64 p.b, .int .i64 p.c, .int .i64 p.d], .slice (some ⟨B, 0, none⟩) 3 c] w fun e w' => e = .returned (.tuple #[if thrOk p q r then .agg #[.int .i64 (thrL p q r).a, .int .i64 (thrL p q r).b, .int .i64 (thrL p q r).c, .int .i64 (thrL p q r).d] else .agg #[.int .i64 0, .int .i64 0, .int .i64 0, .int .i64 0], .int .i64 (errE (decide (thrOk p q r)) 2)]) ∧ Below w.heap.size w w' := by
  have hn : ¬ (n0 = 0 ∧ n1 = 0 ∧ n2 = 0) := by
    rintro ⟨rfl, rfl, rfl⟩
    rw [Int.zero_mul] at e0 e1 e2
    exact hz ⟨e0.symm, e1.symm, e2.symm⟩
  have h := at_any p B c n0 n1 n2 w hp hn h0 h1 h2 hB
  obtain ⟨l0, l1, l2, l3⟩ := through_same (x3 := thrD p q r) hg hp.2.2.2.1 e0 e1 e2 (thr_rel p q r)
  have hok : MakeOk (n0 * p.d) (n1 * p.d) (n2 * p.d) (-(n0 * p.a + n1 * p.b + n2 * p.c)) ↔ thrOk p q r := by
    unfold thrOk MakeOk; rw [l0, l1, l2, l3]
  rw [l0, l1, l2, l3, ite_iff hok, show decide (MakeOk (n0 * p.d) (n1 * p.d) (n2 * p.d) (-(n0 * p.a + n1 * p.b + n2 * p.c))) = decide (thrOk p q r) from decide_eq_decide.2 hok] at h
  exact h

end Go.Proofs.Ytopdeakjnloemaa
