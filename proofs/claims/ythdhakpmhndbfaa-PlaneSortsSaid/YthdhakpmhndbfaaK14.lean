/-
  Package plane: the plane with a normal through a point; Package sums: whether three sums are the same; Package plane: Through, plain; what it reads; Package plane: the plane through three points.
-/
import Derived.ChangeKeysEq
import Derived.Deep.CutBlock
import Derived.Test.YthdhakpmhndbfaaK1
import Derived.Test.YthdhakpmhndbfaaK2
import Derived.Test.YthdhakpmhndbfaaK3
import Derived.Test.YthdhakpmhndbfaaK4
import Derived.Test.YthdhakpmhndbfaaK5
import Derived.Test.YthdhakpmhndbfaaK6
import Derived.Test.YthdhakpmhndbfaaK7
import Derived.Test.YthdhakpmhndbfaaK8
import Derived.Test.YthdhakpmhndbfaaK12
import Derived.Test.YthdhakpmhndbfaaK13
namespace Go.Proofs.Ythdhakpmhndbfaa
open Go.RowKit Go.Shelf
attribute [local go_sem] Oper.semAt_some

theorem mul_le_nat {x y : Int} {m n : Nat} (hx : x.natAbs ≤ m) (hy : y.natAbs ≤ n) : (x * y).natAbs ≤ m * n := by
  rw [Int.natAbs_mul]; exact Nat.mul_le_mul hx hy

set_option maxRecDepth 100000 in
set_option maxHeartbeats 8000000 in
theorem at_any (q : V4) (B c : Nat) (n0 n1 n2 : Int) (w : World) (hq : SoundP q.a q.b q.c q.d) (hn : ¬ (n0 = 0 ∧ n1 = 0 ∧ n2 = 0)) (h0 : n0.natAbs ≤ 1000) (h1 : n1.natAbs ≤ 1000) (h2 : n2.natAbs ≤ 1000) (hB : Blk w B #[.int .i64 n0, .int .i64 n1, .int .i64 n2] 2) :
    Calls Try.prog 58 #[.agg #[.int .i64 q.a, .int .i64 q.b, .int .i64 q.c, .int .i64 q.d], .slice (some ⟨B, 0, none⟩) 3 c] w fun e w' => e = .returned (.tuple #[if MakeOk (n0 * q.d) (n1 * q.d) (n2 * q.d) (-(n0 * q.a + n1 * q.b + n2 * q.c)) then .agg #[.int .i64 (low4 (n0 * q.d) (n1 * q.d) (n2 * q.d) (-(n0 * q.a + n1 * q.b + n2 * q.c)) (n0 * q.d)), .int .i64 (low4 (n0 * q.d) (n1 * q.d) (n2 * q.d) (-(n0 * q.a + n1 * q.b + n2 * q.c)) (n1 * q.d)), .int .i64 (low4 (n0 * q.d) (n1 * q.d) (n2 * q.d) (-(n0 * q.a + n1 * q.b + n2 * q.c)) (n2 * q.d)), .int .i64 (low4 (n0 * q.d) (n1 * q.d) (n2 * q.d) (-(n0 * q.a + n1 * q.b + n2 * q.c)) (-(n0 * q.a + n1 * q.b + n2 * q.c)))] else .agg #[.int .i64 0, .int .i64 0, .int .i64 0, .int .i64 0], .int .i64 (errE (decide (MakeOk (n0 * q.d) (n1 * q.d) (n2 * q.d) (-(n0 * q.a + n1 * q.b + n2 * q.c)))) 2)]) ∧ Below w.heap.size w w' := by
  obtain ⟨s0, s1, s2, s3, s4, _⟩ := hq
  have s5 : q.d.natAbs ≤ 8589934592 := by omega
  have a0 := mul_le_nat h0 s0
  have a1 := mul_le_nat h1 s1
  have a2 := mul_le_nat h2 s2
  have b0 := mul_le_nat h0 s5
  have b1 := mul_le_nat h1 s5
  have b2 := mul_le_nat h2 s5
  have hz : ¬ (n0 * q.d = 0 ∧ n1 * q.d = 0 ∧ n2 * q.d = 0) := by
    intro ⟨e0, e1, e2⟩
    refine hn ⟨?_, ?_, ?_⟩
    · rcases Int.mul_eq_zero.1 e0 with h | h <;> omega
    · rcases Int.mul_eq_zero.1 e1 with h | h <;> omega
    · rcases Int.mul_eq_zero.1 e2 with h | h <;> omega
  obtain ⟨u0, hu0⟩ : ∃ u, n0 * q.a = u := ⟨_, rfl⟩
  obtain ⟨u1, hu1⟩ : ∃ u, n1 * q.b = u := ⟨_, rfl⟩
  obtain ⟨u2, hu2⟩ : ∃ u, n2 * q.c = u := ⟨_, rfl⟩
  obtain ⟨t0, ht0⟩ : ∃ u, n0 * q.d = u := ⟨_, rfl⟩
  obtain ⟨t1, ht1⟩ : ∃ u, n1 * q.d = u := ⟨_, rfl⟩
  obtain ⟨t2, ht2⟩ : ∃ u, n2 * q.d = u := ⟨_, rfl⟩
  rw [hu0] at a0
  rw [hu1] at a1
  rw [hu2] at a2
  rw [ht0] at b0
  rw [ht1] at b1
  rw [ht2] at b2
  rw [hu0, hu1, hu2, ht0, ht1, ht2]
  rw [ht0, ht1, ht2] at hz
  have e1 : wrap64 u0 = u0 := by unfold wrap64; omega
  have e2 : wrap64 u1 = u1 := by unfold wrap64; omega
  have e3 : wrap64 u2 = u2 := by unfold wrap64; omega
  have e4 : wrap64 t0 = t0 := by unfold wrap64; omega
  have e5 : wrap64 t1 = t1 := by unfold wrap64; omega
  have e6 : wrap64 t2 = t2 := by unfold wrap64; omega
  have e7 : wrap64 (u0 + u1) = u0 + u1 := by unfold wrap64; omega
  have e8 : wrap64 (u0 + u1 + u2) = u0 + u1 + u2 := by unfold wrap64; omega
  have e9 : wrap64 (-(u0 + u1 + u2)) = -(u0 + u1 + u2) := by unfold wrap64; omega
  have hM := fun W => make_some t0 t1 t2 (-(u0 + u1 + u2)) W hz (by unfold InI64; omega) (by unfold InI64; omega) (by unfold InI64; omega) (by unfold InI64; omega)
  obtain ⟨E, hE⟩ : ∃ E, errE (decide (MakeOk t0 t1 t2 (-(u0 + u1 + u2)))) 2 = E := ⟨_, rfl⟩
  rw [hE] at hM ⊢
  obtain ⟨r0, r1, r2, r3, hR⟩ : ∃ r0 r1 r2 r3 : Int, (if MakeOk t0 t1 t2 (-(u0 + u1 + u2)) then Value.agg #[.int .i64 (low4 t0 t1 t2 (-(u0 + u1 + u2)) t0), .int .i64 (low4 t0 t1 t2 (-(u0 + u1 + u2)) t1), .int .i64 (low4 t0 t1 t2 (-(u0 + u1 + u2)) t2), .int .i64 (low4 t0 t1 t2 (-(u0 + u1 + u2)) (-(u0 + u1 + u2)))] else .agg #[.int .i64 0, .int .i64 0, .int .i64 0, .int .i64 0]) = .agg #[.int .i64 r0, .int .i64 r1, .int .i64 r2, .int .i64 r3] := by
    by_cases h : MakeOk t0 t1 t2 (-(u0 + u1 + u2))
    · rw [if_pos h]; exact ⟨_, _, _, _, rfl⟩
    · rw [if_neg h]; exact ⟨_, _, _, _, rfl⟩
  rw [hR] at hM ⊢
  have HM := Lib.hid hM
  clear hM hE hR hz s0 s1 s2 s3 s4 s5 a0 a1 a2 b0 b1 b2 hn h0 h1 h2
  obtain ⟨w1, hw1⟩ : ∃ w1, ((w.alloc (.cells #[.int .i64 q.a, .int .i64 q.b, .int .i64 q.c, .int .i64 q.d] 37)).alloc (.cells #[.int .i64 0, .int .i64 0, .int .i64 0, .int .i64 0] 23)) = w1 := ⟨_, rfl⟩
  have hb1 : Below w.heap.size w w1 := by rw [← hw1]; exact bw2 w _ _
  have k0 : Blk w1 w.heap.size #[.int .i64 q.a, .int .i64 q.b, .int .i64 q.c, .int .i64 q.d] 37 := by rw [← hw1]; exact (Blk.new w _ _).alloc _
  have k1 : Blk w1 (w.heap.size + 1) #[.int .i64 0, .int .i64 0, .int .i64 0, .int .i64 0] 23 := by rw [← hw1]; exact Blk.new' _ _ _ (by simp)
  have hBN : B < w.heap.size := hB.lt
  have kB := hB.kept hb1
  clear hB
  go_enter Try.func58, Try.ntmps58
  go_upto_region 1 with fail
  go_cut [6] from 7 to 26 (fun v6 wx => v6 = .int .i64 (u0 + u1 + u2) ∧ Below w1.heap.size w1 wx)
  case first =>
    refine wp_region_pure' (fun ix => match ix with | 0 => .slice (some ⟨B, 0, none⟩) 3 c | 1 => .pointer (some ⟨B, 0, none⟩) | 2 => .int .i64 n0 | 3 => .pointer (some ⟨w.heap.size, 0, none⟩) | 4 => .int .i64 q.a | 5 => .int .i64 u0 | 6 => .slice (some ⟨B, 0, none⟩) 3 c | 7 => .pointer (some ⟨B, 1, none⟩) | 8 => .int .i64 n1 | 9 => .pointer (some ⟨w.heap.size, 1, none⟩) | 10 => .int .i64 q.b | 11 => .int .i64 u1 | 12 => .int .i64 (u0 + u1) | 13 => .slice (some ⟨B, 0, none⟩) 3 c | 14 => .pointer (some ⟨B, 2, none⟩) | 15 => .int .i64 n2 | 16 => .pointer (some ⟨w.heap.size, 2, none⟩) | 17 => .int .i64 q.c | 18 => .int .i64 u2 | 19 => .int .i64 (u0 + u1 + u2) | _ => .int .i64 (u0 + u1 + u2)) (by kernel_rfl) (by kernel_rfl) ?_ ?_
    · rintro ix hx f ww hS hd
      have ka := kB.kept hS
      have kb := k0.kept hS
      have n0_ := ka.cell (i := 0) rfl
      have n1_ := ka.cell (i := 1) rfl
      have n2_ := ka.cell (i := 2) rfl
      have m0_ := kb.cell (i := 0) rfl
      have m1_ := kb.cell (i := 1) rfl
      have m2_ := kb.cell (i := 2) rfl
      have m3_ := kb.cell (i := 3) rfl
      rcases ix with _ | _ | _ | _ | _ | _ | _ | _ | _ | _ | _ | _ | _ | _ | _ | _ | _ | _ | _ | _ | _ | ix
      · refine wpOp_list rfl ?_
        simp only [tmOf, putAll, List.map_cons, List.map_nil, List.setIfInBounds_toArray, List.set_cons_zero, List.set_cons_succ]
        go_wp2
        simp [upd, Below.refl]
      · have g0 : f 0 = .slice (some ⟨B, 0, none⟩) 3 c := hd 0 (by kernel_rfl)
        refine wpOp_list rfl ?_
        simp only [tmOf, putAll, List.map_cons, List.map_nil, List.setIfInBounds_toArray, List.set_cons_zero, List.set_cons_succ]
        go_wp2
        simp [upd, g0, Below.refl]
      · have g1 : f 1 = .pointer (some ⟨B, 0, none⟩) := hd 1 (by kernel_rfl)
        refine wpOp_list rfl ?_
        simp only [tmOf, putAll, List.map_cons, List.map_nil, List.setIfInBounds_toArray, List.set_cons_zero, List.set_cons_succ]
        go_wp2
        simp [upd, g1, Below.refl]
      · refine wpOp_list rfl ?_
        simp only [tmOf, putAll, List.map_cons, List.map_nil, List.setIfInBounds_toArray, List.set_cons_zero, List.set_cons_succ]
        go_wp2
        simp [upd, Below.refl]
      · have g3 : f 3 = .pointer (some ⟨w.heap.size, 0, none⟩) := hd 3 (by kernel_rfl)
        refine wpOp_list rfl ?_
        simp only [tmOf, putAll, List.map_cons, List.map_nil, List.setIfInBounds_toArray, List.set_cons_zero, List.set_cons_succ]
        go_wp2
        simp [upd, g3, Below.refl]
      · have g2 : f 2 = .int .i64 n0 := hd 2 (by kernel_rfl)
        have g4 : f 4 = .int .i64 q.a := hd 4 (by kernel_rfl)
        refine wpOp_list rfl ?_
        simp only [tmOf, putAll, List.map_cons, List.map_nil, List.setIfInBounds_toArray, List.set_cons_zero, List.set_cons_succ]
        go_wp2
        simp [upd, g2, g4, Below.refl]
      · refine wpOp_list rfl ?_
        simp only [tmOf, putAll, List.map_cons, List.map_nil, List.setIfInBounds_toArray, List.set_cons_zero, List.set_cons_succ]
        go_wp2
        simp [upd, Below.refl]
      · have g6 : f 6 = .slice (some ⟨B, 0, none⟩) 3 c := hd 6 (by kernel_rfl)
        refine wpOp_list rfl ?_
        simp only [tmOf, putAll, List.map_cons, List.map_nil, List.setIfInBounds_toArray, List.set_cons_zero, List.set_cons_succ]
        go_wp2
        simp [upd, g6, Below.refl]
      · have g7 : f 7 = .pointer (some ⟨B, 1, none⟩) := hd 7 (by kernel_rfl)
        refine wpOp_list rfl ?_
        simp only [tmOf, putAll, List.map_cons, List.map_nil, List.setIfInBounds_toArray, List.set_cons_zero, List.set_cons_succ]
        go_wp2
        simp [upd, g7, Below.refl]
      · refine wpOp_list rfl ?_
        simp only [tmOf, putAll, List.map_cons, List.map_nil, List.setIfInBounds_toArray, List.set_cons_zero, List.set_cons_succ]
        go_wp2
        simp [upd, Below.refl]
      · have g9 : f 9 = .pointer (some ⟨w.heap.size, 1, none⟩) := hd 9 (by kernel_rfl)
        refine wpOp_list rfl ?_
        simp only [tmOf, putAll, List.map_cons, List.map_nil, List.setIfInBounds_toArray, List.set_cons_zero, List.set_cons_succ]
        go_wp2
        simp [upd, g9, Below.refl]
      · have g8 : f 8 = .int .i64 n1 := hd 8 (by kernel_rfl)
        have g10 : f 10 = .int .i64 q.b := hd 10 (by kernel_rfl)
        refine wpOp_list rfl ?_
        simp only [tmOf, putAll, List.map_cons, List.map_nil, List.setIfInBounds_toArray, List.set_cons_zero, List.set_cons_succ]
        go_wp2
        simp [upd, g8, g10, Below.refl]
      · have g5 : f 5 = .int .i64 u0 := hd 5 (by kernel_rfl)
        have g11 : f 11 = .int .i64 u1 := hd 11 (by kernel_rfl)
        refine wpOp_list rfl ?_
        simp only [tmOf, putAll, List.map_cons, List.map_nil, List.setIfInBounds_toArray, List.set_cons_zero, List.set_cons_succ]
        go_wp2
        simp [upd, g5, g11, Below.refl]
      · refine wpOp_list rfl ?_
        simp only [tmOf, putAll, List.map_cons, List.map_nil, List.setIfInBounds_toArray, List.set_cons_zero, List.set_cons_succ]
        go_wp2
        simp [upd, Below.refl]
      · have g13 : f 13 = .slice (some ⟨B, 0, none⟩) 3 c := hd 13 (by kernel_rfl)
        refine wpOp_list rfl ?_
        simp only [tmOf, putAll, List.map_cons, List.map_nil, List.setIfInBounds_toArray, List.set_cons_zero, List.set_cons_succ]
        go_wp2
        simp [upd, g13, Below.refl]
      · have g14 : f 14 = .pointer (some ⟨B, 2, none⟩) := hd 14 (by kernel_rfl)
        refine wpOp_list rfl ?_
        simp only [tmOf, putAll, List.map_cons, List.map_nil, List.setIfInBounds_toArray, List.set_cons_zero, List.set_cons_succ]
        go_wp2
        simp [upd, g14, Below.refl]
      · refine wpOp_list rfl ?_
        simp only [tmOf, putAll, List.map_cons, List.map_nil, List.setIfInBounds_toArray, List.set_cons_zero, List.set_cons_succ]
        go_wp2
        simp [upd, Below.refl]
      · have g16 : f 16 = .pointer (some ⟨w.heap.size, 2, none⟩) := hd 16 (by kernel_rfl)
        refine wpOp_list rfl ?_
        simp only [tmOf, putAll, List.map_cons, List.map_nil, List.setIfInBounds_toArray, List.set_cons_zero, List.set_cons_succ]
        go_wp2
        simp [upd, g16, Below.refl]
      · have g15 : f 15 = .int .i64 n2 := hd 15 (by kernel_rfl)
        have g17 : f 17 = .int .i64 q.c := hd 17 (by kernel_rfl)
        refine wpOp_list rfl ?_
        simp only [tmOf, putAll, List.map_cons, List.map_nil, List.setIfInBounds_toArray, List.set_cons_zero, List.set_cons_succ]
        go_wp2
        simp [upd, g15, g17, Below.refl]
      · have g12 : f 12 = .int .i64 (u0 + u1) := hd 12 (by kernel_rfl)
        have g18 : f 18 = .int .i64 u2 := hd 18 (by kernel_rfl)
        refine wpOp_list rfl ?_
        simp only [tmOf, putAll, List.map_cons, List.map_nil, List.setIfInBounds_toArray, List.set_cons_zero, List.set_cons_succ]
        go_wp2
        simp [upd, g12, g18, Below.refl]
      · have g19 : f 19 = .int .i64 (u0 + u1 + u2) := hd 19 (by kernel_rfl)
        refine wpOp_list rfl ?_
        simp only [tmOf, putAll, List.map_cons, List.map_nil, List.setIfInBounds_toArray, List.set_cons_zero, List.set_cons_succ]
        go_wp2
        simp [upd, g19, Below.refl]
      · simp only [List.length_cons, List.length_nil] at hx; omega
    · rintro f ww hS hd
      have g20 : f 20 = .int .i64 (u0 + u1 + u2) := hd 20 (by decide)
      simp only [tmOf, putAll, List.map_cons, List.map_nil, List.setIfInBounds_toArray, List.set_cons_zero, List.set_cons_succ]
      refine ‹∀ (a' : Act) (w' : World), Met _ a' w' → _› _ _ ?_
      go_meet
      case rel => exact ⟨g20, hS⟩
  case rest =>
  obtain ⟨rfl, hbx⟩ := hcut
  have k0 := k0.kept hbx
  have k1 := k1.kept hbx
  have kB := kB.kept hbx
  have hb1 := hb1.trans (hbx.mono hb1.size)
  clear hbx hw1
  go_upto_region 2 with fail
  go_cut [5] from 27 to 49 (fun v5 wx => v5 = .int .i64 E ∧ Blk wx (w.heap.size + 1) #[.int .i64 r0, .int .i64 r1, .int .i64 r2, .int .i64 r3] 23 ∧ Below w.heap.size w wx)
  case first =>
    refine wp_region_keepP (fun ix => ix != 23) (fun ix => match ix with | 0 => .slice (some ⟨B, 0, none⟩) 3 c | 1 => .pointer (some ⟨B, 0, none⟩) | 2 => .int .i64 n0 | 3 => .pointer (some ⟨w.heap.size, 3, none⟩) | 4 => .int .i64 q.d | 5 => .int .i64 t0 | 6 => .slice (some ⟨B, 0, none⟩) 3 c | 7 => .pointer (some ⟨B, 1, none⟩) | 8 => .int .i64 n1 | 9 => .pointer (some ⟨w.heap.size, 3, none⟩) | 10 => .int .i64 q.d | 11 => .int .i64 t1 | 12 => .slice (some ⟨B, 0, none⟩) 3 c | 13 => .pointer (some ⟨B, 2, none⟩) | 14 => .int .i64 n2 | 15 => .pointer (some ⟨w.heap.size, 3, none⟩) | 16 => .int .i64 q.d | 17 => .int .i64 t2 | 18 => .int .i64 (u0 + u1 + u2) | 19 => .int .i64 (-(u0 + u1 + u2)) | 20 => .tuple #[.agg #[.int .i64 r0, .int .i64 r1, .int .i64 r2, .int .i64 r3], .int .i64 E] | 21 => .agg #[.int .i64 r0, .int .i64 r1, .int .i64 r2, .int .i64 r3] | 22 => .int .i64 E | _ => .int .i64 E) (fun _ => (w.heap.size + 1, #[.int .i64 r0, .int .i64 r1, .int .i64 r2, .int .i64 r3])) 23 (fun ww => Blk ww B #[.int .i64 n0, .int .i64 n1, .int .i64 n2] 2 ∧ Blk ww w.heap.size #[.int .i64 q.a, .int .i64 q.b, .int .i64 q.c, .int .i64 q.d] 37 ∧ (∃ y0 y1 y2 y3 : Int, Blk ww (w.heap.size + 1) #[.int .i64 y0, .int .i64 y1, .int .i64 y2, .int .i64 y3] 23) ∧ Below w.heap.size w ww) (by kernel_rfl) (by kernel_rfl) ?_ ?_ ?_ ?_ ?_ ?_
    · exact ⟨kB, k0, ⟨_, _, _, _, k1⟩, hb1.drew⟩
    · rintro w8 w9 ⟨ka, kb, ⟨y0, y1, y2, y3, kc⟩, hbw⟩ hb9
      exact ⟨ka.kept hb9, kb.kept hb9, ⟨y0, y1, y2, y3, kc.kept hb9⟩, hbw.trans (hb9.mono hbw.size)⟩
    · intro i j hi hj hpi hpj hne
      simp at hpi hpj
      omega
    · rintro ix hx hin f ww ⟨ka, kb, _, hbw⟩ hd
      have n0_ := ka.cell (i := 0) rfl
      have n1_ := ka.cell (i := 1) rfl
      have n2_ := ka.cell (i := 2) rfl
      have m0_ := kb.cell (i := 0) rfl
      have m1_ := kb.cell (i := 1) rfl
      have m2_ := kb.cell (i := 2) rfl
      have m3_ := kb.cell (i := 3) rfl
      rcases ix with _ | _ | _ | _ | _ | _ | _ | _ | _ | _ | _ | _ | _ | _ | _ | _ | _ | _ | _ | _ | _ | _ | _ | _ | _ | ix
      · refine wpOp_list rfl ?_
        simp only [tmOf, putAll, List.map_cons, List.map_nil, List.setIfInBounds_toArray, List.set_cons_zero, List.set_cons_succ]
        go_wp2
        simp [upd, Below.refl]
      · have g0 : f 0 = .slice (some ⟨B, 0, none⟩) 3 c := hd 0 (by decide) (by kernel_rfl)
        refine wpOp_list rfl ?_
        simp only [tmOf, putAll, List.map_cons, List.map_nil, List.setIfInBounds_toArray, List.set_cons_zero, List.set_cons_succ]
        go_wp2
        simp [upd, g0, Below.refl]
      · have g1 : f 1 = .pointer (some ⟨B, 0, none⟩) := hd 1 (by decide) (by kernel_rfl)
        refine wpOp_list rfl ?_
        simp only [tmOf, putAll, List.map_cons, List.map_nil, List.setIfInBounds_toArray, List.set_cons_zero, List.set_cons_succ]
        go_wp2
        simp [upd, g1, Below.refl]
      · refine wpOp_list rfl ?_
        simp only [tmOf, putAll, List.map_cons, List.map_nil, List.setIfInBounds_toArray, List.set_cons_zero, List.set_cons_succ]
        go_wp2
        simp [upd, Below.refl]
      · have g3 : f 3 = .pointer (some ⟨w.heap.size, 3, none⟩) := hd 3 (by decide) (by kernel_rfl)
        refine wpOp_list rfl ?_
        simp only [tmOf, putAll, List.map_cons, List.map_nil, List.setIfInBounds_toArray, List.set_cons_zero, List.set_cons_succ]
        go_wp2
        simp [upd, g3, Below.refl]
      · have g2 : f 2 = .int .i64 n0 := hd 2 (by decide) (by kernel_rfl)
        have g4 : f 4 = .int .i64 q.d := hd 4 (by decide) (by kernel_rfl)
        refine wpOp_list rfl ?_
        simp only [tmOf, putAll, List.map_cons, List.map_nil, List.setIfInBounds_toArray, List.set_cons_zero, List.set_cons_succ]
        go_wp2
        simp [upd, g2, g4, Below.refl]
      · refine wpOp_list rfl ?_
        simp only [tmOf, putAll, List.map_cons, List.map_nil, List.setIfInBounds_toArray, List.set_cons_zero, List.set_cons_succ]
        go_wp2
        simp [upd, Below.refl]
      · have g6 : f 6 = .slice (some ⟨B, 0, none⟩) 3 c := hd 6 (by decide) (by kernel_rfl)
        refine wpOp_list rfl ?_
        simp only [tmOf, putAll, List.map_cons, List.map_nil, List.setIfInBounds_toArray, List.set_cons_zero, List.set_cons_succ]
        go_wp2
        simp [upd, g6, Below.refl]
      · have g7 : f 7 = .pointer (some ⟨B, 1, none⟩) := hd 7 (by decide) (by kernel_rfl)
        refine wpOp_list rfl ?_
        simp only [tmOf, putAll, List.map_cons, List.map_nil, List.setIfInBounds_toArray, List.set_cons_zero, List.set_cons_succ]
        go_wp2
        simp [upd, g7, Below.refl]
      · refine wpOp_list rfl ?_
        simp only [tmOf, putAll, List.map_cons, List.map_nil, List.setIfInBounds_toArray, List.set_cons_zero, List.set_cons_succ]
        go_wp2
        simp [upd, Below.refl]
      · have g9 : f 9 = .pointer (some ⟨w.heap.size, 3, none⟩) := hd 9 (by decide) (by kernel_rfl)
        refine wpOp_list rfl ?_
        simp only [tmOf, putAll, List.map_cons, List.map_nil, List.setIfInBounds_toArray, List.set_cons_zero, List.set_cons_succ]
        go_wp2
        simp [upd, g9, Below.refl]
      · have g8 : f 8 = .int .i64 n1 := hd 8 (by decide) (by kernel_rfl)
        have g10 : f 10 = .int .i64 q.d := hd 10 (by decide) (by kernel_rfl)
        refine wpOp_list rfl ?_
        simp only [tmOf, putAll, List.map_cons, List.map_nil, List.setIfInBounds_toArray, List.set_cons_zero, List.set_cons_succ]
        go_wp2
        simp [upd, g8, g10, Below.refl]
      · refine wpOp_list rfl ?_
        simp only [tmOf, putAll, List.map_cons, List.map_nil, List.setIfInBounds_toArray, List.set_cons_zero, List.set_cons_succ]
        go_wp2
        simp [upd, Below.refl]
      · have g12 : f 12 = .slice (some ⟨B, 0, none⟩) 3 c := hd 12 (by decide) (by kernel_rfl)
        refine wpOp_list rfl ?_
        simp only [tmOf, putAll, List.map_cons, List.map_nil, List.setIfInBounds_toArray, List.set_cons_zero, List.set_cons_succ]
        go_wp2
        simp [upd, g12, Below.refl]
      · have g13 : f 13 = .pointer (some ⟨B, 2, none⟩) := hd 13 (by decide) (by kernel_rfl)
        refine wpOp_list rfl ?_
        simp only [tmOf, putAll, List.map_cons, List.map_nil, List.setIfInBounds_toArray, List.set_cons_zero, List.set_cons_succ]
        go_wp2
        simp [upd, g13, Below.refl]
      · refine wpOp_list rfl ?_
        simp only [tmOf, putAll, List.map_cons, List.map_nil, List.setIfInBounds_toArray, List.set_cons_zero, List.set_cons_succ]
        go_wp2
        simp [upd, Below.refl]
      · have g15 : f 15 = .pointer (some ⟨w.heap.size, 3, none⟩) := hd 15 (by decide) (by kernel_rfl)
        refine wpOp_list rfl ?_
        simp only [tmOf, putAll, List.map_cons, List.map_nil, List.setIfInBounds_toArray, List.set_cons_zero, List.set_cons_succ]
        go_wp2
        simp [upd, g15, Below.refl]
      · have g14 : f 14 = .int .i64 n2 := hd 14 (by decide) (by kernel_rfl)
        have g16 : f 16 = .int .i64 q.d := hd 16 (by decide) (by kernel_rfl)
        refine wpOp_list rfl ?_
        simp only [tmOf, putAll, List.map_cons, List.map_nil, List.setIfInBounds_toArray, List.set_cons_zero, List.set_cons_succ]
        go_wp2
        simp [upd, g14, g16, Below.refl]
      · refine wpOp_list rfl ?_
        simp only [tmOf, putAll, List.map_cons, List.map_nil, List.setIfInBounds_toArray, List.set_cons_zero, List.set_cons_succ]
        go_wp2
        simp [upd, Below.refl]
      · have g18 : f 18 = .int .i64 (u0 + u1 + u2) := hd 18 (by decide) (by kernel_rfl)
        refine wpOp_list rfl ?_
        simp only [tmOf, putAll, List.map_cons, List.map_nil, List.setIfInBounds_toArray, List.set_cons_zero, List.set_cons_succ]
        go_wp2
        simp [upd, g18, Below.refl]
      · have g5 : f 5 = .int .i64 t0 := hd 5 (by decide) (by kernel_rfl)
        have g11 : f 11 = .int .i64 t1 := hd 11 (by decide) (by kernel_rfl)
        have g17 : f 17 = .int .i64 t2 := hd 17 (by decide) (by kernel_rfl)
        have g19 : f 19 = .int .i64 (-(u0 + u1 + u2)) := hd 19 (by decide) (by kernel_rfl)
        refine wpOp_list rfl ?_
        simp only [tmOf, putAll, List.map_cons, List.map_nil, List.setIfInBounds_toArray, List.set_cons_zero, List.set_cons_succ]
        go_wp2_with fail
        refine (HM.out _).mono ?_
        rintro e' wf ⟨rfl, hbf⟩
        go_wp2_with fail
        simp [upd, g5, g11, g17, g19, hbf]
      · have g20 : f 20 = .tuple #[.agg #[.int .i64 r0, .int .i64 r1, .int .i64 r2, .int .i64 r3], .int .i64 E] := hd 20 (by decide) (by kernel_rfl)
        refine wpOp_list rfl ?_
        simp only [tmOf, putAll, List.map_cons, List.map_nil, List.setIfInBounds_toArray, List.set_cons_zero, List.set_cons_succ]
        go_wp2
        simp [upd, g20, Below.refl]
      · have g20 : f 20 = .tuple #[.agg #[.int .i64 r0, .int .i64 r1, .int .i64 r2, .int .i64 r3], .int .i64 E] := hd 20 (by decide) (by kernel_rfl)
        refine wpOp_list rfl ?_
        simp only [tmOf, putAll, List.map_cons, List.map_nil, List.setIfInBounds_toArray, List.set_cons_zero, List.set_cons_succ]
        go_wp2
        simp [upd, g20, Below.refl]
      · cases hin
      · have g22 : f 22 = .int .i64 E := hd 22 (by decide) (by kernel_rfl)
        refine wpOp_list rfl ?_
        simp only [tmOf, putAll, List.map_cons, List.map_nil, List.setIfInBounds_toArray, List.set_cons_zero, List.set_cons_succ]
        go_wp2
        simp [upd, g22, Below.refl]
      · simp only [List.length_cons, List.length_nil] at hx; omega
    · rintro ix hx hin f ww ⟨ka, kb, ⟨y0, y1, y2, y3, kc⟩, hbw⟩ hd
      have hi23 : ix = 23 := by simpa using hin
      subst hi23
      have g21 : f 21 = .agg #[.int .i64 r0, .int .i64 r1, .int .i64 r2, .int .i64 r3] := hd 21 (by decide) (by kernel_rfl)
      have c0_ := kc.cell (i := 0) rfl
      have c1_ := kc.cell (i := 1) rfl
      have c2_ := kc.cell (i := 2) rfl
      have c3_ := kc.cell (i := 3) rfl
      have q0 := kc.frozen 0
      have q1 := kc.frozen 1
      have q2 := kc.frozen 2
      have q3 := kc.frozen 3
      refine wpOp_list rfl ?_
      simp only [tmOf, putAll, List.map_cons, List.map_nil, List.setIfInBounds_toArray, List.set_cons_zero, List.set_cons_succ]
      go_wp2
      have oth : ∀ {C cs T}, C ≠ w.heap.size + 1 → Blk ww C cs T → Blk ((((ww.setCell ⟨w.heap.size + 1, 0, none⟩ (.int .i64 r0)).setCell ⟨w.heap.size + 1, 1, none⟩ (.int .i64 r1)).setCell ⟨w.heap.size + 1, 2, none⟩ (.int .i64 r2)).setCell ⟨w.heap.size + 1, 3, none⟩ (.int .i64 r3)) C cs T := fun hne h => (((h.other (C := w.heap.size + 1) 0 _ (by omega)).other (C := w.heap.size + 1) 1 _ (by omega)).other (C := w.heap.size + 1) 2 _ (by omega)).other (C := w.heap.size + 1) 3 _ (by omega)
      refine ⟨Blk.put4 kc _ _ _ _, ⟨oth (by omega) ka, oth (by omega) kb, ⟨_, _, _, _, Blk.put4 kc _ _ _ _⟩, (((hbw.setCell (by simp only; omega) _).setCell (by simp only; omega) _).setCell (by simp only; omega) _).setCell (by simp only; omega) _⟩, ?_⟩
      intro B' cs hne hB'
      exact oth (by simpa using hne) hB'
    · rintro f ww ⟨_, _, _, hbw⟩ hd hBk
      have g24 : f 24 = .int .i64 E := hd 24 (by decide) (by decide)
      have L : Blk ww (w.heap.size + 1) #[.int .i64 r0, .int .i64 r1, .int .i64 r2, .int .i64 r3] 23 := hBk 23 (by decide) (by decide)
      simp only [tmOf, putAll, List.map_cons, List.map_nil, List.setIfInBounds_toArray, List.set_cons_zero, List.set_cons_succ]
      simp only [Nat.zero_add, Nat.reduceAdd]
      refine ‹∀ (a' : Act) (w' : World), Met _ a' w' → _› _ _ ?_
      go_meet
      case rel => exact ⟨g24, L, hbw⟩
  case rest =>
  obtain ⟨rfl, L, hbx⟩ := hcut
  have z0 := L.cell (i := 0) rfl
  have z1 := L.cell (i := 1) rfl
  have z2 := L.cell (i := 2) rfl
  have z3 := L.cell (i := 3) rfl
  go_wp2_with fail
  exact bodyPost_ret (v := .tuple #[.agg #[.int .i64 r0, .int .i64 r1, .int .i64 r2, .int .i64 r3], .int .i64 E]) (by simp [results, Try.results58, go_sem, z0, z1, z2, z3]) rfl ⟨rfl, hbx⟩

end Go.Proofs.Ythdhakpmhndbfaa

namespace Go.Proofs.Ythdhakpmhndbfaa
open Go.RowKit Go.Shelf
attribute [local go_sem] Oper.semAt_some

theorem eqIn_sum (a b c d : Int) (w : World) : (Op.equalIn 9999 76 (.agg #[.int .u64 a, .int .u64 b]) (.agg #[.int .u64 c, .int .u64 d])).run Try.prog w = .ok (a == c && b == d) w := by
  have hS : Try.prog.underlying 76 = some (.struct (Try.prog.fieldsOf 76)) := by kernel_rfl
  have hp : Try.prog.stoodInHeld 76 = false := by kernel_rfl
  rw [show (9999 : Nat) = 9998 + 1 from rfl, run_equalIn_agg w 9998 _ _ _ hS hp]
  simp only [Program.fieldsOf, Try.underlying76]
  go_simp
  by_cases h1 : a = c <;> by_cases h2 : b = d <;> simp [h1, h2]

theorem eqIn_sum3 (a b c d e f : Int) (w : World) : (Op.equalIn 10000 89 (.agg #[.int .u64 a, .int .u64 b, .int .u64 c, .int .u64 d, .int .u64 e, .int .u64 f]) (.agg #[.int .u64 0, .int .u64 0, .int .u64 0, .int .u64 0, .int .u64 0, .int .u64 0])).run Try.prog w = .ok (decide ((a = 0 ∧ b = 0) ∧ (c = 0 ∧ d = 0) ∧ (e = 0 ∧ f = 0))) w := by
  have a3 := Try.isAgg76
  have z3 := Try.sizeOf76
  have h := fun a b c d w => eqIn_sum a b c d w
  rw [show (10000 : Nat) = 9999 + 1 from rfl, Op.equalIn]
  simp only [Sem.run_bind, run_underlying Try.underlying89, Result.andThen_ok]
  simp only [Std.Legacy.Range.forIn_eq_forIn_range', Std.Legacy.Range.size, Nat.sub_zero, Nat.add_sub_cancel, Nat.div_one, List.range'_succ, List.range'_zero, List.forIn_cons, List.forIn_nil]
  go_simp
  by_cases h1 : a = 0 <;> by_cases h2 : b = 0 <;> by_cases h3 : c = 0 <;> by_cases h4 : d = 0 <;> by_cases h5 : e = 0 <;> by_cases h6 : f = 0 <;> simp [h1, h2, h3, h4, h5, h6]

end Go.Proofs.Ythdhakpmhndbfaa

namespace Go.Proofs.Ythdhakpmhndbfaa
open Go.RowKit Go.Shelf
attribute [local go_sem] Oper.semAt_some

theorem points3 (w : World) (p q r : V4) (t : TypeId) : RdV (w.alloc (.cells #[.int .i64 p.a, .int .i64 p.b, .int .i64 p.c, .int .i64 p.d, .int .i64 q.a, .int .i64 q.b, .int .i64 q.c, .int .i64 q.d, .int .i64 r.a, .int .i64 r.b, .int .i64 r.c, .int .i64 r.d] t)) (some ⟨w.heap.size, 0, none⟩) [p, q, r] := by
  have hB := Blk.new w #[.int .i64 p.a, .int .i64 p.b, .int .i64 p.c, .int .i64 p.d, .int .i64 q.a, .int .i64 q.b, .int .i64 q.c, .int .i64 q.d, .int .i64 r.a, .int .i64 r.b, .int .i64 r.c, .int .i64 r.d] t
  intro i y hi
  match i, hi with
  | 0, hi => cases hi; exact ⟨_, 0, rfl, hB.lt, hB.cell (i := 0) rfl, hB.cell (i := 1) rfl, hB.cell (i := 2) rfl, hB.cell (i := 3) rfl⟩
  | 1, hi => cases hi; exact ⟨_, 0, rfl, hB.lt, hB.cell (i := 4) rfl, hB.cell (i := 5) rfl, hB.cell (i := 6) rfl, hB.cell (i := 7) rfl⟩
  | 2, hi => cases hi; exact ⟨_, 0, rfl, hB.lt, hB.cell (i := 8) rfl, hB.cell (i := 9) rfl, hB.cell (i := 10) rfl, hB.cell (i := 11) rfl⟩
  | i + 3, hi => simp at hi

theorem rdSum3 {W : World} {B : Nat} {x y z : Int} {xh xl yh yl zh zl : Int} {t : TypeId} (h : (hiW x = xh ∧ loW x = xl) ∧ (hiW y = yh ∧ loW y = yl) ∧ (hiW z = zh ∧ loW z = zl)) (hB : Blk W B #[.int .u64 xh, .int .u64 xl, .int .u64 yh, .int .u64 yl, .int .u64 zh, .int .u64 zl] t) : RdSum W (some ⟨B, 0, none⟩) [x, y, z] := by
  obtain ⟨⟨rfl, rfl⟩, ⟨rfl, rfl⟩, ⟨rfl, rfl⟩⟩ := h
  intro i q hi
  match i, hi with
  | 0, hi => cases hi; exact ⟨_, 0, rfl, hB.lt, hB.cell (i := 0) rfl, hB.cell (i := 1) rfl⟩
  | 1, hi => cases hi; exact ⟨_, 0, rfl, hB.lt, hB.cell (i := 2) rfl, hB.cell (i := 3) rfl⟩
  | 2, hi => cases hi; exact ⟨_, 0, rfl, hB.lt, hB.cell (i := 4) rfl, hB.cell (i := 5) rfl⟩
  | i + 3, hi => simp at hi

theorem rdI3 {W : World} {B : Nat} {x y z : Int} {t : TypeId} (hB : Blk W B #[.int .i64 x, .int .i64 y, .int .i64 z] t) : RdI W (some ⟨B, 0, none⟩) [x, y, z] := by
  intro i q hi
  match i, hi with
  | 0, hi => cases hi; exact ⟨_, 0, rfl, hB.lt, hB.cell (i := 0) rfl⟩
  | 1, hi => cases hi; exact ⟨_, 0, rfl, hB.lt, hB.cell (i := 1) rfl⟩
  | 2, hi => cases hi; exact ⟨_, 0, rfl, hB.lt, hB.cell (i := 2) rfl⟩
  | i + 3, hi => simp at hi

theorem minor_fits {q1 q2 q3 r1 r2 r3 s1 s2 s3 : Int} {M K : Nat} (h1 : q1.natAbs ≤ M) (h2 : q2.natAbs ≤ M) (h3 : q3.natAbs ≤ K) (i1 : r1.natAbs ≤ M) (i2 : r2.natAbs ≤ M) (i3 : r3.natAbs ≤ K) (j1 : s1.natAbs ≤ M) (j2 : s2.natAbs ≤ M) (j3 : s3.natAbs ≤ K) :
    (minorZ q1 q2 q3 r1 r2 r3 s1 s2 s3).natAbs ≤ 6 * (M * M * K) := by
  have two : ∀ {a b c d : Int}, a.natAbs ≤ M → b.natAbs ≤ M → c.natAbs ≤ M → d.natAbs ≤ M → (a * b - c * d).natAbs ≤ 2 * (M * M) := by
    intro a b c d ha hb hc hd
    have e1 := mul_le_nat ha hb
    have e2 := mul_le_nat hc hd
    omega
  have e1 := mul_le_nat (two h1 i2 h2 i1) j3
  have e2 := mul_le_nat (two i1 j2 i2 j1) h3
  have e3 := mul_le_nat (two j1 h2 j2 h1) i3
  rw [Nat.mul_assoc 2] at e1 e2 e3
  unfold minorZ
  omega

/-- The last coefficient of the plane through three points. -/
def thrD (p q r : V4) : Int := -(minorZ p.a p.b p.c q.a q.b q.c r.a r.b r.c)
def SoundQ (p : V4) : Prop := SoundP p.a p.b p.c p.d
instance (p : V4) : Decidable (SoundQ p) := by unfold SoundQ; infer_instance
theorem thr_rel (p q r : V4) : thrD p q r * p.d = -(crossX p q r * p.a + crossY p q r * p.b + crossZ p q r * p.c) := by
  have h := minor_rel p.a p.b p.c p.d q.a q.b q.c q.d r.a r.b r.c r.d
  unfold thrD crossX crossY crossZ
  rw [Int.neg_mul]
  omega
theorem cross_fits {p q r : V4} (hp : SoundQ p) (hq : SoundQ q) (hr : SoundQ r) : ∀ x ∈ [crossX p q r, crossY p q r, crossZ p q r], In127 x ∧ x.natAbs < 170141183460469231731687303715884105728 := by
  obtain ⟨p0, p1, p2, p3, p4, _⟩ := hp
  obtain ⟨q0, q1, q2, q3, q4, _⟩ := hq
  obtain ⟨r0, r1, r2, r3, r4, _⟩ := hr
  have p5 : p.d.natAbs ≤ 8589934592 := by omega
  have q5 : q.d.natAbs ≤ 8589934592 := by omega
  have r5 : r.d.natAbs ≤ 8589934592 := by omega
  have hx := minor_fits p1 p2 p5 q1 q2 q5 r1 r2 r5
  have hy := minor_fits p2 p0 p5 q2 q0 q5 r2 r0 r5
  have hz := minor_fits p0 p1 p5 q0 q1 q5 r0 r1 r5
  intro x hx'
  simp only [List.mem_cons, List.not_mem_nil, or_false] at hx'
  unfold In127
  rcases hx' with rfl | rfl | rfl
  · unfold crossX; omega
  · unfold crossY; omega
  · unfold crossZ; omega

def zero3 (p q r : V4) : Prop := crossX p q r = 0 ∧ crossY p q r = 0 ∧ crossZ p q r = 0
instance (p q r : V4) : Decidable (zero3 p q r) := by unfold zero3; infer_instance
def thrOk (p q r : V4) : Prop := MakeOk (crossX p q r) (crossY p q r) (crossZ p q r) (thrD p q r)
instance (p q r : V4) : Decidable (thrOk p q r) := by unfold thrOk; infer_instance
def thrL (p q r : V4) : V4 := ⟨low4 (crossX p q r) (crossY p q r) (crossZ p q r) (thrD p q r) (crossX p q r), low4 (crossX p q r) (crossY p q r) (crossZ p q r) (thrD p q r) (crossY p q r), low4 (crossX p q r) (crossY p q r) (crossZ p q r) (thrD p q r) (crossZ p q r), low4 (crossX p q r) (crossY p q r) (crossZ p q r) (thrD p q r) (thrD p q r)⟩
def sound3 (p q r : V4) : Bool := decide (SoundQ p) && (decide (SoundQ q) && decide (SoundQ r))
/-- The error of Through. -/
def thrE (p q r : V4) : Int := if sound3 p q r = true then (if zero3 p q r then 4 else errE (decide (thrOk p q r)) 2) else 40
/-- Its plane. -/
def thrP (p q r : V4) : V4 := if sound3 p q r = true then (if zero3 p q r then ⟨0, 0, 0, 0⟩ else if thrOk p q r then thrL p q r else ⟨0, 0, 0, 0⟩) else ⟨0, 0, 0, 0⟩

/-- With the normal's lowest terms: the same plane. -/
theorem at_thr (p q r : V4) (B c : Nat) (w : World) (hp : SoundQ p) (hz : ¬ zero3 p q r) (n0 n1 n2 : Int) (e0 : n0 * (gcdL 0 [crossX p q r, crossY p q r, crossZ p q r] : Nat) = crossX p q r) (e1 : n1 * (gcdL 0 [crossX p q r, crossY p q r, crossZ p q r] : Nat) = crossY p q r) (e2 : n2 * (gcdL 0 [crossX p q r, crossY p q r, crossZ p q r] : Nat) = crossZ p q r) (hg : 0 < gcdL 0 [crossX p q r, crossY p q r, crossZ p q r])
    (h0 : n0.natAbs ≤ 1000) (h1 : n1.natAbs ≤ 1000) (h2 : n2.natAbs ≤ 1000) (hB : Blk w B #[.int .i64 n0, .int .i64 n1, .int .i64 n2] 2) :
    Calls Try.prog 58 #[.agg #[.int .i64 p.a, .int .i64 p.b, .int .i64 p.c, .int .i64 p.d], .slice (some ⟨B, 0, none⟩) 3 c] w fun e w' => e = .returned (.tuple #[if thrOk p q r then .agg #[.int .i64 (thrL p q r).a, .int .i64 (thrL p q r).b, .int .i64 (thrL p q r).c, .int .i64 (thrL p q r).d] else .agg #[.int .i64 0, .int .i64 0, .int .i64 0, .int .i64 0], .int .i64 (errE (decide (thrOk p q r)) 2)]) ∧ Below w.heap.size w w' := by
  have hn : ¬ (n0 = 0 ∧ n1 = 0 ∧ n2 = 0) := by
    rintro ⟨rfl, rfl, rfl⟩
    rw [Int.zero_mul] at e0 e1 e2
    exact hz ⟨e0.symm, e1.symm, e2.symm⟩
  have h := at_any p B c n0 n1 n2 w hp hn h0 h1 h2 hB
  obtain ⟨l0, l1, l2, l3⟩ := through_same (x3 := thrD p q r) hg hp.2.2.2.1 e0 e1 e2 (thr_rel p q r)
  have hok : MakeOk (n0 * p.d) (n1 * p.d) (n2 * p.d) (-(n0 * p.a + n1 * p.b + n2 * p.c)) ↔ thrOk p q r := by
    unfold thrOk MakeOk; rw [l0, l1, l2, l3]
  rw [l0, l1, l2, l3, ite_iff hok, show decide (MakeOk (n0 * p.d) (n1 * p.d) (n2 * p.d) (-(n0 * p.a + n1 * p.b + n2 * p.c))) = decide (thrOk p q r) from decide_eq_decide.2 hok] at h
  exact h

end Go.Proofs.Ythdhakpmhndbfaa

namespace Go.Proofs.Ythdhakpmhndbfaa
open Go.RowKit Go.Shelf
attribute [local go_sem] Oper.semAt_some

set_option maxRecDepth 100000 in
set_option maxHeartbeats 8000000 in
theorem through_any (p q r : V4) (w : World) (hp : InV p) (hq : InV q) (hrr : InV r) :
    Calls Try.prog 25 #[.agg #[.int .i64 p.a, .int .i64 p.b, .int .i64 p.c, .int .i64 p.d], .agg #[.int .i64 q.a, .int .i64 q.b, .int .i64 q.c, .int .i64 q.d], .agg #[.int .i64 r.a, .int .i64 r.b, .int .i64 r.c, .int .i64 r.d]] w fun e w' => e = .returned (.tuple #[.agg #[.int .i64 (thrP p q r).a, .int .i64 (thrP p q r).b, .int .i64 (thrP p q r).c, .int .i64 (thrP p q r).d], .int .i64 (thrE p q r)]) ∧ Below w.heap.size w w' := by
  obtain ⟨w1, hw1⟩ : ∃ w1, ((((w.alloc (.cells #[.int .i64 p.a, .int .i64 p.b, .int .i64 p.c, .int .i64 p.d] 37)).alloc (.cells #[.int .i64 q.a, .int .i64 q.b, .int .i64 q.c, .int .i64 q.d] 37)).alloc (.cells #[.int .i64 r.a, .int .i64 r.b, .int .i64 r.c, .int .i64 r.d] 37)).alloc (.cells #[.int .i64 0, .int .i64 0, .int .i64 0, .int .i64 0] 23)) = w1 := ⟨_, rfl⟩
  have hb1 : Below w.heap.size w w1 := by rw [← hw1]; exact bw4' w _ _ _ _
  have k0 : Blk w1 (w.heap.size) #[.int .i64 p.a, .int .i64 p.b, .int .i64 p.c, .int .i64 p.d] 37 := by rw [← hw1]; exact (((Blk.new w _ _).alloc _).alloc _).alloc _
  have k1 : Blk w1 (w.heap.size + 1) #[.int .i64 q.a, .int .i64 q.b, .int .i64 q.c, .int .i64 q.d] 37 := by rw [← hw1]; exact ((Blk.new' _ _ _ (by simp)).alloc _).alloc _
  have k2 : Blk w1 (w.heap.size + 1 + 1) #[.int .i64 r.a, .int .i64 r.b, .int .i64 r.c, .int .i64 r.d] 37 := by rw [← hw1]; exact (Blk.new' _ _ _ (by simp)).alloc _
  have kR : Blk w1 (w.heap.size + 1 + 1 + 1) #[.int .i64 0, .int .i64 0, .int .i64 0, .int .i64 0] 23 := by rw [← hw1]; exact Blk.new' _ _ _ (by simp)
  have p00 := k0.cell (i := 0) rfl
  have p01 := k0.cell (i := 1) rfl
  have p02 := k0.cell (i := 2) rfl
  have p03 := k0.cell (i := 3) rfl
  have p10 := k1.cell (i := 0) rfl
  have p11 := k1.cell (i := 1) rfl
  have p12 := k1.cell (i := 2) rfl
  have p13 := k1.cell (i := 3) rfl
  have p20 := k2.cell (i := 0) rfl
  have p21 := k2.cell (i := 1) rfl
  have p22 := k2.cell (i := 2) rfl
  have p23 := k2.cell (i := 3) rfl
  obtain ⟨w2, hw2⟩ : ∃ w2, w1.alloc (.cells #[.int .i64 p.a, .int .i64 p.b, .int .i64 p.c, .int .i64 p.d, .int .i64 q.a, .int .i64 q.b, .int .i64 q.c, .int .i64 q.d, .int .i64 r.a, .int .i64 r.b, .int .i64 r.c, .int .i64 r.d] 37) = w2 := ⟨_, rfl⟩
  have hr2 : RdV w2 (some ⟨w1.heap.size, 0, none⟩) [p, q, r] := by rw [← hw2]; exact points3 w1 p q r _
  have hb2 : Below w1.heap.size w1 w2 := by rw [← hw2]; exact (Below.refl _ w1).alloc (Nat.le_refl _) _
  have hpl := points_any (some ⟨w1.heap.size, 0, none⟩) 3 3 [p, q, r] w2 rfl (by decide) hr2 (by intro x hx; simp at hx; rcases hx with rfl | rfl | rfl; exact hp; exact hq; exact hrr)
  have hall : ([p, q, r] : List V4).all (fun q => decide (SoundP q.a q.b q.c q.d)) = sound3 p q r := by simp [sound3, SoundQ]
  rw [hall] at hpl
  have hbd : sound3 p q r = true → SoundQ p ∧ SoundQ q ∧ SoundQ r := fun hh => by simpa [sound3] using hh
  have hX := fun W => cross_any p q r W hp hq hrr
  obtain ⟨t, ht⟩ : ∃ t, sound3 p q r = t := ⟨_, rfl⟩
  have hE : thrE p q r = if t = true then (if zero3 p q r then 4 else errE (decide (thrOk p q r)) 2) else 40 := by unfold thrE; rw [ht]
  have hP : thrP p q r = if t = true then (if zero3 p q r then ⟨0, 0, 0, 0⟩ else if thrOk p q r then thrL p q r else ⟨0, 0, 0, 0⟩) else ⟨0, 0, 0, 0⟩ := by unfold thrP; rw [ht]
  rw [ht] at hpl hbd
  obtain ⟨PV, hPV⟩ : ∃ v, thrP p q r = v := ⟨_, rfl⟩
  obtain ⟨EV, hEV⟩ : ∃ v, thrE p q r = v := ⟨_, rfl⟩
  rw [hPV] at hP ⊢
  rw [hEV] at hE ⊢
  have HPE := Lib.hid (And.intro hP hE)
  clear hPV hEV
  have HP := Lib.hid hpl
  have HX := Lib.hid hX
  have HBD := Lib.hid hbd
  clear hpl hall hr2 hp hq hrr hbd hX ht hE hP
  go_enter Try.func25, Try.ntmps25
  go_wp2_with fail
  refine HP.out.mono ?_
  rintro e' w3 ⟨v, rfl, hv, hb3⟩
  have hb13 := hb2.trans (hb3.mono hb2.size)
  obtain ⟨gf, caps, rfl, _⟩ := id hv
  obtain ⟨w4, hw4⟩ : ∃ w4, w3.alloc (.cells #[.func (.func gf) #[] caps] 70) = w4 := ⟨_, rfl⟩
  have hr4 : RdC w4 (some ⟨w3.heap.size, 0, none⟩) [errE t 40] := by rw [← hw4]; exact checks1 w3 _ _ _ hv
  have hb14 : Below w1.heap.size w1 w4 := by rw [← hw4]; exact hb13.alloc hb13.size _
  have hf := first_any (some ⟨w3.heap.size, 0, none⟩) 1 1 [errE t 40] w4 rfl (by decide) hr4
  rw [firstE_one] at hf
  have HF := Lib.hid hf
  clear hf hr4 hv
  go_wp2_with fail
  refine HF.out.mono ?_
  rintro e' w5 ⟨rfl, hb5⟩
  have hb15 := hb14.trans (hb5.mono hb14.size)
  have hb5' := hb1.trans (hb15.mono hb1.size)
  have k0 := k0.kept hb15
  have k1 := k1.kept hb15
  have k2 := k2.kept hb15
  have kR := kR.kept hb15
  have p00 := k0.cell (i := 0) rfl
  have p01 := k0.cell (i := 1) rfl
  have p02 := k0.cell (i := 2) rfl
  have p03 := k0.cell (i := 3) rfl
  have p10 := k1.cell (i := 0) rfl
  have p11 := k1.cell (i := 1) rfl
  have p12 := k1.cell (i := 2) rfl
  have p13 := k1.cell (i := 3) rfl
  have p20 := k2.cell (i := 0) rfl
  have p21 := k2.cell (i := 1) rfl
  have p22 := k2.cell (i := 2) rfl
  have p23 := k2.cell (i := 3) rfl
  clear hw1 hw2 hw4 hb1 hb2 hb3 hb13 hb14 hb15 hb5 HF HP
  cases t
  · rw [show errE false 40 = 40 from rfl]
    have HV : Hid (Ending.returned (.tuple #[.agg #[.int .i64 0, .int .i64 0, .int .i64 0, .int .i64 0], .int .i64 40]) = Ending.returned (.tuple #[.agg #[.int .i64 PV.a, .int .i64 PV.b, .int .i64 PV.c, .int .i64 PV.d], .int .i64 EV])) := Lib.hid (by rw [HPE.out.1, HPE.out.2]; rfl)
    have d0 := kR.cell (i := 0) rfl
    have d1 := kR.cell (i := 1) rfl
    have d2 := kR.cell (i := 2) rfl
    have d3 := kR.cell (i := 3) rfl
    have q0 := kR.frozen 0
    have q1 := kR.frozen 1
    have q2 := kR.frozen 2
    have q3 := kR.frozen 3
    go_wp2_with fail
    have L := Blk.put4 kR (.int .i64 0) (.int .i64 0) (.int .i64 0) (.int .i64 0)
    have z0 := L.cell (i := 0) rfl
    have z1 := L.cell (i := 1) rfl
    have z2 := L.cell (i := 2) rfl
    have z3 := L.cell (i := 3) rfl
    exact bodyPost_ret (v := .tuple #[.agg #[.int .i64 0, .int .i64 0, .int .i64 0, .int .i64 0], .int .i64 40]) (by simp [results, Try.results25, go_sem, z0, z1, z2, z3]) rfl ⟨HV.out, (((hb5'.setCell (by simp only; omega) _).setCell (by simp only; omega) _).setCell (by simp only; omega) _).setCell (by simp only; omega) _⟩
  · rw [show errE true 40 = 0 from rfl]
    obtain ⟨sp, sq, sr⟩ := HBD.out rfl
    have hfit := cross_fits sp sq sr
    have hat := fun B c W n0 n1 n2 e0 e1 e2 hg h0 h1 h2 hB hz => at_thr p q r B c W sp hz n0 n1 n2 e0 e1 e2 hg h0 h1 h2 hB
    obtain ⟨x, hx⟩ : ∃ x, crossX p q r = x := ⟨_, rfl⟩
    obtain ⟨y, hy⟩ : ∃ x, crossY p q r = x := ⟨_, rfl⟩
    obtain ⟨z, hz⟩ : ∃ x, crossZ p q r = x := ⟨_, rfl⟩
    rw [hx, hy, hz] at HX hfit hat
    have hzero : zero3 p q r ↔ (x = 0 ∧ y = 0 ∧ z = 0) := by unfold zero3; rw [hx, hy, hz]
    have hno : ∀ (n0 n1 n2 : Int) (g : Nat), 0 < g → g = gcdL 0 [x, y, z] → n0 * g = x → n1 * g = y → n2 * g = z → (1000 < n0.natAbs ∨ 1000 < n1.natAbs ∨ 1000 < n2.natAbs) → ¬ thrOk p q r := by
      intro n0 n1 n2 g hg hg3 e0 e1 e2 hb
      unfold thrOk
      rw [hx, hy, hz]
      exact through_big hg hg3 e0 e1 e2 hb
    obtain ⟨xh, hxh⟩ : ∃ v, hiW x = v := ⟨_, rfl⟩
    obtain ⟨xl, hxl⟩ : ∃ v, loW x = v := ⟨_, rfl⟩
    obtain ⟨yh, hyh⟩ : ∃ v, hiW y = v := ⟨_, rfl⟩
    obtain ⟨yl, hyl⟩ : ∃ v, loW y = v := ⟨_, rfl⟩
    obtain ⟨zh, hzh⟩ : ∃ v, hiW z = v := ⟨_, rfl⟩
    obtain ⟨zl, hzl⟩ : ∃ v, loW z = v := ⟨_, rfl⟩
    have hwz : (x = 0 ∧ y = 0 ∧ z = 0) ↔ ((xh = 0 ∧ xl = 0) ∧ (yh = 0 ∧ yl = 0) ∧ (zh = 0 ∧ zl = 0)) := by
      have a0 := zero_words (hfit x (by simp)).1
      have a1 := zero_words (hfit y (by simp)).1
      have a2 := zero_words (hfit z (by simp)).1
      rw [← a0, ← a1, ← a2, hxh, hxl, hyh, hyl, hzh, hzl]
    have HW := Lib.hid (And.intro (And.intro hxh hxl) (And.intro (And.intro hyh hyl) (And.intro hzh hzl)))
    have HX2 := HX.out
    unfold sum3V at HX2
    rw [hxh, hxl, hyh, hyl, hzh, hzl] at HX2
    have HX := Lib.hid HX2
    have HFIT := Lib.hid hfit
    have HAT := Lib.hid hat
    have HNO := Lib.hid hno
    clear HX2 hxh hxl hyh hyl hzh hzl hfit hat hno sp sq sr HBD hx hy hz
    go_upto_region 4 with fail
    go_cut [9] from 23 to 26 (fun v9 wx => ∃ b, v9 = .pointer (some ⟨b, 0, none⟩) ∧ w5.heap.size ≤ b ∧ Blk wx b #[.int .u64 xh, .int .u64 xl, .int .u64 yh, .int .u64 yl, .int .u64 zh, .int .u64 zl] 89 ∧ Below w5.heap.size w5 wx)
    case first =>
      go_wp2_with fail
      refine (HX.out _).mono ?_
      rintro e' w6 ⟨rfl, hb6⟩
      obtain ⟨w9, hw9⟩ : ∃ w9, w6.alloc (.cells #[.int .u64 0, .int .u64 0, .int .u64 0, .int .u64 0, .int .u64 0, .int .u64 0] 89) = w9 := ⟨_, rfl⟩
      have K9 : Blk w9 w6.heap.size #[.int .u64 0, .int .u64 0, .int .u64 0, .int .u64 0, .int .u64 0, .int .u64 0] 89 := by rw [← hw9]; exact Blk.new w6 _ _
      have h9 : Below w5.heap.size w5 w9 := by rw [← hw9]; exact hb6.alloc hb6.size _
      have d0 := K9.cell (i := 0) rfl
      have d1 := K9.cell (i := 1) rfl
      have d2 := K9.cell (i := 2) rfl
      have d3 := K9.cell (i := 3) rfl
      have d4 := K9.cell (i := 4) rfl
      have d5 := K9.cell (i := 5) rfl
      have q0 := K9.frozen 0
      have q1 := K9.frozen 1
      have q2 := K9.frozen 2
      have q3 := K9.frozen 3
      have q4 := K9.frozen 4
      have q5 := K9.frozen 5
      go_wp2_with fail
      go_meet
      case rel =>
        refine ⟨w6.heap.size, rfl, hb6.size, Blk.put6 K9 (.int .u64 xh) (.int .u64 xl) (.int .u64 yh) (.int .u64 yl) (.int .u64 zh) (.int .u64 zl), ?_⟩
        exact (((((h9.setCell (by simp only; exact hb6.size) _).setCell (by simp only; exact hb6.size) _).setCell (by simp only; exact hb6.size) _).setCell (by simp only; exact hb6.size) _).setCell (by simp only; exact hb6.size) _).setCell (by simp only; exact hb6.size) _
    case rest =>
    obtain ⟨b, rfl, hbN, k9, hb7⟩ := hcut
    have k0 := k0.kept hb7
    have k1 := k1.kept hb7
    have k2 := k2.kept hb7
    have kR := kR.kept hb7
    have hb7' := hb5'.trans (hb7.mono hb5'.size)
    clear hb7 hb5' p00 p01 p02 p03 p10 p11 p12 p13 p20 p21 p22 p23
    have p00 := k0.cell (i := 0) rfl
    have p01 := k0.cell (i := 1) rfl
    have p02 := k0.cell (i := 2) rfl
    have p03 := k0.cell (i := 3) rfl
    have p10 := k1.cell (i := 0) rfl
    have p11 := k1.cell (i := 1) rfl
    have p12 := k1.cell (i := 2) rfl
    have p13 := k1.cell (i := 3) rfl
    have p20 := k2.cell (i := 0) rfl
    have p21 := k2.cell (i := 1) rfl
    have p22 := k2.cell (i := 2) rfl
    have p23 := k2.cell (i := 3) rfl
    have s0 := k9.cell (i := 0) rfl
    have s1 := k9.cell (i := 1) rfl
    have s2 := k9.cell (i := 2) rfl
    have s3 := k9.cell (i := 3) rfl
    have s4 := k9.cell (i := 4) rfl
    have s5 := k9.cell (i := 5) rfl
    have heq := fun w => eqIn_sum3 xh xl yh yl zh zl w
    by_cases h0 : (xh = 0 ∧ xl = 0) ∧ (yh = 0 ∧ yl = 0) ∧ (zh = 0 ∧ zl = 0)
    · have hzz := hzero.2 (hwz.2 h0)
      have HV : Hid (Ending.returned (.tuple #[.agg #[.int .i64 0, .int .i64 0, .int .i64 0, .int .i64 0], .int .i64 4]) = Ending.returned (.tuple #[.agg #[.int .i64 PV.a, .int .i64 PV.b, .int .i64 PV.c, .int .i64 PV.d], .int .i64 EV])) := Lib.hid (by rw [HPE.out.1, HPE.out.2]; simp [hzz])
      clear hzz
      simp only [decide_eq_true h0] at heq
      clear h0 hzero hwz
      have d0 := kR.cell (i := 0) rfl
      have d1 := kR.cell (i := 1) rfl
      have d2 := kR.cell (i := 2) rfl
      have d3 := kR.cell (i := 3) rfl
      have q0 := kR.frozen 0
      have q1 := kR.frozen 1
      have q2 := kR.frozen 2
      have q3 := kR.frozen 3
      go_wp2_with fail
      have L := Blk.put4 kR (.int .i64 0) (.int .i64 0) (.int .i64 0) (.int .i64 0)
      have z0 := L.cell (i := 0) rfl
      have z1 := L.cell (i := 1) rfl
      have z2 := L.cell (i := 2) rfl
      have z3 := L.cell (i := 3) rfl
      exact bodyPost_ret (v := .tuple #[.agg #[.int .i64 0, .int .i64 0, .int .i64 0, .int .i64 0], .int .i64 4]) (by simp [results, Try.results25, go_sem, z0, z1, z2, z3]) rfl ⟨HV.out, (((hb7'.setCell (by simp only; omega) _).setCell (by simp only; omega) _).setCell (by simp only; omega) _).setCell (by simp only; omega) _⟩
    · have hnz : ¬ zero3 p q r := fun h => h0 (hwz.1 (hzero.1 h))
      have hxyz : ¬ (x = 0 ∧ y = 0 ∧ z = 0) := fun h => h0 (hwz.1 h)
      have hPE : PV = (if thrOk p q r then thrL p q r else ⟨0, 0, 0, 0⟩) ∧ EV = errE (decide (thrOk p q r)) 2 := by
        have := HPE.out
        simpa [hnz] using this
      have HPE := Lib.hid hPE
      clear hPE
      simp only [decide_eq_false h0] at heq
      have hls := lowest_any (some ⟨b, 0, none⟩) 3 3 [x, y, z] _ rfl (by decide) (rdSum3 HW.out k9) HFIT.out
      obtain ⟨g, hg⟩ : ∃ g, gcdL 0 [x, y, z] = g := ⟨_, rfl⟩
      have hdv := (gcdL_dvd [x, y, z] 0).2
      have hgp : 0 < g := by
        rcases Nat.eq_zero_or_pos g with h | h
        · exfalso
          rw [hg, h] at hdv
          have z0 := Nat.eq_zero_of_zero_dvd (hdv x (by simp))
          have z1 := Nat.eq_zero_of_zero_dvd (hdv y (by simp))
          have z2 := Nat.eq_zero_of_zero_dvd (hdv z (by simp))
          exact hxyz ⟨by omega, by omega, by omega⟩
        · exact h
      rw [hg] at hdv hls
      have hq' : ∀ v ∈ [x, y, z], v.tdiv g * g = v := fun v hv => by
        have hd : (g : Int) ∣ v := Int.ofNat_dvd_left.2 (hdv v hv)
        rw [Int.tdiv_eq_ediv_of_dvd hd]; exact Int.ediv_mul_cancel hd
      have e0 := hq' x (by simp)
      have e1 := hq' y (by simp)
      have e2 := hq' z (by simp)
      rw [show lowRow g [x, y, z] = [x.tdiv g, y.tdiv g, z.tdiv g] from rfl, show iCells [x.tdiv g, y.tdiv g, z.tdiv g] = #[.int .i64 (x.tdiv g), .int .i64 (y.tdiv g), .int .i64 (z.tdiv g)] from rfl] at hls
      have hbigI : ∀ n : Int, ¬ InI64 n → 1000 < n.natAbs := fun n h => by unfold InI64 at h; omega
      have hnot : (∃ v ∈ [x, y, z], ¬ InI64 (v.tdiv g)) → ¬ thrOk p q r := by
        rintro ⟨v, hv, hb⟩
        have := hbigI _ hb
        simp only [List.mem_cons, List.not_mem_nil, or_false] at hv
        refine HNO.out _ _ _ _ hgp hg.symm e0 e1 e2 ?_
        rcases hv with rfl | rfl | rfl
        · exact .inl this
        · exact .inr (.inl this)
        · exact .inr (.inr this)
      have hat2 := fun c B W h0 h1 h2 hB => HAT.out B c W (x.tdiv g) (y.tdiv g) (z.tdiv g) (by rw [hg]; exact e0) (by rw [hg]; exact e1) (by rw [hg]; exact e2) (by rw [hg]; exact hgp) h0 h1 h2 hB hnz
      have hno2 := HNO.out _ _ _ _ hgp hg.symm e0 e1 e2
      obtain ⟨n0, hn0⟩ : ∃ n, x.tdiv g = n := ⟨_, rfl⟩
      obtain ⟨n1, hn1⟩ : ∃ n, y.tdiv g = n := ⟨_, rfl⟩
      obtain ⟨n2, hn2⟩ : ∃ n, z.tdiv g = n := ⟨_, rfl⟩
      rw [hn0, hn1, hn2] at hls hat2 hno2
      have HLS := Lib.hid hls
      have HAT2 := Lib.hid hat2
      have HNOT := Lib.hid hnot
      have HNO2 := Lib.hid hno2
      clear hls hat2 hnot hno2 hq' e0 e1 e2 hn0 hn1 hn2 hbigI hdv hgp h0 hxyz hnz hzero hwz HNO HAT HFIT
      go_wp2_with fail
      refine HLS.out.mono ?_
      rintro e' w8 ⟨hb8, hcase⟩
      have k0 := k0.kept hb8
      have k1 := k1.kept hb8
      have k2 := k2.kept hb8
      have kR := kR.kept hb8
      have hb8' := hb7'.trans (hb8.mono hb7'.size)
      clear p00 p01 p02 p03 p10 p11 p12 p13 p20 p21 p22 p23 s0 s1 s2 s3 s4 s5
      have p00 := k0.cell (i := 0) rfl
      have p01 := k0.cell (i := 1) rfl
      have p02 := k0.cell (i := 2) rfl
      have p03 := k0.cell (i := 3) rfl
      have p10 := k1.cell (i := 0) rfl
      have p11 := k1.cell (i := 1) rfl
      have p12 := k1.cell (i := 2) rfl
      have p13 := k1.cell (i := 3) rfl
      have p20 := k2.cell (i := 0) rfl
      have p21 := k2.cell (i := 1) rfl
      have p22 := k2.cell (i := 2) rfl
      have p23 := k2.cell (i := 3) rfl
      have d0 := kR.cell (i := 0) rfl
      have d1 := kR.cell (i := 1) rfl
      have d2 := kR.cell (i := 2) rfl
      have d3 := kR.cell (i := 3) rfl
      have q0 := kR.frozen 0
      have q1 := kR.frozen 1
      have q2 := kR.frozen 2
      have q3 := kR.frozen 3
      rcases hcase with ⟨hin, B, hB8, rfl, kB⟩ | ⟨hex, rfl⟩
      · have hwi := withins_any 1000 (some ⟨B, 0, none⟩) 3 3 [n0, n1, n2] w8 rfl (by decide) (rdI3 kB) (by decide) (by decide)
        obtain ⟨tt, htt⟩ : ∃ t, within 1000 [n0, n1, n2] = t := ⟨_, rfl⟩
        have hws : within 1000 [n0, n1, n2] = decide (n0.natAbs ≤ 1000 ∧ n1.natAbs ≤ 1000 ∧ n2.natAbs ≤ 1000) := by
          have s : ∀ n : Int, (-1000 ≤ n ∧ n ≤ 1000) ↔ n.natAbs ≤ 1000 := fun n => by omega
          simp [within, s]
        rw [htt] at hwi
        rw [htt] at hws
        have HWI := Lib.hid hwi
        have HWS := Lib.hid hws
        clear hwi hws htt hin
        go_wp2_with fail
        refine HWI.out.mono ?_
        rintro e' w9 ⟨v, rfl, hv, hb9⟩
        obtain ⟨gf, caps, rfl, _⟩ := id hv
        obtain ⟨w10, hw10⟩ : ∃ w4, w9.alloc (.cells #[.func (.func gf) #[] caps] 70) = w4 := ⟨_, rfl⟩
        have hr10 : RdC w10 (some ⟨w9.heap.size, 0, none⟩) [errE tt 1] := by rw [← hw10]; exact checks1 w9 _ _ _ hv
        have hb10 : Below w8.heap.size w8 w10 := by rw [← hw10]; exact hb9.alloc hb9.size _
        have hf := first_any (some ⟨w9.heap.size, 0, none⟩) 1 1 [errE tt 1] w10 rfl (by decide) hr10
        rw [firstE_one] at hf
        have HF := Lib.hid hf
        clear hf hr10 hv
        go_wp2_with fail
        refine HF.out.mono ?_
        rintro e' w11 ⟨rfl, hb11⟩
        have hb811 := hb10.trans (hb11.mono hb10.size)
        have hb11' := hb8'.trans (hb811.mono hb8'.size)
        have k0 := k0.kept hb811
        have kR := kR.kept hb811
        have kB := kB.kept hb811
        clear hw10 hb9 hb10 hb11 hb811 HF HWI p00 p01 p02 p03 p10 p11 p12 p13 p20 p21 p22 p23 d0 q0 d1 q1 d2 q2 d3 q3
        have p00 := k0.cell (i := 0) rfl
        have p01 := k0.cell (i := 1) rfl
        have p02 := k0.cell (i := 2) rfl
        have p03 := k0.cell (i := 3) rfl
        have d0 := kR.cell (i := 0) rfl
        have d1 := kR.cell (i := 1) rfl
        have d2 := kR.cell (i := 2) rfl
        have d3 := kR.cell (i := 3) rfl
        have q0 := kR.frozen 0
        have q1 := kR.frozen 1
        have q2 := kR.frozen 2
        have q3 := kR.frozen 3
        cases tt
        · rw [show errE false 1 = 1 from rfl]
          have hbad : ¬ thrOk p q r := HNO2.out (by have := of_decide_eq_false HWS.out.symm; omega)
          have HV : Hid (Ending.returned (.tuple #[.agg #[.int .i64 0, .int .i64 0, .int .i64 0, .int .i64 0], .int .i64 2]) = Ending.returned (.tuple #[.agg #[.int .i64 PV.a, .int .i64 PV.b, .int .i64 PV.c, .int .i64 PV.d], .int .i64 EV])) := Lib.hid (by rw [HPE.out.1, HPE.out.2, if_neg hbad, decide_eq_false hbad]; rfl)
          clear hbad
          go_wp2_with fail
          have L := Blk.put4 kR (.int .i64 0) (.int .i64 0) (.int .i64 0) (.int .i64 0)
          have z0 := L.cell (i := 0) rfl
          have z1 := L.cell (i := 1) rfl
          have z2 := L.cell (i := 2) rfl
          have z3 := L.cell (i := 3) rfl
          exact bodyPost_ret (v := .tuple #[.agg #[.int .i64 0, .int .i64 0, .int .i64 0, .int .i64 0], .int .i64 2]) (by simp [results, Try.results25, go_sem, z0, z1, z2, z3]) rfl ⟨HV.out, (((hb11'.setCell (by simp only; omega) _).setCell (by simp only; omega) _).setCell (by simp only; omega) _).setCell (by simp only; omega) _⟩
        · rw [show errE true 1 = 0 from rfl]
          have hsm := of_decide_eq_true HWS.out.symm
          have ha := HAT2.out 3 B w11 hsm.1 hsm.2.1 hsm.2.2 kB
          obtain ⟨E, hE⟩ : ∃ E, errE (decide (thrOk p q r)) 2 = E := ⟨_, rfl⟩
          rw [hE] at ha
          obtain ⟨T, hT⟩ : ∃ T : V4, (if thrOk p q r then thrL p q r else ⟨0, 0, 0, 0⟩) = T := ⟨_, rfl⟩
          have hTv : (if thrOk p q r then .agg #[.int .i64 (thrL p q r).a, .int .i64 (thrL p q r).b, .int .i64 (thrL p q r).c, .int .i64 (thrL p q r).d] else Value.agg #[.int .i64 0, .int .i64 0, .int .i64 0, .int .i64 0]) = .agg #[.int .i64 T.a, .int .i64 T.b, .int .i64 T.c, .int .i64 T.d] := by
            rw [← hT]; split <;> rfl
          rw [hTv] at ha
          have HV : Hid (Ending.returned (.tuple #[.agg #[.int .i64 T.a, .int .i64 T.b, .int .i64 T.c, .int .i64 T.d], .int .i64 E]) = Ending.returned (.tuple #[.agg #[.int .i64 PV.a, .int .i64 PV.b, .int .i64 PV.c, .int .i64 PV.d], .int .i64 EV])) := Lib.hid (by rw [HPE.out.1, HPE.out.2, hT, hE])
          have HA := Lib.hid ha
          clear ha hsm hE hT hTv HAT2 HNO2 HWS
          go_wp2_with fail
          refine HA.out.mono ?_
          rintro e' w12 ⟨rfl, hb12⟩
          have kR := kR.kept hb12
          have hb12' := hb11'.trans (hb12.mono hb11'.size)
          clear d0 q0 d1 q1 d2 q2 d3 q3
          have d0 := kR.cell (i := 0) rfl
          have d1 := kR.cell (i := 1) rfl
          have d2 := kR.cell (i := 2) rfl
          have d3 := kR.cell (i := 3) rfl
          have q0 := kR.frozen 0
          have q1 := kR.frozen 1
          have q2 := kR.frozen 2
          have q3 := kR.frozen 3
          go_wp2_with fail
          have L := Blk.put4 kR (.int .i64 T.a) (.int .i64 T.b) (.int .i64 T.c) (.int .i64 T.d)
          have z0 := L.cell (i := 0) rfl
          have z1 := L.cell (i := 1) rfl
          have z2 := L.cell (i := 2) rfl
          have z3 := L.cell (i := 3) rfl
          exact bodyPost_ret (v := .tuple #[.agg #[.int .i64 T.a, .int .i64 T.b, .int .i64 T.c, .int .i64 T.d], .int .i64 E]) (by simp [results, Try.results25, go_sem, z0, z1, z2, z3]) rfl ⟨HV.out, (((hb12'.setCell (by simp only; omega) _).setCell (by simp only; omega) _).setCell (by simp only; omega) _).setCell (by simp only; omega) _⟩
      · have hbad : ¬ thrOk p q r := HNOT.out hex
        have HV : Hid (Ending.returned (.tuple #[.agg #[.int .i64 0, .int .i64 0, .int .i64 0, .int .i64 0], .int .i64 2]) = Ending.returned (.tuple #[.agg #[.int .i64 PV.a, .int .i64 PV.b, .int .i64 PV.c, .int .i64 PV.d], .int .i64 EV])) := Lib.hid (by rw [HPE.out.1, HPE.out.2, if_neg hbad, decide_eq_false hbad]; rfl)
        clear hex hbad
        go_wp2_with fail
        have L := Blk.put4 kR (.int .i64 0) (.int .i64 0) (.int .i64 0) (.int .i64 0)
        have z0 := L.cell (i := 0) rfl
        have z1 := L.cell (i := 1) rfl
        have z2 := L.cell (i := 2) rfl
        have z3 := L.cell (i := 3) rfl
        exact bodyPost_ret (v := .tuple #[.agg #[.int .i64 0, .int .i64 0, .int .i64 0, .int .i64 0], .int .i64 2]) (by simp [results, Try.results25, go_sem, z0, z1, z2, z3]) rfl ⟨HV.out, (((hb8'.setCell (by simp only; omega) _).setCell (by simp only; omega) _).setCell (by simp only; omega) _).setCell (by simp only; omega) _⟩

end Go.Proofs.Ythdhakpmhndbfaa
