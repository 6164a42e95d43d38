/-
  Package plane: the plane with a normal through a point; Package sums: whether three sums are the same; Package plane: Through, plain; what it reads; Rows of the call's own that grow by one: digits, bytes; int64 to string and back.
-/
import Derived.ChangeKeysEq
import Derived.Lib.AtoiErrMem
import Derived.Lib.ParseIntB
import Derived.Lib.ParseIntBCases
import Derived.Test.YthdhakpmhndbfaaK1
import Derived.Test.YthdhakpmhndbfaaK2
import Derived.Test.YthdhakpmhndbfaaK3
import Derived.Test.YthdhakpmhndbfaaK4
import Derived.Test.YthdhakpmhndbfaaK5
import Derived.Test.YthdhakpmhndbfaaK6
import Derived.Test.YthdhakpmhndbfaaK7
import Derived.Test.YthdhakpmhndbfaaK8
namespace Go.Proofs.Ythdhakpmhndbfaa
open Go.RowKit Go.Shelf
attribute [local go_sem] Oper.semAt_some

theorem mul_le_nat {x y : Int} {m n : Nat} (hx : x.natAbs ≤ m) (hy : y.natAbs ≤ n) : (x * y).natAbs ≤ m * n := by
  rw [Int.natAbs_mul]; exact Nat.mul_le_mul hx hy

set_option maxRecDepth 100000 in
set_option maxHeartbeats 8000000 in
theorem at_any (q : V4) (B c : Nat) (n0 n1 n2 : Int) (w : World) (hq : SoundP q.a q.b q.c q.d) (hn : ¬ (n0 = 0 ∧ n1 = 0 ∧ n2 = 0)) (h0 : n0.natAbs ≤ 1000) (h1 : n1.natAbs ≤ 1000) (h2 : n2.natAbs ≤ 1000) (hB : Blk w B #[.int .i64 n0, .int .i64 n1, .int .i64 n2] 2) :
    Calls Try.prog 58 #[.agg #[.int .i64 q.a, .int .i64 q.b, .int .i64 q.c, .int .i64 q.d], .slice (some ⟨B, 0, none⟩) 3 c] w fun e w' => e = .returned (.tuple #[if MakeOk (n0 * q.d) (n1 * q.d) (n2 * q.d) (-(n0 * q.a + n1 * q.b + n2 * q.c)) then .agg #[.int .i64 (low4 (n0 * q.d) (n1 * q.d) (n2 * q.d) (-(n0 * q.a + n1 * q.b + n2 * q.c)) (n0 * q.d)), .int .i64 (low4 (n0 * q.d) (n1 * q.d) (n2 * q.d) (-(n0 * q.a + n1 * q.b + n2 * q.c)) (n1 * q.d)), .int .i64 (low4 (n0 * q.d) (n1 * q.d) (n2 * q.d) (-(n0 * q.a + n1 * q.b + n2 * q.c)) (n2 * q.d)), .int .i64 (low4 (n0 * q.d) (n1 * q.d) (n2 * q.d) (-(n0 * q.a + n1 * q.b + n2 * q.c)) (-(n0 * q.a + n1 * q.b + n2 * q.c)))] else .agg #[.int .i64 0, .int .i64 0, .int .i64 0, .int .i64 0], .int .i64 (errE (decide (MakeOk (n0 * q.d) (n1 * q.d) (n2 * q.d) (-(n0 * q.a + n1 * q.b + n2 * q.c)))) 2)]) ∧ Below w.heap.size w w' := by
  obtain ⟨s0, s1, s2, s3, s4, _⟩ := hq
  have s5 : q.d.natAbs ≤ 8589934592 := by omega
  have a0 := mul_le_nat h0 s0
  have a1 := mul_le_nat h1 s1
  have a2 := mul_le_nat h2 s2
  have b0 := mul_le_nat h0 s5
  have b1 := mul_le_nat h1 s5
  have b2 := mul_le_nat h2 s5
  have hz : ¬ (n0 * q.d = 0 ∧ n1 * q.d = 0 ∧ n2 * q.d = 0) := by
    intro ⟨e0, e1, e2⟩
    refine hn ⟨?_, ?_, ?_⟩
    · rcases Int.mul_eq_zero.1 e0 with h | h <;> omega
    · rcases Int.mul_eq_zero.1 e1 with h | h <;> omega
    · rcases Int.mul_eq_zero.1 e2 with h | h <;> omega
  obtain ⟨u0, hu0⟩ : ∃ u, n0 * q.a = u := ⟨_, rfl⟩
  obtain ⟨u1, hu1⟩ : ∃ u, n1 * q.b = u := ⟨_, rfl⟩
  obtain ⟨u2, hu2⟩ : ∃ u, n2 * q.c = u := ⟨_, rfl⟩
  obtain ⟨t0, ht0⟩ : ∃ u, n0 * q.d = u := ⟨_, rfl⟩
  obtain ⟨t1, ht1⟩ : ∃ u, n1 * q.d = u := ⟨_, rfl⟩
  obtain ⟨t2, ht2⟩ : ∃ u, n2 * q.d = u := ⟨_, rfl⟩
  rw [hu0] at a0
  rw [hu1] at a1
  rw [hu2] at a2
  rw [ht0] at b0
  rw [ht1] at b1
  rw [ht2] at b2
  rw [hu0, hu1, hu2, ht0, ht1, ht2]
  rw [ht0, ht1, ht2] at hz
  have e1 : wrap64 u0 = u0 := by unfold wrap64; omega
  have e2 : wrap64 u1 = u1 := by unfold wrap64; omega
  have e3 : wrap64 u2 = u2 := by unfold wrap64; omega
  have e4 : wrap64 t0 = t0 := by unfold wrap64; omega
  have e5 : wrap64 t1 = t1 := by unfold wrap64; omega
  have e6 : wrap64 t2 = t2 := by unfold wrap64; omega
  have e7 : wrap64 (u0 + u1) = u0 + u1 := by unfold wrap64; omega
  have e8 : wrap64 (u0 + u1 + u2) = u0 + u1 + u2 := by unfold wrap64; omega
  have e9 : wrap64 (-(u0 + u1 + u2)) = -(u0 + u1 + u2) := by unfold wrap64; omega
  have hM := fun W => make_some t0 t1 t2 (-(u0 + u1 + u2)) W hz (by unfold InI64; omega) (by unfold InI64; omega) (by unfold InI64; omega) (by unfold InI64; omega)
  obtain ⟨E, hE⟩ : ∃ E, errE (decide (MakeOk t0 t1 t2 (-(u0 + u1 + u2)))) 2 = E := ⟨_, rfl⟩
  rw [hE] at hM ⊢
  obtain ⟨r0, r1, r2, r3, hR⟩ : ∃ r0 r1 r2 r3 : Int, (if MakeOk t0 t1 t2 (-(u0 + u1 + u2)) then Value.agg #[.int .i64 (low4 t0 t1 t2 (-(u0 + u1 + u2)) t0), .int .i64 (low4 t0 t1 t2 (-(u0 + u1 + u2)) t1), .int .i64 (low4 t0 t1 t2 (-(u0 + u1 + u2)) t2), .int .i64 (low4 t0 t1 t2 (-(u0 + u1 + u2)) (-(u0 + u1 + u2)))] else .agg #[.int .i64 0, .int .i64 0, .int .i64 0, .int .i64 0]) = .agg #[.int .i64 r0, .int .i64 r1, .int .i64 r2, .int .i64 r3] := by
    by_cases h : MakeOk t0 t1 t2 (-(u0 + u1 + u2))
    · rw [if_pos h]; exact ⟨_, _, _, _, rfl⟩
    · rw [if_neg h]; exact ⟨_, _, _, _, rfl⟩
  rw [hR] at hM ⊢
  have HM := Lib.hid hM
  clear hM hE hR hz s0 s1 s2 s3 s4 s5 a0 a1 a2 b0 b1 b2 hn h0 h1 h2
  obtain ⟨w1, hw1⟩ : ∃ w1, ((w.alloc (.cells #[.int .i64 q.a, .int .i64 q.b, .int .i64 q.c, .int .i64 q.d] 37)).alloc (.cells #[.int .i64 0, .int .i64 0, .int .i64 0, .int .i64 0] 23)) = w1 := ⟨_, rfl⟩
  have hb1 : Below w.heap.size w w1 := by rw [← hw1]; exact bw2 w _ _
  have k0 : Blk w1 w.heap.size #[.int .i64 q.a, .int .i64 q.b, .int .i64 q.c, .int .i64 q.d] 37 := by rw [← hw1]; exact (Blk.new w _ _).alloc _
  have k1 : Blk w1 (w.heap.size + 1) #[.int .i64 0, .int .i64 0, .int .i64 0, .int .i64 0] 23 := by rw [← hw1]; exact Blk.new' _ _ _ (by simp)
  have hBN : B < w.heap.size := hB.lt
  have kB := hB.kept hb1
  clear hB
  go_enter Try.func58, Try.ntmps58
  go_upto_region 1 with fail
  go_cut [6] from 7 to 26 (fun v6 wx => v6 = .int .i64 (u0 + u1 + u2) ∧ Below w1.heap.size w1 wx)
  case first =>
    refine wp_region_pure' (fun ix => match ix with | 0 => .slice (some ⟨B, 0, none⟩) 3 c | 1 => .pointer (some ⟨B, 0, none⟩) | 2 => .int .i64 n0 | 3 => .pointer (some ⟨w.heap.size, 0, none⟩) | 4 => .int .i64 q.a | 5 => .int .i64 u0 | 6 => .slice (some ⟨B, 0, none⟩) 3 c | 7 => .pointer (some ⟨B, 1, none⟩) | 8 => .int .i64 n1 | 9 => .pointer (some ⟨w.heap.size, 1, none⟩) | 10 => .int .i64 q.b | 11 => .int .i64 u1 | 12 => .int .i64 (u0 + u1) | 13 => .slice (some ⟨B, 0, none⟩) 3 c | 14 => .pointer (some ⟨B, 2, none⟩) | 15 => .int .i64 n2 | 16 => .pointer (some ⟨w.heap.size, 2, none⟩) | 17 => .int .i64 q.c | 18 => .int .i64 u2 | 19 => .int .i64 (u0 + u1 + u2) | _ => .int .i64 (u0 + u1 + u2)) (by kernel_rfl) (by kernel_rfl) ?_ ?_
    · rintro ix hx f ww hS hd
      have ka := kB.kept hS
      have kb := k0.kept hS
      have n0_ := ka.cell (i := 0) rfl
      have n1_ := ka.cell (i := 1) rfl
      have n2_ := ka.cell (i := 2) rfl
      have m0_ := kb.cell (i := 0) rfl
      have m1_ := kb.cell (i := 1) rfl
      have m2_ := kb.cell (i := 2) rfl
      have m3_ := kb.cell (i := 3) rfl
      rcases ix with _ | _ | _ | _ | _ | _ | _ | _ | _ | _ | _ | _ | _ | _ | _ | _ | _ | _ | _ | _ | _ | ix
      · refine wpOp_list rfl ?_
        simp only [tmOf, putAll, List.map_cons, List.map_nil, List.setIfInBounds_toArray, List.set_cons_zero, List.set_cons_succ]
        go_wp2
        simp [upd, Below.refl]
      · have g0 : f 0 = .slice (some ⟨B, 0, none⟩) 3 c := hd 0 (by kernel_rfl)
        refine wpOp_list rfl ?_
        simp only [tmOf, putAll, List.map_cons, List.map_nil, List.setIfInBounds_toArray, List.set_cons_zero, List.set_cons_succ]
        go_wp2
        simp [upd, g0, Below.refl]
      · have g1 : f 1 = .pointer (some ⟨B, 0, none⟩) := hd 1 (by kernel_rfl)
        refine wpOp_list rfl ?_
        simp only [tmOf, putAll, List.map_cons, List.map_nil, List.setIfInBounds_toArray, List.set_cons_zero, List.set_cons_succ]
        go_wp2
        simp [upd, g1, Below.refl]
      · refine wpOp_list rfl ?_
        simp only [tmOf, putAll, List.map_cons, List.map_nil, List.setIfInBounds_toArray, List.set_cons_zero, List.set_cons_succ]
        go_wp2
        simp [upd, Below.refl]
      · have g3 : f 3 = .pointer (some ⟨w.heap.size, 0, none⟩) := hd 3 (by kernel_rfl)
        refine wpOp_list rfl ?_
        simp only [tmOf, putAll, List.map_cons, List.map_nil, List.setIfInBounds_toArray, List.set_cons_zero, List.set_cons_succ]
        go_wp2
        simp [upd, g3, Below.refl]
      · have g2 : f 2 = .int .i64 n0 := hd 2 (by kernel_rfl)
        have g4 : f 4 = .int .i64 q.a := hd 4 (by kernel_rfl)
        refine wpOp_list rfl ?_
        simp only [tmOf, putAll, List.map_cons, List.map_nil, List.setIfInBounds_toArray, List.set_cons_zero, List.set_cons_succ]
        go_wp2
        simp [upd, g2, g4, Below.refl]
      · refine wpOp_list rfl ?_
        simp only [tmOf, putAll, List.map_cons, List.map_nil, List.setIfInBounds_toArray, List.set_cons_zero, List.set_cons_succ]
        go_wp2
        simp [upd, Below.refl]
      · have g6 : f 6 = .slice (some ⟨B, 0, none⟩) 3 c := hd 6 (by kernel_rfl)
        refine wpOp_list rfl ?_
        simp only [tmOf, putAll, List.map_cons, List.map_nil, List.setIfInBounds_toArray, List.set_cons_zero, List.set_cons_succ]
        go_wp2
        simp [upd, g6, Below.refl]
      · have g7 : f 7 = .pointer (some ⟨B, 1, none⟩) := hd 7 (by kernel_rfl)
        refine wpOp_list rfl ?_
        simp only [tmOf, putAll, List.map_cons, List.map_nil, List.setIfInBounds_toArray, List.set_cons_zero, List.set_cons_succ]
        go_wp2
        simp [upd, g7, Below.refl]
      · refine wpOp_list rfl ?_
        simp only [tmOf, putAll, List.map_cons, List.map_nil, List.setIfInBounds_toArray, List.set_cons_zero, List.set_cons_succ]
        go_wp2
        simp [upd, Below.refl]
      · have g9 : f 9 = .pointer (some ⟨w.heap.size, 1, none⟩) := hd 9 (by kernel_rfl)
        refine wpOp_list rfl ?_
        simp only [tmOf, putAll, List.map_cons, List.map_nil, List.setIfInBounds_toArray, List.set_cons_zero, List.set_cons_succ]
        go_wp2
        simp [upd, g9, Below.refl]
      · have g8 : f 8 = .int .i64 n1 := hd 8 (by kernel_rfl)
        have g10 : f 10 = .int .i64 q.b := hd 10 (by kernel_rfl)
        refine wpOp_list rfl ?_
        simp only [tmOf, putAll, List.map_cons, List.map_nil, List.setIfInBounds_toArray, List.set_cons_zero, List.set_cons_succ]
        go_wp2
        simp [upd, g8, g10, Below.refl]
      · have g5 : f 5 = .int .i64 u0 := hd 5 (by kernel_rfl)
        have g11 : f 11 = .int .i64 u1 := hd 11 (by kernel_rfl)
        refine wpOp_list rfl ?_
        simp only [tmOf, putAll, List.map_cons, List.map_nil, List.setIfInBounds_toArray, List.set_cons_zero, List.set_cons_succ]
        go_wp2
        simp [upd, g5, g11, Below.refl]
      · refine wpOp_list rfl ?_
        simp only [tmOf, putAll, List.map_cons, List.map_nil, List.setIfInBounds_toArray, List.set_cons_zero, List.set_cons_succ]
        go_wp2
        simp [upd, Below.refl]
      · have g13 : f 13 = .slice (some ⟨B, 0, none⟩) 3 c := hd 13 (by kernel_rfl)
        refine wpOp_list rfl ?_
        simp only [tmOf, putAll, List.map_cons, List.map_nil, List.setIfInBounds_toArray, List.set_cons_zero, List.set_cons_succ]
        go_wp2
        simp [upd, g13, Below.refl]
      · have g14 : f 14 = .pointer (some ⟨B, 2, none⟩) := hd 14 (by kernel_rfl)
        refine wpOp_list rfl ?_
        simp only [tmOf, putAll, List.map_cons, List.map_nil, List.setIfInBounds_toArray, List.set_cons_zero, List.set_cons_succ]
        go_wp2
        simp [upd, g14, Below.refl]
      · refine wpOp_list rfl ?_
        simp only [tmOf, putAll, List.map_cons, List.map_nil, List.setIfInBounds_toArray, List.set_cons_zero, List.set_cons_succ]
        go_wp2
        simp [upd, Below.refl]
      · have g16 : f 16 = .pointer (some ⟨w.heap.size, 2, none⟩) := hd 16 (by kernel_rfl)
        refine wpOp_list rfl ?_
        simp only [tmOf, putAll, List.map_cons, List.map_nil, List.setIfInBounds_toArray, List.set_cons_zero, List.set_cons_succ]
        go_wp2
        simp [upd, g16, Below.refl]
      · have g15 : f 15 = .int .i64 n2 := hd 15 (by kernel_rfl)
        have g17 : f 17 = .int .i64 q.c := hd 17 (by kernel_rfl)
        refine wpOp_list rfl ?_
        simp only [tmOf, putAll, List.map_cons, List.map_nil, List.setIfInBounds_toArray, List.set_cons_zero, List.set_cons_succ]
        go_wp2
        simp [upd, g15, g17, Below.refl]
      · have g12 : f 12 = .int .i64 (u0 + u1) := hd 12 (by kernel_rfl)
        have g18 : f 18 = .int .i64 u2 := hd 18 (by kernel_rfl)
        refine wpOp_list rfl ?_
        simp only [tmOf, putAll, List.map_cons, List.map_nil, List.setIfInBounds_toArray, List.set_cons_zero, List.set_cons_succ]
        go_wp2
        simp [upd, g12, g18, Below.refl]
      · have g19 : f 19 = .int .i64 (u0 + u1 + u2) := hd 19 (by kernel_rfl)
        refine wpOp_list rfl ?_
        simp only [tmOf, putAll, List.map_cons, List.map_nil, List.setIfInBounds_toArray, List.set_cons_zero, List.set_cons_succ]
        go_wp2
        simp [upd, g19, Below.refl]
      · simp only [List.length_cons, List.length_nil] at hx; omega
    · rintro f ww hS hd
      have g20 : f 20 = .int .i64 (u0 + u1 + u2) := hd 20 (by decide)
      simp only [tmOf, putAll, List.map_cons, List.map_nil, List.setIfInBounds_toArray, List.set_cons_zero, List.set_cons_succ]
      refine ‹∀ (a' : Act) (w' : World), Met _ a' w' → _› _ _ ?_
      go_meet
      case rel => exact ⟨g20, hS⟩
  case rest =>
  obtain ⟨rfl, hbx⟩ := hcut
  have k0 := k0.kept hbx
  have k1 := k1.kept hbx
  have kB := kB.kept hbx
  have hb1 := hb1.trans (hbx.mono hb1.size)
  clear hbx hw1
  go_upto_region 2 with fail
  go_cut [5] from 27 to 49 (fun v5 wx => v5 = .int .i64 E ∧ Blk wx (w.heap.size + 1) #[.int .i64 r0, .int .i64 r1, .int .i64 r2, .int .i64 r3] 23 ∧ Below w.heap.size w wx)
  case first =>
    refine wp_region_keepP (fun ix => ix != 23) (fun ix => match ix with | 0 => .slice (some ⟨B, 0, none⟩) 3 c | 1 => .pointer (some ⟨B, 0, none⟩) | 2 => .int .i64 n0 | 3 => .pointer (some ⟨w.heap.size, 3, none⟩) | 4 => .int .i64 q.d | 5 => .int .i64 t0 | 6 => .slice (some ⟨B, 0, none⟩) 3 c | 7 => .pointer (some ⟨B, 1, none⟩) | 8 => .int .i64 n1 | 9 => .pointer (some ⟨w.heap.size, 3, none⟩) | 10 => .int .i64 q.d | 11 => .int .i64 t1 | 12 => .slice (some ⟨B, 0, none⟩) 3 c | 13 => .pointer (some ⟨B, 2, none⟩) | 14 => .int .i64 n2 | 15 => .pointer (some ⟨w.heap.size, 3, none⟩) | 16 => .int .i64 q.d | 17 => .int .i64 t2 | 18 => .int .i64 (u0 + u1 + u2) | 19 => .int .i64 (-(u0 + u1 + u2)) | 20 => .tuple #[.agg #[.int .i64 r0, .int .i64 r1, .int .i64 r2, .int .i64 r3], .int .i64 E] | 21 => .agg #[.int .i64 r0, .int .i64 r1, .int .i64 r2, .int .i64 r3] | 22 => .int .i64 E | _ => .int .i64 E) (fun _ => (w.heap.size + 1, #[.int .i64 r0, .int .i64 r1, .int .i64 r2, .int .i64 r3])) 23 (fun ww => Blk ww B #[.int .i64 n0, .int .i64 n1, .int .i64 n2] 2 ∧ Blk ww w.heap.size #[.int .i64 q.a, .int .i64 q.b, .int .i64 q.c, .int .i64 q.d] 37 ∧ (∃ y0 y1 y2 y3 : Int, Blk ww (w.heap.size + 1) #[.int .i64 y0, .int .i64 y1, .int .i64 y2, .int .i64 y3] 23) ∧ Below w.heap.size w ww) (by kernel_rfl) (by kernel_rfl) ?_ ?_ ?_ ?_ ?_ ?_
    · exact ⟨kB, k0, ⟨_, _, _, _, k1⟩, hb1.drew⟩
    · rintro w8 w9 ⟨ka, kb, ⟨y0, y1, y2, y3, kc⟩, hbw⟩ hb9
      exact ⟨ka.kept hb9, kb.kept hb9, ⟨y0, y1, y2, y3, kc.kept hb9⟩, hbw.trans (hb9.mono hbw.size)⟩
    · intro i j hi hj hpi hpj hne
      simp at hpi hpj
      omega
    · rintro ix hx hin f ww ⟨ka, kb, _, hbw⟩ hd
      have n0_ := ka.cell (i := 0) rfl
      have n1_ := ka.cell (i := 1) rfl
      have n2_ := ka.cell (i := 2) rfl
      have m0_ := kb.cell (i := 0) rfl
      have m1_ := kb.cell (i := 1) rfl
      have m2_ := kb.cell (i := 2) rfl
      have m3_ := kb.cell (i := 3) rfl
      rcases ix with _ | _ | _ | _ | _ | _ | _ | _ | _ | _ | _ | _ | _ | _ | _ | _ | _ | _ | _ | _ | _ | _ | _ | _ | _ | ix
      · refine wpOp_list rfl ?_
        simp only [tmOf, putAll, List.map_cons, List.map_nil, List.setIfInBounds_toArray, List.set_cons_zero, List.set_cons_succ]
        go_wp2
        simp [upd, Below.refl]
      · have g0 : f 0 = .slice (some ⟨B, 0, none⟩) 3 c := hd 0 (by decide) (by kernel_rfl)
        refine wpOp_list rfl ?_
        simp only [tmOf, putAll, List.map_cons, List.map_nil, List.setIfInBounds_toArray, List.set_cons_zero, List.set_cons_succ]
        go_wp2
        simp [upd, g0, Below.refl]
      · have g1 : f 1 = .pointer (some ⟨B, 0, none⟩) := hd 1 (by decide) (by kernel_rfl)
        refine wpOp_list rfl ?_
        simp only [tmOf, putAll, List.map_cons, List.map_nil, List.setIfInBounds_toArray, List.set_cons_zero, List.set_cons_succ]
        go_wp2
        simp [upd, g1, Below.refl]
      · refine wpOp_list rfl ?_
        simp only [tmOf, putAll, List.map_cons, List.map_nil, List.setIfInBounds_toArray, List.set_cons_zero, List.set_cons_succ]
        go_wp2
        simp [upd, Below.refl]
      · have g3 : f 3 = .pointer (some ⟨w.heap.size, 3, none⟩) := hd 3 (by decide) (by kernel_rfl)
        refine wpOp_list rfl ?_
        simp only [tmOf, putAll, List.map_cons, List.map_nil, List.setIfInBounds_toArray, List.set_cons_zero, List.set_cons_succ]
        go_wp2
        simp [upd, g3, Below.refl]
      · have g2 : f 2 = .int .i64 n0 := hd 2 (by decide) (by kernel_rfl)
        have g4 : f 4 = .int .i64 q.d := hd 4 (by decide) (by kernel_rfl)
        refine wpOp_list rfl ?_
        simp only [tmOf, putAll, List.map_cons, List.map_nil, List.setIfInBounds_toArray, List.set_cons_zero, List.set_cons_succ]
        go_wp2
        simp [upd, g2, g4, Below.refl]
      · refine wpOp_list rfl ?_
        simp only [tmOf, putAll, List.map_cons, List.map_nil, List.setIfInBounds_toArray, List.set_cons_zero, List.set_cons_succ]
        go_wp2
        simp [upd, Below.refl]
      · have g6 : f 6 = .slice (some ⟨B, 0, none⟩) 3 c := hd 6 (by decide) (by kernel_rfl)
        refine wpOp_list rfl ?_
        simp only [tmOf, putAll, List.map_cons, List.map_nil, List.setIfInBounds_toArray, List.set_cons_zero, List.set_cons_succ]
        go_wp2
        simp [upd, g6, Below.refl]
      · have g7 : f 7 = .pointer (some ⟨B, 1, none⟩) := hd 7 (by decide) (by kernel_rfl)
        refine wpOp_list rfl ?_
        simp only [tmOf, putAll, List.map_cons, List.map_nil, List.setIfInBounds_toArray, List.set_cons_zero, List.set_cons_succ]
        go_wp2
        simp [upd, g7, Below.refl]
      · refine wpOp_list rfl ?_
        simp only [tmOf, putAll, List.map_cons, List.map_nil, List.setIfInBounds_toArray, List.set_cons_zero, List.set_cons_succ]
        go_wp2
        simp [upd, Below.refl]
      · have g9 : f 9 = .pointer (some ⟨w.heap.size, 3, none⟩) := hd 9 (by decide) (by kernel_rfl)
        refine wpOp_list rfl ?_
        simp only [tmOf, putAll, List.map_cons, List.map_nil, List.setIfInBounds_toArray, List.set_cons_zero, List.set_cons_succ]
        go_wp2
        simp [upd, g9, Below.refl]
      · have g8 : f 8 = .int .i64 n1 := hd 8 (by decide) (by kernel_rfl)
        have g10 : f 10 = .int .i64 q.d := hd 10 (by decide) (by kernel_rfl)
        refine wpOp_list rfl ?_
        simp only [tmOf, putAll, List.map_cons, List.map_nil, List.setIfInBounds_toArray, List.set_cons_zero, List.set_cons_succ]
        go_wp2
        simp [upd, g8, g10, Below.refl]
      · refine wpOp_list rfl ?_
        simp only [tmOf, putAll, List.map_cons, List.map_nil, List.setIfInBounds_toArray, List.set_cons_zero, List.set_cons_succ]
        go_wp2
        simp [upd, Below.refl]
      · have g12 : f 12 = .slice (some ⟨B, 0, none⟩) 3 c := hd 12 (by decide) (by kernel_rfl)
        refine wpOp_list rfl ?_
        simp only [tmOf, putAll, List.map_cons, List.map_nil, List.setIfInBounds_toArray, List.set_cons_zero, List.set_cons_succ]
        go_wp2
        simp [upd, g12, Below.refl]
      · have g13 : f 13 = .pointer (some ⟨B, 2, none⟩) := hd 13 (by decide) (by kernel_rfl)
        refine wpOp_list rfl ?_
        simp only [tmOf, putAll, List.map_cons, List.map_nil, List.setIfInBounds_toArray, List.set_cons_zero, List.set_cons_succ]
        go_wp2
        simp [upd, g13, Below.refl]
      · refine wpOp_list rfl ?_
        simp only [tmOf, putAll, List.map_cons, List.map_nil, List.setIfInBounds_toArray, List.set_cons_zero, List.set_cons_succ]
        go_wp2
        simp [upd, Below.refl]
      · have g15 : f 15 = .pointer (some ⟨w.heap.size, 3, none⟩) := hd 15 (by decide) (by kernel_rfl)
        refine wpOp_list rfl ?_
        simp only [tmOf, putAll, List.map_cons, List.map_nil, List.setIfInBounds_toArray, List.set_cons_zero, List.set_cons_succ]
        go_wp2
        simp [upd, g15, Below.refl]
      · have g14 : f 14 = .int .i64 n2 := hd 14 (by decide) (by kernel_rfl)
        have g16 : f 16 = .int .i64 q.d := hd 16 (by decide) (by kernel_rfl)
        refine wpOp_list rfl ?_
        simp only [tmOf, putAll, List.map_cons, List.map_nil, List.setIfInBounds_toArray, List.set_cons_zero, List.set_cons_succ]
        go_wp2
        simp [upd, g14, g16, Below.refl]
      · refine wpOp_list rfl ?_
        simp only [tmOf, putAll, List.map_cons, List.map_nil, List.setIfInBounds_toArray, List.set_cons_zero, List.set_cons_succ]
        go_wp2
        simp [upd, Below.refl]
      · have g18 : f 18 = .int .i64 (u0 + u1 + u2) := hd 18 (by decide) (by kernel_rfl)
        refine wpOp_list rfl ?_
        simp only [tmOf, putAll, List.map_cons, List.map_nil, List.setIfInBounds_toArray, List.set_cons_zero, List.set_cons_succ]
        go_wp2
        simp [upd, g18, Below.refl]
      · have g5 : f 5 = .int .i64 t0 := hd 5 (by decide) (by kernel_rfl)
        have g11 : f 11 = .int .i64 t1 := hd 11 (by decide) (by kernel_rfl)
        have g17 : f 17 = .int .i64 t2 := hd 17 (by decide) (by kernel_rfl)
        have g19 : f 19 = .int .i64 (-(u0 + u1 + u2)) := hd 19 (by decide) (by kernel_rfl)
        refine wpOp_list rfl ?_
        simp only [tmOf, putAll, List.map_cons, List.map_nil, List.setIfInBounds_toArray, List.set_cons_zero, List.set_cons_succ]
        go_wp2_with fail
        refine (HM.out _).mono ?_
        rintro e' wf ⟨rfl, hbf⟩
        go_wp2_with fail
        simp [upd, g5, g11, g17, g19, hbf]
      · have g20 : f 20 = .tuple #[.agg #[.int .i64 r0, .int .i64 r1, .int .i64 r2, .int .i64 r3], .int .i64 E] := hd 20 (by decide) (by kernel_rfl)
        refine wpOp_list rfl ?_
        simp only [tmOf, putAll, List.map_cons, List.map_nil, List.setIfInBounds_toArray, List.set_cons_zero, List.set_cons_succ]
        go_wp2
        simp [upd, g20, Below.refl]
      · have g20 : f 20 = .tuple #[.agg #[.int .i64 r0, .int .i64 r1, .int .i64 r2, .int .i64 r3], .int .i64 E] := hd 20 (by decide) (by kernel_rfl)
        refine wpOp_list rfl ?_
        simp only [tmOf, putAll, List.map_cons, List.map_nil, List.setIfInBounds_toArray, List.set_cons_zero, List.set_cons_succ]
        go_wp2
        simp [upd, g20, Below.refl]
      · cases hin
      · have g22 : f 22 = .int .i64 E := hd 22 (by decide) (by kernel_rfl)
        refine wpOp_list rfl ?_
        simp only [tmOf, putAll, List.map_cons, List.map_nil, List.setIfInBounds_toArray, List.set_cons_zero, List.set_cons_succ]
        go_wp2
        simp [upd, g22, Below.refl]
      · simp only [List.length_cons, List.length_nil] at hx; omega
    · rintro ix hx hin f ww ⟨ka, kb, ⟨y0, y1, y2, y3, kc⟩, hbw⟩ hd
      have hi23 : ix = 23 := by simpa using hin
      subst hi23
      have g21 : f 21 = .agg #[.int .i64 r0, .int .i64 r1, .int .i64 r2, .int .i64 r3] := hd 21 (by decide) (by kernel_rfl)
      have c0_ := kc.cell (i := 0) rfl
      have c1_ := kc.cell (i := 1) rfl
      have c2_ := kc.cell (i := 2) rfl
      have c3_ := kc.cell (i := 3) rfl
      have q0 := kc.frozen 0
      have q1 := kc.frozen 1
      have q2 := kc.frozen 2
      have q3 := kc.frozen 3
      refine wpOp_list rfl ?_
      simp only [tmOf, putAll, List.map_cons, List.map_nil, List.setIfInBounds_toArray, List.set_cons_zero, List.set_cons_succ]
      go_wp2
      have oth : ∀ {C cs T}, C ≠ w.heap.size + 1 → Blk ww C cs T → Blk ((((ww.setCell ⟨w.heap.size + 1, 0, none⟩ (.int .i64 r0)).setCell ⟨w.heap.size + 1, 1, none⟩ (.int .i64 r1)).setCell ⟨w.heap.size + 1, 2, none⟩ (.int .i64 r2)).setCell ⟨w.heap.size + 1, 3, none⟩ (.int .i64 r3)) C cs T := fun hne h => (((h.other (C := w.heap.size + 1) 0 _ (by omega)).other (C := w.heap.size + 1) 1 _ (by omega)).other (C := w.heap.size + 1) 2 _ (by omega)).other (C := w.heap.size + 1) 3 _ (by omega)
      refine ⟨Blk.put4 kc _ _ _ _, ⟨oth (by omega) ka, oth (by omega) kb, ⟨_, _, _, _, Blk.put4 kc _ _ _ _⟩, (((hbw.setCell (by simp only; omega) _).setCell (by simp only; omega) _).setCell (by simp only; omega) _).setCell (by simp only; omega) _⟩, ?_⟩
      intro B' cs hne hB'
      exact oth (by simpa using hne) hB'
    · rintro f ww ⟨_, _, _, hbw⟩ hd hBk
      have g24 : f 24 = .int .i64 E := hd 24 (by decide) (by decide)
      have L : Blk ww (w.heap.size + 1) #[.int .i64 r0, .int .i64 r1, .int .i64 r2, .int .i64 r3] 23 := hBk 23 (by decide) (by decide)
      simp only [tmOf, putAll, List.map_cons, List.map_nil, List.setIfInBounds_toArray, List.set_cons_zero, List.set_cons_succ]
      simp only [Nat.zero_add, Nat.reduceAdd]
      refine ‹∀ (a' : Act) (w' : World), Met _ a' w' → _› _ _ ?_
      go_meet
      case rel => exact ⟨g24, L, hbw⟩
  case rest =>
  obtain ⟨rfl, L, hbx⟩ := hcut
  have z0 := L.cell (i := 0) rfl
  have z1 := L.cell (i := 1) rfl
  have z2 := L.cell (i := 2) rfl
  have z3 := L.cell (i := 3) rfl
  go_wp2_with fail
  exact bodyPost_ret (v := .tuple #[.agg #[.int .i64 r0, .int .i64 r1, .int .i64 r2, .int .i64 r3], .int .i64 E]) (by simp [results, Try.results58, go_sem, z0, z1, z2, z3]) rfl ⟨rfl, hbx⟩

end Go.Proofs.Ythdhakpmhndbfaa

namespace Go.Proofs.Ythdhakpmhndbfaa
open Go.RowKit Go.Shelf
attribute [local go_sem] Oper.semAt_some

theorem eqIn_sum (a b c d : Int) (w : World) : (Op.equalIn 9999 76 (.agg #[.int .u64 a, .int .u64 b]) (.agg #[.int .u64 c, .int .u64 d])).run Try.prog w = .ok (a == c && b == d) w := by
  have hS : Try.prog.underlying 76 = some (.struct (Try.prog.fieldsOf 76)) := by kernel_rfl
  have hp : Try.prog.stoodInHeld 76 = false := by kernel_rfl
  rw [show (9999 : Nat) = 9998 + 1 from rfl, run_equalIn_agg w 9998 _ _ _ hS hp]
  simp only [Program.fieldsOf, Try.underlying76]
  go_simp
  by_cases h1 : a = c <;> by_cases h2 : b = d <;> simp [h1, h2]

theorem eqIn_sum3 (a b c d e f : Int) (w : World) : (Op.equalIn 10000 89 (.agg #[.int .u64 a, .int .u64 b, .int .u64 c, .int .u64 d, .int .u64 e, .int .u64 f]) (.agg #[.int .u64 0, .int .u64 0, .int .u64 0, .int .u64 0, .int .u64 0, .int .u64 0])).run Try.prog w = .ok (decide ((a = 0 ∧ b = 0) ∧ (c = 0 ∧ d = 0) ∧ (e = 0 ∧ f = 0))) w := by
  have a3 := Try.isAgg76
  have z3 := Try.sizeOf76
  have h := fun a b c d w => eqIn_sum a b c d w
  rw [show (10000 : Nat) = 9999 + 1 from rfl, Op.equalIn]
  simp only [Sem.run_bind, run_underlying Try.underlying89, Result.andThen_ok]
  simp only [Std.Legacy.Range.forIn_eq_forIn_range', Std.Legacy.Range.size, Nat.sub_zero, Nat.add_sub_cancel, Nat.div_one, List.range'_succ, List.range'_zero, List.forIn_cons, List.forIn_nil]
  go_simp
  by_cases h1 : a = 0 <;> by_cases h2 : b = 0 <;> by_cases h3 : c = 0 <;> by_cases h4 : d = 0 <;> by_cases h5 : e = 0 <;> by_cases h6 : f = 0 <;> simp [h1, h2, h3, h4, h5, h6]

end Go.Proofs.Ythdhakpmhndbfaa

namespace Go.Proofs.Ythdhakpmhndbfaa
open Go.RowKit Go.Shelf
attribute [local go_sem] Oper.semAt_some

theorem points3 (w : World) (p q r : V4) (t : TypeId) : RdV (w.alloc (.cells #[.int .i64 p.a, .int .i64 p.b, .int .i64 p.c, .int .i64 p.d, .int .i64 q.a, .int .i64 q.b, .int .i64 q.c, .int .i64 q.d, .int .i64 r.a, .int .i64 r.b, .int .i64 r.c, .int .i64 r.d] t)) (some ⟨w.heap.size, 0, none⟩) [p, q, r] := by
  have hB := Blk.new w #[.int .i64 p.a, .int .i64 p.b, .int .i64 p.c, .int .i64 p.d, .int .i64 q.a, .int .i64 q.b, .int .i64 q.c, .int .i64 q.d, .int .i64 r.a, .int .i64 r.b, .int .i64 r.c, .int .i64 r.d] t
  intro i y hi
  match i, hi with
  | 0, hi => cases hi; exact ⟨_, 0, rfl, hB.lt, hB.cell (i := 0) rfl, hB.cell (i := 1) rfl, hB.cell (i := 2) rfl, hB.cell (i := 3) rfl⟩
  | 1, hi => cases hi; exact ⟨_, 0, rfl, hB.lt, hB.cell (i := 4) rfl, hB.cell (i := 5) rfl, hB.cell (i := 6) rfl, hB.cell (i := 7) rfl⟩
  | 2, hi => cases hi; exact ⟨_, 0, rfl, hB.lt, hB.cell (i := 8) rfl, hB.cell (i := 9) rfl, hB.cell (i := 10) rfl, hB.cell (i := 11) rfl⟩
  | i + 3, hi => simp at hi

theorem rdSum3 {W : World} {B : Nat} {x y z : Int} {xh xl yh yl zh zl : Int} {t : TypeId} (h : (hiW x = xh ∧ loW x = xl) ∧ (hiW y = yh ∧ loW y = yl) ∧ (hiW z = zh ∧ loW z = zl)) (hB : Blk W B #[.int .u64 xh, .int .u64 xl, .int .u64 yh, .int .u64 yl, .int .u64 zh, .int .u64 zl] t) : RdSum W (some ⟨B, 0, none⟩) [x, y, z] := by
  obtain ⟨⟨rfl, rfl⟩, ⟨rfl, rfl⟩, ⟨rfl, rfl⟩⟩ := h
  intro i q hi
  match i, hi with
  | 0, hi => cases hi; exact ⟨_, 0, rfl, hB.lt, hB.cell (i := 0) rfl, hB.cell (i := 1) rfl⟩
  | 1, hi => cases hi; exact ⟨_, 0, rfl, hB.lt, hB.cell (i := 2) rfl, hB.cell (i := 3) rfl⟩
  | 2, hi => cases hi; exact ⟨_, 0, rfl, hB.lt, hB.cell (i := 4) rfl, hB.cell (i := 5) rfl⟩
  | i + 3, hi => simp at hi

theorem rdI3 {W : World} {B : Nat} {x y z : Int} {t : TypeId} (hB : Blk W B #[.int .i64 x, .int .i64 y, .int .i64 z] t) : RdI W (some ⟨B, 0, none⟩) [x, y, z] := by
  intro i q hi
  match i, hi with
  | 0, hi => cases hi; exact ⟨_, 0, rfl, hB.lt, hB.cell (i := 0) rfl⟩
  | 1, hi => cases hi; exact ⟨_, 0, rfl, hB.lt, hB.cell (i := 1) rfl⟩
  | 2, hi => cases hi; exact ⟨_, 0, rfl, hB.lt, hB.cell (i := 2) rfl⟩
  | i + 3, hi => simp at hi

theorem minor_fits {q1 q2 q3 r1 r2 r3 s1 s2 s3 : Int} {M K : Nat} (h1 : q1.natAbs ≤ M) (h2 : q2.natAbs ≤ M) (h3 : q3.natAbs ≤ K) (i1 : r1.natAbs ≤ M) (i2 : r2.natAbs ≤ M) (i3 : r3.natAbs ≤ K) (j1 : s1.natAbs ≤ M) (j2 : s2.natAbs ≤ M) (j3 : s3.natAbs ≤ K) :
    (minorZ q1 q2 q3 r1 r2 r3 s1 s2 s3).natAbs ≤ 6 * (M * M * K) := by
  have two : ∀ {a b c d : Int}, a.natAbs ≤ M → b.natAbs ≤ M → c.natAbs ≤ M → d.natAbs ≤ M → (a * b - c * d).natAbs ≤ 2 * (M * M) := by
    intro a b c d ha hb hc hd
    have e1 := mul_le_nat ha hb
    have e2 := mul_le_nat hc hd
    omega
  have e1 := mul_le_nat (two h1 i2 h2 i1) j3
  have e2 := mul_le_nat (two i1 j2 i2 j1) h3
  have e3 := mul_le_nat (two j1 h2 j2 h1) i3
  rw [Nat.mul_assoc 2] at e1 e2 e3
  unfold minorZ
  omega

/-- The last coefficient of the plane through three points. -/
def thrD (p q r : V4) : Int := -(minorZ p.a p.b p.c q.a q.b q.c r.a r.b r.c)
def SoundQ (p : V4) : Prop := SoundP p.a p.b p.c p.d
instance (p : V4) : Decidable (SoundQ p) := by unfold SoundQ; infer_instance
theorem thr_rel (p q r : V4) : thrD p q r * p.d = -(crossX p q r * p.a + crossY p q r * p.b + crossZ p q r * p.c) := by
  have h := minor_rel p.a p.b p.c p.d q.a q.b q.c q.d r.a r.b r.c r.d
  unfold thrD crossX crossY crossZ
  rw [Int.neg_mul]
  omega
theorem cross_fits {p q r : V4} (hp : SoundQ p) (hq : SoundQ q) (hr : SoundQ r) : ∀ x ∈ [crossX p q r, crossY p q r, crossZ p q r], In127 x ∧ x.natAbs < 170141183460469231731687303715884105728 := by
  obtain ⟨p0, p1, p2, p3, p4, _⟩ := hp
  obtain ⟨q0, q1, q2, q3, q4, _⟩ := hq
  obtain ⟨r0, r1, r2, r3, r4, _⟩ := hr
  have p5 : p.d.natAbs ≤ 8589934592 := by omega
  have q5 : q.d.natAbs ≤ 8589934592 := by omega
  have r5 : r.d.natAbs ≤ 8589934592 := by omega
  have hx := minor_fits p1 p2 p5 q1 q2 q5 r1 r2 r5
  have hy := minor_fits p2 p0 p5 q2 q0 q5 r2 r0 r5
  have hz := minor_fits p0 p1 p5 q0 q1 q5 r0 r1 r5
  intro x hx'
  simp only [List.mem_cons, List.not_mem_nil, or_false] at hx'
  unfold In127
  rcases hx' with rfl | rfl | rfl
  · unfold crossX; omega
  · unfold crossY; omega
  · unfold crossZ; omega

def zero3 (p q r : V4) : Prop := crossX p q r = 0 ∧ crossY p q r = 0 ∧ crossZ p q r = 0
instance (p q r : V4) : Decidable (zero3 p q r) := by unfold zero3; infer_instance
def thrOk (p q r : V4) : Prop := MakeOk (crossX p q r) (crossY p q r) (crossZ p q r) (thrD p q r)
instance (p q r : V4) : Decidable (thrOk p q r) := by unfold thrOk; infer_instance
def thrL (p q r : V4) : V4 := ⟨low4 (crossX p q r) (crossY p q r) (crossZ p q r) (thrD p q r) (crossX p q r), low4 (crossX p q r) (crossY p q r) (crossZ p q r) (thrD p q r) (crossY p q r), low4 (crossX p q r) (crossY p q r) (crossZ p q r) (thrD p q r) (crossZ p q r), low4 (crossX p q r) (crossY p q r) (crossZ p q r) (thrD p q r) (thrD p q r)⟩
def sound3 (p q r : V4) : Bool := decide (SoundQ p) && (decide (SoundQ q) && decide (SoundQ r))
/-- The error of Through. -/
def thrE (p q r : V4) : Int := if sound3 p q r = true then (if zero3 p q r then 4 else errE (decide (thrOk p q r)) 2) else 40
/-- Its plane. -/
def thrP (p q r : V4) : V4 := if sound3 p q r = true then (if zero3 p q r then ⟨0, 0, 0, 0⟩ else if thrOk p q r then thrL p q r else ⟨0, 0, 0, 0⟩) else ⟨0, 0, 0, 0⟩

/-- With the normal's lowest terms: the same plane. -/
theorem at_thr (p q r : V4) (B c : Nat) (w : World) (hp : SoundQ p) (hz : ¬ zero3 p q r) (n0 n1 n2 : Int) (e0 : n0 * (gcdL 0 [crossX p q r, crossY p q r, crossZ p q r] : Nat) = crossX p q r) (e1 : n1 * (gcdL 0 [crossX p q r, crossY p q r, crossZ p q r] : Nat) = crossY p q r) (e2 : n2 * (gcdL 0 [crossX p q r, crossY p q r, crossZ p q r] : Nat) = crossZ p q r) (hg : 0 < gcdL 0 [crossX p q r, crossY p q r, crossZ p q r])
    (h0 : n0.natAbs ≤ 1000) (h1 : n1.natAbs ≤ 1000) (h2 : n2.natAbs ≤ 1000) (hB : Blk w B #[.int .i64 n0, .int .i64 n1, .int .i64 n2] 2) :
    Calls Try.prog 58 #[.agg #[.int .i64 p.a, .int .i64 p.b, .int .i64 p.c, .int .i64 p.d], .slice (some ⟨B, 0, none⟩) 3 c] w fun e w' => e = .returned (.tuple #[if thrOk p q r then .agg #[.int .i64 (thrL p q r).a, .int .i64 (thrL p q r).b, .int .i64 (thrL p q r).c, .int .i64 (thrL p q r).d] else .agg #[.int .i64 0, .int .i64 0, .int .i64 0, .int .i64 0], .int .i64 (errE (decide (thrOk p q r)) 2)]) ∧ Below w.heap.size w w' := by
  have hn : ¬ (n0 = 0 ∧ n1 = 0 ∧ n2 = 0) := by
    rintro ⟨rfl, rfl, rfl⟩
    rw [Int.zero_mul] at e0 e1 e2
    exact hz ⟨e0.symm, e1.symm, e2.symm⟩
  have h := at_any p B c n0 n1 n2 w hp hn h0 h1 h2 hB
  obtain ⟨l0, l1, l2, l3⟩ := through_same (x3 := thrD p q r) hg hp.2.2.2.1 e0 e1 e2 (thr_rel p q r)
  have hok : MakeOk (n0 * p.d) (n1 * p.d) (n2 * p.d) (-(n0 * p.a + n1 * p.b + n2 * p.c)) ↔ thrOk p q r := by
    unfold thrOk MakeOk; rw [l0, l1, l2, l3]
  rw [l0, l1, l2, l3, ite_iff hok, show decide (MakeOk (n0 * p.d) (n1 * p.d) (n2 * p.d) (-(n0 * p.a + n1 * p.b + n2 * p.c))) = decide (thrOk p q r) from decide_eq_decide.2 hok] at h
  exact h

end Go.Proofs.Ythdhakpmhndbfaa

namespace Go.Proofs.Ythdhakpmhndbfaa
open Go.RowKit

abbrev BR : Nat := 10000

/-- A sign and a slice of digits say the integer z. -/
structure RIs (w : World) (neg : Bool) (p : Option Addr) (n c : Nat) (xs : List Nat) (z : Int) : Prop where
  rd : Rd .i64 w p n xs
  cap : n ≤ c
  cn : Cn BR xs
  pos : neg = true → 0 < n
  val : z = sv neg (dv BR xs)

/-- What a call hands back: an integer of at most L digits. -/
def RV (w : World) (z : Int) (L : Nat) (e : Ending) (w' : World) : Prop :=
  ∃ neg p n c xs, e = .returned (.agg #[.bool neg, .slice p n c]) ∧ RIs w' neg p n c xs z ∧ n ≤ L ∧ Below w.heap.size w w'

theorem RIs.below {w w' : World} {neg : Bool} {p : Option Addr} {n c : Nat} {xs : List Nat} {z : Int} (h : RIs w neg p n c xs z) (hb : Below w.heap.size w w') : RIs w' neg p n c xs z := { h with rd := h.rd.below hb }

theorem RIs.zero (w : World) : RIs w false none 0 0 [] 0 := { rd := Rd.nil _ _ _, cap := Nat.le_refl _, cn := Cn.nil _, pos := (by intro h; cases h), val := rfl }

theorem sv_and' (b : Nat) (neg : Bool) (zs : List Nat) : sv (neg && decide (0 < zs.length)) (dv b zs) = sv neg (dv b zs) := by
  cases neg
  · rfl
  · by_cases hz : 0 < zs.length
    · simp [hz]
    · have : zs = [] := List.length_eq_zero_iff.1 (by omega)
      subst this; rfl

theorem Rd.boxI {W : World} {p : Option Addr} {n : Nat} {xs : List Nat} (h : Rd .i64 W p n xs) {B i : Nat} {neg : Bool} {q : Option Addr} {k c : Nat} {t : TypeId} (hb : Boxed2 W B (.bool neg) (.slice q k c) t) (v : Value) : Rd .i64 (W.setCell ⟨B, i, none⟩ v) p n xs := by
  refine ⟨h.1, fun j hj => ?_⟩
  obtain ⟨b', off, hp, hlt, hc⟩ := h.2 j hj
  refine ⟨b', off, hp, by simpa using hlt, ?_⟩
  rw [World.cell?_setCell_other _ _ _ _ (fun e => ?_)]
  · exact hc
  · cases e
    rw [hb.cellAt] at hc
    match off + j, hc with
    | 0, hc => simp at hc
    | 1, hc => simp at hc
    | k + 2, hc => simp at hc

/-- The like; its digits lie where they did. -/
def RVp (w : World) (p : Option Addr) (z : Int) (L : Nat) (e : Ending) (w' : World) : Prop :=
  ∃ neg n c xs, e = .returned (.agg #[.bool neg, .slice p n c]) ∧ RIs w' neg p n c xs z ∧ n ≤ L ∧ Below w.heap.size w w'

set_option maxHeartbeats 1000000 in
theorem rnumber_at (neg : Bool) (p : Option Addr) (n c : Nat) (xs : List Nat) (w : World) (hn : n ≤ maxLen) (hc : n ≤ c) (hr : Rd .i64 w p n xs) (gx : Dg BR xs) :
    Calls Try.prog 75 #[.bool neg, .slice p n c] w (RVp w p (sv neg (dv BR xs)) n) := by
  unfold maxLen at hn
  have hb0 : Below w.heap.size w (w.alloc (.cells #[.bool false, .slice none 0 0] 82)) := (Below.refl _ w).alloc (Nat.le_refl _) _
  have b0 := Boxed2.new w (.bool false) (.slice none 0 0) 82
  have hr1 := hr.below hb0
  have c0 := b0.cell0
  have c1 := b0.cell1
  have q0 := b0.frozen (i := 0)
  have q1 := b0.frozen (i := 1)
  have fin : ∀ k, k = trimLen xs n → RVp w p (sv neg (dv BR xs)) n (.returned (.agg #[.bool (neg && decide (0 < k)), .slice p k k])) (w.alloc (.cells #[.bool (neg && decide (0 < k)), .slice p k k] 82)) := by
    rintro k rfl
    have h1 : trimLen xs n ≤ n := trimLen_le _ _
    have hl := hr.1
    have hz : trimZ xs = xs.take (trimLen xs n) := by unfold trimZ; rw [hl]
    have hbk : Below w.heap.size w (w.alloc (.cells #[.bool (neg && decide (0 < trimLen xs n)), .slice p (trimLen xs n) (trimLen xs n)] 82)) := (Below.refl _ w).alloc (Nat.le_refl _) _
    have hrd := (hr.below hbk).take (trimLen xs n) h1
    rw [← hz] at hrd
    refine ⟨_, _, _, trimZ xs, rfl, { rd := hrd, cap := Nat.le_refl _, cn := trimZ_cn gx, pos := by simp, val := ?_ }, h1, hbk⟩
    rw [← hrd.1, sv_and' BR, dv_trimZ]
  have FIN := Lib.hid fin
  clear fin
  go_enter Try.func75, Try.ntmps75
  go_wp2
  go_loop [5] (fun i => ∃ k : Nat, k ≤ n ∧ i = .int .i64 k ∧ Hid (trimLen xs k = trimLen xs n)) (fun i => (intOf i).toNat)
  case atStart => exact ⟨n, Nat.le_refl _, rfl, rfl⟩
  case round =>
    obtain ⟨k, hk, rfl, ht⟩ := hrel
    cases k with
    | zero =>
      have HT := FIN.out 0 ht.out
      have z0 := (Boxed2.new w (.bool false) (.slice p 0 0) 82).cell0
      have z1 := (Boxed2.new w (.bool false) (.slice p 0 0) 82).cell1
      cases neg
      all_goals
        go_wp2
        exact bodyPost_ret (v := .agg #[.bool false, .slice p 0 0]) (by simp [results, Try.results75, go_sem, z0, z1]) rfl (by simpa using HT)
    | succ k =>
      obtain ⟨b, off, rfl, hb, hcell⟩ := hr1.2 k (by omega)
      cases neg
      all_goals
        go_wp2
        · go_round
          case rel =>
            have h1 : (((xs[k]?.getD 0 : Nat) : Int) == 0) = true := by assumption
            exact ⟨k, by omega, by go_num, (trimLen_cut (by simpa using h1)).symm.trans ht.out⟩
          case measure => simp [intOf]
        · have h1 : (((xs[k]?.getD 0 : Nat) : Int) == 0) = false := by assumption
          have HT := FIN.out (k + 1) ((trimLen_keep (by simpa using h1)).symm.trans ht.out)
          have y0 := fun v => (Boxed2.new w (.bool v) (.slice (some ⟨b, off, none⟩) (k + 1) (k + 1)) 82).cell0
          have y1 := fun v => (Boxed2.new w (.bool v) (.slice (some ⟨b, off, none⟩) (k + 1) (k + 1)) 82).cell1
          first
            | exact bodyPost_ret (v := .agg #[.bool false, .slice (some ⟨b, off, none⟩) (k + 1) (k + 1)]) (by simp [results, Try.results75, go_sem, y0, y1]) rfl (by simpa using HT)
            | exact bodyPost_ret (v := .agg #[.bool true, .slice (some ⟨b, off, none⟩) (k + 1) (k + 1)]) (by simp [results, Try.results75, go_sem, y0, y1]) rfl (by simpa using HT)

theorem rnumber_any (neg : Bool) (p : Option Addr) (n c : Nat) (xs : List Nat) (w : World) (hn : n ≤ maxLen) (hc : n ≤ c) (hr : Rd .i64 w p n xs) (gx : Dg BR xs) :
    Calls Try.prog 75 #[.bool neg, .slice p n c] w (RV w (sv neg (dv BR xs)) n) :=
  (rnumber_at neg p n c xs w hn hc hr gx).mono fun _ _ ⟨neg', n', c', xs', h⟩ => ⟨neg', p, n', c', xs', h⟩

end Go.Proofs.Ythdhakpmhndbfaa

namespace Go.Proofs.Ythdhakpmhndbfaa
open Go.RowKit

def icells (ns : List Nat) : List Value := ns.map fun (n : Nat) => Value.int .i64 (n : Int)
theorem icells_append (a b : List Nat) : icells (a ++ b) = icells a ++ icells b := by simp [icells]

/-- A slice of digits that the call has made. -/
def GrI (w : World) (base : Nat) (v : Value) (ns : List Nat) : Prop := w.ownsRow base 3 1 v ns.length (icells ns)
/-- A slice of bytes that the call has made. -/
def GrB (w : World) (base : Nat) (v : Value) (l : List UInt8) : Prop := w.ownsRow base 5 1 v l.length (bcells l)

theorem ownsRow_nil (w : World) (base : Nat) (e : TypeId) : w.ownsRow base e 1 (.slice none 0 0) 0 [] := ⟨rfl, .inl ⟨rfl, rfl⟩⟩
theorem GrI.nil (w : World) (base : Nat) : GrI w base (.slice none 0 0) [] := ownsRow_nil _ _ _
theorem GrB.nil (w : World) (base : Nat) : GrB w base (.slice none 0 0) [] := ownsRow_nil _ _ _

theorem own_block_ge {w : World} {base : Nat} {e : TypeId} {v : Value} {n : Nat} {xs : List Value} (h : w.ownsRow base e 1 v n xs) {k : Nat} (hk : k < base) : some k ≠ v.ownBlock := by
  rcases h.2 with ⟨rfl, _⟩ | ⟨g, cap, cur, rfl, hb, _⟩
  · intro e; cases e
  · intro e; simp [Value.ownBlock] at e; omega

theorem below_of_own {w w' : World} {base : Nat} {e : TypeId} {v : Value} {n : Nat} {xs : List Value} (h : w.ownsRow base e 1 v n xs) (hg : w.grownBy w' v.ownBlock) (hb : base ≤ w.heap.size) : Below base w w' :=
  ⟨hg.os, hg.tape, hg.output, hg.size, fun k hk => hg.block k (by omega) (own_block_ge h hk)⟩

theorem own_form {w : World} {base : Nat} {e : TypeId} {v : Value} {n : Nat} {xs : List Value} (h : w.ownsRow base e 1 v n xs) : ∃ p c, v = .slice p n c ∧ n ≤ c := by
  rcases h.2 with ⟨rfl, rfl⟩ | ⟨g, cap, cur, rfl, hb, _, hc, _⟩
  · exact ⟨none, 0, rfl, Nat.le_refl _⟩
  · exact ⟨_, cap, rfl, hc⟩

theorem GrI.rd {w : World} {base : Nat} {v : Value} {ns : List Nat} (h : GrI w base v ns) : ∃ p c, v = .slice p ns.length c ∧ ns.length ≤ c ∧ Rd .i64 w p ns.length ns := by
  rcases h.2 with ⟨rfl, hn⟩ | ⟨g, cap, cur, rfl, hb, hg, hc, _, hs, ht⟩
  · rw [hn]
    have : ns = [] := List.length_eq_zero_iff.1 hn
    subst this
    exact ⟨none, 0, rfl, Nat.le_refl _, Rd.nil _ _ _⟩
  · refine ⟨_, cap, rfl, hc, rfl, fun i hi => ⟨g, 0, rfl, (Array.getElem?_eq_some_iff.1 hg).1, ?_⟩⟩
    have h1 : (icells ns)[i]? = some (.int .i64 ((ns[i]?.getD 0 : Nat) : Int)) := by unfold icells; simp [hi]
    rw [← ht, Nat.mul_one, List.getElem?_take_of_lt hi] at h1
    rw [Nat.zero_add]
    simpa [World.cell?, hg] using h1

theorem GrI.ge {w : World} {base : Nat} {p : Option Addr} {n c : Nat} {ns : List Nat} (h : GrI w base (.slice p n c) ns) : ∀ b o, p = some ⟨b, o, none⟩ → base ≤ b := by
  intro b o hp
  rcases h.2 with ⟨e, _⟩ | ⟨g, cap, cur, e, hb, _⟩
  · cases e; cases hp
  · cases e; cases hp; exact hb

/-- A store into another block. -/
theorem Rd.setFar {k : IntKind} {w : World} {p : Option Addr} {n : Nat} {xs : List Nat} (h : Rd k w p n xs) {B i : Nat} (hne : ∀ b o, p = some ⟨b, o, none⟩ → b ≠ B) (v : Value) : Rd k (w.setCell ⟨B, i, none⟩ v) p n xs := by
  refine ⟨h.1, fun j hj => ?_⟩
  obtain ⟨b, off, hp, hlt, hc⟩ := h.2 j hj
  refine ⟨b, off, hp, by simpa using hlt, ?_⟩
  rw [World.cell?_setCell_other _ _ _ _ (fun e => hne b off hp (by cases e; rfl))]
  exact hc

theorem GrI.below {w w' : World} {base : Nat} {v : Value} {ns : List Nat} (h : GrI w base v ns) (hb : Below w.heap.size w w') : GrI w' base v ns :=
  own_below h hb
theorem GrB.below {w w' : World} {base : Nat} {v : Value} {l : List UInt8} (h : GrB w base v l) (hb : Below w.heap.size w w') : GrB w' base v l :=
  own_below h hb

/-- append(d, x), as the walk meets it. -/
theorem pushI_law {ops : Array Oper} {Q : Exit → Act → World → Prop} {o : Oper} {rest : List Oper} {a : Act} {W : World} (hgd : o.guard = none) (s x : Operand)
    (ho : o.op = .call { callee := .builtin .append, args := #[s, x], argTypes := #[80, 80] }) {base : Nat} {v : Value} {ns : List Nat} (hs : a.eval s = v) (h : GrI W base v ns) (d : Nat)
    (hx : a.eval x = .slice (some ⟨W.heap.size, 0, none⟩) 1 1) (hl : ns.length ≤ 1000000000000) (hbase : base ≤ W.heap.size)
    (k : ∀ v' w', GrI w' base v' (ns ++ [d]) → Below base W w' → wpList Try.prog ops Q rest (a.put o.dst v') w') : wpList Try.prog ops Q (o :: rest) a (W.alloc (.cells #[.int .i64 (d : Int)] 3)) := by
  obtain ⟨i0, hi, hz0, hz1, hz2⟩ := info_parts Try.info3
  have hg0 := World.grownBy_alloc W (.cells #[.int .i64 (d : Int)] 3) none
  have h' : (W.alloc (.cells #[.int .i64 (d : Int)] 3)).ownsRow base 3 1 v ns.length (icells ns) := World.ownsRow.kept h hg0 (by cases v.ownBlock <;> simp)
  have hc : (W.alloc (.cells #[.int .i64 (d : Int)] 3)).cell? ⟨W.heap.size, 0, none⟩ = some (.int .i64 (d : Int)) := by simp [go_sem]
  refine wpList_append_own _ hgd s x 80 ho base 3 i0 (.int .i64 0) 1 8 Try.underlying80 hi hz0 hz1 hz2 rfl (by decide) v ns.length (icells ns) hs h' ⟨W.heap.size, 0, none⟩ 1 1 [.int .i64 (d : Int)] hx rfl
    (by intro j u hj; match j, hj with | 0, hj => simp at hj; subst hj; simp [Addr.add]) (by simp [Value.oneCell']) (by unfold maxLen; omega) (by omega) (by rw [World.size_alloc]; omega) ?_
  intro v' w' h2 h3 _
  refine k v' w' ?_ ?_
  · unfold GrI; rw [List.length_append, icells_append]; exact h2
  · exact ((Below.refl _ _).alloc hbase _).trans (below_of_own h' h3 (by rw [World.size_alloc]; omega))

end Go.Proofs.Ythdhakpmhndbfaa

namespace Go.Proofs.Ythdhakpmhndbfaa
open Go.RowKit Go.Sort

def inI64 (z : Int) : Bool := decide (-9223372036854775808 ≤ z ∧ z ≤ 9223372036854775807)

end Go.Proofs.Ythdhakpmhndbfaa
