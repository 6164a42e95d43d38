/-
  Package plane: Make; A region that draws its order, inside a fence (the body of a range over a function, an iterator): one relation that every order keeps; Package plane: the iterator over two planes' coefficients; Package plane: the sum of products.
-/
import Derived.OrdersIn
import Derived.Test.YthdhakpmhndbfaaK1
import Derived.Test.YthdhakpmhndbfaaK2
import Derived.Test.YthdhakpmhndbfaaK3
import Derived.Test.YthdhakpmhndbfaaK4
import Derived.Test.YthdhakpmhndbfaaK5
import Derived.Test.YthdhakpmhndbfaaK6
import Derived.Test.YthdhakpmhndbfaaK7
namespace Go.Proofs.Ythdhakpmhndbfaa
open Go.RowKit Go.Shelf
attribute [local go_sem] Oper.semAt_some sumV

set_option maxRecDepth 100000 in
set_option maxHeartbeats 2000000 in
theorem small_any (a b c d : Int) (w : World) (ha : InI64 a) (hb : InI64 b) (hc : InI64 c) (hd : InI64 d) :
    Calls Try.prog 47 #[.agg #[.int .i64 a, .int .i64 b, .int .i64 c, .int .i64 d]] w fun e w' => e = .returned (.tuple #[if RightP a b c d then .agg #[.int .i64 a, .int .i64 b, .int .i64 c, .int .i64 d] else .agg #[.int .i64 0, .int .i64 0, .int .i64 0, .int .i64 0], .int .i64 (errE (decide (RightP a b c d)) 2)]) ∧ Below w.heap.size w w' := by
  obtain ⟨w1, hw1⟩ : ∃ w1, ((w.alloc (.cells #[.int .i64 a, .int .i64 b, .int .i64 c, .int .i64 d] 23)).alloc (.cells #[.int .i64 0, .int .i64 0, .int .i64 0, .int .i64 0] 23)) = w1 := ⟨_, rfl⟩
  have hb1 : Below w.heap.size w w1 := by rw [← hw1]; exact bw2 w _ _
  have k0 : Blk w1 w.heap.size #[.int .i64 a, .int .i64 b, .int .i64 c, .int .i64 d] 23 := by rw [← hw1]; exact (Blk.new w _ _).alloc _
  have k1 : Blk w1 (w.heap.size + 1) #[.int .i64 0, .int .i64 0, .int .i64 0, .int .i64 0] 23 := by rw [← hw1]; exact Blk.new' _ _ _ (by simp)
  have hch := fun W => check_any a b c d W ha hb hc hd
  have c0 := k0.cell (i := 0) rfl
  have c1 := k0.cell (i := 1) rfl
  have c2 := k0.cell (i := 2) rfl
  have c3 := k0.cell (i := 3) rfl
  by_cases hr : RightP a b c d
  · rw [if_pos hr]
    rw [decide_eq_true hr] at hch ⊢
    have HCH := Lib.hid hch
    clear hch hr ha hb hc hd
    go_enter Try.func47, Try.ntmps47
    go_wp2_with fail
    refine (HCH.out _).mono ?_
    rintro e w2 ⟨rfl, hb2⟩
    rw [show errE true 30 = 0 from rfl]
    have k0 := k0.kept hb2
    have k1 := k1.kept hb2
    have hb2' := hb1.trans (hb2.mono hb1.size)
    have c0 := k0.cell (i := 0) rfl
    have c1 := k0.cell (i := 1) rfl
    have c2 := k0.cell (i := 2) rfl
    have c3 := k0.cell (i := 3) rfl
    have d0 := k1.cell (i := 0) rfl
    have d1 := k1.cell (i := 1) rfl
    have d2 := k1.cell (i := 2) rfl
    have d3 := k1.cell (i := 3) rfl
    have q0 := k1.frozen 0
    have q1 := k1.frozen 1
    have q2 := k1.frozen 2
    have q3 := k1.frozen 3
    go_wp2_with fail
    have L := Blk.put4 k1 (.int .i64 a) (.int .i64 b) (.int .i64 c) (.int .i64 d)
    have z0 := L.cell (i := 0) rfl
    have z1 := L.cell (i := 1) rfl
    have z2 := L.cell (i := 2) rfl
    have z3 := L.cell (i := 3) rfl
    exact bodyPost_ret (v := .tuple #[.agg #[.int .i64 a, .int .i64 b, .int .i64 c, .int .i64 d], .int .i64 0]) (by simp [results, Try.results47, go_sem, z0, z1, z2, z3]) rfl ⟨rfl, (((hb2'.setCell (by simp only; omega) _).setCell (by simp only; omega) _).setCell (by simp only; omega) _).setCell (by simp only; omega) _⟩
  · rw [if_neg hr]
    rw [decide_eq_false hr] at hch ⊢
    have HCH := Lib.hid hch
    clear hch hr ha hb hc hd
    go_enter Try.func47, Try.ntmps47
    go_wp2_with fail
    refine (HCH.out _).mono ?_
    rintro e w2 ⟨rfl, hb2⟩
    rw [show errE false 30 = 30 from rfl]
    have k1 := k1.kept hb2
    have hb2' := hb1.trans (hb2.mono hb1.size)
    have d0 := k1.cell (i := 0) rfl
    have d1 := k1.cell (i := 1) rfl
    have d2 := k1.cell (i := 2) rfl
    have d3 := k1.cell (i := 3) rfl
    have q0 := k1.frozen 0
    have q1 := k1.frozen 1
    have q2 := k1.frozen 2
    have q3 := k1.frozen 3
    go_wp2_with fail
    have L := Blk.put4 k1 (.int .i64 0) (.int .i64 0) (.int .i64 0) (.int .i64 0)
    have z0 := L.cell (i := 0) rfl
    have z1 := L.cell (i := 1) rfl
    have z2 := L.cell (i := 2) rfl
    have z3 := L.cell (i := 3) rfl
    exact bodyPost_ret (v := .tuple #[.agg #[.int .i64 0, .int .i64 0, .int .i64 0, .int .i64 0], .int .i64 2]) (by simp [results, Try.results47, go_sem, z0, z1, z2, z3]) rfl ⟨rfl, (((hb2'.setCell (by simp only; omega) _).setCell (by simp only; omega) _).setCell (by simp only; omega) _).setCell (by simp only; omega) _⟩

theorem ite_iff {p q : Prop} [Decidable p] [Decidable q] (h : p ↔ q) {x y : Value} : (if p then x else y) = if q then x else y := by
  by_cases hp : p
  · rw [if_pos hp, if_pos (h.1 hp)]
  · rw [if_neg hp, if_neg (fun k => hp (h.2 k))]
theorem tdiv_low (a b c d x : Int) (h : (g4 a b c d : Int) ∣ x) : x.tdiv (g4 a b c d) = low4 a b c d x := by
  unfold low4; exact Int.tdiv_eq_ediv_of_dvd h
theorem tdiv_in {x : Int} (g : Nat) (h : InI64 x) : InI64 (x.tdiv g) := by
  unfold InI64 at *
  rcases Int.lt_or_le x 0 with hx | hx
  · rw [tdiv_neg' hx]
    have := Nat.div_le_self x.natAbs g
    generalize x.natAbs / g = q at *
    omega
  · rw [tdiv_pos' hx]
    have := Nat.div_le_self x.natAbs g
    generalize x.natAbs / g = q at *
    omega

set_option maxRecDepth 100000 in
set_option maxHeartbeats 8000000 in
theorem make_some (a b c d : Int) (w : World) (h0 : ¬ (a = 0 ∧ b = 0 ∧ c = 0)) (ha : InI64 a) (hb : InI64 b) (hc : InI64 c) (hd : InI64 d) :
    Calls Try.prog 12 #[.int .i64 a, .int .i64 b, .int .i64 c, .int .i64 d] w fun e w' => e = .returned (.tuple #[if MakeOk a b c d then .agg #[.int .i64 (low4 a b c d a), .int .i64 (low4 a b c d b), .int .i64 (low4 a b c d c), .int .i64 (low4 a b c d d)] else .agg #[.int .i64 0, .int .i64 0, .int .i64 0, .int .i64 0], .int .i64 (errE (decide (MakeOk a b c d)) 2)]) ∧ Below w.heap.size w w' := by
  have hdv := g4_dvd a b c d
  have ia : InI64 (low4 a b c d a) := by rw [← tdiv_low a b c d a hdv.1]; exact tdiv_in _ ha
  have ib : InI64 (low4 a b c d b) := by rw [← tdiv_low a b c d b hdv.2.1]; exact tdiv_in _ hb
  have ic : InI64 (low4 a b c d c) := by rw [← tdiv_low a b c d c hdv.2.2.1]; exact tdiv_in _ hc
  have id' : InI64 (low4 a b c d d) := by rw [← tdiv_low a b c d d hdv.2.2.2]; exact tdiv_in _ hd
  have hsm := fun W => small_any _ _ _ _ W ia ib ic id'
  have hg : gcdL 0 [a, b, c, d] = g4 a b c d := g4_nest a b c d
  have hrow : lowRow (g4 a b c d) [a, b, c, d] = [low4 a b c d a, low4 a b c d b, low4 a b c d c, low4 a b c d d] := by
    simp only [lowRow, List.map_cons, List.map_nil]
    rw [tdiv_low a b c d a hdv.1, tdiv_low a b c d b hdv.2.1, tdiv_low a b c d c hdv.2.2.1, tdiv_low a b c d d hdv.2.2.2]
  have hfit : ∀ x ∈ [a, b, c, d], InI64 (x.tdiv (g4 a b c d)) := by
    intro x hx
    simp at hx
    rcases hx with rfl | rfl | rfl | rfl
    · exact tdiv_in _ ha
    · exact tdiv_in _ hb
    · exact tdiv_in _ hc
    · exact tdiv_in _ hd
  have hlow : ∀ B W, RdSum W (some ⟨B, 0, none⟩) [a, b, c, d] → Calls Try.prog 45 #[.slice (some ⟨B, 0, none⟩) 4 4] W fun e w' => Below W.heap.size W w' ∧ ∃ B', W.heap.size ≤ B' ∧ e = .returned (.tuple #[.slice (some ⟨B', 0, none⟩) 4 4, .bool true]) ∧ Blk w' B' #[.int .i64 (low4 a b c d a), .int .i64 (low4 a b c d b), .int .i64 (low4 a b c d c), .int .i64 (low4 a b c d d)] 2 := by
    intro B W hr
    refine (lowest_any (some ⟨B, 0, none⟩) 4 4 [a, b, c, d] W rfl (by decide) hr (by intro x hx; simp at hx; unfold InI64 at *; unfold In127; rcases hx with rfl | rfl | rfl | rfl <;> omega)).mono ?_
    rintro e w' ⟨hbw, h⟩
    refine ⟨hbw, ?_⟩
    rw [hg] at h
    rcases h with ⟨_, B', hB', he, hk⟩ | ⟨⟨x, hx, hn⟩, _⟩
    · rw [hrow] at hk
      exact ⟨B', hB', he, hk⟩
    · exact absurd (hfit x hx) hn
  have hO0 : ∀ x W, InI64 x → Calls Try.prog 46 #[.int .i64 x] W fun e w' => e = .returned (.agg #[.int .u64 (hiW x), .int .u64 (loW x)]) ∧ Below W.heap.size W w' := fun x W hx => of_any x W hx.1 hx.2
  have em : MakeOk a b c d ↔ RightP (low4 a b c d a) (low4 a b c d b) (low4 a b c d c) (low4 a b c d d) := Iff.rfl
  rw [show decide (MakeOk a b c d) = decide (RightP (low4 a b c d a) (low4 a b c d b) (low4 a b c d c) (low4 a b c d d)) from decide_eq_decide.2 em, ite_iff em]
  clear em
  obtain ⟨x0, hx0⟩ : ∃ x0, low4 a b c d a = x0 := ⟨_, rfl⟩
  obtain ⟨x1, hx1⟩ : ∃ x1, low4 a b c d b = x1 := ⟨_, rfl⟩
  obtain ⟨x2, hx2⟩ : ∃ x2, low4 a b c d c = x2 := ⟨_, rfl⟩
  obtain ⟨x3, hx3⟩ : ∃ x3, low4 a b c d d = x3 := ⟨_, rfl⟩
  rw [hx0, hx1, hx2, hx3] at hlow hsm ⊢
  have HO := Lib.hid hO0
  have HL := Lib.hid hlow
  have HI := Lib.hid (And.intro ha (And.intro hb (And.intro hc hd)))
  obtain ⟨E, hE⟩ : ∃ E, errE (decide (RightP x0 x1 x2 x3)) 2 = E := ⟨_, rfl⟩
  rw [hE] at hsm ⊢
  obtain ⟨r0, r1, r2, r3, hR⟩ : ∃ r0 r1 r2 r3 : Int, (if RightP x0 x1 x2 x3 then Value.agg #[.int .i64 x0, .int .i64 x1, .int .i64 x2, .int .i64 x3] else .agg #[.int .i64 0, .int .i64 0, .int .i64 0, .int .i64 0]) = .agg #[.int .i64 r0, .int .i64 r1, .int .i64 r2, .int .i64 r3] := by
    by_cases h : RightP x0 x1 x2 x3
    · rw [if_pos h]; exact ⟨_, _, _, _, rfl⟩
    · rw [if_neg h]; exact ⟨_, _, _, _, rfl⟩
  rw [hR] at hsm ⊢
  have HS := Lib.hid hsm
  have H0 := Lib.hid h0
  clear hO0 hlow hsm hE hR hx0 hx1 hx2 hx3 hrow hfit hg ia ib ic id' hdv ha hb hc hd h0
  obtain ⟨w1, hw1⟩ : ∃ w1, w.alloc (.cells #[.int .i64 0, .int .i64 0, .int .i64 0, .int .i64 0] 23) = w1 := ⟨_, rfl⟩
  have hb1 : Below w.heap.size w w1 := by rw [← hw1]; exact (Below.refl _ w).alloc (Nat.le_refl _) _
  have k0 : Blk w1 w.heap.size #[.int .i64 0, .int .i64 0, .int .i64 0, .int .i64 0] 23 := by rw [← hw1]; exact Blk.new _ _ _
  obtain ⟨N, hN⟩ : ∃ N, w.heap.size = N := ⟨_, rfl⟩
  rw [hN] at k0
  go_enter Try.func12, Try.ntmps12
  go_upto_region 1 with fail
  go_cut [21] from 12 to 21 (fun v21 wx => v21 = .bool false ∧ w1 = wx)
  case first =>
    by_cases ha : a = 0
    · have ha' : (a == 0) = true := by simp [ha]
      by_cases hb : b = 0
      · have hb' : (b == 0) = true := by simp [hb]
        have hc : ¬ c = 0 := fun e => H0.out ⟨ha, hb, e⟩
        have hc' : (c == 0) = false := by simp [hc]
        clear ha hb hc
        go_wp2_with fail
        go_meet
        case rel => exact ⟨rfl, rfl⟩
      · have hb' : (b == 0) = false := by simp [hb]
        clear ha hb
        go_wp2_with fail
        go_meet
        case rel => exact ⟨rfl, rfl⟩
    · have ha' : (a == 0) = false := by simp [ha]
      clear ha
      go_wp2_with fail
      go_meet
      case rel => exact ⟨rfl, rfl⟩
  case rest =>
  obtain ⟨rfl, rfl⟩ := hcut
  clear H0 hw1
  go_wp2_with fail
  refine (HO.out a _ HI.out.1).mono ?_
  rintro e w2 ⟨rfl, hb2⟩
  go_wp2_with fail
  refine (HO.out b _ HI.out.2.1).mono ?_
  rintro e w3 ⟨rfl, hb3⟩
  go_wp2_with fail
  refine (HO.out c _ HI.out.2.2.1).mono ?_
  rintro e w4 ⟨rfl, hb4⟩
  go_wp2_with fail
  refine (HO.out d _ HI.out.2.2.2).mono ?_
  rintro e w5 ⟨rfl, hb5⟩
  have k0 := (((k0.kept hb2).kept hb3).kept hb4).kept hb5
  have hb25 := ((hb2.trans (hb3.mono hb2.size)).trans (hb4.mono (hb2.trans (hb3.mono hb2.size)).size)).trans (hb5.mono ((hb2.trans (hb3.mono hb2.size)).trans (hb4.mono (hb2.trans (hb3.mono hb2.size)).size)).size)
  have hb5' := hb1.trans (hb25.mono hb1.size)
  clear hb1 hb2 hb3 hb4 hb5 hb25
  obtain ⟨w6, hw6⟩ : ∃ w6, w5.alloc (.cells #[.int .u64 (hiW a), .int .u64 (loW a), .int .u64 (hiW b), .int .u64 (loW b), .int .u64 (hiW c), .int .u64 (loW c), .int .u64 (hiW d), .int .u64 (loW d)] 76) = w6 := ⟨_, rfl⟩
  have hr6 : RdSum w6 (some ⟨w5.heap.size, 0, none⟩) [a, b, c, d] := by rw [← hw6]; exact sums4 w5 a b c d
  have k0 := k0.alloc (.cells #[.int .u64 (hiW a), .int .u64 (loW a), .int .u64 (hiW b), .int .u64 (loW b), .int .u64 (hiW c), .int .u64 (loW c), .int .u64 (hiW d), .int .u64 (loW d)] 76)
  rw [hw6] at k0
  have hb6 : Below w.heap.size w w6 := by rw [← hw6]; exact hb5'.alloc hb5'.size _
  have HLL := Lib.hid (HL.out _ _ hr6)
  clear hr6 HL
  go_wp2_with fail
  refine HLL.out.mono ?_
  rintro e w7 ⟨hb7, B, hB6, rfl, kB⟩
  have hNB : N < B := Nat.lt_of_lt_of_le k0.lt hB6
  have k0 := k0.kept hb7
  have hb7' := hb6.trans (hb7.mono hb6.size)
  clear HLL hb6 hb7 hw6 hb5' HO HI
  go_upto_region 4 with fail
  go_cut [9] from 36 to 51 (fun v9 wx => v9 = .int .i64 E ∧ Blk wx N #[.int .i64 r0, .int .i64 r1, .int .i64 r2, .int .i64 r3] 23 ∧ Below w.heap.size w wx)
  case first =>
    refine wp_region_keepP (fun i => i != 16) (fun i => match i with | 0 => .slice (some ⟨B, 0, none⟩) 4 4 | 1 => .pointer (some ⟨B, 0, none⟩) | 2 => .int .i64 x0 | 3 => .slice (some ⟨B, 0, none⟩) 4 4 | 4 => .pointer (some ⟨B, 1, none⟩) | 5 => .int .i64 x1 | 6 => .slice (some ⟨B, 0, none⟩) 4 4 | 7 => .pointer (some ⟨B, 2, none⟩) | 8 => .int .i64 x2 | 9 => .slice (some ⟨B, 0, none⟩) 4 4 | 10 => .pointer (some ⟨B, 3, none⟩) | 11 => .int .i64 x3 | 12 => .agg #[.int .i64 x0, .int .i64 x1, .int .i64 x2, .int .i64 x3] | 13 => .tuple #[.agg #[.int .i64 r0, .int .i64 r1, .int .i64 r2, .int .i64 r3], .int .i64 E] | 14 => .agg #[.int .i64 r0, .int .i64 r1, .int .i64 r2, .int .i64 r3] | _ => .int .i64 E) (fun _ => (N, #[.int .i64 r0, .int .i64 r1, .int .i64 r2, .int .i64 r3])) 23 (fun ww => Blk ww B #[.int .i64 x0, .int .i64 x1, .int .i64 x2, .int .i64 x3] 2 ∧ (∃ y0 y1 y2 y3 : Int, Blk ww N #[.int .i64 y0, .int .i64 y1, .int .i64 y2, .int .i64 y3] 23) ∧ Below w.heap.size w ww) (by kernel_rfl) (by kernel_rfl) ?_ ?_ ?_ ?_ ?_ ?_
    · exact ⟨kB, ⟨_, _, _, _, k0⟩, hb7'.drew⟩
    · rintro w8 w9 ⟨ka, ⟨y0, y1, y2, y3, kb⟩, hbw⟩ hb9
      exact ⟨ka.kept hb9, ⟨y0, y1, y2, y3, kb.kept hb9⟩, hbw.trans (hb9.mono hbw.size)⟩
    · intro i j hi hj hpi hpj hne
      simp at hpi hpj
      omega
    · rintro i hi hin f ww ⟨ka, ⟨y0, y1, y2, y3, kb⟩, hbw⟩ hd
      have f0 := ka.cell (i := 0) rfl
      have f1 := ka.cell (i := 1) rfl
      have f2 := ka.cell (i := 2) rfl
      have f3 := ka.cell (i := 3) rfl
      rcases i with _ | _ | _ | _ | _ | _ | _ | _ | _ | _ | _ | _ | _ | _ | _ | _ | _ | _ | i
      · refine wpOp_list rfl ?_
        simp only [tmOf, putAll, List.map_cons, List.map_nil, List.setIfInBounds_toArray, List.set_cons_zero, List.set_cons_succ]
        go_wp2
        simp [upd, Below.refl]
      · have g0 : f 0 = .slice (some ⟨B, 0, none⟩) 4 4 := hd 0 (by decide) (by kernel_rfl)
        refine wpOp_list rfl ?_
        simp only [tmOf, putAll, List.map_cons, List.map_nil, List.setIfInBounds_toArray, List.set_cons_zero, List.set_cons_succ]
        go_wp2
        simp [upd, g0, Below.refl]
      · have g1 : f 1 = .pointer (some ⟨B, 0, none⟩) := hd 1 (by decide) (by kernel_rfl)
        refine wpOp_list rfl ?_
        simp only [tmOf, putAll, List.map_cons, List.map_nil, List.setIfInBounds_toArray, List.set_cons_zero, List.set_cons_succ]
        go_wp2
        simp [upd, g1, Below.refl]
      · refine wpOp_list rfl ?_
        simp only [tmOf, putAll, List.map_cons, List.map_nil, List.setIfInBounds_toArray, List.set_cons_zero, List.set_cons_succ]
        go_wp2
        simp [upd, Below.refl]
      · have g3 : f 3 = .slice (some ⟨B, 0, none⟩) 4 4 := hd 3 (by decide) (by kernel_rfl)
        refine wpOp_list rfl ?_
        simp only [tmOf, putAll, List.map_cons, List.map_nil, List.setIfInBounds_toArray, List.set_cons_zero, List.set_cons_succ]
        go_wp2
        simp [upd, g3, Below.refl]
      · have g4 : f 4 = .pointer (some ⟨B, 1, none⟩) := hd 4 (by decide) (by kernel_rfl)
        refine wpOp_list rfl ?_
        simp only [tmOf, putAll, List.map_cons, List.map_nil, List.setIfInBounds_toArray, List.set_cons_zero, List.set_cons_succ]
        go_wp2
        simp [upd, g4, Below.refl]
      · refine wpOp_list rfl ?_
        simp only [tmOf, putAll, List.map_cons, List.map_nil, List.setIfInBounds_toArray, List.set_cons_zero, List.set_cons_succ]
        go_wp2
        simp [upd, Below.refl]
      · have g6 : f 6 = .slice (some ⟨B, 0, none⟩) 4 4 := hd 6 (by decide) (by kernel_rfl)
        refine wpOp_list rfl ?_
        simp only [tmOf, putAll, List.map_cons, List.map_nil, List.setIfInBounds_toArray, List.set_cons_zero, List.set_cons_succ]
        go_wp2
        simp [upd, g6, Below.refl]
      · have g7 : f 7 = .pointer (some ⟨B, 2, none⟩) := hd 7 (by decide) (by kernel_rfl)
        refine wpOp_list rfl ?_
        simp only [tmOf, putAll, List.map_cons, List.map_nil, List.setIfInBounds_toArray, List.set_cons_zero, List.set_cons_succ]
        go_wp2
        simp [upd, g7, Below.refl]
      · refine wpOp_list rfl ?_
        simp only [tmOf, putAll, List.map_cons, List.map_nil, List.setIfInBounds_toArray, List.set_cons_zero, List.set_cons_succ]
        go_wp2
        simp [upd, Below.refl]
      · have g9 : f 9 = .slice (some ⟨B, 0, none⟩) 4 4 := hd 9 (by decide) (by kernel_rfl)
        refine wpOp_list rfl ?_
        simp only [tmOf, putAll, List.map_cons, List.map_nil, List.setIfInBounds_toArray, List.set_cons_zero, List.set_cons_succ]
        go_wp2
        simp [upd, g9, Below.refl]
      · have g10 : f 10 = .pointer (some ⟨B, 3, none⟩) := hd 10 (by decide) (by kernel_rfl)
        refine wpOp_list rfl ?_
        simp only [tmOf, putAll, List.map_cons, List.map_nil, List.setIfInBounds_toArray, List.set_cons_zero, List.set_cons_succ]
        go_wp2
        simp [upd, g10, Below.refl]
      · have g2 : f 2 = .int .i64 x0 := hd 2 (by decide) (by kernel_rfl)
        have g5 : f 5 = .int .i64 x1 := hd 5 (by decide) (by kernel_rfl)
        have g8 : f 8 = .int .i64 x2 := hd 8 (by decide) (by kernel_rfl)
        have g11 : f 11 = .int .i64 x3 := hd 11 (by decide) (by kernel_rfl)
        refine wpOp_list rfl ?_
        simp only [tmOf, putAll, List.map_cons, List.map_nil, List.setIfInBounds_toArray, List.set_cons_zero, List.set_cons_succ]
        go_wp2
        simp [upd, g2, g5, g8, g11, Below.refl]
      · have g12 : f 12 = .agg #[.int .i64 x0, .int .i64 x1, .int .i64 x2, .int .i64 x3] := hd 12 (by decide) (by kernel_rfl)
        refine wpOp_list rfl ?_
        simp only [tmOf, putAll, List.map_cons, List.map_nil, List.setIfInBounds_toArray, List.set_cons_zero, List.set_cons_succ]
        go_wp2_with fail
        refine (HS.out _).mono ?_
        rintro e' wf ⟨rfl, hbf⟩
        go_wp2_with fail
        simp [upd, g12, hbf]
      · have g13 : f 13 = .tuple #[.agg #[.int .i64 r0, .int .i64 r1, .int .i64 r2, .int .i64 r3], .int .i64 E] := hd 13 (by decide) (by kernel_rfl)
        refine wpOp_list rfl ?_
        simp only [tmOf, putAll, List.map_cons, List.map_nil, List.setIfInBounds_toArray, List.set_cons_zero, List.set_cons_succ]
        go_wp2
        simp [upd, g13, Below.refl]
      · have g13 : f 13 = .tuple #[.agg #[.int .i64 r0, .int .i64 r1, .int .i64 r2, .int .i64 r3], .int .i64 E] := hd 13 (by decide) (by kernel_rfl)
        refine wpOp_list rfl ?_
        simp only [tmOf, putAll, List.map_cons, List.map_nil, List.setIfInBounds_toArray, List.set_cons_zero, List.set_cons_succ]
        go_wp2
        simp [upd, g13, Below.refl]
      · cases hin
      · have g15 : f 15 = .int .i64 E := hd 15 (by decide) (by kernel_rfl)
        refine wpOp_list rfl ?_
        simp only [tmOf, putAll, List.map_cons, List.map_nil, List.setIfInBounds_toArray, List.set_cons_zero, List.set_cons_succ]
        go_wp2
        simp [upd, g15, Below.refl]
      · simp only [List.length_cons, List.length_nil] at hi; omega
    · rintro i hi hin f ww ⟨ka, ⟨y0, y1, y2, y3, kb⟩, hbw⟩ hd
      have hi16 : i = 16 := by simpa using hin
      subst hi16
      have g14 : f 14 = .agg #[.int .i64 r0, .int .i64 r1, .int .i64 r2, .int .i64 r3] := hd 14 (by decide) (by kernel_rfl)
      have e0 := kb.cell (i := 0) rfl
      have e1 := kb.cell (i := 1) rfl
      have e2 := kb.cell (i := 2) rfl
      have e3 := kb.cell (i := 3) rfl
      have q0 := kb.frozen 0
      have q1 := kb.frozen 1
      have q2 := kb.frozen 2
      have q3 := kb.frozen 3
      refine wpOp_list rfl ?_
      simp only [tmOf, putAll, List.map_cons, List.map_nil, List.setIfInBounds_toArray, List.set_cons_zero, List.set_cons_succ]
      go_wp2
      have hbN : Below N w ww := by rw [← hN]; exact hbw
      refine ⟨Blk.put4 kb _ _ _ _, ⟨(((ka.other (C := N) 0 _ (by omega)).other (C := N) 1 _ (by omega)).other (C := N) 2 _ (by omega)).other (C := N) 3 _ (by omega), ⟨_, _, _, _, Blk.put4 kb _ _ _ _⟩, (((hbN.setCell (Nat.le_refl _) _).setCell (Nat.le_refl _) _).setCell (Nat.le_refl _) _).setCell (Nat.le_refl _) _⟩, ?_⟩
      intro B' cs hne hB'
      exact (((hB'.other (C := N) 0 _ (by (try simp only at hne); omega)).other (C := N) 1 _ (by (try simp only at hne); omega)).other (C := N) 2 _ (by (try simp only at hne); omega)).other (C := N) 3 _ (by (try simp only at hne); omega)
    · rintro f ww ⟨ka, _, hbw⟩ hd hB
      have g17 : f 17 = .int .i64 E := hd 17 (by decide) (by decide)
      have L : Blk ww N #[.int .i64 r0, .int .i64 r1, .int .i64 r2, .int .i64 r3] 23 := hB 16 (by decide) (by decide)
      simp only [tmOf, putAll, List.map_cons, List.map_nil, List.setIfInBounds_toArray, List.set_cons_zero, List.set_cons_succ]
      simp only [Nat.zero_add, Nat.reduceAdd]
      refine ‹∀ (a' : Act) (w' : World), Met _ a' w' → _› _ _ ?_
      go_meet
      case rel => exact ⟨g17, L, hbw⟩
  case rest =>
  obtain ⟨rfl, L, hbx⟩ := hcut
  have z0 := L.cell (i := 0) rfl
  have z1 := L.cell (i := 1) rfl
  have z2 := L.cell (i := 2) rfl
  have z3 := L.cell (i := 3) rfl
  go_wp2_with fail
  exact bodyPost_ret (v := .tuple #[.agg #[.int .i64 r0, .int .i64 r1, .int .i64 r2, .int .i64 r3], .int .i64 E]) (by simp [results, Try.results12, go_sem, z0, z1, z2, z3]) rfl ⟨rfl, hbx⟩

end Go.Proofs.Ythdhakpmhndbfaa

namespace Go.Proofs.Ythdhakpmhndbfaa
open Go.RowKit
variable {F : Fence} {n : Nat} {P : Program} {Q : Exit → Act → World → Prop}

theorem wpAnyIn_inv {l : List Oper} (hE : earlierB l = true) (I : (Nat → Bool) → Act → World → Prop)
    (step : ∀ L i a w, I L a w → i < l.length → L i = false → depsB l L i = true → wpOpIn F n P l.toArray Q i (I (fun j => L j || j == i)) a w)
    (done : ∀ L a w, (∀ i, i < l.length → L i = true) → I L a w → Q .normal a w) :
    ∀ (f : Nat) (listed : Array Bool) (L : Nat → Bool) (a : Act) (w : World), listed.size = l.length → (∀ i, listed.getD i false = L i) → (List.range l.length).countP (fun i => !L i) ≤ f → I L a w → wpAnyIn F n P .any l.toArray Q f listed a w := by
  intro f
  induction f with
  | zero =>
    intro listed L a w hs hL hc hI
    have hall : ∀ i, i < l.length → L i = true := by
      intro i hi
      have := List.countP_eq_zero.1 (Nat.le_zero.1 hc) i (List.mem_range.2 hi)
      simpa using this
    refine ⟨List.eq_nil_iff_forall_not_mem.2 fun i hi => ?_, done L a w hall hI⟩
    obtain ⟨h1, h2, _⟩ := (mem_ready_iff hs hL i).1 hi
    rw [hall i h1] at h2; cases h2
  | succ f ih =>
    intro listed L a w hs hL hc hI
    refine ⟨fun hr => done L a w (all_listed hE fun i hi h => ?_) hI, fun i hi => ?_⟩
    · cases hd : depsB l L i
      · rfl
      · have := (mem_ready_iff hs hL i).2 ⟨hi, h, hd⟩
        rw [hr] at this; cases this
    · obtain ⟨h1, h2, h3⟩ := (mem_ready_iff hs hL i).1 hi
      have := step L i a w hI h1 h2 h3
      refine wpOpIn_mono (fun a w h => ih _ (fun j => L j || j == i) a w (by simp [hs]) (fun j => ?_) ?_ h) this
      · rw [← hL]
        simp only [Array.getD_eq_getD_getElem?, Array.getElem?_setIfInBounds]
        by_cases e : i = j
        · subst e; simp [hs, h1]
        · have : (j == i) = false := by simp; omega
          simp [e, this]
      · have := countP_strict (p := fun j => !L j) (q := fun j => !(L j || j == i)) (List.range l.length) i (fun y hy => by simp at hy ⊢; exact hy.1) (List.mem_range.2 h1) (by simp [h2]) (by simp)
        omega

theorem wpIn_region_inv {id : Nat} {l : List Oper} {a : Act} {w : World} (hm : P.follows .mixedOrders = true) (hE : earlierB l = true) (I : (Nat → Bool) → Act → World → Prop) (h0 : I (fun _ => false) a w.drew)
    (step : ∀ L i a w, I L a w → i < l.length → L i = false → depsB l L i = true → wpOpIn F n P l.toArray Q i (I (fun j => L j || j == i)) a w)
    (done : ∀ L a w, (∀ i, i < l.length → L i = true) → I L a w → Q .normal a w) : (Code.region id l.toArray true).wpIn F n P Q a w := by
  refine wpIn_region_any hm (wpAnyIn_inv hE I step done _ _ (fun _ => false) _ _ (by simp) (fun i => ?_) ?_ h0)
  · exact getD_replicate_false _ _
  · refine Nat.le_trans (List.countP_le_length) ?_
    simp


theorem wpIn_post {o : Oper} {a : Act} {w : World} {K : Act → World → Prop} {Q Q' : Exit → Act → World → Prop} (hq : ∀ e a w, e ≠ .normal → Q e a w → Q' e a w) (hh : o.wpIn F n P a w K Q) : o.wpIn F n P a w K Q' := by
  have hL : LetsOut Q → LetsOut Q' := fun ⟨b, v, h⟩ => ⟨b, v, hq _ _ _ (by simp) h⟩
  unfold Oper.wpIn at *
  refine ⟨hh.1, ?_⟩
  have hh := hh.2
  generalize (o.semAt F.round a.eval).run P w = r at *
  cases r with
  | ok r w' =>
    cases r <;> simp only [Oper.uponIn] at hh ⊢ <;> try exact hh
    case enter f args =>
      exact ⟨hh.1, CallsIn.mono hh.2 fun e w'' he => by
        cases e with
        | returned v => exact he
        | panicked c => exact hq _ _ _ (by simp) he
        | outgrown => exact hL he⟩
    case round l f tmps assign body =>
      exact ⟨hh.1, RoundIn.mono hh.2 fun e w'' he => by
        cases e with
        | returned v => exact he
        | panicked c => exact hq _ _ _ (by simp) he
        | outgrown => exact hL he⟩
  | halt x w' =>
    cases x <;> simp only [Oper.uponIn] at hh ⊢
    case panic v => exact hq _ _ _ (by simp) hh

/-- One operation. -/
theorem wpOpIn_list {ops : Array Oper} {i : Nat} {o : Oper} {K : Act → World → Prop} {a : Act} {w : World} (ho : ops[i]? = some o) (h : wpListIn F n P ops (fun e a w => (e = .normal → K a w) ∧ (e ≠ .normal → Q e a w)) [o] a w) : wpOpIn F n P ops Q i K a w := by
  unfold wpOpIn
  unfold wpListIn at h
  simp only [ho]
  split at h
  · rename_i hw
    rw [if_pos hw]
    refine Oper.wpIn_mono (fun a w h => ?_) (wpIn_post (fun e a w he h => h.2 he) h)
    exact h.1 rfl
  · rename_i hw
    rw [if_neg hw]
    exact ⟨h.1, h.2.1 rfl⟩

/-- One operation behind the other. -/
def seqWIn (F : Fence) (n : Nat) (P : Program) (l : List Oper) (Q : Exit → Act → World → Prop) : Nat → Nat → Act → World → Prop
  | 0, _ => Q .normal
  | r + 1, k => wpOpIn F n P l.toArray Q k (seqWIn F n P l Q r (k + 1))

theorem wpIn_region_flow_tail {id : Nat} {l : List Oper} {w : World} (n0 : Nat) (tm : (Nat → Value) → Act) (f0 : Nat → Value) (hm : P.follows .mixedOrders = true) (hE : earlierB l = true) (hT : tailB l n0 = true) (hn0 : n0 < l.length) (R : Nat → Value → Prop) (S : World → Prop) (hS : S w.drew)
    (step : ∀ i, i < n0 → ∀ f w', S w' → (∀ j, depB l i j = true → R j (f j)) → wpOpIn F n P l.toArray Q i (fun a' w'' => ∃ v, a' = tm (upd f i v) ∧ R i v ∧ S w'') (tm f) w')
    (last : ∀ f w', S w' → (∀ j, j < n0 → R j (f j)) → seqWIn F n P l Q (l.length - n0) n0 (tm f) w') : (Code.region id l.toArray true).wpIn F n P Q (tm f0) w := by
  refine wpIn_region_inv hm hE (fun L a w => (∀ k, k < l.length → L k = true → depsB l L k = true) ∧ ((∃ f, a = tm f ∧ S w ∧ (∀ j, L j = true → j < n0) ∧ ∀ j, L j = true → R j (f j)) ∨ (∃ k, n0 < k ∧ k ≤ l.length ∧ (∀ j, j < l.length → (L j = true ↔ j < k)) ∧ seqWIn F n P l Q (l.length - k) k a w)))
    ⟨fun _ _ h => (by cases h), .inl ⟨f0, rfl, hS, fun _ h => (by cases h), fun _ h => (by cases h)⟩⟩ ?_ ?_
  · rintro L i a w' ⟨hcl, hI⟩ hi hL hd
    have hcl' : ∀ k, k < l.length → (L k || k == i) = true → depsB l (fun j => L j || j == i) k = true := fun k hk hk2 => by
      have hmn : ∀ j, L j = true → (L j || j == i) = true := fun j h => by rw [h]; rfl
      by_cases e : k = i
      · rw [e]; exact depsB_mono hd hmn
      · exact depsB_mono (hcl k hk (by simpa [e] using hk2)) hmn
    rcases hI with ⟨f, rfl, hs, hlt, hr⟩ | ⟨k, hk1, hk2, hk3, hk4⟩
    · by_cases hil : i < n0
      · refine wpOpIn_mono (fun a' w'' h => ?_) (step i hil f w' hs (fun j hj => hr j (depsB_dep hd hj)))
        obtain ⟨v, rfl, hv, hs'⟩ := h
        refine ⟨hcl', .inl ⟨_, rfl, hs', fun j hj => ?_, fun j hj => ?_⟩⟩
        · by_cases e : j = i
          · rw [e]; exact hil
          · exact hlt j (by simpa [e] using hj)
        · by_cases e : j = i
          · subst e; simp only [upd, if_true]; exact hv
          · simp only [upd, if_neg e]
            refine hr j ?_
            simpa [e] using hj
      · have hall := fun j hj => tail_all hT hi (by omega) hcl hd (i - j) j (Nat.le_refl _) hj
        have e : i = n0 := by
          rcases Nat.lt_or_ge n0 i with h | h
          · have := hlt n0 (hall n0 h); omega
          · omega
        subst e
        have hl := last f w' hs (fun j hj => hr j (hall j hj))
        rw [show l.length - i = (l.length - (i + 1)) + 1 by omega] at hl
        refine wpOpIn_mono (fun a' w'' h => ?_) hl
        refine ⟨hcl', .inr ⟨i + 1, by omega, by omega, fun j hj => ?_, h⟩⟩
        by_cases e : j = i
        · simp [e]
        · constructor
          · intro h
            have := hlt j (by simpa [e] using h)
            omega
          · intro h
            show (L j || j == i) = true
            rw [hall j (by omega)]; rfl
    · have hall := fun j hj => tail_all hT hi (by have : ¬ i < k := fun h => by rw [(hk3 i hi).2 h] at hL; cases hL
                                                  omega) hcl hd (i - j) j (Nat.le_refl _) hj
      have hik : ¬ i < k := fun h => by rw [(hk3 i hi).2 h] at hL; cases hL
      have e : i = k := by
        rcases Nat.lt_or_ge k i with h | h
        · have := (hk3 k (by omega)).1 (hall k h); omega
        · omega
      subst e
      rw [show l.length - i = (l.length - (i + 1)) + 1 by omega] at hk4
      refine wpOpIn_mono (fun a' w'' h => ?_) hk4
      refine ⟨hcl', .inr ⟨i + 1, by omega, by omega, fun j hj => ?_, h⟩⟩
      by_cases e : j = i
      · simp [e]
      · constructor
        · intro h
          have := (hk3 j hj).1 (by simpa [e] using h)
          omega
        · intro h
          show (L j || j == i) = true
          rw [hall j (by omega)]; rfl
  · rintro L a w' hall ⟨_, hI⟩
    rcases hI with ⟨f, rfl, hs, hlt, hr⟩ | ⟨k, hk1, hk2, hk3, hk4⟩
    · have := hlt n0 (hall n0 hn0)
      omega
    · have e : k = l.length := by
        rcases Nat.lt_or_ge k l.length with h | h
        · have := (hk3 k h).1 (hall k h); omega
        · omega
      subst e
      rw [Nat.sub_self] at hk4
      exact hk4


/-- Operations of known values that keep S (reads, calls, rounds), each behind what it waits for; the last ones in order. -/
theorem wpIn_region_pure {id : Nat} {l : List Oper} {a : Act} {w : World} (m : Nat) (vs : Nat → Value) (S : World → Prop) (hm : P.follows .mixedOrders = true) (hE : earlierB l = true) (hT : tailB l m = true) (hm0 : m < l.length) (hS : S w.drew)
    (step : ∀ i, i < m → ∀ f w', S w' → (∀ j, depB l i j = true → f j = vs j) → wpOpIn F n P l.toArray Q i (fun a' w'' => a' = tmOf a l (upd f i (vs i)) ∧ S w'') (tmOf a l f) w')
    (last : ∀ f w', S w' → (∀ j, j < m → f j = vs j) → seqWIn F n P l Q (l.length - m) m (tmOf a l f) w') : (Code.region id l.toArray true).wpIn F n P Q a w := by
  have h := wpIn_region_flow_tail (F := F) (n := n) (Q := Q) (id := id) (w := w) m (tmOf a l) (slotsOf a.tmps (l.map (·.dst)) 0) hm hE hT hm0 (fun i v => v = vs i) S hS
    (fun i hi f w' hs hd => wpOpIn_mono (fun a' w'' hh => ⟨vs i, hh.1, rfl, hh.2⟩) (step i hi f w' hs hd)) last
  rw [tmOf_same] at h
  exact h

end Go.Proofs.Ythdhakpmhndbfaa

namespace Go.Proofs.Ythdhakpmhndbfaa
open Go.RowKit Go.Shelf
attribute [local go_sem] Oper.semAt_some

/-- A coefficient by its place. -/
def vg (q : V4) (i : Nat) : Int := if i = 0 then q.a else if i = 1 then q.b else if i = 2 then q.c else q.d
theorem Blk.vg {W : World} {B : Nat} {q : V4} {t : TypeId} (h : Blk W B #[.int .i64 q.a, .int .i64 q.b, .int .i64 q.c, .int .i64 q.d] t) {i : Nat} (hi : i < 4) : W.cell? ⟨B, i, none⟩ = some (.int .i64 (vg q i)) := by
  have h4 : i = 0 ∨ i = 1 ∨ i = 2 ∨ i = 3 := by omega
  rcases h4 with rfl | rfl | rfl | rfl <;> exact h.cell rfl

def encP (p q : V4) (i : Nat) : Array Value := #[.int .i64 (vg p i), .int .i64 (vg q i)]

set_option maxHeartbeats 1000000 in
theorem pairs_in (F : Fence) (n : Nat) (h5 : F.fn 78) (hro : F.round = none) (p q : V4) (w : World) :
    CallsIn F n Try.prog 78 #[.agg #[.int .i64 p.a, .int .i64 p.b, .int .i64 p.c, .int .i64 p.d], .agg #[.int .i64 q.a, .int .i64 q.b, .int .i64 q.c, .int .i64 q.d]] w fun e w' => e = .returned (.func (.func 100) #[] #[.pointer (some ⟨w.heap.size, 0, none⟩), .pointer (some ⟨w.heap.size + 1, 0, none⟩)]) ∧ w' = (w.alloc (.cells #[.int .i64 p.a, .int .i64 p.b, .int .i64 p.c, .int .i64 p.d] 22)).alloc (.cells #[.int .i64 q.a, .int .i64 q.b, .int .i64 q.c, .int .i64 q.d] 22) := by
  refine callsIn_of_wp Try.func78 rfl h5 ?_ hro
  simp only [Try.ntmps78, List.size_toArray, List.length_cons, List.length_nil, Nat.reduceAdd, Nat.reduceSub, Array.replicate_succ, Array.replicate_zero, List.push_toArray, List.append_toArray, List.nil_append, List.cons_append]
  gi_wp2
  go_ret
  exact ⟨rfl, rfl⟩

set_option maxRecDepth 100000 in
set_option maxHeartbeats 4000000 in
theorem pairs1_in (F : Fence) (n : Nat) (h7 : F.fn 100) (hro : F.round = none) (hn : 1 ≤ n) (l Bp Bq : Nat) (S : Nat → Prop) (p q : V4) (J Jx : List Nat → World → Prop)
    (hdr : ∀ pre W, J pre W → J pre W.drew)
    (hY : ∀ pre x W, J pre W → pre.length < 4 → YieldAt F (n - 1) Try.prog l (encP p q x) W fun e W' =>
      (e = .returned (.bool true) ∧ J (pre ++ [x]) W' ∧ KeepsAt S W W') ∨ (e = .returned (.bool false) ∧ Jx (pre ++ [x]) W'))
    (W : World) (hp : Blk W Bp #[.int .i64 p.a, .int .i64 p.b, .int .i64 p.c, .int .i64 p.d] 22) (hq : Blk W Bq #[.int .i64 q.a, .int .i64 q.b, .int .i64 q.c, .int .i64 q.d] 22) (hSp : S Bp) (hSq : S Bq) (h0 : J [] W) :
    CallsIn F n Try.prog 100 #[.func (.yield l) #[] #[], .pointer (some ⟨Bp, 0, none⟩), .pointer (some ⟨Bq, 0, none⟩)] W fun e W' => (∃ v, e = .returned v) ∧
      ((∃ ys, ys = List.range 4 ∧ J ys W') ∨ (∃ pre, (∃ k, k ≤ 4 ∧ pre = List.range k) ∧ Jx pre W')) := by
  refine callsIn_of_wp Try.func100 rfl h7 ?_ hro
  simp only [Try.ntmps100, List.size_toArray, List.length_cons, List.length_nil, Nat.reduceAdd, Nat.reduceSub, Array.replicate_succ, Array.replicate_zero, List.push_toArray, List.append_toArray, List.nil_append, List.cons_append]
  gi_wp2
  gi_loopw [5] (fun i wr => ∃ k : Nat, k ≤ 4 ∧ i = .int .i64 (k : Int) ∧ J (List.range k) wr ∧ KeepsAt S W wr)
    (fun i _ => (4 - intOf i).toNat)
  case atStart => exact ⟨0, Nat.zero_le _, rfl, h0, KeepsAt.refl _ _⟩
  case round =>
    obtain ⟨k, hk, rfl, hJs, hnx⟩ := hrel
    by_cases hlt : k < 4
    · have hkp : wr.cell? ⟨Bp, k, none⟩ = some (.int .i64 (vg p k)) := (hnx.cell (p := ⟨Bp, k, none⟩) hSp).trans (hp.vg hlt)
      have hkq : wr.cell? ⟨Bq, k, none⟩ = some (.int .i64 (vg q k)) := (hnx.cell (p := ⟨Bq, k, none⟩) hSq).trans (hq.vg hlt)
      have hki : (k : Int) < 4 := by omega
      obtain ⟨fn, tmps, assign, body, hy, hR⟩ := hY _ k wr.drew (hdr _ _ hJs) (by rw [List.length_range]; exact hlt)
      unfold encP at hy
      gi_wp2
      refine wpIn_region_pure 7 (fun i => match i with | 0 => .func (.yield l) #[] #[] | 1 => .int .i64 (k : Int) | 2 => .pointer (some ⟨Bp, k, none⟩) | 3 => .int .i64 (vg p k) | 4 => .int .i64 (k : Int) | 5 => .pointer (some ⟨Bq, k, none⟩) | _ => .int .i64 (vg q k)) (fun ww => wr.drew = ww) (by kernel_rfl) (by kernel_rfl) (by kernel_rfl) ?_ rfl ?_ ?_
      · decide
      · rintro i hi f ww rfl hd
        rcases i with _ | _ | _ | _ | _ | _ | _ | i
        · refine wpOpIn_list rfl ?_
          simp only [tmOf, putAll, List.map_cons, List.map_nil, List.setIfInBounds_toArray, List.set_cons_zero, List.set_cons_succ]
          gi_wp2
          simp [upd]
        · refine wpOpIn_list rfl ?_
          simp only [tmOf, putAll, List.map_cons, List.map_nil, List.setIfInBounds_toArray, List.set_cons_zero, List.set_cons_succ]
          gi_wp2
          simp [upd]
        · have g1 : f 1 = .int .i64 (k : Int) := hd 1 (by kernel_rfl)
          refine wpOpIn_list rfl ?_
          simp only [tmOf, putAll, List.map_cons, List.map_nil, List.setIfInBounds_toArray, List.set_cons_zero, List.set_cons_succ]
          gi_wp2
          simp [upd, g1]
        · have g2 : f 2 = .pointer (some ⟨Bp, k, none⟩) := hd 2 (by kernel_rfl)
          refine wpOpIn_list rfl ?_
          simp only [tmOf, putAll, List.map_cons, List.map_nil, List.setIfInBounds_toArray, List.set_cons_zero, List.set_cons_succ]
          gi_wp2
          simp [upd, g2]
        · refine wpOpIn_list rfl ?_
          simp only [tmOf, putAll, List.map_cons, List.map_nil, List.setIfInBounds_toArray, List.set_cons_zero, List.set_cons_succ]
          gi_wp2
          simp [upd]
        · have g4 : f 4 = .int .i64 (k : Int) := hd 4 (by kernel_rfl)
          refine wpOpIn_list rfl ?_
          simp only [tmOf, putAll, List.map_cons, List.map_nil, List.setIfInBounds_toArray, List.set_cons_zero, List.set_cons_succ]
          gi_wp2
          simp [upd, g4]
        · have g5 : f 5 = .pointer (some ⟨Bq, k, none⟩) := hd 5 (by kernel_rfl)
          refine wpOpIn_list rfl ?_
          simp only [tmOf, putAll, List.map_cons, List.map_nil, List.setIfInBounds_toArray, List.set_cons_zero, List.set_cons_succ]
          gi_wp2
          simp [upd, g5]
        · omega
      · rintro f ww rfl hd
        have g0 : f 0 = .func (.yield l) #[] #[] := hd 0 (by decide)
        have g3 : f 3 = .int .i64 (vg p k) := hd 3 (by decide)
        have g6 : f 6 = .int .i64 (vg q k) := hd 6 (by decide)
        simp only [seqWIn, tmOf, putAll, List.map_cons, List.map_nil, List.setIfInBounds_toArray, List.set_cons_zero, List.set_cons_succ, List.length_cons, List.length_nil]
        refine wpOpIn_list rfl ?_
        gi_wp2
        refine hR.mono ?_
        rintro e W3 (⟨rfl, hJ3, hk3⟩ | ⟨rfl, hJx3⟩)
        · gi_wp2
          refine wpOpIn_list rfl ?_
          gi_wp2
          refine ⟨⟨k + 1, by omega, by simp, ?_, hnx.trans hk3⟩, by simp [intOf]; omega⟩
          rw [List.range_succ]; exact hJ3
        · gi_wp2
          refine wpOpIn_list rfl ?_
          gi_wp2
          refine bodyPost_ret (results_none rfl _ _ _) rfl ?_
          exact ⟨⟨_, rfl⟩, .inr ⟨_, ⟨k + 1, by omega, List.range_succ.symm⟩, hJx3⟩⟩
    · obtain rfl : k = 4 := by omega
      gi_wp2
      go_end0
      exact ⟨⟨_, rfl⟩, .inl ⟨_, rfl, hJs⟩⟩

/-- All four places, or the first of them. -/
theorem pairs_stops (F : Fence) (n : Nat) (h7 : F.fn 100) (hro : F.round = none) (hn : 1 ≤ n) (Bp Bq : Nat) (S : Nat → Prop) (p q : V4) (w : World) (hS : ∀ b, S b → b < w.heap.size)
    (hp : Blk w Bp #[.int .i64 p.a, .int .i64 p.b, .int .i64 p.c, .int .i64 p.d] 22) (hq : Blk w Bq #[.int .i64 q.a, .int .i64 q.b, .int .i64 q.c, .int .i64 q.d] 22) (hSp : S Bp) (hSq : S Bq) :
    SeqStopsK F n Try.prog 100 #[.pointer (some ⟨Bp, 0, none⟩), .pointer (some ⟨Bq, 0, none⟩)] (encP p q) (KeepsAt S) (fun ys => ys = List.range 4)
      (fun pre => ∃ k, k ≤ 4 ∧ pre = List.range k) 4 w := fun l J Jx W hW hJ _ hY h0 =>
  pairs1_in F n h7 hro hn l Bp Bq S p q J Jx (fun pre W h => hJ pre W W.drew none h ⟨rfl, rfl, rfl, Nat.le_refl _, fun _ _ _ => rfl⟩ (fun r e => by cases e)) hY W (hp.below hW hp.lt) (hq.below hW hq.lt) hSp hSq h0

end Go.Proofs.Ythdhakpmhndbfaa

namespace Go.Proofs.Ythdhakpmhndbfaa
open Go.RowKit Go.Shelf
attribute [local go_sem] Oper.semAt_some sumV

/-- The sum of products over some places. -/
def dotL (p q : V4) (ks : List Nat) : Int := ks.foldl (fun s k => s + vg p k * vg q k) 0
theorem dotL_snoc (p q : V4) (ks : List Nat) (k : Nat) : dotL p q (ks ++ [k]) = dotL p q ks + vg p k * vg q k := by simp [dotL, List.foldl_append]
theorem vg_in {q : V4} (h : InV q) (k : Nat) : InI64 (vg q k) := by
  unfold vg
  split
  · exact h.1
  · split
    · exact h.2.1
    · split
      · exact h.2.2.1
      · exact h.2.2.2

theorem Blk.own {W W' : World} {B : Nat} {cs : Array Value} {t : TypeId} {row : Option Nat} (h : Blk W B cs t) (hg : W.grownBy W' row) (hrow : ∀ r, row = some r → ∃ o : Obj, W.heap[r]? = some o ∧ o.isCells = false) : Blk W' B cs t := by
  unfold Blk at h ⊢
  exact (grownBy_keeps_cells hg hrow h rfl).trans h

set_option maxRecDepth 100000 in
set_option maxHeartbeats 4000000 in
theorem productP_any (p q : V4) (w : World) (hip : InV p) (hiq : InV q) :
    Calls Try.prog 53 #[.agg #[.int .i64 p.a, .int .i64 p.b, .int .i64 p.c, .int .i64 p.d], .agg #[.int .i64 q.a, .int .i64 q.b, .int .i64 q.c, .int .i64 q.d]] w fun e w' => e = .returned (sumV (dotL p q (List.range 4))) ∧ Below w.heap.size w w' := by
  refine (callsIn_wide (n := 6)).1 ?_
  refine callsIn_of_wp_marks Try.func53 rfl trivial ?_ rfl
  simp only [Try.ntmps53, List.size_toArray, List.length_cons, List.length_nil, Nat.reduceAdd, Nat.reduceSub, Array.replicate_succ, Array.replicate_zero, List.push_toArray, List.append_toArray, List.nil_append, List.cons_append]
  gi_wp2_with (refine ⟨trivial, ?_⟩; gi_at_call 78; refine (pairs_in Fence.wide _ trivial rfl p q _).mono ?_; rintro e w' ⟨rfl, rfl⟩)
  obtain ⟨W0, hW0⟩ : ∃ W0, ((((((w.alloc (.cells #[.int .i64 p.a, .int .i64 p.b, .int .i64 p.c, .int .i64 p.d] 22)).alloc (.cells #[.int .i64 q.a, .int .i64 q.b, .int .i64 q.c, .int .i64 q.d] 22)).alloc (.cells #[.int .u64 0, .int .u64 0] 76)).alloc (.cells #[.int .u64 0, .int .u64 0] 76)).alloc (.cells #[.int .i64 p.a, .int .i64 p.b, .int .i64 p.c, .int .i64 p.d] 22)).alloc (.cells #[.int .i64 q.a, .int .i64 q.b, .int .i64 q.c, .int .i64 q.d] 22)) = W0 := ⟨_, rfl⟩
  have hB0 : Below w.heap.size w W0 := by
    rw [← hW0]
    exact (bw4 w _ _ _ _).trans ((bw2 _ _ _).mono (bw4 w _ _ _ _).size)
  have kr : Blk W0 (w.heap.size + 1 + 1) #[.int .u64 0, .int .u64 0] 76 := by rw [← hW0]; exact (((Blk.new' _ _ _ (by simp)).alloc _).alloc _).alloc _
  have kt : Blk W0 (w.heap.size + 1 + 1 + 1) #[.int .u64 0, .int .u64 0] 76 := by rw [← hW0]; exact ((Blk.new' _ _ _ (by simp)).alloc _).alloc _
  have kp : Blk W0 (w.heap.size + 1 + 1 + 1 + 1) #[.int .i64 p.a, .int .i64 p.b, .int .i64 p.c, .int .i64 p.d] 22 := by rw [← hW0]; exact (Blk.new' _ _ _ (by simp)).alloc _
  have kq : Blk W0 (w.heap.size + 1 + 1 + 1 + 1 + 1) #[.int .i64 q.a, .int .i64 q.b, .int .i64 q.c, .int .i64 q.d] 22 := by rw [← hW0]; exact Blk.new' _ _ _ (by simp)
  have hsz : W0.heap.size = w.heap.size + 1 + 1 + 1 + 1 + 1 + 1 := by rw [← hW0]; simp
  rw [hW0]
  clear hW0
  refine wpIn_rangeFunc_ownF rfl (by omega) (gf := 100) (lb := #[.pointer (some ⟨w.heap.size + 1 + 1 + 1 + 1, 0, none⟩), .pointer (some ⟨w.heap.size + 1 + 1 + 1 + 1 + 1, 0, none⟩)]) rfl trivial (enters_of Try.func100 (by kernel_rfl) rfl)
    (pairs_stops Fence.wide 5 trivial rfl (by omega) (w.heap.size + 1 + 1 + 1 + 1) (w.heap.size + 1 + 1 + 1 + 1 + 1) (fun b => b = w.heap.size + 1 + 1 + 1 + 1 ∨ b = w.heap.size + 1 + 1 + 1 + 1 + 1) p q W0 (fun b hb => by omega) kp kq (Or.inl rfl) (Or.inr rfl))
    KeepsAt.trans (KeepsAt.putObj (fun b hb => by omega)) (Below.refl _ _) (fun _ => rfl)
    (fun pre W => (Blk W (w.heap.size + 1 + 1 + 1) #[.int .u64 (hiW (dotL p q pre)), .int .u64 (loW (dotL p q pre))] 76 ∧ Blk W (w.heap.size + 1 + 1) #[.int .u64 0, .int .u64 0] 76 ∧ W0.heap.size ≤ W.heap.size) ∧ Below w.heap.size w W)
    (fun c pre W => False ∧ Below w.heap.size w W)
    (OwnFrom.and (Own.from (fun s A B row hs hg hr => ⟨hs.1.own hg hr, hs.2.1.own hg hr, Nat.le_trans hs.2.2 hg.size⟩) _) (ownFrom_below (Nat.le_refl _) (by omega)))
    (fun c => OwnFrom.and (Own.from (fun s A B row hs hg hr => hs) _) (ownFrom_below (Nat.le_refl _) (by omega)))
    ⟨⟨kt, kr, Nat.le_refl _⟩, hB0⟩
    (fun x => { tmps := #[.agg #[.int .i64 p.a, .int .i64 p.b, .int .i64 p.c, .int .i64 p.d], .agg #[.int .i64 q.a, .int .i64 q.b, .int .i64 q.c, .int .i64 q.d], .pointer (some ⟨w.heap.size, 0, none⟩), .pointer (some ⟨w.heap.size + 1, 0, none⟩), .pointer (some ⟨w.heap.size + 1 + 1, 0, none⟩), .pointer (some ⟨w.heap.size + 1 + 1 + 1, 0, none⟩), .int .i64 (vg p x), .int .i64 (vg q x), .agg #[.int .i64 p.a, .int .i64 p.b, .int .i64 p.c, .int .i64 p.d], .agg #[.int .i64 q.a, .int .i64 q.b, .int .i64 q.c, .int .i64 q.d], .func (.func 100) #[] #[.pointer (some ⟨w.heap.size + 1 + 1 + 1 + 1, 0, none⟩), .pointer (some ⟨w.heap.size + 1 + 1 + 1 + 1 + 1, 0, none⟩)], .int .i64 (vg p x), .int .i64 (vg q x), undef, undef, undef, undef, undef, undef], defers := [] }) ?assign ?body ?done ?stop
  case assign =>
    intro l x W K hK
    unfold encP
    gi_wp2
    exact hK
  case body =>
    rintro l pre k W ⟨⟨kt, kr, hzz⟩, hB⟩ hlt
    have hp := fun W' => product_any (vg p k) (vg q k) W' (vg_in hip k).1 (vg_in hip k).2 (vg_in hiq k).1 (vg_in hiq k).2
    have hs := fun W' => sumsPlus_any (dotL p q pre) (vg p k * vg q k) W'
    rw [← dotL_snoc] at hs
    unfold sumV at hp hs
    generalize hUH : hiW (dotL p q (pre ++ [k])) = uh at *
    generalize hUL : loW (dotL p q (pre ++ [k])) = ul at *
    have HU := Lib.hid (And.intro hUH hUL)
    clear hUH hUL
    generalize hiW (dotL p q pre) = sh at *
    generalize loW (dotL p q pre) = sl at *
    generalize hiW (vg p k * vg q k) = xh at *
    generalize loW (vg p k * vg q k) = xl at *
    have HP := Lib.hid hp
    have HS := Lib.hid hs
    clear hp hs
    gi_wp2
    refine wpIn_region_pure 5 (fun i => match i with | 0 => .agg #[.int .u64 sh, .int .u64 sl] | 1 => .int .i64 (vg p k) | 2 => .int .i64 (vg q k) | 3 => .agg #[.int .u64 xh, .int .u64 xl] | _ => .agg #[.int .u64 uh, .int .u64 ul]) (fun ww => Below W.heap.size W ww) (by kernel_rfl) (by kernel_rfl) (by kernel_rfl) ?_ ((Below.refl _ _).drew) ?_ ?_
    · decide
    · rintro i hi f ww hS hd
      have f0 := (kt.kept hS).cell (i := 0) rfl
      have f1 := (kt.kept hS).cell (i := 1) rfl
      rcases i with _ | _ | _ | _ | _ | i
      · refine wpOpIn_list rfl ?_
        simp only [tmOf, putAll, List.map_cons, List.map_nil, List.setIfInBounds_toArray, List.set_cons_zero, List.set_cons_succ]
        gi_wp2
        simp [upd, hS]
      · refine wpOpIn_list rfl ?_
        simp only [tmOf, putAll, List.map_cons, List.map_nil, List.setIfInBounds_toArray, List.set_cons_zero, List.set_cons_succ]
        gi_wp2
        simp [upd, hS]
      · refine wpOpIn_list rfl ?_
        simp only [tmOf, putAll, List.map_cons, List.map_nil, List.setIfInBounds_toArray, List.set_cons_zero, List.set_cons_succ]
        gi_wp2
        simp [upd, hS]
      · have g1 : f 1 = .int .i64 (vg p k) := hd 1 (by kernel_rfl)
        have g2 : f 2 = .int .i64 (vg q k) := hd 2 (by kernel_rfl)
        refine wpOpIn_list rfl ?_
        simp only [tmOf, putAll, List.map_cons, List.map_nil, List.setIfInBounds_toArray, List.set_cons_zero, List.set_cons_succ]
        gi_wp2_with (refine ⟨trivial, ?_⟩; gi_at_call 80; refine (CallsIn.inRound l (callsIn_wide.2 (HP.out _))).mono ?_; rintro e w' ⟨rfl, hbf⟩)
        simp [upd, g1, g2]
        exact hS.trans (hbf.mono hS.size)
      · have g0 : f 0 = .agg #[.int .u64 sh, .int .u64 sl] := hd 0 (by kernel_rfl)
        have g3 : f 3 = .agg #[.int .u64 xh, .int .u64 xl] := hd 3 (by kernel_rfl)
        refine wpOpIn_list rfl ?_
        simp only [tmOf, putAll, List.map_cons, List.map_nil, List.setIfInBounds_toArray, List.set_cons_zero, List.set_cons_succ]
        gi_wp2_with (refine ⟨trivial, ?_⟩; gi_at_call 79; refine (CallsIn.inRound l (callsIn_wide.2 (HS.out _))).mono ?_; rintro e w' ⟨rfl, hbf⟩)
        simp [upd, g0, g3]
        exact hS.trans (hbf.mono hS.size)
      · omega
    · rintro f ww hS hd
      have K0 := kt.kept hS
      have K1 := kr.kept hS
      have e0 := K0.cell (i := 0) rfl
      have e1 := K0.cell (i := 1) rfl
      have e2 := K0.frozen 0
      have e3 := K0.frozen 1
      have g4 : f 4 = .agg #[.int .u64 uh, .int .u64 ul] := hd 4 (by decide)
      simp only [seqWIn, tmOf, putAll, List.map_cons, List.map_nil, List.setIfInBounds_toArray, List.set_cons_zero, List.set_cons_succ, List.length_cons, List.length_nil]
      refine wpOpIn_list rfl ?_
      gi_wp2
      refine ⟨((KeepsOthers.of_grownBy (grown_of_below hS) fun j o e hj => by cases e).trans (KeepsOthers.setCell _ _ _)).trans (KeepsOthers.setCell _ _ _),
        ((KeepsAt.of_below hS (by rintro b (rfl | rfl) <;> omega)).setCell _ _ (by simp only; omega)).setCell _ _ (by simp only; omega), ⟨?_, ?_, ?_⟩, ((hB.trans (hS.mono hB.size)).setCell (by simp only; omega) _).setCell (by simp only; omega) _⟩
      · rw [HU.out.1, HU.out.2]; exact (K0.set_eq 0 _ rfl).set_eq 1 _ rfl
      · exact (K1.other (C := w.heap.size + 1 + 1 + 1) 0 _ (by omega)).other (C := w.heap.size + 1 + 1 + 1) 1 _ (by omega)
      · have := hS.size; simp; omega
  case done =>
    rintro D zs W hD rfl ⟨⟨kt, kr, hzz⟩, hB⟩ hK
    have e0 := kt.cell (i := 0) rfl
    have e1 := kt.cell (i := 1) rfl
    have d0 := kr.cell (i := 0) rfl
    have d1 := kr.cell (i := 1) rfl
    have d2 := kr.frozen 0
    have d3 := kr.frozen 1
    generalize hUH : hiW (dotL p q (List.range 4)) = uh at *
    generalize hUL : loW (dotL p q (List.range 4)) = ul at *
    have HU := Lib.hid (And.intro hUH hUL)
    clear hUH hUL
    gi_wp2
    have hK' := ((KeepsOthers.setCell W ⟨w.heap.size + 1 + 1, 0, none⟩ (.int .u64 uh)).trans (KeepsOthers.setCell _ ⟨w.heap.size + 1 + 1, 1, none⟩ (.int .u64 ul))).same D _ hK rfl
    refine ⟨by simp, .inl ⟨_, _, rfl, run_takeDeferred hK', ?_⟩⟩
    have L := ((kr.set_eq 0 (.int .u64 uh) rfl).set_eq 1 (.int .u64 ul) rfl).own (grownBy_putObj' _ D (.deferred none)) (fun r e => by cases e; exact ⟨_, hK', rfl⟩)
    have z0 := L.cell (i := 0) rfl
    have z1 := L.cell (i := 1) rfl
    refine ⟨.agg #[.int .u64 uh, .int .u64 ul], ?_, by unfold sumV; rw [HU.out.1, HU.out.2], ((hB.setCell (p := ⟨w.heap.size + 1 + 1, 0, none⟩) (by simp only; omega) _).setCell (p := ⟨w.heap.size + 1 + 1, 1, none⟩) (by simp only; omega) _).trans (belowK_b (w := w) (Nat.le_refl _) _ D _ _ (by omega) hK' rfl rfl)⟩
    simp [results, Try.f53, go_sem, z0, z1]
  case stop =>
    rintro D c pre W hD _ ⟨h, _⟩
    exact h.elim

end Go.Proofs.Ythdhakpmhndbfaa
