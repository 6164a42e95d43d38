/-
  The order of two numbers; Lists of strings that are numbers; their sum.
-/
import Derived.Deep.RegionHeld3
import Derived.Test.YtimcbmgmngkagaaDoorK1
import Derived.Test.YtimcbmgmngkagaaDoorK2
import Derived.Test.YtimcbmgmngkagaaDoorK3
import Derived.Test.YtimcbmgmngkagaaDoorK4
import Derived.Test.YtimcbmgmngkagaaDoorK5
namespace Go.Proofs.YtimcbmgmngkagaaDoor
open Go.RowKit
attribute [local go_sem] Oper.semAt_some

def sz (neg : Bool) (n : Nat) : Int := if n = 0 then 0 else if neg then -1 else 1

set_option maxHeartbeats 400000 in
theorem size_any (neg : Bool) (p : Option Addr) (n c : Nat) (w : World) (hn : n ≤ 1000000000) :
    Calls Tryd.prog 47 #[.agg #[.bool neg, .slice p n c]] w fun e w' => e = .returned (.agg #[.int .i64 (sz neg n), .int .i64 (n : Int)]) ∧ Below w.heap.size w w' := by
  have hb0 : Below w.heap.size w ((w.alloc (.cells #[.bool neg, .slice p n c] 47)).alloc (.cells #[.int .i64 0, .int .i64 0] 85)) := ((Below.refl _ w).alloc (Nat.le_refl _) _).alloc (by simp) _
  have b0 : Boxed2 ((w.alloc (.cells #[.bool neg, .slice p n c] 47)).alloc (.cells #[.int .i64 0, .int .i64 0] 85)) w.heap.size (.bool neg) (.slice p n c) 47 := (Boxed2.new w _ _ _).alloc _
  have b1 : Boxed2 ((w.alloc (.cells #[.bool neg, .slice p n c] 47)).alloc (.cells #[.int .i64 0, .int .i64 0] 85)) (w.heap.size + 1) (.int .i64 0) (.int .i64 0) 85 := by
    have := Boxed2.new (w.alloc (.cells #[.bool neg, .slice p n c] 47)) (.int .i64 0) (.int .i64 0) 85
    simpa using this
  by_cases h0 : n = 0
  · subst h0
    go_enter Tryd.func47, Tryd.ntmps47
    go_wp2_with (go_at_call 23; refine (isZero_any _ _ _ _ _ (by decide)).mono ?_; rintro e w1 ⟨rfl, hb1⟩; have b11 := b1.below hb1 (by simp); have c10 := b11.cell0; have c11 := b11.cell1; have q10 := b11.frozen (i := 0); have q11 := b11.frozen (i := 1))
    have r1 := b11.set (.int .i64 0) (.int .i64 0)
    have z0 := r1.cell0
    have z1 := r1.cell1
    refine bodyPost_ret (v := .agg #[.int .i64 0, .int .i64 0]) (by simp [results, Tryd.results47, go_sem, z0, z1]) rfl ⟨rfl, ((hb0.trans (hb1.mono (by simp; omega))).setCell (by simp) _).setCell (by simp) _⟩
  · have h1 : (n == 0) = false := by simpa using h0
    cases neg
    · go_enter Tryd.func47, Tryd.ntmps47
      go_wp2_with (go_at_call 23; refine (isZero_any _ _ _ _ _ (by unfold maxLen; omega)).mono ?_; rintro e w1 ⟨rfl, hb1⟩; have b11 := b1.below hb1 (by simp); have c10 := b11.cell0; have c11 := b11.cell1; have q10 := b11.frozen (i := 0); have q11 := b11.frozen (i := 1); have b01 := b0.below hb1 (by simp; omega); have e00 := b01.cell0; have e01 := b01.cell1)
      have r1 := b11.set (.int .i64 1) (.int .i64 (n : Int))
      have z0 := r1.cell0
      have z1 := r1.cell1
      refine bodyPost_ret (v := .agg #[.int .i64 1, .int .i64 (n : Int)]) (by simp [results, Tryd.results47, go_sem, z0, z1]) rfl ⟨by simp [sz, h0], ((hb0.trans (hb1.mono (by simp; omega))).setCell (by simp) _).setCell (by simp) _⟩
    · go_enter Tryd.func47, Tryd.ntmps47
      go_wp2_with (go_at_call 23; refine (isZero_any _ _ _ _ _ (by unfold maxLen; omega)).mono ?_; rintro e w1 ⟨rfl, hb1⟩; have b11 := b1.below hb1 (by simp); have c10 := b11.cell0; have c11 := b11.cell1; have q10 := b11.frozen (i := 0); have q11 := b11.frozen (i := 1); have b01 := b0.below hb1 (by simp; omega); have e00 := b01.cell0; have e01 := b01.cell1)
      have r1 := b11.set (.int .i64 (-1)) (.int .i64 (n : Int))
      have z0 := r1.cell0
      have z1 := r1.cell1
      refine bodyPost_ret (v := .agg #[.int .i64 (-1), .int .i64 (n : Int)]) (by simp [results, Tryd.results47, go_sem, z0, z1]) rfl ⟨by simp [sz, h0], ((hb0.trans (hb1.mono (by simp; omega))).setCell (by simp) _).setCell (by simp) _⟩


theorem pair_boxes' {W : World} (u0 u1 u2 u3 : Value) (t : TypeId) : Boxed2 ((W.alloc (.cells #[u0, u1] t)).alloc (.cells #[u2, u3] t)) W.heap.size u0 u1 t ∧ Boxed2 ((W.alloc (.cells #[u0, u1] t)).alloc (.cells #[u2, u3] t)) (W.heap.size + 1) u2 u3 t :=
  ⟨(Boxed2.new W _ _ _).alloc _, by have := Boxed2.new (W.alloc (.cells #[u0, u1] t)) u2 u3 t; simpa using this⟩

/-- What holds in every order while both sizes are told. -/
def CI (w0 : World) (tm : Value → Value → Value → Value → Value → Value → Act) (A B : Int × Int) (VA VB : Value) (L : Nat → Bool) (x : Act) (w : World) : Prop :=
  ∃ v5 v6 v7 v8 v9 v10, x = tm v5 v6 v7 v8 v9 v10 ∧ Below w0.heap.size w0 w ∧ (L 0 = true → v7 = VA) ∧ (L 1 = true → v8 = .agg #[.int .i64 A.1, .int .i64 A.2]) ∧ (L 2 = true → v9 = VB) ∧ (L 3 = true → v10 = .agg #[.int .i64 B.1, .int .i64 B.2])
    ∧ (L 4 = true → ∃ B5 a b, v5 = .pointer (some ⟨B5, 0, none⟩) ∧ w0.heap.size ≤ B5 ∧ Boxed2 w B5 a b 85 ∧ (L 6 = true → a = .int .i64 A.1 ∧ b = .int .i64 A.2))
    ∧ (L 5 = true → ∃ B6 a b, v6 = .pointer (some ⟨B6, 0, none⟩) ∧ w0.heap.size ≤ B6 ∧ Boxed2 w B6 a b 85 ∧ (L 7 = true → a = .int .i64 B.1 ∧ b = .int .i64 B.2))
    ∧ (L 4 = true → L 5 = true → v5 ≠ v6) ∧ (L 6 = true → L 4 = true) ∧ (L 7 = true → L 5 = true)

theorem order_facts {w : World} {a : Bool} {p : Option Addr} {n c : Nat} {xs : List Nat} {x : Int} {L : Nat} (hx : NumIs w a p n c xs x L) : (n = 0 → dv BW xs = 0) ∧ (0 < n → 0 < dv BW xs) := by
  refine ⟨fun h => ?_, fun h => ?_⟩
  · rw [List.length_eq_zero_iff.1 (hx.rd.1.trans h)]; rfl
  · exact hx.cn.pos (by decide) (by intro e; have := hx.rd.1; rw [e] at this; simp at this; omega)

theorem order_lt {w w' : World} {a b : Bool} {p q : Option Addr} {n c m d : Nat} {xs ys : List Nat} {x y : Int} {L M : Nat} (hx : NumIs w a p n c xs x L) (hy : NumIs w' b q m d ys y M) (h : n < m) : dv BW xs < dv BW ys :=
  Cn.lt_of_length (b := BW) (by decide) hx.cn.1 hy.cn (by rw [hx.rd.1, hy.rd.1]; exact h)

theorem order_ne {w w' : World} {a b : Bool} {p q : Option Addr} {n c m d : Nat} {xs ys : List Nat} {x y : Int} {L M : Nat} (hx : NumIs w a p n c xs x L) (hy : NumIs w' b q m d ys y M) (hne : ¬ (sz a n = sz b m ∧ n = m)) :
    sgnCmp (sz a n * (n : Int)) (sz b m * (m : Int)) = sgnCmp x y := by
  obtain ⟨x0, x1⟩ := order_facts hx
  obtain ⟨y0, y1⟩ := order_facts hy
  have h1 : n < m → dv BW xs < dv BW ys := order_lt hx hy
  have h2 : m < n → dv BW ys < dv BW xs := order_lt hy hx
  have p1 := hx.pos
  have p2 := hy.pos
  rw [hx.val, hy.val]
  generalize dv BW xs = X at *
  generalize dv BW ys = Y at *
  unfold sz sv sgnCmp at *
  cases a <;> cases b <;> by_cases hn : n = 0 <;> by_cases hm : m = 0 <;> simp [hn, hm] at hne p1 p2 x0 x1 y0 y1 h1 h2 ⊢ <;> (repeat split) <;> omega

theorem order_eq {w w' : World} {a b : Bool} {p q : Option Addr} {n c d : Nat} {xs ys : List Nat} {x y : Int} {L M : Nat} (hx : NumIs w a p n c xs x L) (hy : NumIs w' b q n d ys y M) (hs : sz a n = sz b n) :
    sz a n * sgnCmp (dv BW xs) (dv BW ys) = sgnCmp x y := by
  obtain ⟨x0, x1⟩ := order_facts hx
  obtain ⟨y0, y1⟩ := order_facts hy
  have p1 := hx.pos
  have p2 := hy.pos
  rw [hx.val, hy.val]
  generalize dv BW xs = X at *
  generalize dv BW ys = Y at *
  unfold sz sv sgnCmp at *
  cases a <;> cases b <;> by_cases hn : n = 0 <;> simp [hn] at hs p1 p2 x0 x1 y0 y1 ⊢ <;> (repeat split) <;> omega

theorem sz_bound (a : Bool) (n : Nat) : -(n : Int) ≤ sz a n * (n : Int) ∧ sz a n * (n : Int) ≤ (n : Int) := by
  unfold sz; split
  · simp
  · cases a <;> simp <;> omega
theorem sz_val (a : Bool) (n : Nat) : -1 ≤ sz a n ∧ sz a n ≤ 1 := by
  unfold sz; split
  · simp
  · cases a <;> simp
theorem sgn_val (a b : Int) : -1 ≤ sgnCmp a b ∧ sgnCmp a b ≤ 1 := by
  unfold sgnCmp; split
  · simp
  · split <;> simp
theorem small_prod {a b : Int} (ha : -1 ≤ a ∧ a ≤ 1) (hb : -1 ≤ b ∧ b ≤ 1) : -1 ≤ a * b ∧ a * b ≤ 1 := by
  obtain rfl | rfl | rfl : a = -1 ∨ a = 0 ∨ a = 1 := by omega
  all_goals simp; try omega

set_option maxHeartbeats 4000000 in
theorem compare_any (a b : Bool) (p q : Option Addr) (n c m d : Nat) (xs ys : List Nat) (x y : Int) (L M : Nat) (w : World) (hx : NumIs w a p n c xs x L) (hy : NumIs w b q m d ys y M) (hL : L ≤ 1000000000) (hM : M ≤ 1000000000) :
    Calls Tryd.prog 32 #[.agg #[.bool a, .slice p n c], .agg #[.bool b, .slice q m d]] w fun e w' => e = .returned (.int .i64 (sgnCmp x y)) ∧ Below w.heap.size w w' := by
  have hn := Nat.le_trans hx.len hL
  have hm := Nat.le_trans hy.len hM
  have hb0 : Below w.heap.size w ((w.alloc (.cells #[.bool a, .slice p n c] 47)).alloc (.cells #[.bool b, .slice q m d] 47)) := ((Below.refl _ w).alloc (Nat.le_refl _) _).alloc (by simp) _
  have y0 : w.heap.size + 1 < ((w.alloc (.cells #[.bool a, .slice p n c] 47)).alloc (.cells #[.bool b, .slice q m d] 47)).heap.size := by simp
  obtain ⟨b0, b1⟩ := pair_boxes' (W := w) (.bool a) (.slice p n c) (.bool b) (.slice q m d) 47
  have HX := Lib.hid hx
  have HY := Lib.hid hy
  clear hx hy
  go_enter Tryd.func32, Tryd.ntmps32
  generalize hw0 : ((w.alloc (.cells #[.bool a, .slice p n c] 47)).alloc (.cells #[.bool b, .slice q m d] 47)) = w0 at *
  go_wp2
  go_cut [5, 6] from 7 to 10 (fun v5 v6 wx => ∃ B5 B6, v5 = .pointer (some ⟨B5, 0, none⟩) ∧ v6 = .pointer (some ⟨B6, 0, none⟩) ∧ Boxed2 wx B5 (.int .i64 (sz a n)) (.int .i64 (n : Int)) 85 ∧ Boxed2 wx B6 (.int .i64 (sz b m)) (.int .i64 (m : Int)) 85 ∧ Below w0.heap.size w0 wx)
  case first =>
    refine wp_region_inv (by kernel_rfl) (by kernel_rfl) (CI w0 (fun v5 v6 v7 v8 v9 v10 => { tmps := #[.agg #[.bool a, .slice p n c], .agg #[.bool b, .slice q m d], .pointer (some ⟨w.heap.size, 0, none⟩), .pointer (some ⟨w.heap.size + 1, 0, none⟩), .int .i64 0, v5, v6, v7, v8, v9, v10, undef, undef, undef, undef, undef, undef, undef, undef, undef, undef, undef, undef, undef, undef, undef, undef, undef, undef, undef, undef, undef, undef], defers := [] }) (sz a n, n) (sz b m, m) (.agg #[.bool a, .slice p n c]) (.agg #[.bool b, .slice q m d])) ?h0 ?step ?done
    case h0 => exact ⟨_, _, _, _, _, _, rfl, (Below.refl _ w0).drew, by simp, by simp, by simp, by simp, by simp, by simp, by simp, by simp, by simp⟩
    case step =>
      rintro S i a' w' ⟨v5, v6, v7, v8, v9, v10, rfl, hb, f7, f8, f9, f10, f5, f6, fne, o6, o7⟩ hi hS hd
      have b00 := (b0.below hb (by omega)).cell0
      have b01 := (b0.below hb (by omega)).cell1
      have b10 := (b1.below hb (by omega)).cell0
      have b11 := (b1.below hb (by omega)).cell1
      rcases i with _ | _ | _ | _ | _ | _ | _ | _ | i
      · refine wpOp_list rfl ?_
        go_wp2
        exact ⟨_, _, _, _, _, _, rfl, hb, (fun _ => rfl), (fun h => by first | rfl | exact f8 (by simpa using h)), (fun h => by first | rfl | exact f9 (by simpa using h)), (fun h => by first | rfl | exact f10 (by simpa using h)), (fun h => by obtain ⟨B5, u, v, e1, e2, e3, e4⟩ := f5 (by simpa using h); exact ⟨B5, u, v, e1, e2, e3, fun h => e4 (by simpa using h)⟩), (fun h => by obtain ⟨B5, u, v, e1, e2, e3, e4⟩ := f6 (by simpa using h); exact ⟨B5, u, v, e1, e2, e3, fun h => e4 (by simpa using h)⟩), (fun h h' => fne (by simpa using h) (by simpa using h')), (fun h => by first | (simp; done) | skip; all_goals simp at h ⊢ <;> first | exact o6 h | exact .inl (o6 h) | simp [hd]), (fun h => by first | (simp; done) | skip; all_goals simp at h ⊢ <;> first | exact o7 h | exact .inl (o7 h) | simp [hd])⟩
      · simp [depsB, Region.binds] at hd
        refine wpOp_list rfl ?_
        obtain rfl := f7 (by first | exact hd | exact hd.1)
        go_wp2_with (go_at_call 47; refine (size_any a p n c _ hn).mono ?_; rintro e w1 ⟨rfl, hb1⟩)
        exact ⟨_, _, _, _, _, _, rfl, hb.trans (hb1.mono hb.size), (fun h => by first | rfl | exact f7 (by simpa using h)), (fun _ => rfl), (fun h => by first | rfl | exact f9 (by simpa using h)), (fun h => by first | rfl | exact f10 (by simpa using h)), (fun h => by obtain ⟨B5, u, v, e1, e2, e3, e4⟩ := f5 (by simpa using h); exact ⟨B5, u, v, e1, e2, e3.below hb1 e3.lt, fun h => e4 (by simpa using h)⟩), (fun h => by obtain ⟨B5, u, v, e1, e2, e3, e4⟩ := f6 (by simpa using h); exact ⟨B5, u, v, e1, e2, e3.below hb1 e3.lt, fun h => e4 (by simpa using h)⟩), (fun h h' => fne (by simpa using h) (by simpa using h')), (fun h => by first | (simp; done) | skip; all_goals simp at h ⊢ <;> first | exact o6 h | exact .inl (o6 h) | simp [hd]), (fun h => by first | (simp; done) | skip; all_goals simp at h ⊢ <;> first | exact o7 h | exact .inl (o7 h) | simp [hd])⟩
      · refine wpOp_list rfl ?_
        go_wp2
        exact ⟨_, _, _, _, _, _, rfl, hb, (fun h => by first | rfl | exact f7 (by simpa using h)), (fun h => by first | rfl | exact f8 (by simpa using h)), (fun _ => rfl), (fun h => by first | rfl | exact f10 (by simpa using h)), (fun h => by obtain ⟨B5, u, v, e1, e2, e3, e4⟩ := f5 (by simpa using h); exact ⟨B5, u, v, e1, e2, e3, fun h => e4 (by simpa using h)⟩), (fun h => by obtain ⟨B5, u, v, e1, e2, e3, e4⟩ := f6 (by simpa using h); exact ⟨B5, u, v, e1, e2, e3, fun h => e4 (by simpa using h)⟩), (fun h h' => fne (by simpa using h) (by simpa using h')), (fun h => by first | (simp; done) | skip; all_goals simp at h ⊢ <;> first | exact o6 h | exact .inl (o6 h) | simp [hd]), (fun h => by first | (simp; done) | skip; all_goals simp at h ⊢ <;> first | exact o7 h | exact .inl (o7 h) | simp [hd])⟩
      · simp [depsB, Region.binds] at hd
        refine wpOp_list rfl ?_
        obtain rfl := f9 (by first | exact hd | exact hd.1)
        go_wp2_with (go_at_call 47; refine (size_any b q m d _ hm).mono ?_; rintro e w1 ⟨rfl, hb1⟩)
        exact ⟨_, _, _, _, _, _, rfl, hb.trans (hb1.mono hb.size), (fun h => by first | rfl | exact f7 (by simpa using h)), (fun h => by first | rfl | exact f8 (by simpa using h)), (fun h => by first | rfl | exact f9 (by simpa using h)), (fun _ => rfl), (fun h => by obtain ⟨B5, u, v, e1, e2, e3, e4⟩ := f5 (by simpa using h); exact ⟨B5, u, v, e1, e2, e3.below hb1 e3.lt, fun h => e4 (by simpa using h)⟩), (fun h => by obtain ⟨B5, u, v, e1, e2, e3, e4⟩ := f6 (by simpa using h); exact ⟨B5, u, v, e1, e2, e3.below hb1 e3.lt, fun h => e4 (by simpa using h)⟩), (fun h h' => fne (by simpa using h) (by simpa using h')), (fun h => by first | (simp; done) | skip; all_goals simp at h ⊢ <;> first | exact o6 h | exact .inl (o6 h) | simp [hd]), (fun h => by first | (simp; done) | skip; all_goals simp at h ⊢ <;> first | exact o7 h | exact .inl (o7 h) | simp [hd])⟩
      · simp [depsB, Region.binds] at hd
        have hS6 : S 6 = false := by cases h : S 6; rfl; rw [o6 h] at hS; cases hS
        refine wpOp_list rfl ?_
        go_wp2
        exact ⟨_, _, _, _, _, _, rfl, (hb.alloc hb.size _), (fun h => by first | rfl | exact f7 (by simpa using h)), (fun h => by first | rfl | exact f8 (by simpa using h)), (fun h => by first | rfl | exact f9 (by simpa using h)), (fun h => by first | rfl | exact f10 (by simpa using h)), (fun _ => ⟨_, _, _, rfl, hb.size, Boxed2.new _ _ _ _, fun h => by simp [hS6] at h⟩), (fun h => by obtain ⟨B5, u, v, e1, e2, e3, e4⟩ := f6 (by simpa using h); exact ⟨B5, u, v, e1, e2, e3.alloc _, fun h => e4 (by simpa using h)⟩), (fun h h' => by obtain ⟨B5, u, v, e1, e2, e3, e4⟩ := f6 (by simpa using h'); rw [e1]; have := e3.lt; intro e; simp at e <;> omega), (fun h => by first | (simp; done) | skip; all_goals simp at h ⊢ <;> first | exact o6 h | exact .inl (o6 h) | simp [hd]), (fun h => by first | (simp; done) | skip; all_goals simp at h ⊢ <;> first | exact o7 h | exact .inl (o7 h) | simp [hd])⟩
      · simp [depsB, Region.binds] at hd
        have hS7 : S 7 = false := by cases h : S 7; rfl; rw [o7 h] at hS; cases hS
        refine wpOp_list rfl ?_
        go_wp2
        exact ⟨_, _, _, _, _, _, rfl, (hb.alloc hb.size _), (fun h => by first | rfl | exact f7 (by simpa using h)), (fun h => by first | rfl | exact f8 (by simpa using h)), (fun h => by first | rfl | exact f9 (by simpa using h)), (fun h => by first | rfl | exact f10 (by simpa using h)), (fun h => by obtain ⟨B5, u, v, e1, e2, e3, e4⟩ := f5 (by simpa using h); exact ⟨B5, u, v, e1, e2, e3.alloc _, fun h => e4 (by simpa using h)⟩), (fun _ => ⟨_, _, _, rfl, hb.size, Boxed2.new _ _ _ _, fun h => by simp [hS7] at h⟩), (fun h h' => by obtain ⟨B5, u, v, e1, e2, e3, e4⟩ := f5 (by simpa using h); rw [e1]; have := e3.lt; intro e; simp at e <;> omega), (fun h => by first | (simp; done) | skip; all_goals simp at h ⊢ <;> first | exact o6 h | exact .inl (o6 h) | simp [hd]), (fun h => by first | (simp; done) | skip; all_goals simp at h ⊢ <;> first | exact o7 h | exact .inl (o7 h) | simp [hd])⟩
      · simp [depsB, Region.binds] at hd
        obtain rfl := f8 (by simp [hd])
        obtain ⟨C, u, v, rfl, c2, c3, c4⟩ := f5 (by simp [hd])
        have d0 := c3.cell0
        have d1 := c3.cell1
        have d2 := c3.frozen (i := 0)
        have d3 := c3.frozen (i := 1)
        refine wpOp_list rfl ?_
        go_wp2
        exact ⟨_, _, _, _, _, _, rfl, ((hb.setCell c2 _).setCell c2 _), (fun h => by first | rfl | exact f7 (by simpa using h)), (fun h => by first | rfl | exact f8 (by simpa using h)), (fun h => by first | rfl | exact f9 (by simpa using h)), (fun h => by first | rfl | exact f10 (by simpa using h)), (fun _ => ⟨C, _, _, rfl, c2, c3.set _ _, fun _ => ⟨rfl, rfl⟩⟩), (fun h => by obtain ⟨B6, u, v, e1, e2, e3, e4⟩ := f6 (by simpa using h); exact ⟨B6, u, v, e1, e2, (e3.setOther _ (by rintro rfl; exact fne (by simp [hd]) (by simpa using h) e1.symm)).setOther _ (by rintro rfl; exact fne (by simp [hd]) (by simpa using h) e1.symm), fun h => e4 (by simpa using h)⟩), (fun h h' => fne (by simpa using h) (by simpa using h')), (fun h => by first | (simp; done) | skip; all_goals simp at h ⊢ <;> first | exact o6 h | exact .inl (o6 h) | simp [hd]), (fun h => by first | (simp; done) | skip; all_goals simp at h ⊢ <;> first | exact o7 h | exact .inl (o7 h) | simp [hd])⟩
      · simp [depsB, Region.binds] at hd
        obtain rfl := f10 (by simp [hd])
        obtain ⟨C, u, v, rfl, c2, c3, c4⟩ := f6 (by simp [hd])
        have d0 := c3.cell0
        have d1 := c3.cell1
        have d2 := c3.frozen (i := 0)
        have d3 := c3.frozen (i := 1)
        refine wpOp_list rfl ?_
        go_wp2
        exact ⟨_, _, _, _, _, _, rfl, ((hb.setCell c2 _).setCell c2 _), (fun h => by first | rfl | exact f7 (by simpa using h)), (fun h => by first | rfl | exact f8 (by simpa using h)), (fun h => by first | rfl | exact f9 (by simpa using h)), (fun h => by first | rfl | exact f10 (by simpa using h)), (fun h => by obtain ⟨B6, u, v, e1, e2, e3, e4⟩ := f5 (by simpa using h); exact ⟨B6, u, v, e1, e2, (e3.setOther _ (by rintro rfl; exact fne (by simpa using h) (by simp [hd]) e1)).setOther _ (by rintro rfl; exact fne (by simpa using h) (by simp [hd]) e1), fun h => e4 (by simpa using h)⟩), (fun _ => ⟨C, _, _, rfl, c2, c3.set _ _, fun _ => ⟨rfl, rfl⟩⟩), (fun h h' => fne (by simpa using h) (by simpa using h')), (fun h => by first | (simp; done) | skip; all_goals simp at h ⊢ <;> first | exact o6 h | exact .inl (o6 h) | simp [hd]), (fun h => by first | (simp; done) | skip; all_goals simp at h ⊢ <;> first | exact o7 h | exact .inl (o7 h) | simp [hd])⟩
      · simp at hi; omega
    case done =>
      rintro S a' w' hall ⟨v5, v6, v7, v8, v9, v10, rfl, hb, f7, f8, f9, f10, f5, f6, fne, o6, o7⟩
      obtain ⟨B5, u5, u6, rfl, _, e5, g5⟩ := f5 (hall 4 (by decide))
      obtain ⟨B6, u7, u8, rfl, _, e6, g6⟩ := f6 (hall 5 (by decide))
      obtain ⟨rfl, rfl⟩ := g5 (hall 6 (by decide))
      obtain ⟨rfl, rfl⟩ := g6 (hall 7 (by decide))
      go_wp2
      go_meet
      exact ⟨B5, B6, rfl, rfl, e5, e6, hb⟩
  case rest =>
    obtain ⟨B5, B6, rfl, rfl, e5, e6, hb⟩ := hcut
    have hbx := hb0.trans (hb.mono hb0.size)
    have c5 := e5.cell0
    have c6 := e5.cell1
    have c7 := e6.cell0
    have c8 := e6.cell1
    by_cases hs : sz a n = sz b m ∧ n = m
    · obtain ⟨hs1, rfl⟩ := hs
      have HF := Lib.hid (order_eq HX.out HY.out hs1)
      rw [← hs1] at c7
      have c5' : wc.drew.cell? _ = _ := c5
      have b01 : wc.drew.cell? _ = _ := (b0.below hb (by omega)).cell1
      have b11 : wc.drew.cell? _ = _ := (b1.below hb (by omega)).cell1
      have HX' := HX.out.below hbx
      have HY' := HY.out.below hbx
      have hgx := HX'.cn
      have hgy := HY'.cn
      have hrx : Rd .u64 wc.drew p n xs := HX'.rd
      have hry : Rd .u64 wc.drew q n ys := HY'.rd
      have hcw := compareWords_any p q n c n d xs ys wc.drew hn hn hrx hry hgx hgy
      obtain ⟨SG, hSG⟩ : ∃ SG, sgnCmp (dv BW xs) (dv BW ys) = SG := ⟨_, rfl⟩
      have s1 := sgn_val (dv BW xs) (dv BW ys)
      have s2 := sz_val a n
      rw [hSG] at hcw HF s1
      have hw1 : wrap64 (sz a n * SG) = sz a n * SG := by have := small_prod s2 s1; exact IntWalk.wrap64_in _ ⟨by omega, by omega⟩
      clear HX' HY' hs1
      go_wp2_with fail
      go_region_held3 (fun w' => w'.cell? ⟨B5, 0, none⟩ = some (.int .i64 (sz a n)) ∧ w'.cell? ⟨w.heap.size, 1, none⟩ = some (.slice p n c) ∧ w'.cell? ⟨w.heap.size + 1, 1, none⟩ = some (.slice q n d))
        (simp only [*, and_self])
        (first
          | (go_at_call 49; refine hcw.mono ?_; rintro e w1 ⟨rfl, hb1⟩; have i0 := cell_call (W := wc.drew) hb1 c5'; have i1 := cell_call (W := wc.drew) hb1 b01; have i2 := cell_call (W := wc.drew) hb1 b11))
      all_goals go_wp2
      all_goals refine bodyPost_ret (v := .int .i64 (sz a n * SG)) (by simp [results, Tryd.results32, go_sem, IntWalk.i64_left, hw1]) rfl ⟨by rw [HF.out], hbx.drew.trans (hb1.mono hbx.size)⟩
    · have HF := Lib.hid (order_ne HX.out HY.out hs)
      obtain ⟨A1, hA1⟩ : ∃ A1, sz a n * (n : Int) = A1 := ⟨_, rfl⟩
      obtain ⟨A2, hA2⟩ : ∃ A2, sz b m * (m : Int) = A2 := ⟨_, rfl⟩
      have s1 := sz_bound a n
      have s2 := sz_bound b m
      rw [hA1] at s1 HF
      rw [hA2] at s2 HF
      have hw1 : wrap64 (sz a n * (n : Int)) = A1 := by rw [hA1]; exact IntWalk.wrap64_in _ ⟨by omega, by omega⟩
      have hw2 : wrap64 (sz b m * (m : Int)) = A2 := by rw [hA2]; exact IntWalk.wrap64_in _ ⟨by omega, by omega⟩
      by_cases hs1 : sz a n = sz b m
      · rw [← hs1] at c7 hw2
        have hnm : ¬ n = m := fun e => hs ⟨hs1, e⟩
        clear hA1 hA2 hs1
        go_wp2_with (go_at_call 48; refine (cmp_int _ _ _).mono ?_; rintro e w1 ⟨rfl, rfl⟩)
        all_goals first | (exfalso; omega) | refine bodyPost_ret (v := .int .i64 (sgnCmp A1 A2)) (by simp [results, Tryd.results32, go_sem, HF.out]) rfl ⟨by rw [HF.out], hbx⟩
      · clear hA1 hA2
        go_wp2_with (go_at_call 48; refine (cmp_int _ _ _).mono ?_; rintro e w1 ⟨rfl, rfl⟩)
        all_goals first | (exfalso; omega) | refine bodyPost_ret (v := .int .i64 (sgnCmp A1 A2)) (by simp [results, Tryd.results32, go_sem, HF.out]) rfl ⟨by rw [HF.out], hbx⟩

def cmpOut (ok : Bool) (z : Int) (e : Ending) : Prop := e = .returned (.tuple #[.int .i64 (if ok then z else 0), .int .i64 (if ok then 0 else 6)])

set_option maxHeartbeats 1000000 in
theorem cmp_any (s t : ByteArray) (w : World) (hs : s.size ≤ maxLen) (ht : t.size ≤ maxLen) :
    Calls Tryd.prog 16 #[.string s, .string t] w fun e w' => cmpOut (numB s.data.toList && numB t.data.toList) (sgnCmp (strV s.data.toList) (strV t.data.toList)) e ∧ Below w.heap.size w w' := by
  cases h : (numB s.data.toList && numB t.data.toList)
  · go_enter Tryd.func16, Tryd.ntmps16
    go_wp2_with (go_at_call 18; refine (pair_bad s t _ hs ht h).mono ?_; rintro e w1 ⟨rfl, hb1⟩)
    go_ret2
    exact ⟨rfl, (hb1.alloc hb1.size _).alloc (by have := hb1.size; simp; omega) _⟩
  · simp only [Bool.and_eq_true] at h
    go_enter Tryd.func16, Tryd.ntmps16
    go_wp2_with (first
      | (go_at_call 18; refine (pair_ok s t _ hs ht h.1 h.2).mono ?_; rintro e w1 ⟨a, p, n, c, xs, b, q, m, d, ys, rfl, hx, hy, hb1⟩; have hbA : Below w1.heap.size w1 ((w1.alloc (.cells #[.bool a, .slice p n c] 47)).alloc (.cells #[.bool b, .slice q m d] 47)) := (((Below.refl _ _).alloc (Nat.le_refl _) _).alloc (by simp) _); have hbW := hb1.trans (hbA.mono hb1.size); have hxA := hx.below hbA; have hyA := hy.below hbA)
      | (go_at_call 32; refine (compare_any _ _ _ _ _ _ _ _ _ _ _ _ _ _ _ hxA hyA (by omega) (by omega)).mono ?_; rintro e w2 ⟨rfl, hb2⟩))
    go_ret2
    exact ⟨rfl, hbW.trans (hb2.mono hbW.size)⟩
end Go.Proofs.YtimcbmgmngkagaaDoor

namespace Go.Proofs.YtimcbmgmngkagaaDoor
open Go.RowKit

/-- A list of strings. -/
def RdS (w : World) (a : Option Addr) (l : List ByteArray) : Prop := ∀ i s, l[i]? = some s → ∃ b off, a = some ⟨b, off, none⟩ ∧ b < w.heap.size ∧ w.cell? ⟨b, off + i, none⟩ = some (.string s)

theorem RdS.below {w w' : World} {a : Option Addr} {l : List ByteArray} (h : RdS w a l) (hb : Below w.heap.size w w') : RdS w' a l := by
  intro i s hi
  obtain ⟨b, off, ha, hlt, hc⟩ := h i s hi
  exact ⟨b, off, ha, Nat.lt_of_lt_of_le hlt hb.size, (hb.cell (p := ⟨b, _, none⟩) hlt).trans hc⟩

/-- All are numbers. -/
def allB (l : List ByteArray) : Bool := l.all fun s => numB s.data.toList

theorem all_take {l : List ByteArray} {j : Nat} (hj : j < l.length) (h : allB (l.take j) = true) (h2 : numB l[j].data.toList = true) : allB (l.take (j + 1)) = true := by
  unfold allB at *
  rw [List.take_succ_eq_append_getElem hj, List.all_append, h]
  simpa using h2

theorem all_not {l : List ByteArray} {j : Nat} (hj : j < l.length) (h2 : numB l[j].data.toList = false) : allB l = false := by
  unfold allB
  rw [List.all_eq_false]
  exact ⟨l[j], List.getElem_mem _, by simp [h2]⟩

set_option maxHeartbeats 1000000 in
theorem areAll_any (a : Option Addr) (n c : Nat) (l : List ByteArray) (w : World) (hl : l.length = n) (hn : n ≤ 1000000000000) (hr : RdS w a l) (hs : ∀ s ∈ l, s.size ≤ maxLen) :
    Calls Tryd.prog 25 #[.slice a n c] w fun e w' => e = .returned (.bool (allB l)) ∧ Below w.heap.size w w' := by
  have HL := Lib.hid hl
  have HR := Lib.hid hr
  have HS := Lib.hid hs
  clear hl hr hs
  go_enter Tryd.func25, Tryd.ntmps25
  go_wp2
  go_loopw [4, 7] (fun v4 i wr => ∃ j : Nat, j ≤ n ∧ i = .int .i64 j ∧ Hid (allB (l.take j) = true) ∧ Below w.heap.size w wr) (fun _ i _ => n - (intOf i).toNat)
  case atStart => exact ⟨0, Nat.zero_le _, rfl, rfl, Below.refl _ _⟩
  case round =>
    obtain ⟨j, hj, rfl, hall, hb⟩ := hrel
    by_cases hlt : j < n
    · have hjl : j < l.length := by rw [HL.out]; exact hlt
      obtain ⟨b, off, rfl, hb1, hc⟩ := (HR.out.below hb) j _ (List.getElem?_eq_getElem hjl)
      have hsz := HS.out _ (List.getElem_mem hjl)
      generalize hx : l[j] = x at *
      have HX := Lib.hid hx
      clear hx
      cases hnb : numB x.data.toList
      · have HN := Lib.hid hnb
        clear hnb
        go_wp2_with (go_at_call 14; refine (is_any x _ hsz).mono ?_; rintro e w1 ⟨rfl, hb1⟩; rw [HN.out])
        go_ret
        refine ⟨?_, hb.trans (hb1.mono hb.size)⟩
        rw [all_not hjl (by rw [HX.out]; exact HN.out)]
        rfl
      · have HN := Lib.hid hnb
        clear hnb
        go_wp2_with (go_at_call 14; refine (is_any x _ hsz).mono ?_; rintro e w1 ⟨rfl, hb1⟩; rw [HN.out])
        go_roundw
        case rel => exact ⟨j + 1, by omega, by go_num, all_take hjl hall.out (by rw [HX.out]; exact HN.out), hb.trans (hb1.mono hb.size)⟩
        case measure => simp [intOf]; omega
    · obtain rfl : j = n := by omega
      go_wp2
      go_ret
      have := hall.out
      rw [List.take_of_length_le (by rw [HL.out]; exact Nat.le_refl _)] at this
      exact ⟨by rw [this]; rfl, hb⟩


theorem Tryd.info79 : (Tryd.prog.info? 47).map (fun i => (i.zero, i.size, i.bytes)) = some (some (.agg #[.bool false, .slice none 0 0]), 2, 32) := by kernel_rfl

theorem mkNums (n : Nat) (hn : n ≤ 1000000) (w : World) : (Instr.makeSlice 57 (.int .i64 (n : Int)) (.int .i64 (n : Int))).run Tryd.prog w = .ok (.slice (some ⟨w.heap.size, 0, none⟩) n n) (w.alloc (.cells (Go.madeCells #[.bool false, .slice none 0 0] (n * 2)) 47)) := by
  obtain ⟨i, hi, hz, hs, hb⟩ := info_parts Tryd.info79
  have hr := run_make (P := Tryd.prog) w 57 47 i _ Tryd.underlying57 hi hz .i64 .i64 n n (by omega) (Int.le_refl _) (by rw [hb]; omega) (by omega)
  simp only [Int.toNat_natCast, hs] at hr
  exact hr

theorem madeNums_at (n i : Nat) (v : Value) (h : (Go.madeCells #[.bool false, .slice none 0 0] n)[i]? = some v) (x : Int) : v ≠ .int .u64 x := by
  intro e
  subst e
  have hlt : i < (Go.madeCells #[Value.bool false, .slice none 0 0] n).size := (Array.getElem?_eq_some_iff.1 h).1
  simp only [Go.madeCells] at h hlt
  simp at hlt
  simp [hlt] at h
  rcases Nat.mod_two_eq_zero_or_one i with e | e <;> rw [e] at h <;> simp at h

/-- What is done of a row of numbers. -/
def Part (w : World) (B n : Nat) (zs : List Int) (L : Nat) : Prop :=
  ∃ cs : Array Value, w.heap[B]? = some (.cells cs 47 (0, 0)) ∧ cs.size = n * 2 ∧ (∀ (i : Nat) (v : Value), cs[i]? = some v → ∀ x : Int, v ≠ Value.int .u64 x) ∧
    ∀ i z, zs[i]? = some z → ∃ neg p m c xs, cs[i * 2]? = some (.bool neg) ∧ cs[i * 2 + 1]? = some (.slice p m c) ∧ NumIs w neg p m c xs z L

theorem Part.nums {w : World} {B n : Nat} {zs : List Int} {L : Nat} (h : Part w B n zs L) : Nums w (some ⟨B, 0, none⟩) zs L := by
  obtain ⟨cs, hh, hn, _, hz⟩ := h
  intro i z hi
  obtain ⟨neg, p, m, c, xs, h0, h1, hx⟩ := hz i z hi
  refine ⟨B, 0, neg, p, m, c, xs, rfl, (Array.getElem?_eq_some_iff.1 hh).1, ?_, ?_, hx⟩
  · simp [World.cell?, hh, h0]
  · simp [World.cell?, hh, h1]

theorem Part.below {w w' : World} {B n : Nat} {zs : List Int} {L : Nat} (h : Part w B n zs L) (hb : Below w.heap.size w w') : Part w' B n zs L := by
  obtain ⟨cs, hh, hn, hv, hz⟩ := h
  refine ⟨cs, (hb.block B (Array.getElem?_eq_some_iff.1 hh).1).trans hh, hn, hv, fun i z hi => ?_⟩
  obtain ⟨neg, p, m, c, xs, h0, h1, hx⟩ := hz i z hi
  exact ⟨neg, p, m, c, xs, h0, h1, hx.below hb⟩

theorem NumIs.set {w : World} {neg : Bool} {p : Option Addr} {n c : Nat} {xs : List Nat} {z : Int} {L : Nat} (h : NumIs w neg p n c xs z L) {B o : Nat} {u : Value} (hu : w.cell? ⟨B, o, none⟩ = some u) (hne : ∀ x, u ≠ .int .u64 x) (v : Value) : NumIs (w.setCell ⟨B, o, none⟩ v) neg p n c xs z L :=
  { h with rd := h.rd.setOther hu hne v }

theorem Part.put {w : World} {B n : Nat} {zs : List Int} {L : Nat} (h : Part w B n zs L) {neg : Bool} {p : Option Addr} {m c : Nat} {xs : List Nat} {z : Int} (hx : NumIs w neg p m c xs z L) (hlt : zs.length < n) :
    Part ((w.setCell ⟨B, zs.length * 2, none⟩ (.bool neg)).setCell ⟨B, zs.length * 2 + 1, none⟩ (.slice p m c)) B n (zs ++ [z]) L ∧
    (∃ u v, w.cell? ⟨B, zs.length * 2, none⟩ = some u ∧ w.cell? ⟨B, zs.length * 2 + 1, none⟩ = some v) ∧ (∀ i, w.frozen? ⟨B, i, none⟩ = false) := by
  obtain ⟨cs, hh, hn, hv, hz⟩ := h
  have hc : ∀ i, w.cell? ⟨B, i, none⟩ = cs[i]? := fun i => by simp [World.cell?, hh]
  have l0 : zs.length * 2 < cs.size := by omega
  have l1 : zs.length * 2 + 1 < cs.size := by omega
  have u0 : w.cell? ⟨B, zs.length * 2, none⟩ = some cs[zs.length * 2] := by rw [hc, Array.getElem?_eq_getElem l0]
  have u1 : w.cell? ⟨B, zs.length * 2 + 1, none⟩ = some cs[zs.length * 2 + 1] := by rw [hc, Array.getElem?_eq_getElem l1]
  have u1' : (w.setCell ⟨B, zs.length * 2, none⟩ (.bool neg)).cell? ⟨B, zs.length * 2 + 1, none⟩ = some cs[zs.length * 2 + 1] := (World.cell?_setCell_other _ _ _ _ (by simp)).trans u1
  have n0 := hv _ _ (Array.getElem?_eq_getElem l0)
  have n1 := hv _ _ (Array.getElem?_eq_getElem l1)
  have hset : ∀ {q : Bool} {r : Option Addr} {k d : Nat} {ys : List Nat} {y : Int}, NumIs w q r k d ys y L → NumIs ((w.setCell ⟨B, zs.length * 2, none⟩ (.bool neg)).setCell ⟨B, zs.length * 2 + 1, none⟩ (.slice p m c)) q r k d ys y L := fun g => (g.set u0 n0 _).set u1' n1 _
  refine ⟨⟨(cs.setIfInBounds (zs.length * 2) (.bool neg)).setIfInBounds (zs.length * 2 + 1) (.slice p m c), ?_, by simp [hn], ?_, ?_⟩, ⟨_, _, u0, u1⟩, fun i => by simp [World.frozen?, hh]⟩
  · rw [Lib.heap_setCell_same (Lib.heap_setCell_same hh _)]
  · intro i v hi x
    rw [Array.getElem?_setIfInBounds] at hi
    split at hi
    · split at hi
      · cases hi; simp
      · cases hi
    · rw [Array.getElem?_setIfInBounds] at hi
      split at hi
      · first
          | (cases hi; simp; done)
          | (split at hi <;> cases hi; simp)
      · exact hv _ _ hi x
  · intro i z' hi
    rcases Nat.lt_or_ge i zs.length with hlt' | hge
    · rw [List.getElem?_append_left hlt'] at hi
      obtain ⟨neg', p', m', c', xs', h0, h1, hx'⟩ := hz i z' hi
      refine ⟨neg', p', m', c', xs', ?_, ?_, hset hx'⟩
      · rw [Array.getElem?_setIfInBounds_ne (by omega), Array.getElem?_setIfInBounds_ne (by omega)]; exact h0
      · rw [Array.getElem?_setIfInBounds_ne (by omega), Array.getElem?_setIfInBounds_ne (by omega)]; exact h1
    · obtain rfl : i = zs.length := by
        have := (List.getElem?_eq_some_iff.1 hi).1
        simp at this; omega
      simp at hi
      subst hi
      refine ⟨neg, p, m, c, xs, ?_, ?_, hset hx⟩
      · rw [Array.getElem?_setIfInBounds_ne (by omega), Array.getElem?_setIfInBounds_self_of_lt l0]
      · rw [Array.getElem?_setIfInBounds_self_of_lt (by simp; omega)]


def vals (l : List ByteArray) : List Int := l.map fun s => strV s.data.toList

theorem allB_at {l : List ByteArray} (h : allB l = true) {j : Nat} (hj : j < l.length) : numB l[j].data.toList = true := (List.all_eq_true.1 h) _ (List.getElem_mem hj)

set_option maxHeartbeats 1000000 in
theorem readAll_any (a : Option Addr) (n c : Nat) (l : List ByteArray) (w : World) (hl : l.length = n) (hn : n ≤ 1000000) (hr : RdS w a l) (hs : ∀ s ∈ l, s.size ≤ maxLen) (hall : allB l = true) :
    Calls Tryd.prog 26 #[.slice a n c] w fun e w' => ∃ B, e = .returned (.slice (some ⟨B, 0, none⟩) n n) ∧ Nums w' (some ⟨B, 0, none⟩) (vals l) 223 ∧ Below w.heap.size w w' := by
  have hmk := mkNums n hn w
  have hP : Part (w.alloc (.cells (Go.madeCells #[.bool false, .slice none 0 0] (n * 2)) 47)) w.heap.size n [] 223 :=
    ⟨_, World.alloc_heap_new w _, Go.size_madeCells _ _, fun i v h x => madeNums_at _ _ _ h x, fun i z h => by simp at h⟩
  have hB0 : Below w.heap.size w (w.alloc (.cells (Go.madeCells #[.bool false, .slice none 0 0] (n * 2)) 47)) := (Below.refl _ w).alloc (Nat.le_refl _) _
  have y0 : w.heap.size < (w.alloc (.cells (Go.madeCells #[.bool false, .slice none 0 0] (n * 2)) 47)).heap.size := by simp
  have HL := Lib.hid hl
  have HR := Lib.hid hr
  have HS := Lib.hid hs
  have HA := Lib.hid hall
  clear hl hr hs hall
  go_enter Tryd.func26, Tryd.ntmps26
  go_wp2
  go_loopw [4, 5, 11] (fun v4 v5 i wr => ∃ j : Nat, j ≤ n ∧ i = .int .i64 j ∧ Hid (Part wr w.heap.size n (vals (l.take j)) 223) ∧ w.heap.size < wr.heap.size ∧ Below w.heap.size w wr) (fun _ _ i _ => n - (intOf i).toNat)
  case atStart => exact ⟨0, Nat.zero_le _, rfl, hP, y0, hB0⟩
  case round =>
    obtain ⟨j, hj, rfl, hp, hlt0, hb⟩ := hrel
    by_cases hlt : j < n
    · have hjl : j < l.length := by rw [HL.out]; exact hlt
      have hlen : (vals (l.take j)).length = j := by simp [vals]; omega
      obtain ⟨b, off, rfl, hb1, hc⟩ := (HR.out.below hb) j _ (List.getElem?_eq_getElem hjl)
      have hsz := HS.out _ (List.getElem_mem hjl)
      have hnb := allB_at HA.out hjl
      have hvs : vals (l.take (j + 1)) = vals (l.take j) ++ [strV l[j].data.toList] := by unfold vals; rw [List.take_succ_eq_append_getElem hjl, List.map_append]; rfl
      generalize l[j] = x at *
      have HN := Lib.hid hnb
      have HV := Lib.hid hvs
      clear hnb hvs
      go_wp2_with (go_at_call 34; refine (read_any x _ hsz HN.out).mono ?_; rintro e w1 ⟨neg, p, m, d, xs, rfl, hx, hb2⟩; obtain ⟨q1, ⟨u, v, q2, q3⟩, q4⟩ := (hp.out.below hb2).put hx (by rw [hlen]; exact hlt); rw [hlen] at q1 q2 q3; have q5 := q4 (j * 2); have q6 := q4 (j * 2 + 1))
      go_roundw
      case rel => exact ⟨j + 1, by omega, by go_num, (by rw [HV.out]; exact q1), by simp; exact Nat.lt_of_lt_of_le hlt0 hb2.size, ((hb.trans (hb2.mono hb.size)).setCell (by simp) _).setCell (by simp) _⟩
      case measure => simp [intOf]; omega
    · obtain rfl : j = n := by omega
      go_wp2
      go_ret
      have := hp.out.nums
      rw [List.take_of_length_le (by rw [HL.out]; exact Nat.le_refl _)] at this
      exact ⟨_, rfl, this, hb⟩

end Go.Proofs.YtimcbmgmngkagaaDoor
