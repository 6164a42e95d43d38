/-
  The reference's quotients.
-/
import Derived.Deep.CutBlock
import Derived.Test.YtopdeakjnloemaaK1
import Derived.Test.YtopdeakjnloemaaK2
import Derived.Test.YtopdeakjnloemaaK3
import Derived.Test.YtopdeakjnloemaaK4
namespace Go.Proofs.Ytopdeakjnloemaa
open Go.RowKit
attribute [local go_sem] Oper.semAt_some

theorem RIs.lt {w : World} {neg : Bool} {p : Option Addr} {n c : Nat} {xs : List Nat} {z : Int} (h : RIs w neg p n c xs z) : z.natAbs < BR ^ n := by
  have h1 := dv_lt h.cn.1
  rw [h.rd.1] at h1
  rw [h.val, sv_natAbs]
  exact h1
theorem RIs.len_le {w : World} {neg : Bool} {p : Option Addr} {n c : Nat} {xs : List Nat} {z : Int} (h : RIs w neg p n c xs z) {L : Nat} (hz : z.natAbs < BR ^ L) : n ≤ L := by
  have := h.cn.length_le (b := BR) (by decide) (m := L) (by rw [h.val, sv_natAbs] at hz; exact hz)
  rw [h.rd.1] at this
  exact this
theorem RIs.neg_iff {w : World} {neg : Bool} {p : Option Addr} {n c : Nat} {xs : List Nat} {z : Int} (h : RIs w neg p n c xs z) : neg = true ↔ z < 0 := by
  have hp : 0 < n → 0 < dv BR xs := fun e => h.cn.pos (by decide) (by intro e2; have := h.rd.1; rw [e2] at this; simp at this; omega)
  have hv := h.val
  constructor
  · intro e
    have := hp (h.pos e)
    rw [hv, e]
    simp [sv]; omega
  · intro e
    cases neg
    · rw [hv] at e; simp [sv] at e; omega
    · rfl
theorem RIs.zero_iff {w : World} {neg : Bool} {p : Option Addr} {n c : Nat} {xs : List Nat} {z : Int} (h : RIs w neg p n c xs z) : z = 0 ↔ n = 0 := by
  constructor
  · intro e
    have := h.len_le (L := 0) (by rw [e]; simp)
    omega
  · intro e
    have := h.lt
    rw [e] at this
    simp at this
    exact this

theorem RIs.setAt {W : World} {neg : Bool} {p : Option Addr} {n c : Nat} {xs : List Nat} {z : Int} (h : RIs W neg p n c xs z) {B i : Nat} {u : Value} (hu : W.cell? ⟨B, i, none⟩ = some u) (hne : ∀ x, u ≠ .int .i64 x) (v : Value) : RIs (W.setCell ⟨B, i, none⟩ v) neg p n c xs z := { h with rd := h.rd.setOther hu hne v }
/-- A number is stored into a variable. -/
theorem RIs.setBox {W : World} {neg : Bool} {p : Option Addr} {n c : Nat} {xs : List Nat} {z : Int} (h : RIs W neg p n c xs z) {B : Nat} {b0 : Bool} {p0 : Option Addr} {n0 c0 : Nat} {t : TypeId} (hk : Blk W B #[.bool b0, .slice p0 n0 c0] t) (b1 : Bool) (v1 : Value) : RIs ((W.setCell ⟨B, 0, none⟩ (.bool b1)).setCell ⟨B, 1, none⟩ v1) neg p n c xs z :=
  (h.setAt (hk.cell (i := 0) rfl) (by intro x e; cases e) _).setAt ((hk.set_eq 0 (.bool b1) rfl).cell (i := 1) rfl) (by intro x e; cases e) _

/-- What a division hands back. -/
def DivR (w : World) (x y : Int) (e : Ending) (w' : World) : Prop :=
  ∃ a p n c xs b q m d ys, e = .returned (.tuple #[.agg #[.bool a, .slice p n c], .agg #[.bool b, .slice q m d]]) ∧ RIs w' a p n c xs (x / y) ∧ RIs w' b q m d ys (x % y) ∧ Below w.heap.size w w'

set_option maxRecDepth 100000 in
set_option maxHeartbeats 2000000 in
theorem rabs_any (neg : Bool) (p : Option Addr) (n c : Nat) (xs : List Nat) (z : Int) (w : World) (hn : n ≤ 1000000000) (hx : RIs w neg p n c xs z) :
    Calls Try.prog 96 #[.agg #[.bool neg, .slice p n c]] w (RV w (z.natAbs : Int) n) := by
  have hb0 : Below w.heap.size w ((w.alloc (.cells #[.bool neg, .slice p n c] 82)).alloc (.cells #[.bool false, .slice none 0 0] 82)) := ((Below.refl _ w).alloc (Nat.le_refl _) _).alloc (by simp) _
  have b1 : Boxed2 ((w.alloc (.cells #[.bool neg, .slice p n c] 82)).alloc (.cells #[.bool false, .slice none 0 0] 82)) (w.heap.size + 1) (.bool false) (.slice none 0 0) 82 := by
    have := Boxed2.new (w.alloc (.cells #[.bool neg, .slice p n c] 82)) (.bool false) (.slice none 0 0) 82
    simpa using this
  have hx1 := hx.below hb0
  have HX := Lib.hid hx
  go_enter Try.func96, Try.ntmps96
  go_wp2_with (go_at_call 75; refine (rnumber_any _ _ _ _ xs _ (by unfold maxLen; omega) hx1.cap hx1.rd hx1.cn.1).mono ?_; rintro e w2 ⟨neg2, p2, n2, c2, xs2, rfl, hx2, hn2, hb2⟩; have b2 := b1.below hb2 b1.lt; have c20 := b2.cell0; have c21 := b2.cell1; have q20 := b2.frozen (i := 0); have q21 := b2.frozen (i := 1))
  have b3 := b2.set (.bool neg2) (.slice p2 n2 c2)
  have z0 := b3.cell0
  have z1 := b3.cell1
  refine bodyPost_ret (v := .agg #[.bool neg2, .slice p2 n2 c2]) (by simp [results, Try.results96, go_sem, z0, z1]) rfl ⟨neg2, p2, n2, c2, xs2, rfl, { rd := (hx2.rd.boxI b2 _).boxI (b2.set0 _) _, cap := hx2.cap, cn := hx2.cn, pos := hx2.pos, val := ?_ }, hn2, ((hb0.trans (hb2.mono hb0.size)).setCell (by simp) _).setCell (by simp) _⟩
  rw [← hx2.val, HX.out.val, sv_natAbs]
  rfl

theorem ten16 : BR ^ 4 = 10000000000000000 := by decide
theorem RIs.int {w : World} {neg : Bool} {p : Option Addr} {n c : Nat} {xs : List Nat} {z : Int} (h : RIs w neg p n c xs z) (hn : n ≤ 4) : inI64 z = true ∧ intV z = z ∧ -10000000000000000 < z ∧ z < 10000000000000000 := by
  have h1 := h.lt
  have h2 : BR ^ n ≤ BR ^ 4 := Nat.pow_le_pow_right (by decide) hn
  rw [ten16] at h2
  have h3 : inI64 z = true := by unfold inI64; simp; omega
  refine ⟨h3, ?_, by omega, by omega⟩
  unfold intV
  rw [h3]
  rfl

set_option maxRecDepth 100000 in
set_option maxHeartbeats 4000000 in
theorem rdiv_small (a b : Bool) (p q : Option Addr) (n c m d : Nat) (xs ys : List Nat) (x y : Int) (w : World) (hn : n ≤ 4) (hm : m ≤ 4) (hx : RIs w a p n c xs x) (hy : RIs w b q m d ys y) (hy0 : y ≠ 0) :
    Calls Try.prog 73 #[.agg #[.bool a, .slice p n c], .agg #[.bool b, .slice q m d]] w (DivR w x y) := by
  obtain ⟨ix, vx, x0, x1⟩ := hx.int hn
  obtain ⟨iy, vy, y0, y1⟩ := hy.int hm
  obtain ⟨s1, s2⟩ := small_quot (x := x) hy0
  have hni : (n : Int) ≤ 4 := by omega
  have hmi : (m : Int) ≤ 4 := by omega
  obtain ⟨w1, hw1⟩ : ∃ w1, ((((w.alloc (.cells #[.bool a, .slice p n c] 82)).alloc (.cells #[.bool b, .slice q m d] 82)).alloc (.cells #[.bool false, .slice none 0 0] 82)).alloc (.cells #[.bool false, .slice none 0 0] 82)) = w1 := ⟨_, rfl⟩
  have hb1 : Below w.heap.size w w1 := by
    rw [← hw1]
    exact ((((Below.refl _ w).alloc (Nat.le_refl _) _).alloc (by simp) _).alloc (by rw [World.size_alloc, World.size_alloc]; omega) _).alloc (by rw [World.size_alloc, World.size_alloc, World.size_alloc]; omega) _
  have k0 : Blk w1 w.heap.size #[.bool a, .slice p n c] 82 := by
    rw [← hw1]; exact (((Blk.new w _ _).alloc _).alloc _).alloc _
  have k1 : Blk w1 (w.heap.size + 1) #[.bool b, .slice q m d] 82 := by
    rw [← hw1]; exact ((Blk.new' _ _ _ (by simp)).alloc _).alloc _
  have k2 : Blk w1 (w.heap.size + 1 + 1) #[.bool false, .slice none 0 0] 82 := by
    rw [← hw1]; exact (Blk.new' _ _ _ (by simp)).alloc _
  have k3 : Blk w1 (w.heap.size + 1 + 1 + 1) #[.bool false, .slice none 0 0] 82 := by
    rw [← hw1]; exact Blk.new' _ _ _ (by simp)
  have c0 := k0.cell (i := 0) rfl
  have c1 := k0.cell (i := 1) rfl
  have c2 := k1.cell (i := 0) rfl
  have c3 := k1.cell (i := 1) rfl
  have hx1 := hx.below hb1
  have hy1 := hy.below hb1
  go_enter Try.func73, Try.ntmps73
  go_wp2_with fail
  refine (rint_any a p n c xs x _ (by omega) hx1).mono ?_
  rintro e w2 ⟨rfl, hb2⟩
  rw [ix, vx]
  have k1 := k1.kept hb2
  have c2 := k1.cell (i := 0) rfl
  have c3 := k1.cell (i := 1) rfl
  have hy2 := hy1.below hb2
  go_wp2_with fail
  refine (rint_any b q m d ys y _ (by omega) hy2).mono ?_
  rintro e w3 ⟨rfl, hb3⟩
  rw [iy, vy]
  have hbw := (hb1.trans (hb2.mono hb1.size)).trans (hb3.mono (Nat.le_trans hb1.size hb2.size))
  have k2 := (k2.kept hb2).kept hb3
  have k3 := (k3.kept hb2).kept hb3
  obtain ⟨M, hM⟩ : ∃ M, x.tdiv y = M := ⟨_, rfl⟩
  obtain ⟨N, hN⟩ : ∃ N, x.tmod y = N := ⟨_, rfl⟩
  have bM : M.natAbs ≤ x.natAbs := by rw [← hM, Int.natAbs_tdiv]; exact Nat.div_le_self _ _
  have bN : N.natAbs ≤ x.natAbs := by rw [← hN, Int.natAbs_tmod]; exact Nat.mod_le _ _
  have m0 : -10000000000000000 < M := by omega
  have m1 : M < 10000000000000000 := by omega
  have n0 : -10000000000000000 < N := by omega
  have n1 : N < 10000000000000000 := by omega
  rw [hM, hN] at s1 s2
  have S1 := Lib.hid s1
  have S2 := Lib.hid s2
  clear s1 s2 bM bN ix vx iy vy hx hy hx1 hy1 hy2
  clear c0 c1 c2 c3 hb2 hb3 hb1 hw1
  go_wp2_with fail
  go_quiet (fail)
  go_upto_if 48 with fail
  go_cut [10, 11] from 47 to 60 (fun v10 v11 wx => v10 = .int .i64 (x / y) ∧ v11 = .int .i64 (x % y) ∧ Below w3.heap.size w3 wx)
  case first =>
    have hbd : ∀ k, Below w3.heap.size w3 (w3.drewN k) := fun k => ⟨rfl, rfl, rfl, Nat.le_refl _, fun _ _ => rfl⟩
    by_cases hneg : N < 0
    · obtain ⟨t1, t2, t3⟩ := S1.out hneg
      have hmx : max y (-y) = (y.natAbs : Int) := by omega
      rcases Int.lt_or_le y 0 with h | h
      · have ht := t2 h
        have hy1 : ¬ (0 < y) := by omega
        clear t1 t2
        have HT3 := Lib.hid t3
        have HT := Lib.hid ht
        clear t3 ht
        go_wp2_with fail
        go_meet
        case rel => exact ⟨congrArg (Value.int .i64) HT.out, congrArg (Value.int .i64) HT3.out, hbd _⟩
      · have ht := t1 (by omega)
        have hy1 : 0 < y := by omega
        clear t1 t2
        have HT3 := Lib.hid t3
        have HT := Lib.hid ht
        clear t3 ht
        go_wp2_with fail
        go_meet
        case rel => exact ⟨congrArg (Value.int .i64) HT.out, congrArg (Value.int .i64) HT3.out, hbd _⟩
    · obtain ⟨t1, t2⟩ := S2.out (by omega)
      have HT3 := Lib.hid t2
      have HT := Lib.hid t1
      clear t1 t2
      go_wp2_with fail
      go_meet
      case rel => exact ⟨congrArg (Value.int .i64) HT.out, congrArg (Value.int .i64) HT3.out, hbd _⟩
  case rest =>
    obtain ⟨rfl, rfl, hbc⟩ := hcut
    have k2 := k2.kept hbc
    have k3 := k3.kept hbc
    have hbC := hbw.trans (hbc.mono hbw.size)
    have bq : (x / y).natAbs ≤ x.natAbs := Int.natAbs_ediv_le_natAbs _ _
    have br := Int.emod_nonneg x hy0
    have br2 : x % y < y.natAbs := Int.emod_lt x hy0
    go_wp2_with fail
    refine (from_any _ (by omega) (by omega) _).mono ?_
    rintro e w4 ⟨a4, p4, n4, c4, xs4, rfl, hz4, _, hb4⟩
    have hb4' := hbC.trans (hb4.mono hbC.size)
    go_wp2_with fail
    refine (from_any _ (by omega) (by omega) _).mono ?_
    rintro e w5 ⟨a5, p5, n5, c5, xs5, rfl, hz5, _, hb5⟩
    have hb5' := hb4'.trans (hb5.mono hb4'.size)
    have k2 := (k2.kept hb4).kept hb5
    have k3 := (k3.kept hb4).kept hb5
    have hz4 := hz4.below hb5
    have e0 := k2.cell (i := 0) rfl
    have e1 := k2.cell (i := 1) rfl
    have e2 := k3.cell (i := 0) rfl
    have e3 := k3.cell (i := 1) rfl
    have f0 := k2.frozen 0
    have f1 := k2.frozen 1
    have f2 := k3.frozen 0
    have f3 := k3.frozen 1
    go_wp2_with fail
    have g2 := k2.set_eq 0 (.bool a4) rfl |>.set_eq 1 (.slice p4 n4 c4) rfl
    have K2 := (g2.other (C := w.heap.size + 1 + 1 + 1) 0 (.bool a5) (by omega)).other (C := w.heap.size + 1 + 1 + 1) 1 (.slice p5 n5 c5) (by omega)
    have K3 := (((k3.other (C := w.heap.size + 1 + 1) 0 (.bool a4) (by omega)).other (C := w.heap.size + 1 + 1) 1 (.slice p4 n4 c4) (by omega)).set_eq 0 (.bool a5) rfl).set_eq 1 (.slice p5 n5 c5) rfl
    have r0 := K2.cell (i := 0) rfl
    have r1 := K2.cell (i := 1) rfl
    have r2 := K3.cell (i := 0) rfl
    have r3 := K3.cell (i := 1) rfl
    refine bodyPost_ret (v := .tuple #[.agg #[.bool a4, .slice p4 n4 c4], .agg #[.bool a5, .slice p5 n5 c5]]) (by simp [results, Try.results73, go_sem, r0, r1, r2, r3]) rfl ⟨a4, p4, n4, c4, xs4, a5, p5, n5, c5, xs5, rfl, ?_, ?_, ?_⟩
    · exact (hz4.setBox k2 a4 _).setBox ((k3.other (C := w.heap.size + 1 + 1) 0 (.bool a4) (by omega)).other (C := w.heap.size + 1 + 1) 1 (.slice p4 n4 c4) (by omega)) a5 _
    · exact (hz5.setBox k2 a4 _).setBox ((k3.other (C := w.heap.size + 1 + 1) 0 (.bool a4) (by omega)).other (C := w.heap.size + 1 + 1) 1 (.slice p4 n4 c4) (by omega)) a5 _
    · exact (((hb5'.setCell (by simp <;> omega) _).setCell (by simp <;> omega) _).setCell (by simp <;> omega) _).setCell (by simp <;> omega) _

end Go.Proofs.Ytopdeakjnloemaa
