/-
  LineTurns, its walk.
-/
import Derived.Test.YtpnocigpocabdaaGreatK1
import Derived.Test.YtpnocigpocabdaaGreatK2
import Derived.Test.YtpnocigpocabdaaGreatK3
import Derived.Test.YtpnocigpocabdaaGreatK4
import Derived.Test.YtpnocigpocabdaaGreatK5
import Derived.Test.YtpnocigpocabdaaGreatK6
import Derived.Test.YtpnocigpocabdaaGreatK7
import Derived.Test.YtpnocigpocabdaaGreatK8
import Derived.Test.YtpnocigpocabdaaGreatK9
import Derived.Test.YtpnocigpocabdaaGreatK10
import Derived.Test.YtpnocigpocabdaaGreatK11
import Derived.Test.YtpnocigpocabdaaGreatK12
import Derived.Test.YtpnocigpocabdaaGreatK13
import Derived.Test.YtpnocigpocabdaaGreatK14
import Derived.Test.YtpnocigpocabdaaGreatK15
import Derived.Test.YtpnocigpocabdaaGreatK16
import Derived.Test.YtpnocigpocabdaaGreatK17
import Derived.Test.YtpnocigpocabdaaGreatK18
import Derived.Test.YtpnocigpocabdaaGreatK19
import Derived.Test.YtpnocigpocabdaaGreatK20
import Derived.Test.YtpnocigpocabdaaGreatK21
import Derived.Test.YtpnocigpocabdaaGreatK22
import Derived.Test.YtpnocigpocabdaaGreatK23
import Derived.Test.YtpnocigpocabdaaGreatK24
namespace Go.Proofs.YtpnocigpocabdaaGreat
open Go.RowKit Go.Shelf
attribute [local go_sem] Oper.semAt_some

theorem gcd_b {a b : Int} (ha : InI64 a) (hb : InI64 b) : ∀ W, Calls Tryz.prog 43 #[.int .i64 a, .int .i64 b] W fun e w' => e = .returned (.int .i64 ((Int.gcd (sizeZ a) (sizeZ b) : Nat) : Int)) ∧ Below W.heap.size W w' := fun W =>
  (gcd3_any a b W ha hb).mono fun e w' h => ⟨h.1, by obtain ⟨k, hk⟩ := h.2; rw [hk]; exact below_drewN (Below.refl _ _) _⟩
theorem size_small {a : Int} (h : a.natAbs ≤ 2000000) : sizeZ a = (a.natAbs : Int) := by unfold sizeZ; rw [if_neg (by omega)]
theorem lturn_facts {p q r : V4} (hp : RightQ p) (hq : RightQ q) (hr : RightQ r) (hn : parB p.a p.b p.c q.a q.b q.c = false) : ∃ (D : V3) (C : Int) (O : V4) (g : Int),
      Hid (∀ W, Calls Tryz.prog 10 #[.agg #[.int .i64 p.a, .int .i64 p.b, .int .i64 p.c, .int .i64 p.d], .agg #[.int .i64 q.a, .int .i64 q.b, .int .i64 q.c, .int .i64 q.d]] W fun e w' => e = .returned (.tuple #[.agg #[.int .i64 D.a, .int .i64 D.b, .int .i64 D.c], .int .i64 0]) ∧ Below W.heap.size W w') ∧ Hid (∀ W, Calls Tryz.prog 10 #[.agg #[.int .i64 q.a, .int .i64 q.b, .int .i64 q.c, .int .i64 q.d], .agg #[.int .i64 p.a, .int .i64 p.b, .int .i64 p.c, .int .i64 p.d]] W fun e w' => e = .returned (.tuple #[.agg #[.int .i64 (-D.a), .int .i64 (-D.b), .int .i64 (-D.c)], .int .i64 0]) ∧ Below W.heap.size W w') ∧
      Hid (∀ W, Calls Tryz.prog 11 #[.agg #[.int .i64 p.a, .int .i64 p.b, .int .i64 p.c, .int .i64 p.d], .agg #[.int .i64 q.a, .int .i64 q.b, .int .i64 q.c, .int .i64 q.d], .agg #[.int .i64 r.a, .int .i64 r.b, .int .i64 r.c, .int .i64 r.d]] W fun e w' => e = .returned (.tuple #[.int .i64 C, .int .i64 0]) ∧ Below W.heap.size W w') ∧ Hid (∀ W, Calls Tryz.prog 42 #[.agg #[.int .i64 r.a, .int .i64 r.b, .int .i64 r.c, .int .i64 r.d]] W fun e w' => e = .returned (.agg #[.int .i64 O.a, .int .i64 O.b, .int .i64 O.c, .int .i64 O.d]) ∧ Below W.heap.size W w') ∧
      Hid (∀ W, Calls Tryz.prog 11 #[.agg #[.int .i64 p.a, .int .i64 p.b, .int .i64 p.c, .int .i64 p.d], .agg #[.int .i64 q.a, .int .i64 q.b, .int .i64 q.c, .int .i64 q.d], .agg #[.int .i64 O.a, .int .i64 O.b, .int .i64 O.c, .int .i64 O.d]] W fun e w' => e = .returned (.tuple #[.int .i64 (-C), .int .i64 0]) ∧ Below W.heap.size W w') ∧ Hid (∀ W, Calls Tryz.prog 11 #[.agg #[.int .i64 q.a, .int .i64 q.b, .int .i64 q.c, .int .i64 q.d], .agg #[.int .i64 p.a, .int .i64 p.b, .int .i64 p.c, .int .i64 p.d], .agg #[.int .i64 r.a, .int .i64 r.b, .int .i64 r.c, .int .i64 r.d]] W fun e w' => e = .returned (.tuple #[.int .i64 (-C), .int .i64 0]) ∧ Below W.heap.size W w') ∧
      Hid (∀ W, Calls Tryz.prog 12 #[.agg #[.int .i64 p.a, .int .i64 p.b, .int .i64 p.c, .int .i64 p.d], .agg #[.int .i64 q.a, .int .i64 q.b, .int .i64 q.c, .int .i64 q.d], .agg #[.int .i64 q.a, .int .i64 q.b, .int .i64 q.c, .int .i64 q.d]] W fun e w' => e = .returned (.tuple #[.int .i64 (-1), .int .i64 0]) ∧ Below W.heap.size W w') ∧ Hid (∀ W, Calls Tryz.prog 12 #[.agg #[.int .i64 p.a, .int .i64 p.b, .int .i64 p.c, .int .i64 p.d], .agg #[.int .i64 q.a, .int .i64 q.b, .int .i64 q.c, .int .i64 q.d], .agg #[.int .i64 p.a, .int .i64 p.b, .int .i64 p.c, .int .i64 p.d]] W fun e w' => e = .returned (.tuple #[.int .i64 0, .int .i64 0]) ∧ Below W.heap.size W w') ∧
      Hid (∀ W, Calls Tryz.prog 11 #[.agg #[.int .i64 p.a, .int .i64 p.b, .int .i64 p.c, .int .i64 p.d], .agg #[.int .i64 q.a, .int .i64 q.b, .int .i64 q.c, .int .i64 q.d], .agg #[.int .i64 q.a, .int .i64 q.b, .int .i64 q.c, .int .i64 q.d]] W fun e w' => e = .returned (.tuple #[.int .i64 0, .int .i64 0]) ∧ Below W.heap.size W w') ∧
      Hid (∀ W, Calls Tryz.prog 43 #[.int .i64 D.a, .int .i64 D.b] W fun e w' => e = .returned (.int .i64 g) ∧ Below W.heap.size W w') ∧ Hid (∀ W, Calls Tryz.prog 43 #[.int .i64 g, .int .i64 D.c] W fun e w' => e = .returned (.int .i64 1) ∧ Below W.heap.size W w') ∧
      wrap64 (-D.a) = -D.a ∧ wrap64 (-D.b) = -D.b ∧ wrap64 (-D.c) = -D.c ∧ wrap64 (-C) = -C ∧ D ≠ ⟨0, 0, 0⟩ := by
  have hE : lineE p q = 0 := by rw [lineE_right hp hq, hn]; rfl
  have hE2 : lineE q p = 0 := by rw [lineE_swap]; exact hE
  obtain ⟨_, _, hne⟩ := lineE_good hE
  have ip := right_in hp
  have iq := right_in hq
  have ir := right_in hr
  have io := right_in (opp_right hr)
  have hfar := dir_far hp hq
  have e1 : dirP p q = dirV p q := by unfold dirP; rw [if_pos hE]
  have e2 : dirP q p = negV (dirV p q) := by rw [dirP_swap, e1]
  have hd1 := fun W => directionApi_any p q W ip iq
  have hd2 := fun W => directionApi_any q p W iq ip
  rw [hE, e1] at hd1
  rw [hE2, e2] at hd2
  have hc := fun W => crosses_any p q r W ip iq ir
  rw [lineE3_of hr, hE] at hc
  have hco := fun W => crosses_any p q (oppN r) W ip iq io
  rw [lineE3_of (opp_right hr), hE, crossS_opp hr] at hco
  have hcs := fun W => crosses_any q p r W iq ip ir
  rw [lineE3_of hr, hE2, crossS_swap hr] at hcs
  have hl1 := fun W => left_any p q q W ip iq iq
  rw [lineE3_of hq, hE, leftS_inner hE] at hl1
  have hl2 := fun W => left_any p q p W ip iq ip
  rw [lineE3_of hp, hE, leftS_own] at hl2
  have hcw := fun W => crosses_any p q q W ip iq iq
  rw [lineE3_of hq, hE, crossS_own] at hcw
  have hop := fun W => opposite3_any r.a r.b r.c r.d W
  have ho : oppV r = oppN r := oppV_right hr
  have ho1 := congrArg V4.a ho
  have ho2 := congrArg V4.b ho
  have ho3 := congrArg V4.c ho
  have ho4 := congrArg V4.d ho
  unfold oppV at ho1 ho2 ho3 ho4
  simp only at ho1 ho2 ho3 ho4
  simp only [ho1, ho2, ho3, ho4] at hop
  have hg1 : gV (dirV p q) = 1 := low_gcd hne
  have hDn : dirV p q ≠ ⟨0, 0, 0⟩ := low_ne hne
  generalize dirV p q = D at *
  obtain ⟨f0, f1, f2⟩ := hfar
  have ia : InI64 D.a := by unfold InI64; omega
  have ib : InI64 D.b := by unfold InI64; omega
  have ic : InI64 D.c := by unfold InI64; omega
  have hg := gcd_b ia ib
  rw [size_small f0, size_small f1, Int.gcd_natCast_natCast] at hg
  have hgl : Nat.gcd D.a.natAbs D.b.natAbs ≤ 2000000 := gcd_le_of (a := D.a) (b := D.b) f0 f1
  have hgg := gcd_b (a := ((Nat.gcd D.a.natAbs D.b.natAbs : Nat) : Int)) (b := D.c) (by unfold InI64; omega) ic
  rw [size_small (a := ((Nat.gcd D.a.natAbs D.b.natAbs : Nat) : Int)) (by rw [Int.natAbs_natCast]; exact hgl), size_small f2, Int.gcd_natCast_natCast, Int.natAbs_natCast] at hgg
  have hg3 : Nat.gcd (Nat.gcd D.a.natAbs D.b.natAbs) D.c.natAbs = 1 := hg1
  rw [hg3] at hgg
  have hC : (crossS p q r).natAbs ≤ 1 := by
    unfold crossS
    split
    · have := sgnI_or (dotV D (nrm r))
      rcases sgnI_or (dotV (dirV p q) (nrm r)) with e | e | e <;> rw [e] <;> decide
    · decide
  exact ⟨D, crossS p q r, oppN r, _, Lib.hid hd1, Lib.hid hd2, Lib.hid hc, Lib.hid hop, Lib.hid hco, Lib.hid hcs, Lib.hid hl1, Lib.hid hl2, Lib.hid hcw, Lib.hid hg, Lib.hid hgg, by unfold wrap64; omega, by unfold wrap64; omega, by unfold wrap64; omega, by unfold wrap64; omega, hDn⟩

attribute [local irreducible] wpOp
set_option maxRecDepth 100000 in
set_option maxHeartbeats 8000000 in
theorem lineTurns_walk (x y z : V4) (w : World) (hx : InV x) (hy : InV y) (hz : InV z) :
    Calls Tryz.prog 8 #[.agg #[.int .i64 x.a, .int .i64 x.b, .int .i64 x.c, .int .i64 x.d], .agg #[.int .i64 y.a, .int .i64 y.b, .int .i64 y.c, .int .i64 y.d], .agg #[.int .i64 z.a, .int .i64 z.b, .int .i64 z.c, .int .i64 z.d]] w fun e w' => e = .returned (.bool true) ∧ Below w.heap.size w w' := by
  obtain ⟨w1, hw1⟩ : ∃ w1, (((w.alloc (.cells #[.int .i64 x.a, .int .i64 x.b, .int .i64 x.c, .int .i64 x.d] 22)).alloc (.cells #[.int .i64 y.a, .int .i64 y.b, .int .i64 y.c, .int .i64 y.d] 22)).alloc (.cells #[.int .i64 z.a, .int .i64 z.b, .int .i64 z.c, .int .i64 z.d] 22)) = w1 := ⟨_, rfl⟩
  have hb1 : Below w.heap.size w w1 := by rw [← hw1]; exact bw3 w _ _ _
  have k0 : Blk w1 (w.heap.size) #[.int .i64 x.a, .int .i64 x.b, .int .i64 x.c, .int .i64 x.d] 22 := by rw [← hw1]; exact (((Blk.new w _ _).alloc _).alloc _)
  have k1 : Blk w1 (w.heap.size + 1) #[.int .i64 y.a, .int .i64 y.b, .int .i64 y.c, .int .i64 y.d] 22 := by rw [← hw1]; exact ((Blk.new' _ _ _ (by simp)).alloc _)
  have k2 : Blk w1 (w.heap.size + 1 + 1) #[.int .i64 z.a, .int .i64 z.b, .int .i64 z.c, .int .i64 z.d] 22 := by rw [← hw1]; exact (Blk.new' _ _ _ (by simp))
  have hb := hb1
  have HTX := Lib.hid (fun W => tame_any x 5 W hx (by decide) (by decide))
  have HTY := Lib.hid (fun W => tame_any y 5 W hy (by decide) (by decide))
  have HTZ := Lib.hid (fun W => tame_any z 5 W hz (by decide) (by decide))
  have hpr : RightQ (tameV x 5) := tame_right (by decide) (by decide)
  have hqr : RightQ (tameV y 5) := tame_right (by decide) (by decide)
  have hrr : RightQ (tameV z 5) := tame_right (by decide) (by decide)
  obtain ⟨p, hp⟩ : ∃ p, tameV x 5 = p := ⟨_, rfl⟩
  obtain ⟨q, hq⟩ : ∃ p, tameV y 5 = p := ⟨_, rfl⟩
  obtain ⟨r, hr⟩ : ∃ p, tameV z 5 = p := ⟨_, rfl⟩
  rw [hp] at HTX hpr
  rw [hq] at HTY hqr
  rw [hr] at HTZ hrr
  clear hp hq hr hx hy hz hb1
  by_cases hpar : parB p.a p.b p.c q.a q.b q.c = true
  · have hE : lineE p q = 4 := by rw [lineE_right hpr hqr, hpar]; rfl
    have hE2 : lineE q p = 4 := by rw [lineE_swap]; exact hE
    have e1 : dirP p q = ⟨0, 0, 0⟩ := by unfold dirP; rw [if_neg (by rw [hE]; decide)]
    have e2 : dirP q p = ⟨0, 0, 0⟩ := by unfold dirP; rw [if_neg (by rw [hE2]; decide)]
    have hd1 := fun W => directionApi_any p q W (right_in hpr) (right_in hqr)
    have hd2 := fun W => directionApi_any q p W (right_in hqr) (right_in hpr)
    rw [hE, e1] at hd1
    rw [hE2, e2] at hd2
    have hpa := fun W => parallel3_any p q W hpr hqr
    rw [hpar] at hpa
    have HD1 := Lib.hid hd1
    have HD2 := Lib.hid hd2
    have HPA := Lib.hid hpa
    clear hE hE2 e1 e2 hd1 hd2 hpa hpar hpr hqr hrr
    go_enter Tryz.func8, Tryz.ntmps8
    go_upto_region 1 with fail
    go_cut [7, 8, 9] from 26 to 31 (fun v7 v8 v9 wx => ∃ B7 B8 B9, v7 = .pointer (some ⟨B7, 0, none⟩) ∧ v8 = .pointer (some ⟨B8, 0, none⟩) ∧ v9 = .pointer (some ⟨B9, 0, none⟩) ∧ w1.heap.size ≤ B7 ∧ w1.heap.size ≤ B8 ∧ w1.heap.size ≤ B9 ∧ Blk wx B7 #[.int .i64 p.a, .int .i64 p.b, .int .i64 p.c, .int .i64 p.d] 23 ∧ Blk wx B8 #[.int .i64 q.a, .int .i64 q.b, .int .i64 q.c, .int .i64 q.d] 23 ∧ Blk wx B9 #[.int .i64 r.a, .int .i64 r.b, .int .i64 r.c, .int .i64 r.d] 23 ∧ Below w1.heap.size w1 wx)
    case first =>
      refine wp_region_defs 6 3 (fun ix => match ix with | 0 => .agg #[.int .i64 x.a, .int .i64 x.b, .int .i64 x.c, .int .i64 x.d] | 1 => .agg #[.int .i64 p.a, .int .i64 p.b, .int .i64 p.c, .int .i64 p.d] | 2 => .agg #[.int .i64 y.a, .int .i64 y.b, .int .i64 y.c, .int .i64 y.d] | 3 => .agg #[.int .i64 q.a, .int .i64 q.b, .int .i64 q.c, .int .i64 q.d] | 4 => .agg #[.int .i64 z.a, .int .i64 z.b, .int .i64 z.c, .int .i64 z.d] | _ => .agg #[.int .i64 r.a, .int .i64 r.b, .int .i64 r.c, .int .i64 r.d]) #[.int .i64 0, .int .i64 0, .int .i64 0, .int .i64 0] (fun j => match j with | 0 => #[.int .i64 p.a, .int .i64 p.b, .int .i64 p.c, .int .i64 p.d] | 1 => #[.int .i64 q.a, .int .i64 q.b, .int .i64 q.c, .int .i64 q.d] | _ => #[.int .i64 r.a, .int .i64 r.b, .int .i64 r.c, .int .i64 r.d]) 23 (by kernel_rfl) (by kernel_rfl) rfl ?_ ?_ ?_ ?_ ?_
      · intro j hj
        have h3 : j = 0 ∨ j = 1 ∨ j = 2 := by omega
        rcases h3 with rfl | rfl | rfl
        · first | kernel_rfl | decide +kernel
        · first | kernel_rfl | decide +kernel
        · first | kernel_rfl | decide +kernel
      · rintro ix hx f ww hS hd
        have ka := k0.kept hS
        have kb := k1.kept hS
        have kc := k2.kept hS
        have a0_ := ka.cell (i := 0) rfl
        have a1_ := ka.cell (i := 1) rfl
        have a2_ := ka.cell (i := 2) rfl
        have a3_ := ka.cell (i := 3) rfl
        have b0_ := kb.cell (i := 0) rfl
        have b1_ := kb.cell (i := 1) rfl
        have b2_ := kb.cell (i := 2) rfl
        have b3_ := kb.cell (i := 3) rfl
        have c0_ := kc.cell (i := 0) rfl
        have c1_ := kc.cell (i := 1) rfl
        have c2_ := kc.cell (i := 2) rfl
        have c3_ := kc.cell (i := 3) rfl
        rcases ix with _ | _ | _ | _ | _ | _ | ix
        · refine fastO (Op.load 22 (Operand.tmp 3)) 26 (by first | exact hx | decide) (by kernel_rfl) (by kernel_rfl) (by kernel_rfl) (wantedN (by kernel_rfl)) ex_load ?_
          refine run1 (.tmp 3) (.pointer (some ⟨w.heap.size, 0, none⟩)) (eval_const _) (by kernel_rfl) (fun ρ hc h0 => ?_)
          simp [execOp, bare, hc, h0, go_sem, *]
        · have g0 : f 0 = .agg #[.int .i64 x.a, .int .i64 x.b, .int .i64 x.c, .int .i64 x.d] := hd 0 (by decide) (by kernel_rfl)
          refine fastC (Op.call { callee := .value (Operand.func 19), args := #[(Operand.tmp 26), Operand.const (Value.int IntKind.i64 5)], argTypes := #[22, 2] }) 27 19 #[.agg #[.int .i64 x.a, .int .i64 x.b, .int .i64 x.c, .int .i64 x.d], .int .i64 5] (by first | exact hx | decide) (by kernel_rfl) (by kernel_rfl) (by kernel_rfl) (wantedN (by kernel_rfl)) ?_ (HTX.out _)
          refine runC1 (eval_func _) (eval_const _) (.tmp 26) (.agg #[.int .i64 x.a, .int .i64 x.b, .int .i64 x.c, .int .i64 x.d]) (Eq.trans (by kernel_rfl) g0) (fun ρ o hF hC ho h0 => ?_)
          simp [execOp, ho, hF, hC, h0, resolve, invoke, go_sem, enters_of Tryz.func19 (by kernel_rfl) rfl]
        · refine fastO (Op.load 22 (Operand.tmp 4)) 28 (by first | exact hx | decide) (by kernel_rfl) (by kernel_rfl) (by kernel_rfl) (wantedN (by kernel_rfl)) ex_load ?_
          refine run1 (.tmp 4) (.pointer (some ⟨w.heap.size + 1, 0, none⟩)) (eval_const _) (by kernel_rfl) (fun ρ hc h0 => ?_)
          simp [execOp, bare, hc, h0, go_sem, *]
        · have g2 : f 2 = .agg #[.int .i64 y.a, .int .i64 y.b, .int .i64 y.c, .int .i64 y.d] := hd 2 (by decide) (by kernel_rfl)
          refine fastC (Op.call { callee := .value (Operand.func 19), args := #[(Operand.tmp 28), Operand.const (Value.int IntKind.i64 5)], argTypes := #[22, 2] }) 29 19 #[.agg #[.int .i64 y.a, .int .i64 y.b, .int .i64 y.c, .int .i64 y.d], .int .i64 5] (by first | exact hx | decide) (by kernel_rfl) (by kernel_rfl) (by kernel_rfl) (wantedN (by kernel_rfl)) ?_ (HTY.out _)
          refine runC1 (eval_func _) (eval_const _) (.tmp 28) (.agg #[.int .i64 y.a, .int .i64 y.b, .int .i64 y.c, .int .i64 y.d]) (Eq.trans (by kernel_rfl) g2) (fun ρ o hF hC ho h0 => ?_)
          simp [execOp, ho, hF, hC, h0, resolve, invoke, go_sem, enters_of Tryz.func19 (by kernel_rfl) rfl]
        · refine fastO (Op.load 22 (Operand.tmp 5)) 30 (by first | exact hx | decide) (by kernel_rfl) (by kernel_rfl) (by kernel_rfl) (wantedN (by kernel_rfl)) ex_load ?_
          refine run1 (.tmp 5) (.pointer (some ⟨w.heap.size + 1 + 1, 0, none⟩)) (eval_const _) (by kernel_rfl) (fun ρ hc h0 => ?_)
          simp [execOp, bare, hc, h0, go_sem, *]
        · have g4 : f 4 = .agg #[.int .i64 z.a, .int .i64 z.b, .int .i64 z.c, .int .i64 z.d] := hd 4 (by decide) (by kernel_rfl)
          refine fastC (Op.call { callee := .value (Operand.func 19), args := #[(Operand.tmp 30), Operand.const (Value.int IntKind.i64 5)], argTypes := #[22, 2] }) 31 19 #[.agg #[.int .i64 z.a, .int .i64 z.b, .int .i64 z.c, .int .i64 z.d], .int .i64 5] (by first | exact hx | decide) (by kernel_rfl) (by kernel_rfl) (by kernel_rfl) (wantedN (by kernel_rfl)) ?_ (HTZ.out _)
          refine runC1 (eval_func _) (eval_const _) (.tmp 30) (.agg #[.int .i64 z.a, .int .i64 z.b, .int .i64 z.c, .int .i64 z.d]) (Eq.trans (by kernel_rfl) g4) (fun ρ o hF hC ho h0 => ?_)
          simp [execOp, ho, hF, hC, h0, resolve, invoke, go_sem, enters_of Tryz.func19 (by kernel_rfl) rfl]
        · omega
      · intro j hj f ww
        have h3 : j = 0 ∨ j = 1 ∨ j = 2 := by omega
        rcases h3 with rfl | rfl | rfl
        · refine fastAl rfl rfl rfl (by kernel_rfl) (fun ρ => ?_)
          simp [execOp, ptrV, go_sem]
        · refine fastAl rfl rfl rfl (by kernel_rfl) (fun ρ => ?_)
          simp [execOp, ptrV, go_sem]
        · refine fastAl rfl rfl rfl (by kernel_rfl) (fun ρ => ?_)
          simp [execOp, ptrV, go_sem]
      · intro j hj f ww b hd hf hB
        have e0 := hB.cell (i := 0) rfl
        have e1 := hB.cell (i := 1) rfl
        have e2 := hB.cell (i := 2) rfl
        have e3 := hB.cell (i := 3) rfl
        have q0 := hB.frozen 0
        have q1 := hB.frozen 1
        have q2 := hB.frozen 2
        have q3 := hB.frozen 3
        have oth : ∀ {D cs T} (a' b' c' d' : Value), D ≠ b → Blk ww D cs T → Blk ((((ww.setCell ⟨b, 0, none⟩ a').setCell ⟨b, 1, none⟩ b').setCell ⟨b, 2, none⟩ c').setCell ⟨b, 3, none⟩ d') D cs T := fun _ _ _ _ hne h => (((h.other 0 _ (Ne.symm hne)).other 1 _ (Ne.symm hne)).other 2 _ (Ne.symm hne)).other 3 _ (Ne.symm hne)
        have bel : ∀ (D : Nat) (a' b' c' d' : Value), D ≤ b → D ≤ ww.heap.size → Below D ww ((((ww.setCell ⟨b, 0, none⟩ a').setCell ⟨b, 1, none⟩ b').setCell ⟨b, 2, none⟩ c').setCell ⟨b, 3, none⟩ d') := fun D _ _ _ _ h1 h2 => (((((Below.refl _ ww).mono h2).setCell (p := ⟨b, 0, none⟩) h1 _).setCell (p := ⟨b, 1, none⟩) h1 _).setCell (p := ⟨b, 2, none⟩) h1 _).setCell (p := ⟨b, 3, none⟩) h1 _
        have h3 : j = 0 ∨ j = 1 ∨ j = 2 := by omega
        rcases h3 with rfl | rfl | rfl
        · have g1 : f 1 = .agg #[.int .i64 p.a, .int .i64 p.b, .int .i64 p.c, .int .i64 p.d] := hd 1 (by decide) (by kernel_rfl)
          refine fastSt (.tmp 7) (.tmp 27) (ptrV b) (.agg #[.int .i64 p.a, .int .i64 p.b, .int .i64 p.c, .int .i64 p.d]) ((((ww.setCell ⟨b, 0, none⟩ (.int .i64 p.a)).setCell ⟨b, 1, none⟩ (.int .i64 p.b)).setCell ⟨b, 2, none⟩ (.int .i64 p.c)).setCell ⟨b, 3, none⟩ (.int .i64 p.d)) rfl rfl rfl (Eq.trans (by kernel_rfl) hf) (Eq.trans (by kernel_rfl) g1) (fun ρ h0 h1 => ?_) ?_
          · simp [execOp, h0, h1, ptrV, go_sem, e0, e1, e2, e3, q0, q1, q2, q3]
          · exact ⟨rfl, Blk.put4 hB _ _ _ _, fun D cs hne h => oth _ _ _ _ hne h, fun D h1 h2 => bel D _ _ _ _ h1 h2⟩
        · have g3 : f 3 = .agg #[.int .i64 q.a, .int .i64 q.b, .int .i64 q.c, .int .i64 q.d] := hd 3 (by decide) (by kernel_rfl)
          refine fastSt (.tmp 8) (.tmp 29) (ptrV b) (.agg #[.int .i64 q.a, .int .i64 q.b, .int .i64 q.c, .int .i64 q.d]) ((((ww.setCell ⟨b, 0, none⟩ (.int .i64 q.a)).setCell ⟨b, 1, none⟩ (.int .i64 q.b)).setCell ⟨b, 2, none⟩ (.int .i64 q.c)).setCell ⟨b, 3, none⟩ (.int .i64 q.d)) rfl rfl rfl (Eq.trans (by kernel_rfl) hf) (Eq.trans (by kernel_rfl) g3) (fun ρ h0 h1 => ?_) ?_
          · simp [execOp, h0, h1, ptrV, go_sem, e0, e1, e2, e3, q0, q1, q2, q3]
          · exact ⟨rfl, Blk.put4 hB _ _ _ _, fun D cs hne h => oth _ _ _ _ hne h, fun D h1 h2 => bel D _ _ _ _ h1 h2⟩
        · have g5 : f 5 = .agg #[.int .i64 r.a, .int .i64 r.b, .int .i64 r.c, .int .i64 r.d] := hd 5 (by decide) (by kernel_rfl)
          refine fastSt (.tmp 9) (.tmp 31) (ptrV b) (.agg #[.int .i64 r.a, .int .i64 r.b, .int .i64 r.c, .int .i64 r.d]) ((((ww.setCell ⟨b, 0, none⟩ (.int .i64 r.a)).setCell ⟨b, 1, none⟩ (.int .i64 r.b)).setCell ⟨b, 2, none⟩ (.int .i64 r.c)).setCell ⟨b, 3, none⟩ (.int .i64 r.d)) rfl rfl rfl (Eq.trans (by kernel_rfl) hf) (Eq.trans (by kernel_rfl) g5) (fun ρ h0 h1 => ?_) ?_
          · simp [execOp, h0, h1, ptrV, go_sem, e0, e1, e2, e3, q0, q1, q2, q3]
          · exact ⟨rfl, Blk.put4 hB _ _ _ _, fun D cs hne h => oth _ _ _ _ hne h, fun D h1 h2 => bel D _ _ _ _ h1 h2⟩
      · intro f ww bs hS hbs hne hall
        have h0 := hbs 0 (by decide)
        have h1 := hbs 1 (by decide)
        have h2 := hbs 2 (by decide)
        simp only [tmOf, putAll, List.map_cons, List.map_nil, List.setIfInBounds_toArray, List.set_cons_zero, List.set_cons_succ]
        refine ‹∀ (a' : Act) (w' : World), Met _ a' w' → _› _ _ ?_
        go_meet
        case rel => exact ⟨bs 0, bs 1, bs 2, h0.1, h1.1, h2.1, h0.2.1, h1.2.1, h2.2.1, h0.2.2, h1.2.2, h2.2.2, hS⟩
    case rest =>
    obtain ⟨B7, B8, B9, rfl, rfl, rfl, l7, l8, l9, kp, kq, kr, hbx⟩ := hcut
    have hb := hb.trans (hbx.mono hb.size)
    clear HTX HTY HTZ hbx k0 k1 k2 hw1
    generalize wc = wy at *
    have kp_0 := kp.cell (i := 0) rfl
    have kp_1 := kp.cell (i := 1) rfl
    have kp_2 := kp.cell (i := 2) rfl
    have kp_3 := kp.cell (i := 3) rfl
    have kq_0 := kq.cell (i := 0) rfl
    have kq_1 := kq.cell (i := 1) rfl
    have kq_2 := kq.cell (i := 2) rfl
    have kq_3 := kq.cell (i := 3) rfl
    have kr_0 := kr.cell (i := 0) rfl
    have kr_1 := kr.cell (i := 1) rfl
    have kr_2 := kr.cell (i := 2) rfl
    have kr_3 := kr.cell (i := 3) rfl
    clear kr_0 kr_1 kr_2 kr_3
    go_wp2_with fail
    refine (HD1.out _).mono ?_
    rintro e' wc1 ⟨rfl, hc1⟩
    clear kp_0 kp_1 kp_2 kp_3 kq_0 kq_1 kq_2 kq_3
    have kp := kp.kept hc1
    have kq := kq.kept hc1
    have kr := kr.kept hc1
    have hb := hb.trans (hc1.mono hb.size)
    clear hc1
    have kp_0 := kp.cell (i := 0) rfl
    have kp_1 := kp.cell (i := 1) rfl
    have kp_2 := kp.cell (i := 2) rfl
    have kp_3 := kp.cell (i := 3) rfl
    have kq_0 := kq.cell (i := 0) rfl
    have kq_1 := kq.cell (i := 1) rfl
    have kq_2 := kq.cell (i := 2) rfl
    have kq_3 := kq.cell (i := 3) rfl
    clear kp_0 kp_1 kp_2 kp_3 kq_0 kq_1 kq_2 kq_3
    obtain ⟨wa2, hwa2⟩ : ∃ w', wc1.alloc (.cells #[.int .i64 0, .int .i64 0, .int .i64 0] 24) = w' := ⟨_, rfl⟩
    have kk2 : Blk wa2 wc1.heap.size #[.int .i64 0, .int .i64 0, .int .i64 0] 24 := by rw [← hwa2]; exact Blk.new _ _ _
    have hk2 : Below wc1.heap.size wc1 wa2 := by rw [← hwa2]; exact (Below.refl _ _).alloc (Nat.le_refl _) _
    obtain ⟨ws2, hws2⟩ : ∃ w', (((wa2.setCell ⟨wc1.heap.size, 0, none⟩ (.int .i64 0)).setCell ⟨wc1.heap.size, 1, none⟩ (.int .i64 0)).setCell ⟨wc1.heap.size, 2, none⟩ (.int .i64 0)) = w' := ⟨_, rfl⟩
    have hj2 : Below wc1.heap.size wc1 ws2 := by rw [← hws2]; exact (((hk2.setCell (by simp only; omega) _).setCell (by simp only; omega) _).setCell (by simp only; omega) _)
    have kD : Blk ws2 wc1.heap.size #[.int .i64 0, .int .i64 0, .int .i64 0] 24 := by rw [← hws2]; exact (((kk2.set_eq 0 _ rfl).set_eq 1 _ rfl).set_eq 2 _ rfl)
    have kc20 := kk2.cell (i := 0) rfl
    have kf20 := kk2.frozen 0
    have kc21 := kk2.cell (i := 1) rfl
    have kf21 := kk2.frozen 1
    have kc22 := kk2.cell (i := 2) rfl
    have kf22 := kk2.frozen 2
    have kp := kp.kept hj2
    have kq := kq.kept hj2
    have kr := kr.kept hj2
    have hb := hb.trans (hj2.mono hb.size)
    clear hj2 hk2
    have kp_0 := kp.cell (i := 0) rfl
    have kp_1 := kp.cell (i := 1) rfl
    have kp_2 := kp.cell (i := 2) rfl
    have kp_3 := kp.cell (i := 3) rfl
    have kq_0 := kq.cell (i := 0) rfl
    have kq_1 := kq.cell (i := 1) rfl
    have kq_2 := kq.cell (i := 2) rfl
    have kq_3 := kq.cell (i := 3) rfl
    have kD_0 := kD.cell (i := 0) rfl
    have kD_1 := kD.cell (i := 1) rfl
    have kD_2 := kD.cell (i := 2) rfl
    clear kD_0 kD_1 kD_2
    go_wp2_with fail
    refine (HD2.out _).mono ?_
    rintro e' wc3 ⟨rfl, hc3⟩
    clear kp_0 kp_1 kp_2 kp_3 kq_0 kq_1 kq_2 kq_3
    have kp := kp.kept hc3
    have kq := kq.kept hc3
    have kr := kr.kept hc3
    have hb := hb.trans (hc3.mono hb.size)
    clear hc3
    have kp_0 := kp.cell (i := 0) rfl
    have kp_1 := kp.cell (i := 1) rfl
    have kp_2 := kp.cell (i := 2) rfl
    have kp_3 := kp.cell (i := 3) rfl
    have kq_0 := kq.cell (i := 0) rfl
    have kq_1 := kq.cell (i := 1) rfl
    have kq_2 := kq.cell (i := 2) rfl
    have kq_3 := kq.cell (i := 3) rfl
    clear kp_0 kp_1 kp_2 kp_3 kq_0 kq_1 kq_2 kq_3
    obtain ⟨wa4, hwa4⟩ : ∃ w', wc3.alloc (.cells #[.int .i64 0, .int .i64 0, .int .i64 0] 24) = w' := ⟨_, rfl⟩
    have kk4 : Blk wa4 wc3.heap.size #[.int .i64 0, .int .i64 0, .int .i64 0] 24 := by rw [← hwa4]; exact Blk.new _ _ _
    have hk4 : Below wc3.heap.size wc3 wa4 := by rw [← hwa4]; exact (Below.refl _ _).alloc (Nat.le_refl _) _
    obtain ⟨ws4, hws4⟩ : ∃ w', (((wa4.setCell ⟨wc3.heap.size, 0, none⟩ (.int .i64 0)).setCell ⟨wc3.heap.size, 1, none⟩ (.int .i64 0)).setCell ⟨wc3.heap.size, 2, none⟩ (.int .i64 0)) = w' := ⟨_, rfl⟩
    have hj4 : Below wc3.heap.size wc3 ws4 := by rw [← hws4]; exact (((hk4.setCell (by simp only; omega) _).setCell (by simp only; omega) _).setCell (by simp only; omega) _)
    have kE : Blk ws4 wc3.heap.size #[.int .i64 0, .int .i64 0, .int .i64 0] 24 := by rw [← hws4]; exact (((kk4.set_eq 0 _ rfl).set_eq 1 _ rfl).set_eq 2 _ rfl)
    have kc40 := kk4.cell (i := 0) rfl
    have kf40 := kk4.frozen 0
    have kc41 := kk4.cell (i := 1) rfl
    have kf41 := kk4.frozen 1
    have kc42 := kk4.cell (i := 2) rfl
    have kf42 := kk4.frozen 2
    have kp := kp.kept hj4
    have kq := kq.kept hj4
    have kr := kr.kept hj4
    have hb := hb.trans (hj4.mono hb.size)
    clear hj4 hk4
    have kp_0 := kp.cell (i := 0) rfl
    have kp_1 := kp.cell (i := 1) rfl
    have kp_2 := kp.cell (i := 2) rfl
    have kp_3 := kp.cell (i := 3) rfl
    have kq_0 := kq.cell (i := 0) rfl
    have kq_1 := kq.cell (i := 1) rfl
    have kq_2 := kq.cell (i := 2) rfl
    have kq_3 := kq.cell (i := 3) rfl
    have kE_0 := kE.cell (i := 0) rfl
    have kE_1 := kE.cell (i := 1) rfl
    have kE_2 := kE.cell (i := 2) rfl
    clear kE_0 kE_1 kE_2
    go_wp2_with fail
    refine (HPA.out _).mono ?_
    rintro e' wc5 ⟨rfl, hc5⟩
    clear kp_0 kp_1 kp_2 kp_3 kq_0 kq_1 kq_2 kq_3
    have kp := kp.kept hc5
    have kq := kq.kept hc5
    have kr := kr.kept hc5
    have hb := hb.trans (hc5.mono hb.size)
    clear hc5
    have kp_0 := kp.cell (i := 0) rfl
    have kp_1 := kp.cell (i := 1) rfl
    have kp_2 := kp.cell (i := 2) rfl
    have kp_3 := kp.cell (i := 3) rfl
    have kq_0 := kq.cell (i := 0) rfl
    have kq_1 := kq.cell (i := 1) rfl
    have kq_2 := kq.cell (i := 2) rfl
    have kq_3 := kq.cell (i := 3) rfl
    go_wp2_with fail
    refine (awake5_any _).mono ?_
    rintro e' wc6 ⟨rfl, hc6⟩
    clear kp_0 kp_1 kp_2 kp_3 kq_0 kq_1 kq_2 kq_3
    have kp := kp.kept hc6
    have kq := kq.kept hc6
    have kr := kr.kept hc6
    have hb := hb.trans (hc6.mono hb.size)
    clear hc6
    have kp_0 := kp.cell (i := 0) rfl
    have kp_1 := kp.cell (i := 1) rfl
    have kp_2 := kp.cell (i := 2) rfl
    have kp_3 := kp.cell (i := 3) rfl
    have kq_0 := kq.cell (i := 0) rfl
    have kq_1 := kq.cell (i := 1) rfl
    have kq_2 := kq.cell (i := 2) rfl
    have kq_3 := kq.cell (i := 3) rfl
    go_wp2_with fail
    go_ret
    exact ⟨rfl, hb⟩
  · obtain ⟨D, C, O, g, HD1, HD2, HC, HOP, HCO, HCS, HL1, HL2, HCW, HG1, HG2, hwa, hwb, hwc', hwC, hDn⟩ := lturn_facts hpr hqr hrr (by simpa using hpar)
    have heq1 := fun W => eqVec (negV D) (negV D) W
    simp only [decide_true] at heq1
    change ∀ W, (Op.equalIn 10000 24 (.agg #[.int .i64 (-D.a), .int .i64 (-D.b), .int .i64 (-D.c)]) (.agg #[.int .i64 (-D.a), .int .i64 (-D.b), .int .i64 (-D.c)])).run Tryz.prog W = _ at heq1
    have heq2 := fun W => eqVec D ⟨0, 0, 0⟩ W
    simp only [decide_eq_false hDn] at heq2
    clear hpar hpr hqr hrr hDn
    go_enter Tryz.func8, Tryz.ntmps8
    go_upto_region 1 with fail
    go_cut [7, 8, 9] from 26 to 31 (fun v7 v8 v9 wx => ∃ B7 B8 B9, v7 = .pointer (some ⟨B7, 0, none⟩) ∧ v8 = .pointer (some ⟨B8, 0, none⟩) ∧ v9 = .pointer (some ⟨B9, 0, none⟩) ∧ w1.heap.size ≤ B7 ∧ w1.heap.size ≤ B8 ∧ w1.heap.size ≤ B9 ∧ Blk wx B7 #[.int .i64 p.a, .int .i64 p.b, .int .i64 p.c, .int .i64 p.d] 23 ∧ Blk wx B8 #[.int .i64 q.a, .int .i64 q.b, .int .i64 q.c, .int .i64 q.d] 23 ∧ Blk wx B9 #[.int .i64 r.a, .int .i64 r.b, .int .i64 r.c, .int .i64 r.d] 23 ∧ Below w1.heap.size w1 wx)
    case first =>
      refine wp_region_defs 6 3 (fun ix => match ix with | 0 => .agg #[.int .i64 x.a, .int .i64 x.b, .int .i64 x.c, .int .i64 x.d] | 1 => .agg #[.int .i64 p.a, .int .i64 p.b, .int .i64 p.c, .int .i64 p.d] | 2 => .agg #[.int .i64 y.a, .int .i64 y.b, .int .i64 y.c, .int .i64 y.d] | 3 => .agg #[.int .i64 q.a, .int .i64 q.b, .int .i64 q.c, .int .i64 q.d] | 4 => .agg #[.int .i64 z.a, .int .i64 z.b, .int .i64 z.c, .int .i64 z.d] | _ => .agg #[.int .i64 r.a, .int .i64 r.b, .int .i64 r.c, .int .i64 r.d]) #[.int .i64 0, .int .i64 0, .int .i64 0, .int .i64 0] (fun j => match j with | 0 => #[.int .i64 p.a, .int .i64 p.b, .int .i64 p.c, .int .i64 p.d] | 1 => #[.int .i64 q.a, .int .i64 q.b, .int .i64 q.c, .int .i64 q.d] | _ => #[.int .i64 r.a, .int .i64 r.b, .int .i64 r.c, .int .i64 r.d]) 23 (by kernel_rfl) (by kernel_rfl) rfl ?_ ?_ ?_ ?_ ?_
      · intro j hj
        have h3 : j = 0 ∨ j = 1 ∨ j = 2 := by omega
        rcases h3 with rfl | rfl | rfl
        · first | kernel_rfl | decide +kernel
        · first | kernel_rfl | decide +kernel
        · first | kernel_rfl | decide +kernel
      · rintro ix hx f ww hS hd
        have ka := k0.kept hS
        have kb := k1.kept hS
        have kc := k2.kept hS
        have a0_ := ka.cell (i := 0) rfl
        have a1_ := ka.cell (i := 1) rfl
        have a2_ := ka.cell (i := 2) rfl
        have a3_ := ka.cell (i := 3) rfl
        have b0_ := kb.cell (i := 0) rfl
        have b1_ := kb.cell (i := 1) rfl
        have b2_ := kb.cell (i := 2) rfl
        have b3_ := kb.cell (i := 3) rfl
        have c0_ := kc.cell (i := 0) rfl
        have c1_ := kc.cell (i := 1) rfl
        have c2_ := kc.cell (i := 2) rfl
        have c3_ := kc.cell (i := 3) rfl
        rcases ix with _ | _ | _ | _ | _ | _ | ix
        · refine fastO (Op.load 22 (Operand.tmp 3)) 26 (by first | exact hx | decide) (by kernel_rfl) (by kernel_rfl) (by kernel_rfl) (wantedN (by kernel_rfl)) ex_load ?_
          refine run1 (.tmp 3) (.pointer (some ⟨w.heap.size, 0, none⟩)) (eval_const _) (by kernel_rfl) (fun ρ hc h0 => ?_)
          simp [execOp, bare, hc, h0, go_sem, *]
        · have g0 : f 0 = .agg #[.int .i64 x.a, .int .i64 x.b, .int .i64 x.c, .int .i64 x.d] := hd 0 (by decide) (by kernel_rfl)
          refine fastC (Op.call { callee := .value (Operand.func 19), args := #[(Operand.tmp 26), Operand.const (Value.int IntKind.i64 5)], argTypes := #[22, 2] }) 27 19 #[.agg #[.int .i64 x.a, .int .i64 x.b, .int .i64 x.c, .int .i64 x.d], .int .i64 5] (by first | exact hx | decide) (by kernel_rfl) (by kernel_rfl) (by kernel_rfl) (wantedN (by kernel_rfl)) ?_ (HTX.out _)
          refine runC1 (eval_func _) (eval_const _) (.tmp 26) (.agg #[.int .i64 x.a, .int .i64 x.b, .int .i64 x.c, .int .i64 x.d]) (Eq.trans (by kernel_rfl) g0) (fun ρ o hF hC ho h0 => ?_)
          simp [execOp, ho, hF, hC, h0, resolve, invoke, go_sem, enters_of Tryz.func19 (by kernel_rfl) rfl]
        · refine fastO (Op.load 22 (Operand.tmp 4)) 28 (by first | exact hx | decide) (by kernel_rfl) (by kernel_rfl) (by kernel_rfl) (wantedN (by kernel_rfl)) ex_load ?_
          refine run1 (.tmp 4) (.pointer (some ⟨w.heap.size + 1, 0, none⟩)) (eval_const _) (by kernel_rfl) (fun ρ hc h0 => ?_)
          simp [execOp, bare, hc, h0, go_sem, *]
        · have g2 : f 2 = .agg #[.int .i64 y.a, .int .i64 y.b, .int .i64 y.c, .int .i64 y.d] := hd 2 (by decide) (by kernel_rfl)
          refine fastC (Op.call { callee := .value (Operand.func 19), args := #[(Operand.tmp 28), Operand.const (Value.int IntKind.i64 5)], argTypes := #[22, 2] }) 29 19 #[.agg #[.int .i64 y.a, .int .i64 y.b, .int .i64 y.c, .int .i64 y.d], .int .i64 5] (by first | exact hx | decide) (by kernel_rfl) (by kernel_rfl) (by kernel_rfl) (wantedN (by kernel_rfl)) ?_ (HTY.out _)
          refine runC1 (eval_func _) (eval_const _) (.tmp 28) (.agg #[.int .i64 y.a, .int .i64 y.b, .int .i64 y.c, .int .i64 y.d]) (Eq.trans (by kernel_rfl) g2) (fun ρ o hF hC ho h0 => ?_)
          simp [execOp, ho, hF, hC, h0, resolve, invoke, go_sem, enters_of Tryz.func19 (by kernel_rfl) rfl]
        · refine fastO (Op.load 22 (Operand.tmp 5)) 30 (by first | exact hx | decide) (by kernel_rfl) (by kernel_rfl) (by kernel_rfl) (wantedN (by kernel_rfl)) ex_load ?_
          refine run1 (.tmp 5) (.pointer (some ⟨w.heap.size + 1 + 1, 0, none⟩)) (eval_const _) (by kernel_rfl) (fun ρ hc h0 => ?_)
          simp [execOp, bare, hc, h0, go_sem, *]
        · have g4 : f 4 = .agg #[.int .i64 z.a, .int .i64 z.b, .int .i64 z.c, .int .i64 z.d] := hd 4 (by decide) (by kernel_rfl)
          refine fastC (Op.call { callee := .value (Operand.func 19), args := #[(Operand.tmp 30), Operand.const (Value.int IntKind.i64 5)], argTypes := #[22, 2] }) 31 19 #[.agg #[.int .i64 z.a, .int .i64 z.b, .int .i64 z.c, .int .i64 z.d], .int .i64 5] (by first | exact hx | decide) (by kernel_rfl) (by kernel_rfl) (by kernel_rfl) (wantedN (by kernel_rfl)) ?_ (HTZ.out _)
          refine runC1 (eval_func _) (eval_const _) (.tmp 30) (.agg #[.int .i64 z.a, .int .i64 z.b, .int .i64 z.c, .int .i64 z.d]) (Eq.trans (by kernel_rfl) g4) (fun ρ o hF hC ho h0 => ?_)
          simp [execOp, ho, hF, hC, h0, resolve, invoke, go_sem, enters_of Tryz.func19 (by kernel_rfl) rfl]
        · omega
      · intro j hj f ww
        have h3 : j = 0 ∨ j = 1 ∨ j = 2 := by omega
        rcases h3 with rfl | rfl | rfl
        · refine fastAl rfl rfl rfl (by kernel_rfl) (fun ρ => ?_)
          simp [execOp, ptrV, go_sem]
        · refine fastAl rfl rfl rfl (by kernel_rfl) (fun ρ => ?_)
          simp [execOp, ptrV, go_sem]
        · refine fastAl rfl rfl rfl (by kernel_rfl) (fun ρ => ?_)
          simp [execOp, ptrV, go_sem]
      · intro j hj f ww b hd hf hB
        have e0 := hB.cell (i := 0) rfl
        have e1 := hB.cell (i := 1) rfl
        have e2 := hB.cell (i := 2) rfl
        have e3 := hB.cell (i := 3) rfl
        have q0 := hB.frozen 0
        have q1 := hB.frozen 1
        have q2 := hB.frozen 2
        have q3 := hB.frozen 3
        have oth : ∀ {D cs T} (a' b' c' d' : Value), D ≠ b → Blk ww D cs T → Blk ((((ww.setCell ⟨b, 0, none⟩ a').setCell ⟨b, 1, none⟩ b').setCell ⟨b, 2, none⟩ c').setCell ⟨b, 3, none⟩ d') D cs T := fun _ _ _ _ hne h => (((h.other 0 _ (Ne.symm hne)).other 1 _ (Ne.symm hne)).other 2 _ (Ne.symm hne)).other 3 _ (Ne.symm hne)
        have bel : ∀ (D : Nat) (a' b' c' d' : Value), D ≤ b → D ≤ ww.heap.size → Below D ww ((((ww.setCell ⟨b, 0, none⟩ a').setCell ⟨b, 1, none⟩ b').setCell ⟨b, 2, none⟩ c').setCell ⟨b, 3, none⟩ d') := fun D _ _ _ _ h1 h2 => (((((Below.refl _ ww).mono h2).setCell (p := ⟨b, 0, none⟩) h1 _).setCell (p := ⟨b, 1, none⟩) h1 _).setCell (p := ⟨b, 2, none⟩) h1 _).setCell (p := ⟨b, 3, none⟩) h1 _
        have h3 : j = 0 ∨ j = 1 ∨ j = 2 := by omega
        rcases h3 with rfl | rfl | rfl
        · have g1 : f 1 = .agg #[.int .i64 p.a, .int .i64 p.b, .int .i64 p.c, .int .i64 p.d] := hd 1 (by decide) (by kernel_rfl)
          refine fastSt (.tmp 7) (.tmp 27) (ptrV b) (.agg #[.int .i64 p.a, .int .i64 p.b, .int .i64 p.c, .int .i64 p.d]) ((((ww.setCell ⟨b, 0, none⟩ (.int .i64 p.a)).setCell ⟨b, 1, none⟩ (.int .i64 p.b)).setCell ⟨b, 2, none⟩ (.int .i64 p.c)).setCell ⟨b, 3, none⟩ (.int .i64 p.d)) rfl rfl rfl (Eq.trans (by kernel_rfl) hf) (Eq.trans (by kernel_rfl) g1) (fun ρ h0 h1 => ?_) ?_
          · simp [execOp, h0, h1, ptrV, go_sem, e0, e1, e2, e3, q0, q1, q2, q3]
          · exact ⟨rfl, Blk.put4 hB _ _ _ _, fun D cs hne h => oth _ _ _ _ hne h, fun D h1 h2 => bel D _ _ _ _ h1 h2⟩
        · have g3 : f 3 = .agg #[.int .i64 q.a, .int .i64 q.b, .int .i64 q.c, .int .i64 q.d] := hd 3 (by decide) (by kernel_rfl)
          refine fastSt (.tmp 8) (.tmp 29) (ptrV b) (.agg #[.int .i64 q.a, .int .i64 q.b, .int .i64 q.c, .int .i64 q.d]) ((((ww.setCell ⟨b, 0, none⟩ (.int .i64 q.a)).setCell ⟨b, 1, none⟩ (.int .i64 q.b)).setCell ⟨b, 2, none⟩ (.int .i64 q.c)).setCell ⟨b, 3, none⟩ (.int .i64 q.d)) rfl rfl rfl (Eq.trans (by kernel_rfl) hf) (Eq.trans (by kernel_rfl) g3) (fun ρ h0 h1 => ?_) ?_
          · simp [execOp, h0, h1, ptrV, go_sem, e0, e1, e2, e3, q0, q1, q2, q3]
          · exact ⟨rfl, Blk.put4 hB _ _ _ _, fun D cs hne h => oth _ _ _ _ hne h, fun D h1 h2 => bel D _ _ _ _ h1 h2⟩
        · have g5 : f 5 = .agg #[.int .i64 r.a, .int .i64 r.b, .int .i64 r.c, .int .i64 r.d] := hd 5 (by decide) (by kernel_rfl)
          refine fastSt (.tmp 9) (.tmp 31) (ptrV b) (.agg #[.int .i64 r.a, .int .i64 r.b, .int .i64 r.c, .int .i64 r.d]) ((((ww.setCell ⟨b, 0, none⟩ (.int .i64 r.a)).setCell ⟨b, 1, none⟩ (.int .i64 r.b)).setCell ⟨b, 2, none⟩ (.int .i64 r.c)).setCell ⟨b, 3, none⟩ (.int .i64 r.d)) rfl rfl rfl (Eq.trans (by kernel_rfl) hf) (Eq.trans (by kernel_rfl) g5) (fun ρ h0 h1 => ?_) ?_
          · simp [execOp, h0, h1, ptrV, go_sem, e0, e1, e2, e3, q0, q1, q2, q3]
          · exact ⟨rfl, Blk.put4 hB _ _ _ _, fun D cs hne h => oth _ _ _ _ hne h, fun D h1 h2 => bel D _ _ _ _ h1 h2⟩
      · intro f ww bs hS hbs hne hall
        have h0 := hbs 0 (by decide)
        have h1 := hbs 1 (by decide)
        have h2 := hbs 2 (by decide)
        simp only [tmOf, putAll, List.map_cons, List.map_nil, List.setIfInBounds_toArray, List.set_cons_zero, List.set_cons_succ]
        refine ‹∀ (a' : Act) (w' : World), Met _ a' w' → _› _ _ ?_
        go_meet
        case rel => exact ⟨bs 0, bs 1, bs 2, h0.1, h1.1, h2.1, h0.2.1, h1.2.1, h2.2.1, h0.2.2, h1.2.2, h2.2.2, hS⟩
    case rest =>
    obtain ⟨B7, B8, B9, rfl, rfl, rfl, l7, l8, l9, kp, kq, kr, hbx⟩ := hcut
    have hb := hb.trans (hbx.mono hb.size)
    clear HTX HTY HTZ hbx k0 k1 k2 hw1
    generalize wc = wy at *
    have kp_0 := kp.cell (i := 0) rfl
    have kp_1 := kp.cell (i := 1) rfl
    have kp_2 := kp.cell (i := 2) rfl
    have kp_3 := kp.cell (i := 3) rfl
    have kq_0 := kq.cell (i := 0) rfl
    have kq_1 := kq.cell (i := 1) rfl
    have kq_2 := kq.cell (i := 2) rfl
    have kq_3 := kq.cell (i := 3) rfl
    have kr_0 := kr.cell (i := 0) rfl
    have kr_1 := kr.cell (i := 1) rfl
    have kr_2 := kr.cell (i := 2) rfl
    have kr_3 := kr.cell (i := 3) rfl
    go_wp2_with fail
    refine (HD1.out _).mono ?_
    rintro e' wc1 ⟨rfl, hc1⟩
    clear kp_0 kp_1 kp_2 kp_3 kq_0 kq_1 kq_2 kq_3 kr_0 kr_1 kr_2 kr_3
    have kp := kp.kept hc1
    have kq := kq.kept hc1
    have kr := kr.kept hc1
    have hb := hb.trans (hc1.mono hb.size)
    clear hc1
    have kp_0 := kp.cell (i := 0) rfl
    have kp_1 := kp.cell (i := 1) rfl
    have kp_2 := kp.cell (i := 2) rfl
    have kp_3 := kp.cell (i := 3) rfl
    have kq_0 := kq.cell (i := 0) rfl
    have kq_1 := kq.cell (i := 1) rfl
    have kq_2 := kq.cell (i := 2) rfl
    have kq_3 := kq.cell (i := 3) rfl
    have kr_0 := kr.cell (i := 0) rfl
    have kr_1 := kr.cell (i := 1) rfl
    have kr_2 := kr.cell (i := 2) rfl
    have kr_3 := kr.cell (i := 3) rfl
    clear kp_0 kp_1 kp_2 kp_3 kq_0 kq_1 kq_2 kq_3 kr_0 kr_1 kr_2 kr_3
    obtain ⟨wa2, hwa2⟩ : ∃ w', wc1.alloc (.cells #[.int .i64 0, .int .i64 0, .int .i64 0] 24) = w' := ⟨_, rfl⟩
    have kk2 : Blk wa2 wc1.heap.size #[.int .i64 0, .int .i64 0, .int .i64 0] 24 := by rw [← hwa2]; exact Blk.new _ _ _
    have hk2 : Below wc1.heap.size wc1 wa2 := by rw [← hwa2]; exact (Below.refl _ _).alloc (Nat.le_refl _) _
    obtain ⟨ws2, hws2⟩ : ∃ w', (((wa2.setCell ⟨wc1.heap.size, 0, none⟩ (.int .i64 D.a)).setCell ⟨wc1.heap.size, 1, none⟩ (.int .i64 D.b)).setCell ⟨wc1.heap.size, 2, none⟩ (.int .i64 D.c)) = w' := ⟨_, rfl⟩
    have hj2 : Below wc1.heap.size wc1 ws2 := by rw [← hws2]; exact (((hk2.setCell (by simp only; omega) _).setCell (by simp only; omega) _).setCell (by simp only; omega) _)
    have kD : Blk ws2 wc1.heap.size #[.int .i64 D.a, .int .i64 D.b, .int .i64 D.c] 24 := by rw [← hws2]; exact (((kk2.set_eq 0 _ rfl).set_eq 1 _ rfl).set_eq 2 _ rfl)
    have kc20 := kk2.cell (i := 0) rfl
    have kf20 := kk2.frozen 0
    have kc21 := kk2.cell (i := 1) rfl
    have kf21 := kk2.frozen 1
    have kc22 := kk2.cell (i := 2) rfl
    have kf22 := kk2.frozen 2
    have kp := kp.kept hj2
    have kq := kq.kept hj2
    have kr := kr.kept hj2
    have hb := hb.trans (hj2.mono hb.size)
    clear hj2 hk2
    have kp_0 := kp.cell (i := 0) rfl
    have kp_1 := kp.cell (i := 1) rfl
    have kp_2 := kp.cell (i := 2) rfl
    have kp_3 := kp.cell (i := 3) rfl
    have kq_0 := kq.cell (i := 0) rfl
    have kq_1 := kq.cell (i := 1) rfl
    have kq_2 := kq.cell (i := 2) rfl
    have kq_3 := kq.cell (i := 3) rfl
    have kr_0 := kr.cell (i := 0) rfl
    have kr_1 := kr.cell (i := 1) rfl
    have kr_2 := kr.cell (i := 2) rfl
    have kr_3 := kr.cell (i := 3) rfl
    have kD_0 := kD.cell (i := 0) rfl
    have kD_1 := kD.cell (i := 1) rfl
    have kD_2 := kD.cell (i := 2) rfl
    clear kD_0 kD_1 kD_2
    go_wp2_with fail
    refine (HD2.out _).mono ?_
    rintro e' wc3 ⟨rfl, hc3⟩
    clear kp_0 kp_1 kp_2 kp_3 kq_0 kq_1 kq_2 kq_3 kr_0 kr_1 kr_2 kr_3
    have kp := kp.kept hc3
    have kq := kq.kept hc3
    have kr := kr.kept hc3
    have kD := kD.kept hc3
    have hb := hb.trans (hc3.mono hb.size)
    clear hc3
    have kp_0 := kp.cell (i := 0) rfl
    have kp_1 := kp.cell (i := 1) rfl
    have kp_2 := kp.cell (i := 2) rfl
    have kp_3 := kp.cell (i := 3) rfl
    have kq_0 := kq.cell (i := 0) rfl
    have kq_1 := kq.cell (i := 1) rfl
    have kq_2 := kq.cell (i := 2) rfl
    have kq_3 := kq.cell (i := 3) rfl
    have kr_0 := kr.cell (i := 0) rfl
    have kr_1 := kr.cell (i := 1) rfl
    have kr_2 := kr.cell (i := 2) rfl
    have kr_3 := kr.cell (i := 3) rfl
    clear kr_0 kr_1 kr_2 kr_3
    clear kp_0 kp_1 kp_2 kp_3 kq_0 kq_1 kq_2 kq_3
    obtain ⟨wa4, hwa4⟩ : ∃ w', wc3.alloc (.cells #[.int .i64 0, .int .i64 0, .int .i64 0] 24) = w' := ⟨_, rfl⟩
    have kk4 : Blk wa4 wc3.heap.size #[.int .i64 0, .int .i64 0, .int .i64 0] 24 := by rw [← hwa4]; exact Blk.new _ _ _
    have hk4 : Below wc3.heap.size wc3 wa4 := by rw [← hwa4]; exact (Below.refl _ _).alloc (Nat.le_refl _) _
    obtain ⟨ws4, hws4⟩ : ∃ w', (((wa4.setCell ⟨wc3.heap.size, 0, none⟩ (.int .i64 (-D.a))).setCell ⟨wc3.heap.size, 1, none⟩ (.int .i64 (-D.b))).setCell ⟨wc3.heap.size, 2, none⟩ (.int .i64 (-D.c))) = w' := ⟨_, rfl⟩
    have hj4 : Below wc3.heap.size wc3 ws4 := by rw [← hws4]; exact (((hk4.setCell (by simp only; omega) _).setCell (by simp only; omega) _).setCell (by simp only; omega) _)
    have kE : Blk ws4 wc3.heap.size #[.int .i64 (-D.a), .int .i64 (-D.b), .int .i64 (-D.c)] 24 := by rw [← hws4]; exact (((kk4.set_eq 0 _ rfl).set_eq 1 _ rfl).set_eq 2 _ rfl)
    have kc40 := kk4.cell (i := 0) rfl
    have kf40 := kk4.frozen 0
    have kc41 := kk4.cell (i := 1) rfl
    have kf41 := kk4.frozen 1
    have kc42 := kk4.cell (i := 2) rfl
    have kf42 := kk4.frozen 2
    have kp := kp.kept hj4
    have kq := kq.kept hj4
    have kr := kr.kept hj4
    have kD := kD.kept hj4
    have hb := hb.trans (hj4.mono hb.size)
    clear hj4 hk4
    have kp_0 := kp.cell (i := 0) rfl
    have kp_1 := kp.cell (i := 1) rfl
    have kp_2 := kp.cell (i := 2) rfl
    have kp_3 := kp.cell (i := 3) rfl
    have kq_0 := kq.cell (i := 0) rfl
    have kq_1 := kq.cell (i := 1) rfl
    have kq_2 := kq.cell (i := 2) rfl
    have kq_3 := kq.cell (i := 3) rfl
    have kE_0 := kE.cell (i := 0) rfl
    have kE_1 := kE.cell (i := 1) rfl
    have kE_2 := kE.cell (i := 2) rfl
    clear kE_0 kE_1 kE_2
    clear kp_0 kp_1 kp_2 kp_3 kq_0 kq_1 kq_2 kq_3
    have kp_0 := kp.cell (i := 0) rfl
    have kp_1 := kp.cell (i := 1) rfl
    have kp_2 := kp.cell (i := 2) rfl
    have kp_3 := kp.cell (i := 3) rfl
    have kq_0 := kq.cell (i := 0) rfl
    have kq_1 := kq.cell (i := 1) rfl
    have kq_2 := kq.cell (i := 2) rfl
    have kq_3 := kq.cell (i := 3) rfl
    have kr_0 := kr.cell (i := 0) rfl
    have kr_1 := kr.cell (i := 1) rfl
    have kr_2 := kr.cell (i := 2) rfl
    have kr_3 := kr.cell (i := 3) rfl
    go_wp2_with fail
    refine (HC.out _).mono ?_
    rintro e' wc5 ⟨rfl, hc5⟩
    clear kp_0 kp_1 kp_2 kp_3 kq_0 kq_1 kq_2 kq_3 kr_0 kr_1 kr_2 kr_3
    have kp := kp.kept hc5
    have kq := kq.kept hc5
    have kr := kr.kept hc5
    have kD := kD.kept hc5
    have kE := kE.kept hc5
    have hb := hb.trans (hc5.mono hb.size)
    clear hc5
    have kp_0 := kp.cell (i := 0) rfl
    have kp_1 := kp.cell (i := 1) rfl
    have kp_2 := kp.cell (i := 2) rfl
    have kp_3 := kp.cell (i := 3) rfl
    have kq_0 := kq.cell (i := 0) rfl
    have kq_1 := kq.cell (i := 1) rfl
    have kq_2 := kq.cell (i := 2) rfl
    have kq_3 := kq.cell (i := 3) rfl
    have kr_0 := kr.cell (i := 0) rfl
    have kr_1 := kr.cell (i := 1) rfl
    have kr_2 := kr.cell (i := 2) rfl
    have kr_3 := kr.cell (i := 3) rfl
    clear kp_0 kp_1 kp_2 kp_3 kq_0 kq_1 kq_2 kq_3 kr_0 kr_1 kr_2 kr_3
    go_upto_region 9 with fail
    go_cut [16, 17] from 66 to 73 (fun v16 v17 wx => v16 = .int .i64 (-C) ∧ v17 = .int .i64 0 ∧ Below wc5.heap.size wc5 wx)
    case first =>
      refine wp_region_pure' (fun ix => match ix with | 0 => .agg #[.int .i64 p.a, .int .i64 p.b, .int .i64 p.c, .int .i64 p.d] | 1 => .agg #[.int .i64 q.a, .int .i64 q.b, .int .i64 q.c, .int .i64 q.d] | 2 => .agg #[.int .i64 r.a, .int .i64 r.b, .int .i64 r.c, .int .i64 r.d] | 3 => .agg #[.int .i64 O.a, .int .i64 O.b, .int .i64 O.c, .int .i64 O.d] | 4 => .tuple #[.int .i64 (-C), .int .i64 0] | 5 => .tuple #[.int .i64 (-C), .int .i64 0] | 6 => .int .i64 (-C) | 7 => .int .i64 0 | 8 => .int .i64 (-C) | _ => .int .i64 0) (by kernel_rfl) (by kernel_rfl) ?_ ?_
      · rintro ix hx f ww hS hd
        have ka := kp.kept hS
        have kb := kq.kept hS
        have kc := kr.kept hS
        have a0_ := ka.cell (i := 0) rfl
        have a1_ := ka.cell (i := 1) rfl
        have a2_ := ka.cell (i := 2) rfl
        have a3_ := ka.cell (i := 3) rfl
        have b0_ := kb.cell (i := 0) rfl
        have b1_ := kb.cell (i := 1) rfl
        have b2_ := kb.cell (i := 2) rfl
        have b3_ := kb.cell (i := 3) rfl
        have c0_ := kc.cell (i := 0) rfl
        have c1_ := kc.cell (i := 1) rfl
        have c2_ := kc.cell (i := 2) rfl
        have c3_ := kc.cell (i := 3) rfl
        rcases ix with _ | _ | _ | _ | _ | _ | _ | _ | _ | _ | ix
        · refine fastO (Op.load 23 (Operand.tmp 7)) 67 (by first | exact hx | decide) (by kernel_rfl) (by kernel_rfl) (by kernel_rfl) (wantedN (by kernel_rfl)) ex_load ?_
          refine run1 (.tmp 7) (.pointer (some ⟨B7, 0, none⟩)) (eval_const _) (by kernel_rfl) (fun ρ hc h0 => ?_)
          simp [execOp, bare, hc, h0, go_sem, *]
        · refine fastO (Op.load 23 (Operand.tmp 8)) 68 (by first | exact hx | decide) (by kernel_rfl) (by kernel_rfl) (by kernel_rfl) (wantedN (by kernel_rfl)) ex_load ?_
          refine run1 (.tmp 8) (.pointer (some ⟨B8, 0, none⟩)) (eval_const _) (by kernel_rfl) (fun ρ hc h0 => ?_)
          simp [execOp, bare, hc, h0, go_sem, *]
        · refine fastO (Op.load 23 (Operand.tmp 9)) 69 (by first | exact hx | decide) (by kernel_rfl) (by kernel_rfl) (by kernel_rfl) (wantedN (by kernel_rfl)) ex_load ?_
          refine run1 (.tmp 9) (.pointer (some ⟨B9, 0, none⟩)) (eval_const _) (by kernel_rfl) (fun ρ hc h0 => ?_)
          simp [execOp, bare, hc, h0, go_sem, *]
        · have g2 : f 2 = .agg #[.int .i64 r.a, .int .i64 r.b, .int .i64 r.c, .int .i64 r.d] := hd 2 (by kernel_rfl)
          refine fastC (Op.call { callee := .value (Operand.func 42), args := #[(Operand.tmp 69)], argTypes := #[23] }) 70 42 #[.agg #[.int .i64 r.a, .int .i64 r.b, .int .i64 r.c, .int .i64 r.d]] (by first | exact hx | decide) (by kernel_rfl) (by kernel_rfl) (by kernel_rfl) (wantedN (by kernel_rfl)) ?_ (HOP.out _)
          refine runC1 (eval_func _) (eval_const _) (.tmp 69) (.agg #[.int .i64 r.a, .int .i64 r.b, .int .i64 r.c, .int .i64 r.d]) (Eq.trans (by kernel_rfl) g2) (fun ρ o hF hC ho h0 => ?_)
          simp [execOp, ho, hF, hC, h0, resolve, invoke, go_sem, enters_of Tryz.func42 (by kernel_rfl) rfl]
        · have g0 : f 0 = .agg #[.int .i64 p.a, .int .i64 p.b, .int .i64 p.c, .int .i64 p.d] := hd 0 (by kernel_rfl)
          have g1 : f 1 = .agg #[.int .i64 q.a, .int .i64 q.b, .int .i64 q.c, .int .i64 q.d] := hd 1 (by kernel_rfl)
          have g3 : f 3 = .agg #[.int .i64 O.a, .int .i64 O.b, .int .i64 O.c, .int .i64 O.d] := hd 3 (by kernel_rfl)
          refine fastC (Op.call { callee := .value (Operand.func 11), args := #[(Operand.tmp 67), (Operand.tmp 68), (Operand.tmp 70)], argTypes := #[23, 23, 23] }) 71 11 #[.agg #[.int .i64 p.a, .int .i64 p.b, .int .i64 p.c, .int .i64 p.d], .agg #[.int .i64 q.a, .int .i64 q.b, .int .i64 q.c, .int .i64 q.d], .agg #[.int .i64 O.a, .int .i64 O.b, .int .i64 O.c, .int .i64 O.d]] (by first | exact hx | decide) (by kernel_rfl) (by kernel_rfl) (by kernel_rfl) (wantedN (by kernel_rfl)) ?_ (HCO.out _)
          refine runC3 (eval_func _) (eval_const _) (.tmp 67) (.tmp 68) (.tmp 70) (.agg #[.int .i64 p.a, .int .i64 p.b, .int .i64 p.c, .int .i64 p.d]) (.agg #[.int .i64 q.a, .int .i64 q.b, .int .i64 q.c, .int .i64 q.d]) (.agg #[.int .i64 O.a, .int .i64 O.b, .int .i64 O.c, .int .i64 O.d]) (Eq.trans (by kernel_rfl) g0) (Eq.trans (by kernel_rfl) g1) (Eq.trans (by kernel_rfl) g3) (fun ρ o hF hC ho h0 h1 h2 => ?_)
          simp [execOp, ho, hF, hC, h0, h1, h2, resolve, invoke, go_sem, enters_of Tryz.func11 (by kernel_rfl) rfl]
        · have g4 : f 4 = .tuple #[.int .i64 (-C), .int .i64 0] := hd 4 (by kernel_rfl)
          refine fastO (Op.move (Operand.tmp 71)) 66 (by first | exact hx | decide) (by kernel_rfl) (by kernel_rfl) (by kernel_rfl) (wantedN (by kernel_rfl)) ex_move ?_
          refine run1 (.tmp 71) (.tuple #[.int .i64 (-C), .int .i64 0]) (eval_const _) (Eq.trans (by kernel_rfl) g4) (fun ρ hc h0 => ?_)
          simp [execOp, bare, hc, h0, go_sem, *]
        · have g5 : f 5 = .tuple #[.int .i64 (-C), .int .i64 0] := hd 5 (by kernel_rfl)
          refine fastO (Op.extract (Operand.tmp 66) 0) 72 (by first | exact hx | decide) (by kernel_rfl) (by kernel_rfl) (by kernel_rfl) (wantedN (by kernel_rfl)) ex_extract ?_
          refine run1 (.tmp 66) (.tuple #[.int .i64 (-C), .int .i64 0]) (eval_const _) (Eq.trans (by kernel_rfl) g5) (fun ρ hc h0 => ?_)
          simp [execOp, bare, hc, h0, go_sem, *]
        · have g5 : f 5 = .tuple #[.int .i64 (-C), .int .i64 0] := hd 5 (by kernel_rfl)
          refine fastO (Op.extract (Operand.tmp 66) 1) 73 (by first | exact hx | decide) (by kernel_rfl) (by kernel_rfl) (by kernel_rfl) (wantedN (by kernel_rfl)) ex_extract ?_
          refine run1 (.tmp 66) (.tuple #[.int .i64 (-C), .int .i64 0]) (eval_const _) (Eq.trans (by kernel_rfl) g5) (fun ρ hc h0 => ?_)
          simp [execOp, bare, hc, h0, go_sem, *]
        · have g6 : f 6 = .int .i64 (-C) := hd 6 (by kernel_rfl)
          refine fastO (Op.assign (Operand.tmp 72)) 16 (by first | exact hx | decide) (by kernel_rfl) (by kernel_rfl) (by kernel_rfl) (wantedN (by kernel_rfl)) ex_assign ?_
          refine run1 (.tmp 72) (.int .i64 (-C)) (eval_const _) (Eq.trans (by kernel_rfl) g6) (fun ρ hc h0 => ?_)
          simp [execOp, bare, hc, h0, go_sem, *]
        · have g7 : f 7 = .int .i64 0 := hd 7 (by kernel_rfl)
          refine fastO (Op.assign (Operand.tmp 73)) 17 (by first | exact hx | decide) (by kernel_rfl) (by kernel_rfl) (by kernel_rfl) (wantedN (by kernel_rfl)) ex_assign ?_
          refine run1 (.tmp 73) (.int .i64 0) (eval_const _) (Eq.trans (by kernel_rfl) g7) (fun ρ hc h0 => ?_)
          simp [execOp, bare, hc, h0, go_sem, *]
        · simp only [List.length_cons, List.length_nil] at hx; omega
      · rintro f ww hS hd
        have g6 : f 8 = .int .i64 (-C) := hd 8 (by decide)
        have g7 : f 9 = .int .i64 0 := hd 9 (by decide)
        simp only [tmOf, putAll, List.map_cons, List.map_nil, List.setIfInBounds_toArray, List.set_cons_zero, List.set_cons_succ]
        refine ‹∀ (a' : Act) (w' : World), Met _ a' w' → _› _ _ ?_
        go_meet
        case rel => exact ⟨g6, g7, hS⟩
    case rest =>
    obtain ⟨rfl, rfl, hbx⟩ := hcut
    clear HOP HCO
    have kp := kp.kept hbx
    have kq := kq.kept hbx
    have kr := kr.kept hbx
    have kD := kD.kept hbx
    have kE := kE.kept hbx
    have hb := hb.trans (hbx.mono hb.size)
    clear hbx
    generalize wc = wz at *
    have kp_0 := kp.cell (i := 0) rfl
    have kp_1 := kp.cell (i := 1) rfl
    have kp_2 := kp.cell (i := 2) rfl
    have kp_3 := kp.cell (i := 3) rfl
    have kq_0 := kq.cell (i := 0) rfl
    have kq_1 := kq.cell (i := 1) rfl
    have kq_2 := kq.cell (i := 2) rfl
    have kq_3 := kq.cell (i := 3) rfl
    have kr_0 := kr.cell (i := 0) rfl
    have kr_1 := kr.cell (i := 1) rfl
    have kr_2 := kr.cell (i := 2) rfl
    have kr_3 := kr.cell (i := 3) rfl
    go_wp2_with fail
    refine (HCS.out _).mono ?_
    rintro e' wc6 ⟨rfl, hc6⟩
    clear kp_0 kp_1 kp_2 kp_3 kq_0 kq_1 kq_2 kq_3 kr_0 kr_1 kr_2 kr_3
    have kp := kp.kept hc6
    have kq := kq.kept hc6
    have kr := kr.kept hc6
    have kD := kD.kept hc6
    have kE := kE.kept hc6
    have hb := hb.trans (hc6.mono hb.size)
    clear hc6
    have kp_0 := kp.cell (i := 0) rfl
    have kp_1 := kp.cell (i := 1) rfl
    have kp_2 := kp.cell (i := 2) rfl
    have kp_3 := kp.cell (i := 3) rfl
    have kq_0 := kq.cell (i := 0) rfl
    have kq_1 := kq.cell (i := 1) rfl
    have kq_2 := kq.cell (i := 2) rfl
    have kq_3 := kq.cell (i := 3) rfl
    have kr_0 := kr.cell (i := 0) rfl
    have kr_1 := kr.cell (i := 1) rfl
    have kr_2 := kr.cell (i := 2) rfl
    have kr_3 := kr.cell (i := 3) rfl
    clear kr_0 kr_1 kr_2 kr_3
    go_wp2_with fail
    refine (HL1.out _).mono ?_
    rintro e' wc7 ⟨rfl, hc7⟩
    clear kp_0 kp_1 kp_2 kp_3 kq_0 kq_1 kq_2 kq_3
    have kp := kp.kept hc7
    have kq := kq.kept hc7
    have kr := kr.kept hc7
    have kD := kD.kept hc7
    have kE := kE.kept hc7
    have hb := hb.trans (hc7.mono hb.size)
    clear hc7
    have kp_0 := kp.cell (i := 0) rfl
    have kp_1 := kp.cell (i := 1) rfl
    have kp_2 := kp.cell (i := 2) rfl
    have kp_3 := kp.cell (i := 3) rfl
    have kq_0 := kq.cell (i := 0) rfl
    have kq_1 := kq.cell (i := 1) rfl
    have kq_2 := kq.cell (i := 2) rfl
    have kq_3 := kq.cell (i := 3) rfl
    go_wp2_with fail
    refine (HL2.out _).mono ?_
    rintro e' wc8 ⟨rfl, hc8⟩
    clear kp_0 kp_1 kp_2 kp_3 kq_0 kq_1 kq_2 kq_3
    have kp := kp.kept hc8
    have kq := kq.kept hc8
    have kr := kr.kept hc8
    have kD := kD.kept hc8
    have kE := kE.kept hc8
    have hb := hb.trans (hc8.mono hb.size)
    clear hc8
    have kp_0 := kp.cell (i := 0) rfl
    have kp_1 := kp.cell (i := 1) rfl
    have kp_2 := kp.cell (i := 2) rfl
    have kp_3 := kp.cell (i := 3) rfl
    have kq_0 := kq.cell (i := 0) rfl
    have kq_1 := kq.cell (i := 1) rfl
    have kq_2 := kq.cell (i := 2) rfl
    have kq_3 := kq.cell (i := 3) rfl
    go_wp2_with fail
    refine (HCW.out _).mono ?_
    rintro e' wc9 ⟨rfl, hc9⟩
    clear kp_0 kp_1 kp_2 kp_3 kq_0 kq_1 kq_2 kq_3
    have kp := kp.kept hc9
    have kq := kq.kept hc9
    have kr := kr.kept hc9
    have kD := kD.kept hc9
    have kE := kE.kept hc9
    have hb := hb.trans (hc9.mono hb.size)
    clear hc9
    have kp_0 := kp.cell (i := 0) rfl
    have kp_1 := kp.cell (i := 1) rfl
    have kp_2 := kp.cell (i := 2) rfl
    have kp_3 := kp.cell (i := 3) rfl
    have kq_0 := kq.cell (i := 0) rfl
    have kq_1 := kq.cell (i := 1) rfl
    have kq_2 := kq.cell (i := 2) rfl
    have kq_3 := kq.cell (i := 3) rfl
    clear kp_0 kp_1 kp_2 kp_3
    clear kq_0 kq_1 kq_2 kq_3
    have hWa : IntKind.i64.wrap (-D.a) = -D.a := by rw [IntKind.wrap_i64]; have h := hwa; unfold wrap64 at h; exact h
    have hWb : IntKind.i64.wrap (-D.b) = -D.b := by rw [IntKind.wrap_i64]; have h := hwb; unfold wrap64 at h; exact h
    have hWc : IntKind.i64.wrap (-D.c) = -D.c := by rw [IntKind.wrap_i64]; have h := hwc'; unfold wrap64 at h; exact h
    have hWC : IntKind.i64.wrap (-C) = -C := by rw [IntKind.wrap_i64]; have h := hwC; unfold wrap64 at h; exact h
    go_upto_region 14 with fail
    go_cut [6] from 102 to 180 (fun v6 wx => v6 = .bool true ∧ Below wc9.heap.size wc9 wx)
    case first =>
      refine wp_region_pure' (fun ix => match ix with | 0 => .int .i64 0 | 1 => .bool true | 2 => .bool true | 3 => .int .i64 0 | 4 => .bool true | 5 => .bool true | 6 => .bool true | 7 => .int .i64 0 | 8 => .bool true | 9 => .bool true | 10 => .bool true | 11 => .int .i64 0 | 12 => .bool true | 13 => .bool true | 14 => .bool true | 15 => .int .i64 0 | 16 => .bool true | 17 => .bool true | 18 => .bool true | 19 => .int .i64 0 | 20 => .bool true | 21 => .bool true | 22 => .bool true | 23 => .agg #[.int .i64 (-D.a), .int .i64 (-D.b), .int .i64 (-D.c)] | 24 => .pointer (some ⟨wc1.heap.size, 0, none⟩) | 25 => .int .i64 D.a | 26 => .int .i64 (-D.a) | 27 => .pointer (some ⟨wc1.heap.size, 1, none⟩) | 28 => .int .i64 D.b | 29 => .int .i64 (-D.b) | 30 => .pointer (some ⟨wc1.heap.size, 2, none⟩) | 31 => .int .i64 D.c | 32 => .int .i64 (-D.c) | 33 => .agg #[.int .i64 (-D.a), .int .i64 (-D.b), .int .i64 (-D.c)] | 34 => .bool true | 35 => .bool true | 36 => .bool true | 37 => .agg #[.int .i64 D.a, .int .i64 D.b, .int .i64 D.c] | 38 => .agg #[.int .i64 0, .int .i64 0, .int .i64 0] | 39 => .bool true | 40 => .bool true | 41 => .bool true | 42 => .int .i64 (-C) | 43 => .int .i64 C | 44 => .int .i64 (-C) | 45 => .bool true | 46 => .bool true | 47 => .bool true | 48 => .int .i64 (-C) | 49 => .int .i64 C | 50 => .int .i64 (-C) | 51 => .bool true | 52 => .bool true | 53 => .bool true | 54 => .int .i64 (-1) | 55 => .bool true | 56 => .bool true | 57 => .bool true | 58 => .int .i64 0 | 59 => .bool true | 60 => .bool true | 61 => .bool true | 62 => .int .i64 0 | 63 => .bool true | 64 => .bool true | 65 => .bool true | 66 => .pointer (some ⟨wc1.heap.size, 0, none⟩) | 67 => .int .i64 D.a | 68 => .pointer (some ⟨wc1.heap.size, 1, none⟩) | 69 => .int .i64 D.b | 70 => .int .i64 g | 71 => .pointer (some ⟨wc1.heap.size, 2, none⟩) | 72 => .int .i64 D.c | 73 => .int .i64 1 | 74 => .bool true | 75 => .bool true | 76 => .bool true | 77 => .bool true | 78 => .bool true | _ => .bool true) (by kernel_rfl) (by kernel_rfl) ?_ ?_
      · rintro ix hx f ww hS hd
        have ka := kD.kept hS
        have kb := kE.kept hS
        have a0_ := ka.cell (i := 0) rfl
        have a1_ := ka.cell (i := 1) rfl
        have a2_ := ka.cell (i := 2) rfl
        have b0_ := kb.cell (i := 0) rfl
        have b1_ := kb.cell (i := 1) rfl
        have b2_ := kb.cell (i := 2) rfl
        rcases ix with _ | _ | _ | _ | _ | _ | _ | _ | _ | _ | _ | _ | _ | _ | _ | _ | _ | _ | _ | _ | _ | _ | _ | _ | _ | _ | _ | _ | _ | _ | _ | _ | _ | _ | _ | _ | _ | _ | _ | _ | _ | _ | _ | _ | _ | _ | _ | _ | _ | _ | _ | _ | _ | _ | _ | _ | _ | _ | _ | _ | _ | _ | _ | _ | _ | _ | _ | _ | _ | _ | _ | _ | _ | _ | _ | _ | _ | _ | _ | _ | ix
        · refine fastO (Op.move (Operand.tmp 15)) 102 (by first | exact hx | decide) (by kernel_rfl) (by kernel_rfl) (by kernel_rfl) (wantedN (by kernel_rfl)) ex_move ?_
          refine run1 (.tmp 15) (.int .i64 0) (eval_const _) (by kernel_rfl) (fun ρ hc h0 => ?_)
          simp [execOp, bare, hc, h0, go_sem, *]
        · have g0 : f 0 = .int .i64 0 := hd 0 (by kernel_rfl)
          refine fastO (Op.binOp BinOp.eql 25 (Operand.tmp 102) (Operand.const (Value.int IntKind.i64 0)) 25) 103 (by first | exact hx | decide) (by kernel_rfl) (by kernel_rfl) (by kernel_rfl) (wantedN (by kernel_rfl)) ex_binOp ?_
          refine run1 (.tmp 102) (.int .i64 0) (eval_const _) (Eq.trans (by kernel_rfl) g0) (fun ρ hc h0 => ?_)
          simp [execOp, bare, hc, h0, go_sem, *]
        · have g1 : f 1 = .bool true := hd 1 (by kernel_rfl)
          refine fastO (Op.move (Operand.tmp 103)) 104 (by first | exact hx | decide) (by kernel_rfl) (by kernel_rfl) (by kernel_rfl) (wantedN (by kernel_rfl)) ex_move ?_
          refine run1 (.tmp 103) (.bool true) (eval_const _) (Eq.trans (by kernel_rfl) g1) (fun ρ hc h0 => ?_)
          simp [execOp, bare, hc, h0, go_sem, *]
        · have g2 : f 2 = .bool true := hd 2 (by kernel_rfl)
          refine fastO (Op.move (Operand.tmp 17)) 105 (by first | exact hx | decide) (by kernel_rfl) (by kernel_rfl) (by kernel_rfl) (wantedG 2 104 (by decide) (by kernel_rfl) (by kernel_rfl) (Eq.trans (by kernel_rfl) (congrArg some g2))) ex_move ?_
          refine run1 (.tmp 17) (.int .i64 0) (eval_const _) (by kernel_rfl) (fun ρ hc h0 => ?_)
          simp [execOp, bare, hc, h0, go_sem, *]
        · have g2 : f 2 = .bool true := hd 2 (by kernel_rfl)
          have g3 : f 3 = .int .i64 0 := hd 3 (by kernel_rfl)
          refine fastO (Op.binOp BinOp.eql 25 (Operand.tmp 105) (Operand.const (Value.int IntKind.i64 0)) 25) 106 (by first | exact hx | decide) (by kernel_rfl) (by kernel_rfl) (by kernel_rfl) (wantedG 2 104 (by decide) (by kernel_rfl) (by kernel_rfl) (Eq.trans (by kernel_rfl) (congrArg some g2))) ex_binOp ?_
          refine run1 (.tmp 105) (.int .i64 0) (eval_const _) (Eq.trans (by kernel_rfl) g3) (fun ρ hc h0 => ?_)
          simp [execOp, bare, hc, h0, go_sem, *]
        · have g2 : f 2 = .bool true := hd 2 (by kernel_rfl)
          have g4 : f 4 = .bool true := hd 4 (by kernel_rfl)
          refine fastO (Op.pick (Operand.tmp 104) (Operand.tmp 106) (Operand.const (Value.bool false))) 107 (by first | exact hx | decide) (by kernel_rfl) (by kernel_rfl) (by kernel_rfl) (wantedN (by kernel_rfl)) ex_pick ?_
          refine run2 (.tmp 104) (.tmp 106) (.bool true) (.bool true) (eval_const _) (Eq.trans (by kernel_rfl) g2) (Eq.trans (by kernel_rfl) g4) (fun ρ hc h0 h1 => ?_)
          simp [execOp, bare, hc, h0, h1, go_sem, *]
        · have g5 : f 5 = .bool true := hd 5 (by kernel_rfl)
          refine fastO (Op.move (Operand.tmp 107)) 108 (by first | exact hx | decide) (by kernel_rfl) (by kernel_rfl) (by kernel_rfl) (wantedN (by kernel_rfl)) ex_move ?_
          refine run1 (.tmp 107) (.bool true) (eval_const _) (Eq.trans (by kernel_rfl) g5) (fun ρ hc h0 => ?_)
          simp [execOp, bare, hc, h0, go_sem, *]
        · have g6 : f 6 = .bool true := hd 6 (by kernel_rfl)
          refine fastO (Op.move (Operand.tmp 19)) 109 (by first | exact hx | decide) (by kernel_rfl) (by kernel_rfl) (by kernel_rfl) (wantedG 6 108 (by decide) (by kernel_rfl) (by kernel_rfl) (Eq.trans (by kernel_rfl) (congrArg some g6))) ex_move ?_
          refine run1 (.tmp 19) (.int .i64 0) (eval_const _) (by kernel_rfl) (fun ρ hc h0 => ?_)
          simp [execOp, bare, hc, h0, go_sem, *]
        · have g6 : f 6 = .bool true := hd 6 (by kernel_rfl)
          have g7 : f 7 = .int .i64 0 := hd 7 (by kernel_rfl)
          refine fastO (Op.binOp BinOp.eql 25 (Operand.tmp 109) (Operand.const (Value.int IntKind.i64 0)) 25) 110 (by first | exact hx | decide) (by kernel_rfl) (by kernel_rfl) (by kernel_rfl) (wantedG 6 108 (by decide) (by kernel_rfl) (by kernel_rfl) (Eq.trans (by kernel_rfl) (congrArg some g6))) ex_binOp ?_
          refine run1 (.tmp 109) (.int .i64 0) (eval_const _) (Eq.trans (by kernel_rfl) g7) (fun ρ hc h0 => ?_)
          simp [execOp, bare, hc, h0, go_sem, *]
        · have g6 : f 6 = .bool true := hd 6 (by kernel_rfl)
          have g8 : f 8 = .bool true := hd 8 (by kernel_rfl)
          refine fastO (Op.pick (Operand.tmp 108) (Operand.tmp 110) (Operand.const (Value.bool false))) 111 (by first | exact hx | decide) (by kernel_rfl) (by kernel_rfl) (by kernel_rfl) (wantedN (by kernel_rfl)) ex_pick ?_
          refine run2 (.tmp 108) (.tmp 110) (.bool true) (.bool true) (eval_const _) (Eq.trans (by kernel_rfl) g6) (Eq.trans (by kernel_rfl) g8) (fun ρ hc h0 h1 => ?_)
          simp [execOp, bare, hc, h0, h1, go_sem, *]
        · have g9 : f 9 = .bool true := hd 9 (by kernel_rfl)
          refine fastO (Op.move (Operand.tmp 111)) 112 (by first | exact hx | decide) (by kernel_rfl) (by kernel_rfl) (by kernel_rfl) (wantedN (by kernel_rfl)) ex_move ?_
          refine run1 (.tmp 111) (.bool true) (eval_const _) (Eq.trans (by kernel_rfl) g9) (fun ρ hc h0 => ?_)
          simp [execOp, bare, hc, h0, go_sem, *]
        · have g10 : f 10 = .bool true := hd 10 (by kernel_rfl)
          refine fastO (Op.move (Operand.tmp 21)) 113 (by first | exact hx | decide) (by kernel_rfl) (by kernel_rfl) (by kernel_rfl) (wantedG 10 112 (by decide) (by kernel_rfl) (by kernel_rfl) (Eq.trans (by kernel_rfl) (congrArg some g10))) ex_move ?_
          refine run1 (.tmp 21) (.int .i64 0) (eval_const _) (by kernel_rfl) (fun ρ hc h0 => ?_)
          simp [execOp, bare, hc, h0, go_sem, *]
        · have g10 : f 10 = .bool true := hd 10 (by kernel_rfl)
          have g11 : f 11 = .int .i64 0 := hd 11 (by kernel_rfl)
          refine fastO (Op.binOp BinOp.eql 25 (Operand.tmp 113) (Operand.const (Value.int IntKind.i64 0)) 25) 114 (by first | exact hx | decide) (by kernel_rfl) (by kernel_rfl) (by kernel_rfl) (wantedG 10 112 (by decide) (by kernel_rfl) (by kernel_rfl) (Eq.trans (by kernel_rfl) (congrArg some g10))) ex_binOp ?_
          refine run1 (.tmp 113) (.int .i64 0) (eval_const _) (Eq.trans (by kernel_rfl) g11) (fun ρ hc h0 => ?_)
          simp [execOp, bare, hc, h0, go_sem, *]
        · have g10 : f 10 = .bool true := hd 10 (by kernel_rfl)
          have g12 : f 12 = .bool true := hd 12 (by kernel_rfl)
          refine fastO (Op.pick (Operand.tmp 112) (Operand.tmp 114) (Operand.const (Value.bool false))) 115 (by first | exact hx | decide) (by kernel_rfl) (by kernel_rfl) (by kernel_rfl) (wantedN (by kernel_rfl)) ex_pick ?_
          refine run2 (.tmp 112) (.tmp 114) (.bool true) (.bool true) (eval_const _) (Eq.trans (by kernel_rfl) g10) (Eq.trans (by kernel_rfl) g12) (fun ρ hc h0 h1 => ?_)
          simp [execOp, bare, hc, h0, h1, go_sem, *]
        · have g13 : f 13 = .bool true := hd 13 (by kernel_rfl)
          refine fastO (Op.move (Operand.tmp 115)) 116 (by first | exact hx | decide) (by kernel_rfl) (by kernel_rfl) (by kernel_rfl) (wantedN (by kernel_rfl)) ex_move ?_
          refine run1 (.tmp 115) (.bool true) (eval_const _) (Eq.trans (by kernel_rfl) g13) (fun ρ hc h0 => ?_)
          simp [execOp, bare, hc, h0, go_sem, *]
        · have g14 : f 14 = .bool true := hd 14 (by kernel_rfl)
          refine fastO (Op.move (Operand.tmp 23)) 117 (by first | exact hx | decide) (by kernel_rfl) (by kernel_rfl) (by kernel_rfl) (wantedG 14 116 (by decide) (by kernel_rfl) (by kernel_rfl) (Eq.trans (by kernel_rfl) (congrArg some g14))) ex_move ?_
          refine run1 (.tmp 23) (.int .i64 0) (eval_const _) (by kernel_rfl) (fun ρ hc h0 => ?_)
          simp [execOp, bare, hc, h0, go_sem, *]
        · have g14 : f 14 = .bool true := hd 14 (by kernel_rfl)
          have g15 : f 15 = .int .i64 0 := hd 15 (by kernel_rfl)
          refine fastO (Op.binOp BinOp.eql 25 (Operand.tmp 117) (Operand.const (Value.int IntKind.i64 0)) 25) 118 (by first | exact hx | decide) (by kernel_rfl) (by kernel_rfl) (by kernel_rfl) (wantedG 14 116 (by decide) (by kernel_rfl) (by kernel_rfl) (Eq.trans (by kernel_rfl) (congrArg some g14))) ex_binOp ?_
          refine run1 (.tmp 117) (.int .i64 0) (eval_const _) (Eq.trans (by kernel_rfl) g15) (fun ρ hc h0 => ?_)
          simp [execOp, bare, hc, h0, go_sem, *]
        · have g14 : f 14 = .bool true := hd 14 (by kernel_rfl)
          have g16 : f 16 = .bool true := hd 16 (by kernel_rfl)
          refine fastO (Op.pick (Operand.tmp 116) (Operand.tmp 118) (Operand.const (Value.bool false))) 119 (by first | exact hx | decide) (by kernel_rfl) (by kernel_rfl) (by kernel_rfl) (wantedN (by kernel_rfl)) ex_pick ?_
          refine run2 (.tmp 116) (.tmp 118) (.bool true) (.bool true) (eval_const _) (Eq.trans (by kernel_rfl) g14) (Eq.trans (by kernel_rfl) g16) (fun ρ hc h0 h1 => ?_)
          simp [execOp, bare, hc, h0, h1, go_sem, *]
        · have g17 : f 17 = .bool true := hd 17 (by kernel_rfl)
          refine fastO (Op.move (Operand.tmp 119)) 120 (by first | exact hx | decide) (by kernel_rfl) (by kernel_rfl) (by kernel_rfl) (wantedN (by kernel_rfl)) ex_move ?_
          refine run1 (.tmp 119) (.bool true) (eval_const _) (Eq.trans (by kernel_rfl) g17) (fun ρ hc h0 => ?_)
          simp [execOp, bare, hc, h0, go_sem, *]
        · have g18 : f 18 = .bool true := hd 18 (by kernel_rfl)
          refine fastO (Op.move (Operand.tmp 25)) 121 (by first | exact hx | decide) (by kernel_rfl) (by kernel_rfl) (by kernel_rfl) (wantedG 18 120 (by decide) (by kernel_rfl) (by kernel_rfl) (Eq.trans (by kernel_rfl) (congrArg some g18))) ex_move ?_
          refine run1 (.tmp 25) (.int .i64 0) (eval_const _) (by kernel_rfl) (fun ρ hc h0 => ?_)
          simp [execOp, bare, hc, h0, go_sem, *]
        · have g18 : f 18 = .bool true := hd 18 (by kernel_rfl)
          have g19 : f 19 = .int .i64 0 := hd 19 (by kernel_rfl)
          refine fastO (Op.binOp BinOp.eql 25 (Operand.tmp 121) (Operand.const (Value.int IntKind.i64 0)) 25) 122 (by first | exact hx | decide) (by kernel_rfl) (by kernel_rfl) (by kernel_rfl) (wantedG 18 120 (by decide) (by kernel_rfl) (by kernel_rfl) (Eq.trans (by kernel_rfl) (congrArg some g18))) ex_binOp ?_
          refine run1 (.tmp 121) (.int .i64 0) (eval_const _) (Eq.trans (by kernel_rfl) g19) (fun ρ hc h0 => ?_)
          simp [execOp, bare, hc, h0, go_sem, *]
        · have g18 : f 18 = .bool true := hd 18 (by kernel_rfl)
          have g20 : f 20 = .bool true := hd 20 (by kernel_rfl)
          refine fastO (Op.pick (Operand.tmp 120) (Operand.tmp 122) (Operand.const (Value.bool false))) 123 (by first | exact hx | decide) (by kernel_rfl) (by kernel_rfl) (by kernel_rfl) (wantedN (by kernel_rfl)) ex_pick ?_
          refine run2 (.tmp 120) (.tmp 122) (.bool true) (.bool true) (eval_const _) (Eq.trans (by kernel_rfl) g18) (Eq.trans (by kernel_rfl) g20) (fun ρ hc h0 h1 => ?_)
          simp [execOp, bare, hc, h0, h1, go_sem, *]
        · have g21 : f 21 = .bool true := hd 21 (by kernel_rfl)
          refine fastO (Op.move (Operand.tmp 123)) 124 (by first | exact hx | decide) (by kernel_rfl) (by kernel_rfl) (by kernel_rfl) (wantedN (by kernel_rfl)) ex_move ?_
          refine run1 (.tmp 123) (.bool true) (eval_const _) (Eq.trans (by kernel_rfl) g21) (fun ρ hc h0 => ?_)
          simp [execOp, bare, hc, h0, go_sem, *]
        · have g22 : f 22 = .bool true := hd 22 (by kernel_rfl)
          refine fastO (Op.load 24 (Operand.tmp 12)) 125 (by first | exact hx | decide) (by kernel_rfl) (by kernel_rfl) (by kernel_rfl) (wantedG 22 124 (by decide) (by kernel_rfl) (by kernel_rfl) (Eq.trans (by kernel_rfl) (congrArg some g22))) ex_load ?_
          refine run1 (.tmp 12) (.pointer (some ⟨wc3.heap.size, 0, none⟩)) (eval_const _) (by kernel_rfl) (fun ρ hc h0 => ?_)
          simp [execOp, bare, hc, h0, go_sem, *]
        · have g22 : f 22 = .bool true := hd 22 (by kernel_rfl)
          refine fastO (Op.indexAddr 24 (Operand.tmp 10) (Operand.const (Value.int IntKind.i64 0))) 126 (by first | exact hx | decide) (by kernel_rfl) (by kernel_rfl) (by kernel_rfl) (wantedG 22 124 (by decide) (by kernel_rfl) (by kernel_rfl) (Eq.trans (by kernel_rfl) (congrArg some g22))) ex_index ?_
          refine run1 (.tmp 10) (.pointer (some ⟨wc1.heap.size, 0, none⟩)) (eval_const _) (by kernel_rfl) (fun ρ hc h0 => ?_)
          simp [execOp, bare, hc, h0, go_sem, *]
        · have g22 : f 22 = .bool true := hd 22 (by kernel_rfl)
          have g24 : f 24 = .pointer (some ⟨wc1.heap.size, 0, none⟩) := hd 24 (by kernel_rfl)
          refine fastO (Op.load 2 (Operand.tmp 126)) 127 (by first | exact hx | decide) (by kernel_rfl) (by kernel_rfl) (by kernel_rfl) (wantedG 22 124 (by decide) (by kernel_rfl) (by kernel_rfl) (Eq.trans (by kernel_rfl) (congrArg some g22))) ex_load ?_
          refine run1 (.tmp 126) (.pointer (some ⟨wc1.heap.size, 0, none⟩)) (eval_const _) (Eq.trans (by kernel_rfl) g24) (fun ρ hc h0 => ?_)
          simp [execOp, bare, hc, h0, go_sem, *]
        · have g22 : f 22 = .bool true := hd 22 (by kernel_rfl)
          have g25 : f 25 = .int .i64 D.a := hd 25 (by kernel_rfl)
          refine fastO (Op.unOp UnOp.neg 2 (Operand.tmp 127)) 128 (by first | exact hx | decide) (by kernel_rfl) (by kernel_rfl) (by kernel_rfl) (wantedG 22 124 (by decide) (by kernel_rfl) (by kernel_rfl) (Eq.trans (by kernel_rfl) (congrArg some g22))) ex_unOp ?_
          refine run1 (.tmp 127) (.int .i64 D.a) (eval_const _) (Eq.trans (by kernel_rfl) g25) (fun ρ hc h0 => ?_)
          simp [execOp, bare, hc, h0, go_sem, *]
          all_goals assumption
        · have g22 : f 22 = .bool true := hd 22 (by kernel_rfl)
          refine fastO (Op.indexAddr 24 (Operand.tmp 10) (Operand.const (Value.int IntKind.i64 1))) 129 (by first | exact hx | decide) (by kernel_rfl) (by kernel_rfl) (by kernel_rfl) (wantedG 22 124 (by decide) (by kernel_rfl) (by kernel_rfl) (Eq.trans (by kernel_rfl) (congrArg some g22))) ex_index ?_
          refine run1 (.tmp 10) (.pointer (some ⟨wc1.heap.size, 0, none⟩)) (eval_const _) (by kernel_rfl) (fun ρ hc h0 => ?_)
          simp [execOp, bare, hc, h0, go_sem, *]
        · have g22 : f 22 = .bool true := hd 22 (by kernel_rfl)
          have g27 : f 27 = .pointer (some ⟨wc1.heap.size, 1, none⟩) := hd 27 (by kernel_rfl)
          refine fastO (Op.load 2 (Operand.tmp 129)) 130 (by first | exact hx | decide) (by kernel_rfl) (by kernel_rfl) (by kernel_rfl) (wantedG 22 124 (by decide) (by kernel_rfl) (by kernel_rfl) (Eq.trans (by kernel_rfl) (congrArg some g22))) ex_load ?_
          refine run1 (.tmp 129) (.pointer (some ⟨wc1.heap.size, 1, none⟩)) (eval_const _) (Eq.trans (by kernel_rfl) g27) (fun ρ hc h0 => ?_)
          simp [execOp, bare, hc, h0, go_sem, *]
        · have g22 : f 22 = .bool true := hd 22 (by kernel_rfl)
          have g28 : f 28 = .int .i64 D.b := hd 28 (by kernel_rfl)
          refine fastO (Op.unOp UnOp.neg 2 (Operand.tmp 130)) 131 (by first | exact hx | decide) (by kernel_rfl) (by kernel_rfl) (by kernel_rfl) (wantedG 22 124 (by decide) (by kernel_rfl) (by kernel_rfl) (Eq.trans (by kernel_rfl) (congrArg some g22))) ex_unOp ?_
          refine run1 (.tmp 130) (.int .i64 D.b) (eval_const _) (Eq.trans (by kernel_rfl) g28) (fun ρ hc h0 => ?_)
          simp [execOp, bare, hc, h0, go_sem, *]
          all_goals assumption
        · have g22 : f 22 = .bool true := hd 22 (by kernel_rfl)
          refine fastO (Op.indexAddr 24 (Operand.tmp 10) (Operand.const (Value.int IntKind.i64 2))) 132 (by first | exact hx | decide) (by kernel_rfl) (by kernel_rfl) (by kernel_rfl) (wantedG 22 124 (by decide) (by kernel_rfl) (by kernel_rfl) (Eq.trans (by kernel_rfl) (congrArg some g22))) ex_index ?_
          refine run1 (.tmp 10) (.pointer (some ⟨wc1.heap.size, 0, none⟩)) (eval_const _) (by kernel_rfl) (fun ρ hc h0 => ?_)
          simp [execOp, bare, hc, h0, go_sem, *]
        · have g22 : f 22 = .bool true := hd 22 (by kernel_rfl)
          have g30 : f 30 = .pointer (some ⟨wc1.heap.size, 2, none⟩) := hd 30 (by kernel_rfl)
          refine fastO (Op.load 2 (Operand.tmp 132)) 133 (by first | exact hx | decide) (by kernel_rfl) (by kernel_rfl) (by kernel_rfl) (wantedG 22 124 (by decide) (by kernel_rfl) (by kernel_rfl) (Eq.trans (by kernel_rfl) (congrArg some g22))) ex_load ?_
          refine run1 (.tmp 132) (.pointer (some ⟨wc1.heap.size, 2, none⟩)) (eval_const _) (Eq.trans (by kernel_rfl) g30) (fun ρ hc h0 => ?_)
          simp [execOp, bare, hc, h0, go_sem, *]
        · have g22 : f 22 = .bool true := hd 22 (by kernel_rfl)
          have g31 : f 31 = .int .i64 D.c := hd 31 (by kernel_rfl)
          refine fastO (Op.unOp UnOp.neg 2 (Operand.tmp 133)) 134 (by first | exact hx | decide) (by kernel_rfl) (by kernel_rfl) (by kernel_rfl) (wantedG 22 124 (by decide) (by kernel_rfl) (by kernel_rfl) (Eq.trans (by kernel_rfl) (congrArg some g22))) ex_unOp ?_
          refine run1 (.tmp 133) (.int .i64 D.c) (eval_const _) (Eq.trans (by kernel_rfl) g31) (fun ρ hc h0 => ?_)
          simp [execOp, bare, hc, h0, go_sem, *]
          all_goals assumption
        · have g22 : f 22 = .bool true := hd 22 (by kernel_rfl)
          have g26 : f 26 = .int .i64 (-D.a) := hd 26 (by kernel_rfl)
          have g29 : f 29 = .int .i64 (-D.b) := hd 29 (by kernel_rfl)
          have g32 : f 32 = .int .i64 (-D.c) := hd 32 (by kernel_rfl)
          refine fastO (Op.build 24 #[(0, (Operand.tmp 128)), (1, (Operand.tmp 131)), (2, (Operand.tmp 134))]) 135 (by first | exact hx | decide) (by kernel_rfl) (by kernel_rfl) (by kernel_rfl) (wantedG 22 124 (by decide) (by kernel_rfl) (by kernel_rfl) (Eq.trans (by kernel_rfl) (congrArg some g22))) ex_build ?_
          refine run3 (.tmp 128) (.tmp 131) (.tmp 134) (.int .i64 (-D.a)) (.int .i64 (-D.b)) (.int .i64 (-D.c)) (eval_const _) (Eq.trans (by kernel_rfl) g26) (Eq.trans (by kernel_rfl) g29) (Eq.trans (by kernel_rfl) g32) (fun ρ hc h0 h1 h2 => ?_)
          simp [execOp, bare, hc, h0, h1, h2, go_sem, *]
        · have g22 : f 22 = .bool true := hd 22 (by kernel_rfl)
          have g23 : f 23 = .agg #[.int .i64 (-D.a), .int .i64 (-D.b), .int .i64 (-D.c)] := hd 23 (by kernel_rfl)
          have g33 : f 33 = .agg #[.int .i64 (-D.a), .int .i64 (-D.b), .int .i64 (-D.c)] := hd 33 (by kernel_rfl)
          refine fastO (Op.binOp BinOp.eql 24 (Operand.tmp 125) (Operand.tmp 135) 24) 136 (by first | exact hx | decide) (by kernel_rfl) (by kernel_rfl) (by kernel_rfl) (wantedG 22 124 (by decide) (by kernel_rfl) (by kernel_rfl) (Eq.trans (by kernel_rfl) (congrArg some g22))) ex_binOp ?_
          refine run2 (.tmp 125) (.tmp 135) (.agg #[.int .i64 (-D.a), .int .i64 (-D.b), .int .i64 (-D.c)]) (.agg #[.int .i64 (-D.a), .int .i64 (-D.b), .int .i64 (-D.c)]) (eval_const _) (Eq.trans (by kernel_rfl) g23) (Eq.trans (by kernel_rfl) g33) (fun ρ hc h0 h1 => ?_)
          simp [execOp, bare, hc, h0, h1, go_sem, *]
        · have g22 : f 22 = .bool true := hd 22 (by kernel_rfl)
          have g34 : f 34 = .bool true := hd 34 (by kernel_rfl)
          refine fastO (Op.pick (Operand.tmp 124) (Operand.tmp 136) (Operand.const (Value.bool false))) 137 (by first | exact hx | decide) (by kernel_rfl) (by kernel_rfl) (by kernel_rfl) (wantedN (by kernel_rfl)) ex_pick ?_
          refine run2 (.tmp 124) (.tmp 136) (.bool true) (.bool true) (eval_const _) (Eq.trans (by kernel_rfl) g22) (Eq.trans (by kernel_rfl) g34) (fun ρ hc h0 h1 => ?_)
          simp [execOp, bare, hc, h0, h1, go_sem, *]
        · have g35 : f 35 = .bool true := hd 35 (by kernel_rfl)
          refine fastO (Op.move (Operand.tmp 137)) 138 (by first | exact hx | decide) (by kernel_rfl) (by kernel_rfl) (by kernel_rfl) (wantedN (by kernel_rfl)) ex_move ?_
          refine run1 (.tmp 137) (.bool true) (eval_const _) (Eq.trans (by kernel_rfl) g35) (fun ρ hc h0 => ?_)
          simp [execOp, bare, hc, h0, go_sem, *]
        · have g36 : f 36 = .bool true := hd 36 (by kernel_rfl)
          refine fastO (Op.load 24 (Operand.tmp 10)) 139 (by first | exact hx | decide) (by kernel_rfl) (by kernel_rfl) (by kernel_rfl) (wantedG 36 138 (by decide) (by kernel_rfl) (by kernel_rfl) (Eq.trans (by kernel_rfl) (congrArg some g36))) ex_load ?_
          refine run1 (.tmp 10) (.pointer (some ⟨wc1.heap.size, 0, none⟩)) (eval_const _) (by kernel_rfl) (fun ρ hc h0 => ?_)
          simp [execOp, bare, hc, h0, go_sem, *]
        · have g36 : f 36 = .bool true := hd 36 (by kernel_rfl)
          refine fastO (Op.build 24 #[]) 140 (by first | exact hx | decide) (by kernel_rfl) (by kernel_rfl) (by kernel_rfl) (wantedG 36 138 (by decide) (by kernel_rfl) (by kernel_rfl) (Eq.trans (by kernel_rfl) (congrArg some g36))) ex_build ?_
          refine run0  (eval_const _) (fun ρ hc => ?_)
          simp [execOp, bare, hc, go_sem, *]
        · have g36 : f 36 = .bool true := hd 36 (by kernel_rfl)
          have g37 : f 37 = .agg #[.int .i64 D.a, .int .i64 D.b, .int .i64 D.c] := hd 37 (by kernel_rfl)
          have g38 : f 38 = .agg #[.int .i64 0, .int .i64 0, .int .i64 0] := hd 38 (by kernel_rfl)
          refine fastO (Op.binOp BinOp.neq 24 (Operand.tmp 139) (Operand.tmp 140) 24) 141 (by first | exact hx | decide) (by kernel_rfl) (by kernel_rfl) (by kernel_rfl) (wantedG 36 138 (by decide) (by kernel_rfl) (by kernel_rfl) (Eq.trans (by kernel_rfl) (congrArg some g36))) ex_binOp ?_
          refine run2 (.tmp 139) (.tmp 140) (.agg #[.int .i64 D.a, .int .i64 D.b, .int .i64 D.c]) (.agg #[.int .i64 0, .int .i64 0, .int .i64 0]) (eval_const _) (Eq.trans (by kernel_rfl) g37) (Eq.trans (by kernel_rfl) g38) (fun ρ hc h0 h1 => ?_)
          simp [execOp, bare, hc, h0, h1, go_sem, *]
        · have g36 : f 36 = .bool true := hd 36 (by kernel_rfl)
          have g39 : f 39 = .bool true := hd 39 (by kernel_rfl)
          refine fastO (Op.pick (Operand.tmp 138) (Operand.tmp 141) (Operand.const (Value.bool false))) 142 (by first | exact hx | decide) (by kernel_rfl) (by kernel_rfl) (by kernel_rfl) (wantedN (by kernel_rfl)) ex_pick ?_
          refine run2 (.tmp 138) (.tmp 141) (.bool true) (.bool true) (eval_const _) (Eq.trans (by kernel_rfl) g36) (Eq.trans (by kernel_rfl) g39) (fun ρ hc h0 h1 => ?_)
          simp [execOp, bare, hc, h0, h1, go_sem, *]
        · have g40 : f 40 = .bool true := hd 40 (by kernel_rfl)
          refine fastO (Op.move (Operand.tmp 142)) 143 (by first | exact hx | decide) (by kernel_rfl) (by kernel_rfl) (by kernel_rfl) (wantedN (by kernel_rfl)) ex_move ?_
          refine run1 (.tmp 142) (.bool true) (eval_const _) (Eq.trans (by kernel_rfl) g40) (fun ρ hc h0 => ?_)
          simp [execOp, bare, hc, h0, go_sem, *]
        · have g41 : f 41 = .bool true := hd 41 (by kernel_rfl)
          refine fastO (Op.move (Operand.tmp 16)) 144 (by first | exact hx | decide) (by kernel_rfl) (by kernel_rfl) (by kernel_rfl) (wantedG 41 143 (by decide) (by kernel_rfl) (by kernel_rfl) (Eq.trans (by kernel_rfl) (congrArg some g41))) ex_move ?_
          refine run1 (.tmp 16) (.int .i64 (-C)) (eval_const _) (by kernel_rfl) (fun ρ hc h0 => ?_)
          simp [execOp, bare, hc, h0, go_sem, *]
        · have g41 : f 41 = .bool true := hd 41 (by kernel_rfl)
          refine fastO (Op.move (Operand.tmp 14)) 145 (by first | exact hx | decide) (by kernel_rfl) (by kernel_rfl) (by kernel_rfl) (wantedG 41 143 (by decide) (by kernel_rfl) (by kernel_rfl) (Eq.trans (by kernel_rfl) (congrArg some g41))) ex_move ?_
          refine run1 (.tmp 14) (.int .i64 C) (eval_const _) (by kernel_rfl) (fun ρ hc h0 => ?_)
          simp [execOp, bare, hc, h0, go_sem, *]
        · have g41 : f 41 = .bool true := hd 41 (by kernel_rfl)
          have g43 : f 43 = .int .i64 C := hd 43 (by kernel_rfl)
          refine fastO (Op.unOp UnOp.neg 3 (Operand.tmp 145)) 146 (by first | exact hx | decide) (by kernel_rfl) (by kernel_rfl) (by kernel_rfl) (wantedG 41 143 (by decide) (by kernel_rfl) (by kernel_rfl) (Eq.trans (by kernel_rfl) (congrArg some g41))) ex_unOp ?_
          refine run1 (.tmp 145) (.int .i64 C) (eval_const _) (Eq.trans (by kernel_rfl) g43) (fun ρ hc h0 => ?_)
          simp [execOp, bare, hc, h0, go_sem, *]
          all_goals assumption
        · have g41 : f 41 = .bool true := hd 41 (by kernel_rfl)
          have g42 : f 42 = .int .i64 (-C) := hd 42 (by kernel_rfl)
          have g44 : f 44 = .int .i64 (-C) := hd 44 (by kernel_rfl)
          refine fastO (Op.binOp BinOp.eql 3 (Operand.tmp 144) (Operand.tmp 146) 3) 147 (by first | exact hx | decide) (by kernel_rfl) (by kernel_rfl) (by kernel_rfl) (wantedG 41 143 (by decide) (by kernel_rfl) (by kernel_rfl) (Eq.trans (by kernel_rfl) (congrArg some g41))) ex_binOp ?_
          refine run2 (.tmp 144) (.tmp 146) (.int .i64 (-C)) (.int .i64 (-C)) (eval_const _) (Eq.trans (by kernel_rfl) g42) (Eq.trans (by kernel_rfl) g44) (fun ρ hc h0 h1 => ?_)
          simp [execOp, bare, hc, h0, h1, go_sem, *]
        · have g41 : f 41 = .bool true := hd 41 (by kernel_rfl)
          have g45 : f 45 = .bool true := hd 45 (by kernel_rfl)
          refine fastO (Op.pick (Operand.tmp 143) (Operand.tmp 147) (Operand.const (Value.bool false))) 148 (by first | exact hx | decide) (by kernel_rfl) (by kernel_rfl) (by kernel_rfl) (wantedN (by kernel_rfl)) ex_pick ?_
          refine run2 (.tmp 143) (.tmp 147) (.bool true) (.bool true) (eval_const _) (Eq.trans (by kernel_rfl) g41) (Eq.trans (by kernel_rfl) g45) (fun ρ hc h0 h1 => ?_)
          simp [execOp, bare, hc, h0, h1, go_sem, *]
        · have g46 : f 46 = .bool true := hd 46 (by kernel_rfl)
          refine fastO (Op.move (Operand.tmp 148)) 149 (by first | exact hx | decide) (by kernel_rfl) (by kernel_rfl) (by kernel_rfl) (wantedN (by kernel_rfl)) ex_move ?_
          refine run1 (.tmp 148) (.bool true) (eval_const _) (Eq.trans (by kernel_rfl) g46) (fun ρ hc h0 => ?_)
          simp [execOp, bare, hc, h0, go_sem, *]
        · have g47 : f 47 = .bool true := hd 47 (by kernel_rfl)
          refine fastO (Op.move (Operand.tmp 18)) 150 (by first | exact hx | decide) (by kernel_rfl) (by kernel_rfl) (by kernel_rfl) (wantedG 47 149 (by decide) (by kernel_rfl) (by kernel_rfl) (Eq.trans (by kernel_rfl) (congrArg some g47))) ex_move ?_
          refine run1 (.tmp 18) (.int .i64 (-C)) (eval_const _) (by kernel_rfl) (fun ρ hc h0 => ?_)
          simp [execOp, bare, hc, h0, go_sem, *]
        · have g47 : f 47 = .bool true := hd 47 (by kernel_rfl)
          refine fastO (Op.move (Operand.tmp 14)) 151 (by first | exact hx | decide) (by kernel_rfl) (by kernel_rfl) (by kernel_rfl) (wantedG 47 149 (by decide) (by kernel_rfl) (by kernel_rfl) (Eq.trans (by kernel_rfl) (congrArg some g47))) ex_move ?_
          refine run1 (.tmp 14) (.int .i64 C) (eval_const _) (by kernel_rfl) (fun ρ hc h0 => ?_)
          simp [execOp, bare, hc, h0, go_sem, *]
        · have g47 : f 47 = .bool true := hd 47 (by kernel_rfl)
          have g49 : f 49 = .int .i64 C := hd 49 (by kernel_rfl)
          refine fastO (Op.unOp UnOp.neg 3 (Operand.tmp 151)) 152 (by first | exact hx | decide) (by kernel_rfl) (by kernel_rfl) (by kernel_rfl) (wantedG 47 149 (by decide) (by kernel_rfl) (by kernel_rfl) (Eq.trans (by kernel_rfl) (congrArg some g47))) ex_unOp ?_
          refine run1 (.tmp 151) (.int .i64 C) (eval_const _) (Eq.trans (by kernel_rfl) g49) (fun ρ hc h0 => ?_)
          simp [execOp, bare, hc, h0, go_sem, *]
          all_goals assumption
        · have g47 : f 47 = .bool true := hd 47 (by kernel_rfl)
          have g48 : f 48 = .int .i64 (-C) := hd 48 (by kernel_rfl)
          have g50 : f 50 = .int .i64 (-C) := hd 50 (by kernel_rfl)
          refine fastO (Op.binOp BinOp.eql 3 (Operand.tmp 150) (Operand.tmp 152) 3) 153 (by first | exact hx | decide) (by kernel_rfl) (by kernel_rfl) (by kernel_rfl) (wantedG 47 149 (by decide) (by kernel_rfl) (by kernel_rfl) (Eq.trans (by kernel_rfl) (congrArg some g47))) ex_binOp ?_
          refine run2 (.tmp 150) (.tmp 152) (.int .i64 (-C)) (.int .i64 (-C)) (eval_const _) (Eq.trans (by kernel_rfl) g48) (Eq.trans (by kernel_rfl) g50) (fun ρ hc h0 h1 => ?_)
          simp [execOp, bare, hc, h0, h1, go_sem, *]
        · have g47 : f 47 = .bool true := hd 47 (by kernel_rfl)
          have g51 : f 51 = .bool true := hd 51 (by kernel_rfl)
          refine fastO (Op.pick (Operand.tmp 149) (Operand.tmp 153) (Operand.const (Value.bool false))) 154 (by first | exact hx | decide) (by kernel_rfl) (by kernel_rfl) (by kernel_rfl) (wantedN (by kernel_rfl)) ex_pick ?_
          refine run2 (.tmp 149) (.tmp 153) (.bool true) (.bool true) (eval_const _) (Eq.trans (by kernel_rfl) g47) (Eq.trans (by kernel_rfl) g51) (fun ρ hc h0 h1 => ?_)
          simp [execOp, bare, hc, h0, h1, go_sem, *]
        · have g52 : f 52 = .bool true := hd 52 (by kernel_rfl)
          refine fastO (Op.move (Operand.tmp 154)) 155 (by first | exact hx | decide) (by kernel_rfl) (by kernel_rfl) (by kernel_rfl) (wantedN (by kernel_rfl)) ex_move ?_
          refine run1 (.tmp 154) (.bool true) (eval_const _) (Eq.trans (by kernel_rfl) g52) (fun ρ hc h0 => ?_)
          simp [execOp, bare, hc, h0, go_sem, *]
        · have g53 : f 53 = .bool true := hd 53 (by kernel_rfl)
          refine fastO (Op.move (Operand.tmp 20)) 156 (by first | exact hx | decide) (by kernel_rfl) (by kernel_rfl) (by kernel_rfl) (wantedG 53 155 (by decide) (by kernel_rfl) (by kernel_rfl) (Eq.trans (by kernel_rfl) (congrArg some g53))) ex_move ?_
          refine run1 (.tmp 20) (.int .i64 (-1)) (eval_const _) (by kernel_rfl) (fun ρ hc h0 => ?_)
          simp [execOp, bare, hc, h0, go_sem, *]
        · have g53 : f 53 = .bool true := hd 53 (by kernel_rfl)
          have g54 : f 54 = .int .i64 (-1) := hd 54 (by kernel_rfl)
          refine fastO (Op.binOp BinOp.eql 3 (Operand.tmp 156) (Operand.const (Value.int IntKind.i64 (-1))) 3) 157 (by first | exact hx | decide) (by kernel_rfl) (by kernel_rfl) (by kernel_rfl) (wantedG 53 155 (by decide) (by kernel_rfl) (by kernel_rfl) (Eq.trans (by kernel_rfl) (congrArg some g53))) ex_binOp ?_
          refine run1 (.tmp 156) (.int .i64 (-1)) (eval_const _) (Eq.trans (by kernel_rfl) g54) (fun ρ hc h0 => ?_)
          simp [execOp, bare, hc, h0, go_sem, *]
        · have g53 : f 53 = .bool true := hd 53 (by kernel_rfl)
          have g55 : f 55 = .bool true := hd 55 (by kernel_rfl)
          refine fastO (Op.pick (Operand.tmp 155) (Operand.tmp 157) (Operand.const (Value.bool false))) 158 (by first | exact hx | decide) (by kernel_rfl) (by kernel_rfl) (by kernel_rfl) (wantedN (by kernel_rfl)) ex_pick ?_
          refine run2 (.tmp 155) (.tmp 157) (.bool true) (.bool true) (eval_const _) (Eq.trans (by kernel_rfl) g53) (Eq.trans (by kernel_rfl) g55) (fun ρ hc h0 h1 => ?_)
          simp [execOp, bare, hc, h0, h1, go_sem, *]
        · have g56 : f 56 = .bool true := hd 56 (by kernel_rfl)
          refine fastO (Op.move (Operand.tmp 158)) 159 (by first | exact hx | decide) (by kernel_rfl) (by kernel_rfl) (by kernel_rfl) (wantedN (by kernel_rfl)) ex_move ?_
          refine run1 (.tmp 158) (.bool true) (eval_const _) (Eq.trans (by kernel_rfl) g56) (fun ρ hc h0 => ?_)
          simp [execOp, bare, hc, h0, go_sem, *]
        · have g57 : f 57 = .bool true := hd 57 (by kernel_rfl)
          refine fastO (Op.move (Operand.tmp 22)) 160 (by first | exact hx | decide) (by kernel_rfl) (by kernel_rfl) (by kernel_rfl) (wantedG 57 159 (by decide) (by kernel_rfl) (by kernel_rfl) (Eq.trans (by kernel_rfl) (congrArg some g57))) ex_move ?_
          refine run1 (.tmp 22) (.int .i64 0) (eval_const _) (by kernel_rfl) (fun ρ hc h0 => ?_)
          simp [execOp, bare, hc, h0, go_sem, *]
        · have g57 : f 57 = .bool true := hd 57 (by kernel_rfl)
          have g58 : f 58 = .int .i64 0 := hd 58 (by kernel_rfl)
          refine fastO (Op.binOp BinOp.eql 3 (Operand.tmp 160) (Operand.const (Value.int IntKind.i64 0)) 3) 161 (by first | exact hx | decide) (by kernel_rfl) (by kernel_rfl) (by kernel_rfl) (wantedG 57 159 (by decide) (by kernel_rfl) (by kernel_rfl) (Eq.trans (by kernel_rfl) (congrArg some g57))) ex_binOp ?_
          refine run1 (.tmp 160) (.int .i64 0) (eval_const _) (Eq.trans (by kernel_rfl) g58) (fun ρ hc h0 => ?_)
          simp [execOp, bare, hc, h0, go_sem, *]
        · have g57 : f 57 = .bool true := hd 57 (by kernel_rfl)
          have g59 : f 59 = .bool true := hd 59 (by kernel_rfl)
          refine fastO (Op.pick (Operand.tmp 159) (Operand.tmp 161) (Operand.const (Value.bool false))) 162 (by first | exact hx | decide) (by kernel_rfl) (by kernel_rfl) (by kernel_rfl) (wantedN (by kernel_rfl)) ex_pick ?_
          refine run2 (.tmp 159) (.tmp 161) (.bool true) (.bool true) (eval_const _) (Eq.trans (by kernel_rfl) g57) (Eq.trans (by kernel_rfl) g59) (fun ρ hc h0 h1 => ?_)
          simp [execOp, bare, hc, h0, h1, go_sem, *]
        · have g60 : f 60 = .bool true := hd 60 (by kernel_rfl)
          refine fastO (Op.move (Operand.tmp 162)) 163 (by first | exact hx | decide) (by kernel_rfl) (by kernel_rfl) (by kernel_rfl) (wantedN (by kernel_rfl)) ex_move ?_
          refine run1 (.tmp 162) (.bool true) (eval_const _) (Eq.trans (by kernel_rfl) g60) (fun ρ hc h0 => ?_)
          simp [execOp, bare, hc, h0, go_sem, *]
        · have g61 : f 61 = .bool true := hd 61 (by kernel_rfl)
          refine fastO (Op.move (Operand.tmp 24)) 164 (by first | exact hx | decide) (by kernel_rfl) (by kernel_rfl) (by kernel_rfl) (wantedG 61 163 (by decide) (by kernel_rfl) (by kernel_rfl) (Eq.trans (by kernel_rfl) (congrArg some g61))) ex_move ?_
          refine run1 (.tmp 24) (.int .i64 0) (eval_const _) (by kernel_rfl) (fun ρ hc h0 => ?_)
          simp [execOp, bare, hc, h0, go_sem, *]
        · have g61 : f 61 = .bool true := hd 61 (by kernel_rfl)
          have g62 : f 62 = .int .i64 0 := hd 62 (by kernel_rfl)
          refine fastO (Op.binOp BinOp.eql 3 (Operand.tmp 164) (Operand.const (Value.int IntKind.i64 0)) 3) 165 (by first | exact hx | decide) (by kernel_rfl) (by kernel_rfl) (by kernel_rfl) (wantedG 61 163 (by decide) (by kernel_rfl) (by kernel_rfl) (Eq.trans (by kernel_rfl) (congrArg some g61))) ex_binOp ?_
          refine run1 (.tmp 164) (.int .i64 0) (eval_const _) (Eq.trans (by kernel_rfl) g62) (fun ρ hc h0 => ?_)
          simp [execOp, bare, hc, h0, go_sem, *]
        · have g61 : f 61 = .bool true := hd 61 (by kernel_rfl)
          have g63 : f 63 = .bool true := hd 63 (by kernel_rfl)
          refine fastO (Op.pick (Operand.tmp 163) (Operand.tmp 165) (Operand.const (Value.bool false))) 166 (by first | exact hx | decide) (by kernel_rfl) (by kernel_rfl) (by kernel_rfl) (wantedN (by kernel_rfl)) ex_pick ?_
          refine run2 (.tmp 163) (.tmp 165) (.bool true) (.bool true) (eval_const _) (Eq.trans (by kernel_rfl) g61) (Eq.trans (by kernel_rfl) g63) (fun ρ hc h0 h1 => ?_)
          simp [execOp, bare, hc, h0, h1, go_sem, *]
        · have g64 : f 64 = .bool true := hd 64 (by kernel_rfl)
          refine fastO (Op.move (Operand.tmp 166)) 167 (by first | exact hx | decide) (by kernel_rfl) (by kernel_rfl) (by kernel_rfl) (wantedN (by kernel_rfl)) ex_move ?_
          refine run1 (.tmp 166) (.bool true) (eval_const _) (Eq.trans (by kernel_rfl) g64) (fun ρ hc h0 => ?_)
          simp [execOp, bare, hc, h0, go_sem, *]
        · have g65 : f 65 = .bool true := hd 65 (by kernel_rfl)
          refine fastO (Op.indexAddr 24 (Operand.tmp 10) (Operand.const (Value.int IntKind.i64 0))) 168 (by first | exact hx | decide) (by kernel_rfl) (by kernel_rfl) (by kernel_rfl) (wantedG 65 167 (by decide) (by kernel_rfl) (by kernel_rfl) (Eq.trans (by kernel_rfl) (congrArg some g65))) ex_index ?_
          refine run1 (.tmp 10) (.pointer (some ⟨wc1.heap.size, 0, none⟩)) (eval_const _) (by kernel_rfl) (fun ρ hc h0 => ?_)
          simp [execOp, bare, hc, h0, go_sem, *]
        · have g65 : f 65 = .bool true := hd 65 (by kernel_rfl)
          have g66 : f 66 = .pointer (some ⟨wc1.heap.size, 0, none⟩) := hd 66 (by kernel_rfl)
          refine fastO (Op.load 2 (Operand.tmp 168)) 169 (by first | exact hx | decide) (by kernel_rfl) (by kernel_rfl) (by kernel_rfl) (wantedG 65 167 (by decide) (by kernel_rfl) (by kernel_rfl) (Eq.trans (by kernel_rfl) (congrArg some g65))) ex_load ?_
          refine run1 (.tmp 168) (.pointer (some ⟨wc1.heap.size, 0, none⟩)) (eval_const _) (Eq.trans (by kernel_rfl) g66) (fun ρ hc h0 => ?_)
          simp [execOp, bare, hc, h0, go_sem, *]
        · have g65 : f 65 = .bool true := hd 65 (by kernel_rfl)
          refine fastO (Op.indexAddr 24 (Operand.tmp 10) (Operand.const (Value.int IntKind.i64 1))) 170 (by first | exact hx | decide) (by kernel_rfl) (by kernel_rfl) (by kernel_rfl) (wantedG 65 167 (by decide) (by kernel_rfl) (by kernel_rfl) (Eq.trans (by kernel_rfl) (congrArg some g65))) ex_index ?_
          refine run1 (.tmp 10) (.pointer (some ⟨wc1.heap.size, 0, none⟩)) (eval_const _) (by kernel_rfl) (fun ρ hc h0 => ?_)
          simp [execOp, bare, hc, h0, go_sem, *]
        · have g65 : f 65 = .bool true := hd 65 (by kernel_rfl)
          have g68 : f 68 = .pointer (some ⟨wc1.heap.size, 1, none⟩) := hd 68 (by kernel_rfl)
          refine fastO (Op.load 2 (Operand.tmp 170)) 171 (by first | exact hx | decide) (by kernel_rfl) (by kernel_rfl) (by kernel_rfl) (wantedG 65 167 (by decide) (by kernel_rfl) (by kernel_rfl) (Eq.trans (by kernel_rfl) (congrArg some g65))) ex_load ?_
          refine run1 (.tmp 170) (.pointer (some ⟨wc1.heap.size, 1, none⟩)) (eval_const _) (Eq.trans (by kernel_rfl) g68) (fun ρ hc h0 => ?_)
          simp [execOp, bare, hc, h0, go_sem, *]
        · have g65 : f 65 = .bool true := hd 65 (by kernel_rfl)
          have g67 : f 67 = .int .i64 D.a := hd 67 (by kernel_rfl)
          have g69 : f 69 = .int .i64 D.b := hd 69 (by kernel_rfl)
          refine fastC (Op.call { callee := .value (Operand.func 43), args := #[(Operand.tmp 169), (Operand.tmp 171)], argTypes := #[2, 2] }) 172 43 #[.int .i64 D.a, .int .i64 D.b] (by first | exact hx | decide) (by kernel_rfl) (by kernel_rfl) (by kernel_rfl) (wantedG 65 167 (by decide) (by kernel_rfl) (by kernel_rfl) (Eq.trans (by kernel_rfl) (congrArg some g65))) ?_ (HG1.out _)
          refine runC2 (eval_func _) (eval_const _) (.tmp 169) (.tmp 171) (.int .i64 D.a) (.int .i64 D.b) (Eq.trans (by kernel_rfl) g67) (Eq.trans (by kernel_rfl) g69) (fun ρ o hF hC ho h0 h1 => ?_)
          simp [execOp, ho, hF, hC, h0, h1, resolve, invoke, go_sem, enters_of Tryz.func43 (by kernel_rfl) rfl]
        · have g65 : f 65 = .bool true := hd 65 (by kernel_rfl)
          refine fastO (Op.indexAddr 24 (Operand.tmp 10) (Operand.const (Value.int IntKind.i64 2))) 173 (by first | exact hx | decide) (by kernel_rfl) (by kernel_rfl) (by kernel_rfl) (wantedG 65 167 (by decide) (by kernel_rfl) (by kernel_rfl) (Eq.trans (by kernel_rfl) (congrArg some g65))) ex_index ?_
          refine run1 (.tmp 10) (.pointer (some ⟨wc1.heap.size, 0, none⟩)) (eval_const _) (by kernel_rfl) (fun ρ hc h0 => ?_)
          simp [execOp, bare, hc, h0, go_sem, *]
        · have g65 : f 65 = .bool true := hd 65 (by kernel_rfl)
          have g71 : f 71 = .pointer (some ⟨wc1.heap.size, 2, none⟩) := hd 71 (by kernel_rfl)
          refine fastO (Op.load 2 (Operand.tmp 173)) 174 (by first | exact hx | decide) (by kernel_rfl) (by kernel_rfl) (by kernel_rfl) (wantedG 65 167 (by decide) (by kernel_rfl) (by kernel_rfl) (Eq.trans (by kernel_rfl) (congrArg some g65))) ex_load ?_
          refine run1 (.tmp 173) (.pointer (some ⟨wc1.heap.size, 2, none⟩)) (eval_const _) (Eq.trans (by kernel_rfl) g71) (fun ρ hc h0 => ?_)
          simp [execOp, bare, hc, h0, go_sem, *]
        · have g65 : f 65 = .bool true := hd 65 (by kernel_rfl)
          have g70 : f 70 = .int .i64 g := hd 70 (by kernel_rfl)
          have g72 : f 72 = .int .i64 D.c := hd 72 (by kernel_rfl)
          refine fastC (Op.call { callee := .value (Operand.func 43), args := #[(Operand.tmp 172), (Operand.tmp 174)], argTypes := #[2, 2] }) 175 43 #[.int .i64 g, .int .i64 D.c] (by first | exact hx | decide) (by kernel_rfl) (by kernel_rfl) (by kernel_rfl) (wantedG 65 167 (by decide) (by kernel_rfl) (by kernel_rfl) (Eq.trans (by kernel_rfl) (congrArg some g65))) ?_ (HG2.out _)
          refine runC2 (eval_func _) (eval_const _) (.tmp 172) (.tmp 174) (.int .i64 g) (.int .i64 D.c) (Eq.trans (by kernel_rfl) g70) (Eq.trans (by kernel_rfl) g72) (fun ρ o hF hC ho h0 h1 => ?_)
          simp [execOp, ho, hF, hC, h0, h1, resolve, invoke, go_sem, enters_of Tryz.func43 (by kernel_rfl) rfl]
        · have g65 : f 65 = .bool true := hd 65 (by kernel_rfl)
          have g73 : f 73 = .int .i64 1 := hd 73 (by kernel_rfl)
          refine fastO (Op.binOp BinOp.eql 2 (Operand.tmp 175) (Operand.const (Value.int IntKind.i64 1)) 2) 176 (by first | exact hx | decide) (by kernel_rfl) (by kernel_rfl) (by kernel_rfl) (wantedG 65 167 (by decide) (by kernel_rfl) (by kernel_rfl) (Eq.trans (by kernel_rfl) (congrArg some g65))) ex_binOp ?_
          refine run1 (.tmp 175) (.int .i64 1) (eval_const _) (Eq.trans (by kernel_rfl) g73) (fun ρ hc h0 => ?_)
          simp [execOp, bare, hc, h0, go_sem, *]
        · have g65 : f 65 = .bool true := hd 65 (by kernel_rfl)
          have g74 : f 74 = .bool true := hd 74 (by kernel_rfl)
          refine fastO (Op.pick (Operand.tmp 167) (Operand.tmp 176) (Operand.const (Value.bool false))) 177 (by first | exact hx | decide) (by kernel_rfl) (by kernel_rfl) (by kernel_rfl) (wantedN (by kernel_rfl)) ex_pick ?_
          refine run2 (.tmp 167) (.tmp 176) (.bool true) (.bool true) (eval_const _) (Eq.trans (by kernel_rfl) g65) (Eq.trans (by kernel_rfl) g74) (fun ρ hc h0 h1 => ?_)
          simp [execOp, bare, hc, h0, h1, go_sem, *]
        · have g75 : f 75 = .bool true := hd 75 (by kernel_rfl)
          refine fastO (Op.move (Operand.tmp 177)) 178 (by first | exact hx | decide) (by kernel_rfl) (by kernel_rfl) (by kernel_rfl) (wantedN (by kernel_rfl)) ex_move ?_
          refine run1 (.tmp 177) (.bool true) (eval_const _) (Eq.trans (by kernel_rfl) g75) (fun ρ hc h0 => ?_)
          simp [execOp, bare, hc, h0, go_sem, *]
        · have g76 : f 76 = .bool true := hd 76 (by kernel_rfl)
          refine fastC (Op.call { callee := .value (Operand.func 20), args := #[], argTypes := #[] }) 179 20 #[] (by first | exact hx | decide) (by kernel_rfl) (by kernel_rfl) (by kernel_rfl) (wantedG 76 178 (by decide) (by kernel_rfl) (by kernel_rfl) (Eq.trans (by kernel_rfl) (congrArg some g76))) ?_ (awake5_any _)
          refine runC0 (eval_func _) (eval_const _)  (fun ρ o hF hC ho => ?_)
          simp [execOp, ho, hF, hC, resolve, invoke, go_sem, enters_of Tryz.func20 (by kernel_rfl) rfl]
        · have g76 : f 76 = .bool true := hd 76 (by kernel_rfl)
          have g77 : f 77 = .bool true := hd 77 (by kernel_rfl)
          refine fastO (Op.pick (Operand.tmp 178) (Operand.tmp 179) (Operand.const (Value.bool false))) 180 (by first | exact hx | decide) (by kernel_rfl) (by kernel_rfl) (by kernel_rfl) (wantedN (by kernel_rfl)) ex_pick ?_
          refine run2 (.tmp 178) (.tmp 179) (.bool true) (.bool true) (eval_const _) (Eq.trans (by kernel_rfl) g76) (Eq.trans (by kernel_rfl) g77) (fun ρ hc h0 h1 => ?_)
          simp [execOp, bare, hc, h0, h1, go_sem, *]
        · have g78 : f 78 = .bool true := hd 78 (by kernel_rfl)
          refine fastO (Op.assign (Operand.tmp 180)) 6 (by first | exact hx | decide) (by kernel_rfl) (by kernel_rfl) (by kernel_rfl) (wantedN (by kernel_rfl)) ex_assign ?_
          refine run1 (.tmp 180) (.bool true) (eval_const _) (Eq.trans (by kernel_rfl) g78) (fun ρ hc h0 => ?_)
          simp [execOp, bare, hc, h0, go_sem, *]
        · simp only [List.append_eq, List.length_append, List.length_cons, List.length_nil] at hx; omega
      · rintro f ww hS hd
        have g6 : f 79 = .bool true := hd 79 (by decide)
        generalize hfr : tmOf _ _ f = fr
        have hfx : fr = ({ tmps := #[Value.agg #[Value.int IntKind.i64 x.a, Value.int IntKind.i64 x.b, Value.int IntKind.i64 x.c, Value.int IntKind.i64 x.d], Value.agg #[Value.int IntKind.i64 y.a, Value.int IntKind.i64 y.b, Value.int IntKind.i64 y.c, Value.int IntKind.i64 y.d], Value.agg #[Value.int IntKind.i64 z.a, Value.int IntKind.i64 z.b, Value.int IntKind.i64 z.c, Value.int IntKind.i64 z.d], Value.pointer (some { block := w.heap.size, off := 0 }), Value.pointer (some { block := w.heap.size + 1, off := 0 }), Value.pointer (some { block := w.heap.size + 1 + 1, off := 0 }), f 79, Value.pointer (some { block := B7, off := 0 }), Value.pointer (some { block := B8, off := 0 }), Value.pointer (some { block := B9, off := 0 }), Value.pointer (some { block := wc1.heap.size, off := 0 }), Value.int IntKind.i64 0, Value.pointer (some { block := wc3.heap.size, off := 0 }), Value.int IntKind.i64 0, Value.int IntKind.i64 C, Value.int IntKind.i64 0, Value.int IntKind.i64 (-C), Value.int IntKind.i64 0, Value.int IntKind.i64 (-C), Value.int IntKind.i64 0, Value.int IntKind.i64 (-1), Value.int IntKind.i64 0, Value.int IntKind.i64 0, Value.int IntKind.i64 0, Value.int IntKind.i64 0, Value.int IntKind.i64 0, u26, u27, u28, u29, u30, u31, Value.tuple #[Value.agg #[Value.int IntKind.i64 D.a, Value.int IntKind.i64 D.b, Value.int IntKind.i64 D.c], Value.int IntKind.i64 0], Value.agg #[Value.int IntKind.i64 p.a, Value.int IntKind.i64 p.b, Value.int IntKind.i64 p.c, Value.int IntKind.i64 p.d], Value.agg #[Value.int IntKind.i64 q.a, Value.int IntKind.i64 q.b, Value.int IntKind.i64 q.c, Value.int IntKind.i64 q.d], Value.tuple #[Value.agg #[Value.int IntKind.i64 D.a, Value.int IntKind.i64 D.b, Value.int IntKind.i64 D.c], Value.int IntKind.i64 0], Value.agg #[Value.int IntKind.i64 D.a, Value.int IntKind.i64 D.b, Value.int IntKind.i64 D.c], Value.int IntKind.i64 0, Value.tuple #[Value.agg #[Value.int IntKind.i64 (-D.a), Value.int IntKind.i64 (-D.b), Value.int IntKind.i64 (-D.c)], Value.int IntKind.i64 0], Value.agg #[Value.int IntKind.i64 q.a, Value.int IntKind.i64 q.b, Value.int IntKind.i64 q.c, Value.int IntKind.i64 q.d], Value.agg #[Value.int IntKind.i64 p.a, Value.int IntKind.i64 p.b, Value.int IntKind.i64 p.c, Value.int IntKind.i64 p.d], Value.tuple #[Value.agg #[Value.int IntKind.i64 (-D.a), Value.int IntKind.i64 (-D.b), Value.int IntKind.i64 (-D.c)], Value.int IntKind.i64 0], Value.agg #[Value.int IntKind.i64 (-D.a), Value.int IntKind.i64 (-D.b), Value.int IntKind.i64 (-D.c)], Value.int IntKind.i64 0, Value.int IntKind.i64 0, Value.int IntKind.i64 0, Value.bool false, Value.int IntKind.i64 0, Value.bool false, undef, undef, undef, undef, undef, undef, undef, undef, undef, undef, Value.tuple #[Value.int IntKind.i64 C, Value.int IntKind.i64 0], Value.agg #[Value.int IntKind.i64 p.a, Value.int IntKind.i64 p.b, Value.int IntKind.i64 p.c, Value.int IntKind.i64 p.d], Value.agg #[Value.int IntKind.i64 q.a, Value.int IntKind.i64 q.b, Value.int IntKind.i64 q.c, Value.int IntKind.i64 q.d], Value.agg #[Value.int IntKind.i64 r.a, Value.int IntKind.i64 r.b, Value.int IntKind.i64 r.c, Value.int IntKind.i64 r.d], Value.tuple #[Value.int IntKind.i64 C, Value.int IntKind.i64 0], Value.int IntKind.i64 C, Value.int IntKind.i64 0, u66, u67, u68, u69, u70, u71, u72, u73, Value.tuple #[Value.int IntKind.i64 (-C), Value.int IntKind.i64 0], Value.agg #[Value.int IntKind.i64 q.a, Value.int IntKind.i64 q.b, Value.int IntKind.i64 q.c, Value.int IntKind.i64 q.d], Value.agg #[Value.int IntKind.i64 p.a, Value.int IntKind.i64 p.b, Value.int IntKind.i64 p.c, Value.int IntKind.i64 p.d], Value.agg #[Value.int IntKind.i64 r.a, Value.int IntKind.i64 r.b, Value.int IntKind.i64 r.c, Value.int IntKind.i64 r.d], Value.tuple #[Value.int IntKind.i64 (-C), Value.int IntKind.i64 0], Value.int IntKind.i64 (-C), Value.int IntKind.i64 0, Value.tuple #[Value.int IntKind.i64 (-1), Value.int IntKind.i64 0], Value.agg #[Value.int IntKind.i64 p.a, Value.int IntKind.i64 p.b, Value.int IntKind.i64 p.c, Value.int IntKind.i64 p.d], Value.agg #[Value.int IntKind.i64 q.a, Value.int IntKind.i64 q.b, Value.int IntKind.i64 q.c, Value.int IntKind.i64 q.d], Value.agg #[Value.int IntKind.i64 q.a, Value.int IntKind.i64 q.b, Value.int IntKind.i64 q.c, Value.int IntKind.i64 q.d], Value.tuple #[Value.int IntKind.i64 (-1), Value.int IntKind.i64 0], Value.int IntKind.i64 (-1), Value.int IntKind.i64 0, Value.tuple #[Value.int IntKind.i64 0, Value.int IntKind.i64 0], Value.agg #[Value.int IntKind.i64 p.a, Value.int IntKind.i64 p.b, Value.int IntKind.i64 p.c, Value.int IntKind.i64 p.d], Value.agg #[Value.int IntKind.i64 q.a, Value.int IntKind.i64 q.b, Value.int IntKind.i64 q.c, Value.int IntKind.i64 q.d], Value.agg #[Value.int IntKind.i64 p.a, Value.int IntKind.i64 p.b, Value.int IntKind.i64 p.c, Value.int IntKind.i64 p.d], Value.tuple #[Value.int IntKind.i64 0, Value.int IntKind.i64 0], Value.int IntKind.i64 0, Value.int IntKind.i64 0, Value.tuple #[Value.int IntKind.i64 0, Value.int IntKind.i64 0], Value.agg #[Value.int IntKind.i64 p.a, Value.int IntKind.i64 p.b, Value.int IntKind.i64 p.c, Value.int IntKind.i64 p.d], Value.agg #[Value.int IntKind.i64 q.a, Value.int IntKind.i64 q.b, Value.int IntKind.i64 q.c, Value.int IntKind.i64 q.d], Value.agg #[Value.int IntKind.i64 q.a, Value.int IntKind.i64 q.b, Value.int IntKind.i64 q.c, Value.int IntKind.i64 q.d], Value.tuple #[Value.int IntKind.i64 0, Value.int IntKind.i64 0], Value.int IntKind.i64 0, Value.int IntKind.i64 0, f 0, f 1, f 2, f 3, f 4, f 5, f 6, f 7, f 8, f 9, f 10, f 11, f 12, f 13, f 14, f 15, f 16, f 17, f 18, f 19, f 20, f 21, f 22, f 23, f 24, f 25, f 26, f 27, f 28, f 29, f 30, f 31, f 32, f 33, f 34, f 35, f 36, f 37, f 38, f 39, f 40, f 41, f 42, f 43, f 44, f 45, f 46, f 47, f 48, f 49, f 50, f 51, f 52, f 53, f 54, f 55, f 56, f 57, f 58, f 59, f 60, f 61, f 62, f 63, f 64, f 65, f 66, f 67, f 68, f 69, f 70, f 71, f 72, f 73, f 74, f 75, f 76, f 77, f 78], defers := [] } : Act) := hfr.symm.trans (by kernel_rfl)
        clear hfr
        subst hfx
        refine ‹∀ (a' : Act) (w' : World), Met _ a' w' → _› _ _ ?_
        go_meet
        case rel => exact ⟨g6, hS⟩
    case rest =>
    obtain ⟨rfl, hbx⟩ := hcut
    go_wp2_with fail
    go_ret
    exact ⟨rfl, hb.trans (hbx.mono hb.size)⟩

end Go.Proofs.YtpnocigpocabdaaGreat
