/-
  Long division: divideLong; int64 to string and back.
-/
import Derived.Laws.CopyOwn
import Derived.Deep.RegionHeld3
import Derived.Lib.AtoiErrMem
import Derived.Test.YtimcbmgmngkagaaDoorK1
import Derived.Test.YtimcbmgmngkagaaDoorK2
import Derived.Test.YtimcbmgmngkagaaDoorK3
import Derived.Test.YtimcbmgmngkagaaDoorK4
import Derived.Test.YtimcbmgmngkagaaDoorK5
import Derived.Test.YtimcbmgmngkagaaDoorK6
namespace Go.Proofs.YtimcbmgmngkagaaDoor
open Go.RowKit Go.Shelf
attribute [local go_sem] Oper.semAt_some

/-- What holds between two rounds. -/
def DlI (w : World) (B D E : Nat) (pv : Option Addr) (n m cv K f X V : Nat) (vs : List Nat) (k : Nat) (W : World) : Prop :=
  ∃ ls qs, Hid (LongI X f V n m ls qs (K - k)) ∧ Boxed W B 45 (.slice (some ⟨E, 0, none⟩) K K) ∧ Boxed W (B + 1) 3 (.int .i64 (m : Int)) ∧ Rd .u64 W (some ⟨B + 1 + 1, 0, none⟩) 1 [f]
    ∧ Boxed W D 45 (.slice pv m cv) ∧ Boxed W (D + 1 + 1) 45 (.slice (some ⟨D + 1, 0, none⟩) (n + 1) (n + 1)) ∧ Rd .u64 W pv m vs ∧ Own .u64 73 W (D + 1) ls ∧ Own .u64 73 W E qs ∧ Below w.heap.size w W ∧ E + 1 < W.heap.size

theorem rd_setRow_ne {k : IntKind} {w : World} {p : Option Addr} {n E i : Nat} {xs : List Nat} {v : Value} (h : Rd k w p n xs) (hne : ∀ b o, p = some ⟨b, o, none⟩ → b ≠ E) : Rd k (w.setCell ⟨E, i, none⟩ v) p n xs := by
  refine ⟨h.1, fun j hj => ?_⟩
  obtain ⟨b, o, e, hl, hc⟩ := h.2 j hj
  exact ⟨b, o, e, by simpa using hl, (World.cell?_of_block (w := w) (Below.heap_setCell _ _ _ _ (hne b o e))).trans hc⟩

theorem Own.seg {k : IntKind} {e : TypeId} {w : World} {B at_ m : Nat} {pre z0 post : List Nat} (h : Own k e w B (pre ++ z0 ++ post)) (hat : pre.length = at_) (hm : z0.length = m) : Rd k w (some ⟨B, at_, none⟩) m z0 := by
  refine ⟨hm, fun j hj => ⟨B, at_, rfl, h.lt, ?_⟩⟩
  have e := h.cell (at_ + j) (by simp; omega)
  rw [List.append_assoc, List.getElem?_append_right (by omega), hat, Nat.add_sub_cancel_left, List.getElem?_append_left (by omega)] at e
  exact e

theorem Rd.keptN {k : IntKind} {A A' : World} {p : Option Addr} {n : Nat} {xs : List Nat} (h : Rd k A p n xs) {row : Option Nat} (hg : A.grownBy A' row) (hr : ∀ r, row = some r → ∃ o : Obj, A.heap[r]? = some o ∧ o.isCells = false) : Rd k A' p n xs := by
  refine ⟨h.1, fun i hi => ?_⟩
  obtain ⟨b, o, e, hl, hc⟩ := h.2 i hi
  refine ⟨b, o, e, Nat.lt_of_lt_of_le hl hg.size, ?_⟩
  refine (World.cell?_of_block (w := A) (hg.block b hl (fun e' => ?_))).trans hc
  obtain ⟨o', ho, hcl⟩ := hr b e'.symm
  simp only [World.cell?, ho] at hc
  cases o' <;> simp_all [Obj.isCells]

/-- A round is done: the word of the quotient is stored. -/
theorem dl_close {w : World} {B D E : Nat} {pv : Option Addr} {n m cv K f X V : Nat} {vs ls' qs : List Nat} {k i q : Nat} {W W2 : World} (hBD : B + 1 + 1 < D) (hDE : D + 1 + 1 < E) (hwB : w.heap.size ≤ B)
    (hvE : ∀ b o, pv = some ⟨b, o, none⟩ → b ≠ E) (hvD : ∀ b o, pv = some ⟨b, o, none⟩ → b ≠ D + 1)
    (h2 : Boxed W B 45 (.slice (some ⟨E, 0, none⟩) K K)) (h3 : Boxed W (B + 1) 3 (.int .i64 (m : Int))) (h4 : Rd .u64 W (some ⟨B + 1 + 1, 0, none⟩) 1 [f])
    (h5 : Boxed W D 45 (.slice pv m cv)) (h6 : Boxed W (D + 1 + 1) 45 (.slice (some ⟨D + 1, 0, none⟩) (n + 1) (n + 1))) (h7 : Rd .u64 W pv m vs) (h8 : ∃ ls, Own .u64 73 W (D + 1) ls) (h9 : Own .u64 73 W E qs) (h10 : Below w.heap.size w W) (h11 : E + 1 < W.heap.size)
    (hg : W.grownBy W2 (some (D + 1))) (ho : Own .u64 73 W2 (D + 1) ls') (hl : LongI X f V n m ls' (qs.set i q) (K - (k + 1))) (hi : i < K) (hql : qs.length = K) :
    KeepsOthers W (W2.setCell ⟨E, i, none⟩ (.int .u64 (q : Int))) ∧ KeepsRow (fun b => b = E + 1) E 0 K W (W2.setCell ⟨E, i, none⟩ (.int .u64 (q : Int))) ∧ DlI w B D E pv n m cv K f X V vs (k + 1) (W2.setCell ⟨E, i, none⟩ (.int .u64 (q : Int))) := by
  have e9 : Own .u64 73 W2 E qs := by
    unfold Own at h9 ⊢; rw [hg.block E (by omega) (by simp; omega)]; exact h9
  have e9' := e9.set i q
  refine ⟨(KeepsOthers.of_grownBy hg ?_).trans (KeepsOthers.setCell _ _ _), ⟨?_, fun j hj _ => ?_⟩, ls', qs.set i q, hl, ?_, ?_, ?_, ?_, ?_, ?_, ?_, e9', ?_, ?_⟩
  · rintro j o e hj
    cases e
    obtain ⟨ls, h8⟩ := h8
    unfold Own at h8
    rw [h8] at hj
    cases hj
    rfl
  · rintro b rfl
    rw [Below.heap_setCell _ _ _ _ (by simp)]
    exact hg.block _ h11 (by simp; omega)
  · exact ⟨_, by rw [Nat.zero_add]; exact e9'.cell j (by rw [List.length_set, hql]; exact hj)⟩
  · exact Boxed.setOther (Boxed.kept h2 hg (by simp; omega)) _ _ (by simp; omega)
  · exact Boxed.setOther (Boxed.kept h3 hg (by simp; omega)) _ _ (by simp; omega)
  · exact rd_setRow_ne (h4.grownB (fun b o e => by cases e; omega) hg) (fun b o e => by cases e; omega)
  · exact Boxed.setOther (Boxed.kept h5 hg (by simp)) _ _ (by simp; omega)
  · exact Boxed.setOther (Boxed.kept h6 hg (by simp)) _ _ (by simp; omega)
  · exact rd_setRow_ne (h7.grownB hvD hg) hvE
  · exact Own.setOther ho _ _ (by simp; omega)
  · exact (h10.grown hg h10.size (fun k e => by cases e; omega)).setCell (by simp; omega) _
  · have := hg.size; simp; omega

/-- What every order of copy(left, multiplyWords(x, factor)) keeps. -/
def CpI (w3 : World) (tm : Value → Value → Value → Value → Value → Act) (D n X : Nat) (VL VX VF : Value) (L : Nat → Bool) (x : Act) (w : World) : Prop :=
  ∃ v30 v31 v32 v33 v34 ls, x = tm v30 v31 v32 v33 v34 ∧ w3.grownBy w (some D) ∧ Own .u64 73 w D ls ∧ (L 0 = true → v30 = VL) ∧ (L 1 = true → v31 = VX) ∧ (L 2 = true → v32 = VF)
    ∧ (L 3 = true → L 4 = false → ∃ pu nu cu us, v33 = .slice pu nu cu ∧ Rd .u64 w pu nu us ∧ Cn BW us ∧ dv BW us = X)
    ∧ (L 4 = true → L 3 = true) ∧ (L 4 = false → ls = List.replicate (n + 1) 0)
    ∧ (L 4 = true → ∃ us, Cn BW us ∧ dv BW us = X ∧ us.length ≤ n + 1 ∧ ls = us ++ List.replicate (n + 1 - us.length) 0)

theorem rd_ne {k : IntKind} {w : World} {p : Option Addr} {n D : Nat} {xs : List Nat} (h : Rd k w p n xs) (hn : 1 ≤ n) (hD : w.heap.size ≤ D) : ∀ b o, p = some ⟨b, o, none⟩ → b ≠ D := by
  intro b o e
  obtain ⟨b', o', e', hl, _⟩ := h.2 0 hn
  rw [e] at e'
  cases e'
  omega

theorem grown_any {w w' : World} (h : Below w.heap.size w w') (row : Option Nat) : w.grownBy w' row := ⟨h.os, h.tape, h.output, h.size, fun k hk _ => h.block k hk⟩

set_option maxRecDepth 100000 in
set_option maxHeartbeats 4000000 in
theorem divideLong_any (p q : Option Addr) (n c m d : Nat) (xs ys : List Nat) (w : World) (hn : n ≤ 1000000) (hm : 2 ≤ m) (hmn : m ≤ n) (hx : Rd .u64 w p n xs) (hy : Rd .u64 w q m ys) (gx : Cn BW xs) (gy : Cn BW ys) :
    Calls Tryd.prog 57 #[.slice p n c, .slice q m d] w (DivOut w xs ys) := by
  obtain ⟨b1, o1, rfl, hl1, hd1⟩ := hy.2 (m - 1) (by omega)
  obtain ⟨M1, hM1⟩ : ∃ M1, m - 1 = M1 := ⟨_, rfl⟩
  rw [hM1] at hd1
  have hi1 : (m : Int) - 1 = (M1 : Int) := by omega
  have hM : m = M1 + 1 := by omega
  obtain ⟨t, ht⟩ : ∃ t, ys[M1]?.getD 0 = t := ⟨_, rfl⟩
  rw [ht] at hd1
  have htp : 1 ≤ t := by
    rcases Nat.eq_zero_or_pos t with h | h
    · exfalso
      have e := gy.2
      unfold Tp at e
      have hl := hy.1.trans hM
      rw [List.getLast?_eq_getElem?, hl, Nat.add_sub_cancel] at e
      subst h
      rw [List.getElem?_eq_getElem (by omega)] at ht e
      exact e (by rw [← ht]; rfl)
    · exact h
  have htB : t < 1000000000 := by rw [← ht]; exact gy.1.get (by decide) M1
  obtain ⟨f, hf⟩ : ∃ f, BW / (t + 1) = f := ⟨_, rfl⟩
  obtain ⟨f1, f2, f3, f4, f5⟩ := factor_ok gy.1 (hy.1.trans hM) ht htp hf
  have f2' : f < 1000000000 := f2
  have hfc : (1000000000 : Int) / ((t : Int) + 1) = (f : Int) := by rw [← hf]; simp
  have ht0 : ¬ ((t : Int) + 1 = 0) := by omega
  have htp1 : (0 : Int) < (t : Int) + 1 := by omega
  have HF := Lib.hid (And.intro hf (And.intro f3 (And.intro f4 f5)))
  have HX := Lib.hid hx
  have HY := Lib.hid hy
  have HM := Lib.hid (And.intro hM hM1)
  clear hf f3 f4 f5 hx hy hM1 hM f2
  have hmk1 : ∀ w, (Instr.makeSlice 45 (.int .i64 ((n : Int) + 1)) (.int .i64 ((n : Int) + 1))).run Tryd.prog w = .ok (.slice (some ⟨w.heap.size, 0, none⟩) (n + 1) (n + 1)) (w.alloc (.cells (Go.madeCells #[.int .u64 0] (n + 1)) 73)) := fun w => mkWords (n + 1) (by omega) w
  refine (callsIn_wide (n := 6)).1 ?_
  refine callsIn_of_wp_marks Tryd.func57 rfl trivial ?_ rfl
  simp only [Tryd.ntmps57, List.size_toArray, List.length_cons, List.length_nil, Nat.reduceAdd, Nat.reduceSub, Array.replicate_succ, Array.replicate_zero, List.push_toArray, List.append_toArray, List.nil_append, List.cons_append]
  refine wpIn_wide.2 ?_
  go_wp2_with fail
  have hb0 : Below w.heap.size w (((w.alloc (Obj.cells #[Value.slice none 0 0] 45)).alloc (Obj.cells #[Value.int IntKind.i64 (m : Int)] 3)).alloc (Obj.cells #[Value.int IntKind.u64 (f : Int)] 73)) :=
    (((Below.refl _ w).alloc (Nat.le_refl _) _).alloc (by simp) _).alloc (by simp; omega) _
  have q0 := ((Boxed.new w 45 (.slice none 0 0)).alloc (Obj.cells #[Value.int IntKind.i64 (m : Int)] 3)).alloc (Obj.cells #[Value.int IntKind.u64 (f : Int)] 73)
  have q1 := (Boxed.new (w.alloc (Obj.cells #[Value.slice none 0 0] 45)) 3 (.int .i64 (m : Int))).alloc (Obj.cells #[Value.int IntKind.u64 (f : Int)] 73)
  have q2 := Boxed.new ((w.alloc (Obj.cells #[Value.slice none 0 0] 45)).alloc (Obj.cells #[Value.int IntKind.i64 (m : Int)] 3)) 73 (.int .u64 (f : Int))
  have q3 := one_word ((w.alloc (Obj.cells #[Value.slice none 0 0] 45)).alloc (Obj.cells #[Value.int IntKind.i64 (m : Int)] 3)) f
  simp only [World.size_alloc] at q1 q2 q3
  have hs0 : (((w.alloc (Obj.cells #[Value.slice none 0 0] 45)).alloc (Obj.cells #[Value.int IntKind.i64 (m : Int)] 3)).alloc (Obj.cells #[Value.int IntKind.u64 (f : Int)] 73)).heap.size = w.heap.size + 1 + 1 + 1 := by simp
  generalize (((w.alloc (Obj.cells #[Value.slice none 0 0] 45)).alloc (Obj.cells #[Value.int IntKind.i64 (m : Int)] 3)).alloc (Obj.cells #[Value.int IntKind.u64 (f : Int)] 73)) = w0 at *
  have gf1 : Dg BW [f] := by intro x hx; simp at hx; subst hx; exact f2'
  refine (multiplyWords_any _ _ m d 1 1 ys [f] w0 (by omega) (by omega) (HY.out.below hb0) q3 gy.1 gf1).mono ?_
  rintro e w1 ⟨pv, nv, cv, vs, rfl, hv, hcv, gv, hvV, hb1⟩
  dsimp only
  go_upto_region 5 with fail
  have hw1 : w.heap.size + 1 + 1 + 1 ≤ w1.heap.size := by have := hb1.size; omega
  have hb13 : Below w1.heap.size w1 (((w1.alloc (Obj.cells #[Value.slice pv nv cv] 45)).alloc (Obj.cells (Go.madeCells #[Value.int IntKind.u64 0] (n + 1)) 73)).alloc (Obj.cells #[Value.slice (some ⟨w1.heap.size + 1, 0, none⟩) (n + 1) (n + 1)] 45)) := (((Below.refl _ w1).alloc (Nat.le_refl _) _).alloc (by simp) _).alloc (by simp; omega) _
  have hb3 : Below w.heap.size w (((w1.alloc (Obj.cells #[Value.slice pv nv cv] 45)).alloc (Obj.cells (Go.madeCells #[Value.int IntKind.u64 0] (n + 1)) 73)).alloc (Obj.cells #[Value.slice (some ⟨w1.heap.size + 1, 0, none⟩) (n + 1) (n + 1)] 45)) := (hb0.trans (hb1.mono (by omega))).trans (hb13.mono (by omega))
  have r0 := Boxed.kept (Boxed.kept q0 (grown_any (show Below w0.heap.size w0 w1 from hb1) none) (by simp)) (grown_any hb13 none) (by simp)
  have r1 := Boxed.kept (Boxed.kept q1 (grown_any (show Below w0.heap.size w0 w1 from hb1) none) (by simp)) (grown_any hb13 none) (by simp)
  have r2 := (q3.below (show Below w0.heap.size w0 w1 from hb1)).below hb13
  have rD := Boxed.alloc (Boxed.alloc (Boxed.new w1 45 (.slice pv nv cv)) (Obj.cells (Go.madeCells #[Value.int IntKind.u64 0] (n + 1)) 73)) (Obj.cells #[Value.slice (some ⟨w1.heap.size + 1, 0, none⟩) (n + 1) (n + 1)] 45)
  have rL : Own .u64 73 (((w1.alloc (Obj.cells #[Value.slice pv nv cv] 45)).alloc (Obj.cells (Go.madeCells #[Value.int IntKind.u64 0] (n + 1)) 73)).alloc (Obj.cells #[Value.slice (some ⟨w1.heap.size + 1, 0, none⟩) (n + 1) (n + 1)] 45)) (w1.heap.size + 1) (List.replicate (n + 1) 0) := by
    have e := (Own.new .u64 73 (w1.alloc (Obj.cells #[Value.slice pv nv cv] 45)) (n + 1)).below (((Below.refl _ ((w1.alloc (Obj.cells #[Value.slice pv nv cv] 45)).alloc (Obj.cells (Go.madeCells #[Value.int IntKind.u64 0] (n + 1)) 73))).alloc (Nat.le_refl _) (Obj.cells #[Value.slice (some ⟨w1.heap.size + 1, 0, none⟩) (n + 1) (n + 1)] 45))) (by simp)
    simpa using e
  have rB := Boxed.new ((w1.alloc (Obj.cells #[Value.slice pv nv cv] 45)).alloc (Obj.cells (Go.madeCells #[Value.int IntKind.u64 0] (n + 1)) 73)) 45 (.slice (some ⟨w1.heap.size + 1, 0, none⟩) (n + 1) (n + 1))
  simp only [World.size_alloc] at rB
  have rv := hv.below hb13
  have rx := (HX.out.below hb0).below (show Below w0.heap.size w0 w1 from hb1) |>.below hb13
  have hs3 : (((w1.alloc (Obj.cells #[Value.slice pv nv cv] 45)).alloc (Obj.cells (Go.madeCells #[Value.int IntKind.u64 0] (n + 1)) 73)).alloc (Obj.cells #[Value.slice (some ⟨w1.heap.size + 1, 0, none⟩) (n + 1) (n + 1)] 45)).heap.size = w1.heap.size + 1 + 1 + 1 := by simp
  clear q0 q1 q2 q3
  generalize (((w1.alloc (Obj.cells #[Value.slice pv nv cv] 45)).alloc (Obj.cells (Go.madeCells #[Value.int IntKind.u64 0] (n + 1)) 73)).alloc (Obj.cells #[Value.slice (some ⟨w1.heap.size + 1, 0, none⟩) (n + 1) (n + 1)] 45)) = w3 at *
  simp only [hfc]
  refine wp_region_inv (by kernel_rfl) (by kernel_rfl) (CpI w3 (fun v30 v31 v32 v33 v34 => { tmps := #[.slice p n c, .slice (some ⟨b1, o1, none⟩) m d, undef, undef, .pointer (some ⟨w.heap.size, 0, none⟩), .slice none 0 0, .pointer (some ⟨w.heap.size + 1, 0, none⟩), .slice (some ⟨w.heap.size + 1 + 1, 0, none⟩) 1 1, .pointer (some ⟨w1.heap.size, 0, none⟩), .pointer (some ⟨w1.heap.size + 1 + 1, 0, none⟩), undef, undef, undef,
      .slice (some ⟨b1, o1, none⟩) m d, .int .i64 (m : Int), .slice (some ⟨b1, o1, none⟩) m d, .int .i64 (m : Int), .int .i64 (M1 : Int), .pointer (some ⟨b1, o1 + M1, none⟩), .int .u64 (t : Int), .int .u64 ((t : Int) + 1), .int .u64 (f : Int), .slice (some ⟨w.heap.size + 1 + 1, 0, none⟩) 1 1, .slice (some ⟨b1, o1, none⟩) m d, .slice (some ⟨w.heap.size + 1 + 1, 0, none⟩) 1 1, .slice pv nv cv, .slice p n c,
      .int .i64 (n : Int), .int .i64 ((n : Int) + 1), .slice (some ⟨w1.heap.size + 1, 0, none⟩) (n + 1) (n + 1), v30, v31, v32, v33, v34, undef, undef, undef, undef, undef, undef, undef, undef, undef, undef, undef, undef, undef, undef, undef, undef, undef, undef, undef, undef, undef, undef, undef, undef, undef, undef, undef, undef, undef, undef, undef, undef, undef, undef, undef, undef, undef, undef, undef, undef, undef, undef, undef, undef, undef, undef, undef, undef, undef], defers := [] }) (w1.heap.size + 1) n (dv BW xs * f) (.slice (some ⟨w1.heap.size + 1, 0, none⟩) (n + 1) (n + 1)) (.slice p n c) (.slice (some ⟨w.heap.size + 1 + 1, 0, none⟩) 1 1)) ?h0 ?step ?done
  case h0 => exact ⟨_, _, _, _, _, _, rfl, ⟨rfl, rfl, rfl, Nat.le_refl _, fun _ _ _ => rfl⟩, rL, by simp, by simp, by simp, by simp, by simp, fun _ => rfl, by simp⟩
  case step =>
    rintro S i a' w' ⟨v30, v31, v32, v33, v34, ls, rfl, hg, ho, k0, k1, k2, k3, k4, k5, k6⟩ hi hS hd
    have cB := (Boxed.kept rB hg (by simp)).cell
    rcases i with _ | _ | _ | _ | _ | i
    · refine wpOp_list rfl ?_
      go_wp2
      exact ⟨_, _, _, _, _, _, rfl, hg, ho, (fun _ => rfl), (fun h => k1 (by simpa using h)), (fun h => k2 (by simpa using h)), (fun h h' => k3 (by simpa using h) (by simpa using h')), (fun h => by simpa using k4 (by simpa using h)), (fun h => k5 (by simpa using h)), (fun h => k6 (by simpa using h))⟩
    · refine wpOp_list rfl ?_
      go_wp2
      exact ⟨_, _, _, _, _, _, rfl, hg, ho, (fun h => k0 (by simpa using h)), (fun _ => rfl), (fun h => k2 (by simpa using h)), (fun h h' => k3 (by simpa using h) (by simpa using h')), (fun h => by simpa using k4 (by simpa using h)), (fun h => k5 (by simpa using h)), (fun h => k6 (by simpa using h))⟩
    · refine wpOp_list rfl ?_
      go_wp2
      exact ⟨_, _, _, _, _, _, rfl, hg, ho, (fun h => k0 (by simpa using h)), (fun h => k1 (by simpa using h)), (fun _ => rfl), (fun h h' => k3 (by simpa using h) (by simpa using h')), (fun h => by simpa using k4 (by simpa using h)), (fun h => k5 (by simpa using h)), (fun h => k6 (by simpa using h))⟩
    · simp [depsB, Region.binds] at hd
      have hS4 : S 4 = false := by cases h : S 4; rfl; rw [k4 h] at hS; cases hS
      obtain rfl := k1 hd.1
      obtain rfl := k2 hd.2
      have rx' := rx.grownB (rd_ne HX.out (by omega) (by omega)) hg
      have r2' := r2.grownB (fun b o e => by cases e; omega) hg
      refine wpOp_list rfl ?_
      go_wp2_with (go_at_call 40; refine (multiplyWords_any p _ n c 1 1 xs [f] _ (by omega) (by omega) rx' r2' gx.1 gf1).mono ?_; rintro e w4 ⟨pu, nu, cu, us, rfl, hu, hcu, gu, huV, hb4⟩)
      have g4 := grown_any hb4 (some (w1.heap.size + 1))
      refine ⟨_, _, _, _, _, _, rfl, hg.trans g4, ho.below hb4 ho.lt, (fun h => k0 (by simpa using h)), (fun h => by first | rfl | exact k1 (by simpa using h)), (fun h => by first | rfl | exact k2 (by simpa using h)), (fun _ _ => ⟨pu, nu, cu, us, rfl, hu, gu, ?_⟩), (fun _ => by simp), (fun h => k5 (by simpa using h)), (fun h => by simp [hS4] at h)⟩
      rw [huV]; simp [dv]
    · simp [depsB, Region.binds] at hd
      obtain rfl := k0 hd.1
      obtain ⟨pu, nu, cu, us, rfl, hu, gu, huV⟩ := k3 hd.2 hS
      obtain rfl := k5 hS
      refine wpOp_list rfl ?_
      have hXl := dv_lt gx.1
      rw [HX.out.1] at hXl
      have hXp : 0 < dv BW xs := gx.pos (by decide) (by intro e; have := HX.out.1; rw [e] at this; simp at this; omega)
      have hul : us.length ≤ n + 1 := by
        refine gu.length_le (by decide) ?_
        rw [huV, Nat.pow_succ]
        exact Nat.lt_of_lt_of_le (Nat.mul_lt_mul_of_pos_right hXl f1) (Nat.mul_le_mul_left _ (Nat.le_of_lt f2'))
      have hup : 0 < us.length := by
        rcases Nat.eq_zero_or_pos us.length with h | h
        · rw [List.length_eq_zero_iff] at h
          subst h
          have : 0 < dv BW xs * f := Nat.mul_pos hXp f1
          rw [← huV] at this
          simp [dv] at this
        · exact h
      have hun := hu.1
      obtain ⟨bu, ou, rfl, _, _⟩ := hu.2 0 (by omega)
      refine wpList_copy_own rfl (.tmp 30) (.tmp 33) 45 45 rfl 73 Tryd.underlying45 (by kernel_rfl) (w1.heap.size + 1) 0 (n + 1) (n + 1) ⟨bu, ou, none⟩ nu cu rfl rfl (cellsOf .u64 (List.replicate (n + 1) 0)) 73 ho (cellsOf .u64 us).toList ?_ ?_ ?_ ?_ ?_
      · rw [show (cellsOf .u64 us).toList.length = us.length by simp [cellsOf], hun]
        exact (Nat.min_eq_left (by omega)).symm
      · intro k v hk
        have hkl : k < us.length := by
          have := (List.getElem?_eq_some_iff.1 hk).1
          simpa [cellsOf] using this
        obtain ⟨b', o', e, _, hcj⟩ := hu.2 k (by omega)
        cases e
        rw [Array.getElem?_toList, cellsOf_at _ _ _ hkl] at hk
        cases hk
        by_cases h0 : k = 0
        · subst h0; simpa [Addr.add] using hcj
        · simpa [Addr.add, h0] using hcj
      · simp [cellsOf]; omega
      · intro v hv
        simp [cellsOf] at hv
        obtain ⟨x, _, rfl⟩ := hv
        rfl
      · have hS3 := hd.2
        have hgr : w'.grownBy (w'.setRow (w1.heap.size + 1) ((cellsOf .u64 (List.replicate (n + 1) 0)).toList.take 0 ++ ((cellsOf .u64 us).toList ++ (cellsOf .u64 (List.replicate (n + 1) 0)).toList.drop (0 + (cellsOf .u64 us).toList.length))).toArray) (some (w1.heap.size + 1)) :=
          ⟨rfl, rfl, rfl, by simp [World.setRow], fun k hk hne => setRow_other _ _ k _ (fun e => hne (by rw [e]))⟩
        have hown := setRow_heap w' (w1.heap.size + 1) _ ((cellsOf .u64 (List.replicate (n + 1) 0)).toList.take 0 ++ ((cellsOf .u64 us).toList ++ (cellsOf .u64 (List.replicate (n + 1) 0)).toList.drop (0 + (cellsOf .u64 us).toList.length))).toArray _ _ ho
        have hce : ((cellsOf .u64 (List.replicate (n + 1) 0)).toList.take 0 ++ ((cellsOf .u64 us).toList ++ (cellsOf .u64 (List.replicate (n + 1) 0)).toList.drop (0 + (cellsOf .u64 us).toList.length))).toArray = cellsOf .u64 (us ++ List.replicate (n + 1 - us.length) 0) := by
          unfold cellsOf; simp
        rw [hce] at hgr hown ⊢
        clear hun hce
        go_wp2
        exact ⟨_, _, _, _, _, _, rfl, hg.trans hgr, hown, (fun _ => rfl), (fun h => k1 (by simpa using h)), (fun h => k2 (by simpa using h)), (fun _ h => by simp at h), (fun _ => by simp [hS3]), (fun h => by simp at h), (fun _ => ⟨us, gu, huV, hul, rfl⟩)⟩
    · simp at hi; omega
  case done =>
    rintro S a' w4 hS ⟨v30, v31, v32, v33, v34, ls, rfl, hg, ho, k0, k1, k2, k3, k4, k5, k6⟩
    obtain ⟨us, gu, huV, hul, rfl⟩ := k6 (hS 4 (by decide))
    clear k0 k1 k2 k3 k4 k5 k6 hS
    have hVp : 0 < dv BW vs := by
      rw [hvV]
      have := HF.out.2.1
      have h1 : 0 < BW ^ M1 * (t * f) := Nat.mul_pos (Nat.pow_pos (by decide)) (Nat.mul_pos htp f1)
      simp [dv]
      omega
    have hvtop := factor_top (m := M1) (t := t * f) gv (by rw [hvV]; simpa [dv] using HF.out.2.2.1) (by rw [hvV]; simpa [dv] using HF.out.2.1) (Nat.mul_pos htp f1)
    obtain rfl : m = nv := by rw [← hv.1, hvtop.1]; exact HM.out.1
    have hg4 := hg
    have s0 := Boxed.kept r0 hg (by simp; omega)
    have s1 := Boxed.kept r1 hg (by simp; omega)
    have s2 : Rd .u64 w4 (some ⟨w.heap.size + 1 + 1, 0, none⟩) 1 [f] := r2.grownB (fun b o e => by cases e; omega) hg
    have sD := Boxed.kept rD hg (by simp)
    have sB := Boxed.kept rB hg (by simp)
    have sv : Rd .u64 w4 pv m vs := rv.grownB (rd_ne hv (by omega) (by omega)) hg
    have hb4 : Below w.heap.size w w4 := hb3.grown hg hb3.size (fun k e => by cases e; omega)
    have hs4 : w1.heap.size + 1 + 1 + 1 ≤ w4.heap.size := by have := hg.size; omega
    have HG := Lib.hid (And.intro hg (And.intro r0 (And.intro r1 (And.intro rD (And.intro rB (And.intro rv (And.intro rL rx)))))))
    clear hg r0 r1 r2 rD rB rv rL rx
    obtain ⟨K, hK⟩ : ∃ K, n - m + 1 = K := ⟨_, rfl⟩
    have hKi : (n : Int) - (m : Int) + 1 = (K : Int) := by omega
    have hmk2 : ∀ w, (Instr.makeSlice 45 (.int .i64 (K : Int)) (.int .i64 (K : Int))).run Tryd.prog w = .ok (.slice (some ⟨w.heap.size, 0, none⟩) K K) (w.alloc (.cells (Go.madeCells #[.int .u64 0] K) 73)) := fun w => mkWords K (by omega) w
    have HK := Lib.hid hK
    clear hK
    dsimp only
    have c0 := s0.cell
    have c1 := s1.cell
    have cf0 := s0.frozen
    have a0 := Boxed.alloc s0 (.cells (Go.madeCells #[Value.int IntKind.u64 0] K) 73)
    have a0c := a0.cell
    have a0f := a0.frozen
    have hBl : w.heap.size < w4.heap.size := by omega
    have z0 := Boxed.set (.slice (some ⟨w4.heap.size, 0, none⟩) K K) a0
    have z0c := z0.cell
    go_wp2_with (go_at_call 37; refine ((callsIn_wide (n := 6)).1 (down_in Fence.wide 6 trivial rfl _ _ _ _)).mono ?_; rintro e w5 ⟨rfl, rfl⟩)
    refine (wpIn_wide (n := 6)).1 ?_
    have g1 : w4.grownBy (w4.setCell ⟨w.heap.size, 0, none⟩ (.slice (some ⟨w4.heap.size, 0, none⟩) K K)) (some w.heap.size) := ⟨rfl, rfl, rfl, by simp, fun k hk hne => Below.heap_setCell _ _ _ _ (by simp; intro e; exact hne (by rw [e]))⟩
    have t0 := Boxed.alloc (Boxed.alloc (Boxed.set (.slice (some ⟨w4.heap.size, 0, none⟩) K K) s0) (.cells (Go.madeCells #[.int .u64 0] K) 73)) (.cells #[.slice (some ⟨w4.heap.size, 0, none⟩) K K] 45)
    have hb57 : Below (w4.setCell ⟨w.heap.size, 0, none⟩ (.slice (some ⟨w4.heap.size, 0, none⟩) K K)).heap.size (w4.setCell ⟨w.heap.size, 0, none⟩ (.slice (some ⟨w4.heap.size, 0, none⟩) K K)) (((w4.setCell ⟨w.heap.size, 0, none⟩ (.slice (some ⟨w4.heap.size, 0, none⟩) K K)).alloc (.cells (Go.madeCells #[.int .u64 0] K) 73)).alloc (.cells #[.slice (some ⟨w4.heap.size, 0, none⟩) K K] 45)) := ((Below.refl _ _).alloc (Nat.le_refl _) _).alloc (by simp) _
    have t1 := Boxed.kept (Boxed.kept s1 g1 (by simp)) (grown_any hb57 none) (by simp)
    have t2 := (s2.grownB (fun b o e => by cases e; omega) g1).below hb57
    have tD := Boxed.kept (Boxed.kept sD g1 (by simp; omega)) (grown_any hb57 none) (by simp)
    have tB := Boxed.kept (Boxed.kept sB g1 (by simp; omega)) (grown_any hb57 none) (by simp)
    have tv := (Rd.setOther sv s0.cell (by intro x; simp) (.slice (some ⟨w4.heap.size, 0, none⟩) K K)).below hb57
    have tL := (Own.setOther ho ⟨w.heap.size, 0, none⟩ (.slice (some ⟨w4.heap.size, 0, none⟩) K K) (by simp; omega)).below hb57 (by simp; omega)
    have tE := (Own.new .u64 73 (w4.setCell ⟨w.heap.size, 0, none⟩ (.slice (some ⟨w4.heap.size, 0, none⟩) K K)) K).below ((Below.refl _ _).alloc (Nat.le_refl _) (.cells #[.slice (some ⟨w4.heap.size, 0, none⟩) K K] 45)) (by simp)
    have tF := Boxed.new ((w4.setCell ⟨w.heap.size, 0, none⟩ (.slice (some ⟨w4.heap.size, 0, none⟩) K K)).alloc (.cells (Go.madeCells #[.int .u64 0] K) 73)) 45 (.slice (some ⟨w4.heap.size, 0, none⟩) K K)
    have hb7 : Below w.heap.size w (((w4.setCell ⟨w.heap.size, 0, none⟩ (.slice (some ⟨w4.heap.size, 0, none⟩) K K)).alloc (.cells (Go.madeCells #[.int .u64 0] K) 73)).alloc (.cells #[.slice (some ⟨w4.heap.size, 0, none⟩) K K] 45)) := ((hb4.setCell (by simp) _).alloc (by simp; omega) _).alloc (by simp; omega) _
    have hs7 : (((w4.setCell ⟨w.heap.size, 0, none⟩ (.slice (some ⟨w4.heap.size, 0, none⟩) K K)).alloc (.cells (Go.madeCells #[.int .u64 0] K) 73)).alloc (.cells #[.slice (some ⟨w4.heap.size, 0, none⟩) K K] 45)).heap.size = w4.heap.size + 1 + 1 := by simp
    have hs5 : (w4.setCell ⟨w.heap.size, 0, none⟩ (.slice (some ⟨w4.heap.size, 0, none⟩) K K)).heap.size = w4.heap.size := by simp
    simp only [World.size_alloc, hs5] at tE tF
    generalize (((w4.setCell ⟨w.heap.size, 0, none⟩ (.slice (some ⟨w4.heap.size, 0, none⟩) K K)).alloc (.cells (Go.madeCells #[.int .u64 0] K) 73)).alloc (.cells #[.slice (some ⟨w4.heap.size, 0, none⟩) K K] 45)) = w7 at *
    clear s0 s1 s2 sD sB sv ho g1 hb57 z0 z0c a0 a0c a0f c0 c1 cf0 hs5
    have hvE : ∀ b o, pv = some ⟨b, o, none⟩ → b ≠ w4.heap.size := rd_ne hv (by omega) (by omega)
    have hvD : ∀ b o, pv = some ⟨b, o, none⟩ → b ≠ w1.heap.size + 1 := rd_ne hv (by omega) (by omega)
    refine wpIn_rangeFunc_next (encs := encW K) rfl (by omega) (gf := 54) (lb := #[.pointer (some ⟨w4.heap.size + 1, 0, none⟩)]) rfl trivial (enters_of Tryd.func54 (by kernel_rfl) rfl) (fun _ => rfl)
      (fun pre x => pre.length < K ∧ x.1 = dnAt K pre.length) (fun ys => ys.length = K) (KeepsRow (fun b => b = w4.heap.size + 1) w4.heap.size 0 K)
      (fun l J W hW hY h0 => downN_in Fence.wide 5 trivial rfl (by omega) l (w4.heap.size + 1) K K _ w4.heap.size 0 (by omega) J hY W ((hW.cell (p := ⟨w4.heap.size + 1, 0, none⟩) (by simp; omega)).trans (Boxed.cell tF)) rfl
        (fun i hi => ⟨0, by rw [Nat.zero_add]; refine (hW.cell (p := ⟨w4.heap.size, i, none⟩) (by simp; omega)).trans ((tE.cell i (by simpa using hi)).trans ?_); simp [List.getElem?_replicate, hi]⟩) h0)
      KeepsRow.trans (KeepsRow.putObj (by rintro b rfl; omega))
      (fun pre W => DlI w w.heap.size w1.heap.size w4.heap.size pv n m cv K f (dv BW xs) (dv BW ys * f) vs pre.length W)
      (fun pre A B row hs hg hr => by
        obtain ⟨ls, qs, h1, h2, h3, h4, h5, h6, h7, h8, h9, h10, h11⟩ := hs
        have hr' := fun r e => (hr r e).2
        exact ⟨ls, qs, h1, Boxed.kept' h2 hg hr', Boxed.kept' h3 hg hr', h4.keptN hg hr', Boxed.kept' h5 hg hr', Boxed.kept' h6 hg hr', h7.keptN hg hr', h8.kept hg hr', h9.kept hg hr', h10.grown hg h10.size (fun k e => by have := (hr k e).1; omega), Nat.lt_of_lt_of_le h11 hg.size⟩)
      ⟨_, _, ?start, t0, t1, t2, tD, tB, tv, tL, tE, hb7, by omega⟩
      (fun x => { tmps := #[.slice p n c, .slice (some ⟨b1, o1, none⟩) m d, undef, undef, .pointer (some ⟨w.heap.size, 0, none⟩), .slice none 0 0, .pointer (some ⟨w.heap.size + 1, 0, none⟩), .slice (some ⟨w.heap.size + 1 + 1, 0, none⟩) 1 1, .pointer (some ⟨w1.heap.size, 0, none⟩), .pointer (some ⟨w1.heap.size + 1 + 1, 0, none⟩), .int .i64 (x.1.1 : Int), undef, undef,
      .slice (some ⟨b1, o1, none⟩) m d, .int .i64 (m : Int), .slice (some ⟨b1, o1, none⟩) m d, .int .i64 (m : Int), .int .i64 (M1 : Int), .pointer (some ⟨b1, o1 + M1, none⟩), .int .u64 (t : Int), .int .u64 ((t : Int) + 1), .int .u64 (f : Int), .slice (some ⟨w.heap.size + 1 + 1, 0, none⟩) 1 1, .slice (some ⟨b1, o1, none⟩) m d, .slice (some ⟨w.heap.size + 1 + 1, 0, none⟩) 1 1, .slice pv m cv, .slice p n c,
      .int .i64 (n : Int), .int .i64 ((n : Int) + 1), .slice (some ⟨w1.heap.size + 1, 0, none⟩) (n + 1) (n + 1), v30, v31, v32, v33, v34, .slice p n c, .int .i64 (n : Int), .int .i64 (m : Int), .int .i64 ((n : Int) - (m : Int)), .int .i64 (K : Int), .slice (some ⟨w4.heap.size, 0, none⟩) K K, .slice (some ⟨w4.heap.size, 0, none⟩) K K, .func (.func 54) #[] #[.pointer (some ⟨w4.heap.size + 1, 0, none⟩)], .int .i64 (x.1.1 : Int), .int .u64 (x.2 : Int), undef, undef, undef, undef, undef, undef, undef, undef, undef, undef, undef, undef, undef, undef, undef, undef, undef, undef, undef, undef, undef, undef, undef, undef, undef, undef, undef, undef, undef, undef, undef, undef, undef, undef, undef, undef, undef, undef, undef], defers := [] }) ?assign ?body ?done'
    case start =>
      have e := LongI.start (Y := dv BW ys) (m := M1) HX.out.1 (by have := HM.out.1; omega) gx.1 gu.1 rfl huV hul f1 f2' (Nat.le_trans (Nat.mul_le_mul_left _ (Nat.le_mul_of_pos_left f htp)) HF.out.2.1)
      rw [← HM.out.1, HK.out] at e
      exact e
    case assign =>
      intro l x W K hK
      unfold encW
      gi_wp2
      exact hK
    case body =>
      rintro l pre ⟨⟨i, hi⟩, v⟩ W ⟨ls, qs, h1, h2, h3, h4, h5, h6, h7, h8, h9, h10, h11⟩ ⟨hlt, hx1⟩
      have hia : i = K - 1 - pre.length := congrArg (fun z => z.1) hx1
      have hstep : K - pre.length = i + 1 := by omega
      have hKn : K = n - m + 1 := HK.out.symm
      have him : i + m + 1 ≤ n + 1 := by omega
      have hiK : i < K := by omega
      rw [hstep] at h1
      have HI := Lib.hid (And.intro hia (And.intro hstep hKn))
      clear hx1 hia hstep hKn
      have k2 := Boxed.cell h2
      have k3 := Boxed.cell h3
      have k5 := Boxed.cell h5
      have k6 := Boxed.cell h6
      dsimp only
      have hwl : i + m + 1 - i = m + 1 := by omega
      obtain ⟨x1, x2, x3, x4⟩ := LongI.window h1.out (by rw [HM.out.1]; exact HF.out.2.2.1) (by have := HI.out.2.2; omega) hmn
      have hls := drop_three ls i (m + 1)
      have hLl := h1.out.ll
      have hpl : (ls.take i).length = i := by rw [List.length_take]; omega
      have hVV : dv BW vs = dv BW ys * f := by rw [hvV]; simp [dv]
      have gz0 : Dg BW ((ls.drop i).take (m + 1)) := (h1.out.gl.drop i).take _
      obtain ⟨z0, hz0⟩ : ∃ z0, (ls.drop i).take (m + 1) = z0 := ⟨_, rfl⟩
      obtain ⟨pr, hpr⟩ : ∃ pr, ls.take i = pr := ⟨_, rfl⟩
      obtain ⟨po, hpo⟩ : ∃ po, ls.drop (i + (m + 1)) = po := ⟨_, rfl⟩
      rw [hz0, hpr, hpo] at hls
      rw [hz0] at x1 x2 gz0
      rw [hpr] at hpl
      have h8' := h8
      rw [hls] at h8'
      have HZ := Lib.hid (And.intro hz0 (And.intro hpr (And.intro hpo (And.intro hls (And.intro x3 x4)))))
      have HB := Lib.hid (And.intro x2 hVV)
      have HP := Lib.hid (And.intro hpl x1)
      have h8s := Own.seg h8' hpl x1
      clear hz0 hpr hpo hls x2 x3 x4 hVV hpl x1 hLl h8
      gi_wp2
      refine ⟨trivial, (CallsIn.inRound l (callsIn_wide.2 (guessWord_any _ _ m (m + 1) (m + 1) cv z0 vs W hm (by omega) rfl h8s h7 gz0 gv.1 (by rw [HB.out.2]; exact HB.out.1) ?half))).mono ?_⟩
      case half =>
        have e1 := HF.out.2.2.2
        have e2 := hvtop.2
        have e3 : m - 1 = M1 := HM.out.2
        rw [e3]
        omega
      rintro e W1 ⟨g, rfl, hgB, hg1, hg2, hbW⟩
      have gW := grown_any hbW none
      have u5 := Boxed.cell (Boxed.kept h5 gW (by simp))
      have h7' := h7.below hbW
      have h8'' := h8'.below hbW h8'.lt
      gi_wp2
      refine ⟨trivial, (CallsIn.inRound l (callsIn_wide.2 (subtractTimes_any (w1.heap.size + 1) i (m + 1) m (m + 1) cv pr z0 po pv vs g W1 HP.out.1 HP.out.2 rfl (by omega) (by omega) h8'' h7' hvD gz0 gv.1 hgB))).mono ?_⟩
      rintro e W2 ⟨zs, b, hb, rfl, hzl, gzs, hzv, ho2, hg2'⟩
      have gW2 := (grown_any hbW (some (w1.heap.size + 1))).trans hg2'
      have v2 := Boxed.cell (Boxed.kept h2 gW2 (by simp; omega))
      have v5 := Boxed.cell (Boxed.kept h5 gW2 (by simp))
      have hql : qs.length = K := by have := h1.out.ql; rw [this]; exact HI.out.2.2.symm
      have e9 : Own .u64 73 W2 (w4.heap.size) qs := by
        unfold Own at h9 ⊢; rw [gW2.block _ (by omega) (by simp; omega)]; exact h9
      have close : ∀ (zs : List Nat) (q : Nat) (W3 : World), W.grownBy W3 (some (w1.heap.size + 1)) → Own .u64 73 W3 (w1.heap.size + 1) (pr ++ zs ++ po) → zs.length = m + 1 → Dg BW zs → dv BW zs + q * dv BW vs = dv BW z0 → dv BW zs < dv BW vs → q < BW →
          KeepsOthers W (W3.setCell ⟨w4.heap.size, i, none⟩ (.int .u64 (q : Int))) ∧ KeepsRow (fun b => b = w4.heap.size + 1) w4.heap.size 0 K W (W3.setCell ⟨w4.heap.size, i, none⟩ (.int .u64 (q : Int))) ∧ DlI w w.heap.size w1.heap.size w4.heap.size pv n m cv K f (dv BW xs) (dv BW ys * f) vs (pre.length + 1) (W3.setCell ⟨w4.heap.size, i, none⟩ (.int .u64 (q : Int))) := by
        intro zs q W3 hg3 ho3 hzl3 gz3 hz3 hzV3 hq3
        have hst := LongI.step (q := q) (zs := zs) h1.out (by rw [HM.out.1]; exact HF.out.2.2.1) (by have := HI.out.2.2; omega) hmn hzl3 gz3 (by rw [HZ.out.1, ← HB.out.2]; exact hz3) (by rw [← HB.out.2]; exact hzV3) hq3
        rw [HZ.out.2.1, HZ.out.2.2.1] at hst
        exact dl_close (by omega) (by omega) (Nat.le_refl _) hvE hvD h2 h3 h4 h5 h6 h7 ⟨_, h8'⟩ h9 h10 h11 hg3 ho3 (by rw [show K - (pre.length + 1) = i by have := HI.out.2.1; omega]; exact hst) hiK hql
      have HC := Lib.hid close
      have HV := Lib.hid (And.intro hg1 (And.intro hg2 (And.intro hzv (And.intro hzl hgB))))
      clear close hg1 hg2 hzv hzl
      have hgB' : g < 1000000000 := hgB
      clear hgB
      obtain rfl | rfl : b = 0 ∨ b = 1 := by omega
      · have ce := e9.cell i (by omega)
        have fe := e9.frozen i
        gi_wp2
        obtain ⟨a1, a2, a3, a4, a5⟩ := HV.out
        obtain ⟨r1, r2⟩ := round_kept a3 a1 a2 rfl
        have e := HC.out zs g W2 gW2 ho2 a4 gzs r1 r2 a5
        exact ⟨e.1, e.2.1, by dsimp only; rw [List.length_append]; exact e.2.2⟩
      · have hg0 : 1 ≤ g := by
          rcases Nat.eq_zero_or_pos g with h | h
          · exfalso
            obtain ⟨_, _, a3, a4, _⟩ := HV.out
            have l1 := dv_lt gzs
            rw [a4] at l1
            rw [h, Nat.zero_mul, Nat.mul_one] at a3
            omega
          · exact h
        obtain ⟨g', hg'⟩ : ∃ g', g - 1 = g' := ⟨_, rfl⟩
        have hgc : (g : Int) - 1 = (g' : Int) := by omega
        have HG' := Lib.hid hg'
        clear hg'
        have h7'' := h7'.grownB hvD hg2'
        gi_wp2
        refine ⟨trivial, (CallsIn.inRound l (callsIn_wide.2 (addBack_any (w1.heap.size + 1) i (m + 1) m (m + 1) cv pr zs po pv vs W2 HP.out.1 HV.out.2.2.2.1 (by omega) (by omega) (by omega) ho2 h7'' hvD gzs gv.1))).mono ?_⟩
        rintro e W3 ⟨ys', cc, hcc, rfl, hyl, gys, hyv, ho3, hg3'⟩
        have gW3 := gW2.trans hg3'
        have y2 := Boxed.cell (Boxed.kept h2 gW3 (by simp; omega))
        have e93 : Own .u64 73 W3 (w4.heap.size) qs := by
          unfold Own at h9 ⊢; rw [gW3.block _ (by omega) (by simp; omega)]; exact h9
        have ce := e93.cell i (by omega)
        have fe := e93.frozen i
        have HYY := Lib.hid (And.intro hyl (And.intro hyv hcc))
        clear hyl hyv hcc
        gi_wp2
        obtain ⟨a1, a2, a3, a4, a5⟩ := HV.out
        obtain ⟨b1', b2', b3'⟩ := HYY.out
        have hVs : dv BW vs < BW ^ (m + 1) := by
          have := dv_lt gv.1
          rw [h7.1] at this
          exact Nat.lt_of_lt_of_le this (Nat.pow_le_pow_right (by decide) (by omega))
        obtain ⟨r0, r1, r2⟩ := round_back gzs gys a4 b1' a3 a1 rfl b2' b3' hVs
        rw [HG'.out] at r1
        have e := HC.out ys' g' W3 gW3 ho3 b1' gys r1 r2 (by have := HG'.out; show _ < 1000000000; omega)
        exact ⟨e.1, e.2.1, by dsimp only; rw [List.length_append]; exact e.2.2⟩
    case done' =>
      rintro Dd zs W hDd hzs ⟨ls, qs, h1, h2, h3, h4, h5, h6, h7, h8, h9, h10, h11⟩ hKd
      rw [hzs, Nat.sub_self] at h1
      have k2 := Boxed.cell h2
      have k6 := Boxed.cell h6
      have kf := h4.2 0 (by omega)
      obtain ⟨_, _, ef, _, kf⟩ := kf
      cases ef
      simp at kf
      have hll := h1.out.ll
      have hql : qs.length = K := by have := h1.out.ql; rw [this]; exact HK.out
      have HLQ := Lib.hid (And.intro hll hql)
      go_upto_region 15 with fail
      have k6d : W.drew.cell? _ = _ := k6
      have kfd : W.drew.cell? _ = _ := kf
      have h8d : Rd .u64 W.drew (some ⟨w1.heap.size + 1, 0, none⟩) (n + 1) ls := h8.rd hll
      have hrt := trimLen_le ls (n + 1)
      have g1l := h1.out.gl
      have H8 := Lib.hid h8d
      clear hll hql
      go_region_held3 (fun w' => w'.cell? ⟨w1.heap.size + 1 + 1, 0, none⟩ = some (.slice (some ⟨w1.heap.size + 1, 0, none⟩) (n + 1) (n + 1)) ∧ w'.cell? ⟨w.heap.size + 1 + 1, 0, none⟩ = some (.int .u64 (f : Int)))
        (((repeat' apply And.intro) <;> (repeat (first | (simp only [*]; done) | refine cell_alloc ?_ | refine cell_call (by assumption) ?_ | refine cell_call (W := W.drew) (by assumption) ?_)); done))
        (first
          | (go_at_call 53; refine (trimmed_any _ _ _ ls _ (by unfold maxLen; omega) (Nat.le_refl _) H8.out).mono ?_; rintro e w' ⟨rfl, rfl⟩)
          | (go_at_call 56; refine (divideByWord_any _ _ _ f _ _ (Nat.le_trans hrt (by omega)) (H8.out.take _ hrt) (g1l.take _) f1 f2').mono ?_; rintro e wz ⟨pr2, nr2, cr2, rs, r, rfl, hrr, hrc, hrg, hrf, hrv, hbr⟩; have j6 := cell_call (W := W.drew) hbr k6; have jf := cell_call (W := W.drew) hbr kf))
      have l2 := Boxed.kept (W := W.drew) h2 (grown_any hbr none) (by simp)
      have l2c := Boxed.cell l2
      have l2f := Boxed.frozen l2
      have l9 : Own .u64 73 wz w4.heap.size qs := Own.below (w := W.drew) h9 hbr h9.lt
      have lK : wz.heap[Dd]? = some (.deferred (some [])) := (hbr.block Dd (Array.getElem?_eq_some_iff.1 hKd).1).trans hKd
      have l9r := l9.rd HLQ.out.2
      have hqt := trimLen_le qs K
      have hB7 : Below w.heap.size w wz := h10.drew.trans (hbr.mono h10.size)
      have HRR := Lib.hid hrr
      have HRV := Lib.hid hrv
      clear hrr hrv
      go_wp2_with (go_at_call 53; refine (trimmed_any _ _ _ qs _ (by unfold maxLen; omega) (Nat.le_refl _) l9r).mono ?_; rintro e wy ⟨rfl, rfl⟩)
      have lKf : (wy.setCell ⟨w.heap.size, 0, none⟩ (.slice (some ⟨w4.heap.size, 0, none⟩) (trimLen qs K) (trimLen qs K))).heap[Dd]? = some (.deferred (some [])) := (KeepsOthers.setCell _ _ _).same Dd _ lK rfl
      have m2 := Boxed.set (.slice (some ⟨w4.heap.size, 0, none⟩) (trimLen qs K) (trimLen qs K)) l2
      have p2 := (Boxed.kept' m2 (grownBy_putObj' _ Dd (.deferred none)) (fun r e => by cases e; exact ⟨_, lKf, rfl⟩)).cell
      have m9 := (Own.setOther l9 ⟨w.heap.size, 0, none⟩ (.slice (some ⟨w4.heap.size, 0, none⟩) (trimLen qs K) (trimLen qs K)) (by simp; omega)).putObj Dd _ (.deferred none) lKf rfl
      have mr := (Rd.setOther HRR.out l2c (by intro x; simp) (.slice (some ⟨w4.heap.size, 0, none⟩) (trimLen qs K) (trimLen qs K))).keptN (grownBy_putObj' _ Dd (.deferred none)) (fun r e => by cases e; exact ⟨_, lKf, rfl⟩)
      have mB : Below w.heap.size w (wy.setCell ⟨w.heap.size, 0, none⟩ (.slice (some ⟨w4.heap.size, 0, none⟩) (trimLen qs K) (trimLen qs K))) := hB7.setCell (by simp) _
      have hsz7 := hb7.size
      have hval := LongI.done (rs := rs) (r := r) h1.out f1 hrf (by have e := dv_trimZ BW ls; unfold trimZ at e; rw [HLQ.out.1] at e; rw [← e]; exact HRV.out)
      refine ⟨by simp, .inl ⟨_, _, rfl, run_takeDeferred lKf, ?_⟩⟩
      refine ⟨.tuple #[.slice (some ⟨w4.heap.size, 0, none⟩) (trimLen qs K) (trimLen qs K), .slice pr2 nr2 cr2], ?_, _, _, _, trimZ qs, _, _, _, rs, rfl, ?_, Nat.le_refl _, trimZ_cn h1.out.gq, mr, hrc, hrg, ?_, hval.2, mB.trans (belowK_b (w := w) (Nat.le_refl _) _ Dd _ _ (by omega) lKf rfl rfl)⟩
      · simp [results, Tryd.f57, go_sem, p2]
      · unfold trimZ; rw [HLQ.out.2]; exact (m9.rd HLQ.out.2).take _ hqt
      · rw [dv_trimZ, Nat.mul_comm]; exact hval.1

end Go.Proofs.YtimcbmgmngkagaaDoor

namespace Go.Proofs.YtimcbmgmngkagaaDoor
open Go.RowKit Go.Sort

def inI64 (z : Int) : Bool := decide (-9223372036854775808 ≤ z ∧ z ≤ 9223372036854775807)

theorem fold_le (l : List UInt8) : ∀ acc, acc ≤ l.foldl (fun a c => a * 10 + (c.toNat - 48)) acc := by
  induction l with
  | nil => intro acc; exact Nat.le_refl _
  | cons c r ih => intro acc; rw [List.foldl_cons]; exact Nat.le_trans (by omega) (ih _)

theorem parseM_digits (l : List UInt8) : ∀ acc F, l.foldl (fun a c => a * 10 + (c.toNat - 48)) acc = F → l.all isDg = true → acc ≤ 18446744073709551615 → Lib.parseUintM (2 ^ 64 - 1) acc l = if F ≤ 18446744073709551615 then .ok F else .range := by
  induction l with
  | nil => intro acc F hF _ h; rw [← hF]; exact (if_pos h).symm
  | cons c r ih =>
    intro acc F hF hd h
    rw [List.all_cons, Bool.and_eq_true] at hd
    rw [List.foldl_cons] at hF
    have hc : 48 ≤ c.toNat ∧ c.toNat ≤ 57 := by simpa [isDg] using hd.1
    have hle := fold_le r (acc * 10 + (c.toNat - 48))
    rw [hF] at hle
    unfold Lib.parseUintM
    rw [if_pos hc]
    by_cases h1 : 1844674407370955162 ≤ acc
    · rw [if_pos h1, if_neg (by omega)]
    · rw [if_neg h1]
      by_cases h2 : 2 ^ 64 - 1 < acc * 10 + (c.toNat - 48)
      · rw [if_pos h2, if_neg (by omega)]
      · rw [if_neg h2]
        exact ih _ _ hF hd.2 (by omega)

theorem numB_len {l : List UInt8} (h : numB l = true) : l.length ≤ 2001 := by
  unfold numB at h
  rw [Bool.and_eq_true] at h
  have h2 : (digitsOf l).length ≤ 2000 := by simpa using h.2
  have h3 : l.length ≤ (digitsOf l).length + 1 := by
    cases l with
    | nil => simp
    | cons c r => by_cases hc : c = 45 <;> simp [digitsOf, hc]
  omega

theorem parse_num {l : List UInt8} (h : numB l = true) : Lib.parseIntB 64 l = if inI64 (strV l) then .ok (strV l) else .range := by
  have hp : plainB l = true := by unfold numB at h; rw [Bool.and_eq_true] at h; exact h.1
  unfold plainB at hp
  rw [Bool.and_eq_true, Bool.and_eq_true] at hp
  obtain ⟨⟨h1, h2⟩, _⟩ := hp
  have hu : Lib.parseUintB 64 (digitsOf l) = if decV (digitsOf l) ≤ 18446744073709551615 then .ok (decV (digitsOf l)) else .range := by
    unfold Lib.parseUintB
    rw [if_neg (by intro e; rw [e] at h1; simp at h1)]
    exact parseM_digits _ 0 _ rfl h2 (by omega)
  match l, h1, h2, hu with
  | [], h1, _, _ => simp [digitsOf] at h1
  | c :: r, h1, h2, hu =>
    by_cases hc : c = 45
    · subst hc
      have e : digitsOf (45 :: r) = r := rfl
      rw [e] at hu h1
      rw [Lib.parseIntB_minus, hu]
      have ev : strV (45 :: r) = -(decV r : Int) := rfl
      rw [ev]
      generalize decV r = D
      unfold inI64
      by_cases hD : D ≤ 18446744073709551615
      · rw [if_pos hD]
        simp only [Lib.signedC]
        by_cases h3 : 2 ^ (64 - 1) < D
        · rw [if_pos h3, if_neg (by simp; omega)]
        · rw [if_neg h3, if_pos (by simp; omega)]
      · rw [if_neg hD, if_neg (by simp; omega)]
        rfl
    · have e : digitsOf (c :: r) = c :: r := by simp [digitsOf, hc]
      rw [e] at hu h2
      have hd : 48 ≤ c.toNat ∧ c.toNat ≤ 57 := by
        rw [List.all_cons, Bool.and_eq_true] at h2
        simpa [isDg] using h2.1
      rw [Lib.parseIntB_plain 64 c r (by omega) (by omega), hu]
      have ev : strV (c :: r) = (decV (c :: r) : Int) := by
        unfold strV
        rw [e]
        have : isNeg (c :: r) = false := by simp [isNeg, hc]
        rw [this]; rfl
      rw [ev]
      generalize decV (c :: r) = D
      unfold inI64
      by_cases hD : D ≤ 18446744073709551615
      · rw [if_pos hD]
        simp only [Lib.signlessC]
        by_cases h3 : 2 ^ (64 - 1) ≤ D
        · rw [if_pos h3, if_neg (by simp; omega)]
        · rw [if_neg h3, if_pos (by simp; omega)]
      · rw [if_neg hD, if_neg (by simp; omega)]
        rfl

/-- The variable strconv.ErrRange holds an error, or nothing. -/
def ErrLaid (w : World) : Prop := ∃ ev, w.cell? ⟨2, 0, none⟩ = some ev ∧ (ev = .nilIface ∨ ∃ te pe, ev = .iface te pe)
theorem ErrLaid.below {w w' : World} (h : ErrLaid w) (hb : Below w.heap.size w w') : ErrLaid w' := by
  obtain ⟨ev, h1, h2⟩ := h
  exact ⟨ev, (hb.cell (World.block_lt_of_cell? _ _ h1)).trans h1, h2⟩

/-- What ToInt hands back. -/
def toOk (l : List UInt8) : Bool := numB l && inI64 (strV l)
def toInt (l : List UInt8) : Int := if toOk l then strV l else 0

set_option maxHeartbeats 1000000 in
theorem toInt_any (s : ByteArray) (w : World) (hs : s.size ≤ maxLen) (herr : ErrLaid w) :
    Calls Tryd.prog 31 #[.string s] w fun e w' => e = .returned (.tuple #[.int .i64 (toInt s.data.toList), .bool (toOk s.data.toList)]) ∧ Below w.heap.size w w' := by
  cases hn : numB s.data.toList
  · have h1 : toOk s.data.toList = false := by unfold toOk; rw [hn]; rfl
    have h2 : toInt s.data.toList = 0 := by unfold toInt; rw [if_neg (by rw [h1]; simp)]
    rw [h1, h2]
    have HN := Lib.hid hn
    clear h1 h2 hn
    go_enter Tryd.func31, Tryd.ntmps31
    go_wp2_with (go_at_call 14; refine (is_any s _ hs).mono ?_; rintro e w1 ⟨rfl, hb1⟩; rw [HN.out])
    go_ret2
    exact ⟨rfl, hb1⟩
  · have hl : s.size ≤ 2001 := numB_len hn
    cases hi : inI64 (strV s.data.toList)
    · have h1 : toOk s.data.toList = false := by unfold toOk; rw [hn, hi]; rfl
      have h2 : toInt s.data.toList = 0 := by unfold toInt; rw [if_neg (by rw [h1]; simp)]
      have h3 : Lib.parseIntB 64 s.data.toList = .range := by rw [parse_num hn, hi]; rfl
      rw [h1, h2]
      have HN := Lib.hid hn
      clear h1 h2 hn
      go_enter Tryd.func31, Tryd.ntmps31
      go_wp2_with (first
        | (go_at_call 14; refine (is_any s _ hs).mono ?_; rintro e w1 ⟨rfl, hb1⟩; rw [HN.out]; obtain ⟨ev, g1, g2⟩ := herr.below hb1)
        | (go_at_call 46; refine (Tryd.strconv_ParseInt_10_at64_range s (by omega) h3 ev _ g1 g2).mono ?_; rintro e w2 ⟨N, rfl, _, _, hb2⟩))
      go_ret2
      exact ⟨rfl, hb1.trans (hb2.mono hb1.size)⟩
    · have h1 : toOk s.data.toList = true := by unfold toOk; rw [hn, hi]; rfl
      have h2 : toInt s.data.toList = strV s.data.toList := by unfold toInt; rw [if_pos h1]
      have h3 : Lib.parseIntB 64 s.data.toList = .ok (strV s.data.toList) := by rw [parse_num hn, hi]; rfl
      rw [h1, h2]
      have HN := Lib.hid hn
      clear h1 h2 hn
      go_enter Tryd.func31, Tryd.ntmps31
      go_wp2_with (first
        | (go_at_call 14; refine (is_any s _ hs).mono ?_; rintro e w1 ⟨rfl, hb1⟩; rw [HN.out])
        | (go_at_call 46; refine (Tryd.strconv_ParseInt_10_at64_ok s (by omega) _ h3 _).mono ?_; rintro e w2 ⟨rfl, hb2⟩))
      go_ret2
      refine ⟨rfl, hb1.trans ?_⟩
      rcases hb2 with rfl | ⟨t, rfl⟩
      · exact (Below.refl _ _).mono hb1.size
      · exact (Lib.bytesWorld_below _ _ _).mono hb1.size

end Go.Proofs.YtimcbmgmngkagaaDoor
