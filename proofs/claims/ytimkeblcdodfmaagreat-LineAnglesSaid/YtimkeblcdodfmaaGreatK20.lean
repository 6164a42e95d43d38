/-
  Package line: which of two points is further; Package line: which of two points is further, whole; Package line: the order of two points along the line, as Points hands it to the sort; A call's draws only add up: behind every run of the machine at least as many answers have been drawn as before it. With this a contract that says 'Below' gives the world behind the call in the form that the library's sorts ask for; Rows of four numbers that the call itself has made: what they hold, stores, the library's sort; Of equal neighbours the first: plain.
-/
import Derived.Sort.Grow
import Derived.Shelf.SlSortCmp.WholeK
import Derived.Test.YtimkeblcdodfmaaGreatK1
import Derived.Test.YtimkeblcdodfmaaGreatK2
import Derived.Test.YtimkeblcdodfmaaGreatK3
import Derived.Test.YtimkeblcdodfmaaGreatK4
import Derived.Test.YtimkeblcdodfmaaGreatK5
import Derived.Test.YtimkeblcdodfmaaGreatK6
import Derived.Test.YtimkeblcdodfmaaGreatK7
import Derived.Test.YtimkeblcdodfmaaGreatK8
import Derived.Test.YtimkeblcdodfmaaGreatK9
import Derived.Test.YtimkeblcdodfmaaGreatK16
import Derived.Test.YtimkeblcdodfmaaGreatK17
import Derived.Test.YtimkeblcdodfmaaGreatK18
import Derived.Test.YtimkeblcdodfmaaGreatK19
namespace Go.Proofs.YtimkeblcdodfmaaGreat
open Go.RowKit Go.Shelf
attribute [local go_sem] Oper.semAt_some

def v3g (d : V3) : Nat → Int
  | 0 => d.a
  | 1 => d.b
  | _ => d.c
theorem Blk.v3g {W : World} {B : Nat} {d : V3} {t : TypeId} (h : Blk W B #[.int .i64 d.a, .int .i64 d.b, .int .i64 d.c] t) {i : Nat} (hi : i < 3) : W.cell? ⟨B, i, none⟩ = some (.int .i64 (v3g d i)) := by
  match i, hi with
  | 0, _ => exact h.cell (i := 0) rfl
  | 1, _ => exact h.cell (i := 1) rfl
  | 2, _ => exact h.cell (i := 2) rfl
/-- One part of how much further a is than b. -/
def leadP (d : V3) (a b : V4) (i : Nat) : Int := (vg a i * vg b 3 - vg b i * vg a 3) * v3g d i

set_option maxRecDepth 100000 in
set_option maxHeartbeats 4000000 in
theorem leadP_any (ba bb bd i : Nat) (a b : V4) (d : V3) (w : World) (hi3 : i < 3) (ha : InV a) (hb : InV b) (hd0 : InI64 (v3g d i))
    (kA : Blk w ba #[.int .i64 a.a, .int .i64 a.b, .int .i64 a.c, .int .i64 a.d] 41) (kB : Blk w bb #[.int .i64 b.a, .int .i64 b.b, .int .i64 b.c, .int .i64 b.d] 41) (kD : Blk w bd #[.int .i64 d.a, .int .i64 d.b, .int .i64 d.c] 24) :
    Calls Tryz.prog 86 #[.int .i64 (i : Int), .pointer (some ⟨ba, 0, none⟩), .pointer (some ⟨bb, 0, none⟩), .pointer (some ⟨bd, 0, none⟩)] w fun e w' => e = .returned (sumV (leadP d a b i)) ∧ Below w.heap.size w w' := by
  obtain ⟨w1, hw1⟩ : ∃ w1, (w.alloc (.cells #[.int .u64 0, .int .u64 0] 90)) = w1 := ⟨_, rfl⟩
  have hb1 : Below w.heap.size w w1 := by rw [← hw1]; exact (Below.refl _ w).alloc (Nat.le_refl _) _
  have k2 : Blk w1 w.heap.size #[.int .u64 0, .int .u64 0] 90 := by rw [← hw1]; exact Blk.new _ _ _
  have kA := kA.kept hb1
  have kB := kB.kept hb1
  have kD := kD.kept hb1
  have hi4 : i < 4 := by omega
  have a0 := vg_in ha i
  have a1 := vg_in hb 3
  have a2 := vg_in hb i
  have a3 := vg_in ha 3
  unfold InI64 at a0 a1 a2 a3 hd0
  have hx := fun W => product_any (vg a i) (vg b 3) W a0.1 a0.2 a1.1 a1.2
  have hy := fun W => product_any (vg b i) (vg a 3) W a2.1 a2.2 a3.1 a3.2
  have hu := fun W => minus_any (vg a i * vg b 3) (vg b i * vg a 3) W
  have ht := fun W => times_any (vg a i * vg b 3 - vg b i * vg a 3) (v3g d i) W hd0.1 hd0.2
  have hii : (i : Int) < 4 := by omega
  have hi3i : (i : Int) < 3 := by omega
  unfold leadP
  unfold sumV at hx hy hu ht ⊢
  obtain ⟨th, hth⟩ : ∃ y, hiW ((vg a i * vg b 3 - vg b i * vg a 3) * v3g d i) = y := ⟨_, rfl⟩
  obtain ⟨tl, htl⟩ : ∃ y, loW ((vg a i * vg b 3 - vg b i * vg a 3) * v3g d i) = y := ⟨_, rfl⟩
  rw [hth, htl] at ht ⊢
  clear hth htl
  generalize hiW (vg a i * vg b 3) = xh at *
  generalize loW (vg a i * vg b 3) = xl at *
  generalize hiW (vg b i * vg a 3) = yh at *
  generalize loW (vg b i * vg a 3) = yl at *
  generalize hiW (vg a i * vg b 3 - vg b i * vg a 3) = uh at *
  generalize loW (vg a i * vg b 3 - vg b i * vg a 3) = ul at *
  have HX := Lib.hid hx
  have HY := Lib.hid hy
  have HU := Lib.hid hu
  have HT := Lib.hid ht
  clear hx hy hu ht a0 a1 a2 a3 ha hb hd0
  go_enter Tryz.func86, Tryz.ntmps86
  go_upto_region 1 with fail
  refine wp_region_pure 17 (fun ix => match ix with | 0 => .int .i64 (i : Int) | 1 => .pointer (some ⟨ba, i, none⟩) | 2 => .int .i64 (vg a i) | 3 => .pointer (some ⟨bb, 3, none⟩) | 4 => .int .i64 (vg b 3) | 5 => .agg #[.int .u64 xh, .int .u64 xl] | 6 => .int .i64 (i : Int) | 7 => .pointer (some ⟨bb, i, none⟩) | 8 => .int .i64 (vg b i) | 9 => .pointer (some ⟨ba, 3, none⟩) | 10 => .int .i64 (vg a 3) | 11 => .agg #[.int .u64 yh, .int .u64 yl] | 12 => .agg #[.int .u64 uh, .int .u64 ul] | 13 => .int .i64 (i : Int) | 14 => .pointer (some ⟨bd, i, none⟩) | 15 => .int .i64 (v3g d i) | _ => .agg #[.int .u64 th, .int .u64 tl]) (by kernel_rfl) (by kernel_rfl) (by kernel_rfl) ?_ ?_ ?_
  · decide
  · rintro ix hx f ww hS hd
    have f0 := (kA.kept hS).vg hi4
    have f1 := (kB.kept hS).vg (i := 3) (by decide)
    have f2 := (kB.kept hS).vg hi4
    have f3 := (kA.kept hS).vg (i := 3) (by decide)
    have f4 := (kD.kept hS).v3g hi3
    rcases ix with _ | _ | _ | _ | _ | _ | _ | _ | _ | _ | _ | _ | _ | _ | _ | _ | _ | ix
    · refine wpOp_list rfl ?_
      simp only [tmOf, putAll, List.map_cons, List.map_nil, List.setIfInBounds_toArray, List.set_cons_zero, List.set_cons_succ]
      go_wp2
      simp [upd, Below.refl]
    · have g0 : f 0 = .int .i64 (i : Int) := hd 0 (by kernel_rfl)
      refine wpOp_list rfl ?_
      simp only [tmOf, putAll, List.map_cons, List.map_nil, List.setIfInBounds_toArray, List.set_cons_zero, List.set_cons_succ]
      go_wp2
      simp [upd, g0, Below.refl]
    · have g1 : f 1 = .pointer (some ⟨ba, i, none⟩) := hd 1 (by kernel_rfl)
      refine wpOp_list rfl ?_
      simp only [tmOf, putAll, List.map_cons, List.map_nil, List.setIfInBounds_toArray, List.set_cons_zero, List.set_cons_succ]
      go_wp2
      simp [upd, g1, Below.refl]
    · refine wpOp_list rfl ?_
      simp only [tmOf, putAll, List.map_cons, List.map_nil, List.setIfInBounds_toArray, List.set_cons_zero, List.set_cons_succ]
      go_wp2
      simp [upd, Below.refl]
    · have g3 : f 3 = .pointer (some ⟨bb, 3, none⟩) := hd 3 (by kernel_rfl)
      refine wpOp_list rfl ?_
      simp only [tmOf, putAll, List.map_cons, List.map_nil, List.setIfInBounds_toArray, List.set_cons_zero, List.set_cons_succ]
      go_wp2
      simp [upd, g3, Below.refl]
    · have g2 : f 2 = .int .i64 (vg a i) := hd 2 (by kernel_rfl)
      have g4 : f 4 = .int .i64 (vg b 3) := hd 4 (by kernel_rfl)
      refine wpOp_list rfl ?_
      simp only [tmOf, putAll, List.map_cons, List.map_nil, List.setIfInBounds_toArray, List.set_cons_zero, List.set_cons_succ]
      go_wp2_with fail
      refine (HX.out _).mono ?_
      rintro e' wf ⟨rfl, hbf⟩
      go_wp2_with fail
      simp [upd, g2, g4, hbf]
    · refine wpOp_list rfl ?_
      simp only [tmOf, putAll, List.map_cons, List.map_nil, List.setIfInBounds_toArray, List.set_cons_zero, List.set_cons_succ]
      go_wp2
      simp [upd, Below.refl]
    · have g6 : f 6 = .int .i64 (i : Int) := hd 6 (by kernel_rfl)
      refine wpOp_list rfl ?_
      simp only [tmOf, putAll, List.map_cons, List.map_nil, List.setIfInBounds_toArray, List.set_cons_zero, List.set_cons_succ]
      go_wp2
      simp [upd, g6, Below.refl]
    · have g7 : f 7 = .pointer (some ⟨bb, i, none⟩) := hd 7 (by kernel_rfl)
      refine wpOp_list rfl ?_
      simp only [tmOf, putAll, List.map_cons, List.map_nil, List.setIfInBounds_toArray, List.set_cons_zero, List.set_cons_succ]
      go_wp2
      simp [upd, g7, Below.refl]
    · refine wpOp_list rfl ?_
      simp only [tmOf, putAll, List.map_cons, List.map_nil, List.setIfInBounds_toArray, List.set_cons_zero, List.set_cons_succ]
      go_wp2
      simp [upd, Below.refl]
    · have g9 : f 9 = .pointer (some ⟨ba, 3, none⟩) := hd 9 (by kernel_rfl)
      refine wpOp_list rfl ?_
      simp only [tmOf, putAll, List.map_cons, List.map_nil, List.setIfInBounds_toArray, List.set_cons_zero, List.set_cons_succ]
      go_wp2
      simp [upd, g9, Below.refl]
    · have g8 : f 8 = .int .i64 (vg b i) := hd 8 (by kernel_rfl)
      have g10 : f 10 = .int .i64 (vg a 3) := hd 10 (by kernel_rfl)
      refine wpOp_list rfl ?_
      simp only [tmOf, putAll, List.map_cons, List.map_nil, List.setIfInBounds_toArray, List.set_cons_zero, List.set_cons_succ]
      go_wp2_with fail
      refine (HY.out _).mono ?_
      rintro e' wf ⟨rfl, hbf⟩
      go_wp2_with fail
      simp [upd, g8, g10, hbf]
    · have g5 : f 5 = .agg #[.int .u64 xh, .int .u64 xl] := hd 5 (by kernel_rfl)
      have g11 : f 11 = .agg #[.int .u64 yh, .int .u64 yl] := hd 11 (by kernel_rfl)
      refine wpOp_list rfl ?_
      simp only [tmOf, putAll, List.map_cons, List.map_nil, List.setIfInBounds_toArray, List.set_cons_zero, List.set_cons_succ]
      go_wp2_with fail
      refine (HU.out _).mono ?_
      rintro e' wf ⟨rfl, hbf⟩
      go_wp2_with fail
      simp [upd, g5, g11, hbf]
    · refine wpOp_list rfl ?_
      simp only [tmOf, putAll, List.map_cons, List.map_nil, List.setIfInBounds_toArray, List.set_cons_zero, List.set_cons_succ]
      go_wp2
      simp [upd, Below.refl]
    · have g13 : f 13 = .int .i64 (i : Int) := hd 13 (by kernel_rfl)
      refine wpOp_list rfl ?_
      simp only [tmOf, putAll, List.map_cons, List.map_nil, List.setIfInBounds_toArray, List.set_cons_zero, List.set_cons_succ]
      go_wp2
      simp [upd, g13, Below.refl]
    · have g14 : f 14 = .pointer (some ⟨bd, i, none⟩) := hd 14 (by kernel_rfl)
      refine wpOp_list rfl ?_
      simp only [tmOf, putAll, List.map_cons, List.map_nil, List.setIfInBounds_toArray, List.set_cons_zero, List.set_cons_succ]
      go_wp2
      simp [upd, g14, Below.refl]
    · have g12 : f 12 = .agg #[.int .u64 uh, .int .u64 ul] := hd 12 (by kernel_rfl)
      have g15 : f 15 = .int .i64 (v3g d i) := hd 15 (by kernel_rfl)
      refine wpOp_list rfl ?_
      simp only [tmOf, putAll, List.map_cons, List.map_nil, List.setIfInBounds_toArray, List.set_cons_zero, List.set_cons_succ]
      go_wp2_with fail
      refine (HT.out _).mono ?_
      rintro e' wf ⟨rfl, hbf⟩
      go_wp2_with fail
      simp [upd, g12, g15, hbf]
    · omega
  · rintro f ww hS hd
    have K2 := k2.kept hS
    have d0 := K2.cell (i := 0) rfl
    have d1 := K2.cell (i := 1) rfl
    have q0 := K2.frozen 0
    have q1 := K2.frozen 1
    have g16 : f 16 = .agg #[.int .u64 th, .int .u64 tl] := hd 16 (by decide)
    simp only [seqW, tmOf, putAll, List.map_cons, List.map_nil, List.setIfInBounds_toArray, List.set_cons_zero, List.set_cons_succ, List.length_cons, List.length_nil]
    refine wpOp_list rfl ?_
    go_wp2
    have L := (K2.set_eq 0 (.int .u64 th) rfl).set_eq 1 (.int .u64 tl) rfl
    have z0 := L.cell (i := 0) rfl
    have z1 := L.cell (i := 1) rfl
    exact bodyPost_ret (v := .agg #[.int .u64 th, .int .u64 tl]) (by simp [results, Tryz.results86, go_sem, z0, z1]) rfl ⟨rfl, ((hb1.trans (hS.mono hb1.size)).setCell (by simp only; omega) _).setCell (by simp only; omega) _⟩

end Go.Proofs.YtimkeblcdodfmaaGreat

namespace Go.Proofs.YtimkeblcdodfmaaGreat
open Go.RowKit Go.Shelf
attribute [local go_sem] Oper.semAt_some

/-- How much further a is than b, times both weights. -/
def leadZ (d : V3) (a b : V4) : Int := sumI [leadP d a b 0, leadP d a b 1, leadP d a b 2]

set_option maxRecDepth 100000 in
set_option maxHeartbeats 4000000 in
theorem lead_any (d : V3) (a b : V4) (w : World) (hd : Far d 2000000) (ha : InV a) (hb : InV b) :
    Calls Tryz.prog 56 #[.agg #[.int .i64 d.a, .int .i64 d.b, .int .i64 d.c], .agg #[.int .i64 a.a, .int .i64 a.b, .int .i64 a.c, .int .i64 a.d], .agg #[.int .i64 b.a, .int .i64 b.b, .int .i64 b.c, .int .i64 b.d]] w fun e w' => e = .returned (sumV (leadZ d a b)) ∧ Below w.heap.size w w' := by
  obtain ⟨w1, hw1⟩ : ∃ w1, ((((w.alloc (.cells #[.int .i64 d.a, .int .i64 d.b, .int .i64 d.c] 24)).alloc (.cells #[.int .i64 a.a, .int .i64 a.b, .int .i64 a.c, .int .i64 a.d] 41)).alloc (.cells #[.int .i64 b.a, .int .i64 b.b, .int .i64 b.c, .int .i64 b.d] 41)).alloc (.cells #[.int .u64 0, .int .u64 0] 90)) = w1 := ⟨_, rfl⟩
  have hb1 : Below w.heap.size w w1 := by rw [← hw1]; exact bw4' w _ _ _ _
  have k0 : Blk w1 (w.heap.size) #[.int .i64 d.a, .int .i64 d.b, .int .i64 d.c] 24 := by rw [← hw1]; exact ((((Blk.new w _ _).alloc _).alloc _).alloc _)
  have k1 : Blk w1 (w.heap.size + 1) #[.int .i64 a.a, .int .i64 a.b, .int .i64 a.c, .int .i64 a.d] 41 := by rw [← hw1]; exact (((Blk.new' _ _ _ (by simp)).alloc _).alloc _)
  have k2 : Blk w1 (w.heap.size + 1 + 1) #[.int .i64 b.a, .int .i64 b.b, .int .i64 b.c, .int .i64 b.d] 41 := by rw [← hw1]; exact ((Blk.new' _ _ _ (by simp)).alloc _)
  have k3 : Blk w1 (w.heap.size + 1 + 1 + 1) #[.int .u64 0, .int .u64 0] 90 := by rw [← hw1]; exact (Blk.new' _ _ _ (by simp))
  have hdi : ∀ i, InI64 (v3g d i) := fun i => by
    obtain ⟨d0, d1, d2⟩ := hd
    unfold v3g InI64
    split <;> omega
  unfold leadZ
  obtain ⟨x, hx⟩ : ∃ y, leadP d a b 0 = y := ⟨_, rfl⟩
  obtain ⟨y, hy⟩ : ∃ y, leadP d a b 1 = y := ⟨_, rfl⟩
  obtain ⟨z, hz⟩ : ∃ y, leadP d a b 2 = y := ⟨_, rfl⟩
  rw [hx, hy, hz]
  have hp0 : ∀ W, Blk W (w.heap.size + 1) #[.int .i64 a.a, .int .i64 a.b, .int .i64 a.c, .int .i64 a.d] 41 → Blk W (w.heap.size + 1 + 1) #[.int .i64 b.a, .int .i64 b.b, .int .i64 b.c, .int .i64 b.d] 41 → Blk W (w.heap.size) #[.int .i64 d.a, .int .i64 d.b, .int .i64 d.c] 24 → Calls Tryz.prog 86 #[.int .i64 0, .pointer (some ⟨w.heap.size + 1, 0, none⟩), .pointer (some ⟨w.heap.size + 1 + 1, 0, none⟩), .pointer (some ⟨w.heap.size, 0, none⟩)] W fun e w' => e = .returned (sumV x) ∧ Below W.heap.size W w' := fun W h1 h2 h0 => by
    have h := leadP_any _ _ _ 0 a b d W (by decide) ha hb (hdi 0) h1 h2 h0
    rw [hx] at h
    exact h
  have hp1 : ∀ W, Blk W (w.heap.size + 1) #[.int .i64 a.a, .int .i64 a.b, .int .i64 a.c, .int .i64 a.d] 41 → Blk W (w.heap.size + 1 + 1) #[.int .i64 b.a, .int .i64 b.b, .int .i64 b.c, .int .i64 b.d] 41 → Blk W (w.heap.size) #[.int .i64 d.a, .int .i64 d.b, .int .i64 d.c] 24 → Calls Tryz.prog 86 #[.int .i64 1, .pointer (some ⟨w.heap.size + 1, 0, none⟩), .pointer (some ⟨w.heap.size + 1 + 1, 0, none⟩), .pointer (some ⟨w.heap.size, 0, none⟩)] W fun e w' => e = .returned (sumV y) ∧ Below W.heap.size W w' := fun W h1 h2 h0 => by
    have h := leadP_any _ _ _ 1 a b d W (by decide) ha hb (hdi 1) h1 h2 h0
    rw [hy] at h
    exact h
  have hp2 : ∀ W, Blk W (w.heap.size + 1) #[.int .i64 a.a, .int .i64 a.b, .int .i64 a.c, .int .i64 a.d] 41 → Blk W (w.heap.size + 1 + 1) #[.int .i64 b.a, .int .i64 b.b, .int .i64 b.c, .int .i64 b.d] 41 → Blk W (w.heap.size) #[.int .i64 d.a, .int .i64 d.b, .int .i64 d.c] 24 → Calls Tryz.prog 86 #[.int .i64 2, .pointer (some ⟨w.heap.size + 1, 0, none⟩), .pointer (some ⟨w.heap.size + 1 + 1, 0, none⟩), .pointer (some ⟨w.heap.size, 0, none⟩)] W fun e w' => e = .returned (sumV z) ∧ Below W.heap.size W w' := fun W h1 h2 h0 => by
    have h := leadP_any _ _ _ 2 a b d W (by decide) ha hb (hdi 2) h1 h2 h0
    rw [hz] at h
    exact h
  have hu : ∀ B W, RdSum W (some ⟨B, 0, none⟩) [x, y, z] → Calls Tryz.prog 90 #[.slice (some ⟨B, 0, none⟩) 3 3] W fun e w' => e = .returned (sumV (sumI [x, y, z])) ∧ Below W.heap.size W w' := fun B W h => total_any _ 3 3 [x, y, z] W rfl (by decide) h
  clear hx hy hz hdi hd ha hb
  obtain ⟨xh, hxh⟩ : ∃ v, hiW x = v := ⟨_, rfl⟩
  obtain ⟨xl, hxl⟩ : ∃ v, loW x = v := ⟨_, rfl⟩
  obtain ⟨yh, hyh⟩ : ∃ v, hiW y = v := ⟨_, rfl⟩
  obtain ⟨yl, hyl⟩ : ∃ v, loW y = v := ⟨_, rfl⟩
  obtain ⟨zh, hzh⟩ : ∃ v, hiW z = v := ⟨_, rfl⟩
  obtain ⟨zl, hzl⟩ : ∃ v, loW z = v := ⟨_, rfl⟩
  have HW := Lib.hid (And.intro (And.intro hxh hxl) (And.intro (And.intro hyh hyl) (And.intro hzh hzl)))
  unfold sumV at hp0 hp1 hp2 hu ⊢
  rw [hxh, hxl] at hp0
  rw [hyh, hyl] at hp1
  rw [hzh, hzl] at hp2
  clear hxh hxl hyh hyl hzh hzl
  obtain ⟨uh, huh⟩ : ∃ v, hiW (sumI [x, y, z]) = v := ⟨_, rfl⟩
  obtain ⟨ul, hul⟩ : ∃ v, loW (sumI [x, y, z]) = v := ⟨_, rfl⟩
  rw [huh, hul] at hu ⊢
  clear huh hul
  have H0 := Lib.hid hp0
  have H1 := Lib.hid hp1
  have H2 := Lib.hid hp2
  have HU := Lib.hid hu
  clear hp0 hp1 hp2 hu
  go_enter Tryz.func56, Tryz.ntmps56
  go_wp2_with fail
  refine (H0.out _ k1 k2 k0).mono ?_
  rintro e' wa ⟨rfl, hba⟩
  have k0 := k0.kept hba
  have k1 := k1.kept hba
  have k2 := k2.kept hba
  have k3 := k3.kept hba
  have hb := hb1.trans (hba.mono hb1.size)
  clear hba hw1 hb1
  go_wp2_with fail
  refine (H1.out _ k1 k2 k0).mono ?_
  rintro e' wb ⟨rfl, hbb⟩
  have k0 := k0.kept hbb
  have k1 := k1.kept hbb
  have k2 := k2.kept hbb
  have k3 := k3.kept hbb
  have hb := hb.trans (hbb.mono hb.size)
  clear hbb
  go_wp2_with fail
  refine (H2.out _ k1 k2 k0).mono ?_
  rintro e' wc ⟨rfl, hbc⟩
  have k3 := k3.kept hbc
  have hb := hb.trans (hbc.mono hb.size)
  clear hbc k0 k1 k2 H0 H1 H2
  obtain ⟨w4, hw4⟩ : ∃ w', wc.alloc (.cells #[.int .u64 xh, .int .u64 xl, .int .u64 yh, .int .u64 yl, .int .u64 zh, .int .u64 zl] 90) = w' := ⟨_, rfl⟩
  have hr : RdSum w4 (some ⟨wc.heap.size, 0, none⟩) [x, y, z] := by rw [← hw4]; exact sums3 wc xh xl yh yl zh zl _ _ _ HW.out
  have hb4 : Below wc.heap.size wc w4 := by rw [← hw4]; exact (Below.refl _ wc).alloc (Nat.le_refl _) _
  have k3 := k3.kept hb4
  have hb := hb.trans (hb4.mono hb.size)
  have HU2 := Lib.hid (HU.out _ w4 hr)
  clear hb4 hr HU HW
  go_wp2_with fail
  refine HU2.out.mono ?_
  rintro e' wd ⟨rfl, hbd⟩
  have k3 := k3.kept hbd
  have hb := hb.trans (hbd.mono hb.size)
  clear hbd hw4 HU2
  have d0 := k3.cell (i := 0) rfl
  have d1 := k3.cell (i := 1) rfl
  have q0 := k3.frozen 0
  have q1 := k3.frozen 1
  go_wp2_with fail
  have L := (k3.set_eq 0 (.int .u64 uh) rfl).set_eq 1 (.int .u64 ul) rfl
  have z0 := L.cell (i := 0) rfl
  have z1 := L.cell (i := 1) rfl
  exact bodyPost_ret (v := .agg #[.int .u64 uh, .int .u64 ul]) (by simp [results, Tryz.results56, go_sem, z0, z1]) rfl ⟨rfl, (hb.setCell (by simp only; omega) _).setCell (by simp only; omega) _⟩

end Go.Proofs.YtimkeblcdodfmaaGreat

namespace Go.Proofs.YtimkeblcdodfmaaGreat
open Go.RowKit Go.Shelf
attribute [local go_sem] Oper.semAt_some

set_option maxRecDepth 100000 in
set_option maxHeartbeats 4000000 in
theorem forward_any (bd : Nat) (d : V3) (a b : V4) (w : World) (hd : Far d 2000000) (ha : InV a) (hb : InV b) (hz : In127 (leadZ d a b)) (kD : Blk w bd #[.int .i64 d.a, .int .i64 d.b, .int .i64 d.c] 24) :
    Calls Tryz.prog 66 #[.agg #[.int .i64 a.a, .int .i64 a.b, .int .i64 a.c, .int .i64 a.d], .agg #[.int .i64 b.a, .int .i64 b.b, .int .i64 b.c, .int .i64 b.d], .pointer (some ⟨bd, 0, none⟩)] w fun e w' => e = .returned (.int .i64 (sgnI (leadZ d a b))) ∧ Below w.heap.size w w' := by
  obtain ⟨w1, hw1⟩ : ∃ w1, ((w.alloc (.cells #[.int .i64 a.a, .int .i64 a.b, .int .i64 a.c, .int .i64 a.d] 41)).alloc (.cells #[.int .i64 b.a, .int .i64 b.b, .int .i64 b.c, .int .i64 b.d] 41)) = w1 := ⟨_, rfl⟩
  have hb1 : Below w.heap.size w w1 := by rw [← hw1]; exact bw2 w _ _
  have k1 : Blk w1 (w.heap.size) #[.int .i64 a.a, .int .i64 a.b, .int .i64 a.c, .int .i64 a.d] 41 := by rw [← hw1]; exact ((Blk.new w _ _).alloc _)
  have k2 : Blk w1 (w.heap.size + 1) #[.int .i64 b.a, .int .i64 b.b, .int .i64 b.c, .int .i64 b.d] 41 := by rw [← hw1]; exact (Blk.new' _ _ _ (by simp))
  have k0 := kD.kept hb1
  have hl := fun W => lead_any d a b W hd ha hb
  have hs := fun W => sign_any (leadZ d a b) W hz
  obtain ⟨z, hze⟩ : ∃ y, leadZ d a b = y := ⟨_, rfl⟩
  rw [hze] at hl hs ⊢
  obtain ⟨s, hse⟩ : ∃ y, sgnI z = y := ⟨_, rfl⟩
  rw [hse] at hs ⊢
  obtain ⟨v, hv⟩ : ∃ y, sumV z = y := ⟨_, rfl⟩
  rw [hv] at hl hs
  have HL := Lib.hid hl
  have HS := Lib.hid hs
  clear hl hs hze hse hv hd ha hb hz kD
  have c0 := k0.cell (i := 0) rfl
  have c1 := k0.cell (i := 1) rfl
  have c2 := k0.cell (i := 2) rfl
  have e0 := k1.cell (i := 0) rfl
  have e1 := k1.cell (i := 1) rfl
  have e2 := k1.cell (i := 2) rfl
  have e3 := k1.cell (i := 3) rfl
  have g0 := k2.cell (i := 0) rfl
  have g1 := k2.cell (i := 1) rfl
  have g2 := k2.cell (i := 2) rfl
  have g3 := k2.cell (i := 3) rfl
  go_enter Tryz.func66, Tryz.ntmps66
  go_wp2_with fail
  refine (HL.out _).mono ?_
  rintro e' wa ⟨rfl, hba⟩
  clear c0 c1 c2 e0 e1 e2 e3 g0 g1 g2 g3
  go_wp2_with fail
  refine (HS.out _).mono ?_
  rintro e' wb ⟨rfl, hbb⟩
  go_wp2_with fail
  go_ret
  exact ⟨rfl, hb1.trans ((hba.trans (hbb.mono hba.size)).mono hb1.size)⟩

end Go.Proofs.YtimkeblcdodfmaaGreat

namespace Go.Proofs.YtimkeblcdodfmaaGreat
open Go Go.RowKit

theorem ask_drawn {α : Type} (a : Ask α) : ∀ w : World, w.drawn ≤ (w.ask a).2.drawn := by
  induction a with
  | done a => intro w; exact Nat.le_refl _
  | ask what range k ih =>
    intro w
    unfold World.ask
    simp only
    split
    · exact ih _ _
    · exact Nat.le_trans (Nat.le_succ _) (ih _ { w with drawn := w.drawn + 1 })

theorem sys_drawn (w : World) (c : Sys) : w.drawn ≤ (w.sys c).2.drawn := by
  unfold World.sys
  have h := ask_drawn (Kernel.perform c w.os) w
  revert h
  generalize w.ask (Kernel.perform c w.os) = r
  intro h
  split
  · exact Nat.le_refl _
  · exact h

theorem viewStore_drawn {p : Program} {w : World} {at_ : Addr} {u : TypeId} {k : Addr} {v : Value} {atomic : Bool} {w' : World} {l : List Addr} (h : w.viewStore p at_ u k v atomic = .ok (w', l)) : w'.drawn = w.drawn := by
  unfold World.viewStore at h
  simp only [bind, Except.bind, pure, Except.pure, throw, throwThe, MonadExceptOf.throw] at h
  repeat' (first | (cases h; rfl) | (cases h; done) | split at h)

theorem farStore_drawn {p : Program} {w : World} {a : Addr} {v : Value} {atomic : Bool} {w' : World} {l : List Addr} (h : w.farStore p a v atomic = .ok (w', l)) : w'.drawn = w.drawn := by
  unfold World.farStore at h
  split at h
  · split at h
    · rename_i r hr
      cases h
      exact viewStore_drawn hr
    · cases h
  · cases h

theorem freeze_drawn (w : World) (a : Addr) (n : Nat) : (w.freeze a n).drawn = w.drawn := by unfold World.freeze; split <;> rfl

def resW {α : Type} : Result α → World | .ok _ w => w | .halt _ w => w

theorem run_drawn {α : Type} (p : Program) (s : Sem α) : ∀ w : World, w.drawn ≤ (resW (s.run p w)).drawn := by
  induction s with
  | pure a => intro w; exact Nat.le_refl _
  | load m a k ih =>
    intro w; unfold Sem.run
    split
    · exact ih _ _
    · split
      · exact ih _ _
      · exact Nat.le_refl _
  | store m a v k ih =>
    intro w
    unfold Sem.run
    split <;> (rename_i h; cases h)
    · exact Nat.le_refl _
    · exact Nat.le_refl _
    · split
      · split
        · exact Nat.le_refl _
        · exact ih (World.setCell _ a _)
      · split
        · rename_i h; exact Nat.le_trans (Nat.le_of_eq (farStore_drawn h).symm) (ih _)
        · exact Nat.le_refl _
  | new o k ih => intro w; exact ih _ { w with heap := w.heap.push o }
  | shape r k ih => intro w; exact ih _ _
  | freeze a n k ih => intro w; exact Nat.le_trans (Nat.le_of_eq (freeze_drawn w a n).symm) (ih _)
  | frozen a k ih => intro w; exact ih _ _
  | getObj r k ih =>
    intro w; unfold Sem.run
    split
    · exact Nat.le_refl _
    · exact ih _ _
    · exact Nat.le_refl _
  | setObj r o k ih =>
    intro w; unfold Sem.run
    split
    · exact Nat.le_refl _
    · exact ih { w with heap := w.heap.setIfInBounds r o }
    · exact Nat.le_refl _
  | choose q k ih =>
    intro w; unfold Sem.run
    split
    · exact ih _ _
    · exact Nat.le_trans (Nat.le_succ _) (ih _ { w with drawn := w.drawn + 1 })
  | sys c k ih => intro w; exact Nat.le_trans (sys_drawn w c) (ih _ _)
  | program k ih => intro w; exact ih _ _
  | mark m k ih => intro w; exact ih _
  | halt h => intro w; exact Nat.le_refl _

theorem runT_drawn {α : Type} (p : Program) (s : Sem α) : ∀ (w : World) (es : Array Event), w.drawn ≤ (resW (s.runT p w es).1).drawn := by
  induction s with
  | pure a => intro w es; exact Nat.le_refl _
  | load m a k ih =>
    intro w es; unfold Sem.runT
    split
    · exact ih _ _ _
    · split
      · exact ih _ _ _
      · exact Nat.le_refl _
  | store m a v k ih =>
    intro w es
    unfold Sem.runT
    split <;> (rename_i h; cases h)
    · exact Nat.le_refl _
    · exact Nat.le_refl _
    · split
      · split
        · exact Nat.le_refl _
        · exact ih (World.setCell _ a _) _
      · split
        · rename_i h; exact Nat.le_trans (Nat.le_of_eq (farStore_drawn h).symm) (ih _ _)
        · exact Nat.le_refl _
  | new o k ih => intro w es; exact ih _ { w with heap := w.heap.push o } _
  | shape r k ih => intro w es; exact ih _ _ _
  | freeze a n k ih => intro w es; exact Nat.le_trans (Nat.le_of_eq (freeze_drawn w a n).symm) (ih _ _)
  | frozen a k ih => intro w es; exact ih _ _ _
  | getObj r k ih =>
    intro w es; unfold Sem.runT
    split
    · exact Nat.le_refl _
    · exact ih _ _ _
    · exact Nat.le_refl _
  | setObj r o k ih =>
    intro w es; unfold Sem.runT
    split
    · exact Nat.le_refl _
    · exact ih { w with heap := w.heap.setIfInBounds r o } _
    · exact Nat.le_refl _
  | choose q k ih =>
    intro w es; unfold Sem.runT
    split
    · exact ih _ _ _
    · exact Nat.le_trans (Nat.le_succ _) (ih _ { w with drawn := w.drawn + 1 } _)
  | sys c k ih => intro w es; exact Nat.le_trans (sys_drawn w c) (ih _ _ _)
  | program k ih => intro w es; exact ih _ _ _
  | mark m k ih => intro w es; exact ih _ _
  | halt h => intro w es; exact Nat.le_refl _

theorem run_ok {α : Type} {p : Program} {s : Sem α} {w w' : World} {a : α} (h : s.run p w = .ok a w') : w.drawn ≤ w'.drawn := by
  have := run_drawn p s w; rw [h] at this; exact this
theorem runT_ok {α : Type} {p : Program} {s : Sem α} {w w' : World} {a : α} {es es' : Array Event} (h : s.runT p w es = (.ok a w', es')) : w.drawn ≤ w'.drawn := by
  have := runT_drawn p s w es; rw [h] at this; exact this
theorem runT_halt {α : Type} {p : Program} {s : Sem α} {w w' : World} {a : Halt} {es es' : Array Event} (h : s.runT p w es = (.halt a w', es')) : w.drawn ≤ w'.drawn := by
  have := runT_drawn p s w es; rw [h] at this; exact this

theorem runT_fst_ok {α : Type} {p : Program} {s : Sem α} {w w' : World} {a : α} {es : Array Event} (h : (s.runT p w es).1 = .ok a w') : w.drawn ≤ w'.drawn := by
  have := runT_drawn p s w es; rw [h] at this; exact this
theorem runT_fst_halt {α : Type} {p : Program} {s : Sem α} {w w' : World} {a : Halt} {es : Array Event} (h : (s.runT p w es).1 = .halt a w') : w.drawn ≤ w'.drawn := by
  have := runT_drawn p s w es; rw [h] at this; exact this

/-- How many answers have been drawn where a step of one goroutine goes on. -/
def GOk (n : Nat) : GStep → Prop
  | .go _ w _ | .comm _ _ _ _ w _ | .spawn _ _ w _ | .count _ w _ | .timer _ _ w _ | .alone _ _ w _ | .newcoro _ _ _ w _ | .coroswitch _ _ _ w _ | .collect _ w _ | .watch _ w _ => n ≤ w.drawn
  | .ended .. => True

theorem gok_ite {n : Nat} {c : Prop} [Decidable c] {a b : GStep} (ha : GOk n a) (hb : GOk n b) : GOk n (if c then a else b) := by split <;> assumption
theorem GOk.after {n : Nat} {s : GStep} (es : Array Event) (h : GOk n s) : GOk n (s.after es) := by cases s <;> exact h

theorem gok_doReturn (p : Program) (main : Bool) (fr : Frame) (cs : List Frame) (d : Option Dying) (v : Value) {n : Nat} {w : World} (h : n ≤ w.drawn) : GOk n (doReturn p main fr cs d v w) := by
  unfold doReturn
  repeat' (first | exact h | exact trivial | (show GOk n (.go _ w _); exact h) | split)

theorem gok_endThrow (fr : Frame) (m : String) {n : Nat} {w : World} (h : n ≤ w.drawn) : GOk n (endThrow fr m w) := h

theorem gok_endPrinting (p : Program) (fr : Frame) (v : Value) {n : Nat} {w : World} (h : n ≤ w.drawn) : GOk n (endPrinting p fr v w) := by
  unfold endPrinting
  simp only
  split
  · exact h
  · trivial

theorem gok_endFatal (p : Program) (fr : Frame) (cs : List Frame) (d : Option Dying) (m : String) {n : Nat} {w : World} (h : n ≤ w.drawn) : GOk n (endFatal p fr cs d m w) := by
  unfold endFatal
  simp only
  split
  · rename_i hr; exact Nat.le_trans h (run_ok hr)
  · trivial
  · trivial

theorem gok_endWith (w : World) (fd : Nat) (t : ByteArray) (o : Outcome) (n : Nat) : GOk n (endWith w fd t o) := by
  unfold endWith
  simp only
  repeat' (first | exact trivial | split)

theorem gok_early (p : Program) (fr : Frame) (cs : List Frame) (d : Option Dying) (g : Nat) {n : Nat} {w : World} (h : n ≤ w.drawn) : GOk n (early p fr cs d g w) := by
  unfold early
  simp only
  repeat' (first | exact h | exact trivial | (refine Nat.le_trans ?_ (run_ok (by assumption))) | split | (simp only [GOk]))

theorem gok_callDeferred (p : Program) (fr : Frame) (cs : List Frame) (dy : Option Dying) (d : Deferred) {n : Nat} {w : World} (h : n ≤ w.drawn) : GOk n (callDeferred p fr cs dy d w) := by
  unfold callDeferred
  refine gok_ite trivial ?_
  · have hr := runT_drawn p (invoke d.target d.args) w #[]
    revert hr
    generalize (invoke d.target d.args).runT p w #[] = r
    obtain ⟨r, es⟩ := r
    intro hr
    simp only
    apply GOk.after
    have hr' : n ≤ (resW r).drawn := Nat.le_trans h hr
    clear hr
    repeat' (first | exact hr' | exact trivial | exact gok_endFatal _ _ _ _ _ hr' | exact gok_endThrow _ _ hr' | split)

theorem gok_unwind (p : Program) (main : Bool) (fr : Frame) (cs : List Frame) (dy : Option Dying) {n : Nat} {w : World} (h : n ≤ w.drawn) : GOk n (unwind p main fr cs dy w) := by
  unfold unwind
  split
  · rename_i block _ ds _
    have hr := runT_drawn p (Instr.takeDeferred block) w #[]
    revert hr
    generalize (Instr.takeDeferred block).runT p w #[] = r
    obtain ⟨r, es⟩ := r
    intro hr
    simp only
    apply GOk.after
    have hr' : n ≤ (resW r).drawn := Nat.le_trans h hr
    clear hr
    repeat' (first | exact hr' | exact trivial | split)
  · exact gok_callDeferred _ _ _ _ _ h
  · split
    · trivial
    · repeat' (first | exact h | exact trivial | exact gok_endPrinting _ _ _ h | (have hx := Nat.le_trans h (run_ok (by assumption)); exact hx) | split)
    · split
      · exact gok_doReturn _ _ _ _ _ _ h
      · rename_i fn _
        have hr := runT_drawn p (results fn fr.tmps) w #[]
        revert hr
        generalize (results fn fr.tmps).runT p w #[] = r
        obtain ⟨r, es⟩ := r
        intro hr
        simp only
        apply GOk.after
        have hr' : n ≤ (resW r).drawn := Nat.le_trans h hr
        clear hr
        repeat' (first | exact gok_doReturn _ _ _ _ _ _ hr' | exact trivial | split)

theorem gok_writeOn (p : Program) (fr : Frame) (d : Dying) (f : Fatal) {n : Nat} {w : World} (h : n ≤ w.drawn) : GOk n (writeOn p fr d f w) := by
  unfold writeOn
  simp only
  split
  · trivial
  · split
    · exact Nat.le_trans h (runT_ok (by assumption))
    · exact Nat.le_trans h (runT_halt (by assumption))
    · trivial
    · trivial

theorem gok_die (p : Program) (fr : Frame) (d : Dying) {n : Nat} {w : World} (h : n ≤ w.drawn) : GOk n (die p fr d w) := by
  unfold die
  split
  · exact gok_writeOn _ _ _ _ h
  · split
    · split
      · exact h
      · exact gok_endWith _ _ _ _ _
    · simp only
      split
      · exact h
      · split
        · rename_i hr; exact Nat.le_trans h (run_ok hr)
        · trivial
      · rename_i t recv name _
        have hr := runT_drawn p (invoke (.fn (.method name) #[]) #[.iface t recv]) w #[]
        revert hr
        generalize (invoke (.fn (.method name) #[]) #[.iface t recv]).runT p w #[] = r
        obtain ⟨r, es⟩ := r
        intro hr
        simp only
        apply GOk.after
        have hr' : n ≤ (resW r).drawn := Nat.le_trans h hr
        clear hr
        repeat' (first | exact hr' | exact trivial | exact gok_endPrinting _ _ _ hr' | split)
      · trivial

theorem gok_apply (p : Program) (listen : Bool) (fr : Frame) (cs : List Frame) (dy : Option Dying) (s : Sem Next) {n : Nat} {w : World} (h : n ≤ w.drawn) : GOk n (stepG.apply p listen fr cs dy s w) := by
  unfold stepG.apply
  have hr : w.drawn ≤ (resW (if listen then s.runT p w #[] else (s.run p w, #[])).1).drawn := by
    split
    · exact runT_drawn p s w #[]
    · exact run_drawn p s w
  revert hr
  generalize (if listen then s.runT p w #[] else (s.run p w, #[])) = r
  obtain ⟨r, es⟩ := r
  intro hr
  simp only
  apply GOk.after
  have hr' : n ≤ (resW r).drawn := Nat.le_trans h hr
  clear hr
  repeat' (first | exact hr' | exact trivial | exact gok_endFatal _ _ _ _ _ hr' | exact gok_endThrow _ _ hr' | exact gok_early _ _ _ _ _ hr' | split)

theorem gok_oper (p : Program) (listen : Bool) (fr : Frame) (cs : List Frame) (dy : Option Dying) {n : Nat} {w : World} (h : n ≤ w.drawn) : GOk n (stepG.oper p listen fr cs dy w) := by
  unfold stepG.oper
  split
  · trivial
  · split
    · exact gok_apply _ _ _ _ _ _ h
    · exact gok_apply _ _ _ _ _ _ h

theorem gok_exec (p : Program) (main listen : Bool) (fr : Frame) (cs : List Frame) (dy : Option Dying) {n : Nat} {w : World} (h : n ≤ w.drawn) : GOk n (stepG.exec p main listen fr cs dy w) := by
  unfold stepG.exec
  simp only
  split
  all_goals repeat' (first | exact h | exact trivial | exact gok_apply _ _ _ _ _ _ h | exact gok_oper _ _ _ _ _ h | exact gok_doReturn _ _ _ _ _ _ (Nat.le_trans h (runT_fst_ok (by assumption))) | exact gok_apply _ _ _ _ _ _ (Nat.le_trans h (runT_fst_ok (by assumption))) | (refine GOk.after _ ?_) | (have hx := Nat.le_trans h (runT_fst_ok (by assumption)); exact hx) | (have hx := Nat.le_trans h (runT_fst_halt (by assumption)); exact hx) | (have hx := Nat.le_trans h (run_ok (by assumption)); exact hx) | (unfold Option.elim; split) | split)

theorem gok_step (p : Program) (main : Bool) (g : Goroutine) {n : Nat} {w : World} (listen : Bool) (h : n ≤ w.drawn) : GOk n (stepG p main g w listen) := by
  unfold stepG
  simp only
  split
  · exact gok_die _ _ _ h
  · exact gok_exec _ _ _ _ _ _ h
  · exact gok_unwind _ _ _ _ _ h

def SOk (n : Nat) : Stepped → Prop
  | .next m => n ≤ m.world.drawn
  | .ended .. => True

theorem sok_look (p : Program) (gs : Array Goroutine) (rest : Rest) {n : Nat} {w : World} (h : n ≤ w.drawn) : SOk n (look p gs rest w) := by
  unfold look
  simp only
  repeat' (first | exact h | exact trivial | (refine Nat.le_trans ?_ (run_ok (by assumption))) | split | (simp only [GOk, SOk]))

theorem waitingAt_drawn {rest : Rest} {cases : Array CommCase} {w w' : World} (h : waitingAt rest cases w = some w') : w'.drawn = w.drawn := by
  unfold waitingAt at h
  repeat' (first | (cases h; rfl) | (cases h; done) | split at h)

theorem sok_communicate (p : Program) (rest : Rest) (gs : Array Goroutine) (i : Nat) (g : Goroutine) (cases : Array CommCase) (blocking : Bool) (shape : CommShape) {n : Nat} {w : World} (h : n ≤ w.drawn) : SOk n (communicate p rest gs i g cases blocking shape w).1 := by
  unfold communicate
  simp only
  repeat' (first | exact h | exact trivial | (have hx := Nat.le_trans h (Nat.le_of_eq (waitingAt_drawn (by assumption)).symm); exact hx) | (refine Nat.le_trans ?_ (run_ok (by assumption))) | split | (simp only [GOk, SOk]))

theorem sok_serve (p : Program) (m : Machine) (k : Nat) {n : Nat} (h : n ≤ m.world.drawn) : SOk n (serve p m k) := by
  unfold serve
  simp only
  repeat' (first | exact h | exact trivial | split)

theorem drain_drawn (w : World) (c : Nat) : (drain w c).2.drawn = w.drawn := by unfold drain; split <;> rfl

theorem retime_drawn (m : Machine) (k : Nat) (t : Timer) (a b : Nat) : (retime m k t a b).2.world.drawn = m.world.drawn := by
  unfold retime
  simp only
  cases t.chan
  all_goals first
    | rfl
    | exact drain_drawn _ _
    | skip

theorem timerOp_drawn {m m' : Machine} {op : TimerOp} {v : Value} (h : timerOp m op = .ok (v, m')) : m'.world.drawn = m.world.drawn := by
  have hnamed : ∀ {m : Machine} {D : Nat} {var : Addr} {f : Nat → Timer → Value × Machine}, (∀ k t, (f k t).2.world.drawn = D) → timerOp.named m var f = .ok (v, m') → m'.world.drawn = D := by
    intro m D var f hf h
    unfold timerOp.named at h
    split at h
    · have := hf ‹_› (m.rest.timers.getD ‹_› default)
      injection h with h
      rw [h] at this
      exact this
    · cases h
  have hopened : ∀ {m m1 : Machine} {var : Addr}, timerOp.opened m var = some m1 → m1.world.drawn = m.world.drawn := by
    intro m m1 var h
    unfold timerOp.opened at h
    repeat' (first | (cases h; rfl) | (cases h; done) | split at h)
  unfold timerOp at h
  split at h
  · repeat' (first | (cases h; rfl) | (cases h; done) | split at h)
  · exact hnamed (fun k t => retime_drawn _ _ _ _ _) h
  · split at h
    · rename_i ho
      exact (hnamed (fun k t => retime_drawn _ _ _ _ _) h).trans (hopened ho)
    · cases h
  · cases h; rfl

theorem sok_runT (p : Program) (m : Machine) (i : Nat) (listen : Bool) {n : Nat} (h : n ≤ m.world.drawn) : SOk n (runT p m i listen).1 := by
  have hs := gok_step p (i == 0) (m.gs.swapAt! i { (default : Goroutine) with status := .finished }).1 (w := m.world) listen h
  revert hs
  unfold runT
  simp only
  generalize stepG p (i == 0) (m.gs.swapAt! i { (default : Goroutine) with status := .finished }).1 m.world listen = s
  intro hs
  cases s with
  | ended => trivial
  | comm g cases blocking shape w es => exact sok_communicate _ _ _ _ _ _ _ _ hs
  | go g w es => exact hs
  | spawn g c w es => exact hs
  | count g w es => 
    simp only
    split
    · trivial
    · exact hs
  | alone g on w es => exact hs
  | collect g w es => exact sok_look _ _ _ hs
  | watch g w es => exact hs
  | newcoro g c d w es => exact hs
  | coroswitch g c e w es =>
    simp only
    split
    · exact hs
    · exact hs
    · trivial
  | timer g op w es =>
    simp only
    split
    · rename_i he
      have := timerOp_drawn he
      exact Nat.le_trans hs (Nat.le_of_eq this.symm)
    · exact hs
    · trivial
    · trivial

def MOk (n : Nat) : Move → Prop
  | .goroutine m _ => n ≤ m.world.drawn
  | .machine s _ => SOk n s

theorem mok_askOn (p : Program) (m : Machine) {n : Nat} (h : n ≤ m.world.drawn) : MOk n (askOn p m) := by
  unfold askOn
  simp only
  repeat' (first | exact h | exact trivial | exact sok_serve _ _ _ (Nat.le_trans h (run_ok (by assumption))) | (refine Nat.le_trans ?_ (run_ok (by assumption))) | split | (simp only [MOk, SOk, Machine.advanceTo]; done) | (simp only [SOk, MOk, Machine.advanceTo]))

theorem mok_ask (p : Program) (m : Machine) {n : Nat} (h : n ≤ m.world.drawn) : MOk n (ask p m) := by
  unfold ask
  split
  · split
    · trivial
    · rename_i hr
      have hw := Nat.le_trans h (run_ok hr)
      have hl := sok_look p m.gs m.rest hw
      split
      · rename_i he; rw [he] at hl; exact mok_askOn _ _ hl
      · rename_i he; exact hl
    · rename_i hr
      exact mok_askOn _ _ (Nat.le_trans h (run_ok hr))
  · exact mok_askOn _ _ h

theorem mok_move (p : Program) (m : Machine) {n : Nat} (h : n ≤ m.world.drawn) : MOk n (move p m) := by
  unfold move
  repeat' (first | exact h | exact trivial | exact mok_ask _ _ h | split)

theorem step_drawn {p : Program} {m m' : Machine} (h : step p m = .next m') : m.world.drawn ≤ m'.world.drawn := by
  have hm := mok_move p m (Nat.le_refl m.world.drawn)
  have hs : SOk m.world.drawn (step p m) := by
    unfold step stepT
    split
    · rename_i he; rw [he] at hm; exact sok_runT _ _ _ _ hm
    · rename_i he; rw [he] at hm; exact hm
  rw [h] at hs
  exact hs

theorem steps_drawn {p : Program} {m m' : Machine} (h : Steps p m m') : m.world.drawn ≤ m'.world.drawn := by
  obtain ⟨n, hn⟩ := h
  induction n generalizing m with
  | zero => unfold runN at hn; cases hn; exact Nat.le_refl _
  | succ n ih =>
    unfold runN at hn
    split at hn
    · rename_i h1; exact Nat.le_trans (step_drawn h1) (ih hn)
    · exact absurd hn (by rename_i h2; intro h3; exact h2 _ h3)

theorem Calls.drawn {P : Program} {f : FuncId} {args : Array Value} {w : World} {R : Ending → World → Prop} (h : Calls P f args w R) : Calls P f args w fun e w' => R e w' ∧ (e = .outgrown ∨ w.drawn ≤ w'.drawn) := by
  intro cs
  obtain ⟨e, w', fr, hR, hc, hf, hl⟩ := h cs
  refine ⟨e, w', fr, ⟨hR, ?_⟩, hc, hf, hl⟩
  cases e with
  | outgrown => exact Or.inl rfl
  | returned v => exact Or.inr (steps_drawn hc)
  | panicked c => exact Or.inr (steps_drawn hc)

theorem below_grow {w w' : World} (h : Below w.heap.size w w') (hd : w.drawn ≤ w'.drawn) : ∃ q os, w' = Sort.grow (w.drewN q) os := by
  refine ⟨w'.drawn - w.drawn, w'.heap.extract w.heap.size w'.heap.size, ?_⟩
  obtain ⟨h1, h2, h3, h4, h5⟩ := h
  obtain ⟨hp, tp, dr, os, ou⟩ := w'
  obtain ⟨hp0, tp0, dr0, os0, ou0⟩ := w
  simp only at h1 h2 h3 h4 h5 hd
  subst h1 h2 h3
  unfold Sort.grow World.drewN
  simp only [World.mk.injEq, true_and, and_true]
  refine ⟨?_, by omega⟩
  apply Array.ext_getElem?
  intro i
  by_cases hi : i < hp0.size
  · rw [Array.getElem?_append_left hi]; exact h5 i hi
  · rw [Array.getElem?_append_right (by omega), Array.getElem?_extract]
    split
    · congr 1; omega
    · rw [Array.getElem?_eq_none (by omega)]

end Go.Proofs.YtimkeblcdodfmaaGreat

namespace Go.Proofs.YtimkeblcdodfmaaGreat
open Go.RowKit Go.Shelf

/-- Four numbers as cells. -/
def encV (q : V4) : List Value := [.int .i64 q.a, .int .i64 q.b, .int .i64 q.c, .int .i64 q.d]
/-- The block's first cells are these; they may be written. -/
def RowV (W : World) (B : Nat) (l : List V4) : Prop :=
  B < W.heap.size ∧ ∀ i q, l[i]? = some q → (W.cell? ⟨B, i * 4, none⟩ = some (.int .i64 q.a) ∧ W.cell? ⟨B, i * 4 + 1, none⟩ = some (.int .i64 q.b) ∧ W.cell? ⟨B, i * 4 + 2, none⟩ = some (.int .i64 q.c) ∧ W.cell? ⟨B, i * 4 + 3, none⟩ = some (.int .i64 q.d)) ∧
    (W.frozen? ⟨B, i * 4, none⟩ = false ∧ W.frozen? ⟨B, i * 4 + 1, none⟩ = false ∧ W.frozen? ⟨B, i * 4 + 2, none⟩ = false ∧ W.frozen? ⟨B, i * 4 + 3, none⟩ = false)
theorem RowV.rdV {W : World} {B : Nat} {l : List V4} (h : RowV W B l) : RdV W (some ⟨B, 0, none⟩) l := by
  intro i q hi
  obtain ⟨h0, h1, h2, h3⟩ := (h.2 i q hi).1
  exact ⟨B, 0, rfl, h.1, by rw [Nat.zero_add]; exact h0, by rw [Nat.zero_add]; exact h1, by rw [Nat.zero_add]; exact h2, by rw [Nat.zero_add]; exact h3⟩
theorem RowV.of_block {W W' : World} {B : Nat} {l : List V4} (h : RowV W B l) (hs : W.heap.size ≤ W'.heap.size) (hb : W'.heap[B]? = W.heap[B]?) : RowV W' B l := by
  refine ⟨Nat.lt_of_lt_of_le h.1 hs, fun i q hi => ?_⟩
  obtain ⟨⟨h0, h1, h2, h3⟩, f0, f1, f2, f3⟩ := h.2 i q hi
  have hc : ∀ o, W'.cell? ⟨B, o, none⟩ = W.cell? ⟨B, o, none⟩ := fun o => World.cell?_of_block hb
  have hf : ∀ o, W'.frozen? ⟨B, o, none⟩ = W.frozen? ⟨B, o, none⟩ := fun o => World.frozen?_of_block hb
  exact ⟨⟨(hc _).trans h0, (hc _).trans h1, (hc _).trans h2, (hc _).trans h3⟩, (hf _).trans f0, (hf _).trans f1, (hf _).trans f2, (hf _).trans f3⟩
theorem RowV.below {W W' : World} {B : Nat} {l : List V4} (h : RowV W B l) (hb : Below W.heap.size W W') : RowV W' B l := h.of_block hb.size (hb.block B h.1)
theorem RowV.take {W : World} {B : Nat} {l : List V4} (h : RowV W B l) (n : Nat) : RowV W B (l.take n) := by
  refine ⟨h.1, fun i q hi => h.2 i q ?_⟩
  by_cases hn : i < n
  · rwa [List.getElem?_take_of_lt hn] at hi
  · rw [List.getElem?_take_eq_none (by omega)] at hi; cases hi
/-- A store at place k. -/
theorem RowV.set {W : World} {B : Nat} {l : List V4} (h : RowV W B l) {k : Nat} (hk : k < l.length) (q : V4) :
    RowV ((((W.setCell ⟨B, k * 4, none⟩ (.int .i64 q.a)).setCell ⟨B, k * 4 + 1, none⟩ (.int .i64 q.b)).setCell ⟨B, k * 4 + 2, none⟩ (.int .i64 q.c)).setCell ⟨B, k * 4 + 3, none⟩ (.int .i64 q.d)) B (l.set k q) := by
  refine ⟨by simpa [World.setCell] using h.1, fun i p hi => ?_⟩
  have hfr : ∀ o, ((((W.setCell ⟨B, k * 4, none⟩ (.int .i64 q.a)).setCell ⟨B, k * 4 + 1, none⟩ (.int .i64 q.b)).setCell ⟨B, k * 4 + 2, none⟩ (.int .i64 q.c)).setCell ⟨B, k * 4 + 3, none⟩ (.int .i64 q.d)).frozen? ⟨B, o, none⟩ = W.frozen? ⟨B, o, none⟩ := fun o => by simp only [World.frozen?_setCell]
  have hkk := (h.2 k l[k] (List.getElem?_eq_getElem hk)).1
  have ha : ∀ (X : World) (a b : Nat) (v : Value), a ≠ b → (X.setCell ⟨B, a, none⟩ v).cell? ⟨B, b, none⟩ = X.cell? ⟨B, b, none⟩ := fun X a b v hab => World.cell?_setCell_other _ _ _ _ (by intro e; cases e; exact hab rfl)
  have hs : ∀ (X : World) (a : Nat) (v u : Value), X.cell? ⟨B, a, none⟩ = some u → (X.setCell ⟨B, a, none⟩ v).cell? ⟨B, a, none⟩ = some v := fun X a v u hu => World.cell?_setCell_same _ _ _ (by rw [hu])
  simp only [hfr]
  by_cases hik : k = i
  · subst hik
    rw [List.getElem?_set_self hk] at hi
    cases hi
    obtain ⟨c0, c1, c2, c3⟩ := hkk
    refine ⟨⟨?_, ?_, ?_, ?_⟩, (h.2 k _ (List.getElem?_eq_getElem hk)).2⟩
    · rw [ha _ _ _ _ (by omega), ha _ _ _ _ (by omega), ha _ _ _ _ (by omega)]; exact hs _ _ _ _ c0
    · rw [ha _ _ _ _ (by omega), ha _ _ _ _ (by omega)]; exact hs _ _ _ _ (by rw [ha _ _ _ _ (by omega)]; exact c1)
    · rw [ha _ _ _ _ (by omega)]; exact hs _ _ _ _ (by rw [ha _ _ _ _ (by omega), ha _ _ _ _ (by omega)]; exact c2)
    · exact hs _ _ _ _ (by rw [ha _ _ _ _ (by omega), ha _ _ _ _ (by omega), ha _ _ _ _ (by omega)]; exact c3)
  · rw [List.getElem?_set_ne hik] at hi
    have hx := h.2 i p hi
    refine ⟨?_, hx.2⟩
    obtain ⟨c0, c1, c2, c3⟩ := hx.1
    refine ⟨?_, ?_, ?_, ?_⟩ <;> (rw [ha _ _ _ _ (by omega), ha _ _ _ _ (by omega), ha _ _ _ _ (by omega), ha _ _ _ _ (by omega)]; assumption)

section
variable {Ok : V4 → Prop}
def encS (x : {q : V4 // Ok q}) : List Value := encV x.1
theorem RowV.holds [Inhabited {q : V4 // Ok q}] {W : World} {B : Nat} {d : List {q : V4 // Ok q}} (h : RowV W B (d.map (·.1))) : Sort.HoldsK encS 4 W B 0 d.toArray := by
  intro j hj
  rw [Sort.size_flatK] at hj
  rw [Sort.get_flatK _ _ _ _ hj]
  simp only [List.size_toArray] at hj
  have hi : j / 4 < d.length := by omega
  obtain ⟨⟨h0, h1, h2, h3⟩, f0, f1, f2, f3⟩ := h.2 (j / 4) (d[j / 4]).1 (by rw [List.getElem?_map, List.getElem?_eq_getElem hi]; rfl)
  have e0 : (d.toArray)[j / 4]! = d[j / 4] := by simp [hi]
  rw [e0]
  simp only [Nat.zero_add, id]
  have h4 : j % 4 = 0 ∨ j % 4 = 1 ∨ j % 4 = 2 ∨ j % 4 = 3 := by omega
  rcases h4 with e | e | e | e
  · have ej : j = j / 4 * 4 := by omega
    rw [e]; rw [← ej] at h0 f0; exact ⟨h0, f0⟩
  · have ej : j = j / 4 * 4 + 1 := by omega
    rw [e]; rw [← ej] at h1 f1; exact ⟨h1, f1⟩
  · have ej : j = j / 4 * 4 + 2 := by omega
    rw [e]; rw [← ej] at h2 f2; exact ⟨h2, f2⟩
  · have ej : j = j / 4 * 4 + 3 := by omega
    rw [e]; rw [← ej] at h3 f3; exact ⟨h3, f3⟩
theorem RowV.of_holds [Inhabited {q : V4 // Ok q}] {W : World} {B : Nat} {d : Array {q : V4 // Ok q}} (hB : B < W.heap.size) (h : Sort.HoldsK encS 4 W B 0 d) : RowV W B (d.toList.map (·.1)) := by
  refine ⟨hB, fun i q hi => ?_⟩
  rw [List.getElem?_map, Option.map_eq_some_iff] at hi
  obtain ⟨x, hx, rfl⟩ := hi
  have hid : i < d.size := by have := (List.getElem?_eq_some_iff.1 hx).1; simpa using this
  have e0 : d[i]! = x := by
    rw [getElem!_pos d i hid]
    have := (List.getElem?_eq_some_iff.1 hx).2
    simpa using this
  have hc : ∀ c, c < 4 → W.cell? ⟨B, i * 4 + c, none⟩ = some (encV x.1)[c]! ∧ W.frozen? ⟨B, i * 4 + c, none⟩ = false := fun c hc => by
    have := Sort.HoldsK.cell h hid hc
    rw [e0, Nat.zero_add] at this
    exact this
  exact ⟨⟨(hc 0 (by decide)).1, (hc 1 (by decide)).1, (hc 2 (by decide)).1, (hc 3 (by decide)).1⟩, (hc 0 (by decide)).2, (hc 1 (by decide)).2, (hc 2 (by decide)).2, (hc 3 (by decide)).2⟩
theorem grownBy_sortK [Inhabited {q : V4 // Ok q}] {w : World} {g n : Nat} {os : Array Obj} (d : Array {q : V4 // Ok q}) : w.grownBy (sortWorldK encS 4 w g 0 n d os) (some g) := by
  refine ⟨rfl, rfl, rfl, by simp [sortWorldK, Sort.putRowK], fun k hk hne => ?_⟩
  unfold sortWorldK Sort.putRowK
  rw [Sort.heap_grow_old _ _ (by simpa using hk)]
  have : g ≠ k := fun e => hne (by rw [e])
  simp [Sort.putRow, Sort.mapBlock, Sort.ahead, Array.getElem?_modify, this]

/-- The library's sort of such a row: a permutation of it, in order. -/
theorem sortV_any {ρ : Go.Shelf.Ren} (L : Go.Proofs.SlLaysF0.n6 Tryz.prog ρ) (aE : ∀ w, (isAgg (ρ.t 24)).run Tryz.prog w = .ok true w) (zE : ∀ w, (Go.sizeOf (ρ.t 24)).run Tryz.prog w = .ok 4 w) (q0 : V4) (h0 : Ok q0) (cf : V4 → V4 → Int)
    (hirr : ∀ x, Ok x → ¬ cf x x < 0) (htr : ∀ x y z, Ok x → Ok y → Ok z → cf x y < 0 → cf y z < 0 → cf x z < 0) (hnt : ∀ x y z, Ok x → Ok y → Ok z → ¬ cf x y < 0 → ¬ cf y z < 0 → ¬ cf x z < 0)
    (g : Nat) (cb : Array Value) (B cap : Nat) (l : List V4) (w : World) (hl : ∀ q ∈ l, Ok q) (eg : ∀ args w, (callFunc g args).run Tryz.prog w = .ok (.enter g args) w)
    (hcmp : ∀ W, w.grownBy W (some B) → ∀ x y, Ok x → Ok y → Calls Tryz.prog g (#[.agg #[.int .i64 x.a, .int .i64 x.b, .int .i64 x.c, .int .i64 x.d], .agg #[.int .i64 y.a, .int .i64 y.b, .int .i64 y.c, .int .i64 y.d]] ++ cb) W fun e w' => e = .returned (.int .i64 (cf x y)) ∧ Below W.heap.size W w')
    (hr : RowV w B l) (hn : l.length < 1000000000) :
    Calls Tryz.prog (ρ.f 6) #[.slice (some ⟨B, 0, none⟩) l.length cap, .func (.func g) #[] cb] w fun e w' => e = .returned (.tuple #[]) ∧ ∃ l' : List V4, l'.Perm l ∧ (∀ (i j : Nat) (hi : i < j) (hj : j < l'.length), ¬ cf l'[j] l'[i] < 0) ∧ RowV w' B l' ∧ w.grownBy w' (some B) := by
  haveI : Inhabited {q : V4 // Ok q} := ⟨⟨q0, h0⟩⟩
  obtain ⟨d, hd⟩ : ∃ d : List {q : V4 // Ok q}, d.map (·.1) = l := ⟨l.attach.map fun x => ⟨x.1, hl x.1 x.2⟩, by simp⟩
  have hdl : d.length = l.length := by rw [← hd, List.length_map]
  rw [← hd] at hr
  have hH := hr.holds
  have hcl : Go.Proofs.CmpLays Tryz.prog g cb encS 4 (fun x y : {q : V4 // Ok q} => cf x.1 y.1) B 0 d.toArray.size w := by
    intro m os dk hs x y
    have h := hcmp (sortWorldK encS 4 w B 0 m dk os) (grownBy_sortK dk) x.1 y.1 x.2 y.2
    exact (Calls.drawn h).mono fun e w' hh => by
      obtain ⟨⟨he, hb⟩, hdr⟩ := hh
      refine ⟨he, below_grow hb ?_⟩
      rcases hdr with h1 | h1
      · rw [he] at h1; cases h1
      · exact h1
  have hO : Sort.SWO (Go.Proofs.ltOf fun x y : {q : V4 // Ok q} => cf x.1 y.1) := {
    irrefl := fun x => decide_eq_false (hirr x.1 x.2)
    trans := fun x y z h1 h2 => decide_eq_true (htr x.1 y.1 z.1 x.2 y.2 z.2 (of_decide_eq_true h1) (of_decide_eq_true h2))
    ntrans := fun x y z h1 h2 => decide_eq_false (hnt x.1 y.1 z.1 x.2 y.2 z.2 (of_decide_eq_false h1) (of_decide_eq_false h2)) }
  have hcon := Go.Proofs.AnyQ.slices_SortFunc L 4 aE zE encS (fun _ => rfl) (fun x v hv => by
    have hv' : v ∈ encV x.1 := hv
    unfold encV at hv'
    simp at hv'
    rcases hv' with rfl | rfl | rfl | rfl <;> rfl) (fun x y : {q : V4 // Ok q} => cf x.1 y.1) hO g cb B 0 cap d.toArray w eg hcl hH hr.1 (by simp; omega)
  rw [List.size_toArray, hdl] at hcon
  refine hcon.mono fun e w' hh => ?_
  obtain ⟨he, d', n, os, hp, hs, rfl⟩ := hh
  have hsz : d'.size = d.length := by have := hp.1; simpa using this
  refine ⟨he, d'.toList.map (·.1), ?_, ?_, ?_, grownBy_sortK d'⟩
  · have h3 := hp.2.2
    rw [← hdl] at h3
    have e1 : d'.extract 0 d.length = d' := by rw [← hsz]; simp
    have e2 : (d.toArray).extract 0 d.length = d.toArray := by simp
    rw [e1, e2] at h3
    rw [← hd]
    exact h3.map _
  · intro i j hi hj
    have hj' : j < d'.size := by simpa using hj
    have h := hs i j (Nat.zero_le _) hi (by rw [← hdl, ← hsz]; exact hj')
    rw [getElem!_pos d' j hj', getElem!_pos d' i (by omega)] at h
    have h2 := of_decide_eq_false h
    simpa using h2
  · refine RowV.of_holds ?_ (holdsK_sortWorldK_c encS 4 w B 0 d.toArray d' n os hH hr.1 (by rw [hsz]; simp))
    exact Nat.lt_of_lt_of_le hr.1 (grownBy_sortK (w := w) d').size
end

end Go.Proofs.YtimkeblcdodfmaaGreat

namespace Go.Proofs.YtimkeblcdodfmaaGreat
open Go.RowKit

theorem gB_refl (w : World) (r : Option Nat) : w.grownBy w r := ⟨rfl, rfl, rfl, Nat.le_refl _, fun _ _ _ => rfl⟩
theorem gB_trans {a b c : World} {r : Option Nat} (h : a.grownBy b r) (k : b.grownBy c r) : a.grownBy c r :=
  ⟨k.os.trans h.os, k.tape.trans h.tape, k.output.trans h.output, Nat.le_trans h.size k.size, fun i hi hne => (k.block i (Nat.lt_of_lt_of_le hi h.size) hne).trans (h.block i hi hne)⟩
theorem gB_below {a w w' : World} {r : Option Nat} (h : a.grownBy w r) (hb : Below w.heap.size w w') : a.grownBy w' r :=
  gB_trans h ⟨hb.os, hb.tape, hb.output, hb.size, fun k hk _ => hb.block k hk⟩
theorem gB_setCell {a w : World} {B : Nat} (h : a.grownBy w (some B)) (o : Nat) (v : Value) : a.grownBy (w.setCell ⟨B, o, none⟩ v) (some B) :=
  gB_trans h ⟨rfl, rfl, rfl, by simp [World.setCell], fun k hk hne => Below.heap_setCell _ _ _ _ (fun e => hne (by rw [e]))⟩
theorem gB_setCells {a : World} {B : Nat} : ∀ (vs : List Value) (o : Nat) (w : World), a.grownBy w (some B) → a.grownBy (w.setCells B o vs) (some B)
  | [], _, _, h => h
  | v :: r, o, w, h => gB_setCells r (o + 1) _ (gB_setCell h o v)
/-- What has turned lies among the call's own blocks. -/
theorem gB_own {a w : World} {B N : Nat} (h : a.grownBy w (some B)) (hN : N ≤ a.heap.size) (hB : N ≤ B) : Below N a w :=
  ⟨h.os, h.tape, h.output, h.size, fun k hk => h.block k (by omega) (fun e => by cases e; omega)⟩

/-- Of the first m those that are not equal to the one before them. -/
def keptV (l : List V4) : Nat → List V4
  | 0 => []
  | m + 1 => match l[m]? with
    | none => keptV l m
    | some q => if m ≠ 0 ∧ l[m - 1]? = some q then keptV l m else keptV l m ++ [q]
theorem keptV_one (l : List V4) : keptV l 1 = l.take 1 := by
  cases l with
  | nil => rfl
  | cons x r => simp [keptV]
theorem keptV_same {l : List V4} {m : Nat} {q : V4} (h : l[m + 1]? = some q) (h' : l[m]? = some q) : keptV l (m + 1 + 1) = keptV l (m + 1) := by
  rw [keptV, h]; simp [h']
theorem keptV_other {l : List V4} {m : Nat} {q p : V4} (h : l[m + 1]? = some q) (h' : l[m]? = some p) (hne : q ≠ p) : keptV l (m + 1 + 1) = keptV l (m + 1) ++ [q] := by
  rw [keptV, h]; simp [h', Ne.symm hne]
theorem keptV_few {l : List V4} {n : Nat} (hl : l.length = n) (hn : n < 2) : keptV l n = l := by
  match l, n, hl, hn with
  | [], _, rfl, _ => rfl
  | [x], _, rfl, _ => simp [keptV]
end Go.Proofs.YtimkeblcdodfmaaGreat
