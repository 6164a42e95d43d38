/-
  The reference of planes: four integers in lowest terms; The reference's Through: the determinants of three points' coordinates, plain; The reference of planes: sizes, divisors, whether planes are right; The reference of planes: whether planes are right; The reference of planes: Make.
-/
import Derived.Test.YthdhakpmhndbfaaK1
import Derived.Test.YthdhakpmhndbfaaK2
import Derived.Test.YthdhakpmhndbfaaK3
import Derived.Test.YthdhakpmhndbfaaK4
import Derived.Test.YthdhakpmhndbfaaK5
import Derived.Test.YthdhakpmhndbfaaK6
import Derived.Test.YthdhakpmhndbfaaK7
import Derived.Test.YthdhakpmhndbfaaK8
import Derived.Test.YthdhakpmhndbfaaK9
import Derived.Test.YthdhakpmhndbfaaK10
import Derived.Test.YthdhakpmhndbfaaK11
import Derived.Test.YthdhakpmhndbfaaK12
import Derived.Test.YthdhakpmhndbfaaK13
import Derived.Test.YthdhakpmhndbfaaK14
import Derived.Test.YthdhakpmhndbfaaK15
namespace Go.Proofs.Ythdhakpmhndbfaa
open Go.RowKit Go.Shelf
attribute [local go_sem] Oper.semAt_some run_field1 run_field0

/-- An integer of the reference. -/
def IsN (w : World) (v : Value) (z : Int) : Prop := ∃ neg p n c xs, v = .agg #[.bool neg, .slice p n c] ∧ RIs w neg p n c xs z ∧ n ≤ 100000
theorem IsN.below {w w' : World} {v : Value} {z : Int} (h : IsN w v z) (hb : Below w.heap.size w w') : IsN w' v z := by
  obtain ⟨neg, p, n, c, xs, e, hr, hn⟩ := h; exact ⟨neg, p, n, c, xs, e, hr.below hb, hn⟩

def IsQ (w : World) (v : Value) (z : Int) : Prop := ∃ neg p n c xs, v = .agg #[.bool neg, .slice p n c] ∧ RIs w neg p n c xs z
def IsS (v : Value) : Prop := ∃ neg p n c, v = .agg #[.bool neg, .slice p n c]
def IsD (w : World) (v : Value) (x y : Int) : Prop := ∃ a1 p1 n1 c1 xs1 a2 p2 n2 c2 xs2, v = .tuple #[.agg #[.bool a1, .slice p1 n1 c1], .agg #[.bool a2, .slice p2 n2 c2]] ∧ RIs w a1 p1 n1 c1 xs1 x ∧ RIs w a2 p2 n2 c2 xs2 y

theorem num8_at {W : World} {B : Nat} {a : Nat → Bool} {p : Nat → Option Addr} {n c : Nat → Nat} {t : TypeId} (h : Blk W B #[.bool (a 0), .slice (p 0) (n 0) (c 0), .bool (a 1), .slice (p 1) (n 1) (c 1), .bool (a 2), .slice (p 2) (n 2) (c 2), .bool (a 3), .slice (p 3) (n 3) (c 3)] t) {i : Nat} (hi : i < 4) : W.cell? ⟨B, i * 2, none⟩ = some (.bool (a i)) ∧ W.cell? ⟨B, i * 2 + 1, none⟩ = some (.slice (p i) (n i) (c i)) := by
  have h4 : i = 0 ∨ i = 1 ∨ i = 2 ∨ i = 3 := by omega
  rcases h4 with rfl | rfl | rfl | rfl <;> exact ⟨h.cell rfl, h.cell rfl⟩
theorem int4_set {r : Nat → Int} {i : Nat} (hi : i < 4) (v : Int) : (#[.int .i64 (r 0), .int .i64 (r 1), .int .i64 (r 2), .int .i64 (r 3)] : Array Value).setIfInBounds i (.int .i64 v) = #[.int .i64 (if 0 = i then v else r 0), .int .i64 (if 1 = i then v else r 1), .int .i64 (if 2 = i then v else r 2), .int .i64 (if 3 = i then v else r 3)] := by
  have h4 : i = 0 ∨ i = 1 ∨ i = 2 ∨ i = 3 := by omega
  rcases h4 with rfl | rfl | rfl | rfl <;> rfl
theorem int4_at {W : World} {B : Nat} {r : Nat → Int} {t : TypeId} (h : Blk W B #[.int .i64 (r 0), .int .i64 (r 1), .int .i64 (r 2), .int .i64 (r 3)] t) {i : Nat} (hi : i < 4) : W.cell? ⟨B, i, none⟩ = some (.int .i64 (r i)) := by
  have h4 : i = 0 ∨ i = 1 ∨ i = 2 ∨ i = 3 := by omega
  rcases h4 with rfl | rfl | rfl | rfl <;> exact h.cell rfl

theorem RIs.setZ {W : World} {neg : Bool} {p : Option Addr} {n c : Nat} {xs : List Nat} {z : Int} (h : RIs W neg p n c xs z) {b : Nat} {T : TypeId} (hB : Blk W b #[.bool false, .slice none 0 0] T) (v0 v1 : Value) : RIs ((W.setCell ⟨b, 0, none⟩ v0).setCell ⟨b, 1, none⟩ v1) neg p n c xs z := by
  refine (h.setAt (hB.cell (i := 0) rfl) (by intro x e; cases e) v0).setAt ((hB.set_eq 0 v0 rfl).cell (i := 1) rfl) (by intro x e; cases e) v1

def lowZ (z : Nat → Int) (i : Nat) : Int := low4 (z 0) (z 1) (z 2) (z 3) (z i)
def okL (z : Nat → Int) : Bool := inI64 (lowZ z 0) && (inI64 (lowZ z 1) && (inI64 (lowZ z 2) && inI64 (lowZ z 3)))
theorem okL_true {z : Nat → Int} (h : ∀ j, j < 4 → inI64 (lowZ z j) = true) : okL z = true := by
  unfold okL; rw [h 0 (by decide), h 1 (by decide), h 2 (by decide), h 3 (by decide)]; rfl
theorem okL_false {z : Nat → Int} {i : Nat} (hi : i < 4) (h : inI64 (lowZ z i) = false) : okL z = false := by
  have h4 : i = 0 ∨ i = 1 ∨ i = 2 ∨ i = 3 := by omega
  unfold okL
  rcases h4 with rfl | rfl | rfl | rfl <;> simp [h]

set_option maxRecDepth 100000 in
set_option maxHeartbeats 8000000 in
theorem reduced_any (a : Nat → Bool) (p : Nat → Option Addr) (n c : Nat → Nat) (xs : Nat → List Nat) (z : Nat → Int) (w : World) (hz : ∀ i, i < 4 → RIs w (a i) (p i) (n i) (c i) (xs i) (z i)) (hn : ∀ i, i < 4 → n i ≤ 100000) (h0 : ¬ (z 0 = 0 ∧ z 1 = 0 ∧ z 2 = 0)) :
    Calls Try.prog 48 #[.agg #[.bool (a 0), .slice (p 0) (n 0) (c 0), .bool (a 1), .slice (p 1) (n 1) (c 1), .bool (a 2), .slice (p 2) (n 2) (c 2), .bool (a 3), .slice (p 3) (n 3) (c 3)]] w fun e w' => ∃ q : V4, e = .returned (.tuple #[.agg #[.int .i64 q.a, .int .i64 q.b, .int .i64 q.c, .int .i64 q.d], .bool (okL z)]) ∧ (okL z = true → q = ⟨lowZ z 0, lowZ z 1, lowZ z 2, lowZ z 3⟩) ∧ Below w.heap.size w w' := by
  obtain ⟨w1, hw1⟩ : ∃ w1, ((w.alloc (.cells #[.bool (a 0), .slice (p 0) (n 0) (c 0), .bool (a 1), .slice (p 1) (n 1) (c 1), .bool (a 2), .slice (p 2) (n 2) (c 2), .bool (a 3), .slice (p 3) (n 3) (c 3)] 84)).alloc (.cells #[.int .i64 0, .int .i64 0, .int .i64 0, .int .i64 0] 22)) = w1 := ⟨_, rfl⟩
  have hb1 : Below w.heap.size w w1 := by rw [← hw1]; exact bw2 w _ _
  have k0 : Blk w1 w.heap.size #[.bool (a 0), .slice (p 0) (n 0) (c 0), .bool (a 1), .slice (p 1) (n 1) (c 1), .bool (a 2), .slice (p 2) (n 2) (c 2), .bool (a 3), .slice (p 3) (n 3) (c 3)] 84 := by rw [← hw1]; exact (Blk.new w _ _).alloc _
  have kR : Blk w1 (w.heap.size + 1) #[.int .i64 0, .int .i64 0, .int .i64 0, .int .i64 0] 22 := by rw [← hw1]; exact Blk.new' _ _ _ (by simp)
  obtain ⟨G, hG⟩ : ∃ G, g4 (z 0) (z 1) (z 2) (z 3) = G := ⟨_, rfl⟩
  have hgg : Int.gcd ((Int.gcd (z 0) (z 1) : Nat) : Int) ((Int.gcd (z 2) (z 3) : Nat) : Int) = G := hG
  have hG0 : (G : Int) ≠ 0 := by have := g4_pos (d := z 3) h0; omega
  have hlow : ∀ i, lowZ z i = z i / (G : Int) := fun i => by unfold lowZ low4; rw [hG]
  obtain ⟨ok, hok⟩ : ∃ ok, okL z = ok := ⟨_, rfl⟩
  have hT : (∀ j, j < 4 → inI64 (z j / (G : Int)) = true) → ok = true := fun h => by rw [← hok]; exact okL_true (fun j hj => by rw [hlow]; exact h j hj)
  have hF : ∀ i, i < 4 → inI64 (z i / (G : Int)) = false → ok = false := fun i hi h => by rw [← hok]; exact okL_false hi (by rw [hlow]; exact h)
  rw [hok, hlow, hlow, hlow, hlow]
  have HN := Lib.hid hn
  have HZ := Lib.hid hz
  have HG := Lib.hid hgg
  have HG0 := Lib.hid hG0
  have HT := Lib.hid hT
  have HF := Lib.hid hF
  clear hn hz hgg hG0 hT hF hok hlow hG h0
  go_enter Try.func48, Try.ntmps48
  go_upto_region 1 with fail
  go_cut [4] from 11 to 21 (fun v4 wx => ∃ b gn gp gl gc gx, v4 = .pointer (some ⟨b, 0, none⟩) ∧ w1.heap.size ≤ b ∧ Blk wx b #[.bool gn, .slice gp gl gc] 82 ∧ RIs wx gn gp gl gc gx (G : Int) ∧ gl ≤ 100000 ∧ Below w1.heap.size w1 wx)
  case first =>
    refine wp_region_kn 12 (fun ix => ix != 4 && ix != 9 && ix != 10 && ix != 11) (fun ix => match ix with | 0 => .pointer (some ⟨w.heap.size, 0, none⟩) | 1 => .agg #[.bool (a 0), .slice (p 0) (n 0) (c 0)] | 2 => .pointer (some ⟨w.heap.size, 2, none⟩) | 3 => .agg #[.bool (a 1), .slice (p 1) (n 1) (c 1)] | 5 => .pointer (some ⟨w.heap.size, 4, none⟩) | 6 => .agg #[.bool (a 2), .slice (p 2) (n 2) (c 2)] | 7 => .pointer (some ⟨w.heap.size, 6, none⟩) | _ => .agg #[.bool (a 3), .slice (p 3) (n 3) (c 3)]) (fun ix v w => match ix with | 4 => IsN w v ((Int.gcd (z 0) (z 1) : Nat) : Int) | 9 => IsN w v ((Int.gcd (z 2) (z 3) : Nat) : Int) | 10 => IsN w v (G : Int) | _ => ∃ b, v = .pointer (some ⟨b, 0, none⟩) ∧ w1.heap.size ≤ b ∧ Blk w b #[.bool false, .slice none 0 0] 82) (by kernel_rfl) (by kernel_rfl) (by kernel_rfl) (by decide) ?_ ?_ ?_
    · intro ix v w8 w9 hb9 h
      have hd : (∃ b, v = .pointer (some ⟨b, 0, none⟩) ∧ w1.heap.size ≤ b ∧ Blk w8 b #[.bool false, .slice none 0 0] 82) → ∃ b, v = .pointer (some ⟨b, 0, none⟩) ∧ w1.heap.size ≤ b ∧ Blk w9 b #[.bool false, .slice none 0 0] 82 := fun ⟨b, e, h1, h2⟩ => ⟨b, e, h1, h2.kept hb9⟩
      by_cases i4 : ix = 4
      · subst i4; exact IsN.below h hb9
      · by_cases i9 : ix = 9
        · subst i9; exact IsN.below h hb9
        · by_cases i10 : ix = 10
          · subst i10; exact IsN.below h hb9
          · rcases ix with _ | _ | _ | _ | _ | _ | _ | _ | _ | _ | _ | ix
            all_goals first
              | exact hd h
              | (exfalso; omega)
    · rintro ix hx f ww hS hd
      have ka := k0.kept hS
      have e0_ := ka.cell (i := 0) rfl
      have e1_ := ka.cell (i := 1) rfl
      have e2_ := ka.cell (i := 2) rfl
      have e3_ := ka.cell (i := 3) rfl
      have e4_ := ka.cell (i := 4) rfl
      have e5_ := ka.cell (i := 5) rfl
      have e6_ := ka.cell (i := 6) rfl
      have e7_ := ka.cell (i := 7) rfl
      have hbw := hb1.trans (hS.mono hb1.size)
      rcases ix with _ | _ | _ | _ | _ | _ | _ | _ | _ | _ | _ | _ | ix
      · refine wpOp_list rfl ?_
        simp only [tmOf, putAll, List.map_cons, List.map_nil, List.setIfInBounds_toArray, List.set_cons_zero, List.set_cons_succ]
        go_wp2
        refine ⟨.pointer (some ⟨w.heap.size, 0, none⟩), ?_⟩
        simp [upd, Below.refl]
      · have g0 : f 0 = .pointer (some ⟨w.heap.size, 0, none⟩) := hd 0 (by kernel_rfl)
        refine wpOp_list rfl ?_
        simp only [tmOf, putAll, List.map_cons, List.map_nil, List.setIfInBounds_toArray, List.set_cons_zero, List.set_cons_succ]
        go_wp2
        refine ⟨.agg #[.bool (a 0), .slice (p 0) (n 0) (c 0)], ?_⟩
        simp [upd, g0, Below.refl]
      · refine wpOp_list rfl ?_
        simp only [tmOf, putAll, List.map_cons, List.map_nil, List.setIfInBounds_toArray, List.set_cons_zero, List.set_cons_succ]
        go_wp2
        refine ⟨.pointer (some ⟨w.heap.size, 2, none⟩), ?_⟩
        simp [upd, Below.refl]
      · have g2 : f 2 = .pointer (some ⟨w.heap.size, 2, none⟩) := hd 2 (by kernel_rfl)
        refine wpOp_list rfl ?_
        simp only [tmOf, putAll, List.map_cons, List.map_nil, List.setIfInBounds_toArray, List.set_cons_zero, List.set_cons_succ]
        go_wp2
        refine ⟨.agg #[.bool (a 1), .slice (p 1) (n 1) (c 1)], ?_⟩
        simp [upd, g2, Below.refl]
      · have g1 : f 1 = .agg #[.bool (a 0), .slice (p 0) (n 0) (c 0)] := hd 1 (by kernel_rfl)
        have g3 : f 3 = .agg #[.bool (a 1), .slice (p 1) (n 1) (c 1)] := hd 3 (by kernel_rfl)
        refine wpOp_list rfl ?_
        simp only [tmOf, putAll, List.map_cons, List.map_nil, List.setIfInBounds_toArray, List.set_cons_zero, List.set_cons_succ]
        go_wp2_with fail
        refine (rgcd_any _ _ _ _ _ _ _ _ (xs 0) (xs 1) _ _ _ (HN.out 0 (by decide)) (HN.out 1 (by decide)) ((HZ.out 0 (by decide)).below hbw) ((HZ.out 1 (by decide)).below hbw)).mono ?_
        rintro e' wf ⟨nf, pf, lf, cf, xf, rfl, hzf, hnf, hbf⟩
        go_wp2_with fail
        first
          | exact ⟨.agg #[.bool nf, .slice pf lf cf], by simp [upd, g1, g3], ⟨nf, pf, lf, cf, xf, rfl, hzf, hnf⟩, hbf⟩
          | exact ⟨.agg #[.bool nf, .slice pf lf cf], by simp [upd, g1, g3], ⟨nf, pf, lf, cf, xf, rfl, hzf, hnf⟩⟩
      · refine wpOp_list rfl ?_
        simp only [tmOf, putAll, List.map_cons, List.map_nil, List.setIfInBounds_toArray, List.set_cons_zero, List.set_cons_succ]
        go_wp2
        refine ⟨.pointer (some ⟨w.heap.size, 4, none⟩), ?_⟩
        simp [upd, Below.refl]
      · have g5 : f 5 = .pointer (some ⟨w.heap.size, 4, none⟩) := hd 5 (by kernel_rfl)
        refine wpOp_list rfl ?_
        simp only [tmOf, putAll, List.map_cons, List.map_nil, List.setIfInBounds_toArray, List.set_cons_zero, List.set_cons_succ]
        go_wp2
        refine ⟨.agg #[.bool (a 2), .slice (p 2) (n 2) (c 2)], ?_⟩
        simp [upd, g5, Below.refl]
      · refine wpOp_list rfl ?_
        simp only [tmOf, putAll, List.map_cons, List.map_nil, List.setIfInBounds_toArray, List.set_cons_zero, List.set_cons_succ]
        go_wp2
        refine ⟨.pointer (some ⟨w.heap.size, 6, none⟩), ?_⟩
        simp [upd, Below.refl]
      · have g7 : f 7 = .pointer (some ⟨w.heap.size, 6, none⟩) := hd 7 (by kernel_rfl)
        refine wpOp_list rfl ?_
        simp only [tmOf, putAll, List.map_cons, List.map_nil, List.setIfInBounds_toArray, List.set_cons_zero, List.set_cons_succ]
        go_wp2
        refine ⟨.agg #[.bool (a 3), .slice (p 3) (n 3) (c 3)], ?_⟩
        simp [upd, g7, Below.refl]
      · have g6 : f 6 = .agg #[.bool (a 2), .slice (p 2) (n 2) (c 2)] := hd 6 (by kernel_rfl)
        have g8 : f 8 = .agg #[.bool (a 3), .slice (p 3) (n 3) (c 3)] := hd 8 (by kernel_rfl)
        refine wpOp_list rfl ?_
        simp only [tmOf, putAll, List.map_cons, List.map_nil, List.setIfInBounds_toArray, List.set_cons_zero, List.set_cons_succ]
        go_wp2_with fail
        refine (rgcd_any _ _ _ _ _ _ _ _ (xs 2) (xs 3) _ _ _ (HN.out 2 (by decide)) (HN.out 3 (by decide)) ((HZ.out 2 (by decide)).below hbw) ((HZ.out 3 (by decide)).below hbw)).mono ?_
        rintro e' wf ⟨nf, pf, lf, cf, xf, rfl, hzf, hnf, hbf⟩
        go_wp2_with fail
        first
          | exact ⟨.agg #[.bool nf, .slice pf lf cf], by simp [upd, g6, g8], ⟨nf, pf, lf, cf, xf, rfl, hzf, hnf⟩, hbf⟩
          | exact ⟨.agg #[.bool nf, .slice pf lf cf], by simp [upd, g6, g8], ⟨nf, pf, lf, cf, xf, rfl, hzf, hnf⟩⟩
      · obtain ⟨na, pa, la, ca, xa, g4, hza, hna⟩ : IsN ww (f 4) ((Int.gcd (z 0) (z 1) : Nat) : Int) := hd 4 (by kernel_rfl)
        obtain ⟨nb, pb, lb, cb, xb, g9, hzb, hnb⟩ : IsN ww (f 9) ((Int.gcd (z 2) (z 3) : Nat) : Int) := hd 9 (by kernel_rfl)
        refine wpOp_list rfl ?_
        simp only [tmOf, putAll, List.map_cons, List.map_nil, List.setIfInBounds_toArray, List.set_cons_zero, List.set_cons_succ]
        have hgg := rgcd_any _ _ _ _ _ _ _ _ xa xb _ _ ww hna hnb hza hzb
        rw [HG.out] at hgg
        have HGG := Lib.hid hgg
        clear hgg
        go_wp2_with fail
        refine (HGG.out).mono ?_
        rintro e' wf ⟨nf, pf, lf, cf, xf, rfl, hzf, hnf, hbf⟩
        go_wp2_with fail
        first
          | exact ⟨.agg #[.bool nf, .slice pf lf cf], by simp [upd, g4, g9], ⟨nf, pf, lf, cf, xf, rfl, hzf, hnf⟩, hbf⟩
          | exact ⟨.agg #[.bool nf, .slice pf lf cf], by simp [upd, g4, g9], ⟨nf, pf, lf, cf, xf, rfl, hzf, hnf⟩⟩
      · refine wpOp_list rfl ?_
        simp only [tmOf, putAll, List.map_cons, List.map_nil, List.setIfInBounds_toArray, List.set_cons_zero, List.set_cons_succ]
        go_wp2
        exact ⟨.pointer (some ⟨ww.heap.size, 0, none⟩), by simp [upd], ⟨_, rfl, hS.size, Blk.new _ _ _⟩, (Below.refl _ ww).alloc (Nat.le_refl _) _⟩
      · omega
    · rintro f ww hS hd
      obtain ⟨nc, pc, lc, cc, xc, g10, hzc, hnc⟩ : IsN ww (f 10) (G : Int) := hd 10 (by decide)
      obtain ⟨b4, g11, hb4, hk4⟩ : ∃ b, f 11 = .pointer (some ⟨b, 0, none⟩) ∧ w1.heap.size ≤ b ∧ Blk ww b #[.bool false, .slice none 0 0] 82 := hd 11 (by decide)
      have d0 := hk4.cell (i := 0) rfl
      have d1 := hk4.cell (i := 1) rfl
      have q0 := hk4.frozen 0
      have q1 := hk4.frozen 1
      simp only [seqW, tmOf, putAll, List.map_cons, List.map_nil, List.setIfInBounds_toArray, List.set_cons_zero, List.set_cons_succ, List.length_cons, List.length_nil]
      refine wpOp_list rfl ?_
      go_wp2
      go_meet
      case rel => exact ⟨b4, nc, pc, lc, cc, xc, rfl, hb4, (hk4.set_eq 0 (.bool nc) rfl).set_eq 1 (.slice pc lc cc) rfl, hzc.setBox hk4 nc (.slice pc lc cc), hnc, (hS.setCell (p := ⟨b4, 0, none⟩) hb4 _).setCell (p := ⟨b4, 1, none⟩) hb4 _⟩
  case rest =>
  obtain ⟨b, gn, gp, gl, gc, gx, rfl, hbN, kb, hgn, hgl, hb2⟩ := hcut
  have k0 := k0.kept hb2
  have kR := kR.kept hb2
  have hbW := hb1.trans (hb2.mono hb1.size)
  have HGN := Lib.hid hgn
  clear hgn hb1 hb2 hw1
  have hN1 : w.heap.size + 1 < wc.heap.size := kR.lt
  have hbL : b < wc.heap.size := kb.lt
  obtain ⟨w3, hw3⟩ : ∃ w3, wc.alloc (.cells #[.int .i64 0, .int .i64 0, .int .i64 0, .int .i64 0] 22) = w3 := ⟨_, rfl⟩
  have hb3 : Below wc.heap.size wc w3 := by rw [← hw3]; exact (Below.refl _ _).alloc (Nat.le_refl _) _
  have kO : Blk w3 wc.heap.size #[.int .i64 0, .int .i64 0, .int .i64 0, .int .i64 0] 22 := by rw [← hw3]; exact Blk.new _ _ _
  go_wp2_with fail
  go_loopg [6] 4 (fun gk v6 wr => ∃ (i : Nat) (r : Nat → Int), i ≤ 4 ∧ gk = 4 - i ∧ v6 = .int .i64 (i : Int) ∧ Hid (∀ j, j < i → inI64 (z j / (G : Int)) = true ∧ r j = z j / (G : Int)) ∧ Blk wr wc.heap.size #[.int .i64 (r 0), .int .i64 (r 1), .int .i64 (r 2), .int .i64 (r 3)] 22 ∧ Below wc.heap.size wc wr)
  case atStart => exact ⟨0, fun _ => 0, by decide, rfl, rfl, fun j hj => absurd hj (by omega), kO, hb3⟩
  case round =>
    obtain ⟨i, r, hi, hgk, rfl, HI, kO, hbx⟩ := hrel
    have HGK := Lib.hid hgk
    clear hgk hb3 hw3
    by_cases hlt : i < 4
    · have hlti : (i : Int) < 4 := by omega
      go_upto_region 6 with fail
      go_cut [7, 8] from 26 to 33 (fun v7 v8 wx => ∃ b7 b8 a1 p1 n1 c1 xs1, v7 = .pointer (some ⟨b7, 0, none⟩) ∧ v8 = .pointer (some ⟨b8, 0, none⟩) ∧ Blk wx b7 #[.bool a1, .slice p1 n1 c1] 82 ∧ RIs wx a1 p1 n1 c1 xs1 (z i / (G : Int)) ∧ Below wr.heap.size wr wx)
      case first =>
        refine wp_region_def2R 8 6 7 (fun ix v u => match ix with | 0 => v = .int .i64 (i : Int) | 1 => v = .pointer (some ⟨w.heap.size, i * 2, none⟩) | 2 => v = .agg #[.bool (a i), .slice (p i) (n i) (c i)] | 3 => v = .agg #[.bool gn, .slice gp gl gc] | 4 => IsD u v (z i / (G : Int)) (z i % (G : Int)) | 5 => IsD u v (z i / (G : Int)) (z i % (G : Int)) | 6 => IsQ u v (z i / (G : Int)) | _ => IsS v) #[.bool false, .slice none 0 0] 82 (by kernel_rfl) (by kernel_rfl) rfl (by decide) (by decide) (by kernel_rfl) (by kernel_rfl) ?_ ?_ (by kernel_rfl) (by kernel_rfl) ?_ ?_ ?_ ?_ ?_
        · intro ix v w8 w9 hb9 h
          rcases ix with _ | _ | _ | _ | _ | _ | _ | ix
          · exact h
          · exact h
          · exact h
          · exact h
          · obtain ⟨a1, p1, n1, c1, xs1, a2, p2, n2, c2, xs2, e, h1, h2⟩ := h; exact ⟨a1, p1, n1, c1, xs1, a2, p2, n2, c2, xs2, e, h1.below hb9, h2.below hb9⟩
          · obtain ⟨a1, p1, n1, c1, xs1, a2, p2, n2, c2, xs2, e, h1, h2⟩ := h; exact ⟨a1, p1, n1, c1, xs1, a2, p2, n2, c2, xs2, e, h1.below hb9, h2.below hb9⟩
          · obtain ⟨a1, p1, n1, c1, xs1, e, h1⟩ := h; exact ⟨a1, p1, n1, c1, xs1, e, h1.below hb9⟩
          · exact h
        · intro ix v w8 b' v0 v1 hB h
          rcases ix with _ | _ | _ | _ | _ | _ | _ | ix
          · exact h
          · exact h
          · exact h
          · exact h
          · obtain ⟨a1, p1, n1, c1, xs1, a2, p2, n2, c2, xs2, e, h1, h2⟩ := h; exact ⟨a1, p1, n1, c1, xs1, a2, p2, n2, c2, xs2, e, h1.setZ hB v0 v1, h2.setZ hB v0 v1⟩
          · obtain ⟨a1, p1, n1, c1, xs1, a2, p2, n2, c2, xs2, e, h1, h2⟩ := h; exact ⟨a1, p1, n1, c1, xs1, a2, p2, n2, c2, xs2, e, h1.setZ hB v0 v1, h2.setZ hB v0 v1⟩
          · obtain ⟨a1, p1, n1, c1, xs1, e, h1⟩ := h; exact ⟨a1, p1, n1, c1, xs1, e, h1.setZ hB v0 v1⟩
          · exact h
        · rintro ix hx f ww hS hd
          have hbw := hbx.trans (hS.mono hbx.size)
          have ka := k0.kept hbw
          obtain ⟨e0_, e1_⟩ := num8_at ka hlt
          have kg_ := kb.kept hbw
          have e2_ := kg_.cell (i := 0) rfl
          have e3_ := kg_.cell (i := 1) rfl
          rcases ix with _ | _ | _ | _ | _ | _ | _ | _ | ix
          · refine wpOp_list rfl ?_
            simp only [tmOf, putAll, List.map_cons, List.map_nil, List.setIfInBounds_toArray, List.set_cons_zero, List.set_cons_succ]
            go_wp2
            refine ⟨.int .i64 (i : Int), ?_⟩
            simp [upd, Below.refl]
          · have g0 : f 0 = .int .i64 (i : Int) := hd 0 (by decide) (by kernel_rfl)
            refine wpOp_list rfl ?_
            simp only [tmOf, putAll, List.map_cons, List.map_nil, List.setIfInBounds_toArray, List.set_cons_zero, List.set_cons_succ]
            go_wp2
            refine ⟨.pointer (some ⟨w.heap.size, i * 2, none⟩), ?_⟩
            simp [upd, g0, Below.refl]
          · have g1 : f 1 = .pointer (some ⟨w.heap.size, i * 2, none⟩) := hd 1 (by decide) (by kernel_rfl)
            refine wpOp_list rfl ?_
            simp only [tmOf, putAll, List.map_cons, List.map_nil, List.setIfInBounds_toArray, List.set_cons_zero, List.set_cons_succ]
            go_wp2
            refine ⟨.agg #[.bool (a i), .slice (p i) (n i) (c i)], ?_⟩
            simp [upd, g1, Below.refl]
          · refine wpOp_list rfl ?_
            simp only [tmOf, putAll, List.map_cons, List.map_nil, List.setIfInBounds_toArray, List.set_cons_zero, List.set_cons_succ]
            go_wp2
            refine ⟨.agg #[.bool gn, .slice gp gl gc], ?_⟩
            simp [upd, Below.refl]
          · have g2 : f 2 = .agg #[.bool (a i), .slice (p i) (n i) (c i)] := hd 2 (by decide) (by kernel_rfl)
            have g3 : f 3 = .agg #[.bool gn, .slice gp gl gc] := hd 3 (by decide) (by kernel_rfl)
            refine wpOp_list rfl ?_
            simp only [tmOf, putAll, List.map_cons, List.map_nil, List.setIfInBounds_toArray, List.set_cons_zero, List.set_cons_succ]
            go_wp2_with fail
            refine (rdiv_any _ _ _ _ _ _ _ _ (xs i) gx _ _ _ (HN.out i hlt) hgl ((HZ.out i hlt).below (hbW.trans (hbw.mono hbW.size))) (HGN.out.below hbw) HG0.out).mono ?_
            rintro e' wf ⟨a1, p1, n1, c1, xs1, a2, p2, n2, c2, xs2, rfl, hq1, hq2, hbf⟩
            go_wp2_with fail
            first
              | exact ⟨_, by simp [upd, g2, g3]; rfl, ⟨a1, p1, n1, c1, xs1, a2, p2, n2, c2, xs2, rfl, hq1, hq2⟩, hbf⟩
              | exact ⟨.tuple #[.agg #[.bool a1, .slice p1 n1 c1], .agg #[.bool a2, .slice p2 n2 c2]], by simp [upd, g2, g3], ⟨a1, p1, n1, c1, xs1, a2, p2, n2, c2, xs2, rfl, hq1, hq2⟩⟩
              | exact ⟨.tuple #[.agg #[.bool a1, .slice p1 n1 c1], .agg #[.bool a2, .slice p2 n2 c2]], by simp [upd, g2, g3], ⟨a1, p1, n1, c1, xs1, a2, p2, n2, c2, xs2, rfl, hq1, hq2⟩, hbf⟩
          · obtain ⟨a1, p1, n1, c1, xs1, a2, p2, n2, c2, xs2, g4, hq1, hq2⟩ : ∃ a1 p1 n1 c1 xs1 a2 p2 n2 c2 xs2, f 4 = .tuple #[.agg #[.bool a1, .slice p1 n1 c1], .agg #[.bool a2, .slice p2 n2 c2]] ∧ RIs ww a1 p1 n1 c1 xs1 (z i / (G : Int)) ∧ RIs ww a2 p2 n2 c2 xs2 (z i % (G : Int)) := hd 4 (by decide) (by kernel_rfl)
            refine wpOp_list rfl ?_
            simp only [tmOf, putAll, List.map_cons, List.map_nil, List.setIfInBounds_toArray, List.set_cons_zero, List.set_cons_succ]
            go_wp2
            exact ⟨.tuple #[.agg #[.bool a1, .slice p1 n1 c1], .agg #[.bool a2, .slice p2 n2 c2]], by simp [upd, g4], ⟨a1, p1, n1, c1, xs1, a2, p2, n2, c2, xs2, rfl, hq1, hq2⟩, Below.refl _ _⟩
          · obtain ⟨a1, p1, n1, c1, xs1, a2, p2, n2, c2, xs2, g5, hq1, hq2⟩ : ∃ a1 p1 n1 c1 xs1 a2 p2 n2 c2 xs2, f 5 = .tuple #[.agg #[.bool a1, .slice p1 n1 c1], .agg #[.bool a2, .slice p2 n2 c2]] ∧ RIs ww a1 p1 n1 c1 xs1 (z i / (G : Int)) ∧ RIs ww a2 p2 n2 c2 xs2 (z i % (G : Int)) := hd 5 (by decide) (by kernel_rfl)
            refine wpOp_list rfl ?_
            simp only [tmOf, putAll, List.map_cons, List.map_nil, List.setIfInBounds_toArray, List.set_cons_zero, List.set_cons_succ]
            go_wp2
            exact ⟨.agg #[.bool a1, .slice p1 n1 c1], by simp [upd, g5], ⟨a1, p1, n1, c1, xs1, rfl, hq1⟩, Below.refl _ _⟩
          · obtain ⟨a1, p1, n1, c1, xs1, a2, p2, n2, c2, xs2, g5, hq1, hq2⟩ : ∃ a1 p1 n1 c1 xs1 a2 p2 n2 c2 xs2, f 5 = .tuple #[.agg #[.bool a1, .slice p1 n1 c1], .agg #[.bool a2, .slice p2 n2 c2]] ∧ RIs ww a1 p1 n1 c1 xs1 (z i / (G : Int)) ∧ RIs ww a2 p2 n2 c2 xs2 (z i % (G : Int)) := hd 5 (by decide) (by kernel_rfl)
            refine wpOp_list rfl ?_
            simp only [tmOf, putAll, List.map_cons, List.map_nil, List.setIfInBounds_toArray, List.set_cons_zero, List.set_cons_succ]
            go_wp2
            exact ⟨.agg #[.bool a2, .slice p2 n2 c2], by simp [upd, g5], ⟨a2, p2, n2, c2, rfl⟩, Below.refl _ _⟩
          · omega
        · rintro ix (rfl | rfl) f ww
          · refine wpOp_list rfl ?_
            simp only [tmOf, putAll, List.map_cons, List.map_nil, List.setIfInBounds_toArray, List.set_cons_zero, List.set_cons_succ]
            go_wp2
            simp [upd]
          · refine wpOp_list rfl ?_
            simp only [tmOf, putAll, List.map_cons, List.map_nil, List.setIfInBounds_toArray, List.set_cons_zero, List.set_cons_succ]
            go_wp2
            simp [upd]
        · rintro f ww b0 hd hf hB
          obtain ⟨a1, p1, n1, c1, xs1, g6, hq1⟩ : ∃ a1 p1 n1 c1 xs1, f 6 = .agg #[.bool a1, .slice p1 n1 c1] ∧ RIs ww a1 p1 n1 c1 xs1 (z i / (G : Int)) := hd 6 (by decide) (by kernel_rfl)
          have e0 := hB.cell (i := 0) rfl
          have e1 := hB.cell (i := 1) rfl
          have e2 := hB.frozen 0
          have e3 := hB.frozen 1
          rw [g6]
          refine wpOp_list rfl ?_
          simp only [tmOf, putAll, List.map_cons, List.map_nil, List.setIfInBounds_toArray, List.set_cons_zero, List.set_cons_succ]
          go_wp2
        · rintro f ww b0 hd hf hB
          obtain ⟨a1, p1, n1, c1, g7⟩ : ∃ a1 p1 n1 c1, f 7 = .agg #[.bool a1, .slice p1 n1 c1] := hd 7 (by decide) (by kernel_rfl)
          have e0 := hB.cell (i := 0) rfl
          have e1 := hB.cell (i := 1) rfl
          have e2 := hB.frozen 0
          have e3 := hB.frozen 1
          rw [g7]
          refine wpOp_list rfl ?_
          simp only [tmOf, putAll, List.map_cons, List.map_nil, List.setIfInBounds_toArray, List.set_cons_zero, List.set_cons_succ]
          go_wp2
        · rintro f ww b0 b1 hS hne hg0 hg1 hf0 hf1 hB0 hB1 hall
          obtain ⟨a1, p1, n1, c1, xs1, g6, hq1⟩ : ∃ a1 p1 n1 c1 xs1, f 6 = .agg #[.bool a1, .slice p1 n1 c1] ∧ RIs ww a1 p1 n1 c1 xs1 (z i / (G : Int)) := hall 6 (by decide)
          rw [g6] at hB0
          simp only [tmOf, putAll, List.map_cons, List.map_nil, List.setIfInBounds_toArray, List.set_cons_zero, List.set_cons_succ]
          refine ‹∀ (a' : Act) (w' : World), Met _ a' w' → _› _ _ ?_
          go_meet
          case rel => exact ⟨b0, b1, a1, p1, n1, c1, xs1, hf0, hf1, hB0, hq1, hS⟩
      case rest =>
      obtain ⟨b7, b8, a1, p1, n1, c1, xs1, rfl, rfl, kq, hq1, hb7⟩ := hcut
      have kO := kO.kept hb7
      have hbx := hbx.trans (hb7.mono hbx.size)
      have HQ := Lib.hid hq1
      have s0 := kq.cell (i := 0) rfl
      have s1 := kq.cell (i := 1) rfl
      clear hq1 hb7
      go_wp2_with fail
      have hln : n1 ≤ 1000000000 := by
        have h1 := HQ.out.len_le (Nat.lt_of_le_of_lt (Int.natAbs_ediv_le_natAbs _ _) (HZ.out i hlt).lt)
        have h2 := HN.out i hlt
        omega
      obtain ⟨q, hq⟩ : ∃ q, z i / (G : Int) = q := ⟨_, rfl⟩
      have hHQ := HQ.out
      rw [hq] at hHQ
      have hri := fun W hb => rint_any a1 p1 n1 c1 xs1 q W hln (hHQ.below hb)
      obtain ⟨t, ht⟩ : ∃ t, inI64 q = t := ⟨_, rfl⟩
      have hv : t = true → intV q = q := fun h => by unfold intV; rw [ht, h]; rfl
      unfold IntOut at hri
      rw [ht] at hri
      obtain ⟨v, hve⟩ : ∃ v, intV q = v := ⟨_, rfl⟩
      rw [hve] at hri hv
      have HRI := Lib.hid hri
      have HV := Lib.hid (And.intro hv (And.intro hq ht))
      clear hri hv hve ht hq hHQ hln HQ
      refine (HRI.out _ (Below.refl _ _)).mono ?_
      rintro e' w5 ⟨rfl, hb5⟩
      have kO := kO.kept hb5
      have hbx := hbx.trans (hb5.mono hbx.size)
      have fo := kO.frozen i
      have co := int4_at kO hlt
      clear s0 s1 hb5 HRI kq
      cases t
      · have HOK := Lib.hid (HF.out i hlt (by rw [HV.out.2.1]; exact HV.out.2.2))
        have kR := kR.kept hbx
        have d0 := kO.cell (i := 0) rfl
        have d1 := kO.cell (i := 1) rfl
        have d2 := kO.cell (i := 2) rfl
        have d3 := kO.cell (i := 3) rfl
        have e0 := kR.cell (i := 0) rfl
        have e1 := kR.cell (i := 1) rfl
        have e2 := kR.cell (i := 2) rfl
        have e3 := kR.cell (i := 3) rfl
        have q0 := kR.frozen 0
        have q1 := kR.frozen 1
        have q2 := kR.frozen 2
        have q3 := kR.frozen 3
        clear HV co fo
        go_wp2_with fail
        have L := Blk.put4 kR (.int .i64 (r 0)) (.int .i64 (r 1)) (.int .i64 (r 2)) (.int .i64 (r 3))
        have y0 := L.cell (i := 0) rfl
        have y1 := L.cell (i := 1) rfl
        have y2 := L.cell (i := 2) rfl
        have y3 := L.cell (i := 3) rfl
        refine bodyPost_ret (v := .tuple #[.agg #[.int .i64 (r 0), .int .i64 (r 1), .int .i64 (r 2), .int .i64 (r 3)], .bool false]) (by simp [results, Try.results48, go_sem, y0, y1, y2, y3]) rfl ⟨⟨r 0, r 1, r 2, r 3⟩, by rw [HOK.out], fun h => ?_, ?_⟩
        · rw [HOK.out] at h; cases h
        · exact ((((hbW.trans (hbx.mono hbW.size)).setCell (by simp only; omega) _).setCell (by simp only; omega) _).setCell (by simp only; omega) _).setCell (by simp only; omega) _
      · have hvq : v = q := HV.out.1 rfl
        subst hvq
        go_wp2_with fail
        go_roundg (4 - (i + 1))
        case measure => rw [HGK.out]; omega
        case rel =>
          refine ⟨i + 1, fun j => if j = i then v else r j, by omega, rfl, by go_num, ?_, kO.set_eq i _ (int4_set hlt v), hbx.setCell (by simp only; omega) _⟩
          intro j hj
          show inI64 (z j / (G : Int)) = true ∧ (if j = i then v else r j) = z j / (G : Int)
          by_cases hji : j = i
          · subst hji; rw [if_pos rfl, HV.out.2.1]; exact ⟨HV.out.2.2, rfl⟩
          · rw [if_neg hji]; exact HI.out j (by omega)
    · obtain rfl : i = 4 := by omega
      have HOK := Lib.hid (HT.out (fun j hj => (HI.out j hj).1))
      have kR := kR.kept hbx
      have d0 := kO.cell (i := 0) rfl
      have d1 := kO.cell (i := 1) rfl
      have d2 := kO.cell (i := 2) rfl
      have d3 := kO.cell (i := 3) rfl
      have e0 := kR.cell (i := 0) rfl
      have e1 := kR.cell (i := 1) rfl
      have e2 := kR.cell (i := 2) rfl
      have e3 := kR.cell (i := 3) rfl
      have q0 := kR.frozen 0
      have q1 := kR.frozen 1
      have q2 := kR.frozen 2
      have q3 := kR.frozen 3
      go_wp2_with fail
      have L := Blk.put4 kR (.int .i64 (r 0)) (.int .i64 (r 1)) (.int .i64 (r 2)) (.int .i64 (r 3))
      have y0 := L.cell (i := 0) rfl
      have y1 := L.cell (i := 1) rfl
      have y2 := L.cell (i := 2) rfl
      have y3 := L.cell (i := 3) rfl
      refine bodyPost_ret (v := .tuple #[.agg #[.int .i64 (r 0), .int .i64 (r 1), .int .i64 (r 2), .int .i64 (r 3)], .bool true]) (by simp [results, Try.results48, go_sem, y0, y1, y2, y3]) rfl ⟨⟨r 0, r 1, r 2, r 3⟩, by rw [HOK.out], fun _ => ?_, ?_⟩
      · rw [(HI.out 0 (by decide)).2, (HI.out 1 (by decide)).2, (HI.out 2 (by decide)).2, (HI.out 3 (by decide)).2]
      · exact ((((hbW.trans (hbx.mono hbW.size)).setCell (by simp only; omega) _).setCell (by simp only; omega) _).setCell (by simp only; omega) _).setCell (by simp only; omega) _

end Go.Proofs.Ythdhakpmhndbfaa

namespace Go.Proofs.Ythdhakpmhndbfaa
open Go.RowKit Go.Shelf

/-- The first k numbers of a point without its c-th. -/
def cutV (q : V4) (c k : Nat) : List Int := ((List.range k).filter (fun j => decide (j ≠ c))).map (vg q)
theorem cutV_skip (q : V4) (c : Nat) : cutV q c (c + 1) = cutV q c c := by
  unfold cutV; rw [List.range_succ, List.filter_append]; simp
theorem cutV_snoc (q : V4) {c k : Nat} (h : k ≠ c) : cutV q c (k + 1) = cutV q c k ++ [vg q k] := by
  unfold cutV; rw [List.range_succ, List.filter_append, List.map_append]; simp [h]
theorem cutV_le (q : V4) (c k : Nat) : (cutV q c k).length ≤ k := by
  unfold cutV; rw [List.length_map]; exact Nat.le_trans (List.length_filter_le _ _) (by simp)
theorem cutV_len (q : V4) {c : Nat} (h : c < 4) : (cutV q c 4).length = 3 := by
  have h4 : c = 0 ∨ c = 1 ∨ c = 2 ∨ c = 3 := by omega
  rcases h4 with rfl | rfl | rfl | rfl <;> rfl
def row3 (p q r : V4) (i : Nat) : V4 := match i with | 0 => p | 1 => q | _ => r
def rowsV (p q r : V4) (c i : Nat) : List (List Int) := (List.range i).map fun j => cutV (row3 p q r j) c 4
theorem rowsV_snoc (p q r : V4) (c i : Nat) : rowsV p q r c (i + 1) = rowsV p q r c i ++ [cutV (row3 p q r i) c 4] := by
  unfold rowsV; rw [List.range_succ, List.map_append]; rfl
theorem rowsV_len (p q r : V4) (c i : Nat) : (rowsV p q r c i).length = i := by unfold rowsV; simp
theorem rowsV_all (p q r : V4) {c : Nat} (h : c < 4) (i : Nat) : ∀ row ∈ rowsV p q r c i, row.length = 3 := by
  intro row hr
  unfold rowsV at hr
  obtain ⟨j, _, rfl⟩ := List.mem_map.1 hr
  exact cutV_len _ h
def detV (p q r : V4) (c : Nat) : Int := detR 3 (rowsV p q r c 3)
def thrZ (p q r : V4) (c : Nat) : Int := if c % 2 = 1 then -detV p q r c else detV p q r c
theorem thrZ0 (p q r : V4) : thrZ p q r 0 = crossX p q r := by
  unfold thrZ detV crossX minorZ; simp [rowsV, cutV, row3, List.range, List.range.loop, List.filter, vg, detR, altS, cutAt, ent]; grind
theorem thrZ1 (p q r : V4) : thrZ p q r 1 = crossY p q r := by
  unfold thrZ detV crossY minorZ; simp [rowsV, cutV, row3, List.range, List.range.loop, List.filter, vg, detR, altS, cutAt, ent]; grind
theorem thrZ2 (p q r : V4) : thrZ p q r 2 = crossZ p q r := by
  unfold thrZ detV crossZ minorZ; simp [rowsV, cutV, row3, List.range, List.range.loop, List.filter, vg, detR, altS, cutAt, ent]; grind
theorem thrZ3 (p q r : V4) : thrZ p q r 3 = thrD p q r := by
  unfold thrZ detV thrD minorZ; simp [rowsV, cutV, row3, List.range, List.range.loop, List.filter, vg, detR, altS, cutAt, ent]; grind

end Go.Proofs.Ythdhakpmhndbfaa

namespace Go.Proofs.Ythdhakpmhndbfaa
open Go.RowKit Go.Shelf
attribute [local go_sem] Oper.semAt_some

/-- An absolute value, of the least integer the greatest. -/
def sizeZ (x : Int) : Int := if x = -9223372036854775808 then 9223372036854775807 else (x.natAbs : Int)

set_option maxHeartbeats 1000000 in
theorem size3_any (x : Int) (w : World) (h : InI64 x) :
    Calls Try.prog 38 #[.int .i64 x] w fun e w' => e = .returned (.int .i64 (sizeZ x)) ∧ w' = w := by
  unfold InI64 at h
  by_cases h0 : x = -9223372036854775808
  · subst h0
    have hl : wrap64 9223372036854775808 = -9223372036854775808 := by unfold wrap64; rfl
    clear h
    go_enter Try.func38, Try.ntmps38
    go_wp2_with fail
    go_ret
    exact ⟨rfl, rfl⟩
  · have hw : wrap64 (-x) = -x := by unfold wrap64; omega
    have hs : sizeZ x = (x.natAbs : Int) := by unfold sizeZ; rw [if_neg h0]
    by_cases hz : x = 0
    · subst hz
      clear h0 hs
      go_enter Try.func38, Try.ntmps38
      go_wp2_with fail
      go_ret
      exact ⟨rfl, rfl⟩
    · have hne : (x == -x) = false := by simp; omega
      have hm : max x (-x) = (x.natAbs : Int) := by omega
      have HS := Lib.hid hs
      have HM := Lib.hid hm
      clear h0 hs hz hm
      go_enter Try.func38, Try.ntmps38
      go_wp2_with fail
      go_ret
      exact ⟨congrArg (fun z : Int => Ending.returned (.int .i64 z)) (HM.out.trans HS.out.symm), rfl⟩

theorem sizeZ_nat {x : Int} (h : InI64 x) : ∃ n : Nat, sizeZ x = (n : Int) ∧ n < 9223372036854775808 := by
  unfold InI64 at h
  unfold sizeZ
  split
  · exact ⟨9223372036854775807, rfl, by decide⟩
  · exact ⟨x.natAbs, rfl, by omega⟩

set_option maxHeartbeats 2000000 in
theorem gcd3_any (a b : Int) (w : World) (ha : InI64 a) (hb : InI64 b) :
    Calls Try.prog 55 #[.int .i64 a, .int .i64 b] w fun e w' => e = .returned (.int .i64 ((Int.gcd (sizeZ a) (sizeZ b) : Nat) : Int)) ∧ ∃ k, w' = w.drewN k := by
  have s1 := fun W => size3_any a W ha
  have s2 := fun W => size3_any b W hb
  obtain ⟨m, hm, hm1⟩ := sizeZ_nat ha
  obtain ⟨n, hn, hn1⟩ := sizeZ_nat hb
  rw [hm] at s1
  rw [hn] at s2
  rw [hm, hn]
  obtain ⟨G, hG⟩ : ∃ G, Int.gcd (m : Int) (n : Int) = G := ⟨_, rfl⟩
  have hG' : Nat.gcd m n = G := hG
  rw [hG]
  have HG := Lib.hid (And.intro hG' (And.intro hm1 hn1))
  have S1 := Lib.hid s1
  have S2 := Lib.hid s2
  clear s1 s2 hm hn hG hG' hm1 hn1 ha hb
  go_enter Try.func55, Try.ntmps55
  go_wp2_with fail
  refine (S1.out _).mono ?_
  rintro e w2 ⟨rfl, hw2⟩
  rw [hw2]
  go_wp2_with fail
  refine (S2.out _).mono ?_
  rintro e w3 ⟨rfl, hw3⟩
  rw [hw3]
  go_wp2_with fail
  go_loopg [0, 1] n (fun gk v0 v1 wr => ∃ x y : Nat, gk = y ∧ v0 = .int .i64 (x : Int) ∧ v1 = .int .i64 (y : Int) ∧ Hid (Nat.gcd x y = G ∧ x < 9223372036854775808 ∧ y < 9223372036854775808) ∧ ∃ k, wr = w.drewN k)
  case atStart => exact ⟨m, n, rfl, rfl, rfl, HG.out, 0, rfl⟩
  case round =>
    obtain ⟨x, y, hgk, rfl, rfl, HX, k, rfl⟩ := hrel
    have HGK := Lib.hid hgk
    clear hgk
    rcases Nat.eq_zero_or_pos y with h0 | h0
    · subst h0
      have hx : x = G := by rw [← HX.out.1, Nat.gcd_zero_right]
      have HXX := Lib.hid hx
      clear hx
      go_wp2_with fail
      go_ret
      exact ⟨congrArg (fun g : Nat => Ending.returned (.int .i64 (g : Int))) HXX.out, k, rfl⟩
    · have h1 : ((y : Int) != 0) = true := by simp; omega
      have h2 : ¬ (y : Int) = 0 := by omega
      have h3 : (x : Int).tmod (y : Int) = ((x % y : Nat) : Int) := rfl
      have hm := Nat.mod_lt x h0
      have hg : Nat.gcd y (x % y) = G := by rw [← HX.out.1, Nat.gcd_comm x y, Nat.gcd_rec y x, Nat.gcd_comm]
      have HN := Lib.hid (And.intro hg (And.intro HX.out.2.2 (Nat.lt_trans hm HX.out.2.2)))
      have hwr : wrap64 ((x % y : Nat) : Int) = ((x % y : Nat) : Int) := by have := HX.out.2.2; unfold wrap64; omega
      clear hg
      generalize x % y = r at *
      go_upto_region 3 with fail
      go_quiet (fail)
      go_wp2_with fail
      go_roundg r
      case measure => rw [HGK.out]; exact hm
      case rel => exact ⟨y, r, rfl, rfl, by first | rfl | (congr 1) | simp [h3, hwr], HN.out, k + nq, by rw [World.drewN_drewN]⟩

end Go.Proofs.Ythdhakpmhndbfaa

namespace Go.Proofs.Ythdhakpmhndbfaa
open Go.RowKit Go.Shelf
attribute [local go_sem] Oper.semAt_some

theorem sizeZ_small {x : Int} {lim : Nat} (h : ¬ (lim : Int) < sizeZ x) (hl : lim < 9223372036854775807) : x.natAbs ≤ lim ∧ sizeZ x = (x.natAbs : Int) := by
  unfold sizeZ at *
  split at h
  · omega
  · rename_i hne; rw [if_neg hne]; exact ⟨by omega, rfl⟩
theorem sizeZ_of_nat {n : Nat} (_h : n < 9223372036854775808) : sizeZ (n : Int) = (n : Int) := by
  unfold sizeZ; rw [if_neg (by omega)]; simp

set_option maxRecDepth 100000 in
set_option maxHeartbeats 4000000 in
theorem right3_any (a b c d : Int) (w : World) (ha : InI64 a) (hb : InI64 b) (hc : InI64 c) (hd : InI64 d) :
    Calls Try.prog 42 #[.agg #[.int .i64 a, .int .i64 b, .int .i64 c, .int .i64 d]] w fun e w' => e = .returned (.bool (decide (RightP a b c d))) ∧ Below w.heap.size w w' := by
  obtain ⟨w1, hw1⟩ : ∃ w1, w.alloc (.cells #[.int .i64 a, .int .i64 b, .int .i64 c, .int .i64 d] 23) = w1 := ⟨_, rfl⟩
  have hb1 : Below w.heap.size w w1 := by rw [← hw1]; exact (Below.refl _ w).alloc (Nat.le_refl _) _
  have k0 : Blk w1 w.heap.size #[.int .i64 a, .int .i64 b, .int .i64 c, .int .i64 d] 23 := by rw [← hw1]; exact Blk.new _ _ _
  have HI := Lib.hid (And.intro ha (And.intro hb (And.intro hc hd)))
  clear ha hb hc hd
  go_enter Try.func42, Try.ntmps42
  go_wp2_with fail
  go_loopg [3] 3 (fun gk v3 wr => ∃ i : Nat, i ≤ 3 ∧ gk = 3 - i ∧ v3 = .int .i64 (i : Int) ∧ (0 < i → ¬ 1000 < sizeZ a) ∧ (1 < i → ¬ 1000 < sizeZ b) ∧ (2 < i → ¬ 1000 < sizeZ c) ∧ Blk wr w.heap.size #[.int .i64 a, .int .i64 b, .int .i64 c, .int .i64 d] 23 ∧ Below w.heap.size w wr)
  case atStart => exact ⟨0, by decide, rfl, rfl, fun h => absurd h (by decide), fun h => absurd h (by decide), fun h => absurd h (by decide), k0, hb1⟩
  case round =>
    clear k0 hb1 hw1
    obtain ⟨i, hi, hgk, rfl, h0, h1, h2, hk, hbw⟩ := hrel
    have HGK := Lib.hid hgk
    have HA := Lib.hid (And.intro h0 (And.intro h1 h2))
    clear hgk h0 h1 h2
    have c0 := hk.cell (i := 0) rfl
    have c1 := hk.cell (i := 1) rfl
    have c2 := hk.cell (i := 2) rfl
    have c3 := hk.cell (i := 3) rfl
    have hi4 : i = 0 ∨ i = 1 ∨ i = 2 ∨ i = 3 := by omega
    clear hi
    rcases hi4 with rfl | rfl | rfl | rfl
    · have hs := fun W => size3_any a W HI.out.1
      have HSZ := Lib.hid hs
      clear hs
      by_cases hbig : 1000 < sizeZ a
      · have hno : decide (RightP a b c d) = false := decide_eq_false (fun h => by have := h.2.1; unfold sizeZ at hbig; split at hbig <;> omega)
        have HN := Lib.hid hno
        clear hno
        go_wp2_with fail
        refine (HSZ.out _).mono ?_
        rintro e w2 ⟨rfl, hw2⟩
        rw [hw2]
        go_wp2_with fail
        go_ret
        exact ⟨congrArg (fun z => Ending.returned (.bool z)) HN.out.symm, hbw⟩
      · have HB := Lib.hid hbig
        go_wp2_with fail
        refine (HSZ.out _).mono ?_
        rintro e w2 ⟨rfl, hw2⟩
        rw [hw2]
        go_wp2_with fail
        go_roundg (2)
        case measure => rw [HGK.out]; decide
        case rel => exact ⟨1, by decide, rfl, rfl, by have := HA.out; have := HB.out; intro h1; omega, by have := HA.out; have := HB.out; intro h1; omega, by have := HA.out; have := HB.out; intro h1; omega, hk, hbw⟩
    · have hs := fun W => size3_any b W HI.out.2.1
      have HSZ := Lib.hid hs
      clear hs
      by_cases hbig : 1000 < sizeZ b
      · have hno : decide (RightP a b c d) = false := decide_eq_false (fun h => by have := h.2.2.1; unfold sizeZ at hbig; split at hbig <;> omega)
        have HN := Lib.hid hno
        clear hno
        go_wp2_with fail
        refine (HSZ.out _).mono ?_
        rintro e w2 ⟨rfl, hw2⟩
        rw [hw2]
        go_wp2_with fail
        go_ret
        exact ⟨congrArg (fun z => Ending.returned (.bool z)) HN.out.symm, hbw⟩
      · have HB := Lib.hid hbig
        go_wp2_with fail
        refine (HSZ.out _).mono ?_
        rintro e w2 ⟨rfl, hw2⟩
        rw [hw2]
        go_wp2_with fail
        go_roundg (1)
        case measure => rw [HGK.out]; decide
        case rel => exact ⟨2, by decide, rfl, rfl, by have := HA.out; have := HB.out; intro h1; omega, by have := HA.out; have := HB.out; intro h1; omega, by have := HA.out; have := HB.out; intro h1; omega, hk, hbw⟩
    · have hs := fun W => size3_any c W HI.out.2.2.1
      have HSZ := Lib.hid hs
      clear hs
      by_cases hbig : 1000 < sizeZ c
      · have hno : decide (RightP a b c d) = false := decide_eq_false (fun h => by have := h.2.2.2.1; unfold sizeZ at hbig; split at hbig <;> omega)
        have HN := Lib.hid hno
        clear hno
        go_wp2_with fail
        refine (HSZ.out _).mono ?_
        rintro e w2 ⟨rfl, hw2⟩
        rw [hw2]
        go_wp2_with fail
        go_ret
        exact ⟨congrArg (fun z => Ending.returned (.bool z)) HN.out.symm, hbw⟩
      · have HB := Lib.hid hbig
        go_wp2_with fail
        refine (HSZ.out _).mono ?_
        rintro e w2 ⟨rfl, hw2⟩
        rw [hw2]
        go_wp2_with fail
        go_roundg (0)
        case measure => rw [HGK.out]; decide
        case rel => exact ⟨3, by decide, rfl, rfl, by have := HA.out; have := HB.out; intro h1; omega, by have := HA.out; have := HB.out; intro h1; omega, by have := HA.out; have := HB.out; intro h1; omega, hk, hbw⟩
    · obtain ⟨za, ea⟩ := sizeZ_small (lim := 1000) (HA.out.1 (by decide)) (by decide)
      obtain ⟨zb, eb⟩ := sizeZ_small (lim := 1000) (HA.out.2.1 (by decide)) (by decide)
      obtain ⟨zc, ec⟩ := sizeZ_small (lim := 1000) (HA.out.2.2 (by decide)) (by decide)
      have hs := fun W => size3_any d W HI.out.2.2.2
      have HSZ := Lib.hid hs
      clear hs
      by_cases hz : a = 0 ∧ b = 0 ∧ c = 0
      · have hno : decide (RightP a b c d) = false := decide_eq_false (fun h => h.1 hz)
        have HN := Lib.hid hno
        obtain ⟨rfl, rfl, rfl⟩ := hz
        clear hno za zb zc ea eb ec
        go_wp2_with fail
        go_ret
        exact ⟨congrArg (fun z => Ending.returned (.bool z)) HN.out.symm, hbw⟩
      · have hg1 : Int.gcd (sizeZ a) (sizeZ b) = Int.gcd a b := by rw [ea, eb]; rfl
        have q1 := fun W => gcd3_any a b W HI.out.1 HI.out.2.1
        rw [hg1] at q1
        have HZ := Lib.hid hz
        have HE := Lib.hid (And.intro za (And.intro zb (And.intro zc ec)))
        clear hz hg1 ea eb ec za zb zc
        go_upto_region 6 with fail
        go_cut [31] from 13 to 31 (fun v31 wx => v31 = .bool (decide (1000000 < sizeZ d)) ∧ wr = wx)
        case first =>
          by_cases ha : a = 0
          · have ha' : (a == 0) = true := by simp [ha]
            by_cases hb : b = 0
            · have hb' : (b == 0) = true := by simp [hb]
              have hc : ¬ c = 0 := fun e => HZ.out ⟨ha, hb, e⟩
              have hc' : (c == 0) = false := by simp [hc]
              clear ha hb hc
              go_wp2_with fail
              refine (HSZ.out _).mono ?_
              rintro e w2 ⟨rfl, hw2⟩
              rw [hw2]
              go_wp2_with fail
              go_meet
              case rel => exact ⟨rfl, rfl⟩
            · have hb' : (b == 0) = false := by simp [hb]
              clear ha hb
              go_wp2_with fail
              refine (HSZ.out _).mono ?_
              rintro e w2 ⟨rfl, hw2⟩
              rw [hw2]
              go_wp2_with fail
              go_meet
              case rel => exact ⟨rfl, rfl⟩
          · have ha' : (a == 0) = false := by simp [ha]
            clear ha
            go_wp2_with fail
            refine (HSZ.out _).mono ?_
            rintro e w2 ⟨rfl, hw2⟩
            rw [hw2]
            go_wp2_with fail
            go_meet
            case rel => exact ⟨rfl, rfl⟩
        case rest =>
        obtain ⟨rfl, rfl⟩ := hcut
        by_cases hbig : 1000000 < sizeZ d
        · have hno : decide (RightP a b c d) = false := decide_eq_false (fun h => by have := h.2.2.2.2.1; unfold sizeZ at hbig; split at hbig <;> omega)
          have HN := Lib.hid hno
          rw [decide_eq_true hbig]
          clear hno hbig
          go_wp2_with fail
          go_ret
          exact ⟨congrArg (fun z => Ending.returned (.bool z)) HN.out.symm, hbw⟩
        · obtain ⟨zd, ed⟩ := sizeZ_small (lim := 1000000) hbig (by decide)
          have hg2 : Int.gcd (sizeZ c) (sizeZ d) = Int.gcd c d := by rw [HE.out.2.2.2, ed]; rfl
          have q2 := fun W => gcd3_any c d W HI.out.2.2.1 HI.out.2.2.2
          rw [hg2] at q2
          have l1 : Int.gcd a b ≤ 1000 := by
            rcases Int.lt_trichotomy a 0 with h | h | h
            · exact Nat.le_trans (Nat.le_of_dvd (by omega) (Nat.gcd_dvd_left a.natAbs b.natAbs)) HE.out.1
            · rw [h]; simpa using HE.out.2.1
            · exact Nat.le_trans (Nat.le_of_dvd (by omega) (Nat.gcd_dvd_left a.natAbs b.natAbs)) HE.out.1
          have l2 : Int.gcd c d ≤ 1000000 := by
            rcases Int.lt_trichotomy c 0 with h | h | h
            · exact Nat.le_trans (Nat.le_trans (Nat.le_of_dvd (by omega) (Nat.gcd_dvd_left c.natAbs d.natAbs)) HE.out.2.2.1) (by decide)
            · rw [h]; simpa using zd
            · exact Nat.le_trans (Nat.le_trans (Nat.le_of_dvd (by omega) (Nat.gcd_dvd_left c.natAbs d.natAbs)) HE.out.2.2.1) (by decide)
          have hall : decide (RightP a b c d) = decide (g4 a b c d = 1) := decide_eq_decide.2 ⟨fun h => h.2.2.2.2.2, fun h => ⟨HZ.out, HE.out.1, HE.out.2.1, HE.out.2.2.1, zd, h⟩⟩
          have hg3 : g4 a b c d = Nat.gcd (Int.gcd a b) (Int.gcd c d) := rfl
          obtain ⟨m, hm⟩ : ∃ m, Int.gcd a b = m := ⟨_, rfl⟩
          obtain ⟨n, hn⟩ : ∃ n, Int.gcd c d = n := ⟨_, rfl⟩
          rw [hm] at q1 l1 hg3
          rw [hn] at q2 l2 hg3
          have q3 := fun W => gcd3_any (m : Int) (n : Int) W (by unfold InI64; omega) (by unfold InI64; omega)
          rw [sizeZ_of_nat (by omega), sizeZ_of_nat (by omega)] at q3
          obtain ⟨G, hG⟩ : ∃ G, Int.gcd (m : Int) (n : Int) = G := ⟨_, rfl⟩
          rw [hG] at q3
          have hG' : g4 a b c d = G := by rw [hg3]; exact hG
          rw [hG'] at hall
          have Q1 := Lib.hid q1
          have Q2 := Lib.hid q2
          have Q3 := Lib.hid q3
          have HALL := Lib.hid hall
          have heq : ((G : Int) == 1) = decide (G = 1) := by
            by_cases h : G = 1
            · rw [h]; rfl
            · rw [decide_eq_false h]; simp only [beq_eq_false_iff_ne]; omega
          rw [decide_eq_false hbig]
          clear hbig q1 q2 q3 hg2 l1 l2 hall hg3 hm hn hG hG' zd ed HZ HE HSZ
          go_upto_region 8 with fail
          go_quiet (first | (with_reducible exact Calls.quiet_of (Q1.out _)) | (with_reducible exact Calls.quiet_of (Q2.out _)) | (with_reducible exact Calls.quiet_of (Q3.out _)))
          go_wp2_with fail
          go_ret
          exact ⟨congrArg (fun z => Ending.returned (.bool z)) HALL.out.symm, below_drewN hbw _⟩

end Go.Proofs.Ythdhakpmhndbfaa

namespace Go.Proofs.Ythdhakpmhndbfaa
open Go.RowKit Go.Shelf
attribute [local go_sem] Oper.semAt_some

def pick4 {α : Type} (x0 x1 x2 x3 : α) (i : Nat) : α := match i with | 0 => x0 | 1 => x1 | 2 => x2 | _ => x3
def ok4 (z0 z1 z2 z3 : Int) : Bool := inI64 (low4 z0 z1 z2 z3 z0) && (inI64 (low4 z0 z1 z2 z3 z1) && (inI64 (low4 z0 z1 z2 z3 z2) && inI64 (low4 z0 z1 z2 z3 z3)))

theorem reduced4 {a0 a1 a2 a3 : Bool} {p0 p1 p2 p3 : Option Addr} {n0 n1 n2 n3 c0 c1 c2 c3 : Nat} {x0 x1 x2 x3 : List Nat} {z0 z1 z2 z3 : Int} (w : World) (h0 : RIs w a0 p0 n0 c0 x0 z0) (h1 : RIs w a1 p1 n1 c1 x1 z1) (h2 : RIs w a2 p2 n2 c2 x2 z2) (h3 : RIs w a3 p3 n3 c3 x3 z3)
    (l0 : n0 ≤ 100000) (l1 : n1 ≤ 100000) (l2 : n2 ≤ 100000) (l3 : n3 ≤ 100000) (hz : ¬ (z0 = 0 ∧ z1 = 0 ∧ z2 = 0)) :
    Calls Try.prog 48 #[.agg #[.bool a0, .slice p0 n0 c0, .bool a1, .slice p1 n1 c1, .bool a2, .slice p2 n2 c2, .bool a3, .slice p3 n3 c3]] w fun e w' => ∃ q : V4, e = .returned (.tuple #[.agg #[.int .i64 q.a, .int .i64 q.b, .int .i64 q.c, .int .i64 q.d], .bool (ok4 z0 z1 z2 z3)]) ∧ (ok4 z0 z1 z2 z3 = true → q = ⟨low4 z0 z1 z2 z3 z0, low4 z0 z1 z2 z3 z1, low4 z0 z1 z2 z3 z2, low4 z0 z1 z2 z3 z3⟩) ∧ Below w.heap.size w w' := by
  have hr : ∀ i, i < 4 → RIs w (pick4 a0 a1 a2 a3 i) (pick4 p0 p1 p2 p3 i) (pick4 n0 n1 n2 n3 i) (pick4 c0 c1 c2 c3 i) (pick4 x0 x1 x2 x3 i) (pick4 z0 z1 z2 z3 i) := by
    intro i hi
    have h4 : i = 0 ∨ i = 1 ∨ i = 2 ∨ i = 3 := by omega
    rcases h4 with rfl | rfl | rfl | rfl
    · exact h0
    · exact h1
    · exact h2
    · exact h3
  have hl : ∀ i, i < 4 → pick4 n0 n1 n2 n3 i ≤ 100000 := by
    intro i hi
    have h4 : i = 0 ∨ i = 1 ∨ i = 2 ∨ i = 3 := by omega
    rcases h4 with rfl | rfl | rfl | rfl
    · exact l0
    · exact l1
    · exact l2
    · exact l3
  exact reduced_any (pick4 a0 a1 a2 a3) (pick4 p0 p1 p2 p3) (pick4 n0 n1 n2 n3) (pick4 c0 c1 c2 c3) (pick4 x0 x1 x2 x3) (pick4 z0 z1 z2 z3) w hr hl hz

end Go.Proofs.Ythdhakpmhndbfaa
