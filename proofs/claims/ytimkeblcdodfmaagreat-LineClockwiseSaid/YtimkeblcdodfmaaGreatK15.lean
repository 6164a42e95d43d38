/-
  The reference of planes: four integers in lowest terms; The reference of planes: Make.
-/
import Derived.Test.YtimkeblcdodfmaaGreatK1
import Derived.Test.YtimkeblcdodfmaaGreatK2
import Derived.Test.YtimkeblcdodfmaaGreatK3
import Derived.Test.YtimkeblcdodfmaaGreatK4
import Derived.Test.YtimkeblcdodfmaaGreatK5
import Derived.Test.YtimkeblcdodfmaaGreatK6
import Derived.Test.YtimkeblcdodfmaaGreatK7
import Derived.Test.YtimkeblcdodfmaaGreatK10
import Derived.Test.YtimkeblcdodfmaaGreatK11
import Derived.Test.YtimkeblcdodfmaaGreatK12
import Derived.Test.YtimkeblcdodfmaaGreatK13
import Derived.Test.YtimkeblcdodfmaaGreatK14
namespace Go.Proofs.YtimkeblcdodfmaaGreat
open Go.RowKit Go.Shelf
attribute [local go_sem] Oper.semAt_some run_field1 run_field0

/-- An integer of the reference. -/
def IsN (w : World) (v : Value) (z : Int) : Prop := ∃ neg p n c xs, v = .agg #[.bool neg, .slice p n c] ∧ RIs w neg p n c xs z ∧ n ≤ 100000
theorem IsN.below {w w' : World} {v : Value} {z : Int} (h : IsN w v z) (hb : Below w.heap.size w w') : IsN w' v z := by
  obtain ⟨neg, p, n, c, xs, e, hr, hn⟩ := h; exact ⟨neg, p, n, c, xs, e, hr.below hb, hn⟩

def IsQ (w : World) (v : Value) (z : Int) : Prop := ∃ neg p n c xs, v = .agg #[.bool neg, .slice p n c] ∧ RIs w neg p n c xs z
def IsS (v : Value) : Prop := ∃ neg p n c, v = .agg #[.bool neg, .slice p n c]
def IsD (w : World) (v : Value) (x y : Int) : Prop := ∃ a1 p1 n1 c1 xs1 a2 p2 n2 c2 xs2, v = .tuple #[.agg #[.bool a1, .slice p1 n1 c1], .agg #[.bool a2, .slice p2 n2 c2]] ∧ RIs w a1 p1 n1 c1 xs1 x ∧ RIs w a2 p2 n2 c2 xs2 y

theorem num8_at {W : World} {B : Nat} {a : Nat → Bool} {p : Nat → Option Addr} {n c : Nat → Nat} {t : TypeId} (h : Blk W B #[.bool (a 0), .slice (p 0) (n 0) (c 0), .bool (a 1), .slice (p 1) (n 1) (c 1), .bool (a 2), .slice (p 2) (n 2) (c 2), .bool (a 3), .slice (p 3) (n 3) (c 3)] t) {i : Nat} (hi : i < 4) : W.cell? ⟨B, i * 2, none⟩ = some (.bool (a i)) ∧ W.cell? ⟨B, i * 2 + 1, none⟩ = some (.slice (p i) (n i) (c i)) := by
  have h4 : i = 0 ∨ i = 1 ∨ i = 2 ∨ i = 3 := by omega
  rcases h4 with rfl | rfl | rfl | rfl <;> exact ⟨h.cell rfl, h.cell rfl⟩
theorem int4_set {r : Nat → Int} {i : Nat} (hi : i < 4) (v : Int) : (#[.int .i64 (r 0), .int .i64 (r 1), .int .i64 (r 2), .int .i64 (r 3)] : Array Value).setIfInBounds i (.int .i64 v) = #[.int .i64 (if 0 = i then v else r 0), .int .i64 (if 1 = i then v else r 1), .int .i64 (if 2 = i then v else r 2), .int .i64 (if 3 = i then v else r 3)] := by
  have h4 : i = 0 ∨ i = 1 ∨ i = 2 ∨ i = 3 := by omega
  rcases h4 with rfl | rfl | rfl | rfl <;> rfl
theorem int4_at {W : World} {B : Nat} {r : Nat → Int} {t : TypeId} (h : Blk W B #[.int .i64 (r 0), .int .i64 (r 1), .int .i64 (r 2), .int .i64 (r 3)] t) {i : Nat} (hi : i < 4) : W.cell? ⟨B, i, none⟩ = some (.int .i64 (r i)) := by
  have h4 : i = 0 ∨ i = 1 ∨ i = 2 ∨ i = 3 := by omega
  rcases h4 with rfl | rfl | rfl | rfl <;> exact h.cell rfl

theorem RIs.setZ {W : World} {neg : Bool} {p : Option Addr} {n c : Nat} {xs : List Nat} {z : Int} (h : RIs W neg p n c xs z) {b : Nat} {T : TypeId} (hB : Blk W b #[.bool false, .slice none 0 0] T) (v0 v1 : Value) : RIs ((W.setCell ⟨b, 0, none⟩ v0).setCell ⟨b, 1, none⟩ v1) neg p n c xs z := by
  refine (h.setAt (hB.cell (i := 0) rfl) (by intro x e; cases e) v0).setAt ((hB.set_eq 0 v0 rfl).cell (i := 1) rfl) (by intro x e; cases e) v1

def lowZ (z : Nat → Int) (i : Nat) : Int := low4 (z 0) (z 1) (z 2) (z 3) (z i)
def okL (z : Nat → Int) : Bool := inI64 (lowZ z 0) && (inI64 (lowZ z 1) && (inI64 (lowZ z 2) && inI64 (lowZ z 3)))
theorem okL_true {z : Nat → Int} (h : ∀ j, j < 4 → inI64 (lowZ z j) = true) : okL z = true := by
  unfold okL; rw [h 0 (by decide), h 1 (by decide), h 2 (by decide), h 3 (by decide)]; rfl
theorem okL_false {z : Nat → Int} {i : Nat} (hi : i < 4) (h : inI64 (lowZ z i) = false) : okL z = false := by
  have h4 : i = 0 ∨ i = 1 ∨ i = 2 ∨ i = 3 := by omega
  unfold okL
  rcases h4 with rfl | rfl | rfl | rfl <;> simp [h]

set_option maxRecDepth 100000 in
set_option maxHeartbeats 8000000 in
theorem reduced_any (a : Nat → Bool) (p : Nat → Option Addr) (n c : Nat → Nat) (xs : Nat → List Nat) (z : Nat → Int) (w : World) (hz : ∀ i, i < 4 → RIs w (a i) (p i) (n i) (c i) (xs i) (z i)) (hn : ∀ i, i < 4 → n i ≤ 100000) (h0 : ¬ (z 0 = 0 ∧ z 1 = 0 ∧ z 2 = 0)) :
    Calls Tryz.prog 69 #[.agg #[.bool (a 0), .slice (p 0) (n 0) (c 0), .bool (a 1), .slice (p 1) (n 1) (c 1), .bool (a 2), .slice (p 2) (n 2) (c 2), .bool (a 3), .slice (p 3) (n 3) (c 3)]] w fun e w' => ∃ q : V4, e = .returned (.tuple #[.agg #[.int .i64 q.a, .int .i64 q.b, .int .i64 q.c, .int .i64 q.d], .bool (okL z)]) ∧ (okL z = true → q = ⟨lowZ z 0, lowZ z 1, lowZ z 2, lowZ z 3⟩) ∧ Below w.heap.size w w' := by
  obtain ⟨w1, hw1⟩ : ∃ w1, ((w.alloc (.cells #[.bool (a 0), .slice (p 0) (n 0) (c 0), .bool (a 1), .slice (p 1) (n 1) (c 1), .bool (a 2), .slice (p 2) (n 2) (c 2), .bool (a 3), .slice (p 3) (n 3) (c 3)] 111)).alloc (.cells #[.int .i64 0, .int .i64 0, .int .i64 0, .int .i64 0] 22)) = w1 := ⟨_, rfl⟩
  have hb1 : Below w.heap.size w w1 := by rw [← hw1]; exact bw2 w _ _
  have k0 : Blk w1 w.heap.size #[.bool (a 0), .slice (p 0) (n 0) (c 0), .bool (a 1), .slice (p 1) (n 1) (c 1), .bool (a 2), .slice (p 2) (n 2) (c 2), .bool (a 3), .slice (p 3) (n 3) (c 3)] 111 := by rw [← hw1]; exact (Blk.new w _ _).alloc _
  have kR : Blk w1 (w.heap.size + 1) #[.int .i64 0, .int .i64 0, .int .i64 0, .int .i64 0] 22 := by rw [← hw1]; exact Blk.new' _ _ _ (by simp)
  obtain ⟨G, hG⟩ : ∃ G, g4 (z 0) (z 1) (z 2) (z 3) = G := ⟨_, rfl⟩
  have hgg : Int.gcd ((Int.gcd (z 0) (z 1) : Nat) : Int) ((Int.gcd (z 2) (z 3) : Nat) : Int) = G := hG
  have hG0 : (G : Int) ≠ 0 := by have := g4_pos (d := z 3) h0; omega
  have hlow : ∀ i, lowZ z i = z i / (G : Int) := fun i => by unfold lowZ low4; rw [hG]
  obtain ⟨ok, hok⟩ : ∃ ok, okL z = ok := ⟨_, rfl⟩
  have hT : (∀ j, j < 4 → inI64 (z j / (G : Int)) = true) → ok = true := fun h => by rw [← hok]; exact okL_true (fun j hj => by rw [hlow]; exact h j hj)
  have hF : ∀ i, i < 4 → inI64 (z i / (G : Int)) = false → ok = false := fun i hi h => by rw [← hok]; exact okL_false hi (by rw [hlow]; exact h)
  rw [hok, hlow, hlow, hlow, hlow]
  have HN := Lib.hid hn
  have HZ := Lib.hid hz
  have HG := Lib.hid hgg
  have HG0 := Lib.hid hG0
  have HT := Lib.hid hT
  have HF := Lib.hid hF
  clear hn hz hgg hG0 hT hF hok hlow hG h0
  go_enter Tryz.func69, Tryz.ntmps69
  go_upto_region 1 with fail
  go_cut [4] from 11 to 21 (fun v4 wx => ∃ b gn gp gl gc gx, v4 = .pointer (some ⟨b, 0, none⟩) ∧ w1.heap.size ≤ b ∧ Blk wx b #[.bool gn, .slice gp gl gc] 109 ∧ RIs wx gn gp gl gc gx (G : Int) ∧ gl ≤ 100000 ∧ Below w1.heap.size w1 wx)
  case first =>
    refine wp_region_kn 12 (fun ix => ix != 4 && ix != 9 && ix != 10 && ix != 11) (fun ix => match ix with | 0 => .pointer (some ⟨w.heap.size, 0, none⟩) | 1 => .agg #[.bool (a 0), .slice (p 0) (n 0) (c 0)] | 2 => .pointer (some ⟨w.heap.size, 2, none⟩) | 3 => .agg #[.bool (a 1), .slice (p 1) (n 1) (c 1)] | 5 => .pointer (some ⟨w.heap.size, 4, none⟩) | 6 => .agg #[.bool (a 2), .slice (p 2) (n 2) (c 2)] | 7 => .pointer (some ⟨w.heap.size, 6, none⟩) | _ => .agg #[.bool (a 3), .slice (p 3) (n 3) (c 3)]) (fun ix v w => match ix with | 4 => IsN w v ((Int.gcd (z 0) (z 1) : Nat) : Int) | 9 => IsN w v ((Int.gcd (z 2) (z 3) : Nat) : Int) | 10 => IsN w v (G : Int) | _ => ∃ b, v = .pointer (some ⟨b, 0, none⟩) ∧ w1.heap.size ≤ b ∧ Blk w b #[.bool false, .slice none 0 0] 109) (by kernel_rfl) (by kernel_rfl) (by kernel_rfl) (by decide) ?_ ?_ ?_
    · intro ix v w8 w9 hb9 h
      have hd : (∃ b, v = .pointer (some ⟨b, 0, none⟩) ∧ w1.heap.size ≤ b ∧ Blk w8 b #[.bool false, .slice none 0 0] 109) → ∃ b, v = .pointer (some ⟨b, 0, none⟩) ∧ w1.heap.size ≤ b ∧ Blk w9 b #[.bool false, .slice none 0 0] 109 := fun ⟨b, e, h1, h2⟩ => ⟨b, e, h1, h2.kept hb9⟩
      by_cases i4 : ix = 4
      · subst i4; exact IsN.below h hb9
      · by_cases i9 : ix = 9
        · subst i9; exact IsN.below h hb9
        · by_cases i10 : ix = 10
          · subst i10; exact IsN.below h hb9
          · rcases ix with _ | _ | _ | _ | _ | _ | _ | _ | _ | _ | _ | ix
            all_goals first
              | exact hd h
              | (exfalso; omega)
    · rintro ix hx f ww hS hd
      have ka := k0.kept hS
      have e0_ := ka.cell (i := 0) rfl
      have e1_ := ka.cell (i := 1) rfl
      have e2_ := ka.cell (i := 2) rfl
      have e3_ := ka.cell (i := 3) rfl
      have e4_ := ka.cell (i := 4) rfl
      have e5_ := ka.cell (i := 5) rfl
      have e6_ := ka.cell (i := 6) rfl
      have e7_ := ka.cell (i := 7) rfl
      have hbw := hb1.trans (hS.mono hb1.size)
      rcases ix with _ | _ | _ | _ | _ | _ | _ | _ | _ | _ | _ | _ | ix
      · refine wpOp_list rfl ?_
        simp only [tmOf, putAll, List.map_cons, List.map_nil, List.setIfInBounds_toArray, List.set_cons_zero, List.set_cons_succ]
        go_wp2
        refine ⟨.pointer (some ⟨w.heap.size, 0, none⟩), ?_⟩
        simp [upd, Below.refl]
      · have g0 : f 0 = .pointer (some ⟨w.heap.size, 0, none⟩) := hd 0 (by kernel_rfl)
        refine wpOp_list rfl ?_
        simp only [tmOf, putAll, List.map_cons, List.map_nil, List.setIfInBounds_toArray, List.set_cons_zero, List.set_cons_succ]
        go_wp2
        refine ⟨.agg #[.bool (a 0), .slice (p 0) (n 0) (c 0)], ?_⟩
        simp [upd, g0, Below.refl]
      · refine wpOp_list rfl ?_
        simp only [tmOf, putAll, List.map_cons, List.map_nil, List.setIfInBounds_toArray, List.set_cons_zero, List.set_cons_succ]
        go_wp2
        refine ⟨.pointer (some ⟨w.heap.size, 2, none⟩), ?_⟩
        simp [upd, Below.refl]
      · have g2 : f 2 = .pointer (some ⟨w.heap.size, 2, none⟩) := hd 2 (by kernel_rfl)
        refine wpOp_list rfl ?_
        simp only [tmOf, putAll, List.map_cons, List.map_nil, List.setIfInBounds_toArray, List.set_cons_zero, List.set_cons_succ]
        go_wp2
        refine ⟨.agg #[.bool (a 1), .slice (p 1) (n 1) (c 1)], ?_⟩
        simp [upd, g2, Below.refl]
      · have g1 : f 1 = .agg #[.bool (a 0), .slice (p 0) (n 0) (c 0)] := hd 1 (by kernel_rfl)
        have g3 : f 3 = .agg #[.bool (a 1), .slice (p 1) (n 1) (c 1)] := hd 3 (by kernel_rfl)
        refine wpOp_list rfl ?_
        simp only [tmOf, putAll, List.map_cons, List.map_nil, List.setIfInBounds_toArray, List.set_cons_zero, List.set_cons_succ]
        go_wp2_with fail
        refine (rgcd_any _ _ _ _ _ _ _ _ (xs 0) (xs 1) _ _ _ (HN.out 0 (by decide)) (HN.out 1 (by decide)) ((HZ.out 0 (by decide)).below hbw) ((HZ.out 1 (by decide)).below hbw)).mono ?_
        rintro e' wf ⟨nf, pf, lf, cf, xf, rfl, hzf, hnf, hbf⟩
        go_wp2_with fail
        first
          | exact ⟨.agg #[.bool nf, .slice pf lf cf], by simp [upd, g1, g3], ⟨nf, pf, lf, cf, xf, rfl, hzf, hnf⟩, hbf⟩
          | exact ⟨.agg #[.bool nf, .slice pf lf cf], by simp [upd, g1, g3], ⟨nf, pf, lf, cf, xf, rfl, hzf, hnf⟩⟩
      · refine wpOp_list rfl ?_
        simp only [tmOf, putAll, List.map_cons, List.map_nil, List.setIfInBounds_toArray, List.set_cons_zero, List.set_cons_succ]
        go_wp2
        refine ⟨.pointer (some ⟨w.heap.size, 4, none⟩), ?_⟩
        simp [upd, Below.refl]
      · have g5 : f 5 = .pointer (some ⟨w.heap.size, 4, none⟩) := hd 5 (by kernel_rfl)
        refine wpOp_list rfl ?_
        simp only [tmOf, putAll, List.map_cons, List.map_nil, List.setIfInBounds_toArray, List.set_cons_zero, List.set_cons_succ]
        go_wp2
        refine ⟨.agg #[.bool (a 2), .slice (p 2) (n 2) (c 2)], ?_⟩
        simp [upd, g5, Below.refl]
      · refine wpOp_list rfl ?_
        simp only [tmOf, putAll, List.map_cons, List.map_nil, List.setIfInBounds_toArray, List.set_cons_zero, List.set_cons_succ]
        go_wp2
        refine ⟨.pointer (some ⟨w.heap.size, 6, none⟩), ?_⟩
        simp [upd, Below.refl]
      · have g7 : f 7 = .pointer (some ⟨w.heap.size, 6, none⟩) := hd 7 (by kernel_rfl)
        refine wpOp_list rfl ?_
        simp only [tmOf, putAll, List.map_cons, List.map_nil, List.setIfInBounds_toArray, List.set_cons_zero, List.set_cons_succ]
        go_wp2
        refine ⟨.agg #[.bool (a 3), .slice (p 3) (n 3) (c 3)], ?_⟩
        simp [upd, g7, Below.refl]
      · have g6 : f 6 = .agg #[.bool (a 2), .slice (p 2) (n 2) (c 2)] := hd 6 (by kernel_rfl)
        have g8 : f 8 = .agg #[.bool (a 3), .slice (p 3) (n 3) (c 3)] := hd 8 (by kernel_rfl)
        refine wpOp_list rfl ?_
        simp only [tmOf, putAll, List.map_cons, List.map_nil, List.setIfInBounds_toArray, List.set_cons_zero, List.set_cons_succ]
        go_wp2_with fail
        refine (rgcd_any _ _ _ _ _ _ _ _ (xs 2) (xs 3) _ _ _ (HN.out 2 (by decide)) (HN.out 3 (by decide)) ((HZ.out 2 (by decide)).below hbw) ((HZ.out 3 (by decide)).below hbw)).mono ?_
        rintro e' wf ⟨nf, pf, lf, cf, xf, rfl, hzf, hnf, hbf⟩
        go_wp2_with fail
        first
          | exact ⟨.agg #[.bool nf, .slice pf lf cf], by simp [upd, g6, g8], ⟨nf, pf, lf, cf, xf, rfl, hzf, hnf⟩, hbf⟩
          | exact ⟨.agg #[.bool nf, .slice pf lf cf], by simp [upd, g6, g8], ⟨nf, pf, lf, cf, xf, rfl, hzf, hnf⟩⟩
      · obtain ⟨na, pa, la, ca, xa, g4, hza, hna⟩ : IsN ww (f 4) ((Int.gcd (z 0) (z 1) : Nat) : Int) := hd 4 (by kernel_rfl)
        obtain ⟨nb, pb, lb, cb, xb, g9, hzb, hnb⟩ : IsN ww (f 9) ((Int.gcd (z 2) (z 3) : Nat) : Int) := hd 9 (by kernel_rfl)
        refine wpOp_list rfl ?_
        simp only [tmOf, putAll, List.map_cons, List.map_nil, List.setIfInBounds_toArray, List.set_cons_zero, List.set_cons_succ]
        have hgg := rgcd_any _ _ _ _ _ _ _ _ xa xb _ _ ww hna hnb hza hzb
        rw [HG.out] at hgg
        have HGG := Lib.hid hgg
        clear hgg
        go_wp2_with fail
        refine (HGG.out).mono ?_
        rintro e' wf ⟨nf, pf, lf, cf, xf, rfl, hzf, hnf, hbf⟩
        go_wp2_with fail
        first
          | exact ⟨.agg #[.bool nf, .slice pf lf cf], by simp [upd, g4, g9], ⟨nf, pf, lf, cf, xf, rfl, hzf, hnf⟩, hbf⟩
          | exact ⟨.agg #[.bool nf, .slice pf lf cf], by simp [upd, g4, g9], ⟨nf, pf, lf, cf, xf, rfl, hzf, hnf⟩⟩
      · refine wpOp_list rfl ?_
        simp only [tmOf, putAll, List.map_cons, List.map_nil, List.setIfInBounds_toArray, List.set_cons_zero, List.set_cons_succ]
        go_wp2
        exact ⟨.pointer (some ⟨ww.heap.size, 0, none⟩), by simp [upd], ⟨_, rfl, hS.size, Blk.new _ _ _⟩, (Below.refl _ ww).alloc (Nat.le_refl _) _⟩
      · omega
    · rintro f ww hS hd
      obtain ⟨nc, pc, lc, cc, xc, g10, hzc, hnc⟩ : IsN ww (f 10) (G : Int) := hd 10 (by decide)
      obtain ⟨b4, g11, hb4, hk4⟩ : ∃ b, f 11 = .pointer (some ⟨b, 0, none⟩) ∧ w1.heap.size ≤ b ∧ Blk ww b #[.bool false, .slice none 0 0] 109 := hd 11 (by decide)
      have d0 := hk4.cell (i := 0) rfl
      have d1 := hk4.cell (i := 1) rfl
      have q0 := hk4.frozen 0
      have q1 := hk4.frozen 1
      simp only [seqW, tmOf, putAll, List.map_cons, List.map_nil, List.setIfInBounds_toArray, List.set_cons_zero, List.set_cons_succ, List.length_cons, List.length_nil]
      refine wpOp_list rfl ?_
      go_wp2
      go_meet
      case rel => exact ⟨b4, nc, pc, lc, cc, xc, rfl, hb4, (hk4.set_eq 0 (.bool nc) rfl).set_eq 1 (.slice pc lc cc) rfl, hzc.setBox hk4 nc (.slice pc lc cc), hnc, (hS.setCell (p := ⟨b4, 0, none⟩) hb4 _).setCell (p := ⟨b4, 1, none⟩) hb4 _⟩
  case rest =>
  obtain ⟨b, gn, gp, gl, gc, gx, rfl, hbN, kb, hgn, hgl, hb2⟩ := hcut
  have k0 := k0.kept hb2
  have kR := kR.kept hb2
  have hbW := hb1.trans (hb2.mono hb1.size)
  have HGN := Lib.hid hgn
  clear hgn hb1 hb2 hw1
  have hN1 : w.heap.size + 1 < wc.heap.size := kR.lt
  have hbL : b < wc.heap.size := kb.lt
  obtain ⟨w3, hw3⟩ : ∃ w3, wc.alloc (.cells #[.int .i64 0, .int .i64 0, .int .i64 0, .int .i64 0] 22) = w3 := ⟨_, rfl⟩
  have hb3 : Below wc.heap.size wc w3 := by rw [← hw3]; exact (Below.refl _ _).alloc (Nat.le_refl _) _
  have kO : Blk w3 wc.heap.size #[.int .i64 0, .int .i64 0, .int .i64 0, .int .i64 0] 22 := by rw [← hw3]; exact Blk.new _ _ _
  go_wp2_with fail
  go_loopg [6] 4 (fun gk v6 wr => ∃ (i : Nat) (r : Nat → Int), i ≤ 4 ∧ gk = 4 - i ∧ v6 = .int .i64 (i : Int) ∧ Hid (∀ j, j < i → inI64 (z j / (G : Int)) = true ∧ r j = z j / (G : Int)) ∧ Blk wr wc.heap.size #[.int .i64 (r 0), .int .i64 (r 1), .int .i64 (r 2), .int .i64 (r 3)] 22 ∧ Below wc.heap.size wc wr)
  case atStart => exact ⟨0, fun _ => 0, by decide, rfl, rfl, fun j hj => absurd hj (by omega), kO, hb3⟩
  case round =>
    obtain ⟨i, r, hi, hgk, rfl, HI, kO, hbx⟩ := hrel
    have HGK := Lib.hid hgk
    clear hgk hb3 hw3
    by_cases hlt : i < 4
    · have hlti : (i : Int) < 4 := by omega
      go_upto_region 6 with fail
      go_cut [7, 8] from 26 to 33 (fun v7 v8 wx => ∃ b7 b8 a1 p1 n1 c1 xs1, v7 = .pointer (some ⟨b7, 0, none⟩) ∧ v8 = .pointer (some ⟨b8, 0, none⟩) ∧ Blk wx b7 #[.bool a1, .slice p1 n1 c1] 109 ∧ RIs wx a1 p1 n1 c1 xs1 (z i / (G : Int)) ∧ Below wr.heap.size wr wx)
      case first =>
        refine wp_region_def2R 8 6 7 (fun ix v u => match ix with | 0 => v = .int .i64 (i : Int) | 1 => v = .pointer (some ⟨w.heap.size, i * 2, none⟩) | 2 => v = .agg #[.bool (a i), .slice (p i) (n i) (c i)] | 3 => v = .agg #[.bool gn, .slice gp gl gc] | 4 => IsD u v (z i / (G : Int)) (z i % (G : Int)) | 5 => IsD u v (z i / (G : Int)) (z i % (G : Int)) | 6 => IsQ u v (z i / (G : Int)) | _ => IsS v) #[.bool false, .slice none 0 0] 109 (by kernel_rfl) (by kernel_rfl) rfl (by decide) (by decide) (by kernel_rfl) (by kernel_rfl) ?_ ?_ (by kernel_rfl) (by kernel_rfl) ?_ ?_ ?_ ?_ ?_
        · intro ix v w8 w9 hb9 h
          rcases ix with _ | _ | _ | _ | _ | _ | _ | ix
          · exact h
          · exact h
          · exact h
          · exact h
          · obtain ⟨a1, p1, n1, c1, xs1, a2, p2, n2, c2, xs2, e, h1, h2⟩ := h; exact ⟨a1, p1, n1, c1, xs1, a2, p2, n2, c2, xs2, e, h1.below hb9, h2.below hb9⟩
          · obtain ⟨a1, p1, n1, c1, xs1, a2, p2, n2, c2, xs2, e, h1, h2⟩ := h; exact ⟨a1, p1, n1, c1, xs1, a2, p2, n2, c2, xs2, e, h1.below hb9, h2.below hb9⟩
          · obtain ⟨a1, p1, n1, c1, xs1, e, h1⟩ := h; exact ⟨a1, p1, n1, c1, xs1, e, h1.below hb9⟩
          · exact h
        · intro ix v w8 b' v0 v1 hB h
          rcases ix with _ | _ | _ | _ | _ | _ | _ | ix
          · exact h
          · exact h
          · exact h
          · exact h
          · obtain ⟨a1, p1, n1, c1, xs1, a2, p2, n2, c2, xs2, e, h1, h2⟩ := h; exact ⟨a1, p1, n1, c1, xs1, a2, p2, n2, c2, xs2, e, h1.setZ hB v0 v1, h2.setZ hB v0 v1⟩
          · obtain ⟨a1, p1, n1, c1, xs1, a2, p2, n2, c2, xs2, e, h1, h2⟩ := h; exact ⟨a1, p1, n1, c1, xs1, a2, p2, n2, c2, xs2, e, h1.setZ hB v0 v1, h2.setZ hB v0 v1⟩
          · obtain ⟨a1, p1, n1, c1, xs1, e, h1⟩ := h; exact ⟨a1, p1, n1, c1, xs1, e, h1.setZ hB v0 v1⟩
          · exact h
        · rintro ix hx f ww hS hd
          have hbw := hbx.trans (hS.mono hbx.size)
          have ka := k0.kept hbw
          obtain ⟨e0_, e1_⟩ := num8_at ka hlt
          have kg_ := kb.kept hbw
          have e2_ := kg_.cell (i := 0) rfl
          have e3_ := kg_.cell (i := 1) rfl
          rcases ix with _ | _ | _ | _ | _ | _ | _ | _ | ix
          · refine wpOp_list rfl ?_
            simp only [tmOf, putAll, List.map_cons, List.map_nil, List.setIfInBounds_toArray, List.set_cons_zero, List.set_cons_succ]
            go_wp2
            refine ⟨.int .i64 (i : Int), ?_⟩
            simp [upd, Below.refl]
          · have g0 : f 0 = .int .i64 (i : Int) := hd 0 (by decide) (by kernel_rfl)
            refine wpOp_list rfl ?_
            simp only [tmOf, putAll, List.map_cons, List.map_nil, List.setIfInBounds_toArray, List.set_cons_zero, List.set_cons_succ]
            go_wp2
            refine ⟨.pointer (some ⟨w.heap.size, i * 2, none⟩), ?_⟩
            simp [upd, g0, Below.refl]
          · have g1 : f 1 = .pointer (some ⟨w.heap.size, i * 2, none⟩) := hd 1 (by decide) (by kernel_rfl)
            refine wpOp_list rfl ?_
            simp only [tmOf, putAll, List.map_cons, List.map_nil, List.setIfInBounds_toArray, List.set_cons_zero, List.set_cons_succ]
            go_wp2
            refine ⟨.agg #[.bool (a i), .slice (p i) (n i) (c i)], ?_⟩
            simp [upd, g1, Below.refl]
          · refine wpOp_list rfl ?_
            simp only [tmOf, putAll, List.map_cons, List.map_nil, List.setIfInBounds_toArray, List.set_cons_zero, List.set_cons_succ]
            go_wp2
            refine ⟨.agg #[.bool gn, .slice gp gl gc], ?_⟩
            simp [upd, Below.refl]
          · have g2 : f 2 = .agg #[.bool (a i), .slice (p i) (n i) (c i)] := hd 2 (by decide) (by kernel_rfl)
            have g3 : f 3 = .agg #[.bool gn, .slice gp gl gc] := hd 3 (by decide) (by kernel_rfl)
            refine wpOp_list rfl ?_
            simp only [tmOf, putAll, List.map_cons, List.map_nil, List.setIfInBounds_toArray, List.set_cons_zero, List.set_cons_succ]
            go_wp2_with fail
            refine (rdiv_any _ _ _ _ _ _ _ _ (xs i) gx _ _ _ (HN.out i hlt) hgl ((HZ.out i hlt).below (hbW.trans (hbw.mono hbW.size))) (HGN.out.below hbw) HG0.out).mono ?_
            rintro e' wf ⟨a1, p1, n1, c1, xs1, a2, p2, n2, c2, xs2, rfl, hq1, hq2, hbf⟩
            go_wp2_with fail
            first
              | exact ⟨_, by simp [upd, g2, g3]; rfl, ⟨a1, p1, n1, c1, xs1, a2, p2, n2, c2, xs2, rfl, hq1, hq2⟩, hbf⟩
              | exact ⟨.tuple #[.agg #[.bool a1, .slice p1 n1 c1], .agg #[.bool a2, .slice p2 n2 c2]], by simp [upd, g2, g3], ⟨a1, p1, n1, c1, xs1, a2, p2, n2, c2, xs2, rfl, hq1, hq2⟩⟩
              | exact ⟨.tuple #[.agg #[.bool a1, .slice p1 n1 c1], .agg #[.bool a2, .slice p2 n2 c2]], by simp [upd, g2, g3], ⟨a1, p1, n1, c1, xs1, a2, p2, n2, c2, xs2, rfl, hq1, hq2⟩, hbf⟩
          · obtain ⟨a1, p1, n1, c1, xs1, a2, p2, n2, c2, xs2, g4, hq1, hq2⟩ : ∃ a1 p1 n1 c1 xs1 a2 p2 n2 c2 xs2, f 4 = .tuple #[.agg #[.bool a1, .slice p1 n1 c1], .agg #[.bool a2, .slice p2 n2 c2]] ∧ RIs ww a1 p1 n1 c1 xs1 (z i / (G : Int)) ∧ RIs ww a2 p2 n2 c2 xs2 (z i % (G : Int)) := hd 4 (by decide) (by kernel_rfl)
            refine wpOp_list rfl ?_
            simp only [tmOf, putAll, List.map_cons, List.map_nil, List.setIfInBounds_toArray, List.set_cons_zero, List.set_cons_succ]
            go_wp2
            exact ⟨.tuple #[.agg #[.bool a1, .slice p1 n1 c1], .agg #[.bool a2, .slice p2 n2 c2]], by simp [upd, g4], ⟨a1, p1, n1, c1, xs1, a2, p2, n2, c2, xs2, rfl, hq1, hq2⟩, Below.refl _ _⟩
          · obtain ⟨a1, p1, n1, c1, xs1, a2, p2, n2, c2, xs2, g5, hq1, hq2⟩ : ∃ a1 p1 n1 c1 xs1 a2 p2 n2 c2 xs2, f 5 = .tuple #[.agg #[.bool a1, .slice p1 n1 c1], .agg #[.bool a2, .slice p2 n2 c2]] ∧ RIs ww a1 p1 n1 c1 xs1 (z i / (G : Int)) ∧ RIs ww a2 p2 n2 c2 xs2 (z i % (G : Int)) := hd 5 (by decide) (by kernel_rfl)
            refine wpOp_list rfl ?_
            simp only [tmOf, putAll, List.map_cons, List.map_nil, List.setIfInBounds_toArray, List.set_cons_zero, List.set_cons_succ]
            go_wp2
            exact ⟨.agg #[.bool a1, .slice p1 n1 c1], by simp [upd, g5], ⟨a1, p1, n1, c1, xs1, rfl, hq1⟩, Below.refl _ _⟩
          · obtain ⟨a1, p1, n1, c1, xs1, a2, p2, n2, c2, xs2, g5, hq1, hq2⟩ : ∃ a1 p1 n1 c1 xs1 a2 p2 n2 c2 xs2, f 5 = .tuple #[.agg #[.bool a1, .slice p1 n1 c1], .agg #[.bool a2, .slice p2 n2 c2]] ∧ RIs ww a1 p1 n1 c1 xs1 (z i / (G : Int)) ∧ RIs ww a2 p2 n2 c2 xs2 (z i % (G : Int)) := hd 5 (by decide) (by kernel_rfl)
            refine wpOp_list rfl ?_
            simp only [tmOf, putAll, List.map_cons, List.map_nil, List.setIfInBounds_toArray, List.set_cons_zero, List.set_cons_succ]
            go_wp2
            exact ⟨.agg #[.bool a2, .slice p2 n2 c2], by simp [upd, g5], ⟨a2, p2, n2, c2, rfl⟩, Below.refl _ _⟩
          · omega
        · rintro ix (rfl | rfl) f ww
          · refine wpOp_list rfl ?_
            simp only [tmOf, putAll, List.map_cons, List.map_nil, List.setIfInBounds_toArray, List.set_cons_zero, List.set_cons_succ]
            go_wp2
            simp [upd]
          · refine wpOp_list rfl ?_
            simp only [tmOf, putAll, List.map_cons, List.map_nil, List.setIfInBounds_toArray, List.set_cons_zero, List.set_cons_succ]
            go_wp2
            simp [upd]
        · rintro f ww b0 hd hf hB
          obtain ⟨a1, p1, n1, c1, xs1, g6, hq1⟩ : ∃ a1 p1 n1 c1 xs1, f 6 = .agg #[.bool a1, .slice p1 n1 c1] ∧ RIs ww a1 p1 n1 c1 xs1 (z i / (G : Int)) := hd 6 (by decide) (by kernel_rfl)
          have e0 := hB.cell (i := 0) rfl
          have e1 := hB.cell (i := 1) rfl
          have e2 := hB.frozen 0
          have e3 := hB.frozen 1
          rw [g6]
          refine wpOp_list rfl ?_
          simp only [tmOf, putAll, List.map_cons, List.map_nil, List.setIfInBounds_toArray, List.set_cons_zero, List.set_cons_succ]
          go_wp2
        · rintro f ww b0 hd hf hB
          obtain ⟨a1, p1, n1, c1, g7⟩ : ∃ a1 p1 n1 c1, f 7 = .agg #[.bool a1, .slice p1 n1 c1] := hd 7 (by decide) (by kernel_rfl)
          have e0 := hB.cell (i := 0) rfl
          have e1 := hB.cell (i := 1) rfl
          have e2 := hB.frozen 0
          have e3 := hB.frozen 1
          rw [g7]
          refine wpOp_list rfl ?_
          simp only [tmOf, putAll, List.map_cons, List.map_nil, List.setIfInBounds_toArray, List.set_cons_zero, List.set_cons_succ]
          go_wp2
        · rintro f ww b0 b1 hS hne hg0 hg1 hf0 hf1 hB0 hB1 hall
          obtain ⟨a1, p1, n1, c1, xs1, g6, hq1⟩ : ∃ a1 p1 n1 c1 xs1, f 6 = .agg #[.bool a1, .slice p1 n1 c1] ∧ RIs ww a1 p1 n1 c1 xs1 (z i / (G : Int)) := hall 6 (by decide)
          rw [g6] at hB0
          simp only [tmOf, putAll, List.map_cons, List.map_nil, List.setIfInBounds_toArray, List.set_cons_zero, List.set_cons_succ]
          refine ‹∀ (a' : Act) (w' : World), Met _ a' w' → _› _ _ ?_
          go_meet
          case rel => exact ⟨b0, b1, a1, p1, n1, c1, xs1, hf0, hf1, hB0, hq1, hS⟩
      case rest =>
      obtain ⟨b7, b8, a1, p1, n1, c1, xs1, rfl, rfl, kq, hq1, hb7⟩ := hcut
      have kO := kO.kept hb7
      have hbx := hbx.trans (hb7.mono hbx.size)
      have HQ := Lib.hid hq1
      have s0 := kq.cell (i := 0) rfl
      have s1 := kq.cell (i := 1) rfl
      clear hq1 hb7
      go_wp2_with fail
      have hln : n1 ≤ 1000000000 := by
        have h1 := HQ.out.len_le (Nat.lt_of_le_of_lt (Int.natAbs_ediv_le_natAbs _ _) (HZ.out i hlt).lt)
        have h2 := HN.out i hlt
        omega
      obtain ⟨q, hq⟩ : ∃ q, z i / (G : Int) = q := ⟨_, rfl⟩
      have hHQ := HQ.out
      rw [hq] at hHQ
      have hri := fun W hb => rint_any a1 p1 n1 c1 xs1 q W hln (hHQ.below hb)
      obtain ⟨t, ht⟩ : ∃ t, inI64 q = t := ⟨_, rfl⟩
      have hv : t = true → intV q = q := fun h => by unfold intV; rw [ht, h]; rfl
      unfold IntOut at hri
      rw [ht] at hri
      obtain ⟨v, hve⟩ : ∃ v, intV q = v := ⟨_, rfl⟩
      rw [hve] at hri hv
      have HRI := Lib.hid hri
      have HV := Lib.hid (And.intro hv (And.intro hq ht))
      clear hri hv hve ht hq hHQ hln HQ
      refine (HRI.out _ (Below.refl _ _)).mono ?_
      rintro e' w5 ⟨rfl, hb5⟩
      have kO := kO.kept hb5
      have hbx := hbx.trans (hb5.mono hbx.size)
      have fo := kO.frozen i
      have co := int4_at kO hlt
      clear s0 s1 hb5 HRI kq
      cases t
      · have HOK := Lib.hid (HF.out i hlt (by rw [HV.out.2.1]; exact HV.out.2.2))
        have kR := kR.kept hbx
        have d0 := kO.cell (i := 0) rfl
        have d1 := kO.cell (i := 1) rfl
        have d2 := kO.cell (i := 2) rfl
        have d3 := kO.cell (i := 3) rfl
        have e0 := kR.cell (i := 0) rfl
        have e1 := kR.cell (i := 1) rfl
        have e2 := kR.cell (i := 2) rfl
        have e3 := kR.cell (i := 3) rfl
        have q0 := kR.frozen 0
        have q1 := kR.frozen 1
        have q2 := kR.frozen 2
        have q3 := kR.frozen 3
        clear HV co fo
        go_wp2_with fail
        have L := Blk.put4 kR (.int .i64 (r 0)) (.int .i64 (r 1)) (.int .i64 (r 2)) (.int .i64 (r 3))
        have y0 := L.cell (i := 0) rfl
        have y1 := L.cell (i := 1) rfl
        have y2 := L.cell (i := 2) rfl
        have y3 := L.cell (i := 3) rfl
        refine bodyPost_ret (v := .tuple #[.agg #[.int .i64 (r 0), .int .i64 (r 1), .int .i64 (r 2), .int .i64 (r 3)], .bool false]) (by simp [results, Tryz.results69, go_sem, y0, y1, y2, y3]) rfl ⟨⟨r 0, r 1, r 2, r 3⟩, by rw [HOK.out], fun h => ?_, ?_⟩
        · rw [HOK.out] at h; cases h
        · exact ((((hbW.trans (hbx.mono hbW.size)).setCell (by simp only; omega) _).setCell (by simp only; omega) _).setCell (by simp only; omega) _).setCell (by simp only; omega) _
      · have hvq : v = q := HV.out.1 rfl
        subst hvq
        go_wp2_with fail
        go_roundg (4 - (i + 1))
        case measure => rw [HGK.out]; omega
        case rel =>
          refine ⟨i + 1, fun j => if j = i then v else r j, by omega, rfl, by go_num, ?_, kO.set_eq i _ (int4_set hlt v), hbx.setCell (by simp only; omega) _⟩
          intro j hj
          show inI64 (z j / (G : Int)) = true ∧ (if j = i then v else r j) = z j / (G : Int)
          by_cases hji : j = i
          · subst hji; rw [if_pos rfl, HV.out.2.1]; exact ⟨HV.out.2.2, rfl⟩
          · rw [if_neg hji]; exact HI.out j (by omega)
    · obtain rfl : i = 4 := by omega
      have HOK := Lib.hid (HT.out (fun j hj => (HI.out j hj).1))
      have kR := kR.kept hbx
      have d0 := kO.cell (i := 0) rfl
      have d1 := kO.cell (i := 1) rfl
      have d2 := kO.cell (i := 2) rfl
      have d3 := kO.cell (i := 3) rfl
      have e0 := kR.cell (i := 0) rfl
      have e1 := kR.cell (i := 1) rfl
      have e2 := kR.cell (i := 2) rfl
      have e3 := kR.cell (i := 3) rfl
      have q0 := kR.frozen 0
      have q1 := kR.frozen 1
      have q2 := kR.frozen 2
      have q3 := kR.frozen 3
      go_wp2_with fail
      have L := Blk.put4 kR (.int .i64 (r 0)) (.int .i64 (r 1)) (.int .i64 (r 2)) (.int .i64 (r 3))
      have y0 := L.cell (i := 0) rfl
      have y1 := L.cell (i := 1) rfl
      have y2 := L.cell (i := 2) rfl
      have y3 := L.cell (i := 3) rfl
      refine bodyPost_ret (v := .tuple #[.agg #[.int .i64 (r 0), .int .i64 (r 1), .int .i64 (r 2), .int .i64 (r 3)], .bool true]) (by simp [results, Tryz.results69, go_sem, y0, y1, y2, y3]) rfl ⟨⟨r 0, r 1, r 2, r 3⟩, by rw [HOK.out], fun _ => ?_, ?_⟩
      · rw [(HI.out 0 (by decide)).2, (HI.out 1 (by decide)).2, (HI.out 2 (by decide)).2, (HI.out 3 (by decide)).2]
      · exact ((((hbW.trans (hbx.mono hbW.size)).setCell (by simp only; omega) _).setCell (by simp only; omega) _).setCell (by simp only; omega) _).setCell (by simp only; omega) _

end Go.Proofs.YtimkeblcdodfmaaGreat

namespace Go.Proofs.YtimkeblcdodfmaaGreat
open Go.RowKit Go.Shelf
attribute [local go_sem] Oper.semAt_some

def pick4 {α : Type} (x0 x1 x2 x3 : α) (i : Nat) : α := match i with | 0 => x0 | 1 => x1 | 2 => x2 | _ => x3
def ok4 (z0 z1 z2 z3 : Int) : Bool := inI64 (low4 z0 z1 z2 z3 z0) && (inI64 (low4 z0 z1 z2 z3 z1) && (inI64 (low4 z0 z1 z2 z3 z2) && inI64 (low4 z0 z1 z2 z3 z3)))

theorem reduced4 {a0 a1 a2 a3 : Bool} {p0 p1 p2 p3 : Option Addr} {n0 n1 n2 n3 c0 c1 c2 c3 : Nat} {x0 x1 x2 x3 : List Nat} {z0 z1 z2 z3 : Int} (w : World) (h0 : RIs w a0 p0 n0 c0 x0 z0) (h1 : RIs w a1 p1 n1 c1 x1 z1) (h2 : RIs w a2 p2 n2 c2 x2 z2) (h3 : RIs w a3 p3 n3 c3 x3 z3)
    (l0 : n0 ≤ 100000) (l1 : n1 ≤ 100000) (l2 : n2 ≤ 100000) (l3 : n3 ≤ 100000) (hz : ¬ (z0 = 0 ∧ z1 = 0 ∧ z2 = 0)) :
    Calls Tryz.prog 69 #[.agg #[.bool a0, .slice p0 n0 c0, .bool a1, .slice p1 n1 c1, .bool a2, .slice p2 n2 c2, .bool a3, .slice p3 n3 c3]] w fun e w' => ∃ q : V4, e = .returned (.tuple #[.agg #[.int .i64 q.a, .int .i64 q.b, .int .i64 q.c, .int .i64 q.d], .bool (ok4 z0 z1 z2 z3)]) ∧ (ok4 z0 z1 z2 z3 = true → q = ⟨low4 z0 z1 z2 z3 z0, low4 z0 z1 z2 z3 z1, low4 z0 z1 z2 z3 z2, low4 z0 z1 z2 z3 z3⟩) ∧ Below w.heap.size w w' := by
  have hr : ∀ i, i < 4 → RIs w (pick4 a0 a1 a2 a3 i) (pick4 p0 p1 p2 p3 i) (pick4 n0 n1 n2 n3 i) (pick4 c0 c1 c2 c3 i) (pick4 x0 x1 x2 x3 i) (pick4 z0 z1 z2 z3 i) := by
    intro i hi
    have h4 : i = 0 ∨ i = 1 ∨ i = 2 ∨ i = 3 := by omega
    rcases h4 with rfl | rfl | rfl | rfl
    · exact h0
    · exact h1
    · exact h2
    · exact h3
  have hl : ∀ i, i < 4 → pick4 n0 n1 n2 n3 i ≤ 100000 := by
    intro i hi
    have h4 : i = 0 ∨ i = 1 ∨ i = 2 ∨ i = 3 := by omega
    rcases h4 with rfl | rfl | rfl | rfl
    · exact l0
    · exact l1
    · exact l2
    · exact l3
  exact reduced_any (pick4 a0 a1 a2 a3) (pick4 p0 p1 p2 p3) (pick4 n0 n1 n2 n3) (pick4 c0 c1 c2 c3) (pick4 x0 x1 x2 x3) (pick4 z0 z1 z2 z3) w hr hl hz

set_option maxRecDepth 100000 in
set_option maxHeartbeats 8000000 in
theorem rmake_some (a b c d : Int) (w : World) (h0 : ¬ (a = 0 ∧ b = 0 ∧ c = 0)) (ha : InI64 a) (hb : InI64 b) (hc : InI64 c) (hd : InI64 d) :
    Calls Tryz.prog 35 #[.int .i64 a, .int .i64 b, .int .i64 c, .int .i64 d] w fun e w' => e = .returned (.tuple #[if MakeOk a b c d then .agg #[.int .i64 (low4 a b c d a), .int .i64 (low4 a b c d b), .int .i64 (low4 a b c d c), .int .i64 (low4 a b c d d)] else .agg #[.int .i64 0, .int .i64 0, .int .i64 0, .int .i64 0], .int .i64 (errE (decide (MakeOk a b c d)) 2)]) ∧ Below w.heap.size w w' := by
  have hdv := g4_dvd a b c d
  have ia : InI64 (low4 a b c d a) := by rw [← tdiv_low a b c d a hdv.1]; exact tdiv_in _ ha
  have ib : InI64 (low4 a b c d b) := by rw [← tdiv_low a b c d b hdv.2.1]; exact tdiv_in _ hb
  have ic : InI64 (low4 a b c d c) := by rw [← tdiv_low a b c d c hdv.2.2.1]; exact tdiv_in _ hc
  have id' : InI64 (low4 a b c d d) := by rw [← tdiv_low a b c d d hdv.2.2.2]; exact tdiv_in _ hd
  have hin : ∀ z, InI64 z → inI64 z = true := fun z h => by unfold InI64 at h; unfold inI64; simp; omega
  have hok : ok4 a b c d = true := by unfold ok4; rw [hin _ ia, hin _ ib, hin _ ic, hin _ id']; rfl
  have hrt := fun W => right3_any _ _ _ _ W ia ib ic id'
  have em : MakeOk a b c d ↔ RightP (low4 a b c d a) (low4 a b c d b) (low4 a b c d c) (low4 a b c d d) := Iff.rfl
  rw [show decide (MakeOk a b c d) = decide (RightP (low4 a b c d a) (low4 a b c d b) (low4 a b c d c) (low4 a b c d d)) from decide_eq_decide.2 em, ite_iff em]
  obtain ⟨t, ht⟩ : ∃ t, decide (RightP (low4 a b c d a) (low4 a b c d b) (low4 a b c d c) (low4 a b c d d)) = t := ⟨_, rfl⟩
  obtain ⟨VV, hVV⟩ : ∃ VV, (if RightP (low4 a b c d a) (low4 a b c d b) (low4 a b c d c) (low4 a b c d d) then Value.agg #[.int .i64 (low4 a b c d a), .int .i64 (low4 a b c d b), .int .i64 (low4 a b c d c), .int .i64 (low4 a b c d d)] else .agg #[.int .i64 0, .int .i64 0, .int .i64 0, .int .i64 0]) = VV := ⟨_, rfl⟩
  have hV : VV = if t = true then Value.agg #[.int .i64 (low4 a b c d a), .int .i64 (low4 a b c d b), .int .i64 (low4 a b c d c), .int .i64 (low4 a b c d d)] else .agg #[.int .i64 0, .int .i64 0, .int .i64 0, .int .i64 0] := by
    rw [← hVV, ← ht]; by_cases h : RightP (low4 a b c d a) (low4 a b c d b) (low4 a b c d c) (low4 a b c d d)
    · rw [if_pos h, decide_eq_true h]; rfl
    · rw [if_neg h, decide_eq_false h]; rfl
  obtain ⟨EV, hEV⟩ : ∃ E, errE (decide (RightP (low4 a b c d a) (low4 a b c d b) (low4 a b c d c) (low4 a b c d d))) 2 = E := ⟨_, rfl⟩
  have hE : EV = errE t 2 := by rw [← hEV, ht]
  rw [hVV, hEV]
  rw [ht] at hrt
  have hred := fun a0 a1 a2 a3 p0 p1 p2 p3 n0 n1 n2 n3 c0 c1 c2 c3 x0 x1 x2 x3 W h1 h2 h3 h4 l1 l2 l3 l4 => reduced4 (a0 := a0) (a1 := a1) (a2 := a2) (a3 := a3) (p0 := p0) (p1 := p1) (p2 := p2) (p3 := p3) (n0 := n0) (n1 := n1) (n2 := n2) (n3 := n3) (c0 := c0) (c1 := c1) (c2 := c2) (c3 := c3) (x0 := x0) (x1 := x1) (x2 := x2) (x3 := x3) (z0 := a) (z1 := b) (z2 := c) (z3 := d) W h1 h2 h3 h4 l1 l2 l3 l4 h0
  rw [hok] at hred
  obtain ⟨r0, hr0⟩ : ∃ r, low4 a b c d a = r := ⟨_, rfl⟩
  obtain ⟨r1, hr1⟩ : ∃ r, low4 a b c d b = r := ⟨_, rfl⟩
  obtain ⟨r2, hr2⟩ : ∃ r, low4 a b c d c = r := ⟨_, rfl⟩
  obtain ⟨r3, hr3⟩ : ∃ r, low4 a b c d d = r := ⟨_, rfl⟩
  rw [hr0, hr1, hr2, hr3] at hred hrt hV
  have HRED := Lib.hid hred
  have HRT := Lib.hid hrt
  have HVE := Lib.hid (And.intro hV hE)
  have H0 := Lib.hid h0
  have HI := Lib.hid (And.intro ha (And.intro hb (And.intro hc hd)))
  clear hred hrt hV hE hVV hEV ht em hok hin ia ib ic id' hdv h0 ha hb hc hd hr0 hr1 hr2 hr3
  obtain ⟨w1, hw1⟩ : ∃ w1, w.alloc (.cells #[.int .i64 0, .int .i64 0, .int .i64 0, .int .i64 0] 23) = w1 := ⟨_, rfl⟩
  have hb1 : Below w.heap.size w w1 := by rw [← hw1]; exact (Below.refl _ w).alloc (Nat.le_refl _) _
  have kR : Blk w1 w.heap.size #[.int .i64 0, .int .i64 0, .int .i64 0, .int .i64 0] 23 := by rw [← hw1]; exact Blk.new _ _ _
  go_enter Tryz.func35, Tryz.ntmps35
  go_upto_region 1 with fail
  go_cut [21] from 12 to 21 (fun v21 wx => v21 = .bool false ∧ Hid (w1 = wx))
  case first =>
    by_cases ha : a = 0
    · have ha' : (a == 0) = true := by simp [ha]
      by_cases hb : b = 0
      · have hb' : (b == 0) = true := by simp [hb]
        have hc : ¬ c = 0 := fun e => H0.out ⟨ha, hb, e⟩
        have hc' : (c == 0) = false := by simp [hc]
        clear ha hb hc
        go_wp2_with fail
        go_meet
        case rel => exact ⟨rfl, rfl⟩
      · have hb' : (b == 0) = false := by simp [hb]
        clear ha hb
        go_wp2_with fail
        go_meet
        case rel => exact ⟨rfl, rfl⟩
    · have ha' : (a == 0) = false := by simp [ha]
      clear ha
      go_wp2_with fail
      go_meet
      case rel => exact ⟨rfl, rfl⟩
  case rest =>
  obtain ⟨rfl, hcut⟩ := hcut
  obtain rfl := hcut.out
  clear H0 hw1 hcut
  go_wp2_with fail
  refine (from_any a HI.out.1.1 (by have := HI.out.1.2; omega) _).mono ?_
  rintro e' w2 ⟨g0, p0, n0, c0, x0, rfl, hz0, hl0, hb2⟩
  go_wp2_with fail
  refine (from_any b HI.out.2.1.1 (by have := HI.out.2.1.2; omega) _).mono ?_
  rintro e' w3 ⟨g1, p1, n1, c1, x1, rfl, hz1, hl1, hb3⟩
  go_wp2_with fail
  refine (from_any c HI.out.2.2.1.1 (by have := HI.out.2.2.1.2; omega) _).mono ?_
  rintro e' w4 ⟨g2, p2, n2, c2, x2, rfl, hz2, hl2, hb4⟩
  go_wp2_with fail
  refine (from_any d HI.out.2.2.2.1 (by have := HI.out.2.2.2.2; omega) _).mono ?_
  rintro e' w5 ⟨g3, p3, n3, c3, x3, rfl, hz3, hl3, hb5⟩
  have h0 := ((hz0.below hb3).below hb4).below hb5
  have h1 := (hz1.below hb4).below hb5
  have h2 := hz2.below hb5
  have HA := Lib.hid (HRED.out g0 g1 g2 g3 p0 p1 p2 p3 n0 n1 n2 n3 c0 c1 c2 c3 x0 x1 x2 x3 w5 h0 h1 h2 hz3 (by omega) (by omega) (by omega) (by omega))
  have hb15 := ((hb2.trans (hb3.mono hb2.size)).trans (hb4.mono (hb2.trans (hb3.mono hb2.size)).size)).trans (hb5.mono ((hb2.trans (hb3.mono hb2.size)).trans (hb4.mono (hb2.trans (hb3.mono hb2.size)).size)).size)
  clear hz0 hz1 hz2 hz3 h0 h1 h2 hb2 hb3 hb4 hb5 HRED HI
  go_wp2_with fail
  refine HA.out.mono ?_
  rintro e' w6 ⟨q, rfl, hq, hb6⟩
  obtain rfl := hq trivial
  have hb16 := hb15.trans (hb6.mono hb15.size)
  have kR := kR.kept hb16
  have hb6' := hb1.trans (hb16.mono hb1.size)
  have hlt : w.heap.size < w6.heap.size := kR.lt
  obtain ⟨w7, hw7⟩ : ∃ w7, w6.alloc (.cells #[.int .i64 0, .int .i64 0, .int .i64 0, .int .i64 0] 22) = w7 := ⟨_, rfl⟩
  have hb7 : Below w.heap.size w w7 := by rw [← hw7]; exact hb6'.alloc hb6'.size _
  have kQ : Blk w7 w6.heap.size #[.int .i64 0, .int .i64 0, .int .i64 0, .int .i64 0] 22 := by rw [← hw7]; exact Blk.new _ _ _
  have kR : Blk w7 w.heap.size #[.int .i64 0, .int .i64 0, .int .i64 0, .int .i64 0] 23 := by rw [← hw7]; exact kR.alloc _
  have d0 := kQ.cell (i := 0) rfl
  have d1 := kQ.cell (i := 1) rfl
  have d2 := kQ.cell (i := 2) rfl
  have d3 := kQ.cell (i := 3) rfl
  have f0 := kQ.frozen 0
  have f1 := kQ.frozen 1
  have f2 := kQ.frozen 2
  have f3 := kQ.frozen 3
  clear HA hb15 hb6 hb16 hb1
  obtain ⟨w8, hw8⟩ : ∃ w8, ((((w7.setCell ⟨w6.heap.size, 0, none⟩ (.int .i64 r0)).setCell ⟨w6.heap.size, 1, none⟩ (.int .i64 r1)).setCell ⟨w6.heap.size, 2, none⟩ (.int .i64 r2)).setCell ⟨w6.heap.size, 3, none⟩ (.int .i64 r3)) = w8 := ⟨_, rfl⟩
  have kQ : Blk w8 w6.heap.size #[.int .i64 r0, .int .i64 r1, .int .i64 r2, .int .i64 r3] 22 := by rw [← hw8]; exact Blk.put4 kQ _ _ _ _
  have kR : Blk w8 w.heap.size #[.int .i64 0, .int .i64 0, .int .i64 0, .int .i64 0] 23 := by rw [← hw8]; exact (((kR.other (C := w6.heap.size) 0 _ (by omega)).other (C := w6.heap.size) 1 _ (by omega)).other (C := w6.heap.size) 2 _ (by omega)).other (C := w6.heap.size) 3 _ (by omega)
  have hb8 : Below w.heap.size w w8 := by rw [← hw8]; exact (((hb7.setCell (by simp only; omega) _).setCell (by simp only; omega) _).setCell (by simp only; omega) _).setCell (by simp only; omega) _
  have s0 := kQ.cell (i := 0) rfl
  have s1 := kQ.cell (i := 1) rfl
  have s2 := kQ.cell (i := 2) rfl
  have s3 := kQ.cell (i := 3) rfl
  go_wp2_with fail
  refine (HRT.out _).mono ?_
  rintro e' w9 ⟨rfl, hb9⟩
  have kQ := kQ.kept hb9
  have kR := kR.kept hb9
  have hb9' := hb8.trans (hb9.mono hb8.size)
  clear hw8 hw7 hb7 hb8 hb9 hb6' d0 f0 s0 d1 f1 s1 d2 f2 s2 d3 f3 s3
  have s0 := kQ.cell (i := 0) rfl
  have s1 := kQ.cell (i := 1) rfl
  have s2 := kQ.cell (i := 2) rfl
  have s3 := kQ.cell (i := 3) rfl
  have d0 := kR.cell (i := 0) rfl
  have d1 := kR.cell (i := 1) rfl
  have d2 := kR.cell (i := 2) rfl
  have d3 := kR.cell (i := 3) rfl
  have f0 := kR.frozen 0
  have f1 := kR.frozen 1
  have f2 := kR.frozen 2
  have f3 := kR.frozen 3
  cases t
  · have HV : Hid (Ending.returned (.tuple #[.agg #[.int .i64 0, .int .i64 0, .int .i64 0, .int .i64 0], .int .i64 2]) = Ending.returned (.tuple #[VV, .int .i64 EV])) := Lib.hid (by rw [HVE.out.1, HVE.out.2]; rfl)
    go_wp2_with fail
    have L := Blk.put4 kR (.int .i64 0) (.int .i64 0) (.int .i64 0) (.int .i64 0)
    have y0 := L.cell (i := 0) rfl
    have y1 := L.cell (i := 1) rfl
    have y2 := L.cell (i := 2) rfl
    have y3 := L.cell (i := 3) rfl
    exact bodyPost_ret (v := .tuple #[.agg #[.int .i64 0, .int .i64 0, .int .i64 0, .int .i64 0], .int .i64 2]) (by simp [results, Tryz.results35, go_sem, y0, y1, y2, y3]) rfl ⟨HV.out, (((hb9'.setCell (by simp only; omega) _).setCell (by simp only; omega) _).setCell (by simp only; omega) _).setCell (by simp only; omega) _⟩
  · have HV : Hid (Ending.returned (.tuple #[.agg #[.int .i64 r0, .int .i64 r1, .int .i64 r2, .int .i64 r3], .int .i64 0]) = Ending.returned (.tuple #[VV, .int .i64 EV])) := Lib.hid (by rw [HVE.out.1, HVE.out.2]; rfl)
    go_wp2_with fail
    have L := Blk.put4 kR (.int .i64 r0) (.int .i64 r1) (.int .i64 r2) (.int .i64 r3)
    have y0 := L.cell (i := 0) rfl
    have y1 := L.cell (i := 1) rfl
    have y2 := L.cell (i := 2) rfl
    have y3 := L.cell (i := 3) rfl
    exact bodyPost_ret (v := .tuple #[.agg #[.int .i64 r0, .int .i64 r1, .int .i64 r2, .int .i64 r3], .int .i64 0]) (by simp [results, Tryz.results35, go_sem, y0, y1, y2, y3]) rfl ⟨HV.out, (((hb9'.setCell (by simp only; omega) _).setCell (by simp only; omega) _).setCell (by simp only; omega) _).setCell (by simp only; omega) _⟩

end Go.Proofs.YtimkeblcdodfmaaGreat
