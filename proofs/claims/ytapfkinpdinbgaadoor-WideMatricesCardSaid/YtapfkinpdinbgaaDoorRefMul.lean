/-
  The reference: products.
-/
import Derived.Test.YtapfkinpdinbgaaDoorRefAdd
namespace Go.Proofs.YtapfkinpdinbgaaDoor
open Go.RowKit

theorem RIs.set2 {w : World} {neg : Bool} {p : Option Addr} {n c : Nat} {xs : List Nat} {z : Int} (h : RIs w neg p n c xs z) {B : Nat} {a : Bool} {q : Option Addr} {k d : Nat} {t : TypeId} (hb : Boxed2 w B (.bool a) (.slice q k d) t) (a' : Bool) (v : Value) :
    RIs ((w.setCell ⟨B, 0, none⟩ (.bool a')).setCell ⟨B, 1, none⟩ v) neg p n c xs z :=
  { h with rd := (h.rd.boxI hb _).boxI (hb.set0 (.bool a')) _ }

set_option maxRecDepth 100000 in
set_option maxHeartbeats 2000000 in
theorem rsub_any (a b : Bool) (p q : Option Addr) (n c m d : Nat) (xs ys : List Nat) (x y : Int) (w : World) (hn : n ≤ 100000000) (hm : m ≤ 100000000) (hx : RIs w a p n c xs x) (hy : RIs w b q m d ys y) :
    Calls Tryd.prog 29 #[.agg #[.bool a, .slice p n c], .agg #[.bool b, .slice q m d]] w (RV w (x - y) (max n m + 1)) := by
  have hb0 : Below w.heap.size w ((((w.alloc (.cells #[.bool a, .slice p n c] 29)).alloc (.cells #[.bool b, .slice q m d] 29)).alloc (.cells #[.bool false, .slice none 0 0] 29)).drew) :=
    ((((Below.refl _ w).alloc (Nat.le_refl _) _).alloc (by simp) _).alloc (by rw [World.size_alloc, World.size_alloc]; omega) _).drew
  have hx1 := hx.below hb0
  have hy1 := hy.below hb0
  go_enter Tryd.func29, Tryd.ntmps29
  go_wp2_with fail
  go_region_held3 (fun w' => w'.cell? ⟨w.heap.size, 0, none⟩ = some (.bool a) ∧ w'.cell? ⟨w.heap.size, 1, none⟩ = some (.slice p n c) ∧ w'.cell? ⟨w.heap.size + 1, 0, none⟩ = some (.bool b) ∧ w'.cell? ⟨w.heap.size + 1, 1, none⟩ = some (.slice q m d))
    (simp [go_sem, *])
    (first
      | (go_at_call 40; refine (rneg_any _ _ _ _ ys y _ (by omega) hy1).mono ?_; rintro e w1 ⟨neg1, p1, n1, c1, xs1, rfl, hx2, hn1, hb1⟩; obtain ⟨hc1, hf1⟩ := bcell hb1; have z1 : w.heap.size < w1.heap.size := (by have := hb1.size; simp at this; omega); have z2 : w.heap.size + 1 < w1.heap.size := (by have := hb1.size; simp at this; omega); have z3 : w.heap.size + 1 + 1 < w1.heap.size := (by have := hb1.size; simp at this; omega); have hxV := hx1.below hb1)
      | (go_at_call 28; refine (radd_any _ _ _ _ _ _ _ _ xs xs1 x (-y) _ (by omega) (by omega) hxV hx2).mono ?_; rintro e w2 ⟨neg2, p2, n2, c2, xs2, rfl, hx3, hn2, hb2⟩; obtain ⟨hc2, hf2⟩ := bcell hb2))
  go_wp2_with fail
  have q0 : w2.cell? ⟨w.heap.size + 1 + 1, 0, none⟩ = some (.bool false) := by rw [hc2 _ _ z3, hc1 _ _ (by simp)]; simp [go_sem]
  have q1 : w2.cell? ⟨w.heap.size + 1 + 1, 1, none⟩ = some (.slice none 0 0) := by rw [hc2 _ _ z3, hc1 _ _ (by simp)]; simp [go_sem]
  have hbx := hb0.trans (hb1.mono (by simp <;> omega))
  obtain ⟨r0, r1, _⟩ := two_set (.bool neg2) (.slice p2 n2 c2) q0 q1
  refine bodyPost_ret (v := .agg #[.bool neg2, .slice p2 n2 c2]) (by simp [results, Tryd.results29, go_sem, r0, r1]) rfl ⟨neg2, p2, n2, c2, xs2, rfl, { rd := (hx3.rd.setOther q0 (by intro x e; cases e) _).setOther (two_set (.bool neg2) (.slice p2 n2 c2) q0 q1).2.2 (by intro x e; cases e) _, cap := hx3.cap, cn := hx3.cn, pos := hx3.pos, val := ?_ }, by omega, ((hbx.trans (hb2.mono (by omega))).setCell (by simp <;> omega) _).setCell (by simp <;> omega) _⟩
  rw [← hx3.val]; omega

set_option maxRecDepth 100000 in
set_option maxHeartbeats 1000000 in
theorem rcmp_any (a b : Bool) (p q : Option Addr) (n c m d : Nat) (xs ys : List Nat) (x y : Int) (w : World) (hn : n ≤ 100000000) (hm : m ≤ 100000000) (hx : RIs w a p n c xs x) (hy : RIs w b q m d ys y) :
    Calls Tryd.prog 31 #[.agg #[.bool a, .slice p n c], .agg #[.bool b, .slice q m d]] w fun e w' => e = .returned (.int .i64 (sgnCmp x y)) ∧ Below w.heap.size w w' := by
  have hb0 : Below w.heap.size w ((w.alloc (.cells #[.bool a, .slice p n c] 29)).alloc (.cells #[.bool b, .slice q m d] 29)) := ((Below.refl _ w).alloc (Nat.le_refl _) _).alloc (by simp) _
  have hx1 := hx.below hb0
  have hy1 := hy.below hb0
  have hs : sgnZ (x - y) = sgnCmp x y := by unfold sgnZ sgnCmp; split <;> split <;> (try split) <;> omega
  have HS := Lib.hid hs
  clear hs
  go_enter Tryd.func31, Tryd.ntmps31
  go_wp2_with fail
  refine (rsub_any _ _ _ _ _ _ _ _ xs ys x y _ hn hm hx1 hy1).mono ?_
  rintro e w2 ⟨neg2, p2, n2, c2, xs2, rfl, hx2, hn2, hb2⟩
  go_wp2_with fail
  refine (rsign_any _ _ _ _ xs2 _ _ (by omega) hx2).mono ?_
  rintro e w3 ⟨rfl, hb3⟩
  rw [HS.out]
  have hbx := hb0.trans (hb2.mono hb0.size)
  go_wp2_with fail
  go_ret
  exact ⟨rfl, hbx.trans (hb3.mono hbx.size)⟩

end Go.Proofs.YtapfkinpdinbgaaDoor

namespace Go.Proofs.YtapfkinpdinbgaaDoor
open Go.RowKit

/-- i digits of x are done. -/
def RMulOut (xs ys zs : List Nat) (i : Nat) : Prop :=
  zs.length = xs.length + ys.length ∧ Dg BR zs ∧ dv BR zs = dv BR (xs.take i) * dv BR ys ∧ ∀ t, i + ys.length ≤ t → zs[t]?.getD 0 = 0

/-- Digit i of x, j places of y. -/
def RMulIn (xs ys z0 zs : List Nat) (i j c : Nat) : Prop :=
  zs.length = xs.length + ys.length ∧ Dg BR zs ∧ c < BR ∧ dv BR zs + BR ^ (i + j) * c = dv BR z0 + BR ^ i * (xs[i]?.getD 0 * dv BR (ys.take j)) ∧ (∀ t, i + 1 + ys.length ≤ t → zs[t]?.getD 0 = 0) ∧ (j ≤ ys.length → zs[i + ys.length]?.getD 0 = 0) ∧ (ys.length < j → c = 0)

theorem RMulIn.start {xs ys zs : List Nat} {i : Nat} (h : RMulOut xs ys zs i) : RMulIn xs ys zs zs i 0 0 :=
  ⟨h.1, h.2.1, by decide, by simp [dv], fun t ht => h.2.2.2 t (by omega), fun _ => h.2.2.2 _ (Nat.le_refl _), fun h => by omega⟩

theorem RMulIn.step {xs ys z0 zs : List Nat} {i j c s : Nat} (h : RMulIn xs ys z0 zs i j c) (hi : i < xs.length) (hj : j ≤ ys.length) (gx : Dg BR xs) (gy : Dg BR ys) (hs : c + zs[i + j]?.getD 0 + xs[i]?.getD 0 * ys[j]?.getD 0 = s) :
    RMulIn xs ys z0 (zs.set (i + j) (s % 10000)) i (j + 1) (s / 10000) := by
  obtain ⟨h1, h2, h3, h4, h5, h6, h7⟩ := h
  have hs' : c + (xs[i]?.getD 0 * ys[j]?.getD 0 + zs[i + j]?.getD 0) = s := by omega
  have hz := h6 hj
  refine ⟨by simp [h1], h2.set _ (Nat.mod_lt _ (by decide)), ?_, ?_, ?_, ?_, ?_⟩
  · rw [← hs']
    show _ / BR < BR
    rw [Nat.div_lt_iff_lt_mul (by decide)]
    exact mul_fits (by decide) h3 (gx.get (by decide) i) (gy.get (by decide) j) (h2.get (by decide) (i + j))
  · have g := mul_place (b := BR) (zs := zs) (at_ := i + j) (x := xs[i]?.getD 0) (w := ys[j]?.getD 0) (c := c) (by omega) rfl
    rw [hs'] at g
    have g' : dv BR (zs.set (i + j) (s % 10000)) + BR ^ (i + (j + 1)) * (s / 10000) = _ := g
    rw [g', h4, dv_take_succ, Nat.mul_add, Nat.mul_add, Nat.pow_add]
    grind
  · intro t ht
    rw [set_get_other _ _ _ _ (by omega)]; exact h5 t ht
  · intro hj'
    rw [set_get_other _ _ _ _ (by omega)]; exact hz
  · intro hj'
    have e : j = ys.length := by omega
    rw [e, hz, List.getElem?_eq_none (Nat.le_refl _)] at hs
    simp at hs
    have : BR = 10000 := rfl
    omega

theorem RMulIn.finish {xs ys z0 zs : List Nat} {i j : Nat} (h : RMulIn xs ys z0 zs i j 0) (h0 : RMulOut xs ys z0 i) (hj : ys.length ≤ j) : RMulOut xs ys zs (i + 1) := by
  obtain ⟨h1, h2, h3, h4, h5, h6, h7⟩ := h
  refine ⟨h1, h2, ?_, h5⟩
  rw [Nat.mul_zero, Nat.add_zero, List.take_of_length_le hj, h0.2.2.1] at h4
  rw [h4, dv_take_succ, Nat.add_mul, Nat.mul_assoc]

/-- make([]int, n) -/
theorem mkInts (n : Nat) (hn : n ≤ 35184372088832) (w : World) :
    (Instr.makeSlice 27 (.int .i64 (n : Int)) (.int .i64 (n : Int))).run Tryd.prog w = .ok (.slice (some ⟨w.heap.size, 0, none⟩) n n) (w.alloc (.cells (Go.madeCells #[.int .i64 0] n) 3)) :=
  run_make_row' _ _ (.int .i64 0) 8 Tryd.underlying27 Tryd.info3 rfl .i64 .i64 n (by omega) (by omega) w

set_option maxRecDepth 100000 in
set_option maxHeartbeats 4000000 in
theorem rmul_any (a b : Bool) (p q : Option Addr) (n c m d : Nat) (xs ys : List Nat) (x y : Int) (w : World) (hn : n ≤ 100000000) (hm : m ≤ 100000000) (hx : RIs w a p n c xs x) (hy : RIs w b q m d ys y) :
    Calls Tryd.prog 30 #[.agg #[.bool a, .slice p n c], .agg #[.bool b, .slice q m d]] w (RV w (x * y) (n + m)) := by
  have hb0 : Below w.heap.size w (((w.alloc (.cells #[.bool a, .slice p n c] 29)).alloc (.cells #[.bool b, .slice q m d] 29)).alloc (.cells #[.bool false, .slice none 0 0] 29)) := (((Below.refl _ w).alloc (Nat.le_refl _) _).alloc (by simp) _).alloc (by rw [World.size_alloc, World.size_alloc]; omega) _
  have b0 : Boxed2 (((w.alloc (.cells #[.bool a, .slice p n c] 29)).alloc (.cells #[.bool b, .slice q m d] 29)).alloc (.cells #[.bool false, .slice none 0 0] 29)) w.heap.size (.bool a) (.slice p n c) 29 := ((Boxed2.new w _ _ _).alloc _).alloc _
  have b1 : Boxed2 (((w.alloc (.cells #[.bool a, .slice p n c] 29)).alloc (.cells #[.bool b, .slice q m d] 29)).alloc (.cells #[.bool false, .slice none 0 0] 29)) (w.heap.size + 1) (.bool b) (.slice q m d) 29 := by
    have := Boxed2.new (w.alloc (.cells #[.bool a, .slice p n c] 29)) (.bool b) (.slice q m d) 29
    rw [World.size_alloc] at this
    exact this.alloc _
  have b2 : Boxed2 (((w.alloc (.cells #[.bool a, .slice p n c] 29)).alloc (.cells #[.bool b, .slice q m d] 29)).alloc (.cells #[.bool false, .slice none 0 0] 29)) (w.heap.size + 1 + 1) (.bool false) (.slice none 0 0) 29 := by
    have := Boxed2.new ((w.alloc (.cells #[.bool a, .slice p n c] 29)).alloc (.cells #[.bool b, .slice q m d] 29)) (.bool false) (.slice none 0 0) 29
    rwa [World.size_alloc, World.size_alloc] at this
  have HX := Lib.hid hx
  have HY := Lib.hid hy
  have hown0 := Own.new .i64 3 (((w.alloc (.cells #[.bool a, .slice p n c] 29)).alloc (.cells #[.bool b, .slice q m d] 29)).alloc (.cells #[.bool false, .slice none 0 0] 29)) (n + m)
  have hsz0 : (((w.alloc (.cells #[.bool a, .slice p n c] 29)).alloc (.cells #[.bool b, .slice q m d] 29)).alloc (.cells #[.bool false, .slice none 0 0] 29)).heap.size = w.heap.size + 1 + 1 + 1 := by simp
  have hmk := mkInts (n + m) (by omega) (((w.alloc (.cells #[.bool a, .slice p n c] 29)).alloc (.cells #[.bool b, .slice q m d] 29)).alloc (.cells #[.bool false, .slice none 0 0] 29))
  rw [hsz0] at hown0 hmk
  have ec : ((n + m : Nat) : Int) = (n : Int) + (m : Int) := by omega
  rw [ec] at hmk
  have hbM : Below (w.heap.size + 1 + 1 + 1) (((w.alloc (.cells #[.bool a, .slice p n c] 29)).alloc (.cells #[.bool b, .slice q m d] 29)).alloc (.cells #[.bool false, .slice none 0 0] 29)) ((((w.alloc (.cells #[.bool a, .slice p n c] 29)).alloc (.cells #[.bool b, .slice q m d] 29)).alloc (.cells #[.bool false, .slice none 0 0] 29)).alloc (.cells (Go.madeCells #[.int .i64 0] (n + m)) 3)) := (Below.refl _ _).alloc (by rw [hsz0]; omega) _
  have hszM : w.heap.size + 1 + 1 + 1 < ((((w.alloc (.cells #[.bool a, .slice p n c] 29)).alloc (.cells #[.bool b, .slice q m d] 29)).alloc (.cells #[.bool false, .slice none 0 0] 29)).alloc (.cells (Go.madeCells #[.int .i64 0] (n + m)) 3)).heap.size := by rw [World.size_alloc, hsz0]; omega
  have HB0 := Lib.hid b0
  have HB1 := Lib.hid b1
  have HB2 := Lib.hid b2
  have HBW := Lib.hid hb0
  have HOW0 := Lib.hid hown0
  clear hx hy hown0 ec
  go_enter Tryd.func30, Tryd.ntmps30
  go_wp2_with fail
  generalize hwM : ((((w.alloc (.cells #[.bool a, .slice p n c] 29)).alloc (.cells #[.bool b, .slice q m d] 29)).alloc (.cells #[.bool false, .slice none 0 0] 29)).alloc (.cells (Go.madeCells #[.int .i64 0] (n + m)) 3)) = wM at *
  generalize hwZ : (((w.alloc (.cells #[.bool a, .slice p n c] 29)).alloc (.cells #[.bool b, .slice q m d] 29)).alloc (.cells #[.bool false, .slice none 0 0] 29)) = w1 at *
  clear b0 b1 b2 hb0 hsz0 hmk hwM hwZ
  go_loopg [6] n (fun gk v6 wr => ∃ (i : Nat) (zs : List Nat), i ≤ n ∧ gk = n - i ∧ v6 = .int .i64 (i : Int) ∧ Hid (RMulOut xs ys zs i) ∧ Hid (Own .i64 3 wr (w.heap.size + 1 + 1 + 1) zs) ∧ w.heap.size + 1 + 1 + 1 < wr.heap.size ∧ Below (w.heap.size + 1 + 1 + 1) w1 wr)
  case atStart => exact ⟨0, _, Nat.zero_le _, rfl, rfl, ⟨by simp [HX.out.rd.1, HY.out.rd.1], Dg.replicate (by decide) _, by rw [dv_replicate]; simp [dv], fun t _ => by rw [List.getElem?_replicate]; split <;> rfl⟩, HOW0.out, hszM, hbM⟩
  case round =>
    obtain ⟨i, z0, hi, hgk, rfl, HO, HOWN, hsz, hb⟩ := hrel
    have HGK := Lib.hid hgk
    have bb0 := HB0.out.below hb (by omega)
    have bb1 := HB1.out.below hb (by omega)
    have k0 := bb0.cell0
    have k1 := bb0.cell1
    have k2 := bb1.cell0
    have k3 := bb1.cell1
    clear hgk
    by_cases hlt : i < n
    · have hil : (i : Int) < (n : Int) := by omega
      go_wp2_with fail
      obtain ⟨wo, hwo⟩ : ∃ wo : World, wo = wr := ⟨_, rfl⟩
      go_loopg [7, 8] (m + 1) (fun gk v7 v8 wi => ∃ (j cy : Nat) (zs : List Nat), j ≤ m + 1 ∧ gk = m + 1 - j ∧ v8 = .int .i64 (j : Int) ∧ v7 = .int .i64 (cy : Int) ∧ Hid (RMulIn xs ys z0 zs i j cy) ∧ Hid (Own .i64 3 wi (w.heap.size + 1 + 1 + 1) zs) ∧ w.heap.size + 1 + 1 + 1 < wi.heap.size ∧ Below (w.heap.size + 1 + 1 + 1) w1 wi)
      case atStart => exact ⟨0, 0, z0, by omega, rfl, rfl, rfl, RMulIn.start HO.out, HOWN.out, hsz, hb⟩
      case round =>
        clear bb0 bb1 k0 k1 k2 k3 hwo
        obtain ⟨j, cy, zs, hj, hgk, rfl, rfl, HI, HOWI, hsz2, hb2⟩ := hrel
        have HGK2 := Lib.hid hgk
        clear hgk
        have bb0 := HB0.out.below hb2 (by omega)
        have bb1 := HB1.out.below hb2 (by omega)
        have k0 := bb0.cell0
        have k1 := bb0.cell1
        have k2 := bb1.cell0
        have k3 := bb1.cell1
        have hcy : cy < 10000 := HI.out.2.2.1
        have hrx : Rd .i64 wr p n xs := HX.out.rd.below (HBW.out.trans (hb2.mono (by omega)))
        have hry : Rd .i64 wr q m ys := HY.out.rd.below (HBW.out.trans (hb2.mono (by omega)))
        by_cases hgo : j < m ∨ 0 < cy
        · have hjm : j ≤ m := by
            rcases Nat.lt_or_ge m j with h | h
            · have := HI.out.2.2.2.2.2.2 (by rw [HY.out.rd.1]; exact h); omega
            · exact h
          have hdx : xs[i]?.getD 0 < 10000 := HX.out.cn.1.get (by decide) i
          have hdy : ys[j]?.getD 0 < 10000 := HY.out.cn.1.get (by decide) j
          have hdz : zs[i + j]?.getD 0 < 10000 := HI.out.2.1.get (by decide) _
          have hzl : i + j < zs.length := by rw [HI.out.1, HX.out.rd.1, HY.out.rd.1]; omega
          have HQ := Lib.hid (fun k => digit_same q m d j ys (wr.drewN k) (by omega) (hry.drewN k))
          obtain ⟨bb, off, rfl, hbb, hcell⟩ := hrx.2 i hlt
          have hcz := HOWI.out.cell (i + j) hzl
          have HFR := Lib.hid (HOWI.out.frozen (i + j))
          have hset := fun v => HOWI.out.set (i + j) v
          have hst := HI.out.step (s := cy + zs[i + j]?.getD 0 + xs[i]?.getD 0 * ys[j]?.getD 0) (by rw [HX.out.rd.1]; exact hlt) (by rw [HY.out.rd.1]; exact hjm) HX.out.cn.1 HY.out.cn.1 rfl
          generalize xs[i]?.getD 0 = dx at hdx hst hcell
          generalize ys[j]?.getD 0 = dy at hdy HQ hst
          generalize zs[i + j]?.getD 0 = dz at hdz hst hcz
          have HCI := Lib.hid hcz
          obtain ⟨s1, hs1⟩ : ∃ s1, cy + dz = s1 := ⟨_, rfl⟩
          obtain ⟨m1, hm1⟩ : ∃ m1, dx * dy = m1 := ⟨_, rfl⟩
          have hm1b : m1 ≤ 9999 * 9999 := by rw [← hm1]; exact Nat.mul_le_mul (by omega) (by omega)
          have hmI : (dx : Int) * (dy : Int) = (m1 : Int) := by rw [← hm1]; simp
          obtain ⟨s2, hs2⟩ : ∃ s2, s1 + m1 = s2 := ⟨_, rfl⟩
          obtain ⟨at2, hat⟩ : ∃ at2, i + j = at2 := ⟨_, rfl⟩
          have hw1 : IntKind.i64.wrap ((cy : Int) + (dz : Int)) = (s1 : Int) := by rw [IntWalk.i64_in _ (by omega)]; omega
          have hw2 : IntKind.i64.wrap ((dx : Int) * (dy : Int)) = (m1 : Int) := by rw [hmI, IntWalk.i64_in _ (by omega)]
          have hw3 : IntKind.i64.wrap ((s1 : Int) + (m1 : Int)) = (s2 : Int) := by rw [IntWalk.i64_in _ (by omega)]; omega
          have hw4 : IntKind.i64.wrap ((i : Int) + (j : Int)) = (at2 : Int) := by rw [IntWalk.i64_in _ (by omega)]; omega
          have hij : (i : Int) + (j : Int) = (at2 : Int) := by omega
          have HIJ := Lib.hid hij
          have hatl : at2 < n + m := by omega
          have hs2b : s2 < 200000000 := by omega
          rw [hs1, hm1, hs2, hat] at hst
          rw [hat] at hcz hset HFR HCI
          have HD := Lib.hid (show (s2 : Int) / 10000 = ((s2 / 10000 : Nat) : Int) by omega)
          have HM := Lib.hid (show (s2 : Int) % 10000 = ((s2 % 10000 : Nat) : Int) by omega)
          have HST := Lib.hid hst
          generalize s2 / 10000 = q2 at HD HST
          have HOW := Lib.hid (hset (s2 % 10000))
          generalize s2 % 10000 = r2 at HM HST HOW
          clear hs1 hm1 hs2 hat hst hset hmI hij
          have hways : (j < m) ∨ (¬ j < m ∧ (0 : Int) < (cy : Int)) := by omega
          clear hgo
          rcases hways with h1 | ⟨h1, h2⟩
          · go_wp2_with fail
            go_quiet ((go_at_call 56; (with_reducible exact Calls.quiet_of_same (HQ.out _))))
            clear hw1 hw2 hw3 hw4
            have hdiv := HD.out
            have hmod := HM.out
            have hij := HIJ.out
            have hci := HCI.out
            have hfr := HFR.out
            go_wp2_with fail
            go_roundg (m + 1 - (j + 1))
            case measure => rw [HGK2.out]; omega
            case rel => exact ⟨j + 1, q2, _, by omega, rfl, by go_num, rfl, HST.out, HOW.out, by simpa using hsz2, (hb2.trans (below_drewN _ _ _)).setCell (by simp <;> omega) _⟩
          · go_wp2_with fail
            go_quiet ((go_at_call 56; (with_reducible exact Calls.quiet_of_same (HQ.out _))))
            clear hw1 hw2 hw3 hw4
            have hdiv := HD.out
            have hmod := HM.out
            have hij := HIJ.out
            have hci := HCI.out
            have hfr := HFR.out
            go_wp2_with fail
            go_roundg (m + 1 - (j + 1))
            case measure => rw [HGK2.out]; omega
            case rel => exact ⟨j + 1, q2, _, by omega, rfl, by go_num, rfl, HST.out, HOW.out, by simpa using hsz2, (hb2.trans (below_drewN _ _ _)).setCell (by simp <;> omega) _⟩
        · have h1 : ¬ j < m := fun h => hgo (.inl h)
          obtain rfl : cy = 0 := by
            rcases Nat.eq_zero_or_pos cy with h | h
            · exact h
            · exact absurd (.inr h) hgo
          have HF := Lib.hid (HI.out.finish HO.out (by rw [HY.out.rd.1]; omega))
          clear hgo
          go_wp2_with fail
          go_roundg (n - (i + 1))
          case measure => rw [HGK.out]; omega
          case rel => exact ⟨i + 1, zs, by omega, rfl, by go_num, HF.out, HOWI.out, hsz2, hb2⟩
    · obtain rfl : i = n := by omega
      have hbb2 := HB2.out.below hb (by omega)
      have hbw := HBW.out.trans (hb.mono (by omega))
      have hrd : Rd .i64 wr (some ⟨w.heap.size + 1 + 1 + 1, 0, none⟩) (i + m) z0 := HOWN.out.rd (by rw [HO.out.1, HX.out.rd.1, HY.out.rd.1])
      have HDG := Lib.hid HO.out.2.1
      have HV : Hid (dv BR z0 = dv BR xs * dv BR ys) := by
        have := HO.out.2.2.1
        rw [List.take_of_length_le (by rw [HX.out.rd.1]; exact Nat.le_refl _)] at this
        exact this
      have hbne : ∀ (r : Bool), r = (a != b) → True := fun _ _ => trivial
      go_wp2_with (go_at_call 46; refine (rnumber_any _ _ _ _ z0 _ (by unfold maxLen; omega) (Nat.le_refl _) hrd HDG.out).mono ?_; rintro e w2 ⟨neg2, p2, n2, c2, xs2, rfl, hx2, hn2, hb2⟩; have b22 := hbb2.below hb2 hbb2.lt; have c20 := b22.cell0; have c21 := b22.cell1; have q20 := b22.frozen (i := 0); have q21 := b22.frozen (i := 1))
      have b3 := b22.set (.bool neg2) (.slice p2 n2 c2)
      have z0' := b3.cell0
      have z1' := b3.cell1
      refine bodyPost_ret (v := .agg #[.bool neg2, .slice p2 n2 c2]) (by simp [results, Tryd.results30, go_sem, z0', z1']) rfl ⟨neg2, p2, n2, c2, xs2, rfl, { rd := (hx2.rd.boxI b22 _).boxI (b22.set0 _) _, cap := hx2.cap, cn := hx2.cn, pos := hx2.pos, val := ?_ }, hn2, ((hbw.trans (hb2.mono hbw.size)).setCell (by simp <;> omega) _).setCell (by simp <;> omega) _⟩
      rw [← hx2.val, HV.out, HX.out.val, HY.out.val]
      cases a <;> cases b <;> simp [sv, Int.neg_mul, Int.mul_neg]

end Go.Proofs.YtapfkinpdinbgaaDoor
