/-
  The reference: products; Quotients, plain: by the machine's own division; digit by digit, each found by halving; append of a slice of digits onto a row of the call's own; The reference's quotients.
-/
import Derived.Laws.AppendOwnNone
import Derived.Deep.CutBlock
import Derived.Test.YtimkeblcdodfmaaGreatK1
import Derived.Test.YtimkeblcdodfmaaGreatK2
import Derived.Test.YtimkeblcdodfmaaGreatK3
import Derived.Test.YtimkeblcdodfmaaGreatK10
import Derived.Test.YtimkeblcdodfmaaGreatK11
namespace Go.Proofs.YtimkeblcdodfmaaGreat
open Go.RowKit

set_option maxRecDepth 100000 in
set_option maxHeartbeats 2000000 in
theorem rsub_any (a b : Bool) (p q : Option Addr) (n c m d : Nat) (xs ys : List Nat) (x y : Int) (w : World) (hn : n ≤ 100000000) (hm : m ≤ 100000000) (hx : RIs w a p n c xs x) (hy : RIs w b q m d ys y) :
    Calls Tryz.prog 124 #[.agg #[.bool a, .slice p n c], .agg #[.bool b, .slice q m d]] w (RV w (x - y) (max n m + 1)) := by
  have hb0 : Below w.heap.size w ((((w.alloc (.cells #[.bool a, .slice p n c] 109)).alloc (.cells #[.bool b, .slice q m d] 109)).alloc (.cells #[.bool false, .slice none 0 0] 109)).drew) :=
    ((((Below.refl _ w).alloc (Nat.le_refl _) _).alloc (by simp) _).alloc (by rw [World.size_alloc, World.size_alloc]; omega) _).drew
  have hx1 := hx.below hb0
  have hy1 := hy.below hb0
  go_enter Tryz.func124, Tryz.ntmps124
  go_wp2_with fail
  go_region_held3 (fun w' => w'.cell? ⟨w.heap.size, 0, none⟩ = some (.bool a) ∧ w'.cell? ⟨w.heap.size, 1, none⟩ = some (.slice p n c) ∧ w'.cell? ⟨w.heap.size + 1, 0, none⟩ = some (.bool b) ∧ w'.cell? ⟨w.heap.size + 1, 1, none⟩ = some (.slice q m d))
    (simp [go_sem, *])
    (first
      | (go_at_call 144; refine (rneg_any _ _ _ _ ys y _ (by omega) hy1).mono ?_; rintro e w1 ⟨neg1, p1, n1, c1, xs1, rfl, hx2, hn1, hb1⟩; obtain ⟨hc1, hf1⟩ := bcell hb1; have z1 : w.heap.size < w1.heap.size := (by have := hb1.size; simp at this; omega); have z2 : w.heap.size + 1 < w1.heap.size := (by have := hb1.size; simp at this; omega); have z3 : w.heap.size + 1 + 1 < w1.heap.size := (by have := hb1.size; simp at this; omega); have hxV := hx1.below hb1)
      | (go_at_call 125; refine (radd_any _ _ _ _ _ _ _ _ xs xs1 x (-y) _ (by omega) (by omega) hxV hx2).mono ?_; rintro e w2 ⟨neg2, p2, n2, c2, xs2, rfl, hx3, hn2, hb2⟩; obtain ⟨hc2, hf2⟩ := bcell hb2))
  go_wp2_with fail
  have q0 : w2.cell? ⟨w.heap.size + 1 + 1, 0, none⟩ = some (.bool false) := by rw [hc2 _ _ z3, hc1 _ _ (by simp)]; simp [go_sem]
  have q1 : w2.cell? ⟨w.heap.size + 1 + 1, 1, none⟩ = some (.slice none 0 0) := by rw [hc2 _ _ z3, hc1 _ _ (by simp)]; simp [go_sem]
  have hbx := hb0.trans (hb1.mono (by simp <;> omega))
  obtain ⟨r0, r1, _⟩ := two_set (.bool neg2) (.slice p2 n2 c2) q0 q1
  refine bodyPost_ret (v := .agg #[.bool neg2, .slice p2 n2 c2]) (by simp [results, Tryz.results124, go_sem, r0, r1]) rfl ⟨neg2, p2, n2, c2, xs2, rfl, { rd := (hx3.rd.setOther q0 (by intro x e; cases e) _).setOther (two_set (.bool neg2) (.slice p2 n2 c2) q0 q1).2.2 (by intro x e; cases e) _, cap := hx3.cap, cn := hx3.cn, pos := hx3.pos, val := ?_ }, by omega, ((hbx.trans (hb2.mono (by omega))).setCell (by simp <;> omega) _).setCell (by simp <;> omega) _⟩
  rw [← hx3.val]; omega

end Go.Proofs.YtimkeblcdodfmaaGreat

namespace Go.Proofs.YtimkeblcdodfmaaGreat
open Go.RowKit

/-- i digits of x are done. -/
def RMulOut (xs ys zs : List Nat) (i : Nat) : Prop :=
  zs.length = xs.length + ys.length ∧ Dg BR zs ∧ dv BR zs = dv BR (xs.take i) * dv BR ys ∧ ∀ t, i + ys.length ≤ t → zs[t]?.getD 0 = 0

/-- Digit i of x, j places of y. -/
def RMulIn (xs ys z0 zs : List Nat) (i j c : Nat) : Prop :=
  zs.length = xs.length + ys.length ∧ Dg BR zs ∧ c < BR ∧ dv BR zs + BR ^ (i + j) * c = dv BR z0 + BR ^ i * (xs[i]?.getD 0 * dv BR (ys.take j)) ∧ (∀ t, i + 1 + ys.length ≤ t → zs[t]?.getD 0 = 0) ∧ (j ≤ ys.length → zs[i + ys.length]?.getD 0 = 0) ∧ (ys.length < j → c = 0)

theorem RMulIn.start {xs ys zs : List Nat} {i : Nat} (h : RMulOut xs ys zs i) : RMulIn xs ys zs zs i 0 0 :=
  ⟨h.1, h.2.1, by decide, by simp [dv], fun t ht => h.2.2.2 t (by omega), fun _ => h.2.2.2 _ (Nat.le_refl _), fun h => by omega⟩

theorem RMulIn.step {xs ys z0 zs : List Nat} {i j c s : Nat} (h : RMulIn xs ys z0 zs i j c) (hi : i < xs.length) (hj : j ≤ ys.length) (gx : Dg BR xs) (gy : Dg BR ys) (hs : c + zs[i + j]?.getD 0 + xs[i]?.getD 0 * ys[j]?.getD 0 = s) :
    RMulIn xs ys z0 (zs.set (i + j) (s % 10000)) i (j + 1) (s / 10000) := by
  obtain ⟨h1, h2, h3, h4, h5, h6, h7⟩ := h
  have hs' : c + (xs[i]?.getD 0 * ys[j]?.getD 0 + zs[i + j]?.getD 0) = s := by omega
  have hz := h6 hj
  refine ⟨by simp [h1], h2.set _ (Nat.mod_lt _ (by decide)), ?_, ?_, ?_, ?_, ?_⟩
  · rw [← hs']
    show _ / BR < BR
    rw [Nat.div_lt_iff_lt_mul (by decide)]
    exact mul_fits (by decide) h3 (gx.get (by decide) i) (gy.get (by decide) j) (h2.get (by decide) (i + j))
  · have g := mul_place (b := BR) (zs := zs) (at_ := i + j) (x := xs[i]?.getD 0) (w := ys[j]?.getD 0) (c := c) (by omega) rfl
    rw [hs'] at g
    have g' : dv BR (zs.set (i + j) (s % 10000)) + BR ^ (i + (j + 1)) * (s / 10000) = _ := g
    rw [g', h4, dv_take_succ, Nat.mul_add, Nat.mul_add, Nat.pow_add]
    grind
  · intro t ht
    rw [set_get_other _ _ _ _ (by omega)]; exact h5 t ht
  · intro hj'
    rw [set_get_other _ _ _ _ (by omega)]; exact hz
  · intro hj'
    have e : j = ys.length := by omega
    rw [e, hz, List.getElem?_eq_none (Nat.le_refl _)] at hs
    simp at hs
    have : BR = 10000 := rfl
    omega

theorem RMulIn.finish {xs ys z0 zs : List Nat} {i j : Nat} (h : RMulIn xs ys z0 zs i j 0) (h0 : RMulOut xs ys z0 i) (hj : ys.length ≤ j) : RMulOut xs ys zs (i + 1) := by
  obtain ⟨h1, h2, h3, h4, h5, h6, h7⟩ := h
  refine ⟨h1, h2, ?_, h5⟩
  rw [Nat.mul_zero, Nat.add_zero, List.take_of_length_le hj, h0.2.2.1] at h4
  rw [h4, dv_take_succ, Nat.add_mul, Nat.mul_assoc]

/-- make([]int, n) -/
theorem mkInts (n : Nat) (hn : n ≤ 35184372088832) (w : World) :
    (Instr.makeSlice 55 (.int .i64 (n : Int)) (.int .i64 (n : Int))).run Tryz.prog w = .ok (.slice (some ⟨w.heap.size, 0, none⟩) n n) (w.alloc (.cells (Go.madeCells #[.int .i64 0] n) 3)) :=
  run_make_row' _ _ (.int .i64 0) 8 Tryz.underlying55 Tryz.info3 rfl .i64 .i64 n (by omega) (by omega) w

set_option maxRecDepth 100000 in
set_option maxHeartbeats 4000000 in
theorem rmul_any (a b : Bool) (p q : Option Addr) (n c m d : Nat) (xs ys : List Nat) (x y : Int) (w : World) (hn : n ≤ 100000000) (hm : m ≤ 100000000) (hx : RIs w a p n c xs x) (hy : RIs w b q m d ys y) :
    Calls Tryz.prog 123 #[.agg #[.bool a, .slice p n c], .agg #[.bool b, .slice q m d]] w (RV w (x * y) (n + m)) := by
  have hb0 : Below w.heap.size w (((w.alloc (.cells #[.bool a, .slice p n c] 109)).alloc (.cells #[.bool b, .slice q m d] 109)).alloc (.cells #[.bool false, .slice none 0 0] 109)) := (((Below.refl _ w).alloc (Nat.le_refl _) _).alloc (by simp) _).alloc (by rw [World.size_alloc, World.size_alloc]; omega) _
  have b0 : Boxed2 (((w.alloc (.cells #[.bool a, .slice p n c] 109)).alloc (.cells #[.bool b, .slice q m d] 109)).alloc (.cells #[.bool false, .slice none 0 0] 109)) w.heap.size (.bool a) (.slice p n c) 109 := ((Boxed2.new w _ _ _).alloc _).alloc _
  have b1 : Boxed2 (((w.alloc (.cells #[.bool a, .slice p n c] 109)).alloc (.cells #[.bool b, .slice q m d] 109)).alloc (.cells #[.bool false, .slice none 0 0] 109)) (w.heap.size + 1) (.bool b) (.slice q m d) 109 := by
    have := Boxed2.new (w.alloc (.cells #[.bool a, .slice p n c] 109)) (.bool b) (.slice q m d) 109
    rw [World.size_alloc] at this
    exact this.alloc _
  have b2 : Boxed2 (((w.alloc (.cells #[.bool a, .slice p n c] 109)).alloc (.cells #[.bool b, .slice q m d] 109)).alloc (.cells #[.bool false, .slice none 0 0] 109)) (w.heap.size + 1 + 1) (.bool false) (.slice none 0 0) 109 := by
    have := Boxed2.new ((w.alloc (.cells #[.bool a, .slice p n c] 109)).alloc (.cells #[.bool b, .slice q m d] 109)) (.bool false) (.slice none 0 0) 109
    rwa [World.size_alloc, World.size_alloc] at this
  have HX := Lib.hid hx
  have HY := Lib.hid hy
  have hown0 := Own.new .i64 3 (((w.alloc (.cells #[.bool a, .slice p n c] 109)).alloc (.cells #[.bool b, .slice q m d] 109)).alloc (.cells #[.bool false, .slice none 0 0] 109)) (n + m)
  have hsz0 : (((w.alloc (.cells #[.bool a, .slice p n c] 109)).alloc (.cells #[.bool b, .slice q m d] 109)).alloc (.cells #[.bool false, .slice none 0 0] 109)).heap.size = w.heap.size + 1 + 1 + 1 := by simp
  have hmk := mkInts (n + m) (by omega) (((w.alloc (.cells #[.bool a, .slice p n c] 109)).alloc (.cells #[.bool b, .slice q m d] 109)).alloc (.cells #[.bool false, .slice none 0 0] 109))
  rw [hsz0] at hown0 hmk
  have ec : ((n + m : Nat) : Int) = (n : Int) + (m : Int) := by omega
  rw [ec] at hmk
  have hbM : Below (w.heap.size + 1 + 1 + 1) (((w.alloc (.cells #[.bool a, .slice p n c] 109)).alloc (.cells #[.bool b, .slice q m d] 109)).alloc (.cells #[.bool false, .slice none 0 0] 109)) ((((w.alloc (.cells #[.bool a, .slice p n c] 109)).alloc (.cells #[.bool b, .slice q m d] 109)).alloc (.cells #[.bool false, .slice none 0 0] 109)).alloc (.cells (Go.madeCells #[.int .i64 0] (n + m)) 3)) := (Below.refl _ _).alloc (by rw [hsz0]; omega) _
  have hszM : w.heap.size + 1 + 1 + 1 < ((((w.alloc (.cells #[.bool a, .slice p n c] 109)).alloc (.cells #[.bool b, .slice q m d] 109)).alloc (.cells #[.bool false, .slice none 0 0] 109)).alloc (.cells (Go.madeCells #[.int .i64 0] (n + m)) 3)).heap.size := by rw [World.size_alloc, hsz0]; omega
  have HB0 := Lib.hid b0
  have HB1 := Lib.hid b1
  have HB2 := Lib.hid b2
  have HBW := Lib.hid hb0
  have HOW0 := Lib.hid hown0
  clear hx hy hown0 ec
  go_enter Tryz.func123, Tryz.ntmps123
  go_wp2_with fail
  generalize hwM : ((((w.alloc (.cells #[.bool a, .slice p n c] 109)).alloc (.cells #[.bool b, .slice q m d] 109)).alloc (.cells #[.bool false, .slice none 0 0] 109)).alloc (.cells (Go.madeCells #[.int .i64 0] (n + m)) 3)) = wM at *
  generalize hwZ : (((w.alloc (.cells #[.bool a, .slice p n c] 109)).alloc (.cells #[.bool b, .slice q m d] 109)).alloc (.cells #[.bool false, .slice none 0 0] 109)) = w1 at *
  clear b0 b1 b2 hb0 hsz0 hmk hwM hwZ
  go_loopg [6] n (fun gk v6 wr => ∃ (i : Nat) (zs : List Nat), i ≤ n ∧ gk = n - i ∧ v6 = .int .i64 (i : Int) ∧ Hid (RMulOut xs ys zs i) ∧ Hid (Own .i64 3 wr (w.heap.size + 1 + 1 + 1) zs) ∧ w.heap.size + 1 + 1 + 1 < wr.heap.size ∧ Below (w.heap.size + 1 + 1 + 1) w1 wr)
  case atStart => exact ⟨0, _, Nat.zero_le _, rfl, rfl, ⟨by simp [HX.out.rd.1, HY.out.rd.1], Dg.replicate (by decide) _, by rw [dv_replicate]; simp [dv], fun t _ => by rw [List.getElem?_replicate]; split <;> rfl⟩, HOW0.out, hszM, hbM⟩
  case round =>
    obtain ⟨i, z0, hi, hgk, rfl, HO, HOWN, hsz, hb⟩ := hrel
    have HGK := Lib.hid hgk
    have bb0 := HB0.out.below hb (by omega)
    have bb1 := HB1.out.below hb (by omega)
    have k0 := bb0.cell0
    have k1 := bb0.cell1
    have k2 := bb1.cell0
    have k3 := bb1.cell1
    clear hgk
    by_cases hlt : i < n
    · have hil : (i : Int) < (n : Int) := by omega
      go_wp2_with fail
      obtain ⟨wo, hwo⟩ : ∃ wo : World, wo = wr := ⟨_, rfl⟩
      go_loopg [7, 8] (m + 1) (fun gk v7 v8 wi => ∃ (j cy : Nat) (zs : List Nat), j ≤ m + 1 ∧ gk = m + 1 - j ∧ v8 = .int .i64 (j : Int) ∧ v7 = .int .i64 (cy : Int) ∧ Hid (RMulIn xs ys z0 zs i j cy) ∧ Hid (Own .i64 3 wi (w.heap.size + 1 + 1 + 1) zs) ∧ w.heap.size + 1 + 1 + 1 < wi.heap.size ∧ Below (w.heap.size + 1 + 1 + 1) w1 wi)
      case atStart => exact ⟨0, 0, z0, by omega, rfl, rfl, rfl, RMulIn.start HO.out, HOWN.out, hsz, hb⟩
      case round =>
        clear bb0 bb1 k0 k1 k2 k3 hwo
        obtain ⟨j, cy, zs, hj, hgk, rfl, rfl, HI, HOWI, hsz2, hb2⟩ := hrel
        have HGK2 := Lib.hid hgk
        clear hgk
        have bb0 := HB0.out.below hb2 (by omega)
        have bb1 := HB1.out.below hb2 (by omega)
        have k0 := bb0.cell0
        have k1 := bb0.cell1
        have k2 := bb1.cell0
        have k3 := bb1.cell1
        have hcy : cy < 10000 := HI.out.2.2.1
        have hrx : Rd .i64 wr p n xs := HX.out.rd.below (HBW.out.trans (hb2.mono (by omega)))
        have hry : Rd .i64 wr q m ys := HY.out.rd.below (HBW.out.trans (hb2.mono (by omega)))
        by_cases hgo : j < m ∨ 0 < cy
        · have hjm : j ≤ m := by
            rcases Nat.lt_or_ge m j with h | h
            · have := HI.out.2.2.2.2.2.2 (by rw [HY.out.rd.1]; exact h); omega
            · exact h
          have hdx : xs[i]?.getD 0 < 10000 := HX.out.cn.1.get (by decide) i
          have hdy : ys[j]?.getD 0 < 10000 := HY.out.cn.1.get (by decide) j
          have hdz : zs[i + j]?.getD 0 < 10000 := HI.out.2.1.get (by decide) _
          have hzl : i + j < zs.length := by rw [HI.out.1, HX.out.rd.1, HY.out.rd.1]; omega
          have HQ := Lib.hid (fun k => digit_same q m d j ys (wr.drewN k) (by omega) (hry.drewN k))
          obtain ⟨bb, off, rfl, hbb, hcell⟩ := hrx.2 i hlt
          have hcz := HOWI.out.cell (i + j) hzl
          have HFR := Lib.hid (HOWI.out.frozen (i + j))
          have hset := fun v => HOWI.out.set (i + j) v
          have hst := HI.out.step (s := cy + zs[i + j]?.getD 0 + xs[i]?.getD 0 * ys[j]?.getD 0) (by rw [HX.out.rd.1]; exact hlt) (by rw [HY.out.rd.1]; exact hjm) HX.out.cn.1 HY.out.cn.1 rfl
          generalize xs[i]?.getD 0 = dx at hdx hst hcell
          generalize ys[j]?.getD 0 = dy at hdy HQ hst
          generalize zs[i + j]?.getD 0 = dz at hdz hst hcz
          have HCI := Lib.hid hcz
          obtain ⟨s1, hs1⟩ : ∃ s1, cy + dz = s1 := ⟨_, rfl⟩
          obtain ⟨m1, hm1⟩ : ∃ m1, dx * dy = m1 := ⟨_, rfl⟩
          have hm1b : m1 ≤ 9999 * 9999 := by rw [← hm1]; exact Nat.mul_le_mul (by omega) (by omega)
          have hmI : (dx : Int) * (dy : Int) = (m1 : Int) := by rw [← hm1]; simp
          obtain ⟨s2, hs2⟩ : ∃ s2, s1 + m1 = s2 := ⟨_, rfl⟩
          obtain ⟨at2, hat⟩ : ∃ at2, i + j = at2 := ⟨_, rfl⟩
          have hw1 : IntKind.i64.wrap ((cy : Int) + (dz : Int)) = (s1 : Int) := by rw [IntWalk.i64_in _ (by omega)]; omega
          have hw2 : IntKind.i64.wrap ((dx : Int) * (dy : Int)) = (m1 : Int) := by rw [hmI, IntWalk.i64_in _ (by omega)]
          have hw3 : IntKind.i64.wrap ((s1 : Int) + (m1 : Int)) = (s2 : Int) := by rw [IntWalk.i64_in _ (by omega)]; omega
          have hw4 : IntKind.i64.wrap ((i : Int) + (j : Int)) = (at2 : Int) := by rw [IntWalk.i64_in _ (by omega)]; omega
          have hij : (i : Int) + (j : Int) = (at2 : Int) := by omega
          have HIJ := Lib.hid hij
          have hatl : at2 < n + m := by omega
          have hs2b : s2 < 200000000 := by omega
          rw [hs1, hm1, hs2, hat] at hst
          rw [hat] at hcz hset HFR HCI
          have HD := Lib.hid (show (s2 : Int) / 10000 = ((s2 / 10000 : Nat) : Int) by omega)
          have HM := Lib.hid (show (s2 : Int) % 10000 = ((s2 % 10000 : Nat) : Int) by omega)
          have HST := Lib.hid hst
          generalize s2 / 10000 = q2 at HD HST
          have HOW := Lib.hid (hset (s2 % 10000))
          generalize s2 % 10000 = r2 at HM HST HOW
          clear hs1 hm1 hs2 hat hst hset hmI hij
          have hways : (j < m) ∨ (¬ j < m ∧ (0 : Int) < (cy : Int)) := by omega
          clear hgo
          rcases hways with h1 | ⟨h1, h2⟩
          · go_wp2_with fail
            go_quiet ((go_at_call 143; (with_reducible exact Calls.quiet_of_same (HQ.out _))))
            clear hw1 hw2 hw3 hw4
            have hdiv := HD.out
            have hmod := HM.out
            have hij := HIJ.out
            have hci := HCI.out
            have hfr := HFR.out
            go_wp2_with fail
            go_roundg (m + 1 - (j + 1))
            case measure => rw [HGK2.out]; omega
            case rel => exact ⟨j + 1, q2, _, by omega, rfl, by go_num, rfl, HST.out, HOW.out, by simpa using hsz2, (hb2.trans (drewN_below _ _ _)).setCell (by simp <;> omega) _⟩
          · go_wp2_with fail
            go_quiet ((go_at_call 143; (with_reducible exact Calls.quiet_of_same (HQ.out _))))
            clear hw1 hw2 hw3 hw4
            have hdiv := HD.out
            have hmod := HM.out
            have hij := HIJ.out
            have hci := HCI.out
            have hfr := HFR.out
            go_wp2_with fail
            go_roundg (m + 1 - (j + 1))
            case measure => rw [HGK2.out]; omega
            case rel => exact ⟨j + 1, q2, _, by omega, rfl, by go_num, rfl, HST.out, HOW.out, by simpa using hsz2, (hb2.trans (drewN_below _ _ _)).setCell (by simp <;> omega) _⟩
        · have h1 : ¬ j < m := fun h => hgo (.inl h)
          obtain rfl : cy = 0 := by
            rcases Nat.eq_zero_or_pos cy with h | h
            · exact h
            · exact absurd (.inr h) hgo
          have HF := Lib.hid (HI.out.finish HO.out (by rw [HY.out.rd.1]; omega))
          clear hgo
          go_wp2_with fail
          go_roundg (n - (i + 1))
          case measure => rw [HGK.out]; omega
          case rel => exact ⟨i + 1, zs, by omega, rfl, by go_num, HF.out, HOWI.out, hsz2, hb2⟩
    · obtain rfl : i = n := by omega
      have hbb2 := HB2.out.below hb (by omega)
      have hbw := HBW.out.trans (hb.mono (by omega))
      have hrd : Rd .i64 wr (some ⟨w.heap.size + 1 + 1 + 1, 0, none⟩) (i + m) z0 := HOWN.out.rd (by rw [HO.out.1, HX.out.rd.1, HY.out.rd.1])
      have HDG := Lib.hid HO.out.2.1
      have HV : Hid (dv BR z0 = dv BR xs * dv BR ys) := by
        have := HO.out.2.2.1
        rw [List.take_of_length_le (by rw [HX.out.rd.1]; exact Nat.le_refl _)] at this
        exact this
      have hbne : ∀ (r : Bool), r = (a != b) → True := fun _ _ => trivial
      go_wp2_with (go_at_call 101; refine (rnumber_any _ _ _ _ z0 _ (by unfold maxLen; omega) (Nat.le_refl _) hrd HDG.out).mono ?_; rintro e w2 ⟨neg2, p2, n2, c2, xs2, rfl, hx2, hn2, hb2⟩; have b22 := hbb2.below hb2 hbb2.lt; have c20 := b22.cell0; have c21 := b22.cell1; have q20 := b22.frozen (i := 0); have q21 := b22.frozen (i := 1))
      have b3 := b22.set (.bool neg2) (.slice p2 n2 c2)
      have z0' := b3.cell0
      have z1' := b3.cell1
      refine bodyPost_ret (v := .agg #[.bool neg2, .slice p2 n2 c2]) (by simp [results, Tryz.results123, go_sem, z0', z1']) rfl ⟨neg2, p2, n2, c2, xs2, rfl, { rd := (hx2.rd.boxI b22 _).boxI (b22.set0 _) _, cap := hx2.cap, cn := hx2.cn, pos := hx2.pos, val := ?_ }, hn2, ((hbw.trans (hb2.mono hbw.size)).setCell (by simp <;> omega) _).setCell (by simp <;> omega) _⟩
      rw [← hx2.val, HV.out, HX.out.val, HY.out.val]
      cases a <;> cases b <;> simp [sv, Int.neg_mul, Int.mul_neg]

end Go.Proofs.YtimkeblcdodfmaaGreat

namespace Go.Proofs.YtimkeblcdodfmaaGreat

theorem small_quot {x y : Int} (h0 : y ≠ 0) :
    (x.tmod y < 0 → (0 < y → x.tdiv y - 1 = x / y) ∧ (y < 0 → x.tdiv y + 1 = x / y) ∧ x.tmod y + (y.natAbs : Int) = x % y) ∧ (¬ x.tmod y < 0 → x.tdiv y = x / y ∧ x.tmod y = x % y) := by
  have e1 := Int.mul_tdiv_add_tmod x y
  have e2 := Int.mul_ediv_add_emod x y
  have h1 := Int.emod_nonneg x h0
  have h2 : x % y < y.natAbs := Int.emod_lt x h0
  have h3 : (x.tmod y).natAbs < y.natAbs := by
    rw [Int.natAbs_tmod]; exact Nat.mod_lt _ (by omega)
  generalize x.tdiv y = q at *
  generalize x.tmod y = r at *
  generalize x / y = Q at *
  generalize x % y = R at *
  have key : y * (q - Q) = R - r := by grind
  have hb : ∀ k : Int, y * (q - Q) = R - r → (q - Q) = k → y * k = R - r := fun k h hk => by rw [← hk]; exact h
  have hd : q - Q ≤ 1 ∧ -1 ≤ q - Q := by
    constructor
    · rcases Int.lt_or_le 1 (q - Q) with h | h
      · exfalso
        have : 2 * y.natAbs ≤ (y * (q - Q)).natAbs := by rw [Int.natAbs_mul, Nat.mul_comm]; exact Nat.mul_le_mul_left _ (by omega)
        omega
      · exact h
    · rcases Int.lt_or_le (q - Q) (-1) with h | h
      · exfalso
        have : 2 * y.natAbs ≤ (y * (q - Q)).natAbs := by rw [Int.natAbs_mul, Nat.mul_comm]; exact Nat.mul_le_mul_left _ (by omega)
        omega
      · exact h
  have cases3 : q - Q = -1 ∨ q - Q = 0 ∨ q - Q = 1 := by omega
  rcases cases3 with h | h | h <;> rw [h] at key <;> constructor <;> intro hr <;> (try refine ⟨fun hy => ?_, fun hy => ?_, ?_⟩) <;> (try refine ⟨?_, ?_⟩) <;> omega

/-- One digit of a quotient, by halving. -/
def Bis (C r lo hi : Nat) : Prop := lo ≤ hi ∧ hi ≤ 9999 ∧ C * lo ≤ r ∧ r < C * (hi + 1)

theorem Bis.start {C r : Nat} (h : r < C * 10000) : Bis C r 0 9999 := ⟨by omega, by omega, by simp, h⟩
theorem Bis.up {C r lo hi m : Nat} (h : Bis C r lo hi) (hm : m = (lo + hi + 1) / 2) (hlt : lo < hi) (hle : C * m ≤ r) : Bis C r m hi := ⟨by omega, h.2.1, hle, h.2.2.2⟩
theorem Bis.down {C r lo hi m : Nat} (h : Bis C r lo hi) (hm : m = (lo + hi + 1) / 2) (hlt : lo < hi) (hle : ¬ C * m ≤ r) : Bis C r lo (m - 1) := by
  refine ⟨by omega, by have := h.2.1; omega, h.2.2.1, ?_⟩
  have : m - 1 + 1 = m := by omega
  rw [this]; omega
theorem Bis.done {C r lo hi : Nat} (h : Bis C r lo hi) (hlt : ¬ lo < hi) : C * lo ≤ r ∧ r - C * lo < C ∧ lo ≤ 9999 := by
  have e : lo = hi := by have := h.1; omega
  subst e
  obtain ⟨_, h2, h3, h4⟩ := h
  rw [Nat.mul_add] at h4
  omega

/-- One more digit of a quotient. -/
theorem quot_step {B C Q R a up low : Nat} (h : up = Q * C + R) (hl : C * low ≤ a + B * R) : a + B * up = (low + B * Q) * C + (a + B * R - C * low) := by
  have e1 : B * up = B * Q * C + B * R := by rw [h, Nat.mul_add, Nat.mul_assoc]
  have e2 : (low + B * Q) * C = low * C + B * Q * C := by rw [Nat.add_mul]
  have e3 : C * low = low * C := Nat.mul_comm _ _
  omega

theorem quot_room {B C R a : Nat} (hR : R < C) (ha : a < B) : a + B * R < C * B := by
  have : (R + 1) * B ≤ C * B := Nat.mul_le_mul_right _ hR
  rw [Nat.add_mul, Nat.mul_comm R B] at this
  omega

theorem quot_uniq {x y q r : Int} (h : y * q + r = x) (h0 : 0 ≤ r) (h1 : r < y.natAbs) : x / y = q ∧ x % y = r := by
  have hy : y ≠ 0 := by intro e; rw [e] at h1; simp at h1; omega
  have e2 := Int.mul_ediv_add_emod x y
  have g1 := Int.emod_nonneg x hy
  have g2 : x % y < y.natAbs := Int.emod_lt x hy
  generalize x / y = q' at *
  generalize x % y = r' at *
  have key : y * (q' - q) = r - r' := by grind
  have hq : q' - q = 0 := by
    rcases Nat.eq_zero_or_pos (q' - q).natAbs with h | h
    · omega
    · exfalso
      have : y.natAbs * 1 ≤ (y * (q' - q)).natAbs := by rw [Int.natAbs_mul]; exact Nat.mul_le_mul_left _ h
      omega
  rw [hq] at key
  omega

/-- Quotient and remainder out of those of the absolute values. -/
theorem signed_quot {x y : Int} {Q R C : Nat} (a b : Bool) (ha : a = true ↔ x < 0) (hb : b = true ↔ y < 0) (hC : C = y.natAbs) (h : x.natAbs = Q * C + R) (hR : R < C) :
    ((a = false ∨ R = 0) → x / y = (if (a != b) then -(Q : Int) else (Q : Int)) ∧ x % y = R) ∧
    (a = true → R ≠ 0 → x / y = (if b then (Q : Int) + 1 else -(Q : Int) - 1) ∧ x % y = (C : Int) - R) := by
  have hQC : ((Q * C + R : Nat) : Int) = (C : Int) * (Q : Int) + R := by rw [Int.natCast_add, Int.natCast_mul, Int.mul_comm]
  have hxa : a = false → x = (C : Int) * (Q : Int) + R := fun e => by rw [← hQC, ← h]; rw [e] at ha; simp at ha; omega
  have hxb : a = true → x = -((C : Int) * (Q : Int) + R) := fun e => by rw [← hQC, ← h]; have := ha.1 e; omega
  have hya : b = false → y = (C : Int) := fun e => by rw [e] at hb; simp at hb; omega
  have hyb : b = true → y = -(C : Int) := fun e => by have := hb.1 e; omega
  refine ⟨fun hc => ?_, fun e hR0 => ?_⟩
  · cases a
    · cases b
      · refine quot_uniq ?_ (by omega) (by omega)
        rw [hya rfl, hxa rfl]; simp
      · refine quot_uniq ?_ (by omega) (by omega)
        rw [hyb rfl, hxa rfl]; simp; try grind
    · have hR0 : R = 0 := by
        rcases hc with h | h
        · cases h
        · exact h
      subst hR0
      cases b
      · refine quot_uniq ?_ (by omega) (by omega)
        rw [hya rfl, hxb rfl]; simp; try grind
      · refine quot_uniq ?_ (by omega) (by omega)
        rw [hyb rfl, hxb rfl]; simp; try grind
  · subst e
    cases b
    · refine quot_uniq ?_ (by omega) (by omega)
      rw [hya rfl, hxb rfl]; simp; grind
    · refine quot_uniq ?_ (by omega) (by omega)
      rw [hyb rfl, hxb rfl]; simp; grind

end Go.Proofs.YtimkeblcdodfmaaGreat

namespace Go.Proofs.YtimkeblcdodfmaaGreat
open Go.RowKit

theorem append_none_any {P : Program} {W : World} {base : Nat} {t ty e : TypeId} {i : TypeInfo} {size : Nat} (ht : P.underlying t = some (.slice e)) (hi : P.info? e = some i) {v : Value} {n : Nat} {xs : List Value} (h : W.ownsRow base e size v n xs) (c : Nat) :
    (Builtin.append_ #[t, t] ty #[v, .slice none 0 c]).run P W = .ok v W := by
  rcases h.2 with ⟨rfl, rfl⟩ | ⟨g, cap, cur, rfl, _, _, hc, _⟩
  · simp [Builtin.append_, run_underlying ht, sizeOf, typeInfo, hi, Builtin.lenOf, Builtin.firstCells]
  · simp [Builtin.append_, run_underlying ht, sizeOf, typeInfo, hi, Builtin.lenOf, Builtin.firstCells, hc, storeCells]

theorem appI_law {ops : Array Oper} {Q : Exit → Act → World → Prop} {o : Oper} {rest : List Oper} {a : Act} {W : World} (hgd : o.guard = none) (s x : Operand)
    (ho : o.op = .call { callee := .builtin .append, args := #[s, x], argTypes := #[55, 55] }) {base : Nat} {v : Value} {ns : List Nat} (hs : a.eval s = v) (h : GrI W base v ns)
    {p : Option Addr} {m c : Nat} {xs : List Nat} (hx : a.eval x = .slice p m c) (hr : Rd .i64 W p m xs) (hl : ns.length ≤ 1000000000) (hm : m ≤ 1000000000) (hbase : base ≤ W.heap.size)
    (k : ∀ v' w', GrI w' base v' (ns ++ xs) → Below base W w' → wpList Tryz.prog ops Q rest (a.put o.dst v') w') : wpList Tryz.prog ops Q (o :: rest) a W := by
  obtain ⟨i0, hi, hz0, hz1, hz2⟩ := info_parts Tryz.info3
  cases p with
  | none =>
    have hm0 : m = 0 := by
      rcases Nat.eq_zero_or_pos m with e | e
      · exact e
      · obtain ⟨b, off, hp, _⟩ := hr.2 0 e; cases hp
    subst hm0
    have hxs : xs = [] := List.length_eq_zero_iff.1 hr.1
    subst hxs
    refine wpList_plain hgd fun K hK => ?_
    have hrun := append_none_any (P := Tryz.prog) (ty := o.type) Tryz.underlying55 hi h c
    unfold Oper.wp
    simp [execOp, ho, resolve, invoke, builtin, hs, hx, hrun, Result.andThen]
    exact hK _ _ (k v W (by rw [List.append_nil]; exact h) ((Below.refl _ _).mono hbase))
  | some ad =>
    refine wpList_append_own _ hgd s x 55 ho base 3 i0 (.int .i64 0) 1 8 Tryz.underlying55 hi hz0 hz1 hz2 rfl (by decide) v ns.length (icells ns) hs h ad m c (icells xs) hx (by unfold icells; rw [List.length_map, hr.1, Nat.mul_one])
      ?_ (by intro u hu; unfold icells at hu; obtain ⟨y, _, rfl⟩ := List.mem_map.1 hu; rfl) (by unfold maxLen; omega) (by omega) hbase ?_
    · intro j u hj
      unfold icells at hj
      rw [List.getElem?_map, Option.map_eq_some_iff] at hj
      obtain ⟨y, hy, rfl⟩ := hj
      obtain ⟨b, off, hp, _, hc⟩ := hr.2 j (by have := (List.getElem?_eq_some_iff.1 hy).1; rw [hr.1] at this; exact this)
      cases hp
      rw [hy] at hc
      rw [Lib.add_plain]
      exact hc
    · intro v' w' h2 h3 _
      refine k v' w' ?_ (below_of_own h h3 hbase)
      unfold GrI
      rw [List.length_append, icells_append, hr.1]
      exact h2

/-- A new row of one digit. -/
theorem GrI.one (W : World) (d : Nat) : GrI (W.alloc (.cells #[.int .i64 (d : Int)] 3)) W.heap.size (.slice (some ⟨W.heap.size, 0, none⟩) 1 1) [d] := by
  refine ⟨rfl, .inr ⟨W.heap.size, 1, #[.int .i64 (d : Int)], rfl, Nat.le_refl _, by unfold World.alloc; simp, Nat.le_refl _, by unfold maxLen; omega, rfl, rfl⟩⟩

end Go.Proofs.YtimkeblcdodfmaaGreat

namespace Go.Proofs.YtimkeblcdodfmaaGreat
open Go.RowKit
attribute [local go_sem] Oper.semAt_some

theorem RIs.lt {w : World} {neg : Bool} {p : Option Addr} {n c : Nat} {xs : List Nat} {z : Int} (h : RIs w neg p n c xs z) : z.natAbs < BR ^ n := by
  have h1 := dv_lt h.cn.1
  rw [h.rd.1] at h1
  rw [h.val, sv_natAbs]
  exact h1
theorem RIs.len_le {w : World} {neg : Bool} {p : Option Addr} {n c : Nat} {xs : List Nat} {z : Int} (h : RIs w neg p n c xs z) {L : Nat} (hz : z.natAbs < BR ^ L) : n ≤ L := by
  have := h.cn.length_le (b := BR) (by decide) (m := L) (by rw [h.val, sv_natAbs] at hz; exact hz)
  rw [h.rd.1] at this
  exact this
theorem RIs.neg_iff {w : World} {neg : Bool} {p : Option Addr} {n c : Nat} {xs : List Nat} {z : Int} (h : RIs w neg p n c xs z) : neg = true ↔ z < 0 := by
  have hp : 0 < n → 0 < dv BR xs := fun e => h.cn.pos (by decide) (by intro e2; have := h.rd.1; rw [e2] at this; simp at this; omega)
  have hv := h.val
  constructor
  · intro e
    have := hp (h.pos e)
    rw [hv, e]
    simp [sv]; omega
  · intro e
    cases neg
    · rw [hv] at e; simp [sv] at e; omega
    · rfl
theorem RIs.zero_iff {w : World} {neg : Bool} {p : Option Addr} {n c : Nat} {xs : List Nat} {z : Int} (h : RIs w neg p n c xs z) : z = 0 ↔ n = 0 := by
  constructor
  · intro e
    have := h.len_le (L := 0) (by rw [e]; simp)
    omega
  · intro e
    have := h.lt
    rw [e] at this
    simp at this
    exact this

theorem RIs.setAt {W : World} {neg : Bool} {p : Option Addr} {n c : Nat} {xs : List Nat} {z : Int} (h : RIs W neg p n c xs z) {B i : Nat} {u : Value} (hu : W.cell? ⟨B, i, none⟩ = some u) (hne : ∀ x, u ≠ .int .i64 x) (v : Value) : RIs (W.setCell ⟨B, i, none⟩ v) neg p n c xs z := { h with rd := h.rd.setOther hu hne v }
/-- A number is stored into a variable. -/
theorem RIs.setBox {W : World} {neg : Bool} {p : Option Addr} {n c : Nat} {xs : List Nat} {z : Int} (h : RIs W neg p n c xs z) {B : Nat} {b0 : Bool} {p0 : Option Addr} {n0 c0 : Nat} {t : TypeId} (hk : Blk W B #[.bool b0, .slice p0 n0 c0] t) (b1 : Bool) (v1 : Value) : RIs ((W.setCell ⟨B, 0, none⟩ (.bool b1)).setCell ⟨B, 1, none⟩ v1) neg p n c xs z :=
  (h.setAt (hk.cell (i := 0) rfl) (by intro x e; cases e) _).setAt ((hk.set_eq 0 (.bool b1) rfl).cell (i := 1) rfl) (by intro x e; cases e) _

/-- What a division hands back. -/
def DivR (w : World) (x y : Int) (e : Ending) (w' : World) : Prop :=
  ∃ a p n c xs b q m d ys, e = .returned (.tuple #[.agg #[.bool a, .slice p n c], .agg #[.bool b, .slice q m d]]) ∧ RIs w' a p n c xs (x / y) ∧ RIs w' b q m d ys (x % y) ∧ Below w.heap.size w w'

set_option maxRecDepth 100000 in
set_option maxHeartbeats 2000000 in
theorem rabs_any (neg : Bool) (p : Option Addr) (n c : Nat) (xs : List Nat) (z : Int) (w : World) (hn : n ≤ 1000000000) (hx : RIs w neg p n c xs z) :
    Calls Tryz.prog 121 #[.agg #[.bool neg, .slice p n c]] w (RV w (z.natAbs : Int) n) := by
  have hb0 : Below w.heap.size w ((w.alloc (.cells #[.bool neg, .slice p n c] 109)).alloc (.cells #[.bool false, .slice none 0 0] 109)) := ((Below.refl _ w).alloc (Nat.le_refl _) _).alloc (by simp) _
  have b1 : Boxed2 ((w.alloc (.cells #[.bool neg, .slice p n c] 109)).alloc (.cells #[.bool false, .slice none 0 0] 109)) (w.heap.size + 1) (.bool false) (.slice none 0 0) 109 := by
    have := Boxed2.new (w.alloc (.cells #[.bool neg, .slice p n c] 109)) (.bool false) (.slice none 0 0) 109
    simpa using this
  have hx1 := hx.below hb0
  have HX := Lib.hid hx
  go_enter Tryz.func121, Tryz.ntmps121
  go_wp2_with (go_at_call 101; refine (rnumber_any _ _ _ _ xs _ (by unfold maxLen; omega) hx1.cap hx1.rd hx1.cn.1).mono ?_; rintro e w2 ⟨neg2, p2, n2, c2, xs2, rfl, hx2, hn2, hb2⟩; have b2 := b1.below hb2 b1.lt; have c20 := b2.cell0; have c21 := b2.cell1; have q20 := b2.frozen (i := 0); have q21 := b2.frozen (i := 1))
  have b3 := b2.set (.bool neg2) (.slice p2 n2 c2)
  have z0 := b3.cell0
  have z1 := b3.cell1
  refine bodyPost_ret (v := .agg #[.bool neg2, .slice p2 n2 c2]) (by simp [results, Tryz.results121, go_sem, z0, z1]) rfl ⟨neg2, p2, n2, c2, xs2, rfl, { rd := (hx2.rd.boxI b2 _).boxI (b2.set0 _) _, cap := hx2.cap, cn := hx2.cn, pos := hx2.pos, val := ?_ }, hn2, ((hb0.trans (hb2.mono hb0.size)).setCell (by simp) _).setCell (by simp) _⟩
  rw [← hx2.val, HX.out.val, sv_natAbs]
  rfl

theorem ten16 : BR ^ 4 = 10000000000000000 := by decide
theorem RIs.int {w : World} {neg : Bool} {p : Option Addr} {n c : Nat} {xs : List Nat} {z : Int} (h : RIs w neg p n c xs z) (hn : n ≤ 4) : inI64 z = true ∧ intV z = z ∧ -10000000000000000 < z ∧ z < 10000000000000000 := by
  have h1 := h.lt
  have h2 : BR ^ n ≤ BR ^ 4 := Nat.pow_le_pow_right (by decide) hn
  rw [ten16] at h2
  have h3 : inI64 z = true := by unfold inI64; simp; omega
  refine ⟨h3, ?_, by omega, by omega⟩
  unfold intV
  rw [h3]
  rfl

set_option maxRecDepth 100000 in
set_option maxHeartbeats 4000000 in
theorem rdiv_small (a b : Bool) (p q : Option Addr) (n c m d : Nat) (xs ys : List Nat) (x y : Int) (w : World) (hn : n ≤ 4) (hm : m ≤ 4) (hx : RIs w a p n c xs x) (hy : RIs w b q m d ys y) (hy0 : y ≠ 0) :
    Calls Tryz.prog 99 #[.agg #[.bool a, .slice p n c], .agg #[.bool b, .slice q m d]] w (DivR w x y) := by
  obtain ⟨ix, vx, x0, x1⟩ := hx.int hn
  obtain ⟨iy, vy, y0, y1⟩ := hy.int hm
  obtain ⟨s1, s2⟩ := small_quot (x := x) hy0
  have hni : (n : Int) ≤ 4 := by omega
  have hmi : (m : Int) ≤ 4 := by omega
  obtain ⟨w1, hw1⟩ : ∃ w1, ((((w.alloc (.cells #[.bool a, .slice p n c] 109)).alloc (.cells #[.bool b, .slice q m d] 109)).alloc (.cells #[.bool false, .slice none 0 0] 109)).alloc (.cells #[.bool false, .slice none 0 0] 109)) = w1 := ⟨_, rfl⟩
  have hb1 : Below w.heap.size w w1 := by
    rw [← hw1]
    exact ((((Below.refl _ w).alloc (Nat.le_refl _) _).alloc (by simp) _).alloc (by rw [World.size_alloc, World.size_alloc]; omega) _).alloc (by rw [World.size_alloc, World.size_alloc, World.size_alloc]; omega) _
  have k0 : Blk w1 w.heap.size #[.bool a, .slice p n c] 109 := by
    rw [← hw1]; exact (((Blk.new w _ _).alloc _).alloc _).alloc _
  have k1 : Blk w1 (w.heap.size + 1) #[.bool b, .slice q m d] 109 := by
    rw [← hw1]; exact ((Blk.new' _ _ _ (by simp)).alloc _).alloc _
  have k2 : Blk w1 (w.heap.size + 1 + 1) #[.bool false, .slice none 0 0] 109 := by
    rw [← hw1]; exact (Blk.new' _ _ _ (by simp)).alloc _
  have k3 : Blk w1 (w.heap.size + 1 + 1 + 1) #[.bool false, .slice none 0 0] 109 := by
    rw [← hw1]; exact Blk.new' _ _ _ (by simp)
  have c0 := k0.cell (i := 0) rfl
  have c1 := k0.cell (i := 1) rfl
  have c2 := k1.cell (i := 0) rfl
  have c3 := k1.cell (i := 1) rfl
  have hx1 := hx.below hb1
  have hy1 := hy.below hb1
  go_enter Tryz.func99, Tryz.ntmps99
  go_wp2_with fail
  refine (rint_any a p n c xs x _ (by omega) hx1).mono ?_
  rintro e w2 ⟨rfl, hb2⟩
  rw [ix, vx]
  have k1 := k1.kept hb2
  have c2 := k1.cell (i := 0) rfl
  have c3 := k1.cell (i := 1) rfl
  have hy2 := hy1.below hb2
  go_wp2_with fail
  refine (rint_any b q m d ys y _ (by omega) hy2).mono ?_
  rintro e w3 ⟨rfl, hb3⟩
  rw [iy, vy]
  have hbw := (hb1.trans (hb2.mono hb1.size)).trans (hb3.mono (Nat.le_trans hb1.size hb2.size))
  have k2 := (k2.kept hb2).kept hb3
  have k3 := (k3.kept hb2).kept hb3
  obtain ⟨M, hM⟩ : ∃ M, x.tdiv y = M := ⟨_, rfl⟩
  obtain ⟨N, hN⟩ : ∃ N, x.tmod y = N := ⟨_, rfl⟩
  have bM : M.natAbs ≤ x.natAbs := by rw [← hM, Int.natAbs_tdiv]; exact Nat.div_le_self _ _
  have bN : N.natAbs ≤ x.natAbs := by rw [← hN, Int.natAbs_tmod]; exact Nat.mod_le _ _
  have m0 : -10000000000000000 < M := by omega
  have m1 : M < 10000000000000000 := by omega
  have n0 : -10000000000000000 < N := by omega
  have n1 : N < 10000000000000000 := by omega
  rw [hM, hN] at s1 s2
  have S1 := Lib.hid s1
  have S2 := Lib.hid s2
  clear s1 s2 bM bN ix vx iy vy hx hy hx1 hy1 hy2
  clear c0 c1 c2 c3 hb2 hb3 hb1 hw1
  go_wp2_with fail
  go_quiet (fail)
  go_upto_if 48 with fail
  go_cut [10, 11] from 47 to 60 (fun v10 v11 wx => v10 = .int .i64 (x / y) ∧ v11 = .int .i64 (x % y) ∧ Below w3.heap.size w3 wx)
  case first =>
    have hbd : ∀ k, Below w3.heap.size w3 (w3.drewN k) := fun k => ⟨rfl, rfl, rfl, Nat.le_refl _, fun _ _ => rfl⟩
    by_cases hneg : N < 0
    · obtain ⟨t1, t2, t3⟩ := S1.out hneg
      have hmx : max y (-y) = (y.natAbs : Int) := by omega
      rcases Int.lt_or_le y 0 with h | h
      · have ht := t2 h
        have hy1 : ¬ (0 < y) := by omega
        clear t1 t2
        have HT3 := Lib.hid t3
        have HT := Lib.hid ht
        clear t3 ht
        go_wp2_with fail
        go_meet
        case rel => exact ⟨congrArg (Value.int .i64) HT.out, congrArg (Value.int .i64) HT3.out, hbd _⟩
      · have ht := t1 (by omega)
        have hy1 : 0 < y := by omega
        clear t1 t2
        have HT3 := Lib.hid t3
        have HT := Lib.hid ht
        clear t3 ht
        go_wp2_with fail
        go_meet
        case rel => exact ⟨congrArg (Value.int .i64) HT.out, congrArg (Value.int .i64) HT3.out, hbd _⟩
    · obtain ⟨t1, t2⟩ := S2.out (by omega)
      have HT3 := Lib.hid t2
      have HT := Lib.hid t1
      clear t1 t2
      go_wp2_with fail
      go_meet
      case rel => exact ⟨congrArg (Value.int .i64) HT.out, congrArg (Value.int .i64) HT3.out, hbd _⟩
  case rest =>
    obtain ⟨rfl, rfl, hbc⟩ := hcut
    have k2 := k2.kept hbc
    have k3 := k3.kept hbc
    have hbC := hbw.trans (hbc.mono hbw.size)
    have bq : (x / y).natAbs ≤ x.natAbs := Int.natAbs_ediv_le_natAbs _ _
    have br := Int.emod_nonneg x hy0
    have br2 : x % y < y.natAbs := Int.emod_lt x hy0
    go_wp2_with fail
    refine (from_any _ (by omega) (by omega) _).mono ?_
    rintro e w4 ⟨a4, p4, n4, c4, xs4, rfl, hz4, _, hb4⟩
    have hb4' := hbC.trans (hb4.mono hbC.size)
    go_wp2_with fail
    refine (from_any _ (by omega) (by omega) _).mono ?_
    rintro e w5 ⟨a5, p5, n5, c5, xs5, rfl, hz5, _, hb5⟩
    have hb5' := hb4'.trans (hb5.mono hb4'.size)
    have k2 := (k2.kept hb4).kept hb5
    have k3 := (k3.kept hb4).kept hb5
    have hz4 := hz4.below hb5
    have e0 := k2.cell (i := 0) rfl
    have e1 := k2.cell (i := 1) rfl
    have e2 := k3.cell (i := 0) rfl
    have e3 := k3.cell (i := 1) rfl
    have f0 := k2.frozen 0
    have f1 := k2.frozen 1
    have f2 := k3.frozen 0
    have f3 := k3.frozen 1
    go_wp2_with fail
    have g2 := k2.set_eq 0 (.bool a4) rfl |>.set_eq 1 (.slice p4 n4 c4) rfl
    have K2 := (g2.other (C := w.heap.size + 1 + 1 + 1) 0 (.bool a5) (by omega)).other (C := w.heap.size + 1 + 1 + 1) 1 (.slice p5 n5 c5) (by omega)
    have K3 := (((k3.other (C := w.heap.size + 1 + 1) 0 (.bool a4) (by omega)).other (C := w.heap.size + 1 + 1) 1 (.slice p4 n4 c4) (by omega)).set_eq 0 (.bool a5) rfl).set_eq 1 (.slice p5 n5 c5) rfl
    have r0 := K2.cell (i := 0) rfl
    have r1 := K2.cell (i := 1) rfl
    have r2 := K3.cell (i := 0) rfl
    have r3 := K3.cell (i := 1) rfl
    refine bodyPost_ret (v := .tuple #[.agg #[.bool a4, .slice p4 n4 c4], .agg #[.bool a5, .slice p5 n5 c5]]) (by simp [results, Tryz.results99, go_sem, r0, r1, r2, r3]) rfl ⟨a4, p4, n4, c4, xs4, a5, p5, n5, c5, xs5, rfl, ?_, ?_, ?_⟩
    · exact (hz4.setBox k2 a4 _).setBox ((k3.other (C := w.heap.size + 1 + 1) 0 (.bool a4) (by omega)).other (C := w.heap.size + 1 + 1) 1 (.slice p4 n4 c4) (by omega)) a5 _
    · exact (hz5.setBox k2 a4 _).setBox ((k3.other (C := w.heap.size + 1 + 1) 0 (.bool a4) (by omega)).other (C := w.heap.size + 1 + 1) 1 (.slice p4 n4 c4) (by omega)) a5 _
    · exact (((hb5'.setCell (by simp <;> omega) _).setCell (by simp <;> omega) _).setCell (by simp <;> omega) _).setCell (by simp <;> omega) _

end Go.Proofs.YtimkeblcdodfmaaGreat
