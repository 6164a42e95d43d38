/-
  The reference: products; Quotients, plain: by the machine's own division; digit by digit, each found by halving; append of a slice of digits onto a row of the call's own; A region that draws its order, by one relation that every order keeps: a goal for each operation, not for each order; A region that draws its order, operation by operation: what each one yields holds on while memory grows. A last store that comes behind all else is apart; Blocks of the call's own, known whole.
-/
import Derived.Laws.AppendOwnNone
import Derived.Test.YtopdeakjnloemaaK1
import Derived.Test.YtopdeakjnloemaaK2
import Derived.Test.YtopdeakjnloemaaK3
namespace Go.Proofs.Ytopdeakjnloemaa
open Go.RowKit

set_option maxRecDepth 100000 in
set_option maxHeartbeats 2000000 in
theorem rsub_any (a b : Bool) (p q : Option Addr) (n c m d : Nat) (xs ys : List Nat) (x y : Int) (w : World) (hn : n ≤ 100000000) (hm : m ≤ 100000000) (hx : RIs w a p n c xs x) (hy : RIs w b q m d ys y) :
    Calls Try.prog 98 #[.agg #[.bool a, .slice p n c], .agg #[.bool b, .slice q m d]] w (RV w (x - y) (max n m + 1)) := by
  have hb0 : Below w.heap.size w ((((w.alloc (.cells #[.bool a, .slice p n c] 82)).alloc (.cells #[.bool b, .slice q m d] 82)).alloc (.cells #[.bool false, .slice none 0 0] 82)).drew) :=
    ((((Below.refl _ w).alloc (Nat.le_refl _) _).alloc (by simp) _).alloc (by rw [World.size_alloc, World.size_alloc]; omega) _).drew
  have hx1 := hx.below hb0
  have hy1 := hy.below hb0
  go_enter Try.func98, Try.ntmps98
  go_wp2_with fail
  go_region_held3 (fun w' => w'.cell? ⟨w.heap.size, 0, none⟩ = some (.bool a) ∧ w'.cell? ⟨w.heap.size, 1, none⟩ = some (.slice p n c) ∧ w'.cell? ⟨w.heap.size + 1, 0, none⟩ = some (.bool b) ∧ w'.cell? ⟨w.heap.size + 1, 1, none⟩ = some (.slice q m d))
    (simp [go_sem, *])
    (first
      | (go_at_call 60; refine (rneg_any _ _ _ _ ys y _ (by omega) hy1).mono ?_; rintro e w1 ⟨neg1, p1, n1, c1, xs1, rfl, hx2, hn1, hb1⟩; obtain ⟨hc1, hf1⟩ := bcell hb1; have z1 : w.heap.size < w1.heap.size := (by have := hb1.size; simp at this; omega); have z2 : w.heap.size + 1 < w1.heap.size := (by have := hb1.size; simp at this; omega); have z3 : w.heap.size + 1 + 1 < w1.heap.size := (by have := hb1.size; simp at this; omega); have hxV := hx1.below hb1)
      | (go_at_call 85; refine (radd_any _ _ _ _ _ _ _ _ xs xs1 x (-y) _ (by omega) (by omega) hxV hx2).mono ?_; rintro e w2 ⟨neg2, p2, n2, c2, xs2, rfl, hx3, hn2, hb2⟩; obtain ⟨hc2, hf2⟩ := bcell hb2))
  go_wp2_with fail
  have q0 : w2.cell? ⟨w.heap.size + 1 + 1, 0, none⟩ = some (.bool false) := by rw [hc2 _ _ z3, hc1 _ _ (by simp)]; simp [go_sem]
  have q1 : w2.cell? ⟨w.heap.size + 1 + 1, 1, none⟩ = some (.slice none 0 0) := by rw [hc2 _ _ z3, hc1 _ _ (by simp)]; simp [go_sem]
  have hbx := hb0.trans (hb1.mono (by simp <;> omega))
  obtain ⟨r0, r1, _⟩ := two_set (.bool neg2) (.slice p2 n2 c2) q0 q1
  refine bodyPost_ret (v := .agg #[.bool neg2, .slice p2 n2 c2]) (by simp [results, Try.results98, go_sem, r0, r1]) rfl ⟨neg2, p2, n2, c2, xs2, rfl, { rd := (hx3.rd.setOther q0 (by intro x e; cases e) _).setOther (two_set (.bool neg2) (.slice p2 n2 c2) q0 q1).2.2 (by intro x e; cases e) _, cap := hx3.cap, cn := hx3.cn, pos := hx3.pos, val := ?_ }, by omega, ((hbx.trans (hb2.mono (by omega))).setCell (by simp <;> omega) _).setCell (by simp <;> omega) _⟩
  rw [← hx3.val]; omega

end Go.Proofs.Ytopdeakjnloemaa

namespace Go.Proofs.Ytopdeakjnloemaa
open Go.RowKit

/-- i digits of x are done. -/
def RMulOut (xs ys zs : List Nat) (i : Nat) : Prop :=
  zs.length = xs.length + ys.length ∧ Dg BR zs ∧ dv BR zs = dv BR (xs.take i) * dv BR ys ∧ ∀ t, i + ys.length ≤ t → zs[t]?.getD 0 = 0

/-- Digit i of x, j places of y. -/
def RMulIn (xs ys z0 zs : List Nat) (i j c : Nat) : Prop :=
  zs.length = xs.length + ys.length ∧ Dg BR zs ∧ c < BR ∧ dv BR zs + BR ^ (i + j) * c = dv BR z0 + BR ^ i * (xs[i]?.getD 0 * dv BR (ys.take j)) ∧ (∀ t, i + 1 + ys.length ≤ t → zs[t]?.getD 0 = 0) ∧ (j ≤ ys.length → zs[i + ys.length]?.getD 0 = 0) ∧ (ys.length < j → c = 0)

theorem RMulIn.start {xs ys zs : List Nat} {i : Nat} (h : RMulOut xs ys zs i) : RMulIn xs ys zs zs i 0 0 :=
  ⟨h.1, h.2.1, by decide, by simp [dv], fun t ht => h.2.2.2 t (by omega), fun _ => h.2.2.2 _ (Nat.le_refl _), fun h => by omega⟩

theorem RMulIn.step {xs ys z0 zs : List Nat} {i j c s : Nat} (h : RMulIn xs ys z0 zs i j c) (hi : i < xs.length) (hj : j ≤ ys.length) (gx : Dg BR xs) (gy : Dg BR ys) (hs : c + zs[i + j]?.getD 0 + xs[i]?.getD 0 * ys[j]?.getD 0 = s) :
    RMulIn xs ys z0 (zs.set (i + j) (s % 10000)) i (j + 1) (s / 10000) := by
  obtain ⟨h1, h2, h3, h4, h5, h6, h7⟩ := h
  have hs' : c + (xs[i]?.getD 0 * ys[j]?.getD 0 + zs[i + j]?.getD 0) = s := by omega
  have hz := h6 hj
  refine ⟨by simp [h1], h2.set _ (Nat.mod_lt _ (by decide)), ?_, ?_, ?_, ?_, ?_⟩
  · rw [← hs']
    show _ / BR < BR
    rw [Nat.div_lt_iff_lt_mul (by decide)]
    exact mul_fits (by decide) h3 (gx.get (by decide) i) (gy.get (by decide) j) (h2.get (by decide) (i + j))
  · have g := mul_place (b := BR) (zs := zs) (at_ := i + j) (x := xs[i]?.getD 0) (w := ys[j]?.getD 0) (c := c) (by omega) rfl
    rw [hs'] at g
    have g' : dv BR (zs.set (i + j) (s % 10000)) + BR ^ (i + (j + 1)) * (s / 10000) = _ := g
    rw [g', h4, dv_take_succ, Nat.mul_add, Nat.mul_add, Nat.pow_add]
    grind
  · intro t ht
    rw [set_get_other _ _ _ _ (by omega)]; exact h5 t ht
  · intro hj'
    rw [set_get_other _ _ _ _ (by omega)]; exact hz
  · intro hj'
    have e : j = ys.length := by omega
    rw [e, hz, List.getElem?_eq_none (Nat.le_refl _)] at hs
    simp at hs
    have : BR = 10000 := rfl
    omega

theorem RMulIn.finish {xs ys z0 zs : List Nat} {i j : Nat} (h : RMulIn xs ys z0 zs i j 0) (h0 : RMulOut xs ys z0 i) (hj : ys.length ≤ j) : RMulOut xs ys zs (i + 1) := by
  obtain ⟨h1, h2, h3, h4, h5, h6, h7⟩ := h
  refine ⟨h1, h2, ?_, h5⟩
  rw [Nat.mul_zero, Nat.add_zero, List.take_of_length_le hj, h0.2.2.1] at h4
  rw [h4, dv_take_succ, Nat.add_mul, Nat.mul_assoc]

/-- make([]int, n) -/
theorem mkInts (n : Nat) (hn : n ≤ 35184372088832) (w : World) :
    (Instr.makeSlice 80 (.int .i64 (n : Int)) (.int .i64 (n : Int))).run Try.prog w = .ok (.slice (some ⟨w.heap.size, 0, none⟩) n n) (w.alloc (.cells (Go.madeCells #[.int .i64 0] n) 3)) :=
  run_make_row' _ _ (.int .i64 0) 8 Try.underlying80 Try.info3 rfl .i64 .i64 n (by omega) (by omega) w

set_option maxRecDepth 100000 in
set_option maxHeartbeats 4000000 in
theorem rmul_any (a b : Bool) (p q : Option Addr) (n c m d : Nat) (xs ys : List Nat) (x y : Int) (w : World) (hn : n ≤ 100000000) (hm : m ≤ 100000000) (hx : RIs w a p n c xs x) (hy : RIs w b q m d ys y) :
    Calls Try.prog 84 #[.agg #[.bool a, .slice p n c], .agg #[.bool b, .slice q m d]] w (RV w (x * y) (n + m)) := by
  have hb0 : Below w.heap.size w (((w.alloc (.cells #[.bool a, .slice p n c] 82)).alloc (.cells #[.bool b, .slice q m d] 82)).alloc (.cells #[.bool false, .slice none 0 0] 82)) := (((Below.refl _ w).alloc (Nat.le_refl _) _).alloc (by simp) _).alloc (by rw [World.size_alloc, World.size_alloc]; omega) _
  have b0 : Boxed2 (((w.alloc (.cells #[.bool a, .slice p n c] 82)).alloc (.cells #[.bool b, .slice q m d] 82)).alloc (.cells #[.bool false, .slice none 0 0] 82)) w.heap.size (.bool a) (.slice p n c) 82 := ((Boxed2.new w _ _ _).alloc _).alloc _
  have b1 : Boxed2 (((w.alloc (.cells #[.bool a, .slice p n c] 82)).alloc (.cells #[.bool b, .slice q m d] 82)).alloc (.cells #[.bool false, .slice none 0 0] 82)) (w.heap.size + 1) (.bool b) (.slice q m d) 82 := by
    have := Boxed2.new (w.alloc (.cells #[.bool a, .slice p n c] 82)) (.bool b) (.slice q m d) 82
    rw [World.size_alloc] at this
    exact this.alloc _
  have b2 : Boxed2 (((w.alloc (.cells #[.bool a, .slice p n c] 82)).alloc (.cells #[.bool b, .slice q m d] 82)).alloc (.cells #[.bool false, .slice none 0 0] 82)) (w.heap.size + 1 + 1) (.bool false) (.slice none 0 0) 82 := by
    have := Boxed2.new ((w.alloc (.cells #[.bool a, .slice p n c] 82)).alloc (.cells #[.bool b, .slice q m d] 82)) (.bool false) (.slice none 0 0) 82
    rwa [World.size_alloc, World.size_alloc] at this
  have HX := Lib.hid hx
  have HY := Lib.hid hy
  have hown0 := Own.new .i64 3 (((w.alloc (.cells #[.bool a, .slice p n c] 82)).alloc (.cells #[.bool b, .slice q m d] 82)).alloc (.cells #[.bool false, .slice none 0 0] 82)) (n + m)
  have hsz0 : (((w.alloc (.cells #[.bool a, .slice p n c] 82)).alloc (.cells #[.bool b, .slice q m d] 82)).alloc (.cells #[.bool false, .slice none 0 0] 82)).heap.size = w.heap.size + 1 + 1 + 1 := by simp
  have hmk := mkInts (n + m) (by omega) (((w.alloc (.cells #[.bool a, .slice p n c] 82)).alloc (.cells #[.bool b, .slice q m d] 82)).alloc (.cells #[.bool false, .slice none 0 0] 82))
  rw [hsz0] at hown0 hmk
  have ec : ((n + m : Nat) : Int) = (n : Int) + (m : Int) := by omega
  rw [ec] at hmk
  have hbM : Below (w.heap.size + 1 + 1 + 1) (((w.alloc (.cells #[.bool a, .slice p n c] 82)).alloc (.cells #[.bool b, .slice q m d] 82)).alloc (.cells #[.bool false, .slice none 0 0] 82)) ((((w.alloc (.cells #[.bool a, .slice p n c] 82)).alloc (.cells #[.bool b, .slice q m d] 82)).alloc (.cells #[.bool false, .slice none 0 0] 82)).alloc (.cells (Go.madeCells #[.int .i64 0] (n + m)) 3)) := (Below.refl _ _).alloc (by rw [hsz0]; omega) _
  have hszM : w.heap.size + 1 + 1 + 1 < ((((w.alloc (.cells #[.bool a, .slice p n c] 82)).alloc (.cells #[.bool b, .slice q m d] 82)).alloc (.cells #[.bool false, .slice none 0 0] 82)).alloc (.cells (Go.madeCells #[.int .i64 0] (n + m)) 3)).heap.size := by rw [World.size_alloc, hsz0]; omega
  have HB0 := Lib.hid b0
  have HB1 := Lib.hid b1
  have HB2 := Lib.hid b2
  have HBW := Lib.hid hb0
  have HOW0 := Lib.hid hown0
  clear hx hy hown0 ec
  go_enter Try.func84, Try.ntmps84
  go_wp2_with fail
  generalize hwM : ((((w.alloc (.cells #[.bool a, .slice p n c] 82)).alloc (.cells #[.bool b, .slice q m d] 82)).alloc (.cells #[.bool false, .slice none 0 0] 82)).alloc (.cells (Go.madeCells #[.int .i64 0] (n + m)) 3)) = wM at *
  generalize hwZ : (((w.alloc (.cells #[.bool a, .slice p n c] 82)).alloc (.cells #[.bool b, .slice q m d] 82)).alloc (.cells #[.bool false, .slice none 0 0] 82)) = w1 at *
  clear b0 b1 b2 hb0 hsz0 hmk hwM hwZ
  go_loopg [6] n (fun gk v6 wr => ∃ (i : Nat) (zs : List Nat), i ≤ n ∧ gk = n - i ∧ v6 = .int .i64 (i : Int) ∧ Hid (RMulOut xs ys zs i) ∧ Hid (Own .i64 3 wr (w.heap.size + 1 + 1 + 1) zs) ∧ w.heap.size + 1 + 1 + 1 < wr.heap.size ∧ Below (w.heap.size + 1 + 1 + 1) w1 wr)
  case atStart => exact ⟨0, _, Nat.zero_le _, rfl, rfl, ⟨by simp [HX.out.rd.1, HY.out.rd.1], Dg.replicate (by decide) _, by rw [dv_replicate]; simp [dv], fun t _ => by rw [List.getElem?_replicate]; split <;> rfl⟩, HOW0.out, hszM, hbM⟩
  case round =>
    obtain ⟨i, z0, hi, hgk, rfl, HO, HOWN, hsz, hb⟩ := hrel
    have HGK := Lib.hid hgk
    have bb0 := HB0.out.below hb (by omega)
    have bb1 := HB1.out.below hb (by omega)
    have k0 := bb0.cell0
    have k1 := bb0.cell1
    have k2 := bb1.cell0
    have k3 := bb1.cell1
    clear hgk
    by_cases hlt : i < n
    · have hil : (i : Int) < (n : Int) := by omega
      go_wp2_with fail
      obtain ⟨wo, hwo⟩ : ∃ wo : World, wo = wr := ⟨_, rfl⟩
      go_loopg [7, 8] (m + 1) (fun gk v7 v8 wi => ∃ (j cy : Nat) (zs : List Nat), j ≤ m + 1 ∧ gk = m + 1 - j ∧ v8 = .int .i64 (j : Int) ∧ v7 = .int .i64 (cy : Int) ∧ Hid (RMulIn xs ys z0 zs i j cy) ∧ Hid (Own .i64 3 wi (w.heap.size + 1 + 1 + 1) zs) ∧ w.heap.size + 1 + 1 + 1 < wi.heap.size ∧ Below (w.heap.size + 1 + 1 + 1) w1 wi)
      case atStart => exact ⟨0, 0, z0, by omega, rfl, rfl, rfl, RMulIn.start HO.out, HOWN.out, hsz, hb⟩
      case round =>
        clear bb0 bb1 k0 k1 k2 k3 hwo
        obtain ⟨j, cy, zs, hj, hgk, rfl, rfl, HI, HOWI, hsz2, hb2⟩ := hrel
        have HGK2 := Lib.hid hgk
        clear hgk
        have bb0 := HB0.out.below hb2 (by omega)
        have bb1 := HB1.out.below hb2 (by omega)
        have k0 := bb0.cell0
        have k1 := bb0.cell1
        have k2 := bb1.cell0
        have k3 := bb1.cell1
        have hcy : cy < 10000 := HI.out.2.2.1
        have hrx : Rd .i64 wr p n xs := HX.out.rd.below (HBW.out.trans (hb2.mono (by omega)))
        have hry : Rd .i64 wr q m ys := HY.out.rd.below (HBW.out.trans (hb2.mono (by omega)))
        by_cases hgo : j < m ∨ 0 < cy
        · have hjm : j ≤ m := by
            rcases Nat.lt_or_ge m j with h | h
            · have := HI.out.2.2.2.2.2.2 (by rw [HY.out.rd.1]; exact h); omega
            · exact h
          have hdx : xs[i]?.getD 0 < 10000 := HX.out.cn.1.get (by decide) i
          have hdy : ys[j]?.getD 0 < 10000 := HY.out.cn.1.get (by decide) j
          have hdz : zs[i + j]?.getD 0 < 10000 := HI.out.2.1.get (by decide) _
          have hzl : i + j < zs.length := by rw [HI.out.1, HX.out.rd.1, HY.out.rd.1]; omega
          have HQ := Lib.hid (fun k => digit_same q m d j ys (wr.drewN k) (by omega) (hry.drewN k))
          obtain ⟨bb, off, rfl, hbb, hcell⟩ := hrx.2 i hlt
          have hcz := HOWI.out.cell (i + j) hzl
          have HFR := Lib.hid (HOWI.out.frozen (i + j))
          have hset := fun v => HOWI.out.set (i + j) v
          have hst := HI.out.step (s := cy + zs[i + j]?.getD 0 + xs[i]?.getD 0 * ys[j]?.getD 0) (by rw [HX.out.rd.1]; exact hlt) (by rw [HY.out.rd.1]; exact hjm) HX.out.cn.1 HY.out.cn.1 rfl
          generalize xs[i]?.getD 0 = dx at hdx hst hcell
          generalize ys[j]?.getD 0 = dy at hdy HQ hst
          generalize zs[i + j]?.getD 0 = dz at hdz hst hcz
          have HCI := Lib.hid hcz
          obtain ⟨s1, hs1⟩ : ∃ s1, cy + dz = s1 := ⟨_, rfl⟩
          obtain ⟨m1, hm1⟩ : ∃ m1, dx * dy = m1 := ⟨_, rfl⟩
          have hm1b : m1 ≤ 9999 * 9999 := by rw [← hm1]; exact Nat.mul_le_mul (by omega) (by omega)
          have hmI : (dx : Int) * (dy : Int) = (m1 : Int) := by rw [← hm1]; simp
          obtain ⟨s2, hs2⟩ : ∃ s2, s1 + m1 = s2 := ⟨_, rfl⟩
          obtain ⟨at2, hat⟩ : ∃ at2, i + j = at2 := ⟨_, rfl⟩
          have hw1 : IntKind.i64.wrap ((cy : Int) + (dz : Int)) = (s1 : Int) := by rw [IntWalk.i64_in _ (by omega)]; omega
          have hw2 : IntKind.i64.wrap ((dx : Int) * (dy : Int)) = (m1 : Int) := by rw [hmI, IntWalk.i64_in _ (by omega)]
          have hw3 : IntKind.i64.wrap ((s1 : Int) + (m1 : Int)) = (s2 : Int) := by rw [IntWalk.i64_in _ (by omega)]; omega
          have hw4 : IntKind.i64.wrap ((i : Int) + (j : Int)) = (at2 : Int) := by rw [IntWalk.i64_in _ (by omega)]; omega
          have hij : (i : Int) + (j : Int) = (at2 : Int) := by omega
          have HIJ := Lib.hid hij
          have hatl : at2 < n + m := by omega
          have hs2b : s2 < 200000000 := by omega
          rw [hs1, hm1, hs2, hat] at hst
          rw [hat] at hcz hset HFR HCI
          have HD := Lib.hid (show (s2 : Int) / 10000 = ((s2 / 10000 : Nat) : Int) by omega)
          have HM := Lib.hid (show (s2 : Int) % 10000 = ((s2 % 10000 : Nat) : Int) by omega)
          have HST := Lib.hid hst
          generalize s2 / 10000 = q2 at HD HST
          have HOW := Lib.hid (hset (s2 % 10000))
          generalize s2 % 10000 = r2 at HM HST HOW
          clear hs1 hm1 hs2 hat hst hset hmI hij
          have hways : (j < m) ∨ (¬ j < m ∧ (0 : Int) < (cy : Int)) := by omega
          clear hgo
          rcases hways with h1 | ⟨h1, h2⟩
          · go_wp2_with fail
            go_quiet ((go_at_call 105; (with_reducible exact Calls.quiet_of_same (HQ.out _))))
            clear hw1 hw2 hw3 hw4
            have hdiv := HD.out
            have hmod := HM.out
            have hij := HIJ.out
            have hci := HCI.out
            have hfr := HFR.out
            go_wp2_with fail
            go_roundg (m + 1 - (j + 1))
            case measure => rw [HGK2.out]; omega
            case rel => exact ⟨j + 1, q2, _, by omega, rfl, by go_num, rfl, HST.out, HOW.out, by simpa using hsz2, (hb2.trans (drewN_below _ _ _)).setCell (by simp <;> omega) _⟩
          · go_wp2_with fail
            go_quiet ((go_at_call 105; (with_reducible exact Calls.quiet_of_same (HQ.out _))))
            clear hw1 hw2 hw3 hw4
            have hdiv := HD.out
            have hmod := HM.out
            have hij := HIJ.out
            have hci := HCI.out
            have hfr := HFR.out
            go_wp2_with fail
            go_roundg (m + 1 - (j + 1))
            case measure => rw [HGK2.out]; omega
            case rel => exact ⟨j + 1, q2, _, by omega, rfl, by go_num, rfl, HST.out, HOW.out, by simpa using hsz2, (hb2.trans (drewN_below _ _ _)).setCell (by simp <;> omega) _⟩
        · have h1 : ¬ j < m := fun h => hgo (.inl h)
          obtain rfl : cy = 0 := by
            rcases Nat.eq_zero_or_pos cy with h | h
            · exact h
            · exact absurd (.inr h) hgo
          have HF := Lib.hid (HI.out.finish HO.out (by rw [HY.out.rd.1]; omega))
          clear hgo
          go_wp2_with fail
          go_roundg (n - (i + 1))
          case measure => rw [HGK.out]; omega
          case rel => exact ⟨i + 1, zs, by omega, rfl, by go_num, HF.out, HOWI.out, hsz2, hb2⟩
    · obtain rfl : i = n := by omega
      have hbb2 := HB2.out.below hb (by omega)
      have hbw := HBW.out.trans (hb.mono (by omega))
      have hrd : Rd .i64 wr (some ⟨w.heap.size + 1 + 1 + 1, 0, none⟩) (i + m) z0 := HOWN.out.rd (by rw [HO.out.1, HX.out.rd.1, HY.out.rd.1])
      have HDG := Lib.hid HO.out.2.1
      have HV : Hid (dv BR z0 = dv BR xs * dv BR ys) := by
        have := HO.out.2.2.1
        rw [List.take_of_length_le (by rw [HX.out.rd.1]; exact Nat.le_refl _)] at this
        exact this
      have hbne : ∀ (r : Bool), r = (a != b) → True := fun _ _ => trivial
      go_wp2_with (go_at_call 75; refine (rnumber_any _ _ _ _ z0 _ (by unfold maxLen; omega) (Nat.le_refl _) hrd HDG.out).mono ?_; rintro e w2 ⟨neg2, p2, n2, c2, xs2, rfl, hx2, hn2, hb2⟩; have b22 := hbb2.below hb2 hbb2.lt; have c20 := b22.cell0; have c21 := b22.cell1; have q20 := b22.frozen (i := 0); have q21 := b22.frozen (i := 1))
      have b3 := b22.set (.bool neg2) (.slice p2 n2 c2)
      have z0' := b3.cell0
      have z1' := b3.cell1
      refine bodyPost_ret (v := .agg #[.bool neg2, .slice p2 n2 c2]) (by simp [results, Try.results84, go_sem, z0', z1']) rfl ⟨neg2, p2, n2, c2, xs2, rfl, { rd := (hx2.rd.boxI b22 _).boxI (b22.set0 _) _, cap := hx2.cap, cn := hx2.cn, pos := hx2.pos, val := ?_ }, hn2, ((hbw.trans (hb2.mono hbw.size)).setCell (by simp <;> omega) _).setCell (by simp <;> omega) _⟩
      rw [← hx2.val, HV.out, HX.out.val, HY.out.val]
      cases a <;> cases b <;> simp [sv, Int.neg_mul, Int.mul_neg]

end Go.Proofs.Ytopdeakjnloemaa

namespace Go.Proofs.Ytopdeakjnloemaa

theorem small_quot {x y : Int} (h0 : y ≠ 0) :
    (x.tmod y < 0 → (0 < y → x.tdiv y - 1 = x / y) ∧ (y < 0 → x.tdiv y + 1 = x / y) ∧ x.tmod y + (y.natAbs : Int) = x % y) ∧ (¬ x.tmod y < 0 → x.tdiv y = x / y ∧ x.tmod y = x % y) := by
  have e1 := Int.mul_tdiv_add_tmod x y
  have e2 := Int.mul_ediv_add_emod x y
  have h1 := Int.emod_nonneg x h0
  have h2 : x % y < y.natAbs := Int.emod_lt x h0
  have h3 : (x.tmod y).natAbs < y.natAbs := by
    rw [Int.natAbs_tmod]; exact Nat.mod_lt _ (by omega)
  generalize x.tdiv y = q at *
  generalize x.tmod y = r at *
  generalize x / y = Q at *
  generalize x % y = R at *
  have key : y * (q - Q) = R - r := by grind
  have hb : ∀ k : Int, y * (q - Q) = R - r → (q - Q) = k → y * k = R - r := fun k h hk => by rw [← hk]; exact h
  have hd : q - Q ≤ 1 ∧ -1 ≤ q - Q := by
    constructor
    · rcases Int.lt_or_le 1 (q - Q) with h | h
      · exfalso
        have : 2 * y.natAbs ≤ (y * (q - Q)).natAbs := by rw [Int.natAbs_mul, Nat.mul_comm]; exact Nat.mul_le_mul_left _ (by omega)
        omega
      · exact h
    · rcases Int.lt_or_le (q - Q) (-1) with h | h
      · exfalso
        have : 2 * y.natAbs ≤ (y * (q - Q)).natAbs := by rw [Int.natAbs_mul, Nat.mul_comm]; exact Nat.mul_le_mul_left _ (by omega)
        omega
      · exact h
  have cases3 : q - Q = -1 ∨ q - Q = 0 ∨ q - Q = 1 := by omega
  rcases cases3 with h | h | h <;> rw [h] at key <;> constructor <;> intro hr <;> (try refine ⟨fun hy => ?_, fun hy => ?_, ?_⟩) <;> (try refine ⟨?_, ?_⟩) <;> omega

/-- One digit of a quotient, by halving. -/
def Bis (C r lo hi : Nat) : Prop := lo ≤ hi ∧ hi ≤ 9999 ∧ C * lo ≤ r ∧ r < C * (hi + 1)

theorem Bis.start {C r : Nat} (h : r < C * 10000) : Bis C r 0 9999 := ⟨by omega, by omega, by simp, h⟩
theorem Bis.up {C r lo hi m : Nat} (h : Bis C r lo hi) (hm : m = (lo + hi + 1) / 2) (hlt : lo < hi) (hle : C * m ≤ r) : Bis C r m hi := ⟨by omega, h.2.1, hle, h.2.2.2⟩
theorem Bis.down {C r lo hi m : Nat} (h : Bis C r lo hi) (hm : m = (lo + hi + 1) / 2) (hlt : lo < hi) (hle : ¬ C * m ≤ r) : Bis C r lo (m - 1) := by
  refine ⟨by omega, by have := h.2.1; omega, h.2.2.1, ?_⟩
  have : m - 1 + 1 = m := by omega
  rw [this]; omega
theorem Bis.done {C r lo hi : Nat} (h : Bis C r lo hi) (hlt : ¬ lo < hi) : C * lo ≤ r ∧ r - C * lo < C ∧ lo ≤ 9999 := by
  have e : lo = hi := by have := h.1; omega
  subst e
  obtain ⟨_, h2, h3, h4⟩ := h
  rw [Nat.mul_add] at h4
  omega

/-- One more digit of a quotient. -/
theorem quot_step {B C Q R a up low : Nat} (h : up = Q * C + R) (hl : C * low ≤ a + B * R) : a + B * up = (low + B * Q) * C + (a + B * R - C * low) := by
  have e1 : B * up = B * Q * C + B * R := by rw [h, Nat.mul_add, Nat.mul_assoc]
  have e2 : (low + B * Q) * C = low * C + B * Q * C := by rw [Nat.add_mul]
  have e3 : C * low = low * C := Nat.mul_comm _ _
  omega

theorem quot_room {B C R a : Nat} (hR : R < C) (ha : a < B) : a + B * R < C * B := by
  have : (R + 1) * B ≤ C * B := Nat.mul_le_mul_right _ hR
  rw [Nat.add_mul, Nat.mul_comm R B] at this
  omega

theorem quot_uniq {x y q r : Int} (h : y * q + r = x) (h0 : 0 ≤ r) (h1 : r < y.natAbs) : x / y = q ∧ x % y = r := by
  have hy : y ≠ 0 := by intro e; rw [e] at h1; simp at h1; omega
  have e2 := Int.mul_ediv_add_emod x y
  have g1 := Int.emod_nonneg x hy
  have g2 : x % y < y.natAbs := Int.emod_lt x hy
  generalize x / y = q' at *
  generalize x % y = r' at *
  have key : y * (q' - q) = r - r' := by grind
  have hq : q' - q = 0 := by
    rcases Nat.eq_zero_or_pos (q' - q).natAbs with h | h
    · omega
    · exfalso
      have : y.natAbs * 1 ≤ (y * (q' - q)).natAbs := by rw [Int.natAbs_mul]; exact Nat.mul_le_mul_left _ h
      omega
  rw [hq] at key
  omega

/-- Quotient and remainder out of those of the absolute values. -/
theorem signed_quot {x y : Int} {Q R C : Nat} (a b : Bool) (ha : a = true ↔ x < 0) (hb : b = true ↔ y < 0) (hC : C = y.natAbs) (h : x.natAbs = Q * C + R) (hR : R < C) :
    ((a = false ∨ R = 0) → x / y = (if (a != b) then -(Q : Int) else (Q : Int)) ∧ x % y = R) ∧
    (a = true → R ≠ 0 → x / y = (if b then (Q : Int) + 1 else -(Q : Int) - 1) ∧ x % y = (C : Int) - R) := by
  have hQC : ((Q * C + R : Nat) : Int) = (C : Int) * (Q : Int) + R := by rw [Int.natCast_add, Int.natCast_mul, Int.mul_comm]
  have hxa : a = false → x = (C : Int) * (Q : Int) + R := fun e => by rw [← hQC, ← h]; rw [e] at ha; simp at ha; omega
  have hxb : a = true → x = -((C : Int) * (Q : Int) + R) := fun e => by rw [← hQC, ← h]; have := ha.1 e; omega
  have hya : b = false → y = (C : Int) := fun e => by rw [e] at hb; simp at hb; omega
  have hyb : b = true → y = -(C : Int) := fun e => by have := hb.1 e; omega
  refine ⟨fun hc => ?_, fun e hR0 => ?_⟩
  · cases a
    · cases b
      · refine quot_uniq ?_ (by omega) (by omega)
        rw [hya rfl, hxa rfl]; simp
      · refine quot_uniq ?_ (by omega) (by omega)
        rw [hyb rfl, hxa rfl]; simp; try grind
    · have hR0 : R = 0 := by
        rcases hc with h | h
        · cases h
        · exact h
      subst hR0
      cases b
      · refine quot_uniq ?_ (by omega) (by omega)
        rw [hya rfl, hxb rfl]; simp; try grind
      · refine quot_uniq ?_ (by omega) (by omega)
        rw [hyb rfl, hxb rfl]; simp; try grind
  · subst e
    cases b
    · refine quot_uniq ?_ (by omega) (by omega)
      rw [hya rfl, hxb rfl]; simp; grind
    · refine quot_uniq ?_ (by omega) (by omega)
      rw [hyb rfl, hxb rfl]; simp; grind

end Go.Proofs.Ytopdeakjnloemaa

namespace Go.Proofs.Ytopdeakjnloemaa
open Go.RowKit

theorem append_none_any {P : Program} {W : World} {base : Nat} {t ty e : TypeId} {i : TypeInfo} {size : Nat} (ht : P.underlying t = some (.slice e)) (hi : P.info? e = some i) {v : Value} {n : Nat} {xs : List Value} (h : W.ownsRow base e size v n xs) (c : Nat) :
    (Builtin.append_ #[t, t] ty #[v, .slice none 0 c]).run P W = .ok v W := by
  rcases h.2 with ⟨rfl, rfl⟩ | ⟨g, cap, cur, rfl, _, _, hc, _⟩
  · simp [Builtin.append_, run_underlying ht, sizeOf, typeInfo, hi, Builtin.lenOf, Builtin.firstCells]
  · simp [Builtin.append_, run_underlying ht, sizeOf, typeInfo, hi, Builtin.lenOf, Builtin.firstCells, hc, storeCells]

theorem appI_law {ops : Array Oper} {Q : Exit → Act → World → Prop} {o : Oper} {rest : List Oper} {a : Act} {W : World} (hgd : o.guard = none) (s x : Operand)
    (ho : o.op = .call { callee := .builtin .append, args := #[s, x], argTypes := #[80, 80] }) {base : Nat} {v : Value} {ns : List Nat} (hs : a.eval s = v) (h : GrI W base v ns)
    {p : Option Addr} {m c : Nat} {xs : List Nat} (hx : a.eval x = .slice p m c) (hr : Rd .i64 W p m xs) (hl : ns.length ≤ 1000000000) (hm : m ≤ 1000000000) (hbase : base ≤ W.heap.size)
    (k : ∀ v' w', GrI w' base v' (ns ++ xs) → Below base W w' → wpList Try.prog ops Q rest (a.put o.dst v') w') : wpList Try.prog ops Q (o :: rest) a W := by
  obtain ⟨i0, hi, hz0, hz1, hz2⟩ := info_parts Try.info3
  cases p with
  | none =>
    have hm0 : m = 0 := by
      rcases Nat.eq_zero_or_pos m with e | e
      · exact e
      · obtain ⟨b, off, hp, _⟩ := hr.2 0 e; cases hp
    subst hm0
    have hxs : xs = [] := List.length_eq_zero_iff.1 hr.1
    subst hxs
    refine wpList_plain hgd fun K hK => ?_
    have hrun := append_none_any (P := Try.prog) (ty := o.type) Try.underlying80 hi h c
    unfold Oper.wp
    simp [execOp, ho, resolve, invoke, builtin, hs, hx, hrun, Result.andThen]
    exact hK _ _ (k v W (by rw [List.append_nil]; exact h) ((Below.refl _ _).mono hbase))
  | some ad =>
    refine wpList_append_own _ hgd s x 80 ho base 3 i0 (.int .i64 0) 1 8 Try.underlying80 hi hz0 hz1 hz2 rfl (by decide) v ns.length (icells ns) hs h ad m c (icells xs) hx (by unfold icells; rw [List.length_map, hr.1, Nat.mul_one])
      ?_ (by intro u hu; unfold icells at hu; obtain ⟨y, _, rfl⟩ := List.mem_map.1 hu; rfl) (by unfold maxLen; omega) (by omega) hbase ?_
    · intro j u hj
      unfold icells at hj
      rw [List.getElem?_map, Option.map_eq_some_iff] at hj
      obtain ⟨y, hy, rfl⟩ := hj
      obtain ⟨b, off, hp, _, hc⟩ := hr.2 j (by have := (List.getElem?_eq_some_iff.1 hy).1; rw [hr.1] at this; exact this)
      cases hp
      rw [hy] at hc
      rw [Lib.add_plain]
      exact hc
    · intro v' w' h2 h3 _
      refine k v' w' ?_ (below_of_own h h3 hbase)
      unfold GrI
      rw [List.length_append, icells_append, hr.1]
      exact h2

/-- A new row of one digit. -/
theorem GrI.one (W : World) (d : Nat) : GrI (W.alloc (.cells #[.int .i64 (d : Int)] 3)) W.heap.size (.slice (some ⟨W.heap.size, 0, none⟩) 1 1) [d] := by
  refine ⟨rfl, .inr ⟨W.heap.size, 1, #[.int .i64 (d : Int)], rfl, Nat.le_refl _, by unfold World.alloc; simp, Nat.le_refl _, by unfold maxLen; omega, rfl, rfl⟩⟩

end Go.Proofs.Ytopdeakjnloemaa

namespace Go.Proofs.Ytopdeakjnloemaa
open Go.RowKit
variable {P : Program} {Q : Exit → Act → World → Prop}

theorem countP_strict {p q : Nat → Bool} : ∀ (l : List Nat) (x : Nat), (∀ y, q y = true → p y = true) → x ∈ l → p x = true → q x = false → l.countP q + 1 ≤ l.countP p
  | [], x, _, hx, _, _ => by cases hx
  | y :: l, x, hpq, hx, hp, hq => by
    rw [List.countP_cons, List.countP_cons]
    rcases List.mem_cons.1 hx with rfl | hx
    · have := List.countP_mono_left (l := l) (fun y _ h => hpq y h)
      simp [hp, hq]; omega
    · have := countP_strict l x hpq hx hp hq
      by_cases h1 : q y = true
      · simp [h1, hpq y h1]; omega
      · simp [h1]; split <;> omega

def depsB (l : List Oper) (L : Nat → Bool) (i : Nat) : Bool := ((l[i]?).map fun o => o.after.all fun e => !Region.binds .any e || L e.on).getD false
def earlierB (l : List Oper) : Bool := (List.range l.length).all fun i => ((l[i]?).map fun o => o.after.all fun e => !Region.binds .any e || decide (e.on < i)).getD false

theorem depsB_all {l : List Oper} (hE : earlierB l = true) {L : Nat → Bool} {i : Nat} (hi : i < l.length) (h : ∀ j, j < i → L j = true) : depsB l L i = true := by
  have h1 := List.all_eq_true.1 hE i (List.mem_range.2 hi)
  unfold depsB
  rw [List.getElem?_eq_getElem hi] at h1 ⊢
  simp only [Option.map_some, Option.getD_some, Array.all_eq_true'] at h1 ⊢
  intro e he
  have := h1 e he
  simp only [Bool.or_eq_true, decide_eq_true_eq] at this ⊢
  rcases this with h2 | h2
  · exact .inl h2
  · exact .inr (h _ h2)


theorem all_listed {l : List Oper} (hE : earlierB l = true) {L : Nat → Bool} (h : ∀ i, i < l.length → L i = false → depsB l L i = false) : ∀ i, i < l.length → L i = true := by
  intro i
  induction i using Nat.strongRecOn with
  | _ i ih =>
    intro hi
    cases hL : L i
    · have := h i hi hL
      rw [depsB_all hE hi (fun j hj => ih j hj (by omega))] at this
      cases this
    · rfl

theorem mem_ready_iff {l : List Oper} {listed : Array Bool} {L : Nat → Bool} (hs : listed.size = l.length) (hL : ∀ i, listed.getD i false = L i) (i : Nat) :
    i ∈ Region.ready .any l.toArray listed ↔ i < l.length ∧ L i = false ∧ depsB l L i = true := by
  unfold Region.ready depsB
  simp only [List.mem_filter, List.mem_range, List.size_toArray, Bool.and_eq_true, Bool.not_eq_true', List.getElem?_toArray, hL]
  constructor
  · rintro ⟨h1, h2, h3⟩
    refine ⟨h1, ?_, h3⟩
    rw [← hL, ← h2]
    simp [Array.getD, hs, h1]
  · rintro ⟨h1, h2, h3⟩
    refine ⟨h1, ?_, h3⟩
    rw [← h2, ← hL]
    simp [Array.getD, hs, h1]

theorem wpAny_inv {l : List Oper} (hE : earlierB l = true) (I : (Nat → Bool) → Act → World → Prop)
    (step : ∀ L i a w, I L a w → i < l.length → L i = false → depsB l L i = true → wpOp P l.toArray Q i (I (fun j => L j || j == i)) a w)
    (done : ∀ L a w, (∀ i, i < l.length → L i = true) → I L a w → Q .normal a w) :
    ∀ (f : Nat) (listed : Array Bool) (L : Nat → Bool) (a : Act) (w : World), listed.size = l.length → (∀ i, listed.getD i false = L i) → (List.range l.length).countP (fun i => !L i) ≤ f → I L a w → wpAny P .any l.toArray Q f listed a w := by
  intro f
  induction f with
  | zero =>
    intro listed L a w hs hL hc hI
    have hall : ∀ i, i < l.length → L i = true := by
      intro i hi
      have := List.countP_eq_zero.1 (Nat.le_zero.1 hc) i (List.mem_range.2 hi)
      simpa using this
    refine ⟨List.eq_nil_iff_forall_not_mem.2 fun i hi => ?_, done L a w hall hI⟩
    obtain ⟨h1, h2, _⟩ := (mem_ready_iff hs hL i).1 hi
    rw [hall i h1] at h2; cases h2
  | succ f ih =>
    intro listed L a w hs hL hc hI
    refine ⟨fun hr => done L a w (all_listed hE fun i hi h => ?_) hI, fun i hi => ?_⟩
    · cases hd : depsB l L i
      · rfl
      · have := (mem_ready_iff hs hL i).2 ⟨hi, h, hd⟩
        rw [hr] at this; cases this
    · obtain ⟨h1, h2, h3⟩ := (mem_ready_iff hs hL i).1 hi
      have := step L i a w hI h1 h2 h3
      refine wpOp_mono (fun a w h => ih _ (fun j => L j || j == i) a w (by simp [hs]) (fun j => ?_) ?_ h) this
      · rw [← hL]
        simp only [Array.getD_eq_getD_getElem?, Array.getElem?_setIfInBounds]
        by_cases e : i = j
        · subst e; simp [hs, h1]
        · have : (j == i) = false := by simp; omega
          simp [e, this]
      · have := countP_strict (p := fun j => !L j) (q := fun j => !(L j || j == i)) (List.range l.length) i (fun y hy => by simp at hy ⊢; exact hy.1) (List.mem_range.2 h1) (by simp [h2]) (by simp)
        omega

theorem wp_region_inv {id : Nat} {l : List Oper} {a : Act} {w : World} (hm : P.follows .mixedOrders = true) (hE : earlierB l = true) (I : (Nat → Bool) → Act → World → Prop) (h0 : I (fun _ => false) a w.drew)
    (step : ∀ L i a w, I L a w → i < l.length → L i = false → depsB l L i = true → wpOp P l.toArray Q i (I (fun j => L j || j == i)) a w)
    (done : ∀ L a w, (∀ i, i < l.length → L i = true) → I L a w → Q .normal a w) : (Code.region id l.toArray true).wp P Q a w := by
  refine wp_region_any hm (wpAny_inv hE I step done _ _ (fun _ => false) _ _ (by simp) (fun i => ?_) ?_ h0)
  · exact getD_replicate_false _ _
  · refine Nat.le_trans (List.countP_le_length) ?_
    simp

theorem wp_post {o : Oper} {a : Act} {w : World} {K : Act → World → Prop} {Q Q' : Exit → Act → World → Prop} (hq : ∀ e a w, e ≠ .normal → Q e a w → Q' e a w) (hh : o.wp P a w K Q) : o.wp P a w K Q' := by
  have hL : LetsOut Q → LetsOut Q' := fun ⟨b, v, h⟩ => ⟨b, v, hq _ _ _ (by simp) h⟩
  unfold Oper.wp at *
  generalize (execOp a.eval o).run P w = r at *
  cases r with
  | ok r w' =>
    cases r <;> simp only [Oper.upon] at hh ⊢ <;> try exact hh
    case enter f args =>
      exact Calls.mono hh fun e w'' he => by
        cases e with
        | returned v => exact he
        | panicked c => exact hq _ _ _ (by simp) he
        | outgrown => exact hL he
  | halt x w' =>
    cases x <;> simp only [Oper.upon] at hh ⊢
    case panic v => exact hq _ _ _ (by simp) hh

/-- One operation. -/
theorem wpOp_list {ops : Array Oper} {i : Nat} {o : Oper} {K : Act → World → Prop} {a : Act} {w : World} (ho : ops[i]? = some o) (h : wpList P ops (fun e a w => (e = .normal → K a w) ∧ (e ≠ .normal → Q e a w)) [o] a w) : wpOp P ops Q i K a w := by
  unfold wpOp
  unfold wpList at h
  simp only [ho]
  split at h
  · rename_i hw
    rw [if_pos hw]
    rcases h with h | ⟨h1, b, v, h2⟩
    · left
      refine Oper.wp_mono (fun a w h => ?_) (wp_post (fun e a w he h => h.2 he) h)
      exact h.1 rfl
    · exact .inr ⟨h1, b, v, h2.2 (by simp)⟩
  · rename_i hw
    rw [if_neg hw]
    exact h.1 rfl

end Go.Proofs.Ytopdeakjnloemaa

namespace Go.Proofs.Ytopdeakjnloemaa
open Go.RowKit
variable {P : Program} {Q : Exit → Act → World → Prop}

def upd (f : Nat → Value) (i : Nat) (v : Value) : Nat → Value := fun j => if j = i then v else f j

/-- Operation i waits for operation j. -/
def depB (l : List Oper) (i j : Nat) : Bool := ((l[i]?).map fun o => o.after.any fun e => Region.binds .any e && e.on == j).getD false

theorem depsB_dep {l : List Oper} {L : Nat → Bool} {i j : Nat} (h : depsB l L i = true) (hd : depB l i j = true) : L j = true := by
  unfold depsB depB at *
  cases ho : l[i]? with
  | none => rw [ho] at hd; cases hd
  | some o =>
    rw [ho] at h hd
    simp only [Option.map_some, Option.getD_some, Array.all_eq_true', Array.any_eq_true'] at h hd
    obtain ⟨e, he, h2⟩ := hd
    have h1 := h e he
    simp only [Bool.and_eq_true, beq_iff_eq] at h2
    rw [h2.1, h2.2] at h1
    simpa using h1

/-- What a region's operations have done so far. -/
def FlowI (l : List Oper) (n : Nat) (tm : (Nat → Value) → Act) (R : Nat → Value → World → Prop) (S : World → Prop) (D : Act → World → Prop) (L : Nat → Bool) (a : Act) (w : World) : Prop :=
  (∀ k, k < l.length → L k = true → depsB l L k = true) ∧ ((∃ f, a = tm f ∧ S w ∧ (∀ j, L j = true → j < n) ∧ ∀ j, L j = true → R j (f j) w) ∨ ((∀ j, j < l.length → L j = true) ∧ D a w))

theorem depsB_mono {l : List Oper} {L L' : Nat → Bool} {i : Nat} (h : depsB l L i = true) (hm : ∀ j, L j = true → L' j = true) : depsB l L' i = true := by
  unfold depsB at *
  cases ho : l[i]? with
  | none => rw [ho] at h; cases h
  | some o =>
    rw [ho] at h
    simp only [Option.map_some, Option.getD_some, Array.all_eq_true'] at h ⊢
    intro e he
    have := h e he
    simp only [Bool.or_eq_true] at this ⊢
    rcases this with h1 | h1
    · exact .inl h1
    · exact .inr (hm _ h1)

/-- Whatever the order: each operation yields what it yields from what it waits for, in any memory that has grown. -/
theorem wp_region_flow {id : Nat} {l : List Oper} {w : World} (tm : (Nat → Value) → Act) (f0 : Nat → Value) (hm : P.follows .mixedOrders = true) (hE : earlierB l = true) (R : Nat → Value → World → Prop) (S : World → Prop) (hS : S w.drew)
    (mono : ∀ i v w w', S w → S w' → Below w.heap.size w w' → R i v w → R i v w')
    (step : ∀ i, i < l.length → ∀ f w', S w' → (∀ j, depB l i j = true → R j (f j) w') → wpOp P l.toArray Q i (fun a' w'' => ∃ v, a' = tm (upd f i v) ∧ R i v w'' ∧ S w'' ∧ Below w'.heap.size w' w'') (tm f) w')
    (done : ∀ f w', S w' → (∀ j, j < l.length → R j (f j) w') → Q .normal (tm f) w') : (Code.region id l.toArray true).wp P Q (tm f0) w := by
  refine wp_region_inv hm hE (fun L a w => ∃ f, a = tm f ∧ S w ∧ ∀ j, L j = true → R j (f j) w) ⟨f0, rfl, hS, fun j h => by cases h⟩ ?_ ?_
  · rintro L i a w' ⟨f, rfl, hs, hr⟩ hi hL hd
    refine wpOp_mono (fun a' w'' h => ?_) (step i hi f w' hs (fun j hj => hr j (depsB_dep hd hj)))
    obtain ⟨v, rfl, hv, hs', hb⟩ := h
    refine ⟨_, rfl, hs', fun j hj => ?_⟩
    by_cases e : j = i
    · subst e; simp only [upd, if_true]; exact hv
    · simp only [upd, if_neg e]
      refine mono _ _ _ _ hs hs' hb (hr j ?_)
      simpa [e] using hj
  · rintro L a w' hall ⟨f, rfl, hs, hr⟩
    exact done f w' hs (fun j hj => hr j (hall j hj))

/-- Every operation but the last one is waited for. -/
def closB (l : List Oper) : Bool := (List.range (l.length - 1)).all fun j => (List.range l.length).any fun k => decide (j < k) && depB l k j

theorem clos_all {l : List Oper} (hC : closB l = true) {L : Nat → Bool} (hcl : ∀ k, k < l.length → L k = true → depsB l L k = true) (hlast : depsB l L (l.length - 1) = true) : ∀ m j, l.length - 1 - j ≤ m → j < l.length - 1 → L j = true := by
  intro m
  induction m with
  | zero => intro j h1 h2; omega
  | succ m ih =>
    intro j h1 h2
    have h3 := List.all_eq_true.1 hC j (List.mem_range.2 h2)
    obtain ⟨k, hk, h4⟩ := List.any_eq_true.1 h3
    rw [List.mem_range] at hk
    simp only [Bool.and_eq_true, decide_eq_true_eq] at h4
    by_cases e : k = l.length - 1
    · rw [e] at h4; exact depsB_dep hlast h4.2
    · exact depsB_dep (hcl k hk (ih k (by omega) (by omega))) h4.2

/-- The like, where the last operation, which waits for all others, may write what they have read. -/
theorem wp_region_flow_last {id : Nat} {l : List Oper} {w : World} (tm : (Nat → Value) → Act) (f0 : Nat → Value) (hm : P.follows .mixedOrders = true) (hE : earlierB l = true) (hC : closB l = true) (R : Nat → Value → World → Prop) (S : World → Prop) (hS : S w.drew)
    (mono : ∀ i v w w', S w → S w' → Below w.heap.size w w' → R i v w → R i v w')
    (step : ∀ i, i < l.length - 1 → ∀ f w', S w' → (∀ j, depB l i j = true → R j (f j) w') → wpOp P l.toArray Q i (fun a' w'' => ∃ v, a' = tm (upd f i v) ∧ R i v w'' ∧ S w'' ∧ Below w'.heap.size w' w'') (tm f) w')
    (last : ∀ f w', S w' → (∀ j, j < l.length - 1 → R j (f j) w') → wpOp P l.toArray Q (l.length - 1) (Q .normal) (tm f) w') : (Code.region id l.toArray true).wp P Q (tm f0) w := by
  refine wp_region_inv hm hE (FlowI l (l.length - 1) tm R S (Q .normal)) ⟨fun _ _ h => (by cases h), .inl ⟨f0, rfl, hS, fun _ h => (by cases h), fun _ h => (by cases h)⟩⟩ ?_ ?_
  · rintro L i a w' ⟨hcl, hI⟩ hi hL hd
    have hcl' : ∀ k, k < l.length → (L k || k == i) = true → depsB l (fun j => L j || j == i) k = true := fun k hk hk2 => by
      have hmn : ∀ j, L j = true → (L j || j == i) = true := fun j h => by rw [h]; rfl
      by_cases e : k = i
      · rw [e]; exact depsB_mono hd hmn
      · exact depsB_mono (hcl k hk (by simpa [e] using hk2)) hmn
    rcases hI with ⟨f, rfl, hs, hlt, hr⟩ | ⟨hall, _⟩
    · by_cases hil : i < l.length - 1
      · refine wpOp_mono (fun a' w'' h => ?_) (step i hil f w' hs (fun j hj => hr j (depsB_dep hd hj)))
        obtain ⟨v, rfl, hv, hs', hb⟩ := h
        refine ⟨hcl', .inl ⟨_, rfl, hs', fun j hj => ?_, fun j hj => ?_⟩⟩
        · by_cases e : j = i
          · rw [e]; exact hil
          · exact hlt j (by simpa [e] using hj)
        · by_cases e : j = i
          · subst e; simp only [upd, if_true]; exact hv
          · simp only [upd, if_neg e]
            refine mono _ _ _ _ hs hs' hb (hr j ?_)
            simpa [e] using hj
      · have e : i = l.length - 1 := by omega
        subst e
        have hall := fun j hj => clos_all hC hcl hd (l.length - 1 - j) j (Nat.le_refl _) hj
        refine wpOp_mono (fun a' w'' h => ?_) (last f w' hs (fun j hj => hr j (hall j hj)))
        refine ⟨hcl', .inr ⟨fun j hj => ?_, h⟩⟩
        by_cases e : j = l.length - 1
        · simp [e]
        · simp [hall j (by omega)]
    · rw [hall i hi] at hL; cases hL
  · rintro L a w' hall ⟨_, hI⟩
    rcases hI with ⟨f, rfl, hs, hlt, hr⟩ | ⟨_, h⟩
    · by_cases hn : l.length = 0
      · have hnil : l = [] := List.length_eq_zero_iff.1 hn
        subst hnil
        have := last f w' hs (fun j hj => by simp at hj)
        simpa [wpOp] using this
      · have := hlt (l.length - 1) (hall _ (by omega))
        omega
    · exact h

/-- The frame with what the region's operations have yielded. -/
def putAll : Array Value → List (Option Nat) → Nat → (Nat → Value) → Array Value
  | t, [], _, _ => t
  | t, some d :: r, k, f => putAll (t.setIfInBounds d (f k)) r (k + 1) f
  | t, none :: r, k, f => putAll t r (k + 1) f

def slotsOf (t : Array Value) (ds : List (Option Nat)) (k : Nat) : Nat → Value := fun j => ((ds[j - k]?).bind fun d => d.bind fun i => t[i]?).getD undef

theorem set_same (t : Array Value) (d : Nat) (v : Value) (h : t[d]? = some v) : t.setIfInBounds d v = t := by
  apply Array.ext
  · simp
  · intro i h1 h2
    rw [Array.getElem_setIfInBounds h2]
    split
    · rename_i e
      subst e
      rw [Array.getElem?_eq_getElem h2] at h
      exact (Option.some.inj h).symm
    · rfl

theorem putAll_same (t : Array Value) : ∀ (ds : List (Option Nat)) (k : Nat) (f : Nat → Value), (∀ i d, ds[i]? = some (some d) → d < t.size → t[d]? = some (f (k + i))) → putAll t ds k f = t := by
  intro ds
  induction ds with
  | nil => intro k f _; rfl
  | cons o r ih =>
    intro k f h
    have hr : ∀ i d, r[i]? = some (some d) → d < t.size → t[d]? = some (f (k + 1 + i)) := fun i d h1 h2 => by
      have := h (i + 1) d h1 h2
      rw [show k + (i + 1) = k + 1 + i by omega] at this
      exact this
    cases o with
    | none => exact ih (k + 1) f hr
    | some d =>
      unfold putAll
      have e : t.setIfInBounds d (f k) = t := by
        by_cases hd : d < t.size
        · exact set_same t d _ (h 0 d rfl hd)
        · apply Array.ext
          · simp
          · intro i h1 h2
            rw [Array.getElem_setIfInBounds h2, if_neg (by omega)]
      rw [e]
      exact ih (k + 1) f hr

def tmOf (a : Act) (l : List Oper) (f : Nat → Value) : Act := { a with tmps := putAll a.tmps (l.map (·.dst)) 0 f }

theorem tmOf_same (a : Act) (l : List Oper) : tmOf a l (slotsOf a.tmps (l.map (·.dst)) 0) = a := by
  unfold tmOf
  rw [putAll_same]
  intro i d h1 h2
  unfold slotsOf
  rw [Nat.zero_add, Nat.sub_zero, h1]
  simp [h2]

theorem wp_region_flow_last' {id : Nat} {l : List Oper} {a : Act} {w : World} (hm : P.follows .mixedOrders = true) (hE : earlierB l = true) (hC : closB l = true) (R : Nat → Value → World → Prop) (S : World → Prop) (hS : S w.drew)
    (mono : ∀ i v w w', S w → S w' → Below w.heap.size w w' → R i v w → R i v w')
    (step : ∀ i, i < l.length - 1 → ∀ f w', S w' → (∀ j, depB l i j = true → R j (f j) w') → wpOp P l.toArray Q i (fun a' w'' => ∃ v, a' = tmOf a l (upd f i v) ∧ R i v w'' ∧ S w'' ∧ Below w'.heap.size w' w'') (tmOf a l f) w')
    (last : ∀ f w', S w' → (∀ j, j < l.length - 1 → R j (f j) w') → wpOp P l.toArray Q (l.length - 1) (Q .normal) (tmOf a l f) w') : (Code.region id l.toArray true).wp P Q a w := by
  have h := wp_region_flow_last (Q := Q) (id := id) (w := w) (tmOf a l) (slotsOf a.tmps (l.map (·.dst)) 0) hm hE hC R S hS mono step last
  rw [tmOf_same] at h
  exact h

theorem wp_region_flow' {id : Nat} {l : List Oper} {a : Act} {w : World} (hm : P.follows .mixedOrders = true) (hE : earlierB l = true) (R : Nat → Value → World → Prop) (S : World → Prop) (hS : S w.drew)
    (mono : ∀ i v w w', S w → S w' → Below w.heap.size w w' → R i v w → R i v w')
    (step : ∀ i, i < l.length → ∀ f w', S w' → (∀ j, depB l i j = true → R j (f j) w') → wpOp P l.toArray Q i (fun a' w'' => ∃ v, a' = tmOf a l (upd f i v) ∧ R i v w'' ∧ S w'' ∧ Below w'.heap.size w' w'') (tmOf a l f) w')
    (done : ∀ f w', S w' → (∀ j, j < l.length → R j (f j) w') → Q .normal (tmOf a l f) w') : (Code.region id l.toArray true).wp P Q a w := by
  have h := wp_region_flow (Q := Q) (id := id) (w := w) (tmOf a l) (slotsOf a.tmps (l.map (·.dst)) 0) hm hE R S hS mono step done
  rw [tmOf_same] at h
  exact h

/-- One operation behind the other. -/
def seqW (P : Program) (l : List Oper) (Q : Exit → Act → World → Prop) : Nat → Nat → Act → World → Prop
  | 0, _ => Q .normal
  | r + 1, k => wpOp P l.toArray Q k (seqW P l Q r (k + 1))

/-- Each operation from n0 on waits for all that stand before it. -/
def tailB (l : List Oper) (n0 : Nat) : Bool := (List.range l.length).all fun k => decide (k < n0) || ((List.range k).all fun j => (List.range (k + 1)).any fun m => decide (j < m) && depB l m j)

theorem tail_all {l : List Oper} {n0 i : Nat} (hT : tailB l n0 = true) (hi : i < l.length) (hn : n0 ≤ i) {L : Nat → Bool} (hcl : ∀ k, k < l.length → L k = true → depsB l L k = true) (hlast : depsB l L i = true) : ∀ m j, i - j ≤ m → j < i → L j = true := by
  intro m
  induction m with
  | zero => intro j h1 h2; omega
  | succ m ih =>
    intro j h1 h2
    have h3 := List.all_eq_true.1 hT i (List.mem_range.2 hi)
    simp only [Bool.or_eq_true, decide_eq_true_eq] at h3
    rcases h3 with h3 | h3
    · omega
    · have h4 := List.all_eq_true.1 h3 j (List.mem_range.2 h2)
      obtain ⟨k, hk, h5⟩ := List.any_eq_true.1 h4
      rw [List.mem_range] at hk
      simp only [Bool.and_eq_true, decide_eq_true_eq] at h5
      by_cases e : k = i
      · rw [e] at h5; exact depsB_dep hlast h5.2
      · exact depsB_dep (hcl k (by omega) (ih k (by omega) (by omega))) h5.2

theorem wp_region_flow_tail {id : Nat} {l : List Oper} {w : World} (n0 : Nat) (tm : (Nat → Value) → Act) (f0 : Nat → Value) (hm : P.follows .mixedOrders = true) (hE : earlierB l = true) (hT : tailB l n0 = true) (hn0 : n0 < l.length) (R : Nat → Value → World → Prop) (S : World → Prop) (hS : S w.drew)
    (mono : ∀ i v w w', S w → S w' → Below w.heap.size w w' → R i v w → R i v w')
    (step : ∀ i, i < n0 → ∀ f w', S w' → (∀ j, depB l i j = true → R j (f j) w') → wpOp P l.toArray Q i (fun a' w'' => ∃ v, a' = tm (upd f i v) ∧ R i v w'' ∧ S w'' ∧ Below w'.heap.size w' w'') (tm f) w')
    (last : ∀ f w', S w' → (∀ j, j < n0 → R j (f j) w') → seqW P l Q (l.length - n0) n0 (tm f) w') : (Code.region id l.toArray true).wp P Q (tm f0) w := by
  refine wp_region_inv hm hE (fun L a w => (∀ k, k < l.length → L k = true → depsB l L k = true) ∧ ((∃ f, a = tm f ∧ S w ∧ (∀ j, L j = true → j < n0) ∧ ∀ j, L j = true → R j (f j) w) ∨ (∃ k, n0 < k ∧ k ≤ l.length ∧ (∀ j, j < l.length → (L j = true ↔ j < k)) ∧ seqW P l Q (l.length - k) k a w)))
    ⟨fun _ _ h => (by cases h), .inl ⟨f0, rfl, hS, fun _ h => (by cases h), fun _ h => (by cases h)⟩⟩ ?_ ?_
  · rintro L i a w' ⟨hcl, hI⟩ hi hL hd
    have hcl' : ∀ k, k < l.length → (L k || k == i) = true → depsB l (fun j => L j || j == i) k = true := fun k hk hk2 => by
      have hmn : ∀ j, L j = true → (L j || j == i) = true := fun j h => by rw [h]; rfl
      by_cases e : k = i
      · rw [e]; exact depsB_mono hd hmn
      · exact depsB_mono (hcl k hk (by simpa [e] using hk2)) hmn
    rcases hI with ⟨f, rfl, hs, hlt, hr⟩ | ⟨k, hk1, hk2, hk3, hk4⟩
    · by_cases hil : i < n0
      · refine wpOp_mono (fun a' w'' h => ?_) (step i hil f w' hs (fun j hj => hr j (depsB_dep hd hj)))
        obtain ⟨v, rfl, hv, hs', hb⟩ := h
        refine ⟨hcl', .inl ⟨_, rfl, hs', fun j hj => ?_, fun j hj => ?_⟩⟩
        · by_cases e : j = i
          · rw [e]; exact hil
          · exact hlt j (by simpa [e] using hj)
        · by_cases e : j = i
          · subst e; simp only [upd, if_true]; exact hv
          · simp only [upd, if_neg e]
            refine mono _ _ _ _ hs hs' hb (hr j ?_)
            simpa [e] using hj
      · have hall := fun j hj => tail_all hT hi (by omega) hcl hd (i - j) j (Nat.le_refl _) hj
        have e : i = n0 := by
          rcases Nat.lt_or_ge n0 i with h | h
          · have := hlt n0 (hall n0 h); omega
          · omega
        subst e
        have hl := last f w' hs (fun j hj => hr j (hall j hj))
        rw [show l.length - i = (l.length - (i + 1)) + 1 by omega] at hl
        refine wpOp_mono (fun a' w'' h => ?_) hl
        refine ⟨hcl', .inr ⟨i + 1, by omega, by omega, fun j hj => ?_, h⟩⟩
        by_cases e : j = i
        · simp [e]
        · constructor
          · intro h
            have := hlt j (by simpa [e] using h)
            omega
          · intro h
            show (L j || j == i) = true
            rw [hall j (by omega)]; rfl
    · have hall := fun j hj => tail_all hT hi (by have : ¬ i < k := fun h => by rw [(hk3 i hi).2 h] at hL; cases hL
                                                  omega) hcl hd (i - j) j (Nat.le_refl _) hj
      have hik : ¬ i < k := fun h => by rw [(hk3 i hi).2 h] at hL; cases hL
      have e : i = k := by
        rcases Nat.lt_or_ge k i with h | h
        · have := (hk3 k (by omega)).1 (hall k h); omega
        · omega
      subst e
      rw [show l.length - i = (l.length - (i + 1)) + 1 by omega] at hk4
      refine wpOp_mono (fun a' w'' h => ?_) hk4
      refine ⟨hcl', .inr ⟨i + 1, by omega, by omega, fun j hj => ?_, h⟩⟩
      by_cases e : j = i
      · simp [e]
      · constructor
        · intro h
          have := (hk3 j hj).1 (by simpa [e] using h)
          omega
        · intro h
          show (L j || j == i) = true
          rw [hall j (by omega)]; rfl
  · rintro L a w' hall ⟨_, hI⟩
    rcases hI with ⟨f, rfl, hs, hlt, hr⟩ | ⟨k, hk1, hk2, hk3, hk4⟩
    · have := hlt n0 (hall n0 hn0)
      omega
    · have e : k = l.length := by
        rcases Nat.lt_or_ge k l.length with h | h
        · have := (hk3 k h).1 (hall k h); omega
        · omega
      subst e
      rw [Nat.sub_self] at hk4
      exact hk4

theorem wp_region_flow_tail' {id : Nat} {l : List Oper} {a : Act} {w : World} (n0 : Nat) (hm : P.follows .mixedOrders = true) (hE : earlierB l = true) (hT : tailB l n0 = true) (hn0 : n0 < l.length) (R : Nat → Value → World → Prop) (S : World → Prop) (hS : S w.drew)
    (mono : ∀ i v w w', S w → S w' → Below w.heap.size w w' → R i v w → R i v w')
    (step : ∀ i, i < n0 → ∀ f w', S w' → (∀ j, depB l i j = true → R j (f j) w') → wpOp P l.toArray Q i (fun a' w'' => ∃ v, a' = tmOf a l (upd f i v) ∧ R i v w'' ∧ S w'' ∧ Below w'.heap.size w' w'') (tmOf a l f) w')
    (last : ∀ f w', S w' → (∀ j, j < n0 → R j (f j) w') → seqW P l Q (l.length - n0) n0 (tmOf a l f) w') : (Code.region id l.toArray true).wp P Q a w := by
  have h := wp_region_flow_tail (Q := Q) (id := id) (w := w) n0 (tmOf a l) (slotsOf a.tmps (l.map (·.dst)) 0) hm hE hT hn0 R S hS mono step last
  rw [tmOf_same] at h
  exact h

end Go.Proofs.Ytopdeakjnloemaa

namespace Go.Proofs.Ytopdeakjnloemaa
open Go.RowKit

/-- Block B holds these cells. -/
def Blk (W : World) (B : Nat) (cs : Array Value) (t : TypeId) : Prop := W.heap[B]? = some (.cells cs t (0, 0))

theorem Blk.cell {W : World} {B : Nat} {cs : Array Value} {t : TypeId} (h : Blk W B cs t) {i : Nat} {v : Value} (hi : cs[i]? = some v) : W.cell? ⟨B, i, none⟩ = some v := by
  unfold Blk at h; unfold World.cell?; simp only [h]; simpa using hi
theorem Blk.frozen {W : World} {B : Nat} {cs : Array Value} {t : TypeId} (h : Blk W B cs t) (i : Nat) : W.frozen? ⟨B, i, none⟩ = false := by
  unfold Blk at h; unfold World.frozen?; simp [h]
theorem Blk.lt {W : World} {B : Nat} {cs : Array Value} {t : TypeId} (h : Blk W B cs t) : B < W.heap.size := by
  unfold Blk at h; exact (Array.getElem?_eq_some_iff.1 h).1
theorem Blk.new (W : World) (cs : Array Value) (t : TypeId) : Blk (W.alloc (.cells cs t)) W.heap.size cs t := by unfold Blk World.alloc; simp
theorem Blk.new' (W : World) (cs : Array Value) (t : TypeId) {n : Nat} (hn : n = W.heap.size) : Blk (W.alloc (.cells cs t)) n cs t := by subst hn; exact Blk.new W cs t
theorem Blk.alloc {W : World} {B : Nat} {cs : Array Value} {t : TypeId} (h : Blk W B cs t) (o : Obj) : Blk (W.alloc o) B cs t := by
  unfold Blk at h ⊢
  exact ((World.grownBy_alloc W o none).block B (Array.getElem?_eq_some_iff.1 h).1 (by simp)).trans h
theorem Blk.below {W W' : World} {B C : Nat} {cs : Array Value} {t : TypeId} (h : Blk W B cs t) (hb : Below C W W') (hC : B < C) : Blk W' B cs t := by
  unfold Blk at h ⊢; rw [hb.block B hC]; exact h
theorem Blk.kept {W W' : World} {B : Nat} {cs : Array Value} {t : TypeId} (h : Blk W B cs t) (hb : Below W.heap.size W W') : Blk W' B cs t := h.below hb h.lt
theorem Blk.drew {W : World} {B : Nat} {cs : Array Value} {t : TypeId} (h : Blk W B cs t) : Blk W.drew B cs t := h
theorem Blk.set {W : World} {B : Nat} {cs : Array Value} {t : TypeId} (h : Blk W B cs t) (i : Nat) (v : Value) : Blk (W.setCell ⟨B, i, none⟩ v) B (cs.setIfInBounds i v) t := by
  unfold Blk at h ⊢; simp [World.setCell, Array.getElem?_modify, h]
theorem Blk.set_eq {W : World} {B : Nat} {cs cs' : Array Value} {t : TypeId} (h : Blk W B cs t) (i : Nat) (v : Value) (e : cs.setIfInBounds i v = cs') : Blk (W.setCell ⟨B, i, none⟩ v) B cs' t := e ▸ h.set i v
theorem Blk.other {W : World} {B : Nat} {cs : Array Value} {t : TypeId} (h : Blk W B cs t) {C : Nat} (i : Nat) (v : Value) (hne : C ≠ B) : Blk (W.setCell ⟨C, i, none⟩ v) B cs t := by
  unfold Blk at h ⊢
  rw [show (W.setCell ⟨C, i, none⟩ v).heap[B]? = W.heap[B]? by simp only [World.setCell, Array.getElem?_modify]; rw [if_neg hne]]
  exact h

end Go.Proofs.Ytopdeakjnloemaa
