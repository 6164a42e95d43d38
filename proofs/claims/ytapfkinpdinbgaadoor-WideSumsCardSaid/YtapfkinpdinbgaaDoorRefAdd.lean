/-
  The reference: sums.
-/
import Derived.Test.YtapfkinpdinbgaaDoorRefSmall
namespace Go.Proofs.YtapfkinpdinbgaaDoor
open Go.RowKit

theorem digit_same (p : Option Addr) (n c i : Nat) (xs : List Nat) (w : World) (hn : n ≤ 1000000000) (hx : Rd .i64 w p n xs) :
    Calls Tryd.prog 56 #[.slice p n c, .int .i64 (i : Int)] w fun e w' => e = .returned (.int .i64 ((xs[i]?.getD 0 : Nat) : Int)) ∧ w' = w :=
  (digit_any p n c i xs w hn hx).mono fun _ _ h => ⟨h.1, h.2.symm⟩

theorem below_drewN (B : Nat) (w : World) (k : Nat) : Below B w (w.drewN k) := ⟨rfl, rfl, rfl, Nat.le_refl _, fun _ _ => rfl⟩

theorem Rd.drewN {k : IntKind} {w : World} {p : Option Addr} {n : Nat} {xs : List Nat} (h : Rd k w p n xs) (a : Nat) : Rd k (w.drewN a) p n xs := h

set_option maxRecDepth 100000 in
set_option maxHeartbeats 4000000 in
theorem radd_same (a : Bool) (p q : Option Addr) (n c m d : Nat) (xs ys : List Nat) (x y : Int) (w : World) (hn : n ≤ 100000000) (hm : m ≤ 100000000) (hx : RIs w a p n c xs x) (hy : RIs w a q m d ys y) :
    Calls Tryd.prog 28 #[.agg #[.bool a, .slice p n c], .agg #[.bool a, .slice q m d]] w (RV w (x + y) (max n m + 1)) := by
  have hb0 : Below w.heap.size w (((w.alloc (.cells #[.bool a, .slice p n c] 29)).alloc (.cells #[.bool a, .slice q m d] 29)).alloc (.cells #[.bool false, .slice none 0 0] 29)) := (((Below.refl _ w).alloc (Nat.le_refl _) _).alloc (by simp) _).alloc (by rw [World.size_alloc, World.size_alloc]; omega) _
  have b0 : Boxed2 (((w.alloc (.cells #[.bool a, .slice p n c] 29)).alloc (.cells #[.bool a, .slice q m d] 29)).alloc (.cells #[.bool false, .slice none 0 0] 29)) w.heap.size (.bool a) (.slice p n c) 29 := ((Boxed2.new w _ _ _).alloc _).alloc _
  have b1 : Boxed2 (((w.alloc (.cells #[.bool a, .slice p n c] 29)).alloc (.cells #[.bool a, .slice q m d] 29)).alloc (.cells #[.bool false, .slice none 0 0] 29)) (w.heap.size + 1) (.bool a) (.slice q m d) 29 := by
    have := Boxed2.new (w.alloc (.cells #[.bool a, .slice p n c] 29)) (.bool a) (.slice q m d) 29
    rw [World.size_alloc] at this
    exact this.alloc _
  have b2 : Boxed2 (((w.alloc (.cells #[.bool a, .slice p n c] 29)).alloc (.cells #[.bool a, .slice q m d] 29)).alloc (.cells #[.bool false, .slice none 0 0] 29)) (w.heap.size + 1 + 1) (.bool false) (.slice none 0 0) 29 := by
    have := Boxed2.new ((w.alloc (.cells #[.bool a, .slice p n c] 29)).alloc (.cells #[.bool a, .slice q m d] 29)) (.bool false) (.slice none 0 0) 29
    rwa [World.size_alloc, World.size_alloc] at this
  have HX := Lib.hid hx
  have HY := Lib.hid hy
  have HR := Lib.hid (hx.rd.below hb0)
  have HS := Lib.hid (hy.rd.below hb0)
  have hc0 := b0.cell0
  have hc1 := b1.cell0
  go_enter Tryd.func28, Tryd.ntmps28
  go_wp2_with fail
  generalize hw1 : (((w.alloc (.cells #[.bool a, .slice p n c] 29)).alloc (.cells #[.bool a, .slice q m d] 29)).alloc (.cells #[.bool false, .slice none 0 0] 29)) = w1 at *
  have hsz0 : w.heap.size + 1 + 1 + 1 ≤ w1.heap.size := by rw [← hw1]; simp
  have HB0 := Lib.hid b0
  have HB1 := Lib.hid b1
  have HB2 := Lib.hid b2
  have HBW := Lib.hid hb0
  obtain ⟨N, hN⟩ : ∃ N, max n m = N := ⟨_, rfl⟩
  have hnN : n ≤ N := by omega
  have hmN : m ≤ N := by omega
  have hN9 : N ≤ 100000000 := by omega
  have HMN := Lib.hid hN
  clear b0 b1 b2 hb0 hc0 hc1 hw1 hx hy hN
  go_loopg [9, 10, 11] (N + 2) (fun gk v9 v10 v11 wr => ∃ (i cy : Nat) (zs : List Nat), i ≤ N + 1 ∧ gk = N + 2 - i ∧ v11 = .int .i64 (i : Int) ∧ v10 = .int .i64 (cy : Int) ∧ cy ≤ 1 ∧ (N + 1 ≤ i → cy = 0) ∧ Hid (AddI xs ys zs i cy) ∧ GrI wr (w.heap.size + 1 + 1 + 1) v9 zs ∧ w.heap.size + 1 + 1 + 1 ≤ wr.heap.size ∧ Below (w.heap.size + 1 + 1 + 1) w1 wr)
  case atStart => exact ⟨0, 0, [], by omega, rfl, rfl, rfl, by omega, fun h => rfl, AddI.start _ _, GrI.nil _ _, hsz0, Below.refl _ _⟩
  case round =>
    obtain ⟨i, cy, zs, hi, hgk, rfl, rfl, hcy, hcz, HA, hgr, hsz, hb⟩ := hrel
    have HGK := Lib.hid hgk
    clear hgk
    have b0 := HB0.out.below hb (by omega)
    have b1 := HB1.out.below hb (by omega)
    have b2 := HB2.out.below hb (by omega)
    have k0 := b0.cell0
    have k1 := b0.cell1
    have k2 := b1.cell0
    have k3 := b1.cell1
    have hrx : Rd .i64 wr p n xs := HX.out.rd.below (HBW.out.trans (hb.mono (by omega)))
    have hry : Rd .i64 wr q m ys := HY.out.rd.below (HBW.out.trans (hb.mono (by omega)))
    by_cases hgo : i < n ∨ i < m ∨ 0 < cy
    · have hiN : i ≤ N := by
        rcases Nat.lt_or_ge i (N + 1) with h | h
        · omega
        · have := hcz h; omega
      have hdx : xs[i]?.getD 0 < 10000 := HX.out.cn.1.get (by decide) i
      have hdy : ys[i]?.getD 0 < 10000 := HY.out.cn.1.get (by decide) i
      have HP := Lib.hid (fun k => digit_same p n c i xs (wr.drewN k) (by omega) (hrx.drewN k))
      have HQ := Lib.hid (fun k => digit_same q m d i ys (wr.drewN k) (by omega) (hry.drewN k))
      have hst := HA.out.step (s := cy + xs[i]?.getD 0 + ys[i]?.getD 0) HX.out.cn.1 HY.out.cn.1 rfl
      have hz0 : N ≤ i → (cy + xs[i]?.getD 0 + ys[i]?.getD 0) / 10000 = 0 := fun h => HA.out.zero (by rw [HX.out.rd.1]; omega) (by rw [HY.out.rd.1]; omega) rfl
      generalize xs[i]?.getD 0 = dx at hdx HP hst hz0
      generalize ys[i]?.getD 0 = dy at hdy HQ hst hz0
      have hw1 : IntKind.i64.wrap ((cy : Int) + (dx : Int)) = ((cy + dx : Nat) : Int) := by rw [IntWalk.i64_in _ (by omega)]; omega
      have hw2 : IntKind.i64.wrap (((cy + dx : Nat) : Int) + (dy : Int)) = ((cy + dx + dy : Nat) : Int) := by rw [IntWalk.i64_in _ (by omega)]; omega
      have hS : cy + dx + dy < 30000 := by omega
      have hdiv : ((cy + dx + dy : Nat) : Int) / 10000 = (((cy + dx + dy) / 10000 : Nat) : Int) := by omega
      have hmod : ((cy + dx + dy : Nat) : Int) % 10000 = (((cy + dx + dy) % 10000 : Nat) : Int) := by omega
      have hq1 : (cy + dx + dy) / 10000 ≤ 1 := hst.2.2.2
      have hr1 : (cy + dx + dy) % 10000 < 10000 := Nat.mod_lt _ (by decide)
      generalize cy + dx = s1 at *
      generalize s1 + dy = s2 at *
      generalize s2 / 10000 = q2 at *
      generalize s2 % 10000 = r2 at *
      have HST := Lib.hid hst
      have HZ0 := Lib.hid hz0
      clear hst hz0
      have hways : (i < n) ∨ (¬ i < n ∧ i < m) ∨ (¬ i < n ∧ ¬ i < m ∧ (0 : Int) < (cy : Int)) := by omega
      clear hgo
      rcases hways with h1 | ⟨h1, h2⟩ | ⟨h1, h2, h3⟩
      · have HD := Lib.hid hdiv
        have HM := Lib.hid hmod
        clear hdiv hmod
        go_wp2_with fail
        go_quiet ((go_at_call 56; first | (with_reducible exact Calls.quiet_of_same (HP.out _)) | (with_reducible exact Calls.quiet_of_same (HQ.out _))))
        have hdiv := HD.out
        have hmod := HM.out
        clear hw1 hw2
        go_wp2_with (at_builtin; refine pushI_law rfl _ _ rfl rfl hgr r2 rfl (by have := HST.out.2.1; simp at this; omega) hsz ?_; intro v' w' hgr' hb')
        go_roundg (N + 2 - (i + 1))
        case measure => rw [HGK.out]; omega
        case rel => exact ⟨i + 1, q2, zs ++ [r2], by omega, rfl, by go_num, rfl, hq1, fun h => HZ0.out (by omega), HST.out, hgr', Nat.le_trans hsz hb'.size, hb.trans ((below_drewN _ _ _).trans hb')⟩
      · have HD := Lib.hid hdiv
        have HM := Lib.hid hmod
        clear hdiv hmod
        go_wp2_with fail
        go_quiet ((go_at_call 56; first | (with_reducible exact Calls.quiet_of_same (HP.out _)) | (with_reducible exact Calls.quiet_of_same (HQ.out _))))
        have hdiv := HD.out
        have hmod := HM.out
        clear hw1 hw2
        go_wp2_with (at_builtin; refine pushI_law rfl _ _ rfl rfl hgr r2 rfl (by have := HST.out.2.1; simp at this; omega) hsz ?_; intro v' w' hgr' hb')
        go_roundg (N + 2 - (i + 1))
        case measure => rw [HGK.out]; omega
        case rel => exact ⟨i + 1, q2, zs ++ [r2], by omega, rfl, by go_num, rfl, hq1, fun h => HZ0.out (by omega), HST.out, hgr', Nat.le_trans hsz hb'.size, hb.trans ((below_drewN _ _ _).trans hb')⟩
      · have HD := Lib.hid hdiv
        have HM := Lib.hid hmod
        clear hdiv hmod
        go_wp2_with fail
        go_quiet ((go_at_call 56; first | (with_reducible exact Calls.quiet_of_same (HP.out _)) | (with_reducible exact Calls.quiet_of_same (HQ.out _))))
        have hdiv := HD.out
        have hmod := HM.out
        clear hw1 hw2
        go_wp2_with (at_builtin; refine pushI_law rfl _ _ rfl rfl hgr r2 rfl (by have := HST.out.2.1; simp at this; omega) hsz ?_; intro v' w' hgr' hb')
        go_roundg (N + 2 - (i + 1))
        case measure => rw [HGK.out]; omega
        case rel => exact ⟨i + 1, q2, zs ++ [r2], by omega, rfl, by go_num, rfl, hq1, fun h => HZ0.out (by omega), HST.out, hgr', Nat.le_trans hsz hb'.size, hb.trans ((below_drewN _ _ _).trans hb')⟩
    · have h1 : ¬ i < n := fun h => hgo (.inl h)
      have h2 : ¬ i < m := fun h => hgo (.inr (.inl h))
      obtain rfl : cy = 0 := by
        rcases Nat.eq_zero_or_pos cy with h | h
        · exact h
        · exact absurd (.inr (.inr h)) hgo
      have hv := HA.out.done (by rw [HX.out.rd.1]; omega) (by rw [HY.out.rd.1]; omega)
      have HDG := Lib.hid HA.out.1
      have HLZ := Lib.hid HA.out.2.1
      have HV := Lib.hid hv
      have hl9 : zs.length ≤ N + 1 := by rw [HLZ.out]; exact hi
      clear hv hgo
      obtain ⟨pz, cz, rfl, hcz2, hrd⟩ := hgr.rd
      have hbw := HBW.out.trans (hb.mono (by omega))
      go_wp2_with (go_at_call 46; refine (rnumber_any _ _ _ _ zs _ (by unfold maxLen; omega) hcz2 hrd HDG.out).mono ?_; rintro e w2 ⟨neg2, p2, n2, c2, xs2, rfl, hx2, hn2, hb2⟩; have b22 := b2.below hb2 b2.lt; have c20 := b22.cell0; have c21 := b22.cell1; have q20 := b22.frozen (i := 0); have q21 := b22.frozen (i := 1))
      have b3 := b22.set (.bool neg2) (.slice p2 n2 c2)
      have z0 := b3.cell0
      have z1 := b3.cell1
      refine bodyPost_ret (v := .agg #[.bool neg2, .slice p2 n2 c2]) (by simp [results, Tryd.results28, go_sem, z0, z1]) rfl ⟨neg2, p2, n2, c2, xs2, rfl, { rd := (hx2.rd.boxI b22 _).boxI (b22.set0 _) _, cap := hx2.cap, cn := hx2.cn, pos := hx2.pos, val := ?_ }, by have := HMN.out; omega, ((hbw.trans (hb2.mono hbw.size)).setCell (by simp <;> omega) _).setCell (by simp <;> omega) _⟩
      rw [← hx2.val, HV.out, HX.out.val, HY.out.val]
      cases a <;> simp [sv] <;> omega

set_option maxRecDepth 100000 in
set_option maxHeartbeats 4000000 in
theorem radd_ge (a b : Bool) (p q : Option Addr) (n c m d : Nat) (xs ys : List Nat) (x y : Int) (w : World) (hn : n ≤ 100000000) (hm : m ≤ 100000000) (hx : RIs w a p n c xs x) (hy : RIs w b q m d ys y) (hab : a ≠ b) (hle : dv BR ys ≤ dv BR xs) :
    Calls Tryd.prog 28 #[.agg #[.bool a, .slice p n c], .agg #[.bool b, .slice q m d]] w (RV w (x + y) (max n m + 1)) := by
  have hb0 : Below w.heap.size w (((w.alloc (.cells #[.bool a, .slice p n c] 29)).alloc (.cells #[.bool b, .slice q m d] 29)).alloc (.cells #[.bool false, .slice none 0 0] 29)) := (((Below.refl _ w).alloc (Nat.le_refl _) _).alloc (by simp) _).alloc (by rw [World.size_alloc, World.size_alloc]; omega) _
  have b0 : Boxed2 (((w.alloc (.cells #[.bool a, .slice p n c] 29)).alloc (.cells #[.bool b, .slice q m d] 29)).alloc (.cells #[.bool false, .slice none 0 0] 29)) w.heap.size (.bool a) (.slice p n c) 29 := ((Boxed2.new w _ _ _).alloc _).alloc _
  have b1 : Boxed2 (((w.alloc (.cells #[.bool a, .slice p n c] 29)).alloc (.cells #[.bool b, .slice q m d] 29)).alloc (.cells #[.bool false, .slice none 0 0] 29)) (w.heap.size + 1) (.bool b) (.slice q m d) 29 := by
    have := Boxed2.new (w.alloc (.cells #[.bool a, .slice p n c] 29)) (.bool b) (.slice q m d) 29
    rw [World.size_alloc] at this
    exact this.alloc _
  have b2 : Boxed2 (((w.alloc (.cells #[.bool a, .slice p n c] 29)).alloc (.cells #[.bool b, .slice q m d] 29)).alloc (.cells #[.bool false, .slice none 0 0] 29)) (w.heap.size + 1 + 1) (.bool false) (.slice none 0 0) 29 := by
    have := Boxed2.new ((w.alloc (.cells #[.bool a, .slice p n c] 29)).alloc (.cells #[.bool b, .slice q m d] 29)) (.bool false) (.slice none 0 0) 29
    rwa [World.size_alloc, World.size_alloc] at this
  have HX := Lib.hid hx
  have HY := Lib.hid hy
  have HLE := Lib.hid hle
  have HAB := Lib.hid hab
  have hsz0 : w.heap.size + 1 + 1 + 1 ≤ (((w.alloc (.cells #[.bool a, .slice p n c] 29)).alloc (.cells #[.bool b, .slice q m d] 29)).alloc (.cells #[.bool false, .slice none 0 0] 29)).heap.size := by simp
  have HSZ := Lib.hid (rsize_any p q n c m d xs ys (((w.alloc (.cells #[.bool a, .slice p n c] 29)).alloc (.cells #[.bool b, .slice q m d] 29)).alloc (.cells #[.bool false, .slice none 0 0] 29)) (by omega) (by omega) (hx.rd.below hb0) (hy.rd.below hb0) hx.cn.1 hy.cn.1)
  obtain ⟨sg, hsg⟩ : ∃ sg, sgnCmp (dv BR xs : Int) (dv BR ys : Int) = sg := ⟨_, rfl⟩
  have hs0 : ¬ sg < 0 := by
    rw [← hsg]; unfold sgnCmp
    split
    · omega
    · split <;> omega
  have HSG := Lib.hid hsg
  have hab1 : (a != b) = true := by cases a <;> cases b <;> simp_all
  have hab2 : (a == b) = false := by cases a <;> cases b <;> simp_all
  have k0 := b0.cell0
  have k1 := b0.cell1
  have k2 := b1.cell0
  have k3 := b1.cell1
  have f0 := b0.frozen (i := 0)
  have f1 := b0.frozen (i := 1)
  have f2 := b1.frozen (i := 0)
  have f3 := b1.frozen (i := 1)
  clear hx hy hle hab hsg
  go_enter Tryd.func28, Tryd.ntmps28
  go_wp2_with (go_at_call 55; refine HSZ.out.mono ?_; rintro e w' ⟨rfl, rfl⟩; rw [HSG.out])
  generalize hw1 : (((w.alloc (.cells #[.bool a, .slice p n c] 29)).alloc (.cells #[.bool b, .slice q m d] 29)).alloc (.cells #[.bool false, .slice none 0 0] 29)) = w1 at *
  have HB0 := Lib.hid b0
  have HB1 := Lib.hid b1
  have HB2 := Lib.hid b2
  have HBW := Lib.hid hb0
  have hlen : m ≤ n := by
    rcases Nat.lt_or_ge n m with h | h
    · have h5 := Cn.lt_of_length (b := BR) (by decide) HX.out.cn.1 HY.out.cn (by rw [HX.out.rd.1, HY.out.rd.1]; exact h)
      have := HLE.out
      omega
    · exact h
  clear b0 b1 b2 hb0 k0 k1 k2 k3 f0 f1 f2 f3 hw1 hab1 hab2 hs0
  go_loopg [5, 6, 7] n (fun gk v5 v6 v7 wr => ∃ (i bw : Nat) (zs : List Nat), i ≤ n ∧ gk = n - i ∧ v7 = .int .i64 (i : Int) ∧ v6 = .int .i64 (bw : Int) ∧ bw ≤ 1 ∧ Hid (SubI xs ys zs i bw) ∧ GrI wr (w.heap.size + 1 + 1 + 1) v5 zs ∧ w.heap.size + 1 + 1 + 1 ≤ wr.heap.size ∧ Below (w.heap.size + 1 + 1 + 1) w1 wr)
  case atStart => exact ⟨0, 0, [], Nat.zero_le _, rfl, rfl, rfl, by omega, SubI.start _ _, GrI.nil _ _, hsz0, Below.refl _ _⟩
  case round =>
    obtain ⟨i, bw, zs, hi, hgk, rfl, rfl, hbw1, HA, hgr, hsz, hb⟩ := hrel
    have HGK := Lib.hid hgk
    clear hgk
    have b0 := HB0.out.below hb (by omega)
    have b1 := HB1.out.below hb (by omega)
    have b2 := HB2.out.below hb (by omega)
    have k0 := b0.cell0
    have k1 := b0.cell1
    have k2 := b1.cell0
    have k3 := b1.cell1
    have hrx : Rd .i64 wr p n xs := HX.out.rd.below (HBW.out.trans (hb.mono (by omega)))
    have hry : Rd .i64 wr q m ys := HY.out.rd.below (HBW.out.trans (hb.mono (by omega)))
    by_cases hlt : i < n
    · have hdx : xs[i]?.getD 0 < 10000 := HX.out.cn.1.get (by decide) i
      have hdy : ys[i]?.getD 0 < 10000 := HY.out.cn.1.get (by decide) i
      have HQ := Lib.hid (fun k => digit_same q m d i ys (wr.drewN k) (by omega) (hry.drewN k))
      obtain ⟨bb, off, rfl, hbb, hcell⟩ := hrx.2 i hlt
      have hst := fun (dd e : Nat) (h1 : dd + ys[i]?.getD 0 + bw = xs[i]?.getD 0 + 10000 * e) (h2 : dd < 10000) (h3 : e ≤ 1) => HA.out.step HY.out.cn.1 HX.out.cn.1 h1 h2 h3
      generalize xs[i]?.getD 0 = dx at hdx hst hcell
      generalize ys[i]?.getD 0 = dy at hdy HQ hst
      obtain ⟨xx, hxx⟩ : ∃ xx : Int, (dx : Int) - (dy : Int) - (bw : Int) = xx := ⟨_, rfl⟩
      obtain ⟨x0, hx0⟩ : ∃ x0 : Int, (dx : Int) - (dy : Int) = x0 := ⟨_, rfl⟩
      have hw1 : IntKind.i64.wrap ((dx : Int) - (dy : Int)) = x0 := by rw [IntWalk.i64_in _ (by omega)]; exact hx0
      have hw2 : IntKind.i64.wrap (x0 - (bw : Int)) = xx := by rw [← hx0, IntWalk.i64_in _ (by omega)]; exact hxx
      have hxb : -10000 ≤ xx ∧ xx < 10000 := by omega
      obtain ⟨hxb1, hxb2⟩ := hxb
      have HST := Lib.hid hst
      have HXX := Lib.hid hxx
      have hlz : zs.length ≤ 100000000 := by have := HA.out.2.1; omega
      clear hst hx0 hxx
      go_wp2_with fail
      go_quiet ((go_at_call 56; (with_reducible exact Calls.quiet_of_same (HQ.out _))))
      clear hw1 hw2
      by_cases hneg : xx < 0
      · obtain ⟨dd, hdd⟩ : ∃ dd : Nat, xx + 10000 = (dd : Int) := ⟨(xx + 10000).toNat, by omega⟩
        have HN := Lib.hid (HST.out dd 1 (by have := HXX.out; omega) (by omega) (by omega))
        go_wp2_with (at_builtin; refine pushI_law rfl _ _ rfl rfl hgr dd rfl (by omega) hsz ?_; intro v' w' hgr' hb')
        go_roundg (n - (i + 1))
        case measure => rw [HGK.out]; omega
        case rel => exact ⟨i + 1, 1, zs ++ [dd], by omega, rfl, by go_num, rfl, by omega, HN.out, hgr', Nat.le_trans hsz hb'.size, hb.trans ((below_drewN _ _ _).trans hb')⟩
      · obtain ⟨dd, rfl⟩ : ∃ dd : Nat, xx = (dd : Int) := ⟨xx.toNat, by omega⟩
        have HN := Lib.hid (HST.out dd 0 (by have := HXX.out; omega) (by omega) (by omega))
        go_wp2_with (at_builtin; refine pushI_law rfl _ _ rfl rfl hgr dd rfl (by omega) hsz ?_; intro v' w' hgr' hb')
        go_roundg (n - (i + 1))
        case measure => rw [HGK.out]; omega
        case rel => exact ⟨i + 1, 0, zs ++ [dd], by omega, rfl, by go_num, rfl, by omega, HN.out, hgr', Nat.le_trans hsz hb'.size, hb.trans ((below_drewN _ _ _).trans hb')⟩
    · obtain rfl : i = n := by omega
      have hv := HA.out.done (by rw [HX.out.rd.1]; exact Nat.le_refl _) (by rw [HY.out.rd.1]; exact hlen) (by have := HLE.out; omega)
      have HDG := Lib.hid HA.out.1
      have HLZ := Lib.hid HA.out.2.1
      have HV := Lib.hid hv
      have hl9 : zs.length ≤ 100000000 := by rw [HLZ.out]; omega
      clear hv
      obtain ⟨pz, cz, rfl, hcz2, hrd⟩ := hgr.rd
      have hbw := HBW.out.trans (hb.mono (by omega))
      go_wp2_with (go_at_call 46; refine (rnumber_any _ _ _ _ zs _ (by unfold maxLen; omega) hcz2 hrd HDG.out).mono ?_; rintro e w2 ⟨neg2, p2, n2, c2, xs2, rfl, hx2, hn2, hb2⟩; have b22 := b2.below hb2 b2.lt; have c20 := b22.cell0; have c21 := b22.cell1; have q20 := b22.frozen (i := 0); have q21 := b22.frozen (i := 1))
      have b3 := b22.set (.bool neg2) (.slice p2 n2 c2)
      have z0 := b3.cell0
      have z1 := b3.cell1
      refine bodyPost_ret (v := .agg #[.bool neg2, .slice p2 n2 c2]) (by simp [results, Tryd.results28, go_sem, z0, z1]) rfl ⟨neg2, p2, n2, c2, xs2, rfl, { rd := (hx2.rd.boxI b22 _).boxI (b22.set0 _) _, cap := hx2.cap, cn := hx2.cn, pos := hx2.pos, val := ?_ }, by have := HLZ.out; omega, ((hbw.trans (hb2.mono hbw.size)).setCell (by simp <;> omega) _).setCell (by simp <;> omega) _⟩
      rw [← hx2.val, HV.out, HX.out.val, HY.out.val]
      have hle := HLE.out
      have hab := HAB.out
      cases a <;> cases b <;> simp [sv] at hab ⊢ <;> omega

set_option maxRecDepth 100000 in
set_option maxHeartbeats 4000000 in
theorem radd_lt (a b : Bool) (p q : Option Addr) (n c m d : Nat) (xs ys : List Nat) (x y : Int) (w : World) (hn : n ≤ 100000000) (hm : m ≤ 100000000) (hx : RIs w a p n c xs x) (hy : RIs w b q m d ys y) (hab : a ≠ b) (hle : dv BR xs < dv BR ys) :
    Calls Tryd.prog 28 #[.agg #[.bool a, .slice p n c], .agg #[.bool b, .slice q m d]] w (RV w (x + y) (max n m + 1)) := by
  have hb0 : Below w.heap.size w (((w.alloc (.cells #[.bool a, .slice p n c] 29)).alloc (.cells #[.bool b, .slice q m d] 29)).alloc (.cells #[.bool false, .slice none 0 0] 29)) := (((Below.refl _ w).alloc (Nat.le_refl _) _).alloc (by simp) _).alloc (by rw [World.size_alloc, World.size_alloc]; omega) _
  have b0 : Boxed2 (((w.alloc (.cells #[.bool a, .slice p n c] 29)).alloc (.cells #[.bool b, .slice q m d] 29)).alloc (.cells #[.bool false, .slice none 0 0] 29)) w.heap.size (.bool a) (.slice p n c) 29 := ((Boxed2.new w _ _ _).alloc _).alloc _
  have b1 : Boxed2 (((w.alloc (.cells #[.bool a, .slice p n c] 29)).alloc (.cells #[.bool b, .slice q m d] 29)).alloc (.cells #[.bool false, .slice none 0 0] 29)) (w.heap.size + 1) (.bool b) (.slice q m d) 29 := by
    have := Boxed2.new (w.alloc (.cells #[.bool a, .slice p n c] 29)) (.bool b) (.slice q m d) 29
    rw [World.size_alloc] at this
    exact this.alloc _
  have b2 : Boxed2 (((w.alloc (.cells #[.bool a, .slice p n c] 29)).alloc (.cells #[.bool b, .slice q m d] 29)).alloc (.cells #[.bool false, .slice none 0 0] 29)) (w.heap.size + 1 + 1) (.bool false) (.slice none 0 0) 29 := by
    have := Boxed2.new ((w.alloc (.cells #[.bool a, .slice p n c] 29)).alloc (.cells #[.bool b, .slice q m d] 29)) (.bool false) (.slice none 0 0) 29
    rwa [World.size_alloc, World.size_alloc] at this
  have HX := Lib.hid hx
  have HY := Lib.hid hy
  have HLE := Lib.hid hle
  have HAB := Lib.hid hab
  have hsz0 : w.heap.size + 1 + 1 + 1 ≤ (((w.alloc (.cells #[.bool a, .slice p n c] 29)).alloc (.cells #[.bool b, .slice q m d] 29)).alloc (.cells #[.bool false, .slice none 0 0] 29)).heap.size := by simp
  have HSZ := Lib.hid (rsize_any p q n c m d xs ys (((w.alloc (.cells #[.bool a, .slice p n c] 29)).alloc (.cells #[.bool b, .slice q m d] 29)).alloc (.cells #[.bool false, .slice none 0 0] 29)) (by omega) (by omega) (hx.rd.below hb0) (hy.rd.below hb0) hx.cn.1 hy.cn.1)
  obtain ⟨sg, hsg⟩ : ∃ sg, sgnCmp (dv BR xs : Int) (dv BR ys : Int) = sg := ⟨_, rfl⟩
  have hs0 : sg < 0 := by
    rw [← hsg]; unfold sgnCmp
    split
    · omega
    · split <;> omega
  have HSG := Lib.hid hsg
  have hab1 : (a != b) = true := by cases a <;> cases b <;> simp_all
  have hab2 : (a == b) = false := by cases a <;> cases b <;> simp_all
  have k0 := b0.cell0
  have k1 := b0.cell1
  have k2 := b1.cell0
  have k3 := b1.cell1
  have f0 := b0.frozen (i := 0)
  have f1 := b0.frozen (i := 1)
  have f2 := b1.frozen (i := 0)
  have f3 := b1.frozen (i := 1)
  clear hx hy hle hab hsg
  go_enter Tryd.func28, Tryd.ntmps28
  go_wp2_with (go_at_call 55; refine HSZ.out.mono ?_; rintro e w' ⟨rfl, rfl⟩; rw [HSG.out])
  clear hb0 b0 b1 b2 k0 k1 k2 k3 f0 f1 f2 f3 hsz0 HSZ
  have hb0 : Below w.heap.size w (((w.alloc (.cells #[.bool b, .slice q m d] 29)).alloc (.cells #[.bool a, .slice p n c] 29)).alloc (.cells #[.bool false, .slice none 0 0] 29)) := (((Below.refl _ w).alloc (Nat.le_refl _) _).alloc (by simp) _).alloc (by rw [World.size_alloc, World.size_alloc]; omega) _
  have b0 : Boxed2 (((w.alloc (.cells #[.bool b, .slice q m d] 29)).alloc (.cells #[.bool a, .slice p n c] 29)).alloc (.cells #[.bool false, .slice none 0 0] 29)) w.heap.size (.bool b) (.slice q m d) 29 := ((Boxed2.new w _ _ _).alloc _).alloc _
  have b1 : Boxed2 (((w.alloc (.cells #[.bool b, .slice q m d] 29)).alloc (.cells #[.bool a, .slice p n c] 29)).alloc (.cells #[.bool false, .slice none 0 0] 29)) (w.heap.size + 1) (.bool a) (.slice p n c) 29 := by
    have := Boxed2.new (w.alloc (.cells #[.bool b, .slice q m d] 29)) (.bool a) (.slice p n c) 29
    rw [World.size_alloc] at this
    exact this.alloc _
  have b2 : Boxed2 (((w.alloc (.cells #[.bool b, .slice q m d] 29)).alloc (.cells #[.bool a, .slice p n c] 29)).alloc (.cells #[.bool false, .slice none 0 0] 29)) (w.heap.size + 1 + 1) (.bool false) (.slice none 0 0) 29 := by
    have := Boxed2.new ((w.alloc (.cells #[.bool b, .slice q m d] 29)).alloc (.cells #[.bool a, .slice p n c] 29)) (.bool false) (.slice none 0 0) 29
    rwa [World.size_alloc, World.size_alloc] at this
  have hsz0 : w.heap.size + 1 + 1 + 1 ≤ (((w.alloc (.cells #[.bool b, .slice q m d] 29)).alloc (.cells #[.bool a, .slice p n c] 29)).alloc (.cells #[.bool false, .slice none 0 0] 29)).heap.size := by simp
  generalize hw1 : (((w.alloc (.cells #[.bool b, .slice q m d] 29)).alloc (.cells #[.bool a, .slice p n c] 29)).alloc (.cells #[.bool false, .slice none 0 0] 29)) = w1 at *
  have HB0 := Lib.hid b0
  have HB1 := Lib.hid b1
  have HB2 := Lib.hid b2
  have HBW := Lib.hid hb0
  have hlen : n ≤ m := by
    rcases Nat.lt_or_ge m n with h | h
    · have h5 := Cn.lt_of_length (b := BR) (by decide) HY.out.cn.1 HX.out.cn (by rw [HY.out.rd.1, HX.out.rd.1]; exact h)
      have := HLE.out
      omega
    · exact h
  clear b0 b1 b2 hb0 hw1 hab1 hab2 hs0
  go_loopg [5, 6, 7] m (fun gk v5 v6 v7 wr => ∃ (i bw : Nat) (zs : List Nat), i ≤ m ∧ gk = m - i ∧ v7 = .int .i64 (i : Int) ∧ v6 = .int .i64 (bw : Int) ∧ bw ≤ 1 ∧ Hid (SubI ys xs zs i bw) ∧ GrI wr (w.heap.size + 1 + 1 + 1) v5 zs ∧ w.heap.size + 1 + 1 + 1 ≤ wr.heap.size ∧ Below (w.heap.size + 1 + 1 + 1) w1 wr)
  case atStart => exact ⟨0, 0, [], Nat.zero_le _, rfl, rfl, rfl, by omega, SubI.start _ _, GrI.nil _ _, hsz0, Below.refl _ _⟩
  case round =>
    obtain ⟨i, bw, zs, hi, hgk, rfl, rfl, hbw1, HA, hgr, hsz, hb⟩ := hrel
    have HGK := Lib.hid hgk
    clear hgk
    have b0 := HB0.out.below hb (by omega)
    have b1 := HB1.out.below hb (by omega)
    have b2 := HB2.out.below hb (by omega)
    have k0 := b0.cell0
    have k1 := b0.cell1
    have k2 := b1.cell0
    have k3 := b1.cell1
    have hrx : Rd .i64 wr q m ys := HY.out.rd.below (HBW.out.trans (hb.mono (by omega)))
    have hry : Rd .i64 wr p n xs := HX.out.rd.below (HBW.out.trans (hb.mono (by omega)))
    by_cases hlt : i < m
    · have hdx : ys[i]?.getD 0 < 10000 := HY.out.cn.1.get (by decide) i
      have hdy : xs[i]?.getD 0 < 10000 := HX.out.cn.1.get (by decide) i
      have HQ := Lib.hid (fun k => digit_same p n c i xs (wr.drewN k) (by omega) (hry.drewN k))
      obtain ⟨bb, off, rfl, hbb, hcell⟩ := hrx.2 i hlt
      have hst := fun (dd e : Nat) (h1 : dd + xs[i]?.getD 0 + bw = ys[i]?.getD 0 + 10000 * e) (h2 : dd < 10000) (h3 : e ≤ 1) => HA.out.step HX.out.cn.1 HY.out.cn.1 h1 h2 h3
      generalize ys[i]?.getD 0 = dx at hdx hst hcell
      generalize xs[i]?.getD 0 = dy at hdy HQ hst
      obtain ⟨xx, hxx⟩ : ∃ xx : Int, (dx : Int) - (dy : Int) - (bw : Int) = xx := ⟨_, rfl⟩
      obtain ⟨x0, hx0⟩ : ∃ x0 : Int, (dx : Int) - (dy : Int) = x0 := ⟨_, rfl⟩
      have hw1 : IntKind.i64.wrap ((dx : Int) - (dy : Int)) = x0 := by rw [IntWalk.i64_in _ (by omega)]; exact hx0
      have hw2 : IntKind.i64.wrap (x0 - (bw : Int)) = xx := by rw [← hx0, IntWalk.i64_in _ (by omega)]; exact hxx
      have hxb : -10000 ≤ xx ∧ xx < 10000 := by omega
      obtain ⟨hxb1, hxb2⟩ := hxb
      have HST := Lib.hid hst
      have HXX := Lib.hid hxx
      have hlz : zs.length ≤ 100000000 := by have := HA.out.2.1; omega
      clear hst hx0 hxx
      go_wp2_with fail
      go_quiet ((go_at_call 56; (with_reducible exact Calls.quiet_of_same (HQ.out _))))
      clear hw1 hw2
      by_cases hneg : xx < 0
      · obtain ⟨dd, hdd⟩ : ∃ dd : Nat, xx + 10000 = (dd : Int) := ⟨(xx + 10000).toNat, by omega⟩
        have HN := Lib.hid (HST.out dd 1 (by have := HXX.out; omega) (by omega) (by omega))
        go_wp2_with (at_builtin; refine pushI_law rfl _ _ rfl rfl hgr dd rfl (by omega) hsz ?_; intro v' w' hgr' hb')
        go_roundg (m - (i + 1))
        case measure => rw [HGK.out]; omega
        case rel => exact ⟨i + 1, 1, zs ++ [dd], by omega, rfl, by go_num, rfl, by omega, HN.out, hgr', Nat.le_trans hsz hb'.size, hb.trans ((below_drewN _ _ _).trans hb')⟩
      · obtain ⟨dd, rfl⟩ : ∃ dd : Nat, xx = (dd : Int) := ⟨xx.toNat, by omega⟩
        have HN := Lib.hid (HST.out dd 0 (by have := HXX.out; omega) (by omega) (by omega))
        go_wp2_with (at_builtin; refine pushI_law rfl _ _ rfl rfl hgr dd rfl (by omega) hsz ?_; intro v' w' hgr' hb')
        go_roundg (m - (i + 1))
        case measure => rw [HGK.out]; omega
        case rel => exact ⟨i + 1, 0, zs ++ [dd], by omega, rfl, by go_num, rfl, by omega, HN.out, hgr', Nat.le_trans hsz hb'.size, hb.trans ((below_drewN _ _ _).trans hb')⟩
    · obtain rfl : i = m := by omega
      have hv := HA.out.done (by rw [HY.out.rd.1]; exact Nat.le_refl _) (by rw [HX.out.rd.1]; exact hlen) (by have := HLE.out; omega)
      have HDG := Lib.hid HA.out.1
      have HLZ := Lib.hid HA.out.2.1
      have HV := Lib.hid hv
      have hl9 : zs.length ≤ 100000000 := by rw [HLZ.out]; omega
      clear hv
      obtain ⟨pz, cz, rfl, hcz2, hrd⟩ := hgr.rd
      have hbw := HBW.out.trans (hb.mono (by omega))
      go_wp2_with (go_at_call 46; refine (rnumber_any _ _ _ _ zs _ (by unfold maxLen; omega) hcz2 hrd HDG.out).mono ?_; rintro e w2 ⟨neg2, p2, n2, c2, xs2, rfl, hx2, hn2, hb2⟩; have b22 := b2.below hb2 b2.lt; have c20 := b22.cell0; have c21 := b22.cell1; have q20 := b22.frozen (i := 0); have q21 := b22.frozen (i := 1))
      have b3 := b22.set (.bool neg2) (.slice p2 n2 c2)
      have z0 := b3.cell0
      have z1 := b3.cell1
      refine bodyPost_ret (v := .agg #[.bool neg2, .slice p2 n2 c2]) (by simp [results, Tryd.results28, go_sem, z0, z1]) rfl ⟨neg2, p2, n2, c2, xs2, rfl, { rd := (hx2.rd.boxI b22 _).boxI (b22.set0 _) _, cap := hx2.cap, cn := hx2.cn, pos := hx2.pos, val := ?_ }, by have := HLZ.out; omega, ((hbw.trans (hb2.mono hbw.size)).setCell (by simp <;> omega) _).setCell (by simp <;> omega) _⟩
      rw [← hx2.val, HV.out, HX.out.val, HY.out.val]
      have hle := HLE.out
      have hab := HAB.out
      cases a <;> cases b <;> simp [sv] at hab ⊢ <;> omega

/-- x + y. -/
theorem radd_any (a b : Bool) (p q : Option Addr) (n c m d : Nat) (xs ys : List Nat) (x y : Int) (w : World) (hn : n ≤ 100000000) (hm : m ≤ 100000000) (hx : RIs w a p n c xs x) (hy : RIs w b q m d ys y) :
    Calls Tryd.prog 28 #[.agg #[.bool a, .slice p n c], .agg #[.bool b, .slice q m d]] w (RV w (x + y) (max n m + 1)) := by
  by_cases h : a = b
  · subst h; exact radd_same a p q n c m d xs ys x y w hn hm hx hy
  · by_cases hle : dv BR ys ≤ dv BR xs
    · exact radd_ge a b p q n c m d xs ys x y w hn hm hx hy h hle
    · exact radd_lt a b p q n c m d xs ys x y w hn hm hx hy h (by omega)

end Go.Proofs.YtapfkinpdinbgaaDoor
