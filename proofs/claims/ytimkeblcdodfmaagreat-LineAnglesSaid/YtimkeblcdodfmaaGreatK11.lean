/-
  The reference: sums.
-/
import Derived.Test.YtimkeblcdodfmaaGreatK1
import Derived.Test.YtimkeblcdodfmaaGreatK2
import Derived.Test.YtimkeblcdodfmaaGreatK10
namespace Go.Proofs.YtimkeblcdodfmaaGreat

/-- A sum, place by place. -/
def AddI (xs ys zs : List Nat) (i c : Nat) : Prop := Dg BR zs ∧ zs.length = i ∧ dv BR zs + BR ^ i * c = dv BR (xs.take i) + dv BR (ys.take i) ∧ c ≤ 1

theorem AddI.start (xs ys : List Nat) : AddI xs ys [] 0 0 := ⟨Dg.nil _, rfl, by simp [dv], Nat.zero_le _⟩

theorem AddI.step {xs ys zs : List Nat} {i c s : Nat} (hx : Dg BR xs) (hy : Dg BR ys) (h : AddI xs ys zs i c) (hs : c + xs[i]?.getD 0 + ys[i]?.getD 0 = s) : AddI xs ys (zs ++ [s % 10000]) (i + 1) (s / 10000) := by
  obtain ⟨h1, h2, h3, h4⟩ := h
  have ha : xs[i]?.getD 0 < 10000 := hx.get (by decide) i
  have hb : ys[i]?.getD 0 < 10000 := hy.get (by decide) i
  refine ⟨h1.append (Dg.cons (Nat.mod_lt _ (by decide)) (Dg.nil _)), by simp [h2], ?_, by omega⟩
  rw [dv_snoc, h2, dv_take_succ, dv_take_succ, Nat.pow_succ]
  have e1 : BR ^ i * (s % 10000) + BR ^ i * BR * (s / 10000) = BR ^ i * s := by
    rw [Nat.mul_assoc, ← Nat.mul_add]
    congr 1
    show s % 10000 + 10000 * (s / 10000) = s
    omega
  have e2 : BR ^ i * s = BR ^ i * c + BR ^ i * xs[i]?.getD 0 + BR ^ i * ys[i]?.getD 0 := by rw [← hs, Nat.mul_add, Nat.mul_add]
  omega

theorem AddI.zero {xs ys zs : List Nat} {i c s : Nat} (h : AddI xs ys zs i c) (hi : xs.length ≤ i) (hj : ys.length ≤ i) (hs : c + xs[i]?.getD 0 + ys[i]?.getD 0 = s) : s / 10000 = 0 := by
  have h4 := h.2.2.2
  rw [List.getElem?_eq_none hi, List.getElem?_eq_none hj] at hs
  simp at hs
  omega

theorem AddI.done {xs ys zs : List Nat} {i : Nat} (h : AddI xs ys zs i 0) (hi : xs.length ≤ i) (hj : ys.length ≤ i) : dv BR zs = dv BR xs + dv BR ys := by
  have h3 := h.2.2.1
  rw [List.take_of_length_le hi, List.take_of_length_le hj] at h3
  omega

/-- A difference, place by place. -/
def SubI (xs ys zs : List Nat) (i c : Nat) : Prop := Dg BR zs ∧ zs.length = i ∧ dv BR zs + dv BR (ys.take i) = dv BR (xs.take i) + BR ^ i * c ∧ c ≤ 1

theorem SubI.start (xs ys : List Nat) : SubI xs ys [] 0 0 := ⟨Dg.nil _, rfl, by simp [dv], Nat.zero_le _⟩

theorem SubI.step {xs ys zs : List Nat} {i c d e : Nat} (hy : Dg BR ys) (hx : Dg BR xs) (h : SubI xs ys zs i c) (hd : d + ys[i]?.getD 0 + c = xs[i]?.getD 0 + 10000 * e) (hd1 : d < 10000) (he : e ≤ 1) : SubI xs ys (zs ++ [d]) (i + 1) e := by
  obtain ⟨h1, h2, h3, h4⟩ := h
  refine ⟨h1.append (Dg.cons hd1 (Dg.nil _)), by simp [h2], ?_, he⟩
  rw [dv_snoc, h2, dv_take_succ, dv_take_succ, Nat.pow_succ]
  have e1 : BR ^ i * d + BR ^ i * ys[i]?.getD 0 + BR ^ i * c = BR ^ i * xs[i]?.getD 0 + BR ^ i * BR * e := by
    rw [← Nat.mul_add, ← Nat.mul_add, Nat.mul_assoc, ← Nat.mul_add]
    congr 1
  omega

theorem SubI.done {xs ys zs : List Nat} {i c : Nat} (h : SubI xs ys zs i c) (hi : xs.length ≤ i) (hj : ys.length ≤ i) (hle : dv BR ys ≤ dv BR xs) : dv BR zs = dv BR xs - dv BR ys := by
  obtain ⟨h1, h2, h3, h4⟩ := h
  rw [List.take_of_length_le hi, List.take_of_length_le hj] at h3
  have h5 := dv_lt h1
  rw [h2] at h5
  cases c with
  | zero => omega
  | succ c => have : c = 0 := by omega
              subst this; omega

/-- The order, from the highest place on. -/
theorem order_step {xs ys : List Nat} {i : Nat} (hx : Dg BR xs) (hy : Dg BR ys) (h : dv BR (xs.drop (i + 1)) = dv BR (ys.drop (i + 1))) (hlt : xs[i]?.getD 0 < ys[i]?.getD 0) : dv BR xs < dv BR ys := by
  have key : ∀ zs : List Nat, dv BR zs = dv BR (zs.take i) + BR ^ i * zs[i]?.getD 0 + BR ^ i * (BR * dv BR (zs.drop (i + 1))) := by
    intro zs
    rcases Nat.lt_or_ge i zs.length with h' | h'
    · have h1 := dv_take_drop BR zs i (by omega)
      rw [dv_drop BR zs i h', Nat.mul_add] at h1
      omega
    · rw [List.take_of_length_le h', List.getElem?_eq_none h', List.drop_of_length_le (by omega)]
      simp [dv]
  have k1 := key xs
  have k2 := key ys
  rw [h] at k1
  have h1 := dv_lt (hx.take i)
  have h2 : BR ^ (xs.take i).length ≤ BR ^ i := Nat.pow_le_pow_right (by decide) (List.length_take_le _ _)
  have h3 : BR ^ i * (xs[i]?.getD 0 + 1) ≤ BR ^ i * ys[i]?.getD 0 := Nat.mul_le_mul_left _ hlt
  rw [Nat.mul_add, Nat.mul_one] at h3
  omega

theorem order_same {xs ys : List Nat} {i : Nat} (h : dv BR (xs.drop (i + 1)) = dv BR (ys.drop (i + 1))) (he : xs[i]?.getD 0 = ys[i]?.getD 0) : dv BR (xs.drop i) = dv BR (ys.drop i) := by
  have key : ∀ zs : List Nat, dv BR (zs.drop i) = zs[i]?.getD 0 + BR * dv BR (zs.drop (i + 1)) := by
    intro zs
    rcases Nat.lt_or_ge i zs.length with h' | h'
    · exact dv_drop BR zs i h'
    · rw [List.drop_of_length_le h', List.getElem?_eq_none h', List.drop_of_length_le (by omega)]
      simp [dv]
  rw [key xs, key ys, h, he]

end Go.Proofs.YtimkeblcdodfmaaGreat

namespace Go.Proofs.YtimkeblcdodfmaaGreat
open Go.RowKit

set_option maxHeartbeats 400000 in
theorem digit_any (p : Option Addr) (n c i : Nat) (xs : List Nat) (w : World) (hn : n ≤ 1000000000) (hx : Rd .i64 w p n xs) :
    Calls Tryz.prog 143 #[.slice p n c, .int .i64 (i : Int)] w fun e w' => e = .returned (.int .i64 ((xs[i]?.getD 0 : Nat) : Int)) ∧ w = w' := by
  by_cases h : i < n
  · obtain ⟨b, off, rfl, hb, hcell⟩ := hx.2 i h
    have hi : (i : Int) < (n : Int) := by omega
    generalize xs[i]?.getD 0 = d at *
    go_enter Tryz.func143, Tryz.ntmps143
    go_wp2_with fail
    go_ret
    exact ⟨rfl, rfl⟩
  · have hi : ¬ (i : Int) < (n : Int) := by omega
    have hz : xs[i]?.getD 0 = 0 := by rw [List.getElem?_eq_none (by rw [hx.1]; omega)]; rfl
    rw [hz]
    clear hz
    go_enter Tryz.func143, Tryz.ntmps143
    go_wp2_with fail
    go_ret
    exact ⟨rfl, rfl⟩

set_option maxRecDepth 100000 in
set_option maxHeartbeats 1000000 in
theorem rsize_any (p q : Option Addr) (n c m d : Nat) (xs ys : List Nat) (w : World) (hn : n ≤ 1000000000) (hm : m ≤ 1000000000) (hx : Rd .i64 w p n xs) (hy : Rd .i64 w q m ys) (gx : Dg BR xs) (gy : Dg BR ys) :
    Calls Tryz.prog 122 #[.slice p n c, .slice q m d] w fun e w' => e = .returned (.int .i64 (sgnCmp (dv BR xs) (dv BR ys))) ∧ w = w' := by
  have hmax : max (n : Int) (m : Int) = ((max n m : Nat) : Int) := by omega
  have hN : max n m ≤ 1000000000 := by omega
  have hxl : xs.length ≤ max n m := by rw [hx.1]; omega
  have hyl : ys.length ≤ max n m := by rw [hy.1]; omega
  generalize max n m = N at hmax hN hxl hyl
  have HX := Lib.hid hx
  have HY := Lib.hid hy
  have HXL := Lib.hid hxl
  have HYL := Lib.hid hyl
  clear hx hy hxl hyl
  go_enter Tryz.func122, Tryz.ntmps122
  go_wp2_with fail
  clear hmax
  go_loop [5] (fun v5 => ∃ k : Nat, k ≤ N ∧ v5 = .int .i64 ((k : Int) - 1) ∧ Hid (dv BR (xs.drop k) = dv BR (ys.drop k))) (fun v5 => (Go.RowKit.intOf v5 + 1).toNat)
  case atStart => exact ⟨N, Nat.le_refl _, rfl, by show _ = _; rw [List.drop_of_length_le HXL.out, List.drop_of_length_le HYL.out]⟩
  case round =>
    obtain ⟨k, hk, rfl, HE⟩ := hrel
    cases k with
    | succ k =>
      have h1 : ((k + 1 : Nat) : Int) - 1 = (k : Int) := by omega
      rw [h1]
      have o1 := fun h => order_step (i := k) gx gy HE.out h
      have o2 := fun h => order_step (i := k) gy gx HE.out.symm h
      have o3 := fun h => order_same (i := k) HE.out h
      have HP := Lib.hid (digit_any p n c k xs w hn HX.out)
      have HQ := Lib.hid (digit_any q m d k ys w hm HY.out)
      generalize xs[k]?.getD 0 = a at o1 o2 o3 HP
      generalize ys[k]?.getD 0 = b at o1 o2 o3 HQ
      have O1 := Lib.hid o1
      have O2 := Lib.hid o2
      have O3 := Lib.hid o3
      clear o1 o2 o3 h1
      rcases Nat.lt_trichotomy a b with h | h | h
      · have hab : (a : Int) < (b : Int) := by omega
        have hs : sgnCmp (dv BR xs : Int) (dv BR ys : Int) = -1 := sgnCmp_lt (by have := O1.out h; omega)
        have HS := Lib.hid hs
        clear hs
        go_wp2_with fail
        refine HP.out.mono ?_
        rintro e w' ⟨rfl, rfl⟩
        go_wp2_with fail
        refine HQ.out.mono ?_
        rintro e w' ⟨rfl, rfl⟩
        go_wp2_with fail
        go_ret
        exact ⟨ret_int HS.out.symm, rfl⟩
      · have HO3 := Lib.hid (O3.out h)
        subst h
        clear O1 O2 O3
        have hab : ¬ (a : Int) < (a : Int) := by omega
        go_wp2_with fail
        refine HP.out.mono ?_
        rintro e w' ⟨rfl, rfl⟩
        go_wp2_with fail
        refine HQ.out.mono ?_
        rintro e w' ⟨rfl, rfl⟩
        go_wp2_with fail
        go_round
        case rel => exact ⟨k, by omega, by go_num, HO3.out⟩
        case measure => simp [Go.RowKit.intOf] <;> omega
      · have hab : ¬ (a : Int) < (b : Int) := by omega
        have hab2 : (b : Int) < (a : Int) := by omega
        have hs : sgnCmp (dv BR xs : Int) (dv BR ys : Int) = 1 := by have := O2.out h; unfold sgnCmp; rw [if_neg (by omega), if_neg (by omega)]
        have HS := Lib.hid hs
        clear hs
        go_wp2_with fail
        refine HP.out.mono ?_
        rintro e w' ⟨rfl, rfl⟩
        go_wp2_with fail
        refine HQ.out.mono ?_
        rintro e w' ⟨rfl, rfl⟩
        go_wp2_with fail
        go_ret
        exact ⟨ret_int HS.out.symm, rfl⟩
    | zero =>
      have he := HE.out
      rw [List.drop_zero, List.drop_zero] at he
      have hs : sgnCmp (dv BR xs : Int) (dv BR ys : Int) = 0 := by unfold sgnCmp; rw [he, if_neg (by omega), if_pos rfl]
      have HS := Lib.hid hs
      have hm1 : ((0 : Nat) : Int) - 1 = -1 := rfl
      clear hs he
      go_wp2_with fail
      go_ret
      exact ⟨ret_int HS.out.symm, rfl⟩

set_option maxHeartbeats 1000000 in
theorem rneg_any (neg : Bool) (p : Option Addr) (n c : Nat) (xs : List Nat) (z : Int) (w : World) (hn : n ≤ 1000000000) (hx : RIs w neg p n c xs z) :
    Calls Tryz.prog 144 #[.agg #[.bool neg, .slice p n c]] w (RV w (-z) n) := by
  have hb0 : Below w.heap.size w ((w.alloc (.cells #[.bool neg, .slice p n c] 109)).alloc (.cells #[.bool false, .slice none 0 0] 109)) := ((Below.refl _ w).alloc (Nat.le_refl _) _).alloc (by simp) _
  have b1 : Boxed2 ((w.alloc (.cells #[.bool neg, .slice p n c] 109)).alloc (.cells #[.bool false, .slice none 0 0] 109)) (w.heap.size + 1) (.bool false) (.slice none 0 0) 109 := by
    have := Boxed2.new (w.alloc (.cells #[.bool neg, .slice p n c] 109)) (.bool false) (.slice none 0 0) 109
    simpa using this
  have hx1 := hx.below hb0
  have HX := Lib.hid hx
  go_enter Tryz.func144, Tryz.ntmps144
  go_wp2_with (go_at_call 101; refine (rnumber_any _ _ _ _ xs _ (by unfold maxLen; omega) hx1.cap hx1.rd hx1.cn.1).mono ?_; rintro e w2 ⟨neg2, p2, n2, c2, xs2, rfl, hx2, hn2, hb2⟩; have b2 := b1.below hb2 b1.lt; have c20 := b2.cell0; have c21 := b2.cell1; have q20 := b2.frozen (i := 0); have q21 := b2.frozen (i := 1))
  have b3 := b2.set (.bool neg2) (.slice p2 n2 c2)
  have z0 := b3.cell0
  have z1 := b3.cell1
  refine bodyPost_ret (v := .agg #[.bool neg2, .slice p2 n2 c2]) (by simp [results, Tryz.results144, go_sem, z0, z1]) rfl ⟨neg2, p2, n2, c2, xs2, rfl, { rd := (hx2.rd.boxI b2 _).boxI (b2.set0 _) _, cap := hx2.cap, cn := hx2.cn, pos := hx2.pos, val := ?_ }, hn2, ((hb0.trans (hb2.mono hb0.size)).setCell (by simp) _).setCell (by simp) _⟩
  rw [← hx2.val, HX.out.val]
  cases neg <;> simp [sv]

end Go.Proofs.YtimkeblcdodfmaaGreat

namespace Go.Proofs.YtimkeblcdodfmaaGreat
open Go.RowKit

theorem digit_same (p : Option Addr) (n c i : Nat) (xs : List Nat) (w : World) (hn : n ≤ 1000000000) (hx : Rd .i64 w p n xs) :
    Calls Tryz.prog 143 #[.slice p n c, .int .i64 (i : Int)] w fun e w' => e = .returned (.int .i64 ((xs[i]?.getD 0 : Nat) : Int)) ∧ w' = w :=
  (digit_any p n c i xs w hn hx).mono fun _ _ h => ⟨h.1, h.2.symm⟩

theorem drewN_below (B : Nat) (w : World) (k : Nat) : Below B w (w.drewN k) := ⟨rfl, rfl, rfl, Nat.le_refl _, fun _ _ => rfl⟩

theorem Rd.drewN {k : IntKind} {w : World} {p : Option Addr} {n : Nat} {xs : List Nat} (h : Rd k w p n xs) (a : Nat) : Rd k (w.drewN a) p n xs := h

set_option maxRecDepth 100000 in
set_option maxHeartbeats 4000000 in
theorem radd_same (a : Bool) (p q : Option Addr) (n c m d : Nat) (xs ys : List Nat) (x y : Int) (w : World) (hn : n ≤ 100000000) (hm : m ≤ 100000000) (hx : RIs w a p n c xs x) (hy : RIs w a q m d ys y) :
    Calls Tryz.prog 125 #[.agg #[.bool a, .slice p n c], .agg #[.bool a, .slice q m d]] w (RV w (x + y) (max n m + 1)) := by
  have hb0 : Below w.heap.size w (((w.alloc (.cells #[.bool a, .slice p n c] 109)).alloc (.cells #[.bool a, .slice q m d] 109)).alloc (.cells #[.bool false, .slice none 0 0] 109)) := (((Below.refl _ w).alloc (Nat.le_refl _) _).alloc (by simp) _).alloc (by rw [World.size_alloc, World.size_alloc]; omega) _
  have b0 : Boxed2 (((w.alloc (.cells #[.bool a, .slice p n c] 109)).alloc (.cells #[.bool a, .slice q m d] 109)).alloc (.cells #[.bool false, .slice none 0 0] 109)) w.heap.size (.bool a) (.slice p n c) 109 := ((Boxed2.new w _ _ _).alloc _).alloc _
  have b1 : Boxed2 (((w.alloc (.cells #[.bool a, .slice p n c] 109)).alloc (.cells #[.bool a, .slice q m d] 109)).alloc (.cells #[.bool false, .slice none 0 0] 109)) (w.heap.size + 1) (.bool a) (.slice q m d) 109 := by
    have := Boxed2.new (w.alloc (.cells #[.bool a, .slice p n c] 109)) (.bool a) (.slice q m d) 109
    rw [World.size_alloc] at this
    exact this.alloc _
  have b2 : Boxed2 (((w.alloc (.cells #[.bool a, .slice p n c] 109)).alloc (.cells #[.bool a, .slice q m d] 109)).alloc (.cells #[.bool false, .slice none 0 0] 109)) (w.heap.size + 1 + 1) (.bool false) (.slice none 0 0) 109 := by
    have := Boxed2.new ((w.alloc (.cells #[.bool a, .slice p n c] 109)).alloc (.cells #[.bool a, .slice q m d] 109)) (.bool false) (.slice none 0 0) 109
    rwa [World.size_alloc, World.size_alloc] at this
  have HX := Lib.hid hx
  have HY := Lib.hid hy
  have HR := Lib.hid (hx.rd.below hb0)
  have HS := Lib.hid (hy.rd.below hb0)
  have hc0 := b0.cell0
  have hc1 := b1.cell0
  go_enter Tryz.func125, Tryz.ntmps125
  go_wp2_with fail
  generalize hw1 : (((w.alloc (.cells #[.bool a, .slice p n c] 109)).alloc (.cells #[.bool a, .slice q m d] 109)).alloc (.cells #[.bool false, .slice none 0 0] 109)) = w1 at *
  have hsz0 : w.heap.size + 1 + 1 + 1 ≤ w1.heap.size := by rw [← hw1]; simp
  have HB0 := Lib.hid b0
  have HB1 := Lib.hid b1
  have HB2 := Lib.hid b2
  have HBW := Lib.hid hb0
  obtain ⟨N, hN⟩ : ∃ N, max n m = N := ⟨_, rfl⟩
  have hnN : n ≤ N := by omega
  have hmN : m ≤ N := by omega
  have hN9 : N ≤ 100000000 := by omega
  have HMN := Lib.hid hN
  clear b0 b1 b2 hb0 hc0 hc1 hw1 hx hy hN
  go_loopg [9, 10, 11] (N + 2) (fun gk v9 v10 v11 wr => ∃ (i cy : Nat) (zs : List Nat), i ≤ N + 1 ∧ gk = N + 2 - i ∧ v11 = .int .i64 (i : Int) ∧ v10 = .int .i64 (cy : Int) ∧ cy ≤ 1 ∧ (N + 1 ≤ i → cy = 0) ∧ Hid (AddI xs ys zs i cy) ∧ GrI wr (w.heap.size + 1 + 1 + 1) v9 zs ∧ w.heap.size + 1 + 1 + 1 ≤ wr.heap.size ∧ Below (w.heap.size + 1 + 1 + 1) w1 wr)
  case atStart => exact ⟨0, 0, [], by omega, rfl, rfl, rfl, by omega, fun h => rfl, AddI.start _ _, GrI.nil _ _, hsz0, Below.refl _ _⟩
  case round =>
    obtain ⟨i, cy, zs, hi, hgk, rfl, rfl, hcy, hcz, HA, hgr, hsz, hb⟩ := hrel
    have HGK := Lib.hid hgk
    clear hgk
    have b0 := HB0.out.below hb (by omega)
    have b1 := HB1.out.below hb (by omega)
    have b2 := HB2.out.below hb (by omega)
    have k0 := b0.cell0
    have k1 := b0.cell1
    have k2 := b1.cell0
    have k3 := b1.cell1
    have hrx : Rd .i64 wr p n xs := HX.out.rd.below (HBW.out.trans (hb.mono (by omega)))
    have hry : Rd .i64 wr q m ys := HY.out.rd.below (HBW.out.trans (hb.mono (by omega)))
    by_cases hgo : i < n ∨ i < m ∨ 0 < cy
    · have hiN : i ≤ N := by
        rcases Nat.lt_or_ge i (N + 1) with h | h
        · omega
        · have := hcz h; omega
      have hdx : xs[i]?.getD 0 < 10000 := HX.out.cn.1.get (by decide) i
      have hdy : ys[i]?.getD 0 < 10000 := HY.out.cn.1.get (by decide) i
      have HP := Lib.hid (fun k => digit_same p n c i xs (wr.drewN k) (by omega) (hrx.drewN k))
      have HQ := Lib.hid (fun k => digit_same q m d i ys (wr.drewN k) (by omega) (hry.drewN k))
      have hst := HA.out.step (s := cy + xs[i]?.getD 0 + ys[i]?.getD 0) HX.out.cn.1 HY.out.cn.1 rfl
      have hz0 : N ≤ i → (cy + xs[i]?.getD 0 + ys[i]?.getD 0) / 10000 = 0 := fun h => HA.out.zero (by rw [HX.out.rd.1]; omega) (by rw [HY.out.rd.1]; omega) rfl
      generalize xs[i]?.getD 0 = dx at hdx HP hst hz0
      generalize ys[i]?.getD 0 = dy at hdy HQ hst hz0
      have hw1 : IntKind.i64.wrap ((cy : Int) + (dx : Int)) = ((cy + dx : Nat) : Int) := by rw [IntWalk.i64_in _ (by omega)]; omega
      have hw2 : IntKind.i64.wrap (((cy + dx : Nat) : Int) + (dy : Int)) = ((cy + dx + dy : Nat) : Int) := by rw [IntWalk.i64_in _ (by omega)]; omega
      have hS : cy + dx + dy < 30000 := by omega
      have hdiv : ((cy + dx + dy : Nat) : Int) / 10000 = (((cy + dx + dy) / 10000 : Nat) : Int) := by omega
      have hmod : ((cy + dx + dy : Nat) : Int) % 10000 = (((cy + dx + dy) % 10000 : Nat) : Int) := by omega
      have hq1 : (cy + dx + dy) / 10000 ≤ 1 := hst.2.2.2
      have hr1 : (cy + dx + dy) % 10000 < 10000 := Nat.mod_lt _ (by decide)
      generalize cy + dx = s1 at *
      generalize s1 + dy = s2 at *
      generalize s2 / 10000 = q2 at *
      generalize s2 % 10000 = r2 at *
      have HST := Lib.hid hst
      have HZ0 := Lib.hid hz0
      clear hst hz0
      have hways : (i < n) ∨ (¬ i < n ∧ i < m) ∨ (¬ i < n ∧ ¬ i < m ∧ (0 : Int) < (cy : Int)) := by omega
      clear hgo
      rcases hways with h1 | ⟨h1, h2⟩ | ⟨h1, h2, h3⟩
      · have HD := Lib.hid hdiv
        have HM := Lib.hid hmod
        clear hdiv hmod
        go_wp2_with fail
        go_quiet ((go_at_call 143; first | (with_reducible exact Calls.quiet_of_same (HP.out _)) | (with_reducible exact Calls.quiet_of_same (HQ.out _))))
        have hdiv := HD.out
        have hmod := HM.out
        clear hw1 hw2
        go_wp2_with (at_builtin; refine pushI_law rfl _ _ rfl rfl hgr r2 rfl (by have := HST.out.2.1; simp at this; omega) hsz ?_; intro v' w' hgr' hb')
        go_roundg (N + 2 - (i + 1))
        case measure => rw [HGK.out]; omega
        case rel => exact ⟨i + 1, q2, zs ++ [r2], by omega, rfl, by go_num, rfl, hq1, fun h => HZ0.out (by omega), HST.out, hgr', Nat.le_trans hsz hb'.size, hb.trans ((drewN_below _ _ _).trans hb')⟩
      · have HD := Lib.hid hdiv
        have HM := Lib.hid hmod
        clear hdiv hmod
        go_wp2_with fail
        go_quiet ((go_at_call 143; first | (with_reducible exact Calls.quiet_of_same (HP.out _)) | (with_reducible exact Calls.quiet_of_same (HQ.out _))))
        have hdiv := HD.out
        have hmod := HM.out
        clear hw1 hw2
        go_wp2_with (at_builtin; refine pushI_law rfl _ _ rfl rfl hgr r2 rfl (by have := HST.out.2.1; simp at this; omega) hsz ?_; intro v' w' hgr' hb')
        go_roundg (N + 2 - (i + 1))
        case measure => rw [HGK.out]; omega
        case rel => exact ⟨i + 1, q2, zs ++ [r2], by omega, rfl, by go_num, rfl, hq1, fun h => HZ0.out (by omega), HST.out, hgr', Nat.le_trans hsz hb'.size, hb.trans ((drewN_below _ _ _).trans hb')⟩
      · have HD := Lib.hid hdiv
        have HM := Lib.hid hmod
        clear hdiv hmod
        go_wp2_with fail
        go_quiet ((go_at_call 143; first | (with_reducible exact Calls.quiet_of_same (HP.out _)) | (with_reducible exact Calls.quiet_of_same (HQ.out _))))
        have hdiv := HD.out
        have hmod := HM.out
        clear hw1 hw2
        go_wp2_with (at_builtin; refine pushI_law rfl _ _ rfl rfl hgr r2 rfl (by have := HST.out.2.1; simp at this; omega) hsz ?_; intro v' w' hgr' hb')
        go_roundg (N + 2 - (i + 1))
        case measure => rw [HGK.out]; omega
        case rel => exact ⟨i + 1, q2, zs ++ [r2], by omega, rfl, by go_num, rfl, hq1, fun h => HZ0.out (by omega), HST.out, hgr', Nat.le_trans hsz hb'.size, hb.trans ((drewN_below _ _ _).trans hb')⟩
    · have h1 : ¬ i < n := fun h => hgo (.inl h)
      have h2 : ¬ i < m := fun h => hgo (.inr (.inl h))
      obtain rfl : cy = 0 := by
        rcases Nat.eq_zero_or_pos cy with h | h
        · exact h
        · exact absurd (.inr (.inr h)) hgo
      have hv := HA.out.done (by rw [HX.out.rd.1]; omega) (by rw [HY.out.rd.1]; omega)
      have HDG := Lib.hid HA.out.1
      have HLZ := Lib.hid HA.out.2.1
      have HV := Lib.hid hv
      have hl9 : zs.length ≤ N + 1 := by rw [HLZ.out]; exact hi
      clear hv hgo
      obtain ⟨pz, cz, rfl, hcz2, hrd⟩ := hgr.rd
      have hbw := HBW.out.trans (hb.mono (by omega))
      go_wp2_with (go_at_call 101; refine (rnumber_any _ _ _ _ zs _ (by unfold maxLen; omega) hcz2 hrd HDG.out).mono ?_; rintro e w2 ⟨neg2, p2, n2, c2, xs2, rfl, hx2, hn2, hb2⟩; have b22 := b2.below hb2 b2.lt; have c20 := b22.cell0; have c21 := b22.cell1; have q20 := b22.frozen (i := 0); have q21 := b22.frozen (i := 1))
      have b3 := b22.set (.bool neg2) (.slice p2 n2 c2)
      have z0 := b3.cell0
      have z1 := b3.cell1
      refine bodyPost_ret (v := .agg #[.bool neg2, .slice p2 n2 c2]) (by simp [results, Tryz.results125, go_sem, z0, z1]) rfl ⟨neg2, p2, n2, c2, xs2, rfl, { rd := (hx2.rd.boxI b22 _).boxI (b22.set0 _) _, cap := hx2.cap, cn := hx2.cn, pos := hx2.pos, val := ?_ }, by have := HMN.out; omega, ((hbw.trans (hb2.mono hbw.size)).setCell (by simp <;> omega) _).setCell (by simp <;> omega) _⟩
      rw [← hx2.val, HV.out, HX.out.val, HY.out.val]
      cases a <;> simp [sv] <;> omega

set_option maxRecDepth 100000 in
set_option maxHeartbeats 4000000 in
theorem radd_ge (a b : Bool) (p q : Option Addr) (n c m d : Nat) (xs ys : List Nat) (x y : Int) (w : World) (hn : n ≤ 100000000) (hm : m ≤ 100000000) (hx : RIs w a p n c xs x) (hy : RIs w b q m d ys y) (hab : a ≠ b) (hle : dv BR ys ≤ dv BR xs) :
    Calls Tryz.prog 125 #[.agg #[.bool a, .slice p n c], .agg #[.bool b, .slice q m d]] w (RV w (x + y) (max n m + 1)) := by
  have hb0 : Below w.heap.size w (((w.alloc (.cells #[.bool a, .slice p n c] 109)).alloc (.cells #[.bool b, .slice q m d] 109)).alloc (.cells #[.bool false, .slice none 0 0] 109)) := (((Below.refl _ w).alloc (Nat.le_refl _) _).alloc (by simp) _).alloc (by rw [World.size_alloc, World.size_alloc]; omega) _
  have b0 : Boxed2 (((w.alloc (.cells #[.bool a, .slice p n c] 109)).alloc (.cells #[.bool b, .slice q m d] 109)).alloc (.cells #[.bool false, .slice none 0 0] 109)) w.heap.size (.bool a) (.slice p n c) 109 := ((Boxed2.new w _ _ _).alloc _).alloc _
  have b1 : Boxed2 (((w.alloc (.cells #[.bool a, .slice p n c] 109)).alloc (.cells #[.bool b, .slice q m d] 109)).alloc (.cells #[.bool false, .slice none 0 0] 109)) (w.heap.size + 1) (.bool b) (.slice q m d) 109 := by
    have := Boxed2.new (w.alloc (.cells #[.bool a, .slice p n c] 109)) (.bool b) (.slice q m d) 109
    rw [World.size_alloc] at this
    exact this.alloc _
  have b2 : Boxed2 (((w.alloc (.cells #[.bool a, .slice p n c] 109)).alloc (.cells #[.bool b, .slice q m d] 109)).alloc (.cells #[.bool false, .slice none 0 0] 109)) (w.heap.size + 1 + 1) (.bool false) (.slice none 0 0) 109 := by
    have := Boxed2.new ((w.alloc (.cells #[.bool a, .slice p n c] 109)).alloc (.cells #[.bool b, .slice q m d] 109)) (.bool false) (.slice none 0 0) 109
    rwa [World.size_alloc, World.size_alloc] at this
  have HX := Lib.hid hx
  have HY := Lib.hid hy
  have HLE := Lib.hid hle
  have HAB := Lib.hid hab
  have hsz0 : w.heap.size + 1 + 1 + 1 ≤ (((w.alloc (.cells #[.bool a, .slice p n c] 109)).alloc (.cells #[.bool b, .slice q m d] 109)).alloc (.cells #[.bool false, .slice none 0 0] 109)).heap.size := by simp
  have HSZ := Lib.hid (rsize_any p q n c m d xs ys (((w.alloc (.cells #[.bool a, .slice p n c] 109)).alloc (.cells #[.bool b, .slice q m d] 109)).alloc (.cells #[.bool false, .slice none 0 0] 109)) (by omega) (by omega) (hx.rd.below hb0) (hy.rd.below hb0) hx.cn.1 hy.cn.1)
  obtain ⟨sg, hsg⟩ : ∃ sg, sgnCmp (dv BR xs : Int) (dv BR ys : Int) = sg := ⟨_, rfl⟩
  have hs0 : ¬ sg < 0 := by
    rw [← hsg]; unfold sgnCmp
    split
    · omega
    · split <;> omega
  have HSG := Lib.hid hsg
  have hab1 : (a != b) = true := by cases a <;> cases b <;> simp_all
  have hab2 : (a == b) = false := by cases a <;> cases b <;> simp_all
  have k0 := b0.cell0
  have k1 := b0.cell1
  have k2 := b1.cell0
  have k3 := b1.cell1
  have f0 := b0.frozen (i := 0)
  have f1 := b0.frozen (i := 1)
  have f2 := b1.frozen (i := 0)
  have f3 := b1.frozen (i := 1)
  clear hx hy hle hab hsg
  go_enter Tryz.func125, Tryz.ntmps125
  go_wp2_with (go_at_call 122; refine HSZ.out.mono ?_; rintro e w' ⟨rfl, rfl⟩; rw [HSG.out])
  generalize hw1 : (((w.alloc (.cells #[.bool a, .slice p n c] 109)).alloc (.cells #[.bool b, .slice q m d] 109)).alloc (.cells #[.bool false, .slice none 0 0] 109)) = w1 at *
  have HB0 := Lib.hid b0
  have HB1 := Lib.hid b1
  have HB2 := Lib.hid b2
  have HBW := Lib.hid hb0
  have hlen : m ≤ n := by
    rcases Nat.lt_or_ge n m with h | h
    · have h5 := Cn.lt_of_length (b := BR) (by decide) HX.out.cn.1 HY.out.cn (by rw [HX.out.rd.1, HY.out.rd.1]; exact h)
      have := HLE.out
      omega
    · exact h
  clear b0 b1 b2 hb0 k0 k1 k2 k3 f0 f1 f2 f3 hw1 hab1 hab2 hs0
  go_loopg [5, 6, 7] n (fun gk v5 v6 v7 wr => ∃ (i bw : Nat) (zs : List Nat), i ≤ n ∧ gk = n - i ∧ v7 = .int .i64 (i : Int) ∧ v6 = .int .i64 (bw : Int) ∧ bw ≤ 1 ∧ Hid (SubI xs ys zs i bw) ∧ GrI wr (w.heap.size + 1 + 1 + 1) v5 zs ∧ w.heap.size + 1 + 1 + 1 ≤ wr.heap.size ∧ Below (w.heap.size + 1 + 1 + 1) w1 wr)
  case atStart => exact ⟨0, 0, [], Nat.zero_le _, rfl, rfl, rfl, by omega, SubI.start _ _, GrI.nil _ _, hsz0, Below.refl _ _⟩
  case round =>
    obtain ⟨i, bw, zs, hi, hgk, rfl, rfl, hbw1, HA, hgr, hsz, hb⟩ := hrel
    have HGK := Lib.hid hgk
    clear hgk
    have b0 := HB0.out.below hb (by omega)
    have b1 := HB1.out.below hb (by omega)
    have b2 := HB2.out.below hb (by omega)
    have k0 := b0.cell0
    have k1 := b0.cell1
    have k2 := b1.cell0
    have k3 := b1.cell1
    have hrx : Rd .i64 wr p n xs := HX.out.rd.below (HBW.out.trans (hb.mono (by omega)))
    have hry : Rd .i64 wr q m ys := HY.out.rd.below (HBW.out.trans (hb.mono (by omega)))
    by_cases hlt : i < n
    · have hdx : xs[i]?.getD 0 < 10000 := HX.out.cn.1.get (by decide) i
      have hdy : ys[i]?.getD 0 < 10000 := HY.out.cn.1.get (by decide) i
      have HQ := Lib.hid (fun k => digit_same q m d i ys (wr.drewN k) (by omega) (hry.drewN k))
      obtain ⟨bb, off, rfl, hbb, hcell⟩ := hrx.2 i hlt
      have hst := fun (dd e : Nat) (h1 : dd + ys[i]?.getD 0 + bw = xs[i]?.getD 0 + 10000 * e) (h2 : dd < 10000) (h3 : e ≤ 1) => HA.out.step HY.out.cn.1 HX.out.cn.1 h1 h2 h3
      generalize xs[i]?.getD 0 = dx at hdx hst hcell
      generalize ys[i]?.getD 0 = dy at hdy HQ hst
      obtain ⟨xx, hxx⟩ : ∃ xx : Int, (dx : Int) - (dy : Int) - (bw : Int) = xx := ⟨_, rfl⟩
      obtain ⟨x0, hx0⟩ : ∃ x0 : Int, (dx : Int) - (dy : Int) = x0 := ⟨_, rfl⟩
      have hw1 : IntKind.i64.wrap ((dx : Int) - (dy : Int)) = x0 := by rw [IntWalk.i64_in _ (by omega)]; exact hx0
      have hw2 : IntKind.i64.wrap (x0 - (bw : Int)) = xx := by rw [← hx0, IntWalk.i64_in _ (by omega)]; exact hxx
      have hxb : -10000 ≤ xx ∧ xx < 10000 := by omega
      obtain ⟨hxb1, hxb2⟩ := hxb
      have HST := Lib.hid hst
      have HXX := Lib.hid hxx
      have hlz : zs.length ≤ 100000000 := by have := HA.out.2.1; omega
      clear hst hx0 hxx
      go_wp2_with fail
      go_quiet ((go_at_call 143; (with_reducible exact Calls.quiet_of_same (HQ.out _))))
      clear hw1 hw2
      by_cases hneg : xx < 0
      · obtain ⟨dd, hdd⟩ : ∃ dd : Nat, xx + 10000 = (dd : Int) := ⟨(xx + 10000).toNat, by omega⟩
        have HN := Lib.hid (HST.out dd 1 (by have := HXX.out; omega) (by omega) (by omega))
        go_wp2_with (at_builtin; refine pushI_law rfl _ _ rfl rfl hgr dd rfl (by omega) hsz ?_; intro v' w' hgr' hb')
        go_roundg (n - (i + 1))
        case measure => rw [HGK.out]; omega
        case rel => exact ⟨i + 1, 1, zs ++ [dd], by omega, rfl, by go_num, rfl, by omega, HN.out, hgr', Nat.le_trans hsz hb'.size, hb.trans ((drewN_below _ _ _).trans hb')⟩
      · obtain ⟨dd, rfl⟩ : ∃ dd : Nat, xx = (dd : Int) := ⟨xx.toNat, by omega⟩
        have HN := Lib.hid (HST.out dd 0 (by have := HXX.out; omega) (by omega) (by omega))
        go_wp2_with (at_builtin; refine pushI_law rfl _ _ rfl rfl hgr dd rfl (by omega) hsz ?_; intro v' w' hgr' hb')
        go_roundg (n - (i + 1))
        case measure => rw [HGK.out]; omega
        case rel => exact ⟨i + 1, 0, zs ++ [dd], by omega, rfl, by go_num, rfl, by omega, HN.out, hgr', Nat.le_trans hsz hb'.size, hb.trans ((drewN_below _ _ _).trans hb')⟩
    · obtain rfl : i = n := by omega
      have hv := HA.out.done (by rw [HX.out.rd.1]; exact Nat.le_refl _) (by rw [HY.out.rd.1]; exact hlen) (by have := HLE.out; omega)
      have HDG := Lib.hid HA.out.1
      have HLZ := Lib.hid HA.out.2.1
      have HV := Lib.hid hv
      have hl9 : zs.length ≤ 100000000 := by rw [HLZ.out]; omega
      clear hv
      obtain ⟨pz, cz, rfl, hcz2, hrd⟩ := hgr.rd
      have hbw := HBW.out.trans (hb.mono (by omega))
      go_wp2_with (go_at_call 101; refine (rnumber_any _ _ _ _ zs _ (by unfold maxLen; omega) hcz2 hrd HDG.out).mono ?_; rintro e w2 ⟨neg2, p2, n2, c2, xs2, rfl, hx2, hn2, hb2⟩; have b22 := b2.below hb2 b2.lt; have c20 := b22.cell0; have c21 := b22.cell1; have q20 := b22.frozen (i := 0); have q21 := b22.frozen (i := 1))
      have b3 := b22.set (.bool neg2) (.slice p2 n2 c2)
      have z0 := b3.cell0
      have z1 := b3.cell1
      refine bodyPost_ret (v := .agg #[.bool neg2, .slice p2 n2 c2]) (by simp [results, Tryz.results125, go_sem, z0, z1]) rfl ⟨neg2, p2, n2, c2, xs2, rfl, { rd := (hx2.rd.boxI b22 _).boxI (b22.set0 _) _, cap := hx2.cap, cn := hx2.cn, pos := hx2.pos, val := ?_ }, by have := HLZ.out; omega, ((hbw.trans (hb2.mono hbw.size)).setCell (by simp <;> omega) _).setCell (by simp <;> omega) _⟩
      rw [← hx2.val, HV.out, HX.out.val, HY.out.val]
      have hle := HLE.out
      have hab := HAB.out
      cases a <;> cases b <;> simp [sv] at hab ⊢ <;> omega

set_option maxRecDepth 100000 in
set_option maxHeartbeats 4000000 in
theorem radd_lt (a b : Bool) (p q : Option Addr) (n c m d : Nat) (xs ys : List Nat) (x y : Int) (w : World) (hn : n ≤ 100000000) (hm : m ≤ 100000000) (hx : RIs w a p n c xs x) (hy : RIs w b q m d ys y) (hab : a ≠ b) (hle : dv BR xs < dv BR ys) :
    Calls Tryz.prog 125 #[.agg #[.bool a, .slice p n c], .agg #[.bool b, .slice q m d]] w (RV w (x + y) (max n m + 1)) := by
  have hb0 : Below w.heap.size w (((w.alloc (.cells #[.bool a, .slice p n c] 109)).alloc (.cells #[.bool b, .slice q m d] 109)).alloc (.cells #[.bool false, .slice none 0 0] 109)) := (((Below.refl _ w).alloc (Nat.le_refl _) _).alloc (by simp) _).alloc (by rw [World.size_alloc, World.size_alloc]; omega) _
  have b0 : Boxed2 (((w.alloc (.cells #[.bool a, .slice p n c] 109)).alloc (.cells #[.bool b, .slice q m d] 109)).alloc (.cells #[.bool false, .slice none 0 0] 109)) w.heap.size (.bool a) (.slice p n c) 109 := ((Boxed2.new w _ _ _).alloc _).alloc _
  have b1 : Boxed2 (((w.alloc (.cells #[.bool a, .slice p n c] 109)).alloc (.cells #[.bool b, .slice q m d] 109)).alloc (.cells #[.bool false, .slice none 0 0] 109)) (w.heap.size + 1) (.bool b) (.slice q m d) 109 := by
    have := Boxed2.new (w.alloc (.cells #[.bool a, .slice p n c] 109)) (.bool b) (.slice q m d) 109
    rw [World.size_alloc] at this
    exact this.alloc _
  have b2 : Boxed2 (((w.alloc (.cells #[.bool a, .slice p n c] 109)).alloc (.cells #[.bool b, .slice q m d] 109)).alloc (.cells #[.bool false, .slice none 0 0] 109)) (w.heap.size + 1 + 1) (.bool false) (.slice none 0 0) 109 := by
    have := Boxed2.new ((w.alloc (.cells #[.bool a, .slice p n c] 109)).alloc (.cells #[.bool b, .slice q m d] 109)) (.bool false) (.slice none 0 0) 109
    rwa [World.size_alloc, World.size_alloc] at this
  have HX := Lib.hid hx
  have HY := Lib.hid hy
  have HLE := Lib.hid hle
  have HAB := Lib.hid hab
  have hsz0 : w.heap.size + 1 + 1 + 1 ≤ (((w.alloc (.cells #[.bool a, .slice p n c] 109)).alloc (.cells #[.bool b, .slice q m d] 109)).alloc (.cells #[.bool false, .slice none 0 0] 109)).heap.size := by simp
  have HSZ := Lib.hid (rsize_any p q n c m d xs ys (((w.alloc (.cells #[.bool a, .slice p n c] 109)).alloc (.cells #[.bool b, .slice q m d] 109)).alloc (.cells #[.bool false, .slice none 0 0] 109)) (by omega) (by omega) (hx.rd.below hb0) (hy.rd.below hb0) hx.cn.1 hy.cn.1)
  obtain ⟨sg, hsg⟩ : ∃ sg, sgnCmp (dv BR xs : Int) (dv BR ys : Int) = sg := ⟨_, rfl⟩
  have hs0 : sg < 0 := by
    rw [← hsg]; unfold sgnCmp
    split
    · omega
    · split <;> omega
  have HSG := Lib.hid hsg
  have hab1 : (a != b) = true := by cases a <;> cases b <;> simp_all
  have hab2 : (a == b) = false := by cases a <;> cases b <;> simp_all
  have k0 := b0.cell0
  have k1 := b0.cell1
  have k2 := b1.cell0
  have k3 := b1.cell1
  have f0 := b0.frozen (i := 0)
  have f1 := b0.frozen (i := 1)
  have f2 := b1.frozen (i := 0)
  have f3 := b1.frozen (i := 1)
  clear hx hy hle hab hsg
  go_enter Tryz.func125, Tryz.ntmps125
  go_wp2_with (go_at_call 122; refine HSZ.out.mono ?_; rintro e w' ⟨rfl, rfl⟩; rw [HSG.out])
  clear hb0 b0 b1 b2 k0 k1 k2 k3 f0 f1 f2 f3 hsz0 HSZ
  have hb0 : Below w.heap.size w (((w.alloc (.cells #[.bool b, .slice q m d] 109)).alloc (.cells #[.bool a, .slice p n c] 109)).alloc (.cells #[.bool false, .slice none 0 0] 109)) := (((Below.refl _ w).alloc (Nat.le_refl _) _).alloc (by simp) _).alloc (by rw [World.size_alloc, World.size_alloc]; omega) _
  have b0 : Boxed2 (((w.alloc (.cells #[.bool b, .slice q m d] 109)).alloc (.cells #[.bool a, .slice p n c] 109)).alloc (.cells #[.bool false, .slice none 0 0] 109)) w.heap.size (.bool b) (.slice q m d) 109 := ((Boxed2.new w _ _ _).alloc _).alloc _
  have b1 : Boxed2 (((w.alloc (.cells #[.bool b, .slice q m d] 109)).alloc (.cells #[.bool a, .slice p n c] 109)).alloc (.cells #[.bool false, .slice none 0 0] 109)) (w.heap.size + 1) (.bool a) (.slice p n c) 109 := by
    have := Boxed2.new (w.alloc (.cells #[.bool b, .slice q m d] 109)) (.bool a) (.slice p n c) 109
    rw [World.size_alloc] at this
    exact this.alloc _
  have b2 : Boxed2 (((w.alloc (.cells #[.bool b, .slice q m d] 109)).alloc (.cells #[.bool a, .slice p n c] 109)).alloc (.cells #[.bool false, .slice none 0 0] 109)) (w.heap.size + 1 + 1) (.bool false) (.slice none 0 0) 109 := by
    have := Boxed2.new ((w.alloc (.cells #[.bool b, .slice q m d] 109)).alloc (.cells #[.bool a, .slice p n c] 109)) (.bool false) (.slice none 0 0) 109
    rwa [World.size_alloc, World.size_alloc] at this
  have hsz0 : w.heap.size + 1 + 1 + 1 ≤ (((w.alloc (.cells #[.bool b, .slice q m d] 109)).alloc (.cells #[.bool a, .slice p n c] 109)).alloc (.cells #[.bool false, .slice none 0 0] 109)).heap.size := by simp
  generalize hw1 : (((w.alloc (.cells #[.bool b, .slice q m d] 109)).alloc (.cells #[.bool a, .slice p n c] 109)).alloc (.cells #[.bool false, .slice none 0 0] 109)) = w1 at *
  have HB0 := Lib.hid b0
  have HB1 := Lib.hid b1
  have HB2 := Lib.hid b2
  have HBW := Lib.hid hb0
  have hlen : n ≤ m := by
    rcases Nat.lt_or_ge m n with h | h
    · have h5 := Cn.lt_of_length (b := BR) (by decide) HY.out.cn.1 HX.out.cn (by rw [HY.out.rd.1, HX.out.rd.1]; exact h)
      have := HLE.out
      omega
    · exact h
  clear b0 b1 b2 hb0 hw1 hab1 hab2 hs0
  go_loopg [5, 6, 7] m (fun gk v5 v6 v7 wr => ∃ (i bw : Nat) (zs : List Nat), i ≤ m ∧ gk = m - i ∧ v7 = .int .i64 (i : Int) ∧ v6 = .int .i64 (bw : Int) ∧ bw ≤ 1 ∧ Hid (SubI ys xs zs i bw) ∧ GrI wr (w.heap.size + 1 + 1 + 1) v5 zs ∧ w.heap.size + 1 + 1 + 1 ≤ wr.heap.size ∧ Below (w.heap.size + 1 + 1 + 1) w1 wr)
  case atStart => exact ⟨0, 0, [], Nat.zero_le _, rfl, rfl, rfl, by omega, SubI.start _ _, GrI.nil _ _, hsz0, Below.refl _ _⟩
  case round =>
    obtain ⟨i, bw, zs, hi, hgk, rfl, rfl, hbw1, HA, hgr, hsz, hb⟩ := hrel
    have HGK := Lib.hid hgk
    clear hgk
    have b0 := HB0.out.below hb (by omega)
    have b1 := HB1.out.below hb (by omega)
    have b2 := HB2.out.below hb (by omega)
    have k0 := b0.cell0
    have k1 := b0.cell1
    have k2 := b1.cell0
    have k3 := b1.cell1
    have hrx : Rd .i64 wr q m ys := HY.out.rd.below (HBW.out.trans (hb.mono (by omega)))
    have hry : Rd .i64 wr p n xs := HX.out.rd.below (HBW.out.trans (hb.mono (by omega)))
    by_cases hlt : i < m
    · have hdx : ys[i]?.getD 0 < 10000 := HY.out.cn.1.get (by decide) i
      have hdy : xs[i]?.getD 0 < 10000 := HX.out.cn.1.get (by decide) i
      have HQ := Lib.hid (fun k => digit_same p n c i xs (wr.drewN k) (by omega) (hry.drewN k))
      obtain ⟨bb, off, rfl, hbb, hcell⟩ := hrx.2 i hlt
      have hst := fun (dd e : Nat) (h1 : dd + xs[i]?.getD 0 + bw = ys[i]?.getD 0 + 10000 * e) (h2 : dd < 10000) (h3 : e ≤ 1) => HA.out.step HX.out.cn.1 HY.out.cn.1 h1 h2 h3
      generalize ys[i]?.getD 0 = dx at hdx hst hcell
      generalize xs[i]?.getD 0 = dy at hdy HQ hst
      obtain ⟨xx, hxx⟩ : ∃ xx : Int, (dx : Int) - (dy : Int) - (bw : Int) = xx := ⟨_, rfl⟩
      obtain ⟨x0, hx0⟩ : ∃ x0 : Int, (dx : Int) - (dy : Int) = x0 := ⟨_, rfl⟩
      have hw1 : IntKind.i64.wrap ((dx : Int) - (dy : Int)) = x0 := by rw [IntWalk.i64_in _ (by omega)]; exact hx0
      have hw2 : IntKind.i64.wrap (x0 - (bw : Int)) = xx := by rw [← hx0, IntWalk.i64_in _ (by omega)]; exact hxx
      have hxb : -10000 ≤ xx ∧ xx < 10000 := by omega
      obtain ⟨hxb1, hxb2⟩ := hxb
      have HST := Lib.hid hst
      have HXX := Lib.hid hxx
      have hlz : zs.length ≤ 100000000 := by have := HA.out.2.1; omega
      clear hst hx0 hxx
      go_wp2_with fail
      go_quiet ((go_at_call 143; (with_reducible exact Calls.quiet_of_same (HQ.out _))))
      clear hw1 hw2
      by_cases hneg : xx < 0
      · obtain ⟨dd, hdd⟩ : ∃ dd : Nat, xx + 10000 = (dd : Int) := ⟨(xx + 10000).toNat, by omega⟩
        have HN := Lib.hid (HST.out dd 1 (by have := HXX.out; omega) (by omega) (by omega))
        go_wp2_with (at_builtin; refine pushI_law rfl _ _ rfl rfl hgr dd rfl (by omega) hsz ?_; intro v' w' hgr' hb')
        go_roundg (m - (i + 1))
        case measure => rw [HGK.out]; omega
        case rel => exact ⟨i + 1, 1, zs ++ [dd], by omega, rfl, by go_num, rfl, by omega, HN.out, hgr', Nat.le_trans hsz hb'.size, hb.trans ((drewN_below _ _ _).trans hb')⟩
      · obtain ⟨dd, rfl⟩ : ∃ dd : Nat, xx = (dd : Int) := ⟨xx.toNat, by omega⟩
        have HN := Lib.hid (HST.out dd 0 (by have := HXX.out; omega) (by omega) (by omega))
        go_wp2_with (at_builtin; refine pushI_law rfl _ _ rfl rfl hgr dd rfl (by omega) hsz ?_; intro v' w' hgr' hb')
        go_roundg (m - (i + 1))
        case measure => rw [HGK.out]; omega
        case rel => exact ⟨i + 1, 0, zs ++ [dd], by omega, rfl, by go_num, rfl, by omega, HN.out, hgr', Nat.le_trans hsz hb'.size, hb.trans ((drewN_below _ _ _).trans hb')⟩
    · obtain rfl : i = m := by omega
      have hv := HA.out.done (by rw [HY.out.rd.1]; exact Nat.le_refl _) (by rw [HX.out.rd.1]; exact hlen) (by have := HLE.out; omega)
      have HDG := Lib.hid HA.out.1
      have HLZ := Lib.hid HA.out.2.1
      have HV := Lib.hid hv
      have hl9 : zs.length ≤ 100000000 := by rw [HLZ.out]; omega
      clear hv
      obtain ⟨pz, cz, rfl, hcz2, hrd⟩ := hgr.rd
      have hbw := HBW.out.trans (hb.mono (by omega))
      go_wp2_with (go_at_call 101; refine (rnumber_any _ _ _ _ zs _ (by unfold maxLen; omega) hcz2 hrd HDG.out).mono ?_; rintro e w2 ⟨neg2, p2, n2, c2, xs2, rfl, hx2, hn2, hb2⟩; have b22 := b2.below hb2 b2.lt; have c20 := b22.cell0; have c21 := b22.cell1; have q20 := b22.frozen (i := 0); have q21 := b22.frozen (i := 1))
      have b3 := b22.set (.bool neg2) (.slice p2 n2 c2)
      have z0 := b3.cell0
      have z1 := b3.cell1
      refine bodyPost_ret (v := .agg #[.bool neg2, .slice p2 n2 c2]) (by simp [results, Tryz.results125, go_sem, z0, z1]) rfl ⟨neg2, p2, n2, c2, xs2, rfl, { rd := (hx2.rd.boxI b22 _).boxI (b22.set0 _) _, cap := hx2.cap, cn := hx2.cn, pos := hx2.pos, val := ?_ }, by have := HLZ.out; omega, ((hbw.trans (hb2.mono hbw.size)).setCell (by simp <;> omega) _).setCell (by simp <;> omega) _⟩
      rw [← hx2.val, HV.out, HX.out.val, HY.out.val]
      have hle := HLE.out
      have hab := HAB.out
      cases a <;> cases b <;> simp [sv] at hab ⊢ <;> omega

/-- x + y. -/
theorem radd_any (a b : Bool) (p q : Option Addr) (n c m d : Nat) (xs ys : List Nat) (x y : Int) (w : World) (hn : n ≤ 100000000) (hm : m ≤ 100000000) (hx : RIs w a p n c xs x) (hy : RIs w b q m d ys y) :
    Calls Tryz.prog 125 #[.agg #[.bool a, .slice p n c], .agg #[.bool b, .slice q m d]] w (RV w (x + y) (max n m + 1)) := by
  by_cases h : a = b
  · subst h; exact radd_same a p q n c m d xs ys x y w hn hm hx hy
  · by_cases hle : dv BR ys ≤ dv BR xs
    · exact radd_ge a b p q n c m d xs ys x y w hn hm hx hy h hle
    · exact radd_lt a b p q n c m d xs ys x y w hn hm hx hy h (by omega)

end Go.Proofs.YtimkeblcdodfmaaGreat
