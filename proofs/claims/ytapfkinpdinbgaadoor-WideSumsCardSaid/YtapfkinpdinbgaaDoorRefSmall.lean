/-
  The reference: a digit, the order of digits, signs, opposites.
-/
import Derived.Test.YtapfkinpdinbgaaDoorRefText
namespace Go.Proofs.YtapfkinpdinbgaaDoor

/-- A sum, place by place. -/
def AddI (xs ys zs : List Nat) (i c : Nat) : Prop := Dg BR zs ∧ zs.length = i ∧ dv BR zs + BR ^ i * c = dv BR (xs.take i) + dv BR (ys.take i) ∧ c ≤ 1

theorem AddI.start (xs ys : List Nat) : AddI xs ys [] 0 0 := ⟨Dg.nil _, rfl, by simp [dv], Nat.zero_le _⟩

theorem AddI.step {xs ys zs : List Nat} {i c s : Nat} (hx : Dg BR xs) (hy : Dg BR ys) (h : AddI xs ys zs i c) (hs : c + xs[i]?.getD 0 + ys[i]?.getD 0 = s) : AddI xs ys (zs ++ [s % 10000]) (i + 1) (s / 10000) := by
  obtain ⟨h1, h2, h3, h4⟩ := h
  have ha : xs[i]?.getD 0 < 10000 := hx.get (by decide) i
  have hb : ys[i]?.getD 0 < 10000 := hy.get (by decide) i
  refine ⟨h1.append (Dg.cons (Nat.mod_lt _ (by decide)) (Dg.nil _)), by simp [h2], ?_, by omega⟩
  rw [dv_snoc, h2, dv_take_succ, dv_take_succ, Nat.pow_succ]
  have e1 : BR ^ i * (s % 10000) + BR ^ i * BR * (s / 10000) = BR ^ i * s := by
    rw [Nat.mul_assoc, ← Nat.mul_add]
    congr 1
    show s % 10000 + 10000 * (s / 10000) = s
    omega
  have e2 : BR ^ i * s = BR ^ i * c + BR ^ i * xs[i]?.getD 0 + BR ^ i * ys[i]?.getD 0 := by rw [← hs, Nat.mul_add, Nat.mul_add]
  omega

theorem AddI.zero {xs ys zs : List Nat} {i c s : Nat} (h : AddI xs ys zs i c) (hi : xs.length ≤ i) (hj : ys.length ≤ i) (hs : c + xs[i]?.getD 0 + ys[i]?.getD 0 = s) : s / 10000 = 0 := by
  have h4 := h.2.2.2
  rw [List.getElem?_eq_none hi, List.getElem?_eq_none hj] at hs
  simp at hs
  omega

theorem AddI.done {xs ys zs : List Nat} {i : Nat} (h : AddI xs ys zs i 0) (hi : xs.length ≤ i) (hj : ys.length ≤ i) : dv BR zs = dv BR xs + dv BR ys := by
  have h3 := h.2.2.1
  rw [List.take_of_length_le hi, List.take_of_length_le hj] at h3
  omega

/-- A difference, place by place. -/
def SubI (xs ys zs : List Nat) (i c : Nat) : Prop := Dg BR zs ∧ zs.length = i ∧ dv BR zs + dv BR (ys.take i) = dv BR (xs.take i) + BR ^ i * c ∧ c ≤ 1

theorem SubI.start (xs ys : List Nat) : SubI xs ys [] 0 0 := ⟨Dg.nil _, rfl, by simp [dv], Nat.zero_le _⟩

theorem SubI.step {xs ys zs : List Nat} {i c d e : Nat} (hy : Dg BR ys) (hx : Dg BR xs) (h : SubI xs ys zs i c) (hd : d + ys[i]?.getD 0 + c = xs[i]?.getD 0 + 10000 * e) (hd1 : d < 10000) (he : e ≤ 1) : SubI xs ys (zs ++ [d]) (i + 1) e := by
  obtain ⟨h1, h2, h3, h4⟩ := h
  refine ⟨h1.append (Dg.cons hd1 (Dg.nil _)), by simp [h2], ?_, he⟩
  rw [dv_snoc, h2, dv_take_succ, dv_take_succ, Nat.pow_succ]
  have e1 : BR ^ i * d + BR ^ i * ys[i]?.getD 0 + BR ^ i * c = BR ^ i * xs[i]?.getD 0 + BR ^ i * BR * e := by
    rw [← Nat.mul_add, ← Nat.mul_add, Nat.mul_assoc, ← Nat.mul_add]
    congr 1
  omega

theorem SubI.done {xs ys zs : List Nat} {i c : Nat} (h : SubI xs ys zs i c) (hi : xs.length ≤ i) (hj : ys.length ≤ i) (hle : dv BR ys ≤ dv BR xs) : dv BR zs = dv BR xs - dv BR ys := by
  obtain ⟨h1, h2, h3, h4⟩ := h
  rw [List.take_of_length_le hi, List.take_of_length_le hj] at h3
  have h5 := dv_lt h1
  rw [h2] at h5
  cases c with
  | zero => omega
  | succ c => have : c = 0 := by omega
              subst this; omega

/-- The order, from the highest place on. -/
theorem order_step {xs ys : List Nat} {i : Nat} (hx : Dg BR xs) (hy : Dg BR ys) (h : dv BR (xs.drop (i + 1)) = dv BR (ys.drop (i + 1))) (hlt : xs[i]?.getD 0 < ys[i]?.getD 0) : dv BR xs < dv BR ys := by
  have key : ∀ zs : List Nat, dv BR zs = dv BR (zs.take i) + BR ^ i * zs[i]?.getD 0 + BR ^ i * (BR * dv BR (zs.drop (i + 1))) := by
    intro zs
    rcases Nat.lt_or_ge i zs.length with h' | h'
    · have h1 := dv_take_drop BR zs i (by omega)
      rw [dv_drop BR zs i h', Nat.mul_add] at h1
      omega
    · rw [List.take_of_length_le h', List.getElem?_eq_none h', List.drop_of_length_le (by omega)]
      simp [dv]
  have k1 := key xs
  have k2 := key ys
  rw [h] at k1
  have h1 := dv_lt (hx.take i)
  have h2 : BR ^ (xs.take i).length ≤ BR ^ i := Nat.pow_le_pow_right (by decide) (List.length_take_le _ _)
  have h3 : BR ^ i * (xs[i]?.getD 0 + 1) ≤ BR ^ i * ys[i]?.getD 0 := Nat.mul_le_mul_left _ hlt
  rw [Nat.mul_add, Nat.mul_one] at h3
  omega

theorem order_same {xs ys : List Nat} {i : Nat} (h : dv BR (xs.drop (i + 1)) = dv BR (ys.drop (i + 1))) (he : xs[i]?.getD 0 = ys[i]?.getD 0) : dv BR (xs.drop i) = dv BR (ys.drop i) := by
  have key : ∀ zs : List Nat, dv BR (zs.drop i) = zs[i]?.getD 0 + BR * dv BR (zs.drop (i + 1)) := by
    intro zs
    rcases Nat.lt_or_ge i zs.length with h' | h'
    · exact dv_drop BR zs i h'
    · rw [List.drop_of_length_le h', List.getElem?_eq_none h', List.drop_of_length_le (by omega)]
      simp [dv]
  rw [key xs, key ys, h, he]

end Go.Proofs.YtapfkinpdinbgaaDoor

namespace Go.Proofs.YtapfkinpdinbgaaDoor
open Go.RowKit

set_option maxHeartbeats 400000 in
theorem digit_any (p : Option Addr) (n c i : Nat) (xs : List Nat) (w : World) (hn : n ≤ 1000000000) (hx : Rd .i64 w p n xs) :
    Calls Tryd.prog 56 #[.slice p n c, .int .i64 (i : Int)] w fun e w' => e = .returned (.int .i64 ((xs[i]?.getD 0 : Nat) : Int)) ∧ w = w' := by
  by_cases h : i < n
  · obtain ⟨b, off, rfl, hb, hcell⟩ := hx.2 i h
    have hi : (i : Int) < (n : Int) := by omega
    generalize xs[i]?.getD 0 = d at *
    go_enter Tryd.func56, Tryd.ntmps56
    go_wp2_with fail
    go_ret
    exact ⟨rfl, rfl⟩
  · have hi : ¬ (i : Int) < (n : Int) := by omega
    have hz : xs[i]?.getD 0 = 0 := by rw [List.getElem?_eq_none (by rw [hx.1]; omega)]; rfl
    rw [hz]
    clear hz
    go_enter Tryd.func56, Tryd.ntmps56
    go_wp2_with fail
    go_ret
    exact ⟨rfl, rfl⟩

set_option maxRecDepth 100000 in
set_option maxHeartbeats 1000000 in
theorem rsize_any (p q : Option Addr) (n c m d : Nat) (xs ys : List Nat) (w : World) (hn : n ≤ 1000000000) (hm : m ≤ 1000000000) (hx : Rd .i64 w p n xs) (hy : Rd .i64 w q m ys) (gx : Dg BR xs) (gy : Dg BR ys) :
    Calls Tryd.prog 55 #[.slice p n c, .slice q m d] w fun e w' => e = .returned (.int .i64 (sgnCmp (dv BR xs) (dv BR ys))) ∧ w = w' := by
  have hmax : max (n : Int) (m : Int) = ((max n m : Nat) : Int) := by omega
  have hN : max n m ≤ 1000000000 := by omega
  have hxl : xs.length ≤ max n m := by rw [hx.1]; omega
  have hyl : ys.length ≤ max n m := by rw [hy.1]; omega
  generalize max n m = N at hmax hN hxl hyl
  have HX := Lib.hid hx
  have HY := Lib.hid hy
  have HXL := Lib.hid hxl
  have HYL := Lib.hid hyl
  clear hx hy hxl hyl
  go_enter Tryd.func55, Tryd.ntmps55
  go_wp2_with fail
  clear hmax
  go_loop [5] (fun v5 => ∃ k : Nat, k ≤ N ∧ v5 = .int .i64 ((k : Int) - 1) ∧ Hid (dv BR (xs.drop k) = dv BR (ys.drop k))) (fun v5 => (Go.RowKit.intOf v5 + 1).toNat)
  case atStart => exact ⟨N, Nat.le_refl _, rfl, by show _ = _; rw [List.drop_of_length_le HXL.out, List.drop_of_length_le HYL.out]⟩
  case round =>
    obtain ⟨k, hk, rfl, HE⟩ := hrel
    cases k with
    | succ k =>
      have h1 : ((k + 1 : Nat) : Int) - 1 = (k : Int) := by omega
      rw [h1]
      have o1 := fun h => order_step (i := k) gx gy HE.out h
      have o2 := fun h => order_step (i := k) gy gx HE.out.symm h
      have o3 := fun h => order_same (i := k) HE.out h
      have HP := Lib.hid (digit_any p n c k xs w hn HX.out)
      have HQ := Lib.hid (digit_any q m d k ys w hm HY.out)
      generalize xs[k]?.getD 0 = a at o1 o2 o3 HP
      generalize ys[k]?.getD 0 = b at o1 o2 o3 HQ
      have O1 := Lib.hid o1
      have O2 := Lib.hid o2
      have O3 := Lib.hid o3
      clear o1 o2 o3 h1
      rcases Nat.lt_trichotomy a b with h | h | h
      · have hab : (a : Int) < (b : Int) := by omega
        have hs : sgnCmp (dv BR xs : Int) (dv BR ys : Int) = -1 := sgnCmp_lt (by have := O1.out h; omega)
        have HS := Lib.hid hs
        clear hs
        go_wp2_with fail
        refine HP.out.mono ?_
        rintro e w' ⟨rfl, rfl⟩
        go_wp2_with fail
        refine HQ.out.mono ?_
        rintro e w' ⟨rfl, rfl⟩
        go_wp2_with fail
        go_ret
        exact ⟨ret_int HS.out.symm, rfl⟩
      · have HO3 := Lib.hid (O3.out h)
        subst h
        clear O1 O2 O3
        have hab : ¬ (a : Int) < (a : Int) := by omega
        go_wp2_with fail
        refine HP.out.mono ?_
        rintro e w' ⟨rfl, rfl⟩
        go_wp2_with fail
        refine HQ.out.mono ?_
        rintro e w' ⟨rfl, rfl⟩
        go_wp2_with fail
        go_round
        case rel => exact ⟨k, by omega, by go_num, HO3.out⟩
        case measure => simp [Go.RowKit.intOf] <;> omega
      · have hab : ¬ (a : Int) < (b : Int) := by omega
        have hab2 : (b : Int) < (a : Int) := by omega
        have hs : sgnCmp (dv BR xs : Int) (dv BR ys : Int) = 1 := by have := O2.out h; unfold sgnCmp; rw [if_neg (by omega), if_neg (by omega)]
        have HS := Lib.hid hs
        clear hs
        go_wp2_with fail
        refine HP.out.mono ?_
        rintro e w' ⟨rfl, rfl⟩
        go_wp2_with fail
        refine HQ.out.mono ?_
        rintro e w' ⟨rfl, rfl⟩
        go_wp2_with fail
        go_ret
        exact ⟨ret_int HS.out.symm, rfl⟩
    | zero =>
      have he := HE.out
      rw [List.drop_zero, List.drop_zero] at he
      have hs : sgnCmp (dv BR xs : Int) (dv BR ys : Int) = 0 := by unfold sgnCmp; rw [he, if_neg (by omega), if_pos rfl]
      have HS := Lib.hid hs
      have hm1 : ((0 : Nat) : Int) - 1 = -1 := rfl
      clear hs he
      go_wp2_with fail
      go_ret
      exact ⟨ret_int HS.out.symm, rfl⟩

set_option maxHeartbeats 1000000 in
theorem rneg_any (neg : Bool) (p : Option Addr) (n c : Nat) (xs : List Nat) (z : Int) (w : World) (hn : n ≤ 1000000000) (hx : RIs w neg p n c xs z) :
    Calls Tryd.prog 40 #[.agg #[.bool neg, .slice p n c]] w (RV w (-z) n) := by
  have hb0 : Below w.heap.size w ((w.alloc (.cells #[.bool neg, .slice p n c] 29)).alloc (.cells #[.bool false, .slice none 0 0] 29)) := ((Below.refl _ w).alloc (Nat.le_refl _) _).alloc (by simp) _
  have b1 : Boxed2 ((w.alloc (.cells #[.bool neg, .slice p n c] 29)).alloc (.cells #[.bool false, .slice none 0 0] 29)) (w.heap.size + 1) (.bool false) (.slice none 0 0) 29 := by
    have := Boxed2.new (w.alloc (.cells #[.bool neg, .slice p n c] 29)) (.bool false) (.slice none 0 0) 29
    simpa using this
  have hx1 := hx.below hb0
  have HX := Lib.hid hx
  go_enter Tryd.func40, Tryd.ntmps40
  go_wp2_with (go_at_call 46; refine (rnumber_any _ _ _ _ xs _ (by unfold maxLen; omega) hx1.cap hx1.rd hx1.cn.1).mono ?_; rintro e w2 ⟨neg2, p2, n2, c2, xs2, rfl, hx2, hn2, hb2⟩; have b2 := b1.below hb2 b1.lt; have c20 := b2.cell0; have c21 := b2.cell1; have q20 := b2.frozen (i := 0); have q21 := b2.frozen (i := 1))
  have b3 := b2.set (.bool neg2) (.slice p2 n2 c2)
  have z0 := b3.cell0
  have z1 := b3.cell1
  refine bodyPost_ret (v := .agg #[.bool neg2, .slice p2 n2 c2]) (by simp [results, Tryd.results40, go_sem, z0, z1]) rfl ⟨neg2, p2, n2, c2, xs2, rfl, { rd := (hx2.rd.boxI b2 _).boxI (b2.set0 _) _, cap := hx2.cap, cn := hx2.cn, pos := hx2.pos, val := ?_ }, hn2, ((hb0.trans (hb2.mono hb0.size)).setCell (by simp) _).setCell (by simp) _⟩
  rw [← hx2.val, HX.out.val]
  cases neg <;> simp [sv]

def sgnZ (z : Int) : Int := if z < 0 then -1 else if 0 < z then 1 else 0

set_option maxHeartbeats 1000000 in
theorem rsign_any (neg : Bool) (p : Option Addr) (n c : Nat) (xs : List Nat) (z : Int) (w : World) (hn : n ≤ 1000000000) (hx : RIs w neg p n c xs z) :
    Calls Tryd.prog 57 #[.agg #[.bool neg, .slice p n c]] w fun e w' => e = .returned (.int .i64 (sgnZ z)) ∧ Below w.heap.size w w' := by
  have hb0 : Below w.heap.size w (w.alloc (.cells #[.bool neg, .slice p n c] 29)) := (Below.refl _ w).alloc (Nat.le_refl _) _
  have hp : 0 < n → 0 < dv BR xs := fun h => hx.cn.pos (by decide) (fun e => by have := hx.rd.1; rw [e] at this; simp at this; omega)
  have hz : ¬ 0 < n → dv BR xs = 0 := fun h => by
    have he : xs = [] := List.length_eq_zero_iff.1 (by rw [hx.rd.1]; omega)
    rw [he]; rfl
  have hv := hx.val
  have hpn := hx.pos
  cases neg
  · by_cases h : 0 < n
    · have hs : sgnZ z = 1 := by rw [hv]; have := hp h; unfold sgnZ sv; simp; omega
      rw [hs]
      clear hs hv hpn hz hp hx
      go_enter Tryd.func57, Tryd.ntmps57
      go_wp2_with fail
      go_ret
      exact ⟨rfl, hb0⟩
    · have hs : sgnZ z = 0 := by rw [hv, hz h]; rfl
      rw [hs]
      obtain rfl : n = 0 := by omega
      clear hs hv hpn hz hp hx
      go_enter Tryd.func57, Tryd.ntmps57
      go_wp2_with fail
      go_ret
      exact ⟨rfl, hb0⟩
  · have hs : sgnZ z = -1 := by rw [hv]; have := hp (hpn rfl); unfold sgnZ sv; simp; omega
    rw [hs]
    clear hs hv hpn hz hp hx
    go_enter Tryd.func57, Tryd.ntmps57
    go_wp2_with fail
    go_ret
    exact ⟨rfl, hb0⟩

end Go.Proofs.YtapfkinpdinbgaaDoor
