/-
  The reference: an integer as an int64, if it is one.
-/
import Derived.Test.YtapfkinpdinbgaaDoorRefFrom
import Derived.Test.YtapfkinpdinbgaaDoorToInt
namespace Go.Proofs.YtapfkinpdinbgaaDoor
open Go.RowKit

theorem dv_drop (b : Nat) (xs : List Nat) (k : Nat) (h : k < xs.length) : dv b (xs.drop k) = xs[k]?.getD 0 + b * dv b (xs.drop (k + 1)) := by
  rw [List.drop_eq_getElem_cons h, dv_cons, List.getElem?_eq_getElem h]; rfl

def intV (z : Int) : Int := if inI64 z then z else 0

/-- What the two results are. -/
def IntOut (w : World) (z : Int) (e : Ending) (w' : World) : Prop := e = .returned (.tuple #[.int .i64 (intV z), .bool (inI64 z)]) ∧ Below w.heap.size w w'

theorem int_no {z : Int} (h : inI64 z = false) {w w' : World} {e : Ending} (he : e = .returned (.tuple #[.int .i64 0, .bool false])) (hb : Below w.heap.size w w') : IntOut w z e w' := by
  unfold IntOut intV; rw [h]; exact ⟨he, hb⟩
theorem int_yes {z : Int} (h : inI64 z = true) {w w' : World} {e : Ending} (he : e = .returned (.tuple #[.int .i64 z, .bool true])) (hb : Below w.heap.size w w') : IntOut w z e w' := by
  unfold IntOut intV; rw [h]; exact ⟨he, hb⟩

theorem int_big {neg : Bool} {xs : List Nat} {k : Nat} (hk : k < xs.length) (h : 922337203685477 < dv BR (xs.drop (k + 1))) : inI64 (sv neg (dv BR xs)) = false := by
  have h1 := dv_take_drop BR xs (k + 1) (by omega)
  have h2 : BR ^ 1 ≤ BR ^ (k + 1) := Nat.pow_le_pow_right (by decide) (by omega)
  have h3 : BR ^ 1 * dv BR (xs.drop (k + 1)) ≤ BR ^ (k + 1) * dv BR (xs.drop (k + 1)) := Nat.mul_le_mul_right _ h2
  rw [Nat.pow_one] at h3
  have h4 : 10000 * dv BR (xs.drop (k + 1)) ≤ BR ^ (k + 1) * dv BR (xs.drop (k + 1)) := h3
  unfold inI64
  rw [decide_eq_false_iff_not]
  cases neg <;> simp [sv] <;> omega

theorem hx_digit {w : World} {neg : Bool} {p : Option Addr} {n c : Nat} {xs : List Nat} {z : Int} (h : RIs w neg p n c xs z) (k : Nat) : xs[k]?.getD 0 < 10000 := h.cn.1.get (by decide) k

set_option maxRecDepth 100000 in
set_option maxHeartbeats 1000000 in
theorem rint_any (neg : Bool) (p : Option Addr) (n c : Nat) (xs : List Nat) (z : Int) (w : World) (hn : n ≤ 1000000000) (hx : RIs w neg p n c xs z) :
    Calls Tryd.prog 15 #[.agg #[.bool neg, .slice p n c]] w (IntOut w z) := by
  have hb0 : Below w.heap.size w (w.alloc (.cells #[.bool neg, .slice p n c] 29)) := (Below.refl _ w).alloc (Nat.le_refl _) _
  have b0 := Boxed2.new w (.bool neg) (.slice p n c) 29
  have c0 := b0.cell0
  have c1 := b0.cell1
  have hrd := hx.rd.below hb0
  have HL := Lib.hid hrd.1
  have HX := Lib.hid hx
  have HR := Lib.hid hrd
  have HB := Lib.hid hb0
  clear hx hrd
  generalize hw1 : w.alloc (.cells #[.bool neg, .slice p n c] 29) = w1 at *
  have HW1 := Lib.hid hw1
  clear hw1
  go_enter Tryd.func15, Tryd.ntmps15
  go_wp2_with fail
  rw [HW1.out]
  go_loop [4, 5] (fun v4 v5 => ∃ (k u : Nat), k ≤ n ∧ v5 = .int .i64 ((k : Int) - 1) ∧ v4 = .int .u64 (u : Int) ∧ (u : Int) ≤ 9223372036854779999 ∧ Hid (dv BR (xs.drop k) = u)) (fun _ v5 => (intOf v5 + 1).toNat)
  case atStart => exact ⟨n, 0, Nat.le_refl _, rfl, rfl, by omega, by show dv BR (xs.drop n) = 0; rw [List.drop_of_length_le (by rw [HL.out]; exact Nat.le_refl _)]; rfl⟩
  case round =>
    obtain ⟨k, u, hk, rfl, rfl, hu, HU⟩ := hrel
    cases k with
    | succ k =>
      have hkl : k < xs.length := by rw [HL.out]; omega
      by_cases hbig : 922337203685477 < u
      · have hno := int_big (neg := neg) hkl (by rw [HU.out]; exact hbig)
        rw [← HX.out.val] at hno
        have HN := Lib.hid hno
        have hbi : (922337203685477 : Int) < (u : Int) := by omega
        clear hno hbig
        go_wp2_with fail
        go_ret2
        exact int_no HN.out rfl HB.out
      · obtain ⟨b, off, hp, hb, hcell⟩ := HR.out.2 k (by omega)
        subst hp
        have hd := hx_digit HX.out k
        have hbi : ¬ (922337203685477 : Int) < (u : Int) := by omega
        have hdrop := dv_drop BR xs k hkl
        rw [HU.out] at hdrop
        generalize xs[k]?.getD 0 = d at hd hdrop hcell
        have HD := Lib.hid hdrop
        have h1 : ((k + 1 : Nat) : Int) - 1 = (k : Int) := by omega
        clear hdrop hbig
        go_wp2_with fail
        go_round
        case rel => exact ⟨k, u * 10000 + d, by omega, by go_num, by go_num, by omega, by show _ = _; rw [HD.out, Nat.mul_comm]; exact Nat.add_comm _ _⟩
        case measure => simp [intOf] <;> omega
    | zero =>
      have hv : z = sv neg u := by
        rw [HX.out.val]
        have := HU.out
        rw [List.drop_zero] at this
        rw [this]
      have HV := Lib.hid hv
      have hm1 : ((0 : Nat) : Int) - 1 = -1 := rfl
      have hpos : neg = true → 0 < u := fun h => by
        have h1 := HX.out.cn.pos (by decide) (fun e => by have := HX.out.pos h; have := HX.out.rd.1; rw [e] at this; simp at this; omega)
        have h2 := HU.out
        rw [List.drop_zero] at h2
        omega
      clear hv
      cases neg
      · clear hpos
        by_cases hlt : (u : Int) < 9223372036854775808
        · have hyes : inI64 z = true := by rw [HV.out]; unfold inI64; simp [sv]; omega
          have HY := Lib.hid hyes
          clear hyes hm1
          go_wp2_with fail
          go_ret2
          refine int_yes HY.out ?_ HB.out
          rw [HV.out]; rfl
        · have hno : inI64 z = false := by rw [HV.out]; unfold inI64; rw [decide_eq_false_iff_not]; simp [sv]; omega
          have HY := Lib.hid hno
          clear hno hm1
          go_wp2_with fail
          go_ret2
          exact int_no HY.out rfl HB.out
      · have hu0 := hpos rfl
        by_cases hle : (u : Int) ≤ 9223372036854775808
        · have hyes : inI64 z = true := by rw [HV.out]; unfold inI64; simp [sv]; omega
          have HY := Lib.hid hyes
          obtain ⟨hw1, _⟩ := wrap_neg u hu0 (by omega)
          have hw2 : wrap64 ((18446744073709551616 - u : Nat) : Int) = -(u : Int) := by unfold wrap64; omega
          have hX : ((18446744073709551616 - u : Nat) : Int) = 18446744073709551616 - (u : Int) := by omega
          generalize 18446744073709551616 - u = X at hw1 hw2 hX
          have HXX := Lib.hid hX
          clear hyes hm1 hpos hX
          go_wp2_with fail
          go_ret2
          refine int_yes HY.out ?_ HB.out
          rw [HV.out]; rfl
        · have hno : inI64 z = false := by rw [HV.out]; unfold inI64; rw [decide_eq_false_iff_not]; simp [sv]; omega
          have HY := Lib.hid hno
          clear hno hm1 hpos
          go_wp2_with fail
          go_ret2
          exact int_no HY.out rfl HB.out

end Go.Proofs.YtapfkinpdinbgaaDoor
