/-
  The reference: the string of an integer.
-/
import Derived.Test.YthdhakpmhndbfaaK1
import Derived.Test.YthdhakpmhndbfaaK2
import Derived.Test.YthdhakpmhndbfaaK9
namespace Go.Proofs.Ythdhakpmhndbfaa
open Go.RowKit

/-- What has been split off, and what is left. -/
def SplitI (U u : Nat) (ns : List Nat) : Prop := Dg BR ns ∧ dv BR ns + BR ^ ns.length * u = U

theorem SplitI.step {U u : Nat} {ns : List Nat} (h : SplitI U u ns) : SplitI U (u / 10000) (ns ++ [u % 10000]) := by
  refine ⟨h.1.append (Dg.cons (Nat.mod_lt _ (by decide)) (Dg.nil _)), ?_⟩
  rw [dv_snoc, List.length_append, List.length_singleton, Nat.pow_succ, ← h.2, Nat.add_assoc, Nat.mul_assoc, ← Nat.mul_add]
  congr 2
  have := Nat.div_add_mod u 10000
  show u % 10000 + 10000 * (u / 10000) = u
  omega

theorem SplitI.len {U u : Nat} {ns : List Nat} (h : SplitI U u ns) (hu : 0 < u) (hU : U < 18446744073709551616) : ns.length < 5 := by
  rcases Nat.lt_or_ge ns.length 5 with h5 | h5
  · exact h5
  · have h1 : BR ^ 5 ≤ BR ^ ns.length := Nat.pow_le_pow_right (by decide) h5
    have h2 : BR ^ ns.length * 1 ≤ BR ^ ns.length * u := Nat.mul_le_mul_left _ hu
    have h3 : BR ^ 5 = 100000000000000000000 := by decide
    have := h.2
    omega

theorem wrap_nat (U : Nat) (h : U < 18446744073709551616) : IntKind.u64.wrap (U : Int) = (U : Int) := by rw [IntKind.wrap_u64]; omega
theorem wrap_neg (U : Nat) (h0 : 0 < U) (h : U < 18446744073709551616) : IntKind.u64.wrap (-(U : Int)) = ((18446744073709551616 - U : Nat) : Int) ∧ IntKind.u64.wrap (-((18446744073709551616 - U : Nat) : Int)) = (U : Int) := by
  rw [IntKind.wrap_u64, IntKind.wrap_u64]; omega

set_option maxRecDepth 100000 in
set_option maxHeartbeats 1000000 in
theorem from_pos (U : Nat) (h1 : U ≤ 9223372036854775807) (w : World) :
    Calls Try.prog 49 #[.int .i64 (U : Int)] w (RV w (U : Int) 5) := by
  have hb0 : Below w.heap.size w (w.alloc (.cells #[.bool false, .slice none 0 0] 82)) := (Below.refl _ w).alloc (Nat.le_refl _) _
  have b0 := Boxed2.new w (.bool false) (.slice none 0 0) 82
  have hw := wrap_nat U (by omega)
  have hU : (U : Int) < 18446744073709551616 := by omega
  have hneg : ¬ ((U : Int) < 0) := by omega
  go_enter Try.func49, Try.ntmps49
  go_wp2_with fail
  have HU := Lib.hid hU
  clear hw hU h1
  go_loopw [3, 4] (fun v3 v4 wr => ∃ (u : Nat) (ns : List Nat), (u : Int) < 18446744073709551616 ∧ v3 = .int .u64 (u : Int) ∧ Hid (SplitI U u ns) ∧ Hid (ns.length ≤ 5) ∧ GrI wr (w.heap.size + 1) v4 ns ∧ w.heap.size + 1 ≤ wr.heap.size ∧ Below (w.heap.size + 1) (w.alloc (.cells #[.bool false, .slice none 0 0] 82)) wr) (fun v3 _ _ => (intOf v3).toNat)
  case atStart => exact ⟨U, [], HU.out, rfl, ⟨Dg.nil _, by simp [dv]⟩, by show 0 ≤ 5; omega, GrI.nil _ _, by simp, Below.refl _ _⟩
  case round =>
    obtain ⟨u, ns, hu, rfl, HS, HL5, hgr, hsz, hb⟩ := hrel
    by_cases h0 : 0 < u
    · have hlen := HS.out.len h0 (by have := HU.out; omega)
      have hm : u % 10000 < 10000 := Nat.mod_lt _ (by decide)
      have HSS := Lib.hid HS.out.step
      have hlt : u / 10000 < u := by omega
      have hdiv : (u : Int) / 10000 = ((u / 10000 : Nat) : Int) := by omega
      have hmod : (u : Int) % 10000 = ((u % 10000 : Nat) : Int) := by omega
      generalize u / 10000 = q at HSS hlt hdiv
      generalize u % 10000 = d at HSS hm hmod
      go_wp2_with (at_builtin; refine pushI_law rfl _ _ rfl rfl hgr d rfl (by omega) hsz ?_; intro v' w' hgr' hb')
      go_roundw
      case rel => exact ⟨q, ns ++ [d], by omega, rfl, HSS.out, (by show (ns ++ [d]).length ≤ 5; simp; omega), hgr', Nat.le_trans hsz hb'.size, hb.trans hb'⟩
      case measure => simp [intOf]; omega
    · obtain rfl : u = 0 := by omega
      obtain ⟨p, c, rfl, hc, hrd⟩ := hgr.rd
      have hbx := b0.below hb (by omega)
      have hbw := hb0.trans (hb.mono (by omega))
      have hv : dv BR ns = U := by have := HS.out.2; simpa using this
      have HV := Lib.hid hv
      have HDG := Lib.hid HS.out.1
      clear hv
      have hl5 := HL5.out
      go_wp2_with (go_at_call 75; refine (rnumber_any _ _ _ _ ns _ (by unfold maxLen; omega) hc hrd HDG.out).mono ?_; rintro e w2 ⟨neg2, p2, n2, c2, xs2, rfl, hx2, hn2, hb2⟩; have b2 := hbx.below hb2 hbx.lt; have c20 := b2.cell0; have c21 := b2.cell1; have q20 := b2.frozen (i := 0); have q21 := b2.frozen (i := 1))
      have b3 := b2.set (.bool neg2) (.slice p2 n2 c2)
      have z0 := b3.cell0
      have z1 := b3.cell1
      refine bodyPost_ret (v := .agg #[.bool neg2, .slice p2 n2 c2]) (by simp [results, Try.results49, go_sem, z0, z1]) rfl ⟨neg2, p2, n2, c2, xs2, rfl, { rd := (hx2.rd.boxI b2 _).boxI (b2.set0 _) _, cap := hx2.cap, cn := hx2.cn, pos := hx2.pos, val := ?_ }, by omega, ((hbw.trans (hb2.mono hbw.size)).setCell (by simp) _).setCell (by simp) _⟩
      rw [← hx2.val, HV.out]
      simp [sv] <;> omega

set_option maxRecDepth 100000 in
set_option maxHeartbeats 1000000 in
theorem from_neg (U : Nat) (h0 : 0 < U) (h1 : U ≤ 9223372036854775808) (w : World) :
    Calls Try.prog 49 #[.int .i64 (-(U : Int))] w (RV w (-(U : Int)) 5) := by
  have hb0 : Below w.heap.size w (w.alloc (.cells #[.bool false, .slice none 0 0] 82)) := (Below.refl _ w).alloc (Nat.le_refl _) _
  have b0 := Boxed2.new w (.bool false) (.slice none 0 0) 82
  obtain ⟨hw1, hw2⟩ := wrap_neg U h0 (by omega)
  have hU : (U : Int) < 18446744073709551616 := by omega
  generalize 18446744073709551616 - U = X at hw1 hw2
  have hneg : (-(U : Int)) < 0 := by omega
  go_enter Try.func49, Try.ntmps49
  go_wp2_with fail
  have HU := Lib.hid hU
  clear hw1 hw2 hU h1
  go_loopw [3, 4] (fun v3 v4 wr => ∃ (u : Nat) (ns : List Nat), (u : Int) < 18446744073709551616 ∧ v3 = .int .u64 (u : Int) ∧ Hid (SplitI U u ns) ∧ Hid (ns.length ≤ 5) ∧ GrI wr (w.heap.size + 1) v4 ns ∧ w.heap.size + 1 ≤ wr.heap.size ∧ Below (w.heap.size + 1) (w.alloc (.cells #[.bool false, .slice none 0 0] 82)) wr) (fun v3 _ _ => (intOf v3).toNat)
  case atStart => exact ⟨U, [], HU.out, rfl, ⟨Dg.nil _, by simp [dv]⟩, by show 0 ≤ 5; omega, GrI.nil _ _, by simp, Below.refl _ _⟩
  case round =>
    obtain ⟨u, ns, hu, rfl, HS, HL5, hgr, hsz, hb⟩ := hrel
    by_cases h0 : 0 < u
    · have hlen := HS.out.len h0 (by have := HU.out; omega)
      have hm : u % 10000 < 10000 := Nat.mod_lt _ (by decide)
      have HSS := Lib.hid HS.out.step
      have hlt : u / 10000 < u := by omega
      have hdiv : (u : Int) / 10000 = ((u / 10000 : Nat) : Int) := by omega
      have hmod : (u : Int) % 10000 = ((u % 10000 : Nat) : Int) := by omega
      generalize u / 10000 = q at HSS hlt hdiv
      generalize u % 10000 = d at HSS hm hmod
      go_wp2_with (at_builtin; refine pushI_law rfl _ _ rfl rfl hgr d rfl (by omega) hsz ?_; intro v' w' hgr' hb')
      go_roundw
      case rel => exact ⟨q, ns ++ [d], by omega, rfl, HSS.out, (by show (ns ++ [d]).length ≤ 5; simp; omega), hgr', Nat.le_trans hsz hb'.size, hb.trans hb'⟩
      case measure => simp [intOf]; omega
    · obtain rfl : u = 0 := by omega
      obtain ⟨p, c, rfl, hc, hrd⟩ := hgr.rd
      have hbx := b0.below hb (by omega)
      have hbw := hb0.trans (hb.mono (by omega))
      have hv : dv BR ns = U := by have := HS.out.2; simpa using this
      have HV := Lib.hid hv
      have HDG := Lib.hid HS.out.1
      clear hv
      have hl5 := HL5.out
      go_wp2_with (go_at_call 75; refine (rnumber_any _ _ _ _ ns _ (by unfold maxLen; omega) hc hrd HDG.out).mono ?_; rintro e w2 ⟨neg2, p2, n2, c2, xs2, rfl, hx2, hn2, hb2⟩; have b2 := hbx.below hb2 hbx.lt; have c20 := b2.cell0; have c21 := b2.cell1; have q20 := b2.frozen (i := 0); have q21 := b2.frozen (i := 1))
      have b3 := b2.set (.bool neg2) (.slice p2 n2 c2)
      have z0 := b3.cell0
      have z1 := b3.cell1
      refine bodyPost_ret (v := .agg #[.bool neg2, .slice p2 n2 c2]) (by simp [results, Try.results49, go_sem, z0, z1]) rfl ⟨neg2, p2, n2, c2, xs2, rfl, { rd := (hx2.rd.boxI b2 _).boxI (b2.set0 _) _, cap := hx2.cap, cn := hx2.cn, pos := hx2.pos, val := ?_ }, by omega, ((hbw.trans (hb2.mono hbw.size)).setCell (by simp) _).setCell (by simp) _⟩
      rw [← hx2.val, HV.out]
      simp [sv] <;> omega

theorem from_any (n : Int) (h0 : -9223372036854775808 ≤ n) (h1 : n ≤ 9223372036854775807) (w : World) :
    Calls Try.prog 49 #[.int .i64 n] w (RV w n 5) := by
  by_cases h : 0 ≤ n
  · obtain ⟨U, rfl⟩ : ∃ U : Nat, n = (U : Int) := ⟨n.toNat, by omega⟩
    exact from_pos U (by omega) w
  · obtain ⟨U, rfl⟩ : ∃ U : Nat, n = -(U : Int) := ⟨(-n).toNat, by omega⟩
    exact from_neg U (by omega) (by omega) w

end Go.Proofs.Ythdhakpmhndbfaa

namespace Go.Proofs.Ythdhakpmhndbfaa
open Go.RowKit

theorem dv_drop (b : Nat) (xs : List Nat) (k : Nat) (h : k < xs.length) : dv b (xs.drop k) = xs[k]?.getD 0 + b * dv b (xs.drop (k + 1)) := by
  rw [List.drop_eq_getElem_cons h, dv_cons, List.getElem?_eq_getElem h]; rfl

def intV (z : Int) : Int := if inI64 z then z else 0

/-- What the two results are. -/
def IntOut (w : World) (z : Int) (e : Ending) (w' : World) : Prop := e = .returned (.tuple #[.int .i64 (intV z), .bool (inI64 z)]) ∧ Below w.heap.size w w'

theorem int_no {z : Int} (h : inI64 z = false) {w w' : World} {e : Ending} (he : e = .returned (.tuple #[.int .i64 0, .bool false])) (hb : Below w.heap.size w w') : IntOut w z e w' := by
  unfold IntOut intV; rw [h]; exact ⟨he, hb⟩
theorem int_yes {z : Int} (h : inI64 z = true) {w w' : World} {e : Ending} (he : e = .returned (.tuple #[.int .i64 z, .bool true])) (hb : Below w.heap.size w w') : IntOut w z e w' := by
  unfold IntOut intV; rw [h]; exact ⟨he, hb⟩

theorem int_big {neg : Bool} {xs : List Nat} {k : Nat} (hk : k < xs.length) (h : 922337203685477 < dv BR (xs.drop (k + 1))) : inI64 (sv neg (dv BR xs)) = false := by
  have h1 := dv_take_drop BR xs (k + 1) (by omega)
  have h2 : BR ^ 1 ≤ BR ^ (k + 1) := Nat.pow_le_pow_right (by decide) (by omega)
  have h3 : BR ^ 1 * dv BR (xs.drop (k + 1)) ≤ BR ^ (k + 1) * dv BR (xs.drop (k + 1)) := Nat.mul_le_mul_right _ h2
  rw [Nat.pow_one] at h3
  have h4 : 10000 * dv BR (xs.drop (k + 1)) ≤ BR ^ (k + 1) * dv BR (xs.drop (k + 1)) := h3
  unfold inI64
  rw [decide_eq_false_iff_not]
  cases neg <;> simp [sv] <;> omega

theorem hx_digit {w : World} {neg : Bool} {p : Option Addr} {n c : Nat} {xs : List Nat} {z : Int} (h : RIs w neg p n c xs z) (k : Nat) : xs[k]?.getD 0 < 10000 := h.cn.1.get (by decide) k

set_option maxRecDepth 100000 in
set_option maxHeartbeats 1000000 in
theorem rint_any (neg : Bool) (p : Option Addr) (n c : Nat) (xs : List Nat) (z : Int) (w : World) (hn : n ≤ 1000000000) (hx : RIs w neg p n c xs z) :
    Calls Try.prog 74 #[.agg #[.bool neg, .slice p n c]] w (IntOut w z) := by
  have hb0 : Below w.heap.size w (w.alloc (.cells #[.bool neg, .slice p n c] 82)) := (Below.refl _ w).alloc (Nat.le_refl _) _
  have b0 := Boxed2.new w (.bool neg) (.slice p n c) 82
  have c0 := b0.cell0
  have c1 := b0.cell1
  have hrd := hx.rd.below hb0
  have HL := Lib.hid hrd.1
  have HX := Lib.hid hx
  have HR := Lib.hid hrd
  have HB := Lib.hid hb0
  clear hx hrd
  generalize hw1 : w.alloc (.cells #[.bool neg, .slice p n c] 82) = w1 at *
  have HW1 := Lib.hid hw1
  clear hw1
  go_enter Try.func74, Try.ntmps74
  go_wp2_with fail
  rw [HW1.out]
  go_loop [4, 5] (fun v4 v5 => ∃ (k u : Nat), k ≤ n ∧ v5 = .int .i64 ((k : Int) - 1) ∧ v4 = .int .u64 (u : Int) ∧ (u : Int) ≤ 9223372036854779999 ∧ Hid (dv BR (xs.drop k) = u)) (fun _ v5 => (intOf v5 + 1).toNat)
  case atStart => exact ⟨n, 0, Nat.le_refl _, rfl, rfl, by omega, by show dv BR (xs.drop n) = 0; rw [List.drop_of_length_le (by rw [HL.out]; exact Nat.le_refl _)]; rfl⟩
  case round =>
    obtain ⟨k, u, hk, rfl, rfl, hu, HU⟩ := hrel
    cases k with
    | succ k =>
      have hkl : k < xs.length := by rw [HL.out]; omega
      by_cases hbig : 922337203685477 < u
      · have hno := int_big (neg := neg) hkl (by rw [HU.out]; exact hbig)
        rw [← HX.out.val] at hno
        have HN := Lib.hid hno
        have hbi : (922337203685477 : Int) < (u : Int) := by omega
        clear hno hbig
        go_wp2_with fail
        go_ret2
        exact int_no HN.out rfl HB.out
      · obtain ⟨b, off, hp, hb, hcell⟩ := HR.out.2 k (by omega)
        subst hp
        have hd := hx_digit HX.out k
        have hbi : ¬ (922337203685477 : Int) < (u : Int) := by omega
        have hdrop := dv_drop BR xs k hkl
        rw [HU.out] at hdrop
        generalize xs[k]?.getD 0 = d at hd hdrop hcell
        have HD := Lib.hid hdrop
        have h1 : ((k + 1 : Nat) : Int) - 1 = (k : Int) := by omega
        clear hdrop hbig
        go_wp2_with fail
        go_round
        case rel => exact ⟨k, u * 10000 + d, by omega, by go_num, by go_num, by omega, by show _ = _; rw [HD.out, Nat.mul_comm]; exact Nat.add_comm _ _⟩
        case measure => simp [intOf] <;> omega
    | zero =>
      have hv : z = sv neg u := by
        rw [HX.out.val]
        have := HU.out
        rw [List.drop_zero] at this
        rw [this]
      have HV := Lib.hid hv
      have hm1 : ((0 : Nat) : Int) - 1 = -1 := rfl
      have hpos : neg = true → 0 < u := fun h => by
        have h1 := HX.out.cn.pos (by decide) (fun e => by have := HX.out.pos h; have := HX.out.rd.1; rw [e] at this; simp at this; omega)
        have h2 := HU.out
        rw [List.drop_zero] at h2
        omega
      clear hv
      cases neg
      · clear hpos
        by_cases hlt : (u : Int) < 9223372036854775808
        · have hyes : inI64 z = true := by rw [HV.out]; unfold inI64; simp [sv]; omega
          have HY := Lib.hid hyes
          clear hyes hm1
          go_wp2_with fail
          go_ret2
          refine int_yes HY.out ?_ HB.out
          rw [HV.out]; rfl
        · have hno : inI64 z = false := by rw [HV.out]; unfold inI64; rw [decide_eq_false_iff_not]; simp [sv]; omega
          have HY := Lib.hid hno
          clear hno hm1
          go_wp2_with fail
          go_ret2
          exact int_no HY.out rfl HB.out
      · have hu0 := hpos rfl
        by_cases hle : (u : Int) ≤ 9223372036854775808
        · have hyes : inI64 z = true := by rw [HV.out]; unfold inI64; simp [sv]; omega
          have HY := Lib.hid hyes
          obtain ⟨hw1, _⟩ := wrap_neg u hu0 (by omega)
          have hw2 : wrap64 ((18446744073709551616 - u : Nat) : Int) = -(u : Int) := by unfold wrap64; omega
          have hX : ((18446744073709551616 - u : Nat) : Int) = 18446744073709551616 - (u : Int) := by omega
          generalize 18446744073709551616 - u = X at hw1 hw2 hX
          have HXX := Lib.hid hX
          clear hyes hm1 hpos hX
          go_wp2_with fail
          go_ret2
          refine int_yes HY.out ?_ HB.out
          rw [HV.out]; rfl
        · have hno : inI64 z = false := by rw [HV.out]; unfold inI64; rw [decide_eq_false_iff_not]; simp [sv]; omega
          have HY := Lib.hid hno
          clear hno hm1 hpos
          go_wp2_with fail
          go_ret2
          exact int_no HY.out rfl HB.out

end Go.Proofs.Ythdhakpmhndbfaa

namespace Go.Proofs.Ythdhakpmhndbfaa
open Go.RowKit Go.Lib

/-- The places of one digit to the base 10000. -/
def PwI (V x p v : Nat) : Prop := (p = 1000 ∧ v = V) ∨ (p = 100 ∧ v = V * 10 + x / 1000) ∨ (p = 10 ∧ v = V * 100 + x / 100) ∨ (p = 1 ∧ v = V * 1000 + x / 10) ∨ (p = 0 ∧ v = V * 10000 + x)

theorem PwI.step {V x p v : Nat} (hx : x < 10000) (h : PwI V x p v) (h0 : 0 < p) : PwI V x (p / 10) (v * 10 + x / p % 10) := by
  unfold PwI at *
  rcases h with ⟨rfl, rfl⟩ | ⟨rfl, rfl⟩ | ⟨rfl, rfl⟩ | ⟨rfl, rfl⟩ | ⟨rfl, rfl⟩ <;> omega

theorem PwI.done {V x v : Nat} (h : PwI V x 0 v) : v = x + BR * V := by
  unfold PwI at h
  show v = x + 10000 * V
  omega

theorem GrB.form {w : World} {base : Nat} {v : Value} {l : List UInt8} (h : GrB w base v l) : ∃ p c, v = .slice p l.length c := by
  obtain ⟨p, c, e, _⟩ := own_form h
  exact ⟨p, c, e⟩

end Go.Proofs.Ythdhakpmhndbfaa
