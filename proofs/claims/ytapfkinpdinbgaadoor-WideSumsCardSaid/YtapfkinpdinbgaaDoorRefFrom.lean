/-
  The reference: an int64 as an integer.
-/
import Derived.Test.YtapfkinpdinbgaaDoorGrow
namespace Go.Proofs.YtapfkinpdinbgaaDoor
open Go.RowKit

/-- What has been split off, and what is left. -/
def SplitI (U u : Nat) (ns : List Nat) : Prop := Dg BR ns ∧ dv BR ns + BR ^ ns.length * u = U

theorem SplitI.step {U u : Nat} {ns : List Nat} (h : SplitI U u ns) : SplitI U (u / 10000) (ns ++ [u % 10000]) := by
  refine ⟨h.1.append (Dg.cons (Nat.mod_lt _ (by decide)) (Dg.nil _)), ?_⟩
  rw [dv_snoc, List.length_append, List.length_singleton, Nat.pow_succ, ← h.2, Nat.add_assoc, Nat.mul_assoc, ← Nat.mul_add]
  congr 2
  have := Nat.div_add_mod u 10000
  show u % 10000 + 10000 * (u / 10000) = u
  omega

theorem SplitI.len {U u : Nat} {ns : List Nat} (h : SplitI U u ns) (hu : 0 < u) (hU : U < 18446744073709551616) : ns.length < 5 := by
  rcases Nat.lt_or_ge ns.length 5 with h5 | h5
  · exact h5
  · have h1 : BR ^ 5 ≤ BR ^ ns.length := Nat.pow_le_pow_right (by decide) h5
    have h2 : BR ^ ns.length * 1 ≤ BR ^ ns.length * u := Nat.mul_le_mul_left _ hu
    have h3 : BR ^ 5 = 100000000000000000000 := by decide
    have := h.2
    omega

theorem wrap_nat (U : Nat) (h : U < 18446744073709551616) : IntKind.u64.wrap (U : Int) = (U : Int) := by rw [IntKind.wrap_u64]; omega
theorem wrap_neg (U : Nat) (h0 : 0 < U) (h : U < 18446744073709551616) : IntKind.u64.wrap (-(U : Int)) = ((18446744073709551616 - U : Nat) : Int) ∧ IntKind.u64.wrap (-((18446744073709551616 - U : Nat) : Int)) = (U : Int) := by
  rw [IntKind.wrap_u64, IntKind.wrap_u64]; omega

set_option maxRecDepth 100000 in
set_option maxHeartbeats 1000000 in
theorem from_pos (U : Nat) (h1 : U ≤ 9223372036854775807) (w : World) :
    Calls Tryd.prog 20 #[.int .i64 (U : Int)] w (RV w (U : Int) 5) := by
  have hb0 : Below w.heap.size w (w.alloc (.cells #[.bool false, .slice none 0 0] 29)) := (Below.refl _ w).alloc (Nat.le_refl _) _
  have b0 := Boxed2.new w (.bool false) (.slice none 0 0) 29
  have hw := wrap_nat U (by omega)
  have hU : (U : Int) < 18446744073709551616 := by omega
  have hneg : ¬ ((U : Int) < 0) := by omega
  go_enter Tryd.func20, Tryd.ntmps20
  go_wp2_with fail
  have HU := Lib.hid hU
  clear hw hU h1
  go_loopw [3, 4] (fun v3 v4 wr => ∃ (u : Nat) (ns : List Nat), (u : Int) < 18446744073709551616 ∧ v3 = .int .u64 (u : Int) ∧ Hid (SplitI U u ns) ∧ Hid (ns.length ≤ 5) ∧ GrI wr (w.heap.size + 1) v4 ns ∧ w.heap.size + 1 ≤ wr.heap.size ∧ Below (w.heap.size + 1) (w.alloc (.cells #[.bool false, .slice none 0 0] 29)) wr) (fun v3 _ _ => (intOf v3).toNat)
  case atStart => exact ⟨U, [], HU.out, rfl, ⟨Dg.nil _, by simp [dv]⟩, by show 0 ≤ 5; omega, GrI.nil _ _, by simp, Below.refl _ _⟩
  case round =>
    obtain ⟨u, ns, hu, rfl, HS, HL5, hgr, hsz, hb⟩ := hrel
    by_cases h0 : 0 < u
    · have hlen := HS.out.len h0 (by have := HU.out; omega)
      have hm : u % 10000 < 10000 := Nat.mod_lt _ (by decide)
      have HSS := Lib.hid HS.out.step
      have hlt : u / 10000 < u := by omega
      have hdiv : (u : Int) / 10000 = ((u / 10000 : Nat) : Int) := by omega
      have hmod : (u : Int) % 10000 = ((u % 10000 : Nat) : Int) := by omega
      generalize u / 10000 = q at HSS hlt hdiv
      generalize u % 10000 = d at HSS hm hmod
      go_wp2_with (at_builtin; refine pushI_law rfl _ _ rfl rfl hgr d rfl (by omega) hsz ?_; intro v' w' hgr' hb')
      go_roundw
      case rel => exact ⟨q, ns ++ [d], by omega, rfl, HSS.out, (by show (ns ++ [d]).length ≤ 5; simp; omega), hgr', Nat.le_trans hsz hb'.size, hb.trans hb'⟩
      case measure => simp [intOf]; omega
    · obtain rfl : u = 0 := by omega
      obtain ⟨p, c, rfl, hc, hrd⟩ := hgr.rd
      have hbx := b0.below hb (by omega)
      have hbw := hb0.trans (hb.mono (by omega))
      have hv : dv BR ns = U := by have := HS.out.2; simpa using this
      have HV := Lib.hid hv
      have HDG := Lib.hid HS.out.1
      clear hv
      have hl5 := HL5.out
      go_wp2_with (go_at_call 46; refine (rnumber_any _ _ _ _ ns _ (by unfold maxLen; omega) hc hrd HDG.out).mono ?_; rintro e w2 ⟨neg2, p2, n2, c2, xs2, rfl, hx2, hn2, hb2⟩; have b2 := hbx.below hb2 hbx.lt; have c20 := b2.cell0; have c21 := b2.cell1; have q20 := b2.frozen (i := 0); have q21 := b2.frozen (i := 1))
      have b3 := b2.set (.bool neg2) (.slice p2 n2 c2)
      have z0 := b3.cell0
      have z1 := b3.cell1
      refine bodyPost_ret (v := .agg #[.bool neg2, .slice p2 n2 c2]) (by simp [results, Tryd.results20, go_sem, z0, z1]) rfl ⟨neg2, p2, n2, c2, xs2, rfl, { rd := (hx2.rd.boxI b2 _).boxI (b2.set0 _) _, cap := hx2.cap, cn := hx2.cn, pos := hx2.pos, val := ?_ }, by omega, ((hbw.trans (hb2.mono hbw.size)).setCell (by simp) _).setCell (by simp) _⟩
      rw [← hx2.val, HV.out]
      simp [sv] <;> omega

set_option maxRecDepth 100000 in
set_option maxHeartbeats 1000000 in
theorem from_neg (U : Nat) (h0 : 0 < U) (h1 : U ≤ 9223372036854775808) (w : World) :
    Calls Tryd.prog 20 #[.int .i64 (-(U : Int))] w (RV w (-(U : Int)) 5) := by
  have hb0 : Below w.heap.size w (w.alloc (.cells #[.bool false, .slice none 0 0] 29)) := (Below.refl _ w).alloc (Nat.le_refl _) _
  have b0 := Boxed2.new w (.bool false) (.slice none 0 0) 29
  obtain ⟨hw1, hw2⟩ := wrap_neg U h0 (by omega)
  have hU : (U : Int) < 18446744073709551616 := by omega
  generalize 18446744073709551616 - U = X at hw1 hw2
  have hneg : (-(U : Int)) < 0 := by omega
  go_enter Tryd.func20, Tryd.ntmps20
  go_wp2_with fail
  have HU := Lib.hid hU
  clear hw1 hw2 hU h1
  go_loopw [3, 4] (fun v3 v4 wr => ∃ (u : Nat) (ns : List Nat), (u : Int) < 18446744073709551616 ∧ v3 = .int .u64 (u : Int) ∧ Hid (SplitI U u ns) ∧ Hid (ns.length ≤ 5) ∧ GrI wr (w.heap.size + 1) v4 ns ∧ w.heap.size + 1 ≤ wr.heap.size ∧ Below (w.heap.size + 1) (w.alloc (.cells #[.bool false, .slice none 0 0] 29)) wr) (fun v3 _ _ => (intOf v3).toNat)
  case atStart => exact ⟨U, [], HU.out, rfl, ⟨Dg.nil _, by simp [dv]⟩, by show 0 ≤ 5; omega, GrI.nil _ _, by simp, Below.refl _ _⟩
  case round =>
    obtain ⟨u, ns, hu, rfl, HS, HL5, hgr, hsz, hb⟩ := hrel
    by_cases h0 : 0 < u
    · have hlen := HS.out.len h0 (by have := HU.out; omega)
      have hm : u % 10000 < 10000 := Nat.mod_lt _ (by decide)
      have HSS := Lib.hid HS.out.step
      have hlt : u / 10000 < u := by omega
      have hdiv : (u : Int) / 10000 = ((u / 10000 : Nat) : Int) := by omega
      have hmod : (u : Int) % 10000 = ((u % 10000 : Nat) : Int) := by omega
      generalize u / 10000 = q at HSS hlt hdiv
      generalize u % 10000 = d at HSS hm hmod
      go_wp2_with (at_builtin; refine pushI_law rfl _ _ rfl rfl hgr d rfl (by omega) hsz ?_; intro v' w' hgr' hb')
      go_roundw
      case rel => exact ⟨q, ns ++ [d], by omega, rfl, HSS.out, (by show (ns ++ [d]).length ≤ 5; simp; omega), hgr', Nat.le_trans hsz hb'.size, hb.trans hb'⟩
      case measure => simp [intOf]; omega
    · obtain rfl : u = 0 := by omega
      obtain ⟨p, c, rfl, hc, hrd⟩ := hgr.rd
      have hbx := b0.below hb (by omega)
      have hbw := hb0.trans (hb.mono (by omega))
      have hv : dv BR ns = U := by have := HS.out.2; simpa using this
      have HV := Lib.hid hv
      have HDG := Lib.hid HS.out.1
      clear hv
      have hl5 := HL5.out
      go_wp2_with (go_at_call 46; refine (rnumber_any _ _ _ _ ns _ (by unfold maxLen; omega) hc hrd HDG.out).mono ?_; rintro e w2 ⟨neg2, p2, n2, c2, xs2, rfl, hx2, hn2, hb2⟩; have b2 := hbx.below hb2 hbx.lt; have c20 := b2.cell0; have c21 := b2.cell1; have q20 := b2.frozen (i := 0); have q21 := b2.frozen (i := 1))
      have b3 := b2.set (.bool neg2) (.slice p2 n2 c2)
      have z0 := b3.cell0
      have z1 := b3.cell1
      refine bodyPost_ret (v := .agg #[.bool neg2, .slice p2 n2 c2]) (by simp [results, Tryd.results20, go_sem, z0, z1]) rfl ⟨neg2, p2, n2, c2, xs2, rfl, { rd := (hx2.rd.boxI b2 _).boxI (b2.set0 _) _, cap := hx2.cap, cn := hx2.cn, pos := hx2.pos, val := ?_ }, by omega, ((hbw.trans (hb2.mono hbw.size)).setCell (by simp) _).setCell (by simp) _⟩
      rw [← hx2.val, HV.out]
      simp [sv] <;> omega

theorem from_any (n : Int) (h0 : -9223372036854775808 ≤ n) (h1 : n ≤ 9223372036854775807) (w : World) :
    Calls Tryd.prog 20 #[.int .i64 n] w (RV w n 5) := by
  by_cases h : 0 ≤ n
  · obtain ⟨U, rfl⟩ : ∃ U : Nat, n = (U : Int) := ⟨n.toNat, by omega⟩
    exact from_pos U (by omega) w
  · obtain ⟨U, rfl⟩ : ∃ U : Nat, n = -(U : Int) := ⟨(-n).toNat, by omega⟩
    exact from_neg U (by omega) (by omega) w

end Go.Proofs.YtapfkinpdinbgaaDoor
