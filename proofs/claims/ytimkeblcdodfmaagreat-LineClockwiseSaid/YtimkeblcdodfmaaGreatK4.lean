/-
  Package sums: quotients; Package sums: divisors.
-/
import Derived.Test.YtimkeblcdodfmaaGreatK1
import Derived.Test.YtimkeblcdodfmaaGreatK2
import Derived.Test.YtimkeblcdodfmaaGreatK3
namespace Go.Proofs.YtimkeblcdodfmaaGreat
open Go.RowKit Go.Shelf
attribute [local go_sem] sumV Oper.semAt_some

theorem bw4 (w : World) (o1 o2 o3 o4 : Obj) : Below w.heap.size w ((((w.alloc o1).alloc o2).alloc o3).alloc o4) :=
  ((((Below.refl _ w).alloc (Nat.le_refl _) _).alloc (by simp) _).alloc (by rw [World.size_alloc, World.size_alloc]; omega) _).alloc (by rw [World.size_alloc, World.size_alloc, World.size_alloc]; omega) _
theorem bw3 (w : World) (o1 o2 o3 : Obj) : Below w.heap.size w (((w.alloc o1).alloc o2).alloc o3) :=
  (((Below.refl _ w).alloc (Nat.le_refl _) _).alloc (by simp) _).alloc (by rw [World.size_alloc, World.size_alloc]; omega) _
theorem bw2 (w : World) (o1 o2 : Obj) : Below w.heap.size w ((w.alloc o1).alloc o2) :=
  ((Below.refl _ w).alloc (Nat.le_refl _) _).alloc (by simp) _

theorem quo_low {ah al b : Nat} (hb : 0 < b) :
    (ah * 18446744073709551616 + al) / b = ah / b * 18446744073709551616 + (ah % b * 18446744073709551616 + al) / b ∧ (ah * 18446744073709551616 + al) % b = (ah % b * 18446744073709551616 + al) % b := by
  have h := two_digits (B := 18446744073709551616) (T := 0) (d := ah) (e := al) hb
  rw [Nat.zero_mul, Nat.zero_add] at h
  exact ⟨h.1.symm, h.2.symm⟩

set_option maxRecDepth 100000 in
set_option maxHeartbeats 4000000 in
theorem quotient_low (ah al b : Nat) (hah : ah < 18446744073709551616) (hal : al < 18446744073709551616) (hb : 0 < b) (hb1 : b < 18446744073709551616) (w : World) :
    Calls Tryz.prog 129 #[.agg #[.int .u64 (ah : Int), .int .u64 (al : Int)], .agg #[.int .u64 0, .int .u64 (b : Int)]] w fun e w' => e = .returned (.tuple #[sumV (((ah * 18446744073709551616 + al) / b : Nat) : Int), sumV (((ah * 18446744073709551616 + al) % b : Nat) : Int)]) ∧ Below w.heap.size w w' := by
  obtain ⟨w1, hw1⟩ : ∃ w1, ((((w.alloc (.cells #[.int .u64 (ah : Int), .int .u64 (al : Int)] 90)).alloc (.cells #[.int .u64 0, .int .u64 (b : Int)] 90)).alloc (.cells #[.int .u64 0, .int .u64 0] 90)).alloc (.cells #[.int .u64 0, .int .u64 0] 90)) = w1 := ⟨_, rfl⟩
  have hb1' : Below w.heap.size w w1 := by rw [← hw1]; exact bw4 w _ _ _ _
  have k0 : Blk w1 w.heap.size #[.int .u64 (ah : Int), .int .u64 (al : Int)] 90 := by rw [← hw1]; exact (((Blk.new w _ _).alloc _).alloc _).alloc _
  have k1 : Blk w1 (w.heap.size + 1) #[.int .u64 0, .int .u64 (b : Int)] 90 := by rw [← hw1]; exact ((Blk.new' _ _ _ (by simp)).alloc _).alloc _
  have k2 : Blk w1 (w.heap.size + 1 + 1) #[.int .u64 0, .int .u64 0] 90 := by rw [← hw1]; exact (Blk.new' _ _ _ (by simp)).alloc _
  have k3 : Blk w1 (w.heap.size + 1 + 1 + 1) #[.int .u64 0, .int .u64 0] 90 := by rw [← hw1]; exact Blk.new' _ _ _ (by simp)
  have c0 := k0.cell (i := 0) rfl
  have c1 := k0.cell (i := 1) rfl
  have c2 := k1.cell (i := 0) rfl
  have c3 := k1.cell (i := 1) rfl
  have c4 := k2.cell (i := 0) rfl
  have c5 := k2.cell (i := 1) rfl
  have c6 := k3.cell (i := 0) rfl
  have c7 := k3.cell (i := 1) rfl
  have q0 := k2.frozen 0
  have q1 := k2.frozen 1
  have q2 := k3.frozen 0
  have q3 := k3.frozen 1
  have hne : ¬ (b : Int) = 0 := by omega
  have hm : (ah : Int) % (b : Int) = ((ah % b : Nat) : Int) := by simp
  have hd : (ah : Int) / (b : Int) = ((ah / b : Nat) : Int) := by simp
  have hml := Nat.mod_lt ah hb
  have hql := quo_low (ah := ah) (al := al) hb
  have hlo : (ah % b * 18446744073709551616 + al) / b < 18446744073709551616 := by
    rw [Nat.div_lt_iff_lt_mul hb]
    have : (ah % b + 1) * 18446744073709551616 ≤ b * 18446744073709551616 := Nat.mul_le_mul_right _ hml
    omega
  have hrl : (ah % b * 18446744073709551616 + al) % b < 18446744073709551616 := Nat.lt_trans (Nat.mod_lt _ hb) hb1
  have hqh : ah / b < 18446744073709551616 := Nat.lt_of_le_of_lt (Nat.div_le_self _ _) hah
  have eq1 : sumV (((ah * 18446744073709551616 + al) / b : Nat) : Int) = .agg #[.int .u64 ((ah / b : Nat) : Int), .int .u64 (((ah % b * 18446744073709551616 + al) / b : Nat) : Int)] := by
    exact sum_words hql.1 hlo hqh
  have eq2 : sumV (((ah * 18446744073709551616 + al) % b : Nat) : Int) = .agg #[.int .u64 ((0 : Nat) : Int), .int .u64 (((ah % b * 18446744073709551616 + al) % b : Nat) : Int)] := by
    exact sum_words (by rw [hql.2]; omega) hrl (by decide)
  rw [eq1, eq2]
  have hc := fun W => div64_any (ah % b) al b hml hal hb1 W
  have hwa := wrapS (ah / b) hqh
  clear eq1 eq2 hql hlo hrl hqh
  obtain ⟨qd, hqd⟩ : ∃ qd, qd = (ah % b * 18446744073709551616 + al) / b := ⟨_, rfl⟩
  obtain ⟨rd, hrd⟩ : ∃ rd, rd = (ah % b * 18446744073709551616 + al) % b := ⟨_, rfl⟩
  obtain ⟨am, ham⟩ : ∃ am, am = ah % b := ⟨_, rfl⟩
  obtain ⟨ad, had⟩ : ∃ ad, ad = ah / b := ⟨_, rfl⟩
  rw [← hqd, ← hrd, ← had]
  rw [← had] at hd hwa
  have HWA := Lib.hid hwa
  clear hwa
  rw [← ham] at hm hml
  have HC0 : ∀ W, Calls Tryz.prog 147 #[.int .u64 (am : Int), .int .u64 (al : Int), .int .u64 (b : Int)] W fun e w' => e = .returned (.tuple #[.int .u64 (qd : Int), .int .u64 (rd : Int)]) ∧ ∃ k, w' = W.drewN k := by
    intro W
    rw [ham, hqd, hrd]
    exact hc W
  have HC := Lib.hid HC0
  clear HC0
  clear hc hqd hrd ham had
  go_enter Tryz.func129, Tryz.ntmps129
  go_upto_region 2 with fail
  go_quiet (exact Calls.quiet_of (HC.out _))
  go_wp2_with fail
  rw [HWA.out]
  have K2 : Blk (w1.drewN nq) (w.heap.size + 1 + 1) #[.int .u64 0, .int .u64 0] 90 := k2
  have K3 : Blk (w1.drewN nq) (w.heap.size + 1 + 1 + 1) #[.int .u64 0, .int .u64 0] 90 := k3
  have L2 := (((K2.set_eq 0 (.int .u64 (ad : Int)) rfl).set_eq 1 (.int .u64 (qd : Int)) rfl).other (C := w.heap.size + 1 + 1 + 1) 0 (.int .u64 0) (by omega)).other (C := w.heap.size + 1 + 1 + 1) 1 (.int .u64 (rd : Int)) (by omega)
  have L3 := (((K3.other (C := w.heap.size + 1 + 1) 0 (.int .u64 (ad : Int)) (by omega)).other (C := w.heap.size + 1 + 1) 1 (.int .u64 (qd : Int)) (by omega)).set_eq 0 (.int .u64 0) rfl).set_eq 1 (.int .u64 (rd : Int)) rfl
  have z0 := L2.cell (i := 0) rfl
  have z1 := L2.cell (i := 1) rfl
  have z2 := L3.cell (i := 0) rfl
  have z3 := L3.cell (i := 1) rfl
  have hb2 : Below w.heap.size w (w1.drewN nq) := below_drewN hb1' _
  exact bodyPost_ret (v := .tuple #[.agg #[.int .u64 (ad : Int), .int .u64 (qd : Int)], .agg #[.int .u64 0, .int .u64 (rd : Int)]]) (by simp [results, Tryz.results129, go_sem, z0, z1, z2, z3]) rfl ⟨rfl, (((hb2.setCell (by simp only; omega) _).setCell (by simp only; omega) _).setCell (by simp only; omega) _).setCell (by simp only; omega) _⟩

theorem word_lt {b bh bl : Nat} (hb : b = bh * 18446744073709551616 + bl) (hbl : bl < 18446744073709551616) : b < (bh + 1) * 18446744073709551616 := by omega
theorem top_lt {b bh bl n s : Nat} (hb : b = bh * 18446744073709551616 + bl) (hbl : bl < 18446744073709551616) (b4 : bh < 2 ^ n) (hns : n + s = 64) : b * 2 ^ s / 18446744073709551616 < 18446744073709551616 := by
  rw [Nat.div_lt_iff_lt_mul (by decide)]
  have e2 := word_lt hb hbl
  have e3 : (bh + 1) * 2 ^ s ≤ 2 ^ n * 2 ^ s := Nat.mul_le_mul_right _ b4
  rw [show (2 : Nat) ^ n * 2 ^ s = 18446744073709551616 by rw [← Nat.pow_add, hns]] at e3
  calc b * 2 ^ s < (bh + 1) * 18446744073709551616 * 2 ^ s := Nat.mul_lt_mul_of_pos_right e2 (Nat.two_pow_pos s)
    _ = (bh + 1) * 2 ^ s * 18446744073709551616 := by rw [Nat.mul_right_comm]
    _ ≤ 18446744073709551616 * 18446744073709551616 := Nat.mul_le_mul_right _ e3

set_option maxRecDepth 100000 in
set_option maxHeartbeats 8000000 in
/-- The divisor has two words. -/
theorem quotient_high (A b ah al bh bl n s m : Nat) (hA : A = ah * 18446744073709551616 + al) (hb : b = bh * 18446744073709551616 + bl) (hah : ah < 9223372036854775808) (hal : al < 18446744073709551616) (hbh : bh < 9223372036854775808) (hbl : bl < 18446744073709551616) (h0 : 0 < bh) (hn : Lib.bitLen bh = n) (hns : n + s = 64) (hsm : s + m = 63) (w : World) :
    Calls Tryz.prog 129 #[.agg #[.int .u64 (ah : Int), .int .u64 (al : Int)], .agg #[.int .u64 (bh : Int), .int .u64 (bl : Int)]] w fun e w' => e = .returned (.tuple #[sumV ((A / b : Nat) : Int), sumV ((A % b : Nat) : Int)]) ∧ Below w.heap.size w w' := by
  have hAv : sumV (A : Int) = .agg #[.int .u64 (ah : Int), .int .u64 (al : Int)] := sum_words hA hal (by omega)
  have hbv : sumV (b : Int) = .agg #[.int .u64 (bh : Int), .int .u64 (bl : Int)] := sum_words hb hbl (by omega)
  obtain ⟨w1, hw1⟩ : ∃ w1, ((((w.alloc (.cells #[.int .u64 (ah : Int), .int .u64 (al : Int)] 90)).alloc (.cells #[.int .u64 (bh : Int), .int .u64 (bl : Int)] 90)).alloc (.cells #[.int .u64 0, .int .u64 0] 90)).alloc (.cells #[.int .u64 0, .int .u64 0] 90)) = w1 := ⟨_, rfl⟩
  have hb1 : Below w.heap.size w w1 := by rw [← hw1]; exact bw4 w _ _ _ _
  have k0 : Blk w1 w.heap.size #[.int .u64 (ah : Int), .int .u64 (al : Int)] 90 := by rw [← hw1]; exact (((Blk.new w _ _).alloc _).alloc _).alloc _
  have k1 : Blk w1 (w.heap.size + 1) #[.int .u64 (bh : Int), .int .u64 (bl : Int)] 90 := by rw [← hw1]; exact ((Blk.new' _ _ _ (by simp)).alloc _).alloc _
  have k2 : Blk w1 (w.heap.size + 1 + 1) #[.int .u64 0, .int .u64 0] 90 := by rw [← hw1]; exact (Blk.new' _ _ _ (by simp)).alloc _
  have k3 : Blk w1 (w.heap.size + 1 + 1 + 1) #[.int .u64 0, .int .u64 0] 90 := by rw [← hw1]; exact Blk.new' _ _ _ (by simp)
  have c0 := k0.cell (i := 0) rfl
  have c1 := k0.cell (i := 1) rfl
  have c2 := k1.cell (i := 0) rfl
  have c3 := k1.cell (i := 1) rfl
  obtain ⟨b1, b2, b3, b4⟩ := bitLen_bounds (y := bh) h0 (by omega)
  rw [hn] at b1 b2 b3 b4
  have hs1 : 1 ≤ s := by
    rcases Nat.eq_zero_or_pos s with e | e
    · exfalso
      have : n = 64 := by omega
      rw [this] at b3
      have : (2 : Nat) ^ (64 - 1) = 9223372036854775808 := by decide
      omega
    · exact e
  obtain ⟨y0, y1⟩ := norm_bits b3 b4 b1 b2
  rw [show 64 - n = s by omega] at y0 y1
  have f1 := shl_words (hi := bh) (lo := bl) (s := s) hbl (by omega)
  rw [show 64 - s = n by omega] at f1
  have f3 : bh * 2 ^ s ||| bl / 2 ^ n = bh * 2 ^ s + bl / 2 ^ n := shl_or f1.2
  have hlp : bl / 2 ^ n < 18446744073709551616 := Nat.lt_of_le_of_lt (Nat.div_le_self _ _) hbl
  obtain ⟨H, hH⟩ : ∃ H, H = bh * 2 ^ s := ⟨_, rfl⟩
  obtain ⟨L, hL⟩ : ∃ L, L = bl / 2 ^ n := ⟨_, rfl⟩
  obtain ⟨Z, hZ⟩ : ∃ Z, Z = bl * 2 ^ s % 18446744073709551616 := ⟨_, rfl⟩
  have hZM : Z < 18446744073709551616 := by rw [hZ]; exact Nat.mod_lt _ (by decide)
  rw [← hH] at y0 y1
  rw [← hH, ← hL, ← hZ] at f1
  rw [← hH, ← hL] at f3
  rw [← hL] at hlp
  have E1 : (64 : Int) - (n : Int) = (s : Int) := by omega
  have E1b : (64 : Int) - (s : Int) = (n : Int) := by omega
  have E1c : (63 : Int) - (s : Int) = (m : Int) := by omega
  have m1 : min s 64 = s := by omega
  have m2 : min n 64 = n := by omega
  have m3 : min m 64 = m := by omega
  have E3 : IntKind.u64.wrap ((bh : Int) * 2 ^ s) = (H : Int) := by
    have := wrapS (bh * 2 ^ s) (hH ▸ y1); rw [hH]; simpa using this
  have E5 : (bl : Int) / 2 ^ n = (L : Int) := by rw [hL]; simp
  have hf : (b * 2 ^ s) / 18446744073709551616 = H + L := by
    rw [hb, ← f1.1, Nat.mul_comm (H + L), Nat.mul_add_div (by decide), Nat.div_eq_of_lt hZM, Nat.add_zero]
  obtain ⟨F, hF⟩ : ∃ F, F = H + L := ⟨_, rfl⟩
  have hfM : F < 18446744073709551616 := by
    rw [hF, ← hf]
    exact top_lt hb hbl b4 hns
  have hf0 : 9223372036854775808 ≤ F := by omega
  have E6 : bits .or .u64 (H : Int) (L : Int) = (F : Int) := by rw [u64_or_nat _ _ y1 hlp, f3, hF]
  have E7 : IntKind.u64.wrap ((ah : Int) * 9223372036854775808) = ((ah % 2 * 9223372036854775808 : Nat) : Int) := by rw [IntKind.wrap_u64]; omega
  have E8 : bits .or .u64 ((ah % 2 * 9223372036854775808 : Nat) : Int) ((al / 2 : Nat) : Int) = ((ah % 2 * 9223372036854775808 + al / 2 : Nat) : Int) := by
    rw [u64_or_nat _ _ (by omega) (by omega)]
    have := shl_or (x := ah % 2) (z := al / 2) (s := 63) (show al / 2 < 2 ^ 63 by omega)
    rw [show (2 : Nat) ^ 63 = 9223372036854775808 by decide] at this
    rw [this]
  have E9 : (ah : Int) / 2 = ((ah / 2 : Nat) : Int) := by omega
  have E10 : (al : Int) / 2 = ((al / 2 : Nat) : Int) := by omega
  have hA2 : ah / 2 * 18446744073709551616 + (ah % 2 * 9223372036854775808 + al / 2) = A / 2 := by omega
  obtain ⟨u, hu⟩ : ∃ u, u = ah / 2 := ⟨_, rfl⟩
  obtain ⟨v, hv⟩ : ∃ v, v = al / 2 := ⟨_, rfl⟩
  obtain ⟨x, hx⟩ : ∃ x, x = ah % 2 * 9223372036854775808 := ⟨_, rfl⟩
  obtain ⟨y, hy⟩ : ∃ y, y = x + v := ⟨_, rfl⟩
  rw [← hx] at E7 E8 hA2
  rw [← hv] at E8 hA2 E10
  rw [← hu] at E9 hA2
  rw [← hy] at E8 hA2
  have hyM : y < 18446744073709551616 := by omega
  have huF : u < F := by omega
  have hD := fun W => div64_any u y F huF hyM hfM W
  rw [hA2] at hD
  obtain ⟨q, hq, hq1, hq2, hq3⟩ := quo_est (a := A) (b := b) (f := F) (s := s) hs1 (by omega) (by rw [hF]; exact hf.symm) hf0 (by omega) (by omega)
  rw [show 63 - s = m by omega] at hq
  obtain ⟨e, he⟩ : ∃ e, e = A / 2 / F := ⟨_, rfl⟩
  rw [← he] at hD hq
  have E11 : (e : Int) / 2 ^ m = (q : Int) := by rw [← hq]; simp
  have hcase := quo_take (show 0 < b by omega) hq1 hq2
  obtain ⟨K, hK⟩ : ∃ K, K = q - 1 := ⟨_, rfl⟩
  have hKb : K * b ≤ A ∧ ((A - K * b < b ∧ A / b = K ∧ A % b = A - K * b) ∨ (b ≤ A - K * b ∧ A / b = K + 1 ∧ A % b = A - K * b - b)) := by
    rcases hcase with ⟨e0, e1, e2, e3⟩ | ⟨k, e0, e1, e2⟩
    · have eK : K = 0 := by omega
      rw [eK, Nat.zero_mul]
      exact ⟨Nat.zero_le _, Or.inl ⟨by omega, e1, by omega⟩⟩
    · have eK : K = k := by omega
      rw [eK]
      exact ⟨e1, e2.imp (fun h => h) (fun h => ⟨h.1, h.2.1, h.2.2.1⟩)⟩
  have hK63 : K < 9223372036854775808 := by omega
  have hK1 : A / b < 9223372036854775808 := by
    rw [Nat.div_lt_iff_lt_mul (by omega)]; omega
  have hqz : 0 < q → ((q - 1 : Nat) : Int) = (K : Int) := fun _ => by rw [hK]
  have hq0z : q = 0 → K = 0 := fun e => by rw [hK, e]
  have HD := Lib.hid hD
  have HA := Lib.hid (And.intro hA hb)
  have HK := Lib.hid hKb
  have hqM : q < 9223372036854775809 := hq3
  clear hD hq1 hq2 hq hf hA2 f1 f3 y0 y1 b3 b4 hyM huF hfM hf0 hlp hZM hH hL hZ hF hu hv hx hy he hA hb hcase hKb hK hq3
  have hkw := wdec q
  have hsA : 0 ≤ (A : Int) - (b : Int) * (K : Int) ∧ (A : Int) - (b : Int) * (K : Int) < 170141183460469231731687303715884105728 := by
    have := HK.out.1
    have := HA.out.1
    have e : (b : Int) * (K : Int) = ((K * b : Nat) : Int) := by rw [Nat.mul_comm]; simp
    rw [e]
    omega
  have HT0 : ∀ W, Calls Tryz.prog 89 #[.agg #[.int .u64 (bh : Int), .int .u64 (bl : Int)], .int .i64 (K : Int)] W fun e w' => e = .returned (.agg #[.int .u64 (hiW ((b : Int) * (K : Int))), .int .u64 (loW ((b : Int) * (K : Int)))]) ∧ Below W.heap.size W w' := fun W => by rw [← hbv]; exact times_any _ _ W (by omega) (by omega)
  have HM0 : ∀ W, Calls Tryz.prog 88 #[.agg #[.int .u64 (ah : Int), .int .u64 (al : Int)], .agg #[.int .u64 (hiW ((b : Int) * (K : Int))), .int .u64 (loW ((b : Int) * (K : Int)))]] W fun e w' => e = .returned (.agg #[.int .u64 (hiW ((A : Int) - (b : Int) * (K : Int))), .int .u64 (loW ((A : Int) - (b : Int) * (K : Int)))]) ∧ Below W.heap.size W w' := fun W => by rw [← hAv]; exact minus_any _ _ W
  obtain ⟨R, hR⟩ : ∃ R, R = (A : Int) - (b : Int) * (K : Int) := ⟨_, rfl⟩
  rw [← hR] at HM0 hsA
  have HL0 : ∀ W, Calls Tryz.prog 88 #[.agg #[.int .u64 (hiW R), .int .u64 (loW R)], .agg #[.int .u64 (bh : Int), .int .u64 (bl : Int)]] W fun e w' => e = .returned (.agg #[.int .u64 (hiW (R - b)), .int .u64 (loW (R - b))]) ∧ Below W.heap.size W w' := fun W => by rw [← hbv]; exact minus_any _ _ W
  have hlb : In127 (R - b) := by have := HA.out.2; unfold In127 at *; omega
  have HS0 : ∀ W, Calls Tryz.prog 57 #[.agg #[.int .u64 (hiW (R - b)), .int .u64 (loW (R - b))]] W fun e w' => e = .returned (.int .i64 (sgnI (R - b))) ∧ Below W.heap.size W w' := fun W => sign_any _ W hlb
  have HO0 : ∀ W, Calls Tryz.prog 80 #[.int .i64 (K : Int)] W fun e w' => e = .returned (.agg #[.int .u64 (hiW (K : Int)), .int .u64 (loW (K : Int))]) ∧ Below W.heap.size W w' := fun W => of_any _ W (by omega) (by omega)
  have HT := Lib.hid HT0
  have HM := Lib.hid HM0
  have HL := Lib.hid HL0
  have HS := Lib.hid HS0
  have HO := Lib.hid HO0
  have HR := Lib.hid hR
  clear HT0 HM0 HL0 HS0 HO0 hR hlb hsA
  generalize hiW ((b : Int) * (K : Int)) = TH at *
  generalize loW ((b : Int) * (K : Int)) = TL at *
  generalize hRH : hiW R = RH at *
  generalize hRL : loW R = RL at *
  generalize hLH : hiW (R - b) = LH at *
  generalize hLL : loW (R - b) = LL at *
  generalize hKH : hiW (K : Int) = KH at *
  generalize hKL : loW (K : Int) = KL at *
  have HV := Lib.hid (And.intro hRH (And.intro hRL (And.intro hLH (And.intro hLL (And.intro hKH hKL)))))
  clear hRH hRL hLH hLL hKH hKL
  go_enter Tryz.func129, Tryz.ntmps129
  go_upto_region 5 with (go_at_call 148; refine (Tryz.bits_LeadingZeros64 (bh : Int) _ (by omega) (by omega)).mono ?_; rintro e' w2 ⟨rfl, hw2⟩; rw [hw2, show (bh : Int).toNat = bh from rfl, hn])
  go_quiet (fail)
  go_upto_if 71 with (go_at_call 147; refine (HD.out _).mono ?_; rintro e' w2 ⟨rfl, kk, hw2⟩; rw [hw2])
  clear E1 E1b E1c m1 m2 m3 E3 E5 E6 E7 E8 E9 E10 E11
  go_cut [10] from 72 (fun v10 wx => v10 = .int .u64 (K : Int) ∧ Below w1.heap.size w1 wx)
  case first =>
    rcases Nat.eq_zero_or_pos q with e0 | e0
    · have eK := hq0z e0
      subst e0 eK
      go_wp2_with fail
      go_meet
      case rel => exact ⟨rfl, below_drewN (Below.refl _ _) _⟩
    · have hqi : (0 : Int) < (q : Int) := by omega
      have hkw' := hkw e0 (by omega)
      rw [hqz e0] at hkw'
      clear hkw hqz hq0z
      go_wp2_with fail
      go_meet
      case rel => exact ⟨rfl, below_drewN (Below.refl _ _) _⟩
  case rest =>
  obtain ⟨rfl, hbc⟩ := hcut
  clear hkw hqz hq0z HD
  go_upto_region 10 with fail
  go_cut [] from 74 (fun wx => Blk wx w.heap.size #[.int .u64 (ah : Int), .int .u64 (al : Int)] 90 ∧ Blk wx (w.heap.size + 1) #[.int .u64 (bh : Int), .int .u64 (bl : Int)] 90 ∧ Blk wx (w.heap.size + 1 + 1) #[.int .u64 0, .int .u64 0] 90 ∧ Blk wx (w.heap.size + 1 + 1 + 1) #[.int .u64 RH, .int .u64 RL] 90 ∧ Below w.heap.size w wx)
  case first =>
    have k0 := k0.kept hbc
    have k1 := k1.kept hbc
    have k2 := k2.kept hbc
    have k3 := k3.kept hbc
    have hb1 := hb1.trans (hbc.mono hb1.size)
    refine wp_region_pure 6 (fun i => match i with | 0 => .agg #[.int .u64 (ah : Int), .int .u64 (al : Int)] | 1 => .agg #[.int .u64 (bh : Int), .int .u64 (bl : Int)] | 2 => .int .u64 (K : Int) | 3 => .int .i64 (K : Int) | 4 => .agg #[.int .u64 TH, .int .u64 TL] | _ => .agg #[.int .u64 RH, .int .u64 RL]) (by kernel_rfl) (by kernel_rfl) (by kernel_rfl) ?_ ?_ ?_
    · decide
    · rintro i hi f ww hS hd
      have f0 := (k0.kept hS).cell (i := 0) rfl
      have f1 := (k0.kept hS).cell (i := 1) rfl
      have f2 := (k1.kept hS).cell (i := 0) rfl
      have f3 := (k1.kept hS).cell (i := 1) rfl
      rcases i with _ | _ | _ | _ | _ | _ | i
      · refine wpOp_list rfl ?_
        simp only [tmOf, putAll, List.map_cons, List.map_nil, List.setIfInBounds_toArray, List.set_cons_zero, List.set_cons_succ]
        go_wp2
        simp [upd, Below.refl]
      · refine wpOp_list rfl ?_
        simp only [tmOf, putAll, List.map_cons, List.map_nil, List.setIfInBounds_toArray, List.set_cons_zero, List.set_cons_succ]
        go_wp2
        simp [upd, Below.refl]
      · refine wpOp_list rfl ?_
        simp only [tmOf, putAll, List.map_cons, List.map_nil, List.setIfInBounds_toArray, List.set_cons_zero, List.set_cons_succ]
        go_wp2
        simp [upd, Below.refl]
      · have g2 : f 2 = .int .u64 (K : Int) := hd 2 (by kernel_rfl)
        refine wpOp_list rfl ?_
        simp only [tmOf, putAll, List.map_cons, List.map_nil, List.setIfInBounds_toArray, List.set_cons_zero, List.set_cons_succ]
        go_wp2
        simp [upd, g2, Below.refl]
      · have g1 : f 1 = .agg #[.int .u64 (bh : Int), .int .u64 (bl : Int)] := hd 1 (by kernel_rfl)
        have g3 : f 3 = .int .i64 (K : Int) := hd 3 (by kernel_rfl)
        refine wpOp_list rfl ?_
        simp only [tmOf, putAll, List.map_cons, List.map_nil, List.setIfInBounds_toArray, List.set_cons_zero, List.set_cons_succ]
        go_wp2_with fail
        refine (HT.out _).mono ?_
        rintro e' wf ⟨rfl, hbf⟩
        go_wp2_with fail
        simp [upd, g1, g3, hbf]
      · have g0 : f 0 = .agg #[.int .u64 (ah : Int), .int .u64 (al : Int)] := hd 0 (by kernel_rfl)
        have g4 : f 4 = .agg #[.int .u64 TH, .int .u64 TL] := hd 4 (by kernel_rfl)
        refine wpOp_list rfl ?_
        simp only [tmOf, putAll, List.map_cons, List.map_nil, List.setIfInBounds_toArray, List.set_cons_zero, List.set_cons_succ]
        go_wp2_with fail
        refine (HM.out _).mono ?_
        rintro e' wf ⟨rfl, hbf⟩
        go_wp2_with fail
        simp [upd, g0, g4, hbf]
      · omega
    · rintro f ww hS hd
      have K0 := k0.kept hS
      have K1 := k1.kept hS
      have K2 := k2.kept hS
      have K3 := k3.kept hS
      have e0 := K3.cell (i := 0) rfl
      have e1 := K3.cell (i := 1) rfl
      have e2 := K3.frozen 0
      have e3 := K3.frozen 1
      have g5 : f 5 = .agg #[.int .u64 RH, .int .u64 RL] := hd 5 (by decide)
      simp only [seqW, tmOf, putAll, List.map_cons, List.map_nil, List.setIfInBounds_toArray, List.set_cons_zero, List.set_cons_succ, List.length_cons, List.length_nil]
      refine wpOp_list rfl ?_
      go_wp2
      have L0 := (K0.other (C := w.heap.size + 1 + 1 + 1) 0 (.int .u64 RH) (by omega)).other (C := w.heap.size + 1 + 1 + 1) 1 (.int .u64 RL) (by omega)
      have L1 := (K1.other (C := w.heap.size + 1 + 1 + 1) 0 (.int .u64 RH) (by omega)).other (C := w.heap.size + 1 + 1 + 1) 1 (.int .u64 RL) (by omega)
      have L2 := (K2.other (C := w.heap.size + 1 + 1 + 1) 0 (.int .u64 RH) (by omega)).other (C := w.heap.size + 1 + 1 + 1) 1 (.int .u64 RL) (by omega)
      have L3 := (K3.set_eq 0 (.int .u64 RH) rfl).set_eq 1 (.int .u64 RL) rfl
      have hbX := ((hb1.trans (hS.mono hb1.size)).setCell (p := ⟨w.heap.size + 1 + 1 + 1, 0, none⟩) (by simp only; omega) (.int .u64 RH)).setCell (p := ⟨w.heap.size + 1 + 1 + 1, 1, none⟩) (by simp only; omega) (.int .u64 RL)
      go_meet
      case rel => exact ⟨L0, L1, L2, L3, hbX⟩
  case rest =>
  clear hbc k0 k1 k2 k3 hb1 hw1 c0 c1 c2 c3
  obtain ⟨k0, k1, k2, k3, hb1⟩ := hcut
  have c0 := k3.cell (i := 0) rfl
  have c1 := k3.cell (i := 1) rfl
  have c2 := k1.cell (i := 0) rfl
  have c3 := k1.cell (i := 1) rfl
  go_wp2_with fail
  refine (HL.out _).mono ?_
  rintro e' w2 ⟨rfl, hb2⟩
  have k1 := k1.kept hb2
  have k2 := k2.kept hb2
  have k3 := k3.kept hb2
  have hnl := k3.lt
  have hb2' := hb1.trans (hb2.mono hb1.size)
  clear k0 c0 c1 c2 c3
  obtain ⟨w3, hw3⟩ : ∃ w3, w2.alloc (.cells #[.int .u64 LH, .int .u64 LL] 90) = w3 := ⟨_, rfl⟩
  have kl : Blk w3 w2.heap.size #[.int .u64 LH, .int .u64 LL] 90 := by rw [← hw3]; exact Blk.new _ _ _
  have k2 := k2.alloc (.cells #[.int .u64 LH, .int .u64 LL] 90)
  have k3 := k3.alloc (.cells #[.int .u64 LH, .int .u64 LL] 90)
  rw [hw3] at k2 k3
  have hb3 : Below w.heap.size w w3 := by rw [← hw3]; exact hb2'.alloc hb2'.size _
  have c0 := kl.cell (i := 0) rfl
  have c1 := kl.cell (i := 1) rfl
  go_wp2_with fail
  refine (HS.out _).mono ?_
  rintro e' w4 ⟨rfl, hb4⟩
  have kl := kl.kept hb4
  have k2 := k2.kept hb4
  have k3 := k3.kept hb4
  have hb4' := hb3.trans (hb4.mono hb3.size)
  clear c0 c1
  have hRe : R = (A : Int) - ((K * b : Nat) : Int) := by rw [HR.out, Nat.mul_comm K b]; simp
  rcases HK.out.2 with ⟨hlt, e1, e2⟩ | ⟨hge, e1, e2⟩
  · have hsg : sgnI (R - b) = -1 := sgnI_neg (by have := HK.out.1; omega)
    have hr : (((A - K * b : Nat)) : Int) = R := by rw [hRe]; have := HK.out.1; omega
    have hfin1 : sumV ((A / b : Nat) : Int) = .agg #[.int .u64 KH, .int .u64 KL] := by rw [e1, ← HV.out.2.2.2.2.1, ← HV.out.2.2.2.2.2]; rfl
    have hfin2 : sumV ((A % b : Nat) : Int) = .agg #[.int .u64 RH, .int .u64 RL] := by rw [e2, hr, ← HV.out.1, ← HV.out.2.1]; rfl
    have HF := Lib.hid (And.intro hfin1 hfin2)
    clear hfin1 hfin2 e1 e2 hlt hr hRe
    rw [hsg]
    have c0 := k3.cell (i := 0) rfl
    have c1 := k3.cell (i := 1) rfl
    clear hsg
    go_upto_region 14 with fail
    go_cut [] from 91 (fun wx => Blk wx (w.heap.size + 1 + 1) #[.int .u64 KH, .int .u64 KL] 90 ∧ Blk wx (w.heap.size + 1 + 1 + 1) #[.int .u64 RH, .int .u64 RL] 90 ∧ Below w.heap.size w wx)
    case first =>
      refine wp_region_keep 4 (fun i => match i with | 0 => .int .u64 (K : Int) | 1 => .int .i64 (K : Int) | 2 => .agg #[.int .u64 KH, .int .u64 KL] | _ => .agg #[.int .u64 RH, .int .u64 RL]) (fun i => (w.heap.size + 1 + 1 + (i - 4), if i = 4 then #[.int .u64 KH, .int .u64 KL] else #[.int .u64 RH, .int .u64 RL])) 90 (fun ww => Blk ww (w.heap.size + 1 + 1 + 1) #[.int .u64 RH, .int .u64 RL] 90 ∧ (∃ x y : Int, Blk ww (w.heap.size + 1 + 1) #[.int .u64 x, .int .u64 y] 90) ∧ Below w.heap.size w ww) (by kernel_rfl) (by kernel_rfl) ?_ ?_ ?_ ?_ ?_ ?_
      · exact ⟨k3, ⟨0, 0, k2⟩, hb4'.drew⟩
      · rintro w5 w6 ⟨kr, ⟨x, y, kx⟩, hbw⟩ hb6
        exact ⟨kr.kept hb6, ⟨x, y, kx.kept hb6⟩, hbw.trans (hb6.mono hbw.size)⟩
      · intro i j hi hj hne
        simp only
        omega
      · rintro i hi hin f ww ⟨ky, ⟨x, y, kx⟩, hbw⟩ hd
        have f0 := ky.cell (i := 0) rfl
        have f1 := ky.cell (i := 1) rfl
        rcases i with _ | _ | _ | _ | i
        · refine wpOp_list rfl ?_
          simp only [tmOf, putAll, List.map_cons, List.map_nil, List.setIfInBounds_toArray, List.set_cons_zero, List.set_cons_succ]
          go_wp2
          simp [upd, Below.refl]
        · have g0 : f 0 = .int .u64 (K : Int) := hd 0 (by decide) (by kernel_rfl)
          refine wpOp_list rfl ?_
          simp only [tmOf, putAll, List.map_cons, List.map_nil, List.setIfInBounds_toArray, List.set_cons_zero, List.set_cons_succ]
          go_wp2
          simp [upd, g0, Below.refl]
        · have g1 : f 1 = .int .i64 (K : Int) := hd 1 (by decide) (by kernel_rfl)
          refine wpOp_list rfl ?_
          simp only [tmOf, putAll, List.map_cons, List.map_nil, List.setIfInBounds_toArray, List.set_cons_zero, List.set_cons_succ]
          go_wp2_with fail
          refine (HO.out _).mono ?_
          rintro e' wf ⟨rfl, hbf⟩
          go_wp2_with fail
          simp [upd, g1, hbf]
        · refine wpOp_list rfl ?_
          simp only [tmOf, putAll, List.map_cons, List.map_nil, List.setIfInBounds_toArray, List.set_cons_zero, List.set_cons_succ]
          go_wp2
          simp [upd, Below.refl]
        · omega
      · rintro i hi hin f ww ⟨ky, ⟨x, y, kx⟩, hbw⟩ hd
        have e4 := kx.cell (i := 0) rfl
        have e5 := kx.cell (i := 1) rfl
        have e6 := kx.frozen 0
        have e7 := kx.frozen 1
        have e0 := ky.cell (i := 0) rfl
        have e1 := ky.cell (i := 1) rfl
        have e2 := ky.frozen 0
        have e3 := ky.frozen 1
        have hi2 : i = 4 ∨ i = 5 := by simp only [List.length_cons, List.length_nil] at hi; omega
        rcases hi2 with rfl | rfl
        · have g2 : f 2 = .agg #[.int .u64 KH, .int .u64 KL] := hd 2 (by decide) (by kernel_rfl)
          refine wpOp_list rfl ?_
          simp only [tmOf, putAll, List.map_cons, List.map_nil, List.setIfInBounds_toArray, List.set_cons_zero, List.set_cons_succ]
          go_wp2
          refine ⟨(kx.set_eq 0 (.int .u64 KH) rfl).set_eq 1 (.int .u64 KL) rfl, ⟨(ky.other (C := w.heap.size + 1 + 1) 0 _ (by omega)).other (C := w.heap.size + 1 + 1) 1 _ (by omega), ⟨KH, KL, (kx.set_eq 0 (.int .u64 KH) rfl).set_eq 1 (.int .u64 KL) rfl⟩, (hbw.setCell (by simp only; omega) _).setCell (by simp only; omega) _⟩, ?_⟩
          intro B cs hne hB
          exact (hB.other (C := w.heap.size + 1 + 1) 0 _ (by (try simp only at hne); omega)).other (C := w.heap.size + 1 + 1) 1 _ (by (try simp only at hne); omega)
        · have g3 : f 3 = .agg #[.int .u64 RH, .int .u64 RL] := hd 3 (by decide) (by kernel_rfl)
          refine wpOp_list rfl ?_
          simp only [tmOf, putAll, List.map_cons, List.map_nil, List.setIfInBounds_toArray, List.set_cons_zero, List.set_cons_succ]
          go_wp2
          refine ⟨(ky.set_eq 0 (.int .u64 RH) rfl).set_eq 1 (.int .u64 RL) rfl, ⟨(ky.set_eq 0 (.int .u64 RH) rfl).set_eq 1 (.int .u64 RL) rfl, ⟨x, y, (kx.other (C := w.heap.size + 1 + 1 + 1) 0 _ (by omega)).other (C := w.heap.size + 1 + 1 + 1) 1 _ (by omega)⟩, (hbw.setCell (by simp only; omega) _).setCell (by simp only; omega) _⟩, ?_⟩
          intro B cs hne hB
          exact (hB.other (C := w.heap.size + 1 + 1 + 1) 0 _ (by (try simp only at hne); omega)).other (C := w.heap.size + 1 + 1 + 1) 1 _ (by (try simp only at hne); omega)
      · rintro f ww ⟨ky, ⟨x, y, kx⟩, hbw⟩ hd hB
        have L2 : Blk ww (w.heap.size + 1 + 1) #[.int .u64 KH, .int .u64 KL] 90 := hB 4 (by decide) (by decide)
        have L3 : Blk ww (w.heap.size + 1 + 1 + 1) #[.int .u64 RH, .int .u64 RL] 90 := hB 5 (by decide) (by decide)
        simp only [tmOf, putAll, List.map_cons, List.map_nil, List.setIfInBounds_toArray, List.set_cons_zero, List.set_cons_succ]
        refine ‹∀ (a' : Act) (w' : World), Met _ a' w' → _› _ _ ?_
        go_meet
        case rel => exact ⟨L2, L3, hbw⟩
    case rest =>
    obtain ⟨L2, L3, hbx⟩ := hcut
    have z0 := L2.cell (i := 0) rfl
    have z1 := L2.cell (i := 1) rfl
    have z2 := L3.cell (i := 0) rfl
    have z3 := L3.cell (i := 1) rfl
    go_wp2_with fail
    exact bodyPost_ret (v := .tuple #[.agg #[.int .u64 KH, .int .u64 KL], .agg #[.int .u64 RH, .int .u64 RL]]) (by simp [results, Tryz.results129, go_sem, z0, z1, z2, z3]) rfl ⟨by rw [← HF.out.1, ← HF.out.2], hbx⟩
  · have hsg : (0 ≤ sgnI (R - b)) := by
      have := HK.out.1
      rcases Int.lt_trichotomy (R - b) 0 with h | h | h
      · omega
      · rw [h]; decide
      · rw [sgnI_pos h]; decide
    have hr : (((A - K * b - b : Nat)) : Int) = R - b := by rw [hRe]; have := HK.out.1; omega
    obtain ⟨K1, hK1e⟩ : ∃ K1 : Nat, K1 = K + 1 := ⟨_, rfl⟩
    have hP0 : ∀ W, Calls Tryz.prog 80 #[.int .i64 (K1 : Int)] W fun e w' => e = .returned (.agg #[.int .u64 (hiW (K1 : Int)), .int .u64 (loW (K1 : Int))]) ∧ Below W.heap.size W w' := fun W => of_any _ W (by omega) (by omega)
    have hwr : wrap64 ((K : Int) + 1) = (K1 : Int) := by unfold wrap64; omega
    have hfin1 : sumV ((A / b : Nat) : Int) = .agg #[.int .u64 (hiW (K1 : Int)), .int .u64 (loW (K1 : Int))] := by rw [e1, hK1e]; rfl
    have hfin2 : sumV ((A % b : Nat) : Int) = .agg #[.int .u64 LH, .int .u64 LL] := by rw [e2, hr, ← HV.out.2.2.1, ← HV.out.2.2.2.1]; rfl
    generalize hiW (K1 : Int) = PH at *
    generalize loW (K1 : Int) = PL at *
    have HF := Lib.hid (And.intro hfin1 hfin2)
    have HPP := Lib.hid hP0
    clear hfin1 hfin2 e1 e2 hge hr hRe hP0 hK1e
    generalize sgnI (R - b) = sg at *
    have c0 := kl.cell (i := 0) rfl
    have c1 := kl.cell (i := 1) rfl
    go_upto_region 13 with fail
    clear hsg
    go_cut [] from 86 (fun wx => Blk wx (w.heap.size + 1 + 1) #[.int .u64 PH, .int .u64 PL] 90 ∧ Blk wx (w.heap.size + 1 + 1 + 1) #[.int .u64 LH, .int .u64 LL] 90 ∧ Below w.heap.size w wx)
    case first =>
      refine wp_region_keep 5 (fun i => match i with | 0 => .int .u64 (K : Int) | 1 => .int .i64 (K : Int) | 2 => .int .i64 (K1 : Int) | 3 => .agg #[.int .u64 PH, .int .u64 PL] | _ => .agg #[.int .u64 LH, .int .u64 LL]) (fun i => (w.heap.size + 1 + 1 + (i - 5), if i = 5 then #[.int .u64 PH, .int .u64 PL] else #[.int .u64 LH, .int .u64 LL])) 90 (fun ww => Blk ww w2.heap.size #[.int .u64 LH, .int .u64 LL] 90 ∧ (∃ x y : Int, Blk ww (w.heap.size + 1 + 1) #[.int .u64 x, .int .u64 y] 90) ∧ (∃ x y : Int, Blk ww (w.heap.size + 1 + 1 + 1) #[.int .u64 x, .int .u64 y] 90) ∧ Below w.heap.size w ww) (by kernel_rfl) (by kernel_rfl) ?_ ?_ ?_ ?_ ?_ ?_
      · exact ⟨kl, ⟨0, 0, k2⟩, ⟨RH, RL, k3⟩, hb4'.drew⟩
      · rintro w5 w6 ⟨kr, ⟨x, y, kx⟩, ⟨x2, y2, ky⟩, hbw⟩ hb6
        exact ⟨kr.kept hb6, ⟨x, y, kx.kept hb6⟩, ⟨x2, y2, ky.kept hb6⟩, hbw.trans (hb6.mono hbw.size)⟩
      · intro i j hi hj hne
        simp only
        omega
      · rintro i hi hin f ww ⟨kz, ⟨x, y, kx⟩, ⟨x2, y2, ky⟩, hbw⟩ hd
        have f0 := kz.cell (i := 0) rfl
        have f1 := kz.cell (i := 1) rfl
        rcases i with _ | _ | _ | _ | _ | i
        · refine wpOp_list rfl ?_
          simp only [tmOf, putAll, List.map_cons, List.map_nil, List.setIfInBounds_toArray, List.set_cons_zero, List.set_cons_succ]
          go_wp2
          simp [upd, Below.refl]
        · have g0 : f 0 = .int .u64 (K : Int) := hd 0 (by decide) (by kernel_rfl)
          refine wpOp_list rfl ?_
          simp only [tmOf, putAll, List.map_cons, List.map_nil, List.setIfInBounds_toArray, List.set_cons_zero, List.set_cons_succ]
          go_wp2
          simp [upd, g0, Below.refl]
        · have g1 : f 1 = .int .i64 (K : Int) := hd 1 (by decide) (by kernel_rfl)
          refine wpOp_list rfl ?_
          simp only [tmOf, putAll, List.map_cons, List.map_nil, List.setIfInBounds_toArray, List.set_cons_zero, List.set_cons_succ]
          go_wp2
          simp [upd, g1, Below.refl]
        · have g2 : f 2 = .int .i64 (K1 : Int) := hd 2 (by decide) (by kernel_rfl)
          refine wpOp_list rfl ?_
          simp only [tmOf, putAll, List.map_cons, List.map_nil, List.setIfInBounds_toArray, List.set_cons_zero, List.set_cons_succ]
          go_wp2_with fail
          refine (HPP.out _).mono ?_
          rintro e' wf ⟨rfl, hbf⟩
          go_wp2_with fail
          simp [upd, g2, hbf]
        · refine wpOp_list rfl ?_
          simp only [tmOf, putAll, List.map_cons, List.map_nil, List.setIfInBounds_toArray, List.set_cons_zero, List.set_cons_succ]
          go_wp2
          simp [upd, Below.refl]
        · omega
      · rintro i hi hin f ww ⟨kz, ⟨x, y, kx⟩, ⟨x2, y2, ky⟩, hbw⟩ hd
        have e4 := kx.cell (i := 0) rfl
        have e5 := kx.cell (i := 1) rfl
        have e6 := kx.frozen 0
        have e7 := kx.frozen 1
        have e0 := ky.cell (i := 0) rfl
        have e1 := ky.cell (i := 1) rfl
        have e2 := ky.frozen 0
        have e3 := ky.frozen 1
        have hi2 : i = 5 ∨ i = 6 := by simp only [List.length_cons, List.length_nil] at hi; omega
        rcases hi2 with rfl | rfl
        · have g3 : f 3 = .agg #[.int .u64 PH, .int .u64 PL] := hd 3 (by decide) (by kernel_rfl)
          refine wpOp_list rfl ?_
          simp only [tmOf, putAll, List.map_cons, List.map_nil, List.setIfInBounds_toArray, List.set_cons_zero, List.set_cons_succ]
          go_wp2
          refine ⟨(kx.set_eq 0 (.int .u64 PH) rfl).set_eq 1 (.int .u64 PL) rfl, ⟨(kz.other (C := w.heap.size + 1 + 1) 0 _ (by omega)).other (C := w.heap.size + 1 + 1) 1 _ (by omega), ⟨PH, PL, (kx.set_eq 0 (.int .u64 PH) rfl).set_eq 1 (.int .u64 PL) rfl⟩, ⟨x2, y2, (ky.other (C := w.heap.size + 1 + 1) 0 _ (by omega)).other (C := w.heap.size + 1 + 1) 1 _ (by omega)⟩, (hbw.setCell (by simp only; omega) _).setCell (by simp only; omega) _⟩, ?_⟩
          intro B cs hne hB
          exact (hB.other (C := w.heap.size + 1 + 1) 0 _ (by (try simp only at hne); omega)).other (C := w.heap.size + 1 + 1) 1 _ (by (try simp only at hne); omega)
        · have g4 : f 4 = .agg #[.int .u64 LH, .int .u64 LL] := hd 4 (by decide) (by kernel_rfl)
          refine wpOp_list rfl ?_
          simp only [tmOf, putAll, List.map_cons, List.map_nil, List.setIfInBounds_toArray, List.set_cons_zero, List.set_cons_succ]
          go_wp2
          refine ⟨(ky.set_eq 0 (.int .u64 LH) rfl).set_eq 1 (.int .u64 LL) rfl, ⟨(kz.other (C := w.heap.size + 1 + 1 + 1) 0 _ (by omega)).other (C := w.heap.size + 1 + 1 + 1) 1 _ (by omega), ⟨x, y, (kx.other (C := w.heap.size + 1 + 1 + 1) 0 _ (by omega)).other (C := w.heap.size + 1 + 1 + 1) 1 _ (by omega)⟩, ⟨LH, LL, (ky.set_eq 0 (.int .u64 LH) rfl).set_eq 1 (.int .u64 LL) rfl⟩, (hbw.setCell (by simp only; omega) _).setCell (by simp only; omega) _⟩, ?_⟩
          intro B cs hne hB
          exact (hB.other (C := w.heap.size + 1 + 1 + 1) 0 _ (by (try simp only at hne); omega)).other (C := w.heap.size + 1 + 1 + 1) 1 _ (by (try simp only at hne); omega)
      · rintro f ww ⟨kz, ⟨x, y, kx⟩, ⟨x2, y2, ky⟩, hbw⟩ hd hB
        have L2 : Blk ww (w.heap.size + 1 + 1) #[.int .u64 PH, .int .u64 PL] 90 := hB 5 (by decide) (by decide)
        have L3 : Blk ww (w.heap.size + 1 + 1 + 1) #[.int .u64 LH, .int .u64 LL] 90 := hB 6 (by decide) (by decide)
        simp only [tmOf, putAll, List.map_cons, List.map_nil, List.setIfInBounds_toArray, List.set_cons_zero, List.set_cons_succ]
        refine ‹∀ (a' : Act) (w' : World), Met _ a' w' → _› _ _ ?_
        go_meet
        case rel => exact ⟨L2, L3, hbw⟩
    case rest =>
    obtain ⟨L2, L3, hbx⟩ := hcut
    have z0 := L2.cell (i := 0) rfl
    have z1 := L2.cell (i := 1) rfl
    have z2 := L3.cell (i := 0) rfl
    have z3 := L3.cell (i := 1) rfl
    go_wp2_with fail
    exact bodyPost_ret (v := .tuple #[.agg #[.int .u64 PH, .int .u64 PL], .agg #[.int .u64 LH, .int .u64 LL]]) (by simp [results, Tryz.results129, go_sem, z0, z1, z2, z3]) rfl ⟨by rw [← HF.out.1, ← HF.out.2], hbx⟩

end Go.Proofs.YtimkeblcdodfmaaGreat

namespace Go.Proofs.YtimkeblcdodfmaaGreat
open Go.RowKit Go.Shelf
attribute [local go_sem] sumV Oper.semAt_some

theorem quotient_any (A b : Nat) (hA : A < 170141183460469231731687303715884105728) (hb0 : 0 < b) (hb : b < 170141183460469231731687303715884105728) (w : World) :
    Calls Tryz.prog 129 #[sumV (A : Int), sumV (b : Int)] w fun e w' => e = .returned (.tuple #[sumV ((A / b : Nat) : Int), sumV ((A % b : Nat) : Int)]) ∧ Below w.heap.size w w' := by
  obtain ⟨ah, hah⟩ : ∃ ah, ah = A / 18446744073709551616 := ⟨_, rfl⟩
  obtain ⟨al, hal⟩ : ∃ al, al = A % 18446744073709551616 := ⟨_, rfl⟩
  obtain ⟨bh, hbh⟩ : ∃ bh, bh = b / 18446744073709551616 := ⟨_, rfl⟩
  obtain ⟨bl, hbl⟩ : ∃ bl, bl = b % 18446744073709551616 := ⟨_, rfl⟩
  have eA : A = ah * 18446744073709551616 + al := by omega
  have eb : b = bh * 18446744073709551616 + bl := by omega
  rw [sum_words eA (by omega) (by omega), sum_words eb (by omega) (by omega)]
  rcases Nat.eq_zero_or_pos bh with h0 | h0
  · have e : bl = b := by omega
    rw [h0, e, eA]
    exact quotient_low ah al b (by omega) (by omega) hb0 (by omega) w
  · have hbb := bitLen_bounds (y := bh) h0 (by omega)
    have h63 : Lib.bitLen bh ≤ 63 := Lib.bitLen_le bh 63 (by omega) (by omega)
    exact quotient_high A b ah al bh bl (Lib.bitLen bh) (64 - Lib.bitLen bh) (63 - (64 - Lib.bitLen bh)) eA eb (by omega) (by omega) (by omega) (by omega) h0 rfl (by omega) (by omega) w

set_option maxRecDepth 100000 in
set_option maxHeartbeats 4000000 in
theorem divisor_any (a b : Nat) (ha : a < 170141183460469231731687303715884105728) (hb : b < 170141183460469231731687303715884105728) (w : World) :
    Calls Tryz.prog 127 #[sumV (a : Int), sumV (b : Int)] w fun e w' => e = .returned (sumV ((Nat.gcd a b : Nat) : Int)) ∧ Below w.heap.size w w' := by
  obtain ⟨w1, hw1⟩ : ∃ w1, (((w.alloc (.cells #[.int .u64 (hiW (a : Int)), .int .u64 (loW (a : Int))] 90)).alloc (.cells #[.int .u64 (hiW (b : Int)), .int .u64 (loW (b : Int))] 90)).alloc (.cells #[.int .u64 0, .int .u64 0] 90)) = w1 := ⟨_, rfl⟩
  have hb1 : Below w.heap.size w w1 := by rw [← hw1]; exact bw3 w _ _ _
  have k0 : Blk w1 w.heap.size #[.int .u64 (hiW (a : Int)), .int .u64 (loW (a : Int))] 90 := by rw [← hw1]; exact ((Blk.new w _ _).alloc _).alloc _
  have k1 : Blk w1 (w.heap.size + 1) #[.int .u64 (hiW (b : Int)), .int .u64 (loW (b : Int))] 90 := by rw [← hw1]; exact (Blk.new' _ _ _ (by simp)).alloc _
  have k2 : Blk w1 (w.heap.size + 1 + 1) #[.int .u64 0, .int .u64 0] 90 := by rw [← hw1]; exact Blk.new' _ _ _ (by simp)
  have HB := Lib.hid (And.intro k0 (And.intro k1 (And.intro k2 hb1)))
  clear k0 k1 k2 hb1
  obtain ⟨G, hG⟩ : ∃ G, Nat.gcd a b = G := ⟨_, rfl⟩
  have HG := Lib.hid hG
  rw [hG]
  have HL := Lib.hid (And.intro ha hb)
  clear hG ha hb
  unfold sumV
  go_enter Tryz.func127, Tryz.ntmps127
  go_wp2_with fail
  go_loopg [] b (fun gk wr => ∃ x y : Nat, gk = y ∧ Blk wr w.heap.size #[.int .u64 (hiW (x : Int)), .int .u64 (loW (x : Int))] 90 ∧ Blk wr (w.heap.size + 1) #[.int .u64 (hiW (y : Int)), .int .u64 (loW (y : Int))] 90 ∧ Blk wr (w.heap.size + 1 + 1) #[.int .u64 0, .int .u64 0] 90 ∧ Hid (Nat.gcd x y = G ∧ x < 170141183460469231731687303715884105728 ∧ y < 170141183460469231731687303715884105728) ∧ Below w.heap.size w wr)
  case atStart => exact ⟨a, b, rfl, HB.out.1, HB.out.2.1, HB.out.2.2.1, ⟨HG.out, HL.out.1, HL.out.2⟩, HB.out.2.2.2⟩
  case round =>
    clear HB hw1
    obtain ⟨x, y, hgk, k0, k1, k2, HX, hb⟩ := hrel
    have HGK := Lib.hid hgk
    clear hgk
    have c0 := k0.cell (i := 0) rfl
    have c1 := k0.cell (i := 1) rfl
    have c2 := k1.cell (i := 0) rfl
    have c3 := k1.cell (i := 1) rfl
    have c4 := k2.cell (i := 0) rfl
    have c5 := k2.cell (i := 1) rfl
    have q0 := k2.frozen 0
    have q1 := k2.frozen 1
    rcases Nat.eq_zero_or_pos y with h0 | h0
    · have hx : x = G := by rw [← HX.out.1, h0, Nat.gcd_zero_right]
      subst h0
      have hn := fun W => neq_sum 0 0 0 0 W
      rw [show ((0 : Nat) : Int) = 0 from rfl, show hiW 0 = 0 from rfl, show loW 0 = 0 from rfl] at c2 c3
      have HXX := Lib.hid hx
      clear hx HX
      generalize hxh : hiW (x : Int) = xh at *
      generalize hxl : loW (x : Int) = xl at *
      have HV := Lib.hid (And.intro hxh hxl)
      clear hxh hxl
      go_wp2_with fail
      have L2 := (k2.set_eq 0 (.int .u64 xh) rfl).set_eq 1 (.int .u64 xl) rfl
      have z0 := L2.cell (i := 0) rfl
      have z1 := L2.cell (i := 1) rfl
      exact bodyPost_ret (v := .agg #[.int .u64 xh, .int .u64 xl]) (by simp [results, Tryz.results127, go_sem, z0, z1]) rfl ⟨by rw [← HXX.out, ← HV.out.1, ← HV.out.2], (hb.setCell (by simp only; omega) _).setCell (by simp only; omega) _⟩
    · obtain ⟨xn, hxn⟩ : ∃ xn, xn = x / 18446744073709551616 := ⟨_, rfl⟩
      obtain ⟨yn, hyn⟩ : ∃ yn, yn = y / 18446744073709551616 := ⟨_, rfl⟩
      have hx7 := HX.out.2.1
      have hy7 := HX.out.2.2
      have exh : hiW (x : Int) = (xn : Int) := by unfold hiW; omega
      have eyh : hiW (y : Int) = (yn : Int) := by unfold hiW; omega
      have hne : ∀ W, (binOp .neq 90 (.agg #[.int .u64 (hiW (y : Int)), .int .u64 (loW (y : Int))]) (.agg #[.int .u64 0, .int .u64 0])).run Tryz.prog W = .ok (.bool true) W := by
        intro W
        rw [neq_sum]
        have : (hiW (y : Int) == 0 && loW (y : Int) == 0) = false := by
          cases e : (hiW (y : Int) == 0 && loW (y : Int) == 0)
          · rfl
          · simp at e
            have := (zero_words (x := (y : Int)) ⟨by omega, by omega⟩).1 e
            omega
        rw [this]; rfl
      have hg : Nat.gcd y (x % y) = G := by rw [← HX.out.1, Nat.gcd_comm x y, Nat.gcd_rec y x, Nat.gcd_comm]
      by_cases hsm : xn = 0 ∧ yn = 0
      · have ex : loW (x : Int) = (x : Int) := by unfold loW; omega
        have ey : loW (y : Int) = (y : Int) := by unfold loW; omega
        rw [exh, hsm.1] at c0
        rw [eyh, hsm.2] at c2
        rw [ex] at c1
        rw [ey] at c3
        rw [eyh, hsm.2, ey] at hne
        have hgl : G < 18446744073709551616 := by
          rw [← HX.out.1]
          exact Nat.lt_of_le_of_lt (Nat.gcd_le_right x h0) (by omega)
        have hor : bits .or .u64 0 0 = 0 := by decide
        have HGG := Lib.hid (And.intro HX.out.1 hgl)
        rw [show ((0 : Nat) : Int) = 0 from rfl] at c0 c2 hne
        clear hg hgl exh eyh ex ey hxn hyn hsm hx7 hy7 HX
        go_wp2_with fail
        refine (wordDivisor_any x y _).mono ?_
        rintro e' w2 ⟨rfl, hb2⟩
        rw [HGG.out.1]
        have k2 := k2.kept hb2
        have hb2' := hb.trans (hb2.mono hb.size)
        have c4 := k2.cell (i := 0) rfl
        have c5 := k2.cell (i := 1) rfl
        have q0 := k2.frozen 0
        have q1 := k2.frozen 1
        go_wp2_with fail
        have L2 := (k2.set_eq 0 (.int .u64 0) rfl).set_eq 1 (.int .u64 (G : Int)) rfl
        have z0 := L2.cell (i := 0) rfl
        have z1 := L2.cell (i := 1) rfl
        have ev : Value.agg #[.int .u64 (hiW (G : Int)), .int .u64 (loW (G : Int))] = .agg #[.int .u64 ((0 : Nat) : Int), .int .u64 (G : Int)] := sum_words (x := G) (h := 0) (l := G) (by omega) HGG.out.2 (by decide)
        exact bodyPost_ret (v := .agg #[.int .u64 0, .int .u64 (G : Int)]) (by simp [results, Tryz.results127, go_sem, z0, z1]) rfl ⟨by rw [ev]; rfl, (hb2'.setCell (by simp only; omega) _).setCell (by simp only; omega) _⟩
      · have hor : bits .or .u64 (xn : Int) (yn : Int) = ((xn ||| yn : Nat) : Int) := u64_or_nat _ _ (by omega) (by omega)
        have ho0 : (((xn ||| yn : Nat) : Int) == 0) = false := by
          have : xn ||| yn ≠ 0 := fun e => hsm (Nat.or_eq_zero_iff.1 e)
          simp only [beq_eq_false_iff_ne]; omega
        obtain ⟨o, hoo⟩ : ∃ o, o = xn ||| yn := ⟨_, rfl⟩
        rw [← hoo] at hor ho0
        have hq := fun W => quotient_any x y hx7 h0 hy7 W
        have hrl : x % y < 170141183460469231731687303715884105728 := Nat.lt_trans (Nat.mod_lt _ h0) hy7
        have hrm := Nat.mod_lt x h0
        obtain ⟨r, hr⟩ : ∃ r, r = x % y := ⟨_, rfl⟩
        rw [← hr] at hq hrl hrm hg
        have HR := Lib.hid (And.intro hg (And.intro hy7 hrl))
        unfold sumV at hq
        rw [exh] at c0 hq k0
        rw [eyh] at c2 hq hne k1
        have HYH := Lib.hid eyh
        clear hg hy7 hrl hr hoo hsm hxn hyn hx7 HX exh eyh
        generalize hxl : loW (x : Int) = xl at *
        generalize hyl : loW (y : Int) = yl at *
        generalize hrh : hiW (r : Int) = rh at *
        generalize hrll : loW (r : Int) = rl at *
        generalize hiW ((x / y : Nat) : Int) = dh at *
        generalize loW ((x / y : Nat) : Int) = dl at *
        have HQ := Lib.hid hq
        have HV := Lib.hid (And.intro hrh hrll)
        have HYL := Lib.hid hyl
        clear hq hxl hrh hrll hyl
        go_wp2_with fail
        refine (HQ.out _).mono ?_
        rintro e' w2 ⟨rfl, hb2⟩
        have k0 := k0.kept hb2
        have k1 := k1.kept hb2
        have k2 := k2.kept hb2
        have hb2' := hb.trans (hb2.mono hb.size)
        clear hb c0 c1 c2 c3 c4 c5 q0 q1
        obtain ⟨w3, hw3⟩ : ∃ w3, (w2.alloc (.cells #[.int .u64 dh, .int .u64 dl] 90)).alloc (.cells #[.int .u64 rh, .int .u64 rl] 90) = w3 := ⟨_, rfl⟩
        have kr : Blk w3 (w2.heap.size + 1) #[.int .u64 rh, .int .u64 rl] 90 := by rw [← hw3]; exact Blk.new' _ _ _ (by simp)
        have hnl := k2.lt
        have hb3 : Below w2.heap.size w2 w3 := by rw [← hw3]; exact bw2 w2 _ _
        have k0 := k0.kept hb3
        have k1 := k1.kept hb3
        have k2 := k2.kept hb3
        have hb3' := hb2'.trans (hb3.mono hb2'.size)
        go_upto_region 5 with fail
        refine wp_region_keepL 2 (fun i => match i with | 0 => .agg #[.int .u64 (yn : Int), .int .u64 yl] | _ => .agg #[.int .u64 rh, .int .u64 rl]) (fun i => (w.heap.size + (i - 2), if i = 2 then #[.int .u64 (yn : Int), .int .u64 yl] else #[.int .u64 rh, .int .u64 rl])) 90 (fun L ww => (L 3 = false → Blk ww (w.heap.size + 1) #[.int .u64 (yn : Int), .int .u64 yl] 90) ∧ (∃ x y : Int, Blk ww w.heap.size #[.int .u64 x, .int .u64 y] 90) ∧ (∃ x y : Int, Blk ww (w.heap.size + 1) #[.int .u64 x, .int .u64 y] 90) ∧ Blk ww (w.heap.size + 1 + 1) #[.int .u64 0, .int .u64 0] 90 ∧ Blk ww (w2.heap.size + 1) #[.int .u64 rh, .int .u64 rl] 90 ∧ Below w.heap.size w ww) (by kernel_rfl) (by kernel_rfl) ?_ ?_ ?_ ?_ ?_ ?_ ?_
        · exact ⟨fun _ => k1, ⟨_, _, k0⟩, ⟨_, _, k1⟩, k2, kr, hb3'.drew⟩
        · rintro L w5 w6 ⟨h3, ⟨x0, y0, kx⟩, ⟨x1, y1, ky⟩, kz, kq, hbw⟩ hb6
          exact ⟨fun e => (h3 e).kept hb6, ⟨x0, y0, kx.kept hb6⟩, ⟨x1, y1, ky.kept hb6⟩, kz.kept hb6, kq.kept hb6, hbw.trans (hb6.mono hbw.size)⟩
        · rintro L i w5 hi ⟨h3, h4⟩
          exact ⟨fun e => h3 (by simp at e; exact e.1), h4⟩
        · intro i j hi hj hne
          simp only
          omega
        · rintro L i hi hin hLi hcl f ww ⟨h3, ⟨x0, y0, kx⟩, ⟨x1, y1, ky⟩, kz, kq, hbw⟩ hd
          rcases i with _ | _ | i
          · have hL3 : L 3 = false := by
              cases e : L 3
              · rfl
              · have e2 := depsB_dep (hcl 3 (by decide) e) (j := 2) (by kernel_rfl)
                have e0 := depsB_dep (hcl 2 (by decide) e2) (j := 0) (by kernel_rfl)
                rw [e0] at hLi; cases hLi
            have f0 := (h3 hL3).cell (i := 0) rfl
            have f1 := (h3 hL3).cell (i := 1) rfl
            refine wpOp_list rfl ?_
            simp only [tmOf, putAll, List.map_cons, List.map_nil, List.setIfInBounds_toArray, List.set_cons_zero, List.set_cons_succ]
            go_wp2
            simp [upd, Below.refl]
          · have f0 := kq.cell (i := 0) rfl
            have f1 := kq.cell (i := 1) rfl
            refine wpOp_list rfl ?_
            simp only [tmOf, putAll, List.map_cons, List.map_nil, List.setIfInBounds_toArray, List.set_cons_zero, List.set_cons_succ]
            go_wp2
            simp [upd, Below.refl]
          · omega
        · rintro L i hi hin f ww ⟨h3, ⟨x0, y0, kx⟩, ⟨x1, y1, ky⟩, kz, kq, hbw⟩ hd
          have e4 := kx.cell (i := 0) rfl
          have e5 := kx.cell (i := 1) rfl
          have e6 := kx.frozen 0
          have e7 := kx.frozen 1
          have e0 := ky.cell (i := 0) rfl
          have e1 := ky.cell (i := 1) rfl
          have e2 := ky.frozen 0
          have e3 := ky.frozen 1
          have hi2 : i = 2 ∨ i = 3 := by simp only [List.length_cons, List.length_nil] at hi; omega
          rcases hi2 with rfl | rfl
          · have g0 : f 0 = .agg #[.int .u64 (yn : Int), .int .u64 yl] := hd 0 (by decide) (by kernel_rfl)
            refine wpOp_list rfl ?_
            simp only [tmOf, putAll, List.map_cons, List.map_nil, List.setIfInBounds_toArray, List.set_cons_zero, List.set_cons_succ]
            go_wp2
            refine ⟨(kx.set_eq 0 (.int .u64 (yn : Int)) rfl).set_eq 1 (.int .u64 yl) rfl, ⟨fun e => ((h3 (by simpa using e)).other (C := w.heap.size) 0 _ (by omega)).other (C := w.heap.size) 1 _ (by omega), ⟨_, _, (kx.set_eq 0 (.int .u64 (yn : Int)) rfl).set_eq 1 (.int .u64 yl) rfl⟩, ⟨x1, y1, (ky.other (C := w.heap.size) 0 _ (by omega)).other (C := w.heap.size) 1 _ (by omega)⟩, (kz.other (C := w.heap.size) 0 _ (by omega)).other (C := w.heap.size) 1 _ (by omega), (kq.other (C := w.heap.size) 0 _ (by omega)).other (C := w.heap.size) 1 _ (by omega), (hbw.setCell (by simp only; omega) _).setCell (by simp only; omega) _⟩, ?_⟩
            intro B cs hne hB
            exact (hB.other (C := w.heap.size) 0 _ (by (try simp only at hne); omega)).other (C := w.heap.size) 1 _ (by (try simp only at hne); omega)
          · have g1 : f 1 = .agg #[.int .u64 rh, .int .u64 rl] := hd 1 (by decide) (by kernel_rfl)
            refine wpOp_list rfl ?_
            simp only [tmOf, putAll, List.map_cons, List.map_nil, List.setIfInBounds_toArray, List.set_cons_zero, List.set_cons_succ]
            go_wp2
            refine ⟨(ky.set_eq 0 (.int .u64 rh) rfl).set_eq 1 (.int .u64 rl) rfl, ⟨⟨x0, y0, (kx.other (C := w.heap.size + 1) 0 _ (by omega)).other (C := w.heap.size + 1) 1 _ (by omega)⟩, ⟨_, _, (ky.set_eq 0 (.int .u64 rh) rfl).set_eq 1 (.int .u64 rl) rfl⟩, (kz.other (C := w.heap.size + 1) 0 _ (by omega)).other (C := w.heap.size + 1) 1 _ (by omega), (kq.other (C := w.heap.size + 1) 0 _ (by omega)).other (C := w.heap.size + 1) 1 _ (by omega), (hbw.setCell (by simp only; omega) _).setCell (by simp only; omega) _⟩, ?_⟩
            intro B cs hne hB
            exact (hB.other (C := w.heap.size + 1) 0 _ (by (try simp only at hne); omega)).other (C := w.heap.size + 1) 1 _ (by (try simp only at hne); omega)
        · rintro L f ww ⟨h3, ⟨x0, y0, kx⟩, ⟨x1, y1, ky⟩, kz, kq, hbw⟩ hd hB
          have L0 : Blk ww w.heap.size #[.int .u64 (yn : Int), .int .u64 yl] 90 := hB 2 (by decide) (by decide)
          have L1 : Blk ww (w.heap.size + 1) #[.int .u64 rh, .int .u64 rl] 90 := hB 3 (by decide) (by decide)
          simp only [tmOf, putAll, List.map_cons, List.map_nil, List.setIfInBounds_toArray, List.set_cons_zero, List.set_cons_succ]
          have hgoal : ∃ x' y' : Nat, r = y' ∧ Blk ww w.heap.size #[.int .u64 (hiW (x' : Int)), .int .u64 (loW (x' : Int))] 90 ∧ Blk ww (w.heap.size + 1) #[.int .u64 (hiW (y' : Int)), .int .u64 (loW (y' : Int))] 90 ∧ Blk ww (w.heap.size + 1 + 1) #[.int .u64 0, .int .u64 0] 90 ∧ Hid (Nat.gcd x' y' = G ∧ x' < 170141183460469231731687303715884105728 ∧ y' < 170141183460469231731687303715884105728) ∧ Below w.heap.size w ww :=
            ⟨y, r, rfl, by rw [show hiW (y : Int) = (yn : Int) from HYH.out, show loW (y : Int) = yl from HYL.out]; exact L0, by rw [show hiW (r : Int) = rh from HV.out.1, show loW (r : Int) = rl from HV.out.2]; exact L1, kz, HR.out, hbw⟩
          simp only [Exit.inBlock, Exit.then]
          have HGO := Lib.hid hgoal
          clear hgoal
          first
            | go_wp2
            | skip
          go_roundg r
          case measure => rw [HGK.out]; exact hrm
          case rel => exact HGO.out

end Go.Proofs.YtimkeblcdodfmaaGreat
