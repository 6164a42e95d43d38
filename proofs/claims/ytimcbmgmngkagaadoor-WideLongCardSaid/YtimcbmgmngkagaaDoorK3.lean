/-
  Long division: subtractTimes, addBack; Long division as on paper: plain; Strings that are numbers: their form, and what they say. Plain: nothing of the program; Whether a string is a number; The words of a number: differences; The words of a number: products.
-/
import Derived.Test.YtimcbmgmngkagaaDoorShelf
import Derived.Lib.OthersKept
import Derived.Test.YtimcbmgmngkagaaDoorK1
import Derived.Test.YtimcbmgmngkagaaDoorK2
namespace Go.Proofs.YtimcbmgmngkagaaDoor
open Go.RowKit

set_option maxRecDepth 100000 in
set_option maxHeartbeats 4000000 in
theorem subtractTimes_any (B at_ m k : Nat) (cc d : Nat) (pre z0 post : List Nat) (q : Option Addr) (ys : List Nat) (t : Nat) (w : World) (hat : pre.length = at_) (hm : z0.length = m) (hk : k + 1 = m) (hm1 : m ≤ 1000000000) (ha1 : at_ ≤ 1000000000)
    (how : Own .u64 73 w B (pre ++ z0 ++ post)) (hy : Rd .u64 w q k ys) (hne : ∀ b o, q = some ⟨b, o, none⟩ → b ≠ B) (gz : Dg BW z0) (gy : Dg BW ys) (ht : t < BW) :
    Calls Tryd.prog 71 #[.slice (some ⟨B, at_, none⟩) m cc, .slice q k d, .int .u64 (t : Int)] w fun e w' => ∃ zs b, b ≤ 1 ∧ e = .returned (.bool (decide (b = 1))) ∧ zs.length = m ∧ Dg BW zs ∧ dv BW zs + t * dv BW ys = dv BW z0 + BW ^ m * b ∧ Own .u64 73 w' B (pre ++ zs ++ post) ∧ w.grownBy w' (some B) := by
  have HAT := Lib.hid hat
  have HM := Lib.hid hm
  have HY := Lib.hid hy
  have HNE := Lib.hid hne
  have hyl := hy.1
  have HYL := Lib.hid hyl
  have ht' : t < 1000000000 := ht
  clear hat hm hy hne hyl
  go_enter Tryd.func71, Tryd.ntmps71
  go_wp2
  go_loopg [7, 8, 14] m (fun gk v7 v8 v14 wr => ∃ (j : Nat) (zs : List Nat) (c b : Nat), j ≤ m ∧ gk = m - j ∧ v7 = .int .u64 (c : Int) ∧ v8 = .int .u64 (b : Int) ∧ v14 = .int .i64 (j : Int) ∧ Hid (SubT ys z0 zs t j c b) ∧ Own .u64 73 wr B (pre ++ zs ++ post) ∧ w.grownBy wr (some B))
  case atStart => exact ⟨0, z0, 0, 0, Nat.zero_le _, rfl, rfl, rfl, rfl, SubT.start gz, how, ⟨rfl, rfl, rfl, Nat.le_refl _, fun _ _ _ => rfl⟩⟩
  case round =>
    obtain ⟨j, zs, c, b, hj, hgk, rfl, rfl, rfl, HS, hown, hg⟩ := hrel
    have HGK := Lib.hid hgk
    clear hgk
    have hb1 : b ≤ 1 := HS.out.2.2.2.1
    have hc1000 : c < 1000000000 := HS.out.2.2.1
    have HZL := Lib.hid HM.out
    by_cases hlt : j < m
    · have hji : (j : Int) < (m : Int) := by omega
      have hjz : j < zs.length := by rw [HS.out.1, HM.out]; exact hlt
      obtain ⟨wd, hwd⟩ : ∃ wd, z0[j]?.getD 0 = wd := ⟨_, rfl⟩
      have hwz : zs[j]?.getD 0 = wd := by rw [HS.out.2.2.2.2.2.2 j (Nat.le_refl _)]; exact hwd
      have hw9 : wd < 1000000000 := by rw [← hwd]; exact gz.get (by decide) j
      have hcell := hown.cell (at_ + j) (by rw [List.length_append, List.length_append, HAT.out]; omega)
      rw [← HAT.out, seg_get pre zs post hjz, hwz, HAT.out] at hcell
      have hfr := hown.frozen (at_ + j)
      have HWD := Lib.hid hwd
      clear hwd hwz
      obtain ⟨y, hyv⟩ : ∃ y, ys[j]?.getD 0 = y := ⟨_, rfl⟩
      have hy9 : y < 1000000000 := by rw [← hyv]; exact gy.get (by decide) j
      obtain ⟨P, hP⟩ : ∃ P, t * y = P := ⟨_, rfl⟩
      have hPc : (t : Int) * (y : Int) = (P : Int) := by rw [← hP]; simp
      obtain ⟨pp1, pp2⟩ := prod_bound ht' hy9
      rw [hPc] at pp1 pp2
      obtain ⟨c1, hc1d⟩ : ∃ c1, c + P = c1 := ⟨_, rfl⟩
      have hc1 : c + t * ys[j]?.getD 0 = c1 := by rw [hyv, hP]; exact hc1d
      obtain ⟨R, hRe⟩ : ∃ R, c1 % BW = R := ⟨_, rfl⟩
      obtain ⟨Q, hQe⟩ : ∃ Q, c1 / BW = Q := ⟨_, rfl⟩
      have hRe' : (c + P) % 1000000000 = R := by rw [hc1d]; exact hRe
      have hQe' : (c + P) / 1000000000 = Q := by rw [hc1d]; exact hQe
      have hR9 : R < 1000000000 := by omega
      have hQ9 : Q < 1000000000 := by omega
      have HRE := Lib.hid hRe
      have HQE := Lib.hid hQe
      by_cases hjk : j < k
      · have hjki : (j : Int) < (k : Int) := by omega
        obtain ⟨b2, off2, hq2, hbl2, hcell2⟩ := ((HY.out).grownB HNE.out hg).2 j hjk
        rw [hyv] at hcell2
        subst hq2
        clear hyv hP hRe hQe hc1d
        have hR : ((c : Int) + (P : Int)) % 1000000000 = (R : Int) := by omega
        have hQ : ((c : Int) + (P : Int)) / 1000000000 = (Q : Int) := by omega
        by_cases hlw : wd < R + b
        · obtain ⟨x, hx⟩ : ∃ x, wd + 1000000000 - (R + b) = x := ⟨_, rfl⟩
          have hlwi : (wd : Int) < (R : Int) + (b : Int) := by omega
          have hxi : (wd : Int) + 1000000000 - ((R : Int) + (b : Int)) = (x : Int) := by omega
          have hst := HS.out.step (c1 := c1) (x := x) (b' := 1) (by rw [HZL.out]; exact hlt) gy ht hc1 (by rw [HWD.out, HRE.out]; show x + (R + b) = wd + 1000000000 * 1; omega) (show x < 1000000000 by omega) (Nat.le_refl _)
          have hown2 := hown.set (at_ + j) x
          rw [← HAT.out, seg_set pre zs post hjz] at hown2
          have HST := Lib.hid hst
          have HOW := Lib.hid hown2
          have HC1 := Lib.hid hc1
          clear hst hown2 hx hc1
          go_wp2
          go_roundg (m - (j + 1))
          case measure => rw [HGK.out]; omega
          case rel => exact ⟨j + 1, zs.set j x, Q, 1, by omega, rfl, (by first | rfl | exact congrArg (Value.int .u64) hQ), rfl, by go_num, by show SubT _ _ _ _ _ _ _; have := HST.out; rw [HQE.out] at this; exact this, by rw [← HAT.out]; exact HOW.out, grown_put hg _ _⟩
        · obtain ⟨x, hx⟩ : ∃ x, wd - (R + b) = x := ⟨_, rfl⟩
          have hlwi : ¬ (wd : Int) < (R : Int) + (b : Int) := by omega
          have hxi : (wd : Int) - ((R : Int) + (b : Int)) = (x : Int) := by omega
          have hst := HS.out.step (c1 := c1) (x := x) (b' := 0) (by rw [HZL.out]; exact hlt) gy ht hc1 (by rw [HWD.out, HRE.out]; show x + (R + b) = wd + 1000000000 * 0; omega) (show x < 1000000000 by omega) (Nat.zero_le _)
          have hown2 := hown.set (at_ + j) x
          rw [← HAT.out, seg_set pre zs post hjz] at hown2
          have HST := Lib.hid hst
          have HOW := Lib.hid hown2
          have HC1 := Lib.hid hc1
          clear hst hown2 hx hc1
          go_wp2
          go_roundg (m - (j + 1))
          case measure => rw [HGK.out]; omega
          case rel => exact ⟨j + 1, zs.set j x, Q, 0, by omega, rfl, (by first | rfl | exact congrArg (Value.int .u64) hQ), rfl, by go_num, by show SubT _ _ _ _ _ _ _; have := HST.out; rw [HQE.out] at this; exact this, by rw [← HAT.out]; exact HOW.out, grown_put hg _ _⟩
      · have hjki : ¬ (j : Int) < (k : Int) := by omega
        have hy0 : y = 0 := by rw [← hyv, List.getElem?_eq_none (by rw [HYL.out]; omega)]; rfl
        have hP0 : P = 0 := by rw [← hP, hy0, Nat.mul_zero]
        have hRc : R = c := by omega
        have hQ0 : Q = 0 := by omega
        clear hyv hP hRe hQe hc1d hPc
        have hR : (c : Int) % 1000000000 = (R : Int) := by omega
        have hQ : (c : Int) / 1000000000 = (Q : Int) := by omega
        clear hy0 hP0 hRc hQ0 hRe' hQe'
        by_cases hlw : wd < R + b
        · obtain ⟨x, hx⟩ : ∃ x, wd + 1000000000 - (R + b) = x := ⟨_, rfl⟩
          have hlwi : (wd : Int) < (R : Int) + (b : Int) := by omega
          have hxi : (wd : Int) + 1000000000 - ((R : Int) + (b : Int)) = (x : Int) := by omega
          have hst := HS.out.step (c1 := c1) (x := x) (b' := 1) (by rw [HZL.out]; exact hlt) gy ht hc1 (by rw [HWD.out, HRE.out]; show x + (R + b) = wd + 1000000000 * 1; omega) (show x < 1000000000 by omega) (Nat.le_refl _)
          have hown2 := hown.set (at_ + j) x
          rw [← HAT.out, seg_set pre zs post hjz] at hown2
          have HST := Lib.hid hst
          have HOW := Lib.hid hown2
          have HC1 := Lib.hid hc1
          clear hst hown2 hx hc1
          go_wp2
          go_roundg (m - (j + 1))
          case measure => rw [HGK.out]; omega
          case rel => exact ⟨j + 1, zs.set j x, Q, 1, by omega, rfl, (by first | rfl | exact congrArg (Value.int .u64) hQ), rfl, by go_num, by show SubT _ _ _ _ _ _ _; have := HST.out; rw [HQE.out] at this; exact this, by rw [← HAT.out]; exact HOW.out, grown_put hg _ _⟩
        · obtain ⟨x, hx⟩ : ∃ x, wd - (R + b) = x := ⟨_, rfl⟩
          have hlwi : ¬ (wd : Int) < (R : Int) + (b : Int) := by omega
          have hxi : (wd : Int) - ((R : Int) + (b : Int)) = (x : Int) := by omega
          have hst := HS.out.step (c1 := c1) (x := x) (b' := 0) (by rw [HZL.out]; exact hlt) gy ht hc1 (by rw [HWD.out, HRE.out]; show x + (R + b) = wd + 1000000000 * 0; omega) (show x < 1000000000 by omega) (Nat.zero_le _)
          have hown2 := hown.set (at_ + j) x
          rw [← HAT.out, seg_set pre zs post hjz] at hown2
          have HST := Lib.hid hst
          have HOW := Lib.hid hown2
          have HC1 := Lib.hid hc1
          clear hst hown2 hx hc1
          go_wp2
          go_roundg (m - (j + 1))
          case measure => rw [HGK.out]; omega
          case rel => exact ⟨j + 1, zs.set j x, Q, 0, by omega, rfl, (by first | rfl | exact congrArg (Value.int .u64) hQ), rfl, by go_num, by show SubT _ _ _ _ _ _ _; have := HST.out; rw [HQE.out] at this; exact this, by rw [← HAT.out]; exact HOW.out, grown_put hg _ _⟩
    · have hji : ¬ (j : Int) < (m : Int) := by omega
      obtain rfl : j = m := by omega
      obtain ⟨f1, f2, f3, f4⟩ := SubT.done (by rw [HM.out]; exact HS.out) gy ht (by rw [HM.out, HYL.out]; omega)
      rw [HM.out] at f4 f1
      have HF := Lib.hid (And.intro f1 (And.intro f2 f4))
      clear f1 f2 f4
      have hb01 : b = 0 ∨ b = 1 := by omega
      rcases hb01 with rfl | rfl
      · go_wp2
        go_ret
        exact ⟨zs, 0, by omega, rfl, HF.out.1, HF.out.2.1, HF.out.2.2, by first | exact hown | (rw [List.append_assoc] at hown; exact hown), hg⟩
      · go_wp2
        go_ret
        exact ⟨zs, 1, by omega, rfl, HF.out.1, HF.out.2.1, HF.out.2.2, by first | exact hown | (rw [List.append_assoc] at hown; exact hown), hg⟩

set_option maxRecDepth 100000 in
set_option maxHeartbeats 4000000 in
theorem addBack_any (B at_ m k : Nat) (cc d : Nat) (pre z0 post : List Nat) (q : Option Addr) (ys : List Nat) (w : World) (hat : pre.length = at_) (hm : z0.length = m) (hk : k ≤ m) (hm1 : m ≤ 1000000000) (ha1 : at_ ≤ 1000000000)
    (how : Own .u64 73 w B (pre ++ z0 ++ post)) (hy : Rd .u64 w q k ys) (hne : ∀ b o, q = some ⟨b, o, none⟩ → b ≠ B) (gz : Dg BW z0) (gy : Dg BW ys) :
    Calls Tryd.prog 72 #[.slice (some ⟨B, at_, none⟩) m cc, .slice q k d] w fun e w' => ∃ zs c, c ≤ 1 ∧ e = .returned (.tuple #[]) ∧ zs.length = m ∧ Dg BW zs ∧ dv BW zs + BW ^ m * c = dv BW z0 + dv BW ys ∧ Own .u64 73 w' B (pre ++ zs ++ post) ∧ w.grownBy w' (some B) := by
  have HAT := Lib.hid hat
  have HM := Lib.hid hm
  have HY := Lib.hid hy
  have HNE := Lib.hid hne
  have hyl := hy.1
  have HYL := Lib.hid hyl
  clear hat hm hy hne hyl
  go_enter Tryd.func72, Tryd.ntmps72
  go_wp2
  go_loopg [4, 9] m (fun gk v4 v9 wr => ∃ (j : Nat) (zs : List Nat) (c : Nat), j ≤ m ∧ gk = m - j ∧ v4 = .int .u64 (c : Int) ∧ v9 = .int .i64 (j : Int) ∧ Hid (AddT ys z0 zs j c) ∧ Own .u64 73 wr B (pre ++ zs ++ post) ∧ w.grownBy wr (some B))
  case atStart => exact ⟨0, z0, 0, Nat.zero_le _, rfl, rfl, rfl, AddT.start gz, how, ⟨rfl, rfl, rfl, Nat.le_refl _, fun _ _ _ => rfl⟩⟩
  case round =>
    obtain ⟨j, zs, c, hj, hgk, rfl, rfl, HS, hown, hg⟩ := hrel
    have HGK := Lib.hid hgk
    clear hgk
    have hc1 : c ≤ 1 := HS.out.2.2.1
    have HZL := Lib.hid HM.out
    by_cases hlt : j < m
    · have hji : (j : Int) < (m : Int) := by omega
      have hjz : j < zs.length := by rw [HS.out.1, HM.out]; exact hlt
      obtain ⟨wd, hwd⟩ : ∃ wd, z0[j]?.getD 0 = wd := ⟨_, rfl⟩
      have hwz : zs[j]?.getD 0 = wd := by rw [HS.out.2.2.2.2 j (Nat.le_refl _)]; exact hwd
      have hw9 : wd < 1000000000 := by rw [← hwd]; exact gz.get (by decide) j
      have hcell := hown.cell (at_ + j) (by rw [List.length_append, List.length_append, HAT.out]; omega)
      rw [← HAT.out, seg_get pre zs post hjz, hwz, HAT.out] at hcell
      have hfr := hown.frozen (at_ + j)
      obtain ⟨y, hyv⟩ : ∃ y, ys[j]?.getD 0 = y := ⟨_, rfl⟩
      have hy9 : y < 1000000000 := by rw [← hyv]; exact gy.get (by decide) j
      obtain ⟨s, hse⟩ : ∃ s, c + wd + y = s := ⟨_, rfl⟩
      have hsd : c + z0[j]?.getD 0 + ys[j]?.getD 0 = s := by rw [hwd, hyv]; exact hse
      obtain ⟨R, hRe⟩ : ∃ R, s % BW = R := ⟨_, rfl⟩
      obtain ⟨Q, hQe⟩ : ∃ Q, s / BW = Q := ⟨_, rfl⟩
      have hRe' : (c + wd + y) % 1000000000 = R := by rw [hse]; exact hRe
      have hQe' : (c + wd + y) / 1000000000 = Q := by rw [hse]; exact hQe
      have hR9 : R < 1000000000 := by omega
      have hQ9 : Q < 1000000000 := by omega
      have HRE := Lib.hid hRe
      have HQE := Lib.hid hQe
      by_cases hjk : j < k
      · have hjki : (j : Int) < (k : Int) := by omega
        obtain ⟨b2, off2, hq2, hbl2, hcell2⟩ := ((HY.out).grownB HNE.out hg).2 j hjk
        rw [hyv] at hcell2
        subst hq2
        clear hyv hRe hQe hse hwd hwz
        have hR : ((c : Int) + (wd : Int) + (y : Int)) % 1000000000 = (R : Int) := by omega
        have hQ : ((c : Int) + (wd : Int) + (y : Int)) / 1000000000 = (Q : Int) := by omega
        have hst := HS.out.step (s := s) (by rw [HZL.out]; exact hlt) gz gy hsd
        have hown2 := hown.set (at_ + j) R
        rw [← HAT.out, seg_set pre zs post hjz] at hown2
        have HST := Lib.hid hst
        have HOW := Lib.hid hown2
        clear hst hown2 hsd
        go_wp2
        go_roundg (m - (j + 1))
        case measure => rw [HGK.out]; omega
        case rel => exact ⟨j + 1, zs.set j R, Q, by omega, rfl, (by first | rfl | exact congrArg (Value.int .u64) hQ), by go_num, by show AddT _ _ _ _ _; have := HST.out; rw [HRE.out, HQE.out] at this; exact this, by rw [← HAT.out]; first | exact HOW.out | (rw [hR]; exact HOW.out), grown_put hg _ _⟩
      · have hjki : ¬ (j : Int) < (k : Int) := by omega
        have hy0 : y = 0 := by rw [← hyv, List.getElem?_eq_none (by rw [HYL.out]; omega)]; rfl
        clear hyv hRe hQe hse hwd hwz
        have hR : ((c : Int) + (wd : Int)) % 1000000000 = (R : Int) := by omega
        have hQ : ((c : Int) + (wd : Int)) / 1000000000 = (Q : Int) := by omega
        clear hy0 hRe' hQe'
        have hst := HS.out.step (s := s) (by rw [HZL.out]; exact hlt) gz gy hsd
        have hown2 := hown.set (at_ + j) R
        rw [← HAT.out, seg_set pre zs post hjz] at hown2
        have HST := Lib.hid hst
        have HOW := Lib.hid hown2
        clear hst hown2 hsd
        go_wp2
        go_roundg (m - (j + 1))
        case measure => rw [HGK.out]; omega
        case rel => exact ⟨j + 1, zs.set j R, Q, by omega, rfl, (by first | rfl | exact congrArg (Value.int .u64) hQ), by go_num, by show AddT _ _ _ _ _; have := HST.out; rw [HRE.out, HQE.out] at this; exact this, by rw [← HAT.out]; first | exact HOW.out | (rw [hR]; exact HOW.out), grown_put hg _ _⟩
    · have hji : ¬ (j : Int) < (m : Int) := by omega
      obtain rfl : j = m := by omega
      obtain ⟨f1, f2, f3, f4⟩ := AddT.done (by rw [HM.out]; exact HS.out) (by rw [HM.out, HYL.out]; omega)
      rw [HM.out] at f4 f1
      have HF := Lib.hid (And.intro f1 (And.intro f2 f4))
      clear f1 f2 f4
      go_wp2
      go_end0
      exact ⟨zs, c, hc1, rfl, HF.out.1, HF.out.2.1, HF.out.2.2, by first | exact hown | (rw [List.append_assoc] at hown; exact hown), hg⟩

end Go.Proofs.YtimcbmgmngkagaaDoor

namespace Go.Proofs.YtimcbmgmngkagaaDoor

/-- Between two rounds: the words of the quotient from place a on are found; what is left above place a is less than the divisor. -/
structure LongI (X f V n m : Nat) (ls qs : List Nat) (a : Nat) : Prop where
  ll : ls.length = n + 1
  ql : qs.length = n - m + 1
  gl : Dg BW ls
  gq : Dg BW qs
  val : X * f = dv BW ls + V * dv BW qs
  top : dv BW (ls.drop a) < V
  low : ∀ i, i < a → qs[i]?.getD 0 = 0

theorem drop_three (ls : List Nat) (a k : Nat) : ls = ls.take a ++ (ls.drop a).take k ++ ls.drop (a + k) := by
  rw [List.append_assoc, ← List.drop_drop, List.take_append_drop, List.take_append_drop]

theorem dv_zero_above {ls : List Nat} {k : Nat} (h : dv BW ls < BW ^ k) : dv BW (ls.drop k) = 0 ∧ dv BW (ls.take k) = dv BW ls := by
  by_cases hk : k ≤ ls.length
  · have e := dv_take_drop BW ls k hk
    rcases Nat.eq_zero_or_pos (dv BW (ls.drop k)) with h0 | h0
    · rw [h0] at e ⊢; simp at e; exact ⟨rfl, e.symm⟩
    · have : BW ^ k ≤ BW ^ k * dv BW (ls.drop k) := Nat.le_mul_of_pos_right _ h0
      omega
  · rw [List.drop_of_length_le (by omega), List.take_of_length_le (by omega)]
    exact ⟨rfl, rfl⟩

/-- The window of a round. -/
theorem LongI.window {X f V n m : Nat} {ls qs : List Nat} {a : Nat} (h : LongI X f V n m ls qs (a + 1)) (hV : V < BW ^ m) (ha : a + 1 ≤ n - m + 1) (hm : m ≤ n) :
    ((ls.drop a).take (m + 1)).length = m + 1 ∧ dv BW ((ls.drop a).take (m + 1)) < V * BW ∧ dv BW (ls.drop (a + (m + 1))) = 0 ∧ dv BW ls = dv BW (ls.take a) + BW ^ a * dv BW ((ls.drop a).take (m + 1)) := by
  have hal : a < ls.length := by rw [h.ll]; omega
  have e1 : dv BW (ls.drop a) = ls[a] + BW * dv BW (ls.drop (a + 1)) := by rw [List.drop_eq_getElem_cons hal]; rfl
  have hla : ls[a] < BW := h.gl _ (List.getElem_mem hal)
  have htop := h.top
  have e2 : dv BW (ls.drop a) < V * BW := by
    have k1 : dv BW (ls.drop (a + 1)) + 1 ≤ V := htop
    have k2 : BW * (dv BW (ls.drop (a + 1)) + 1) ≤ BW * V := Nat.mul_le_mul_left BW k1
    rw [Nat.mul_add, Nat.mul_one] at k2
    rw [Nat.mul_comm V BW]
    omega
  have e3 : dv BW (ls.drop a) < BW ^ (m + 1) := by
    have : V * BW ≤ BW ^ m * BW := Nat.mul_le_mul_right BW (Nat.le_of_lt hV)
    exact (Nat.pow_succ (n := BW) (m := m)) ▸ Nat.lt_of_lt_of_le e2 this
  obtain ⟨z1, z2⟩ := dv_zero_above e3
  rw [List.drop_drop] at z1
  have e4 := dv_take_drop BW ls a (Nat.le_of_lt hal)
  have hll := h.ll
  refine ⟨?_, by rw [z2]; exact e2, z1, by rw [z2]; exact e4⟩
  have hd : (ls.drop a).length = n + 1 - a := by rw [List.length_drop, hll]
  rw [List.length_take, hd]
  omega

/-- A round. -/
theorem LongI.step {X f V n m : Nat} {ls qs zs : List Nat} {a q : Nat} (h : LongI X f V n m ls qs (a + 1)) (hV : V < BW ^ m) (ha : a + 1 ≤ n - m + 1) (hm : m ≤ n)
    (hzl : zs.length = m + 1) (gz : Dg BW zs) (hz : dv BW zs + q * V = dv BW ((ls.drop a).take (m + 1))) (hzV : dv BW zs < V) (hq : q < BW) :
    LongI X f V n m (ls.take a ++ zs ++ ls.drop (a + (m + 1))) (qs.set a q) a := by
  obtain ⟨w1, w2, w3, w4⟩ := h.window hV ha hm
  have hal : a < ls.length := by rw [h.ll]; omega
  have htl : (ls.take a).length = a := by rw [List.length_take]; omega
  have hqa : a < qs.length := by rw [h.ql]; omega
  have d1 : dv BW (ls.take a ++ zs ++ ls.drop (a + (m + 1))) = dv BW (ls.take a) + BW ^ a * dv BW zs := by
    rw [dv_append, dv_append, w3, htl]; simp
  have d2 : dv BW (qs.set a q) = dv BW qs + BW ^ a * q := by
    have g := dv_set BW qs a q hqa
    rw [h.low a (by omega), Nat.mul_zero, Nat.add_zero] at g
    exact g
  refine { ll := ?_, ql := by rw [List.length_set]; exact h.ql, gl := ?_, gq := h.gq.set _ hq, val := ?_, top := ?_, low := fun i hi => ?_ }
  · rw [List.length_append, List.length_append, htl, hzl, List.length_drop, h.ll]; omega
  · exact Dg.append (Dg.append (h.gl.take a) gz) (h.gl.drop _)
  · rw [h.val, d1, d2, w4, ← hz]
    grind
  · rw [List.append_assoc, List.drop_append_of_le_length (by omega), List.drop_of_length_le (by omega), List.nil_append, dv_append, w3]
    simpa using hzV
  · rw [set_get_other _ _ _ _ (by omega)]; exact h.low i (by omega)

/-- Which word of the quotient, and what is left. -/
theorem round_kept {U V g b m : Nat} {zs : List Nat} (hz : dv BW zs + g * V = U + BW ^ (m + 1) * b) (hg1 : g * V < U + V) (hg2 : U < (g + 1) * V) (hb : b = 0) : dv BW zs + g * V = U ∧ dv BW zs < V := by
  subst hb
  rw [Nat.mul_zero, Nat.add_zero] at hz
  rw [Nat.add_mul, Nat.one_mul] at hg2
  omega
theorem round_back {U V g b c m : Nat} {zs ys : List Nat} (gz : Dg BW zs) (gy : Dg BW ys) (hzl : zs.length = m + 1) (hyl : ys.length = m + 1) (hz : dv BW zs + g * V = U + BW ^ (m + 1) * b) (hg1 : g * V < U + V) (hb : b = 1) (hy : dv BW ys + BW ^ (m + 1) * c = dv BW zs + V) (hc : c ≤ 1) (hV : V < BW ^ (m + 1)) :
    1 ≤ g ∧ dv BW ys + (g - 1) * V = U ∧ dv BW ys < V := by
  subst hb
  have l1 := dv_lt gz
  have l2 := dv_lt gy
  rw [hzl] at l1
  rw [hyl] at l2
  rw [Nat.mul_one] at hz
  have hg0 : 1 ≤ g := by
    rcases Nat.eq_zero_or_pos g with h | h
    · subst h; omega
    · exact h
  obtain ⟨k, rfl⟩ : ∃ k, g = k + 1 := ⟨g - 1, by omega⟩
  rw [Nat.add_sub_cancel]
  rw [Nat.add_mul, Nat.one_mul] at hz hg1
  have hc1 : c = 1 := by
    rcases Nat.lt_or_ge c 1 with h | h
    · have : c = 0 := by omega
      subst this
      rw [Nat.mul_zero, Nat.add_zero] at hy
      omega
    · omega
  subst hc1
  rw [Nat.mul_one] at hy
  exact ⟨by omega, by omega, by omega⟩

/-- The factor that makes the divisor's highest word great. -/
theorem factor_ok {ys : List Nat} {m f t : Nat} (gy : Dg BW ys) (hm : ys.length = m + 1) (ht : ys[m]?.getD 0 = t) (hp : 1 ≤ t) (hf : BW / (t + 1) = f) :
    1 ≤ f ∧ f < BW ∧ BW ^ m * (t * f) ≤ dv BW ys * f ∧ dv BW ys * f < BW ^ (m + 1) ∧ BW ≤ 2 * (t * f) := by
  have htB : t < BW := by rw [← ht]; exact gy.get (by decide) m
  have e := dv_take_succ BW ys m
  rw [List.take_of_length_le (by omega), ht] at e
  have lo := dv_lt (gy.take m)
  rw [List.length_take, Nat.min_eq_left (by omega)] at lo
  have d0 := Nat.div_add_mod BW (t + 1)
  have d1 := Nat.mod_lt BW (show 0 < t + 1 by omega)
  rw [hf] at d0
  generalize BW % (t + 1) = r at d0 d1
  have hev : BW = 2 * 500000000 := by decide
  have p1 : BW ^ (m + 1) = BW ^ m * BW := Nat.pow_succ ..
  generalize BW ^ m = P at *
  generalize dv BW (ys.take m) = L at *
  generalize dv BW ys = Y at *
  rw [Nat.add_mul, Nat.one_mul] at d0
  have hf1 : 1 ≤ f := by
    rcases Nat.eq_zero_or_pos f with h | h
    · subst h; rw [Nat.mul_zero] at d0; omega
    · exact h
  have k1 : f ≤ t * f := Nat.le_mul_of_pos_left f hp
  refine ⟨hf1, by omega, ?_, ?_, ?_⟩
  · have : P * t * f ≤ Y * f := Nat.mul_le_mul_right f (by omega)
    rw [Nat.mul_assoc] at this
    exact this
  · have h1 : Y < P * (t + 1) := by rw [Nat.mul_add, Nat.mul_one]; omega
    have h2 : Y * f < P * (t + 1) * f := Nat.mul_lt_mul_of_pos_right h1 hf1
    have h3 : P * (t + 1) * f ≤ P * BW := by rw [Nat.mul_assoc]; exact Nat.mul_le_mul_left P (by rw [Nat.add_mul, Nat.one_mul]; omega)
    rw [p1]
    exact Nat.lt_of_lt_of_le h2 h3
  · rcases Nat.lt_or_ge f 2 with h | h
    · obtain rfl : f = 1 := by omega
      omega
    · rcases Nat.lt_or_ge t 2 with h' | h'
      · obtain rfl : t = 1 := by omega
        omega
      · have k2 : t + f ≤ t * f := by
          obtain ⟨a, rfl⟩ : ∃ a, t = a + 2 := ⟨t - 2, by omega⟩
          obtain ⟨b, rfl⟩ : ∃ b, f = b + 2 := ⟨f - 2, by omega⟩
          have : (a + 2) * (b + 2) = a * b + 2 * a + 2 * b + 4 := by grind
          omega
        omega

theorem factor_top {vs : List Nat} {m t : Nat} (gv : Cn BW vs) (h1 : dv BW vs < BW ^ (m + 1)) (h2 : BW ^ m * t ≤ dv BW vs) (ht : 1 ≤ t) : vs.length = m + 1 ∧ t ≤ vs[m]?.getD 0 := by
  have hB : 0 < BW ^ m := Nat.pow_pos (by decide)
  have hl := gv.length_le (by decide) h1
  have hg : m + 1 ≤ vs.length := by
    rcases Nat.lt_or_ge vs.length (m + 1) with h | h
    · exfalso
      have k1 := dv_lt gv.1
      have k2 : BW ^ vs.length ≤ BW ^ m := Nat.pow_le_pow_right (by decide) (by omega)
      have k3 : BW ^ m * 1 ≤ BW ^ m * t := Nat.mul_le_mul_left _ ht
      rw [Nat.mul_one] at k3
      omega
    · exact h
  have hlen : vs.length = m + 1 := by omega
  refine ⟨hlen, ?_⟩
  have e := dv_take_succ BW vs m
  rw [List.take_of_length_le (by omega)] at e
  have lo := dv_lt (gv.1.take m)
  rw [List.length_take, Nat.min_eq_left (by omega)] at lo
  generalize vs[m]?.getD 0 = u at *
  rcases Nat.lt_or_ge u t with h | h
  · exfalso
    have k : BW ^ m * (u + 1) ≤ BW ^ m * t := Nat.mul_le_mul_left _ h
    rw [Nat.mul_add, Nat.mul_one] at k
    omega
  · exact h

/-- Ahead of the first round. -/
theorem LongI.start {X Y f n m : Nat} {xs us : List Nat} (hXl : xs.length = n) (hm : m + 1 ≤ n) (gx : Dg BW xs) (gu : Dg BW us) (hX : dv BW xs = X) (hu : dv BW us = X * f) (hul : us.length ≤ n + 1) (hf : 1 ≤ f) (hfB : f < BW) (hV : BW ^ m * f ≤ Y * f) :
    LongI X f (Y * f) n (m + 1) (us ++ List.replicate (n + 1 - us.length) 0) (List.replicate (n - (m + 1) + 1) 0) (n - (m + 1) + 1) := by
  have hd : dv BW (us ++ List.replicate (n + 1 - us.length) 0) = X * f := by
    rw [dv_append, dv_replicate, Nat.mul_zero, Nat.add_zero, hu]
  refine { ll := by rw [List.length_append, List.length_replicate]; omega, ql := List.length_replicate, gl := Dg.append gu (Dg.replicate (by decide) _), gq := Dg.replicate (by decide) _, val := by rw [hd, dv_replicate, Nat.mul_zero, Nat.add_zero], top := ?_, low := fun i hi => ?_ }
  · have e := dv_take_drop BW (us ++ List.replicate (n + 1 - us.length) 0) (n - (m + 1) + 1) (by rw [List.length_append, List.length_replicate]; omega)
    rw [hd] at e
    have lx := dv_lt gx
    rw [hXl, hX] at lx
    have hpow : BW ^ n = BW ^ (n - (m + 1) + 1) * BW ^ m := by rw [← Nat.pow_add]; congr 1; omega
    generalize dv BW ((us ++ List.replicate (n + 1 - us.length) 0).drop (n - (m + 1) + 1)) = D at *
    rcases Nat.lt_or_ge D (Y * f) with h | h
    · exact h
    · exfalso
      have k1 : BW ^ (n - (m + 1) + 1) * (BW ^ m * f) ≤ BW ^ (n - (m + 1) + 1) * D := Nat.mul_le_mul_left _ (Nat.le_trans hV h)
      have k2 : X * f < BW ^ n * f := Nat.mul_lt_mul_of_pos_right lx hf
      rw [hpow, Nat.mul_assoc] at k2
      omega
  · rw [List.getElem?_replicate]; split <;> rfl

/-- Behind the last round. -/
theorem LongI.done {X Y f n m : Nat} {ls qs rs : List Nat} {r : Nat} (h : LongI X f (Y * f) n m ls qs 0) (hf : 1 ≤ f) (hr : r < f) (hrs : dv BW ls = dv BW rs * f + r) : X = Y * dv BW qs + dv BW rs ∧ dv BW rs < Y := by
  have ht := h.top
  have hv := h.val
  rw [List.drop_zero] at ht
  rw [hrs] at ht hv
  have e1 : f * X = f * (dv BW rs + Y * dv BW qs) + r := by
    rw [Nat.mul_comm f X, hv, Nat.mul_add, Nat.mul_comm f (dv BW rs), Nat.mul_assoc Y f, Nat.mul_comm Y (f * dv BW qs), Nat.mul_comm Y (dv BW qs), Nat.mul_assoc]
    omega
  have e2 : X = dv BW rs + Y * dv BW qs := by
    have q1 : (f * X) / f = X := Nat.mul_div_cancel_left X (by omega)
    have q2 : (f * (dv BW rs + Y * dv BW qs) + r) / f = dv BW rs + Y * dv BW qs := by
      rw [Nat.add_comm, Nat.add_mul_div_left _ _ (by omega), Nat.div_eq_of_lt hr, Nat.zero_add]
    rw [← q1, e1, q2]
  refine ⟨by omega, ?_⟩
  exact Nat.lt_of_mul_lt_mul_right (a := f) (by omega)

end Go.Proofs.YtimcbmgmngkagaaDoor

namespace Go.Proofs.YtimcbmgmngkagaaDoor

def isDg (c : UInt8) : Bool := decide (48 ≤ c.toNat ∧ c.toNat ≤ 57)
/-- What stands behind a minus, if there is one. -/
def digitsOf : List UInt8 → List UInt8
  | [] => []
  | c :: t => if c = 45 then t else c :: t
def isNeg : List UInt8 → Bool
  | [] => false
  | c :: _ => c == 45
/-- The form of an integer (R6), whatever its length. -/
def plainB (l : List UInt8) : Bool := (!(digitsOf l).isEmpty) && (digitsOf l).all isDg && ((digitsOf l).head? != some 48 || l == [48])
/-- A number: at most 2000 digits. -/
def numB (l : List UInt8) : Bool := plainB l && decide ((digitsOf l).length ≤ 2000)
/-- What decimal digits say, the highest first. -/
def decV (l : List UInt8) : Nat := l.foldl (fun a c => a * 10 + (c.toNat - 48)) 0
/-- The integer of a string. -/
def strV (l : List UInt8) : Int := if isNeg l then -(decV (digitsOf l) : Int) else (decV (digitsOf l) : Int)

theorem decV_snoc (l : List UInt8) (c : UInt8) : decV (l ++ [c]) = decV l * 10 + (c.toNat - 48) := by
  unfold decV; rw [List.foldl_append]; rfl

end Go.Proofs.YtimcbmgmngkagaaDoor

namespace Go.Proofs.YtimcbmgmngkagaaDoor
open Go.RowKit

theorem trim_digits (l : List UInt8) : Lib.trimPrefix l [45] = digitsOf l := by
  cases l with
  | nil => rfl
  | cons c t =>
    unfold Lib.trimPrefix Lib.hasPrefix digitsOf
    by_cases h : c = 45
    · subst h; simp
    · simp [h, Ne.symm h]

/-- strings.TrimPrefix(s, "-") -/
theorem trimMinus (s : ByteArray) (w : World) :
    Calls Tryd.prog 29 #[.string s, .string ⟨#[45]⟩] w fun e w' => e = .returned (.string ⟨(digitsOf s.data.toList).toArray⟩) ∧ w = w' := by
  refine (Tryd.strings_TrimPrefix s ⟨#[45]⟩ w).mono ?_
  rintro e w' ⟨rfl, rfl⟩
  exact ⟨by rw [← trim_digits], rfl⟩

theorem digitsOf_le (l : List UInt8) : (digitsOf l).length ≤ l.length := by
  cases l with
  | nil => exact Nat.le_refl _
  | cons c t => rw [digitsOf.eq_2]; split <;> simp

theorem isDg_of {c : UInt8} (h : isDg c = true) : 48 ≤ c.toNat ∧ c.toNat ≤ 57 := by simpa [isDg] using h

set_option maxHeartbeats 1000000 in
theorem is_any (s : ByteArray) (w : World) (hs : s.size ≤ maxLen) :
    Calls Tryd.prog 14 #[.string s] w fun e w' => e = .returned (.bool (numB s.data.toList)) ∧ Below w.heap.size w w' := by
  unfold maxLen at hs
  have hl : (digitsOf s.data.toList).length ≤ s.size := digitsOf_le _
  obtain ⟨ds, hds⟩ : ∃ ds, digitsOf s.data.toList = ds := ⟨_, rfl⟩
  have hfin : numB s.data.toList = ((!ds.isEmpty) && ds.all isDg && (ds.head? != some 48 || s.data.toList == [48]) && decide (ds.length ≤ 2000)) := by unfold numB plainB; rw [hds]
  rw [hds] at hl
  have HD := Lib.hid hds
  have HF := Lib.hid hfin
  clear hds hfin
  by_cases hn : ds = []
  · subst hn
    go_enter Tryd.func14, Tryd.ntmps14
    go_wp2_with (go_at_call 29; refine (trimMinus _ _).mono ?_; rintro e w' ⟨rfl, rfl⟩; rw [HD.out])
    go_ret
    refine ⟨?_, Below.refl _ _⟩
    rw [HF.out]; rfl
  · have h0 : 0 < ds.length := List.length_pos_iff.2 hn
    have he : ds.isEmpty = false := by simpa using hn
    have HN := Lib.hid hn
    clear hn
    by_cases h1 : (2000 : Int) < (ds.length : Int)
    · go_enter Tryd.func14, Tryd.ntmps14
      go_wp2_with (go_at_call 29; refine (trimMinus _ _).mono ?_; rintro e w' ⟨rfl, rfl⟩; rw [HD.out])
      go_ret
      refine ⟨?_, Below.refl _ _⟩
      rw [HF.out]
      simp; omega
    · have h2 : (ds.length : Int) ≤ 2000 := by omega
      clear h1
      have hpos : 0 < (⟨ds.toArray⟩ : ByteArray).size := by show 0 < ds.toArray.size; simpa using h0
      have hcz : ∀ b, ((((⟨ds.toArray⟩ : ByteArray)[0]'hpos).toNat : Int) == 48) = b → (ds.head? == some 48) = b := by
        intro b hb
        obtain ⟨c, t, rfl⟩ : ∃ c t, ds = c :: t := ⟨_, _, (List.cons_head_tail HN.out).symm⟩
        have hb' : ((c.toNat : Int) == 48) = b := hb
        rw [← hb', Bool.eq_iff_iff]
        simp only [List.head?_cons, beq_iff_eq, Option.some.injEq]
        constructor
        · intro h; subst h; rfl
        · intro h; exact UInt8.toNat_inj.1 (show c.toNat = 48 by omega)
      by_cases hz : ((((⟨ds.toArray⟩ : ByteArray)[0]'hpos).toNat : Int) == 48) = true ∧ (!s.toList == [48]) = true
      · obtain ⟨hz, ha⟩ := hz
        have hhd : (ds.head? != some 48 || s.data.toList == [48]) = false := by
          rw [Lib.toList_data] at ha
          have := hcz true hz
          simp at ha this
          simp [this, ha]
        have HH := Lib.hid hhd
        clear hhd hcz
        go_enter Tryd.func14, Tryd.ntmps14
        go_wp2_with (go_at_call 29; refine (trimMinus _ _).mono ?_; rintro e w' ⟨rfl, rfl⟩; rw [HD.out])
        go_ret
        refine ⟨?_, Below.refl _ _⟩
        rw [HF.out, HH.out]; simp
      · have hhd : (ds.head? != some 48 || s.data.toList == [48]) = true := by
          rw [Lib.toList_data] at hz
          cases hq : ((((⟨ds.toArray⟩ : ByteArray)[0]'hpos).toNat : Int) == 48) with
          | false => have := hcz false hq; simp at this; simp [this]
          | true => rw [hq] at hz; simp at hz; simp [hz]
        have hab : ((((⟨ds.toArray⟩ : ByteArray)[0]'hpos).toNat : Int) == 48) = false ∨ ((((⟨ds.toArray⟩ : ByteArray)[0]'hpos).toNat : Int) == 48) = true ∧ (!s.toList == [48]) = false := by
          cases hq : ((((⟨ds.toArray⟩ : ByteArray)[0]'hpos).toNat : Int) == 48) with
          | false => exact Or.inl rfl
          | true => rw [hq] at hz; simp at hz; exact Or.inr ⟨rfl, by simp [hz]⟩
        have HH := Lib.hid hhd
        clear hhd hcz hz
        rcases hab with hz | ⟨hz, ha⟩
        all_goals
          go_enter Tryd.func14, Tryd.ntmps14
          go_wp2_with (go_at_call 29; refine (trimMinus _ _).mono ?_; rintro e w' ⟨rfl, rfl⟩; rw [HD.out])
          go_loopw [5] (fun _ wr => ∃ k : Nat, k ≤ ds.length ∧ wr = w.iter ⟨ds.toArray⟩ k ∧ Hid ((ds.take k).all isDg = true)) (fun _ wr => ds.length - wr.iterPos w.heap.size)
          case atStart => exact ⟨0, Nat.zero_le _, rfl, rfl⟩
          case round =>
            obtain ⟨k, hk, rfl, hp⟩ := hrel
            by_cases hlt : k < ds.length
            · have hsz : k < (⟨ds.toArray⟩ : ByteArray).size := by show k < ds.toArray.size; simpa using hlt
              have hb : (⟨ds.toArray⟩ : ByteArray)[k]'hsz = ds[k] := rfl
              have htk : ds.take (k + 1) = ds.take k ++ [ds[k]] := List.take_succ_eq_append_getElem hlt
              by_cases hd : isDg ds[k] = true
              · obtain ⟨d1, d2⟩ := isDg_of hd
                have hnext := fun ty => run_next_ascii (P := Tryd.prog) w ⟨ds.toArray⟩ k ty hsz (by rw [hb]; omega)
                rw [hb] at hnext
                obtain ⟨c, hc⟩ : ∃ c : Nat, ds[k].toNat = c := ⟨_, rfl⟩
                have HP : Hid ((ds.take (k + 1)).all isDg = true) := by
                  show (ds.take (k + 1)).all isDg = true
                  rw [htk, List.all_append, hp.out]; simp [hd]
                rw [hc] at d1 d2 hnext
                clear hc htk hd hb
                go_wp2
                go_roundw
                case rel =>
                  exact ⟨k + 1, by omega, rfl, HP⟩
                case measure => simp; omega
              · have hfalse : numB s.data.toList = false := by
                  rw [HF.out]
                  have : ds.all isDg = false := by
                    rw [← Bool.not_eq_true]; intro h
                    exact hd (List.all_eq_true.1 h _ (List.getElem_mem hlt))
                  rw [this]; simp
                have HFF := Lib.hid hfalse
                have hlo : ds[k].toNat < 48 ∨ 57 < ds[k].toNat := by
                  have : ¬ (48 ≤ ds[k].toNat ∧ ds[k].toNat ≤ 57) := by simpa [isDg] using hd
                  omega
                by_cases ha : ds[k].toNat < 128
                · have hnext := fun ty => run_next_ascii (P := Tryd.prog) w ⟨ds.toArray⟩ k ty hsz (by rw [hb]; exact ha)
                  rw [hb] at hnext
                  obtain ⟨c, hc⟩ : ∃ c : Nat, ds[k].toNat = c := ⟨_, rfl⟩
                  rw [hc] at hlo hnext
                  clear hc htk hd hb ha hfalse
                  rcases hlo with hlo | hlo
                  all_goals
                    go_wp2
                    go_ret
                    exact ⟨ret_val (congrArg Value.bool HFF.out.symm), (Below.refl w.heap.size w).alloc (Nat.le_refl _) _⟩
                · obtain ⟨e1, e2⟩ := decode_high ⟨ds.toArray⟩ k hsz (by rw [hb]; omega)
                  have e3 := decode_le ⟨ds.toArray⟩ k
                  have hnext := fun ty => run_next_any (P := Tryd.prog) w ⟨ds.toArray⟩ k ty hsz
                  obtain ⟨r, hr⟩ : ∃ r, Utf8.decode ⟨ds.toArray⟩ k = r := ⟨_, rfl⟩
                  rw [hr] at e1 e2 e3 hnext
                  obtain ⟨r1, r2⟩ := r
                  dsimp only at e1 e2 e3 hnext
                  clear hr htk hd hb ha hfalse hlo
                  go_wp2
                  go_ret
                  exact ⟨ret_val (congrArg Value.bool HFF.out.symm), (Below.refl w.heap.size w).alloc (Nat.le_refl _) _⟩
            · obtain rfl : k = ds.length := by omega
              have hsz : ¬ ds.length < (⟨ds.toArray⟩ : ByteArray).size := by show ¬ ds.length < ds.toArray.size; simp
              have hnext := fun ty => run_next_end (P := Tryd.prog) w ⟨ds.toArray⟩ ds.length ty hsz
              go_wp2
              go_ret
              refine ⟨?_, (Below.refl w.heap.size w).alloc (Nat.le_refl _) _⟩
              have hp' := hp.out
              rw [List.take_of_length_le (Nat.le_refl _)] at hp'
              rw [HF.out, HH.out, hp', he]
              simp; omega
end Go.Proofs.YtimcbmgmngkagaaDoor

namespace Go.Proofs.YtimcbmgmngkagaaDoor
open Go.RowKit

set_option maxHeartbeats 800000 in
theorem subtractWords_any (p q : Option Addr) (n c m d : Nat) (xs ys : List Nat) (w : World) (hn : n ≤ 1000000000) (hm : m ≤ n)
    (hx : Rd .u64 w p n xs) (hy : Rd .u64 w q m ys) (gx : Dg BW xs) (gy : Dg BW ys) (hle : dv BW ys ≤ dv BW xs) :
    Calls Tryd.prog 43 #[.slice p n c, .slice q m d] w (Words w fun zs => dv BW zs + dv BW ys = dv BW xs) := by
  have hmk : ∀ w, (Instr.makeSlice 45 (.int .i64 (n : Int)) (.int .i64 (n : Int))).run Tryd.prog w = .ok (.slice (some ⟨w.heap.size, 0, none⟩) n n) (w.alloc (.cells (Go.madeCells #[.int .u64 0] n) 73)) := fun w => mkWords n (by omega) w
  have hbn : Below w.heap.size w (w.alloc (.cells (Go.madeCells #[.int .u64 0] n) 73)) := (Below.refl _ w).alloc (Nat.le_refl _) _
  have hown0 := Own.new .u64 73 w n
  have HLE := Lib.hid hle
  clear hle
  go_enter Tryd.func43, Tryd.ntmps43
  go_wp2
  go_loopw [6, 15] (fun c i wr => ∃ (k y : Nat) (zs : List Nat), k ≤ n ∧ y ≤ 1 ∧ c = .int .u64 y ∧ i = .int .i64 k ∧ Hid (zs.length = k ∧ Dg BW zs ∧ dv BW zs + dv BW (ys.take k) = dv BW (xs.take k) + BW ^ k * y)
      ∧ Own .u64 73 wr w.heap.size (zs ++ List.replicate (n - k) 0) ∧ Below w.heap.size w wr) (fun _ i _ => n - (intOf i).toNat)
  case atStart => exact ⟨0, 0, [], Nat.zero_le _, Nat.zero_le _, rfl, rfl, ⟨rfl, Dg.nil _, by simp [dv]⟩, hown0, hbn⟩
  case round =>
    obtain ⟨k, y, zs, hk, hy1, rfl, rfl, hz, hown, hbel⟩ := hrel
    by_cases hlt : k < n
    · obtain ⟨b, off, rfl, hb, hcell⟩ := (hx.below hbel).2 k hlt
      by_cases hkm : k < m
      · obtain ⟨b', off', rfl, hb', hcell'⟩ := (hy.below hbel).2 k hkm
        have hcz := hown.cell k (by have := hz.out.1; simp; omega)
        have hfz := hown.frozen k
        have b1 : xs[k]?.getD 0 < 1000000000 := gx.get (by decide) k
        have b2 : ys[k]?.getD 0 < 1000000000 := gy.get (by decide) k
        by_cases hw : xs[k]?.getD 0 < y + ys[k]?.getD 0
        · go_wp2
          go_roundw
          case rel =>
            obtain ⟨z1, z2, z3⟩ := hz.out
            have e2 : ((xs[k]?.getD 0 : Nat) : Int) + 1000000000 - ((y : Int) + (ys[k]?.getD 0 : Nat)) = ((xs[k]?.getD 0 + 1000000000 - (y + ys[k]?.getD 0) : Nat) : Int) := by omega
            rw [e2]
            have g := sub_step (b := BW) (x := xs[k]?.getD 0) (y := ys[k]?.getD 0) (d := xs[k]?.getD 0 + 1000000000 - (y + ys[k]?.getD 0)) (br := 1) z3 (by show _ = _ + 1000000000 * _; omega)
            refine ⟨k + 1, 1, zs ++ [xs[k]?.getD 0 + 1000000000 - (y + ys[k]?.getD 0)], by omega, by omega, rfl, by go_num, ⟨by simp [z1], z2.append (Dg.cons (show _ < 1000000000 by omega) (Dg.nil _)), ?_⟩, ?_, ?_⟩
            · rw [dv_snoc, z1, dv_take_succ, dv_take_succ]; exact g
            · subst z1; exact hown.fill (by omega) _ rfl _
            · exact hbel.setCell (by simp) _
          case measure => simp [intOf]; omega
        · go_wp2
          go_roundw
          case rel =>
            obtain ⟨z1, z2, z3⟩ := hz.out
            have e2 : ((xs[k]?.getD 0 : Nat) : Int) - ((y : Int) + (ys[k]?.getD 0 : Nat)) = ((xs[k]?.getD 0 - (y + ys[k]?.getD 0) : Nat) : Int) := by omega
            rw [e2]
            have g := sub_step (b := BW) (x := xs[k]?.getD 0) (y := ys[k]?.getD 0) (d := xs[k]?.getD 0 - (y + ys[k]?.getD 0)) (br := 0) z3 (by show _ = _ + 1000000000 * _; omega)
            refine ⟨k + 1, 0, zs ++ [xs[k]?.getD 0 - (y + ys[k]?.getD 0)], by omega, by omega, rfl, by go_num, ⟨by simp [z1], z2.append (Dg.cons (show _ < 1000000000 by omega) (Dg.nil _)), ?_⟩, ?_, ?_⟩
            · rw [dv_snoc, z1, dv_take_succ, dv_take_succ]; exact g
            · subst z1; exact hown.fill (by omega) _ rfl _
            · exact hbel.setCell (by simp) _
          case measure => simp [intOf]; omega
      · have e0 : ys[k]?.getD 0 = 0 := by rw [List.getElem?_eq_none (by have := hy.1; omega)]; rfl
        have hcz := hown.cell k (by have := hz.out.1; simp; omega)
        have hfz := hown.frozen k
        have b1 : xs[k]?.getD 0 < 1000000000 := gx.get (by decide) k
        by_cases hw : xs[k]?.getD 0 < y
        · go_wp2
          go_roundw
          case rel =>
            obtain ⟨z1, z2, z3⟩ := hz.out
            have e2 : ((xs[k]?.getD 0 : Nat) : Int) + 1000000000 - ((y : Int)) = ((xs[k]?.getD 0 + 1000000000 - (y) : Nat) : Int) := by omega
            rw [e2]
            have g := sub_step (b := BW) (x := xs[k]?.getD 0) (y := ys[k]?.getD 0) (d := xs[k]?.getD 0 + 1000000000 - (y)) (br := 1) z3 (by show _ = _ + 1000000000 * _; rw [e0]; omega)
            refine ⟨k + 1, 1, zs ++ [xs[k]?.getD 0 + 1000000000 - (y)], by omega, by omega, rfl, by go_num, ⟨by simp [z1], z2.append (Dg.cons (show _ < 1000000000 by omega) (Dg.nil _)), ?_⟩, ?_, ?_⟩
            · rw [dv_snoc, z1, dv_take_succ, dv_take_succ]; exact g
            · subst z1; exact hown.fill (by omega) _ rfl _
            · exact hbel.setCell (by simp) _
          case measure => simp [intOf]; omega
        · go_wp2
          go_roundw
          case rel =>
            obtain ⟨z1, z2, z3⟩ := hz.out
            have e2 : ((xs[k]?.getD 0 : Nat) : Int) - ((y : Int)) = ((xs[k]?.getD 0 - (y) : Nat) : Int) := by omega
            rw [e2]
            have g := sub_step (b := BW) (x := xs[k]?.getD 0) (y := ys[k]?.getD 0) (d := xs[k]?.getD 0 - (y)) (br := 0) z3 (by show _ = _ + 1000000000 * _; rw [e0]; omega)
            refine ⟨k + 1, 0, zs ++ [xs[k]?.getD 0 - (y)], by omega, by omega, rfl, by go_num, ⟨by simp [z1], z2.append (Dg.cons (show _ < 1000000000 by omega) (Dg.nil _)), ?_⟩, ?_, ?_⟩
            · rw [dv_snoc, z1, dv_take_succ, dv_take_succ]; exact g
            · subst z1; exact hown.fill (by omega) _ rfl _
            · exact hbel.setCell (by simp) _
          case measure => simp [intOf]; omega
    · obtain rfl : k = n := by omega
      have hz1 := hz.out.1
      have hown2 : Own .u64 73 wr w.heap.size zs := by simpa using hown
      go_wp2_with (go_at_call 53; refine (trimmed_any _ _ _ zs _ (by unfold maxLen; omega) (Nat.le_refl _) (hown2.rd hz1)).mono ?_; rintro e w' ⟨rfl, rfl⟩)
      go_ret
      obtain ⟨z1, z2, z3⟩ := hz.out
      have g1 : trimLen zs k ≤ k := trimLen_le _ _
      refine ⟨_, _, _, trimZ zs, rfl, ?_, Nat.le_refl _, trimZ_cn z2, ?_, hbel⟩
      · unfold trimZ; rw [z1]; exact (hown2.rd z1).take _ g1
      · show dv BW (trimZ _) + _ = _
        rw [List.take_of_length_le (by rw [hy.1]; exact hm), List.take_of_length_le (by rw [hx.1]; exact Nat.le_refl _)] at z3
        rw [dv_trimZ]
        exact sub_end z3 (by rw [← z1]; exact dv_lt z2) hy1 HLE.out
end Go.Proofs.YtimcbmgmngkagaaDoor

namespace Go.Proofs.YtimcbmgmngkagaaDoor
open Go.RowKit

/-- What the outer loop has done: i words of x. -/
def MulOut (xs ys zs : List Nat) (i : Nat) : Prop :=
  zs.length = xs.length + ys.length ∧ Dg BW zs ∧ dv BW zs = dv BW (xs.take i) * dv BW ys ∧ ∀ t, i + ys.length ≤ t → zs[t]?.getD 0 = 0

/-- What the inner loop has done: word i of x, j words of y. -/
def MulIn (xs ys z0 zs : List Nat) (i j c : Nat) : Prop :=
  zs.length = xs.length + ys.length ∧ Dg BW zs ∧ c < BW ∧ dv BW zs + BW ^ (i + j) * c = dv BW z0 + BW ^ i * (xs[i]?.getD 0 * dv BW (ys.take j)) ∧ ∀ t, i + ys.length ≤ t → zs[t]?.getD 0 = 0

theorem MulIn.start {xs ys zs : List Nat} {i : Nat} (h : MulOut xs ys zs i) : MulIn xs ys zs zs i 0 0 :=
  ⟨h.1, h.2.1, by decide, by simp [dv], h.2.2.2⟩

theorem MulIn.step {xs ys z0 zs : List Nat} {i j c : Nat} (h : MulIn xs ys z0 zs i j c) (hi : i < xs.length) (hj : j < ys.length) (gx : Dg BW xs) (gy : Dg BW ys) :
    MulIn xs ys z0 (zs.set (i + j) ((c + (xs[i]?.getD 0 * ys[j]?.getD 0 + zs[i + j]?.getD 0)) % BW)) i (j + 1) ((c + (xs[i]?.getD 0 * ys[j]?.getD 0 + zs[i + j]?.getD 0)) / BW) := by
  obtain ⟨h1, h2, h3, h4, h5⟩ := h
  refine ⟨by simp [h1], h2.set _ (Nat.mod_lt _ (by decide)), ?_, ?_, ?_⟩
  · rw [Nat.div_lt_iff_lt_mul (by decide)]
    exact mul_fits (by decide) h3 (gx.get (by decide) i) (gy.get (by decide) j) (h2.get (by decide) (i + j))
  · have g := mul_place (b := BW) (zs := zs) (at_ := i + j) (x := xs[i]?.getD 0) (w := ys[j]?.getD 0) (c := c) (by omega) rfl
    rw [← Nat.add_assoc i j 1, g, h4, dv_take_succ, Nat.mul_add, Nat.mul_add, Nat.pow_add]
    grind
  · intro t ht
    rw [set_get_other _ _ _ _ (by omega)]; exact h5 t ht

theorem MulIn.finish {xs ys z0 zs : List Nat} {i c : Nat} (h : MulIn xs ys z0 zs i ys.length c) (h0 : MulOut xs ys z0 i) (hi : i < xs.length) : MulOut xs ys (zs.set (i + ys.length) c) (i + 1) := by
  obtain ⟨h1, h2, h3, h4, h5⟩ := h
  refine ⟨by simp [h1], h2.set _ h3, ?_, ?_⟩
  · have g := dv_set BW zs (i + ys.length) c (by omega)
    rw [h5 _ (Nat.le_refl _), Nat.mul_zero, Nat.add_zero] at g
    rw [g, h4, dv_take_succ, List.take_of_length_le (Nat.le_refl _), h0.2.2.1, Nat.add_mul, Nat.mul_assoc]
  · intro t ht
    rw [set_get_other _ _ _ _ (by omega)]; exact h5 t (by omega)

theorem MulIn.small {xs ys z0 zs : List Nat} {i j c : Nat} (h : MulIn xs ys z0 zs i j c) : c < 1000000000 := h.2.2.1

set_option maxHeartbeats 1600000 in
theorem multiplyWords_any (p q : Option Addr) (n c m d : Nat) (xs ys : List Nat) (w : World) (hn : n ≤ 1000000000) (hm : m ≤ 1000000000)
    (hx : Rd .u64 w p n xs) (hy : Rd .u64 w q m ys) (gx : Dg BW xs) (gy : Dg BW ys) :
    Calls Tryd.prog 40 #[.slice p n c, .slice q m d] w (Words w fun zs => dv BW zs = dv BW xs * dv BW ys) := by
  have hmk : ∀ w, (Instr.makeSlice 45 (.int .i64 ((n : Int) + (m : Int))) (.int .i64 ((n : Int) + (m : Int)))).run Tryd.prog w = .ok (.slice (some ⟨w.heap.size, 0, none⟩) (n + m) (n + m)) (w.alloc (.cells (Go.madeCells #[.int .u64 0] (n + m)) 73)) := fun w => mkWords (n + m) (by omega) w
  have hbn : Below w.heap.size w (w.alloc (.cells (Go.madeCells #[.int .u64 0] (n + m)) 73)) := (Below.refl _ w).alloc (Nat.le_refl _) _
  have hown0 := Own.new .u64 73 w (n + m)
  go_enter Tryd.func40, Tryd.ntmps40
  go_wp2
  go_loopw [19] (fun i wr => ∃ (k : Nat) (zs : List Nat), k ≤ n ∧ i = .int .i64 k ∧ MulOut xs ys zs k ∧ Own .u64 73 wr w.heap.size zs ∧ Below w.heap.size w wr) (fun i _ => n - (intOf i).toNat)
  case atStart => exact ⟨0, _, Nat.zero_le _, rfl, ⟨by simp [hx.1, hy.1], Dg.replicate (by decide) _, by rw [dv_replicate]; simp [dv], fun t _ => by rw [List.getElem?_replicate]; split <;> rfl⟩, hown0, hbn⟩
  case round =>
    obtain ⟨k, z0, hk, rfl, hout, hown, hbel⟩ := hrel
    by_cases hlt : k < n
    · obtain ⟨b, off, rfl, hb, hcell⟩ := (hx.below hbel).2 k hlt
      obtain ⟨wo, rfl⟩ : ∃ wo : World, wo = wr := ⟨_, rfl⟩
      obtain ⟨a, ha⟩ : ∃ a, xs[k]?.getD 0 = a := ⟨_, rfl⟩
      have a1 : a < 1000000000 := by rw [← ha]; exact gx.get (by decide) k
      rw [ha] at hcell
      have HA := Lib.hid ha
      clear ha
      go_wp2
      go_loopw [8, 26] (fun c j wr => ∃ (t y : Nat) (zs : List Nat), t ≤ m ∧ c = .int .u64 y ∧ j = .int .i64 t ∧ MulIn xs ys z0 zs k t y ∧ Own .u64 73 wr w.heap.size zs ∧ Below w.heap.size w wr) (fun _ j _ => m - (intOf j).toNat)
      case atStart => exact ⟨0, 0, z0, Nat.zero_le _, rfl, rfl, MulIn.start hout, hown, hbel⟩
      case round =>
        obtain ⟨t, y, zs, ht, rfl, rfl, hin, hown1, hbel1⟩ := hrel
        have b3 := hin.small
        have HX := Lib.hid hx.1
        have HY := Lib.hid hy.1
        by_cases htm : t < m
        · obtain ⟨b', off', rfl, hb', hcell'⟩ := (hy.below hbel1).2 t htm
          have hcz := hown1.cell (k + t) (by rw [hin.1, HX.out, HY.out]; omega)
          have hfz := hown1.frozen (k + t)
          have hst := hin.step (by rw [HX.out]; exact hlt) (by rw [HY.out]; exact htm) gx gy
          have hset := hown1.set (k + t) ((y + (xs[k]?.getD 0 * ys[t]?.getD 0 + zs[k + t]?.getD 0)) % BW)
          obtain ⟨u, hu⟩ : ∃ u, ys[t]?.getD 0 = u := ⟨_, rfl⟩
          obtain ⟨z, hz⟩ : ∃ z, zs[k + t]?.getD 0 = z := ⟨_, rfl⟩
          have u1 : u < 1000000000 := by rw [← hu]; exact gy.get (by decide) t
          have z1 : z < 1000000000 := by rw [← hz]; exact hin.2.1.get (by decide) (k + t)
          obtain ⟨p1, p2⟩ := prod_bound a1 u1
          rw [hu] at hcell'
          rw [hz] at hcz
          rw [HA.out, hu, hz] at hst hset
          clear hu hz
          go_wp2
          go_roundw
          case rel =>
            have e1 : ((y : Int) + ((a : Int) * (u : Int) + (z : Int))) / 1000000000 = (((y + (a * u + z)) / BW : Nat) : Int) := by
              rw [Int.natCast_ediv]; simp
            have e2 : ((y : Int) + ((a : Int) * (u : Int) + (z : Int))) % 1000000000 = (((y + (a * u + z)) % BW : Nat) : Int) := by
              rw [Int.natCast_emod]; simp
            rw [e1, e2]
            exact ⟨t + 1, _, _, by omega, rfl, by go_num, hst, hset, hbel1.setCell (by simp) _⟩
          case measure => simp [intOf]; omega
        · obtain rfl : t = m := by omega
          have hcz := hown1.cell (k + t) (by rw [hin.1, HX.out, HY.out]; omega)
          have hfz := hown1.frozen (k + t)
          have hset := hown1.set (k + t) y
          have hfin := (show MulIn xs ys z0 zs k ys.length y by rw [HY.out]; exact hin).finish hout (by rw [HX.out]; exact hlt)
          rw [HY.out] at hfin
          go_wp2
          go_roundw
          case rel => exact ⟨k + 1, _, by omega, by go_num, hfin, hset, hbel1.setCell (by simp) _⟩
          case measure => simp [intOf]; omega
    · obtain rfl : k = n := by omega
      have z1 := hout.1
      have hl : z0.length = k + m := by rw [z1, hx.1, hy.1]
      have z2 := hout.2.1
      have z3 := hout.2.2.1
      have H1 := Lib.hid (And.intro hl z3)
      clear z1 hl z3
      go_wp2_with (go_at_call 53; refine (trimmed_any _ _ _ z0 _ (by unfold maxLen; omega) (Nat.le_refl _) (hown.rd H1.out.1)).mono ?_; rintro e w' ⟨rfl, rfl⟩)
      go_ret
      have hl := H1.out.1
      have g1 : trimLen z0 (k + m) ≤ k + m := trimLen_le _ _
      refine ⟨_, _, _, trimZ z0, rfl, ?_, Nat.le_refl _, trimZ_cn z2, ?_, hbel⟩
      · unfold trimZ; rw [hl]; exact (hown.rd hl).take _ g1
      · show dv BW (trimZ _) = _
        rw [dv_trimZ, H1.out.2, List.take_of_length_le (by rw [hx.1]; exact Nat.le_refl _)]
end Go.Proofs.YtimcbmgmngkagaaDoor
