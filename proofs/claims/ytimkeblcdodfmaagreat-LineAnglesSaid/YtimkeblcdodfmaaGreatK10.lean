/-
  The reference of planes: sizes, divisors, whether planes are right; The reference of planes: whether planes are right; The reference of planes: sides, normals; The reference of planes: cross products, the order; Rows of the call's own that grow by one: digits, bytes; int64 to string and back; The reference: the string of an integer.
-/
import Derived.Lib.AtoiErrMem
import Derived.Lib.ParseIntB
import Derived.Lib.ParseIntBCases
import Derived.Test.YtimkeblcdodfmaaGreatK1
import Derived.Test.YtimkeblcdodfmaaGreatK2
import Derived.Test.YtimkeblcdodfmaaGreatK3
import Derived.Test.YtimkeblcdodfmaaGreatK4
import Derived.Test.YtimkeblcdodfmaaGreatK5
import Derived.Test.YtimkeblcdodfmaaGreatK6
import Derived.Test.YtimkeblcdodfmaaGreatK7
import Derived.Test.YtimkeblcdodfmaaGreatK8
namespace Go.Proofs.YtimkeblcdodfmaaGreat
open Go.RowKit Go.Shelf
attribute [local go_sem] Oper.semAt_some

/-- An absolute value, of the least integer the greatest. -/
def sizeZ (x : Int) : Int := if x = -9223372036854775808 then 9223372036854775807 else (x.natAbs : Int)

set_option maxHeartbeats 1000000 in
theorem size3_any (x : Int) (w : World) (h : InI64 x) :
    Calls Tryz.prog 58 #[.int .i64 x] w fun e w' => e = .returned (.int .i64 (sizeZ x)) ∧ w' = w := by
  unfold InI64 at h
  by_cases h0 : x = -9223372036854775808
  · subst h0
    have hl : wrap64 9223372036854775808 = -9223372036854775808 := by unfold wrap64; rfl
    clear h
    go_enter Tryz.func58, Tryz.ntmps58
    go_wp2_with fail
    go_ret
    exact ⟨rfl, rfl⟩
  · have hw : wrap64 (-x) = -x := by unfold wrap64; omega
    have hs : sizeZ x = (x.natAbs : Int) := by unfold sizeZ; rw [if_neg h0]
    by_cases hz : x = 0
    · subst hz
      clear h0 hs
      go_enter Tryz.func58, Tryz.ntmps58
      go_wp2_with fail
      go_ret
      exact ⟨rfl, rfl⟩
    · have hne : (x == -x) = false := by simp; omega
      have hm : max x (-x) = (x.natAbs : Int) := by omega
      have HS := Lib.hid hs
      have HM := Lib.hid hm
      clear h0 hs hz hm
      go_enter Tryz.func58, Tryz.ntmps58
      go_wp2_with fail
      go_ret
      exact ⟨congrArg (fun z : Int => Ending.returned (.int .i64 z)) (HM.out.trans HS.out.symm), rfl⟩

theorem sizeZ_nat {x : Int} (h : InI64 x) : ∃ n : Nat, sizeZ x = (n : Int) ∧ n < 9223372036854775808 := by
  unfold InI64 at h
  unfold sizeZ
  split
  · exact ⟨9223372036854775807, rfl, by decide⟩
  · exact ⟨x.natAbs, rfl, by omega⟩

set_option maxHeartbeats 2000000 in
theorem gcd3_any (a b : Int) (w : World) (ha : InI64 a) (hb : InI64 b) :
    Calls Tryz.prog 43 #[.int .i64 a, .int .i64 b] w fun e w' => e = .returned (.int .i64 ((Int.gcd (sizeZ a) (sizeZ b) : Nat) : Int)) ∧ ∃ k, w' = w.drewN k := by
  have s1 := fun W => size3_any a W ha
  have s2 := fun W => size3_any b W hb
  obtain ⟨m, hm, hm1⟩ := sizeZ_nat ha
  obtain ⟨n, hn, hn1⟩ := sizeZ_nat hb
  rw [hm] at s1
  rw [hn] at s2
  rw [hm, hn]
  obtain ⟨G, hG⟩ : ∃ G, Int.gcd (m : Int) (n : Int) = G := ⟨_, rfl⟩
  have hG' : Nat.gcd m n = G := hG
  rw [hG]
  have HG := Lib.hid (And.intro hG' (And.intro hm1 hn1))
  have S1 := Lib.hid s1
  have S2 := Lib.hid s2
  clear s1 s2 hm hn hG hG' hm1 hn1 ha hb
  go_enter Tryz.func43, Tryz.ntmps43
  go_wp2_with fail
  refine (S1.out _).mono ?_
  rintro e w2 ⟨rfl, hw2⟩
  rw [hw2]
  go_wp2_with fail
  refine (S2.out _).mono ?_
  rintro e w3 ⟨rfl, hw3⟩
  rw [hw3]
  go_wp2_with fail
  go_loopg [0, 1] n (fun gk v0 v1 wr => ∃ x y : Nat, gk = y ∧ v0 = .int .i64 (x : Int) ∧ v1 = .int .i64 (y : Int) ∧ Hid (Nat.gcd x y = G ∧ x < 9223372036854775808 ∧ y < 9223372036854775808) ∧ ∃ k, wr = w.drewN k)
  case atStart => exact ⟨m, n, rfl, rfl, rfl, HG.out, 0, rfl⟩
  case round =>
    obtain ⟨x, y, hgk, rfl, rfl, HX, k, rfl⟩ := hrel
    have HGK := Lib.hid hgk
    clear hgk
    rcases Nat.eq_zero_or_pos y with h0 | h0
    · subst h0
      have hx : x = G := by rw [← HX.out.1, Nat.gcd_zero_right]
      have HXX := Lib.hid hx
      clear hx
      go_wp2_with fail
      go_ret
      exact ⟨congrArg (fun g : Nat => Ending.returned (.int .i64 (g : Int))) HXX.out, k, rfl⟩
    · have h1 : ((y : Int) != 0) = true := by simp; omega
      have h2 : ¬ (y : Int) = 0 := by omega
      have h3 : (x : Int).tmod (y : Int) = ((x % y : Nat) : Int) := rfl
      have hm := Nat.mod_lt x h0
      have hg : Nat.gcd y (x % y) = G := by rw [← HX.out.1, Nat.gcd_comm x y, Nat.gcd_rec y x, Nat.gcd_comm]
      have HN := Lib.hid (And.intro hg (And.intro HX.out.2.2 (Nat.lt_trans hm HX.out.2.2)))
      have hwr : wrap64 ((x % y : Nat) : Int) = ((x % y : Nat) : Int) := by have := HX.out.2.2; unfold wrap64; omega
      clear hg
      generalize x % y = r at *
      go_upto_region 3 with fail
      go_quiet (fail)
      go_wp2_with fail
      go_roundg r
      case measure => rw [HGK.out]; exact hm
      case rel => exact ⟨y, r, rfl, rfl, by first | rfl | (congr 1) | simp [h3, hwr], HN.out, k + nq, by rw [World.drewN_drewN]⟩

set_option maxHeartbeats 1000000 in
theorem sign3_any (x : Int) (w : World) :
    Calls Tryz.prog 15 #[.int .i64 x] w fun e w' => e = .returned (.int .i64 (sgnI x)) ∧ w' = w := by
  rcases Int.lt_trichotomy x 0 with h | h | h
  · rw [sgnI_neg h]
    go_enter Tryz.func15, Tryz.ntmps15
    go_wp2_with fail
    go_ret
    exact ⟨rfl, rfl⟩
  · subst h
    go_enter Tryz.func15, Tryz.ntmps15
    go_wp2_with fail
    go_ret
    exact ⟨rfl, rfl⟩
  · rw [sgnI_pos h]
    have h2 : ¬ x < 0 := by omega
    go_enter Tryz.func15, Tryz.ntmps15
    go_wp2_with fail
    go_ret
    exact ⟨rfl, rfl⟩

end Go.Proofs.YtimkeblcdodfmaaGreat

namespace Go.Proofs.YtimkeblcdodfmaaGreat
open Go.RowKit Go.Shelf
attribute [local go_sem] Oper.semAt_some

theorem sizeZ_small {x : Int} {lim : Nat} (h : ¬ (lim : Int) < sizeZ x) (hl : lim < 9223372036854775807) : x.natAbs ≤ lim ∧ sizeZ x = (x.natAbs : Int) := by
  unfold sizeZ at *
  split at h
  · omega
  · rename_i hne; rw [if_neg hne]; exact ⟨by omega, rfl⟩
theorem sizeZ_of_nat {n : Nat} (_h : n < 9223372036854775808) : sizeZ (n : Int) = (n : Int) := by
  unfold sizeZ; rw [if_neg (by omega)]; simp

set_option maxRecDepth 100000 in
set_option maxHeartbeats 4000000 in
theorem right3_any (a b c d : Int) (w : World) (ha : InI64 a) (hb : InI64 b) (hc : InI64 c) (hd : InI64 d) :
    Calls Tryz.prog 22 #[.agg #[.int .i64 a, .int .i64 b, .int .i64 c, .int .i64 d]] w fun e w' => e = .returned (.bool (decide (RightP a b c d))) ∧ Below w.heap.size w w' := by
  obtain ⟨w1, hw1⟩ : ∃ w1, w.alloc (.cells #[.int .i64 a, .int .i64 b, .int .i64 c, .int .i64 d] 23) = w1 := ⟨_, rfl⟩
  have hb1 : Below w.heap.size w w1 := by rw [← hw1]; exact (Below.refl _ w).alloc (Nat.le_refl _) _
  have k0 : Blk w1 w.heap.size #[.int .i64 a, .int .i64 b, .int .i64 c, .int .i64 d] 23 := by rw [← hw1]; exact Blk.new _ _ _
  have HI := Lib.hid (And.intro ha (And.intro hb (And.intro hc hd)))
  clear ha hb hc hd
  go_enter Tryz.func22, Tryz.ntmps22
  go_wp2_with fail
  go_loopg [3] 3 (fun gk v3 wr => ∃ i : Nat, i ≤ 3 ∧ gk = 3 - i ∧ v3 = .int .i64 (i : Int) ∧ (0 < i → ¬ 1000 < sizeZ a) ∧ (1 < i → ¬ 1000 < sizeZ b) ∧ (2 < i → ¬ 1000 < sizeZ c) ∧ Blk wr w.heap.size #[.int .i64 a, .int .i64 b, .int .i64 c, .int .i64 d] 23 ∧ Below w.heap.size w wr)
  case atStart => exact ⟨0, by decide, rfl, rfl, fun h => absurd h (by decide), fun h => absurd h (by decide), fun h => absurd h (by decide), k0, hb1⟩
  case round =>
    clear k0 hb1 hw1
    obtain ⟨i, hi, hgk, rfl, h0, h1, h2, hk, hbw⟩ := hrel
    have HGK := Lib.hid hgk
    have HA := Lib.hid (And.intro h0 (And.intro h1 h2))
    clear hgk h0 h1 h2
    have c0 := hk.cell (i := 0) rfl
    have c1 := hk.cell (i := 1) rfl
    have c2 := hk.cell (i := 2) rfl
    have c3 := hk.cell (i := 3) rfl
    have hi4 : i = 0 ∨ i = 1 ∨ i = 2 ∨ i = 3 := by omega
    clear hi
    rcases hi4 with rfl | rfl | rfl | rfl
    · have hs := fun W => size3_any a W HI.out.1
      have HSZ := Lib.hid hs
      clear hs
      by_cases hbig : 1000 < sizeZ a
      · have hno : decide (RightP a b c d) = false := decide_eq_false (fun h => by have := h.2.1; unfold sizeZ at hbig; split at hbig <;> omega)
        have HN := Lib.hid hno
        clear hno
        go_wp2_with fail
        refine (HSZ.out _).mono ?_
        rintro e w2 ⟨rfl, hw2⟩
        rw [hw2]
        go_wp2_with fail
        go_ret
        exact ⟨congrArg (fun z => Ending.returned (.bool z)) HN.out.symm, hbw⟩
      · have HB := Lib.hid hbig
        go_wp2_with fail
        refine (HSZ.out _).mono ?_
        rintro e w2 ⟨rfl, hw2⟩
        rw [hw2]
        go_wp2_with fail
        go_roundg (2)
        case measure => rw [HGK.out]; decide
        case rel => exact ⟨1, by decide, rfl, rfl, by have := HA.out; have := HB.out; intro h1; omega, by have := HA.out; have := HB.out; intro h1; omega, by have := HA.out; have := HB.out; intro h1; omega, hk, hbw⟩
    · have hs := fun W => size3_any b W HI.out.2.1
      have HSZ := Lib.hid hs
      clear hs
      by_cases hbig : 1000 < sizeZ b
      · have hno : decide (RightP a b c d) = false := decide_eq_false (fun h => by have := h.2.2.1; unfold sizeZ at hbig; split at hbig <;> omega)
        have HN := Lib.hid hno
        clear hno
        go_wp2_with fail
        refine (HSZ.out _).mono ?_
        rintro e w2 ⟨rfl, hw2⟩
        rw [hw2]
        go_wp2_with fail
        go_ret
        exact ⟨congrArg (fun z => Ending.returned (.bool z)) HN.out.symm, hbw⟩
      · have HB := Lib.hid hbig
        go_wp2_with fail
        refine (HSZ.out _).mono ?_
        rintro e w2 ⟨rfl, hw2⟩
        rw [hw2]
        go_wp2_with fail
        go_roundg (1)
        case measure => rw [HGK.out]; decide
        case rel => exact ⟨2, by decide, rfl, rfl, by have := HA.out; have := HB.out; intro h1; omega, by have := HA.out; have := HB.out; intro h1; omega, by have := HA.out; have := HB.out; intro h1; omega, hk, hbw⟩
    · have hs := fun W => size3_any c W HI.out.2.2.1
      have HSZ := Lib.hid hs
      clear hs
      by_cases hbig : 1000 < sizeZ c
      · have hno : decide (RightP a b c d) = false := decide_eq_false (fun h => by have := h.2.2.2.1; unfold sizeZ at hbig; split at hbig <;> omega)
        have HN := Lib.hid hno
        clear hno
        go_wp2_with fail
        refine (HSZ.out _).mono ?_
        rintro e w2 ⟨rfl, hw2⟩
        rw [hw2]
        go_wp2_with fail
        go_ret
        exact ⟨congrArg (fun z => Ending.returned (.bool z)) HN.out.symm, hbw⟩
      · have HB := Lib.hid hbig
        go_wp2_with fail
        refine (HSZ.out _).mono ?_
        rintro e w2 ⟨rfl, hw2⟩
        rw [hw2]
        go_wp2_with fail
        go_roundg (0)
        case measure => rw [HGK.out]; decide
        case rel => exact ⟨3, by decide, rfl, rfl, by have := HA.out; have := HB.out; intro h1; omega, by have := HA.out; have := HB.out; intro h1; omega, by have := HA.out; have := HB.out; intro h1; omega, hk, hbw⟩
    · obtain ⟨za, ea⟩ := sizeZ_small (lim := 1000) (HA.out.1 (by decide)) (by decide)
      obtain ⟨zb, eb⟩ := sizeZ_small (lim := 1000) (HA.out.2.1 (by decide)) (by decide)
      obtain ⟨zc, ec⟩ := sizeZ_small (lim := 1000) (HA.out.2.2 (by decide)) (by decide)
      have hs := fun W => size3_any d W HI.out.2.2.2
      have HSZ := Lib.hid hs
      clear hs
      by_cases hz : a = 0 ∧ b = 0 ∧ c = 0
      · have hno : decide (RightP a b c d) = false := decide_eq_false (fun h => h.1 hz)
        have HN := Lib.hid hno
        obtain ⟨rfl, rfl, rfl⟩ := hz
        clear hno za zb zc ea eb ec
        go_wp2_with fail
        go_ret
        exact ⟨congrArg (fun z => Ending.returned (.bool z)) HN.out.symm, hbw⟩
      · have hg1 : Int.gcd (sizeZ a) (sizeZ b) = Int.gcd a b := by rw [ea, eb]; rfl
        have q1 := fun W => gcd3_any a b W HI.out.1 HI.out.2.1
        rw [hg1] at q1
        have HZ := Lib.hid hz
        have HE := Lib.hid (And.intro za (And.intro zb (And.intro zc ec)))
        clear hz hg1 ea eb ec za zb zc
        go_upto_region 6 with fail
        go_cut [31] from 13 to 31 (fun v31 wx => v31 = .bool (decide (1000000 < sizeZ d)) ∧ wr = wx)
        case first =>
          by_cases ha : a = 0
          · have ha' : (a == 0) = true := by simp [ha]
            by_cases hb : b = 0
            · have hb' : (b == 0) = true := by simp [hb]
              have hc : ¬ c = 0 := fun e => HZ.out ⟨ha, hb, e⟩
              have hc' : (c == 0) = false := by simp [hc]
              clear ha hb hc
              go_wp2_with fail
              refine (HSZ.out _).mono ?_
              rintro e w2 ⟨rfl, hw2⟩
              rw [hw2]
              go_wp2_with fail
              go_meet
              case rel => exact ⟨rfl, rfl⟩
            · have hb' : (b == 0) = false := by simp [hb]
              clear ha hb
              go_wp2_with fail
              refine (HSZ.out _).mono ?_
              rintro e w2 ⟨rfl, hw2⟩
              rw [hw2]
              go_wp2_with fail
              go_meet
              case rel => exact ⟨rfl, rfl⟩
          · have ha' : (a == 0) = false := by simp [ha]
            clear ha
            go_wp2_with fail
            refine (HSZ.out _).mono ?_
            rintro e w2 ⟨rfl, hw2⟩
            rw [hw2]
            go_wp2_with fail
            go_meet
            case rel => exact ⟨rfl, rfl⟩
        case rest =>
        obtain ⟨rfl, rfl⟩ := hcut
        by_cases hbig : 1000000 < sizeZ d
        · have hno : decide (RightP a b c d) = false := decide_eq_false (fun h => by have := h.2.2.2.2.1; unfold sizeZ at hbig; split at hbig <;> omega)
          have HN := Lib.hid hno
          rw [decide_eq_true hbig]
          clear hno hbig
          go_wp2_with fail
          go_ret
          exact ⟨congrArg (fun z => Ending.returned (.bool z)) HN.out.symm, hbw⟩
        · obtain ⟨zd, ed⟩ := sizeZ_small (lim := 1000000) hbig (by decide)
          have hg2 : Int.gcd (sizeZ c) (sizeZ d) = Int.gcd c d := by rw [HE.out.2.2.2, ed]; rfl
          have q2 := fun W => gcd3_any c d W HI.out.2.2.1 HI.out.2.2.2
          rw [hg2] at q2
          have l1 : Int.gcd a b ≤ 1000 := by
            rcases Int.lt_trichotomy a 0 with h | h | h
            · exact Nat.le_trans (Nat.le_of_dvd (by omega) (Nat.gcd_dvd_left a.natAbs b.natAbs)) HE.out.1
            · rw [h]; simpa using HE.out.2.1
            · exact Nat.le_trans (Nat.le_of_dvd (by omega) (Nat.gcd_dvd_left a.natAbs b.natAbs)) HE.out.1
          have l2 : Int.gcd c d ≤ 1000000 := by
            rcases Int.lt_trichotomy c 0 with h | h | h
            · exact Nat.le_trans (Nat.le_trans (Nat.le_of_dvd (by omega) (Nat.gcd_dvd_left c.natAbs d.natAbs)) HE.out.2.2.1) (by decide)
            · rw [h]; simpa using zd
            · exact Nat.le_trans (Nat.le_trans (Nat.le_of_dvd (by omega) (Nat.gcd_dvd_left c.natAbs d.natAbs)) HE.out.2.2.1) (by decide)
          have hall : decide (RightP a b c d) = decide (g4 a b c d = 1) := decide_eq_decide.2 ⟨fun h => h.2.2.2.2.2, fun h => ⟨HZ.out, HE.out.1, HE.out.2.1, HE.out.2.2.1, zd, h⟩⟩
          have hg3 : g4 a b c d = Nat.gcd (Int.gcd a b) (Int.gcd c d) := rfl
          obtain ⟨m, hm⟩ : ∃ m, Int.gcd a b = m := ⟨_, rfl⟩
          obtain ⟨n, hn⟩ : ∃ n, Int.gcd c d = n := ⟨_, rfl⟩
          rw [hm] at q1 l1 hg3
          rw [hn] at q2 l2 hg3
          have q3 := fun W => gcd3_any (m : Int) (n : Int) W (by unfold InI64; omega) (by unfold InI64; omega)
          rw [sizeZ_of_nat (by omega), sizeZ_of_nat (by omega)] at q3
          obtain ⟨G, hG⟩ : ∃ G, Int.gcd (m : Int) (n : Int) = G := ⟨_, rfl⟩
          rw [hG] at q3
          have hG' : g4 a b c d = G := by rw [hg3]; exact hG
          rw [hG'] at hall
          have Q1 := Lib.hid q1
          have Q2 := Lib.hid q2
          have Q3 := Lib.hid q3
          have HALL := Lib.hid hall
          have heq : ((G : Int) == 1) = decide (G = 1) := by
            by_cases h : G = 1
            · rw [h]; rfl
            · rw [decide_eq_false h]; simp only [beq_eq_false_iff_ne]; omega
          rw [decide_eq_false hbig]
          clear hbig q1 q2 q3 hg2 l1 l2 hall hg3 hm hn hG hG' zd ed HZ HE HSZ
          go_upto_region 8 with fail
          go_quiet (first | (with_reducible exact Calls.quiet_of (Q1.out _)) | (with_reducible exact Calls.quiet_of (Q2.out _)) | (with_reducible exact Calls.quiet_of (Q3.out _)))
          go_wp2_with fail
          go_ret
          exact ⟨congrArg (fun z => Ending.returned (.bool z)) HALL.out.symm, below_drewN hbw _⟩

end Go.Proofs.YtimkeblcdodfmaaGreat

namespace Go.Proofs.YtimkeblcdodfmaaGreat
open Go.RowKit Go.Shelf
attribute [local go_sem] Oper.semAt_some

set_option maxRecDepth 100000 in
set_option maxHeartbeats 2000000 in
theorem normal3_any (a b c d : Int) (w : World) :
    Calls Tryz.prog 17 #[.agg #[.int .i64 a, .int .i64 b, .int .i64 c, .int .i64 d]] w fun e w' => e = .returned (.agg #[.int .i64 a, .int .i64 b, .int .i64 c]) ∧ Below w.heap.size w w' := by
  go_enter Tryz.func17, Tryz.ntmps17
  go_wp2_with fail
  exact bodyPost_ret (v := .agg #[.int .i64 a, .int .i64 b, .int .i64 c]) (by simp [results, Tryz.results17, go_sem]) rfl ⟨rfl, bw2 w _ _⟩

end Go.Proofs.YtimkeblcdodfmaaGreat

namespace Go.Proofs.YtimkeblcdodfmaaGreat
open Go.RowKit Go.Shelf
attribute [local go_sem] Oper.semAt_some

theorem prod_in {x y : Int} (hx : x.natAbs ≤ 1000) (hy : y.natAbs ≤ 1000) : (x * y).natAbs ≤ 1000000 := by
  rw [Int.natAbs_mul]; exact Nat.mul_le_mul hx hy
theorem diff_small {x y : Int} (hx : x.natAbs ≤ 1000000) (hy : y.natAbs ≤ 1000000) : wrap64 x = x ∧ wrap64 y = y ∧ wrap64 (x - y) = x - y := by
  unfold wrap64; exact ⟨by omega, by omega, by omega⟩

set_option maxRecDepth 100000 in
set_option maxHeartbeats 4000000 in
theorem cross3_any (a b c x y z : Int) (w : World) (ha : a.natAbs ≤ 1000) (hb : b.natAbs ≤ 1000) (hc : c.natAbs ≤ 1000) (hx : x.natAbs ≤ 1000) (hy : y.natAbs ≤ 1000) (hz : z.natAbs ≤ 1000) :
    Calls Tryz.prog 53 #[.agg #[.int .i64 a, .int .i64 b, .int .i64 c], .agg #[.int .i64 x, .int .i64 y, .int .i64 z]] w fun e w' => e = .returned (.agg #[.int .i64 (b * z - c * y), .int .i64 (c * x - a * z), .int .i64 (a * y - b * x)]) ∧ Below w.heap.size w w' := by
  obtain ⟨e1, e2, e3⟩ := diff_small (prod_in hb hz) (prod_in hc hy)
  obtain ⟨e4, e5, e6⟩ := diff_small (prod_in hc hx) (prod_in ha hz)
  obtain ⟨e7, e8, e9⟩ := diff_small (prod_in ha hy) (prod_in hb hx)
  obtain ⟨u1, h1⟩ : ∃ u, b * z = u := ⟨_, rfl⟩
  obtain ⟨u2, h2⟩ : ∃ u, c * y = u := ⟨_, rfl⟩
  obtain ⟨u3, h3⟩ : ∃ u, c * x = u := ⟨_, rfl⟩
  obtain ⟨u4, h4⟩ : ∃ u, a * z = u := ⟨_, rfl⟩
  obtain ⟨u5, h5⟩ : ∃ u, a * y = u := ⟨_, rfl⟩
  obtain ⟨u6, h6⟩ : ∃ u, b * x = u := ⟨_, rfl⟩
  rw [h1, h2] at e3
  rw [h3, h4] at e6
  rw [h5, h6] at e9
  rw [h1] at e1
  rw [h2] at e2
  rw [h3] at e4
  rw [h4] at e5
  rw [h5] at e7
  rw [h6] at e8
  rw [h1, h2, h3, h4, h5, h6]
  clear ha hb hc hx hy hz
  go_enter Tryz.func53, Tryz.ntmps53
  go_wp2_with fail
  exact bodyPost_ret (v := .agg #[.int .i64 (u1 - u2), .int .i64 (u3 - u4), .int .i64 (u5 - u6)]) (by simp [results, Tryz.results53, go_sem]) rfl ⟨rfl, bw3 w _ _ _⟩

end Go.Proofs.YtimkeblcdodfmaaGreat

namespace Go.Proofs.YtimkeblcdodfmaaGreat
open Go.RowKit

abbrev BR : Nat := 10000

/-- A sign and a slice of digits say the integer z. -/
structure RIs (w : World) (neg : Bool) (p : Option Addr) (n c : Nat) (xs : List Nat) (z : Int) : Prop where
  rd : Rd .i64 w p n xs
  cap : n ≤ c
  cn : Cn BR xs
  pos : neg = true → 0 < n
  val : z = sv neg (dv BR xs)

/-- What a call hands back: an integer of at most L digits. -/
def RV (w : World) (z : Int) (L : Nat) (e : Ending) (w' : World) : Prop :=
  ∃ neg p n c xs, e = .returned (.agg #[.bool neg, .slice p n c]) ∧ RIs w' neg p n c xs z ∧ n ≤ L ∧ Below w.heap.size w w'

theorem RIs.below {w w' : World} {neg : Bool} {p : Option Addr} {n c : Nat} {xs : List Nat} {z : Int} (h : RIs w neg p n c xs z) (hb : Below w.heap.size w w') : RIs w' neg p n c xs z := { h with rd := h.rd.below hb }

theorem RIs.zero (w : World) : RIs w false none 0 0 [] 0 := { rd := Rd.nil _ _ _, cap := Nat.le_refl _, cn := Cn.nil _, pos := (by intro h; cases h), val := rfl }

theorem sv_and' (b : Nat) (neg : Bool) (zs : List Nat) : sv (neg && decide (0 < zs.length)) (dv b zs) = sv neg (dv b zs) := by
  cases neg
  · rfl
  · by_cases hz : 0 < zs.length
    · simp [hz]
    · have : zs = [] := List.length_eq_zero_iff.1 (by omega)
      subst this; rfl

theorem Rd.boxI {W : World} {p : Option Addr} {n : Nat} {xs : List Nat} (h : Rd .i64 W p n xs) {B i : Nat} {neg : Bool} {q : Option Addr} {k c : Nat} {t : TypeId} (hb : Boxed2 W B (.bool neg) (.slice q k c) t) (v : Value) : Rd .i64 (W.setCell ⟨B, i, none⟩ v) p n xs := by
  refine ⟨h.1, fun j hj => ?_⟩
  obtain ⟨b', off, hp, hlt, hc⟩ := h.2 j hj
  refine ⟨b', off, hp, by simpa using hlt, ?_⟩
  rw [World.cell?_setCell_other _ _ _ _ (fun e => ?_)]
  · exact hc
  · cases e
    rw [hb.cellAt] at hc
    match off + j, hc with
    | 0, hc => simp at hc
    | 1, hc => simp at hc
    | k + 2, hc => simp at hc

/-- The like; its digits lie where they did. -/
def RVp (w : World) (p : Option Addr) (z : Int) (L : Nat) (e : Ending) (w' : World) : Prop :=
  ∃ neg n c xs, e = .returned (.agg #[.bool neg, .slice p n c]) ∧ RIs w' neg p n c xs z ∧ n ≤ L ∧ Below w.heap.size w w'

set_option maxHeartbeats 1000000 in
theorem rnumber_at (neg : Bool) (p : Option Addr) (n c : Nat) (xs : List Nat) (w : World) (hn : n ≤ maxLen) (hc : n ≤ c) (hr : Rd .i64 w p n xs) (gx : Dg BR xs) :
    Calls Tryz.prog 101 #[.bool neg, .slice p n c] w (RVp w p (sv neg (dv BR xs)) n) := by
  unfold maxLen at hn
  have hb0 : Below w.heap.size w (w.alloc (.cells #[.bool false, .slice none 0 0] 109)) := (Below.refl _ w).alloc (Nat.le_refl _) _
  have b0 := Boxed2.new w (.bool false) (.slice none 0 0) 109
  have hr1 := hr.below hb0
  have c0 := b0.cell0
  have c1 := b0.cell1
  have q0 := b0.frozen (i := 0)
  have q1 := b0.frozen (i := 1)
  have fin : ∀ k, k = trimLen xs n → RVp w p (sv neg (dv BR xs)) n (.returned (.agg #[.bool (neg && decide (0 < k)), .slice p k k])) (w.alloc (.cells #[.bool (neg && decide (0 < k)), .slice p k k] 109)) := by
    rintro k rfl
    have h1 : trimLen xs n ≤ n := trimLen_le _ _
    have hl := hr.1
    have hz : trimZ xs = xs.take (trimLen xs n) := by unfold trimZ; rw [hl]
    have hbk : Below w.heap.size w (w.alloc (.cells #[.bool (neg && decide (0 < trimLen xs n)), .slice p (trimLen xs n) (trimLen xs n)] 109)) := (Below.refl _ w).alloc (Nat.le_refl _) _
    have hrd := (hr.below hbk).take (trimLen xs n) h1
    rw [← hz] at hrd
    refine ⟨_, _, _, trimZ xs, rfl, { rd := hrd, cap := Nat.le_refl _, cn := trimZ_cn gx, pos := by simp, val := ?_ }, h1, hbk⟩
    rw [← hrd.1, sv_and' BR, dv_trimZ]
  have FIN := Lib.hid fin
  clear fin
  go_enter Tryz.func101, Tryz.ntmps101
  go_wp2
  go_loop [5] (fun i => ∃ k : Nat, k ≤ n ∧ i = .int .i64 k ∧ Hid (trimLen xs k = trimLen xs n)) (fun i => (intOf i).toNat)
  case atStart => exact ⟨n, Nat.le_refl _, rfl, rfl⟩
  case round =>
    obtain ⟨k, hk, rfl, ht⟩ := hrel
    cases k with
    | zero =>
      have HT := FIN.out 0 ht.out
      have z0 := (Boxed2.new w (.bool false) (.slice p 0 0) 109).cell0
      have z1 := (Boxed2.new w (.bool false) (.slice p 0 0) 109).cell1
      cases neg
      all_goals
        go_wp2
        exact bodyPost_ret (v := .agg #[.bool false, .slice p 0 0]) (by simp [results, Tryz.results101, go_sem, z0, z1]) rfl (by simpa using HT)
    | succ k =>
      obtain ⟨b, off, rfl, hb, hcell⟩ := hr1.2 k (by omega)
      cases neg
      all_goals
        go_wp2
        · go_round
          case rel =>
            have h1 : (((xs[k]?.getD 0 : Nat) : Int) == 0) = true := by assumption
            exact ⟨k, by omega, by go_num, (trimLen_cut (by simpa using h1)).symm.trans ht.out⟩
          case measure => simp [intOf]
        · have h1 : (((xs[k]?.getD 0 : Nat) : Int) == 0) = false := by assumption
          have HT := FIN.out (k + 1) ((trimLen_keep (by simpa using h1)).symm.trans ht.out)
          have y0 := fun v => (Boxed2.new w (.bool v) (.slice (some ⟨b, off, none⟩) (k + 1) (k + 1)) 109).cell0
          have y1 := fun v => (Boxed2.new w (.bool v) (.slice (some ⟨b, off, none⟩) (k + 1) (k + 1)) 109).cell1
          first
            | exact bodyPost_ret (v := .agg #[.bool false, .slice (some ⟨b, off, none⟩) (k + 1) (k + 1)]) (by simp [results, Tryz.results101, go_sem, y0, y1]) rfl (by simpa using HT)
            | exact bodyPost_ret (v := .agg #[.bool true, .slice (some ⟨b, off, none⟩) (k + 1) (k + 1)]) (by simp [results, Tryz.results101, go_sem, y0, y1]) rfl (by simpa using HT)

theorem rnumber_any (neg : Bool) (p : Option Addr) (n c : Nat) (xs : List Nat) (w : World) (hn : n ≤ maxLen) (hc : n ≤ c) (hr : Rd .i64 w p n xs) (gx : Dg BR xs) :
    Calls Tryz.prog 101 #[.bool neg, .slice p n c] w (RV w (sv neg (dv BR xs)) n) :=
  (rnumber_at neg p n c xs w hn hc hr gx).mono fun _ _ ⟨neg', n', c', xs', h⟩ => ⟨neg', p, n', c', xs', h⟩

end Go.Proofs.YtimkeblcdodfmaaGreat

namespace Go.Proofs.YtimkeblcdodfmaaGreat
open Go.RowKit

def icells (ns : List Nat) : List Value := ns.map fun (n : Nat) => Value.int .i64 (n : Int)
theorem icells_append (a b : List Nat) : icells (a ++ b) = icells a ++ icells b := by simp [icells]

/-- A slice of digits that the call has made. -/
def GrI (w : World) (base : Nat) (v : Value) (ns : List Nat) : Prop := w.ownsRow base 3 1 v ns.length (icells ns)
/-- A slice of bytes that the call has made. -/
def GrB (w : World) (base : Nat) (v : Value) (l : List UInt8) : Prop := w.ownsRow base 5 1 v l.length (bcells l)

theorem ownsRow_nil (w : World) (base : Nat) (e : TypeId) : w.ownsRow base e 1 (.slice none 0 0) 0 [] := ⟨rfl, .inl ⟨rfl, rfl⟩⟩
theorem GrI.nil (w : World) (base : Nat) : GrI w base (.slice none 0 0) [] := ownsRow_nil _ _ _
theorem GrB.nil (w : World) (base : Nat) : GrB w base (.slice none 0 0) [] := ownsRow_nil _ _ _

theorem own_block_ge {w : World} {base : Nat} {e : TypeId} {v : Value} {n : Nat} {xs : List Value} (h : w.ownsRow base e 1 v n xs) {k : Nat} (hk : k < base) : some k ≠ v.ownBlock := by
  rcases h.2 with ⟨rfl, _⟩ | ⟨g, cap, cur, rfl, hb, _⟩
  · intro e; cases e
  · intro e; simp [Value.ownBlock] at e; omega

theorem below_of_own {w w' : World} {base : Nat} {e : TypeId} {v : Value} {n : Nat} {xs : List Value} (h : w.ownsRow base e 1 v n xs) (hg : w.grownBy w' v.ownBlock) (hb : base ≤ w.heap.size) : Below base w w' :=
  ⟨hg.os, hg.tape, hg.output, hg.size, fun k hk => hg.block k (by omega) (own_block_ge h hk)⟩

theorem own_form {w : World} {base : Nat} {e : TypeId} {v : Value} {n : Nat} {xs : List Value} (h : w.ownsRow base e 1 v n xs) : ∃ p c, v = .slice p n c ∧ n ≤ c := by
  rcases h.2 with ⟨rfl, rfl⟩ | ⟨g, cap, cur, rfl, hb, _, hc, _⟩
  · exact ⟨none, 0, rfl, Nat.le_refl _⟩
  · exact ⟨_, cap, rfl, hc⟩

theorem GrI.rd {w : World} {base : Nat} {v : Value} {ns : List Nat} (h : GrI w base v ns) : ∃ p c, v = .slice p ns.length c ∧ ns.length ≤ c ∧ Rd .i64 w p ns.length ns := by
  rcases h.2 with ⟨rfl, hn⟩ | ⟨g, cap, cur, rfl, hb, hg, hc, _, hs, ht⟩
  · rw [hn]
    have : ns = [] := List.length_eq_zero_iff.1 hn
    subst this
    exact ⟨none, 0, rfl, Nat.le_refl _, Rd.nil _ _ _⟩
  · refine ⟨_, cap, rfl, hc, rfl, fun i hi => ⟨g, 0, rfl, (Array.getElem?_eq_some_iff.1 hg).1, ?_⟩⟩
    have h1 : (icells ns)[i]? = some (.int .i64 ((ns[i]?.getD 0 : Nat) : Int)) := by unfold icells; simp [hi]
    rw [← ht, Nat.mul_one, List.getElem?_take_of_lt hi] at h1
    rw [Nat.zero_add]
    simpa [World.cell?, hg] using h1

theorem GrI.ge {w : World} {base : Nat} {p : Option Addr} {n c : Nat} {ns : List Nat} (h : GrI w base (.slice p n c) ns) : ∀ b o, p = some ⟨b, o, none⟩ → base ≤ b := by
  intro b o hp
  rcases h.2 with ⟨e, _⟩ | ⟨g, cap, cur, e, hb, _⟩
  · cases e; cases hp
  · cases e; cases hp; exact hb

/-- A store into another block. -/
theorem Rd.setFar {k : IntKind} {w : World} {p : Option Addr} {n : Nat} {xs : List Nat} (h : Rd k w p n xs) {B i : Nat} (hne : ∀ b o, p = some ⟨b, o, none⟩ → b ≠ B) (v : Value) : Rd k (w.setCell ⟨B, i, none⟩ v) p n xs := by
  refine ⟨h.1, fun j hj => ?_⟩
  obtain ⟨b, off, hp, hlt, hc⟩ := h.2 j hj
  refine ⟨b, off, hp, by simpa using hlt, ?_⟩
  rw [World.cell?_setCell_other _ _ _ _ (fun e => hne b off hp (by cases e; rfl))]
  exact hc

theorem GrI.below {w w' : World} {base : Nat} {v : Value} {ns : List Nat} (h : GrI w base v ns) (hb : Below w.heap.size w w') : GrI w' base v ns :=
  own_below h hb
theorem GrB.below {w w' : World} {base : Nat} {v : Value} {l : List UInt8} (h : GrB w base v l) (hb : Below w.heap.size w w') : GrB w' base v l :=
  own_below h hb

/-- append(d, x), as the walk meets it. -/
theorem pushI_law {ops : Array Oper} {Q : Exit → Act → World → Prop} {o : Oper} {rest : List Oper} {a : Act} {W : World} (hgd : o.guard = none) (s x : Operand)
    (ho : o.op = .call { callee := .builtin .append, args := #[s, x], argTypes := #[55, 55] }) {base : Nat} {v : Value} {ns : List Nat} (hs : a.eval s = v) (h : GrI W base v ns) (d : Nat)
    (hx : a.eval x = .slice (some ⟨W.heap.size, 0, none⟩) 1 1) (hl : ns.length ≤ 1000000000000) (hbase : base ≤ W.heap.size)
    (k : ∀ v' w', GrI w' base v' (ns ++ [d]) → Below base W w' → wpList Tryz.prog ops Q rest (a.put o.dst v') w') : wpList Tryz.prog ops Q (o :: rest) a (W.alloc (.cells #[.int .i64 (d : Int)] 3)) := by
  obtain ⟨i0, hi, hz0, hz1, hz2⟩ := info_parts Tryz.info3
  have hg0 := World.grownBy_alloc W (.cells #[.int .i64 (d : Int)] 3) none
  have h' : (W.alloc (.cells #[.int .i64 (d : Int)] 3)).ownsRow base 3 1 v ns.length (icells ns) := World.ownsRow.kept h hg0 (by cases v.ownBlock <;> simp)
  have hc : (W.alloc (.cells #[.int .i64 (d : Int)] 3)).cell? ⟨W.heap.size, 0, none⟩ = some (.int .i64 (d : Int)) := by simp [go_sem]
  refine wpList_append_own _ hgd s x 55 ho base 3 i0 (.int .i64 0) 1 8 Tryz.underlying55 hi hz0 hz1 hz2 rfl (by decide) v ns.length (icells ns) hs h' ⟨W.heap.size, 0, none⟩ 1 1 [.int .i64 (d : Int)] hx rfl
    (by intro j u hj; match j, hj with | 0, hj => simp at hj; subst hj; simp [Addr.add]) (by simp [Value.oneCell']) (by unfold maxLen; omega) (by omega) (by rw [World.size_alloc]; omega) ?_
  intro v' w' h2 h3 _
  refine k v' w' ?_ ?_
  · unfold GrI; rw [List.length_append, icells_append]; exact h2
  · exact ((Below.refl _ _).alloc hbase _).trans (below_of_own h' h3 (by rw [World.size_alloc]; omega))

end Go.Proofs.YtimkeblcdodfmaaGreat

namespace Go.Proofs.YtimkeblcdodfmaaGreat
open Go.RowKit Go.Sort

def inI64 (z : Int) : Bool := decide (-9223372036854775808 ≤ z ∧ z ≤ 9223372036854775807)

end Go.Proofs.YtimkeblcdodfmaaGreat

namespace Go.Proofs.YtimkeblcdodfmaaGreat
open Go.RowKit

/-- What has been split off, and what is left. -/
def SplitI (U u : Nat) (ns : List Nat) : Prop := Dg BR ns ∧ dv BR ns + BR ^ ns.length * u = U

theorem SplitI.step {U u : Nat} {ns : List Nat} (h : SplitI U u ns) : SplitI U (u / 10000) (ns ++ [u % 10000]) := by
  refine ⟨h.1.append (Dg.cons (Nat.mod_lt _ (by decide)) (Dg.nil _)), ?_⟩
  rw [dv_snoc, List.length_append, List.length_singleton, Nat.pow_succ, ← h.2, Nat.add_assoc, Nat.mul_assoc, ← Nat.mul_add]
  congr 2
  have := Nat.div_add_mod u 10000
  show u % 10000 + 10000 * (u / 10000) = u
  omega

theorem SplitI.len {U u : Nat} {ns : List Nat} (h : SplitI U u ns) (hu : 0 < u) (hU : U < 18446744073709551616) : ns.length < 5 := by
  rcases Nat.lt_or_ge ns.length 5 with h5 | h5
  · exact h5
  · have h1 : BR ^ 5 ≤ BR ^ ns.length := Nat.pow_le_pow_right (by decide) h5
    have h2 : BR ^ ns.length * 1 ≤ BR ^ ns.length * u := Nat.mul_le_mul_left _ hu
    have h3 : BR ^ 5 = 100000000000000000000 := by decide
    have := h.2
    omega

theorem wrap_nat (U : Nat) (h : U < 18446744073709551616) : IntKind.u64.wrap (U : Int) = (U : Int) := by rw [IntKind.wrap_u64]; omega
theorem wrap_neg (U : Nat) (h0 : 0 < U) (h : U < 18446744073709551616) : IntKind.u64.wrap (-(U : Int)) = ((18446744073709551616 - U : Nat) : Int) ∧ IntKind.u64.wrap (-((18446744073709551616 - U : Nat) : Int)) = (U : Int) := by
  rw [IntKind.wrap_u64, IntKind.wrap_u64]; omega

set_option maxRecDepth 100000 in
set_option maxHeartbeats 1000000 in
theorem from_pos (U : Nat) (h1 : U ≤ 9223372036854775807) (w : World) :
    Calls Tryz.prog 70 #[.int .i64 (U : Int)] w (RV w (U : Int) 5) := by
  have hb0 : Below w.heap.size w (w.alloc (.cells #[.bool false, .slice none 0 0] 109)) := (Below.refl _ w).alloc (Nat.le_refl _) _
  have b0 := Boxed2.new w (.bool false) (.slice none 0 0) 109
  have hw := wrap_nat U (by omega)
  have hU : (U : Int) < 18446744073709551616 := by omega
  have hneg : ¬ ((U : Int) < 0) := by omega
  go_enter Tryz.func70, Tryz.ntmps70
  go_wp2_with fail
  have HU := Lib.hid hU
  clear hw hU h1
  go_loopw [3, 4] (fun v3 v4 wr => ∃ (u : Nat) (ns : List Nat), (u : Int) < 18446744073709551616 ∧ v3 = .int .u64 (u : Int) ∧ Hid (SplitI U u ns) ∧ Hid (ns.length ≤ 5) ∧ GrI wr (w.heap.size + 1) v4 ns ∧ w.heap.size + 1 ≤ wr.heap.size ∧ Below (w.heap.size + 1) (w.alloc (.cells #[.bool false, .slice none 0 0] 109)) wr) (fun v3 _ _ => (intOf v3).toNat)
  case atStart => exact ⟨U, [], HU.out, rfl, ⟨Dg.nil _, by simp [dv]⟩, by show 0 ≤ 5; omega, GrI.nil _ _, by simp, Below.refl _ _⟩
  case round =>
    obtain ⟨u, ns, hu, rfl, HS, HL5, hgr, hsz, hb⟩ := hrel
    by_cases h0 : 0 < u
    · have hlen := HS.out.len h0 (by have := HU.out; omega)
      have hm : u % 10000 < 10000 := Nat.mod_lt _ (by decide)
      have HSS := Lib.hid HS.out.step
      have hlt : u / 10000 < u := by omega
      have hdiv : (u : Int) / 10000 = ((u / 10000 : Nat) : Int) := by omega
      have hmod : (u : Int) % 10000 = ((u % 10000 : Nat) : Int) := by omega
      generalize u / 10000 = q at HSS hlt hdiv
      generalize u % 10000 = d at HSS hm hmod
      go_wp2_with (at_builtin; refine pushI_law rfl _ _ rfl rfl hgr d rfl (by omega) hsz ?_; intro v' w' hgr' hb')
      go_roundw
      case rel => exact ⟨q, ns ++ [d], by omega, rfl, HSS.out, (by show (ns ++ [d]).length ≤ 5; simp; omega), hgr', Nat.le_trans hsz hb'.size, hb.trans hb'⟩
      case measure => simp [intOf]; omega
    · obtain rfl : u = 0 := by omega
      obtain ⟨p, c, rfl, hc, hrd⟩ := hgr.rd
      have hbx := b0.below hb (by omega)
      have hbw := hb0.trans (hb.mono (by omega))
      have hv : dv BR ns = U := by have := HS.out.2; simpa using this
      have HV := Lib.hid hv
      have HDG := Lib.hid HS.out.1
      clear hv
      have hl5 := HL5.out
      go_wp2_with (go_at_call 101; refine (rnumber_any _ _ _ _ ns _ (by unfold maxLen; omega) hc hrd HDG.out).mono ?_; rintro e w2 ⟨neg2, p2, n2, c2, xs2, rfl, hx2, hn2, hb2⟩; have b2 := hbx.below hb2 hbx.lt; have c20 := b2.cell0; have c21 := b2.cell1; have q20 := b2.frozen (i := 0); have q21 := b2.frozen (i := 1))
      have b3 := b2.set (.bool neg2) (.slice p2 n2 c2)
      have z0 := b3.cell0
      have z1 := b3.cell1
      refine bodyPost_ret (v := .agg #[.bool neg2, .slice p2 n2 c2]) (by simp [results, Tryz.results70, go_sem, z0, z1]) rfl ⟨neg2, p2, n2, c2, xs2, rfl, { rd := (hx2.rd.boxI b2 _).boxI (b2.set0 _) _, cap := hx2.cap, cn := hx2.cn, pos := hx2.pos, val := ?_ }, by omega, ((hbw.trans (hb2.mono hbw.size)).setCell (by simp) _).setCell (by simp) _⟩
      rw [← hx2.val, HV.out]
      simp [sv] <;> omega

set_option maxRecDepth 100000 in
set_option maxHeartbeats 1000000 in
theorem from_neg (U : Nat) (h0 : 0 < U) (h1 : U ≤ 9223372036854775808) (w : World) :
    Calls Tryz.prog 70 #[.int .i64 (-(U : Int))] w (RV w (-(U : Int)) 5) := by
  have hb0 : Below w.heap.size w (w.alloc (.cells #[.bool false, .slice none 0 0] 109)) := (Below.refl _ w).alloc (Nat.le_refl _) _
  have b0 := Boxed2.new w (.bool false) (.slice none 0 0) 109
  obtain ⟨hw1, hw2⟩ := wrap_neg U h0 (by omega)
  have hU : (U : Int) < 18446744073709551616 := by omega
  generalize 18446744073709551616 - U = X at hw1 hw2
  have hneg : (-(U : Int)) < 0 := by omega
  go_enter Tryz.func70, Tryz.ntmps70
  go_wp2_with fail
  have HU := Lib.hid hU
  clear hw1 hw2 hU h1
  go_loopw [3, 4] (fun v3 v4 wr => ∃ (u : Nat) (ns : List Nat), (u : Int) < 18446744073709551616 ∧ v3 = .int .u64 (u : Int) ∧ Hid (SplitI U u ns) ∧ Hid (ns.length ≤ 5) ∧ GrI wr (w.heap.size + 1) v4 ns ∧ w.heap.size + 1 ≤ wr.heap.size ∧ Below (w.heap.size + 1) (w.alloc (.cells #[.bool false, .slice none 0 0] 109)) wr) (fun v3 _ _ => (intOf v3).toNat)
  case atStart => exact ⟨U, [], HU.out, rfl, ⟨Dg.nil _, by simp [dv]⟩, by show 0 ≤ 5; omega, GrI.nil _ _, by simp, Below.refl _ _⟩
  case round =>
    obtain ⟨u, ns, hu, rfl, HS, HL5, hgr, hsz, hb⟩ := hrel
    by_cases h0 : 0 < u
    · have hlen := HS.out.len h0 (by have := HU.out; omega)
      have hm : u % 10000 < 10000 := Nat.mod_lt _ (by decide)
      have HSS := Lib.hid HS.out.step
      have hlt : u / 10000 < u := by omega
      have hdiv : (u : Int) / 10000 = ((u / 10000 : Nat) : Int) := by omega
      have hmod : (u : Int) % 10000 = ((u % 10000 : Nat) : Int) := by omega
      generalize u / 10000 = q at HSS hlt hdiv
      generalize u % 10000 = d at HSS hm hmod
      go_wp2_with (at_builtin; refine pushI_law rfl _ _ rfl rfl hgr d rfl (by omega) hsz ?_; intro v' w' hgr' hb')
      go_roundw
      case rel => exact ⟨q, ns ++ [d], by omega, rfl, HSS.out, (by show (ns ++ [d]).length ≤ 5; simp; omega), hgr', Nat.le_trans hsz hb'.size, hb.trans hb'⟩
      case measure => simp [intOf]; omega
    · obtain rfl : u = 0 := by omega
      obtain ⟨p, c, rfl, hc, hrd⟩ := hgr.rd
      have hbx := b0.below hb (by omega)
      have hbw := hb0.trans (hb.mono (by omega))
      have hv : dv BR ns = U := by have := HS.out.2; simpa using this
      have HV := Lib.hid hv
      have HDG := Lib.hid HS.out.1
      clear hv
      have hl5 := HL5.out
      go_wp2_with (go_at_call 101; refine (rnumber_any _ _ _ _ ns _ (by unfold maxLen; omega) hc hrd HDG.out).mono ?_; rintro e w2 ⟨neg2, p2, n2, c2, xs2, rfl, hx2, hn2, hb2⟩; have b2 := hbx.below hb2 hbx.lt; have c20 := b2.cell0; have c21 := b2.cell1; have q20 := b2.frozen (i := 0); have q21 := b2.frozen (i := 1))
      have b3 := b2.set (.bool neg2) (.slice p2 n2 c2)
      have z0 := b3.cell0
      have z1 := b3.cell1
      refine bodyPost_ret (v := .agg #[.bool neg2, .slice p2 n2 c2]) (by simp [results, Tryz.results70, go_sem, z0, z1]) rfl ⟨neg2, p2, n2, c2, xs2, rfl, { rd := (hx2.rd.boxI b2 _).boxI (b2.set0 _) _, cap := hx2.cap, cn := hx2.cn, pos := hx2.pos, val := ?_ }, by omega, ((hbw.trans (hb2.mono hbw.size)).setCell (by simp) _).setCell (by simp) _⟩
      rw [← hx2.val, HV.out]
      simp [sv] <;> omega

theorem from_any (n : Int) (h0 : -9223372036854775808 ≤ n) (h1 : n ≤ 9223372036854775807) (w : World) :
    Calls Tryz.prog 70 #[.int .i64 n] w (RV w n 5) := by
  by_cases h : 0 ≤ n
  · obtain ⟨U, rfl⟩ : ∃ U : Nat, n = (U : Int) := ⟨n.toNat, by omega⟩
    exact from_pos U (by omega) w
  · obtain ⟨U, rfl⟩ : ∃ U : Nat, n = -(U : Int) := ⟨(-n).toNat, by omega⟩
    exact from_neg U (by omega) (by omega) w

end Go.Proofs.YtimkeblcdodfmaaGreat

namespace Go.Proofs.YtimkeblcdodfmaaGreat
open Go.RowKit

theorem dv_drop (b : Nat) (xs : List Nat) (k : Nat) (h : k < xs.length) : dv b (xs.drop k) = xs[k]?.getD 0 + b * dv b (xs.drop (k + 1)) := by
  rw [List.drop_eq_getElem_cons h, dv_cons, List.getElem?_eq_getElem h]; rfl

def intV (z : Int) : Int := if inI64 z then z else 0

/-- What the two results are. -/
def IntOut (w : World) (z : Int) (e : Ending) (w' : World) : Prop := e = .returned (.tuple #[.int .i64 (intV z), .bool (inI64 z)]) ∧ Below w.heap.size w w'

theorem int_no {z : Int} (h : inI64 z = false) {w w' : World} {e : Ending} (he : e = .returned (.tuple #[.int .i64 0, .bool false])) (hb : Below w.heap.size w w') : IntOut w z e w' := by
  unfold IntOut intV; rw [h]; exact ⟨he, hb⟩
theorem int_yes {z : Int} (h : inI64 z = true) {w w' : World} {e : Ending} (he : e = .returned (.tuple #[.int .i64 z, .bool true])) (hb : Below w.heap.size w w') : IntOut w z e w' := by
  unfold IntOut intV; rw [h]; exact ⟨he, hb⟩

theorem int_big {neg : Bool} {xs : List Nat} {k : Nat} (hk : k < xs.length) (h : 922337203685477 < dv BR (xs.drop (k + 1))) : inI64 (sv neg (dv BR xs)) = false := by
  have h1 := dv_take_drop BR xs (k + 1) (by omega)
  have h2 : BR ^ 1 ≤ BR ^ (k + 1) := Nat.pow_le_pow_right (by decide) (by omega)
  have h3 : BR ^ 1 * dv BR (xs.drop (k + 1)) ≤ BR ^ (k + 1) * dv BR (xs.drop (k + 1)) := Nat.mul_le_mul_right _ h2
  rw [Nat.pow_one] at h3
  have h4 : 10000 * dv BR (xs.drop (k + 1)) ≤ BR ^ (k + 1) * dv BR (xs.drop (k + 1)) := h3
  unfold inI64
  rw [decide_eq_false_iff_not]
  cases neg <;> simp [sv] <;> omega

theorem hx_digit {w : World} {neg : Bool} {p : Option Addr} {n c : Nat} {xs : List Nat} {z : Int} (h : RIs w neg p n c xs z) (k : Nat) : xs[k]?.getD 0 < 10000 := h.cn.1.get (by decide) k

set_option maxRecDepth 100000 in
set_option maxHeartbeats 1000000 in
theorem rint_any (neg : Bool) (p : Option Addr) (n c : Nat) (xs : List Nat) (z : Int) (w : World) (hn : n ≤ 1000000000) (hx : RIs w neg p n c xs z) :
    Calls Tryz.prog 100 #[.agg #[.bool neg, .slice p n c]] w (IntOut w z) := by
  have hb0 : Below w.heap.size w (w.alloc (.cells #[.bool neg, .slice p n c] 109)) := (Below.refl _ w).alloc (Nat.le_refl _) _
  have b0 := Boxed2.new w (.bool neg) (.slice p n c) 109
  have c0 := b0.cell0
  have c1 := b0.cell1
  have hrd := hx.rd.below hb0
  have HL := Lib.hid hrd.1
  have HX := Lib.hid hx
  have HR := Lib.hid hrd
  have HB := Lib.hid hb0
  clear hx hrd
  generalize hw1 : w.alloc (.cells #[.bool neg, .slice p n c] 109) = w1 at *
  have HW1 := Lib.hid hw1
  clear hw1
  go_enter Tryz.func100, Tryz.ntmps100
  go_wp2_with fail
  rw [HW1.out]
  go_loop [4, 5] (fun v4 v5 => ∃ (k u : Nat), k ≤ n ∧ v5 = .int .i64 ((k : Int) - 1) ∧ v4 = .int .u64 (u : Int) ∧ (u : Int) ≤ 9223372036854779999 ∧ Hid (dv BR (xs.drop k) = u)) (fun _ v5 => (intOf v5 + 1).toNat)
  case atStart => exact ⟨n, 0, Nat.le_refl _, rfl, rfl, by omega, by show dv BR (xs.drop n) = 0; rw [List.drop_of_length_le (by rw [HL.out]; exact Nat.le_refl _)]; rfl⟩
  case round =>
    obtain ⟨k, u, hk, rfl, rfl, hu, HU⟩ := hrel
    cases k with
    | succ k =>
      have hkl : k < xs.length := by rw [HL.out]; omega
      by_cases hbig : 922337203685477 < u
      · have hno := int_big (neg := neg) hkl (by rw [HU.out]; exact hbig)
        rw [← HX.out.val] at hno
        have HN := Lib.hid hno
        have hbi : (922337203685477 : Int) < (u : Int) := by omega
        clear hno hbig
        go_wp2_with fail
        go_ret2
        exact int_no HN.out rfl HB.out
      · obtain ⟨b, off, hp, hb, hcell⟩ := HR.out.2 k (by omega)
        subst hp
        have hd := hx_digit HX.out k
        have hbi : ¬ (922337203685477 : Int) < (u : Int) := by omega
        have hdrop := dv_drop BR xs k hkl
        rw [HU.out] at hdrop
        generalize xs[k]?.getD 0 = d at hd hdrop hcell
        have HD := Lib.hid hdrop
        have h1 : ((k + 1 : Nat) : Int) - 1 = (k : Int) := by omega
        clear hdrop hbig
        go_wp2_with fail
        go_round
        case rel => exact ⟨k, u * 10000 + d, by omega, by go_num, by go_num, by omega, by show _ = _; rw [HD.out, Nat.mul_comm]; exact Nat.add_comm _ _⟩
        case measure => simp [intOf] <;> omega
    | zero =>
      have hv : z = sv neg u := by
        rw [HX.out.val]
        have := HU.out
        rw [List.drop_zero] at this
        rw [this]
      have HV := Lib.hid hv
      have hm1 : ((0 : Nat) : Int) - 1 = -1 := rfl
      have hpos : neg = true → 0 < u := fun h => by
        have h1 := HX.out.cn.pos (by decide) (fun e => by have := HX.out.pos h; have := HX.out.rd.1; rw [e] at this; simp at this; omega)
        have h2 := HU.out
        rw [List.drop_zero] at h2
        omega
      clear hv
      cases neg
      · clear hpos
        by_cases hlt : (u : Int) < 9223372036854775808
        · have hyes : inI64 z = true := by rw [HV.out]; unfold inI64; simp [sv]; omega
          have HY := Lib.hid hyes
          clear hyes hm1
          go_wp2_with fail
          go_ret2
          refine int_yes HY.out ?_ HB.out
          rw [HV.out]; rfl
        · have hno : inI64 z = false := by rw [HV.out]; unfold inI64; rw [decide_eq_false_iff_not]; simp [sv]; omega
          have HY := Lib.hid hno
          clear hno hm1
          go_wp2_with fail
          go_ret2
          exact int_no HY.out rfl HB.out
      · have hu0 := hpos rfl
        by_cases hle : (u : Int) ≤ 9223372036854775808
        · have hyes : inI64 z = true := by rw [HV.out]; unfold inI64; simp [sv]; omega
          have HY := Lib.hid hyes
          obtain ⟨hw1, _⟩ := wrap_neg u hu0 (by omega)
          have hw2 : wrap64 ((18446744073709551616 - u : Nat) : Int) = -(u : Int) := by unfold wrap64; omega
          have hX : ((18446744073709551616 - u : Nat) : Int) = 18446744073709551616 - (u : Int) := by omega
          generalize 18446744073709551616 - u = X at hw1 hw2 hX
          have HXX := Lib.hid hX
          clear hyes hm1 hpos hX
          go_wp2_with fail
          go_ret2
          refine int_yes HY.out ?_ HB.out
          rw [HV.out]; rfl
        · have hno : inI64 z = false := by rw [HV.out]; unfold inI64; rw [decide_eq_false_iff_not]; simp [sv]; omega
          have HY := Lib.hid hno
          clear hno hm1 hpos
          go_wp2_with fail
          go_ret2
          exact int_no HY.out rfl HB.out

end Go.Proofs.YtimkeblcdodfmaaGreat

namespace Go.Proofs.YtimkeblcdodfmaaGreat
open Go.RowKit Go.Lib

/-- The places of one digit to the base 10000. -/
def PwI (V x p v : Nat) : Prop := (p = 1000 ∧ v = V) ∨ (p = 100 ∧ v = V * 10 + x / 1000) ∨ (p = 10 ∧ v = V * 100 + x / 100) ∨ (p = 1 ∧ v = V * 1000 + x / 10) ∨ (p = 0 ∧ v = V * 10000 + x)

theorem PwI.step {V x p v : Nat} (hx : x < 10000) (h : PwI V x p v) (h0 : 0 < p) : PwI V x (p / 10) (v * 10 + x / p % 10) := by
  unfold PwI at *
  rcases h with ⟨rfl, rfl⟩ | ⟨rfl, rfl⟩ | ⟨rfl, rfl⟩ | ⟨rfl, rfl⟩ | ⟨rfl, rfl⟩ <;> omega

theorem PwI.done {V x v : Nat} (h : PwI V x 0 v) : v = x + BR * V := by
  unfold PwI at h
  show v = x + 10000 * V
  omega

theorem GrB.form {w : World} {base : Nat} {v : Value} {l : List UInt8} (h : GrB w base v l) : ∃ p c, v = .slice p l.length c := by
  obtain ⟨p, c, e, _⟩ := own_form h
  exact ⟨p, c, e⟩

end Go.Proofs.YtimkeblcdodfmaaGreat
