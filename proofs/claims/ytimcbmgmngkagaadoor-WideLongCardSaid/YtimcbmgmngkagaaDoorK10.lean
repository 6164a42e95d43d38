/-
  The numbers with the greatest length: plain; The determinant's closure: a minor, kept.
-/
import Derived.Test.YtimcbmgmngkagaaDoorK1
import Derived.Test.YtimcbmgmngkagaaDoorK2
import Derived.Test.YtimcbmgmngkagaaDoorK3
import Derived.Test.YtimcbmgmngkagaaDoorK4
import Derived.Test.YtimcbmgmngkagaaDoorK5
import Derived.Test.YtimcbmgmngkagaaDoorK6
import Derived.Test.YtimcbmgmngkagaaDoorK7
import Derived.Test.YtimcbmgmngkagaaDoorK8
import Derived.Test.YtimcbmgmngkagaaDoorK9
namespace Go.Proofs.YtimcbmgmngkagaaDoor
open Go.Lib

theorem decV_nines (k : Nat) : decV (List.replicate k 57) + 1 = 10 ^ k := by
  induction k with
  | zero => simp [decV]
  | succ k ih =>
    rw [List.replicate_succ', decV_snoc, Nat.pow_succ, ← ih]
    have : (57 : UInt8).toNat - 48 = 9 := by decide
    omega

/-- 2000 nines, a sign ahead of them or not. -/
def mostL (neg : Bool) : List UInt8 := if neg then 45 :: List.replicate 2000 57 else List.replicate 2000 57

theorem nines_dg (k : Nat) : (List.replicate k (57 : UInt8)).all isDg = true := by
  rw [List.all_eq_true]
  intro x hx
  rw [(List.mem_replicate.1 hx).2]
  decide

theorem nines_plain (k : Nat) : (!(List.replicate (k + 1) (57 : UInt8)).isEmpty) = true ∧ ((List.replicate (k + 1) (57 : UInt8)).head? != some 48) = true ∧ digitsOf (List.replicate (k + 1) (57 : UInt8)) = List.replicate (k + 1) 57 := by
  rw [List.replicate_succ]
  exact ⟨rfl, rfl, rfl⟩

theorem nines_num (neg : Bool) {k : Nat} (hk : k + 1 ≤ 2000) : numB (if neg then 45 :: List.replicate (k + 1) 57 else List.replicate (k + 1) 57) = true := by
  obtain ⟨h1, h2, h3⟩ := nines_plain k
  have hl : decide ((List.replicate (k + 1) (57 : UInt8)).length ≤ 2000) = true := by rw [List.length_replicate]; exact decide_eq_true hk
  cases neg
  · rw [if_neg (by decide)]
    unfold numB plainB
    rw [h3, h1, nines_dg, h2, hl]
    rfl
  · rw [if_pos rfl]
    have hd : digitsOf (45 :: List.replicate (k + 1) (57 : UInt8)) = List.replicate (k + 1) 57 := rfl
    unfold numB plainB
    rw [hd, h1, nines_dg, h2, hl]
    rfl

theorem most_num (neg : Bool) : numB (mostL neg) = true := nines_num neg (k := 1999) (Nat.le_refl _)

theorem most_val (neg : Bool) {k : Nat} (hk : k = 2000) : ∃ N : Nat, N + 1 = 10 ^ k ∧ strV (mostL neg) = if neg then -(N : Int) else (N : Int) := by
  refine ⟨decV (List.replicate 2000 57), by rw [hk]; exact decV_nines 2000, ?_⟩
  cases neg <;> rfl

theorem long_of {z : Int} {k : Nat} (hk : k = 2000) (h : 10 ^ k ≤ z.natAbs) : longB z = true := by
  rw [long_nd]
  rcases Nat.lt_or_ge 2000 (nd0 z.natAbs) with h1 | h1
  · exact h1
  · rw [← hk] at h1
    have := nd0_le.1 h1
    omega
theorem short_of {z : Int} {k : Nat} (hk : k = 2000) (h : z.natAbs < 10 ^ k) : longB z = false := by
  have h1 := nd0_le.2 h
  rw [hk] at h1
  cases hb : longB z
  · rfl
  · have := long_nd.1 hb
    omega

theorem outS_long {z : Int} (h : longB z = true) : outS z = [] ∧ outE z = 2 := by unfold outS outE; rw [h]; exact ⟨rfl, rfl⟩
theorem outS_short {z : Int} (h : longB z = false) : outS z = itoa z ∧ outE z = 0 := by unfold outS outE; rw [h]; exact ⟨rfl, rfl⟩

/-- Sums and products of the greatest numbers. -/
theorem most_says (neg : Bool) {k : Nat} (hk : k = 2000) : ∃ N : Nat, N + 1 = 10 ^ k ∧ (strV (mostL neg)).natAbs = N ∧ 10 ^ 31 < N ∧
    (outS (strV (mostL neg)) = mostL neg ∧ outE (strV (mostL neg)) = 0) ∧ (outS (strV (mostL neg) + strV (mostL neg)) = [] ∧ outE (strV (mostL neg) + strV (mostL neg)) = 2) ∧
    (outS (strV (mostL neg) * 10) = [] ∧ outE (strV (mostL neg) * 10) = 2) ∧
    (∀ z : Int, z.natAbs < 10 ^ 31 → outS (strV (mostL neg) + strV (mostL neg) + z) = [] ∧ outE (strV (mostL neg) + strV (mostL neg) + z) = 2) := by
  obtain ⟨N, hN, hv⟩ := most_val neg hk
  have hbig : 10 ^ 31 < N := by
    have h1 : 10 ^ 40 ≤ 10 ^ k := Nat.pow_le_pow_right (by decide) (by omega)
    have h2 : (10 : Nat) ^ 31 + 2 ≤ 10 ^ 40 := by decide
    omega
  have habs : (strV (mostL neg)).natAbs = N := by rw [hv]; cases neg <;> simp
  generalize hP : 10 ^ k = P at hN
  have hlong : ∀ z : Int, P ≤ z.natAbs → outS z = [] ∧ outE z = 2 := fun z h => outS_long (long_of hk (by rw [hP]; exact h))
  have h31 : (0 : Nat) < 10 ^ 31 := by decide
  refine ⟨N, hN, habs, hbig, ?_, ?_, ?_, ?_⟩
  · have := outS_short (short_of (z := strV (mostL neg)) hk (by rw [hP, habs]; omega))
    rw [itoa_strV (most_num neg)] at this
    exact this
  · refine hlong _ ?_
    generalize strV (mostL neg) = M at *
    omega
  · refine hlong _ ?_
    generalize strV (mostL neg) = M at *
    omega
  · intro z hz
    refine hlong _ ?_
    generalize strV (mostL neg) = M at *
    generalize (10 : Nat) ^ 31 = T at *
    omega

theorem most_over (neg : Bool) : numB (mostL neg ++ [48]) = false := by
  have h : (digitsOf (mostL neg ++ [48])).length = 2001 := by
    have e : digitsOf (mostL neg ++ [48]) = List.replicate 2000 57 ++ [48] := by
      cases neg
      · show digitsOf (List.replicate (1999 + 1) 57 ++ [48]) = List.replicate (1999 + 1) 57 ++ [48]
        rw [List.replicate_succ]
        rfl
      · rfl
    rw [e, List.length_append, List.length_replicate]
    rfl
  unfold numB
  rw [h]
  simp

end Go.Proofs.YtimcbmgmngkagaaDoor

namespace Go.Proofs.YtimcbmgmngkagaaDoor
open Go.RowKit Go.Maps

/-- What a minor hands back. -/
def MinorV (w : World) (br bk bf bm : Nat) (ra : Option Addr) (n c cnt : Nat) (M : List (List Int)) (z : Int) (L : Nat) (e : Ending) (w' : World) : Prop :=
  ∃ neg p m d xs g', e = .returned (.agg #[.bool neg, .slice p m d]) ∧ NumIs w' neg p m d xs z L ∧ DetIs w' br bk bf bm ra n c cnt M g' ∧ w.grownBy w' (some bm)

abbrev minorArgs (r u br bk bf : Nat) : Array Value := #[.int .i64 (r : Int), .int .u64 (u : Int), .pointer (some ⟨br, 0, none⟩), .pointer (some ⟨bk, 0, none⟩), .pointer (some ⟨bf, 0, none⟩)]

set_option maxHeartbeats 1000000 in
theorem minor_none (br bk bf bm : Nat) (ra : Option Addr) (n c cnt : Nat) (M : List (List Int)) (g : Nat → Option Value) (u : Nat) (w : World) (hn : n ≤ 6) (hd : DetIs w br bk bf bm ra n c cnt M g) :
    Calls Tryd.prog 59 (minorArgs n u br bk bf) w (MinorV w br bk bf bm ra n c cnt M 1 1) := by
  have hb0 : Below w.heap.size w (w.alloc (.cells #[.bool false, .slice none 0 0] 47)) := (Below.refl _ w).alloc (Nat.le_refl _) _
  have b0 := Boxed2.new w (.bool false) (.slice none 0 0) 47
  have hd0 := hd.below hb0
  have cr := one_at hd0.r
  go_enter Tryd.func59, Tryd.ntmps59
  go_wp2_with (go_at_call 60; refine (one_any _).mono ?_; rintro e w1 ⟨neg, p, m, d, xs, rfl, hx, hb1⟩; have b1 := b0.below hb1 b0.lt; have c10 := b1.cell0; have c11 := b1.cell1; have q10 := b1.frozen (i := 0); have q11 := b1.frozen (i := 1))
  have r1 := b1.set (.bool neg) (.slice p m d)
  have z0 := r1.cell0
  have z1 := r1.cell1
  refine bodyPost_ret (v := .agg #[.bool neg, .slice p m d]) (by simp [results, Tryd.results59, go_sem, z0, z1]) rfl ⟨neg, p, m, d, xs, g, rfl, hx.set2 b1 _ _, ?_⟩
  exact DetIs.set2 hd ((hd.below hb0).below hb1) (grown_below (hb0.trans (hb1.mono hb0.size)) _) (Nat.le_refl _) b1 _ _ _ _

set_option maxHeartbeats 1000000 in
/-- A minor that is known. -/
theorem minor_known (br bk bf bm : Nat) (ra : Option Addr) (n c cnt : Nat) (M : List (List Int)) (g : Nat → Option Value) (r u : Nat) (w : World) (hn : n ≤ 6) (hr : r < n) (hu : u < 2 ^ n) (hp : pop n u = r) (hd : DetIs w br bk bf bm ra n c cnt M g) (v : Value) (hg : g u = some v) :
    Calls Tryd.prog 59 (minorArgs r u br bk bf) w (MinorV w br bk bf bm ra n c cnt M (minorZ M n (n - r) u) (detL (n - r))) := by
  have hb0 : Below w.heap.size w (w.alloc (.cells #[.bool false, .slice none 0 0] 47)) := (Below.refl _ w).alloc (Nat.le_refl _) _
  have hb0' : Below w.heap.size w ((w.alloc (.cells #[.bool false, .slice none 0 0] 47)).alloc (.cells #[.bool false, .slice none 0 0] 47)) := hb0.alloc (by simp) _
  have b0 := Boxed2.new w (.bool false) (.slice none 0 0) 47
  have hd0 := hd.below hb0
  have cr := one_at hd0.r
  have ck := one_at hd0.k
  have hu64 : u < 18446744073709551616 := by
    have : 2 ^ n ≤ 2 ^ 6 := Nat.pow_le_pow_right (by decide) hn
    omega
  have hlook := hd0.m.look hu64
  obtain ⟨neg, p, m, d, xs, rfl, hx⟩ := hd.kept u v hg
  rw [hg] at hlook
  rw [hp] at hx
  have HX := Lib.hid hx
  have ht : ((r : Int) == (n : Int)) = false := by simp; omega
  clear hg hx hp
  simp only [Option.getD_some, Option.isSome_some] at hlook
  go_enter Tryd.func59, Tryd.ntmps59
  go_wp2_with fail
  have e0 : Boxed2 ((w.alloc (.cells #[.bool neg, .slice p m d] 47)).alloc (.cells #[.bool neg, .slice p m d] 47)) w.heap.size (.bool neg) (.slice p m d) 47 := (Boxed2.new w _ _ _).alloc _
  have z0 := e0.cell0
  have z1 := e0.cell1
  have hb2 : Below w.heap.size w ((w.alloc (.cells #[.bool neg, .slice p m d] 47)).alloc (.cells #[.bool neg, .slice p m d] 47)) := ((Below.refl _ w).alloc (Nat.le_refl _) _).alloc (by simp) _
  exact bodyPost_ret (v := .agg #[.bool neg, .slice p m d]) (by simp [results, Tryd.results59, go_sem, z0, z1]) rfl ⟨neg, p, m, d, xs, g, rfl, HX.out.below hb2, hd.below hb2, grown_below hb2 _⟩

theorem bits_and (u c : Nat) (hu : u < 64) (hc : c < 6) : bits .and .u64 (u : Int) ((2 ^ c : Nat) : Int) = if u.testBit c then ((2 ^ c : Nat) : Int) else 0 := by
  have : ∀ c : Nat, c < 6 → ∀ u : Nat, u < 64 → bits .and .u64 (u : Int) ((2 ^ c : Nat) : Int) = if u.testBit c then ((2 ^ c : Nat) : Int) else 0 := by decide +kernel
  exact this c hc u hu
theorem bits_or (u c : Nat) (hu : u < 64) (hc : c < 6) : bits .or .u64 (u : Int) ((2 ^ c : Nat) : Int) = ((u ||| 2 ^ c : Nat) : Int) := by
  have : ∀ c : Nat, c < 6 → ∀ u : Nat, u < 64 → bits .or .u64 (u : Int) ((2 ^ c : Nat) : Int) = ((u ||| 2 ^ c : Nat) : Int) := by decide +kernel
  exact this c hc u hu

theorem bits_shl (c : Nat) (hc : c < 6) : IntKind.u64.wrap ((2 : Int) ^ c) = ((2 ^ c : Nat) : Int) := by
  have : ∀ c : Nat, c < 6 → IntKind.u64.wrap ((2 : Int) ^ c) = ((2 ^ c : Nat) : Int) := by decide +kernel
  exact this c hc

theorem DetIs.drew {w : World} {br bk bf bm : Nat} {ra : Option Addr} {n c cnt : Nat} {M : List (List Int)} {g : Nat → Option Value} (h : DetIs w br bk bf bm ra n c cnt M g) : DetIs w.drew br bk bf bm ra n c cnt M g :=
  h.below (Below.refl _ _).drew

/-- What holds in every order while a term of the sum is made. -/
def TermI (w0 : World) (br bk bf bm : Nat) (ra : Option Addr) (n c cnt S : Nat) (M : List (List Int)) (tm : Value → Value → Value → Value → Value → Value → Value → Value → Value → Value → Act) (VX VF : Value) (r u t u2 : Nat) (ZM ZT : Int) (LM LT : Nat) (L : Nat → Bool) (x : Act) (w : World) : Prop :=
  ∃ v15 v46 v47 v48 v49 v50 v51 v52 v53 v54, x = tm v15 v46 v47 v48 v49 v50 v51 v52 v53 v54 ∧ w0.grownBy w (some bm)
    ∧ (∃ g q, q ≤ cnt + S ∧ (L 7 = false → q ≤ cnt) ∧ DetIs w br bk bf bm ra n c q M g)
    ∧ (L 0 = true → v46 = VX) ∧ (L 1 = true → v47 = VF) ∧ (L 2 = true → v48 = .int .i64 (r : Int)) ∧ (L 3 = true → v49 = .int .i64 ((r : Int) + 1)) ∧ (L 4 = true → v50 = .int .u64 (u : Int)) ∧ (L 5 = true → v51 = .int .u64 (t : Int)) ∧ (L 6 = true → v52 = .int .u64 (u2 : Int))
    ∧ (L 7 = true → ∃ neg p m d xs, v53 = .agg #[.bool neg, .slice p m d] ∧ NumIs w neg p m d xs ZM LM)
    ∧ (L 8 = true → ∃ neg p m d xs, v54 = .agg #[.bool neg, .slice p m d] ∧ NumIs w neg p m d xs ZT LT)
    ∧ (L 9 = true → ∃ B a q k d, v15 = .pointer (some ⟨B, 0, none⟩) ∧ w0.heap.size ≤ B ∧ Boxed2 w B (.bool a) (.slice q k d) 47 ∧ (L 10 = true → ∃ xs, NumIs w a q k d xs ZT LT))
    ∧ (L 10 = true → L 9 = true)

theorem DetIs.mono {w : World} {br bk bf bm : Nat} {ra : Option Addr} {n c cnt cnt' : Nat} {M : List (List Int)} {g : Nat → Option Value} (h : DetIs w br bk bf bm ra n c cnt M g) (hc : cnt ≤ cnt') : DetIs w br bk bf bm ra n c cnt' M g :=
  { h with m := h.m.mono hc }

set_option maxRecDepth 100000 in
set_option maxHeartbeats 4000000 in
/-- A minor that is not known yet, from the minors of one row less. -/
theorem minor_step (br bk bf bm : Nat) (ra : Option Addr) (n c : Nat) (M : List (List Int)) (k : Nat) (hn : n ≤ 6) (hM : M.length = n) (hsq : ∀ row ∈ M, row.length = n)
    (ih : ∀ (r u cnt : Nat) (g : Nat → Option Value) (w : World), r + k = n → u < 2 ^ n → pop n u = r → cnt + detS k ≤ 900000 → DetIs w br bk bf bm ra n c cnt M g →
      Calls Tryd.prog 59 (minorArgs r u br bk bf) w (MinorV w br bk bf bm ra n c (cnt + detS k) M (minorZ M n k u) (detL k)))
    (r u cnt : Nat) (g : Nat → Option Value) (w : World) (hr : r + (k + 1) = n) (hu : u < 2 ^ n) (hp : pop n u = r) (hcnt : cnt + detS (k + 1) ≤ 900000) (hd : DetIs w br bk bf bm ra n c cnt M g) (hg : g u = none) :
    Calls Tryd.prog 59 (minorArgs r u br bk bf) w (MinorV w br bk bf bm ra n c (cnt + detS (k + 1)) M (minorZ M n (k + 1) u) (detL (k + 1))) := by
  have hb0 : Below w.heap.size w (w.alloc (.cells #[.bool false, .slice none 0 0] 47)) := (Below.refl _ w).alloc (Nat.le_refl _) _
  have hb1 : Below w.heap.size w ((w.alloc (.cells #[.bool false, .slice none 0 0] 47)).alloc (.cells #[.bool false, .slice none 0 0] 47)) := hb0.alloc (by simp) _
  have hb2 : Below w.heap.size w (((w.alloc (.cells #[.bool false, .slice none 0 0] 47)).alloc (.cells #[.bool false, .slice none 0 0] 47)).alloc (.cells #[.bool false, .slice none 0 0] 47)) := hb1.alloc (by simp; omega) _
  have hd0 := hd.below hb0
  have hd2 := hd.below hb2
  have cr := one_at hd0.r
  have ck := one_at hd0.k
  have cr2 := one_at hd2.r
  have hu6 : u < 64 := by
    have : 2 ^ n ≤ 2 ^ 6 := Nat.pow_le_pow_right (by decide) hn
    omega
  have hlook := hd0.m.look (show u < 18446744073709551616 by omega)
  rw [hg] at hlook
  have ht : ((r : Int) == (n : Int)) = false := by simp; omega
  have hrM : r < M.length := by omega
  obtain ⟨b, off, p, cc, hra, hlt, hcell, hnums⟩ := hd.rows r M[r] (List.getElem?_eq_getElem hrM)
  have hrl := hsq _ (List.getElem_mem hrM)
  rw [hrl] at hcell
  have hcell2 := (hb2.cell (p := ⟨b, off + r, none⟩) hlt).trans hcell
  have hmin : minorZ M n (k + 1) u = (colS M[r] (fun c => minorZ M n k (u ||| 2 ^ c)) u n).1 := by
    conv => lhs; unfold minorZ
    rw [show n - (k + 1) = r by omega, List.getElem?_eq_getElem hrM]; rfl
  rw [hmin]
  subst hra
  generalize M[r] = row at *
  have HMIN := Lib.hid hmin
  have HD := Lib.hid hd
  have HM := Lib.hid hM
  have HSQ := Lib.hid hsq
  have HP := Lib.hid hp
  have HRL := Lib.hid hrl
  have HN := Lib.hid hnums
  have HIH := Lib.hid ih
  simp only [Option.getD_none, Option.isSome_none, zeroNum] at hlook
  clear hg hmin hM hsq hp hrl hnums ih hcell hd hd0 hd2
  go_enter Tryd.func59, Tryd.ntmps59
  go_wp2_with fail
  go_loopg [11, 35] n (fun gk v11 i wr => ∃ (j : Nat) (neg : Bool) (q : Option Addr) (m d : Nat) (xs : List Nat) (g' : Nat → Option Value) (tot : Int) (trn : Bool), j ≤ n ∧ gk = n - j ∧ i = .int .i64 j ∧ v11 = .bool trn ∧ Hid (colS row (fun c => minorZ M n k (u ||| 2 ^ c)) u j = (tot, trn))
      ∧ Boxed2 wr (w.heap.size + 1 + 1) (.bool neg) (.slice q m d) 47 ∧ Boxed2 wr w.heap.size (.bool false) (.slice none 0 0) 47
      ∧ Hid (NumIs wr neg q m d xs tot (detL k + 223 + 2 * j)) ∧ Hid (DetIs wr br bk bf bm (some ⟨b, off, none⟩) n c (cnt + j * detS k) M g') ∧ Hid (w.grownBy wr (some bm)))
  case atStart =>
    refine ⟨0, false, none, 0, 0, [], g, 0, false, Nat.zero_le _, rfl, rfl, rfl, rfl, ?_, ((Boxed2.new w _ _ _).alloc _).alloc _, ?_, ?_, ?_⟩
    · have := Boxed2.new ((w.alloc (.cells #[.bool false, .slice none 0 0] 47)).alloc (.cells #[.bool false, .slice none 0 0] 47)) (.bool false) (.slice none 0 0) 47
      simpa using this
    · exact { rd := Rd.nil _ _ _, cap := Nat.le_refl _, len := Nat.zero_le _, cn := Cn.nil _, pos := (by intro h; cases h), val := rfl }
    · have := HD.out.below hb2
      rw [Nat.zero_mul]
      exact this
    · exact grown_below hb2 _
  case round =>
    obtain ⟨j, neg, q, m, d, xs, g', tot, trn, hj, hgk, rfl, rfl, HST, hB, hB0, HX, HD2, HG⟩ := hrel
    have HGK := Lib.hid hgk
    clear hgk
    by_cases hlt2 : j < n
    · cases hbit : u.testBit j
      · have hju : u ||| 2 ^ j < 2 ^ n := or_lt hu hlt2
        have hpo := pop_or n u j hlt2 hbit
        have ha := bits_and u j hu6 (by omega)
        have ho := bits_or u j hu6 (by omega)
        have hsh := bits_shl j (by omega)
        rw [hbit] at ha
        obtain ⟨b', off', neg2, p2, n2, c2, xs2, hpa, hlt3, e0, e1, hx⟩ := HN.out j _ (List.getElem?_eq_getElem (by rw [HRL.out]; exact hlt2))
        have HBI := Lib.hid hbit
        subst hpa
        rw [← ent_at] at hx
        have hm := HD.out.m.at
        have e0' := cell_grown hm HG.out e0
        have e1' := cell_grown hm HG.out e1
        generalize h2j : (2 ^ j : Nat) = tj at hju hpo ha ho hsh
        simp only [Bool.false_eq_true, if_false] at ha
        have HU := Lib.hid hju
        have HPO := Lib.hid hpo
        have HXX := Lib.hid hx
        have H2J := Lib.hid h2j
        have HM2 := Lib.hid hm
        clear hju hpo hx h2j e0 e1 hm
        go_wp2_with fail
        obtain ⟨w0, hw0⟩ : ∃ w0, wr.alloc (.cells #[.bool neg2, .slice p2 n2 c2] 47) = w0 := ⟨_, rfl⟩
        have hbw : Below wr.heap.size wr w0 := by rw [← hw0]; exact (Below.refl _ _).alloc (Nat.le_refl _) _
        have bx : Boxed2 w0 wr.heap.size (.bool neg2) (.slice p2 n2 c2) 47 := by rw [← hw0]; exact Boxed2.new _ _ _ _
        have bt : Boxed2 w0 (w.heap.size + 1 + 1) (.bool neg) (.slice q m d) 47 := hB.below hbw hB.lt
        have b7 : Boxed2 w0 w.heap.size (.bool false) (.slice none 0 0) 47 := hB0.below hbw hB0.lt
        have HD0 := Lib.hid (HD2.out.below hbw)
        have HX0 := Lib.hid (HX.out.below hbw)
        have HM0 := Lib.hid HD0.out.m.at
        have HXX0 := Lib.hid ((HXX.out.grown HD.out.m.at HG.out).below hbw)
        have HG0 := Lib.hid (grown_trans HG.out (grown_below hbw _))
        have HSZ := Lib.hid (show w.heap.size ≤ w0.heap.size from HG0.out.size)
        rw [hw0]
        have HJC := Lib.hid (show cnt + j * detS k + detS k ≤ 900000 by have h6 : j * detS k + detS k ≤ 6 * detS k := by { have : (j + 1) * detS k ≤ 6 * detS k := Nat.mul_le_mul_right _ (by omega); rw [Nat.add_mul, Nat.one_mul] at this; exact this }; have h7 : detS (k + 1) = 6 * detS k + 1 := rfl; omega)
        clear hw0 hbw e0' e1'
        go_cut [15] from 46 to 54 (fun v15 wx => ∃ B neg3 q3 m3 d3 xs3 g3, v15 = .pointer (some ⟨B, 0, none⟩) ∧ w0.heap.size ≤ B ∧ Boxed2 wx B (.bool neg3) (.slice q3 m3 d3) 47 ∧ Hid (NumIs wx neg3 q3 m3 d3 xs3 (ent row j * minorZ M n k (u ||| tj)) (223 + detL k)) ∧ Hid (DetIs wx br bk bf bm (some ⟨b, off, none⟩) n c (cnt + (j + 1) * detS k) M g3) ∧ Hid (w0.grownBy wx (some bm)))
        case first =>
          refine wp_region_inv (by kernel_rfl) (by kernel_rfl) (TermI w0 br bk bf bm (some ⟨b, off, none⟩) n c (cnt + j * detS k) (detS k) M (fun v15 v46 v47 v48 v49 v50 v51 v52 v53 v54 => { tmps := #[.int .i64 (r : Int), .int .u64 (u : Int), .pointer (some ⟨br, 0, none⟩), .pointer (some ⟨bk, 0, none⟩), .pointer (some ⟨bf, 0, none⟩), undef, undef, .pointer (some ⟨w.heap.size, 0, none⟩), .pointer (some ⟨w.heap.size + 1, 0, none⟩), .bool false, .pointer (some ⟨w.heap.size + 1 + 1, 0, none⟩), .bool trn, .int .i64 (j : Int), .pointer (some ⟨wr.heap.size, 0, none⟩), .int .u64 (tj : Int), v15, .int .i64 (r : Int), .slice (some ⟨b, off, none⟩) n c, .int .i64 (n : Int), .bool false, undef, .tuple #[.agg #[.bool false, .slice none 0 0], .bool false], .map (some bm), .int .u64 (u : Int), .tuple #[.agg #[.bool false, .slice none 0 0], .bool false], .agg #[.bool false, .slice none 0 0], .bool false, .bool false, undef, .agg #[.bool false, .slice none 0 0], .slice (some ⟨b, off, none⟩) n c, .int .i64 (r : Int), .pointer (some ⟨b, off + r, none⟩), .slice (some ⟨b', off', none⟩) n cc, .int .i64 (n : Int), .int .i64 (j : Int), .bool true, .int .i64 (j : Int), .pointer (some ⟨b', off' + j * 2, none⟩), .agg #[.bool neg2, .slice p2 n2 c2], .int .i64 (j : Int), .int .u64 (tj : Int), .int .u64 (u : Int), .int .u64 (tj : Int), .int .u64 0, .bool false, v46, v47, v48, v49, v50, v51, v52, v53, v54, u55, u56, u57, u58, u59, u60, u61, u62, u63, u64, undef, undef, undef, undef], defers := [] }) (.agg #[.bool neg2, .slice p2 n2 c2]) (.func (.func 59) #[] #[.pointer (some ⟨br, 0, none⟩), .pointer (some ⟨bk, 0, none⟩), .pointer (some ⟨bf, 0, none⟩)]) r u tj (u ||| tj) (minorZ M n k (u ||| tj)) (ent row j * minorZ M n k (u ||| tj)) (detL k) (223 + detL k)) ?h0 ?step ?done
          case h0 => exact ⟨_, _, _, _, _, _, _, _, _, _, rfl, grown_drew (grown_refl _ _), ⟨_, _, Nat.le_add_right _ _, fun _ => Nat.le_refl _, HD0.out.drew⟩, by simp, by simp, by simp, by simp, by simp, by simp, by simp, by simp, by simp, by simp, by simp⟩
          case step =>
            rintro S i a' w' ⟨v15, v46, v47, v48, v49, v50, v51, v52, v53, v54, rfl, hg, ⟨g2, q2, hq, hq0, hD⟩, f0, f1, f2, f3, f4, f5, f6, f7, f8, f9, o10⟩ hi hS hd
            have hm2 := hD.m.at
            have bx2 := bx.grown HM0.out hg
            have cx0 := bx2.cell0
            have cx1 := bx2.cell1
            have cf := one_at hD.f
            rcases i with _ | _ | _ | _ | _ | _ | _ | _ | _ | _ | _ | i
            · refine wpOp_list rfl ?_
              go_wp2
              exact ⟨_, _, _, _, _, _, _, _, _, _, rfl, hg, ⟨g2, q2, hq, (fun h => hq0 (by simpa using h)), hD⟩, (fun _ => rfl), (fun h => by first | rfl | exact f1 (by simpa using h)), (fun h => by first | rfl | exact f2 (by simpa using h)), (fun h => by first | rfl | exact f3 (by simpa using h)), (fun h => by first | rfl | exact f4 (by simpa using h)), (fun h => by first | rfl | exact f5 (by simpa using h)), (fun h => by first | rfl | exact f6 (by simpa using h)), (fun h => f7 (by simpa using h)), (fun h => f8 (by simpa using h)), (fun h => by obtain ⟨B, a1, q1, k1, d1, e1, e2, e3, e4⟩ := f9 (by simpa using h); exact ⟨B, a1, q1, k1, d1, e1, e2, e3, fun h => e4 (by simpa using h)⟩), (fun h => by first | (simp; done) | (simp at h ⊢; first | exact o10 h | exact .inl (o10 h) | simp [hd]))⟩
            · refine wpOp_list rfl ?_
              go_wp2
              exact ⟨_, _, _, _, _, _, _, _, _, _, rfl, hg, ⟨g2, q2, hq, (fun h => hq0 (by simpa using h)), hD⟩, (fun h => by first | rfl | exact f0 (by simpa using h)), (fun _ => rfl), (fun h => by first | rfl | exact f2 (by simpa using h)), (fun h => by first | rfl | exact f3 (by simpa using h)), (fun h => by first | rfl | exact f4 (by simpa using h)), (fun h => by first | rfl | exact f5 (by simpa using h)), (fun h => by first | rfl | exact f6 (by simpa using h)), (fun h => f7 (by simpa using h)), (fun h => f8 (by simpa using h)), (fun h => by obtain ⟨B, a1, q1, k1, d1, e1, e2, e3, e4⟩ := f9 (by simpa using h); exact ⟨B, a1, q1, k1, d1, e1, e2, e3, fun h => e4 (by simpa using h)⟩), (fun h => by first | (simp; done) | (simp at h ⊢; first | exact o10 h | exact .inl (o10 h) | simp [hd]))⟩
            · refine wpOp_list rfl ?_
              go_wp2
              exact ⟨_, _, _, _, _, _, _, _, _, _, rfl, hg, ⟨g2, q2, hq, (fun h => hq0 (by simpa using h)), hD⟩, (fun h => by first | rfl | exact f0 (by simpa using h)), (fun h => by first | rfl | exact f1 (by simpa using h)), (fun _ => rfl), (fun h => by first | rfl | exact f3 (by simpa using h)), (fun h => by first | rfl | exact f4 (by simpa using h)), (fun h => by first | rfl | exact f5 (by simpa using h)), (fun h => by first | rfl | exact f6 (by simpa using h)), (fun h => f7 (by simpa using h)), (fun h => f8 (by simpa using h)), (fun h => by obtain ⟨B, a1, q1, k1, d1, e1, e2, e3, e4⟩ := f9 (by simpa using h); exact ⟨B, a1, q1, k1, d1, e1, e2, e3, fun h => e4 (by simpa using h)⟩), (fun h => by first | (simp; done) | (simp at h ⊢; first | exact o10 h | exact .inl (o10 h) | simp [hd]))⟩
            · simp [depsB, Region.binds] at hd
              obtain rfl := f2 (by simp [hd])
              refine wpOp_list rfl ?_
              go_wp2
              exact ⟨_, _, _, _, _, _, _, _, _, _, rfl, hg, ⟨g2, q2, hq, (fun h => hq0 (by simpa using h)), hD⟩, (fun h => by first | rfl | exact f0 (by simpa using h)), (fun h => by first | rfl | exact f1 (by simpa using h)), (fun h => by first | rfl | exact f2 (by simpa using h)), (fun _ => rfl), (fun h => by first | rfl | exact f4 (by simpa using h)), (fun h => by first | rfl | exact f5 (by simpa using h)), (fun h => by first | rfl | exact f6 (by simpa using h)), (fun h => f7 (by simpa using h)), (fun h => f8 (by simpa using h)), (fun h => by obtain ⟨B, a1, q1, k1, d1, e1, e2, e3, e4⟩ := f9 (by simpa using h); exact ⟨B, a1, q1, k1, d1, e1, e2, e3, fun h => e4 (by simpa using h)⟩), (fun h => by first | (simp; done) | (simp at h ⊢; first | exact o10 h | exact .inl (o10 h) | simp [hd]))⟩
            · refine wpOp_list rfl ?_
              go_wp2
              exact ⟨_, _, _, _, _, _, _, _, _, _, rfl, hg, ⟨g2, q2, hq, (fun h => hq0 (by simpa using h)), hD⟩, (fun h => by first | rfl | exact f0 (by simpa using h)), (fun h => by first | rfl | exact f1 (by simpa using h)), (fun h => by first | rfl | exact f2 (by simpa using h)), (fun h => by first | rfl | exact f3 (by simpa using h)), (fun _ => rfl), (fun h => by first | rfl | exact f5 (by simpa using h)), (fun h => by first | rfl | exact f6 (by simpa using h)), (fun h => f7 (by simpa using h)), (fun h => f8 (by simpa using h)), (fun h => by obtain ⟨B, a1, q1, k1, d1, e1, e2, e3, e4⟩ := f9 (by simpa using h); exact ⟨B, a1, q1, k1, d1, e1, e2, e3, fun h => e4 (by simpa using h)⟩), (fun h => by first | (simp; done) | (simp at h ⊢; first | exact o10 h | exact .inl (o10 h) | simp [hd]))⟩
            · refine wpOp_list rfl ?_
              go_wp2
              exact ⟨_, _, _, _, _, _, _, _, _, _, rfl, hg, ⟨g2, q2, hq, (fun h => hq0 (by simpa using h)), hD⟩, (fun h => by first | rfl | exact f0 (by simpa using h)), (fun h => by first | rfl | exact f1 (by simpa using h)), (fun h => by first | rfl | exact f2 (by simpa using h)), (fun h => by first | rfl | exact f3 (by simpa using h)), (fun h => by first | rfl | exact f4 (by simpa using h)), (fun _ => rfl), (fun h => by first | rfl | exact f6 (by simpa using h)), (fun h => f7 (by simpa using h)), (fun h => f8 (by simpa using h)), (fun h => by obtain ⟨B, a1, q1, k1, d1, e1, e2, e3, e4⟩ := f9 (by simpa using h); exact ⟨B, a1, q1, k1, d1, e1, e2, e3, fun h => e4 (by simpa using h)⟩), (fun h => by first | (simp; done) | (simp at h ⊢; first | exact o10 h | exact .inl (o10 h) | simp [hd]))⟩
            · simp [depsB, Region.binds] at hd
              obtain rfl := f4 (by simp [hd])
              obtain rfl := f5 (by simp [hd])
              refine wpOp_list rfl ?_
              go_wp2
              exact ⟨_, _, _, _, _, _, _, _, _, _, rfl, hg, ⟨g2, q2, hq, (fun h => hq0 (by simpa using h)), hD⟩, (fun h => by first | rfl | exact f0 (by simpa using h)), (fun h => by first | rfl | exact f1 (by simpa using h)), (fun h => by first | rfl | exact f2 (by simpa using h)), (fun h => by first | rfl | exact f3 (by simpa using h)), (fun h => by first | rfl | exact f4 (by simpa using h)), (fun h => by first | rfl | exact f5 (by simpa using h)), (fun _ => rfl), (fun h => f7 (by simpa using h)), (fun h => f8 (by simpa using h)), (fun h => by obtain ⟨B, a1, q1, k1, d1, e1, e2, e3, e4⟩ := f9 (by simpa using h); exact ⟨B, a1, q1, k1, d1, e1, e2, e3, fun h => e4 (by simpa using h)⟩), (fun h => by first | (simp; done) | (simp at h ⊢; first | exact o10 h | exact .inl (o10 h) | simp [hd]))⟩
            · simp [depsB, Region.binds] at hd
              obtain rfl := f1 (by simp [hd])
              obtain rfl := f3 (by simp [hd])
              obtain rfl := f6 (by simp [hd])
              have hcall := HIH.out (r + 1) (u ||| tj) q2 g2 w' (by omega) HU.out (by rw [HPO.out, HP.out]) (by have := hq0 hS; have := HJC.out; omega) hD
              have e1 : ((r + 1 : Nat) : Int) = (r : Int) + 1 := by omega
              unfold minorArgs at hcall
              rw [e1] at hcall
              have HC := Lib.hid hcall
              clear hcall e1
              refine wpOp_list rfl ?_
              go_wp2_with (go_at_call 59; refine HC.out.mono ?_; rintro e w1 ⟨neg1, p1, m1, d1, xs1, g3, rfl, hx1, hD1, hg1⟩)
              exact ⟨_, _, _, _, _, _, _, _, _, _, rfl, grown_trans hg hg1, ⟨g3, q2 + detS k, by have := hq0 hS; omega, (fun h => by simp at h), hD1⟩, (fun h => by first | rfl | exact f0 (by simpa using h)), (fun h => by first | rfl | exact f1 (by simpa using h)), (fun h => by first | rfl | exact f2 (by simpa using h)), (fun h => by first | rfl | exact f3 (by simpa using h)), (fun h => by first | rfl | exact f4 (by simpa using h)), (fun h => by first | rfl | exact f5 (by simpa using h)), (fun h => by first | rfl | exact f6 (by simpa using h)), (fun _ => ⟨_, _, _, _, _, rfl, hx1⟩), (fun h => by obtain ⟨a1, a2, a3, a4, a5, a6, a7⟩ := f8 (by simpa using h); exact ⟨a1, a2, a3, a4, a5, a6, a7.grown hm2 hg1⟩), (fun h => by obtain ⟨B, a1, q1, k1, d1, e1, e2, e3, e4⟩ := f9 (by simpa using h); exact ⟨B, a1, q1, k1, d1, e1, e2, e3.grown hm2 hg1, fun h => by obtain ⟨xs, hxs⟩ := e4 (by simpa using h); exact ⟨xs, hxs.grown hm2 hg1⟩⟩), (fun h => by first | (simp; done) | (simp at h ⊢; first | exact o10 h | exact .inl (o10 h) | simp [hd]))⟩
            · simp [depsB, Region.binds] at hd
              obtain rfl := f0 (by simp [hd])
              obtain ⟨neg7, p7, m7, d7, xs7, rfl, hx7⟩ := f7 (by simp [hd])
              have hxx := HXX0.out.grown HM0.out hg
              refine wpOp_list rfl ?_
              go_wp2_with (go_at_call 21; refine (product_num hxx hx7 (by omega) (by unfold detL; omega)).mono ?_; rintro e w1 ⟨neg1, p1, m1, d1, xs1, rfl, hx1, hb1⟩)
              exact ⟨_, _, _, _, _, _, _, _, _, _, rfl, grown_trans hg (grown_below hb1 _), ⟨g2, q2, hq, (fun h => hq0 (by simpa using h)), hD.below hb1⟩, (fun h => by first | rfl | exact f0 (by simpa using h)), (fun h => by first | rfl | exact f1 (by simpa using h)), (fun h => by first | rfl | exact f2 (by simpa using h)), (fun h => by first | rfl | exact f3 (by simpa using h)), (fun h => by first | rfl | exact f4 (by simpa using h)), (fun h => by first | rfl | exact f5 (by simpa using h)), (fun h => by first | rfl | exact f6 (by simpa using h)), (fun h => by obtain ⟨a1, a2, a3, a4, a5, a6, a7⟩ := f7 (by simpa using h); exact ⟨a1, a2, a3, a4, a5, a6, a7.below hb1⟩), (fun _ => ⟨_, _, _, _, _, rfl, hx1⟩), (fun h => by obtain ⟨B, a1, q1, k1, d1, e1, e2, e3, e4⟩ := f9 (by simpa using h); exact ⟨B, a1, q1, k1, d1, e1, e2, e3.below hb1 e3.lt, fun h => by obtain ⟨xs, hxs⟩ := e4 (by simpa using h); exact ⟨xs, hxs.below hb1⟩⟩), (fun h => by first | (simp; done) | (simp at h ⊢; first | exact o10 h | exact .inl (o10 h) | simp [hd]))⟩
            · have hS10 : S 10 = false := by cases h : S 10; rfl; rw [o10 h] at hS; cases hS
              have hbA : Below w'.heap.size w' (w'.alloc (.cells #[.bool false, .slice none 0 0] 47)) := (Below.refl _ _).alloc (Nat.le_refl _) _
              refine wpOp_list rfl ?_
              go_wp2
              exact ⟨_, _, _, _, _, _, _, _, _, _, rfl, grown_trans hg (grown_below hbA _), ⟨g2, q2, hq, (fun h => hq0 (by simpa using h)), hD.below hbA⟩, (fun h => by first | rfl | exact f0 (by simpa using h)), (fun h => by first | rfl | exact f1 (by simpa using h)), (fun h => by first | rfl | exact f2 (by simpa using h)), (fun h => by first | rfl | exact f3 (by simpa using h)), (fun h => by first | rfl | exact f4 (by simpa using h)), (fun h => by first | rfl | exact f5 (by simpa using h)), (fun h => by first | rfl | exact f6 (by simpa using h)), (fun h => by obtain ⟨a1, a2, a3, a4, a5, a6, a7⟩ := f7 (by simpa using h); exact ⟨a1, a2, a3, a4, a5, a6, a7.below hbA⟩), (fun h => by obtain ⟨a1, a2, a3, a4, a5, a6, a7⟩ := f8 (by simpa using h); exact ⟨a1, a2, a3, a4, a5, a6, a7.below hbA⟩), (fun _ => ⟨_, _, _, _, _, rfl, hg.size, Boxed2.new _ _ _ _, fun h => by simp [hS10] at h⟩), (fun h => by first | (simp; done) | (simp at h ⊢; first | exact o10 h | exact .inl (o10 h) | simp [hd]))⟩
            · simp [depsB, Region.binds] at hd
              obtain ⟨neg8, p8, m8, d8, xs8, rfl, hx8⟩ := f8 (by simp [hd])
              obtain ⟨B, a1, q1, k1, d1, rfl, e2, e3, e4⟩ := f9 (by simp [hd])
              have s0 := e3.cell0
              have s1 := e3.cell1
              have s2 := e3.frozen (i := 0)
              have s3 := e3.frozen (i := 1)
              have hs := DetIs.set2 HD0.out hD hg e2 e3 neg8 p8 m8 d8
              refine wpOp_list rfl ?_
              go_wp2
              exact ⟨_, _, _, _, _, _, _, _, _, _, rfl, hs.2, ⟨g2, q2, hq, (fun h => hq0 (by simpa using h)), hs.1⟩, (fun h => by first | rfl | exact f0 (by simpa using h)), (fun h => by first | rfl | exact f1 (by simpa using h)), (fun h => by first | rfl | exact f2 (by simpa using h)), (fun h => by first | rfl | exact f3 (by simpa using h)), (fun h => by first | rfl | exact f4 (by simpa using h)), (fun h => by first | rfl | exact f5 (by simpa using h)), (fun h => by first | rfl | exact f6 (by simpa using h)), (fun h => by obtain ⟨a1, a2, a3, a4, a5, a6, a7⟩ := f7 (by simpa using h); exact ⟨a1, a2, a3, a4, a5, a6, a7.set2 e3 _ _⟩), (fun h => ⟨_, _, _, _, _, rfl, hx8.set2 e3 _ _⟩), (fun _ => ⟨B, _, _, _, _, rfl, e2, e3.set _ _, fun _ => ⟨_, hx8.set2 e3 _ _⟩⟩), (fun h => by first | (simp; done) | (simp at h ⊢; first | exact o10 h | exact .inl (o10 h) | simp [hd]))⟩
            · simp at hi; omega
          case done =>
            rintro S a' w' hall ⟨v15, v46, v47, v48, v49, v50, v51, v52, v53, v54, rfl, hg, ⟨g2, q2, hq, hq0, hD⟩, f0, f1, f2, f3, f4, f5, f6, f7, f8, f9, o10⟩
            obtain ⟨B, a1, q1, k1, d1, rfl, e2, e3, e4⟩ := f9 (hall 9 (by decide))
            obtain ⟨xs4, hx4⟩ := e4 (hall 10 (by decide))
            go_wp2
            go_meet
            exact ⟨B, a1, q1, k1, d1, xs4, g2, rfl, e2, e3, hx4, hD.mono (by rw [Nat.add_mul, Nat.one_mul]; omega), hg⟩
        case rest =>
          obtain ⟨B, neg3, q3, m3, d3, xs3, g3, rfl, hBs, bB, HT3, HD3, HG3⟩ := hcut
          have bt3 := bt.grown HM0.out HG3.out
          have b73 := b7.grown HM0.out HG3.out
          have HX3 := Lib.hid (HX0.out.grown HM0.out HG3.out)
          have HGA := Lib.hid (grown_trans HG0.out HG3.out)
          have ct0 := bt3.cell0
          have ct1 := bt3.cell1
          have cb0 := bB.cell0
          have cb1 := bB.cell1
          cases trn
          · have hbA : Below wc.heap.size wc (wc.alloc (.cells #[.bool neg, .slice q m d, .bool neg3, .slice q3 m3 d3] 47)) := (Below.refl _ _).alloc (Nat.le_refl _) _
            go_wp2_with (go_at_call 19; refine (sum_two HX3.out (HT3.out.mono (by omega)) (by unfold detL; omega) _ _ _ (by simp)).mono ?_; rintro e w5 ⟨neg5, p5, n5, d5, xs5, rfl, hx5, hb5⟩; have bt5 := (bt3.below hbA bt3.lt).below hb5 (Nat.lt_of_lt_of_le bt3.lt hbA.size); have b75 := (b73.below hbA b73.lt).below hb5 (Nat.lt_of_lt_of_le b73.lt hbA.size); have hbX := hbA.trans (hb5.mono hbA.size); have c50 := bt5.cell0; have c51 := bt5.cell1; have q50 := bt5.frozen (i := 0); have q51 := bt5.frozen (i := 1))
            have HS5 := Lib.hid (DetIs.set2 HD.out (HD3.out.below hbX) (grown_trans HGA.out (grown_below hbX _)) (show w.heap.size ≤ w.heap.size + 1 + 1 by omega) bt5 neg5 p5 n5 d5)
            go_roundg (n - (j + 1))
            case measure => rw [HGK.out]; omega
            case rel =>
              refine ⟨j + 1, neg5, p5, n5, d5, xs5, g3, tot + ent row j * minorZ M n k (u ||| tj), true, by omega, rfl, by go_num, rfl, ?_, bt5.set _ _, (b75.setOther _ (by omega)).setOther _ (by omega), (hx5.set2 bt5 _ _).mono (by omega), HS5.out.1, HS5.out.2⟩
              have := colS_free (xs := row) (f := fun c => minorZ M n k (u ||| 2 ^ c)) HBI.out
              rw [HST.out, H2J.out] at this
              exact this
          · have hne : w.heap.size + 1 + 1 ≠ B := by have := bt.lt; omega
            have hne0 : w.heap.size ≠ B := by have := bt.lt; omega
            go_wp2_with (first
              | (go_at_call 22; refine (opposite_num HT3.out).mono ?_; rintro e w4 ⟨neg4, p4, n4, d4, xs4, rfl, hx4, hb4⟩; have bB4 := bB.below hb4 bB.lt; have bt4 := bt3.below hb4 bt3.lt; have b74 := b73.below hb4 b73.lt; have c40 := bB4.cell0; have c41 := bB4.cell1; have q40 := bB4.frozen (i := 0); have q41 := bB4.frozen (i := 1); have bB5 := bB4.set (.bool neg4) (.slice p4 n4 d4); have bt5 := (bt4.setOther (C := B) (i := 0) (.bool neg4) hne).setOther (C := B) (i := 1) (.slice p4 n4 d4) hne; have b75 := (b74.setOther (C := B) (i := 0) (.bool neg4) hne0).setOther (C := B) (i := 1) (.slice p4 n4 d4) hne0; have t40 := bt5.cell0; have t41 := bt5.cell1; have t42 := bB5.cell0; have t43 := bB5.cell1; have HS4 := Lib.hid (DetIs.set2 HD.out (HD3.out.below hb4) (grown_trans HGA.out (grown_below hb4 _)) (show w.heap.size ≤ B by have := bt.lt; omega) bB4 neg4 p4 n4 d4); have hx4' := hx4.set2 bB4 neg4 (.slice p4 n4 d4); have hx3' := (HX3.out.below hb4).set2 bB4 neg4 (.slice p4 n4 d4))
              | (go_at_call 19; refine (sum_two hx3' (hx4'.mono (by omega)) (by unfold detL; omega) _ _ _ (by simp)).mono ?_; rintro e w5 ⟨neg5, p5, n5, d5, xs5, rfl, hx5, hb5⟩; have bt6 := (bt5.alloc (.cells #[.bool neg, .slice q m d, .bool neg4, .slice p4 n4 d4] 47)).below hb5 (bt5.alloc _).lt; have b76 := (b75.alloc (.cells #[.bool neg, .slice q m d, .bool neg4, .slice p4 n4 d4] 47)).below hb5 (b75.alloc _).lt; have c60 := bt6.cell0; have c61 := bt6.cell1; have q60 := bt6.frozen (i := 0); have q61 := bt6.frozen (i := 1)))
            have hbX : Below ((w4.setCell ⟨B, 0, none⟩ (.bool neg4)).setCell ⟨B, 1, none⟩ (.slice p4 n4 d4)).heap.size ((w4.setCell ⟨B, 0, none⟩ (.bool neg4)).setCell ⟨B, 1, none⟩ (.slice p4 n4 d4)) w5 := ((Below.refl _ _).alloc (Nat.le_refl _) _).trans (hb5.mono (by rw [World.size_alloc]; omega))
            have HS5 := Lib.hid (DetIs.set2 HD.out (HS4.out.1.below hbX) (grown_trans HS4.out.2 (grown_below hbX _)) (show w.heap.size ≤ w.heap.size + 1 + 1 by omega) bt6 neg5 p5 n5 d5)
            go_roundg (n - (j + 1))
            case measure => rw [HGK.out]; omega
            case rel =>
              refine ⟨j + 1, neg5, p5, n5, d5, xs5, g3, tot + -(ent row j * minorZ M n k (u ||| tj)), false, by omega, rfl, by go_num, rfl, ?_, bt6.set _ _, (b76.setOther _ (by omega)).setOther _ (by omega), (hx5.set2 bt6 _ _).mono (by omega), HS5.out.1, HS5.out.2⟩
              have := colS_free (xs := row) (f := fun c => minorZ M n k (u ||| 2 ^ c)) HBI.out
              rw [HST.out, H2J.out] at this
              exact this
      · have ha := bits_and u j hu6 (by omega)
        have hsh := bits_shl j (by omega)
        rw [hbit] at ha
        simp only [if_true] at ha
        have HBI := Lib.hid hbit
        obtain ⟨b', off', neg2, p2, n2, c2, xs2, hpa, hlt3, e0, e1, hx⟩ := HN.out j _ (List.getElem?_eq_getElem (by rw [HRL.out]; exact hlt2))
        subst hpa
        have hm := HD.out.m.at
        have e0' := cell_grown hm HG.out e0
        have e1' := cell_grown hm HG.out e1
        have hz : (((2 ^ j : Nat) : Int) != 0) = true := by
          have h0 : 0 < 2 ^ j := Nat.pow_pos (by decide)
          have h1 : ∀ y : Nat, 0 < y → ((y : Int) != 0) = true := fun y hy => by simp; omega
          exact h1 _ h0
        generalize h2j : (2 ^ j : Nat) = tj at ha hsh hz
        clear h2j e0 e1 hm hx hbit
        have hbw : Below wr.heap.size wr (wr.alloc (.cells #[.bool neg2, .slice p2 n2 c2] 47)) := (Below.refl _ _).alloc (Nat.le_refl _) _
        go_wp2_with fail
        go_roundg (n - (j + 1))
        case measure => rw [HGK.out]; omega
        case rel =>
          refine ⟨j + 1, neg, q, m, d, xs, g', tot, trn, by omega, rfl, by go_num, rfl, ?_, hB.alloc _, hB0.alloc _, (HX.out.below hbw).mono (by omega), (HD2.out.below hbw).mono ?_, grown_trans HG.out (grown_below hbw _)⟩
          · exact (colS_used (xs := row) (f := fun c => minorZ M n k (u ||| 2 ^ c)) HBI.out).trans HST.out
          · have := Nat.mul_le_mul_right (detS k) (show j ≤ j + 1 by omega); omega
    · obtain rfl : j = n := by omega
      have hcn : cnt + j * detS k + 1 ≤ cnt + detS (k + 1) := by
        have h1 : j * detS k ≤ 6 * detS k := Nat.mul_le_mul_right _ hn
        have h2 : detS (k + 1) = 6 * detS k + 1 := rfl
        omega
      obtain ⟨w2, hst, hm2, hg2⟩ := HD2.out.m.store (k := u) (by omega) (by omega) (.agg #[.bool neg, .slice q m d])
      have hm := HD2.out.m.at
      have bt2 := hB.grown hm hg2
      have b72 := hB0.grown hm hg2
      have c0 := hB.cell0
      have c1 := hB.cell1
      have c20 := bt2.cell0
      have c21 := bt2.cell1
      have c70 := b72.cell0
      have c71 := b72.cell1
      have q70 := b72.frozen (i := 0)
      have q71 := b72.frozen (i := 1)
      have ck3 := one_at HD2.out.k
      have ck4 := ck3
      have HX2 := Lib.hid (HX.out.grown hm hg2)
      have HGB := Lib.hid (grown_trans HG.out hg2)
      have HK : Hid (KeptIs w2 M j (putG g' u (.agg #[.bool neg, .slice q m d]))) := by
        intro u' v hu'
        unfold putG at hu'
        by_cases e : u' = u
        · subst e
          rw [if_pos rfl] at hu'
          cases hu'
          refine ⟨neg, q, m, d, xs, rfl, ?_⟩
          have h1 := HMIN.out
          have h2 := HST.out
          rw [HP.out, show j - r = k + 1 by omega, h1, h2]
          exact HX2.out.mono (by unfold detL; omega)
        · rw [if_neg e] at hu'
          exact HD2.out.kept.grown hm hg2 u' v hu'
      have HDF := Lib.hid (DetIs.grownFix HD.out HGB.out hm2 HK.out)
      clear hm hm2 hg2
      go_wp2_with fail
      have e0 := b72.set (.bool neg) (.slice q m d)
      have z0 := e0.cell0
      have z1 := e0.cell1
      have hs := DetIs.set2 HD.out HDF.out HGB.out (Nat.le_refl _) b72 neg q m d
      refine bodyPost_ret (v := .agg #[.bool neg, .slice q m d]) (by simp [results, Tryd.results59, go_sem, z0, z1]) rfl ⟨neg, q, m, d, xs, _, rfl, ?_, hs.1.mono hcn, hs.2⟩
      have h2 := HST.out
      rw [h2]
      exact (HX2.out.set2 b72 _ _).mono (by unfold detL; omega)

end Go.Proofs.YtimcbmgmngkagaaDoor
