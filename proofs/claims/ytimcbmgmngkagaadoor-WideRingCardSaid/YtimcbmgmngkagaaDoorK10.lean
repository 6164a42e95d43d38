/-
  Greatest common divisors: two words of a number as one; Lehmer's steps; Blocks of the call's own, known whole; Greatest common divisors: Lehmer's steps; Greatest common divisors: a x + b y; Greatest common divisors: divisor; Greatest common divisors: divisor whole; Gcd of two strings; The calls of wide, for the texts of integers; Sum of a list; Rows of strings of the call's own that grow by one, or are changed at one place.
-/
import Derived.Deep.CutBlock
import Derived.Test.YtimcbmgmngkagaaDoorK1
import Derived.Test.YtimcbmgmngkagaaDoorK2
import Derived.Test.YtimcbmgmngkagaaDoorK3
import Derived.Test.YtimcbmgmngkagaaDoorK4
import Derived.Test.YtimcbmgmngkagaaDoorK5
import Derived.Test.YtimcbmgmngkagaaDoorK6
import Derived.Test.YtimcbmgmngkagaaDoorK7
import Derived.Test.YtimcbmgmngkagaaDoorK8
import Derived.Test.YtimcbmgmngkagaaDoorK9
namespace Go.Proofs.YtimcbmgmngkagaaDoor
open Go.RowKit

/-- The digits at i and i + 1 as a number. -/
def twoV (xs : List Nat) (i : Nat) : Nat := xs[i]?.getD 0 + BW * xs[i + 1]?.getD 0

theorem twoV_eq (xs : List Nat) (i : Nat) : twoV xs i = dv BW ((xs.drop i).take 2) := by
  have h : ∀ k : Nat, dv BW ((xs.drop i).take (k + 1)) = dv BW ((xs.drop i).take k) + BW ^ k * xs[i + k]?.getD 0 := fun k => by
    rw [dv_take_succ, List.getElem?_drop]
  rw [h 1, h 0]
  simp [twoV, dv]

theorem twoV_lt {xs : List Nat} (g : Dg BW xs) (i : Nat) : twoV xs i < 1000000000000000000 := by
  have h1 : xs[i]?.getD 0 < 1000000000 := g.get (by decide) i
  have h2 : xs[i + 1]?.getD 0 < 1000000000 := g.get (by decide) (i + 1)
  show xs[i]?.getD 0 + 1000000000 * xs[i + 1]?.getD 0 < _
  omega

set_option maxHeartbeats 1000000 in
theorem twoWords_any (p : Option Addr) (n c i : Nat) (xs : List Nat) (w : World) (hn : n ≤ 1000000000) (hi : i ≤ 1000000000) (hx : Rd .u64 w p n xs) (gx : Dg BW xs) :
    Calls Tryd.prog 65 #[.slice p n c, .int .i64 (i : Int)] w fun e w' => e = .returned (.int .u64 ((twoV xs i : Nat) : Int)) ∧ w = w' := by
  have b0 : xs[i]?.getD 0 < 1000000000 := gx.get (by decide) i
  have b1 : xs[i + 1]?.getD 0 < 1000000000 := gx.get (by decide) (i + 1)
  have HV : Hid (((twoV xs i : Nat) : Int) = ((xs[i + 1]?.getD 0 : Nat) : Int) * 1000000000 + (xs[i]?.getD 0 : Nat)) := by
    show ((xs[i]?.getD 0 + 1000000000 * xs[i + 1]?.getD 0 : Nat) : Int) = _
    omega
  have z0 : ¬ i < n → xs[i]?.getD 0 = 0 := fun h => by rw [List.getElem?_eq_none (by have := hx.1; omega)]; rfl
  have z1 : ¬ i + 1 < n → xs[i + 1]?.getD 0 = 0 := fun h => by rw [List.getElem?_eq_none (by have := hx.1; omega)]; rfl
  have c0 : i < n → ∃ b off, p = some ⟨b, off, none⟩ ∧ b < w.heap.size ∧ w.cell? ⟨b, off + i, none⟩ = some (.int .u64 ((xs[i]?.getD 0 : Nat) : Int)) := hx.2 i
  have c1 : i + 1 < n → ∃ b off, p = some ⟨b, off, none⟩ ∧ b < w.heap.size ∧ w.cell? ⟨b, off + (i + 1), none⟩ = some (.int .u64 ((xs[i + 1]?.getD 0 : Nat) : Int)) := hx.2 (i + 1)
  generalize xs[i]?.getD 0 = A at *
  generalize xs[i + 1]?.getD 0 = B at *
  have Z0 := Lib.hid z0
  have Z1 := Lib.hid z1
  have C0 := Lib.hid c0
  have C1 := Lib.hid c1
  clear z0 z1 c0 c1
  go_enter Tryd.func65, Tryd.ntmps65
  go_wp2
  go_loopg [5, 6] 2 (fun gk v5 v6 wr => ∃ (j : Nat), j ≤ 2 ∧ gk = 2 - j ∧ w = wr ∧ v6 = .int .i64 ((i : Int) + 1 - j) ∧ ((j = 0 ∧ v5 = .int .u64 0) ∨ (j = 1 ∧ v5 = .int .u64 (B : Int)) ∨ (j = 2 ∧ v5 = .int .u64 ((B : Int) * 1000000000 + (A : Int)))))
  case atStart => exact ⟨0, by omega, rfl, rfl, by simp, .inl ⟨rfl, rfl⟩⟩
  case round =>
    obtain ⟨j, hj, hgk, hwr, rfl, hv⟩ := hrel
    subst hwr
    have HGK := Lib.hid hgk
    clear hgk
    rcases hv with ⟨rfl, rfl⟩ | ⟨rfl, rfl⟩ | ⟨rfl, rfl⟩
    · by_cases h1 : i + 1 < n
      · obtain ⟨b, off, rfl, hb, hc⟩ := C1.out h1
        go_wp2
        go_roundg 1
        case measure => rw [HGK.out]; omega
        case rel => exact ⟨1, by omega, rfl, rfl, by go_num, .inr (.inl ⟨rfl, by first | exact congrArg (Value.int .u64) (by omega) | rfl⟩)⟩
      · have hB := Z1.out h1
        subst hB
        go_wp2
        go_roundg 1
        case measure => rw [HGK.out]; omega
        case rel => exact ⟨1, by omega, rfl, rfl, by go_num, .inr (.inl ⟨rfl, by first | exact congrArg (Value.int .u64) (by omega) | rfl⟩)⟩
    · by_cases h1 : i < n
      · obtain ⟨b, off, rfl, hb, hc⟩ := C0.out h1
        go_wp2
        go_roundg 0
        case measure => rw [HGK.out]; omega
        case rel => exact ⟨2, by omega, rfl, rfl, by go_num, .inr (.inr ⟨rfl, by first | exact congrArg (Value.int .u64) (by omega) | rfl⟩)⟩
      · have hA := Z0.out h1
        subst hA
        go_wp2
        go_roundg 0
        case measure => rw [HGK.out]; omega
        case rel => exact ⟨2, by omega, rfl, rfl, by go_num, .inr (.inr ⟨rfl, by first | exact congrArg (Value.int .u64) (by omega) | rfl⟩)⟩
    · go_wp2
      go_ret
      exact ⟨ret_int HV.out.symm, rfl⟩

end Go.Proofs.YtimcbmgmngkagaaDoor

namespace Go.Proofs.YtimcbmgmngkagaaDoor
open Go.RowKit

/-- Block B holds these cells. -/
def Blk (W : World) (B : Nat) (cs : Array Value) (t : TypeId) : Prop := W.heap[B]? = some (.cells cs t (0, 0))

theorem Blk.cell {W : World} {B : Nat} {cs : Array Value} {t : TypeId} (h : Blk W B cs t) {i : Nat} {v : Value} (hi : cs[i]? = some v) : W.cell? ⟨B, i, none⟩ = some v := by
  unfold Blk at h; unfold World.cell?; simp only [h]; simpa using hi
theorem Blk.frozen {W : World} {B : Nat} {cs : Array Value} {t : TypeId} (h : Blk W B cs t) (i : Nat) : W.frozen? ⟨B, i, none⟩ = false := by
  unfold Blk at h; unfold World.frozen?; simp [h]
theorem Blk.lt {W : World} {B : Nat} {cs : Array Value} {t : TypeId} (h : Blk W B cs t) : B < W.heap.size := by
  unfold Blk at h; exact (Array.getElem?_eq_some_iff.1 h).1
theorem Blk.new (W : World) (cs : Array Value) (t : TypeId) : Blk (W.alloc (.cells cs t)) W.heap.size cs t := by unfold Blk World.alloc; simp
theorem Blk.alloc {W : World} {B : Nat} {cs : Array Value} {t : TypeId} (h : Blk W B cs t) (o : Obj) : Blk (W.alloc o) B cs t := by
  unfold Blk at h ⊢
  exact ((World.grownBy_alloc W o none).block B (Array.getElem?_eq_some_iff.1 h).1 (by simp)).trans h
theorem Blk.below {W W' : World} {B C : Nat} {cs : Array Value} {t : TypeId} (h : Blk W B cs t) (hb : Below C W W') (hC : B < C) : Blk W' B cs t := by
  unfold Blk at h ⊢; rw [hb.block B hC]; exact h
theorem Blk.kept {W W' : World} {B : Nat} {cs : Array Value} {t : TypeId} (h : Blk W B cs t) (hb : Below W.heap.size W W') : Blk W' B cs t := h.below hb h.lt
theorem Blk.drew {W : World} {B : Nat} {cs : Array Value} {t : TypeId} (h : Blk W B cs t) : Blk W.drew B cs t := h
theorem Blk.set {W : World} {B : Nat} {cs : Array Value} {t : TypeId} (h : Blk W B cs t) (i : Nat) (v : Value) : Blk (W.setCell ⟨B, i, none⟩ v) B (cs.setIfInBounds i v) t := by
  unfold Blk at h ⊢; simp [World.setCell, Array.getElem?_modify, h]
theorem Blk.set_eq {W : World} {B : Nat} {cs cs' : Array Value} {t : TypeId} (h : Blk W B cs t) (i : Nat) (v : Value) (e : cs.setIfInBounds i v = cs') : Blk (W.setCell ⟨B, i, none⟩ v) B cs' t := e ▸ h.set i v
theorem Blk.other {W : World} {B : Nat} {cs : Array Value} {t : TypeId} (h : Blk W B cs t) {C : Nat} (i : Nat) (v : Value) (hne : C ≠ B) : Blk (W.setCell ⟨C, i, none⟩ v) B cs t := by
  unfold Blk at h ⊢
  rw [show (W.setCell ⟨C, i, none⟩ v).heap[B]? = W.heap[B]? by simp only [World.setCell, Array.getElem?_modify]; rw [if_neg hne]]
  exact h

end Go.Proofs.YtimcbmgmngkagaaDoor

namespace Go.Proofs.YtimcbmgmngkagaaDoor
open Go.RowKit

theorem Blk.set4 {W : World} {B : Nat} {a b c d : Value} {t : TypeId} (h : Blk W B #[a, b, c, d] t) (a' b' c' d' : Value) : Blk ((((W.setCell ⟨B, 0, none⟩ a').setCell ⟨B, 1, none⟩ b').setCell ⟨B, 2, none⟩ c').setCell ⟨B, 3, none⟩ d') B #[a', b', c', d'] t :=
  (((h.set_eq 0 a' rfl).set_eq 1 b' rfl).set_eq 2 c' rfl).set_eq 3 d' rfl

/-- What highSteps hands back. -/
def HighOut (X Y : Int) (w : World) (e : Ending) (w' : World) : Prop := ∃ a b c d : Int, e = .returned (.agg #[.int .i64 a, .int .i64 b, .int .i64 c, .int .i64 d]) ∧ ((-1000000000 < a ∧ a < 1000000000) ∧ (-1000000000 < b ∧ b < 1000000000) ∧ (-1000000000 < c ∧ c < 1000000000) ∧ (-1000000000 < d ∧ d < 1000000000)) ∧
  (b ≠ 0 → 0 ≤ c * X + d * Y ∧ c * X + d * Y < a * X + b * Y ∧ a * X + b * Y ≤ Y ∧ Int.gcd (a * X + b * Y) (c * X + d * Y) = Int.gcd X Y) ∧ Below w.heap.size w w'

theorem Leh.out {X Y P Q a b c d p q : Int} (h : Leh X Y P Q a b c d p q) : b ≠ 0 → 0 ≤ c * X + d * Y ∧ c * X + d * Y < a * X + b * Y ∧ a * X + b * Y ≤ Y ∧ Int.gcd (a * X + b * Y) (c * X + d * Y) = Int.gcd X Y := fun hb => by
  rcases h.b0 with ⟨e, _⟩ | ⟨_, h1, h2⟩
  · exact absurd e hb
  · exact ⟨h.y0, h2, h1, h.gc⟩

set_option maxRecDepth 100000 in
set_option maxHeartbeats 4000000 in
theorem highSteps_any (p q : Option Addr) (n m c d : Nat) (xs ys : List Nat) (w : World) (hn3 : 2 ≤ n) (hn : n ≤ 1000000000) (hm : m ≤ 1000000000) (hx : Rd .u64 w p n xs) (hy : Rd .u64 w q m ys) (gx : Cn BW xs) (gy : Cn BW ys) (hle : dv BW ys ≤ dv BW xs) :
    Calls Tryd.prog 50 #[.slice p n c, .slice q m d] w (HighOut (dv BW xs : Nat) (dv BW ys : Nat) w) := by
  obtain ⟨N2, hN2⟩ : ∃ N2, n - 2 = N2 := ⟨_, rfl⟩
  have hi2 : (n : Int) - 2 = (N2 : Int) := by omega
  go_enter Tryd.func50, Tryd.ntmps50
  go_wp2_with fail
  refine (twoWords_any p n c N2 xs _ hn (by omega) (hx.below ((Below.refl _ _).alloc (Nat.le_refl _) _)) gx.1).mono ?_
  rintro e w' ⟨rfl, rfl⟩
  have hP := twoV_lt gx.1 N2
  obtain ⟨P, hPe⟩ : ∃ P, twoV xs N2 = P := ⟨_, rfl⟩
  rw [hPe] at hP ⊢
  go_wp2_with fail
  refine (twoWords_any q m d N2 ys _ hm (by omega) (hy.below ((Below.refl _ _).alloc (Nat.le_refl _) _)) gy.1).mono ?_
  rintro e w' ⟨rfl, rfl⟩
  have hQ := twoV_lt gy.1 N2
  obtain ⟨Q, hQe⟩ : ∃ Q, twoV ys N2 = Q := ⟨_, rfl⟩
  rw [hQe] at hQ ⊢
  go_wp2_with fail
  obtain ⟨X, hX⟩ : ∃ X : Int, ((dv BW xs : Nat) : Int) = X := ⟨_, rfl⟩
  obtain ⟨Y, hY⟩ : ∃ Y : Int, ((dv BW ys : Nat) : Int) = Y := ⟨_, rfl⟩
  have HXE := Lib.hid hX
  have HYE := Lib.hid hY
  have hst : Hid (Leh X Y P Q 1 0 0 1 P Q ∧ ∃ s r u : Int, X = P * s + r ∧ Y = Q * s + u ∧ 0 < s ∧ 0 ≤ r ∧ r < s ∧ 0 ≤ u ∧ u < s ∧ 1 ≤ (P : Int)) := by
    obtain ⟨L1, L2⟩ : xs.length = n ∧ ys.length = m := ⟨hx.1, hy.1⟩
    have hle' : ys.length ≤ n := by
      rcases Nat.lt_or_ge n ys.length with h | h
      · have := Cn.lt_of_length (by decide) gx.1 gy (by omega); omega
      · exact h
    have tw : ∀ zs : List Nat, zs.length ≤ n → twoV zs N2 = dv BW (zs.drop N2) := fun zs hz => by
      rw [twoV_eq, List.take_of_length_le (by rw [List.length_drop]; omega)]
    have hsp : ∀ zs : List Nat, Dg BW zs → zs.length ≤ n → ∃ r : Nat, r < BW ^ N2 ∧ dv BW zs = twoV zs N2 * BW ^ N2 + r := fun zs hz hl => by
      rw [tw zs hl]
      by_cases h : N2 ≤ zs.length
      · refine ⟨dv BW (zs.take N2), ?_, ?_⟩
        · have := dv_lt (hz.take N2)
          rwa [List.length_take, Nat.min_eq_left h] at this
        · rw [dv_take_drop BW zs N2 h]; rw [Nat.mul_comm]; omega
      · refine ⟨dv BW zs, ?_, ?_⟩
        · exact Nat.lt_of_lt_of_le (dv_lt hz) (Nat.pow_le_pow_right (by decide) (by omega))
        · rw [List.drop_of_length_le (by omega)]; simp [dv]
    obtain ⟨r, hr, ex⟩ := hsp xs gx.1 (by omega)
    obtain ⟨u, hu, ey⟩ := hsp ys gy.1 hle'
    rw [hPe] at ex
    rw [hQe] at ey
    have hp : 0 < BW ^ N2 := Nat.pow_pos (by decide)
    have hP1 : 1 ≤ P := by
      have h1 := gx.lower (by intro e; rw [e] at L1; simp at L1; omega)
      have h2 : BW ^ (N2 + 1) ≤ BW ^ (xs.length - 1) := Nat.pow_le_pow_right (by decide) (by omega)
      rw [Nat.pow_succ] at h2
      have h3 : BW ^ N2 * 1 ≤ BW ^ N2 * BW := Nat.mul_le_mul_left _ (by decide)
      rcases Nat.lt_or_ge P 1 with h | h
      · have : P = 0 := by omega
        rw [this] at ex
        omega
      · exact h
    generalize BW ^ N2 = s at *
    have hQP : Q ≤ P := by
      rcases Nat.lt_or_ge P Q with h | h
      · have h1 : (P + 1) * s ≤ Q * s := Nat.mul_le_mul_right _ h
        rw [Nat.add_mul] at h1
        omega
      · exact h
    refine ⟨Leh.start (by omega) (by omega) (by omega) (by omega) (by omega), (s : Int), (r : Int), (u : Int), ?_, ?_, by omega, by omega, by omega, by omega, by omega, by omega⟩
    · rw [← hX, ex]; simp
    · rw [← hY, ey]; simp
  have hb0 : Below w.heap.size w ((w.alloc (Obj.cells #[Value.int IntKind.i64 0, Value.int IntKind.i64 0, Value.int IntKind.i64 0, Value.int IntKind.i64 0] 90)).alloc (Obj.cells #[Value.int IntKind.i64 1, Value.int IntKind.i64 0, Value.int IntKind.i64 0, Value.int IntKind.i64 1] 90)) := ((Below.refl _ w).alloc (Nat.le_refl _) _).alloc (by simp) _
  have bx0 := (Blk.new w #[.int .i64 0, .int .i64 0, .int .i64 0, .int .i64 0] 90).alloc (Obj.cells #[Value.int IntKind.i64 1, Value.int IntKind.i64 0, Value.int IntKind.i64 0, Value.int IntKind.i64 1] 90)
  have bx1 := Blk.new (w.alloc (Obj.cells #[Value.int IntKind.i64 0, Value.int IntKind.i64 0, Value.int IntKind.i64 0, Value.int IntKind.i64 0] 90)) #[.int .i64 1, .int .i64 0, .int .i64 0, .int .i64 1] 90
  rw [World.size_alloc] at bx1
  clear hX hY hPe hQe hx hy gx gy hle hN2 hi2
  go_loopg [5, 6] Q (fun gk v5 v6 wr => ∃ p' q' a b c' d' : Int, gk = q'.toNat ∧ v5 = .int .i64 p' ∧ v6 = .int .i64 q' ∧ Hid (Leh X Y P Q a b c' d' p' q') ∧ Blk wr w.heap.size #[.int .i64 0, .int .i64 0, .int .i64 0, .int .i64 0] 90 ∧ Blk wr (w.heap.size + 1) #[.int .i64 a, .int .i64 b, .int .i64 c', .int .i64 d'] 90 ∧ Below w.heap.size w wr)
  case atStart => exact ⟨P, Q, 1, 0, 0, 1, by simp, rfl, rfl, hst.out.1, bx0, bx1, hb0⟩
  case round =>
    obtain ⟨p', q', a, b, c', d', hgk, rfl, rfl, HL, k0, k1, hb⟩ := hrel
    have HGK := Lib.hid hgk
    clear hgk bx0 bx1 hb0
    obtain ⟨hl1, s, r, u, hX, hY, hs, hr, hr1, hu, hu1, hP1⟩ := hst.out
    have HX := Lib.hid hX
    have HY := Lib.hid hY
    clear hX hY hl1
    obtain ⟨⟨a0, a1⟩, ⟨b0, b1⟩, ⟨c0, c1⟩, ⟨d0, d1⟩, pP, pa, pb⟩ := HL.out.small (by omega) hP1
    have q0 := HL.out.q0
    have qp := HL.out.qp
    have e0 := k1.cell (i := 0) rfl
    have e1 := k1.cell (i := 1) rfl
    have e2 := k1.cell (i := 2) rfl
    have e3 := k1.cell (i := 3) rfl
    have g0 := k1.frozen 0
    have g1 := k1.frozen 1
    have g2 := k1.frozen 2
    have g3 := k1.frozen 3
    have i0 := k0.cell (i := 0) rfl
    have i1 := k0.cell (i := 1) rfl
    have i2 := k0.cell (i := 2) rfl
    have i3 := k0.cell (i := 3) rfl
    have j0 := k0.frozen 0
    have j1 := k0.frozen 1
    have j2 := k0.frozen 2
    have j3 := k0.frozen 3
    by_cases h1 : 0 < q' + c'
    · by_cases h2 : 0 < q' + d'
      · obtain ⟨t, ht⟩ : ∃ t, (p' + a) / (q' + c') = t := ⟨_, rfl⟩
        obtain ⟨t2, ht2⟩ : ∃ t2, (p' + b) / (q' + d') = t2 := ⟨_, rfl⟩
        have tb : 0 ≤ t ∧ t ≤ 2000000000000000000 := by
          rw [← ht]
          exact ⟨Int.ediv_nonneg pa (by omega), Int.le_trans (Int.ediv_le_self _ pa) (by omega)⟩
        have tb2 : 0 ≤ t2 ∧ t2 ≤ 2000000000000000000 := by
          rw [← ht2]
          exact ⟨Int.ediv_nonneg pb (by omega), Int.le_trans (Int.ediv_le_self _ pb) (by omega)⟩
        by_cases h3 : t = t2
        · subst h3
          obtain ⟨hn1, hn2, hn3⟩ := HL.out.next HX.out HY.out hs hr hr1 hu hu1 h1 h2 ht.symm ht2.symm
          obtain ⟨_, _, ⟨x0, x1⟩, ⟨y0, y1⟩, pP', _, _⟩ := hn1.small (by omega) hP1
          have qq := hn1.q0
          obtain ⟨TC, hTC⟩ : ∃ TC, t * c' = TC := ⟨_, rfl⟩
          obtain ⟨TD, hTD⟩ : ∃ TD, t * d' = TD := ⟨_, rfl⟩
          obtain ⟨TQ, hTQ⟩ : ∃ TQ, t * q' = TQ := ⟨_, rfl⟩
          rw [hTC] at x0 x1
          rw [hTD] at y0 y1
          rw [hTQ] at qq hn2
          rw [hTC, hTD, hTQ] at hn1
          have tq0 : 0 ≤ TQ := by rw [← hTQ]; exact Int.mul_nonneg tb.1 q0
          obtain ⟨tb0, tb1⟩ := tb
          have HN := Lib.hid hn1
          have K1 := k1.set4 (.int .i64 c') (.int .i64 d') (.int .i64 (a - TC)) (.int .i64 (b - TD))
          have K0 := (((k0.other (C := w.heap.size + 1) 0 (.int .i64 c') (by omega)).other (C := w.heap.size + 1) 1 (.int .i64 d') (by omega)).other (C := w.heap.size + 1) 2 (.int .i64 (a - TC)) (by omega)).other (C := w.heap.size + 1) 3 (.int .i64 (b - TD)) (by omega)
          clear hn1 tb2
          go_wp2
          go_roundg ((p' - TQ).toNat)
          case measure => rw [HGK.out]; omega
          case rel => exact ⟨q', p' - TQ, c', d', a - TC, b - TD, rfl, rfl, rfl, HN.out, K0, K1, ((((hb.setCell (by simp) _).setCell (by simp) _).setCell (by simp) _).setCell (by simp) _)⟩
        · go_wp2
          have K0 := k0.set4 (.int .i64 a) (.int .i64 b) (.int .i64 c') (.int .i64 d')
          have m0 := K0.cell (i := 0) rfl
          have m1 := K0.cell (i := 1) rfl
          have m2 := K0.cell (i := 2) rfl
          have m3 := K0.cell (i := 3) rfl
          refine bodyPost_ret (v := .agg #[.int .i64 a, .int .i64 b, .int .i64 c', .int .i64 d']) (by simp [results, Tryd.results50, go_sem, m0, m1, m2, m3]) rfl ⟨a, b, c', d', rfl, ⟨⟨a0, a1⟩, ⟨b0, b1⟩, ⟨c0, c1⟩, ⟨d0, d1⟩⟩, by rw [HXE.out, HYE.out]; exact HL.out.out, ?_⟩
          exact ((((hb.setCell (by simp) _).setCell (by simp) _).setCell (by simp) _).setCell (by simp) _)
      · go_wp2
        have K0 := k0.set4 (.int .i64 a) (.int .i64 b) (.int .i64 c') (.int .i64 d')
        have m0 := K0.cell (i := 0) rfl
        have m1 := K0.cell (i := 1) rfl
        have m2 := K0.cell (i := 2) rfl
        have m3 := K0.cell (i := 3) rfl
        refine bodyPost_ret (v := .agg #[.int .i64 a, .int .i64 b, .int .i64 c', .int .i64 d']) (by simp [results, Tryd.results50, go_sem, m0, m1, m2, m3]) rfl ⟨a, b, c', d', rfl, ⟨⟨a0, a1⟩, ⟨b0, b1⟩, ⟨c0, c1⟩, ⟨d0, d1⟩⟩, by rw [HXE.out, HYE.out]; exact HL.out.out, ?_⟩
        exact ((((hb.setCell (by simp) _).setCell (by simp) _).setCell (by simp) _).setCell (by simp) _)
    · go_wp2
      have K0 := k0.set4 (.int .i64 a) (.int .i64 b) (.int .i64 c') (.int .i64 d')
      have m0 := K0.cell (i := 0) rfl
      have m1 := K0.cell (i := 1) rfl
      have m2 := K0.cell (i := 2) rfl
      have m3 := K0.cell (i := 3) rfl
      refine bodyPost_ret (v := .agg #[.int .i64 a, .int .i64 b, .int .i64 c', .int .i64 d']) (by simp [results, Tryd.results50, go_sem, m0, m1, m2, m3]) rfl ⟨a, b, c', d', rfl, ⟨⟨a0, a1⟩, ⟨b0, b1⟩, ⟨c0, c1⟩, ⟨d0, d1⟩⟩, by rw [HXE.out, HYE.out]; exact HL.out.out, ?_⟩
      exact ((((hb.setCell (by simp) _).setCell (by simp) _).setCell (by simp) _).setCell (by simp) _)

end Go.Proofs.YtimcbmgmngkagaaDoor

namespace Go.Proofs.YtimcbmgmngkagaaDoor
open Go.RowKit

/-- One place of combined: what is written, what is carried on. -/
theorem comb_place {s : Int} : ∃ (low : Nat) (c' R : Int), s.tmod 1000000000 = R ∧ (R < 0 → R + 1000000000 = (low : Int)) ∧ (¬ R < 0 → R = (low : Int)) ∧ low < 1000000000 ∧ (low : Int) + BW * c' = s ∧ (s - (low : Int)).tdiv 1000000000 = c' ∧ -1000000000 < R ∧ R < 1000000000 := by
  obtain ⟨low, hlow⟩ : ∃ low : Nat, s % 1000000000 = (low : Int) := ⟨(s % 1000000000).toNat, by omega⟩
  have hR : (0 ≤ s ∧ s.tmod 1000000000 = s % 1000000000) ∨ (s < 0 ∧ s.tmod 1000000000 = -((-s) % 1000000000)) := by
    rcases Int.lt_or_le s 0 with h | h
    · right
      refine ⟨h, ?_⟩
      have e := Int.tmod_eq_emod_of_nonneg (a := -s) (b := 1000000000) (by omega)
      rw [Int.neg_tmod] at e
      omega
    · exact .inl ⟨h, Int.tmod_eq_emod_of_nonneg h⟩
  have hd : (s - (low : Int)).tdiv 1000000000 = s / 1000000000 := by
    have e : s - (low : Int) = 1000000000 * (s / 1000000000) := by omega
    rw [e, Int.mul_tdiv_cancel_left _ (by decide)]
  refine ⟨low, s / 1000000000, s.tmod 1000000000, rfl, ?_, ?_, by omega, ?_, hd, ?_, ?_⟩
  · intro h; omega
  · intro h; omega
  · show (low : Int) + 1000000000 * (s / 1000000000) = s
    omega
  · omega
  · omega

set_option maxRecDepth 100000 in
set_option maxHeartbeats 4000000 in
theorem combined_any (p q : Option Addr) (n m c d : Nat) (xs ys : List Nat) (a b : Int) (w : World) (hn : n ≤ 1000000000) (hm : m ≤ n) (hx : Rd .u64 w p n xs) (hy : Rd .u64 w q m ys) (gx : Dg BW xs) (gy : Dg BW ys) (ha : -1000000000 < a) (ha1 : a < 1000000000) (hb : -1000000000 < b) (hb1 : b < 1000000000)
    (h0 : 0 ≤ a * (dv BW xs : Nat) + b * (dv BW ys : Nat)) (h1 : a * (dv BW xs : Nat) + b * (dv BW ys : Nat) < ((BW ^ n : Nat) : Int)) :
    Calls Tryd.prog 51 #[.slice p n c, .slice q m d, .int .i64 a, .int .i64 b] w (Words w fun zs => (dv BW zs : Int) = a * (dv BW xs : Nat) + b * (dv BW ys : Nat)) := by
  have hmk : ∀ w, (Instr.makeSlice 45 (.int .i64 (n : Int)) (.int .i64 (n : Int))).run Tryd.prog w = .ok (.slice (some ⟨w.heap.size, 0, none⟩) n n) (w.alloc (.cells (Go.madeCells #[.int .u64 0] n) 73)) := fun w => mkWords n (by omega) w
  have hbn : Below w.heap.size w (w.alloc (.cells (Go.madeCells #[.int .u64 0] n) 73)) := (Below.refl _ w).alloc (Nat.le_refl _) _
  have hown0 := Own.new .u64 73 w n
  have H01 := Lib.hid (And.intro h0 h1)
  clear h0 h1
  go_enter Tryd.func51, Tryd.ntmps51
  go_wp2
  go_loopg [10, 19] n (fun gk v10 v19 wr => ∃ (k : Nat) (y : Int) (zs : List Nat), k ≤ n ∧ gk = n - k ∧ -4000000000 ≤ y ∧ y ≤ 4000000000 ∧ v10 = .int .i64 y ∧ v19 = .int .i64 k ∧ Hid (CombI xs ys a b zs k y)
      ∧ Own .u64 73 wr w.heap.size (zs ++ List.replicate (n - k) 0) ∧ Below w.heap.size w wr)
  case atStart => exact ⟨0, 0, [], Nat.zero_le _, rfl, by omega, by omega, rfl, rfl, CombI.start _ _ _ _, hown0, hbn⟩
  case round =>
    obtain ⟨k, y, zs, hk, hgk, y0, y1, rfl, rfl, hz, hown, hbel⟩ := hrel
    have HGK := Lib.hid hgk
    clear hgk
    by_cases hlt : k < n
    · have hki : (k : Int) < (n : Int) := by omega
      obtain ⟨b0, off, rfl, hbl, hcell⟩ := (hx.below hbel).2 k hlt
      have hcz := hown.cell k (by have := hz.out.1; simp; omega)
      have hfz := hown.frozen k
      obtain ⟨u, hu⟩ : ∃ u, xs[k]?.getD 0 = u := ⟨_, rfl⟩
      obtain ⟨v, hv⟩ : ∃ v, ys[k]?.getD 0 = v := ⟨_, rfl⟩
      have u9 : u < 1000000000 := by rw [← hu]; exact gx.get (by decide) k
      have v9 : v < 1000000000 := by rw [← hv]; exact gy.get (by decide) k
      obtain ⟨⟨p0, p1⟩, q0, q1⟩ := comb_bound ha ha1 hb hb1 (show (0 : Int) ≤ u by omega) (show (u : Int) < 1000000000 by omega) (show (0 : Int) ≤ v by omega) (show (v : Int) < 1000000000 by omega)
      obtain ⟨P, hP⟩ : ∃ P, a * (u : Int) = P := ⟨_, rfl⟩
      obtain ⟨Q, hQ⟩ : ∃ Q, b * (v : Int) = Q := ⟨_, rfl⟩
      rw [hP] at p0 p1
      rw [hQ] at q0 q1
      rw [hu] at hcell
      obtain ⟨s, hs⟩ : ∃ s, y + P + Q = s := ⟨_, rfl⟩
      have hst := fun (low : Nat) (c' : Int) h1 h2 => hz.out.step (s := s) (low := low) (c' := c') (by rw [hu, hv, hP, hQ]; exact hs.symm) h1 h2
      obtain ⟨low, c', R, hR, hRn, hRp, hl9, hlc, hcd, r0, r1⟩ := comb_place (s := s)
      have HST := Lib.hid (hst low c' hlc hl9)
      have hlc' : (low : Int) + 1000000000 * c' = s := hlc
      have cb0 : -4000000000 ≤ c' := by omega
      have cb1 : c' ≤ 4000000000 := by omega
      have hsl0 : -9000000000000000000 ≤ s - (low : Int) := by omega
      have hsl1 : s - (low : Int) ≤ 9000000000000000000 := by omega
      clear hst hlc hlc'
      have HP := Lib.hid hP
      have HQ := Lib.hid hQ
      have HU := Lib.hid hu
      have HV := Lib.hid hv
      by_cases hkm : k < m
      · have hkmi : (k : Int) < (m : Int) := by omega
        obtain ⟨b2, off2, rfl, hbl2, hcell2⟩ := (hy.below hbel).2 k hkm
        rw [hv] at hcell2
        clear hu hv
        by_cases hn0 : R < 0
        · have hRl := hRn hn0
          clear hRn hRp
          go_wp2
          go_roundg (n - (k + 1))
          case measure => rw [HGK.out]; omega
          case rel => exact ⟨k + 1, c', zs ++ [low], by omega, rfl, cb0, cb1, rfl, by go_num, HST.out, by have z1 := hz.out.1; subst z1; exact hown.fill (by omega) _ rfl _, hbel.setCell (by simp) _⟩
        · have hRl := hRp hn0
          clear hRn hRp
          go_wp2
          go_roundg (n - (k + 1))
          case measure => rw [HGK.out]; omega
          case rel => exact ⟨k + 1, c', zs ++ [low], by omega, rfl, cb0, cb1, rfl, by go_num, HST.out, by have z1 := hz.out.1; subst z1; exact hown.fill (by omega) _ rfl _, hbel.setCell (by simp) _⟩
      · have hkmi : ¬ (k : Int) < (m : Int) := by omega
        have hv0 : v = 0 := by rw [← hv, List.getElem?_eq_none (by have := hy.1; omega)]; rfl
        have hQ0 : Q = 0 := by rw [← HQ.out, hv0]; simp
        have hs' : y + P = s := by omega
        clear hu hv hs hQ hv0 hQ0 q0 q1
        by_cases hn0 : R < 0
        · have hRl := hRn hn0
          clear hRn hRp
          go_wp2
          go_roundg (n - (k + 1))
          case measure => rw [HGK.out]; omega
          case rel => exact ⟨k + 1, c', zs ++ [low], by omega, rfl, cb0, cb1, rfl, by go_num, HST.out, by have z1 := hz.out.1; subst z1; exact hown.fill (by omega) _ rfl _, hbel.setCell (by simp) _⟩
        · have hRl := hRp hn0
          clear hRn hRp
          go_wp2
          go_roundg (n - (k + 1))
          case measure => rw [HGK.out]; omega
          case rel => exact ⟨k + 1, c', zs ++ [low], by omega, rfl, cb0, cb1, rfl, by go_num, HST.out, by have z1 := hz.out.1; subst z1; exact hown.fill (by omega) _ rfl _, hbel.setCell (by simp) _⟩
    · have hki : ¬ (k : Int) < (n : Int) := by omega
      obtain rfl : k = n := by omega
      have hz1 := hz.out.1
      have hown2 : Own .u64 73 wr w.heap.size zs := by simpa using hown
      go_wp2_with (go_at_call 53; refine (trimmed_any _ _ _ zs _ (by unfold maxLen; omega) (Nat.le_refl _) (hown2.rd hz1)).mono ?_; rintro e w' ⟨rfl, rfl⟩)
      go_ret
      have hd := hz.out.done (by rw [hx.1]; exact Nat.le_refl _) (by rw [hy.1]; exact hm) H01.out.1 H01.out.2
      have z2 := hz.out.2.1
      have g1 : trimLen zs k ≤ k := trimLen_le _ _
      refine ⟨_, _, _, trimZ zs, rfl, ?_, Nat.le_refl _, trimZ_cn z2, ?_, hbel⟩
      · unfold trimZ; rw [hz1]; exact (hown2.rd hz1).take _ g1
      · show ((dv BW (trimZ _) : Nat) : Int) = _
        rw [dv_trimZ]; exact hd

end Go.Proofs.YtimcbmgmngkagaaDoor

namespace Go.Proofs.YtimcbmgmngkagaaDoor
open Go.RowKit

theorem small_two {xs : List Nat} (h : xs.length ≤ 2) : twoV xs 0 = dv BW xs := by
  rw [twoV_eq, List.drop_zero, List.take_of_length_le h]

theorem two_back (a : Nat) : dv BW [a % BW, a / BW] = a := by
  have := Nat.mod_add_div a BW
  simp only [dv]
  omega

set_option maxHeartbeats 2000000 in
theorem smallDivisor_any (p q : Option Addr) (n m c d : Nat) (xs ys : List Nat) (w : World) (hn : n ≤ 2) (hm : m ≤ 2) (hx : Rd .u64 w p n xs) (hy : Rd .u64 w q m ys) (gx : Dg BW xs) (gy : Dg BW ys) :
    Calls Tryd.prog 52 #[.slice p n c, .slice q m d] w (Words w fun zs => dv BW zs = Nat.gcd (dv BW xs) (dv BW ys)) := by
  obtain ⟨X, hXE⟩ : ∃ X, dv BW xs = X := ⟨_, rfl⟩
  obtain ⟨Y, hYE⟩ : ∃ Y, dv BW ys = Y := ⟨_, rfl⟩
  have hX : twoV xs 0 = X := (small_two (by rw [hx.1]; exact hn)).trans hXE
  have hY : twoV ys 0 = Y := (small_two (by rw [hy.1]; exact hm)).trans hYE
  have hX9 := twoV_lt gx 0
  have hY9 := twoV_lt gy 0
  rw [hX] at hX9
  rw [hY] at hY9
  have HX := Lib.hid hX
  have HY := Lib.hid hY
  have HXE := Lib.hid hXE
  have HYE := Lib.hid hYE
  clear hX hY hXE hYE
  go_enter Tryd.func52, Tryd.ntmps52
  go_wp2_with fail
  refine (twoWords_any p n c 0 xs _ (by omega) (by omega) hx gx).mono ?_
  rintro e w' ⟨rfl, rfl⟩
  rw [HX.out]
  go_wp2_with fail
  refine (twoWords_any q m d 0 ys _ (by omega) (by omega) hy gy).mono ?_
  rintro e w' ⟨rfl, rfl⟩
  rw [HY.out]
  go_wp2_with fail
  go_loopg [5, 6] Y (fun gk v5 v6 wr => ∃ (a b : Nat), gk = b ∧ v5 = .int .u64 (a : Int) ∧ v6 = .int .u64 (b : Int) ∧ a < 1000000000000000000 ∧ b < 1000000000000000000 ∧ Hid (Nat.gcd a b = Nat.gcd X Y) ∧ Below w.heap.size w wr)
  case atStart => exact ⟨X, Y, rfl, rfl, rfl, hX9, hY9, rfl, Below.refl _ _⟩
  case round =>
    obtain ⟨a, b, hgk, rfl, rfl, ha9, hb9, HG, hb⟩ := hrel
    have HGK := Lib.hid hgk
    clear hgk
    by_cases h0 : 0 < b
    · have h0i : (0 : Int) < (b : Int) := by omega
      have h0n : ¬ (b : Int) = 0 := by omega
      obtain ⟨R, hR⟩ : ∃ R, a % b = R := ⟨_, rfl⟩
      have hRb : R < b := by rw [← hR]; exact Nat.mod_lt _ h0
      have hRi : (a : Int) % (b : Int) = (R : Int) := by rw [← hR]; simp
      have HR := Lib.hid hR
      clear hR
      go_wp2_with fail
      go_quiet (fail)
      go_wp2_with fail
      go_roundg R
      case measure => rw [HGK.out]; exact hRb
      case rel => exact ⟨b, R, rfl, rfl, by first | rfl | exact congrArg (Value.int .u64) hRi, hb9, by omega, by show Nat.gcd b R = _; rw [← HG.out, ← HR.out, Nat.gcd_comm a b, Nat.gcd_rec b a, Nat.gcd_comm], by first | exact hb | exact below_drewN hb _⟩
    · obtain rfl : b = 0 := by omega
      obtain ⟨L, hL⟩ : ∃ L, a % BW = L := ⟨_, rfl⟩
      obtain ⟨H, hH⟩ : ∃ H, a / BW = H := ⟨_, rfl⟩
      have hL' : a % 1000000000 = L := hL
      have hH' : a / 1000000000 = H := hH
      have hLi : (a : Int) % 1000000000 = (L : Int) := by omega
      have hHi : (a : Int) / 1000000000 = (H : Int) := by omega
      have H9 : H < 1000000000 := by omega
      have L9 : L < 1000000000 := by omega
      have HL := Lib.hid hL
      have HH := Lib.hid hH
      clear hL hH hL' hH'
      have hbn : Below w.heap.size w (wr.alloc (.cells #[.int .u64 (L : Int), .int .u64 (H : Int)] 73)) := hb.alloc hb.size _
      have how : Own .u64 73 (wr.alloc (.cells #[.int .u64 (L : Int), .int .u64 (H : Int)] 73)) wr.heap.size [L, H] := Blk.new wr _ _
      have gd : Dg BW [L, H] := Dg.cons L9 (Dg.cons H9 (Dg.nil _))
      have hdv : dv BW [L, H] = a := by rw [← HL.out, ← HH.out]; exact two_back a
      have HD := Lib.hid hdv
      clear hdv
      go_wp2_with fail
      refine (trimmed_any _ 2 2 [L, H] _ (by unfold maxLen; omega) (Nat.le_refl _) (how.rd rfl)).mono ?_
      rintro e w' ⟨rfl, rfl⟩
      go_wp2_with fail
      go_ret
      refine ⟨_, _, _, trimZ [L, H], rfl, ?_, Nat.le_refl _, trimZ_cn gd, ?_, hbn⟩
      · unfold trimZ; exact (how.rd rfl).take _ (trimLen_le _ _)
      · show dv BW (trimZ _) = _
        rw [dv_trimZ, HD.out, HXE.out, HYE.out, ← HG.out, Nat.gcd_zero_right]

end Go.Proofs.YtimcbmgmngkagaaDoor

namespace Go.Proofs.YtimcbmgmngkagaaDoor
open Go.RowKit
attribute [local go_sem] Oper.semAt_some

/-- Two numbers of words that the loop of divisor goes on with. -/
def Pair2 (G : Nat) (w0 : World) (v0 v1 : Value) (g : Nat) (w : World) : Prop := ∃ p n c xs q m d ys, v0 = .slice p n c ∧ v1 = .slice q m d ∧ n ≤ 1000000 ∧ m ≤ 1000000 ∧ n ≤ c ∧ m ≤ d ∧ Rd .u64 w p n xs ∧ Rd .u64 w q m ys ∧ Hid (Cn BW xs ∧ Cn BW ys ∧ dv BW ys ≤ dv BW xs ∧ Nat.gcd (dv BW xs) (dv BW ys) = G ∧ g = dv BW xs + dv BW ys) ∧ Below w0.heap.size w0 w

set_option maxRecDepth 100000 in
set_option maxHeartbeats 4000000 in
theorem divisor_any (p q : Option Addr) (n m c d : Nat) (xs ys : List Nat) (w : World) (hn : n ≤ 1000000) (hm : m ≤ 1000000) (hc : n ≤ c) (hd : m ≤ d) (hx : Rd .u64 w p n xs) (hy : Rd .u64 w q m ys) (gx : Cn BW xs) (gy : Cn BW ys) :
    Calls Tryd.prog 33 #[.slice p n c, .slice q m d] w (Words w fun zs => dv BW zs = Nat.gcd (dv BW xs) (dv BW ys)) := by
  obtain ⟨G, hG⟩ : ∃ G, Nat.gcd (dv BW xs) (dv BW ys) = G := ⟨_, rfl⟩
  rw [hG]
  go_enter Tryd.func33, Tryd.ntmps33
  go_wp2_with fail
  refine (compareWords_any p q n c m d xs ys _ (by omega) (by omega) hx hy gx gy).mono ?_
  rintro e w1 ⟨rfl, hb1⟩
  have hx1 := hx.below hb1
  have hy1 := hy.below hb1
  clear hx hy
  have HG := Lib.hid hG
  clear hG
  go_upto_if 11 with fail
  go_cut [0, 1] from 10 to 13 (fun v0 v1 wx => ∃ g, Pair2 G w v0 v1 g wx)
  case first =>
    by_cases hlt : dv BW xs < dv BW ys
    · have hs : sgnCmp ((dv BW xs : Nat) : Int) ((dv BW ys : Nat) : Int) = -1 := by unfold sgnCmp; rw [if_pos (by omega)]
      rw [hs]
      go_wp2_with fail
      go_meet
      case rel => exact ⟨_, q, m, d, ys, p, n, c, xs, rfl, rfl, hm, hn, hd, hc, hy1, hx1, ⟨gy, gx, Nat.le_of_lt hlt, by rw [Nat.gcd_comm]; exact HG.out, rfl⟩, hb1⟩
    · have hs : ¬ sgnCmp ((dv BW xs : Nat) : Int) ((dv BW ys : Nat) : Int) < 0 := by unfold sgnCmp; rw [if_neg (by omega)]; split <;> omega
      go_wp2_with fail
      go_meet
      case rel => exact ⟨_, p, n, c, xs, q, m, d, ys, rfl, rfl, hn, hm, hc, hd, hx1, hy1, ⟨gx, gy, by omega, HG.out, rfl⟩, hb1⟩
  case rest =>
    obtain ⟨g0, hcut⟩ := hcut
    clear hx1 hy1 hb1 gx gy hn hm hc hd
    have HC := Lib.hid hcut
    clear hcut
    go_wp2_with fail
    go_loopg [0, 1] g0 (fun gk v0 v1 wr => Pair2 G w v0 v1 gk wr)
    case atStart => exact HC.out
    case round =>
      obtain ⟨p, n, c, xs, q, m, d, ys, rfl, rfl, hn, hm, hc, hd, hx, hy, HI, hb⟩ := hrel
      clear HC
      by_cases h2 : 2 < n
      · have h2i : (2 : Int) < (n : Int) := by omega
        by_cases hm0 : m = 0
        · subst hm0
          go_wp2_with fail
          go_ret
          have hy0 : ys = [] := List.length_eq_zero_iff.1 hy.1
          exact ⟨p, n, c, xs, rfl, hx, hc, HI.out.1, by have := HI.out.2.2.2.1; rw [hy0] at this; rw [← this]; exact (Nat.gcd_zero_right _).symm, hb⟩
        · have hm0i : ¬ (m : Int) = 0 := by omega
          have hm0n : ¬ m = 0 := hm0
          have hyp : 0 < dv BW ys := HI.out.2.1.pos (by decide) (by intro e; have := hy.1; rw [e] at this; simp at this; omega)
          go_wp2_with fail
          refine (highSteps_any p q n m c d xs ys _ (by omega) (by omega) (by omega) hx hy HI.out.1 HI.out.2.1 HI.out.2.2.1).mono ?_
          rintro e w2 ⟨a, b, c', d', rfl, ⟨⟨a0, a1⟩, ⟨b0, b1⟩, ⟨c0, c1⟩, ⟨d0, d1⟩⟩, HH, hb2⟩
          have HHH := Lib.hid HH
          clear HH
          obtain ⟨w3, hw3⟩ : ∃ w3, (w2.alloc (.cells #[.int .i64 a, .int .i64 b, .int .i64 c', .int .i64 d'] 90)) = w3 := ⟨_, rfl⟩
          have k0 : Blk w3 w2.heap.size #[.int .i64 a, .int .i64 b, .int .i64 c', .int .i64 d'] 90 := by rw [← hw3]; exact Blk.new w2 _ _
          have hb3 : Below wr.heap.size wr w3 := by rw [← hw3]; exact hb2.alloc hb2.size _
          have hx3 := hx.below hb3
          have hy3 := hy.below hb3
          have hbw3 := hb.trans (hb3.mono hb.size)
          by_cases hb0 : b = 0
          · subst hb0
            have f1 := k0.cell (i := 1) rfl
            go_wp2_with fail
            refine (divideWords_any p q n c m d xs ys _ hn hm hc hd hx3 hy3 HI.out.1 HI.out.2.1 hyp).mono ?_
            rintro e w4 ⟨p1, n1, e1, qs, q1, m1, f1, rs, rfl, hq1, hqc, hqn, hr1, hrc, hrn, hqr, hlt, hb4⟩
            have HQ := Lib.hid hqr
            clear hqr
            go_wp2_with fail
            go_roundg (dv BW ys + dv BW rs)
            case measure => have h1 := HI.out.2.2.2.2; have h2 := HI.out.2.2.1; omega
            case rel => exact ⟨q, m, d, ys, q1, m1, f1, rs, rfl, rfl, hm, by have := hrn.length_le (b := BW) (by decide) (m := m) (by have := dv_lt HI.out.2.1.1; rw [hy.1] at this; omega); have := hr1.1; omega, hd, hrc, hy3.below hb4, hr1, ⟨HI.out.2.1, hrn, Nat.le_of_lt hlt, by rw [← HI.out.2.2.2.1, HQ.out, Nat.add_comm, Nat.mul_comm, Nat.gcd_add_mul_left_left, Nat.gcd_comm], rfl⟩, hbw3.trans (hb4.mono hbw3.size)⟩
          · obtain ⟨z0, z1, z2, z3⟩ := HHH.out hb0
            have f1 := k0.cell (i := 1) rfl
            have HZ := Lib.hid z3
            clear z3
            have e0 : w3.drew.cell? _ = _ := k0.cell (i := 0) rfl
            have e1 : w3.drew.cell? _ = _ := k0.cell (i := 1) rfl
            have e2 : w3.drew.cell? _ = _ := k0.cell (i := 2) rfl
            have e3 : w3.drew.cell? _ = _ := k0.cell (i := 3) rfl
            have lx : dv BW xs < BW ^ n := by have := dv_lt HI.out.1.1; rwa [hx.1] at this
            have lmn : m ≤ n := by
              rcases Nat.lt_or_ge n m with h | h
              · have := Cn.lt_of_length (b := BW) (by decide) HI.out.1.1 HI.out.2.1 (by rw [hx.1, hy.1]; exact h)
                have := HI.out.2.2.1
                omega
              · exact h
            have lxi : ((dv BW xs : Nat) : Int) < ((BW ^ n : Nat) : Int) := Int.ofNat_lt.2 lx
            have lyx : ((dv BW ys : Nat) : Int) ≤ ((dv BW xs : Nat) : Int) := Int.ofNat_le.2 HI.out.2.2.1
            have C1 := Lib.hid (fun W (hW : Below w3.heap.size w3 W) => combined_any p q n m c d xs ys a b W (by omega) lmn (hx3.below hW) (hy3.below hW) HI.out.1.1 HI.out.2.1.1 a0 a1 b0 b1 (by omega) (by omega))
            have C2 := Lib.hid (fun W (hW : Below w3.heap.size w3 W) => combined_any p q n m c d xs ys c' d' W (by omega) lmn (hx3.below hW) (hy3.below hW) HI.out.1.1 HI.out.2.1.1 c0 c1 d0 d1 z0 (by omega))
            clear lxi lyx lx lmn
            go_wp2_with fail
            go_region_held3 (fun w' => w'.cell? ⟨w2.heap.size, 0, none⟩ = some (.int .i64 a) ∧ w'.cell? ⟨w2.heap.size, 1, none⟩ = some (.int .i64 b) ∧ w'.cell? ⟨w2.heap.size, 2, none⟩ = some (.int .i64 c') ∧ w'.cell? ⟨w2.heap.size, 3, none⟩ = some (.int .i64 d'))
              ((first | exact ⟨e0, e1, e2, e3⟩ | exact ⟨i0, i1, i2, i3⟩ | exact ⟨j0, j1, j2, j3⟩))
              (first
                | (go_at_call 51; (with_reducible refine (C1.out _ (Below.refl _ _).drew).mono ?_); rintro e w5 ⟨p5, n5, c5, zs5, rfl, hr5, hc5, hz5, hv5, hb5⟩; have hbD : Below w3.heap.size w3 w5 := (Below.refl w3.heap.size w3).drew.trans hb5; have i0 := cell_call (W := w3.drew) hb5 e0; have i1 := cell_call (W := w3.drew) hb5 e1; have i2 := cell_call (W := w3.drew) hb5 e2; have i3 := cell_call (W := w3.drew) hb5 e3)
                | (go_at_call 51; (with_reducible refine (C2.out _ hbD).mono ?_); rintro e w6 ⟨p6, n6, c6, zs6, rfl, hr6, hc6, hz6, hv6, hb6⟩; have j0 := cell_call hb6 i0; have j1 := cell_call hb6 i1; have j2 := cell_call hb6 i2; have j3 := cell_call hb6 i3))
            go_wp2_with fail
            have hbE := hbD.trans (hb6.mono hbD.size)
            have e5 : n5 ≤ n := by
              have h1 := hz5.length_le (b := BW) (by decide) (m := n) (by
                have h2 := dv_lt HI.out.1.1
                rw [hx.1] at h2
                have h3 := HI.out.2.2.1
                omega)
              rw [hr5.1] at h1; exact h1
            have e6 : n6 ≤ n := by
              have h1 := hz6.length_le (b := BW) (by decide) (m := n) (by
                have h2 := dv_lt HI.out.1.1
                rw [hx.1] at h2
                have h3 := HI.out.2.2.1
                omega)
              rw [hr6.1] at h1; exact h1
            go_roundg (dv BW zs5 + dv BW zs6)
            case measure => have h1 := HI.out.2.2.2.2; have h2 := HI.out.2.2.1; omega
            case rel => exact ⟨p5, n5, c5, zs5, p6, n6, c6, zs6, rfl, rfl, by omega, by omega, hc5, hc6, hr5.below hb6, hr6, ⟨hz5, hz6, by omega, by have h1 := HZ.out; rw [← hv5, ← hv6] at h1; rw [← HI.out.2.2.2.1]; exact h1, rfl⟩, hbw3.trans (hbE.mono hbw3.size)⟩
      · have h2i : ¬ (2 : Int) < (n : Int) := by omega
        have hmn : m ≤ 2 := by
          rcases Nat.lt_or_ge n m with h | h
          · have := Cn.lt_of_length (b := BW) (by decide) HI.out.1.1 HI.out.2.1 (by rw [hx.1, hy.1]; exact h)
            have := HI.out.2.2.1
            omega
          · omega
        go_wp2_with fail
        refine (smallDivisor_any p q n m c d xs ys _ (by omega) hmn hx hy HI.out.1.1 HI.out.2.1.1).mono ?_
        rintro e w2 ⟨p5, n5, c5, zs5, rfl, hr5, hc5, hz5, hv5, hb5⟩
        have hbF := hb.trans (hb5.mono hb.size)
        go_wp2_with fail
        go_ret
        exact ⟨p5, n5, c5, zs5, rfl, hr5, hc5, hz5, by show dv BW zs5 = G; rw [hv5]; exact HI.out.2.2.2.1, hbF⟩

end Go.Proofs.YtimcbmgmngkagaaDoor

namespace Go.Proofs.YtimcbmgmngkagaaDoor
open Go.RowKit

theorem gcd_small {x y : Int} {M : Nat} (hx : x.natAbs < M) (hy : y.natAbs < M) : Nat.gcd x.natAbs y.natAbs < M := by
  rcases Nat.eq_zero_or_pos x.natAbs with h | h
  · rw [h, Nat.gcd_zero_left]; exact hy
  · exact Nat.lt_of_le_of_lt (Nat.gcd_le_left _ h) hx

set_option maxHeartbeats 2000000 in
theorem gcd_ok (s t : ByteArray) (w : World) (hs : s.size ≤ maxLen) (ht : t.size ≤ maxLen) (h1 : numB s.data.toList = true) (h2 : numB t.data.toList = true) (htab : Tab w) :
    Calls Tryd.prog 17 #[.string s, .string t] w (ApiIs w true ((Int.gcd (strV s.data.toList) (strV t.data.toList) : Nat) : Int)) := by
  go_enter Tryd.func17, Tryd.ntmps17
  go_wp2_with fail
  refine (pair_ok s t _ hs ht h1 h2).mono ?_
  rintro e w1 ⟨a, p, n, c, xs, b, q, m, d, ys, rfl, hx, hy, hb1⟩
  have hbA : Below w1.heap.size w1 ((w1.alloc (.cells #[.bool a, .slice p n c] 47)).alloc (.cells #[.bool b, .slice q m d] 47)) := (((Below.refl _ _).alloc (Nat.le_refl _) _).alloc (by simp) _)
  have hbW := hb1.trans (hbA.mono hb1.size)
  have hxA := hx.below hbA
  have hyA := hy.below hbA
  have B1 := (pair_boxes (W := w1) (.bool a) (.slice p n c) (.bool b) (.slice q m d) 47).1
  have B2 := (pair_boxes (W := w1) (.bool a) (.slice p n c) (.bool b) (.slice q m d) 47).2
  go_wp2_with fail
  refine (divisor_any p q n m c d xs ys _ (Nat.le_trans hx.len (by omega)) (Nat.le_trans hy.len (by omega)) hx.cap hy.cap hxA.rd hyA.rd hx.cn hy.cn).mono ?_
  rintro e w2 ⟨p2, n2, c2, zs, rfl, hr2, hc2, hz2, hv2, hb2⟩
  have hbX := hbW.trans (hb2.mono hbW.size)
  have hv : ((Int.gcd (strV s.data.toList) (strV t.data.toList) : Nat) : Int) = sv false (dv BW zs) := by
    show _ = ((dv BW zs : Nat) : Int)
    have e1 := sv_natAbs a (dv BW xs)
    have e2 := sv_natAbs b (dv BW ys)
    rw [← hx.val] at e1
    rw [← hy.val] at e2
    rw [hv2, ← e1, ← e2]
    rfl
  have hnum : NumIs w2 false p2 n2 c2 zs ((Int.gcd (strV s.data.toList) (strV t.data.toList) : Nat) : Int) 223 := NumIs.mk' hr2 hc2 hz2 (by intro h; cases h) hv.symm (by
    rw [Int.natAbs_natCast]
    exact gcd_small hx.small hy.small)
  have HN := Lib.hid hnum
  clear hv hnum hv2
  go_wp2_with fail
  refine (written_any _ _ _ _ _ _ _ _ HN.out (by omega) (htab.below hbX)).mono ?_
  rintro e w3 ⟨rfl, hb3⟩
  go_wp2_with fail
  go_ret2
  exact ⟨rfl, hbX.trans (hb3.mono hbX.size)⟩

theorem num_bound {l : List UInt8} (h : numB l = true) : ∃ k, k = 2000 ∧ (strV l).natAbs < 10 ^ k := by
  refine ⟨2000, rfl, ?_⟩
  generalize hk : (2000 : Nat) = k
  unfold numB plainB at h
  simp only [Bool.and_eq_true, decide_eq_true_eq] at h
  have h1 := decV_lt _ h.1.1.2
  have h3 : (10 : Nat) ^ (digitsOf l).length ≤ 10 ^ k := Nat.pow_le_pow_right (by decide) (by omega)
  have h4 : (strV l).natAbs = decV (digitsOf l) := by unfold strV; split <;> simp
  rw [h4]
  exact Nat.lt_of_lt_of_le h1 h3

theorem gcdL (a b : List UInt8) (w : World) (ha : a.length ≤ 1000000000) (hb : b.length ≤ 1000000000) (h1 : numB a = true) (h2 : numB b = true) (htab : Tab w) : Calls Tryd.prog 17 #[.string ⟨a.toArray⟩, .string ⟨b.toArray⟩] w fun e w' => e = .returned (.tuple #[.string ⟨(Lib.itoa ((Int.gcd (strV a) (strV b) : Nat) : Int)).toArray⟩, .int .i64 0]) ∧ Below w.heap.size w w' := by
  have h := gcd_ok ⟨a.toArray⟩ ⟨b.toArray⟩ w (bytes_small ha) (bytes_small hb) (by rw [bytes_data]; exact h1) (by rw [bytes_data]; exact h2) htab
  rw [bytes_data, bytes_data] at h
  have hl : longB ((Int.gcd (strV a) (strV b) : Nat) : Int) = false := by
    obtain ⟨k, hk, hk1⟩ := num_bound h1
    obtain ⟨k2, hk2, hk3⟩ := num_bound h2
    rw [hk2, ← hk] at hk3
    exact longB_of (k := k) (by omega) (by rw [Int.natAbs_natCast]; exact gcd_small hk1 hk3) (by omega)
  unfold ApiIs apiS apiE outS outE at h
  rw [hl] at h
  exact h
end Go.Proofs.YtimcbmgmngkagaaDoor

namespace Go.Proofs.YtimcbmgmngkagaaDoor
open Go.RowKit

/-- An integer is short enough to be a number. -/
def Fits (z : Int) : Prop := longB z = false

theorem fits_pow {z : Int} {k : Nat} (h : z.natAbs < 10 ^ k) (hk : k ≤ 2000) (hk1 : 1 ≤ k := by omega) : Fits z := longB_of hk1 h hk
theorem fits_digits {z : Int} (h : Fits z) : (digitsOf (Lib.itoa z)).length ≤ 2000 := by
  unfold Fits at h
  rw [long_itoa] at h
  simpa using h
theorem fits_num {z : Int} (h : Fits z) : numB (Lib.itoa z) = true := by
  unfold numB
  rw [(itoa_says z).1, decide_eq_true (fits_digits h)]
  rfl
theorem fits_len {z : Int} (h : Fits z) : (Lib.itoa z).length ≤ 2001 := numB_len (fits_num h)
theorem fits_val (z : Int) : strV (Lib.itoa z) = z := (itoa_says z).2.1
theorem num_fits {l : List UInt8} (h : numB l = true) : Fits (strV l) := by
  unfold Fits
  rw [long_itoa, itoa_strV h]
  unfold numB at h
  rw [Bool.and_eq_true] at h
  have := of_decide_eq_true h.2
  simpa using this
theorem fits_bound {z : Int} (h : Fits z) : ∃ k, k = 2000 ∧ z.natAbs < 10 ^ k := by
  obtain ⟨k, h1, h2⟩ := num_bound (fits_num h)
  rw [fits_val] at h2
  exact ⟨k, h1, h2⟩
theorem fits_of_le {z x : Int} (hx : Fits x) (h : z.natAbs ≤ x.natAbs) : Fits z := by
  obtain ⟨k, h1, h2⟩ := fits_bound hx
  exact fits_pow (k := k) (by omega) (by omega)

theorem addZ {x y z : Int} (w : World) (hx : Fits x) (hy : Fits y) (h : x + y = z) (hz : Fits z) (htab : Tab w) : Calls Tryd.prog 6 #[.string ⟨(Lib.itoa x).toArray⟩, .string ⟨(Lib.itoa y).toArray⟩] w fun e w' => e = .returned (.tuple #[.string ⟨(Lib.itoa z).toArray⟩, .int .i64 0]) ∧ Below w.heap.size w w' := by
  have := addL (Lib.itoa x) (Lib.itoa y) w (by have := fits_len hx; omega) (by have := fits_len hy; omega) (fits_num hx) (fits_num hy) htab
  unfold OutIs at this
  rw [fits_val, fits_val, h, (out_plain hz).1, (out_plain hz).2] at this
  exact this
theorem subZ {x y z : Int} (w : World) (hx : Fits x) (hy : Fits y) (h : x - y = z) (hz : Fits z) (htab : Tab w) : Calls Tryd.prog 8 #[.string ⟨(Lib.itoa x).toArray⟩, .string ⟨(Lib.itoa y).toArray⟩] w fun e w' => e = .returned (.tuple #[.string ⟨(Lib.itoa z).toArray⟩, .int .i64 0]) ∧ Below w.heap.size w w' := by
  have := subL (Lib.itoa x) (Lib.itoa y) w (by have := fits_len hx; omega) (by have := fits_len hy; omega) (fits_num hx) (fits_num hy) htab
  unfold OutIs at this
  rw [fits_val, fits_val, h, (out_plain hz).1, (out_plain hz).2] at this
  exact this
theorem mulZ {x y z : Int} (w : World) (hx : Fits x) (hy : Fits y) (h : x * y = z) (hz : Fits z) (htab : Tab w) : Calls Tryd.prog 7 #[.string ⟨(Lib.itoa x).toArray⟩, .string ⟨(Lib.itoa y).toArray⟩] w fun e w' => e = .returned (.tuple #[.string ⟨(Lib.itoa z).toArray⟩, .int .i64 0]) ∧ Below w.heap.size w w' := by
  have := mulL (Lib.itoa x) (Lib.itoa y) w (by have := fits_len hx; omega) (by have := fits_len hy; omega) (fits_num hx) (fits_num hy) htab
  unfold OutIs at this
  rw [fits_val, fits_val, h, (out_plain hz).1, (out_plain hz).2] at this
  exact this
theorem cmpZ {x y : Int} (w : World) (hx : Fits x) (hy : Fits y) : Calls Tryd.prog 16 #[.string ⟨(Lib.itoa x).toArray⟩, .string ⟨(Lib.itoa y).toArray⟩] w fun e w' => e = .returned (.tuple #[.int .i64 (sgnCmp x y), .int .i64 0]) ∧ Below w.heap.size w w' := by
  have := cmpL (Lib.itoa x) (Lib.itoa y) w (by have := fits_len hx; omega) (by have := fits_len hy; omega) (fits_num hx) (fits_num hy)
  rw [fits_val, fits_val] at this
  exact this
theorem gcdZ {x y : Int} (w : World) (hx : Fits x) (hy : Fits y) (htab : Tab w) : Calls Tryd.prog 17 #[.string ⟨(Lib.itoa x).toArray⟩, .string ⟨(Lib.itoa y).toArray⟩] w fun e w' => e = .returned (.tuple #[.string ⟨(Lib.itoa ((Int.gcd x y : Nat) : Int)).toArray⟩, .int .i64 0]) ∧ Below w.heap.size w w' := by
  have := gcdL (Lib.itoa x) (Lib.itoa y) w (by have := fits_len hx; omega) (by have := fits_len hy; omega) (fits_num hx) (fits_num hy) htab
  rw [fits_val, fits_val] at this
  exact this
theorem divZ {x y q r : Int} (w : World) (hx : Fits x) (hy : Fits y) (h0 : y ≠ 0) (hq : x / y = q) (hr : x % y = r) (htab : Tab w) : Calls Tryd.prog 9 #[.string ⟨(Lib.itoa x).toArray⟩, .string ⟨(Lib.itoa y).toArray⟩] w fun e w' => e = .returned (.tuple #[.string ⟨(Lib.itoa q).toArray⟩, .string ⟨(Lib.itoa r).toArray⟩, .int .i64 0]) ∧ Below w.heap.size w w' := by
  have := div_all ⟨(Lib.itoa x).toArray⟩ ⟨(Lib.itoa y).toArray⟩ w (bytes_small (by have := fits_len hx; omega)) (bytes_small (by have := fits_len hy; omega)) htab
  rw [bytes_data, bytes_data, fits_num hx, fits_num hy, fits_val, fits_val] at this
  unfold DivIs divQ divR divE at this
  rw [hq, hr] at this
  simpa [h0] using this
theorem divZ0 {x : Int} (w : World) (hx : Fits x) (htab : Tab w) : Calls Tryd.prog 9 #[.string ⟨(Lib.itoa x).toArray⟩, .string ⟨(Lib.itoa 0).toArray⟩] w fun e w' => e = .returned (.tuple #[.string ⟨#[]⟩, .string ⟨#[]⟩, .int .i64 5]) ∧ Below w.heap.size w w' := by
  have h0 : Fits 0 := by unfold Fits; decide +kernel
  have := div_all ⟨(Lib.itoa x).toArray⟩ ⟨(Lib.itoa 0).toArray⟩ w (bytes_small (by have := fits_len hx; omega)) (bytes_small (by have := fits_len h0; omega)) htab
  rw [bytes_data, bytes_data, fits_num hx, fits_num h0, fits_val, fits_val] at this
  unfold DivIs divQ divR divE at this
  simpa using this
theorem fits_div {x y : Int} (hx : Fits x) : Fits (x / y) := fits_of_le hx (Int.natAbs_ediv_le_natAbs _ _)
theorem fits_mod {x y : Int} (hy : Fits y) (h0 : y ≠ 0) : Fits (x % y) := by
  obtain ⟨k, h1, h2⟩ := fits_bound hy
  exact fits_pow (k := k) (emod_small h0 h2) (by omega)
theorem fits_gcd {x y : Int} (hx : Fits x) (hy : Fits y) : Fits ((Int.gcd x y : Nat) : Int) := by
  obtain ⟨k, h1, h2⟩ := fits_bound hx
  obtain ⟨k', h1', h2'⟩ := fits_bound hy
  rw [h1', ← h1] at h2'
  exact fits_pow (k := k) (by rw [Int.natAbs_natCast]; exact gcd_small h2 h2') (by omega)

theorem itoa_neg {z : Int} (h : z < 0) : Lib.itoa z = 45 :: Lib.itoa (-z) := by
  refine plain_inj (itoa_says z).1 ?_ ?_
  · obtain ⟨h1, h2, _⟩ := itoa_says (-z)
    have hn : isNeg (Lib.itoa (-z)) = false := by
      cases hh : isNeg (Lib.itoa (-z))
      · rfl
      · unfold strV at h2
        rw [hh, if_pos rfl] at h2
        omega
    have hd : digitsOf (Lib.itoa (-z)) = Lib.itoa (-z) := by
      have := text_of (l := Lib.itoa (-z))
      rw [hn] at this
      exact this.symm
    have hd2 : digitsOf (45 :: Lib.itoa (-z)) = Lib.itoa (-z) := rfl
    have hp := h1
    unfold plainB at h1 ⊢
    rw [hd] at h1
    rw [hd2]
    simp only [Bool.and_eq_true, Bool.or_eq_true] at h1 ⊢
    refine ⟨h1.1, ?_⟩
    left
    rcases h1.2 with h | h
    · exact h
    · have e : Lib.itoa (-z) = [48] := by simpa using h
      rw [e] at h2
      have : strV [48] = 0 := by decide
      omega
  · rw [fits_val]
    have h2 := fits_val (-z)
    have hn : isNeg (Lib.itoa (-z)) = false := by
      cases hh : isNeg (Lib.itoa (-z))
      · rfl
      · unfold strV at h2
        rw [hh, if_pos rfl] at h2
        omega
    unfold strV at h2 ⊢
    rw [hn] at h2
    have hd : digitsOf (Lib.itoa (-z)) = Lib.itoa (-z) := by
      have := text_of (l := Lib.itoa (-z))
      rw [hn] at this
      exact this.symm
    rw [hd] at h2
    show z = (if isNeg (45 :: Lib.itoa (-z)) = true then -(decV (digitsOf (45 :: Lib.itoa (-z))) : Int) else _)
    rw [show isNeg (45 :: Lib.itoa (-z)) = true from rfl, if_pos rfl, show digitsOf (45 :: Lib.itoa (-z)) = Lib.itoa (-z) from rfl]
    simp at h2
    omega

/-- The text of what is not less than 0 begins with a digit. -/
theorem itoa_pos {z : Int} (h : 0 ≤ z) : ∃ c t, Lib.itoa z = c :: t ∧ 48 ≤ c.toNat ∧ c.toNat ≤ 57 := by
  obtain ⟨h1, h2, _⟩ := itoa_says z
  unfold plainB at h1
  simp only [Bool.and_eq_true] at h1
  have hn : isNeg (Lib.itoa z) = true → z = 0 := fun hh => by
    unfold strV at h2
    rw [hh, if_pos rfl] at h2
    omega
  cases hl : Lib.itoa z with
  | nil => rw [hl] at h1; simp [digitsOf] at h1
  | cons c t =>
    refine ⟨c, t, rfl, ?_⟩
    by_cases hc : c = 45
    · exfalso
      have h3 := hn (by rw [hl, hc]; rfl)
      rw [h3] at hl
      rw [show Lib.itoa 0 = [48] by decide +kernel] at hl
      rw [hc] at hl
      exact absurd (List.cons.inj hl).1 (by decide)
    · have hd : digitsOf (c :: t) = c :: t := by simp [digitsOf, hc]
      rw [hl, hd] at h1
      have := h1.1.2
      rw [List.all_cons, Bool.and_eq_true] at this
      exact of_decide_eq_true this.1

theorem itoa_inj {x y : Int} (h : Lib.itoa x = Lib.itoa y) : x = y := by rw [← fits_val x, ← fits_val y, h]

end Go.Proofs.YtimcbmgmngkagaaDoor

namespace Go.Proofs.YtimcbmgmngkagaaDoor
open Go.RowKit

/-- What Sum hands back. -/
def sumErr (l : List ByteArray) : Int := if allB l then (if 1000 < l.length then 1 else outE (sumZ (vals l))) else 6
def sumStr (l : List ByteArray) : List UInt8 := if allB l then (if 1000 < l.length then [] else outS (sumZ (vals l))) else []

set_option maxHeartbeats 1000000 in
theorem sumList_any (a : Option Addr) (n c : Nat) (l : List ByteArray) (w : World) (hl : l.length = n) (hn : n ≤ 1000000000000) (hr : RdS w a l) (hs : ∀ s ∈ l, s.size ≤ maxLen) (htab : Tab w) :
    Calls Tryd.prog 10 #[.slice a n c] w fun e w' => e = .returned (.tuple #[.string ⟨(sumStr l).toArray⟩, .int .i64 (sumErr l)]) ∧ Below w.heap.size w w' := by
  by_cases hall : allB l = true
  · by_cases h1000 : 1000 < n
    · have h1 : sumStr l = [] := by unfold sumStr; rw [if_pos hall, if_pos (by omega)]
      have h2 : sumErr l = 1 := by unfold sumErr; rw [if_pos hall, if_pos (by omega)]
      rw [h1, h2]
      have hi : (1000 : Int) < (n : Int) := by omega
      have HA := Lib.hid hall
      clear hall h1 h2 h1000
      go_enter Tryd.func10, Tryd.ntmps10
      go_wp2_with (go_at_call 25; refine (areAll_any _ _ _ l _ hl hn hr hs).mono ?_; rintro e w1 ⟨rfl, hb1⟩; rw [HA.out])
      go_ret2
      exact ⟨rfl, hb1⟩
    · have h1 : sumStr l = outS (sumZ (vals l)) := by unfold sumStr; rw [if_pos hall, if_neg (by omega)]
      have h2 : sumErr l = outE (sumZ (vals l)) := by unfold sumErr; rw [if_pos hall, if_neg (by omega)]
      rw [h1, h2]
      have hi : ¬ (1000 : Int) < (n : Int) := by omega
      have hvl : (vals l).length = n := by simp [vals, hl]
      have HA := Lib.hid hall
      have HV := Lib.hid hvl
      have hn' : n ≤ 1000 := by omega
      clear hall h1 h2 h1000 hvl
      go_enter Tryd.func10, Tryd.ntmps10
      go_wp2_with (first
        | (go_at_call 25; refine (areAll_any _ _ _ l _ hl hn hr hs).mono ?_; rintro e w1 ⟨rfl, hb1⟩; rw [HA.out])
        | (go_at_call 26; refine (readAll_any _ _ _ l _ hl (by omega) (hr.below hb1) hs HA.out).mono ?_; rintro e w2 ⟨B, rfl, hz, hb2⟩; have hbX := hb1.trans (hb2.mono hb1.size))
        | (go_at_call 19; refine (sum_any _ _ _ (vals l) 223 _ HV.out (by omega) (by omega) hz).mono ?_; rintro e w3 ⟨neg, p, m, d, xs, rfl, hx, hb3⟩; have hbY := hbX.trans (hb3.mono hbX.size))
        | (go_at_call 20; refine (written_any _ _ _ _ _ _ _ _ hx (by omega) (htab.below hbY)).mono ?_; rintro e w4 ⟨rfl, hb4⟩))
      go_ret2
      exact ⟨rfl, hbY.trans (hb4.mono hbY.size)⟩
  · have h1 : sumStr l = [] := by unfold sumStr; rw [if_neg hall]
    have h2 : sumErr l = 6 := by unfold sumErr; rw [if_neg hall]
    rw [h1, h2]
    have hall' : allB l = false := by simpa using hall
    have HA := Lib.hid hall'
    clear hall hall' h1 h2
    go_enter Tryd.func10, Tryd.ntmps10
    go_wp2_with (go_at_call 25; refine (areAll_any _ _ _ l _ hl hn hr hs).mono ?_; rintro e w1 ⟨rfl, hb1⟩; rw [HA.out])
    go_ret2
    exact ⟨rfl, hb1⟩

end Go.Proofs.YtimcbmgmngkagaaDoor

namespace Go.Proofs.YtimcbmgmngkagaaDoor
open Go.RowKit

def scells (ls : List (List UInt8)) : List Value := ls.map fun s => Value.string ⟨s.toArray⟩
/-- A slice of strings that the call has made. -/
def GrS (w : World) (base : Nat) (v : Value) (ls : List (List UInt8)) : Prop := w.ownsRow base 9 1 v ls.length (scells ls)
theorem GrS.nil (w : World) (base : Nat) : GrS w base (.slice none 0 0) [] := ownsRow_nil _ _ _
theorem GrS.below {w w' : World} {base : Nat} {v : Value} {ls : List (List UInt8)} (h : GrS w base v ls) (hb : Below w.heap.size w w') : GrS w' base v ls :=
  own_below h hb

theorem GrS.rd {w : World} {base : Nat} {v : Value} {ls : List (List UInt8)} (h : GrS w base v ls) : ∃ p c, v = .slice p ls.length c ∧ ls.length ≤ c ∧ RdL w p ls := by
  rcases h.2 with ⟨rfl, hn⟩ | ⟨g, cap, cur, rfl, hb, hg, hc, _, hs, ht⟩
  · rw [hn]
    have : ls = [] := List.length_eq_zero_iff.1 hn
    subst this
    exact ⟨none, 0, rfl, Nat.le_refl _, fun i s hs => by simp at hs⟩
  · refine ⟨_, cap, rfl, hc, fun i s hs => ?_⟩
    have hi : i < ls.length := (List.getElem?_eq_some_iff.1 hs).1
    refine ⟨g, 0, rfl, (Array.getElem?_eq_some_iff.1 hg).1, ?_⟩
    have h1 : (scells ls)[i]? = some (.string ⟨s.toArray⟩) := by unfold scells; simp [hs]
    rw [← ht, Nat.mul_one, List.getElem?_take_of_lt hi] at h1
    rw [Nat.zero_add]
    simpa [World.cell?, hg] using h1

/-- x[i] = s. -/
theorem GrS.put {w : World} {base : Nat} {p : Option Addr} {n c : Nat} {ls : List (List UInt8)} (h : GrS w base (.slice p n c) ls) {i : Nat} (hi : i < ls.length) (s : List UInt8) :
    ∃ g, p = some ⟨g, 0, none⟩ ∧ base ≤ g ∧ (∃ u, w.cell? ⟨g, i, none⟩ = some u) ∧ w.frozen? ⟨g, i, none⟩ = false ∧ GrS (w.setCell ⟨g, i, none⟩ (.string ⟨s.toArray⟩)) base (.slice p n c) (ls.set i s) := by
  rcases h.2 with ⟨e, hn⟩ | ⟨g, cap, cur, e, hb, hg, hc, hz, hs, ht⟩
  · rw [hn] at hi; omega
  · cases e
    have hlt : i < cur.size := by omega
    refine ⟨g, rfl, hb, ⟨cur[i], by simp [World.cell?, hg, hlt]⟩, by simp [World.frozen?, hg], ?_⟩
    refine ⟨by rw [List.length_set]; unfold scells; simp, Or.inr ⟨g, c, cur.setIfInBounds i (.string ⟨s.toArray⟩), by rw [List.length_set], hb, ?_, by rw [List.length_set]; exact hc, by simpa using hz, by simpa using hs, ?_⟩⟩
    · rw [Lib.heap_setCell_same hg]
    · rw [List.length_set]
      rw [Array.toList_setIfInBounds, List.take_set, ht]
      unfold scells
      rw [List.map_set]

end Go.Proofs.YtimcbmgmngkagaaDoor
