/-
  What a value that is a number says; sums, products, opposites.
-/
import Derived.Test.YtapfkinpdinbgaaDoorPlus
namespace Go.Proofs.YtapfkinpdinbgaaDoor
open Go.RowKit

/-- A sign and a slice of words say the integer z; the words are at most L. -/
structure NumIs (w : World) (neg : Bool) (p : Option Addr) (n c : Nat) (xs : List Nat) (z : Int) (L : Nat) : Prop where
  rd : Rd .u64 w p n xs
  cap : n ≤ c
  len : n ≤ L
  cn : Cn BW xs
  pos : neg = true → 0 < n
  val : z = sv neg (dv BW xs)

/-- What a call hands back: a number. -/
def NumV (w : World) (z : Int) (L : Nat) (e : Ending) (w' : World) : Prop :=
  ∃ neg p n c xs, e = .returned (.agg #[.bool neg, .slice p n c]) ∧ NumIs w' neg p n c xs z L ∧ Below w.heap.size w w'

theorem NumIs.below {w w' : World} {neg : Bool} {p : Option Addr} {n c : Nat} {xs : List Nat} {z : Int} {L : Nat} (h : NumIs w neg p n c xs z L) (hb : Below w.heap.size w w') : NumIs w' neg p n c xs z L :=
  { h with rd := h.rd.below hb }

theorem NumIs.mono {w : World} {neg : Bool} {p : Option Addr} {n c : Nat} {xs : List Nat} {z : Int} {L M : Nat} (h : NumIs w neg p n c xs z L) (hM : L ≤ M) : NumIs w neg p n c xs z M :=
  { h with len := Nat.le_trans h.len hM }

theorem sv_natAbs (neg : Bool) (d : Nat) : (sv neg d).natAbs = d := by cases neg <;> simp [sv]

theorem NumIs.small {w : World} {neg : Bool} {p : Option Addr} {n c : Nat} {xs : List Nat} {z : Int} {L : Nat} (h : NumIs w neg p n c xs z L) : z.natAbs < BW ^ L := by
  rw [h.val, sv_natAbs]
  have h1 := dv_lt h.cn.1
  rw [h.rd.1] at h1
  exact Nat.lt_of_lt_of_le h1 (Nat.pow_le_pow_right (by decide) h.len)

theorem NumIs.mk' {w : World} {neg : Bool} {p : Option Addr} {n c : Nat} {xs : List Nat} {z : Int} {L : Nat} (rd : Rd .u64 w p n xs) (cap : n ≤ c) (cn : Cn BW xs) (pos : neg = true → 0 < xs.length) (val : sv neg (dv BW xs) = z) (hs : z.natAbs < BW ^ L) : NumIs w neg p n c xs z L where
  rd := rd
  cap := cap
  len := by rw [← rd.1]; exact cn.length_le (by decide) (by rw [← val, sv_natAbs] at hs; exact hs)
  cn := cn
  pos := by rw [← rd.1]; exact pos
  val := val.symm

theorem small_add {a b : Int} {L M : Nat} (ha : a.natAbs < BW ^ L) (hb : b.natAbs < BW ^ M) : (a + b).natAbs < BW ^ (max L M + 1) := by
  have h1 := Nat.pow_le_pow_right (n := BW) (by decide) (Nat.le_max_left L M)
  have h2 := Nat.pow_le_pow_right (n := BW) (by decide) (Nat.le_max_right L M)
  have h3 : BW ^ (max L M + 1) = BW ^ max L M * BW := Nat.pow_succ ..
  have h4 : BW ^ max L M * 2 ≤ BW ^ max L M * BW := Nat.mul_le_mul_left _ (by decide)
  have h5 := Int.natAbs_add_le a b
  omega

theorem small_mul {a b : Int} {L M : Nat} (ha : a.natAbs < BW ^ L) (hb : b.natAbs < BW ^ M) : (a * b).natAbs < BW ^ (L + M) := by
  rw [Int.natAbs_mul, Nat.pow_add]
  exact Nat.mul_lt_mul_of_lt_of_lt ha hb

theorem plus_num {a b : Bool} {p q : Option Addr} {n c m d : Nat} {xs ys : List Nat} {x y : Int} {L M : Nat} {w : World} (hx : NumIs w a p n c xs x L) (hy : NumIs w b q m d ys y M) (hL : L ≤ 1000000000) (hM : M ≤ 1000000000) :
    Calls Tryd.prog 70 #[.agg #[.bool a, .slice p n c], .agg #[.bool b, .slice q m d]] w (NumV w (x + y) (max L M + 1)) := by
  refine (plus_any a b p q n c m d xs ys w (Nat.le_trans hx.len hL) (Nat.le_trans hy.len hM) hx.rd hy.rd hx.cn hy.cn).mono ?_
  rintro e w' ⟨neg, r, k, cap, zs, rfl, hr, hk, hz, ⟨hp, hv⟩, hb⟩
  exact ⟨neg, r, k, cap, zs, rfl, NumIs.mk' hr hk hz hp (by rw [hv, ← hx.val, ← hy.val]) (small_add hx.small hy.small), hb⟩

theorem sv_mul (a b : Bool) (d e : Nat) : sv (a != b) (d * e) = sv a d * sv b e := by
  cases a <;> cases b <;> simp [sv, Int.neg_mul, Int.mul_neg]

theorem product_num {a b : Bool} {p q : Option Addr} {n c m d : Nat} {xs ys : List Nat} {x y : Int} {L M : Nat} {w : World} (hx : NumIs w a p n c xs x L) (hy : NumIs w b q m d ys y M) (hL : L ≤ 1000000000) (hM : M ≤ 1000000000) :
    Calls Tryd.prog 52 #[.agg #[.bool a, .slice p n c], .agg #[.bool b, .slice q m d]] w (NumV w (x * y) (L + M)) := by
  refine (product_core a b p q n c m d xs ys w (Nat.le_trans hx.len hL) (Nat.le_trans hy.len hM) hx.rd hy.rd hx.cn.1 hy.cn.1).mono ?_
  rintro e w' ⟨neg, r, k, cap, zs, rfl, hr, hk, hz, ⟨rfl, hv⟩, hb⟩
  refine ⟨_, r, k, cap, zs, rfl, NumIs.mk' hr hk hz (by simp) ?_ (small_mul hx.small hy.small), hb⟩
  rw [sv_and _ _ hz, hv, sv_mul, ← hx.val, ← hy.val]

set_option maxHeartbeats 400000 in
theorem opposite_num {a : Bool} {p : Option Addr} {n c : Nat} {xs : List Nat} {x : Int} {L : Nat} {w : World} (hx : NumIs w a p n c xs x L) :
    Calls Tryd.prog 51 #[.agg #[.bool a, .slice p n c]] w (NumV w (-x) L) := by
  have hb0 : Below w.heap.size w ((w.alloc (.cells #[.bool a, .slice p n c] 79)).alloc (.cells #[.bool false, .slice none 0 0] 79)) :=
    ((Below.refl _ w).alloc (Nat.le_refl _) _).alloc (by simp) _
  have hx1 := hx.below hb0
  have y0 : w.heap.size + 1 < ((w.alloc (.cells #[.bool a, .slice p n c] 79)).alloc (.cells #[.bool false, .slice none 0 0] 79)).heap.size := by simp
  go_enter Tryd.func51, Tryd.ntmps51
  go_wp2_with (go_at_call 74; refine (signed_any _ _ _ _ _).mono ?_; rintro e w1 ⟨rfl, hb1⟩; obtain ⟨hc1, hf1⟩ := bcell hb1)
  have q0 : w1.cell? ⟨w.heap.size + 1, 0, none⟩ = some (.bool false) := by rw [hc1 _ _ y0]; simp [go_sem]
  have q1 : w1.cell? ⟨w.heap.size + 1, 1, none⟩ = some (.slice none 0 0) := by rw [hc1 _ _ y0]; simp [go_sem]
  obtain ⟨r0, r1, _⟩ := two_set (.bool (!a && decide (0 < n))) (.slice p n c) q0 q1
  refine bodyPost_ret (v := .agg #[.bool (!a && decide (0 < n)), .slice p n c]) (by simp [results, Tryd.results51, go_sem, r0, r1]) rfl ⟨_, _, _, _, xs, rfl, NumIs.mk' ((hx1.rd.below hb1).two_set _ _ q0 q1) hx.cap hx.cn ?_ ?_ ?_, ?_⟩
  · rw [hx.rd.1]; simp
  · rw [← hx.rd.1, sv_and _ _ hx.cn, hx.val]; cases a <;> simp [sv]
  · rw [Int.natAbs_neg]; exact hx.small
  · exact ((hb0.trans (hb1.mono (by simp <;> omega))).setCell (by simp) _).setCell (by simp) _

end Go.Proofs.YtapfkinpdinbgaaDoor
