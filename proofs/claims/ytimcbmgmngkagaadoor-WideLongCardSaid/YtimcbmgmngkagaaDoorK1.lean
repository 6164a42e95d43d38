/-
  Plain arithmetic of digits: what lists of digits say as numbers; sums, differences, products, quotients place by place. It imports nothing of the program; What the walks share: slices of numbers that are read; rows of numbers that the call itself has made; The words of a number: zeros at the top cut off; sums; The iterator over a number's words, from the highest on: what it hands to each round; The iterator over a number's words, for a body that writes these words: it is handed whatever they are; Which of two numbers' words say more.
-/
import Derived.Test.YtimcbmgmngkagaaDoorProg
import Derived.WalkKit
import Derived.WalkSpells
import Derived.WalkLawsBesides
import Derived.Outline
import Derived.Deep.QuietTactic
import Derived.Deep.OwnRows
import Derived.Deep.RegionHeld3
import Derived.Deep.DeepCutAuto
import Derived.Deep.LoopGhost
import Derived.BigQuiet
import Derived.Lib.Hide
import Derived.KernelRfl
import Derived.RangeFuncNested
import Derived.RangeFuncBound
import Derived.RangeFuncCalls
import Derived.RangeFuncLeaves
import Derived.Shelf.Abstract
import Derived.Shelf.RegionOpen
import Derived.BigRegionIn
import Derived.OwnWalkIn
import Derived.TacticsInMore
import Derived.LoopNIn
import Derived.LoopIn
namespace Go.Proofs.YtimcbmgmngkagaaDoor
/-- The number that digits say, the lowest first. -/
def dv (b : Nat) : List Nat → Nat
  | [] => 0
  | x :: xs => x + b * dv b xs

/-- All are digits. -/
def Dg (b : Nat) (xs : List Nat) : Prop := ∀ x, x ∈ xs → x < b

/-- The highest is not 0. -/
def Tp (xs : List Nat) : Prop := xs.getLast? ≠ some 0

/-- Digits in their one form. -/
def Cn (b : Nat) (xs : List Nat) : Prop := Dg b xs ∧ Tp xs

theorem dv_cons (b x : Nat) (xs : List Nat) : dv b (x :: xs) = x + b * dv b xs := rfl

theorem dv_append (b : Nat) (xs ys : List Nat) : dv b (xs ++ ys) = dv b xs + b ^ xs.length * dv b ys := by
  induction xs with
  | nil => simp [dv]
  | cons x xs ih =>
    simp only [List.cons_append, dv, ih, List.length_cons, Nat.pow_succ]
    grind

theorem dv_snoc (b : Nat) (xs : List Nat) (y : Nat) : dv b (xs ++ [y]) = dv b xs + b ^ xs.length * y := by
  rw [dv_append]; simp [dv]

theorem Dg.nil (b : Nat) : Dg b [] := by intro x hx; cases hx
theorem Dg.cons {b x : Nat} {xs : List Nat} (h : x < b) (hs : Dg b xs) : Dg b (x :: xs) := by
  intro y hy; cases hy with
  | head => exact h
  | tail _ hy => exact hs y hy
theorem Dg.append {b : Nat} {xs ys : List Nat} (h : Dg b xs) (hs : Dg b ys) : Dg b (xs ++ ys) := by
  intro y hy; rcases List.mem_append.1 hy with h1 | h1
  · exact h y h1
  · exact hs y h1
theorem Dg.left {b : Nat} {xs ys : List Nat} (h : Dg b (xs ++ ys)) : Dg b xs := fun x hx => h x (List.mem_append_left _ hx)
theorem Dg.right {b : Nat} {xs ys : List Nat} (h : Dg b (xs ++ ys)) : Dg b ys := fun x hx => h x (List.mem_append_right _ hx)
theorem Dg.tail {b x : Nat} {xs : List Nat} (h : Dg b (x :: xs)) : Dg b xs := fun y hy => h y (List.mem_cons_of_mem _ hy)
theorem Dg.head {b x : Nat} {xs : List Nat} (h : Dg b (x :: xs)) : x < b := h x List.mem_cons_self
theorem Dg.take {b : Nat} {xs : List Nat} (h : Dg b xs) (n : Nat) : Dg b (xs.take n) := fun x hx => h x (List.mem_of_mem_take hx)
theorem Dg.drop {b : Nat} {xs : List Nat} (h : Dg b xs) (n : Nat) : Dg b (xs.drop n) := fun x hx => h x (List.mem_of_mem_drop hx)
theorem Dg.get {b : Nat} {xs : List Nat} (h : Dg b xs) (hb : 0 < b) (i : Nat) : xs[i]?.getD 0 < b := by
  cases hx : xs[i]? with
  | none => simpa using hb
  | some y => exact h y (List.mem_of_getElem? hx)
theorem Dg.set {b : Nat} {xs : List Nat} (h : Dg b xs) (i : Nat) {y : Nat} (hy : y < b) : Dg b (xs.set i y) := by
  intro x hx
  rcases List.mem_or_eq_of_mem_set hx with h1 | h1
  · exact h x h1
  · rw [h1]; exact hy
theorem Dg.replicate {b : Nat} (hb : 0 < b) (n : Nat) : Dg b (List.replicate n 0) := by
  intro x hx; rw [(List.mem_replicate.1 hx).2]; exact hb

theorem dv_lt {b : Nat} {xs : List Nat} (h : Dg b xs) : dv b xs < b ^ xs.length := by
  induction xs with
  | nil => simp [dv]
  | cons x xs ih =>
    have h1 := ih h.tail
    have h2 := h.head
    simp only [dv, List.length_cons, Nat.pow_succ]
    have h3 : dv b xs + 1 ≤ b ^ xs.length := h1
    have h4 := Nat.mul_le_mul_left b h3
    rw [Nat.mul_comm (b ^ xs.length) b]
    rw [Nat.mul_add] at h4
    omega

theorem dv_replicate (b n : Nat) : dv b (List.replicate n 0) = 0 := by
  induction n with
  | zero => rfl
  | succ n ih => simp [List.replicate_succ, dv, ih]

/-- Digits below a place, and those from it on. -/
theorem dv_take_drop (b : Nat) (xs : List Nat) (n : Nat) (hn : n ≤ xs.length) : dv b xs = dv b (xs.take n) + b ^ n * dv b (xs.drop n) := by
  conv => lhs; rw [← List.take_append_drop n xs]
  rw [dv_append, List.length_take, Nat.min_eq_left hn]

theorem take_snoc (xs : List Nat) (k : Nat) (h : k < xs.length) : xs.take (k + 1) = xs.take k ++ [xs[k]?.getD 0] := by
  rw [List.take_succ_eq_append_getElem h]; simp [h]

theorem dv_take_succ (b : Nat) (xs : List Nat) (k : Nat) : dv b (xs.take (k + 1)) = dv b (xs.take k) + b ^ k * xs[k]?.getD 0 := by
  by_cases h : k < xs.length
  · rw [take_snoc xs k h, dv_snoc, List.length_take, Nat.min_eq_left (Nat.le_of_lt h)]
  · have h1 : xs.length ≤ k := by omega
    rw [List.take_of_length_le h1, List.take_of_length_le (by omega)]
    simp [h1]

/-- Zeros at the top cut off. -/
def trimLen (xs : List Nat) : Nat → Nat
  | 0 => 0
  | n + 1 => if xs[n]?.getD 0 = 0 then trimLen xs n else n + 1

def trimZ (xs : List Nat) : List Nat := xs.take (trimLen xs xs.length)

theorem trimLen_le (xs : List Nat) (n : Nat) : trimLen xs n ≤ n := by
  induction n with
  | zero => exact Nat.le_refl _
  | succ n ih => unfold trimLen; split <;> omega

theorem dv_trimLen (b : Nat) (xs : List Nat) (n : Nat) : dv b (xs.take (trimLen xs n)) = dv b (xs.take n) := by
  induction n with
  | zero => rfl
  | succ n ih =>
    unfold trimLen
    split
    · rename_i h; rw [ih, dv_take_succ, h]; simp
    · rfl

theorem dv_trimZ (b : Nat) (xs : List Nat) : dv b (trimZ xs) = dv b xs := by
  unfold trimZ; rw [dv_trimLen]; simp

theorem trimLen_top (xs : List Nat) (n : Nat) (hn : n ≤ xs.length) : Tp (xs.take (trimLen xs n)) := by
  induction n with
  | zero => simp [trimLen, Tp]
  | succ n ih =>
    unfold trimLen
    split
    · exact ih (by omega)
    · rename_i h
      unfold Tp
      rw [take_snoc xs n (by omega)]
      simp only [List.getLast?_append, List.getLast?_singleton, Option.some_or]
      intro h1; exact h (Option.some.inj h1)

theorem trimZ_top (xs : List Nat) : Tp (trimZ xs) := trimLen_top xs _ (Nat.le_refl _)

theorem trimZ_cn {b : Nat} {xs : List Nat} (h : Dg b xs) : Cn b (trimZ xs) := ⟨h.take _, trimZ_top xs⟩

/-- A number whose highest digit is not 0 is long. -/
theorem Cn.lower {b : Nat} {xs : List Nat} (h : Cn b xs) (hn : xs ≠ []) : b ^ (xs.length - 1) ≤ dv b xs := by
  obtain ⟨ys, y, rfl⟩ : ∃ ys y, xs = ys ++ [y] := ⟨xs.dropLast, xs.getLast hn, (List.dropLast_concat_getLast hn).symm⟩
  have hy : y ≠ 0 := by
    intro e; apply h.2; simp [e]
  rw [dv_snoc]
  simp only [List.length_append, List.length_singleton, Nat.add_sub_cancel]
  have : b ^ ys.length * 1 ≤ b ^ ys.length * y := Nat.mul_le_mul_left _ (by omega)
  omega

theorem Cn.nil (b : Nat) : Cn b [] := ⟨Dg.nil b, by simp [Tp]⟩

theorem Cn.pos {b : Nat} (hb : 0 < b) {xs : List Nat} (h : Cn b xs) (hn : xs ≠ []) : 0 < dv b xs :=
  Nat.lt_of_lt_of_le (Nat.pow_pos hb) (h.lower hn)

theorem Cn.zero {b : Nat} (hb : 0 < b) {xs : List Nat} (h : Cn b xs) : dv b xs = 0 ↔ xs = [] := by
  constructor
  · intro h1
    by_cases hn : xs = []
    · exact hn
    · have := h.pos hb hn; omega
  · intro h1; rw [h1]; rfl

/-- The longer number is the greater one. -/
theorem Cn.lt_of_length {b : Nat} (hb : 0 < b) {xs ys : List Nat} (hx : Dg b xs) (hy : Cn b ys) (h : xs.length < ys.length) : dv b xs < dv b ys := by
  have h1 := dv_lt hx
  have h2 := hy.lower (by intro e; rw [e] at h; simp at h)
  have h3 : b ^ xs.length ≤ b ^ (ys.length - 1) := Nat.pow_le_pow_right hb (by omega)
  omega

theorem Cn.length_le {b : Nat} (hb : 1 < b) {xs : List Nat} (h : Cn b xs) {m : Nat} (hm : dv b xs < b ^ m) : xs.length ≤ m := by
  by_cases hn : xs = []
  · subst hn; simp
  · have h1 := h.lower hn
    rcases Nat.lt_or_ge m xs.length with h2 | h2
    · have := Nat.pow_le_pow_right (n := b) (by omega) (show m ≤ xs.length - 1 by omega)
      omega
    · exact h2

theorem Dg.inj {b : Nat} (hb : 0 < b) : ∀ {xs ys : List Nat}, Dg b xs → Dg b ys → xs.length = ys.length → dv b xs = dv b ys → xs = ys
  | [], [], _, _, _, _ => rfl
  | [], _ :: _, _, _, h, _ => by simp at h
  | _ :: _, [], _, _, h, _ => by simp at h
  | x :: xs, y :: ys, hx, hy, h, e => by
    simp only [dv] at e
    have h1 := hx.head
    have h2 := hy.head
    have e1 : x = y := by
      have := congrArg (· % b) e
      simpa [Nat.add_mul_mod_self_left, Nat.mod_eq_of_lt h1, Nat.mod_eq_of_lt h2] using this
    subst e1
    have e2 : dv b xs = dv b ys := Nat.eq_of_mul_eq_mul_left hb (by omega)
    rw [Dg.inj hb hx.tail hy.tail (by simpa using h) e2]

theorem Cn.inj {b : Nat} (hb : 0 < b) {xs ys : List Nat} (hx : Cn b xs) (hy : Cn b ys) (e : dv b xs = dv b ys) : xs = ys := by
  rcases Nat.lt_trichotomy xs.length ys.length with h | h | h
  · have := Cn.lt_of_length hb hx.1 hy h; omega
  · exact Dg.inj hb hx.1 hy.1 h e
  · have := Cn.lt_of_length hb hy.1 hx h; omega

/-- Two numbers of one length, alike from a place on: the digit below it decides. -/
theorem dv_lt_at {b : Nat} {xs ys : List Nat} (hx : Dg b xs) (hl : xs.length = ys.length) (k : Nat) (hk : k < xs.length)
    (he : xs.drop (k + 1) = ys.drop (k + 1)) (h : xs[k]?.getD 0 < ys[k]?.getD 0) : dv b xs < dv b ys := by
  rw [dv_take_drop b xs (k + 1) (by omega), dv_take_drop b ys (k + 1) (by omega), he, dv_take_succ, dv_take_succ]
  have h1 := dv_lt (hx.take k)
  rw [List.length_take, Nat.min_eq_left (by omega)] at h1
  have h2 : b ^ k * (xs[k]?.getD 0 + 1) ≤ b ^ k * ys[k]?.getD 0 := Nat.mul_le_mul_left _ h
  rw [Nat.mul_add] at h2
  omega


theorem dv_set (b : Nat) (xs : List Nat) (k v : Nat) (hk : k < xs.length) : dv b (xs.set k v) + b ^ k * xs[k]?.getD 0 = dv b xs + b ^ k * v := by
  induction xs generalizing k with
  | nil => simp at hk
  | cons x xs ih =>
    cases k with
    | zero => simp [dv]; omega
    | succ k =>
      have h := ih k (by simpa using hk)
      simp only [List.set_cons_succ, dv, List.getElem?_cons_succ, Nat.pow_succ]
      grind

/-- One place added: what is written, what is carried. -/
theorem add_step {b k zs xs ys c x y s : Nat} (h : zs + b ^ k * c = xs + ys) (hs : s = c + x + y) :
    zs + b ^ k * (s % b) + b ^ (k + 1) * (s / b) = (xs + b ^ k * x) + (ys + b ^ k * y) := by
  have e := Nat.mod_add_div s b
  rw [Nat.pow_succ]
  have : b ^ k * (s % b) + b ^ k * b * (s / b) = b ^ k * s := by
    rw [Nat.mul_assoc, ← Nat.mul_add, e]
  rw [hs] at this ⊢
  grind

/-- One place taken away. 'br': 1 if there was not enough. -/
theorem sub_step {b k zs xs ys c x y d br : Nat} (h : zs + ys = xs + b ^ k * c) (hd : d + y + c = x + b * br) :
    (zs + b ^ k * d) + (ys + b ^ k * y) = (xs + b ^ k * x) + b ^ (k + 1) * br := by
  rw [Nat.pow_succ]
  have h1 : b ^ k * (d + y + c) = b ^ k * (x + b * br) := by rw [hd]
  simp only [Nat.mul_add] at h1
  rw [← Nat.mul_assoc] at h1
  omega

/-- One word of a product fits. -/
theorem mul_fits {b c x w z : Nat} (hb : 0 < b) (hc : c < b) (hx : x < b) (hw : w < b) (hz : z < b) : c + (x * w + z) < b * b := by
  have h1 : x * w ≤ (b - 1) * (b - 1) := Nat.mul_le_mul (by omega) (by omega)
  obtain ⟨a, rfl⟩ : ∃ a, b = a + 1 := ⟨b - 1, by omega⟩
  simp only [Nat.add_sub_cancel] at h1
  have : (a + 1) * (a + 1) = a * a + 2 * a + 1 := by grind
  omega

/-- One word of a quotient by one word. -/
theorem div_step {b y rest w up q : Nat} (h : up = q * y + rest) :
    w + b * up = ((rest * b + w) / y + b * q) * y + (rest * b + w) % y := by
  have e := Nat.div_add_mod (rest * b + w) y
  rw [h]
  grind

theorem div_fits {b y rest w : Nat} (hy : rest < y) (hw : w < b) : (rest * b + w) / y < b := by
  rw [Nat.div_lt_iff_lt_mul (by omega)]
  have : (rest + 1) * b ≤ y * b := Nat.mul_le_mul_right b hy
  rw [Nat.add_mul] at this
  rw [Nat.mul_comm b y]
  omega

theorem trimLen_cut {xs : List Nat} {k : Nat} (h : xs[k]?.getD 0 = 0) : trimLen xs (k + 1) = trimLen xs k := by rw [trimLen]; exact if_pos h
theorem trimLen_keep {xs : List Nat} {k : Nat} (h : ¬ xs[k]?.getD 0 = 0) : trimLen xs (k + 1) = k + 1 := by rw [trimLen]; exact if_neg h

/-- Nothing is owed in the end where there was enough. -/
theorem sub_end {b n zs xs ys c : Nat} (h : zs + ys = xs + b ^ n * c) (hz : zs < b ^ n) (hc : c ≤ 1) (hle : ys ≤ xs) : zs + ys = xs := by
  have : c = 0 ∨ c = 1 := by omega
  rcases this with rfl | rfl
  · simpa using h
  · rw [Nat.mul_one] at h; omega

/-- One place of a row of a product: what was there, what is written, what is carried. -/
theorem mul_place {b : Nat} {zs : List Nat} {at_ s x w c : Nat} (hk : at_ < zs.length) (hs : s = c + (x * w + zs[at_]?.getD 0)) :
    dv b (zs.set at_ (s % b)) + b ^ (at_ + 1) * (s / b) = dv b zs + b ^ at_ * c + b ^ at_ * (x * w) := by
  have h := dv_set b zs at_ (s % b) hk
  have e := Nat.mod_add_div s b
  have e2 : b ^ at_ * (s % b) + b ^ (at_ + 1) * (s / b) = b ^ at_ * s := by
    rw [Nat.pow_succ, Nat.mul_assoc, ← Nat.mul_add, e]
  have e3 : b ^ at_ * s = b ^ at_ * c + (b ^ at_ * (x * w) + b ^ at_ * zs[at_]?.getD 0) := by rw [hs, Nat.mul_add, Nat.mul_add]
  omega

theorem set_get_other (zs : List Nat) (i j x : Nat) (h : i ≠ j) : (zs.set i x)[j]?.getD 0 = zs[j]?.getD 0 := by
  rw [List.getElem?_set_ne h]

theorem prod_bound {a b : Nat} (ha : a < 1000000000) (hb : b < 1000000000) : 0 ≤ (a : Int) * (b : Int) ∧ (a : Int) * (b : Int) ≤ 999999998000000001 := by
  have h : a * b ≤ 999999999 * 999999999 := Nat.mul_le_mul (by omega) (by omega)
  have h2 : ((a * b : Nat) : Int) = (a : Int) * (b : Int) := Int.natCast_mul a b
  omega

theorem drop_set_at' (qs : List Nat) (i v : Nat) (h : i < qs.length) : (qs.set i v).drop i = v :: qs.drop (i + 1) := by
  rw [List.drop_eq_getElem_cons (by simpa using h)]
  simp [List.drop_set]

/-- The words' base. -/
abbrev BW : Nat := 1000000000

/-- The places below k are written, those from k on are 0. -/
theorem set_filled (zs : List Nat) (m x : Nat) : (zs ++ List.replicate (m + 1) 0).set zs.length x = (zs ++ [x]) ++ List.replicate m 0 := by
  simp [List.replicate_succ]

end Go.Proofs.YtimcbmgmngkagaaDoor

namespace Go.Proofs.YtimcbmgmngkagaaDoor
open Go.RowKit

/-- A slice value reads as numbers. -/
def Rd (k : IntKind) (w : World) (p : Option Addr) (n : Nat) (xs : List Nat) : Prop :=
  xs.length = n ∧ ∀ i, i < n → ∃ b off, p = some ⟨b, off, none⟩ ∧ b < w.heap.size ∧ w.cell? ⟨b, off + i, none⟩ = some (.int k ((xs[i]?.getD 0 : Nat) : Int))

/-- Numbers as cells. -/
def cellsOf (k : IntKind) (ns : List Nat) : Array Value := (ns.map fun (n : Nat) => Value.int k (n : Int)).toArray

/-- Block B is a row of numbers. -/
def Own (k : IntKind) (e : TypeId) (w : World) (B : Nat) (ns : List Nat) : Prop := w.heap[B]? = some (.cells (cellsOf k ns) e (0, 0))

theorem cellsOf_at (k : IntKind) (ns : List Nat) (i : Nat) (h : i < ns.length) : (cellsOf k ns)[i]? = some (.int k ((ns[i]?.getD 0 : Nat) : Int)) := by
  unfold cellsOf; simp [h]

theorem cellsOf_set (k : IntKind) (ns : List Nat) (i x : Nat) : (cellsOf k ns).setIfInBounds i (.int k (x : Int)) = cellsOf k (ns.set i x) := by
  unfold cellsOf; simp [List.map_set]

theorem cellsOf_zeros (k : IntKind) (n : Nat) : Go.madeCells #[Value.int k 0] n = cellsOf k (List.replicate n 0) := by
  unfold Go.madeCells cellsOf
  apply Array.ext
  · simp
  · intro i h1 h2
    simp at h1
    simp [Nat.mod_one]

theorem Own.cell {k : IntKind} {e : TypeId} {w : World} {B : Nat} {ns : List Nat} (h : Own k e w B ns) (i : Nat) (hi : i < ns.length) :
    w.cell? ⟨B, i, none⟩ = some (.int k ((ns[i]?.getD 0 : Nat) : Int)) := by
  unfold Own at h; unfold World.cell?; simp only [h]; simpa using cellsOf_at k ns i hi

theorem Own.frozen {k : IntKind} {e : TypeId} {w : World} {B : Nat} {ns : List Nat} (h : Own k e w B ns) (i : Nat) : w.frozen? ⟨B, i, none⟩ = false := by
  unfold Own at h; unfold World.frozen?; simp [h]

theorem Own.lt {k : IntKind} {e : TypeId} {w : World} {B : Nat} {ns : List Nat} (h : Own k e w B ns) : B < w.heap.size := by
  unfold Own at h; exact (Array.getElem?_eq_some_iff.1 h).1

theorem Own.set {k : IntKind} {e : TypeId} {w : World} {B : Nat} {ns : List Nat} (h : Own k e w B ns) (i x : Nat) :
    Own k e (w.setCell ⟨B, i, none⟩ (.int k (x : Int))) B (ns.set i x) := by
  unfold Own at h ⊢
  unfold World.setCell
  simp only [Array.getElem?_modify, if_true, h, Option.map_some]
  rw [← cellsOf_set]; rfl

theorem Own.rd {k : IntKind} {e : TypeId} {w : World} {B : Nat} {ns : List Nat} (h : Own k e w B ns) {n : Nat} (hn : ns.length = n) : Rd k w (some ⟨B, 0, none⟩) n ns :=
  ⟨hn, fun i hi => ⟨B, 0, rfl, h.lt, by rw [Nat.zero_add]; exact h.cell i (by omega)⟩⟩

/-- The first place that is not written yet is written. -/
theorem Own.fill {k : IntKind} {e : TypeId} {w : World} {B N : Nat} {zs : List Nat} (h : Own k e w B (zs ++ List.replicate (N - zs.length) 0)) (hl : zs.length < N) (i : Nat) (hi : i = zs.length) (x : Nat) :
    Own k e (w.setCell ⟨B, i, none⟩ (.int k (x : Int))) B ((zs ++ [x]) ++ List.replicate (N - (i + 1)) 0) := by
  subst hi
  have h1 := h.set zs.length x
  have e1 : N - zs.length = (N - (zs.length + 1)) + 1 := by omega
  rw [e1, set_filled] at h1
  exact h1

theorem Own.new (k : IntKind) (e : TypeId) (w : World) (n : Nat) : Own k e (w.alloc (.cells (Go.madeCells #[Value.int k 0] n) e)) w.heap.size (List.replicate n 0) := by
  unfold Own World.alloc
  rw [← cellsOf_zeros]
  simp

theorem Own.below {k : IntKind} {e : TypeId} {w w' : World} {B C : Nat} {ns : List Nat} (h : Own k e w B ns) (hb : Below C w w') (hC : B < C) : Own k e w' B ns := by
  unfold Own at h ⊢; rw [hb.block B hC]; exact h

theorem Rd.below {k : IntKind} {w w' : World} {p : Option Addr} {n : Nat} {xs : List Nat} (h : Rd k w p n xs) (hb : Below w.heap.size w w') : Rd k w' p n xs := by
  refine ⟨h.1, fun i hi => ?_⟩
  obtain ⟨b, off, hp, hlt, hc⟩ := h.2 i hi
  exact ⟨b, off, hp, Nat.lt_of_lt_of_le hlt hb.size, (hb.cell (p := ⟨b, off + i, none⟩) hlt).trans hc⟩

theorem Rd.take {k : IntKind} {w : World} {p : Option Addr} {n : Nat} {xs : List Nat} (h : Rd k w p n xs) (m : Nat) (hm : m ≤ n) : Rd k w p m (xs.take m) := by
  refine ⟨by rw [List.length_take, h.1]; omega, fun i hi => ?_⟩
  obtain ⟨b, off, hp, hlt, hc⟩ := h.2 i (by omega)
  refine ⟨b, off, hp, hlt, ?_⟩
  rw [hc, List.getElem?_take_of_lt hi]

theorem Rd.nil (k : IntKind) (w : World) (p : Option Addr) : Rd k w p 0 [] := ⟨rfl, fun i hi => by omega⟩

theorem bcell {W w1 : World} (hb : Below W.heap.size W w1) : (∀ b o, b < W.heap.size → w1.cell? ⟨b, o, none⟩ = W.cell? ⟨b, o, none⟩) ∧ (∀ b o, b < W.heap.size → w1.frozen? ⟨b, o, none⟩ = W.frozen? ⟨b, o, none⟩) :=
  ⟨fun b o h => hb.cell (p := ⟨b, o, none⟩) h, fun b o h => hb.frozen (p := ⟨b, o, none⟩) h⟩

theorem ret_val {a b : Value} (h : a = b) : Ending.returned a = .returned b := by rw [h]
theorem ret_int {k : IntKind} {a b : Int} (h : a = b) : Ending.returned (.int k a) = .returned (.int k b) := by rw [h]

theorem Tryd.info73 : (Tryd.prog.info? 73).map (fun i => (i.zero, i.size, i.bytes)) = some (some (.int .u64 0), 1, 8) := by kernel_rfl
theorem Tryd.info3 : (Tryd.prog.info? 3).map (fun i => (i.zero, i.size, i.bytes)) = some (some (.int .i64 0), 1, 8) := by kernel_rfl

/-- make(words, n) -/
theorem mkWords (n : Nat) (hn : n ≤ 35184372088832) (w : World) :
    (Instr.makeSlice 45 (.int .i64 (n : Int)) (.int .i64 (n : Int))).run Tryd.prog w = .ok (.slice (some ⟨w.heap.size, 0, none⟩) n n) (w.alloc (.cells (Go.madeCells #[.int .u64 0] n) 73)) :=
  run_make_row' _ _ (.int .u64 0) 8 Tryd.underlying45 Tryd.info73 rfl .i64 .i64 n (by omega) (by omega) w

end Go.Proofs.YtimcbmgmngkagaaDoor

namespace Go.Proofs.YtimcbmgmngkagaaDoor
open Go.RowKit

set_option maxHeartbeats 400000 in
theorem trimmed_any (p : Option Addr) (n c : Nat) (xs : List Nat) (w : World) (hn : n ≤ maxLen) (hc : n ≤ c) (hr : Rd .u64 w p n xs) :
    Calls Tryd.prog 53 #[.slice p n c] w fun e w' => e = .returned (.slice p (trimLen xs n) (trimLen xs n)) ∧ w' = w := by
  unfold maxLen at hn
  go_enter Tryd.func53, Tryd.ntmps53
  go_wp2
  go_loop [3] (fun i => ∃ k : Nat, k ≤ n ∧ i = .int .i64 k ∧ Hid (trimLen xs k = trimLen xs n)) (fun i => (intOf i).toNat)
  case atStart => exact ⟨n, Nat.le_refl _, rfl, rfl⟩
  case round =>
    obtain ⟨k, hk, rfl, ht⟩ := hrel
    cases k with
    | zero =>
      have HT := ht.out
      go_wp2
      go_ret
      rw [← HT]; exact ⟨rfl, rfl⟩
    | succ k =>
      obtain ⟨b, off, rfl, hb, hcell⟩ := hr.2 k (by omega)
      go_wp2
      · go_round
        case rel =>
          have h1 : (((xs[k]?.getD 0 : Nat) : Int) == 0) = true := by assumption
          exact ⟨k, by omega, by go_num, (trimLen_cut (by simpa using h1)).symm.trans ht.out⟩
        case measure => simp [intOf]
      · have h1 : (((xs[k]?.getD 0 : Nat) : Int) == 0) = false := by assumption
        have h3 := (trimLen_keep (by simpa using h1)).symm.trans ht.out
        go_ret
        rw [← h3]; exact ⟨rfl, rfl⟩

/-- Words that are new, in their one form. -/
def Words (w : World) (P : List Nat → Prop) (e : Ending) (w' : World) : Prop :=
  ∃ p n c zs, e = .returned (.slice p n c) ∧ Rd .u64 w' p n zs ∧ n ≤ c ∧ Cn BW zs ∧ P zs ∧ Below w.heap.size w w'

set_option maxHeartbeats 400000 in
theorem addWords_ge (p q : Option Addr) (n c m d : Nat) (xs ys : List Nat) (w : World) (hn : n ≤ 1000000000) (hm : m ≤ n)
    (hx : Rd .u64 w p n xs) (hy : Rd .u64 w q m ys) (gx : Dg BW xs) (gy : Dg BW ys) :
    Calls Tryd.prog 42 #[.slice p n c, .slice q m d] w (Words w fun zs => dv BW zs = dv BW xs + dv BW ys) := by
  have hmk : ∀ w, (Instr.makeSlice 45 (.int .i64 ((n : Int) + 1)) (.int .i64 ((n : Int) + 1))).run Tryd.prog w = .ok (.slice (some ⟨w.heap.size, 0, none⟩) (n + 1) (n + 1)) (w.alloc (.cells (Go.madeCells #[.int .u64 0] (n + 1)) 73)) := fun w => mkWords (n + 1) (by omega) w
  have hbn : Below w.heap.size w (w.alloc (.cells (Go.madeCells #[.int .u64 0] (n + 1)) 73)) := (Below.refl _ w).alloc (Nat.le_refl _) _
  have hown0 := Own.new .u64 73 w (n + 1)
  have hlm : decide (n < m) = false := by simp; omega
  go_enter Tryd.func42, Tryd.ntmps42
  go_wp2
  go_loopw [6, 22] (fun c i wr => ∃ (k y : Nat) (zs : List Nat), k ≤ n ∧ y ≤ 1 ∧ c = .int .u64 y ∧ i = .int .i64 k ∧ Hid (zs.length = k ∧ Dg BW zs ∧ dv BW zs + BW ^ k * y = dv BW (xs.take k) + dv BW (ys.take k))
      ∧ Own .u64 73 wr w.heap.size (zs ++ List.replicate (n + 1 - k) 0) ∧ Below w.heap.size w wr) (fun _ i _ => n - (intOf i).toNat)
  case atStart => exact ⟨0, 0, [], Nat.zero_le _, Nat.zero_le _, rfl, rfl, ⟨rfl, Dg.nil _, by simp [dv]⟩, hown0, hbn⟩
  case round =>
    obtain ⟨k, y, zs, hk, hy1, rfl, rfl, hz, hown, hbel⟩ := hrel
    by_cases hlt : k < n
    · obtain ⟨b, off, rfl, hb, hcell⟩ := (hx.below hbel).2 k hlt
      by_cases hlm : k < m
      · obtain ⟨b', off', rfl, hb', hcell'⟩ := (hy.below hbel).2 k hlm
        have hcz := hown.cell k (by have := hz.out.1; simp; omega)
        have hfz := hown.frozen k
        have b1 : xs[k]?.getD 0 < 1000000000 := gx.get (by decide) k
        have b2 : ys[k]?.getD 0 < 1000000000 := gy.get (by decide) k
        go_wp2
        go_roundw
        case rel =>
          obtain ⟨z1, z2, z3⟩ := hz.out
          have e1 : ((y : Int) + (xs[k]?.getD 0 : Nat) + (ys[k]?.getD 0 : Nat)) / 1000000000 = (((y + xs[k]?.getD 0 + ys[k]?.getD 0) / 1000000000 : Nat) : Int) := by omega
          have e2 : ((y : Int) + (xs[k]?.getD 0 : Nat) + (ys[k]?.getD 0 : Nat)) % 1000000000 = (((y + xs[k]?.getD 0 + ys[k]?.getD 0) % 1000000000 : Nat) : Int) := by omega
          rw [e1, e2]
          have g := add_step (x := xs[k]?.getD 0) (y := ys[k]?.getD 0) z3 rfl
          refine ⟨k + 1, _, zs ++ [(y + xs[k]?.getD 0 + ys[k]?.getD 0) % 1000000000], by omega, by omega, rfl, by go_num, ⟨by simp [z1], z2.append (Dg.cons (Nat.mod_lt _ (by decide)) (Dg.nil _)), ?_⟩, ?_, ?_⟩
          · rw [dv_snoc, z1, dv_take_succ, dv_take_succ]; exact g
          · subst z1; exact hown.fill (by omega) _ rfl _
          · exact hbel.setCell (by simp) _
        case measure => simp [intOf]; omega
      · have hcz := hown.cell k (by have := hz.out.1; simp; omega)
        have hfz := hown.frozen k
        have b1 : xs[k]?.getD 0 < 1000000000 := gx.get (by decide) k
        go_wp2
        go_roundw
        case rel =>
          obtain ⟨z1, z2, z3⟩ := hz.out
          have e0 : ys[k]?.getD 0 = 0 := by rw [List.getElem?_eq_none (by have := hy.1; omega)]; rfl
          have e1 : ((y : Int) + (xs[k]?.getD 0 : Nat)) / 1000000000 = (((y + xs[k]?.getD 0) / 1000000000 : Nat) : Int) := by omega
          have e2 : ((y : Int) + (xs[k]?.getD 0 : Nat)) % 1000000000 = (((y + xs[k]?.getD 0) % 1000000000 : Nat) : Int) := by omega
          rw [e1, e2]
          have g := add_step (x := xs[k]?.getD 0) (y := ys[k]?.getD 0) z3 rfl
          rw [e0, Nat.add_zero] at g
          refine ⟨k + 1, _, zs ++ [(y + xs[k]?.getD 0) % 1000000000], by omega, by omega, rfl, by go_num, ⟨by simp [z1], z2.append (Dg.cons (Nat.mod_lt _ (by decide)) (Dg.nil _)), ?_⟩, ?_, ?_⟩
          · rw [dv_snoc, z1, dv_take_succ, dv_take_succ, e0]; exact g
          · subst z1; exact hown.fill (by omega) _ rfl _
          · exact hbel.setCell (by simp) _
        case measure => simp [intOf]; omega
    · obtain rfl : k = n := by omega
      have hz1 := hz.out.1
      have hcz := hown.cell k (by simp; omega)
      have hfz := hown.frozen k
      have hown2 : Own .u64 73 (wr.setCell ⟨w.heap.size, k, none⟩ (.int .u64 (y : Int))) w.heap.size (zs ++ [y]) := by
        have h := Own.fill (N := k + 1) (zs := zs) (by rw [hz1]; exact hown) (by omega) k hz1.symm y
        simpa using h
      go_wp2_with (go_at_call 53; refine (trimmed_any _ _ _ (zs ++ [y]) _ (by unfold maxLen; omega) (Nat.le_refl _) (hown2.rd (by simp [hz1]))).mono ?_; rintro e w' ⟨rfl, rfl⟩)
      go_ret
      obtain ⟨z1, z2, z3⟩ := hz.out
      have hl : (zs ++ [y]).length = k + 1 := by simp [z1]
      have gd : Dg BW (zs ++ [y]) := z2.append (Dg.cons (show y < 1000000000 by omega) (Dg.nil _))
      have g1 : trimLen (zs ++ [y]) (k + 1) ≤ k + 1 := trimLen_le _ _
      refine ⟨_, _, _, trimZ (zs ++ [y]), rfl, ?_, Nat.le_refl _, trimZ_cn gd, ?_, hbel.setCell (by simp) _⟩
      · unfold trimZ; rw [hl]; exact (hown2.rd hl).take _ g1
      · show dv BW (trimZ _) = _
        rw [dv_trimZ, dv_snoc, z1, z3, List.take_of_length_le (by rw [hx.1]; exact Nat.le_refl _), List.take_of_length_le (by rw [hy.1]; exact hm)]

set_option maxHeartbeats 400000 in
theorem addWords_lt (p q : Option Addr) (n c m d : Nat) (xs ys : List Nat) (w : World) (hn : n ≤ 1000000000) (hm : m < n)
    (hx : Rd .u64 w p n xs) (hy : Rd .u64 w q m ys) (gx : Dg BW xs) (gy : Dg BW ys) :
    Calls Tryd.prog 42 #[.slice q m d, .slice p n c] w (Words w fun zs => dv BW zs = dv BW xs + dv BW ys) := by
  have hmk : ∀ w, (Instr.makeSlice 45 (.int .i64 ((n : Int) + 1)) (.int .i64 ((n : Int) + 1))).run Tryd.prog w = .ok (.slice (some ⟨w.heap.size, 0, none⟩) (n + 1) (n + 1)) (w.alloc (.cells (Go.madeCells #[.int .u64 0] (n + 1)) 73)) := fun w => mkWords (n + 1) (by omega) w
  have hbn : Below w.heap.size w (w.alloc (.cells (Go.madeCells #[.int .u64 0] (n + 1)) 73)) := (Below.refl _ w).alloc (Nat.le_refl _) _
  have hown0 := Own.new .u64 73 w (n + 1)
  have hlm : decide (m < n) = true := by simp; omega
  go_enter Tryd.func42, Tryd.ntmps42
  go_wp2
  go_loopw [6, 22] (fun c i wr => ∃ (k y : Nat) (zs : List Nat), k ≤ n ∧ y ≤ 1 ∧ c = .int .u64 y ∧ i = .int .i64 k ∧ Hid (zs.length = k ∧ Dg BW zs ∧ dv BW zs + BW ^ k * y = dv BW (xs.take k) + dv BW (ys.take k))
      ∧ Own .u64 73 wr w.heap.size (zs ++ List.replicate (n + 1 - k) 0) ∧ Below w.heap.size w wr) (fun _ i _ => n - (intOf i).toNat)
  case atStart => exact ⟨0, 0, [], Nat.zero_le _, Nat.zero_le _, rfl, rfl, ⟨rfl, Dg.nil _, by simp [dv]⟩, hown0, hbn⟩
  case round =>
    obtain ⟨k, y, zs, hk, hy1, rfl, rfl, hz, hown, hbel⟩ := hrel
    by_cases hlt : k < n
    · obtain ⟨b, off, rfl, hb, hcell⟩ := (hx.below hbel).2 k hlt
      by_cases hlm : k < m
      · obtain ⟨b', off', rfl, hb', hcell'⟩ := (hy.below hbel).2 k hlm
        have hcz := hown.cell k (by have := hz.out.1; simp; omega)
        have hfz := hown.frozen k
        have b1 : xs[k]?.getD 0 < 1000000000 := gx.get (by decide) k
        have b2 : ys[k]?.getD 0 < 1000000000 := gy.get (by decide) k
        go_wp2
        go_roundw
        case rel =>
          obtain ⟨z1, z2, z3⟩ := hz.out
          have e1 : ((y : Int) + (xs[k]?.getD 0 : Nat) + (ys[k]?.getD 0 : Nat)) / 1000000000 = (((y + xs[k]?.getD 0 + ys[k]?.getD 0) / 1000000000 : Nat) : Int) := by omega
          have e2 : ((y : Int) + (xs[k]?.getD 0 : Nat) + (ys[k]?.getD 0 : Nat)) % 1000000000 = (((y + xs[k]?.getD 0 + ys[k]?.getD 0) % 1000000000 : Nat) : Int) := by omega
          rw [e1, e2]
          have g := add_step (x := xs[k]?.getD 0) (y := ys[k]?.getD 0) z3 rfl
          refine ⟨k + 1, _, zs ++ [(y + xs[k]?.getD 0 + ys[k]?.getD 0) % 1000000000], by omega, by omega, rfl, by go_num, ⟨by simp [z1], z2.append (Dg.cons (Nat.mod_lt _ (by decide)) (Dg.nil _)), ?_⟩, ?_, ?_⟩
          · rw [dv_snoc, z1, dv_take_succ, dv_take_succ]; exact g
          · subst z1; exact hown.fill (by omega) _ rfl _
          · exact hbel.setCell (by simp) _
        case measure => simp [intOf]; omega
      · have hcz := hown.cell k (by have := hz.out.1; simp; omega)
        have hfz := hown.frozen k
        have b1 : xs[k]?.getD 0 < 1000000000 := gx.get (by decide) k
        go_wp2
        go_roundw
        case rel =>
          obtain ⟨z1, z2, z3⟩ := hz.out
          have e0 : ys[k]?.getD 0 = 0 := by rw [List.getElem?_eq_none (by have := hy.1; omega)]; rfl
          have e1 : ((y : Int) + (xs[k]?.getD 0 : Nat)) / 1000000000 = (((y + xs[k]?.getD 0) / 1000000000 : Nat) : Int) := by omega
          have e2 : ((y : Int) + (xs[k]?.getD 0 : Nat)) % 1000000000 = (((y + xs[k]?.getD 0) % 1000000000 : Nat) : Int) := by omega
          rw [e1, e2]
          have g := add_step (x := xs[k]?.getD 0) (y := ys[k]?.getD 0) z3 rfl
          rw [e0, Nat.add_zero] at g
          refine ⟨k + 1, _, zs ++ [(y + xs[k]?.getD 0) % 1000000000], by omega, by omega, rfl, by go_num, ⟨by simp [z1], z2.append (Dg.cons (Nat.mod_lt _ (by decide)) (Dg.nil _)), ?_⟩, ?_, ?_⟩
          · rw [dv_snoc, z1, dv_take_succ, dv_take_succ, e0]; exact g
          · subst z1; exact hown.fill (by omega) _ rfl _
          · exact hbel.setCell (by simp) _
        case measure => simp [intOf]; omega
    · obtain rfl : k = n := by omega
      have hz1 := hz.out.1
      have hcz := hown.cell k (by simp; omega)
      have hfz := hown.frozen k
      have hown2 : Own .u64 73 (wr.setCell ⟨w.heap.size, k, none⟩ (.int .u64 (y : Int))) w.heap.size (zs ++ [y]) := by
        have h := Own.fill (N := k + 1) (zs := zs) (by rw [hz1]; exact hown) (by omega) k hz1.symm y
        simpa using h
      go_wp2_with (go_at_call 53; refine (trimmed_any _ _ _ (zs ++ [y]) _ (by unfold maxLen; omega) (Nat.le_refl _) (hown2.rd (by simp [hz1]))).mono ?_; rintro e w' ⟨rfl, rfl⟩)
      go_ret
      obtain ⟨z1, z2, z3⟩ := hz.out
      have hl : (zs ++ [y]).length = k + 1 := by simp [z1]
      have gd : Dg BW (zs ++ [y]) := z2.append (Dg.cons (show y < 1000000000 by omega) (Dg.nil _))
      have g1 : trimLen (zs ++ [y]) (k + 1) ≤ k + 1 := trimLen_le _ _
      refine ⟨_, _, _, trimZ (zs ++ [y]), rfl, ?_, Nat.le_refl _, trimZ_cn gd, ?_, hbel.setCell (by simp) _⟩
      · unfold trimZ; rw [hl]; exact (hown2.rd hl).take _ g1
      · show dv BW (trimZ _) = _
        rw [dv_trimZ, dv_snoc, z1, z3, List.take_of_length_le (by rw [hx.1]; exact Nat.le_refl _), List.take_of_length_le (by rw [hy.1]; omega)]

theorem addWords_any (p q : Option Addr) (n c m d : Nat) (xs ys : List Nat) (w : World) (hn : n ≤ 1000000000) (hm : m ≤ 1000000000)
    (hx : Rd .u64 w p n xs) (hy : Rd .u64 w q m ys) (gx : Dg BW xs) (gy : Dg BW ys) :
    Calls Tryd.prog 42 #[.slice p n c, .slice q m d] w (Words w fun zs => dv BW zs = dv BW xs + dv BW ys) := by
  by_cases h : m ≤ n
  · exact addWords_ge p q n c m d xs ys w hn h hx hy gx gy
  · have g := addWords_lt q p m d n c ys xs w hm (by omega) hy hx gy gx
    rw [Nat.add_comm (dv BW xs)]; exact g

end Go.Proofs.YtimcbmgmngkagaaDoor

namespace Go.Proofs.YtimcbmgmngkagaaDoor
open Go.RowKit

/-- -1, 0 or 1. -/
def sgnCmp (a b : Int) : Int := if a < b then -1 else if a = b then 0 else 1
theorem sgnCmp_lt {a b : Int} (h : a < b) : sgnCmp a b = -1 := by rw [sgnCmp, if_pos h]
theorem sgnCmp_gt {a b : Int} (h : b < a) : sgnCmp a b = 1 := by rw [sgnCmp, if_neg (by omega), if_neg (by omega)]
theorem sgnCmp_eq (a : Int) : sgnCmp a a = 0 := by rw [sgnCmp, if_neg (by omega), if_pos rfl]

theorem cmp_int (a b : Int) (w : World) :
    Calls Tryd.prog 48 #[.int .i64 a, .int .i64 b] w fun e w' => e = .returned (.int .i64 (sgnCmp a b)) ∧ w = w' := by
  rcases Int.lt_trichotomy a b with h | rfl | h
  · have H := Lib.hid (sgnCmp_lt h)
    go_enter Tryd.func48, Tryd.ntmps48
    go_wp2
    go_ret
    exact ⟨ret_int H.out.symm, rfl⟩
  · have H := Lib.hid (sgnCmp_eq a)
    go_enter Tryd.func48, Tryd.ntmps48
    go_wp2
    go_ret
    exact ⟨ret_int H.out.symm, rfl⟩
  · have H := Lib.hid (sgnCmp_gt h)
    go_enter Tryd.func48, Tryd.ntmps48
    go_wp2
    go_ret
    exact ⟨ret_int H.out.symm, rfl⟩

theorem cmp_uint64 (a b : Int) (w : World) :
    Calls Tryd.prog 64 #[.int .u64 a, .int .u64 b] w fun e w' => e = .returned (.int .i64 (sgnCmp a b)) ∧ w = w' := by
  rcases Int.lt_trichotomy a b with h | rfl | h
  · have H := Lib.hid (sgnCmp_lt h)
    go_enter Tryd.func64, Tryd.ntmps64
    go_wp2
    go_ret
    exact ⟨ret_int H.out.symm, rfl⟩
  · have H := Lib.hid (sgnCmp_eq a)
    go_enter Tryd.func64, Tryd.ntmps64
    go_wp2
    go_ret
    exact ⟨ret_int H.out.symm, rfl⟩
  · have H := Lib.hid (sgnCmp_gt h)
    go_enter Tryd.func64, Tryd.ntmps64
    go_wp2
    go_ret
    exact ⟨ret_int H.out.symm, rfl⟩

end Go.Proofs.YtimcbmgmngkagaaDoor

namespace Go.Proofs.YtimcbmgmngkagaaDoor
open Go.RowKit Go.Shelf
attribute [local go_sem] Oper.semAt_some

/-- What has come when k rounds are over. -/
def upto {α : Type} (f : Nat → α) (k : Nat) : List α := (List.range k).map f
theorem upto_succ {α : Type} (f : Nat → α) (k : Nat) : upto f (k + 1) = upto f k ++ [f k] := by simp [upto, List.range_succ]
theorem upto_length {α : Type} (f : Nat → α) (k : Nat) : (upto f k).length = k := by simp [upto]

/-- A place in a number of len words. -/
abbrev Pos (len : Nat) := { i : Nat // 0 < len → i < len }

/-- Round j's place. -/
def dnAt (len : Nat) (j : Nat) : Pos len := ⟨len - 1 - j, fun h => by omega⟩

/-- The blocks of S lie as they lay. -/
def KeepsAt (S : Nat → Prop) (W W' : World) : Prop := ∀ b, S b → W'.heap[b]? = W.heap[b]?
theorem KeepsAt.refl (S : Nat → Prop) (W : World) : KeepsAt S W W := fun _ _ => rfl
theorem KeepsAt.trans {S : Nat → Prop} {A B C : World} (h : KeepsAt S A B) (k : KeepsAt S B C) : KeepsAt S A C := fun b hb => (k b hb).trans (h b hb)
theorem KeepsAt.cell {S : Nat → Prop} {W W' : World} (h : KeepsAt S W W') {p : Addr} (hp : S p.block) : W'.cell? p = W.cell? p := World.cell?_of_block (w := W) (h p.block hp)
theorem KeepsAt.of_below {S : Nat → Prop} {B : Nat} {W W' : World} (h : Below B W W') (hS : ∀ b, S b → b < B) : KeepsAt S W W' := fun b hb => h.block b (hS b hb)
theorem KeepsAt.setCell {S : Nat → Prop} {W W' : World} (h : KeepsAt S W W') (a : Addr) (v : Value) (ha : ¬ S a.block) : KeepsAt S W (W'.setCell a v) :=
  h.trans fun b hb => Below.heap_setCell _ _ _ _ (fun e => ha (e ▸ hb))
theorem KeepsAt.putObj {S : Nat → Prop} {N : Nat} (hS : ∀ b, S b → b < N) (W : World) (l : Nat) (o o' : Obj) (hl : N ≤ l) (_ : W.heap[l]? = some o) (_ : o.isCells = false) (_ : o.isWalk = false) : KeepsAt S W (W.putObj l o') :=
  fun b hb => World.putObj_heap_other (by have := hS b hb; omega)

def encDn (xs : List Nat) (len : Nat) (x : Pos len) : Array Value := #[.int .i64 (x.1 : Int), .int .u64 ((xs[x.1]?.getD 0 : Nat) : Int)]

set_option maxHeartbeats 1000000 in
theorem down_in (F : Fence) (n : Nat) (h5 : F.fn 37) (hro : F.round = none) (a : Option Addr) (len cap : Nat) (w : World) :
    CallsIn F n Tryd.prog 37 #[.slice a len cap] w fun e w' => e = .returned (.func (.func 54) #[] #[.pointer (some ⟨w.heap.size, 0, none⟩)]) ∧ w' = w.alloc (.cells #[.slice a len cap] 45) := by
  refine callsIn_of_wp Tryd.func37 rfl h5 ?_ hro
  simp only [Tryd.ntmps37, List.size_toArray, List.length_cons, List.length_nil, Nat.reduceAdd, Nat.reduceSub, Array.replicate_succ, Array.replicate_zero, List.push_toArray, List.append_toArray, List.nil_append, List.cons_append]
  gi_wp2
  go_ret
  exact ⟨rfl, rfl⟩

set_option maxRecDepth 100000 in
set_option maxHeartbeats 2000000 in
/-- For every loop body that keeps what lay below n₀. -/
theorem down1_in (F : Fence) (n : Nat) (h7 : F.fn 54) (hro : F.round = none) (hn : 1 ≤ n) (l Bs len cap : Nat) (S : Nat → Prop) (p : Option Addr) (xs : List Nat) (hreach : len ≤ 1000000000) (J Jx : List (Pos len) → World → Prop)
    (hY : ∀ pre x W, J pre W → pre.length < len → YieldAt F (n - 1) Tryd.prog l (encDn xs len x) W fun e W' =>
      (e = .returned (.bool true) ∧ J (pre ++ [x]) W' ∧ KeepsAt S W W') ∨ (e = .returned (.bool false) ∧ Jx (pre ++ [x]) W'))
    (W : World) (hBs : W.cell? ⟨Bs, 0, none⟩ = some (.slice p len cap)) (hBn : S Bs) (hl : xs.length = len)
    (hc : ∀ i, i < len → ∃ b off, p = some ⟨b, off, none⟩ ∧ S b ∧ W.cell? ⟨b, off + i, none⟩ = some (.int .u64 ((xs[i]?.getD 0 : Nat) : Int))) (h0 : J [] W) :
    CallsIn F n Tryd.prog 54 #[.func (.yield l) #[] #[], .pointer (some ⟨Bs, 0, none⟩)] W fun e W' => (∃ v, e = .returned v) ∧
      ((∃ ys, ys = upto (dnAt len) len ∧ J ys W') ∨ (∃ pre, (∃ k, k ≤ len ∧ pre = upto (dnAt len) k) ∧ Jx pre W')) := by
  have HL := Lib.hid hl
  clear hl
  refine callsIn_of_wp Tryd.func54 rfl h7 ?_ hro
  simp only [Tryd.ntmps54, List.size_toArray, List.length_cons, List.length_nil, Nat.reduceAdd, Nat.reduceSub, Array.replicate_succ, Array.replicate_zero, List.push_toArray, List.append_toArray, List.nil_append, List.cons_append]
  gi_wp2
  gi_loopw [3] (fun i wr => ∃ k : Nat, k ≤ len ∧ i = .int .i64 ((len : Int) - 1 - k) ∧ J (upto (dnAt len) k) wr ∧ KeepsAt S W wr)
    (fun i _ => (intOf i + 1).toNat)
  case atStart => exact ⟨0, Nat.zero_le _, by simp, h0, KeepsAt.refl _ _⟩
  case round =>
    obtain ⟨k, hk, rfl, hJs, hnx⟩ := hrel
    have hbx : wr.cell? ⟨Bs, 0, none⟩ = some (.slice p len cap) := (hnx.cell (p := ⟨Bs, 0, none⟩) hBn).trans hBs
    by_cases hlt : k < len
    · obtain ⟨b, off, rfl, hb, hcell0⟩ := hc (len - 1 - k) (by omega)
      have hcell := (hnx.cell (p := ⟨b, off + (len - 1 - k), none⟩) hb).trans hcell0
      obtain ⟨fn, tmps, assign, body, hy, hR⟩ := hY _ (dnAt len k) wr hJs (by rw [upto_length]; exact hlt)
      unfold encDn dnAt at hy
      dsimp only at hy
      have e0 : ((len - 1 - k : Nat) : Int) = (len : Int) - 1 - k := by omega
      rw [e0] at hy
      have HE := Lib.hid e0
      clear e0
      gi_wp2
      refine hR.mono ?_
      rintro e W3 (⟨rfl, hJ3, hk3⟩ | ⟨rfl, hJx3⟩)
      · gi_wp2
        go_roundw
        case rel => exact ⟨k + 1, by omega, by simp; omega, by rw [upto_succ]; exact hJ3, hnx.trans hk3⟩
        case measure => simp [intOf]; omega
      · gi_wp2
        refine bodyPost_ret (results_none rfl _ _ _) rfl ?_
        exact ⟨⟨_, rfl⟩, .inr ⟨_, ⟨k + 1, by omega, (upto_succ _ _).symm⟩, hJx3⟩⟩
    · obtain rfl : k = len := by omega
      gi_wp2
      go_end0
      exact ⟨⟨_, rfl⟩, .inl ⟨_, rfl, hJs⟩⟩

/-- All words, from the highest on; or the first of them. -/
theorem down_stops (F : Fence) (n : Nat) (h7 : F.fn 54) (hro : F.round = none) (hn : 1 ≤ n) (Bs len cap : Nat) (S : Nat → Prop) (p : Option Addr) (xs : List Nat) (hreach : len ≤ 1000000000) (w : World) (hS : ∀ b, S b → b < w.heap.size)
    (hBs : w.cell? ⟨Bs, 0, none⟩ = some (.slice p len cap)) (hBn : S Bs) (hl : xs.length = len)
    (hc : ∀ i, i < len → ∃ b off, p = some ⟨b, off, none⟩ ∧ S b ∧ w.cell? ⟨b, off + i, none⟩ = some (.int .u64 ((xs[i]?.getD 0 : Nat) : Int))) :
    SeqStopsK F n Tryd.prog 54 #[.pointer (some ⟨Bs, 0, none⟩)] (encDn xs len) (KeepsAt S) (fun ys => ys = upto (dnAt len) len)
      (fun pre => ∃ k, k ≤ len ∧ pre = upto (dnAt len) k) len w := fun l J Jx W hW _ _ hY h0 => by
  have hW' := KeepsAt.of_below hW hS
  refine down1_in F n h7 hro hn l Bs len cap S p xs hreach J Jx hY W ((hW'.cell (p := ⟨Bs, 0, none⟩) hBn).trans hBs) hBn hl (fun i hi => ?_) h0
  obtain ⟨b, off, hp, hb, hcell⟩ := hc i hi
  exact ⟨b, off, hp, hb, (hW'.cell (p := ⟨b, off + i, none⟩) hb).trans hcell⟩

end Go.Proofs.YtimcbmgmngkagaaDoor

namespace Go.Proofs.YtimcbmgmngkagaaDoor
open Go.RowKit Go.Shelf
attribute [local go_sem] Oper.semAt_some

/-- The blocks of S lie as they lay; the row's cells are still words. -/
def KeepsRow (S : Nat → Prop) (b off len : Nat) (W W' : World) : Prop := KeepsAt S W W' ∧ ∀ i, i < len → (∃ v : Nat, W.cell? ⟨b, off + i, none⟩ = some (.int .u64 (v : Int))) → ∃ v : Nat, W'.cell? ⟨b, off + i, none⟩ = some (.int .u64 (v : Int))
theorem KeepsRow.refl (S : Nat → Prop) (b off len : Nat) (W : World) : KeepsRow S b off len W W := ⟨KeepsAt.refl _ _, fun _ _ h => h⟩
theorem KeepsRow.trans {S : Nat → Prop} {b off len : Nat} {A B C : World} (h : KeepsRow S b off len A B) (k : KeepsRow S b off len B C) : KeepsRow S b off len A C := ⟨h.1.trans k.1, fun i hi hv => k.2 i hi (h.2 i hi hv)⟩
theorem KeepsRow.putObj {S : Nat → Prop} {b off len : Nat} {N : Nat} (hS : ∀ b, S b → b < N) (W : World) (l : Nat) (o o' : Obj) (hl : N ≤ l) (ho : W.heap[l]? = some o) (hc : o.isCells = false) (hw : o.isWalk = false) : KeepsRow S b off len W (W.putObj l o') := by
  refine ⟨KeepsAt.putObj hS W l o o' hl ho hc hw, fun i _ hv => ?_⟩
  obtain ⟨v, hv⟩ := hv
  by_cases e : b = l
  · subst e
    exfalso
    simp only [World.cell?, ho] at hv
    cases o <;> simp_all [Obj.isCells]
  · exact ⟨v, by rw [World.cell?_of_block (w := W) (World.putObj_heap_other e)]; exact hv⟩

/-- A place and the word that it holds when its turn comes. -/
abbrev PosW (len : Nat) := Pos len × Nat
def encW (len : Nat) (x : PosW len) : Array Value := #[.int .i64 (x.1.1 : Int), .int .u64 (x.2 : Int)]

set_option maxRecDepth 100000 in
set_option maxHeartbeats 2000000 in
/-- All places, from the highest on; each at its turn. -/
theorem downN_in (F : Fence) (n : Nat) (h7 : F.fn 54) (hro : F.round = none) (hn : 1 ≤ n) (l Bs len cap : Nat) (S : Nat → Prop) (b off : Nat) (hreach : len ≤ 1000000000) (J : List (PosW len) → World → Prop)
    (hY : ∀ pre x W, J pre W → (pre.length < len ∧ x.1 = dnAt len pre.length) → YieldAt F (n - 1) Tryd.prog l (encW len x) W fun e W' => e = .returned (.bool true) ∧ J (pre ++ [x]) W' ∧ KeepsRow S b off len W W')
    (W : World) (hBs : W.cell? ⟨Bs, 0, none⟩ = some (.slice (some ⟨b, off, none⟩) len cap)) (hBn : S Bs)
    (hc : ∀ i, i < len → ∃ v : Nat, W.cell? ⟨b, off + i, none⟩ = some (.int .u64 (v : Int))) (h0 : J [] W) :
    CallsIn F n Tryd.prog 54 #[.func (.yield l) #[] #[], .pointer (some ⟨Bs, 0, none⟩)] W fun e W' => (∃ v, e = .returned v) ∧ ∃ ys, ys.length = len ∧ J ys W' := by
  refine callsIn_of_wp Tryd.func54 rfl h7 ?_ hro
  simp only [Tryd.ntmps54, List.size_toArray, List.length_cons, List.length_nil, Nat.reduceAdd, Nat.reduceSub, Array.replicate_succ, Array.replicate_zero, List.push_toArray, List.append_toArray, List.nil_append, List.cons_append]
  gi_wp2
  gi_loopw [3] (fun i wr => ∃ (k : Nat) (ys : List (PosW len)), k ≤ len ∧ i = .int .i64 ((len : Int) - 1 - k) ∧ Hid (ys.length = k) ∧ J ys wr ∧ KeepsRow S b off len W wr)
    (fun i _ => (intOf i + 1).toNat)
  case atStart => exact ⟨0, [], Nat.zero_le _, by simp, rfl, h0, KeepsRow.refl _ _ _ _ _⟩
  case round =>
    obtain ⟨k, ys, hk, rfl, HYS, hJs, hnx⟩ := hrel
    have hbx : wr.cell? ⟨Bs, 0, none⟩ = some (.slice (some ⟨b, off, none⟩) len cap) := (hnx.1.cell (p := ⟨Bs, 0, none⟩) hBn).trans hBs
    by_cases hlt : k < len
    · obtain ⟨v, hcell⟩ := hnx.2 (len - 1 - k) (by omega) (hc (len - 1 - k) (by omega))
      obtain ⟨fn, tmps, assign, body, hy, hR⟩ := hY ys (dnAt len k, v) wr hJs ⟨by rw [HYS.out]; exact hlt, by rw [HYS.out]⟩
      unfold encW dnAt at hy
      dsimp only at hy
      have e0 : ((len - 1 - k : Nat) : Int) = (len : Int) - 1 - k := by omega
      rw [e0] at hy
      have HE := Lib.hid e0
      clear e0
      gi_wp2
      refine hR.mono ?_
      rintro e W3 ⟨rfl, hJ3, hk3⟩
      gi_wp2
      go_roundw
      case rel => exact ⟨k + 1, _, by omega, by simp; omega, by show _ = _; rw [List.length_append, HYS.out]; rfl, hJ3, hnx.trans hk3⟩
      case measure => simp [intOf]; omega
    · obtain rfl : k = len := by omega
      gi_wp2
      go_end0
      exact ⟨⟨_, rfl⟩, _, HYS.out, hJs⟩

end Go.Proofs.YtimcbmgmngkagaaDoor

namespace Go.Proofs.YtimcbmgmngkagaaDoor
open Go.RowKit Go.Shelf
attribute [local go_sem] Oper.semAt_some

theorem mem_upto {len k j : Nat} (h : j < k) : dnAt len j ∈ upto (dnAt len) k := by
  unfold upto; exact List.mem_map.2 ⟨j, List.mem_range.2 h, rfl⟩

/-- Places above are alike. -/
theorem drop_alike {n k : Nat} {xs ys : List Nat} (hx : xs.length = n) (hy : ys.length = n) (hk : k < n) (h : ∀ j ∈ upto (dnAt n) k, xs[j.1]?.getD 0 = ys[j.1]?.getD 0) :
    xs.drop (n - 1 - k + 1) = ys.drop (n - 1 - k + 1) := by
  apply List.ext_getElem
  · simp [hx, hy]
  · intro i h1 h2
    simp at h1 h2
    have hm := h (dnAt n (n - 1 - (n - 1 - k + 1 + i))) (mem_upto (by omega))
    have e : n - 1 - (n - 1 - (n - 1 - k + 1 + i)) = n - 1 - k + 1 + i := by omega
    simp only [dnAt, e] at hm
    rw [List.getElem?_eq_getElem (by omega), List.getElem?_eq_getElem (by omega)] at hm
    simpa using hm

theorem cmp_at {n k : Nat} {xs ys : List Nat} (gx : Dg BW xs) (gy : Dg BW ys) (hx : xs.length = n) (hy : ys.length = n) (hk : k < n) (h : ∀ j ∈ upto (dnAt n) k, xs[j.1]?.getD 0 = ys[j.1]?.getD 0)
    (hne : xs[(dnAt n k).1]?.getD 0 ≠ ys[(dnAt n k).1]?.getD 0) : sgnCmp (xs[(dnAt n k).1]?.getD 0 : Nat) (ys[(dnAt n k).1]?.getD 0 : Nat) = sgnCmp (dv BW xs) (dv BW ys) := by
  have hd := drop_alike hx hy hk h
  simp only [dnAt] at hne ⊢
  rcases Nat.lt_or_gt_of_ne hne with h1 | h1
  · have := dv_lt_at gx (hx.trans hy.symm) (n - 1 - k) (by omega) hd h1
    rw [sgnCmp_lt (by omega), sgnCmp_lt (by omega)]
  · have := dv_lt_at gy (hy.trans hx.symm) (n - 1 - k) (by omega) hd.symm h1
    rw [sgnCmp_gt (by omega), sgnCmp_gt (by omega)]

theorem cmp_none {n : Nat} {xs ys : List Nat} (hx : xs.length = n) (hy : ys.length = n) (h : ∀ j ∈ upto (dnAt n) n, xs[j.1]?.getD 0 = ys[j.1]?.getD 0) : xs = ys := by
  apply List.ext_getElem
  · simp [hx, hy]
  · intro i h1 h2
    have hm := h (dnAt n (n - 1 - i)) (mem_upto (by omega))
    have e : n - 1 - (n - 1 - i) = i := by omega
    simp only [dnAt, e] at hm
    rw [List.getElem?_eq_getElem h1, List.getElem?_eq_getElem h2] at hm
    simpa using hm

theorem upto_snoc {α : Type} {f : Nat → α} {k : Nat} {pre : List α} {x : α} (h : upto f k = pre ++ [x]) : ∃ j, k = j + 1 ∧ pre = upto f j ∧ x = f j := by
  cases k with
  | zero => simp [upto] at h
  | succ j =>
    rw [upto_succ] at h
    have := List.append_inj' h rfl
    exact ⟨j, rfl, this.1.symm, by simpa using this.2.symm⟩

set_option maxRecDepth 100000 in
set_option maxHeartbeats 2000000 in
theorem compareWords_any (p q : Option Addr) (n c m d : Nat) (xs ys : List Nat) (w : World) (hn : n ≤ 1000000000) (hm : m ≤ 1000000000)
    (hx : Rd .u64 w p n xs) (hy : Rd .u64 w q m ys) (gx : Cn BW xs) (gy : Cn BW ys) :
    Calls Tryd.prog 49 #[.slice p n c, .slice q m d] w fun e w' => e = .returned (.int .i64 (sgnCmp (dv BW xs) (dv BW ys))) ∧ Below w.heap.size w w' := by
  refine (callsIn_wide (n := 6)).1 ?_
  refine callsIn_of_wp_marks Tryd.func49 rfl trivial ?_ rfl
  simp only [Tryd.ntmps49, List.size_toArray, List.length_cons, List.length_nil, Nat.reduceAdd, Nat.reduceSub, Array.replicate_succ, Array.replicate_zero, List.push_toArray, List.append_toArray, List.nil_append, List.cons_append]
  by_cases hlen : n = m
  · subst hlen
    have hB0 : Below w.heap.size w (((w.alloc (.cells #[.slice q n d] 45)).alloc (.cells #[.int .i64 0] 3)).alloc (.cells #[.slice p n c] 45)) := (((Below.refl _ w).alloc (Nat.le_refl _) _).alloc (by simp) _).alloc (by simp; omega) _
    gi_wp2_with (refine ⟨trivial, ?_⟩; gi_at_call 37; refine (down_in Fence.wide _ trivial rfl _ _ _ _).mono ?_; rintro e w' ⟨rfl, rfl⟩)
    have c0 := Boxed.new w 45 (.slice q n d)
    have c1 := Boxed.new (w.alloc (.cells #[.slice q n d] 45)) 3 (.int .i64 0)
    have c2 := Boxed.new ((w.alloc (.cells #[.slice q n d] 45)).alloc (.cells #[.int .i64 0] 3)) 45 (.slice p n c)
    simp only [World.size_alloc] at c1 c2
    refine wpIn_rangeFunc_ownF rfl (by omega) (gf := 54) (lb := #[.pointer (some ⟨w.heap.size + 1 + 1, 0, none⟩)]) rfl trivial (enters_of Tryd.func54 (by kernel_rfl) rfl)
      (down_stops Fence.wide 5 trivial rfl (by omega) (w.heap.size + 1 + 1) n c (fun b => b < w.heap.size ∨ b = w.heap.size + 1 + 1) p xs hn _ (fun b hb => by simp; omega) c2.cell (Or.inr rfl) hx.1
        (fun i hi => by obtain ⟨b, off, hp, hb, hcl⟩ := hx.2 i hi; exact ⟨b, off, hp, Or.inl hb, (hB0.cell (p := ⟨b, off + i, none⟩) hb).trans hcl⟩))
      KeepsAt.trans (KeepsAt.putObj (fun b hb => by simp; omega)) (Below.refl _ _) (fun _ => rfl)
      (fun pre W => (Hid (∀ j ∈ pre, xs[j.1]?.getD 0 = ys[j.1]?.getD 0) ∧ W.cell? ⟨w.heap.size, 0, none⟩ = some (.slice q n d) ∧ W.cell? ⟨w.heap.size + 1, 0, none⟩ = some (.int .i64 0) ∧ W.frozen? ⟨w.heap.size + 1, 0, none⟩ = false) ∧ Below w.heap.size w W)
      (fun c pre W => (c = .ret ∧ Hid (∃ pre' x, pre = pre' ++ [x] ∧ (∀ j ∈ pre', xs[j.1]?.getD 0 = ys[j.1]?.getD 0) ∧ xs[x.1]?.getD 0 ≠ ys[x.1]?.getD 0 ∧ W.cell? ⟨w.heap.size + 1, 0, none⟩ = some (.int .i64 (sgnCmp (xs[x.1]?.getD 0 : Nat) (ys[x.1]?.getD 0 : Nat))))) ∧ Below w.heap.size w W)
      (OwnFrom.and (Own.from (fun s A B row hs hg hr => ⟨hs.1, cell_kept hs.2.1 hg hr, cell_kept hs.2.2.1 hg hr, (frozen_kept hs.2.2.1 hg hr).trans hs.2.2.2⟩) _) (ownFrom_below (Nat.le_refl _) (by simp; omega)))
      (fun c => OwnFrom.and (Own.from (fun s A B row hs hg hr => ⟨hs.1, (by obtain ⟨pre', x, e1, e2, e3, e4⟩ := hs.2; exact ⟨pre', x, e1, e2, e3, cell_kept e4 hg hr⟩)⟩) _) (ownFrom_below (Nat.le_refl _) (by simp; omega)))
      ⟨⟨(fun j hj => by cases hj), ((c0.alloc _).alloc _).cell, (c1.alloc _).cell, (c1.alloc _).frozen⟩, hB0⟩
      (fun x => { tmps := #[.slice p n c, .slice q n d, undef, .pointer (some ⟨w.heap.size, 0, none⟩), .pointer (some ⟨w.heap.size + 1, 0, none⟩), .int .i64 (x.1 : Int), .int .u64 ((xs[x.1]?.getD 0 : Nat) : Int), .slice p n c,
          .int .i64 (n : Int), .slice q n d, .int .i64 (n : Int), .bool false, undef, undef, undef, undef, undef, .slice p n c,
          .func (.func 54) #[] #[.pointer (some ⟨w.heap.size + 1 + 1, 0, none⟩)], .int .i64 (x.1 : Int), .int .u64 ((xs[x.1]?.getD 0 : Nat) : Int),
          undef, undef, undef, undef, undef, undef, undef, undef, undef, undef, undef, undef], defers := [] }) ?assign ?body ?done ?stop
    case assign =>
      intro l x W K hK
      unfold encDn
      gi_wp2
      exact hK
    case body =>
      rintro l pre ⟨i, hi⟩ W ⟨⟨hp, hcy, hcr, hfr⟩, hB⟩ hlt
      have hin : i < n := hi (by omega)
      obtain ⟨b', off', rfl, hb', hcell'⟩ := (hy.below hB).2 i hin
      dsimp only
      by_cases hxy : xs[i]?.getD 0 = ys[i]?.getD 0
      · have HH := Lib.hid hxy
        rw [← hxy] at hcell'
        clear hxy
        gi_wp2
        exact ⟨KeepsOthers.refl _, KeepsAt.refl _ _, ⟨(fun j hj => (List.mem_append.1 hj).elim (hp.out j) (fun e => by simp at e; subst e; exact HH.out)), hcy, hcr, hfr⟩, hB⟩
      · have hne : (((xs[i]?.getD 0 : Nat) : Int) != ((ys[i]?.getD 0 : Nat) : Int)) = true := by simp; omega
        have HH := Lib.hid hxy
        clear hxy
        gi_wp2_with (refine ⟨trivial, ?_⟩; gi_at_call 64; refine (CallsIn.inRound l (callsIn_wide.2 (cmp_uint64 _ _ _))).mono ?_; rintro e w' ⟨rfl, rfl⟩)
        exact ⟨KeepsOthers.setCell _ _ _, ⟨rfl, ⟨pre, ⟨i, hi⟩, rfl, hp.out, HH.out, World.cell?_setCell_same' _ _ _ (by rw [hcr]; rfl)⟩⟩, hB.setCell (p := ⟨w.heap.size + 1, 0, none⟩) (by simp) _⟩
    case done =>
      rintro D zs W hD rfl ⟨⟨hp, hcy, hcr, hfr⟩, hB⟩ hK
      obtain rfl : xs = ys := cmp_none hx.1 hy.1 hp.out
      gi_wp2
      have hK' := (KeepsOthers.setCell W ⟨w.heap.size + 1, 0, none⟩ (.int .i64 0)).same D _ hK rfl
      refine ⟨by simp, .inl ⟨_, _, rfl, run_takeDeferred hK', ?_⟩⟩
      have hc5 := cell_kept (World.cell?_setCell_same' W ⟨w.heap.size + 1, 0, none⟩ (.int .i64 0) (by rw [hcr]; rfl)) (grownBy_putObj' _ D (.deferred none)) (fun r e => by cases e; exact ⟨_, hK', rfl⟩)
      refine ⟨.int .i64 0, ?_, by rw [sgnCmp_eq], (hB.setCell (p := ⟨w.heap.size + 1, 0, none⟩) (by simp) _).trans (belowK_b (w := w) (Nat.le_refl _) _ D _ _ (by simp at hD; omega) hK' rfl rfl)⟩
      simp [results, Tryd.f49, go_sem, hc5]
    case stop =>
      rintro D c pre W hD ⟨k, hk, rfl⟩ ⟨⟨rfl, hs⟩, hB⟩ hK
      obtain ⟨pre', x, e1, e2, e3, e4⟩ := hs.out
      obtain ⟨j, rfl, rfl, rfl⟩ := upto_snoc e1
      rw [cmp_at gx.1 gy.1 hx.1 hy.1 (by omega) e2 e3] at e4
      clear hs e1 e2 e3
      gi_wp2
      refine ⟨by simp, .inl ⟨_, _, rfl, run_takeDeferred hK, ?_⟩⟩
      have hc5 := cell_kept e4 (grownBy_putObj' _ D (.deferred none)) (fun r e => by cases e; exact ⟨_, hK, rfl⟩)
      refine ⟨.int .i64 (sgnCmp (dv BW xs) (dv BW ys)), ?_, rfl, hB.trans (belowK_b (w := w) (Nat.le_refl _) W D _ _ (by simp at hD; omega) hK rfl rfl)⟩
      simp [results, Tryd.f49, go_sem, hc5]
  · have hne : ((n : Int) != (m : Int)) = true := by simp; omega
    have hfin : sgnCmp (n : Int) (m : Int) = sgnCmp (dv BW xs) (dv BW ys) := by
      rcases Nat.lt_or_gt_of_ne hlen with h | h
      · have := Cn.lt_of_length (b := BW) (by decide) gx.1 gy (by rw [hx.1, hy.1]; exact h)
        rw [sgnCmp_lt (by omega), sgnCmp_lt (by omega)]
      · have := Cn.lt_of_length (b := BW) (by decide) gy.1 gx (by rw [hx.1, hy.1]; exact h)
        rw [sgnCmp_gt (by omega), sgnCmp_gt (by omega)]
    have HF := Lib.hid hfin
    clear hfin hlen
    gi_wp2_with (refine ⟨trivial, ?_⟩; gi_at_call 48; refine (callsIn_wide.2 (cmp_int _ _ _)).mono ?_; rintro e w' ⟨rfl, rfl⟩)
    refine ⟨.int .i64 (sgnCmp (n : Int) (m : Int)), ?_, by rw [HF.out], ((Below.refl _ w).alloc (Nat.le_refl _) _).alloc (by simp) _⟩
    simp [results, Tryd.f49, go_sem]
end Go.Proofs.YtimcbmgmngkagaaDoor
