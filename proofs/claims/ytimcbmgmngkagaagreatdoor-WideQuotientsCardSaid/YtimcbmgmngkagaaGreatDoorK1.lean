/-
  Plain arithmetic of digits: what lists of digits say as numbers; sums, differences, products, quotients place by place. It imports nothing of the program; What the walks share: slices of numbers that are read; rows of numbers that the call itself has made; Strings that are numbers: their form, and what they say. Plain: nothing of the program; Whether a string is a number; The words of a number: zeros at the top cut off; sums; The iterator over a number's words, from the highest on: what it hands to each round.
-/
import Derived.Test.YtimcbmgmngkagaaGreatDoorProg
import Derived.WalkKit
import Derived.WalkSpells
import Derived.WalkLawsBesides
import Derived.Outline
import Derived.Deep.QuietTactic
import Derived.Deep.OwnRows
import Derived.Deep.RegionHeld3
import Derived.Deep.DeepCutAuto
import Derived.Deep.LoopGhost
import Derived.BigQuiet
import Derived.Lib.Hide
import Derived.KernelRfl
import Derived.Test.YtimcbmgmngkagaaGreatDoorShelf
import Derived.Lib.OthersKept
import Derived.RangeFuncNested
import Derived.RangeFuncBound
import Derived.RangeFuncCalls
import Derived.RangeFuncLeaves
import Derived.Shelf.Abstract
import Derived.Shelf.RegionOpen
import Derived.BigRegionIn
import Derived.OwnWalkIn
import Derived.TacticsInMore
import Derived.LoopNIn
import Derived.LoopIn
namespace Go.Proofs.YtimcbmgmngkagaaGreatDoor
/-- The number that digits say, the lowest first. -/
def dv (b : Nat) : List Nat → Nat
  | [] => 0
  | x :: xs => x + b * dv b xs

/-- All are digits. -/
def Dg (b : Nat) (xs : List Nat) : Prop := ∀ x, x ∈ xs → x < b

/-- The highest is not 0. -/
def Tp (xs : List Nat) : Prop := xs.getLast? ≠ some 0

/-- Digits in their one form. -/
def Cn (b : Nat) (xs : List Nat) : Prop := Dg b xs ∧ Tp xs

theorem dv_cons (b x : Nat) (xs : List Nat) : dv b (x :: xs) = x + b * dv b xs := rfl

theorem dv_append (b : Nat) (xs ys : List Nat) : dv b (xs ++ ys) = dv b xs + b ^ xs.length * dv b ys := by
  induction xs with
  | nil => simp [dv]
  | cons x xs ih =>
    simp only [List.cons_append, dv, ih, List.length_cons, Nat.pow_succ]
    grind

theorem dv_snoc (b : Nat) (xs : List Nat) (y : Nat) : dv b (xs ++ [y]) = dv b xs + b ^ xs.length * y := by
  rw [dv_append]; simp [dv]

theorem Dg.nil (b : Nat) : Dg b [] := by intro x hx; cases hx
theorem Dg.cons {b x : Nat} {xs : List Nat} (h : x < b) (hs : Dg b xs) : Dg b (x :: xs) := by
  intro y hy; cases hy with
  | head => exact h
  | tail _ hy => exact hs y hy
theorem Dg.append {b : Nat} {xs ys : List Nat} (h : Dg b xs) (hs : Dg b ys) : Dg b (xs ++ ys) := by
  intro y hy; rcases List.mem_append.1 hy with h1 | h1
  · exact h y h1
  · exact hs y h1
theorem Dg.left {b : Nat} {xs ys : List Nat} (h : Dg b (xs ++ ys)) : Dg b xs := fun x hx => h x (List.mem_append_left _ hx)
theorem Dg.right {b : Nat} {xs ys : List Nat} (h : Dg b (xs ++ ys)) : Dg b ys := fun x hx => h x (List.mem_append_right _ hx)
theorem Dg.tail {b x : Nat} {xs : List Nat} (h : Dg b (x :: xs)) : Dg b xs := fun y hy => h y (List.mem_cons_of_mem _ hy)
theorem Dg.head {b x : Nat} {xs : List Nat} (h : Dg b (x :: xs)) : x < b := h x List.mem_cons_self
theorem Dg.take {b : Nat} {xs : List Nat} (h : Dg b xs) (n : Nat) : Dg b (xs.take n) := fun x hx => h x (List.mem_of_mem_take hx)
theorem Dg.drop {b : Nat} {xs : List Nat} (h : Dg b xs) (n : Nat) : Dg b (xs.drop n) := fun x hx => h x (List.mem_of_mem_drop hx)
theorem Dg.get {b : Nat} {xs : List Nat} (h : Dg b xs) (hb : 0 < b) (i : Nat) : xs[i]?.getD 0 < b := by
  cases hx : xs[i]? with
  | none => simpa using hb
  | some y => exact h y (List.mem_of_getElem? hx)
theorem Dg.set {b : Nat} {xs : List Nat} (h : Dg b xs) (i : Nat) {y : Nat} (hy : y < b) : Dg b (xs.set i y) := by
  intro x hx
  rcases List.mem_or_eq_of_mem_set hx with h1 | h1
  · exact h x h1
  · rw [h1]; exact hy
theorem Dg.replicate {b : Nat} (hb : 0 < b) (n : Nat) : Dg b (List.replicate n 0) := by
  intro x hx; rw [(List.mem_replicate.1 hx).2]; exact hb

theorem dv_lt {b : Nat} {xs : List Nat} (h : Dg b xs) : dv b xs < b ^ xs.length := by
  induction xs with
  | nil => simp [dv]
  | cons x xs ih =>
    have h1 := ih h.tail
    have h2 := h.head
    simp only [dv, List.length_cons, Nat.pow_succ]
    have h3 : dv b xs + 1 ≤ b ^ xs.length := h1
    have h4 := Nat.mul_le_mul_left b h3
    rw [Nat.mul_comm (b ^ xs.length) b]
    rw [Nat.mul_add] at h4
    omega

theorem dv_replicate (b n : Nat) : dv b (List.replicate n 0) = 0 := by
  induction n with
  | zero => rfl
  | succ n ih => simp [List.replicate_succ, dv, ih]

/-- Digits below a place, and those from it on. -/
theorem dv_take_drop (b : Nat) (xs : List Nat) (n : Nat) (hn : n ≤ xs.length) : dv b xs = dv b (xs.take n) + b ^ n * dv b (xs.drop n) := by
  conv => lhs; rw [← List.take_append_drop n xs]
  rw [dv_append, List.length_take, Nat.min_eq_left hn]

theorem take_snoc (xs : List Nat) (k : Nat) (h : k < xs.length) : xs.take (k + 1) = xs.take k ++ [xs[k]?.getD 0] := by
  rw [List.take_succ_eq_append_getElem h]; simp [h]

theorem dv_take_succ (b : Nat) (xs : List Nat) (k : Nat) : dv b (xs.take (k + 1)) = dv b (xs.take k) + b ^ k * xs[k]?.getD 0 := by
  by_cases h : k < xs.length
  · rw [take_snoc xs k h, dv_snoc, List.length_take, Nat.min_eq_left (Nat.le_of_lt h)]
  · have h1 : xs.length ≤ k := by omega
    rw [List.take_of_length_le h1, List.take_of_length_le (by omega)]
    simp [h1]

/-- Zeros at the top cut off. -/
def trimLen (xs : List Nat) : Nat → Nat
  | 0 => 0
  | n + 1 => if xs[n]?.getD 0 = 0 then trimLen xs n else n + 1

def trimZ (xs : List Nat) : List Nat := xs.take (trimLen xs xs.length)

theorem trimLen_le (xs : List Nat) (n : Nat) : trimLen xs n ≤ n := by
  induction n with
  | zero => exact Nat.le_refl _
  | succ n ih => unfold trimLen; split <;> omega

theorem dv_trimLen (b : Nat) (xs : List Nat) (n : Nat) : dv b (xs.take (trimLen xs n)) = dv b (xs.take n) := by
  induction n with
  | zero => rfl
  | succ n ih =>
    unfold trimLen
    split
    · rename_i h; rw [ih, dv_take_succ, h]; simp
    · rfl

theorem dv_trimZ (b : Nat) (xs : List Nat) : dv b (trimZ xs) = dv b xs := by
  unfold trimZ; rw [dv_trimLen]; simp

theorem trimLen_top (xs : List Nat) (n : Nat) (hn : n ≤ xs.length) : Tp (xs.take (trimLen xs n)) := by
  induction n with
  | zero => simp [trimLen, Tp]
  | succ n ih =>
    unfold trimLen
    split
    · exact ih (by omega)
    · rename_i h
      unfold Tp
      rw [take_snoc xs n (by omega)]
      simp only [List.getLast?_append, List.getLast?_singleton, Option.some_or]
      intro h1; exact h (Option.some.inj h1)

theorem trimZ_top (xs : List Nat) : Tp (trimZ xs) := trimLen_top xs _ (Nat.le_refl _)

theorem trimZ_cn {b : Nat} {xs : List Nat} (h : Dg b xs) : Cn b (trimZ xs) := ⟨h.take _, trimZ_top xs⟩

/-- A number whose highest digit is not 0 is long. -/
theorem Cn.lower {b : Nat} {xs : List Nat} (h : Cn b xs) (hn : xs ≠ []) : b ^ (xs.length - 1) ≤ dv b xs := by
  obtain ⟨ys, y, rfl⟩ : ∃ ys y, xs = ys ++ [y] := ⟨xs.dropLast, xs.getLast hn, (List.dropLast_concat_getLast hn).symm⟩
  have hy : y ≠ 0 := by
    intro e; apply h.2; simp [e]
  rw [dv_snoc]
  simp only [List.length_append, List.length_singleton, Nat.add_sub_cancel]
  have : b ^ ys.length * 1 ≤ b ^ ys.length * y := Nat.mul_le_mul_left _ (by omega)
  omega

theorem Cn.nil (b : Nat) : Cn b [] := ⟨Dg.nil b, by simp [Tp]⟩

theorem Cn.pos {b : Nat} (hb : 0 < b) {xs : List Nat} (h : Cn b xs) (hn : xs ≠ []) : 0 < dv b xs :=
  Nat.lt_of_lt_of_le (Nat.pow_pos hb) (h.lower hn)

theorem Cn.zero {b : Nat} (hb : 0 < b) {xs : List Nat} (h : Cn b xs) : dv b xs = 0 ↔ xs = [] := by
  constructor
  · intro h1
    by_cases hn : xs = []
    · exact hn
    · have := h.pos hb hn; omega
  · intro h1; rw [h1]; rfl

/-- The longer number is the greater one. -/
theorem Cn.lt_of_length {b : Nat} (hb : 0 < b) {xs ys : List Nat} (hx : Dg b xs) (hy : Cn b ys) (h : xs.length < ys.length) : dv b xs < dv b ys := by
  have h1 := dv_lt hx
  have h2 := hy.lower (by intro e; rw [e] at h; simp at h)
  have h3 : b ^ xs.length ≤ b ^ (ys.length - 1) := Nat.pow_le_pow_right hb (by omega)
  omega

theorem Cn.length_le {b : Nat} (hb : 1 < b) {xs : List Nat} (h : Cn b xs) {m : Nat} (hm : dv b xs < b ^ m) : xs.length ≤ m := by
  by_cases hn : xs = []
  · subst hn; simp
  · have h1 := h.lower hn
    rcases Nat.lt_or_ge m xs.length with h2 | h2
    · have := Nat.pow_le_pow_right (n := b) (by omega) (show m ≤ xs.length - 1 by omega)
      omega
    · exact h2

theorem Dg.inj {b : Nat} (hb : 0 < b) : ∀ {xs ys : List Nat}, Dg b xs → Dg b ys → xs.length = ys.length → dv b xs = dv b ys → xs = ys
  | [], [], _, _, _, _ => rfl
  | [], _ :: _, _, _, h, _ => by simp at h
  | _ :: _, [], _, _, h, _ => by simp at h
  | x :: xs, y :: ys, hx, hy, h, e => by
    simp only [dv] at e
    have h1 := hx.head
    have h2 := hy.head
    have e1 : x = y := by
      have := congrArg (· % b) e
      simpa [Nat.add_mul_mod_self_left, Nat.mod_eq_of_lt h1, Nat.mod_eq_of_lt h2] using this
    subst e1
    have e2 : dv b xs = dv b ys := Nat.eq_of_mul_eq_mul_left hb (by omega)
    rw [Dg.inj hb hx.tail hy.tail (by simpa using h) e2]

theorem Cn.inj {b : Nat} (hb : 0 < b) {xs ys : List Nat} (hx : Cn b xs) (hy : Cn b ys) (e : dv b xs = dv b ys) : xs = ys := by
  rcases Nat.lt_trichotomy xs.length ys.length with h | h | h
  · have := Cn.lt_of_length hb hx.1 hy h; omega
  · exact Dg.inj hb hx.1 hy.1 h e
  · have := Cn.lt_of_length hb hy.1 hx h; omega

/-- Two numbers of one length, alike from a place on: the digit below it decides. -/
theorem dv_lt_at {b : Nat} {xs ys : List Nat} (hx : Dg b xs) (hl : xs.length = ys.length) (k : Nat) (hk : k < xs.length)
    (he : xs.drop (k + 1) = ys.drop (k + 1)) (h : xs[k]?.getD 0 < ys[k]?.getD 0) : dv b xs < dv b ys := by
  rw [dv_take_drop b xs (k + 1) (by omega), dv_take_drop b ys (k + 1) (by omega), he, dv_take_succ, dv_take_succ]
  have h1 := dv_lt (hx.take k)
  rw [List.length_take, Nat.min_eq_left (by omega)] at h1
  have h2 : b ^ k * (xs[k]?.getD 0 + 1) ≤ b ^ k * ys[k]?.getD 0 := Nat.mul_le_mul_left _ h
  rw [Nat.mul_add] at h2
  omega


theorem dv_set (b : Nat) (xs : List Nat) (k v : Nat) (hk : k < xs.length) : dv b (xs.set k v) + b ^ k * xs[k]?.getD 0 = dv b xs + b ^ k * v := by
  induction xs generalizing k with
  | nil => simp at hk
  | cons x xs ih =>
    cases k with
    | zero => simp [dv]; omega
    | succ k =>
      have h := ih k (by simpa using hk)
      simp only [List.set_cons_succ, dv, List.getElem?_cons_succ, Nat.pow_succ]
      grind

/-- One place added: what is written, what is carried. -/
theorem add_step {b k zs xs ys c x y s : Nat} (h : zs + b ^ k * c = xs + ys) (hs : s = c + x + y) :
    zs + b ^ k * (s % b) + b ^ (k + 1) * (s / b) = (xs + b ^ k * x) + (ys + b ^ k * y) := by
  have e := Nat.mod_add_div s b
  rw [Nat.pow_succ]
  have : b ^ k * (s % b) + b ^ k * b * (s / b) = b ^ k * s := by
    rw [Nat.mul_assoc, ← Nat.mul_add, e]
  rw [hs] at this ⊢
  grind

/-- One place taken away. 'br': 1 if there was not enough. -/
theorem sub_step {b k zs xs ys c x y d br : Nat} (h : zs + ys = xs + b ^ k * c) (hd : d + y + c = x + b * br) :
    (zs + b ^ k * d) + (ys + b ^ k * y) = (xs + b ^ k * x) + b ^ (k + 1) * br := by
  rw [Nat.pow_succ]
  have h1 : b ^ k * (d + y + c) = b ^ k * (x + b * br) := by rw [hd]
  simp only [Nat.mul_add] at h1
  rw [← Nat.mul_assoc] at h1
  omega

/-- One word of a product fits. -/
theorem mul_fits {b c x w z : Nat} (hb : 0 < b) (hc : c < b) (hx : x < b) (hw : w < b) (hz : z < b) : c + (x * w + z) < b * b := by
  have h1 : x * w ≤ (b - 1) * (b - 1) := Nat.mul_le_mul (by omega) (by omega)
  obtain ⟨a, rfl⟩ : ∃ a, b = a + 1 := ⟨b - 1, by omega⟩
  simp only [Nat.add_sub_cancel] at h1
  have : (a + 1) * (a + 1) = a * a + 2 * a + 1 := by grind
  omega

/-- One word of a quotient by one word. -/
theorem div_step {b y rest w up q : Nat} (h : up = q * y + rest) :
    w + b * up = ((rest * b + w) / y + b * q) * y + (rest * b + w) % y := by
  have e := Nat.div_add_mod (rest * b + w) y
  rw [h]
  grind

theorem div_fits {b y rest w : Nat} (hy : rest < y) (hw : w < b) : (rest * b + w) / y < b := by
  rw [Nat.div_lt_iff_lt_mul (by omega)]
  have : (rest + 1) * b ≤ y * b := Nat.mul_le_mul_right b hy
  rw [Nat.add_mul] at this
  rw [Nat.mul_comm b y]
  omega

theorem trimLen_cut {xs : List Nat} {k : Nat} (h : xs[k]?.getD 0 = 0) : trimLen xs (k + 1) = trimLen xs k := by rw [trimLen]; exact if_pos h
theorem trimLen_keep {xs : List Nat} {k : Nat} (h : ¬ xs[k]?.getD 0 = 0) : trimLen xs (k + 1) = k + 1 := by rw [trimLen]; exact if_neg h

/-- Nothing is owed in the end where there was enough. -/
theorem sub_end {b n zs xs ys c : Nat} (h : zs + ys = xs + b ^ n * c) (hz : zs < b ^ n) (hc : c ≤ 1) (hle : ys ≤ xs) : zs + ys = xs := by
  have : c = 0 ∨ c = 1 := by omega
  rcases this with rfl | rfl
  · simpa using h
  · rw [Nat.mul_one] at h; omega

/-- One place of a row of a product: what was there, what is written, what is carried. -/
theorem mul_place {b : Nat} {zs : List Nat} {at_ s x w c : Nat} (hk : at_ < zs.length) (hs : s = c + (x * w + zs[at_]?.getD 0)) :
    dv b (zs.set at_ (s % b)) + b ^ (at_ + 1) * (s / b) = dv b zs + b ^ at_ * c + b ^ at_ * (x * w) := by
  have h := dv_set b zs at_ (s % b) hk
  have e := Nat.mod_add_div s b
  have e2 : b ^ at_ * (s % b) + b ^ (at_ + 1) * (s / b) = b ^ at_ * s := by
    rw [Nat.pow_succ, Nat.mul_assoc, ← Nat.mul_add, e]
  have e3 : b ^ at_ * s = b ^ at_ * c + (b ^ at_ * (x * w) + b ^ at_ * zs[at_]?.getD 0) := by rw [hs, Nat.mul_add, Nat.mul_add]
  omega

theorem set_get_other (zs : List Nat) (i j x : Nat) (h : i ≠ j) : (zs.set i x)[j]?.getD 0 = zs[j]?.getD 0 := by
  rw [List.getElem?_set_ne h]

theorem prod_bound {a b : Nat} (ha : a < 1000000000) (hb : b < 1000000000) : 0 ≤ (a : Int) * (b : Int) ∧ (a : Int) * (b : Int) ≤ 999999998000000001 := by
  have h : a * b ≤ 999999999 * 999999999 := Nat.mul_le_mul (by omega) (by omega)
  have h2 : ((a * b : Nat) : Int) = (a : Int) * (b : Int) := Int.natCast_mul a b
  omega

theorem drop_set_at' (qs : List Nat) (i v : Nat) (h : i < qs.length) : (qs.set i v).drop i = v :: qs.drop (i + 1) := by
  rw [List.drop_eq_getElem_cons (by simpa using h)]
  simp [List.drop_set]

/-- The words' base. -/
abbrev BW : Nat := 1000000000

/-- The places below k are written, those from k on are 0. -/
theorem set_filled (zs : List Nat) (m x : Nat) : (zs ++ List.replicate (m + 1) 0).set zs.length x = (zs ++ [x]) ++ List.replicate m 0 := by
  simp [List.replicate_succ]

end Go.Proofs.YtimcbmgmngkagaaGreatDoor

namespace Go.Proofs.YtimcbmgmngkagaaGreatDoor
open Go.RowKit

/-- A slice value reads as numbers. -/
def Rd (k : IntKind) (w : World) (p : Option Addr) (n : Nat) (xs : List Nat) : Prop :=
  xs.length = n ∧ ∀ i, i < n → ∃ b off, p = some ⟨b, off, none⟩ ∧ b < w.heap.size ∧ w.cell? ⟨b, off + i, none⟩ = some (.int k ((xs[i]?.getD 0 : Nat) : Int))

/-- Numbers as cells. -/
def cellsOf (k : IntKind) (ns : List Nat) : Array Value := (ns.map fun (n : Nat) => Value.int k (n : Int)).toArray

/-- Block B is a row of numbers. -/
def Own (k : IntKind) (e : TypeId) (w : World) (B : Nat) (ns : List Nat) : Prop := w.heap[B]? = some (.cells (cellsOf k ns) e (0, 0))

theorem cellsOf_at (k : IntKind) (ns : List Nat) (i : Nat) (h : i < ns.length) : (cellsOf k ns)[i]? = some (.int k ((ns[i]?.getD 0 : Nat) : Int)) := by
  unfold cellsOf; simp [h]

theorem cellsOf_set (k : IntKind) (ns : List Nat) (i x : Nat) : (cellsOf k ns).setIfInBounds i (.int k (x : Int)) = cellsOf k (ns.set i x) := by
  unfold cellsOf; simp [List.map_set]

theorem cellsOf_zeros (k : IntKind) (n : Nat) : Go.madeCells #[Value.int k 0] n = cellsOf k (List.replicate n 0) := by
  unfold Go.madeCells cellsOf
  apply Array.ext
  · simp
  · intro i h1 h2
    simp at h1
    simp [Nat.mod_one]

theorem Own.cell {k : IntKind} {e : TypeId} {w : World} {B : Nat} {ns : List Nat} (h : Own k e w B ns) (i : Nat) (hi : i < ns.length) :
    w.cell? ⟨B, i, none⟩ = some (.int k ((ns[i]?.getD 0 : Nat) : Int)) := by
  unfold Own at h; unfold World.cell?; simp only [h]; simpa using cellsOf_at k ns i hi

theorem Own.frozen {k : IntKind} {e : TypeId} {w : World} {B : Nat} {ns : List Nat} (h : Own k e w B ns) (i : Nat) : w.frozen? ⟨B, i, none⟩ = false := by
  unfold Own at h; unfold World.frozen?; simp [h]

theorem Own.lt {k : IntKind} {e : TypeId} {w : World} {B : Nat} {ns : List Nat} (h : Own k e w B ns) : B < w.heap.size := by
  unfold Own at h; exact (Array.getElem?_eq_some_iff.1 h).1

theorem Own.set {k : IntKind} {e : TypeId} {w : World} {B : Nat} {ns : List Nat} (h : Own k e w B ns) (i x : Nat) :
    Own k e (w.setCell ⟨B, i, none⟩ (.int k (x : Int))) B (ns.set i x) := by
  unfold Own at h ⊢
  unfold World.setCell
  simp only [Array.getElem?_modify, if_true, h, Option.map_some]
  rw [← cellsOf_set]; rfl

theorem Own.rd {k : IntKind} {e : TypeId} {w : World} {B : Nat} {ns : List Nat} (h : Own k e w B ns) {n : Nat} (hn : ns.length = n) : Rd k w (some ⟨B, 0, none⟩) n ns :=
  ⟨hn, fun i hi => ⟨B, 0, rfl, h.lt, by rw [Nat.zero_add]; exact h.cell i (by omega)⟩⟩

/-- The first place that is not written yet is written. -/
theorem Own.fill {k : IntKind} {e : TypeId} {w : World} {B N : Nat} {zs : List Nat} (h : Own k e w B (zs ++ List.replicate (N - zs.length) 0)) (hl : zs.length < N) (i : Nat) (hi : i = zs.length) (x : Nat) :
    Own k e (w.setCell ⟨B, i, none⟩ (.int k (x : Int))) B ((zs ++ [x]) ++ List.replicate (N - (i + 1)) 0) := by
  subst hi
  have h1 := h.set zs.length x
  have e1 : N - zs.length = (N - (zs.length + 1)) + 1 := by omega
  rw [e1, set_filled] at h1
  exact h1

theorem Own.new (k : IntKind) (e : TypeId) (w : World) (n : Nat) : Own k e (w.alloc (.cells (Go.madeCells #[Value.int k 0] n) e)) w.heap.size (List.replicate n 0) := by
  unfold Own World.alloc
  rw [← cellsOf_zeros]
  simp

theorem Own.below {k : IntKind} {e : TypeId} {w w' : World} {B C : Nat} {ns : List Nat} (h : Own k e w B ns) (hb : Below C w w') (hC : B < C) : Own k e w' B ns := by
  unfold Own at h ⊢; rw [hb.block B hC]; exact h

theorem Rd.below {k : IntKind} {w w' : World} {p : Option Addr} {n : Nat} {xs : List Nat} (h : Rd k w p n xs) (hb : Below w.heap.size w w') : Rd k w' p n xs := by
  refine ⟨h.1, fun i hi => ?_⟩
  obtain ⟨b, off, hp, hlt, hc⟩ := h.2 i hi
  exact ⟨b, off, hp, Nat.lt_of_lt_of_le hlt hb.size, (hb.cell (p := ⟨b, off + i, none⟩) hlt).trans hc⟩

theorem Rd.take {k : IntKind} {w : World} {p : Option Addr} {n : Nat} {xs : List Nat} (h : Rd k w p n xs) (m : Nat) (hm : m ≤ n) : Rd k w p m (xs.take m) := by
  refine ⟨by rw [List.length_take, h.1]; omega, fun i hi => ?_⟩
  obtain ⟨b, off, hp, hlt, hc⟩ := h.2 i (by omega)
  refine ⟨b, off, hp, hlt, ?_⟩
  rw [hc, List.getElem?_take_of_lt hi]

theorem Rd.nil (k : IntKind) (w : World) (p : Option Addr) : Rd k w p 0 [] := ⟨rfl, fun i hi => by omega⟩

theorem bcell {W w1 : World} (hb : Below W.heap.size W w1) : (∀ b o, b < W.heap.size → w1.cell? ⟨b, o, none⟩ = W.cell? ⟨b, o, none⟩) ∧ (∀ b o, b < W.heap.size → w1.frozen? ⟨b, o, none⟩ = W.frozen? ⟨b, o, none⟩) :=
  ⟨fun b o h => hb.cell (p := ⟨b, o, none⟩) h, fun b o h => hb.frozen (p := ⟨b, o, none⟩) h⟩

theorem ret_val {a b : Value} (h : a = b) : Ending.returned a = .returned b := by rw [h]
theorem ret_int {k : IntKind} {a b : Int} (h : a = b) : Ending.returned (.int k a) = .returned (.int k b) := by rw [h]

theorem Tryz.info73 : (Tryz.prog.info? 117).map (fun i => (i.zero, i.size, i.bytes)) = some (some (.int .u64 0), 1, 8) := by kernel_rfl
theorem Tryz.info3 : (Tryz.prog.info? 3).map (fun i => (i.zero, i.size, i.bytes)) = some (some (.int .i64 0), 1, 8) := by kernel_rfl

/-- make(words, n) -/
theorem mkWords (n : Nat) (hn : n ≤ 35184372088832) (w : World) :
    (Instr.makeSlice 76 (.int .i64 (n : Int)) (.int .i64 (n : Int))).run Tryz.prog w = .ok (.slice (some ⟨w.heap.size, 0, none⟩) n n) (w.alloc (.cells (Go.madeCells #[.int .u64 0] n) 117)) :=
  run_make_row' _ _ (.int .u64 0) 8 Tryz.underlying76 Tryz.info73 rfl .i64 .i64 n (by omega) (by omega) w

end Go.Proofs.YtimcbmgmngkagaaGreatDoor

namespace Go.Proofs.YtimcbmgmngkagaaGreatDoor

def isDg (c : UInt8) : Bool := decide (48 ≤ c.toNat ∧ c.toNat ≤ 57)
/-- What stands behind a minus, if there is one. -/
def digitsOf : List UInt8 → List UInt8
  | [] => []
  | c :: t => if c = 45 then t else c :: t
def isNeg : List UInt8 → Bool
  | [] => false
  | c :: _ => c == 45
/-- The form of an integer (R6), whatever its length. -/
def plainB (l : List UInt8) : Bool := (!(digitsOf l).isEmpty) && (digitsOf l).all isDg && ((digitsOf l).head? != some 48 || l == [48])
/-- A number: at most 2000 digits. -/
def numB (l : List UInt8) : Bool := plainB l && decide ((digitsOf l).length ≤ 2000)
/-- What decimal digits say, the highest first. -/
def decV (l : List UInt8) : Nat := l.foldl (fun a c => a * 10 + (c.toNat - 48)) 0
/-- The integer of a string. -/
def strV (l : List UInt8) : Int := if isNeg l then -(decV (digitsOf l) : Int) else (decV (digitsOf l) : Int)

theorem decV_snoc (l : List UInt8) (c : UInt8) : decV (l ++ [c]) = decV l * 10 + (c.toNat - 48) := by
  unfold decV; rw [List.foldl_append]; rfl

end Go.Proofs.YtimcbmgmngkagaaGreatDoor

namespace Go.Proofs.YtimcbmgmngkagaaGreatDoor
open Go.RowKit

theorem trim_digits (l : List UInt8) : Lib.trimPrefix l [45] = digitsOf l := by
  cases l with
  | nil => rfl
  | cons c t =>
    unfold Lib.trimPrefix Lib.hasPrefix digitsOf
    by_cases h : c = 45
    · subst h; simp
    · simp [h, Ne.symm h]

/-- strings.TrimPrefix(s, "-") -/
theorem trimMinus (s : ByteArray) (w : World) :
    Calls Tryz.prog 123 #[.string s, .string ⟨#[45]⟩] w fun e w' => e = .returned (.string ⟨(digitsOf s.data.toList).toArray⟩) ∧ w = w' := by
  refine (Tryz.strings_TrimPrefix s ⟨#[45]⟩ w).mono ?_
  rintro e w' ⟨rfl, rfl⟩
  exact ⟨by rw [← trim_digits], rfl⟩

theorem digitsOf_le (l : List UInt8) : (digitsOf l).length ≤ l.length := by
  cases l with
  | nil => exact Nat.le_refl _
  | cons c t => rw [digitsOf.eq_2]; split <;> simp

theorem isDg_of {c : UInt8} (h : isDg c = true) : 48 ≤ c.toNat ∧ c.toNat ≤ 57 := by simpa [isDg] using h

set_option maxHeartbeats 1000000 in
theorem is_any (s : ByteArray) (w : World) (hs : s.size ≤ maxLen) :
    Calls Tryz.prog 80 #[.string s] w fun e w' => e = .returned (.bool (numB s.data.toList)) ∧ Below w.heap.size w w' := by
  unfold maxLen at hs
  have hl : (digitsOf s.data.toList).length ≤ s.size := digitsOf_le _
  obtain ⟨ds, hds⟩ : ∃ ds, digitsOf s.data.toList = ds := ⟨_, rfl⟩
  have hfin : numB s.data.toList = ((!ds.isEmpty) && ds.all isDg && (ds.head? != some 48 || s.data.toList == [48]) && decide (ds.length ≤ 2000)) := by unfold numB plainB; rw [hds]
  rw [hds] at hl
  have HD := Lib.hid hds
  have HF := Lib.hid hfin
  clear hds hfin
  by_cases hn : ds = []
  · subst hn
    go_enter Tryz.func80, Tryz.ntmps80
    go_wp2_with (go_at_call 123; refine (trimMinus _ _).mono ?_; rintro e w' ⟨rfl, rfl⟩; rw [HD.out])
    go_ret
    refine ⟨?_, Below.refl _ _⟩
    rw [HF.out]; rfl
  · have h0 : 0 < ds.length := List.length_pos_iff.2 hn
    have he : ds.isEmpty = false := by simpa using hn
    have HN := Lib.hid hn
    clear hn
    by_cases h1 : (2000 : Int) < (ds.length : Int)
    · go_enter Tryz.func80, Tryz.ntmps80
      go_wp2_with (go_at_call 123; refine (trimMinus _ _).mono ?_; rintro e w' ⟨rfl, rfl⟩; rw [HD.out])
      go_ret
      refine ⟨?_, Below.refl _ _⟩
      rw [HF.out]
      simp; omega
    · have h2 : (ds.length : Int) ≤ 2000 := by omega
      clear h1
      have hpos : 0 < (⟨ds.toArray⟩ : ByteArray).size := by show 0 < ds.toArray.size; simpa using h0
      have hcz : ∀ b, ((((⟨ds.toArray⟩ : ByteArray)[0]'hpos).toNat : Int) == 48) = b → (ds.head? == some 48) = b := by
        intro b hb
        obtain ⟨c, t, rfl⟩ : ∃ c t, ds = c :: t := ⟨_, _, (List.cons_head_tail HN.out).symm⟩
        have hb' : ((c.toNat : Int) == 48) = b := hb
        rw [← hb', Bool.eq_iff_iff]
        simp only [List.head?_cons, beq_iff_eq, Option.some.injEq]
        constructor
        · intro h; subst h; rfl
        · intro h; exact UInt8.toNat_inj.1 (show c.toNat = 48 by omega)
      by_cases hz : ((((⟨ds.toArray⟩ : ByteArray)[0]'hpos).toNat : Int) == 48) = true ∧ (!s.toList == [48]) = true
      · obtain ⟨hz, ha⟩ := hz
        have hhd : (ds.head? != some 48 || s.data.toList == [48]) = false := by
          rw [Lib.toList_data] at ha
          have := hcz true hz
          simp at ha this
          simp [this, ha]
        have HH := Lib.hid hhd
        clear hhd hcz
        go_enter Tryz.func80, Tryz.ntmps80
        go_wp2_with (go_at_call 123; refine (trimMinus _ _).mono ?_; rintro e w' ⟨rfl, rfl⟩; rw [HD.out])
        go_ret
        refine ⟨?_, Below.refl _ _⟩
        rw [HF.out, HH.out]; simp
      · have hhd : (ds.head? != some 48 || s.data.toList == [48]) = true := by
          rw [Lib.toList_data] at hz
          cases hq : ((((⟨ds.toArray⟩ : ByteArray)[0]'hpos).toNat : Int) == 48) with
          | false => have := hcz false hq; simp at this; simp [this]
          | true => rw [hq] at hz; simp at hz; simp [hz]
        have hab : ((((⟨ds.toArray⟩ : ByteArray)[0]'hpos).toNat : Int) == 48) = false ∨ ((((⟨ds.toArray⟩ : ByteArray)[0]'hpos).toNat : Int) == 48) = true ∧ (!s.toList == [48]) = false := by
          cases hq : ((((⟨ds.toArray⟩ : ByteArray)[0]'hpos).toNat : Int) == 48) with
          | false => exact Or.inl rfl
          | true => rw [hq] at hz; simp at hz; exact Or.inr ⟨rfl, by simp [hz]⟩
        have HH := Lib.hid hhd
        clear hhd hcz hz
        rcases hab with hz | ⟨hz, ha⟩
        all_goals
          go_enter Tryz.func80, Tryz.ntmps80
          go_wp2_with (go_at_call 123; refine (trimMinus _ _).mono ?_; rintro e w' ⟨rfl, rfl⟩; rw [HD.out])
          go_loopw [5] (fun _ wr => ∃ k : Nat, k ≤ ds.length ∧ wr = w.iter ⟨ds.toArray⟩ k ∧ Hid ((ds.take k).all isDg = true)) (fun _ wr => ds.length - wr.iterPos w.heap.size)
          case atStart => exact ⟨0, Nat.zero_le _, rfl, rfl⟩
          case round =>
            obtain ⟨k, hk, rfl, hp⟩ := hrel
            by_cases hlt : k < ds.length
            · have hsz : k < (⟨ds.toArray⟩ : ByteArray).size := by show k < ds.toArray.size; simpa using hlt
              have hb : (⟨ds.toArray⟩ : ByteArray)[k]'hsz = ds[k] := rfl
              have htk : ds.take (k + 1) = ds.take k ++ [ds[k]] := List.take_succ_eq_append_getElem hlt
              by_cases hd : isDg ds[k] = true
              · obtain ⟨d1, d2⟩ := isDg_of hd
                have hnext := fun ty => run_next_ascii (P := Tryz.prog) w ⟨ds.toArray⟩ k ty hsz (by rw [hb]; omega)
                rw [hb] at hnext
                obtain ⟨c, hc⟩ : ∃ c : Nat, ds[k].toNat = c := ⟨_, rfl⟩
                have HP : Hid ((ds.take (k + 1)).all isDg = true) := by
                  show (ds.take (k + 1)).all isDg = true
                  rw [htk, List.all_append, hp.out]; simp [hd]
                rw [hc] at d1 d2 hnext
                clear hc htk hd hb
                go_wp2
                go_roundw
                case rel =>
                  exact ⟨k + 1, by omega, rfl, HP⟩
                case measure => simp; omega
              · have hfalse : numB s.data.toList = false := by
                  rw [HF.out]
                  have : ds.all isDg = false := by
                    rw [← Bool.not_eq_true]; intro h
                    exact hd (List.all_eq_true.1 h _ (List.getElem_mem hlt))
                  rw [this]; simp
                have HFF := Lib.hid hfalse
                have hlo : ds[k].toNat < 48 ∨ 57 < ds[k].toNat := by
                  have : ¬ (48 ≤ ds[k].toNat ∧ ds[k].toNat ≤ 57) := by simpa [isDg] using hd
                  omega
                by_cases ha : ds[k].toNat < 128
                · have hnext := fun ty => run_next_ascii (P := Tryz.prog) w ⟨ds.toArray⟩ k ty hsz (by rw [hb]; exact ha)
                  rw [hb] at hnext
                  obtain ⟨c, hc⟩ : ∃ c : Nat, ds[k].toNat = c := ⟨_, rfl⟩
                  rw [hc] at hlo hnext
                  clear hc htk hd hb ha hfalse
                  rcases hlo with hlo | hlo
                  all_goals
                    go_wp2
                    go_ret
                    exact ⟨ret_val (congrArg Value.bool HFF.out.symm), (Below.refl w.heap.size w).alloc (Nat.le_refl _) _⟩
                · obtain ⟨e1, e2⟩ := decode_high ⟨ds.toArray⟩ k hsz (by rw [hb]; omega)
                  have e3 := decode_le ⟨ds.toArray⟩ k
                  have hnext := fun ty => run_next_any (P := Tryz.prog) w ⟨ds.toArray⟩ k ty hsz
                  obtain ⟨r, hr⟩ : ∃ r, Utf8.decode ⟨ds.toArray⟩ k = r := ⟨_, rfl⟩
                  rw [hr] at e1 e2 e3 hnext
                  obtain ⟨r1, r2⟩ := r
                  dsimp only at e1 e2 e3 hnext
                  clear hr htk hd hb ha hfalse hlo
                  go_wp2
                  go_ret
                  exact ⟨ret_val (congrArg Value.bool HFF.out.symm), (Below.refl w.heap.size w).alloc (Nat.le_refl _) _⟩
            · obtain rfl : k = ds.length := by omega
              have hsz : ¬ ds.length < (⟨ds.toArray⟩ : ByteArray).size := by show ¬ ds.length < ds.toArray.size; simp
              have hnext := fun ty => run_next_end (P := Tryz.prog) w ⟨ds.toArray⟩ ds.length ty hsz
              go_wp2
              go_ret
              refine ⟨?_, (Below.refl w.heap.size w).alloc (Nat.le_refl _) _⟩
              have hp' := hp.out
              rw [List.take_of_length_le (Nat.le_refl _)] at hp'
              rw [HF.out, HH.out, hp', he]
              simp; omega
end Go.Proofs.YtimcbmgmngkagaaGreatDoor

namespace Go.Proofs.YtimcbmgmngkagaaGreatDoor
open Go.RowKit

set_option maxHeartbeats 400000 in
theorem trimmed_any (p : Option Addr) (n c : Nat) (xs : List Nat) (w : World) (hn : n ≤ maxLen) (hc : n ≤ c) (hr : Rd .u64 w p n xs) :
    Calls Tryz.prog 147 #[.slice p n c] w fun e w' => e = .returned (.slice p (trimLen xs n) (trimLen xs n)) ∧ w' = w := by
  unfold maxLen at hn
  go_enter Tryz.func147, Tryz.ntmps147
  go_wp2
  go_loop [3] (fun i => ∃ k : Nat, k ≤ n ∧ i = .int .i64 k ∧ Hid (trimLen xs k = trimLen xs n)) (fun i => (intOf i).toNat)
  case atStart => exact ⟨n, Nat.le_refl _, rfl, rfl⟩
  case round =>
    obtain ⟨k, hk, rfl, ht⟩ := hrel
    cases k with
    | zero =>
      have HT := ht.out
      go_wp2
      go_ret
      rw [← HT]; exact ⟨rfl, rfl⟩
    | succ k =>
      obtain ⟨b, off, rfl, hb, hcell⟩ := hr.2 k (by omega)
      go_wp2
      · go_round
        case rel =>
          have h1 : (((xs[k]?.getD 0 : Nat) : Int) == 0) = true := by assumption
          exact ⟨k, by omega, by go_num, (trimLen_cut (by simpa using h1)).symm.trans ht.out⟩
        case measure => simp [intOf]
      · have h1 : (((xs[k]?.getD 0 : Nat) : Int) == 0) = false := by assumption
        have h3 := (trimLen_keep (by simpa using h1)).symm.trans ht.out
        go_ret
        rw [← h3]; exact ⟨rfl, rfl⟩

/-- Words that are new, in their one form. -/
def Words (w : World) (P : List Nat → Prop) (e : Ending) (w' : World) : Prop :=
  ∃ p n c zs, e = .returned (.slice p n c) ∧ Rd .u64 w' p n zs ∧ n ≤ c ∧ Cn BW zs ∧ P zs ∧ Below w.heap.size w w'

set_option maxHeartbeats 400000 in
theorem addWords_ge (p q : Option Addr) (n c m d : Nat) (xs ys : List Nat) (w : World) (hn : n ≤ 1000000000) (hm : m ≤ n)
    (hx : Rd .u64 w p n xs) (hy : Rd .u64 w q m ys) (gx : Dg BW xs) (gy : Dg BW ys) :
    Calls Tryz.prog 108 #[.slice p n c, .slice q m d] w (Words w fun zs => dv BW zs = dv BW xs + dv BW ys) := by
  have hmk : ∀ w, (Instr.makeSlice 76 (.int .i64 ((n : Int) + 1)) (.int .i64 ((n : Int) + 1))).run Tryz.prog w = .ok (.slice (some ⟨w.heap.size, 0, none⟩) (n + 1) (n + 1)) (w.alloc (.cells (Go.madeCells #[.int .u64 0] (n + 1)) 117)) := fun w => mkWords (n + 1) (by omega) w
  have hbn : Below w.heap.size w (w.alloc (.cells (Go.madeCells #[.int .u64 0] (n + 1)) 117)) := (Below.refl _ w).alloc (Nat.le_refl _) _
  have hown0 := Own.new .u64 117 w (n + 1)
  have hlm : decide (n < m) = false := by simp; omega
  go_enter Tryz.func108, Tryz.ntmps108
  go_wp2
  go_loopw [6, 22] (fun c i wr => ∃ (k y : Nat) (zs : List Nat), k ≤ n ∧ y ≤ 1 ∧ c = .int .u64 y ∧ i = .int .i64 k ∧ Hid (zs.length = k ∧ Dg BW zs ∧ dv BW zs + BW ^ k * y = dv BW (xs.take k) + dv BW (ys.take k))
      ∧ Own .u64 117 wr w.heap.size (zs ++ List.replicate (n + 1 - k) 0) ∧ Below w.heap.size w wr) (fun _ i _ => n - (intOf i).toNat)
  case atStart => exact ⟨0, 0, [], Nat.zero_le _, Nat.zero_le _, rfl, rfl, ⟨rfl, Dg.nil _, by simp [dv]⟩, hown0, hbn⟩
  case round =>
    obtain ⟨k, y, zs, hk, hy1, rfl, rfl, hz, hown, hbel⟩ := hrel
    by_cases hlt : k < n
    · obtain ⟨b, off, rfl, hb, hcell⟩ := (hx.below hbel).2 k hlt
      by_cases hlm : k < m
      · obtain ⟨b', off', rfl, hb', hcell'⟩ := (hy.below hbel).2 k hlm
        have hcz := hown.cell k (by have := hz.out.1; simp; omega)
        have hfz := hown.frozen k
        have b1 : xs[k]?.getD 0 < 1000000000 := gx.get (by decide) k
        have b2 : ys[k]?.getD 0 < 1000000000 := gy.get (by decide) k
        go_wp2
        go_roundw
        case rel =>
          obtain ⟨z1, z2, z3⟩ := hz.out
          have e1 : ((y : Int) + (xs[k]?.getD 0 : Nat) + (ys[k]?.getD 0 : Nat)) / 1000000000 = (((y + xs[k]?.getD 0 + ys[k]?.getD 0) / 1000000000 : Nat) : Int) := by omega
          have e2 : ((y : Int) + (xs[k]?.getD 0 : Nat) + (ys[k]?.getD 0 : Nat)) % 1000000000 = (((y + xs[k]?.getD 0 + ys[k]?.getD 0) % 1000000000 : Nat) : Int) := by omega
          rw [e1, e2]
          have g := add_step (x := xs[k]?.getD 0) (y := ys[k]?.getD 0) z3 rfl
          refine ⟨k + 1, _, zs ++ [(y + xs[k]?.getD 0 + ys[k]?.getD 0) % 1000000000], by omega, by omega, rfl, by go_num, ⟨by simp [z1], z2.append (Dg.cons (Nat.mod_lt _ (by decide)) (Dg.nil _)), ?_⟩, ?_, ?_⟩
          · rw [dv_snoc, z1, dv_take_succ, dv_take_succ]; exact g
          · subst z1; exact hown.fill (by omega) _ rfl _
          · exact hbel.setCell (by simp) _
        case measure => simp [intOf]; omega
      · have hcz := hown.cell k (by have := hz.out.1; simp; omega)
        have hfz := hown.frozen k
        have b1 : xs[k]?.getD 0 < 1000000000 := gx.get (by decide) k
        go_wp2
        go_roundw
        case rel =>
          obtain ⟨z1, z2, z3⟩ := hz.out
          have e0 : ys[k]?.getD 0 = 0 := by rw [List.getElem?_eq_none (by have := hy.1; omega)]; rfl
          have e1 : ((y : Int) + (xs[k]?.getD 0 : Nat)) / 1000000000 = (((y + xs[k]?.getD 0) / 1000000000 : Nat) : Int) := by omega
          have e2 : ((y : Int) + (xs[k]?.getD 0 : Nat)) % 1000000000 = (((y + xs[k]?.getD 0) % 1000000000 : Nat) : Int) := by omega
          rw [e1, e2]
          have g := add_step (x := xs[k]?.getD 0) (y := ys[k]?.getD 0) z3 rfl
          rw [e0, Nat.add_zero] at g
          refine ⟨k + 1, _, zs ++ [(y + xs[k]?.getD 0) % 1000000000], by omega, by omega, rfl, by go_num, ⟨by simp [z1], z2.append (Dg.cons (Nat.mod_lt _ (by decide)) (Dg.nil _)), ?_⟩, ?_, ?_⟩
          · rw [dv_snoc, z1, dv_take_succ, dv_take_succ, e0]; exact g
          · subst z1; exact hown.fill (by omega) _ rfl _
          · exact hbel.setCell (by simp) _
        case measure => simp [intOf]; omega
    · obtain rfl : k = n := by omega
      have hz1 := hz.out.1
      have hcz := hown.cell k (by simp; omega)
      have hfz := hown.frozen k
      have hown2 : Own .u64 117 (wr.setCell ⟨w.heap.size, k, none⟩ (.int .u64 (y : Int))) w.heap.size (zs ++ [y]) := by
        have h := Own.fill (N := k + 1) (zs := zs) (by rw [hz1]; exact hown) (by omega) k hz1.symm y
        simpa using h
      go_wp2_with (go_at_call 147; refine (trimmed_any _ _ _ (zs ++ [y]) _ (by unfold maxLen; omega) (Nat.le_refl _) (hown2.rd (by simp [hz1]))).mono ?_; rintro e w' ⟨rfl, rfl⟩)
      go_ret
      obtain ⟨z1, z2, z3⟩ := hz.out
      have hl : (zs ++ [y]).length = k + 1 := by simp [z1]
      have gd : Dg BW (zs ++ [y]) := z2.append (Dg.cons (show y < 1000000000 by omega) (Dg.nil _))
      have g1 : trimLen (zs ++ [y]) (k + 1) ≤ k + 1 := trimLen_le _ _
      refine ⟨_, _, _, trimZ (zs ++ [y]), rfl, ?_, Nat.le_refl _, trimZ_cn gd, ?_, hbel.setCell (by simp) _⟩
      · unfold trimZ; rw [hl]; exact (hown2.rd hl).take _ g1
      · show dv BW (trimZ _) = _
        rw [dv_trimZ, dv_snoc, z1, z3, List.take_of_length_le (by rw [hx.1]; exact Nat.le_refl _), List.take_of_length_le (by rw [hy.1]; exact hm)]

set_option maxHeartbeats 400000 in
theorem addWords_lt (p q : Option Addr) (n c m d : Nat) (xs ys : List Nat) (w : World) (hn : n ≤ 1000000000) (hm : m < n)
    (hx : Rd .u64 w p n xs) (hy : Rd .u64 w q m ys) (gx : Dg BW xs) (gy : Dg BW ys) :
    Calls Tryz.prog 108 #[.slice q m d, .slice p n c] w (Words w fun zs => dv BW zs = dv BW xs + dv BW ys) := by
  have hmk : ∀ w, (Instr.makeSlice 76 (.int .i64 ((n : Int) + 1)) (.int .i64 ((n : Int) + 1))).run Tryz.prog w = .ok (.slice (some ⟨w.heap.size, 0, none⟩) (n + 1) (n + 1)) (w.alloc (.cells (Go.madeCells #[.int .u64 0] (n + 1)) 117)) := fun w => mkWords (n + 1) (by omega) w
  have hbn : Below w.heap.size w (w.alloc (.cells (Go.madeCells #[.int .u64 0] (n + 1)) 117)) := (Below.refl _ w).alloc (Nat.le_refl _) _
  have hown0 := Own.new .u64 117 w (n + 1)
  have hlm : decide (m < n) = true := by simp; omega
  go_enter Tryz.func108, Tryz.ntmps108
  go_wp2
  go_loopw [6, 22] (fun c i wr => ∃ (k y : Nat) (zs : List Nat), k ≤ n ∧ y ≤ 1 ∧ c = .int .u64 y ∧ i = .int .i64 k ∧ Hid (zs.length = k ∧ Dg BW zs ∧ dv BW zs + BW ^ k * y = dv BW (xs.take k) + dv BW (ys.take k))
      ∧ Own .u64 117 wr w.heap.size (zs ++ List.replicate (n + 1 - k) 0) ∧ Below w.heap.size w wr) (fun _ i _ => n - (intOf i).toNat)
  case atStart => exact ⟨0, 0, [], Nat.zero_le _, Nat.zero_le _, rfl, rfl, ⟨rfl, Dg.nil _, by simp [dv]⟩, hown0, hbn⟩
  case round =>
    obtain ⟨k, y, zs, hk, hy1, rfl, rfl, hz, hown, hbel⟩ := hrel
    by_cases hlt : k < n
    · obtain ⟨b, off, rfl, hb, hcell⟩ := (hx.below hbel).2 k hlt
      by_cases hlm : k < m
      · obtain ⟨b', off', rfl, hb', hcell'⟩ := (hy.below hbel).2 k hlm
        have hcz := hown.cell k (by have := hz.out.1; simp; omega)
        have hfz := hown.frozen k
        have b1 : xs[k]?.getD 0 < 1000000000 := gx.get (by decide) k
        have b2 : ys[k]?.getD 0 < 1000000000 := gy.get (by decide) k
        go_wp2
        go_roundw
        case rel =>
          obtain ⟨z1, z2, z3⟩ := hz.out
          have e1 : ((y : Int) + (xs[k]?.getD 0 : Nat) + (ys[k]?.getD 0 : Nat)) / 1000000000 = (((y + xs[k]?.getD 0 + ys[k]?.getD 0) / 1000000000 : Nat) : Int) := by omega
          have e2 : ((y : Int) + (xs[k]?.getD 0 : Nat) + (ys[k]?.getD 0 : Nat)) % 1000000000 = (((y + xs[k]?.getD 0 + ys[k]?.getD 0) % 1000000000 : Nat) : Int) := by omega
          rw [e1, e2]
          have g := add_step (x := xs[k]?.getD 0) (y := ys[k]?.getD 0) z3 rfl
          refine ⟨k + 1, _, zs ++ [(y + xs[k]?.getD 0 + ys[k]?.getD 0) % 1000000000], by omega, by omega, rfl, by go_num, ⟨by simp [z1], z2.append (Dg.cons (Nat.mod_lt _ (by decide)) (Dg.nil _)), ?_⟩, ?_, ?_⟩
          · rw [dv_snoc, z1, dv_take_succ, dv_take_succ]; exact g
          · subst z1; exact hown.fill (by omega) _ rfl _
          · exact hbel.setCell (by simp) _
        case measure => simp [intOf]; omega
      · have hcz := hown.cell k (by have := hz.out.1; simp; omega)
        have hfz := hown.frozen k
        have b1 : xs[k]?.getD 0 < 1000000000 := gx.get (by decide) k
        go_wp2
        go_roundw
        case rel =>
          obtain ⟨z1, z2, z3⟩ := hz.out
          have e0 : ys[k]?.getD 0 = 0 := by rw [List.getElem?_eq_none (by have := hy.1; omega)]; rfl
          have e1 : ((y : Int) + (xs[k]?.getD 0 : Nat)) / 1000000000 = (((y + xs[k]?.getD 0) / 1000000000 : Nat) : Int) := by omega
          have e2 : ((y : Int) + (xs[k]?.getD 0 : Nat)) % 1000000000 = (((y + xs[k]?.getD 0) % 1000000000 : Nat) : Int) := by omega
          rw [e1, e2]
          have g := add_step (x := xs[k]?.getD 0) (y := ys[k]?.getD 0) z3 rfl
          rw [e0, Nat.add_zero] at g
          refine ⟨k + 1, _, zs ++ [(y + xs[k]?.getD 0) % 1000000000], by omega, by omega, rfl, by go_num, ⟨by simp [z1], z2.append (Dg.cons (Nat.mod_lt _ (by decide)) (Dg.nil _)), ?_⟩, ?_, ?_⟩
          · rw [dv_snoc, z1, dv_take_succ, dv_take_succ, e0]; exact g
          · subst z1; exact hown.fill (by omega) _ rfl _
          · exact hbel.setCell (by simp) _
        case measure => simp [intOf]; omega
    · obtain rfl : k = n := by omega
      have hz1 := hz.out.1
      have hcz := hown.cell k (by simp; omega)
      have hfz := hown.frozen k
      have hown2 : Own .u64 117 (wr.setCell ⟨w.heap.size, k, none⟩ (.int .u64 (y : Int))) w.heap.size (zs ++ [y]) := by
        have h := Own.fill (N := k + 1) (zs := zs) (by rw [hz1]; exact hown) (by omega) k hz1.symm y
        simpa using h
      go_wp2_with (go_at_call 147; refine (trimmed_any _ _ _ (zs ++ [y]) _ (by unfold maxLen; omega) (Nat.le_refl _) (hown2.rd (by simp [hz1]))).mono ?_; rintro e w' ⟨rfl, rfl⟩)
      go_ret
      obtain ⟨z1, z2, z3⟩ := hz.out
      have hl : (zs ++ [y]).length = k + 1 := by simp [z1]
      have gd : Dg BW (zs ++ [y]) := z2.append (Dg.cons (show y < 1000000000 by omega) (Dg.nil _))
      have g1 : trimLen (zs ++ [y]) (k + 1) ≤ k + 1 := trimLen_le _ _
      refine ⟨_, _, _, trimZ (zs ++ [y]), rfl, ?_, Nat.le_refl _, trimZ_cn gd, ?_, hbel.setCell (by simp) _⟩
      · unfold trimZ; rw [hl]; exact (hown2.rd hl).take _ g1
      · show dv BW (trimZ _) = _
        rw [dv_trimZ, dv_snoc, z1, z3, List.take_of_length_le (by rw [hx.1]; exact Nat.le_refl _), List.take_of_length_le (by rw [hy.1]; omega)]

theorem addWords_any (p q : Option Addr) (n c m d : Nat) (xs ys : List Nat) (w : World) (hn : n ≤ 1000000000) (hm : m ≤ 1000000000)
    (hx : Rd .u64 w p n xs) (hy : Rd .u64 w q m ys) (gx : Dg BW xs) (gy : Dg BW ys) :
    Calls Tryz.prog 108 #[.slice p n c, .slice q m d] w (Words w fun zs => dv BW zs = dv BW xs + dv BW ys) := by
  by_cases h : m ≤ n
  · exact addWords_ge p q n c m d xs ys w hn h hx hy gx gy
  · have g := addWords_lt q p m d n c ys xs w hm (by omega) hy hx gy gx
    rw [Nat.add_comm (dv BW xs)]; exact g

end Go.Proofs.YtimcbmgmngkagaaGreatDoor

namespace Go.Proofs.YtimcbmgmngkagaaGreatDoor
open Go.RowKit

/-- -1, 0 or 1. -/
def sgnCmp (a b : Int) : Int := if a < b then -1 else if a = b then 0 else 1
theorem sgnCmp_lt {a b : Int} (h : a < b) : sgnCmp a b = -1 := by rw [sgnCmp, if_pos h]
theorem sgnCmp_gt {a b : Int} (h : b < a) : sgnCmp a b = 1 := by rw [sgnCmp, if_neg (by omega), if_neg (by omega)]
theorem sgnCmp_eq (a : Int) : sgnCmp a a = 0 := by rw [sgnCmp, if_neg (by omega), if_pos rfl]

theorem cmp_int (a b : Int) (w : World) :
    Calls Tryz.prog 152 #[.int .i64 a, .int .i64 b] w fun e w' => e = .returned (.int .i64 (sgnCmp a b)) ∧ w = w' := by
  rcases Int.lt_trichotomy a b with h | rfl | h
  · have H := Lib.hid (sgnCmp_lt h)
    go_enter Tryz.func152, Tryz.ntmps152
    go_wp2
    go_ret
    exact ⟨ret_int H.out.symm, rfl⟩
  · have H := Lib.hid (sgnCmp_eq a)
    go_enter Tryz.func152, Tryz.ntmps152
    go_wp2
    go_ret
    exact ⟨ret_int H.out.symm, rfl⟩
  · have H := Lib.hid (sgnCmp_gt h)
    go_enter Tryz.func152, Tryz.ntmps152
    go_wp2
    go_ret
    exact ⟨ret_int H.out.symm, rfl⟩

theorem cmp_uint64 (a b : Int) (w : World) :
    Calls Tryz.prog 153 #[.int .u64 a, .int .u64 b] w fun e w' => e = .returned (.int .i64 (sgnCmp a b)) ∧ w = w' := by
  rcases Int.lt_trichotomy a b with h | rfl | h
  · have H := Lib.hid (sgnCmp_lt h)
    go_enter Tryz.func153, Tryz.ntmps153
    go_wp2
    go_ret
    exact ⟨ret_int H.out.symm, rfl⟩
  · have H := Lib.hid (sgnCmp_eq a)
    go_enter Tryz.func153, Tryz.ntmps153
    go_wp2
    go_ret
    exact ⟨ret_int H.out.symm, rfl⟩
  · have H := Lib.hid (sgnCmp_gt h)
    go_enter Tryz.func153, Tryz.ntmps153
    go_wp2
    go_ret
    exact ⟨ret_int H.out.symm, rfl⟩

end Go.Proofs.YtimcbmgmngkagaaGreatDoor

namespace Go.Proofs.YtimcbmgmngkagaaGreatDoor
open Go.RowKit Go.Shelf
attribute [local go_sem] Oper.semAt_some

/-- What has come when k rounds are over. -/
def upto {α : Type} (f : Nat → α) (k : Nat) : List α := (List.range k).map f
theorem upto_succ {α : Type} (f : Nat → α) (k : Nat) : upto f (k + 1) = upto f k ++ [f k] := by simp [upto, List.range_succ]
theorem upto_length {α : Type} (f : Nat → α) (k : Nat) : (upto f k).length = k := by simp [upto]

/-- A place in a number of len words. -/
abbrev Pos (len : Nat) := { i : Nat // 0 < len → i < len }

/-- Round j's place. -/
def dnAt (len : Nat) (j : Nat) : Pos len := ⟨len - 1 - j, fun h => by omega⟩

/-- The blocks of S lie as they lay. -/
def KeepsAt (S : Nat → Prop) (W W' : World) : Prop := ∀ b, S b → W'.heap[b]? = W.heap[b]?
theorem KeepsAt.refl (S : Nat → Prop) (W : World) : KeepsAt S W W := fun _ _ => rfl
theorem KeepsAt.trans {S : Nat → Prop} {A B C : World} (h : KeepsAt S A B) (k : KeepsAt S B C) : KeepsAt S A C := fun b hb => (k b hb).trans (h b hb)
theorem KeepsAt.cell {S : Nat → Prop} {W W' : World} (h : KeepsAt S W W') {p : Addr} (hp : S p.block) : W'.cell? p = W.cell? p := World.cell?_of_block (w := W) (h p.block hp)
theorem KeepsAt.of_below {S : Nat → Prop} {B : Nat} {W W' : World} (h : Below B W W') (hS : ∀ b, S b → b < B) : KeepsAt S W W' := fun b hb => h.block b (hS b hb)
theorem KeepsAt.setCell {S : Nat → Prop} {W W' : World} (h : KeepsAt S W W') (a : Addr) (v : Value) (ha : ¬ S a.block) : KeepsAt S W (W'.setCell a v) :=
  h.trans fun b hb => Below.heap_setCell _ _ _ _ (fun e => ha (e ▸ hb))
theorem KeepsAt.putObj {S : Nat → Prop} {N : Nat} (hS : ∀ b, S b → b < N) (W : World) (l : Nat) (o o' : Obj) (hl : N ≤ l) (_ : W.heap[l]? = some o) (_ : o.isCells = false) (_ : o.isWalk = false) : KeepsAt S W (W.putObj l o') :=
  fun b hb => World.putObj_heap_other (by have := hS b hb; omega)

def encDn (xs : List Nat) (len : Nat) (x : Pos len) : Array Value := #[.int .i64 (x.1 : Int), .int .u64 ((xs[x.1]?.getD 0 : Nat) : Int)]

set_option maxHeartbeats 1000000 in
theorem down_in (F : Fence) (n : Nat) (h5 : F.fn 112) (hro : F.round = none) (a : Option Addr) (len cap : Nat) (w : World) :
    CallsIn F n Tryz.prog 112 #[.slice a len cap] w fun e w' => e = .returned (.func (.func 150) #[] #[.pointer (some ⟨w.heap.size, 0, none⟩)]) ∧ w' = w.alloc (.cells #[.slice a len cap] 76) := by
  refine callsIn_of_wp Tryz.func112 rfl h5 ?_ hro
  simp only [Tryz.ntmps112, List.size_toArray, List.length_cons, List.length_nil, Nat.reduceAdd, Nat.reduceSub, Array.replicate_succ, Array.replicate_zero, List.push_toArray, List.append_toArray, List.nil_append, List.cons_append]
  gi_wp2
  go_ret
  exact ⟨rfl, rfl⟩

set_option maxRecDepth 100000 in
set_option maxHeartbeats 2000000 in
/-- For every loop body that keeps what lay below n₀. -/
theorem down1_in (F : Fence) (n : Nat) (h7 : F.fn 150) (hro : F.round = none) (hn : 1 ≤ n) (l Bs len cap : Nat) (S : Nat → Prop) (p : Option Addr) (xs : List Nat) (hreach : len ≤ 1000000000) (J Jx : List (Pos len) → World → Prop)
    (hY : ∀ pre x W, J pre W → pre.length < len → YieldAt F (n - 1) Tryz.prog l (encDn xs len x) W fun e W' =>
      (e = .returned (.bool true) ∧ J (pre ++ [x]) W' ∧ KeepsAt S W W') ∨ (e = .returned (.bool false) ∧ Jx (pre ++ [x]) W'))
    (W : World) (hBs : W.cell? ⟨Bs, 0, none⟩ = some (.slice p len cap)) (hBn : S Bs) (hl : xs.length = len)
    (hc : ∀ i, i < len → ∃ b off, p = some ⟨b, off, none⟩ ∧ S b ∧ W.cell? ⟨b, off + i, none⟩ = some (.int .u64 ((xs[i]?.getD 0 : Nat) : Int))) (h0 : J [] W) :
    CallsIn F n Tryz.prog 150 #[.func (.yield l) #[] #[], .pointer (some ⟨Bs, 0, none⟩)] W fun e W' => (∃ v, e = .returned v) ∧
      ((∃ ys, ys = upto (dnAt len) len ∧ J ys W') ∨ (∃ pre, (∃ k, k ≤ len ∧ pre = upto (dnAt len) k) ∧ Jx pre W')) := by
  have HL := Lib.hid hl
  clear hl
  refine callsIn_of_wp Tryz.func150 rfl h7 ?_ hro
  simp only [Tryz.ntmps150, List.size_toArray, List.length_cons, List.length_nil, Nat.reduceAdd, Nat.reduceSub, Array.replicate_succ, Array.replicate_zero, List.push_toArray, List.append_toArray, List.nil_append, List.cons_append]
  gi_wp2
  gi_loopw [3] (fun i wr => ∃ k : Nat, k ≤ len ∧ i = .int .i64 ((len : Int) - 1 - k) ∧ J (upto (dnAt len) k) wr ∧ KeepsAt S W wr)
    (fun i _ => (intOf i + 1).toNat)
  case atStart => exact ⟨0, Nat.zero_le _, by simp, h0, KeepsAt.refl _ _⟩
  case round =>
    obtain ⟨k, hk, rfl, hJs, hnx⟩ := hrel
    have hbx : wr.cell? ⟨Bs, 0, none⟩ = some (.slice p len cap) := (hnx.cell (p := ⟨Bs, 0, none⟩) hBn).trans hBs
    by_cases hlt : k < len
    · obtain ⟨b, off, rfl, hb, hcell0⟩ := hc (len - 1 - k) (by omega)
      have hcell := (hnx.cell (p := ⟨b, off + (len - 1 - k), none⟩) hb).trans hcell0
      obtain ⟨fn, tmps, assign, body, hy, hR⟩ := hY _ (dnAt len k) wr hJs (by rw [upto_length]; exact hlt)
      unfold encDn dnAt at hy
      dsimp only at hy
      have e0 : ((len - 1 - k : Nat) : Int) = (len : Int) - 1 - k := by omega
      rw [e0] at hy
      have HE := Lib.hid e0
      clear e0
      gi_wp2
      refine hR.mono ?_
      rintro e W3 (⟨rfl, hJ3, hk3⟩ | ⟨rfl, hJx3⟩)
      · gi_wp2
        go_roundw
        case rel => exact ⟨k + 1, by omega, by simp; omega, by rw [upto_succ]; exact hJ3, hnx.trans hk3⟩
        case measure => simp [intOf]; omega
      · gi_wp2
        refine bodyPost_ret (results_none rfl _ _ _) rfl ?_
        exact ⟨⟨_, rfl⟩, .inr ⟨_, ⟨k + 1, by omega, (upto_succ _ _).symm⟩, hJx3⟩⟩
    · obtain rfl : k = len := by omega
      gi_wp2
      go_end0
      exact ⟨⟨_, rfl⟩, .inl ⟨_, rfl, hJs⟩⟩

/-- All words, from the highest on; or the first of them. -/
theorem down_stops (F : Fence) (n : Nat) (h7 : F.fn 150) (hro : F.round = none) (hn : 1 ≤ n) (Bs len cap : Nat) (S : Nat → Prop) (p : Option Addr) (xs : List Nat) (hreach : len ≤ 1000000000) (w : World) (hS : ∀ b, S b → b < w.heap.size)
    (hBs : w.cell? ⟨Bs, 0, none⟩ = some (.slice p len cap)) (hBn : S Bs) (hl : xs.length = len)
    (hc : ∀ i, i < len → ∃ b off, p = some ⟨b, off, none⟩ ∧ S b ∧ w.cell? ⟨b, off + i, none⟩ = some (.int .u64 ((xs[i]?.getD 0 : Nat) : Int))) :
    SeqStopsK F n Tryz.prog 150 #[.pointer (some ⟨Bs, 0, none⟩)] (encDn xs len) (KeepsAt S) (fun ys => ys = upto (dnAt len) len)
      (fun pre => ∃ k, k ≤ len ∧ pre = upto (dnAt len) k) len w := fun l J Jx W hW _ _ hY h0 => by
  have hW' := KeepsAt.of_below hW hS
  refine down1_in F n h7 hro hn l Bs len cap S p xs hreach J Jx hY W ((hW'.cell (p := ⟨Bs, 0, none⟩) hBn).trans hBs) hBn hl (fun i hi => ?_) h0
  obtain ⟨b, off, hp, hb, hcell⟩ := hc i hi
  exact ⟨b, off, hp, hb, (hW'.cell (p := ⟨b, off + i, none⟩) hb).trans hcell⟩

end Go.Proofs.YtimcbmgmngkagaaGreatDoor
