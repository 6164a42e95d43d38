/-
  Plain arithmetic of digits: what lists of digits say as numbers; sums, differences, products, quotients place by place. It imports nothing of the program; What the walks share: slices of numbers that are read; rows of numbers that the call itself has made; Blocks of the call's own, known whole; Integers of two words, modulo 2^128, and quotients by two digits: plain; Integers of two words, modulo 2^128: package sums.
-/
import Derived.Test.YtimkeblcdodfmaaGreatProg
import Derived.WalkKit
import Derived.WalkSpells
import Derived.WalkLawsBesides
import Derived.Outline
import Derived.Deep.QuietTactic
import Derived.Deep.OwnRows
import Derived.Deep.RegionHeld3
import Derived.Deep.DeepCutAuto
import Derived.Deep.LoopGhost
import Derived.BigQuiet
import Derived.Lib.Hide
import Derived.KernelRfl
import Derived.Test.YtimkeblcdodfmaaGreatShelf
import Derived.Laws.StructEq
import Derived.Laws.Externs
import Derived.Shelf.Spec.BitsCarry
namespace Go.Proofs.YtimkeblcdodfmaaGreat
/-- The number that digits say, the lowest first. -/
def dv (b : Nat) : List Nat → Nat
  | [] => 0
  | x :: xs => x + b * dv b xs

/-- All are digits. -/
def Dg (b : Nat) (xs : List Nat) : Prop := ∀ x, x ∈ xs → x < b

/-- The highest is not 0. -/
def Tp (xs : List Nat) : Prop := xs.getLast? ≠ some 0

/-- Digits in their one form. -/
def Cn (b : Nat) (xs : List Nat) : Prop := Dg b xs ∧ Tp xs

theorem dv_cons (b x : Nat) (xs : List Nat) : dv b (x :: xs) = x + b * dv b xs := rfl

theorem dv_append (b : Nat) (xs ys : List Nat) : dv b (xs ++ ys) = dv b xs + b ^ xs.length * dv b ys := by
  induction xs with
  | nil => simp [dv]
  | cons x xs ih =>
    simp only [List.cons_append, dv, ih, List.length_cons, Nat.pow_succ]
    grind

theorem dv_snoc (b : Nat) (xs : List Nat) (y : Nat) : dv b (xs ++ [y]) = dv b xs + b ^ xs.length * y := by
  rw [dv_append]; simp [dv]

theorem Dg.nil (b : Nat) : Dg b [] := by intro x hx; cases hx
theorem Dg.cons {b x : Nat} {xs : List Nat} (h : x < b) (hs : Dg b xs) : Dg b (x :: xs) := by
  intro y hy; cases hy with
  | head => exact h
  | tail _ hy => exact hs y hy
theorem Dg.append {b : Nat} {xs ys : List Nat} (h : Dg b xs) (hs : Dg b ys) : Dg b (xs ++ ys) := by
  intro y hy; rcases List.mem_append.1 hy with h1 | h1
  · exact h y h1
  · exact hs y h1
theorem Dg.left {b : Nat} {xs ys : List Nat} (h : Dg b (xs ++ ys)) : Dg b xs := fun x hx => h x (List.mem_append_left _ hx)
theorem Dg.right {b : Nat} {xs ys : List Nat} (h : Dg b (xs ++ ys)) : Dg b ys := fun x hx => h x (List.mem_append_right _ hx)
theorem Dg.tail {b x : Nat} {xs : List Nat} (h : Dg b (x :: xs)) : Dg b xs := fun y hy => h y (List.mem_cons_of_mem _ hy)
theorem Dg.head {b x : Nat} {xs : List Nat} (h : Dg b (x :: xs)) : x < b := h x List.mem_cons_self
theorem Dg.take {b : Nat} {xs : List Nat} (h : Dg b xs) (n : Nat) : Dg b (xs.take n) := fun x hx => h x (List.mem_of_mem_take hx)
theorem Dg.drop {b : Nat} {xs : List Nat} (h : Dg b xs) (n : Nat) : Dg b (xs.drop n) := fun x hx => h x (List.mem_of_mem_drop hx)
theorem Dg.get {b : Nat} {xs : List Nat} (h : Dg b xs) (hb : 0 < b) (i : Nat) : xs[i]?.getD 0 < b := by
  cases hx : xs[i]? with
  | none => simpa using hb
  | some y => exact h y (List.mem_of_getElem? hx)
theorem Dg.set {b : Nat} {xs : List Nat} (h : Dg b xs) (i : Nat) {y : Nat} (hy : y < b) : Dg b (xs.set i y) := by
  intro x hx
  rcases List.mem_or_eq_of_mem_set hx with h1 | h1
  · exact h x h1
  · rw [h1]; exact hy
theorem Dg.replicate {b : Nat} (hb : 0 < b) (n : Nat) : Dg b (List.replicate n 0) := by
  intro x hx; rw [(List.mem_replicate.1 hx).2]; exact hb

theorem dv_lt {b : Nat} {xs : List Nat} (h : Dg b xs) : dv b xs < b ^ xs.length := by
  induction xs with
  | nil => simp [dv]
  | cons x xs ih =>
    have h1 := ih h.tail
    have h2 := h.head
    simp only [dv, List.length_cons, Nat.pow_succ]
    have h3 : dv b xs + 1 ≤ b ^ xs.length := h1
    have h4 := Nat.mul_le_mul_left b h3
    rw [Nat.mul_comm (b ^ xs.length) b]
    rw [Nat.mul_add] at h4
    omega

theorem dv_replicate (b n : Nat) : dv b (List.replicate n 0) = 0 := by
  induction n with
  | zero => rfl
  | succ n ih => simp [List.replicate_succ, dv, ih]

/-- Digits below a place, and those from it on. -/
theorem dv_take_drop (b : Nat) (xs : List Nat) (n : Nat) (hn : n ≤ xs.length) : dv b xs = dv b (xs.take n) + b ^ n * dv b (xs.drop n) := by
  conv => lhs; rw [← List.take_append_drop n xs]
  rw [dv_append, List.length_take, Nat.min_eq_left hn]

theorem take_snoc (xs : List Nat) (k : Nat) (h : k < xs.length) : xs.take (k + 1) = xs.take k ++ [xs[k]?.getD 0] := by
  rw [List.take_succ_eq_append_getElem h]; simp [h]

theorem dv_take_succ (b : Nat) (xs : List Nat) (k : Nat) : dv b (xs.take (k + 1)) = dv b (xs.take k) + b ^ k * xs[k]?.getD 0 := by
  by_cases h : k < xs.length
  · rw [take_snoc xs k h, dv_snoc, List.length_take, Nat.min_eq_left (Nat.le_of_lt h)]
  · have h1 : xs.length ≤ k := by omega
    rw [List.take_of_length_le h1, List.take_of_length_le (by omega)]
    simp [h1]

/-- Zeros at the top cut off. -/
def trimLen (xs : List Nat) : Nat → Nat
  | 0 => 0
  | n + 1 => if xs[n]?.getD 0 = 0 then trimLen xs n else n + 1

def trimZ (xs : List Nat) : List Nat := xs.take (trimLen xs xs.length)

theorem trimLen_le (xs : List Nat) (n : Nat) : trimLen xs n ≤ n := by
  induction n with
  | zero => exact Nat.le_refl _
  | succ n ih => unfold trimLen; split <;> omega

theorem dv_trimLen (b : Nat) (xs : List Nat) (n : Nat) : dv b (xs.take (trimLen xs n)) = dv b (xs.take n) := by
  induction n with
  | zero => rfl
  | succ n ih =>
    unfold trimLen
    split
    · rename_i h; rw [ih, dv_take_succ, h]; simp
    · rfl

theorem dv_trimZ (b : Nat) (xs : List Nat) : dv b (trimZ xs) = dv b xs := by
  unfold trimZ; rw [dv_trimLen]; simp

theorem trimLen_top (xs : List Nat) (n : Nat) (hn : n ≤ xs.length) : Tp (xs.take (trimLen xs n)) := by
  induction n with
  | zero => simp [trimLen, Tp]
  | succ n ih =>
    unfold trimLen
    split
    · exact ih (by omega)
    · rename_i h
      unfold Tp
      rw [take_snoc xs n (by omega)]
      simp only [List.getLast?_append, List.getLast?_singleton, Option.some_or]
      intro h1; exact h (Option.some.inj h1)

theorem trimZ_top (xs : List Nat) : Tp (trimZ xs) := trimLen_top xs _ (Nat.le_refl _)

theorem trimZ_cn {b : Nat} {xs : List Nat} (h : Dg b xs) : Cn b (trimZ xs) := ⟨h.take _, trimZ_top xs⟩

/-- A number whose highest digit is not 0 is long. -/
theorem Cn.lower {b : Nat} {xs : List Nat} (h : Cn b xs) (hn : xs ≠ []) : b ^ (xs.length - 1) ≤ dv b xs := by
  obtain ⟨ys, y, rfl⟩ : ∃ ys y, xs = ys ++ [y] := ⟨xs.dropLast, xs.getLast hn, (List.dropLast_concat_getLast hn).symm⟩
  have hy : y ≠ 0 := by
    intro e; apply h.2; simp [e]
  rw [dv_snoc]
  simp only [List.length_append, List.length_singleton, Nat.add_sub_cancel]
  have : b ^ ys.length * 1 ≤ b ^ ys.length * y := Nat.mul_le_mul_left _ (by omega)
  omega

theorem Cn.nil (b : Nat) : Cn b [] := ⟨Dg.nil b, by simp [Tp]⟩

theorem Cn.pos {b : Nat} (hb : 0 < b) {xs : List Nat} (h : Cn b xs) (hn : xs ≠ []) : 0 < dv b xs :=
  Nat.lt_of_lt_of_le (Nat.pow_pos hb) (h.lower hn)

theorem Cn.zero {b : Nat} (hb : 0 < b) {xs : List Nat} (h : Cn b xs) : dv b xs = 0 ↔ xs = [] := by
  constructor
  · intro h1
    by_cases hn : xs = []
    · exact hn
    · have := h.pos hb hn; omega
  · intro h1; rw [h1]; rfl

/-- The longer number is the greater one. -/
theorem Cn.lt_of_length {b : Nat} (hb : 0 < b) {xs ys : List Nat} (hx : Dg b xs) (hy : Cn b ys) (h : xs.length < ys.length) : dv b xs < dv b ys := by
  have h1 := dv_lt hx
  have h2 := hy.lower (by intro e; rw [e] at h; simp at h)
  have h3 : b ^ xs.length ≤ b ^ (ys.length - 1) := Nat.pow_le_pow_right hb (by omega)
  omega

theorem Cn.length_le {b : Nat} (hb : 1 < b) {xs : List Nat} (h : Cn b xs) {m : Nat} (hm : dv b xs < b ^ m) : xs.length ≤ m := by
  by_cases hn : xs = []
  · subst hn; simp
  · have h1 := h.lower hn
    rcases Nat.lt_or_ge m xs.length with h2 | h2
    · have := Nat.pow_le_pow_right (n := b) (by omega) (show m ≤ xs.length - 1 by omega)
      omega
    · exact h2

theorem Dg.inj {b : Nat} (hb : 0 < b) : ∀ {xs ys : List Nat}, Dg b xs → Dg b ys → xs.length = ys.length → dv b xs = dv b ys → xs = ys
  | [], [], _, _, _, _ => rfl
  | [], _ :: _, _, _, h, _ => by simp at h
  | _ :: _, [], _, _, h, _ => by simp at h
  | x :: xs, y :: ys, hx, hy, h, e => by
    simp only [dv] at e
    have h1 := hx.head
    have h2 := hy.head
    have e1 : x = y := by
      have := congrArg (· % b) e
      simpa [Nat.add_mul_mod_self_left, Nat.mod_eq_of_lt h1, Nat.mod_eq_of_lt h2] using this
    subst e1
    have e2 : dv b xs = dv b ys := Nat.eq_of_mul_eq_mul_left hb (by omega)
    rw [Dg.inj hb hx.tail hy.tail (by simpa using h) e2]

theorem Cn.inj {b : Nat} (hb : 0 < b) {xs ys : List Nat} (hx : Cn b xs) (hy : Cn b ys) (e : dv b xs = dv b ys) : xs = ys := by
  rcases Nat.lt_trichotomy xs.length ys.length with h | h | h
  · have := Cn.lt_of_length hb hx.1 hy h; omega
  · exact Dg.inj hb hx.1 hy.1 h e
  · have := Cn.lt_of_length hb hy.1 hx h; omega

theorem dv_set (b : Nat) (xs : List Nat) (k v : Nat) (hk : k < xs.length) : dv b (xs.set k v) + b ^ k * xs[k]?.getD 0 = dv b xs + b ^ k * v := by
  induction xs generalizing k with
  | nil => simp at hk
  | cons x xs ih =>
    cases k with
    | zero => simp [dv]; omega
    | succ k =>
      have h := ih k (by simpa using hk)
      simp only [List.set_cons_succ, dv, List.getElem?_cons_succ, Nat.pow_succ]
      grind

/-- One word of a product fits. -/
theorem mul_fits {b c x w z : Nat} (hb : 0 < b) (hc : c < b) (hx : x < b) (hw : w < b) (hz : z < b) : c + (x * w + z) < b * b := by
  have h1 : x * w ≤ (b - 1) * (b - 1) := Nat.mul_le_mul (by omega) (by omega)
  obtain ⟨a, rfl⟩ : ∃ a, b = a + 1 := ⟨b - 1, by omega⟩
  simp only [Nat.add_sub_cancel] at h1
  have : (a + 1) * (a + 1) = a * a + 2 * a + 1 := by grind
  omega

theorem trimLen_cut {xs : List Nat} {k : Nat} (h : xs[k]?.getD 0 = 0) : trimLen xs (k + 1) = trimLen xs k := by rw [trimLen]; exact if_pos h
theorem trimLen_keep {xs : List Nat} {k : Nat} (h : ¬ xs[k]?.getD 0 = 0) : trimLen xs (k + 1) = k + 1 := by rw [trimLen]; exact if_neg h

/-- One place of a row of a product: what was there, what is written, what is carried. -/
theorem mul_place {b : Nat} {zs : List Nat} {at_ s x w c : Nat} (hk : at_ < zs.length) (hs : s = c + (x * w + zs[at_]?.getD 0)) :
    dv b (zs.set at_ (s % b)) + b ^ (at_ + 1) * (s / b) = dv b zs + b ^ at_ * c + b ^ at_ * (x * w) := by
  have h := dv_set b zs at_ (s % b) hk
  have e := Nat.mod_add_div s b
  have e2 : b ^ at_ * (s % b) + b ^ (at_ + 1) * (s / b) = b ^ at_ * s := by
    rw [Nat.pow_succ, Nat.mul_assoc, ← Nat.mul_add, e]
  have e3 : b ^ at_ * s = b ^ at_ * c + (b ^ at_ * (x * w) + b ^ at_ * zs[at_]?.getD 0) := by rw [hs, Nat.mul_add, Nat.mul_add]
  omega

theorem set_get_other (zs : List Nat) (i j x : Nat) (h : i ≠ j) : (zs.set i x)[j]?.getD 0 = zs[j]?.getD 0 := by
  rw [List.getElem?_set_ne h]

theorem drop_set_at' (qs : List Nat) (i v : Nat) (h : i < qs.length) : (qs.set i v).drop i = v :: qs.drop (i + 1) := by
  rw [List.drop_eq_getElem_cons (by simpa using h)]
  simp [List.drop_set]

/-- The words' base. -/
abbrev BW : Nat := 1000000000

end Go.Proofs.YtimkeblcdodfmaaGreat

namespace Go.Proofs.YtimkeblcdodfmaaGreat
open Go.RowKit

/-- A slice value reads as numbers. -/
def Rd (k : IntKind) (w : World) (p : Option Addr) (n : Nat) (xs : List Nat) : Prop :=
  xs.length = n ∧ ∀ i, i < n → ∃ b off, p = some ⟨b, off, none⟩ ∧ b < w.heap.size ∧ w.cell? ⟨b, off + i, none⟩ = some (.int k ((xs[i]?.getD 0 : Nat) : Int))

/-- Numbers as cells. -/
def cellsOf (k : IntKind) (ns : List Nat) : Array Value := (ns.map fun (n : Nat) => Value.int k (n : Int)).toArray

/-- Block B is a row of numbers. -/
def Own (k : IntKind) (e : TypeId) (w : World) (B : Nat) (ns : List Nat) : Prop := w.heap[B]? = some (.cells (cellsOf k ns) e (0, 0))

theorem cellsOf_at (k : IntKind) (ns : List Nat) (i : Nat) (h : i < ns.length) : (cellsOf k ns)[i]? = some (.int k ((ns[i]?.getD 0 : Nat) : Int)) := by
  unfold cellsOf; simp [h]

theorem cellsOf_set (k : IntKind) (ns : List Nat) (i x : Nat) : (cellsOf k ns).setIfInBounds i (.int k (x : Int)) = cellsOf k (ns.set i x) := by
  unfold cellsOf; simp [List.map_set]

theorem cellsOf_zeros (k : IntKind) (n : Nat) : Go.madeCells #[Value.int k 0] n = cellsOf k (List.replicate n 0) := by
  unfold Go.madeCells cellsOf
  apply Array.ext
  · simp
  · intro i h1 h2
    simp at h1
    simp [Nat.mod_one]

theorem Own.cell {k : IntKind} {e : TypeId} {w : World} {B : Nat} {ns : List Nat} (h : Own k e w B ns) (i : Nat) (hi : i < ns.length) :
    w.cell? ⟨B, i, none⟩ = some (.int k ((ns[i]?.getD 0 : Nat) : Int)) := by
  unfold Own at h; unfold World.cell?; simp only [h]; simpa using cellsOf_at k ns i hi

theorem Own.frozen {k : IntKind} {e : TypeId} {w : World} {B : Nat} {ns : List Nat} (h : Own k e w B ns) (i : Nat) : w.frozen? ⟨B, i, none⟩ = false := by
  unfold Own at h; unfold World.frozen?; simp [h]

theorem Own.lt {k : IntKind} {e : TypeId} {w : World} {B : Nat} {ns : List Nat} (h : Own k e w B ns) : B < w.heap.size := by
  unfold Own at h; exact (Array.getElem?_eq_some_iff.1 h).1

theorem Own.set {k : IntKind} {e : TypeId} {w : World} {B : Nat} {ns : List Nat} (h : Own k e w B ns) (i x : Nat) :
    Own k e (w.setCell ⟨B, i, none⟩ (.int k (x : Int))) B (ns.set i x) := by
  unfold Own at h ⊢
  unfold World.setCell
  simp only [Array.getElem?_modify, if_true, h, Option.map_some]
  rw [← cellsOf_set]; rfl

theorem Own.rd {k : IntKind} {e : TypeId} {w : World} {B : Nat} {ns : List Nat} (h : Own k e w B ns) {n : Nat} (hn : ns.length = n) : Rd k w (some ⟨B, 0, none⟩) n ns :=
  ⟨hn, fun i hi => ⟨B, 0, rfl, h.lt, by rw [Nat.zero_add]; exact h.cell i (by omega)⟩⟩

theorem Own.new (k : IntKind) (e : TypeId) (w : World) (n : Nat) : Own k e (w.alloc (.cells (Go.madeCells #[Value.int k 0] n) e)) w.heap.size (List.replicate n 0) := by
  unfold Own World.alloc
  rw [← cellsOf_zeros]
  simp

theorem Own.below {k : IntKind} {e : TypeId} {w w' : World} {B C : Nat} {ns : List Nat} (h : Own k e w B ns) (hb : Below C w w') (hC : B < C) : Own k e w' B ns := by
  unfold Own at h ⊢; rw [hb.block B hC]; exact h

theorem Rd.below {k : IntKind} {w w' : World} {p : Option Addr} {n : Nat} {xs : List Nat} (h : Rd k w p n xs) (hb : Below w.heap.size w w') : Rd k w' p n xs := by
  refine ⟨h.1, fun i hi => ?_⟩
  obtain ⟨b, off, hp, hlt, hc⟩ := h.2 i hi
  exact ⟨b, off, hp, Nat.lt_of_lt_of_le hlt hb.size, (hb.cell (p := ⟨b, off + i, none⟩) hlt).trans hc⟩

theorem Rd.take {k : IntKind} {w : World} {p : Option Addr} {n : Nat} {xs : List Nat} (h : Rd k w p n xs) (m : Nat) (hm : m ≤ n) : Rd k w p m (xs.take m) := by
  refine ⟨by rw [List.length_take, h.1]; omega, fun i hi => ?_⟩
  obtain ⟨b, off, hp, hlt, hc⟩ := h.2 i (by omega)
  refine ⟨b, off, hp, hlt, ?_⟩
  rw [hc, List.getElem?_take_of_lt hi]

theorem Rd.nil (k : IntKind) (w : World) (p : Option Addr) : Rd k w p 0 [] := ⟨rfl, fun i hi => by omega⟩

theorem bcell {W w1 : World} (hb : Below W.heap.size W w1) : (∀ b o, b < W.heap.size → w1.cell? ⟨b, o, none⟩ = W.cell? ⟨b, o, none⟩) ∧ (∀ b o, b < W.heap.size → w1.frozen? ⟨b, o, none⟩ = W.frozen? ⟨b, o, none⟩) :=
  ⟨fun b o h => hb.cell (p := ⟨b, o, none⟩) h, fun b o h => hb.frozen (p := ⟨b, o, none⟩) h⟩

theorem ret_int {k : IntKind} {a b : Int} (h : a = b) : Ending.returned (.int k a) = .returned (.int k b) := by rw [h]

theorem Tryz.info3 : (Tryz.prog.info? 3).map (fun i => (i.zero, i.size, i.bytes)) = some (some (.int .i64 0), 1, 8) := by kernel_rfl

end Go.Proofs.YtimkeblcdodfmaaGreat

namespace Go.Proofs.YtimkeblcdodfmaaGreat
open Go.RowKit

/-- Block B holds these cells. -/
def Blk (W : World) (B : Nat) (cs : Array Value) (t : TypeId) : Prop := W.heap[B]? = some (.cells cs t (0, 0))

theorem Blk.cell {W : World} {B : Nat} {cs : Array Value} {t : TypeId} (h : Blk W B cs t) {i : Nat} {v : Value} (hi : cs[i]? = some v) : W.cell? ⟨B, i, none⟩ = some v := by
  unfold Blk at h; unfold World.cell?; simp only [h]; simpa using hi
theorem Blk.frozen {W : World} {B : Nat} {cs : Array Value} {t : TypeId} (h : Blk W B cs t) (i : Nat) : W.frozen? ⟨B, i, none⟩ = false := by
  unfold Blk at h; unfold World.frozen?; simp [h]
theorem Blk.lt {W : World} {B : Nat} {cs : Array Value} {t : TypeId} (h : Blk W B cs t) : B < W.heap.size := by
  unfold Blk at h; exact (Array.getElem?_eq_some_iff.1 h).1
theorem Blk.new (W : World) (cs : Array Value) (t : TypeId) : Blk (W.alloc (.cells cs t)) W.heap.size cs t := by unfold Blk World.alloc; simp
theorem Blk.new' (W : World) (cs : Array Value) (t : TypeId) {n : Nat} (hn : n = W.heap.size) : Blk (W.alloc (.cells cs t)) n cs t := by subst hn; exact Blk.new W cs t
theorem Blk.alloc {W : World} {B : Nat} {cs : Array Value} {t : TypeId} (h : Blk W B cs t) (o : Obj) : Blk (W.alloc o) B cs t := by
  unfold Blk at h ⊢
  exact ((World.grownBy_alloc W o none).block B (Array.getElem?_eq_some_iff.1 h).1 (by simp)).trans h
theorem Blk.below {W W' : World} {B C : Nat} {cs : Array Value} {t : TypeId} (h : Blk W B cs t) (hb : Below C W W') (hC : B < C) : Blk W' B cs t := by
  unfold Blk at h ⊢; rw [hb.block B hC]; exact h
theorem Blk.kept {W W' : World} {B : Nat} {cs : Array Value} {t : TypeId} (h : Blk W B cs t) (hb : Below W.heap.size W W') : Blk W' B cs t := h.below hb h.lt
theorem Blk.drew {W : World} {B : Nat} {cs : Array Value} {t : TypeId} (h : Blk W B cs t) : Blk W.drew B cs t := h
theorem Blk.set {W : World} {B : Nat} {cs : Array Value} {t : TypeId} (h : Blk W B cs t) (i : Nat) (v : Value) : Blk (W.setCell ⟨B, i, none⟩ v) B (cs.setIfInBounds i v) t := by
  unfold Blk at h ⊢; simp [World.setCell, Array.getElem?_modify, h]
theorem Blk.set_eq {W : World} {B : Nat} {cs cs' : Array Value} {t : TypeId} (h : Blk W B cs t) (i : Nat) (v : Value) (e : cs.setIfInBounds i v = cs') : Blk (W.setCell ⟨B, i, none⟩ v) B cs' t := e ▸ h.set i v
theorem Blk.other {W : World} {B : Nat} {cs : Array Value} {t : TypeId} (h : Blk W B cs t) {C : Nat} (i : Nat) (v : Value) (hne : C ≠ B) : Blk (W.setCell ⟨C, i, none⟩ v) B cs t := by
  unfold Blk at h ⊢
  rw [show (W.setCell ⟨C, i, none⟩ v).heap[B]? = W.heap[B]? by simp only [World.setCell, Array.getElem?_modify]; rw [if_neg hne]]
  exact h

end Go.Proofs.YtimkeblcdodfmaaGreat

namespace Go.Proofs.YtimkeblcdodfmaaGreat

/-- The two words of an integer modulo 2^128. -/
def hiW (x : Int) : Int := x / 18446744073709551616 % 18446744073709551616
def loW (x : Int) : Int := x % 18446744073709551616

theorem hiW_nonneg (x : Int) : 0 ≤ hiW x := by unfold hiW; omega
theorem hiW_lt (x : Int) : hiW x < 18446744073709551616 := by unfold hiW; omega
theorem loW_nonneg (x : Int) : 0 ≤ loW x := by unfold loW; omega
theorem loW_lt (x : Int) : loW x < 18446744073709551616 := by unfold loW; omega

theorem lo_add (x y : Int) : loW (x + y) = (loW x + loW y) % 18446744073709551616 := by unfold loW; omega
theorem hi_add (x y : Int) : hiW (x + y) = (hiW x + hiW y + (loW x + loW y) / 18446744073709551616) % 18446744073709551616 := by unfold hiW loW; omega
theorem lo_sub (x y : Int) : loW (x - y) = (loW x - loW y) % 18446744073709551616 := by unfold loW; omega
theorem hi_sub (x y : Int) : hiW (x - y) = (hiW x - hiW y - (if loW x < loW y then 1 else 0)) % 18446744073709551616 := by unfold hiW loW; split <;> omega

theorem lo_mul (x k : Int) : loW (x * k) = loW x * (k % 18446744073709551616) % 18446744073709551616 := by
  unfold loW; rw [Int.mul_emod]
theorem hi_mul (x k : Int) (h0 : -9223372036854775808 ≤ k) (h1 : k < 9223372036854775808) :
    hiW (x * k) = (loW x * (k % 18446744073709551616) / 18446744073709551616 + hiW x * (k % 18446744073709551616) + loW x * (k / 9223372036854775808 % 18446744073709551616)) % 18446744073709551616 := by
  obtain ⟨z, hz⟩ : ∃ z, x = 340282366920938463463374607431768211456 * z + 18446744073709551616 * hiW x + loW x := ⟨x / 340282366920938463463374607431768211456, by unfold hiW loW; omega⟩
  generalize hiW x = h at hz ⊢
  generalize loW x = l at hz ⊢
  rcases Int.lt_or_le k 0 with hk | hk
  · have e1 : k % 18446744073709551616 = k + 18446744073709551616 := by omega
    have e2 : k / 9223372036854775808 % 18446744073709551616 = 18446744073709551615 := by omega
    rw [e1, e2]
    have e3 : x * k = 340282366920938463463374607431768211456 * (z * k) + 18446744073709551616 * (h * k) + l * k := by rw [hz]; grind
    rw [e3, Int.mul_add, Int.mul_add]
    generalize z * k = Z
    generalize h * k = H
    generalize l * k = L
    unfold hiW
    omega
  · have e1 : k % 18446744073709551616 = k := by omega
    have e2 : k / 9223372036854775808 % 18446744073709551616 = 0 := by omega
    rw [e1, e2]
    have e3 : x * k = 340282366920938463463374607431768211456 * (z * k) + 18446744073709551616 * (h * k) + l * k := by rw [hz]; grind
    rw [e3]
    generalize z * k = Z
    generalize h * k = H
    generalize l * k = L
    unfold hiW
    omega

theorem hi_of {n : Int} (h0 : -9223372036854775808 ≤ n) (h1 : n < 9223372036854775808) : hiW n = n / 9223372036854775808 % 18446744073709551616 := by unfold hiW; omega

/-- In range: what two words hold. -/
def In127 (x : Int) : Prop := -170141183460469231731687303715884105728 ≤ x ∧ x < 170141183460469231731687303715884105728

theorem zero_words {x : Int} (h : In127 x) : (hiW x = 0 ∧ loW x = 0) ↔ x = 0 := by unfold In127 at h; unfold hiW loW; omega
theorem neg_words {x : Int} (h : In127 x) : 9223372036854775808 ≤ hiW x ↔ x < 0 := by unfold In127 at h; unfold hiW; omega
theorem eq_words {x y : Int} (h : In127 x) (h' : In127 y) : (hiW x = hiW y ∧ loW x = loW y) ↔ x = y := by unfold In127 at h h'; unfold hiW loW; omega

/-- The estimate of the quotient by a divisor of two words. -/
theorem est_upper {a b f K : Nat} (hl : f * K ≤ b) (hf : 0 < f * K) : a < (a / (f * K) + 1) * b := by
  have h1 := Nat.lt_mul_div_succ a hf
  have h2 : f * K * (a / (f * K) + 1) ≤ (a / (f * K) + 1) * b := by rw [Nat.mul_comm]; exact Nat.mul_le_mul_left _ hl
  omega
theorem est_lower {a b f K : Nat} (hu : b < (f + 1) * K) (ha : a < f * b) (hn : 1 ≤ a / (f * K)) : (a / (f * K) - 1) * b ≤ a := by
  obtain ⟨m, hm⟩ : ∃ m, a / (f * K) = m + 1 := ⟨a / (f * K) - 1, by omega⟩
  have h1 : (m + 1) * (f * K) ≤ a := by rw [← hm]; exact Nat.div_mul_le_self a (f * K)
  rw [hm, Nat.add_sub_cancel]
  have h2 : f * ((m + 1) * K) < f * b := by
    have : f * ((m + 1) * K) = (m + 1) * (f * K) := by rw [← Nat.mul_assoc, Nat.mul_comm f (m + 1), Nat.mul_assoc]
    omega
  have h3 : (m + 1) * K < b := Nat.lt_of_mul_lt_mul_left h2
  have h4 : m * b ≤ m * ((f + 1) * K) := Nat.mul_le_mul_left _ (Nat.le_of_lt hu)
  have h5 : m * ((f + 1) * K) = m * (f * K) + m * K := by rw [Nat.add_mul, Nat.one_mul, Nat.mul_add]
  have h6 : (m + 1) * (f * K) = m * (f * K) + f * K := by rw [Nat.add_mul, Nat.one_mul]
  have h7 : (m + 1) * K = m * K + K := by rw [Nat.add_mul, Nat.one_mul]
  have h8 : (f + 1) * K = f * K + K := by rw [Nat.add_mul, Nat.one_mul]
  omega


/-- One digit of a quotient by a divisor of two digits. -/
structure DigK (B T d v1 v0 : Nat) : Prop where
  fit : T < v1 * B + v0
  ld : d < B
  l0 : v0 < B
  l1 : v1 < B
  half : B ≤ 2 * v1

def DigI (B T d v1 v0 g l : Nat) : Prop := g * v1 + l = T ∧ T * B + d < (g + 1) * (v1 * B + v0)

theorem dig_start {B T d v1 v0 : Nat} (h : DigK B T d v1 v0) : DigI B T d v1 v0 (T / v1) (T % v1) ∧ T / v1 ≤ B + 1 ∧ T % v1 < B := by
  have hB := h.ld
  have hp : 0 < v1 := by have := h.half; omega
  have e0 := Nat.div_add_mod T v1
  have e1 := Nat.mod_lt T hp
  have := h.l1
  refine ⟨⟨by rw [Nat.mul_comm]; exact e0, ?_⟩, ?_, by omega⟩
  · have k1 : T + 1 ≤ (T / v1 + 1) * v1 := by rw [Nat.add_mul, Nat.one_mul, Nat.mul_comm (T / v1) v1]; omega
    have k3 : (T + 1) * B ≤ (T / v1 + 1) * v1 * B := Nat.mul_le_mul_right B k1
    have k4 : (T / v1 + 1) * v1 * B ≤ (T / v1 + 1) * (v1 * B + v0) := by rw [Nat.mul_assoc]; exact Nat.mul_le_mul_left _ (Nat.le_add_right _ _)
    rw [Nat.add_mul, Nat.one_mul] at k3
    omega
  · have k1 : T < (B + 2) * v1 := by
      rw [Nat.add_mul, Nat.mul_comm B v1]
      have := h.half
      have := h.fit
      have := h.l0
      omega
    have k2 : T / v1 < B + 2 := (Nat.div_lt_iff_lt_mul hp).2 k1
    omega

theorem dig_big {B T d v1 v0 g l : Nat} (h : DigK B T d v1 v0) (hi : DigI B T d v1 v0 g l) (hg : B ≤ g) : DigI B T d v1 v0 (g - 1) (l + v1) := by
  have hB := h.ld
  obtain ⟨m, rfl⟩ : ∃ m, g = m + 1 := ⟨g - 1, by omega⟩
  rw [Nat.add_sub_cancel]
  refine ⟨by rw [← hi.1, Nat.add_mul, Nat.one_mul]; omega, ?_⟩
  have k1 : B * (v1 * B + v0) ≤ (m + 1) * (v1 * B + v0) := Nat.mul_le_mul_right _ hg
  have k2 : (T + 1) * B ≤ (v1 * B + v0) * B := Nat.mul_le_mul_right B h.fit
  rw [Nat.mul_comm (v1 * B + v0) B, Nat.add_mul, Nat.one_mul] at k2
  omega

theorem dig_step {B T d v1 v0 g l : Nat} (hi : DigI B T d v1 v0 g l) (hg : l * B + d < g * v0) : 1 ≤ g ∧ DigI B T d v1 v0 (g - 1) (l + v1) := by
  have hg0 : 1 ≤ g := by
    rcases Nat.eq_zero_or_pos g with h0 | h0
    · subst h0; rw [Nat.zero_mul] at hg; omega
    · exact h0
  obtain ⟨m, rfl⟩ : ∃ m, g = m + 1 := ⟨g - 1, by omega⟩
  refine ⟨hg0, ?_⟩
  rw [Nat.add_sub_cancel]
  refine ⟨by rw [← hi.1, Nat.add_mul, Nat.one_mul]; omega, ?_⟩
  have e1 := hi.1
  have : (m + 1) * (v1 * B + v0) = ((m + 1) * v1) * B + (m + 1) * v0 := by rw [Nat.mul_add, Nat.mul_assoc]
  rw [this, ← e1, Nat.add_mul]
  omega

theorem dig_done {B T d v1 v0 g l : Nat} (h : DigK B T d v1 v0) (hi : DigI B T d v1 v0 g l) (hx : B ≤ l ∨ (g < B ∧ g * v0 ≤ l * B + d)) : g < B ∧ g = (T * B + d) / (v1 * B + v0) := by
  have e1 := hi.1
  have hgB : g < B := by
    rcases hx with hx | hx
    · have k1 : g * v1 < B * v1 := by rw [Nat.mul_comm B v1]; have := h.l0; have := h.fit; omega
      exact Nat.lt_of_mul_lt_mul_right k1
    · exact hx.1
  have hkey : g * (v1 * B + v0) ≤ T * B + d := by
    have k0 : g * (v1 * B + v0) = (g * v1) * B + g * v0 := by rw [Nat.mul_add, Nat.mul_assoc]
    rw [k0, ← e1, Nat.add_mul]
    rcases hx with hx | hx
    · have k1 : g * v0 ≤ B * B := Nat.mul_le_mul (Nat.le_of_lt hgB) (Nat.le_of_lt h.l0)
      have k2 : B * B ≤ l * B := Nat.mul_le_mul_right B hx
      omega
    · have := hx.2
      omega
  have hp : 0 < v1 * B + v0 := by have := h.fit; omega
  refine ⟨hgB, Nat.le_antisymm ((Nat.le_div_iff_mul_le hp).2 hkey) ?_⟩
  exact Nat.le_of_lt_succ ((Nat.div_lt_iff_lt_mul hp).2 hi.2)

/-- Two digits, one after the other. -/
theorem two_digits {B T d e V : Nat} (hV : 0 < V) : (T * B + d) / V * B + ((T * B + d) % V * B + e) / V = ((T * B + d) * B + e) / V ∧ ((T * B + d) % V * B + e) % V = ((T * B + d) * B + e) % V := by
  generalize T * B + d = U
  have h1 := Nat.div_add_mod U V
  have h2 : U * B + e = U % V * B + e + V * (U / V * B) := by
    have : U * B = (V * (U / V) + U % V) * B := by rw [h1]
    rw [this, Nat.add_mul, Nat.mul_assoc]; omega
  rw [h2]
  exact ⟨by rw [Nat.add_mul_div_left _ _ hV]; omega, by rw [Nat.add_mul_mod_self_left]⟩

/-- A number of two words, shifted. -/
theorem shl_gen {M A P hi lo : Nat} (hM : M = A * P) (hA : 0 < A) (hl : lo < M) :
    (hi * P + lo / A) * M + lo * P % M = (hi * M + lo) * P ∧ lo / A < P := by
  have e1 := Nat.div_add_mod lo A
  have e2 : lo * P % M = lo % A * P := by rw [hM, Nat.mul_mod_mul_right]
  refine ⟨?_, ?_⟩
  · rw [e2]
    have e3 : (hi * P + lo / A) * M = hi * M * P + A * (lo / A) * P := by rw [hM]; grind
    have e4 : lo * P = A * (lo / A) * P + lo % A * P := by rw [← Nat.add_mul, e1]
    rw [e3, Nat.add_mul, e4, Nat.add_assoc]
  · rw [Nat.div_lt_iff_lt_mul hA, Nat.mul_comm, ← hM]; exact hl

theorem two_words {s : Nat} (hs : s ≤ 64) : 18446744073709551616 = 2 ^ (64 - s) * 2 ^ s := by rw [← Nat.pow_add, show 64 - s + s = 64 by omega]

theorem shl_words {hi lo s : Nat} (hl : lo < 18446744073709551616) (hs : s ≤ 64) :
    (hi * 2 ^ s + lo / 2 ^ (64 - s)) * 18446744073709551616 + lo * 2 ^ s % 18446744073709551616 = (hi * 18446744073709551616 + lo) * 2 ^ s ∧ lo / 2 ^ (64 - s) < 2 ^ s :=
  shl_gen (two_words hs) (Nat.two_pow_pos _) hl

theorem shl_fit {hi y lo s : Nat} (hy : hi < y) (hl : lo < 18446744073709551616) (hs : s ≤ 64) (h : y * 2 ^ s < 18446744073709551616) : hi * 2 ^ s + lo / 2 ^ (64 - s) < y * 2 ^ s ∧ hi * 2 ^ s < 18446744073709551616 := by
  have h1 := (shl_words (hi := hi) hl hs).2
  have h2 : (hi + 1) * 2 ^ s ≤ y * 2 ^ s := Nat.mul_le_mul_right _ hy
  rw [Nat.add_mul, Nat.one_mul] at h2
  generalize lo / 2 ^ (64 - s) = A at *
  generalize 2 ^ s = P at *
  omega

theorem shl_or {x z s : Nat} (hz : z < 2 ^ s) : x * 2 ^ s ||| z = x * 2 ^ s + z := by
  rw [Nat.mul_comm]; exact (Nat.two_pow_add_eq_or_of_lt hz x).symm

/-- How far a word's highest bit lies. -/
theorem norm_bits {y n : Nat} (h0 : 2 ^ (n - 1) ≤ y) (h1 : y < 2 ^ n) (hn : 1 ≤ n) (hn6 : n ≤ 64) : 9223372036854775808 ≤ y * 2 ^ (64 - n) ∧ y * 2 ^ (64 - n) < 18446744073709551616 := by
  have e1 : 2 ^ (n - 1) * 2 ^ (64 - n) = 9223372036854775808 := by rw [← Nat.pow_add, show n - 1 + (64 - n) = 63 by omega]
  have e2 : 2 ^ n * 2 ^ (64 - n) = 18446744073709551616 := by rw [← Nat.pow_add, show n + (64 - n) = 64 by omega]
  have := Nat.mul_le_mul_right (2 ^ (64 - n)) h0
  have := Nat.mul_lt_mul_of_pos_right h1 (Nat.two_pow_pos (64 - n))
  omega

/-- The quotient by two words, estimated. f: the highest 64 bits of b. -/
theorem quo_est {a b f s : Nat} (hs : 1 ≤ s) (hs6 : s ≤ 63) (hf : f = b * 2 ^ s / 18446744073709551616) (hf0 : 9223372036854775808 ≤ f) (hb : 18446744073709551616 ≤ b) (ha : a < 170141183460469231731687303715884105728) :
    ∃ n, a / 2 / f / 2 ^ (63 - s) = n ∧ a < (n + 1) * b ∧ (1 ≤ n → (n - 1) * b ≤ a) ∧ n < 9223372036854775809 := by
  have hM : 18446744073709551616 = 2 ^ (64 - s) * 2 ^ s := by rw [← Nat.pow_add, show 64 - s + s = 64 by omega]
  have hp : 0 < 2 ^ s := Nat.two_pow_pos s
  have hq : 0 < 2 ^ (64 - s) := Nat.two_pow_pos _
  have hf' : f = b / 2 ^ (64 - s) := by rw [hf, hM, Nat.mul_div_mul_right _ _ hp]
  have hl : f * 2 ^ (64 - s) ≤ b := by rw [hf']; exact Nat.div_mul_le_self _ _
  have hu : b < (f + 1) * 2 ^ (64 - s) := by rw [hf', Nat.mul_comm]; exact Nat.lt_mul_div_succ _ hq
  have hn : a / 2 / f / 2 ^ (63 - s) = a / (f * 2 ^ (64 - s)) := by
    rw [Nat.div_div_eq_div_mul, Nat.div_div_eq_div_mul]
    have : 2 ^ (64 - s) = 2 * 2 ^ (63 - s) := by rw [← Nat.pow_succ', show (63 - s).succ = 64 - s by omega]
    rw [this]; congr 1; grind
  have hfb : 9223372036854775808 * 18446744073709551616 ≤ f * b := Nat.mul_le_mul hf0 hb
  have hfk : 0 < f * 2 ^ (64 - s) := Nat.mul_pos (by omega) hq
  have hlow := fun h => est_lower hu (show a < f * b by omega) h
  refine ⟨_, hn, est_upper hl hfk, hlow, ?_⟩
  rcases Nat.eq_zero_or_pos (a / (f * 2 ^ (64 - s))) with h0 | h0
  · omega
  · have h1 := hlow h0
    generalize a / (f * 2 ^ (64 - s)) = n at *
    have h2 : (n - 1) * 18446744073709551616 ≤ (n - 1) * b := Nat.mul_le_mul_left _ hb
    omega

theorem quo_take {a b n : Nat} (hb : 0 < b) (h : a < (n + 1) * b) (h1 : 1 ≤ n → (n - 1) * b ≤ a) :
    (n = 0 ∧ a / b = 0 ∧ a % b = a ∧ a < b) ∨ (∃ m, n = m + 1 ∧ m * b ≤ a ∧ ((a - m * b < b ∧ a / b = m ∧ a % b = a - m * b) ∨ (b ≤ a - m * b ∧ a / b = m + 1 ∧ a % b = a - m * b - b ∧ a - m * b - b < b))) := by
  rcases Nat.eq_zero_or_pos n with h0 | h0
  · subst h0
    rw [Nat.zero_add, Nat.one_mul] at h
    exact Or.inl ⟨rfl, Nat.div_eq_of_lt h, Nat.mod_eq_of_lt h, h⟩
  · obtain ⟨m, rfl⟩ : ∃ m, n = m + 1 := ⟨n - 1, by omega⟩
    have h2 := h1 (by omega)
    rw [Nat.add_sub_cancel] at h2
    refine Or.inr ⟨m, rfl, h2, ?_⟩
    obtain ⟨r, hr⟩ : ∃ r, a = m * b + r := ⟨a - m * b, by omega⟩
    subst hr
    rw [Nat.add_mul, Nat.add_mul, Nat.one_mul] at h
    have e : m * b + r - m * b = r := by omega
    rw [e]
    rcases Nat.lt_or_ge r b with hlt | hge
    · exact Or.inl ⟨hlt, by rw [Nat.mul_comm, Nat.mul_add_div hb, Nat.div_eq_of_lt hlt, Nat.add_zero], by rw [Nat.mul_comm, Nat.mul_add_mod, Nat.mod_eq_of_lt hlt]⟩
    · obtain ⟨t, ht⟩ : ∃ t, r = b + t := ⟨r - b, by omega⟩
      subst ht
      have htb : t < b := by omega
      refine Or.inr ⟨hge, ?_, ?_, by omega⟩
      · rw [Nat.mul_comm, Nat.mul_add_div hb, Nat.add_div_left _ hb, Nat.div_eq_of_lt htb]
      · rw [Nat.mul_comm, Nat.mul_add_mod, Nat.add_mod_left, Nat.mod_eq_of_lt htb]; omega

end Go.Proofs.YtimkeblcdodfmaaGreat

namespace Go.Proofs.YtimkeblcdodfmaaGreat
open Go.RowKit Go.Shelf

/-- An integer as a Sum. -/
def sumV (x : Int) : Value := .agg #[.int .u64 (hiW x), .int .u64 (loW x)]

attribute [local go_sem] sumV

theorem add64 (x y c : Int) (hx : 0 ≤ x) (hy : 0 ≤ y) (hc0 : 0 ≤ c) (hc : c ≤ 1) (w : World) : (callFunc 131 #[.int .u64 x, .int .u64 y, .int .u64 c]).run Tryz.prog w =
    .ok (.value (.tuple #[.int .u64 ((x + y + c) % 18446744073709551616), .int .u64 ((x + y + c) / 18446744073709551616)])) w := by
  rw [run_callFunc_extern Tryz.func131 (by kernel_rfl) (by kernel_rfl) (by kernel_rfl) (e := add64Entry) (by kernel_rfl), run_add64 x y c hx hy hc0 hc]
  rfl

theorem sub64 (x y b : Int) (hx : 0 ≤ x) (hy : 0 ≤ y) (hy' : y < 18446744073709551616) (hb0 : 0 ≤ b) (hb : b ≤ 1) (w : World) : (callFunc 114 #[.int .u64 x, .int .u64 y, .int .u64 b]).run Tryz.prog w =
    .ok (.value (.tuple #[.int .u64 ((x - y - b) % 18446744073709551616), .int .u64 (if x < y + b then 1 else 0)])) w := by
  obtain ⟨x, rfl⟩ := Int.eq_ofNat_of_zero_le hx
  obtain ⟨y, rfl⟩ := Int.eq_ofNat_of_zero_le hy
  obtain ⟨b, rfl⟩ := Int.eq_ofNat_of_zero_le hb0
  have e1 : (((x + 18446744073709551616 - y - b) % 18446744073709551616 : Nat) : Int) = ((x : Int) - y - b) % 18446744073709551616 := by omega
  have e2 : ((if x < y + b then 1 else 0 : Nat) : Int) = if (x : Int) < y + b then 1 else 0 := by split <;> split <;> omega
  rw [← e1, ← e2, run_callFunc_extern Tryz.func114 (by kernel_rfl) (by kernel_rfl) (by kernel_rfl) (e := sub64Entry) (by kernel_rfl), run_sub64 x y b (by omega)]
  rfl

theorem add64_0 (x y : Int) (hx : 0 ≤ x) (hy : 0 ≤ y) (w : World) : (callFunc 131 #[.int .u64 x, .int .u64 y, .int .u64 0]).run Tryz.prog w =
    .ok (.value (.tuple #[.int .u64 ((x + y) % 18446744073709551616), .int .u64 ((x + y) / 18446744073709551616)])) w := by
  simpa using add64 x y 0 hx hy (Int.le_refl 0) (by decide) w

/-- The borrow. -/
def bor (x y : Int) : Int := if x < y then 1 else 0
theorem sub64_0 (x y : Int) (hx : 0 ≤ x) (hy : 0 ≤ y) (hy' : y < 18446744073709551616) (w : World) : (callFunc 114 #[.int .u64 x, .int .u64 y, .int .u64 0]).run Tryz.prog w =
    .ok (.value (.tuple #[.int .u64 ((x - y) % 18446744073709551616), .int .u64 (bor x y)])) w := by
  unfold bor
  simpa using sub64 x y 0 hx hy hy' (Int.le_refl 0) (by decide) w
theorem sub64_b (x y b : Int) (hx : 0 ≤ x) (hy : 0 ≤ y) (hy' : y < 18446744073709551616) (hb0 : 0 ≤ b) (hb : b ≤ 1) (w : World) : (callFunc 114 #[.int .u64 x, .int .u64 y, .int .u64 b]).run Tryz.prog w =
    .ok (.value (.tuple #[.int .u64 ((x - y - b) % 18446744073709551616), .int .u64 (bor x (y + b))])) w := sub64 x y b hx hy hy' hb0 hb w

set_option maxHeartbeats 1000000 in
theorem of_any (n : Int) (w : World) (h0 : -9223372036854775808 ≤ n) (h1 : n < 9223372036854775808) :
    Calls Tryz.prog 80 #[.int .i64 n] w fun e w' => e = .returned (sumV n) ∧ Below w.heap.size w w' := by
  go_enter Tryz.func80, Tryz.ntmps80
  go_wp2_with fail
  rw [IntKind.wrap_u64, IntKind.wrap_u64, ← hi_of h0 h1]
  exact bodyPost_ret (v := sumV n) (by simp [results, Tryz.results80, go_sem, sumV, loW]) rfl ⟨rfl, (Below.refl _ w).alloc (Nat.le_refl _) _⟩

set_option maxHeartbeats 1000000 in
theorem sumsPlus_any (x y : Int) (w : World) :
    Calls Tryz.prog 116 #[sumV x, sumV y] w fun e w' => e = .returned (sumV (x + y)) ∧ Below w.heap.size w w' := by
  have a0 := hiW_nonneg x
  have a1 := hiW_lt x
  have b0 := loW_nonneg x
  have b1 := loW_lt x
  have c0 := hiW_nonneg y
  have c1 := hiW_lt y
  have d0 := loW_nonneg y
  have d1 := loW_lt y
  have eh := hi_add x y
  have el := lo_add x y
  have E := Lib.hid (And.intro eh el)
  clear eh el
  unfold sumV
  generalize hiW x = xh at *
  generalize loW x = xl at *
  generalize hiW y = yh at *
  generalize loW y = yl at *
  have k0 : 0 ≤ (xl + yl) / 18446744073709551616 := by omega
  have k1 : (xl + yl) / 18446744073709551616 ≤ 1 := by omega
  go_enter Tryz.func116, Tryz.ntmps116
  go_wp2_with (first | simp only [add64_0 xl yl b0 d0] | simp only [add64 xh yh _ a0 c0 k0 k1])
  rw [← E.out.1, ← E.out.2]
  exact bodyPost_ret (v := sumV (x + y)) (by simp [results, Tryz.results116, go_sem, sumV]) rfl ⟨rfl, (((Below.refl _ w).alloc (Nat.le_refl _) _).alloc (by simp) _).alloc (by simp; omega) _⟩

set_option maxHeartbeats 1000000 in
theorem minus_any (x y : Int) (w : World) :
    Calls Tryz.prog 88 #[sumV x, sumV y] w fun e w' => e = .returned (sumV (x - y)) ∧ Below w.heap.size w w' := by
  have a0 := hiW_nonneg x
  have a1 := hiW_lt x
  have b0 := loW_nonneg x
  have b1 := loW_lt x
  have c0 := hiW_nonneg y
  have c1 := hiW_lt y
  have d0 := loW_nonneg y
  have d1 := loW_lt y
  have eh : hiW (x - y) = (hiW x - hiW y - bor (loW x) (loW y)) % 18446744073709551616 := hi_sub x y
  have el := lo_sub x y
  have E := Lib.hid (And.intro eh el)
  clear eh el
  unfold sumV
  generalize hiW x = xh at *
  generalize loW x = xl at *
  generalize hiW y = yh at *
  generalize loW y = yl at *
  have k0 : 0 ≤ bor xl yl := by unfold bor; split <;> omega
  have k1 : bor xl yl ≤ 1 := by unfold bor; split <;> omega
  go_enter Tryz.func88, Tryz.ntmps88
  go_wp2_with (first | simp only [sub64_0 xl yl b0 d0 d1] | simp only [sub64_b xh yh _ a0 c0 c1 k0 k1])
  rw [← E.out.1, ← E.out.2]
  exact bodyPost_ret (v := sumV (x - y)) (by simp [results, Tryz.results88, go_sem, sumV]) rfl ⟨rfl, (((Below.refl _ w).alloc (Nat.le_refl _) _).alloc (by simp) _).alloc (by simp; omega) _⟩

theorem mul64 (x y : Int) (hx : 0 ≤ x) (hx' : x < 18446744073709551616) (hy : 0 ≤ y) (hy' : y < 18446744073709551616) (w : World) :
    Calls Tryz.prog 115 #[.int .u64 x, .int .u64 y] w fun e w' => e = .returned (.tuple #[.int .u64 (x * y / 18446744073709551616), .int .u64 (x * y % 18446744073709551616)]) ∧ w' = w := by
  obtain ⟨x, rfl⟩ := Int.eq_ofNat_of_zero_le hx
  obtain ⟨y, rfl⟩ := Int.eq_ofNat_of_zero_le hy
  have e1 : (((x * y / 18446744073709551616 : Nat)) : Int) = (x : Int) * (y : Int) / 18446744073709551616 := by rw [← Int.natCast_mul]; omega
  have e2 : (((x * y % 18446744073709551616 : Nat)) : Int) = (x : Int) * (y : Int) % 18446744073709551616 := by rw [← Int.natCast_mul]; omega
  rw [← e1, ← e2]
  exact Tryz.bits_Mul64 x y (by omega) (by omega) w

set_option maxHeartbeats 1000000 in
theorem times_any (x k : Int) (w : World) (h0 : -9223372036854775808 ≤ k) (h1 : k < 9223372036854775808) :
    Calls Tryz.prog 89 #[sumV x, .int .i64 k] w fun e w' => e = .returned (sumV (x * k)) ∧ Below w.heap.size w w' := by
  have a0 := hiW_nonneg x
  have a1 := hiW_lt x
  have b0 := loW_nonneg x
  have b1 := loW_lt x
  have eh := hi_mul x k h0 h1
  have el := lo_mul x k
  have E := Lib.hid (And.intro eh el)
  clear eh el
  unfold sumV
  generalize hiW x = xh at *
  generalize loW x = xl at *
  have e0 : IntKind.u64.wrap k = k % 18446744073709551616 := IntKind.wrap_u64 k
  have k0 : 0 ≤ k % 18446744073709551616 := by omega
  have k1 : k % 18446744073709551616 < 18446744073709551616 := by omega
  generalize hK : k % 18446744073709551616 = K at *
  have HK := Lib.hid hK
  clear hK
  go_enter Tryz.func89, Tryz.ntmps89
  go_wp2_with (go_at_call 115; refine (mul64 xl K b0 b1 k0 k1 _).mono ?_; rintro e w2 ⟨rfl, hw2⟩; rw [hw2])
  have ew : IntKind.u64.wrap (IntKind.u64.wrap (xl * K / 18446744073709551616 + IntKind.u64.wrap (xh * K)) + IntKind.u64.wrap (xl * IntKind.u64.wrap (k / 9223372036854775808))) = hiW (x * k) := by
    rw [E.out.1]
    simp only [IntKind.wrap_u64]
    generalize xl * K / 18446744073709551616 = A
    generalize xh * K = B
    generalize xl * (k / 9223372036854775808 % 18446744073709551616) = C
    omega
  rw [ew, ← E.out.2]
  exact bodyPost_ret (v := sumV (x * k)) (by simp [results, Tryz.results89, go_sem, sumV]) rfl ⟨rfl, ((Below.refl _ w).alloc (Nat.le_refl _) _).alloc (by simp) _⟩

set_option maxHeartbeats 1000000 in
theorem product_any (a b : Int) (w : World) (h0 : -9223372036854775808 ≤ a) (h1 : a < 9223372036854775808) (k0 : -9223372036854775808 ≤ b) (k1 : b < 9223372036854775808) :
    Calls Tryz.prog 87 #[.int .i64 a, .int .i64 b] w fun e w' => e = .returned (sumV (a * b)) ∧ Below w.heap.size w w' := by
  have hb0 : Below w.heap.size w (w.alloc (.cells #[.int .u64 0, .int .u64 0] 90)) := (Below.refl _ w).alloc (Nat.le_refl _) _
  go_enter Tryz.func87, Tryz.ntmps87
  go_wp2_with fail
  refine (of_any a _ h0 h1).mono ?_
  rintro e w2 ⟨rfl, hb2⟩
  go_wp2_with fail
  refine (times_any a b _ k0 k1).mono ?_
  rintro e w3 ⟨rfl, hb3⟩
  have b0 := Blk.new w #[.int .u64 0, .int .u64 0] 90
  have hb23 := hb2.trans (hb3.mono hb2.size)
  have b3 := b0.below hb23 b0.lt
  have c0 := b3.cell (i := 0) rfl
  have c1 := b3.cell (i := 1) rfl
  have q0 := b3.frozen 0
  have q1 := b3.frozen 1
  have hb03 := hb0.trans (hb23.mono hb0.size)
  unfold sumV
  go_wp2_with fail
  have b4 := (b3.set_eq 0 (.int .u64 (hiW (a * b))) rfl).set_eq 1 (.int .u64 (loW (a * b))) rfl
  have z0 := b4.cell (i := 0) rfl
  have z1 := b4.cell (i := 1) rfl
  exact bodyPost_ret (v := sumV (a * b)) (by simp [results, Tryz.results87, go_sem, z0, z1, sumV]) rfl ⟨rfl, (hb03.setCell (by simp) _).setCell (by simp) _⟩


theorem eql_sum (a b c d : Int) (w : World) : (binOp .eql 90 (.agg #[.int .u64 a, .int .u64 b]) (.agg #[.int .u64 c, .int .u64 d])).run Tryz.prog w = .ok (.bool (a == c && b == d)) w := by
  have hS : Tryz.prog.underlying 90 = some (.struct (Tryz.prog.fieldsOf 90)) := by kernel_rfl
  have hp : Tryz.prog.stoodInHeld 90 = false := by kernel_rfl
  rw [run_eql_struct, show (10000 : Nat) = 9999 + 1 from rfl, run_equalIn_agg w 9999 _ _ _ hS hp]
  simp only [Program.fieldsOf, Tryz.underlying90]
  go_simp
  by_cases h1 : a = c <;> by_cases h2 : b = d <;> simp [h1, h2]
theorem neq_sum (a b c d : Int) (w : World) : (binOp .neq 90 (.agg #[.int .u64 a, .int .u64 b]) (.agg #[.int .u64 c, .int .u64 d])).run Tryz.prog w = .ok (.bool (!(a == c && b == d))) w := by
  have hS : Tryz.prog.underlying 90 = some (.struct (Tryz.prog.fieldsOf 90)) := by kernel_rfl
  have hp : Tryz.prog.stoodInHeld 90 = false := by kernel_rfl
  rw [run_neq_struct, show (10000 : Nat) = 9999 + 1 from rfl, run_equalIn_agg w 9999 _ _ _ hS hp]
  simp only [Program.fieldsOf, Tryz.underlying90]
  go_simp
  by_cases h1 : a = c <;> by_cases h2 : b = d <;> simp [h1, h2]

/-- -1, 0 or 1. -/
def sgnI (x : Int) : Int := if x = 0 then 0 else if x < 0 then -1 else 1
theorem sgnI_zero : sgnI 0 = 0 := rfl
theorem sgnI_neg {x : Int} (h : x < 0) : sgnI x = -1 := by unfold sgnI; rw [if_neg (by omega), if_pos h]
theorem sgnI_pos {x : Int} (h : 0 < x) : sgnI x = 1 := by unfold sgnI; rw [if_neg (by omega), if_neg (by omega)]

set_option maxHeartbeats 1000000 in
theorem sign_any (x : Int) (w : World) (hx : In127 x) :
    Calls Tryz.prog 57 #[sumV x] w fun e w' => e = .returned (.int .i64 (sgnI x)) ∧ Below w.heap.size w w' := by
  have hz := zero_words hx
  have hn := neg_words hx
  have a0 := hiW_nonneg x
  have a1 := hiW_lt x
  have heq := fun a b W => eql_sum a b 0 0 W
  rcases Int.lt_trichotomy x 0 with h | h | h
  · have hh : 9223372036854775808 ≤ hiW x := hn.2 h
    have hr := sgnI_neg h
    have e1 : wrap64 (hiW x) = hiW x - 18446744073709551616 := by unfold wrap64; omega
    have h0 : (hiW x == 0) = false := by simp; omega
    rw [hr]
    unfold sumV
    generalize hiW x = xh at *
    generalize loW x = xl at *
    have h2 : xh - 18446744073709551616 < 0 := by omega
    clear hz hn
    go_enter Tryz.func57, Tryz.ntmps57
    go_wp2_with fail
    go_ret
    exact ⟨rfl, (Below.refl _ w).alloc (Nat.le_refl _) _⟩
  · have hh := hz.2 h
    rw [h, sgnI_zero]
    unfold sumV
    rw [show hiW 0 = 0 from rfl, show loW 0 = 0 from rfl]
    clear hz hn
    go_enter Tryz.func57, Tryz.ntmps57
    go_wp2_with fail
    go_ret
    exact ⟨rfl, (Below.refl _ w).alloc (Nat.le_refl _) _⟩
  · have hh : ¬ 9223372036854775808 ≤ hiW x := fun e => by have := hn.1 e; omega
    have hr := sgnI_pos h
    have e1 : wrap64 (hiW x) = hiW x := by unfold wrap64; omega
    have h0 : (hiW x == 0 && loW x == 0) = false := by
      cases e : (hiW x == 0 && loW x == 0)
      · rfl
      · simp at e; have := hz.1 e; omega
    rw [hr]
    unfold sumV
    generalize hiW x = xh at *
    generalize loW x = xl at *
    have h2 : ¬ xh < 0 := by omega
    clear hz hn
    have heq' := fun W => (heq xh xl W).trans (by rw [h0])
    clear heq h0
    go_enter Tryz.func57, Tryz.ntmps57
    go_wp2_with fail
    go_ret
    exact ⟨rfl, (Below.refl _ w).alloc (Nat.le_refl _) _⟩

end Go.Proofs.YtimkeblcdodfmaaGreat
