/-
  Plain arithmetic of digits: what lists of digits say as numbers; sums, differences, products, quotients place by place. It imports nothing of the program; What the walks share: slices of numbers that are read; rows of numbers that the call itself has made; Strings that are numbers: their form, and what they say. Plain: nothing of the program; The iterator over a number's words, from the highest on: what it hands to each round; The words of a number: products; What a value that is a number says; sums, products, opposites; A number is read from its string; A number divided by one word; A number is written as a string; The sum of a list; the order of two numbers; 1; Rows of the call's own that grow by one: digits, bytes; int64 to string and back.
-/
import Derived.Test.YtopdeakjnloemaaProg
import Derived.WalkKit
import Derived.WalkSpells
import Derived.WalkLawsBesides
import Derived.Outline
import Derived.Deep.QuietTactic
import Derived.Deep.OwnRows
import Derived.Deep.RegionHeld3
import Derived.Deep.DeepCutAuto
import Derived.Deep.LoopGhost
import Derived.BigQuiet
import Derived.Lib.Hide
import Derived.KernelRfl
import Derived.RangeFuncNested
import Derived.RangeFuncBound
import Derived.RangeFuncCalls
import Derived.RangeFuncLeaves
import Derived.Shelf.Abstract
import Derived.Shelf.RegionOpen
import Derived.BigRegionIn
import Derived.OwnWalkIn
import Derived.TacticsInMore
import Derived.LoopNIn
import Derived.LoopIn
import Derived.Test.YtopdeakjnloemaaShelf
import Derived.Lib.OthersKept
import Derived.StillTailTactics
import Derived.OrdersIn
import Derived.Deep.RegionWith
import Derived.Lib.ItoaMem
import Derived.Lib.ItoaLen
import Derived.Lib.AppendStr
import Derived.Lib.BufferMore
import Derived.Lib.AtoiErrMem
import Derived.Lib.ParseIntB
import Derived.Lib.ParseIntBCases
namespace Go.Proofs.Ytopdeakjnloemaa
/-- The number that digits say, the lowest first. -/
def dv (b : Nat) : List Nat → Nat
  | [] => 0
  | x :: xs => x + b * dv b xs

/-- All are digits. -/
def Dg (b : Nat) (xs : List Nat) : Prop := ∀ x, x ∈ xs → x < b

/-- The highest is not 0. -/
def Tp (xs : List Nat) : Prop := xs.getLast? ≠ some 0

/-- Digits in their one form. -/
def Cn (b : Nat) (xs : List Nat) : Prop := Dg b xs ∧ Tp xs

theorem dv_cons (b x : Nat) (xs : List Nat) : dv b (x :: xs) = x + b * dv b xs := rfl

theorem dv_append (b : Nat) (xs ys : List Nat) : dv b (xs ++ ys) = dv b xs + b ^ xs.length * dv b ys := by
  induction xs with
  | nil => simp [dv]
  | cons x xs ih =>
    simp only [List.cons_append, dv, ih, List.length_cons, Nat.pow_succ]
    grind

theorem dv_snoc (b : Nat) (xs : List Nat) (y : Nat) : dv b (xs ++ [y]) = dv b xs + b ^ xs.length * y := by
  rw [dv_append]; simp [dv]

theorem Dg.nil (b : Nat) : Dg b [] := by intro x hx; cases hx
theorem Dg.cons {b x : Nat} {xs : List Nat} (h : x < b) (hs : Dg b xs) : Dg b (x :: xs) := by
  intro y hy; cases hy with
  | head => exact h
  | tail _ hy => exact hs y hy
theorem Dg.append {b : Nat} {xs ys : List Nat} (h : Dg b xs) (hs : Dg b ys) : Dg b (xs ++ ys) := by
  intro y hy; rcases List.mem_append.1 hy with h1 | h1
  · exact h y h1
  · exact hs y h1
theorem Dg.left {b : Nat} {xs ys : List Nat} (h : Dg b (xs ++ ys)) : Dg b xs := fun x hx => h x (List.mem_append_left _ hx)
theorem Dg.right {b : Nat} {xs ys : List Nat} (h : Dg b (xs ++ ys)) : Dg b ys := fun x hx => h x (List.mem_append_right _ hx)
theorem Dg.tail {b x : Nat} {xs : List Nat} (h : Dg b (x :: xs)) : Dg b xs := fun y hy => h y (List.mem_cons_of_mem _ hy)
theorem Dg.head {b x : Nat} {xs : List Nat} (h : Dg b (x :: xs)) : x < b := h x List.mem_cons_self
theorem Dg.take {b : Nat} {xs : List Nat} (h : Dg b xs) (n : Nat) : Dg b (xs.take n) := fun x hx => h x (List.mem_of_mem_take hx)
theorem Dg.drop {b : Nat} {xs : List Nat} (h : Dg b xs) (n : Nat) : Dg b (xs.drop n) := fun x hx => h x (List.mem_of_mem_drop hx)
theorem Dg.get {b : Nat} {xs : List Nat} (h : Dg b xs) (hb : 0 < b) (i : Nat) : xs[i]?.getD 0 < b := by
  cases hx : xs[i]? with
  | none => simpa using hb
  | some y => exact h y (List.mem_of_getElem? hx)
theorem Dg.set {b : Nat} {xs : List Nat} (h : Dg b xs) (i : Nat) {y : Nat} (hy : y < b) : Dg b (xs.set i y) := by
  intro x hx
  rcases List.mem_or_eq_of_mem_set hx with h1 | h1
  · exact h x h1
  · rw [h1]; exact hy
theorem Dg.replicate {b : Nat} (hb : 0 < b) (n : Nat) : Dg b (List.replicate n 0) := by
  intro x hx; rw [(List.mem_replicate.1 hx).2]; exact hb

theorem dv_lt {b : Nat} {xs : List Nat} (h : Dg b xs) : dv b xs < b ^ xs.length := by
  induction xs with
  | nil => simp [dv]
  | cons x xs ih =>
    have h1 := ih h.tail
    have h2 := h.head
    simp only [dv, List.length_cons, Nat.pow_succ]
    have h3 : dv b xs + 1 ≤ b ^ xs.length := h1
    have h4 := Nat.mul_le_mul_left b h3
    rw [Nat.mul_comm (b ^ xs.length) b]
    rw [Nat.mul_add] at h4
    omega

theorem dv_replicate (b n : Nat) : dv b (List.replicate n 0) = 0 := by
  induction n with
  | zero => rfl
  | succ n ih => simp [List.replicate_succ, dv, ih]

/-- Digits below a place, and those from it on. -/
theorem dv_take_drop (b : Nat) (xs : List Nat) (n : Nat) (hn : n ≤ xs.length) : dv b xs = dv b (xs.take n) + b ^ n * dv b (xs.drop n) := by
  conv => lhs; rw [← List.take_append_drop n xs]
  rw [dv_append, List.length_take, Nat.min_eq_left hn]

theorem take_snoc (xs : List Nat) (k : Nat) (h : k < xs.length) : xs.take (k + 1) = xs.take k ++ [xs[k]?.getD 0] := by
  rw [List.take_succ_eq_append_getElem h]; simp [h]

theorem dv_take_succ (b : Nat) (xs : List Nat) (k : Nat) : dv b (xs.take (k + 1)) = dv b (xs.take k) + b ^ k * xs[k]?.getD 0 := by
  by_cases h : k < xs.length
  · rw [take_snoc xs k h, dv_snoc, List.length_take, Nat.min_eq_left (Nat.le_of_lt h)]
  · have h1 : xs.length ≤ k := by omega
    rw [List.take_of_length_le h1, List.take_of_length_le (by omega)]
    simp [h1]

/-- Zeros at the top cut off. -/
def trimLen (xs : List Nat) : Nat → Nat
  | 0 => 0
  | n + 1 => if xs[n]?.getD 0 = 0 then trimLen xs n else n + 1

def trimZ (xs : List Nat) : List Nat := xs.take (trimLen xs xs.length)

theorem trimLen_le (xs : List Nat) (n : Nat) : trimLen xs n ≤ n := by
  induction n with
  | zero => exact Nat.le_refl _
  | succ n ih => unfold trimLen; split <;> omega

theorem dv_trimLen (b : Nat) (xs : List Nat) (n : Nat) : dv b (xs.take (trimLen xs n)) = dv b (xs.take n) := by
  induction n with
  | zero => rfl
  | succ n ih =>
    unfold trimLen
    split
    · rename_i h; rw [ih, dv_take_succ, h]; simp
    · rfl

theorem dv_trimZ (b : Nat) (xs : List Nat) : dv b (trimZ xs) = dv b xs := by
  unfold trimZ; rw [dv_trimLen]; simp

theorem trimLen_top (xs : List Nat) (n : Nat) (hn : n ≤ xs.length) : Tp (xs.take (trimLen xs n)) := by
  induction n with
  | zero => simp [trimLen, Tp]
  | succ n ih =>
    unfold trimLen
    split
    · exact ih (by omega)
    · rename_i h
      unfold Tp
      rw [take_snoc xs n (by omega)]
      simp only [List.getLast?_append, List.getLast?_singleton, Option.some_or]
      intro h1; exact h (Option.some.inj h1)

theorem trimZ_top (xs : List Nat) : Tp (trimZ xs) := trimLen_top xs _ (Nat.le_refl _)

theorem trimZ_cn {b : Nat} {xs : List Nat} (h : Dg b xs) : Cn b (trimZ xs) := ⟨h.take _, trimZ_top xs⟩

/-- A number whose highest digit is not 0 is long. -/
theorem Cn.lower {b : Nat} {xs : List Nat} (h : Cn b xs) (hn : xs ≠ []) : b ^ (xs.length - 1) ≤ dv b xs := by
  obtain ⟨ys, y, rfl⟩ : ∃ ys y, xs = ys ++ [y] := ⟨xs.dropLast, xs.getLast hn, (List.dropLast_concat_getLast hn).symm⟩
  have hy : y ≠ 0 := by
    intro e; apply h.2; simp [e]
  rw [dv_snoc]
  simp only [List.length_append, List.length_singleton, Nat.add_sub_cancel]
  have : b ^ ys.length * 1 ≤ b ^ ys.length * y := Nat.mul_le_mul_left _ (by omega)
  omega

theorem Cn.nil (b : Nat) : Cn b [] := ⟨Dg.nil b, by simp [Tp]⟩

theorem Cn.pos {b : Nat} (hb : 0 < b) {xs : List Nat} (h : Cn b xs) (hn : xs ≠ []) : 0 < dv b xs :=
  Nat.lt_of_lt_of_le (Nat.pow_pos hb) (h.lower hn)

theorem Cn.zero {b : Nat} (hb : 0 < b) {xs : List Nat} (h : Cn b xs) : dv b xs = 0 ↔ xs = [] := by
  constructor
  · intro h1
    by_cases hn : xs = []
    · exact hn
    · have := h.pos hb hn; omega
  · intro h1; rw [h1]; rfl

/-- The longer number is the greater one. -/
theorem Cn.lt_of_length {b : Nat} (hb : 0 < b) {xs ys : List Nat} (hx : Dg b xs) (hy : Cn b ys) (h : xs.length < ys.length) : dv b xs < dv b ys := by
  have h1 := dv_lt hx
  have h2 := hy.lower (by intro e; rw [e] at h; simp at h)
  have h3 : b ^ xs.length ≤ b ^ (ys.length - 1) := Nat.pow_le_pow_right hb (by omega)
  omega

theorem Cn.length_le {b : Nat} (hb : 1 < b) {xs : List Nat} (h : Cn b xs) {m : Nat} (hm : dv b xs < b ^ m) : xs.length ≤ m := by
  by_cases hn : xs = []
  · subst hn; simp
  · have h1 := h.lower hn
    rcases Nat.lt_or_ge m xs.length with h2 | h2
    · have := Nat.pow_le_pow_right (n := b) (by omega) (show m ≤ xs.length - 1 by omega)
      omega
    · exact h2

theorem Dg.inj {b : Nat} (hb : 0 < b) : ∀ {xs ys : List Nat}, Dg b xs → Dg b ys → xs.length = ys.length → dv b xs = dv b ys → xs = ys
  | [], [], _, _, _, _ => rfl
  | [], _ :: _, _, _, h, _ => by simp at h
  | _ :: _, [], _, _, h, _ => by simp at h
  | x :: xs, y :: ys, hx, hy, h, e => by
    simp only [dv] at e
    have h1 := hx.head
    have h2 := hy.head
    have e1 : x = y := by
      have := congrArg (· % b) e
      simpa [Nat.add_mul_mod_self_left, Nat.mod_eq_of_lt h1, Nat.mod_eq_of_lt h2] using this
    subst e1
    have e2 : dv b xs = dv b ys := Nat.eq_of_mul_eq_mul_left hb (by omega)
    rw [Dg.inj hb hx.tail hy.tail (by simpa using h) e2]

theorem Cn.inj {b : Nat} (hb : 0 < b) {xs ys : List Nat} (hx : Cn b xs) (hy : Cn b ys) (e : dv b xs = dv b ys) : xs = ys := by
  rcases Nat.lt_trichotomy xs.length ys.length with h | h | h
  · have := Cn.lt_of_length hb hx.1 hy h; omega
  · exact Dg.inj hb hx.1 hy.1 h e
  · have := Cn.lt_of_length hb hy.1 hx h; omega

theorem dv_set (b : Nat) (xs : List Nat) (k v : Nat) (hk : k < xs.length) : dv b (xs.set k v) + b ^ k * xs[k]?.getD 0 = dv b xs + b ^ k * v := by
  induction xs generalizing k with
  | nil => simp at hk
  | cons x xs ih =>
    cases k with
    | zero => simp [dv]; omega
    | succ k =>
      have h := ih k (by simpa using hk)
      simp only [List.set_cons_succ, dv, List.getElem?_cons_succ, Nat.pow_succ]
      grind

/-- One word of a product fits. -/
theorem mul_fits {b c x w z : Nat} (hb : 0 < b) (hc : c < b) (hx : x < b) (hw : w < b) (hz : z < b) : c + (x * w + z) < b * b := by
  have h1 : x * w ≤ (b - 1) * (b - 1) := Nat.mul_le_mul (by omega) (by omega)
  obtain ⟨a, rfl⟩ : ∃ a, b = a + 1 := ⟨b - 1, by omega⟩
  simp only [Nat.add_sub_cancel] at h1
  have : (a + 1) * (a + 1) = a * a + 2 * a + 1 := by grind
  omega

theorem trimLen_cut {xs : List Nat} {k : Nat} (h : xs[k]?.getD 0 = 0) : trimLen xs (k + 1) = trimLen xs k := by rw [trimLen]; exact if_pos h
theorem trimLen_keep {xs : List Nat} {k : Nat} (h : ¬ xs[k]?.getD 0 = 0) : trimLen xs (k + 1) = k + 1 := by rw [trimLen]; exact if_neg h

/-- One place of a row of a product: what was there, what is written, what is carried. -/
theorem mul_place {b : Nat} {zs : List Nat} {at_ s x w c : Nat} (hk : at_ < zs.length) (hs : s = c + (x * w + zs[at_]?.getD 0)) :
    dv b (zs.set at_ (s % b)) + b ^ (at_ + 1) * (s / b) = dv b zs + b ^ at_ * c + b ^ at_ * (x * w) := by
  have h := dv_set b zs at_ (s % b) hk
  have e := Nat.mod_add_div s b
  have e2 : b ^ at_ * (s % b) + b ^ (at_ + 1) * (s / b) = b ^ at_ * s := by
    rw [Nat.pow_succ, Nat.mul_assoc, ← Nat.mul_add, e]
  have e3 : b ^ at_ * s = b ^ at_ * c + (b ^ at_ * (x * w) + b ^ at_ * zs[at_]?.getD 0) := by rw [hs, Nat.mul_add, Nat.mul_add]
  omega

theorem set_get_other (zs : List Nat) (i j x : Nat) (h : i ≠ j) : (zs.set i x)[j]?.getD 0 = zs[j]?.getD 0 := by
  rw [List.getElem?_set_ne h]

theorem drop_set_at' (qs : List Nat) (i v : Nat) (h : i < qs.length) : (qs.set i v).drop i = v :: qs.drop (i + 1) := by
  rw [List.drop_eq_getElem_cons (by simpa using h)]
  simp [List.drop_set]

/-- The words' base. -/
abbrev BW : Nat := 1000000000

end Go.Proofs.Ytopdeakjnloemaa

namespace Go.Proofs.Ytopdeakjnloemaa
open Go.RowKit

/-- A slice value reads as numbers. -/
def Rd (k : IntKind) (w : World) (p : Option Addr) (n : Nat) (xs : List Nat) : Prop :=
  xs.length = n ∧ ∀ i, i < n → ∃ b off, p = some ⟨b, off, none⟩ ∧ b < w.heap.size ∧ w.cell? ⟨b, off + i, none⟩ = some (.int k ((xs[i]?.getD 0 : Nat) : Int))

/-- Numbers as cells. -/
def cellsOf (k : IntKind) (ns : List Nat) : Array Value := (ns.map fun (n : Nat) => Value.int k (n : Int)).toArray

/-- Block B is a row of numbers. -/
def Own (k : IntKind) (e : TypeId) (w : World) (B : Nat) (ns : List Nat) : Prop := w.heap[B]? = some (.cells (cellsOf k ns) e (0, 0))

theorem cellsOf_at (k : IntKind) (ns : List Nat) (i : Nat) (h : i < ns.length) : (cellsOf k ns)[i]? = some (.int k ((ns[i]?.getD 0 : Nat) : Int)) := by
  unfold cellsOf; simp [h]

theorem cellsOf_set (k : IntKind) (ns : List Nat) (i x : Nat) : (cellsOf k ns).setIfInBounds i (.int k (x : Int)) = cellsOf k (ns.set i x) := by
  unfold cellsOf; simp [List.map_set]

theorem cellsOf_zeros (k : IntKind) (n : Nat) : Go.madeCells #[Value.int k 0] n = cellsOf k (List.replicate n 0) := by
  unfold Go.madeCells cellsOf
  apply Array.ext
  · simp
  · intro i h1 h2
    simp at h1
    simp [Nat.mod_one]

theorem Own.cell {k : IntKind} {e : TypeId} {w : World} {B : Nat} {ns : List Nat} (h : Own k e w B ns) (i : Nat) (hi : i < ns.length) :
    w.cell? ⟨B, i, none⟩ = some (.int k ((ns[i]?.getD 0 : Nat) : Int)) := by
  unfold Own at h; unfold World.cell?; simp only [h]; simpa using cellsOf_at k ns i hi

theorem Own.frozen {k : IntKind} {e : TypeId} {w : World} {B : Nat} {ns : List Nat} (h : Own k e w B ns) (i : Nat) : w.frozen? ⟨B, i, none⟩ = false := by
  unfold Own at h; unfold World.frozen?; simp [h]

theorem Own.lt {k : IntKind} {e : TypeId} {w : World} {B : Nat} {ns : List Nat} (h : Own k e w B ns) : B < w.heap.size := by
  unfold Own at h; exact (Array.getElem?_eq_some_iff.1 h).1

theorem Own.set {k : IntKind} {e : TypeId} {w : World} {B : Nat} {ns : List Nat} (h : Own k e w B ns) (i x : Nat) :
    Own k e (w.setCell ⟨B, i, none⟩ (.int k (x : Int))) B (ns.set i x) := by
  unfold Own at h ⊢
  unfold World.setCell
  simp only [Array.getElem?_modify, if_true, h, Option.map_some]
  rw [← cellsOf_set]; rfl

theorem Own.rd {k : IntKind} {e : TypeId} {w : World} {B : Nat} {ns : List Nat} (h : Own k e w B ns) {n : Nat} (hn : ns.length = n) : Rd k w (some ⟨B, 0, none⟩) n ns :=
  ⟨hn, fun i hi => ⟨B, 0, rfl, h.lt, by rw [Nat.zero_add]; exact h.cell i (by omega)⟩⟩

theorem Own.new (k : IntKind) (e : TypeId) (w : World) (n : Nat) : Own k e (w.alloc (.cells (Go.madeCells #[Value.int k 0] n) e)) w.heap.size (List.replicate n 0) := by
  unfold Own World.alloc
  rw [← cellsOf_zeros]
  simp

theorem Own.below {k : IntKind} {e : TypeId} {w w' : World} {B C : Nat} {ns : List Nat} (h : Own k e w B ns) (hb : Below C w w') (hC : B < C) : Own k e w' B ns := by
  unfold Own at h ⊢; rw [hb.block B hC]; exact h

theorem Rd.below {k : IntKind} {w w' : World} {p : Option Addr} {n : Nat} {xs : List Nat} (h : Rd k w p n xs) (hb : Below w.heap.size w w') : Rd k w' p n xs := by
  refine ⟨h.1, fun i hi => ?_⟩
  obtain ⟨b, off, hp, hlt, hc⟩ := h.2 i hi
  exact ⟨b, off, hp, Nat.lt_of_lt_of_le hlt hb.size, (hb.cell (p := ⟨b, off + i, none⟩) hlt).trans hc⟩

theorem Rd.take {k : IntKind} {w : World} {p : Option Addr} {n : Nat} {xs : List Nat} (h : Rd k w p n xs) (m : Nat) (hm : m ≤ n) : Rd k w p m (xs.take m) := by
  refine ⟨by rw [List.length_take, h.1]; omega, fun i hi => ?_⟩
  obtain ⟨b, off, hp, hlt, hc⟩ := h.2 i (by omega)
  refine ⟨b, off, hp, hlt, ?_⟩
  rw [hc, List.getElem?_take_of_lt hi]

theorem Rd.nil (k : IntKind) (w : World) (p : Option Addr) : Rd k w p 0 [] := ⟨rfl, fun i hi => by omega⟩

theorem bcell {W w1 : World} (hb : Below W.heap.size W w1) : (∀ b o, b < W.heap.size → w1.cell? ⟨b, o, none⟩ = W.cell? ⟨b, o, none⟩) ∧ (∀ b o, b < W.heap.size → w1.frozen? ⟨b, o, none⟩ = W.frozen? ⟨b, o, none⟩) :=
  ⟨fun b o h => hb.cell (p := ⟨b, o, none⟩) h, fun b o h => hb.frozen (p := ⟨b, o, none⟩) h⟩

theorem ret_int {k : IntKind} {a b : Int} (h : a = b) : Ending.returned (.int k a) = .returned (.int k b) := by rw [h]

theorem Try.info3 : (Try.prog.info? 3).map (fun i => (i.zero, i.size, i.bytes)) = some (some (.int .i64 0), 1, 8) := by kernel_rfl

end Go.Proofs.Ytopdeakjnloemaa

namespace Go.Proofs.Ytopdeakjnloemaa

/-- What stands behind a minus, if there is one. -/
def digitsOf : List UInt8 → List UInt8
  | [] => []
  | c :: t => if c = 45 then t else c :: t
def isNeg : List UInt8 → Bool
  | [] => false
  | c :: _ => c == 45
/-- What decimal digits say, the highest first. -/
def decV (l : List UInt8) : Nat := l.foldl (fun a c => a * 10 + (c.toNat - 48)) 0
theorem decV_snoc (l : List UInt8) (c : UInt8) : decV (l ++ [c]) = decV l * 10 + (c.toNat - 48) := by
  unfold decV; rw [List.foldl_append]; rfl

end Go.Proofs.Ytopdeakjnloemaa

namespace Go.Proofs.Ytopdeakjnloemaa
open Go.RowKit

/-- -1, 0 or 1. -/
def sgnCmp (a b : Int) : Int := if a < b then -1 else if a = b then 0 else 1
theorem sgnCmp_lt {a b : Int} (h : a < b) : sgnCmp a b = -1 := by rw [sgnCmp, if_pos h]
theorem sgnCmp_gt {a b : Int} (h : b < a) : sgnCmp a b = 1 := by rw [sgnCmp, if_neg (by omega), if_neg (by omega)]
theorem sgnCmp_eq (a : Int) : sgnCmp a a = 0 := by rw [sgnCmp, if_neg (by omega), if_pos rfl]

end Go.Proofs.Ytopdeakjnloemaa

namespace Go.Proofs.Ytopdeakjnloemaa
open Go.RowKit Go.Shelf
attribute [local go_sem] Oper.semAt_some

/-- The blocks of S lie as they lay. -/
def KeepsAt (S : Nat → Prop) (W W' : World) : Prop := ∀ b, S b → W'.heap[b]? = W.heap[b]?
theorem KeepsAt.refl (S : Nat → Prop) (W : World) : KeepsAt S W W := fun _ _ => rfl
theorem KeepsAt.trans {S : Nat → Prop} {A B C : World} (h : KeepsAt S A B) (k : KeepsAt S B C) : KeepsAt S A C := fun b hb => (k b hb).trans (h b hb)
theorem KeepsAt.cell {S : Nat → Prop} {W W' : World} (h : KeepsAt S W W') {p : Addr} (hp : S p.block) : W'.cell? p = W.cell? p := World.cell?_of_block (w := W) (h p.block hp)
theorem KeepsAt.of_below {S : Nat → Prop} {B : Nat} {W W' : World} (h : Below B W W') (hS : ∀ b, S b → b < B) : KeepsAt S W W' := fun b hb => h.block b (hS b hb)
theorem KeepsAt.setCell {S : Nat → Prop} {W W' : World} (h : KeepsAt S W W') (a : Addr) (v : Value) (ha : ¬ S a.block) : KeepsAt S W (W'.setCell a v) :=
  h.trans fun b hb => Below.heap_setCell _ _ _ _ (fun e => ha (e ▸ hb))
theorem KeepsAt.putObj {S : Nat → Prop} {N : Nat} (hS : ∀ b, S b → b < N) (W : World) (l : Nat) (o o' : Obj) (hl : N ≤ l) (_ : W.heap[l]? = some o) (_ : o.isCells = false) (_ : o.isWalk = false) : KeepsAt S W (W.putObj l o') :=
  fun b hb => World.putObj_heap_other (by have := hS b hb; omega)

end Go.Proofs.Ytopdeakjnloemaa

namespace Go.Proofs.Ytopdeakjnloemaa
open Go.RowKit

/-- What the outer loop has done: i words of x. -/
def MulOut (xs ys zs : List Nat) (i : Nat) : Prop :=
  zs.length = xs.length + ys.length ∧ Dg BW zs ∧ dv BW zs = dv BW (xs.take i) * dv BW ys ∧ ∀ t, i + ys.length ≤ t → zs[t]?.getD 0 = 0

/-- What the inner loop has done: word i of x, j words of y. -/
def MulIn (xs ys z0 zs : List Nat) (i j c : Nat) : Prop :=
  zs.length = xs.length + ys.length ∧ Dg BW zs ∧ c < BW ∧ dv BW zs + BW ^ (i + j) * c = dv BW z0 + BW ^ i * (xs[i]?.getD 0 * dv BW (ys.take j)) ∧ ∀ t, i + ys.length ≤ t → zs[t]?.getD 0 = 0

theorem MulIn.start {xs ys zs : List Nat} {i : Nat} (h : MulOut xs ys zs i) : MulIn xs ys zs zs i 0 0 :=
  ⟨h.1, h.2.1, by decide, by simp [dv], h.2.2.2⟩

theorem MulIn.step {xs ys z0 zs : List Nat} {i j c : Nat} (h : MulIn xs ys z0 zs i j c) (hi : i < xs.length) (hj : j < ys.length) (gx : Dg BW xs) (gy : Dg BW ys) :
    MulIn xs ys z0 (zs.set (i + j) ((c + (xs[i]?.getD 0 * ys[j]?.getD 0 + zs[i + j]?.getD 0)) % BW)) i (j + 1) ((c + (xs[i]?.getD 0 * ys[j]?.getD 0 + zs[i + j]?.getD 0)) / BW) := by
  obtain ⟨h1, h2, h3, h4, h5⟩ := h
  refine ⟨by simp [h1], h2.set _ (Nat.mod_lt _ (by decide)), ?_, ?_, ?_⟩
  · rw [Nat.div_lt_iff_lt_mul (by decide)]
    exact mul_fits (by decide) h3 (gx.get (by decide) i) (gy.get (by decide) j) (h2.get (by decide) (i + j))
  · have g := mul_place (b := BW) (zs := zs) (at_ := i + j) (x := xs[i]?.getD 0) (w := ys[j]?.getD 0) (c := c) (by omega) rfl
    rw [← Nat.add_assoc i j 1, g, h4, dv_take_succ, Nat.mul_add, Nat.mul_add, Nat.pow_add]
    grind
  · intro t ht
    rw [set_get_other _ _ _ _ (by omega)]; exact h5 t ht

theorem MulIn.finish {xs ys z0 zs : List Nat} {i c : Nat} (h : MulIn xs ys z0 zs i ys.length c) (h0 : MulOut xs ys z0 i) (hi : i < xs.length) : MulOut xs ys (zs.set (i + ys.length) c) (i + 1) := by
  obtain ⟨h1, h2, h3, h4, h5⟩ := h
  refine ⟨by simp [h1], h2.set _ h3, ?_, ?_⟩
  · have g := dv_set BW zs (i + ys.length) c (by omega)
    rw [h5 _ (Nat.le_refl _), Nat.mul_zero, Nat.add_zero] at g
    rw [g, h4, dv_take_succ, List.take_of_length_le (Nat.le_refl _), h0.2.2.1, Nat.add_mul, Nat.mul_assoc]
  · intro t ht
    rw [set_get_other _ _ _ _ (by omega)]; exact h5 t (by omega)

theorem MulIn.small {xs ys z0 zs : List Nat} {i j c : Nat} (h : MulIn xs ys z0 zs i j c) : c < 1000000000 := h.2.2.1

end Go.Proofs.Ytopdeakjnloemaa

namespace Go.Proofs.Ytopdeakjnloemaa
open Go.RowKit

theorem Rd.setOther {k : IntKind} {w : World} {p : Option Addr} {n : Nat} {xs : List Nat} (h : Rd k w p n xs) {b o : Nat} {u : Value} (hu : w.cell? ⟨b, o, none⟩ = some u) (hne : ∀ x, u ≠ .int k x) (v : Value) : Rd k (w.setCell ⟨b, o, none⟩ v) p n xs := by
  refine ⟨h.1, fun i hi => ?_⟩
  obtain ⟨b', off, hp, hlt, hc⟩ := h.2 i hi
  refine ⟨b', off, hp, by simpa using hlt, ?_⟩
  rw [World.cell?_setCell_other _ _ _ _ (fun e => ?_)]
  · exact hc
  · rw [e] at hu; rw [hu] at hc; exact hne _ (Option.some.inj hc)

theorem Rd.drew {k : IntKind} {w : World} {p : Option Addr} {n : Nat} {xs : List Nat} (h : Rd k w p n xs) : Rd k w.drew p n xs := h

theorem two_set {W : World} {B : Nat} {u0 u1 : Value} (v0 v1 : Value) (h0 : W.cell? ⟨B, 0, none⟩ = some u0) (h1 : W.cell? ⟨B, 1, none⟩ = some u1) :
    ((W.setCell ⟨B, 0, none⟩ v0).setCell ⟨B, 1, none⟩ v1).cell? ⟨B, 0, none⟩ = some v0 ∧ ((W.setCell ⟨B, 0, none⟩ v0).setCell ⟨B, 1, none⟩ v1).cell? ⟨B, 1, none⟩ = some v1 ∧ (W.setCell ⟨B, 0, none⟩ v0).cell? ⟨B, 1, none⟩ = some u1 := by
  have h2 : (W.setCell ⟨B, 0, none⟩ v0).cell? ⟨B, 1, none⟩ = some u1 := (World.cell?_setCell_other _ _ _ _ (by simp)).trans h1
  exact ⟨(World.cell?_setCell_other _ _ _ _ (by simp)).trans (World.cell?_setCell_same _ _ _ h0), World.cell?_setCell_same _ _ _ h2, h2⟩

/-- A number written into a new variable of its own. -/
theorem Rd.two_set {W : World} {p : Option Addr} {n : Nat} {xs : List Nat} (h : Rd .u64 W p n xs) {B : Nat} (v0 v1 : Value) (h0 : W.cell? ⟨B, 0, none⟩ = some (.bool false)) (h1 : W.cell? ⟨B, 1, none⟩ = some (.slice none 0 0)) :
    Rd .u64 ((W.setCell ⟨B, 0, none⟩ v0).setCell ⟨B, 1, none⟩ v1) p n xs :=
  (h.setOther h0 (by intro x e; cases e) v0).setOther (Go.Proofs.Ytopdeakjnloemaa.two_set v0 v1 h0 h1).2.2 (by intro x e; cases e) v1

end Go.Proofs.Ytopdeakjnloemaa

namespace Go.Proofs.Ytopdeakjnloemaa
open Go.RowKit

/-- The integer of a sign and words. -/
def sv (neg : Bool) (d : Nat) : Int := if neg then -(d : Int) else (d : Int)

end Go.Proofs.Ytopdeakjnloemaa

namespace Go.Proofs.Ytopdeakjnloemaa
open Go.RowKit

/-- A sign and a slice of words say the integer z; the words are at most L. -/
structure NumIs (w : World) (neg : Bool) (p : Option Addr) (n c : Nat) (xs : List Nat) (z : Int) (L : Nat) : Prop where
  rd : Rd .u64 w p n xs
  cap : n ≤ c
  len : n ≤ L
  cn : Cn BW xs
  pos : neg = true → 0 < n
  val : z = sv neg (dv BW xs)

theorem NumIs.below {w w' : World} {neg : Bool} {p : Option Addr} {n c : Nat} {xs : List Nat} {z : Int} {L : Nat} (h : NumIs w neg p n c xs z L) (hb : Below w.heap.size w w') : NumIs w' neg p n c xs z L :=
  { h with rd := h.rd.below hb }

theorem NumIs.mono {w : World} {neg : Bool} {p : Option Addr} {n c : Nat} {xs : List Nat} {z : Int} {L M : Nat} (h : NumIs w neg p n c xs z L) (hM : L ≤ M) : NumIs w neg p n c xs z M :=
  { h with len := Nat.le_trans h.len hM }

theorem sv_natAbs (neg : Bool) (d : Nat) : (sv neg d).natAbs = d := by cases neg <;> simp [sv]

theorem NumIs.small {w : World} {neg : Bool} {p : Option Addr} {n c : Nat} {xs : List Nat} {z : Int} {L : Nat} (h : NumIs w neg p n c xs z L) : z.natAbs < BW ^ L := by
  rw [h.val, sv_natAbs]
  have h1 := dv_lt h.cn.1
  rw [h.rd.1] at h1
  exact Nat.lt_of_lt_of_le h1 (Nat.pow_le_pow_right (by decide) h.len)

end Go.Proofs.Ytopdeakjnloemaa

namespace Go.Proofs.Ytopdeakjnloemaa
open Go.RowKit

/-- What holds when r digits are still to come: the group of the next one is (r - 1) / 9. -/
def ReadI (ds : List UInt8) (ws : List Nat) (k : Nat) : Prop :=
  ws.length = (ds.length + 8) / 9 ∧ Dg BW ws ∧ k ≤ ds.length ∧
  (k = ds.length → dv BW ws = decV ds) ∧
  (k < ds.length → decV (ds.take k) = ws[(ds.length - k - 1) / 9]?.getD 0 + 10 ^ (9 * ((ds.length - k - 1) / 9 + 1) - (ds.length - k)) * dv BW (ws.drop ((ds.length - k - 1) / 9 + 1)) ∧
    ws[(ds.length - k - 1) / 9]?.getD 0 < 10 ^ (9 * ((ds.length - k - 1) / 9 + 1) - (ds.length - k)) ∧ ∀ t, t < (ds.length - k - 1) / 9 → ws[t]?.getD 0 = 0)

theorem ReadI.start (ds : List UInt8) (h : 0 < ds.length) : ReadI ds (List.replicate ((ds.length + 8) / 9) 0) 0 := by
  refine ⟨by simp, Dg.replicate (by decide) _, Nat.zero_le _, fun e => by omega, fun _ => ⟨?_, ?_, fun t _ => ?_⟩⟩
  · rw [List.drop_of_length_le (by simp; omega)]
    simp only [List.take_zero, decV, List.foldl_nil, dv, Nat.mul_zero, Nat.add_zero]
    rw [List.getElem?_replicate]; split <;> rfl
  · rw [List.getElem?_replicate]
    have : (if (ds.length - 0 - 1) / 9 < (ds.length + 8) / 9 then some 0 else none).getD 0 = 0 := by split <;> rfl
    rw [this]; exact Nat.pow_pos (by decide)
  · rw [List.getElem?_replicate]; split <;> rfl

theorem dv_zeros_below {ws : List Nat} {g : Nat} (h : ∀ t, t < g → ws[t]?.getD 0 = 0) (hg : g ≤ ws.length) : dv BW ws = BW ^ g * dv BW (ws.drop g) := by
  rw [dv_take_drop BW ws g hg]
  have : ws.take g = List.replicate g 0 := by
    apply List.ext_getElem
    · simp [hg]
    · intro i h1 h2
      simp at h1
      have hi : i < ws.length := by omega
      have := h i (by omega)
      rw [List.getElem?_eq_getElem hi] at this
      simpa using this
  rw [this, dv_replicate]; simp

theorem ReadI.step {ds : List UInt8} {ws : List Nat} {k d : Nat} (h : ReadI ds ws k) (hk : k < ds.length) (hd : d < 10) (hdk : (ds[k]'hk).toNat - 48 = d) :
    ws[(ds.length - k - 1) / 9]?.getD 0 < 100000000 ∧ ReadI ds (ws.set ((ds.length - k - 1) / 9) (ws[(ds.length - k - 1) / 9]?.getD 0 * 10 + d)) (k + 1) := by
  obtain ⟨h1, h2, h3, _, h5⟩ := h
  obtain ⟨i1, i2, i3⟩ := h5 hk
  have htk : decV (ds.take (k + 1)) = decV (ds.take k) * 10 + d := by
    rw [List.take_succ_eq_append_getElem hk, decV_snoc, hdk]
  generalize hg : (ds.length - k - 1) / 9 = g at *
  have hgl : g < ws.length := by omega
  generalize hx : ws[g]?.getD 0 = x at *
  generalize hc : 9 * (g + 1) - (ds.length - k) = c at *
  have hc9 : c + 1 ≤ 9 := by omega
  have hp : 10 ^ (c + 1) ≤ 10 ^ 9 := Nat.pow_le_pow_right (by decide) hc9
  rw [Nat.pow_succ] at hp
  have hsmall : x * 10 + d < 10 ^ (c + 1) := by rw [Nat.pow_succ]; omega
  have hp8 : 10 ^ c ≤ 10 ^ 8 := Nat.pow_le_pow_right (by decide) (by omega)
  refine ⟨by omega, by simp [h1], h2.set _ (by show _ < 1000000000; rw [Nat.pow_succ] at hsmall; omega), by omega, ?_, ?_⟩
  · intro he
    have hg0 : g = 0 := by omega
    have hc8 : c = 8 := by omega
    subst hg0 hc8
    have e1 : ds.take (k + 1) = ds := List.take_of_length_le (by omega)
    rw [e1] at htk
    have e2 := dv_zeros_below (ws := ws.set 0 (x * 10 + d)) (g := 0) (fun t ht => by omega) (by omega)
    rw [e2, List.drop_zero]
    have e3 : ws.set 0 (x * 10 + d) = (x * 10 + d) :: ws.drop 1 := by
      have := drop_set_at' ws 0 (x * 10 + d) hgl
      simpa using this
    rw [e3, dv_cons, htk, i1]
    have : (10 : Nat) ^ 8 = 100000000 := by decide
    simp only [Nat.zero_add, Nat.pow_zero, Nat.one_mul, this]
    show _ + 1000000000 * _ = _
    omega
  · intro hk1
    rw [htk, i1]
    by_cases hsame : (ds.length - (k + 1) - 1) / 9 = g
    · rw [hsame]
      have hc1 : 9 * (g + 1) - (ds.length - (k + 1)) = c + 1 := by omega
      rw [hc1, List.getElem?_set_self hgl, List.drop_set_of_lt (by omega)]
      refine ⟨?_, hsmall, fun t ht => ?_⟩
      · simp only [Option.getD_some, Nat.pow_succ]
        generalize dv BW (ws.drop (g + 1)) = H
        generalize 10 ^ c = e
        grind
      · rw [set_get_other _ _ _ _ (by omega)]; exact i3 t ht
    · have hgp : (ds.length - (k + 1) - 1) / 9 = g - 1 := by omega
      have hg1 : 1 ≤ g := by omega
      have hc8 : c = 8 := by omega
      have hc0 : 9 * (g - 1 + 1) - (ds.length - (k + 1)) = 0 := by omega
      have e1 : g - 1 + 1 = g := by omega
      rw [hgp, hc0, e1, set_get_other _ _ _ _ (by omega), i3 (g - 1) (by omega)]
      refine ⟨?_, by decide, fun t ht => ?_⟩
      · rw [drop_set_at' _ _ _ hgl, dv_cons, hc8]
        have : (10 : Nat) ^ 8 = 100000000 := by decide
        simp only [this, Nat.pow_zero, Nat.one_mul, Nat.zero_add]
        show _ = _ + 1000000000 * _
        omega
      · rw [set_get_other _ _ _ _ (by omega)]; exact i3 t (by omega)

theorem ReadI.finish {ds : List UInt8} {ws : List Nat} (h : ReadI ds ws ds.length) : ws.length = (ds.length + 8) / 9 ∧ Dg BW ws ∧ dv BW ws = decV ds := ⟨h.1, h.2.1, h.2.2.2.1 rfl⟩

theorem neg_iff (l : List UInt8) : decide ((digitsOf l).length < l.length) = isNeg l := by
  cases l with
  | nil => rfl
  | cons c t =>
    rw [digitsOf.eq_2]
    by_cases h : c = 45
    · subst h; simp [isNeg]
    · simp [h, isNeg]

end Go.Proofs.Ytopdeakjnloemaa

namespace Go.Proofs.Ytopdeakjnloemaa
open Go.RowKit
variable {P : Program} {ops : Array Oper} {Q : Exit → Act → World → Prop}

end Go.Proofs.Ytopdeakjnloemaa

namespace Go.Proofs.Ytopdeakjnloemaa
open Go.RowKit Go.Shelf
attribute [local go_sem] Oper.semAt_some

theorem Own.kept {k : IntKind} {e : TypeId} {A A' : World} {B : Nat} {ns : List Nat} (h : Own k e A B ns) {row : Option Nat} (hg : A.grownBy A' row) (hr : ∀ r, row = some r → ∃ o : Obj, A.heap[r]? = some o ∧ o.isCells = false) : Own k e A' B ns := by
  unfold Own at h ⊢
  rw [hg.block B (Array.getElem?_eq_some_iff.1 h).1 (fun e' => by obtain ⟨o, ho, hc⟩ := hr B e'.symm; rw [h] at ho; cases ho; cases hc)]
  exact h

theorem Own.putObj {k : IntKind} {e : TypeId} {A : World} {B : Nat} {ns : List Nat} (h : Own k e A B ns) (D : Nat) (o o' : Obj) (hD : A.heap[D]? = some o) (ho : o.isCells = false) : Own k e (A.putObj D o') B ns :=
  h.kept (grownBy_putObj' A D o') (fun r e => by cases e; exact ⟨o, hD, ho⟩)

theorem Own.setOther {k : IntKind} {e : TypeId} {A : World} {B : Nat} {ns : List Nat} (h : Own k e A B ns) (a : Addr) (v : Value) (ha : B ≠ a.block) : Own k e (A.setCell a v) B ns := by
  unfold Own at h ⊢; rw [Below.heap_setCell _ _ _ _ ha]; exact h

theorem Boxed.setOther {A : World} {B : Nat} {t : TypeId} {v : Value} (h : Boxed A B t v) (a : Addr) (x : Value) (ha : B ≠ a.block) : Boxed (A.setCell a x) B t v := by
  unfold Boxed at h ⊢; rw [Below.heap_setCell _ _ _ _ ha]; exact h

end Go.Proofs.Ytopdeakjnloemaa

namespace Go.Proofs.Ytopdeakjnloemaa
open Go.RowKit Go.Shelf Go.Lib
attribute [local go_sem] Oper.semAt_some

/-- A variable of two cells. -/
def Boxed2 (W : World) (B : Nat) (a b : Value) (t : TypeId) : Prop := W.heap[B]? = some (.cells #[a, b] t (0, 0))
theorem Boxed2.cell0 {W : World} {B : Nat} {a b : Value} {t : TypeId} (h : Boxed2 W B a b t) : W.cell? ⟨B, 0, none⟩ = some a := by unfold Boxed2 at h; simp [World.cell?, h]
theorem Boxed2.cell1 {W : World} {B : Nat} {a b : Value} {t : TypeId} (h : Boxed2 W B a b t) : W.cell? ⟨B, 1, none⟩ = some b := by unfold Boxed2 at h; simp [World.cell?, h]
theorem Boxed2.lt {W : World} {B : Nat} {a b : Value} {t : TypeId} (h : Boxed2 W B a b t) : B < W.heap.size := by unfold Boxed2 at h; exact (Array.getElem?_eq_some_iff.1 h).1
theorem Boxed2.below {W W' : World} {B C : Nat} {a b : Value} {t : TypeId} (h : Boxed2 W B a b t) (hb : Below C W W') (hC : B < C) : Boxed2 W' B a b t := by unfold Boxed2 at h ⊢; rw [hb.block B hC]; exact h
theorem Boxed2.kept {A A' : World} {B : Nat} {a b : Value} {t : TypeId} (h : Boxed2 A B a b t) {row : Option Nat} (hg : A.grownBy A' row) (hr : ∀ r, row = some r → ∃ o : Obj, A.heap[r]? = some o ∧ o.isCells = false) : Boxed2 A' B a b t := by
  unfold Boxed2 at h ⊢
  rw [hg.block B (Array.getElem?_eq_some_iff.1 h).1 (fun e' => by obtain ⟨o, ho, hc⟩ := hr B e'.symm; rw [h] at ho; cases ho; cases hc)]
  exact h

theorem grown_of_below {W W' : World} (h : Below W.heap.size W W') : W.grownBy W' none := ⟨h.os, h.tape, h.output, h.size, fun k hk _ => h.block k hk⟩

theorem own_below {W W' : World} {base : Nat} {e : TypeId} {size : Nat} {v : Value} {k : Nat} {xs : List Value} (h : W.ownsRow base e size v k xs) (hb : Below W.heap.size W W') : W'.ownsRow base e size v k xs :=
  h.kept (grown_of_below hb) (by by_cases e : v.ownBlock = none; exact .inl e; exact .inr e)

/-- Bytes as cells. -/
def bcells (l : List UInt8) : List Value := l.map fun b => Value.int .u8 b.toNat
end Go.Proofs.Ytopdeakjnloemaa

namespace Go.Proofs.Ytopdeakjnloemaa
open Go.RowKit

end Go.Proofs.Ytopdeakjnloemaa

namespace Go.Proofs.Ytopdeakjnloemaa
open Go.RowKit

theorem Boxed2.frozen {W : World} {B i : Nat} {a b : Value} {t : TypeId} (h : Boxed2 W B a b t) : W.frozen? ⟨B, i, none⟩ = false := by unfold Boxed2 at h; simp [World.frozen?, h]
theorem Boxed2.new (w : World) (a b : Value) (t : TypeId) : Boxed2 (w.alloc (.cells #[a, b] t)) w.heap.size a b t := World.alloc_heap_new w _
theorem Boxed2.alloc {W : World} {B : Nat} {a b : Value} {t : TypeId} (h : Boxed2 W B a b t) (o : Obj) : Boxed2 (W.alloc o) B a b t := h.kept (World.grownBy_alloc W o none) (fun r e => by cases e)
theorem Boxed2.set0 {W : World} {B : Nat} {a b : Value} {t : TypeId} (v : Value) (h : Boxed2 W B a b t) : Boxed2 (W.setCell ⟨B, 0, none⟩ v) B v b t := by
  unfold Boxed2 at *
  rw [Lib.heap_setCell_same h]
  rfl
theorem Boxed2.set1 {W : World} {B : Nat} {a b : Value} {t : TypeId} (v : Value) (h : Boxed2 W B a b t) : Boxed2 (W.setCell ⟨B, 1, none⟩ v) B a v t := by
  unfold Boxed2 at *
  rw [Lib.heap_setCell_same h]
  rfl
theorem Boxed2.set {W : World} {B : Nat} {a b : Value} {t : TypeId} (v0 v1 : Value) (h : Boxed2 W B a b t) : Boxed2 ((W.setCell ⟨B, 0, none⟩ v0).setCell ⟨B, 1, none⟩ v1) B v0 v1 t := (h.set0 v0).set1 v1
theorem Boxed2.setOther {W : World} {B : Nat} {a b : Value} {t : TypeId} (h : Boxed2 W B a b t) {C i : Nat} (v : Value) (hne : B ≠ C) : Boxed2 (W.setCell ⟨C, i, none⟩ v) B a b t := by
  unfold Boxed2 at *
  rw [Below.heap_setCell _ _ _ _ hne]
  exact h
theorem Boxed2.cellAt {W : World} {B i : Nat} {a b : Value} {t : TypeId} (h : Boxed2 W B a b t) : W.cell? ⟨B, i, none⟩ = #[a, b][i]? := by unfold Boxed2 at h; simp [World.cell?, h]

theorem cell_call {W W' : World} {a : Addr} {v : Value} (hb : Below W.heap.size W W') (h : W.cell? a = some v) : W'.cell? a = some v := (hb.cell (World.block_lt_of_cell? _ _ h)).trans h

/-- A row of numbers. -/
def Nums (w : World) (a : Option Addr) (zs : List Int) (L : Nat) : Prop :=
  ∀ i z, zs[i]? = some z → ∃ b off neg p n c xs, a = some ⟨b, off, none⟩ ∧ b < w.heap.size ∧ w.cell? ⟨b, off + i * 2, none⟩ = some (.bool neg) ∧ w.cell? ⟨b, off + i * 2 + 1, none⟩ = some (.slice p n c) ∧ NumIs w neg p n c xs z L

theorem Nums.below {w w' : World} {a : Option Addr} {zs : List Int} {L : Nat} (h : Nums w a zs L) (hb : Below w.heap.size w w') : Nums w' a zs L := by
  intro i z hz
  obtain ⟨b, off, neg, p, n, c, xs, ha, hlt, h0, h1, hn⟩ := h i z hz
  exact ⟨b, off, neg, p, n, c, xs, ha, Nat.lt_of_lt_of_le hlt hb.size, (hb.cell (p := ⟨b, _, none⟩) hlt).trans h0, (hb.cell (p := ⟨b, _, none⟩) hlt).trans h1, hn.below hb⟩

end Go.Proofs.Ytopdeakjnloemaa

namespace Go.Proofs.Ytopdeakjnloemaa
open Go.RowKit

abbrev BR : Nat := 10000

/-- A sign and a slice of digits say the integer z. -/
structure RIs (w : World) (neg : Bool) (p : Option Addr) (n c : Nat) (xs : List Nat) (z : Int) : Prop where
  rd : Rd .i64 w p n xs
  cap : n ≤ c
  cn : Cn BR xs
  pos : neg = true → 0 < n
  val : z = sv neg (dv BR xs)

/-- What a call hands back: an integer of at most L digits. -/
def RV (w : World) (z : Int) (L : Nat) (e : Ending) (w' : World) : Prop :=
  ∃ neg p n c xs, e = .returned (.agg #[.bool neg, .slice p n c]) ∧ RIs w' neg p n c xs z ∧ n ≤ L ∧ Below w.heap.size w w'

theorem RIs.below {w w' : World} {neg : Bool} {p : Option Addr} {n c : Nat} {xs : List Nat} {z : Int} (h : RIs w neg p n c xs z) (hb : Below w.heap.size w w') : RIs w' neg p n c xs z := { h with rd := h.rd.below hb }

theorem RIs.zero (w : World) : RIs w false none 0 0 [] 0 := { rd := Rd.nil _ _ _, cap := Nat.le_refl _, cn := Cn.nil _, pos := (by intro h; cases h), val := rfl }

theorem sv_and' (b : Nat) (neg : Bool) (zs : List Nat) : sv (neg && decide (0 < zs.length)) (dv b zs) = sv neg (dv b zs) := by
  cases neg
  · rfl
  · by_cases hz : 0 < zs.length
    · simp [hz]
    · have : zs = [] := List.length_eq_zero_iff.1 (by omega)
      subst this; rfl

theorem Rd.boxI {W : World} {p : Option Addr} {n : Nat} {xs : List Nat} (h : Rd .i64 W p n xs) {B i : Nat} {neg : Bool} {q : Option Addr} {k c : Nat} {t : TypeId} (hb : Boxed2 W B (.bool neg) (.slice q k c) t) (v : Value) : Rd .i64 (W.setCell ⟨B, i, none⟩ v) p n xs := by
  refine ⟨h.1, fun j hj => ?_⟩
  obtain ⟨b', off, hp, hlt, hc⟩ := h.2 j hj
  refine ⟨b', off, hp, by simpa using hlt, ?_⟩
  rw [World.cell?_setCell_other _ _ _ _ (fun e => ?_)]
  · exact hc
  · cases e
    rw [hb.cellAt] at hc
    match off + j, hc with
    | 0, hc => simp at hc
    | 1, hc => simp at hc
    | k + 2, hc => simp at hc

/-- The like; its digits lie where they did. -/
def RVp (w : World) (p : Option Addr) (z : Int) (L : Nat) (e : Ending) (w' : World) : Prop :=
  ∃ neg n c xs, e = .returned (.agg #[.bool neg, .slice p n c]) ∧ RIs w' neg p n c xs z ∧ n ≤ L ∧ Below w.heap.size w w'

set_option maxHeartbeats 1000000 in
theorem rnumber_at (neg : Bool) (p : Option Addr) (n c : Nat) (xs : List Nat) (w : World) (hn : n ≤ maxLen) (hc : n ≤ c) (hr : Rd .i64 w p n xs) (gx : Dg BR xs) :
    Calls Try.prog 75 #[.bool neg, .slice p n c] w (RVp w p (sv neg (dv BR xs)) n) := by
  unfold maxLen at hn
  have hb0 : Below w.heap.size w (w.alloc (.cells #[.bool false, .slice none 0 0] 82)) := (Below.refl _ w).alloc (Nat.le_refl _) _
  have b0 := Boxed2.new w (.bool false) (.slice none 0 0) 82
  have hr1 := hr.below hb0
  have c0 := b0.cell0
  have c1 := b0.cell1
  have q0 := b0.frozen (i := 0)
  have q1 := b0.frozen (i := 1)
  have fin : ∀ k, k = trimLen xs n → RVp w p (sv neg (dv BR xs)) n (.returned (.agg #[.bool (neg && decide (0 < k)), .slice p k k])) (w.alloc (.cells #[.bool (neg && decide (0 < k)), .slice p k k] 82)) := by
    rintro k rfl
    have h1 : trimLen xs n ≤ n := trimLen_le _ _
    have hl := hr.1
    have hz : trimZ xs = xs.take (trimLen xs n) := by unfold trimZ; rw [hl]
    have hbk : Below w.heap.size w (w.alloc (.cells #[.bool (neg && decide (0 < trimLen xs n)), .slice p (trimLen xs n) (trimLen xs n)] 82)) := (Below.refl _ w).alloc (Nat.le_refl _) _
    have hrd := (hr.below hbk).take (trimLen xs n) h1
    rw [← hz] at hrd
    refine ⟨_, _, _, trimZ xs, rfl, { rd := hrd, cap := Nat.le_refl _, cn := trimZ_cn gx, pos := by simp, val := ?_ }, h1, hbk⟩
    rw [← hrd.1, sv_and' BR, dv_trimZ]
  have FIN := Lib.hid fin
  clear fin
  go_enter Try.func75, Try.ntmps75
  go_wp2
  go_loop [5] (fun i => ∃ k : Nat, k ≤ n ∧ i = .int .i64 k ∧ Hid (trimLen xs k = trimLen xs n)) (fun i => (intOf i).toNat)
  case atStart => exact ⟨n, Nat.le_refl _, rfl, rfl⟩
  case round =>
    obtain ⟨k, hk, rfl, ht⟩ := hrel
    cases k with
    | zero =>
      have HT := FIN.out 0 ht.out
      have z0 := (Boxed2.new w (.bool false) (.slice p 0 0) 82).cell0
      have z1 := (Boxed2.new w (.bool false) (.slice p 0 0) 82).cell1
      cases neg
      all_goals
        go_wp2
        exact bodyPost_ret (v := .agg #[.bool false, .slice p 0 0]) (by simp [results, Try.results75, go_sem, z0, z1]) rfl (by simpa using HT)
    | succ k =>
      obtain ⟨b, off, rfl, hb, hcell⟩ := hr1.2 k (by omega)
      cases neg
      all_goals
        go_wp2
        · go_round
          case rel =>
            have h1 : (((xs[k]?.getD 0 : Nat) : Int) == 0) = true := by assumption
            exact ⟨k, by omega, by go_num, (trimLen_cut (by simpa using h1)).symm.trans ht.out⟩
          case measure => simp [intOf]
        · have h1 : (((xs[k]?.getD 0 : Nat) : Int) == 0) = false := by assumption
          have HT := FIN.out (k + 1) ((trimLen_keep (by simpa using h1)).symm.trans ht.out)
          have y0 := fun v => (Boxed2.new w (.bool v) (.slice (some ⟨b, off, none⟩) (k + 1) (k + 1)) 82).cell0
          have y1 := fun v => (Boxed2.new w (.bool v) (.slice (some ⟨b, off, none⟩) (k + 1) (k + 1)) 82).cell1
          first
            | exact bodyPost_ret (v := .agg #[.bool false, .slice (some ⟨b, off, none⟩) (k + 1) (k + 1)]) (by simp [results, Try.results75, go_sem, y0, y1]) rfl (by simpa using HT)
            | exact bodyPost_ret (v := .agg #[.bool true, .slice (some ⟨b, off, none⟩) (k + 1) (k + 1)]) (by simp [results, Try.results75, go_sem, y0, y1]) rfl (by simpa using HT)

theorem rnumber_any (neg : Bool) (p : Option Addr) (n c : Nat) (xs : List Nat) (w : World) (hn : n ≤ maxLen) (hc : n ≤ c) (hr : Rd .i64 w p n xs) (gx : Dg BR xs) :
    Calls Try.prog 75 #[.bool neg, .slice p n c] w (RV w (sv neg (dv BR xs)) n) :=
  (rnumber_at neg p n c xs w hn hc hr gx).mono fun _ _ ⟨neg', n', c', xs', h⟩ => ⟨neg', p, n', c', xs', h⟩

end Go.Proofs.Ytopdeakjnloemaa

namespace Go.Proofs.Ytopdeakjnloemaa
open Go.RowKit

def icells (ns : List Nat) : List Value := ns.map fun (n : Nat) => Value.int .i64 (n : Int)
theorem icells_append (a b : List Nat) : icells (a ++ b) = icells a ++ icells b := by simp [icells]

/-- A slice of digits that the call has made. -/
def GrI (w : World) (base : Nat) (v : Value) (ns : List Nat) : Prop := w.ownsRow base 3 1 v ns.length (icells ns)
/-- A slice of bytes that the call has made. -/
def GrB (w : World) (base : Nat) (v : Value) (l : List UInt8) : Prop := w.ownsRow base 5 1 v l.length (bcells l)

theorem ownsRow_nil (w : World) (base : Nat) (e : TypeId) : w.ownsRow base e 1 (.slice none 0 0) 0 [] := ⟨rfl, .inl ⟨rfl, rfl⟩⟩
theorem GrI.nil (w : World) (base : Nat) : GrI w base (.slice none 0 0) [] := ownsRow_nil _ _ _
theorem GrB.nil (w : World) (base : Nat) : GrB w base (.slice none 0 0) [] := ownsRow_nil _ _ _

theorem own_block_ge {w : World} {base : Nat} {e : TypeId} {v : Value} {n : Nat} {xs : List Value} (h : w.ownsRow base e 1 v n xs) {k : Nat} (hk : k < base) : some k ≠ v.ownBlock := by
  rcases h.2 with ⟨rfl, _⟩ | ⟨g, cap, cur, rfl, hb, _⟩
  · intro e; cases e
  · intro e; simp [Value.ownBlock] at e; omega

theorem below_of_own {w w' : World} {base : Nat} {e : TypeId} {v : Value} {n : Nat} {xs : List Value} (h : w.ownsRow base e 1 v n xs) (hg : w.grownBy w' v.ownBlock) (hb : base ≤ w.heap.size) : Below base w w' :=
  ⟨hg.os, hg.tape, hg.output, hg.size, fun k hk => hg.block k (by omega) (own_block_ge h hk)⟩

theorem own_form {w : World} {base : Nat} {e : TypeId} {v : Value} {n : Nat} {xs : List Value} (h : w.ownsRow base e 1 v n xs) : ∃ p c, v = .slice p n c ∧ n ≤ c := by
  rcases h.2 with ⟨rfl, rfl⟩ | ⟨g, cap, cur, rfl, hb, _, hc, _⟩
  · exact ⟨none, 0, rfl, Nat.le_refl _⟩
  · exact ⟨_, cap, rfl, hc⟩

theorem GrI.rd {w : World} {base : Nat} {v : Value} {ns : List Nat} (h : GrI w base v ns) : ∃ p c, v = .slice p ns.length c ∧ ns.length ≤ c ∧ Rd .i64 w p ns.length ns := by
  rcases h.2 with ⟨rfl, hn⟩ | ⟨g, cap, cur, rfl, hb, hg, hc, _, hs, ht⟩
  · rw [hn]
    have : ns = [] := List.length_eq_zero_iff.1 hn
    subst this
    exact ⟨none, 0, rfl, Nat.le_refl _, Rd.nil _ _ _⟩
  · refine ⟨_, cap, rfl, hc, rfl, fun i hi => ⟨g, 0, rfl, (Array.getElem?_eq_some_iff.1 hg).1, ?_⟩⟩
    have h1 : (icells ns)[i]? = some (.int .i64 ((ns[i]?.getD 0 : Nat) : Int)) := by unfold icells; simp [hi]
    rw [← ht, Nat.mul_one, List.getElem?_take_of_lt hi] at h1
    rw [Nat.zero_add]
    simpa [World.cell?, hg] using h1

theorem GrI.ge {w : World} {base : Nat} {p : Option Addr} {n c : Nat} {ns : List Nat} (h : GrI w base (.slice p n c) ns) : ∀ b o, p = some ⟨b, o, none⟩ → base ≤ b := by
  intro b o hp
  rcases h.2 with ⟨e, _⟩ | ⟨g, cap, cur, e, hb, _⟩
  · cases e; cases hp
  · cases e; cases hp; exact hb

/-- A store into another block. -/
theorem Rd.setFar {k : IntKind} {w : World} {p : Option Addr} {n : Nat} {xs : List Nat} (h : Rd k w p n xs) {B i : Nat} (hne : ∀ b o, p = some ⟨b, o, none⟩ → b ≠ B) (v : Value) : Rd k (w.setCell ⟨B, i, none⟩ v) p n xs := by
  refine ⟨h.1, fun j hj => ?_⟩
  obtain ⟨b, off, hp, hlt, hc⟩ := h.2 j hj
  refine ⟨b, off, hp, by simpa using hlt, ?_⟩
  rw [World.cell?_setCell_other _ _ _ _ (fun e => hne b off hp (by cases e; rfl))]
  exact hc

theorem GrI.below {w w' : World} {base : Nat} {v : Value} {ns : List Nat} (h : GrI w base v ns) (hb : Below w.heap.size w w') : GrI w' base v ns :=
  own_below h hb
theorem GrB.below {w w' : World} {base : Nat} {v : Value} {l : List UInt8} (h : GrB w base v l) (hb : Below w.heap.size w w') : GrB w' base v l :=
  own_below h hb

/-- append(d, x), as the walk meets it. -/
theorem pushI_law {ops : Array Oper} {Q : Exit → Act → World → Prop} {o : Oper} {rest : List Oper} {a : Act} {W : World} (hgd : o.guard = none) (s x : Operand)
    (ho : o.op = .call { callee := .builtin .append, args := #[s, x], argTypes := #[80, 80] }) {base : Nat} {v : Value} {ns : List Nat} (hs : a.eval s = v) (h : GrI W base v ns) (d : Nat)
    (hx : a.eval x = .slice (some ⟨W.heap.size, 0, none⟩) 1 1) (hl : ns.length ≤ 1000000000000) (hbase : base ≤ W.heap.size)
    (k : ∀ v' w', GrI w' base v' (ns ++ [d]) → Below base W w' → wpList Try.prog ops Q rest (a.put o.dst v') w') : wpList Try.prog ops Q (o :: rest) a (W.alloc (.cells #[.int .i64 (d : Int)] 3)) := by
  obtain ⟨i0, hi, hz0, hz1, hz2⟩ := info_parts Try.info3
  have hg0 := World.grownBy_alloc W (.cells #[.int .i64 (d : Int)] 3) none
  have h' : (W.alloc (.cells #[.int .i64 (d : Int)] 3)).ownsRow base 3 1 v ns.length (icells ns) := World.ownsRow.kept h hg0 (by cases v.ownBlock <;> simp)
  have hc : (W.alloc (.cells #[.int .i64 (d : Int)] 3)).cell? ⟨W.heap.size, 0, none⟩ = some (.int .i64 (d : Int)) := by simp [go_sem]
  refine wpList_append_own _ hgd s x 80 ho base 3 i0 (.int .i64 0) 1 8 Try.underlying80 hi hz0 hz1 hz2 rfl (by decide) v ns.length (icells ns) hs h' ⟨W.heap.size, 0, none⟩ 1 1 [.int .i64 (d : Int)] hx rfl
    (by intro j u hj; match j, hj with | 0, hj => simp at hj; subst hj; simp [Addr.add]) (by simp [Value.oneCell']) (by unfold maxLen; omega) (by omega) (by rw [World.size_alloc]; omega) ?_
  intro v' w' h2 h3 _
  refine k v' w' ?_ ?_
  · unfold GrI; rw [List.length_append, icells_append]; exact h2
  · exact ((Below.refl _ _).alloc hbase _).trans (below_of_own h' h3 (by rw [World.size_alloc]; omega))

end Go.Proofs.Ytopdeakjnloemaa

namespace Go.Proofs.Ytopdeakjnloemaa
open Go.RowKit Go.Sort

def inI64 (z : Int) : Bool := decide (-9223372036854775808 ≤ z ∧ z ≤ 9223372036854775807)

end Go.Proofs.Ytopdeakjnloemaa
