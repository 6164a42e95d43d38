/-
  WideLists: sums of lists of bytes; the reference's sums; A map from uint to numbers, as a function; What a determinant's closure keeps in memory.
-/
import Derived.Deep.CutBlock
import Derived.Maps.OwnSet
import Derived.Maps.Views
import Derived.Test.YtimcbmgmngkagaaDoorK1
import Derived.Test.YtimcbmgmngkagaaDoorK2
import Derived.Test.YtimcbmgmngkagaaDoorK3
import Derived.Test.YtimcbmgmngkagaaDoorK4
import Derived.Test.YtimcbmgmngkagaaDoorK5
import Derived.Test.YtimcbmgmngkagaaDoorK6
import Derived.Test.YtimcbmgmngkagaaDoorK7
import Derived.Test.YtimcbmgmngkagaaDoorK10
namespace Go.Proofs.YtimcbmgmngkagaaDoor
open Go.RowKit

def bA (s : List UInt8) : ByteArray := ⟨s.toArray⟩
theorem RdL.toS {w : World} {a : Option Addr} {l : List (List UInt8)} (h : RdL w a l) : RdS w a (l.map bA) := by
  intro i s hs
  rw [List.getElem?_map, Option.map_eq_some_iff] at hs
  obtain ⟨t, ht, rfl⟩ := hs
  exact h i t ht
theorem allB_map (l : List (List UInt8)) : allB (l.map bA) = allN l := by
  unfold allB allN
  rw [List.all_map]
  congr 1
theorem vals_map (l : List (List UInt8)) : vals (l.map bA) = l.map strV := by
  unfold vals
  rw [List.map_map]
  refine List.map_congr_left fun s _ => ?_
  show strV (⟨s.toArray⟩ : ByteArray).data.toList = strV s
  rw [bytes_data]

theorem sumL (p : Option Addr) (n c : Nat) (ls : List (List UInt8)) (w : World) (hl : ls.length = n) (hn : n ≤ 1000) (hr : RdL w p ls) (hs : ∀ s ∈ ls, s.length ≤ 1000000000) (hall : allN ls = true) (htab : Tab w) :
    Calls Tryd.prog 10 #[.slice p n c] w (OutIs w (sumZ (ls.map strV))) := by
  have h := sumList_any p n c (ls.map bA) w (by rw [List.length_map]; exact hl) (by omega) hr.toS (by
    intro s hs'
    obtain ⟨t, ht, rfl⟩ := List.mem_map.1 hs'
    exact bytes_small (hs t ht)) htab
  have e1 : sumStr (ls.map bA) = outS (sumZ (ls.map strV)) := by unfold sumStr; rw [allB_map, hall, if_pos rfl, if_neg (by rw [List.length_map]; omega), vals_map]
  have e2 : sumErr (ls.map bA) = outE (sumZ (ls.map strV)) := by unfold sumErr; rw [allB_map, hall, if_pos rfl, if_neg (by rw [List.length_map]; omega), vals_map]
  rw [e1, e2] at h
  exact h
/-- A row of 1001 strings, of which the first j are 1. -/
def Ones (w : World) (B j : Nat) : Prop := ∃ cs : Array Value, w.heap[B]? = some (.cells cs 9 (0, 0)) ∧ cs.size = 1001 ∧ ∀ i, i < j → cs[i]? = some (.string ⟨#[49]⟩)
theorem Ones.start (w : World) : Ones (w.alloc (.cells (Go.madeCells #[.string ⟨#[]⟩] 1001) 9)) w.heap.size 0 :=
  ⟨_, World.alloc_heap_new w _, Go.size_madeCells _ _, fun i h => by omega⟩
theorem Ones.put {w : World} {B j : Nat} (h : Ones w B j) (hj : j < 1001) : Ones (w.setCell ⟨B, j, none⟩ (.string ⟨#[49]⟩)) B (j + 1) ∧ (∃ u, w.cell? ⟨B, j, none⟩ = some u) ∧ w.frozen? ⟨B, j, none⟩ = false := by
  obtain ⟨cs, hg, hs, hc⟩ := h
  refine ⟨⟨cs.setIfInBounds j (.string ⟨#[49]⟩), by rw [Lib.heap_setCell_same hg], by simpa using hs, fun i hi => ?_⟩, ⟨cs[j]'(by omega), by simp [World.cell?, hg, hs, hj]⟩, by simp [World.frozen?, hg]⟩
  rw [Array.getElem?_setIfInBounds]
  by_cases e : j = i
  · subst e; simp [hs, hj]
  · rw [if_neg e]; exact hc i (by omega)
theorem Ones.rd {w : World} {B j : Nat} (h : Ones w B j) {n : Nat} (hn : n ≤ j) : RdL w (some ⟨B, 0, none⟩) (List.replicate n [49]) := by
  obtain ⟨cs, hg, hs, hc⟩ := h
  intro i s hi
  have hlt : i < n := by have := (List.getElem?_eq_some_iff.1 hi).1; simpa using this
  rw [List.getElem?_replicate, if_pos hlt] at hi
  cases hi
  refine ⟨B, 0, rfl, (Array.getElem?_eq_some_iff.1 hg).1, ?_⟩
  rw [Nat.zero_add]
  simpa [World.cell?, hg] using hc i (by omega)
theorem Ones.below {w w' : World} {B j : Nat} (h : Ones w B j) (hb : Below w.heap.size w w') : Ones w' B j := by
  obtain ⟨cs, hg, r⟩ := h
  exact ⟨cs, by rw [hb.block _ (Array.getElem?_eq_some_iff.1 hg).1]; exact hg, r⟩
end Go.Proofs.YtimcbmgmngkagaaDoor

namespace Go.Proofs.YtimcbmgmngkagaaDoor
open Go.RowKit Go.Maps

/-- Elements are read as they are. -/
def anyR (v : Value) : Option (DataW Value × List MemPlace) := some (.held v, [])

def ulit (k : Nat) : Lit := .int .u64 (k : Int)
theorem ulit_wf {k : Nat} (h : k < 18446744073709551616) : (ulit k).wf = true := by
  have h1 : IntKind.u64.min = 0 := rfl
  have h2 : IntKind.u64.max = 18446744073709551615 := rfl
  unfold ulit Lit.wf
  simp [h1, h2]; omega
theorem ulit_key {k : Nat} (h : k < 18446744073709551616) : keyOf Tryd.prog 24 (.int .u64 (k : Int)) = some (ulit k) := keyOf_int_mk Tryd.underlying24 (ulit_wf h)
theorem ulit_isKey (k : Nat) : WideAt.IsKeyLit (ulit k) := trivial
theorem ulit_ne {j k : Nat} (h : j ≠ k) : ulit j ≠ ulit k := by
  intro e; unfold ulit at e; simp at e; omega

/-- Block b holds the map g, of at most n entries. -/
def MapIs (w : World) (b n : Nat) (g : Nat → Option Value) : Prop :=
  ∃ D : DataW Value, w.ownsMap Tryd.prog 24 anyR b n D ∧ IsMap D ∧ ∀ k, Maps.has D (ulit k) = (g k).isSome ∧ (∀ v, g k = some v → ∀ z, D.atKey (ulit k) z = .held v) ∧ (g k = none → ∀ z, D.atKey (ulit k) z = z)

theorem MapIs.made (w : World) : MapIs (w.alloc (.map #[] 0)) w.heap.size 0 (fun _ => none) :=
  ⟨.map [], World.ownsMap_made w _ _ _, (World.ownsMap_made w Tryd.prog 24 anyR).isMap, fun k => ⟨rfl, fun v h => (by simp at h), fun _ z => rfl⟩⟩

theorem MapIs.kept {w w' : World} {b n : Nat} {g : Nat → Option Value} {row : Option Nat} (h : MapIs w b n g) (hg : w.grownBy w' row) (hne : some b ≠ row) : MapIs w' b n g := by
  obtain ⟨D, h1, h2⟩ := h
  exact ⟨D, h1.kept hg hne, h2⟩

def putG (g : Nat → Option Value) (k : Nat) (v : Value) : Nat → Option Value := fun j => if j = k then some v else g j

def zeroNum : Value := .agg #[.bool false, .slice none 0 0]

theorem zero79 (w : World) : (zeroValue 47).run Tryd.prog w = .ok zeroNum w := by
  obtain ⟨i, hi, hz, _, _⟩ := info_parts Tryd.info79
  unfold zeroValue
  rw [Sem.run_bind, run_typeInfo w hi]
  simp only [Result.andThen, hz]
  rfl

theorem MapIs.look {w : World} {b n : Nat} {g : Nat → Option Value} (h : MapIs w b n g) {k : Nat} (hk : k < 18446744073709551616) :
    (Instr.lookup 98 (.map (some b)) (.int .u64 (k : Int)) true).run Tryd.prog w = .ok (.tuple #[(g k).getD zeroNum, .bool (g k).isSome]) w := by
  obtain ⟨D, h1, _, h2⟩ := h
  obtain ⟨a1, a2, a3⟩ := h2 k
  obtain ⟨v, ps, e1, e2⟩ := h1.look_ok (int_keyed Tryd.underlying24) Tryd.underlying98 (zero79 w) (zd := .held zeroNum) (zp := []) rfl (ulit_key hk)
  rw [a1] at e1
  rw [e1]
  simp only [anyR, Option.some.injEq, Prod.mk.injEq] at e2
  cases hg : g k with
  | none =>
    rw [a3 hg] at e2
    have := e2.1
    simp at this
    rw [this]; rfl
  | some u =>
    rw [a2 u hg] at e2
    have := e2.1
    simp at this
    rw [this]; rfl

theorem MapIs.store {w : World} {b n : Nat} {g : Nat → Option Value} (h : MapIs w b n g) {k : Nat} (hk : k < 18446744073709551616) (hn : n < 1000000) (v : Value) :
    ∃ w', (Instr.mapUpdate 98 (.map (some b)) (.int .u64 (k : Int)) v).run Tryd.prog w = .ok () w' ∧ MapIs w' b (n + 1) (putG g k v) ∧ w.grownBy w' (some b) := by
  obtain ⟨D, h1, hM, h2⟩ := h
  obtain ⟨w', e1, e2, e3⟩ := h1.update (int_keyed Tryd.underlying24) Tryd.underlying98 (by unfold maxLen; omega) (val := v) (d := .held v) (ps := []) (ulit_key hk) rfl
  refine ⟨w', e1, ⟨_, e2, e2.isMap, fun j => ?_⟩, e3⟩
  unfold putG
  by_cases hj : j = k
  · subst hj
    rw [if_pos rfl]
    refine ⟨has_put_same hM (ulit_isKey _) _, fun u hu z => ?_, fun h => by cases h⟩
    cases hu
    exact atKey_put_same hM (ulit_isKey _) _ _
  · rw [if_neg hj]
    obtain ⟨a1, a2, a3⟩ := h2 j
    exact ⟨by rw [has_put_other (ulit_ne hj)]; exact a1, fun u hu z => by rw [atKey_put_other (ulit_ne hj)]; exact a2 u hu z, fun hu z => by rw [atKey_put_other (ulit_ne hj)]; exact a3 hu z⟩

end Go.Proofs.YtimcbmgmngkagaaDoor

namespace Go.Proofs.YtimcbmgmngkagaaDoor

/-- An element of a row. -/
def ent (xs : List Int) (c : Nat) : Int := xs[c]?.getD 0

theorem ent_at {xs : List Int} {j : Nat} (h : j < xs.length) : ent xs j = xs[j] := by unfold ent; rw [List.getElem?_eq_getElem h]; rfl

/-- Along a row, the first j columns: the total, and whether the next term is turned. -/
def colS (xs : List Int) (f : Nat → Int) (u : Nat) : Nat → Int × Bool
  | 0 => (0, false)
  | j + 1 => if u.testBit j then colS xs f u j else ((colS xs f u j).1 + (if (colS xs f u j).2 then -(ent xs j * f j) else ent xs j * f j), !(colS xs f u j).2)

/-- The minor of the last k of n rows, without the columns of u. -/
def minorZ (M : List (List Int)) (n : Nat) : Nat → Nat → Int
  | 0, _ => 1
  | k + 1, u => (colS ((M[n - (k + 1)]?).getD []) (fun c => minorZ M n k (u ||| 2 ^ c)) u n).1

/-- How many of the first n columns are used. -/
def pop : Nat → Nat → Nat
  | 0, _ => 0
  | n + 1, u => pop n u + (if u.testBit n then 1 else 0)

theorem or_bit (u c i : Nat) : (u ||| 2 ^ c).testBit i = (u.testBit i || decide (c = i)) := by
  rw [Nat.testBit_or, Nat.testBit_two_pow]

theorem pop_or_ge : ∀ (n u c : Nat), n ≤ c → pop n (u ||| 2 ^ c) = pop n u
  | 0, _, _, _ => rfl
  | n + 1, u, c, h => by
    unfold pop
    rw [pop_or_ge n u c (by omega), or_bit]
    have : decide (c = n) = false := by simp; omega
    rw [this, Bool.or_false]

theorem pop_or : ∀ (n u c : Nat), c < n → u.testBit c = false → pop n (u ||| 2 ^ c) = pop n u + 1
  | n + 1, u, c, h, hu => by
    unfold pop
    rw [or_bit]
    by_cases e : c = n
    · subst e
      rw [pop_or_ge c u c (Nat.le_refl _), hu]; simp
    · have : decide (c = n) = false := by simp; exact e
      rw [pop_or n u c (by omega) hu, this, Bool.or_false]; omega

theorem or_lt {n u c : Nat} (hu : u < 2 ^ n) (hc : c < n) : u ||| 2 ^ c < 2 ^ n :=
  Nat.or_lt_two_pow hu (Nat.pow_lt_pow_right (by decide) hc)

theorem colS_used {xs : List Int} {f : Nat → Int} {u j : Nat} (h : u.testBit j = true) : colS xs f u (j + 1) = colS xs f u j := by
  conv => lhs; unfold colS
  rw [if_pos h]
theorem colS_free {xs : List Int} {f : Nat → Int} {u j : Nat} (h : u.testBit j = false) : colS xs f u (j + 1) = ((colS xs f u j).1 + (if (colS xs f u j).2 then -(ent xs j * f j) else ent xs j * f j), !(colS xs f u j).2) := by
  conv => lhs; unfold colS
  rw [if_neg (by rw [h]; decide)]

/-- A determinant. -/
def detZ (M : List (List Int)) : Int := minorZ M M.length M.length 0

/-- How long minors get, and how many are kept. -/
def detL (k : Nat) : Nat := 1 + k * 240
def detS : Nat → Nat
  | 0 => 0
  | k + 1 => 6 * detS k + 1
theorem detS_mono : ∀ {k m : Nat}, k ≤ m → detS k ≤ detS m
  | k, m, h => by
    induction m with
    | zero => rw [Nat.le_zero.1 h]; exact Nat.le_refl _
    | succ m ih =>
      rcases Nat.lt_or_ge m k with h' | h'
      · rw [show k = m + 1 by omega]; exact Nat.le_refl _
      · have := ih h'; show detS k ≤ 6 * detS m + 1; omega

theorem pop_zero : ∀ n, pop n 0 = 0
  | 0 => rfl
  | n + 1 => by unfold pop; rw [pop_zero n]; simp

end Go.Proofs.YtimcbmgmngkagaaDoor

namespace Go.Proofs.YtimcbmgmngkagaaDoor
open Go.RowKit Go.Maps

/-- Block b holds a map. -/
def MapAt (w : World) (b : Nat) : Prop := ∃ es clock, w.heap[b]? = some (.map es clock)

theorem MapIs.at {w : World} {b n : Nat} {g : Nat → Option Value} (h : MapIs w b n g) : MapAt w b := by
  obtain ⟨D, ⟨es, clock, h1, _⟩, _⟩ := h
  exact ⟨es, clock, h1⟩

theorem MapAt.ne {w : World} {b : Nat} (h : MapAt w b) {a : Addr} {v : Value} (hc : w.cell? a = some v) : a.block ≠ b := by
  obtain ⟨es, clock, h1⟩ := h
  intro e
  rw [← e] at h1
  simp [World.cell?, h1] at hc

theorem cell_grown {w w' : World} {b : Nat} (hm : MapAt w b) (hg : w.grownBy w' (some b)) {a : Addr} {v : Value} (hc : w.cell? a = some v) : w'.cell? a = some v :=
  hg.cell hc (fun e => hm.ne hc (Option.some.inj e))

theorem Rd.grown {k : IntKind} {w w' : World} {b : Nat} (hm : MapAt w b) (hg : w.grownBy w' (some b)) {p : Option Addr} {n : Nat} {xs : List Nat} (h : Rd k w p n xs) : Rd k w' p n xs := by
  refine ⟨h.1, fun i hi => ?_⟩
  obtain ⟨b', off, hp, hlt, hc⟩ := h.2 i hi
  exact ⟨b', off, hp, Nat.lt_of_lt_of_le hlt hg.size, cell_grown hm hg hc⟩

theorem NumIs.grown {w w' : World} {b : Nat} (hm : MapAt w b) (hg : w.grownBy w' (some b)) {neg : Bool} {p : Option Addr} {n c : Nat} {xs : List Nat} {z : Int} {L : Nat} (h : NumIs w neg p n c xs z L) : NumIs w' neg p n c xs z L :=
  { h with rd := h.rd.grown hm hg }

theorem Nums.grown {w w' : World} {b : Nat} (hm : MapAt w b) (hg : w.grownBy w' (some b)) {a : Option Addr} {zs : List Int} {L : Nat} (h : Nums w a zs L) : Nums w' a zs L := by
  intro i z hz
  obtain ⟨b', off, neg, p, n, c, xs, ha, hlt, h0, h1, hn⟩ := h i z hz
  exact ⟨b', off, neg, p, n, c, xs, ha, Nat.lt_of_lt_of_le hlt hg.size, cell_grown hm hg h0, cell_grown hm hg h1, hn.grown hm hg⟩

theorem grown_trans {a b c : World} {r : Option Nat} (h : a.grownBy b r) (k : b.grownBy c r) : a.grownBy c r :=
  ⟨k.os.trans h.os, k.tape.trans h.tape, k.output.trans h.output, Nat.le_trans h.size k.size, fun i hi hr => (k.block i (Nat.lt_of_lt_of_le hi h.size) hr).trans (h.block i hi hr)⟩
theorem grown_refl (a : World) (r : Option Nat) : a.grownBy a r := ⟨rfl, rfl, rfl, Nat.le_refl _, fun _ _ _ => rfl⟩
theorem grown_below {w w' : World} (h : Below w.heap.size w w') (r : Option Nat) : w.grownBy w' r := ⟨h.os, h.tape, h.output, h.size, fun k hk _ => h.block k hk⟩
theorem grown_drew {a b : World} {r : Option Nat} (h : a.grownBy b r) : a.grownBy b.drew r := ⟨h.os, h.tape, h.output, h.size, h.block⟩
theorem grown_set {a b : World} {r : Option Nat} (h : a.grownBy b r) {C i : Nat} (hC : a.heap.size ≤ C) (v : Value) : a.grownBy (b.setCell ⟨C, i, none⟩ v) r := by
  refine ⟨h.os, h.tape, h.output, by simpa using h.size, fun k hk hr => ?_⟩
  rw [Below.heap_setCell _ _ _ _ (by show k ≠ C; omega)]
  exact h.block k hk hr

theorem MapIs.setOther {w : World} {b n : Nat} {g : Nat → Option Value} (h : MapIs w b n g) {C i : Nat} (hne : b ≠ C) (v : Value) : MapIs (w.setCell ⟨C, i, none⟩ v) b n g := by
  obtain ⟨D, h1, h2⟩ := h
  exact ⟨D, h1.setCell (a := ⟨C, i, none⟩) hne v, h2⟩
theorem MapIs.drew {w : World} {b n : Nat} {g : Nat → Option Value} (h : MapIs w b n g) : MapIs w.drew b n g := h
theorem MapIs.mono {w : World} {b n m : Nat} {g : Nat → Option Value} (h : MapIs w b n g) (hm : n ≤ m) : MapIs w b m g := by
  obtain ⟨D, h1, h2⟩ := h
  exact ⟨D, h1.mono hm, h2⟩

/-- Rows of numbers. -/
def RowsIs (w : World) (ra : Option Addr) (M : List (List Int)) (L : Nat) : Prop :=
  ∀ i row, M[i]? = some row → ∃ b off p c, ra = some ⟨b, off, none⟩ ∧ b < w.heap.size ∧ w.cell? ⟨b, off + i, none⟩ = some (.slice p row.length c) ∧ Nums w p row L

theorem RowsIs.grown {w w' : World} {b : Nat} (hm : MapAt w b) (hg : w.grownBy w' (some b)) {ra : Option Addr} {M : List (List Int)} {L : Nat} (h : RowsIs w ra M L) : RowsIs w' ra M L := by
  intro i row hi
  obtain ⟨b', off, p, c, ha, hlt, hc, hn⟩ := h i row hi
  exact ⟨b', off, p, c, ha, Nat.lt_of_lt_of_le hlt hg.size, cell_grown hm hg hc, hn.grown hm hg⟩

theorem RowsIs.below {w w' : World} (hb : Below w.heap.size w w') {ra : Option Addr} {M : List (List Int)} {L : Nat} (h : RowsIs w ra M L) : RowsIs w' ra M L := by
  intro i row hi
  obtain ⟨b', off, p, c, ha, hlt, hc, hn⟩ := h i row hi
  exact ⟨b', off, p, c, ha, Nat.lt_of_lt_of_le hlt hb.size, (hb.cell (p := ⟨b', _, none⟩) hlt).trans hc, hn.below hb⟩

/-- A minor that is kept. -/
def KeptIs (w : World) (M : List (List Int)) (n : Nat) (g : Nat → Option Value) : Prop :=
  ∀ u v, g u = some v → ∃ neg p m c xs, v = .agg #[.bool neg, .slice p m c] ∧ NumIs w neg p m c xs (minorZ M n (n - pop n u) u) (detL (n - pop n u))

/-- The captured variables, and the map. -/
structure DetIs (w : World) (br bk bf bm : Nat) (ra : Option Addr) (n c cnt : Nat) (M : List (List Int)) (g : Nat → Option Value) : Prop where
  r : w.heap[br]? = some (.cells #[.slice ra n c] 78 (0, 0))
  k : w.heap[bk]? = some (.cells #[.map (some bm)] 98 (0, 0))
  f : w.heap[bf]? = some (.cells #[.func (.func 59) #[] #[.pointer (some ⟨br, 0, none⟩), .pointer (some ⟨bk, 0, none⟩), .pointer (some ⟨bf, 0, none⟩)]] 99 (0, 0))
  m : MapIs w bm cnt g
  rows : RowsIs w ra M 223
  kept : KeptIs w M n g

theorem one_at {w : World} {b : Nat} {v : Value} {t : TypeId} (h : w.heap[b]? = some (.cells #[v] t (0, 0))) : w.cell? ⟨b, 0, none⟩ = some v := by simp [World.cell?, h]

theorem KeptIs.grown {w w' : World} {b : Nat} (hm : MapAt w b) (hg : w.grownBy w' (some b)) {M : List (List Int)} {n : Nat} {g : Nat → Option Value} (h : KeptIs w M n g) : KeptIs w' M n g := by
  intro u v hu
  obtain ⟨neg, p, m, c, xs, e, hx⟩ := h u v hu
  exact ⟨neg, p, m, c, xs, e, hx.grown hm hg⟩

theorem MapAt.ne_cells {w : World} {b b' : Nat} (h : MapAt w b) {cs : Array Value} {t : TypeId} {f : Nat × Nat} (h' : w.heap[b']? = some (.cells cs t f)) : b' ≠ b := by
  obtain ⟨es, clock, h1⟩ := h
  rintro rfl
  rw [h'] at h1; cases h1

/-- Nothing but new blocks. -/
theorem DetIs.below {w w' : World} {br bk bf bm : Nat} {ra : Option Addr} {n c cnt : Nat} {M : List (List Int)} {g : Nat → Option Value} (h : DetIs w br bk bf bm ra n c cnt M g) (hb : Below w.heap.size w w') : DetIs w' br bk bf bm ra n c cnt M g := by
  have lt : ∀ {b : Nat} {o : Obj}, w.heap[b]? = some o → b < w.heap.size := fun h => (Array.getElem?_eq_some_iff.1 h).1
  have hm := h.m.at
  have hg := grown_below hb (some bm)
  obtain ⟨es, clock, h1⟩ := hm
  exact { r := (hb.block br (lt h.r)).trans h.r, k := (hb.block bk (lt h.k)).trans h.k, f := (hb.block bf (lt h.f)).trans h.f
          m := h.m.kept (grown_below hb none) (by simp)
          rows := h.rows.below hb, kept := h.kept.grown ⟨es, clock, h1⟩ hg }

theorem NumIs.setNum {w : World} {neg : Bool} {p : Option Addr} {n c : Nat} {xs : List Nat} {z : Int} {L : Nat} (h : NumIs w neg p n c xs z L) {B : Nat} {a : Bool} {q : Option Addr} {k d : Nat} {t : TypeId} (hb : Boxed2 w B (.bool a) (.slice q k d) t) (i : Nat) (v : Value) : NumIs (w.setCell ⟨B, i, none⟩ v) neg p n c xs z L :=
  { h with rd := h.rd.box hb v }

/-- A store into a number's variable of the call's own. -/
theorem DetIs.set {w0 w : World} {br bk bf bm : Nat} {ra : Option Addr} {n c cnt0 cnt : Nat} {M : List (List Int)} {g0 g : Nat → Option Value} (h0 : DetIs w0 br bk bf bm ra n c cnt0 M g0) (h : DetIs w br bk bf bm ra n c cnt M g) (hg : w0.grownBy w (some bm))
    {B : Nat} (hB : w0.heap.size ≤ B) {a : Bool} {q : Option Addr} {k d : Nat} {t : TypeId} (hb : Boxed2 w B (.bool a) (.slice q k d) t) (i : Nat) (v : Value) : DetIs (w.setCell ⟨B, i, none⟩ v) br bk bf bm ra n c cnt M g := by
  have hg' := grown_set (i := i) hg hB v
  have hm := h0.m.at
  have lt : ∀ {b : Nat} {o : Obj}, w0.heap[b]? = some o → b < w0.heap.size := fun h => (Array.getElem?_eq_some_iff.1 h).1
  have ne : ∀ {b : Nat} {cs : Array Value} {t : TypeId} {f : Nat × Nat}, w0.heap[b]? = some (.cells cs t f) → some b ≠ some bm := fun h e => hm.ne_cells h (Option.some.inj e)
  exact { r := (hg'.block br (lt h0.r) (ne h0.r)).trans h0.r, k := (hg'.block bk (lt h0.k) (ne h0.k)).trans h0.k, f := (hg'.block bf (lt h0.f) (ne h0.f)).trans h0.f
          m := h.m.setOther (fun e => h.m.at.ne_cells hb e.symm) v
          rows := h0.rows.grown hm hg'
          kept := fun u v' hu => by
            obtain ⟨neg, p, m, c, xs, e, hx⟩ := h.kept u v' hu
            exact ⟨neg, p, m, c, xs, e, hx.setNum hb i v⟩ }

theorem DetIs.set2 {w0 w : World} {br bk bf bm : Nat} {ra : Option Addr} {n c cnt0 cnt : Nat} {M : List (List Int)} {g0 g : Nat → Option Value} (h0 : DetIs w0 br bk bf bm ra n c cnt0 M g0) (h : DetIs w br bk bf bm ra n c cnt M g) (hg : w0.grownBy w (some bm))
    {B : Nat} (hB : w0.heap.size ≤ B) {a : Bool} {q : Option Addr} {k d : Nat} {t : TypeId} (hb : Boxed2 w B (.bool a) (.slice q k d) t) (a' : Bool) (q' : Option Addr) (k' d' : Nat) :
    DetIs ((w.setCell ⟨B, 0, none⟩ (.bool a')).setCell ⟨B, 1, none⟩ (.slice q' k' d')) br bk bf bm ra n c cnt M g ∧ w0.grownBy ((w.setCell ⟨B, 0, none⟩ (.bool a')).setCell ⟨B, 1, none⟩ (.slice q' k' d')) (some bm) :=
  ⟨DetIs.set h0 (DetIs.set h0 h hg hB hb 0 (.bool a')) (grown_set hg hB _) hB (hb.set0 (.bool a')) 1 _, grown_set (grown_set hg hB _) hB _⟩

theorem NumIs.set2 {w : World} {neg : Bool} {p : Option Addr} {n c : Nat} {xs : List Nat} {z : Int} {L : Nat} (h : NumIs w neg p n c xs z L) {B : Nat} {a : Bool} {q : Option Addr} {k d : Nat} {t : TypeId} (hb : Boxed2 w B (.bool a) (.slice q k d) t) (a' : Bool) (v : Value) :
    NumIs ((w.setCell ⟨B, 0, none⟩ (.bool a')).setCell ⟨B, 1, none⟩ v) neg p n c xs z L := (h.setNum hb 0 _).setNum (hb.set0 (.bool a')) 1 _

theorem Boxed2.grown {w w' : World} {b : Nat} (hm : MapAt w b) (hg : w.grownBy w' (some b)) {B : Nat} {x y : Value} {t : TypeId} (h : Boxed2 w B x y t) : Boxed2 w' B x y t := by
  unfold Boxed2 at *
  exact (hg.block B (Array.getElem?_eq_some_iff.1 h).1 (fun e => hm.ne_cells h (Option.some.inj e))).trans h

/-- What was done before, of what was there before the call. -/
theorem DetIs.grownFix {w0 w : World} {br bk bf bm : Nat} {ra : Option Addr} {n c cnt0 cnt : Nat} {M : List (List Int)} {g0 g : Nat → Option Value} (h0 : DetIs w0 br bk bf bm ra n c cnt0 M g0) (hg : w0.grownBy w (some bm)) (hm : MapIs w bm cnt g) (hk : KeptIs w M n g) : DetIs w br bk bf bm ra n c cnt M g := by
  have hmm := h0.m.at
  have lt : ∀ {b : Nat} {o : Obj}, w0.heap[b]? = some o → b < w0.heap.size := fun h => (Array.getElem?_eq_some_iff.1 h).1
  have ne : ∀ {b : Nat} {cs : Array Value} {t : TypeId} {f : Nat × Nat}, w0.heap[b]? = some (.cells cs t f) → some b ≠ some bm := fun h e => hmm.ne_cells h (Option.some.inj e)
  exact { r := (hg.block br (lt h0.r) (ne h0.r)).trans h0.r, k := (hg.block bk (lt h0.k) (ne h0.k)).trans h0.k, f := (hg.block bf (lt h0.f) (ne h0.f)).trans h0.f, m := hm, rows := h0.rows.grown hmm hg, kept := hk }

end Go.Proofs.YtimcbmgmngkagaaDoor
