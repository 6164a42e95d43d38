/-
  WideLists: sums of lists of bytes; the reference's sums.
-/
import Derived.Test.YtapfkinpdinbgaaDoorOut
import Derived.Test.YtapfkinpdinbgaaDoorGrowS
import Derived.Deep.CutBlock
namespace Go.Proofs.YtapfkinpdinbgaaDoor
open Go.RowKit

def bA (s : List UInt8) : ByteArray := ⟨s.toArray⟩
theorem RdL.toS {w : World} {a : Option Addr} {l : List (List UInt8)} (h : RdL w a l) : RdS w a (l.map bA) := by
  intro i s hs
  rw [List.getElem?_map, Option.map_eq_some_iff] at hs
  obtain ⟨t, ht, rfl⟩ := hs
  exact h i t ht
theorem allB_map (l : List (List UInt8)) : allB (l.map bA) = allN l := by
  unfold allB allN
  rw [List.all_map]
  congr 1
theorem vals_map (l : List (List UInt8)) : vals (l.map bA) = l.map strV := by
  unfold vals
  rw [List.map_map]
  refine List.map_congr_left fun s _ => ?_
  show strV (⟨s.toArray⟩ : ByteArray).data.toList = strV s
  rw [bytes_data]

theorem sumL (p : Option Addr) (n c : Nat) (ls : List (List UInt8)) (w : World) (hl : ls.length = n) (hn : n ≤ 1000) (hr : RdL w p ls) (hs : ∀ s ∈ ls, s.length ≤ 1000000000) (hall : allN ls = true) (htab : Tab w) :
    Calls Tryd.prog 34 #[.slice p n c] w (OutIs w (sumZ (ls.map strV))) := by
  have h := sumList_any p n c (ls.map bA) w (by rw [List.length_map]; exact hl) (by omega) hr.toS (by
    intro s hs'
    obtain ⟨t, ht, rfl⟩ := List.mem_map.1 hs'
    exact bytes_small (hs t ht)) htab
  have e1 : sumStr (ls.map bA) = outS (sumZ (ls.map strV)) := by unfold sumStr; rw [allB_map, hall, if_pos rfl, if_neg (by rw [List.length_map]; omega), vals_map]
  have e2 : sumErr (ls.map bA) = outE (sumZ (ls.map strV)) := by unfold sumErr; rw [allB_map, hall, if_pos rfl, if_neg (by rw [List.length_map]; omega), vals_map]
  rw [e1, e2] at h
  exact h
theorem sumL_bad (p : Option Addr) (n c : Nat) (ls : List (List UInt8)) (w : World) (hl : ls.length = n) (hn : n ≤ 1000) (hr : RdL w p ls) (hs : ∀ s ∈ ls, s.length ≤ 1000000000) (hall : allN ls = false) (htab : Tab w) :
    Calls Tryd.prog 34 #[.slice p n c] w (BadIs w) := by
  have h := sumList_any p n c (ls.map bA) w (by rw [List.length_map]; exact hl) (by omega) hr.toS (by
    intro s hs'
    obtain ⟨t, ht, rfl⟩ := List.mem_map.1 hs'
    exact bytes_small (hs t ht)) htab
  have e1 : sumStr (ls.map bA) = [] := by unfold sumStr; rw [allB_map, hall, if_neg (by decide)]
  have e2 : sumErr (ls.map bA) = 6 := by unfold sumErr; rw [allB_map, hall, if_neg (by decide)]
  rw [e1, e2] at h
  exact h
theorem sumL_long (p : Option Addr) (n c : Nat) (ls : List (List UInt8)) (w : World) (hl : ls.length = n) (hn : 1000 < n) (hn2 : n ≤ 1000000) (hr : RdL w p ls) (hs : ∀ s ∈ ls, s.length ≤ 1000000000) (hall : allN ls = true) (htab : Tab w) :
    Calls Tryd.prog 34 #[.slice p n c] w fun e w' => e = .returned (.tuple #[.string ⟨#[]⟩, .int .i64 1]) ∧ Below w.heap.size w w' := by
  have h := sumList_any p n c (ls.map bA) w (by rw [List.length_map]; exact hl) (by omega) hr.toS (by
    intro s hs'
    obtain ⟨t, ht, rfl⟩ := List.mem_map.1 hs'
    exact bytes_small (hs t ht)) htab
  have e1 : sumStr (ls.map bA) = [] := by unfold sumStr; rw [allB_map, hall, if_pos rfl, if_pos (by rw [List.length_map]; omega)]
  have e2 : sumErr (ls.map bA) = 1 := by unfold sumErr; rw [allB_map, hall, if_pos rfl, if_pos (by rw [List.length_map]; omega)]
  rw [e1, e2] at h
  exact h

theorem sum_small {ls : List (List UInt8)} {k : Nat} (h : ∀ s ∈ ls, (strV s).natAbs < 10 ^ k) (hl : ls.length ≤ 12) : (sumZ (ls.map strV)).natAbs < 10 ^ (k + 2) := by
  have hg : ∀ (m : List (List UInt8)) (acc : Int), (∀ s ∈ m, (strV s).natAbs < 10 ^ k) → ((m.map strV).foldl (· + ·) acc).natAbs ≤ acc.natAbs + m.length * 10 ^ k := by
    intro m
    induction m with
    | nil => intro acc _; simp
    | cons s m ih =>
      intro acc hm
      have h1 := ih (acc + strV s) (fun t ht => hm t (List.mem_cons_of_mem _ ht))
      have h2 := hm s List.mem_cons_self
      have h3 : (acc + strV s).natAbs ≤ acc.natAbs + (strV s).natAbs := Int.natAbs_add_le _ _
      simp only [List.map_cons, List.foldl_cons, List.length_cons, Nat.add_mul, Nat.one_mul]
      omega
  have h0 := hg ls 0 h
  have h1 : ls.length * 10 ^ k ≤ 12 * 10 ^ k := Nat.mul_le_mul_right _ hl
  have h2 : 0 < 10 ^ k := Nat.pow_pos (by decide)
  show ((ls.map strV).foldl (· + ·) 0).natAbs < 10 ^ (k + 2)
  rw [Nat.pow_add, Nat.mul_comm]
  simp only [Int.natAbs_zero, Nat.zero_add] at h0
  omega

theorem allN_at {ls : List (List UInt8)} (h : allN ls = true) {i : Nat} (hi : i < ls.length) : numB ls[i] = true := (List.all_eq_true.1 h) _ (List.getElem_mem hi)
theorem plain_of {s : List UInt8} (h : numB s = true) : plainB s = true := by unfold numB at h; simp only [Bool.and_eq_true] at h; exact h.1
theorem allN_pos {ls : List (List UInt8)} (h : allN ls = false) : 0 < ls.length := by
  cases ls with
  | nil => cases h
  | cons _ _ => simp

/-- A store into a number's variable. -/
theorem GrS.setBox {w : World} {base : Nat} {v : Value} {ls : List (List UInt8)} (h : GrS w base v ls) {B i : Nat} {x y : Value} (hb : Boxed2 w B x y 29) (u : Value) : GrS (w.setCell ⟨B, i, none⟩ u) base v ls := by
  rcases h with ⟨h1, h2 | ⟨g, cap, cur, e, hb', hg, r⟩⟩
  · exact ⟨h1, Or.inl h2⟩
  · refine ⟨h1, Or.inr ⟨g, cap, cur, e, hb', ?_, r⟩⟩
    have hne : g ≠ B := by
      intro e'
      subst e'
      unfold Boxed2 at hb
      rw [hb] at hg
      cases hg
    rw [Below.heap_setCell _ _ _ _ hne]
    exact hg

/-- A row of 1001 strings, of which the first j are 1. -/
def Ones (w : World) (B j : Nat) : Prop := ∃ cs : Array Value, w.heap[B]? = some (.cells cs 9 (0, 0)) ∧ cs.size = 1001 ∧ ∀ i, i < j → cs[i]? = some (.string ⟨#[49]⟩)
theorem mkStrs (w : World) : (Instr.makeSlice 50 (.int .i64 1001) (.int .i64 1001)).run Tryd.prog w = .ok (.slice (some ⟨w.heap.size, 0, none⟩) 1001 1001) (w.alloc (.cells (Go.madeCells #[.string ⟨#[]⟩] 1001) 9)) :=
  run_make_row' _ _ (.string ⟨#[]⟩) 16 Tryd.underlying50 Tryd.infoS rfl .i64 .i64 1001 (by omega) (by omega) w
theorem Ones.start (w : World) : Ones (w.alloc (.cells (Go.madeCells #[.string ⟨#[]⟩] 1001) 9)) w.heap.size 0 :=
  ⟨_, World.alloc_heap_new w _, Go.size_madeCells _ _, fun i h => by omega⟩
theorem Ones.put {w : World} {B j : Nat} (h : Ones w B j) (hj : j < 1001) : Ones (w.setCell ⟨B, j, none⟩ (.string ⟨#[49]⟩)) B (j + 1) ∧ (∃ u, w.cell? ⟨B, j, none⟩ = some u) ∧ w.frozen? ⟨B, j, none⟩ = false := by
  obtain ⟨cs, hg, hs, hc⟩ := h
  refine ⟨⟨cs.setIfInBounds j (.string ⟨#[49]⟩), by rw [Lib.heap_setCell_same hg], by simpa using hs, fun i hi => ?_⟩, ⟨cs[j]'(by omega), by simp [World.cell?, hg, hs, hj]⟩, by simp [World.frozen?, hg]⟩
  rw [Array.getElem?_setIfInBounds]
  by_cases e : j = i
  · subst e; simp [hs, hj]
  · rw [if_neg e]; exact hc i (by omega)
theorem Ones.rd {w : World} {B j : Nat} (h : Ones w B j) {n : Nat} (hn : n ≤ j) : RdL w (some ⟨B, 0, none⟩) (List.replicate n [49]) := by
  obtain ⟨cs, hg, hs, hc⟩ := h
  intro i s hi
  have hlt : i < n := by have := (List.getElem?_eq_some_iff.1 hi).1; simpa using this
  rw [List.getElem?_replicate, if_pos hlt] at hi
  cases hi
  refine ⟨B, 0, rfl, (Array.getElem?_eq_some_iff.1 hg).1, ?_⟩
  rw [Nat.zero_add]
  simpa [World.cell?, hg] using hc i (by omega)
theorem Ones.below {w w' : World} {B j : Nat} (h : Ones w B j) (hb : Below w.heap.size w w') : Ones w' B j := by
  obtain ⟨cs, hg, r⟩ := h
  exact ⟨cs, by rw [hb.block _ (Array.getElem?_eq_some_iff.1 hg).1]; exact hg, r⟩
theorem ones_all (n : Nat) : allN (List.replicate n [49]) = true := by
  unfold allN; rw [List.all_eq_true]; intro s hs; rw [(List.mem_replicate.1 hs).2]; decide
theorem ones_sum : outS (sumZ ((List.replicate 1000 [49]).map strV)) = [49, 48, 48, 48] ∧ outE (sumZ ((List.replicate 1000 [49]).map strV)) = 0 := by
  have e : sumZ ((List.replicate 1000 [(49 : UInt8)]).map strV) = 1000 := by decide +kernel
  rw [e]; decide +kernel

theorem ones_ok (w : World) (B j : Nat) (h : Ones w B j) (hj : 1000 ≤ j) (htab : Tab w) : Calls Tryd.prog 34 #[.slice (some ⟨B, 0, none⟩) 1000 1000] w fun e w' => e = .returned (.tuple #[.string ⟨#[49, 48, 48, 48]⟩, .int .i64 0]) ∧ Below w.heap.size w w' := by
  have h1 := sumL (some ⟨B, 0, none⟩) 1000 1000 (List.replicate 1000 [49]) w (List.length_replicate ..) (by omega) (h.rd hj) (by intro s hs; rw [(List.mem_replicate.1 hs).2]; simp) (ones_all _) htab
  unfold OutIs at h1
  rw [ones_sum.1, ones_sum.2] at h1
  exact h1
theorem ones_long (w : World) (B : Nat) (h : Ones w B 1001) (htab : Tab w) : Calls Tryd.prog 34 #[.slice (some ⟨B, 0, none⟩) 1001 1001] w fun e w' => e = .returned (.tuple #[.string ⟨#[]⟩, .int .i64 1]) ∧ Below w.heap.size w w' :=
  sumL_long (some ⟨B, 0, none⟩) 1001 1001 (List.replicate 1001 [49]) w (List.length_replicate ..) (by omega) (by omega) (h.rd (Nat.le_refl _)) (by intro s hs; rw [(List.mem_replicate.1 hs).2]; simp) (ones_all _) htab

/-- What holds whichever operations of 'sum = R.Add(sum, R.Parse(x[i]))' are done. -/
def SumI (w0 : World) (B8 : Nat) (ng : Bool) (q : Option Addr) (k d : Nat) (Z : Int) (V3 : Value) (i : Int) (b e : Nat) (s : List UInt8) (bnd : Nat) (tm : Value → Value → Value → Value → Value → Value → Value → Act) (L : Nat → Bool) (x : Act) (w : World) : Prop :=
  ∃ v57 v58 v59 v60 v61 v62 v63, x = tm v57 v58 v59 v60 v61 v62 v63 ∧ (L 7 = true → ∀ j, j < 7 → L j = true) ∧ (L 7 = false → Below w0.heap.size w0 w)
    ∧ (L 0 = true → v57 = .agg #[.bool ng, .slice q k d]) ∧ (L 1 = true → v58 = V3) ∧ (L 2 = true → v59 = .int .i64 i) ∧ (L 3 = true → v60 = .pointer (some ⟨b, e, none⟩)) ∧ (L 4 = true → v61 = .string ⟨s.toArray⟩)
    ∧ (L 5 = true → L 7 = false → ∃ neg p m c xs, v62 = .agg #[.bool neg, .slice p m c] ∧ RIs w neg p m c xs (strV s) ∧ m ≤ 60)
    ∧ (L 6 = true → L 7 = false → ∃ neg p m c xs, v63 = .agg #[.bool neg, .slice p m c] ∧ RIs w neg p m c xs (Z + strV s) ∧ m ≤ bnd)
    ∧ (L 7 = true → ∃ w1 neg p m c xs, Below w0.heap.size w0 w1 ∧ RIs w1 neg p m c xs (Z + strV s) ∧ m ≤ bnd ∧ w = (w1.setCell ⟨B8, 0, none⟩ (.bool neg)).setCell ⟨B8, 1, none⟩ (.slice p m c))

end Go.Proofs.YtapfkinpdinbgaaDoor
