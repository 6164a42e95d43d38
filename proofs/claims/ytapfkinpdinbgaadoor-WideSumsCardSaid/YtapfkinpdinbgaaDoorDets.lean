/-
  The determinant.
-/
import Derived.Test.YtapfkinpdinbgaaDoorDet
import Derived.Laws.EntriesVeiled
namespace Go.Proofs.YtapfkinpdinbgaaDoor
open Go.RowKit Go.Maps

theorem MinorV.mono {w : World} {br bk bf bm : Nat} {ra : Option Addr} {n c cnt cnt' : Nat} {M : List (List Int)} {z : Int} {L : Nat} {e : Ending} {w' : World} (h : MinorV w br bk bf bm ra n c cnt M z L e w') (hc : cnt ≤ cnt') : MinorV w br bk bf bm ra n c cnt' M z L e w' := by
  obtain ⟨neg, p, m, d, xs, g', h1, h2, h3, h4⟩ := h
  exact ⟨neg, p, m, d, xs, g', h1, h2, h3.mono hc, h4⟩

theorem minor_any (br bk bf bm : Nat) (ra : Option Addr) (n c : Nat) (M : List (List Int)) (hn : n ≤ 6) (hM : M.length = n) (hsq : ∀ row ∈ M, row.length = n) :
    ∀ (k r u cnt : Nat) (g : Nat → Option Value) (w : World), r + k = n → u < 2 ^ n → pop n u = r → cnt + detS k ≤ 900000 → DetIs w br bk bf bm ra n c cnt M g →
      Calls Tryd.prog 81 (minorArgs r u br bk bf) w (MinorV w br bk bf bm ra n c (cnt + detS k) M (minorZ M n k u) (detL k)) := by
  intro k
  induction k with
  | zero =>
    intro r u cnt g w hr hu hp hc hd
    obtain rfl : r = n := by omega
    exact minor_none br bk bf bm ra r c cnt M g u w hn hd
  | succ k ih =>
    intro r u cnt g w hr hu hp hc hd
    cases hg : g u with
    | none => exact minor_step br bk bf bm ra n c M k hn hM hsq ih r u cnt g w hr hu hp hc hd hg
    | some v =>
      have h := minor_known br bk bf bm ra n c cnt M g r u w hn (by omega) hu hp hd v hg
      rw [show n - r = k + 1 by omega] at h
      exact h.mono fun e w' h => h.mono (by omega)

/-- Where the closure's variables lie. -/
def detW (w : World) (ra : Option Addr) (n c : Nat) : World :=
  (((((w.alloc (.cells #[.slice ra n c] 95)).alloc (.cells #[.bool false, .slice none 0 0] 79)).alloc (.map #[] 0)).alloc (.cells #[.map (some (w.heap.size + 1 + 1))] 115)).alloc
    (.cells #[.func (.func 81) #[] #[.pointer (some ⟨w.heap.size, 0, none⟩), .pointer (some ⟨w.heap.size + 1 + 1 + 1, 0, none⟩), .pointer (some ⟨w.heap.size + 1 + 1 + 1 + 1, 0, none⟩)]] 116))

theorem det_start (w : World) (ra : Option Addr) (n c : Nat) (M : List (List Int)) (hr : RowsIs w ra M 223) :
    DetIs (detW w ra n c) w.heap.size (w.heap.size + 1 + 1 + 1) (w.heap.size + 1 + 1 + 1 + 1) (w.heap.size + 1 + 1) ra n c 0 M (fun _ => none) ∧ Boxed2 (detW w ra n c) (w.heap.size + 1) (.bool false) (.slice none 0 0) 79 ∧ Below w.heap.size w (detW w ra n c) := by
  have hb : Below w.heap.size w (detW w ra n c) := by
    unfold detW
    exact (((((Below.refl _ w).alloc (Nat.le_refl _) _).alloc (by simp) _).alloc (by rw [World.size_alloc, World.size_alloc]; omega) _).alloc (by rw [World.size_alloc, World.size_alloc, World.size_alloc]; omega) _).alloc (by rw [World.size_alloc, World.size_alloc, World.size_alloc, World.size_alloc]; omega) _
  have keep : ∀ {W : World} {o' : Obj} (o : Obj) (i : Nat), W.heap[i]? = some o' → (W.alloc o).heap[i]? = some o' := fun {W} {_} o i h => ((World.grownBy_alloc W o none).block i (Array.getElem?_eq_some_iff.1 h).1 (by simp)).trans h
  refine ⟨{ r := ?_, k := ?_, f := ?_, m := ?_, rows := hr.below hb, kept := fun u v h => by cases h }, ?_, hb⟩
  · exact keep _ _ (keep _ _ (keep _ _ (keep _ _ (World.alloc_heap_new w _))))
  · refine keep _ _ ?_
    have := World.alloc_heap_new (((w.alloc (.cells #[.slice ra n c] 95)).alloc (.cells #[.bool false, .slice none 0 0] 79)).alloc (.map #[] 0)) (.cells #[.map (some (w.heap.size + 1 + 1))] 115)
    rwa [World.size_alloc, World.size_alloc, World.size_alloc] at this
  · have := World.alloc_heap_new ((((w.alloc (.cells #[.slice ra n c] 95)).alloc (.cells #[.bool false, .slice none 0 0] 79)).alloc (.map #[] 0)).alloc (.cells #[.map (some (w.heap.size + 1 + 1))] 115)) (.cells #[.func (.func 81) #[] #[.pointer (some ⟨w.heap.size, 0, none⟩), .pointer (some ⟨w.heap.size + 1 + 1 + 1, 0, none⟩), .pointer (some ⟨w.heap.size + 1 + 1 + 1 + 1, 0, none⟩)]] 116)
    rwa [World.size_alloc, World.size_alloc, World.size_alloc, World.size_alloc] at this
  · have h := MapIs.made ((w.alloc (.cells #[.slice ra n c] 95)).alloc (.cells #[.bool false, .slice none 0 0] 79))
    have e : ((w.alloc (.cells #[.slice ra n c] 95)).alloc (.cells #[.bool false, .slice none 0 0] 79)).heap.size = w.heap.size + 1 + 1 := by simp
    rw [e] at h
    exact (h.kept (World.grownBy_alloc _ _ none) (by simp)).kept (World.grownBy_alloc _ _ none) (by simp)
  · refine keep _ _ (keep _ _ (keep _ _ ?_))
    have := World.alloc_heap_new (w.alloc (.cells #[.slice ra n c] 95)) (.cells #[.bool false, .slice none 0 0] 79)
    rwa [World.size_alloc] at this

set_option maxHeartbeats 1000000 in
theorem determinant_in (ra : Option Addr) (n c : Nat) (M : List (List Int)) (w : World) (hn : n ≤ 6) (hM : M.length = n) (hsq : ∀ row ∈ M, row.length = n) (hr : RowsIs w ra M 223) :
    Calls Tryd.prog 62 #[.slice ra n c] w (NumV w (detZ M) (detL n)) := by
  have hmm := @run_makeMap Tryd.prog
  have hmf : ∀ (fn : Fn) (first cap : Array Value) (w : World), (Instr.makeFunc fn first cap).run Tryd.prog w = .ok (.func fn first cap) w := fun _ _ _ _ => rfl
  obtain ⟨h1, h2, h3⟩ := det_start w ra n c M hr
  have hcall := minor_any w.heap.size (w.heap.size + 1 + 1 + 1) (w.heap.size + 1 + 1 + 1 + 1) (w.heap.size + 1 + 1) ra n c M hn hM hsq n 0 0 0 (fun _ => none) (detW w ra n c) (by omega) (Nat.pow_pos (by decide)) (pop_zero n) (by have h4 : detS 6 = 9331 := (by decide); have h5 := detS_mono hn; omega) h1
  have hz : detZ M = minorZ M n n 0 := by unfold detZ; rw [hM]
  rw [hz]
  have HC := Lib.hid hcall
  have H1 := Lib.hid h1
  have H2 := Lib.hid h2
  have H3 := Lib.hid h3
  clear hr hM hsq hz hcall h1 h2 h3
  go_enter Tryd.func62, Tryd.ntmps62
  go_wp2_with fail
  refine HC.out.mono ?_
  rintro e w5 ⟨neg, p, m, d, xs, g', rfl, hx, hd, hg⟩
  have b5 := H2.out.grown H1.out.m.at hg
  have c0 := b5.cell0
  have c1 := b5.cell1
  have q0 := b5.frozen (i := 0)
  have q1 := b5.frozen (i := 1)
  have hb5 : Below w.heap.size w w5 := H3.out.trans ⟨hg.os, hg.tape, hg.output, hg.size, fun i hi => hg.block i (Nat.lt_of_lt_of_le hi H3.out.size) (fun e => by cases e; omega)⟩
  clear hg hd
  go_wp2_with fail
  have e0 := b5.set (.bool neg) (.slice p m d)
  have z0 := e0.cell0
  have z1 := e0.cell1
  exact bodyPost_ret (v := .agg #[.bool neg, .slice p m d]) (by simp [results, Tryd.results62, go_sem, z0, z1]) rfl ⟨neg, p, m, d, xs, rfl, hx.set2 b5 _ _, (hb5.setCell (by simp) _).setCell (by simp) _⟩

end Go.Proofs.YtapfkinpdinbgaaDoor
