/-
  A matrix of strings among the arguments, as the walks read it.
-/
import Derived.Test.YtapfkinpdinbgaaDoorOpenL
import Derived.Test.YtapfkinpdinbgaaDoorGrids
import Derived.Deep.Matrix
import Derived.Laws.IdiomArrays
namespace Go.Proofs.YtapfkinpdinbgaaDoor
open Go Go.ChangeShapes Go.WideShapes Go.ChangeAt Go.WideMaps Go.WideElems Go.RowKit Go.ChangeMaps Go.Deep

theorem Tryd.cellsSS : Tryd.prog.cellsOf 50 = 1 := by kernel_rfl

theorem rows_open {H : Type} {enc : TypeId × Value → H} {W : World} {fuel : Nat} {a0 : Option Addr} {len cap : Nat} {x : DataW H × List MemPlace}
    (hf : DataW.trod enc Tryd.prog W 0 (fun _ => true) true fuel 53 [.slice a0 len cap] = some x) :
    ∃ rows : List (List (List UInt8)), rows.length = len ∧ len ≤ 9223372036854775807 ∧ RdLL W a0 rows ∧ ∀ row ∈ rows, row.length ≤ 9223372036854775807 ∧ ∀ s ∈ row, s.length ≤ 9223372036854775807 := by
  rcases open_slice1 Tryd.underlying53 Tryd.cellsSS hf with ⟨hcs, _⟩ | ⟨a, len', cap', m, n, V, D, Pl, hcs, hb, hl, hm, hmm, _, hx⟩
  · simp at hcs
    obtain ⟨rfl, rfl, rfl⟩ := hcs
    exact ⟨[], rfl, by omega, fun i row h => by simp at h, fun row h => by cases h⟩
  · simp at hcs
    obtain ⟨rfl, rfl, rfl⟩ := hcs
    simp only [if_true] at hmm
    have hml : len ≤ m := by omega
    have each : ∀ r, r < len → ∃ y : List (List UInt8), (∃ q c, W.cell? (a.add r) = some (.slice q y.length c) ∧ RdL W q y) ∧ y.length ≤ 9223372036854775807 ∧ ∀ s ∈ y, s.length ≤ 9223372036854775807 := by
      intro r hr
      obtain ⟨h1, h2⟩ := hx r (by omega)
      rcases open_strings Tryd.underlying50 Tryd.underlying9 Tryd.cellsS h2 with ⟨hcs, _⟩ | ⟨a', len', cap', ss, hcs, _, hl', hm', hz, _, hcell, hws⟩
      · have hV : V r = .slice none 0 0 := by simpa using hcs
        rw [hV] at h1
        exact ⟨[], ⟨none, 0, h1, fun i s h => by simp at h⟩, by simp, fun s h => by cases h⟩
      · have hV : V r = .slice (some a') len' cap' := by simpa using hcs
        simp only [if_true] at hz
        rw [hV] at h1
        have hll : ((ss.take len').map fun s => s.data.toList).length = len' := by rw [List.length_map, List.length_take]; omega
        refine ⟨(ss.take len').map fun s => s.data.toList, ⟨some a', cap', by rw [hll]; exact h1, rdL_open (by omega) hcell⟩, by rw [hll]; unfold maxLen at hm'; omega, fun s hs => ?_⟩
        obtain ⟨t, ht, rfl⟩ := List.mem_map.1 hs
        have := hws t (List.mem_of_mem_take ht)
        simpa [maxLen] using this
    obtain ⟨y, hy⟩ := choose_lt each
    refine ⟨(List.range len).map y, by simp, by unfold maxLen at hm; omega, fun i row hi => ?_, fun row hrow => ?_⟩
    · rw [List.getElem?_map, Option.map_eq_some_iff] at hi
      obtain ⟨r, hr, rfl⟩ := hi
      obtain ⟨hlt, he⟩ := List.getElem?_eq_some_iff.1 hr
      simp at hlt he
      subst he
      obtain ⟨⟨q, c, hc, hrd⟩, _⟩ := hy i hlt
      obtain ⟨⟨_, _, hc0, _⟩, _⟩ := hy 0 (by omega)
      obtain ⟨b, off, spot⟩ := a
      have hspot : spot = none := by simpa [Addr.add] using World.cell?_spot hc0
      subst hspot
      rw [add_plain] at hc
      exact ⟨b, off, q, c, rfl, World.block_lt_of_cell? _ _ (by rw [hc]), hc, hrd⟩
    · obtain ⟨r, hr, rfl⟩ := List.mem_map.1 hrow
      exact (hy r (List.mem_range.1 hr)).2

theorem Tryd.cellsI : Tryd.prog.cellsOf 3 = 1 := by kernel_rfl
theorem Tryd.cellsA : Tryd.prog.cellsOf 65 = 3 := by kernel_rfl
set_option maxRecDepth 100000 in
/-- An array of three ints among the arguments. -/
theorem array_open {H : Type} {enc : TypeId × Value → H} {W : World} {base : Nat} {v : Value} {d : DataW H} {p : List MemPlace} {sp : Nat → Bool} (hv : Value.okWide Tryd.prog W .any base 65 v) (hd : DataW.Trod enc Tryd.prog W 0 sp true 65 v d p) : ∃ y0 y1 y2 : Int, v = .agg #[.int .i64 y0, .int .i64 y1, .int .i64 y2] := by
  obtain ⟨cs, rfl, hsz, _⟩ : ∃ cs, v = .agg cs ∧ cs.size = Tryd.prog.cellsOf 65 ∧ Row.okWide Tryd.prog W .any base 65 cs := by
    simpa [Value.okWide, Tryd.underlying65] using hv
  rw [Tryd.cellsA] at hsz
  obtain ⟨l⟩ := cs
  have hl : l.length = 3 := hsz
  match l, hl with
  | [c0, c1, c2], _ =>
    obtain ⟨fuel, hf⟩ := hd
    obtain ⟨z0, z1, z2, m, _, hy0, hy1, hy2⟩ := trod_array3 Tryd.underlying65 Tryd.cellsI (by simpa [Value.cells] using hf)
    obtain ⟨x0, e0, _⟩ := DataW.trod_int Tryd.underlying3 hy0
    obtain ⟨x1, e1, _⟩ := DataW.trod_int Tryd.underlying3 hy1
    obtain ⟨x2, e2, _⟩ := DataW.trod_int Tryd.underlying3 hy2
    simp at e0 e1 e2
    subst e0 e1 e2
    exact ⟨x0, x1, x2, rfl⟩

end Go.Proofs.YtapfkinpdinbgaaDoor
