/-
  A list of strings among the arguments, as the walks read it.
-/
import Derived.Test.YtapfkinpdinbgaaDoorLaid
import Derived.Test.YtapfkinpdinbgaaDoorFit
import Derived.SliceStrings
import Derived.ProofKit
namespace Go.Proofs.YtapfkinpdinbgaaDoor
open Go Go.ChangeShapes Go.WideShapes Go.ChangeAt Go.WideMaps Go.WideElems Go.RowKit Go.ChangeMaps

theorem Tryd.laidOut : laidOutB Tryd.prog = true := by kernel_rfl
theorem Tryd.cellsS : Tryd.prog.cellsOf 9 = 1 := by kernel_rfl

theorem rdL_open {w : World} {a : Addr} {ss : List ByteArray} {len : Nat} (hl : len ≤ ss.length) (h : ∀ i, i < ss.length → w.cell? (a.add i) = some (.string (ss.getD i ByteArray.empty))) : RdL w (some a) ((ss.take len).map fun s => s.data.toList) := by
  intro i s hs
  rw [List.getElem?_map, Option.map_eq_some_iff] at hs
  obtain ⟨t, ht, rfl⟩ := hs
  have hi : i < (ss.take len).length := (List.getElem?_eq_some_iff.1 ht).1
  rw [List.length_take] at hi
  rw [List.getElem?_take_of_lt (by omega)] at ht
  have hc := h i (by omega)
  have ht' : ss.getD i ByteArray.empty = t := by rw [List.getD, ht]; rfl
  rw [ht'] at hc
  obtain ⟨b, off, spot⟩ := a
  have h00 := h 0 (by omega)
  have hspot : spot = none := by simpa [Addr.add] using World.cell?_spot h00
  subst hspot
  rw [add_plain] at hc
  exact ⟨b, off, rfl, World.block_lt_of_cell? _ _ (by rw [hc]), by rw [← bytes_list t]; exact hc⟩

end Go.Proofs.YtapfkinpdinbgaaDoor
