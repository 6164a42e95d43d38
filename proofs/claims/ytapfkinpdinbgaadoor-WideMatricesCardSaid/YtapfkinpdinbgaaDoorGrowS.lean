/-
  Rows of strings of the call's own that grow by one, or are changed at one place.
-/
import Derived.Test.YtapfkinpdinbgaaDoorGrow
import Derived.Test.YtapfkinpdinbgaaDoorFit
import Derived.Test.YtapfkinpdinbgaaDoorList
namespace Go.Proofs.YtapfkinpdinbgaaDoor
open Go.RowKit

def scells (ls : List (List UInt8)) : List Value := ls.map fun s => Value.string ⟨s.toArray⟩
theorem scells_append (a b : List (List UInt8)) : scells (a ++ b) = scells a ++ scells b := by simp [scells]

/-- A slice of strings that the call has made. -/
def GrS (w : World) (base : Nat) (v : Value) (ls : List (List UInt8)) : Prop := w.ownsRow base 9 1 v ls.length (scells ls)
theorem GrS.nil (w : World) (base : Nat) : GrS w base (.slice none 0 0) [] := ownsRow_nil _ _ _
theorem GrS.below {w w' : World} {base : Nat} {v : Value} {ls : List (List UInt8)} (h : GrS w base v ls) (hb : Below w.heap.size w w') : GrS w' base v ls :=
  own_below h hb

theorem Tryd.infoS : (Tryd.prog.info? 9).map (fun i => (i.zero, i.size, i.bytes)) = some (some (.string ⟨#[]⟩), 1, 16) := by kernel_rfl

theorem GrS.rd {w : World} {base : Nat} {v : Value} {ls : List (List UInt8)} (h : GrS w base v ls) : ∃ p c, v = .slice p ls.length c ∧ ls.length ≤ c ∧ RdL w p ls := by
  rcases h.2 with ⟨rfl, hn⟩ | ⟨g, cap, cur, rfl, hb, hg, hc, _, hs, ht⟩
  · rw [hn]
    have : ls = [] := List.length_eq_zero_iff.1 hn
    subst this
    exact ⟨none, 0, rfl, Nat.le_refl _, fun i s hs => by simp at hs⟩
  · refine ⟨_, cap, rfl, hc, fun i s hs => ?_⟩
    have hi : i < ls.length := (List.getElem?_eq_some_iff.1 hs).1
    refine ⟨g, 0, rfl, (Array.getElem?_eq_some_iff.1 hg).1, ?_⟩
    have h1 : (scells ls)[i]? = some (.string ⟨s.toArray⟩) := by unfold scells; simp [hs]
    rw [← ht, Nat.mul_one, List.getElem?_take_of_lt hi] at h1
    rw [Nat.zero_add]
    simpa [World.cell?, hg] using h1

/-- append(d, x), as the walk meets it. -/
theorem pushS_law {ops : Array Oper} {Q : Exit → Act → World → Prop} {o : Oper} {rest : List Oper} {a : Act} {W : World} (hgd : o.guard = none) (s x : Operand)
    (ho : o.op = .call { callee := .builtin .append, args := #[s, x], argTypes := #[50, 50] }) {base : Nat} {v : Value} {ls : List (List UInt8)} (hs : a.eval s = v) (h : GrS W base v ls) (d : List UInt8)
    (hx : a.eval x = .slice (some ⟨W.heap.size, 0, none⟩) 1 1) (hl : ls.length ≤ 100000000000) (hbase : base ≤ W.heap.size)
    (k : ∀ v' w', GrS w' base v' (ls ++ [d]) → Below base W w' → wpList Tryd.prog ops Q rest (a.put o.dst v') w') : wpList Tryd.prog ops Q (o :: rest) a (W.alloc (.cells #[.string ⟨d.toArray⟩] 9)) := by
  obtain ⟨i0, hi, hz0, hz1, hz2⟩ := info_parts Tryd.infoS
  have hg0 := World.grownBy_alloc W (.cells #[.string ⟨d.toArray⟩] 9) none
  have h' : (W.alloc (.cells #[.string ⟨d.toArray⟩] 9)).ownsRow base 9 1 v ls.length (scells ls) := World.ownsRow.kept h hg0 (by cases v.ownBlock <;> simp)
  have hc : (W.alloc (.cells #[.string ⟨d.toArray⟩] 9)).cell? ⟨W.heap.size, 0, none⟩ = some (.string ⟨d.toArray⟩) := by simp [go_sem]
  refine wpList_append_own _ hgd s x 50 ho base 9 i0 (.string ⟨#[]⟩) 1 16 Tryd.underlying50 hi hz0 hz1 hz2 rfl (by decide) v ls.length (scells ls) hs h' ⟨W.heap.size, 0, none⟩ 1 1 [.string ⟨d.toArray⟩] hx rfl
    (by intro j u hj; match j, hj with | 0, hj => simp at hj; subst hj; simp [Addr.add]) (by simp [Value.oneCell']) (by unfold maxLen; omega) (by omega) (by rw [World.size_alloc]; omega) ?_
  intro v' w' h2 h3 _
  refine k v' w' ?_ ?_
  · unfold GrS; rw [List.length_append, scells_append]; exact h2
  · exact ((Below.refl _ _).alloc hbase _).trans (below_of_own h' h3 (by rw [World.size_alloc]; omega))

/-- x[i] = s. -/
theorem GrS.put {w : World} {base : Nat} {p : Option Addr} {n c : Nat} {ls : List (List UInt8)} (h : GrS w base (.slice p n c) ls) {i : Nat} (hi : i < ls.length) (s : List UInt8) :
    ∃ g, p = some ⟨g, 0, none⟩ ∧ base ≤ g ∧ (∃ u, w.cell? ⟨g, i, none⟩ = some u) ∧ w.frozen? ⟨g, i, none⟩ = false ∧ GrS (w.setCell ⟨g, i, none⟩ (.string ⟨s.toArray⟩)) base (.slice p n c) (ls.set i s) := by
  rcases h.2 with ⟨e, hn⟩ | ⟨g, cap, cur, e, hb, hg, hc, hz, hs, ht⟩
  · rw [hn] at hi; omega
  · cases e
    have hlt : i < cur.size := by omega
    refine ⟨g, rfl, hb, ⟨cur[i], by simp [World.cell?, hg, hlt]⟩, by simp [World.frozen?, hg], ?_⟩
    refine ⟨by rw [List.length_set]; unfold scells; simp, Or.inr ⟨g, c, cur.setIfInBounds i (.string ⟨s.toArray⟩), by rw [List.length_set], hb, ?_, by rw [List.length_set]; exact hc, by simpa using hz, by simpa using hs, ?_⟩⟩
    · rw [Lib.heap_setCell_same hg]
    · rw [List.length_set]
      rw [Array.toList_setIfInBounds, List.take_set, ht]
      unfold scells
      rw [List.map_set]

end Go.Proofs.YtapfkinpdinbgaaDoor
