/-
  A map from uint to numbers, as a function.
-/
import Derived.Test.YtapfkinpdinbgaaDoorList
import Derived.Maps.OwnSet
import Derived.Maps.Views
namespace Go.Proofs.YtapfkinpdinbgaaDoor
open Go.RowKit Go.Maps

/-- Elements are read as they are. -/
def anyR (v : Value) : Option (DataW Value × List MemPlace) := some (.held v, [])

def ulit (k : Nat) : Lit := .int .u64 (k : Int)
theorem ulit_wf {k : Nat} (h : k < 18446744073709551616) : (ulit k).wf = true := by
  have h1 : IntKind.u64.min = 0 := rfl
  have h2 : IntKind.u64.max = 18446744073709551615 := rfl
  unfold ulit Lit.wf
  simp [h1, h2]; omega
theorem ulit_key {k : Nat} (h : k < 18446744073709551616) : keyOf Tryd.prog 48 (.int .u64 (k : Int)) = some (ulit k) := keyOf_int_mk Tryd.underlying48 (ulit_wf h)
theorem ulit_isKey (k : Nat) : WideAt.IsKeyLit (ulit k) := trivial
theorem ulit_ne {j k : Nat} (h : j ≠ k) : ulit j ≠ ulit k := by
  intro e; unfold ulit at e; simp at e; omega

/-- Block b holds the map g, of at most n entries. -/
def MapIs (w : World) (b n : Nat) (g : Nat → Option Value) : Prop :=
  ∃ D : DataW Value, w.ownsMap Tryd.prog 48 anyR b n D ∧ IsMap D ∧ ∀ k, Maps.has D (ulit k) = (g k).isSome ∧ (∀ v, g k = some v → ∀ z, D.atKey (ulit k) z = .held v) ∧ (g k = none → ∀ z, D.atKey (ulit k) z = z)

theorem MapIs.made (w : World) : MapIs (w.alloc (.map #[] 0)) w.heap.size 0 (fun _ => none) :=
  ⟨.map [], World.ownsMap_made w _ _ _, (World.ownsMap_made w Tryd.prog 48 anyR).isMap, fun k => ⟨rfl, fun v h => (by simp at h), fun _ z => rfl⟩⟩

theorem MapIs.kept {w w' : World} {b n : Nat} {g : Nat → Option Value} {row : Option Nat} (h : MapIs w b n g) (hg : w.grownBy w' row) (hne : some b ≠ row) : MapIs w' b n g := by
  obtain ⟨D, h1, h2⟩ := h
  exact ⟨D, h1.kept hg hne, h2⟩

def putG (g : Nat → Option Value) (k : Nat) (v : Value) : Nat → Option Value := fun j => if j = k then some v else g j

def zeroNum : Value := .agg #[.bool false, .slice none 0 0]

theorem zero79 (w : World) : (zeroValue 79).run Tryd.prog w = .ok zeroNum w := by
  obtain ⟨i, hi, hz, _, _⟩ := info_parts Tryd.info79
  unfold zeroValue
  rw [Sem.run_bind, run_typeInfo w hi]
  simp only [Result.andThen, hz]
  rfl

theorem MapIs.look {w : World} {b n : Nat} {g : Nat → Option Value} (h : MapIs w b n g) {k : Nat} (hk : k < 18446744073709551616) :
    (Instr.lookup 115 (.map (some b)) (.int .u64 (k : Int)) true).run Tryd.prog w = .ok (.tuple #[(g k).getD zeroNum, .bool (g k).isSome]) w := by
  obtain ⟨D, h1, _, h2⟩ := h
  obtain ⟨a1, a2, a3⟩ := h2 k
  obtain ⟨v, ps, e1, e2⟩ := h1.look_ok (int_keyed Tryd.underlying48) Tryd.underlying115 (zero79 w) (zd := .held zeroNum) (zp := []) rfl (ulit_key hk)
  rw [a1] at e1
  rw [e1]
  simp only [anyR, Option.some.injEq, Prod.mk.injEq] at e2
  cases hg : g k with
  | none =>
    rw [a3 hg] at e2
    have := e2.1
    simp at this
    rw [this]; rfl
  | some u =>
    rw [a2 u hg] at e2
    have := e2.1
    simp at this
    rw [this]; rfl

theorem MapIs.store {w : World} {b n : Nat} {g : Nat → Option Value} (h : MapIs w b n g) {k : Nat} (hk : k < 18446744073709551616) (hn : n < 1000000) (v : Value) :
    ∃ w', (Instr.mapUpdate 115 (.map (some b)) (.int .u64 (k : Int)) v).run Tryd.prog w = .ok () w' ∧ MapIs w' b (n + 1) (putG g k v) ∧ w.grownBy w' (some b) := by
  obtain ⟨D, h1, hM, h2⟩ := h
  obtain ⟨w', e1, e2, e3⟩ := h1.update (int_keyed Tryd.underlying48) Tryd.underlying115 (by unfold maxLen; omega) (val := v) (d := .held v) (ps := []) (ulit_key hk) rfl
  refine ⟨w', e1, ⟨_, e2, e2.isMap, fun j => ?_⟩, e3⟩
  unfold putG
  by_cases hj : j = k
  · subst hj
    rw [if_pos rfl]
    refine ⟨has_put_same hM (ulit_isKey _) _, fun u hu z => ?_, fun h => by cases h⟩
    cases hu
    exact atKey_put_same hM (ulit_isKey _) _ _
  · rw [if_neg hj]
    obtain ⟨a1, a2, a3⟩ := h2 j
    exact ⟨by rw [has_put_other (ulit_ne hj)]; exact a1, fun u hu z => by rw [atKey_put_other (ulit_ne hj)]; exact a2 u hu z, fun hu z => by rw [atKey_put_other (ulit_ne hj)]; exact a3 hu z⟩

end Go.Proofs.YtapfkinpdinbgaaDoor
