/-
  The law's 'square': a matrix of any texts.
-/
import Derived.Test.YtapfkinpdinbgaaDoorGrids
import Derived.Test.YtapfkinpdinbgaaDoorCleanF
import Derived.Deep.CutBlock
namespace Go.Proofs.YtapfkinpdinbgaaDoor
open Go.RowKit

/-- Rows of strings of the call's own, each in a block of its own. -/
def GrSq (w : World) (base : Nat) (v : Value) (rows : List (List (List UInt8))) : Prop :=
  ∃ (vs : List Value) (gs : List Nat), OwnQ w base 50 1 v rows.length vs OnlySl ∧ gs.length = rows.length ∧ gs.Pairwise (· < ·) ∧ (∀ g ∈ gs, base ≤ g ∧ g < w.heap.size) ∧
    ∀ (i : Nat) (row : List (List UInt8)), rows[i]? = some row → ∃ (g c : Nat) (cs : Array Value), gs[i]? = some g ∧ vs[i]? = some (Value.slice (some ⟨g, 0, none⟩) row.length c) ∧ w.heap[g]? = some (.cells cs 9 (0, 0)) ∧ ∀ (k : Nat) (s : List UInt8), row[k]? = some s → cs[k]? = some (Value.string ⟨s.toArray⟩)

theorem GrSq.nil (w : World) (base : Nat) : GrSq w base (.slice none 0 0) [] := by
  refine ⟨[], [], OwnQ.nil _ _ _ _ _, rfl, List.Pairwise.nil, ?_, ?_⟩
  · intro g h; cases h
  · intro i row h; simp at h
theorem GrSq.below {w w' : World} {base : Nat} {v : Value} {rows : List (List (List UInt8))} (h : GrSq w base v rows) (hb : Below w.heap.size w w') : GrSq w' base v rows := by
  obtain ⟨vs, gs, h1, h2, h3, h4, h5⟩ := h
  refine ⟨vs, gs, h1.below hb, h2, h3, fun g hg => ⟨(h4 g hg).1, Nat.lt_of_lt_of_le (h4 g hg).2 hb.size⟩, fun i row hi => ?_⟩
  obtain ⟨g, c, cs, e1, e2, e3, e4⟩ := h5 i row hi
  exact ⟨g, c, cs, e1, e2, (hb.block g (h4 g (List.mem_of_getElem? e1)).2).trans e3, e4⟩

theorem GrSq.form {w : World} {base : Nat} {v : Value} {rows : List (List (List UInt8))} {n : Nat} (h : GrSq w base v rows) (hn : rows.length = n) : ∃ p c, v = .slice p n c := by
  obtain ⟨vs, gs, h1, _⟩ := h
  obtain ⟨p, c, e, _⟩ := own_cells h1.1
  rw [hn] at e
  exact ⟨p, c, e⟩

theorem GrSq.rd {w : World} {base : Nat} {p : Option Addr} {n c : Nat} {rows : List (List (List UInt8))} (h : GrSq w base (.slice p n c) rows) : RdLL w p rows := by
  obtain ⟨vs, gs, h1, _, _, h4, h5⟩ := h
  obtain ⟨p', c', e, _, hcell⟩ := own_cells h1.1
  cases e
  intro i row hi
  obtain ⟨g, c2, cs, e1, e2, e3, e4⟩ := h5 i row hi
  obtain ⟨b, hp, hlt, hcc⟩ := hcell i _ e2
  refine ⟨b, 0, _, c2, hp, hlt, by rw [Nat.zero_add]; exact hcc, fun k s hk => ?_⟩
  exact ⟨g, 0, rfl, (h4 g (List.mem_of_getElem? e1)).2, by rw [Nat.zero_add]; simpa [World.cell?, e3] using e4 k s hk⟩

theorem own_type {w : World} {base : Nat} {e e' : TypeId} {size : Nat} {v : Value} {n : Nat} {xs : List Value} (h : w.ownsRow base e size v n xs) (hne : e ≠ e') {g : Nat} {cs : Array Value} (hg : w.heap[g]? = some (.cells cs e' (0, 0))) : some g ≠ v.ownBlock := by
  intro he
  rcases h.2 with ⟨rfl, _⟩ | ⟨b, cap, cur, rfl, _, hb, _⟩
  · simp [Value.ownBlock] at he
  · simp [Value.ownBlock] at he
    subst he
    rw [hb] at hg
    cases hg
    exact hne rfl

theorem pairwise_snoc {gs : List Nat} {g : Nat} (h : gs.Pairwise (· < ·)) (hg : ∀ x ∈ gs, x < g) : (gs ++ [g]).Pairwise (· < ·) := by
  rw [List.pairwise_append]
  exact ⟨h, List.pairwise_singleton _ _, fun a ha b hb => by simp at hb; subst hb; exact hg a ha⟩

/-- append(rows, row), as the walk meets it. -/
theorem pushSq_law {ops : Array Oper} {Q : Exit → Act → World → Prop} {o : Oper} {rest : List Oper} {a : Act} {W : World} (hgd : o.guard = none) (s x : Operand)
    (ho : o.op = .call { callee := .builtin .append, args := #[s, x], argTypes := #[53, 53] }) {base : Nat} {v : Value} {rows : List (List (List UInt8))} (hs : a.eval s = v) {lim : Nat}
    {W0 : World} (hW0 : W0.heap.size = lim) (h0 : GrSq W0 base v rows) (hbl : Below lim W0 W)
    {q : Option Addr} {n c : Nat} {row : List (List UInt8)} (hn : row.length = n) (hn0 : 0 < n) (hr : GrS W lim (.slice q n c) row)
    (hx : a.eval x = .slice (some ⟨W.heap.size, 0, none⟩) 1 1) (hl : rows.length ≤ 1000000000) (hbase : base ≤ lim)
    (k : ∀ v' w', GrSq w' base v' (rows ++ [row]) → Below base W w' → wpList Tryd.prog ops Q rest (a.put o.dst v') w') : wpList Tryd.prog ops Q (o :: rest) a (W.alloc (.cells #[.slice q n c] 50)) := by
  subst hn
  obtain ⟨i0, hi, hz0, hz1, hz2⟩ := info_parts Tryd.infoSS
  have hlw : lim ≤ W.heap.size := by rw [← hW0]; exact hbl.size
  have hbA : Below W.heap.size W (W.alloc (.cells #[.slice q row.length c] 50)) := (Below.refl _ _).alloc (Nat.le_refl _) _
  -- the blocks of the rows lie below those of the call's world
  obtain ⟨vs, gs, a1, a2, a3, a4, a5⟩ := h0
  have h1 : OwnQ (W.alloc (.cells #[.slice q row.length c] 50)) base 50 1 v rows.length vs OnlySl := (a1.below (by rw [hW0]; exact hbl)).below hbA
  have hvl : vs.length = rows.length := by have := a1.1.1; omega
  have hrA := hr.below hbA
  rcases hr.2 with ⟨_, e0⟩ | ⟨g, cap, cur, e, hgb, hg, hc1, hc2, hc3, hc4⟩
  · rw [e0] at hn0; exact absurd hn0 (Nat.lt_irrefl 0)
  cases e
  have hgl : g < W.heap.size := (Array.getElem?_eq_some_iff.1 hg).1
  refine wpList_append_q hgd s x 53 ho base 50 i0 (.slice none 0 0) 1 24 Tryd.underlying53 hi hz0 hz1 hz2 rfl OnlySl (by intro u hu; simp [Value.cells] at hu; subst hu; exact OnlySl.mk _ _ _) v rows.length vs hs h1 ⟨W.heap.size, 0, none⟩ 1 1 [.slice (some ⟨g, 0, none⟩) row.length c] hx rfl
    (by intro j u hj; match j, hj with | 0, hj => simp at hj; subst hj; simp [Addr.add, go_sem]) (by simp [Value.oneCell']) (by intro u hu; simp at hu; subst hu; exact OnlySl.mk _ _ _) (by unfold maxLen; omega) (by omega) (by rw [World.size_alloc]; omega) ?_
  intro v' w' h3 hgr
  have hbb := h1.base_below hgr (by rw [World.size_alloc]; omega)
  -- a block of strings is as it was
  have keep : ∀ b (cs : Array Value), b < W.heap.size → W.heap[b]? = some (.cells cs 9 (0, 0)) → w'.heap[b]? = some (.cells cs 9 (0, 0)) := by
    intro b cs hb hcs
    have h1' : (W.alloc (.cells #[.slice (some ⟨g, 0, none⟩) row.length c] 50)).heap[b]? = some (.cells cs 9 (0, 0)) := (hbA.block b hb).trans hcs
    rw [hgr.block b (by rw [World.size_alloc]; omega) (own_type h1.1 (by decide) h1')]
    exact h1'
  have hsz : W.heap.size ≤ w'.heap.size := Nat.le_trans (by rw [World.size_alloc]; omega) hgr.size
  refine k v' w' ⟨vs ++ [.slice (some ⟨g, 0, none⟩) row.length c], gs ++ [g], by rw [List.length_append]; exact h3, by simp [a2], pairwise_snoc a3 (fun x hx => by have := (a4 x hx).2; omega), fun x hx => ?_, fun i r hi => ?_⟩ (((Below.refl _ _).alloc (by omega) _).trans hbb)
  · rcases List.mem_append.1 hx with hx | hx
    · have := a4 x hx; exact ⟨this.1, by omega⟩
    · simp at hx; subst hx; exact ⟨by omega, by omega⟩
  · rcases snoc_cases hi with ⟨hlt, hi⟩ | ⟨rfl, rfl⟩
    · obtain ⟨g', c', cs, e1, e2, e3, e4⟩ := a5 i r hi
      have hg' := (a4 g' (List.mem_of_getElem? e1)).2
      exact ⟨g', c', cs, by rw [List.getElem?_append_left (by omega)]; exact e1, by rw [List.getElem?_append_left (by omega)]; exact e2, keep g' cs (by omega) ((hbl.block g' (by omega)).trans e3), e4⟩
    · refine ⟨g, c, cur, by rw [List.getElem?_append_right (by omega), a2, Nat.sub_self]; rfl, by rw [List.getElem?_append_right (by omega), hvl, Nat.sub_self]; rfl, keep g cur hgl hg, fun k s hk => ?_⟩
      have hkl := (List.getElem?_eq_some_iff.1 hk).1
      have h1 : (scells r)[k]? = some (Value.string ⟨s.toArray⟩) := by unfold scells; simp [hk]
      rw [← hc4, Nat.mul_one, List.getElem?_take_of_lt hkl] at h1
      simpa using h1

/-- The element of a matrix of any texts. -/
def sqEnt (rows : List (List (List UInt8))) (i k : Nat) : List UInt8 := match rows[i]? with
  | some row => (match row[k]? with | some s => cleanF 12 s | none => [48])
  | none => [48]
def sqRow (rows : List (List (List UInt8))) (i n : Nat) : List (List UInt8) := (List.range n).map (sqEnt rows i)
def sqF (rows : List (List (List UInt8))) (N n : Nat) : List (List (List UInt8)) := (List.range n).map fun i => sqRow rows i N
theorem sqRow_succ (rows : List (List (List UInt8))) (i n : Nat) : sqRow rows i (n + 1) = sqRow rows i n ++ [sqEnt rows i n] := by unfold sqRow; rw [List.range_succ, List.map_append]; rfl
theorem sqF_succ (rows : List (List (List UInt8))) (N n : Nat) : sqF rows N (n + 1) = sqF rows N n ++ [sqRow rows n N] := by unfold sqF; rw [List.range_succ, List.map_append]; rfl
theorem sqRow_len (rows : List (List (List UInt8))) (i n : Nat) : (sqRow rows i n).length = n := by unfold sqRow; simp
theorem sqF_len (rows : List (List (List UInt8))) (N n : Nat) : (sqF rows N n).length = n := by unfold sqF; simp

end Go.Proofs.YtapfkinpdinbgaaDoor
