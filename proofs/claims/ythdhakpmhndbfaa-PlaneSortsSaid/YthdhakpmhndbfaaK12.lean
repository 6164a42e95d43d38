/-
  Rows of rows: of strings, of the reference's numbers; how they grow; Rows of four numbers that grow: plain; Rows of spokeshave/api.Plane that grow; A sorted list without its equal neighbours: plain; Package lists: Sorted at slices of spokeshave/api.Plane; Package plane: on which side of a plane a point lies; Package sums: minors of three rows.
-/
import Derived.Shelf.SlSortCmp.NoneTotal
import Derived.Test.YthdhakpmhndbfaaK1
import Derived.Test.YthdhakpmhndbfaaK2
import Derived.Test.YthdhakpmhndbfaaK3
import Derived.Test.YthdhakpmhndbfaaK4
import Derived.Test.YthdhakpmhndbfaaK5
import Derived.Test.YthdhakpmhndbfaaK6
import Derived.Test.YthdhakpmhndbfaaK7
import Derived.Test.YthdhakpmhndbfaaK8
import Derived.Test.YthdhakpmhndbfaaK9
import Derived.Test.YthdhakpmhndbfaaK10
import Derived.Test.YthdhakpmhndbfaaK11
namespace Go.Proofs.Ythdhakpmhndbfaa
open Go.RowKit

/-- A slice that the call has made; R holds of every cell of its block. -/
def OwnQ (w : World) (base : Nat) (e : TypeId) (size : Nat) (v : Value) (n : Nat) (xs : List Value) (R : Value → Prop) : Prop :=
  w.ownsRow base e size v n xs ∧ ∀ g cs, v.ownBlock = some g → w.heap[g]? = some (.cells cs e (0, 0)) → ∀ u, u ∈ cs.toList → R u

theorem OwnQ.nil (w : World) (base : Nat) (e : TypeId) (size : Nat) (R : Value → Prop) : OwnQ w base e size (.slice none 0 0) 0 [] R :=
  ⟨World.ownsRow_nil _ _ _ _, fun g cs h => by simp [Value.ownBlock] at h⟩

theorem OwnQ.below {w w' : World} {base : Nat} {e : TypeId} {size : Nat} {v : Value} {n : Nat} {xs : List Value} {R : Value → Prop} (h : OwnQ w base e size v n xs R) (hb : Below w.heap.size w w') : OwnQ w' base e size v n xs R := by
  refine ⟨own_below h.1 hb, fun g cs hg hc => ?_⟩
  have hlt := (h.1.lt g hg).2
  rw [hb.block g hlt] at hc
  exact h.2 g cs hg hc

/-- A block that holds a cell of another kind is another one. -/
theorem OwnQ.apart {w : World} {base : Nat} {e : TypeId} {size : Nat} {v : Value} {n : Nat} {xs : List Value} {R : Value → Prop} (h : OwnQ w base e size v n xs R) {b o : Nat} {u : Value} (hc : w.cell? ⟨b, o, none⟩ = some u) (hu : ¬ R u) : some b ≠ v.ownBlock := by
  intro hb
  have hb' := hb.symm
  rcases h.1.2 with ⟨rfl, _⟩ | ⟨g, cap, cur, rfl, _, hg, _⟩
  · simp [Value.ownBlock] at hb
  · simp [Value.ownBlock] at hb
    subst hb
    refine hu (h.2 b cur hb' hg u ?_)
    simp only [World.cell?, hg] at hc
    exact List.mem_of_getElem? (by simpa using hc)

theorem OwnQ.keep {w w' : World} {base : Nat} {e : TypeId} {size : Nat} {v : Value} {n : Nat} {xs : List Value} {R : Value → Prop} (h : OwnQ w base e size v n xs R) (hg : w.grownBy w' v.ownBlock) {b o : Nat} {u : Value} (hc : w.cell? ⟨b, o, none⟩ = some u) (hu : ¬ R u) {o' : Nat} {u' : Value} (hc' : w.cell? ⟨b, o', none⟩ = some u') : w'.cell? ⟨b, o', none⟩ = some u' :=
  hg.cell hc' (h.apart hc hu)

theorem OwnQ.base_below {w w' : World} {base : Nat} {e : TypeId} {size : Nat} {v : Value} {n : Nat} {xs : List Value} {R : Value → Prop} (h : OwnQ w base e size v n xs R) (hg : w.grownBy w' v.ownBlock) (hb : base ≤ w.heap.size) : Below base w w' :=
  ⟨hg.os, hg.tape, hg.output, hg.size, fun k hk => hg.block k (by omega) (fun e => by have := (h.1.lt k e.symm).1; omega)⟩

/-- Integers' rows are kept by an append onto a row without integers. -/
theorem OwnQ.rd {k : IntKind} {w w' : World} {base : Nat} {e : TypeId} {size : Nat} {v : Value} {n : Nat} {xs : List Value} {R : Value → Prop} (h : OwnQ w base e size v n xs R) (hR : ∀ q x, ¬ R (.int q x)) (hg : w.grownBy w' v.ownBlock) {p : Option Addr} {m : Nat} {ns : List Nat} (hr : Rd k w p m ns) : Rd k w' p m ns := by
  refine ⟨hr.1, fun j hj => ?_⟩
  obtain ⟨b, off, hp, hlt, hc⟩ := hr.2 j hj
  exact ⟨b, off, hp, Nat.lt_of_lt_of_le hlt hg.size, h.keep hg hc (hR _ _) hc⟩
section
variable {P : Program} (w : World)
/-- append onto such a row. -/
theorem run_append_q (base : Nat) (t ty e : TypeId) (i : TypeInfo) (z : Value) (size bytes : Nat) (ht : P.underlying t = some (.slice e)) (hi : P.info? e = some i) (hz : i.zero = some z)
    (hsize : i.size = size) (hby : i.bytes = bytes) (hzs : z.cells.size = size) (R : Value → Prop) (hzR : ∀ u, u ∈ z.cells.toList → R u)
    (v : Value) (n : Nat) (xs : List Value) (hq : OwnQ w base e size v n xs R)
    (a : Addr) (m c : Nat) (news : List Value) (hl : news.length = m * size) (hnews : ∀ j u, news[j]? = some u → w.cell? (a.add j) = some u) (h1 : ∀ u ∈ news, u.oneCell' = true) (hn : ∀ u ∈ news, R u)
    (h63 : n + m ≤ maxLen) (hbytes : (n + m) * bytes ≤ 140737488355328) (hbase : base ≤ w.heap.size) :
    ∃ v' w', (Builtin.append_ #[t, t] ty #[v, .slice (some a) m c]).run P w = .ok v' w' ∧ OwnQ w' base e size v' (n + m) (xs ++ news) R ∧ w.grownBy w' v.ownBlock := by
  subst hsize hby
  have hsmall : n + m ≤ 9223372036854775807 := by simp only [maxLen] at h63; omega
  obtain ⟨hown, hR⟩ := hq
  have hlen : (xs ++ news).length = (n + m) * i.size := by rw [List.length_append, hown.1, hl, Nat.add_mul]
  have hzero : ∀ k u, u ∈ (Builtin.zeroCells z.cells k).toList → R u := by
    intro k u hu
    unfold Builtin.zeroCells at hu
    simp only [Array.toList_map, Array.toList_range, List.mem_map, List.mem_range] at hu
    obtain ⟨j, hj, rfl⟩ := hu
    have hs : 0 < z.cells.size := by
      rcases Nat.eq_zero_or_pos z.cells.size with h | h
      · rw [h] at hj; simp at hj
      · exact h
    rw [getElem!_pos z.cells _ (Nat.mod_lt j hs)]
    exact hzR _ (by simp)
  have grown : ∀ (old : Nat), (∀ u ∈ xs, R u) → ∀ (row : Option Nat),
      OwnQ (w.drew.alloc (.cells (xs.toArray ++ news.toArray ++ Builtin.zeroCells z.cells (grownCap w (n + m) old e - (n + m))) e)) base e i.size (.slice (some ⟨w.heap.size, 0, none⟩) (n + m) (grownCap w (n + m) old e)) (n + m) (xs ++ news) R ∧
      w.grownBy (w.drew.alloc (.cells (xs.toArray ++ news.toArray ++ Builtin.zeroCells z.cells (grownCap w (n + m) old e - (n + m))) e)) row := by
    intro old hxR row
    have hge := grownCap_ge w (n + m) old e
    have hcm : grownCap w (n + m) old e ≤ maxLen := grownCap_le_maxLen w (n + m) old e h63
    refine ⟨⟨⟨hlen, .inr ⟨w.heap.size, _, _, rfl, hbase, heap_alloc_new w.drew _, hge, hcm, ?_, ?_⟩⟩, ?_⟩, ⟨rfl, rfl, rfl, by simp, fun k hk _ => heap_alloc_old w.drew _ hk⟩⟩
    · simp only [Array.size_append, List.size_toArray, size_zeroCells, hzs, hown.1, hl, ← Nat.add_mul]
      congr 1
      omega
    · simp only [Array.toList_append, List.append_assoc]
      rw [← List.append_assoc, ← hlen]
      exact List.take_left
    · intro g cs hg hc u hu
      simp [Value.ownBlock] at hg
      subst hg
      have hnew := heap_alloc_new w.drew (.cells (xs.toArray ++ news.toArray ++ Builtin.zeroCells z.cells (grownCap w (n + m) old e - (n + m))) e)
      have e1 : w.drew.heap.size = w.heap.size := rfl
      rw [e1] at hnew
      rw [hnew] at hc
      cases hc
      simp only [Array.toList_append, List.mem_append] at hu
      rcases hu with (hu | hu) | hu
      · exact hxR u hu
      · exact hn u hu
      · exact hzero _ u hu
  rcases hown.2 with ⟨rfl, rfl⟩ | ⟨g, cap, cur, rfl, hbg, hg, hnc, hcm, hcs, htake⟩
  · have hx : xs = [] := List.eq_nil_of_length_eq_zero (by simpa using hown.1)
    subst hx
    by_cases hm : m = 0
    · subst hm
      have hn0 : news = [] := List.eq_nil_of_length_eq_zero (by simpa using hl)
      subst hn0
      refine ⟨.slice none 0 0, w, ?_, OwnQ.nil _ _ _ _ _, ⟨rfl, rfl, rfl, Nat.le_refl _, fun _ _ _ => rfl⟩⟩
      simp [Builtin.append_, run_underlying ht, sizeOf, typeInfo, hi, Builtin.lenOf, Builtin.firstCells, loadCells, loadCellsFrom]
    · have hr := run_append_nil (P := P) w t ty e i z ht hi hz a m c news hl hnews (by omega) (by omega) (by have hb := hbytes; simp only [Nat.zero_add] at hb; omega)
      have hgr := grown 0 (by simp) (Value.ownBlock (.slice none 0 0))
      simp only [Nat.zero_add, List.nil_append, Array.empty_append] at hgr ⊢
      exact ⟨_, _, hr, hgr.1, hgr.2⟩
  · have hcur : ∀ u, u ∈ cur.toList → R u := hR g cur rfl hg
    by_cases hroom : n + m ≤ cap
    · have hfit : n * i.size + news.length ≤ cur.size := by rw [hl, hcs, ← Nat.add_mul]; exact Nat.mul_le_mul_right _ hroom
      have hr := run_append_room (P := P) w t ty e i ht hi g n cap cur hg a m c news hl hnews h1 hroom hfit
      refine ⟨_, _, hr, ⟨⟨hlen, .inr ⟨g, cap, _, rfl, hbg, setRow_heap w g cur _ e _ hg, hroom, hcm, ?_, ?_⟩⟩, ?_⟩, ⟨rfl, rfl, rfl, by simp, fun k _ hk => setRow_other w g k _ (fun e => hk (by simp [Value.ownBlock, e]))⟩⟩
      · simp only [List.size_toArray, List.length_append, List.length_take, List.length_drop, Array.length_toList]
        omega
      · rw [htake, ← hlen]
        exact List.take_left
      · intro g' cs hg' hc u hu
        simp [Value.ownBlock] at hg'
        subst hg'
        rw [setRow_heap w g cur _ e _ hg] at hc
        cases hc
        simp only [List.mem_append] at hu
        rcases hu with (hu | hu) | hu
        · exact hcur u (List.mem_of_mem_take hu)
        · exact hn u hu
        · exact hcur u (List.mem_of_mem_drop hu)
    · have holds : ∀ j u, xs[j]? = some u → w.cell? ((⟨g, 0, none⟩ : Addr).add j) = some u := hown.cells (g := g) rfl
      have hr := run_append_grow (P := P) w t ty e i z ht hi hz ⟨g, 0, none⟩ n cap xs hown.1 holds a m c news hl hnews (by omega) (by omega) (growslice_fits (by omega) hbytes)
      have hgr := grown cap (fun u hu => hcur u (by rw [← htake] at hu; exact List.mem_of_mem_take hu)) (Value.ownBlock (.slice (some ⟨g, 0, none⟩) n cap))
      exact ⟨_, _, hr, hgr.1, hgr.2⟩

variable {w}
theorem wpList_append_q {ops : Array Oper} {rest : List Oper} {o : Oper} {a : Act} {Q : Exit → Act → World → Prop} (hgd : o.guard = none) (s x : Operand) (t : TypeId)
    (ho : o.op = .call { callee := .builtin .append, args := #[s, x], argTypes := #[t, t] })
    (base : Nat) (e : TypeId) (i : TypeInfo) (z : Value) (size bytes : Nat) (ht : P.underlying t = some (.slice e)) (hi : P.info? e = some i) (hz : i.zero = some z)
    (hsize : i.size = size) (hby : i.bytes = bytes) (hzs : z.cells.size = size) (R : Value → Prop) (hzR : ∀ u, u ∈ z.cells.toList → R u)
    (v : Value) (n : Nat) (xs : List Value) (hs : a.eval s = v) (hq : OwnQ w base e size v n xs R)
    (ad : Addr) (m c : Nat) (news : List Value) (hx : a.eval x = .slice (some ad) m c) (hl : news.length = m * size) (hnews : ∀ j u, news[j]? = some u → w.cell? (ad.add j) = some u) (h1 : ∀ u ∈ news, u.oneCell' = true) (hn : ∀ u ∈ news, R u)
    (h63 : n + m ≤ maxLen) (hbytes : (n + m) * bytes ≤ 140737488355328) (hbase : base ≤ w.heap.size)
    (h : ∀ v' w', OwnQ w' base e size v' (n + m) (xs ++ news) R → w.grownBy w' v.ownBlock → wpList P ops Q rest (a.put o.dst v') w') :
    wpList P ops Q (o :: rest) a w := by
  refine wpList_plain hgd fun K hK => ?_
  obtain ⟨v', w', hr, h2, h3⟩ := run_append_q (P := P) w base t o.type e i z size bytes ht hi hz hsize hby hzs R hzR v n xs hq ad m c news hl hnews h1 hn h63 hbytes hbase
  unfold Oper.wp execOp
  simp only [ho, resolve, invoke, builtin, Sem.run_bind, Sem.run_pure, Result.andThen_ok, List.map_toArray, List.map_cons, List.map_nil, hs, hx, hr]
  exact hK _ _ (h v' w' h2 h3)
end

end Go.Proofs.Ythdhakpmhndbfaa

namespace Go.Proofs.Ythdhakpmhndbfaa
open Go.RowKit

/-- No integer, no string. -/
def NoInt (u : Value) : Prop := (∀ q x, u ≠ .int q x) ∧ ∀ s, u ≠ .string s
/-- A slice. -/
def OnlySl (u : Value) : Prop := ∃ p n c, u = .slice p n c
theorem NoInt.i (q : IntKind) (x : Int) : ¬ NoInt (.int q x) := fun h => h.1 q x rfl
theorem OnlySl.i (q : IntKind) (x : Int) : ¬ OnlySl (.int q x) := fun ⟨_, _, _, h⟩ => by cases h
theorem OnlySl.s (s : ByteArray) : ¬ OnlySl (.string s) := fun ⟨_, _, _, h⟩ => by cases h
theorem OnlySl.b (x : Bool) : ¬ OnlySl (.bool x) := fun ⟨_, _, _, h⟩ => by cases h
theorem OnlySl.mk (p : Option Addr) (n c : Nat) : OnlySl (.slice p n c) := ⟨p, n, c, rfl⟩
theorem NoInt.bool (x : Bool) : NoInt (.bool x) := And.intro (fun _ _ h => by cases h) (fun _ h => by cases h)
theorem NoInt.slice (p : Option Addr) (n c : Nat) : NoInt (.slice p n c) := And.intro (fun _ _ h => by cases h) (fun _ h => by cases h)

/-- Rows of strings at an address. -/
def RdLL (w : World) (a : Option Addr) (rows : List (List (List UInt8))) : Prop :=
  ∀ i row, rows[i]? = some row → ∃ b off q c, a = some ⟨b, off, none⟩ ∧ b < w.heap.size ∧ w.cell? ⟨b, off + i, none⟩ = some (.slice q row.length c) ∧ RdL w q row
theorem RdLL.below {w w' : World} {a : Option Addr} {rows : List (List (List UInt8))} (h : RdLL w a rows) (hb : Below w.heap.size w w') : RdLL w' a rows := by
  intro i row hi
  obtain ⟨b, off, q, c, ha, hlt, hc, hr⟩ := h i row hi
  exact ⟨b, off, q, c, ha, Nat.lt_of_lt_of_le hlt hb.size, (hb.cell (p := ⟨b, _, none⟩) hlt).trans hc, hr.below hb⟩

/-- Numbers at an address. -/
def NumsR (w : World) (a : Option Addr) (row : List Int) (K : Nat) : Prop :=
  ∀ k z, row[k]? = some z → ∃ b off neg q n c xs, a = some ⟨b, off, none⟩ ∧ b < w.heap.size ∧ w.cell? ⟨b, off + k * 2, none⟩ = some (.bool neg) ∧ w.cell? ⟨b, off + k * 2 + 1, none⟩ = some (.slice q n c) ∧ RIs w neg q n c xs z ∧ n ≤ K
theorem NumsR.below {w w' : World} {a : Option Addr} {row : List Int} {K : Nat} (h : NumsR w a row K) (hb : Below w.heap.size w w') : NumsR w' a row K := by
  intro k z hk
  obtain ⟨b, off, neg, q, n, c, xs, ha, hlt, h0, h1, hr, hn⟩ := h k z hk
  exact ⟨b, off, neg, q, n, c, xs, ha, Nat.lt_of_lt_of_le hlt hb.size, (hb.cell (p := ⟨b, _, none⟩) hlt).trans h0, (hb.cell (p := ⟨b, _, none⟩) hlt).trans h1, hr.below hb, hn⟩
/-- Rows of numbers at an address. -/
def RdMN (w : World) (a : Option Addr) (M : List (List Int)) (K : Nat) : Prop :=
  ∀ i row, M[i]? = some row → ∃ b off q c, a = some ⟨b, off, none⟩ ∧ b < w.heap.size ∧ w.cell? ⟨b, off + i, none⟩ = some (.slice q row.length c) ∧ row.length ≤ c ∧ NumsR w q row K
theorem RdMN.below {w w' : World} {a : Option Addr} {M : List (List Int)} {K : Nat} (h : RdMN w a M K) (hb : Below w.heap.size w w') : RdMN w' a M K := by
  intro i row hi
  obtain ⟨b, off, q, c, ha, hlt, hc, hl, hr⟩ := h i row hi
  exact ⟨b, off, q, c, ha, Nat.lt_of_lt_of_le hlt hb.size, (hb.cell (p := ⟨b, _, none⟩) hlt).trans hc, hl, hr.below hb⟩

/-- What an own row of cells reads as. -/
theorem own_cells {w : World} {base : Nat} {e : TypeId} {size : Nat} {v : Value} {n : Nat} {xs : List Value} (h : w.ownsRow base e size v n xs) : ∃ p c, v = .slice p n c ∧ n ≤ c ∧ ∀ j u, xs[j]? = some u → ∃ g, p = some ⟨g, 0, none⟩ ∧ g < w.heap.size ∧ w.cell? ⟨g, j, none⟩ = some u := by
  rcases h.2 with ⟨rfl, rfl⟩ | ⟨g, cap, cur, rfl, hb, hg, hc, _, hs, ht⟩
  · refine ⟨none, 0, rfl, Nat.le_refl _, fun j u hj => ?_⟩
    have : xs = [] := List.eq_nil_of_length_eq_zero (by simpa using h.1)
    subst this; simp at hj
  · refine ⟨_, cap, rfl, hc, fun j u hj => ⟨g, rfl, (Array.getElem?_eq_some_iff.1 hg).1, ?_⟩⟩
    have hjl : j < n * size := by have := (List.getElem?_eq_some_iff.1 hj).1; rw [h.1] at this; exact this
    rw [← ht, List.getElem?_take_of_lt hjl] at hj
    simpa [World.cell?, hg] using hj

/-- A row of numbers of the call's own. -/
def GrNum (w : World) (base : Nat) (v : Value) (row : List Int) (K : Nat) : Prop :=
  ∃ cs : List Value, OwnQ w base 82 2 v row.length cs NoInt ∧ ∀ k z, row[k]? = some z → ∃ neg q n c xs, cs[k * 2]? = some (.bool neg) ∧ cs[k * 2 + 1]? = some (.slice q n c) ∧ RIs w neg q n c xs z ∧ n ≤ K
theorem GrNum.nil (w : World) (base K : Nat) : GrNum w base (.slice none 0 0) [] K := ⟨[], OwnQ.nil _ _ _ _ _, fun i z h => by simp at h⟩
theorem GrNum.below {w w' : World} {base : Nat} {v : Value} {row : List Int} {K : Nat} (h : GrNum w base v row K) (hb : Below w.heap.size w w') : GrNum w' base v row K := by
  obtain ⟨vs, h1, h2⟩ := h
  exact ⟨vs, h1.below hb, fun i z hi => by obtain ⟨neg, q, n, c, xs, e0, e1, r, hn⟩ := h2 i z hi; exact ⟨neg, q, n, c, xs, e0, e1, r.below hb, hn⟩⟩
theorem GrNum.rd {w : World} {base : Nat} {v : Value} {row : List Int} {K : Nat} (h : GrNum w base v row K) : ∃ p c, v = .slice p row.length c ∧ row.length ≤ c ∧ NumsR w p row K := by
  obtain ⟨cs, h1, h2⟩ := h
  obtain ⟨p, c, rfl, hc, hcell⟩ := own_cells h1.1
  refine ⟨p, c, rfl, hc, fun k z hk => ?_⟩
  obtain ⟨neg, q, n, c', xs, e0, e1, r, hn⟩ := h2 k z hk
  obtain ⟨g, hp, hlt, h0⟩ := hcell _ _ e0
  obtain ⟨g', hp', _, h1⟩ := hcell _ _ e1
  rw [hp] at hp'
  cases hp'
  exact ⟨g, 0, neg, q, n, c', xs, hp, hlt, by rw [Nat.zero_add]; exact h0, by rw [Nat.zero_add]; exact h1, r, hn⟩

/-- Rows of numbers of the call's own. -/
def GrMN (w : World) (base : Nat) (v : Value) (M : List (List Int)) (K : Nat) : Prop :=
  ∃ vs : List Value, OwnQ w base 96 1 v M.length vs OnlySl ∧ ∀ (i : Nat) (row : List Int), M[i]? = some row → ∃ (q : Option Addr) (c : Nat), vs[i]? = some (Value.slice q row.length c) ∧ row.length ≤ c ∧ NumsR w q row K
theorem GrMN.nil (w : World) (base K : Nat) : GrMN w base (.slice none 0 0) [] K := ⟨[], OwnQ.nil _ _ _ _ _, fun i row h => by simp at h⟩
theorem GrMN.below {w w' : World} {base : Nat} {v : Value} {M : List (List Int)} {K : Nat} (h : GrMN w base v M K) (hb : Below w.heap.size w w') : GrMN w' base v M K := by
  obtain ⟨vs, h1, h2⟩ := h
  exact ⟨vs, h1.below hb, fun i row hi => by obtain ⟨q, c, e, l, r⟩ := h2 i row hi; exact ⟨q, c, e, l, r.below hb⟩⟩
theorem GrMN.rd {w : World} {base : Nat} {v : Value} {M : List (List Int)} {K : Nat} (h : GrMN w base v M K) : ∃ p c, v = .slice p M.length c ∧ M.length ≤ c ∧ RdMN w p M K := by
  obtain ⟨vs, h1, h2⟩ := h
  obtain ⟨p, c, rfl, hc, hcell⟩ := own_cells h1.1
  refine ⟨p, c, rfl, hc, fun i row hi => ?_⟩
  obtain ⟨q, c', e, l, r⟩ := h2 i row hi
  obtain ⟨g, hp, hlt, hcc⟩ := hcell i _ e
  exact ⟨g, 0, q, c', hp, hlt, by rw [Nat.zero_add]; exact hcc, l, r⟩
end Go.Proofs.Ythdhakpmhndbfaa

namespace Go.Proofs.Ythdhakpmhndbfaa
open Go.RowKit Go.Shelf

theorem encV_len (q : V4) : (encV q).length = 4 := rfl
def flatV (l : List V4) : List Value := l.flatMap encV
theorem flatV_len (l : List V4) : (flatV l).length = l.length * 4 := by
  induction l with
  | nil => rfl
  | cons q r ih => unfold flatV at *; rw [List.flatMap_cons, List.length_append, ih, encV_len, List.length_cons]; omega
theorem flatV_append (a b : List V4) : flatV (a ++ b) = flatV a ++ flatV b := by unfold flatV; rw [List.flatMap_append]
theorem flatV_at {l : List V4} {i : Nat} {q : V4} (h : l[i]? = some q) {c : Nat} (hc : c < 4) : (flatV l)[i * 4 + c]? = (encV q)[c]? := by
  induction l generalizing i with
  | nil => simp at h
  | cons p r ih =>
    show (encV p ++ flatV r)[i * 4 + c]? = _
    cases i with
    | zero =>
      simp only [List.getElem?_cons_zero, Option.some.injEq] at h
      subst h
      rw [Nat.zero_mul, Nat.zero_add, List.getElem?_append_left (by rw [encV_len]; exact hc)]
    | succ i =>
      rw [List.getElem?_cons_succ] at h
      rw [List.getElem?_append_right (by rw [encV_len]; omega), encV_len, show (i + 1) * 4 + c - 4 = i * 4 + c by omega]
      exact ih h
theorem flatV_one (l : List V4) : ∀ u ∈ flatV l, u.oneCell' = true := by
  intro u hu
  obtain ⟨q, _, hq⟩ := List.mem_flatMap.1 hu
  unfold encV at hq
  simp at hq
  rcases hq with rfl | rfl | rfl | rfl <;> rfl
/-- The cells of a slice of them. -/
theorem RdV.cells {W : World} {b off : Nat} {l : List V4} (h : RdV W (some ⟨b, off, none⟩) l) : ∀ j u, (flatV l)[j]? = some u → W.cell? ⟨b, off + j, none⟩ = some u := by
  intro j u hj
  have hlt := (List.getElem?_eq_some_iff.1 hj).1
  rw [flatV_len] at hlt
  have hi : j / 4 < l.length := by omega
  obtain ⟨q, hq⟩ : ∃ q, l[j / 4]? = some q := ⟨_, List.getElem?_eq_getElem hi⟩
  obtain ⟨b', off', e, _, h0, h1, h2, h3⟩ := h (j / 4) q hq
  cases e
  clear hi hlt
  obtain ⟨m, hm⟩ : ∃ m, j / 4 = m := ⟨_, rfl⟩
  rw [hm] at h0 h1 h2 h3 hq
  have h4 : j % 4 = 0 ∨ j % 4 = 1 ∨ j % 4 = 2 ∨ j % 4 = 3 := by omega
  rcases h4 with e | e | e | e
  · have ej : j = m * 4 + 0 := by omega
    subst ej
    rw [flatV_at hq (by decide)] at hj
    cases hj
    exact h0
  · have ej : j = m * 4 + 1 := by omega
    subst ej
    rw [flatV_at hq (by decide)] at hj
    cases hj
    rw [← Nat.add_assoc]; exact h1
  · have ej : j = m * 4 + 2 := by omega
    subst ej
    rw [flatV_at hq (by decide)] at hj
    cases hj
    rw [← Nat.add_assoc]; exact h2
  · have ej : j = m * 4 + 3 := by omega
    subst ej
    rw [flatV_at hq (by decide)] at hj
    cases hj
    rw [← Nat.add_assoc]; exact h3
/-- A block whose first cells these are. -/
theorem RowV.of_cells {W : World} {B : Nat} {l : List V4} {cur : Array Value} {e : TypeId} (hb : W.heap[B]? = some (.cells cur e (0, 0))) (ht : cur.toList.take (l.length * 4) = flatV l) : RowV W B l := by
  refine ⟨(Array.getElem?_eq_some_iff.1 hb).1, fun i q hi => ?_⟩
  have hil := (List.getElem?_eq_some_iff.1 hi).1
  have hc : ∀ c, c < 4 → W.cell? ⟨B, i * 4 + c, none⟩ = (encV q)[c]? := by
    intro c hc
    have := flatV_at hi hc
    rw [← ht, List.getElem?_take_of_lt (by omega)] at this
    unfold World.cell?
    simp only [hb]
    simpa using this
  have hf : ∀ o, W.frozen? ⟨B, o, none⟩ = false := fun o => by unfold World.frozen?; simp [hb]
  exact ⟨⟨hc 0 (by decide), hc 1 (by decide), hc 2 (by decide), hc 3 (by decide)⟩, hf _, hf _, hf _, hf _⟩

end Go.Proofs.Ythdhakpmhndbfaa

namespace Go.Proofs.Ythdhakpmhndbfaa
open Go.RowKit Go.Shelf

theorem Try.infoVP : (Try.prog.info? 23).map (fun i => (i.zero, i.size, i.bytes)) = some (some (.agg #[.int .i64 0, .int .i64 0, .int .i64 0, .int .i64 0]), 4, 32) := by kernel_rfl
/-- A row of the call's own. -/
def GrVP (w : World) (base : Nat) (v : Value) (l : List V4) : Prop := OwnQ w base 23 4 v l.length (flatV l) (fun _ => True)
theorem GrVP.nil (w : World) (base : Nat) : GrVP w base (.slice none 0 0) [] := OwnQ.nil _ _ _ _ _
theorem GrVP.below {w w' : World} {base : Nat} {v : Value} {l : List V4} (h : GrVP w base v l) (hb : Below w.heap.size w w') : GrVP w' base v l := OwnQ.below h hb
theorem GrVP.row {w : World} {base : Nat} {v : Value} {l : List V4} (h : GrVP w base v l) : (v = .slice none 0 0 ∧ l = []) ∨ ∃ g c, v = .slice (some ⟨g, 0, none⟩) l.length c ∧ base ≤ g ∧ l.length ≤ c ∧ RowV w g l := by
  rcases h.1.2 with ⟨rfl, h0⟩ | ⟨g, cap, cur, rfl, hb, hg, hc, _, _, ht⟩
  · exact .inl ⟨rfl, List.length_eq_zero_iff.1 h0⟩
  · exact .inr ⟨g, cap, rfl, hb, hc, RowV.of_cells hg ht⟩
theorem GrVP.rd {w : World} {base : Nat} {v : Value} {l : List V4} (h : GrVP w base v l) : ∃ p c, v = .slice p l.length c ∧ l.length ≤ c ∧ RdV w p l := by
  rcases h.row with ⟨rfl, rfl⟩ | ⟨g, c, rfl, _, hc, hr⟩
  · exact ⟨none, 0, rfl, Nat.le_refl _, fun i q hi => by simp at hi⟩
  · exact ⟨_, c, rfl, hc, hr.rdV⟩

/-- append(row, seg...), as the walk meets it. -/
theorem pushVP_law {ops : Array Oper} {Q : Exit → Act → World → Prop} {o : Oper} {rest : List Oper} {a : Act} {W : World} (hgd : o.guard = none) (s x : Operand)
    (ho : o.op = .call { callee := .builtin .append, args := #[s, x], argTypes := #[61, 61] }) {base : Nat} {v : Value} {l seg : List V4} (hs : a.eval s = v) (h : GrVP W base v l)
    {b off n c : Nat} (hn : seg.length = n) (hr : RdV W (some ⟨b, off, none⟩) seg) (hx : a.eval x = .slice (some ⟨b, off, none⟩) n c) (hl : l.length ≤ 1000000000) (hl2 : n ≤ 1000000000) (hbase : base ≤ W.heap.size)
    (k : ∀ v' w', GrVP w' base v' (l ++ seg) → Below base W w' → wpList Try.prog ops Q rest (a.put o.dst v') w') : wpList Try.prog ops Q (o :: rest) a W := by
  subst hn
  obtain ⟨i0, hi, hz0, hz1, hz2⟩ := info_parts Try.infoVP
  refine wpList_append_q hgd s x 61 ho base 23 i0 (.agg #[.int .i64 0, .int .i64 0, .int .i64 0, .int .i64 0]) 4 32 Try.underlying61 hi hz0 hz1 hz2 rfl (fun _ => True) (fun _ _ => trivial) v l.length (flatV l) hs h ⟨b, off, none⟩ seg.length c (flatV seg) hx (flatV_len seg)
    (by intro j u hj; rw [Go.WideShapes.add_plain]; exact hr.cells j u hj) (flatV_one seg) (fun _ _ => trivial) (by unfold maxLen; omega) (by omega) hbase ?_
  intro v' w' h3 hg
  refine k v' w' ?_ (h.base_below hg hbase)
  unfold GrVP
  rw [List.length_append, flatV_append]; exact h3
/-- append(row, q), as the walk meets it. -/
theorem push1P_law {ops : Array Oper} {Q : Exit → Act → World → Prop} {o : Oper} {rest : List Oper} {a : Act} {W : World} (hgd : o.guard = none) (s x : Operand)
    (ho : o.op = .call { callee := .builtin .append, args := #[s, x], argTypes := #[61, 61] }) {base : Nat} {v : Value} {l : List V4} (hs : a.eval s = v) (h : GrVP W base v l) (q : V4)
    (hx : a.eval x = .slice (some ⟨W.heap.size, 0, none⟩) 1 1) (hl : l.length ≤ 1000000000) (hbase : base ≤ W.heap.size)
    (k : ∀ v' w', GrVP w' base v' (l ++ [q]) → Below base W w' → wpList Try.prog ops Q rest (a.put o.dst v') w') : wpList Try.prog ops Q (o :: rest) a (W.alloc (.cells #[.int .i64 q.a, .int .i64 q.b, .int .i64 q.c, .int .i64 q.d] 23)) := by
  have hbA : Below W.heap.size W (W.alloc (.cells #[.int .i64 q.a, .int .i64 q.b, .int .i64 q.c, .int .i64 q.d] 23)) := (Below.refl _ _).alloc (Nat.le_refl _) _
  refine pushVP_law hgd s x ho hs (h.below hbA) (seg := [q]) rfl (planes1 W q.a q.b q.c q.d 23) hx hl (show 1 ≤ 1000000000 by decide) (by rw [World.size_alloc]; omega) ?_
  intro v' w' h3 hb
  exact k v' w' h3 (((Below.refl _ _).alloc hbase _).trans hb)

end Go.Proofs.Ythdhakpmhndbfaa

namespace Go.Proofs.Ythdhakpmhndbfaa
open Go.RowKit

/-- An order of four numbers. -/
structure Ord4 (Ok : V4 → Prop) (cf : V4 → V4 → Int) : Prop where
  irr : ∀ x, Ok x → ¬ cf x x < 0
  tr : ∀ x y z, Ok x → Ok y → Ok z → cf x y < 0 → cf y z < 0 → cf x z < 0
  tri : ∀ x y, Ok x → Ok y → cf x y < 0 ∨ x = y ∨ cf y x < 0
theorem Ord4.asym {Ok : V4 → Prop} {cf : V4 → V4 → Int} (h : Ord4 Ok cf) {x y : V4} (hx : Ok x) (hy : Ok y) (h1 : cf x y < 0) : ¬ cf y x < 0 := fun h2 => h.irr x hx (h.tr x y x hx hy hx h1 h2)
theorem Ord4.nt {Ok : V4 → Prop} {cf : V4 → V4 → Int} (h : Ord4 Ok cf) (x y z : V4) (hx : Ok x) (hy : Ok y) (hz : Ok z) (h1 : ¬ cf x y < 0) (h2 : ¬ cf y z < 0) : ¬ cf x z < 0 := by
  intro h3
  rcases h.tri x y hx hy with a | a | a
  · exact h1 a
  · subst a; exact h2 h3
  · rcases h.tri y z hy hz with b | b | b
    · exact h2 b
    · subst b; exact h1 h3
    · exact h.asym hx hz h3 (h.tr z y x hz hy hx b a)

theorem kept_sorted {Ok : V4 → Prop} {cf : V4 → V4 → Int} (ho : Ord4 Ok cf) {l : List V4} (hl : ∀ q ∈ l, Ok q) (hs : ∀ (i j : Nat) (hi : i < j) (hj : j < l.length), ¬ cf l[j] l[i] < 0) :
    ∀ m, m ≤ l.length → (keptV l m).Pairwise (fun x y => cf x y < 0) ∧ (∀ x ∈ keptV l m, ∃ i, i < m ∧ l[i]? = some x) ∧ ∀ i, i < m → ∀ x, l[i]? = some x → x ∈ keptV l m := by
  have hs' : ∀ (i j : Nat) (x y : V4), i < j → l[i]? = some x → l[j]? = some y → ¬ cf y x < 0 := by
    intro i j x y hij hx hy
    obtain ⟨hi1, rfl⟩ := List.getElem?_eq_some_iff.1 hx
    obtain ⟨hj1, rfl⟩ := List.getElem?_eq_some_iff.1 hy
    exact hs i j hij hj1
  have hok : ∀ i x, l[i]? = some x → Ok x := fun i x h => hl x (List.mem_of_getElem? h)
  intro m
  induction m with
  | zero => intro _; exact ⟨List.Pairwise.nil, fun x h => by simp [keptV] at h, fun i hi => absurd hi (by omega)⟩
  | succ m ih =>
    intro hm
    obtain ⟨h1, h2, h3⟩ := ih (by omega)
    obtain ⟨q, hq⟩ : ∃ q, l[m]? = some q := ⟨_, List.getElem?_eq_getElem (by omega)⟩
    rw [keptV, hq]
    simp only
    by_cases hc : m ≠ 0 ∧ l[m - 1]? = some q
    · rw [if_pos hc]
      refine ⟨h1, fun x hx => ?_, fun i hi x hx => ?_⟩
      · obtain ⟨i, hi, he⟩ := h2 x hx; exact ⟨i, by omega, he⟩
      · by_cases him : i = m
        · subst him
          rw [hq] at hx
          cases hx
          exact h3 (i - 1) (by omega) q hc.2
        · exact h3 i (by omega) x hx
    · rw [if_neg hc]
      refine ⟨?_, fun x hx => ?_, fun i hi x hx => ?_⟩
      · rw [List.pairwise_append]
        refine ⟨h1, List.pairwise_singleton _ _, fun x hx y hy => ?_⟩
        rw [List.mem_singleton] at hy
        subst hy
        obtain ⟨i, hi, he⟩ := h2 x hx
        rcases ho.tri x y (hok i x he) (hok m y hq) with a | a | a
        · exact a
        · exfalso
          subst a
          by_cases h1m : i = m - 1
          · subst h1m; exact hc ⟨by omega, he⟩
          · obtain ⟨p, hp⟩ : ∃ p, l[m - 1]? = some p := ⟨_, List.getElem?_eq_getElem (by omega)⟩
            have a1 := hs' i (m - 1) x p (by omega) he hp
            have a2 := hs' (m - 1) m p x (by omega) hp hq
            rcases ho.tri p x (hok _ p hp) (hok _ x he) with b | b | b
            · exact a1 b
            · subst b; exact hc ⟨by omega, hp⟩
            · exact a2 b
        · exact absurd a (hs' i m x y hi he hq)
      · rcases List.mem_append.1 hx with h | h
        · obtain ⟨i, hi, he⟩ := h2 x h; exact ⟨i, by omega, he⟩
        · rw [List.mem_singleton] at h; subst h; exact ⟨m, by omega, hq⟩
      · by_cases him : i = m
        · subst him
          rw [hq] at hx
          cases hx
          exact List.mem_append_right _ (by simp)
        · exact List.mem_append_left _ (h3 i (by omega) x hx)

/-- What Sorted hands back. -/
def SortIs (cf : V4 → V4 → Int) (l l' : List V4) : Prop := l'.Pairwise (fun x y => cf x y < 0) ∧ ∀ x, x ∈ l' ↔ x ∈ l
theorem sortIs_kept {Ok : V4 → Prop} {cf : V4 → V4 → Int} (ho : Ord4 Ok cf) {l0 l : List V4} (hp : l.Perm l0) (hl : ∀ q ∈ l0, Ok q) (hs : ∀ (i j : Nat) (hi : i < j) (hj : j < l.length), ¬ cf l[j] l[i] < 0) : SortIs cf l0 (keptV l l.length) := by
  obtain ⟨h1, h2, h3⟩ := kept_sorted ho (fun q hq => hl q (hp.mem_iff.1 hq)) hs l.length (Nat.le_refl _)
  refine ⟨h1, fun x => ⟨fun hx => ?_, fun hx => ?_⟩⟩
  · obtain ⟨i, _, he⟩ := h2 x hx
    exact hp.mem_iff.1 (List.mem_of_getElem? he)
  · obtain ⟨i, hi, he⟩ := List.getElem_of_mem (hp.mem_iff.2 hx)
    exact h3 i hi x (by rw [List.getElem?_eq_getElem hi, he])
/-- There is one such list. -/
theorem sortIs_uniq {Ok : V4 → Prop} {cf : V4 → V4 → Int} (ho : Ord4 Ok cf) : ∀ {a b : List V4}, (∀ q ∈ a, Ok q) → a.Pairwise (fun x y => cf x y < 0) → b.Pairwise (fun x y => cf x y < 0) → (∀ x, x ∈ a ↔ x ∈ b) → a = b
  | [], [], _, _, _, _ => rfl
  | [], y :: b, _, _, _, h => by have := (h y).2 (by simp); simp at this
  | x :: a, [], _, _, _, h => by have := (h x).1 (by simp); simp at this
  | x :: a, y :: b, hk, ha, hb, h => by
    rw [List.pairwise_cons] at ha hb
    have okb : ∀ q ∈ y :: b, Ok q := fun q hq => hk q ((h q).2 hq)
    have hxy : x = y := by
      rcases List.mem_cons.1 ((h x).1 (by simp)) with e | e
      · exact e
      · rcases List.mem_cons.1 ((h y).2 (by simp)) with e' | e'
        · exact e'.symm
        · exact absurd (hb.1 x e) (ho.asym (hk x (by simp)) (okb y (by simp)) (ha.1 y e'))
    subst hxy
    have ht := sortIs_uniq ho (a := a) (b := b) (fun q hq => hk q (by simp [hq])) ha.2 hb.2 (fun z => by
      have hz := h z
      simp only [List.mem_cons] at hz
      constructor
      · intro hza
        rcases hz.1 (Or.inr hza) with e | e
        · subst e; exact absurd (ha.1 z hza) (ho.irr z (hk z (by simp)))
        · exact e
      · intro hzb
        rcases hz.2 (Or.inr hzb) with e | e
        · subst e; exact absurd (hb.1 z hzb) (ho.irr z (hk z (by simp)))
        · exact e)
    rw [ht]

end Go.Proofs.Ythdhakpmhndbfaa

namespace Go.Proofs.Ythdhakpmhndbfaa
open Go.RowKit Go.Shelf
attribute [local go_sem] Oper.semAt_some

theorem sortP_nil (cap : Nat) (fv : Value) (w : World) : Calls Try.prog 88 #[.slice none 0 cap, fv] w fun e w' => e = .returned (.tuple #[]) ∧ w' = w :=
  Go.Proofs.AnyF.slices_SortFunc_none sortLP none cap fv w
theorem sortP_any (Ok : V4 → Prop) (q0 : V4) (h0 : Ok q0) (cf : V4 → V4 → Int) (ho : Ord4 Ok cf) (g : Nat) (cb : Array Value) (B cap : Nat) (l : List V4) (w : World) (hl : ∀ q ∈ l, Ok q) (eg : ∀ args w, (callFunc g args).run Try.prog w = .ok (.enter g args) w)
    (hcmp : ∀ W, w.grownBy W (some B) → ∀ x y, Ok x → Ok y → Calls Try.prog g (#[.agg #[.int .i64 x.a, .int .i64 x.b, .int .i64 x.c, .int .i64 x.d], .agg #[.int .i64 y.a, .int .i64 y.b, .int .i64 y.c, .int .i64 y.d]] ++ cb) W fun e w' => e = .returned (.int .i64 (cf x y)) ∧ Below W.heap.size W w')
    (hr : RowV w B l) (hn : l.length < 1000000000) :
    Calls Try.prog 88 #[.slice (some ⟨B, 0, none⟩) l.length cap, .func (.func g) #[] cb] w fun e w' => e = .returned (.tuple #[]) ∧ ∃ l' : List V4, l'.Perm l ∧ (∀ (i j : Nat) (hi : i < j) (hj : j < l'.length), ¬ cf l'[j] l'[i] < 0) ∧ RowV w' B l' ∧ w.grownBy w' (some B) :=
  sortV_any sortLP Try.isAgg23 Try.sizeOf23 q0 h0 cf ho.irr ho.tr (fun x y z hx hy hz => ho.nt x y z hx hy hz) g cb B cap l w hl eg hcmp hr hn

set_option maxRecDepth 100000 in
set_option maxHeartbeats 8000000 in
theorem compactP_nil (w : World) : Calls Try.prog 89 #[.slice none 0 0] w fun e w' => e = .returned (.slice none 0 0) ∧ w' = w := by
  go_enter Try.func89, Try.ntmps89
  go_wp2_with fail
  go_ret
  exact ⟨rfl, rfl⟩

set_option maxRecDepth 100000 in
set_option maxHeartbeats 8000000 in
theorem sortedP_any (Ok : V4 → Prop) (q0 : V4) (h0 : Ok q0) (cf : V4 → V4 → Int) (ho : Ord4 Ok cf) (g : Nat) (cb : Array Value) (p : Option Addr) (n cap : Nat) (l : List V4) (w : World) (hl : l.length = n) (hn : n ≤ 100000) (hok : ∀ q ∈ l, Ok q) (hr : RdV w p l)
    (eg : ∀ args w, (callFunc g args).run Try.prog w = .ok (.enter g args) w)
    (hcmp : ∀ W, Below w.heap.size w W → ∀ x y, Ok x → Ok y → Calls Try.prog g (#[.agg #[.int .i64 x.a, .int .i64 x.b, .int .i64 x.c, .int .i64 x.d], .agg #[.int .i64 y.a, .int .i64 y.b, .int .i64 y.c, .int .i64 y.d]] ++ cb) W fun e w' => e = .returned (.int .i64 (cf x y)) ∧ Below W.heap.size W w') :
    Calls Try.prog 66 #[.slice p n cap, .func (.func g) #[] cb] w fun e w' => ∃ p' c' l', e = .returned (.slice p' (List.length l') c') ∧ RdV w' p' l' ∧ SortIs cf l l' ∧ Below w.heap.size w w' := by
  by_cases hn0 : n = 0
  · subst hn0
    obtain rfl := List.length_eq_zero_iff.1 hl
    have HSN := Lib.hid (fun W => sortP_nil 0 (.func (.func g) #[] cb) W)
    have HCN := Lib.hid (fun W => compactP_nil W)
    clear hcmp hr hl hok eg
    go_enter Try.func66, Try.ntmps66
    cases p with
    | none =>
      go_wp2_with fail
      refine (HSN.out _).mono ?_
      rintro e w1 ⟨rfl, rfl⟩
      go_wp2_with fail
      refine (HCN.out _).mono ?_
      rintro e w2 ⟨rfl, rfl⟩
      go_wp2_with fail
      go_ret
      exact ⟨none, 0, [], rfl, fun i q hi => by simp at hi, ⟨List.Pairwise.nil, fun _ => Iff.rfl⟩, Below.refl _ _⟩
    | some a =>
      go_wp2_with fail
      refine (HSN.out _).mono ?_
      rintro e w1 ⟨rfl, rfl⟩
      go_wp2_with fail
      refine (HCN.out _).mono ?_
      rintro e w2 ⟨rfl, rfl⟩
      go_wp2_with fail
      go_ret
      exact ⟨none, 0, [], rfl, fun i q hi => by simp at hi, ⟨List.Pairwise.nil, fun _ => Iff.rfl⟩, Below.refl _ _⟩
  · obtain ⟨b, off, rfl⟩ : ∃ b off, p = some ⟨b, off, none⟩ := by
      obtain ⟨b, off, e, _⟩ := hr 0 l[0] (List.getElem?_eq_getElem (by omega))
      exact ⟨b, off, e⟩
    have HC := Lib.hid hcmp
    have HOK := Lib.hid hok
    have HNL := Lib.hid (show (([] : List V4) ++ l).length = n from hl)
    clear hcmp hok
    go_enter Try.func66, Try.ntmps66
    go_wp2_with (at_builtin; refine pushVP_law rfl _ _ rfl rfl (GrVP.nil w w.heap.size) hl hr rfl (by decide) (by omega) (Nat.le_refl _) ?_; intro v' w' hgr hb1)
    rw [List.nil_append] at hgr
    rcases hgr.row with ⟨_, h⟩ | ⟨G, c, rfl, hG, hc, hrow⟩
    · exact absurd (by rw [h] at hl; exact hl.symm) hn0
    have hs := sortP_any Ok q0 h0 cf ho g cb G c l w' HOK.out eg (fun W hW x y hx hy => HC.out W (hb1.trans (gB_own hW hb1.size hG)) x y hx hy) hrow (by omega)
    rw [hl] at hs ⊢
    have HS := Lib.hid hs
    clear hs hgr hrow eg hr
    go_wp2_with fail
    refine HS.out.mono ?_
    rintro e w2 ⟨rfl, l2, hp, hso, hr2, hg2⟩
    have hl2 : l2.length = n := by rw [hp.length_eq]; exact hl
    have hb2 := hb1.trans (gB_own hg2 hb1.size hG)
    have hk := compactP_any G n c l2 w2 hl2 hr2 (by omega) (by rw [← hl]; exact hc)
    have hsi := sortIs_kept ho hp HOK.out (fun i j hi hj => by have := hso i j hi hj; omega)
    rw [hl2] at hsi
    have HSI := Lib.hid hsi
    have HK := Lib.hid hk
    clear hk hsi hso hp HS HC hr2
    go_wp2_with fail
    refine HK.out.mono ?_
    rintro e w3 ⟨rfl, hr3, hg3⟩
    have HR3 := Lib.hid hr3.rdV
    obtain ⟨kl, hkl⟩ : ∃ k, (keptV l2 n).length = k := ⟨_, rfl⟩
    have hb3 := hb2.trans (gB_own hg3 hb2.size hG)
    have HB3 := Lib.hid hb3
    have HKL := Lib.hid hkl
    rw [hkl]
    clear hb3 hr3 hg3 hkl HK
    go_wp2_with fail
    go_ret
    exact ⟨_, c, keptV l2 n, by rw [HKL.out]; rfl, HR3.out, HSI.out, HB3.out⟩

end Go.Proofs.Ythdhakpmhndbfaa

namespace Go.Proofs.Ythdhakpmhndbfaa
open Go.RowKit Go.Shelf
attribute [local go_sem] Oper.semAt_some

theorem checks2 (w : World) (v u : Value) (r s : Int) (t : TypeId) (h : ChkIs w v r) (h2 : ChkIs w u s) : RdC (w.alloc (.cells #[v, u] t)) (some ⟨w.heap.size, 0, none⟩) [r, s] := by
  have hB := Blk.new w #[v, u] t
  intro i y hi
  match i, hi with
  | 0, hi => cases hi; exact ⟨_, 0, v, rfl, hB.lt, hB.cell (i := 0) rfl, h.below ((Below.refl _ w).alloc (Nat.le_refl _) _)⟩
  | 1, hi => cases hi; exact ⟨_, 0, u, rfl, hB.lt, hB.cell (i := 1) rfl, h2.below ((Below.refl _ w).alloc (Nat.le_refl _) _)⟩
  | i + 2, hi => simp at hi

theorem RdC.below {w w' : World} {p : Option Addr} {rs : List Int} (h : RdC w p rs) (hb : Below w.heap.size w w') : RdC w' p rs := by
  intro i r hi
  obtain ⟨b, off, v, rfl, hl, hc, hv⟩ := h i r hi
  exact ⟨b, off, v, rfl, Nat.lt_of_lt_of_le hl hb.size, (hb.cell (p := ⟨b, off + i, none⟩) hl).trans hc, hv.below hb⟩

/-- What the checks of a plane and a point yield. -/
def SideR (p q : V4) (rp rq : Int) (i : Nat) (v : Value) (w : World) : Prop :=
  match i with
  | 0 => v = .agg #[.int .i64 p.a, .int .i64 p.b, .int .i64 p.c, .int .i64 p.d]
  | 1 => ∃ b, v = .slice (some ⟨b, 0, none⟩) 1 1 ∧ RdV w (some ⟨b, 0, none⟩) [p]
  | 2 => ChkIs w v rp
  | 3 => v = .agg #[.int .i64 q.a, .int .i64 q.b, .int .i64 q.c, .int .i64 q.d]
  | 4 => ∃ b, v = .slice (some ⟨b, 0, none⟩) 1 1 ∧ RdV w (some ⟨b, 0, none⟩) [q]
  | 5 => ChkIs w v rq
  | 6 => ∃ b, v = .slice (some ⟨b, 0, none⟩) 2 2 ∧ RdC w (some ⟨b, 0, none⟩) [rp, rq]
  | _ => v = .int .i64 (firstE [rp, rq])
theorem SideR.mono {p q : V4} {rp rq : Int} (i : Nat) (v : Value) (w w' : World) (hb : Below w.heap.size w w') (h : SideR p q rp rq i v w) : SideR p q rp rq i v w' := by
  rcases i with _ | _ | _ | _ | _ | _ | _ | i
  · exact h
  · obtain ⟨b, e, h⟩ := h; exact ⟨b, e, h.below hb⟩
  · exact ChkIs.below h hb
  · exact h
  · obtain ⟨b, e, h⟩ := h; exact ⟨b, e, h.below hb⟩
  · exact ChkIs.below h hb
  · obtain ⟨b, e, h⟩ := h; exact ⟨b, e, h.below hb⟩
  · exact h

theorem side_fits {p q : V4} (hp : RightP p.a p.b p.c p.d) (hq : SoundP q.a q.b q.c q.d) : In127 (dotL p q (List.range 4)) := by
  have e : dotL p q (List.range 4) = p.a * q.a + p.b * q.b + p.c * q.c + p.d * q.d := by simp [dotL, vg, List.range, List.range.loop]
  have m : ∀ {x y : Int} {a b : Nat}, x.natAbs ≤ a → y.natAbs ≤ b → (x * y).natAbs ≤ a * b := fun hx hy => by rw [Int.natAbs_mul]; exact Nat.mul_le_mul hx hy
  have h1 := m hp.2.1 hq.1
  have h2 := m hp.2.2.1 hq.2.1
  have h3 := m hp.2.2.2.1 hq.2.2.1
  have h4 := m hp.2.2.2.2.1 (show q.d.natAbs ≤ 8589934592 by have := hq.2.2.2.1; have := hq.2.2.2.2.1; omega)
  rw [e]
  unfold In127
  omega

set_option maxRecDepth 100000 in
set_option maxHeartbeats 4000000 in
theorem side_any (p q : V4) (w : World) (hp : InV p) (hq : InV q) :
    Calls Try.prog 21 #[.agg #[.int .i64 p.a, .int .i64 p.b, .int .i64 p.c, .int .i64 p.d], .agg #[.int .i64 q.a, .int .i64 q.b, .int .i64 q.c, .int .i64 q.d]] w fun e' w' => e' = .returned (.tuple #[.int .i64 (if RightP p.a p.b p.c p.d ∧ SoundP q.a q.b q.c q.d then sgnI (dotL p q (List.range 4)) else 0), .int .i64 (firstE [errE (decide (RightP p.a p.b p.c p.d)) 30, errE (decide (SoundP q.a q.b q.c q.d)) 40])]) ∧ Below w.heap.size w w' := by
  obtain ⟨w1, hw1⟩ : ∃ w1, ((w.alloc (.cells #[.int .i64 p.a, .int .i64 p.b, .int .i64 p.c, .int .i64 p.d] 23)).alloc (.cells #[.int .i64 q.a, .int .i64 q.b, .int .i64 q.c, .int .i64 q.d] 37)) = w1 := ⟨_, rfl⟩
  have hb1 : Below w.heap.size w w1 := by rw [← hw1]; exact bw2 w _ _
  have k0 : Blk w1 w.heap.size #[.int .i64 p.a, .int .i64 p.b, .int .i64 p.c, .int .i64 p.d] 23 := by rw [← hw1]; exact (Blk.new w _ _).alloc _
  have k1 : Blk w1 (w.heap.size + 1) #[.int .i64 q.a, .int .i64 q.b, .int .i64 q.c, .int .i64 q.d] 37 := by rw [← hw1]; exact Blk.new' _ _ _ (by simp)
  have hpl : ∀ b W, RdV W (some ⟨b, 0, none⟩) [p] → Calls Try.prog 44 #[.slice (some ⟨b, 0, none⟩) 1 1] W fun e w' => ∃ v, e = .returned v ∧ ChkIs w' v (errE (decide (RightP p.a p.b p.c p.d)) 30) ∧ Below W.heap.size W w' := fun b W hR => by
    have h := planes_any (some ⟨b, 0, none⟩) 1 1 [p] W rfl (by decide) hR (by intro x hx; rw [List.mem_singleton.1 hx]; exact hp)
    simpa using h
  have hpt : ∀ b W, RdV W (some ⟨b, 0, none⟩) [q] → Calls Try.prog 52 #[.slice (some ⟨b, 0, none⟩) 1 1] W fun e w' => ∃ v, e = .returned v ∧ ChkIs w' v (errE (decide (SoundP q.a q.b q.c q.d)) 40) ∧ Below W.heap.size W w' := fun b W hR => by
    have h := points_any (some ⟨b, 0, none⟩) 1 1 [q] W rfl (by decide) hR (by intro x hx; rw [List.mem_singleton.1 hx]; exact hq)
    simpa using h
  have hpr := fun W => productP_any p q W hp hq
  have hsg : RightP p.a p.b p.c p.d → SoundP q.a q.b q.c q.d → ∀ W, Calls Try.prog 54 #[sumV (dotL p q (List.range 4))] W fun e' w' => e' = .returned (.int .i64 (sgnI (dotL p q (List.range 4)))) ∧ Below W.heap.size W w' := fun h1 h2 W => sign_any _ W (side_fits h1 h2)
  obtain ⟨rp, hrp⟩ : ∃ r, errE (decide (RightP p.a p.b p.c p.d)) 30 = r := ⟨_, rfl⟩
  obtain ⟨rq, hrq⟩ : ∃ r, errE (decide (SoundP q.a q.b q.c q.d)) 40 = r := ⟨_, rfl⟩
  rw [hrp] at hpl ⊢
  rw [hrq] at hpt ⊢
  have HPL := Lib.hid hpl
  have HPT := Lib.hid hpt
  have HPR := Lib.hid hpr
  have HSG := Lib.hid hsg
  have HRP := Lib.hid hrp
  have HRQ := Lib.hid hrq
  clear hpl hpt hpr hsg hrp hrq hp hq
  obtain ⟨res, hres⟩ : ∃ res, (if RightP p.a p.b p.c p.d ∧ SoundP q.a q.b q.c q.d then sgnI (dotL p q (List.range 4)) else 0) = res := ⟨_, rfl⟩
  rw [hres]
  have HRES := Lib.hid hres
  clear hres
  have N := w.heap.size
  go_enter Try.func21, Try.ntmps21
  go_upto_region 1 with fail
  refine wp_region_flow' (by kernel_rfl) (by kernel_rfl) (SideR p q rp rq) (fun ww => Below w1.heap.size w1 ww) ((Below.refl _ _).drew) (fun i v a b _ _ hb h => SideR.mono i v a b hb h) ?_ ?_
  · intro i hi f ww hS hd
    have c0 := (k0.kept hS).cell (i := 0) rfl
    have c1 := (k0.kept hS).cell (i := 1) rfl
    have c2 := (k0.kept hS).cell (i := 2) rfl
    have c3 := (k0.kept hS).cell (i := 3) rfl
    have d0 := (k1.kept hS).cell (i := 0) rfl
    have d1 := (k1.kept hS).cell (i := 1) rfl
    have d2 := (k1.kept hS).cell (i := 2) rfl
    have d3 := (k1.kept hS).cell (i := 3) rfl
    rcases i with _ | _ | _ | _ | _ | _ | _ | _ | _ | i
    · refine wpOp_list rfl ?_
      simp only [tmOf, putAll, List.map_cons, List.map_nil, List.setIfInBounds_toArray, List.set_cons_zero, List.set_cons_succ]
      go_wp2
      refine ⟨.agg #[.int .i64 p.a, .int .i64 p.b, .int .i64 p.c, .int .i64 p.d], ?_, rfl, Below.refl _ _⟩
      simp [upd]
    · have g0 : f 0 = .agg #[.int .i64 p.a, .int .i64 p.b, .int .i64 p.c, .int .i64 p.d] := hd 0 (by kernel_rfl)
      refine wpOp_list rfl ?_
      simp only [tmOf, putAll, List.map_cons, List.map_nil, List.setIfInBounds_toArray, List.set_cons_zero, List.set_cons_succ]
      go_wp2
      refine ⟨.slice (some ⟨ww.heap.size, 0, none⟩) 1 1, ?_, Exists.intro ww.heap.size (And.intro rfl (planes1 ww p.a p.b p.c p.d _)), hS.alloc hS.size _, (Below.refl _ ww).alloc (Nat.le_refl _) _⟩
      simp [upd, g0]
    · obtain ⟨b, g1, hR⟩ : ∃ b, f 1 = .slice (some ⟨b, 0, none⟩) 1 1 ∧ RdV ww (some ⟨b, 0, none⟩) [p] := hd 1 (by kernel_rfl)
      refine wpOp_list rfl ?_
      simp only [tmOf, putAll, List.map_cons, List.map_nil, List.setIfInBounds_toArray, List.set_cons_zero, List.set_cons_succ]
      go_wp2_with fail
      refine (HPL.out b _ hR).mono ?_
      rintro e' wf ⟨v, rfl, hv, hbf⟩
      go_wp2_with fail
      refine ⟨v, ?_, hv, hS.trans (hbf.mono hS.size)⟩
      simp [upd, g1]
    · refine wpOp_list rfl ?_
      simp only [tmOf, putAll, List.map_cons, List.map_nil, List.setIfInBounds_toArray, List.set_cons_zero, List.set_cons_succ]
      go_wp2
      refine ⟨.agg #[.int .i64 q.a, .int .i64 q.b, .int .i64 q.c, .int .i64 q.d], ?_, rfl, Below.refl _ _⟩
      simp [upd]
    · have g3 : f 3 = .agg #[.int .i64 q.a, .int .i64 q.b, .int .i64 q.c, .int .i64 q.d] := hd 3 (by kernel_rfl)
      refine wpOp_list rfl ?_
      simp only [tmOf, putAll, List.map_cons, List.map_nil, List.setIfInBounds_toArray, List.set_cons_zero, List.set_cons_succ]
      go_wp2
      refine ⟨.slice (some ⟨ww.heap.size, 0, none⟩) 1 1, ?_, Exists.intro ww.heap.size (And.intro rfl (planes1 ww q.a q.b q.c q.d _)), hS.alloc hS.size _, (Below.refl _ ww).alloc (Nat.le_refl _) _⟩
      simp [upd, g3]
    · obtain ⟨b, g4, hR⟩ : ∃ b, f 4 = .slice (some ⟨b, 0, none⟩) 1 1 ∧ RdV ww (some ⟨b, 0, none⟩) [q] := hd 4 (by kernel_rfl)
      refine wpOp_list rfl ?_
      simp only [tmOf, putAll, List.map_cons, List.map_nil, List.setIfInBounds_toArray, List.set_cons_zero, List.set_cons_succ]
      go_wp2_with fail
      refine (HPT.out b _ hR).mono ?_
      rintro e' wf ⟨v, rfl, hv, hbf⟩
      go_wp2_with fail
      refine ⟨v, ?_, hv, hS.trans (hbf.mono hS.size)⟩
      simp [upd, g4]
    · have h2 : ChkIs ww (f 2) rp := hd 2 (by kernel_rfl)
      have h5 : ChkIs ww (f 5) rq := hd 5 (by kernel_rfl)
      obtain ⟨gf, caps, g2, _⟩ := id h2
      obtain ⟨gf', caps', g5, _⟩ := id h5
      have hr2 := checks2 ww _ _ rp rq 70 h2 h5
      rw [g2, g5] at hr2
      clear h2 h5
      refine wpOp_list rfl ?_
      simp only [tmOf, putAll, List.map_cons, List.map_nil, List.setIfInBounds_toArray, List.set_cons_zero, List.set_cons_succ]
      go_wp2
      refine ⟨.slice (some ⟨ww.heap.size, 0, none⟩) 2 2, ?_, Exists.intro ww.heap.size (And.intro rfl hr2), hS.alloc hS.size _, (Below.refl _ ww).alloc (Nat.le_refl _) _⟩
      simp [upd, g2, g5]
    · obtain ⟨b, g6, hR⟩ : ∃ b, f 6 = .slice (some ⟨b, 0, none⟩) 2 2 ∧ RdC ww (some ⟨b, 0, none⟩) [rp, rq] := hd 6 (by kernel_rfl)
      have hf := first_any (some ⟨b, 0, none⟩) 2 2 [rp, rq] ww rfl (by decide) hR
      have HF := Lib.hid hf
      clear hf hR
      refine wpOp_list rfl ?_
      simp only [tmOf, putAll, List.map_cons, List.map_nil, List.setIfInBounds_toArray, List.set_cons_zero, List.set_cons_succ]
      go_wp2_with fail
      refine HF.out.mono ?_
      rintro e' wf ⟨rfl, hbf⟩
      go_wp2_with fail
      refine ⟨.int .i64 (firstE [rp, rq]), ?_, rfl, hS.trans (hbf.mono hS.size)⟩
      simp [upd, g6]
    · have g7 : f 7 = .int .i64 (firstE [rp, rq]) := hd 7 (by kernel_rfl)
      refine wpOp_list rfl ?_
      simp only [tmOf, putAll, List.map_cons, List.map_nil, List.setIfInBounds_toArray, List.set_cons_zero, List.set_cons_succ]
      go_wp2
      refine ⟨.int .i64 (firstE [rp, rq]), ?_, rfl, Below.refl _ _⟩
      simp [upd, g7]
    · simp only [List.length_cons, List.length_nil] at hi; omega
  · intro f ww hS hd
    have g8 : f 8 = .int .i64 (firstE [rp, rq]) := hd 8 (by decide)
    simp only [tmOf, putAll, List.map_cons, List.map_nil, List.setIfInBounds_toArray, List.set_cons_zero, List.set_cons_succ]
    simp only [Nat.zero_add, Nat.reduceAdd, g8]
    have hbw := hb1.trans (hS.mono hb1.size)
    have c0 := (k0.kept hS).cell (i := 0) rfl
    have c1 := (k0.kept hS).cell (i := 1) rfl
    have c2 := (k0.kept hS).cell (i := 2) rfl
    have c3 := (k0.kept hS).cell (i := 3) rfl
    have d0 := (k1.kept hS).cell (i := 0) rfl
    have d1 := (k1.kept hS).cell (i := 1) rfl
    have d2 := (k1.kept hS).cell (i := 2) rfl
    have d3 := (k1.kept hS).cell (i := 3) rfl
    have hcase : (firstE [rp, rq] = 0 ∧ res = sgnI (dotL p q (List.range 4)) ∧ RightP p.a p.b p.c p.d ∧ SoundP q.a q.b q.c q.d) ∨ ((firstE [rp, rq] != 0) = true ∧ res = 0) := by
      rw [← HRP.out, ← HRQ.out, ← HRES.out]
      by_cases h1 : RightP p.a p.b p.c p.d
      · by_cases h2 : SoundP q.a q.b q.c q.d
        · left; rw [decide_eq_true h1, decide_eq_true h2]; exact ⟨rfl, if_pos ⟨h1, h2⟩, h1, h2⟩
        · right; rw [decide_eq_true h1, decide_eq_false h2]; exact ⟨rfl, if_neg (fun hh => h2 hh.2)⟩
      · right; rw [decide_eq_false h1]; exact ⟨rfl, if_neg (fun hh => h1 hh.1)⟩
    obtain ⟨n, hn⟩ : ∃ n, firstE [rp, rq] = n := ⟨_, rfl⟩
    rw [hn] at hcase ⊢
    have HN := Lib.hid hn
    clear hn hd g8 HRP HRQ HRES HPL HPT
    rcases hcase with ⟨rfl, rfl, h1, h2⟩ | ⟨h1, rfl⟩
    · have HSS := Lib.hid (HSG.out h1 h2)
      clear h1 h2 HSG
      go_wp2_with fail
      refine (HPR.out _).mono ?_
      rintro e' w6 ⟨rfl, hb6⟩
      have hb6' := hbw.trans (hb6.mono hbw.size)
      go_wp2_with fail
      refine (HSS.out _).mono ?_
      rintro e' w7 ⟨rfl, hb7⟩
      go_wp2_with fail
      go_ret2
      refine ⟨?_, hb6'.trans (hb7.mono hb6'.size)⟩
      simp [go_sem]
      exact HN.out.symm
    · go_wp2_with fail
      go_ret2
      refine ⟨?_, hbw⟩
      simp [go_sem]
      exact HN.out.symm

end Go.Proofs.Ythdhakpmhndbfaa

namespace Go.Proofs.Ythdhakpmhndbfaa
open Go.RowKit Go.Shelf
attribute [local go_sem] Oper.semAt_some

set_option maxRecDepth 100000 in
set_option maxHeartbeats 4000000 in
theorem area_any (bi bj i j : Nat) (p q : V4) (w : World) (hi4 : i < 4) (hj4 : j < 4) (hp : InV p) (hq : InV q)
    (h0 : w.cell? ⟨bi, 0, none⟩ = some (.int .i64 (i : Int))) (h1 : w.cell? ⟨bj, 0, none⟩ = some (.int .i64 (j : Int))) (l0 : bi < w.heap.size) (l1 : bj < w.heap.size) :
    Calls Try.prog 103 #[.agg #[.int .i64 p.a, .int .i64 p.b, .int .i64 p.c, .int .i64 p.d], .agg #[.int .i64 q.a, .int .i64 q.b, .int .i64 q.c, .int .i64 q.d], .pointer (some ⟨bi, 0, none⟩), .pointer (some ⟨bj, 0, none⟩)] w fun e w' => e = .returned (sumV (vg p i * vg q j - vg p j * vg q i)) ∧ Below w.heap.size w w' := by
  obtain ⟨w1, hw1⟩ : ∃ w1, (((w.alloc (.cells #[.int .i64 p.a, .int .i64 p.b, .int .i64 p.c, .int .i64 p.d] 22)).alloc (.cells #[.int .i64 q.a, .int .i64 q.b, .int .i64 q.c, .int .i64 q.d] 22)).alloc (.cells #[.int .u64 0, .int .u64 0] 76)) = w1 := ⟨_, rfl⟩
  have hb1 : Below w.heap.size w w1 := by rw [← hw1]; exact bw3 w _ _ _
  have k0 : Blk w1 w.heap.size #[.int .i64 p.a, .int .i64 p.b, .int .i64 p.c, .int .i64 p.d] 22 := by rw [← hw1]; exact ((Blk.new w _ _).alloc _).alloc _
  have k1 : Blk w1 (w.heap.size + 1) #[.int .i64 q.a, .int .i64 q.b, .int .i64 q.c, .int .i64 q.d] 22 := by rw [← hw1]; exact (Blk.new' _ _ _ (by simp)).alloc _
  have k2 : Blk w1 (w.heap.size + 1 + 1) #[.int .u64 0, .int .u64 0] 76 := by rw [← hw1]; exact Blk.new' _ _ _ (by simp)
  have a0 := vg_in hp i
  have a1 := vg_in hq j
  have a2 := vg_in hp j
  have a3 := vg_in hq i
  unfold InI64 at a0 a1 a2 a3
  have hx := fun W => product_any (vg p i) (vg q j) W a0.1 a0.2 a1.1 a1.2
  have hy := fun W => product_any (vg p j) (vg q i) W a2.1 a2.2 a3.1 a3.2
  have hu := fun W => minus_any (vg p i * vg q j) (vg p j * vg q i) W
  have hii : (i : Int) < 4 := by omega
  have hji : (j : Int) < 4 := by omega
  unfold sumV at hx hy hu ⊢
  generalize hiW (vg p i * vg q j) = xh at *
  generalize loW (vg p i * vg q j) = xl at *
  generalize hiW (vg p j * vg q i) = yh at *
  generalize loW (vg p j * vg q i) = yl at *
  generalize hiW (vg p i * vg q j - vg p j * vg q i) = uh at *
  generalize loW (vg p i * vg q j - vg p j * vg q i) = ul at *
  have HX := Lib.hid hx
  have HY := Lib.hid hy
  have HU := Lib.hid hu
  clear hx hy hu a0 a1 a2 a3 hp hq
  go_enter Try.func103, Try.ntmps103
  go_upto_region 1 with fail
  refine wp_region_pure 15 (fun ix => match ix with | 0 => .int .i64 (i : Int) | 1 => .pointer (some ⟨w.heap.size, i, none⟩) | 2 => .int .i64 (vg p i) | 3 => .int .i64 (j : Int) | 4 => .pointer (some ⟨w.heap.size + 1, j, none⟩) | 5 => .int .i64 (vg q j) | 6 => .agg #[.int .u64 xh, .int .u64 xl] | 7 => .int .i64 (j : Int) | 8 => .pointer (some ⟨w.heap.size, j, none⟩) | 9 => .int .i64 (vg p j) | 10 => .int .i64 (i : Int) | 11 => .pointer (some ⟨w.heap.size + 1, i, none⟩) | 12 => .int .i64 (vg q i) | 13 => .agg #[.int .u64 yh, .int .u64 yl] | _ => .agg #[.int .u64 uh, .int .u64 ul]) (by kernel_rfl) (by kernel_rfl) (by kernel_rfl) ?_ ?_ ?_
  · decide
  · rintro ix hx f ww hS hd
    have f0 := (k0.kept hS).vg hi4
    have f1 := (k1.kept hS).vg hj4
    have f2 := (k0.kept hS).vg hj4
    have f3 := (k1.kept hS).vg hi4
    have hbw := hb1.trans (hS.mono hb1.size)
    have f4 := (hbw.cell (p := ⟨bi, 0, none⟩) l0).trans h0
    have f5 := (hbw.cell (p := ⟨bj, 0, none⟩) l1).trans h1
    rcases ix with _ | _ | _ | _ | _ | _ | _ | _ | _ | _ | _ | _ | _ | _ | _ | ix
    · refine wpOp_list rfl ?_
      simp only [tmOf, putAll, List.map_cons, List.map_nil, List.setIfInBounds_toArray, List.set_cons_zero, List.set_cons_succ]
      go_wp2
      simp [upd, Below.refl]
    · have g0 : f 0 = .int .i64 (i : Int) := hd 0 (by kernel_rfl)
      refine wpOp_list rfl ?_
      simp only [tmOf, putAll, List.map_cons, List.map_nil, List.setIfInBounds_toArray, List.set_cons_zero, List.set_cons_succ]
      go_wp2
      simp [upd, g0, Below.refl]
    · have g1 : f 1 = .pointer (some ⟨w.heap.size, i, none⟩) := hd 1 (by kernel_rfl)
      refine wpOp_list rfl ?_
      simp only [tmOf, putAll, List.map_cons, List.map_nil, List.setIfInBounds_toArray, List.set_cons_zero, List.set_cons_succ]
      go_wp2
      simp [upd, g1, Below.refl]
    · refine wpOp_list rfl ?_
      simp only [tmOf, putAll, List.map_cons, List.map_nil, List.setIfInBounds_toArray, List.set_cons_zero, List.set_cons_succ]
      go_wp2
      simp [upd, Below.refl]
    · have g3 : f 3 = .int .i64 (j : Int) := hd 3 (by kernel_rfl)
      refine wpOp_list rfl ?_
      simp only [tmOf, putAll, List.map_cons, List.map_nil, List.setIfInBounds_toArray, List.set_cons_zero, List.set_cons_succ]
      go_wp2
      simp [upd, g3, Below.refl]
    · have g4 : f 4 = .pointer (some ⟨w.heap.size + 1, j, none⟩) := hd 4 (by kernel_rfl)
      refine wpOp_list rfl ?_
      simp only [tmOf, putAll, List.map_cons, List.map_nil, List.setIfInBounds_toArray, List.set_cons_zero, List.set_cons_succ]
      go_wp2
      simp [upd, g4, Below.refl]
    · have g2 : f 2 = .int .i64 (vg p i) := hd 2 (by kernel_rfl)
      have g5 : f 5 = .int .i64 (vg q j) := hd 5 (by kernel_rfl)
      refine wpOp_list rfl ?_
      simp only [tmOf, putAll, List.map_cons, List.map_nil, List.setIfInBounds_toArray, List.set_cons_zero, List.set_cons_succ]
      go_wp2_with fail
      refine (HX.out _).mono ?_
      rintro e' wf ⟨rfl, hbf⟩
      go_wp2_with fail
      simp [upd, g2, g5, hbf]
    · refine wpOp_list rfl ?_
      simp only [tmOf, putAll, List.map_cons, List.map_nil, List.setIfInBounds_toArray, List.set_cons_zero, List.set_cons_succ]
      go_wp2
      simp [upd, Below.refl]
    · have g7 : f 7 = .int .i64 (j : Int) := hd 7 (by kernel_rfl)
      refine wpOp_list rfl ?_
      simp only [tmOf, putAll, List.map_cons, List.map_nil, List.setIfInBounds_toArray, List.set_cons_zero, List.set_cons_succ]
      go_wp2
      simp [upd, g7, Below.refl]
    · have g8 : f 8 = .pointer (some ⟨w.heap.size, j, none⟩) := hd 8 (by kernel_rfl)
      refine wpOp_list rfl ?_
      simp only [tmOf, putAll, List.map_cons, List.map_nil, List.setIfInBounds_toArray, List.set_cons_zero, List.set_cons_succ]
      go_wp2
      simp [upd, g8, Below.refl]
    · refine wpOp_list rfl ?_
      simp only [tmOf, putAll, List.map_cons, List.map_nil, List.setIfInBounds_toArray, List.set_cons_zero, List.set_cons_succ]
      go_wp2
      simp [upd, Below.refl]
    · have g10 : f 10 = .int .i64 (i : Int) := hd 10 (by kernel_rfl)
      refine wpOp_list rfl ?_
      simp only [tmOf, putAll, List.map_cons, List.map_nil, List.setIfInBounds_toArray, List.set_cons_zero, List.set_cons_succ]
      go_wp2
      simp [upd, g10, Below.refl]
    · have g11 : f 11 = .pointer (some ⟨w.heap.size + 1, i, none⟩) := hd 11 (by kernel_rfl)
      refine wpOp_list rfl ?_
      simp only [tmOf, putAll, List.map_cons, List.map_nil, List.setIfInBounds_toArray, List.set_cons_zero, List.set_cons_succ]
      go_wp2
      simp [upd, g11, Below.refl]
    · have g9 : f 9 = .int .i64 (vg p j) := hd 9 (by kernel_rfl)
      have g12 : f 12 = .int .i64 (vg q i) := hd 12 (by kernel_rfl)
      refine wpOp_list rfl ?_
      simp only [tmOf, putAll, List.map_cons, List.map_nil, List.setIfInBounds_toArray, List.set_cons_zero, List.set_cons_succ]
      go_wp2_with fail
      refine (HY.out _).mono ?_
      rintro e' wf ⟨rfl, hbf⟩
      go_wp2_with fail
      simp [upd, g9, g12, hbf]
    · have g6 : f 6 = .agg #[.int .u64 xh, .int .u64 xl] := hd 6 (by kernel_rfl)
      have g13 : f 13 = .agg #[.int .u64 yh, .int .u64 yl] := hd 13 (by kernel_rfl)
      refine wpOp_list rfl ?_
      simp only [tmOf, putAll, List.map_cons, List.map_nil, List.setIfInBounds_toArray, List.set_cons_zero, List.set_cons_succ]
      go_wp2_with fail
      refine (HU.out _).mono ?_
      rintro e' wf ⟨rfl, hbf⟩
      go_wp2_with fail
      simp [upd, g6, g13, hbf]
    · omega
  · rintro f ww hS hd
    have K2 := k2.kept hS
    have d0 := K2.cell (i := 0) rfl
    have d1 := K2.cell (i := 1) rfl
    have q0 := K2.frozen 0
    have q1 := K2.frozen 1
    have g14 : f 14 = .agg #[.int .u64 uh, .int .u64 ul] := hd 14 (by decide)
    simp only [seqW, tmOf, putAll, List.map_cons, List.map_nil, List.setIfInBounds_toArray, List.set_cons_zero, List.set_cons_succ, List.length_cons, List.length_nil]
    refine wpOp_list rfl ?_
    go_wp2
    have L := (K2.set_eq 0 (.int .u64 uh) rfl).set_eq 1 (.int .u64 ul) rfl
    have z0 := L.cell (i := 0) rfl
    have z1 := L.cell (i := 1) rfl
    exact bodyPost_ret (v := .agg #[.int .u64 uh, .int .u64 ul]) (by simp [results, Try.results103, go_sem, z0, z1]) rfl ⟨rfl, ((hb1.trans (hS.mono hb1.size)).setCell (by simp only; omega) _).setCell (by simp only; omega) _⟩

end Go.Proofs.Ythdhakpmhndbfaa
