/-
  Rows of rows: of strings, of the reference's numbers; how they grow; The reference: products; Quotient and remainder of words; the long division as a premise; The law's 'numbers': rows of texts as rows of numbers; A map from uint to numbers, as a function; What a determinant's closure keeps in memory; Minors by sets of columns are those of the expansion along the first row.
-/
import Derived.Deep.RegionHeld3
import Derived.Maps.OwnSet
import Derived.Maps.Views
import Derived.Test.YthdhakpmhndbfaaK1
import Derived.Test.YthdhakpmhndbfaaK2
import Derived.Test.YthdhakpmhndbfaaK9
import Derived.Test.YthdhakpmhndbfaaK10
import Derived.Test.YthdhakpmhndbfaaK11
namespace Go.Proofs.Ythdhakpmhndbfaa
open Go.RowKit

/-- A slice that the call has made; R holds of every cell of its block. -/
def OwnQ (w : World) (base : Nat) (e : TypeId) (size : Nat) (v : Value) (n : Nat) (xs : List Value) (R : Value → Prop) : Prop :=
  w.ownsRow base e size v n xs ∧ ∀ g cs, v.ownBlock = some g → w.heap[g]? = some (.cells cs e (0, 0)) → ∀ u, u ∈ cs.toList → R u

theorem OwnQ.nil (w : World) (base : Nat) (e : TypeId) (size : Nat) (R : Value → Prop) : OwnQ w base e size (.slice none 0 0) 0 [] R :=
  ⟨World.ownsRow_nil _ _ _ _, fun g cs h => by simp [Value.ownBlock] at h⟩

theorem OwnQ.below {w w' : World} {base : Nat} {e : TypeId} {size : Nat} {v : Value} {n : Nat} {xs : List Value} {R : Value → Prop} (h : OwnQ w base e size v n xs R) (hb : Below w.heap.size w w') : OwnQ w' base e size v n xs R := by
  refine ⟨own_below h.1 hb, fun g cs hg hc => ?_⟩
  have hlt := (h.1.lt g hg).2
  rw [hb.block g hlt] at hc
  exact h.2 g cs hg hc

/-- A block that holds a cell of another kind is another one. -/
theorem OwnQ.apart {w : World} {base : Nat} {e : TypeId} {size : Nat} {v : Value} {n : Nat} {xs : List Value} {R : Value → Prop} (h : OwnQ w base e size v n xs R) {b o : Nat} {u : Value} (hc : w.cell? ⟨b, o, none⟩ = some u) (hu : ¬ R u) : some b ≠ v.ownBlock := by
  intro hb
  have hb' := hb.symm
  rcases h.1.2 with ⟨rfl, _⟩ | ⟨g, cap, cur, rfl, _, hg, _⟩
  · simp [Value.ownBlock] at hb
  · simp [Value.ownBlock] at hb
    subst hb
    refine hu (h.2 b cur hb' hg u ?_)
    simp only [World.cell?, hg] at hc
    exact List.mem_of_getElem? (by simpa using hc)

theorem OwnQ.keep {w w' : World} {base : Nat} {e : TypeId} {size : Nat} {v : Value} {n : Nat} {xs : List Value} {R : Value → Prop} (h : OwnQ w base e size v n xs R) (hg : w.grownBy w' v.ownBlock) {b o : Nat} {u : Value} (hc : w.cell? ⟨b, o, none⟩ = some u) (hu : ¬ R u) {o' : Nat} {u' : Value} (hc' : w.cell? ⟨b, o', none⟩ = some u') : w'.cell? ⟨b, o', none⟩ = some u' :=
  hg.cell hc' (h.apart hc hu)

theorem OwnQ.base_below {w w' : World} {base : Nat} {e : TypeId} {size : Nat} {v : Value} {n : Nat} {xs : List Value} {R : Value → Prop} (h : OwnQ w base e size v n xs R) (hg : w.grownBy w' v.ownBlock) (hb : base ≤ w.heap.size) : Below base w w' :=
  ⟨hg.os, hg.tape, hg.output, hg.size, fun k hk => hg.block k (by omega) (fun e => by have := (h.1.lt k e.symm).1; omega)⟩

/-- Integers' rows are kept by an append onto a row without integers. -/
theorem OwnQ.rd {k : IntKind} {w w' : World} {base : Nat} {e : TypeId} {size : Nat} {v : Value} {n : Nat} {xs : List Value} {R : Value → Prop} (h : OwnQ w base e size v n xs R) (hR : ∀ q x, ¬ R (.int q x)) (hg : w.grownBy w' v.ownBlock) {p : Option Addr} {m : Nat} {ns : List Nat} (hr : Rd k w p m ns) : Rd k w' p m ns := by
  refine ⟨hr.1, fun j hj => ?_⟩
  obtain ⟨b, off, hp, hlt, hc⟩ := hr.2 j hj
  exact ⟨b, off, hp, Nat.lt_of_lt_of_le hlt hg.size, h.keep hg hc (hR _ _) hc⟩
theorem OwnQ.ris {w w' : World} {base : Nat} {e : TypeId} {size : Nat} {v : Value} {n : Nat} {xs : List Value} {R : Value → Prop} (h : OwnQ w base e size v n xs R) (hR : ∀ q x, ¬ R (.int q x)) (hg : w.grownBy w' v.ownBlock) {neg : Bool} {p : Option Addr} {m c : Nat} {ns : List Nat} {z : Int} (hr : RIs w neg p m c ns z) : RIs w' neg p m c ns z :=
  { hr with rd := h.rd hR hg hr.rd }
section
variable {P : Program} (w : World)
/-- append onto such a row. -/
theorem run_append_q (base : Nat) (t ty e : TypeId) (i : TypeInfo) (z : Value) (size bytes : Nat) (ht : P.underlying t = some (.slice e)) (hi : P.info? e = some i) (hz : i.zero = some z)
    (hsize : i.size = size) (hby : i.bytes = bytes) (hzs : z.cells.size = size) (R : Value → Prop) (hzR : ∀ u, u ∈ z.cells.toList → R u)
    (v : Value) (n : Nat) (xs : List Value) (hq : OwnQ w base e size v n xs R)
    (a : Addr) (m c : Nat) (news : List Value) (hl : news.length = m * size) (hnews : ∀ j u, news[j]? = some u → w.cell? (a.add j) = some u) (h1 : ∀ u ∈ news, u.oneCell' = true) (hn : ∀ u ∈ news, R u)
    (h63 : n + m ≤ maxLen) (hbytes : (n + m) * bytes ≤ 140737488355328) (hbase : base ≤ w.heap.size) :
    ∃ v' w', (Builtin.append_ #[t, t] ty #[v, .slice (some a) m c]).run P w = .ok v' w' ∧ OwnQ w' base e size v' (n + m) (xs ++ news) R ∧ w.grownBy w' v.ownBlock := by
  subst hsize hby
  have hsmall : n + m ≤ 9223372036854775807 := by simp only [maxLen] at h63; omega
  obtain ⟨hown, hR⟩ := hq
  have hlen : (xs ++ news).length = (n + m) * i.size := by rw [List.length_append, hown.1, hl, Nat.add_mul]
  have hzero : ∀ k u, u ∈ (Builtin.zeroCells z.cells k).toList → R u := by
    intro k u hu
    unfold Builtin.zeroCells at hu
    simp only [Array.toList_map, Array.toList_range, List.mem_map, List.mem_range] at hu
    obtain ⟨j, hj, rfl⟩ := hu
    have hs : 0 < z.cells.size := by
      rcases Nat.eq_zero_or_pos z.cells.size with h | h
      · rw [h] at hj; simp at hj
      · exact h
    rw [getElem!_pos z.cells _ (Nat.mod_lt j hs)]
    exact hzR _ (by simp)
  have grown : ∀ (old : Nat), (∀ u ∈ xs, R u) → ∀ (row : Option Nat),
      OwnQ (w.drew.alloc (.cells (xs.toArray ++ news.toArray ++ Builtin.zeroCells z.cells (grownCap w (n + m) old e - (n + m))) e)) base e i.size (.slice (some ⟨w.heap.size, 0, none⟩) (n + m) (grownCap w (n + m) old e)) (n + m) (xs ++ news) R ∧
      w.grownBy (w.drew.alloc (.cells (xs.toArray ++ news.toArray ++ Builtin.zeroCells z.cells (grownCap w (n + m) old e - (n + m))) e)) row := by
    intro old hxR row
    have hge := grownCap_ge w (n + m) old e
    have hcm : grownCap w (n + m) old e ≤ maxLen := grownCap_le_maxLen w (n + m) old e h63
    refine ⟨⟨⟨hlen, .inr ⟨w.heap.size, _, _, rfl, hbase, heap_alloc_new w.drew _, hge, hcm, ?_, ?_⟩⟩, ?_⟩, ⟨rfl, rfl, rfl, by simp, fun k hk _ => heap_alloc_old w.drew _ hk⟩⟩
    · simp only [Array.size_append, List.size_toArray, size_zeroCells, hzs, hown.1, hl, ← Nat.add_mul]
      congr 1
      omega
    · simp only [Array.toList_append, List.append_assoc]
      rw [← List.append_assoc, ← hlen]
      exact List.take_left
    · intro g cs hg hc u hu
      simp [Value.ownBlock] at hg
      subst hg
      have hnew := heap_alloc_new w.drew (.cells (xs.toArray ++ news.toArray ++ Builtin.zeroCells z.cells (grownCap w (n + m) old e - (n + m))) e)
      have e1 : w.drew.heap.size = w.heap.size := rfl
      rw [e1] at hnew
      rw [hnew] at hc
      cases hc
      simp only [Array.toList_append, List.mem_append] at hu
      rcases hu with (hu | hu) | hu
      · exact hxR u hu
      · exact hn u hu
      · exact hzero _ u hu
  rcases hown.2 with ⟨rfl, rfl⟩ | ⟨g, cap, cur, rfl, hbg, hg, hnc, hcm, hcs, htake⟩
  · have hx : xs = [] := List.eq_nil_of_length_eq_zero (by simpa using hown.1)
    subst hx
    by_cases hm : m = 0
    · subst hm
      have hn0 : news = [] := List.eq_nil_of_length_eq_zero (by simpa using hl)
      subst hn0
      refine ⟨.slice none 0 0, w, ?_, OwnQ.nil _ _ _ _ _, ⟨rfl, rfl, rfl, Nat.le_refl _, fun _ _ _ => rfl⟩⟩
      simp [Builtin.append_, run_underlying ht, sizeOf, typeInfo, hi, Builtin.lenOf, Builtin.firstCells, loadCells, loadCellsFrom]
    · have hr := run_append_nil (P := P) w t ty e i z ht hi hz a m c news hl hnews (by omega) (by omega) (by have hb := hbytes; simp only [Nat.zero_add] at hb; omega)
      have hgr := grown 0 (by simp) (Value.ownBlock (.slice none 0 0))
      simp only [Nat.zero_add, List.nil_append, Array.empty_append] at hgr ⊢
      exact ⟨_, _, hr, hgr.1, hgr.2⟩
  · have hcur : ∀ u, u ∈ cur.toList → R u := hR g cur rfl hg
    by_cases hroom : n + m ≤ cap
    · have hfit : n * i.size + news.length ≤ cur.size := by rw [hl, hcs, ← Nat.add_mul]; exact Nat.mul_le_mul_right _ hroom
      have hr := run_append_room (P := P) w t ty e i ht hi g n cap cur hg a m c news hl hnews h1 hroom hfit
      refine ⟨_, _, hr, ⟨⟨hlen, .inr ⟨g, cap, _, rfl, hbg, setRow_heap w g cur _ e _ hg, hroom, hcm, ?_, ?_⟩⟩, ?_⟩, ⟨rfl, rfl, rfl, by simp, fun k _ hk => setRow_other w g k _ (fun e => hk (by simp [Value.ownBlock, e]))⟩⟩
      · simp only [List.size_toArray, List.length_append, List.length_take, List.length_drop, Array.length_toList]
        omega
      · rw [htake, ← hlen]
        exact List.take_left
      · intro g' cs hg' hc u hu
        simp [Value.ownBlock] at hg'
        subst hg'
        rw [setRow_heap w g cur _ e _ hg] at hc
        cases hc
        simp only [List.mem_append] at hu
        rcases hu with (hu | hu) | hu
        · exact hcur u (List.mem_of_mem_take hu)
        · exact hn u hu
        · exact hcur u (List.mem_of_mem_drop hu)
    · have holds : ∀ j u, xs[j]? = some u → w.cell? ((⟨g, 0, none⟩ : Addr).add j) = some u := hown.cells (g := g) rfl
      have hr := run_append_grow (P := P) w t ty e i z ht hi hz ⟨g, 0, none⟩ n cap xs hown.1 holds a m c news hl hnews (by omega) (by omega) (growslice_fits (by omega) hbytes)
      have hgr := grown cap (fun u hu => hcur u (by rw [← htake] at hu; exact List.mem_of_mem_take hu)) (Value.ownBlock (.slice (some ⟨g, 0, none⟩) n cap))
      exact ⟨_, _, hr, hgr.1, hgr.2⟩

variable {w}
theorem wpList_append_q {ops : Array Oper} {rest : List Oper} {o : Oper} {a : Act} {Q : Exit → Act → World → Prop} (hgd : o.guard = none) (s x : Operand) (t : TypeId)
    (ho : o.op = .call { callee := .builtin .append, args := #[s, x], argTypes := #[t, t] })
    (base : Nat) (e : TypeId) (i : TypeInfo) (z : Value) (size bytes : Nat) (ht : P.underlying t = some (.slice e)) (hi : P.info? e = some i) (hz : i.zero = some z)
    (hsize : i.size = size) (hby : i.bytes = bytes) (hzs : z.cells.size = size) (R : Value → Prop) (hzR : ∀ u, u ∈ z.cells.toList → R u)
    (v : Value) (n : Nat) (xs : List Value) (hs : a.eval s = v) (hq : OwnQ w base e size v n xs R)
    (ad : Addr) (m c : Nat) (news : List Value) (hx : a.eval x = .slice (some ad) m c) (hl : news.length = m * size) (hnews : ∀ j u, news[j]? = some u → w.cell? (ad.add j) = some u) (h1 : ∀ u ∈ news, u.oneCell' = true) (hn : ∀ u ∈ news, R u)
    (h63 : n + m ≤ maxLen) (hbytes : (n + m) * bytes ≤ 140737488355328) (hbase : base ≤ w.heap.size)
    (h : ∀ v' w', OwnQ w' base e size v' (n + m) (xs ++ news) R → w.grownBy w' v.ownBlock → wpList P ops Q rest (a.put o.dst v') w') :
    wpList P ops Q (o :: rest) a w := by
  refine wpList_plain hgd fun K hK => ?_
  obtain ⟨v', w', hr, h2, h3⟩ := run_append_q (P := P) w base t o.type e i z size bytes ht hi hz hsize hby hzs R hzR v n xs hq ad m c news hl hnews h1 hn h63 hbytes hbase
  unfold Oper.wp execOp
  simp only [ho, resolve, invoke, builtin, Sem.run_bind, Sem.run_pure, Result.andThen_ok, List.map_toArray, List.map_cons, List.map_nil, hs, hx, hr]
  exact hK _ _ (h v' w' h2 h3)
end

end Go.Proofs.Ythdhakpmhndbfaa

namespace Go.Proofs.Ythdhakpmhndbfaa
open Go.RowKit

/-- No integer, no string. -/
def NoInt (u : Value) : Prop := (∀ q x, u ≠ .int q x) ∧ ∀ s, u ≠ .string s
/-- A slice. -/
def OnlySl (u : Value) : Prop := ∃ p n c, u = .slice p n c
theorem NoInt.i (q : IntKind) (x : Int) : ¬ NoInt (.int q x) := fun h => h.1 q x rfl
theorem OnlySl.i (q : IntKind) (x : Int) : ¬ OnlySl (.int q x) := fun ⟨_, _, _, h⟩ => by cases h
theorem OnlySl.s (s : ByteArray) : ¬ OnlySl (.string s) := fun ⟨_, _, _, h⟩ => by cases h
theorem OnlySl.b (x : Bool) : ¬ OnlySl (.bool x) := fun ⟨_, _, _, h⟩ => by cases h
theorem OnlySl.mk (p : Option Addr) (n c : Nat) : OnlySl (.slice p n c) := ⟨p, n, c, rfl⟩
theorem NoInt.bool (x : Bool) : NoInt (.bool x) := And.intro (fun _ _ h => by cases h) (fun _ h => by cases h)
theorem NoInt.slice (p : Option Addr) (n c : Nat) : NoInt (.slice p n c) := And.intro (fun _ _ h => by cases h) (fun _ h => by cases h)

theorem Try.infoNN : (Try.prog.info? 96).map (fun i => (i.zero, i.size, i.bytes)) = some (some (.slice none 0 0), 1, 24) := by kernel_rfl
theorem Try.infoN : (Try.prog.info? 82).map (fun i => (i.zero, i.size, i.bytes)) = some (some (.agg #[.bool false, .slice none 0 0]), 2, 32) := by kernel_rfl

/-- Rows of strings at an address. -/
def RdLL (w : World) (a : Option Addr) (rows : List (List (List UInt8))) : Prop :=
  ∀ i row, rows[i]? = some row → ∃ b off q c, a = some ⟨b, off, none⟩ ∧ b < w.heap.size ∧ w.cell? ⟨b, off + i, none⟩ = some (.slice q row.length c) ∧ RdL w q row
theorem RdLL.below {w w' : World} {a : Option Addr} {rows : List (List (List UInt8))} (h : RdLL w a rows) (hb : Below w.heap.size w w') : RdLL w' a rows := by
  intro i row hi
  obtain ⟨b, off, q, c, ha, hlt, hc, hr⟩ := h i row hi
  exact ⟨b, off, q, c, ha, Nat.lt_of_lt_of_le hlt hb.size, (hb.cell (p := ⟨b, _, none⟩) hlt).trans hc, hr.below hb⟩

/-- Numbers at an address. -/
def NumsR (w : World) (a : Option Addr) (row : List Int) (K : Nat) : Prop :=
  ∀ k z, row[k]? = some z → ∃ b off neg q n c xs, a = some ⟨b, off, none⟩ ∧ b < w.heap.size ∧ w.cell? ⟨b, off + k * 2, none⟩ = some (.bool neg) ∧ w.cell? ⟨b, off + k * 2 + 1, none⟩ = some (.slice q n c) ∧ RIs w neg q n c xs z ∧ n ≤ K
theorem NumsR.below {w w' : World} {a : Option Addr} {row : List Int} {K : Nat} (h : NumsR w a row K) (hb : Below w.heap.size w w') : NumsR w' a row K := by
  intro k z hk
  obtain ⟨b, off, neg, q, n, c, xs, ha, hlt, h0, h1, hr, hn⟩ := h k z hk
  exact ⟨b, off, neg, q, n, c, xs, ha, Nat.lt_of_lt_of_le hlt hb.size, (hb.cell (p := ⟨b, _, none⟩) hlt).trans h0, (hb.cell (p := ⟨b, _, none⟩) hlt).trans h1, hr.below hb, hn⟩
theorem OwnQ.numsR {w w' : World} {base : Nat} {e : TypeId} {size : Nat} {v : Value} {n : Nat} {xs : List Value} (h : OwnQ w base e size v n xs OnlySl) (hg : w.grownBy w' v.ownBlock) {a : Option Addr} {row : List Int} {K : Nat} (hr : NumsR w a row K) : NumsR w' a row K := by
  intro k z hk
  obtain ⟨b, off, neg, q, n, c, xs, ha, hlt, h0, h1, hr, hn⟩ := hr k z hk
  exact ⟨b, off, neg, q, n, c, xs, ha, Nat.lt_of_lt_of_le hlt hg.size, h.keep hg h0 (OnlySl.b _) h0, h.keep hg h0 (OnlySl.b _) h1, h.ris OnlySl.i hg hr, hn⟩

/-- Rows of numbers at an address. -/
def RdMN (w : World) (a : Option Addr) (M : List (List Int)) (K : Nat) : Prop :=
  ∀ i row, M[i]? = some row → ∃ b off q c, a = some ⟨b, off, none⟩ ∧ b < w.heap.size ∧ w.cell? ⟨b, off + i, none⟩ = some (.slice q row.length c) ∧ row.length ≤ c ∧ NumsR w q row K
theorem RdMN.below {w w' : World} {a : Option Addr} {M : List (List Int)} {K : Nat} (h : RdMN w a M K) (hb : Below w.heap.size w w') : RdMN w' a M K := by
  intro i row hi
  obtain ⟨b, off, q, c, ha, hlt, hc, hl, hr⟩ := h i row hi
  exact ⟨b, off, q, c, ha, Nat.lt_of_lt_of_le hlt hb.size, (hb.cell (p := ⟨b, _, none⟩) hlt).trans hc, hl, hr.below hb⟩

/-- What an own row of cells reads as. -/
theorem own_cells {w : World} {base : Nat} {e : TypeId} {size : Nat} {v : Value} {n : Nat} {xs : List Value} (h : w.ownsRow base e size v n xs) : ∃ p c, v = .slice p n c ∧ n ≤ c ∧ ∀ j u, xs[j]? = some u → ∃ g, p = some ⟨g, 0, none⟩ ∧ g < w.heap.size ∧ w.cell? ⟨g, j, none⟩ = some u := by
  rcases h.2 with ⟨rfl, rfl⟩ | ⟨g, cap, cur, rfl, hb, hg, hc, _, hs, ht⟩
  · refine ⟨none, 0, rfl, Nat.le_refl _, fun j u hj => ?_⟩
    have : xs = [] := List.eq_nil_of_length_eq_zero (by simpa using h.1)
    subst this; simp at hj
  · refine ⟨_, cap, rfl, hc, fun j u hj => ⟨g, rfl, (Array.getElem?_eq_some_iff.1 hg).1, ?_⟩⟩
    have hjl : j < n * size := by have := (List.getElem?_eq_some_iff.1 hj).1; rw [h.1] at this; exact this
    rw [← ht, List.getElem?_take_of_lt hjl] at hj
    simpa [World.cell?, hg] using hj

theorem snoc_cases {α : Type} {l : List α} {x y : α} {i : Nat} (h : (l ++ [x])[i]? = some y) : (i < l.length ∧ l[i]? = some y) ∨ (i = l.length ∧ y = x) := by
  rcases Nat.lt_or_ge i l.length with hi | hi
  · left; rw [List.getElem?_append_left hi] at h; exact ⟨hi, h⟩
  · right
    rw [List.getElem?_append_right hi] at h
    have hl := (List.getElem?_eq_some_iff.1 h).1
    simp at hl
    have e : i = l.length := by omega
    subst e
    simp at h
    exact ⟨rfl, h.symm⟩

/-- A row of numbers of the call's own. -/
def GrNum (w : World) (base : Nat) (v : Value) (row : List Int) (K : Nat) : Prop :=
  ∃ cs : List Value, OwnQ w base 82 2 v row.length cs NoInt ∧ ∀ k z, row[k]? = some z → ∃ neg q n c xs, cs[k * 2]? = some (.bool neg) ∧ cs[k * 2 + 1]? = some (.slice q n c) ∧ RIs w neg q n c xs z ∧ n ≤ K
theorem GrNum.nil (w : World) (base K : Nat) : GrNum w base (.slice none 0 0) [] K := ⟨[], OwnQ.nil _ _ _ _ _, fun i z h => by simp at h⟩
theorem GrNum.below {w w' : World} {base : Nat} {v : Value} {row : List Int} {K : Nat} (h : GrNum w base v row K) (hb : Below w.heap.size w w') : GrNum w' base v row K := by
  obtain ⟨vs, h1, h2⟩ := h
  exact ⟨vs, h1.below hb, fun i z hi => by obtain ⟨neg, q, n, c, xs, e0, e1, r, hn⟩ := h2 i z hi; exact ⟨neg, q, n, c, xs, e0, e1, r.below hb, hn⟩⟩
theorem GrNum.rd {w : World} {base : Nat} {v : Value} {row : List Int} {K : Nat} (h : GrNum w base v row K) : ∃ p c, v = .slice p row.length c ∧ row.length ≤ c ∧ NumsR w p row K := by
  obtain ⟨cs, h1, h2⟩ := h
  obtain ⟨p, c, rfl, hc, hcell⟩ := own_cells h1.1
  refine ⟨p, c, rfl, hc, fun k z hk => ?_⟩
  obtain ⟨neg, q, n, c', xs, e0, e1, r, hn⟩ := h2 k z hk
  obtain ⟨g, hp, hlt, h0⟩ := hcell _ _ e0
  obtain ⟨g', hp', _, h1⟩ := hcell _ _ e1
  rw [hp] at hp'
  cases hp'
  exact ⟨g, 0, neg, q, n, c', xs, hp, hlt, by rw [Nat.zero_add]; exact h0, by rw [Nat.zero_add]; exact h1, r, hn⟩

/-- append(row, x), as the walk meets it. -/
theorem pushNum_law {ops : Array Oper} {Q : Exit → Act → World → Prop} {o : Oper} {rest : List Oper} {a : Act} {W : World} (hgd : o.guard = none) (s x : Operand)
    (ho : o.op = .call { callee := .builtin .append, args := #[s, x], argTypes := #[96, 96] }) {base : Nat} {v : Value} {row : List Int} {K : Nat} (hs : a.eval s = v) (h : GrNum W base v row K)
    {neg : Bool} {q : Option Addr} {n c : Nat} {xs : List Nat} {z : Int} (hr : RIs W neg q n c xs z) (hn : n ≤ K)
    (hx : a.eval x = .slice (some ⟨W.heap.size, 0, none⟩) 1 1) (hl : row.length ≤ 1000000000) (hbase : base ≤ W.heap.size)
    (k : ∀ v' w', GrNum w' base v' (row ++ [z]) K → Below base W w' → wpList Try.prog ops Q rest (a.put o.dst v') w') : wpList Try.prog ops Q (o :: rest) a (W.alloc (.cells #[.bool neg, .slice q n c] 82)) := by
  obtain ⟨i0, hi, hz0, hz1, hz2⟩ := info_parts Try.infoN
  have hbA : Below W.heap.size W (W.alloc (.cells #[.bool neg, .slice q n c] 82)) := (Below.refl _ _).alloc (Nat.le_refl _) _
  obtain ⟨cs, h1, h2⟩ := h.below hbA
  have hcl : cs.length = row.length * 2 := h1.1.1
  have hr' := hr.below hbA
  refine wpList_append_q hgd s x 96 ho base 82 i0 (.agg #[.bool false, .slice none 0 0]) 2 32 Try.underlying96 hi hz0 hz1 hz2 rfl NoInt (by intro u hu; simp [Value.cells] at hu; rcases hu with rfl | rfl; exact NoInt.bool _; exact NoInt.slice _ _ _) v row.length cs hs h1 ⟨W.heap.size, 0, none⟩ 1 1 [.bool neg, .slice q n c] hx rfl
    (by intro j u hj; match j, hj with | 0, hj => simp at hj; subst hj; simp [Addr.add, go_sem] | 1, hj => simp at hj; subst hj; simp [Addr.add, go_sem]) (by simp [Value.oneCell']) (by intro u hu; simp at hu; rcases hu with rfl | rfl; exact NoInt.bool _; exact NoInt.slice _ _ _) (by unfold maxLen; omega) (by omega) (by rw [World.size_alloc]; omega) ?_
  intro v' w' h3 hg
  have hbb := h1.base_below hg (by rw [World.size_alloc]; omega)
  refine k v' w' ⟨cs ++ [.bool neg, .slice q n c], by rw [List.length_append]; exact h3, fun i y hi => ?_⟩ (((Below.refl _ _).alloc hbase _).trans hbb)
  rcases snoc_cases hi with ⟨hlt, hi⟩ | ⟨rfl, rfl⟩
  · obtain ⟨neg', q', n', c', xs', e0, e1, r', hn'⟩ := h2 i y hi
    exact ⟨neg', q', n', c', xs', by rw [List.getElem?_append_left (by omega)]; exact e0, by rw [List.getElem?_append_left (by omega)]; exact e1, h1.ris NoInt.i hg r', hn'⟩
  · exact ⟨neg, q, n, c, xs, by rw [List.getElem?_append_right (by omega), hcl, Nat.sub_self]; rfl, by rw [List.getElem?_append_right (by omega), hcl, show row.length * 2 + 1 - row.length * 2 = 1 by omega]; rfl, h1.ris NoInt.i hg hr', hn⟩

/-- Rows of numbers of the call's own. -/
def GrMN (w : World) (base : Nat) (v : Value) (M : List (List Int)) (K : Nat) : Prop :=
  ∃ vs : List Value, OwnQ w base 96 1 v M.length vs OnlySl ∧ ∀ (i : Nat) (row : List Int), M[i]? = some row → ∃ (q : Option Addr) (c : Nat), vs[i]? = some (Value.slice q row.length c) ∧ row.length ≤ c ∧ NumsR w q row K
theorem GrMN.nil (w : World) (base K : Nat) : GrMN w base (.slice none 0 0) [] K := ⟨[], OwnQ.nil _ _ _ _ _, fun i row h => by simp at h⟩
theorem GrMN.below {w w' : World} {base : Nat} {v : Value} {M : List (List Int)} {K : Nat} (h : GrMN w base v M K) (hb : Below w.heap.size w w') : GrMN w' base v M K := by
  obtain ⟨vs, h1, h2⟩ := h
  exact ⟨vs, h1.below hb, fun i row hi => by obtain ⟨q, c, e, l, r⟩ := h2 i row hi; exact ⟨q, c, e, l, r.below hb⟩⟩
theorem GrMN.rd {w : World} {base : Nat} {v : Value} {M : List (List Int)} {K : Nat} (h : GrMN w base v M K) : ∃ p c, v = .slice p M.length c ∧ M.length ≤ c ∧ RdMN w p M K := by
  obtain ⟨vs, h1, h2⟩ := h
  obtain ⟨p, c, rfl, hc, hcell⟩ := own_cells h1.1
  refine ⟨p, c, rfl, hc, fun i row hi => ?_⟩
  obtain ⟨q, c', e, l, r⟩ := h2 i row hi
  obtain ⟨g, hp, hlt, hcc⟩ := hcell i _ e
  exact ⟨g, 0, q, c', hp, hlt, by rw [Nat.zero_add]; exact hcc, l, r⟩
theorem pushNRow_law {ops : Array Oper} {Q : Exit → Act → World → Prop} {o : Oper} {rest : List Oper} {a : Act} {W : World} (hgd : o.guard = none) (s x : Operand)
    (ho : o.op = .call { callee := .builtin .append, args := #[s, x], argTypes := #[95, 95] }) {base : Nat} {v : Value} {M : List (List Int)} {K : Nat} (hs : a.eval s = v) (h : GrMN W base v M K)
    {q : Option Addr} {n c : Nat} {row : List Int} (hn : row.length = n) (hc : n ≤ c) (hr : NumsR W q row K)
    (hx : a.eval x = .slice (some ⟨W.heap.size, 0, none⟩) 1 1) (hl : M.length ≤ 1000000000) (hbase : base ≤ W.heap.size)
    (k : ∀ v' w', GrMN w' base v' (M ++ [row]) K → Below base W w' → wpList Try.prog ops Q rest (a.put o.dst v') w') : wpList Try.prog ops Q (o :: rest) a (W.alloc (.cells #[.slice q n c] 96)) := by
  subst hn
  obtain ⟨i0, hi, hz0, hz1, hz2⟩ := info_parts Try.infoNN
  have hbA : Below W.heap.size W (W.alloc (.cells #[.slice q row.length c] 96)) := (Below.refl _ _).alloc (Nat.le_refl _) _
  obtain ⟨vs, h1, h2⟩ := h.below hbA
  have hvl : vs.length = M.length := by have := h1.1.1; omega
  have hr' := hr.below hbA
  refine wpList_append_q hgd s x 95 ho base 96 i0 (.slice none 0 0) 1 24 Try.underlying95 hi hz0 hz1 hz2 rfl OnlySl (by intro u hu; simp [Value.cells] at hu; subst hu; exact OnlySl.mk _ _ _) v M.length vs hs h1 ⟨W.heap.size, 0, none⟩ 1 1 [.slice q row.length c] hx rfl
    (by intro j u hj; match j, hj with | 0, hj => simp at hj; subst hj; simp [Addr.add, go_sem]) (by simp [Value.oneCell']) (by intro u hu; simp at hu; subst hu; exact OnlySl.mk _ _ _) (by unfold maxLen; omega) (by omega) (by rw [World.size_alloc]; omega) ?_
  intro v' w' h3 hg
  have hbb := h1.base_below hg (by rw [World.size_alloc]; omega)
  refine k v' w' ⟨vs ++ [.slice q row.length c], by rw [List.length_append]; exact h3, fun i r hi => ?_⟩ (((Below.refl _ _).alloc hbase _).trans hbb)
  rcases snoc_cases hi with ⟨hlt, hi⟩ | ⟨rfl, rfl⟩
  · obtain ⟨q', c', e, l, r'⟩ := h2 i r hi
    exact ⟨q', c', by rw [List.getElem?_append_left (by omega)]; exact e, l, h1.numsR hg r'⟩
  · exact ⟨q, c, by rw [List.getElem?_append_right (by omega), hvl, Nat.sub_self]; rfl, hc, h1.numsR hg hr'⟩

theorem snoc_ind {α : Type} {P : List α → Prop} (h0 : P []) (h1 : ∀ l x, P l → P (l ++ [x])) : ∀ l, P l := by
  intro l
  rw [← List.reverse_reverse l]
  induction l.reverse with
  | nil => exact h0
  | cons x t ih => rw [List.reverse_cons]; exact h1 _ _ ih

/-- The cells of numbers. -/
theorem seg_cells {W : World} {b off K : Nat} : ∀ seg : List Int, NumsR W (some ⟨b, off, none⟩) seg K → ∃ news : List Value, news.length = seg.length * 2 ∧ (∀ j u, news[j]? = some u → W.cell? ⟨b, off + j, none⟩ = some u) ∧ (∀ u ∈ news, NoInt u ∧ u.oneCell' = true) ∧
      ∀ i z, seg[i]? = some z → ∃ neg q n c xs, news[i * 2]? = some (.bool neg) ∧ news[i * 2 + 1]? = some (.slice q n c) ∧ RIs W neg q n c xs z ∧ n ≤ K := by
  refine snoc_ind ?_ ?_
  · intro _; exact ⟨[], rfl, fun j u h => by simp at h, fun u h => by simp at h, fun i z h => by simp at h⟩
  · intro seg z ih hr
    obtain ⟨news, n1, n2, n3, n4⟩ := ih (fun i y hi => hr i y (by rw [List.getElem?_append_left (List.getElem?_eq_some_iff.1 hi).1]; exact hi))
    obtain ⟨b', off', neg, q, n, c', xs, hp, hlt, e0, e1, r, hn⟩ := hr seg.length z (by simp)
    cases hp
    refine ⟨news ++ [.bool neg, .slice q n c'], by simp; omega, fun j u hj => ?_, fun u hu => ?_, fun i y hi => ?_⟩
    · rcases Nat.lt_or_ge j news.length with hj' | hj'
      · rw [List.getElem?_append_left hj'] at hj; exact n2 j u hj
      · rw [List.getElem?_append_right hj'] at hj
        obtain ⟨m, hm⟩ : ∃ m, j - news.length = m := ⟨_, rfl⟩
        rw [hm] at hj
        match m, hj, hm with
        | 0, hj, hm =>
          simp at hj; subst hj
          rw [show j = seg.length * 2 by omega]; exact e0
        | 1, hj, hm =>
          simp at hj; subst hj
          rw [show off + j = off + seg.length * 2 + 1 by omega]; exact e1
        | m + 2, hj, _ => simp at hj
    · rcases List.mem_append.1 hu with hu | hu
      · exact n3 u hu
      · simp at hu
        rcases hu with rfl | rfl
        · exact ⟨NoInt.bool _, rfl⟩
        · exact ⟨NoInt.slice _ _ _, rfl⟩
    · rcases snoc_cases hi with ⟨hlt', hi⟩ | ⟨rfl, rfl⟩
      · obtain ⟨neg', q', n', c'', xs', e0', e1', r', hn'⟩ := n4 i y hi
        exact ⟨neg', q', n', c'', xs', by rw [List.getElem?_append_left (by omega)]; exact e0', by rw [List.getElem?_append_left (by omega)]; exact e1', r', hn'⟩
      · exact ⟨neg, q, n, c', xs, by rw [List.getElem?_append_right (by omega), n1, Nat.sub_self]; rfl, by rw [List.getElem?_append_right (by omega), n1, show seg.length * 2 + 1 - seg.length * 2 = 1 by omega]; rfl, r, hn⟩

/-- append(row, seg...), as the walk meets it. -/
theorem pushSeg_law {ops : Array Oper} {Q : Exit → Act → World → Prop} {o : Oper} {rest : List Oper} {a : Act} {W : World} (hgd : o.guard = none) (s x : Operand)
    (ho : o.op = .call { callee := .builtin .append, args := #[s, x], argTypes := #[96, 96] }) {base : Nat} {v : Value} {row : List Int} {K : Nat} (hs : a.eval s = v) (h : GrNum W base v row K)
    {b off n c : Nat} {seg : List Int} (hn : seg.length = n) (hr : NumsR W (some ⟨b, off, none⟩) seg K)
    (hx : a.eval x = .slice (some ⟨b, off, none⟩) n c) (hl : row.length ≤ 1000000000) (hl2 : n ≤ 1000000000) (hbase : base ≤ W.heap.size)
    (k : ∀ v' w', GrNum w' base v' (row ++ seg) K → Below base W w' → wpList Try.prog ops Q rest (a.put o.dst v') w') : wpList Try.prog ops Q (o :: rest) a W := by
  subst hn
  obtain ⟨i0, hi, hz0, hz1, hz2⟩ := info_parts Try.infoN
  obtain ⟨cs, h1, h2⟩ := h
  have hcl : cs.length = row.length * 2 := h1.1.1
  obtain ⟨news, n1, n2, n3, n4⟩ := seg_cells seg hr
  refine wpList_append_q hgd s x 96 ho base 82 i0 (.agg #[.bool false, .slice none 0 0]) 2 32 Try.underlying96 hi hz0 hz1 hz2 rfl NoInt (by intro u hu; simp [Value.cells] at hu; rcases hu with rfl | rfl; exact NoInt.bool _; exact NoInt.slice _ _ _) v row.length cs hs h1 ⟨b, off, none⟩ seg.length c news hx n1
    (by intro j u hj; rw [Go.WideShapes.add_plain]; exact n2 j u hj) (fun u hu => (n3 u hu).2) (fun u hu => (n3 u hu).1) (by unfold maxLen; omega) (by omega) hbase ?_
  intro v' w' h3 hg
  have hbb := h1.base_below hg hbase
  refine k v' w' ⟨cs ++ news, by rw [List.length_append]; exact h3, fun i y hi => ?_⟩ hbb
  rcases Nat.lt_or_ge i row.length with hlt | hge
  · rw [List.getElem?_append_left hlt] at hi
    obtain ⟨neg', q', n', c', xs', e0, e1, r', hn'⟩ := h2 i y hi
    exact ⟨neg', q', n', c', xs', by rw [List.getElem?_append_left (by omega)]; exact e0, by rw [List.getElem?_append_left (by omega)]; exact e1, h1.ris NoInt.i hg r', hn'⟩
  · rw [List.getElem?_append_right hge] at hi
    obtain ⟨neg', q', n', c', xs', e0, e1, r', hn'⟩ := n4 _ y hi
    exact ⟨neg', q', n', c', xs', by rw [List.getElem?_append_right (by omega), hcl, ← Nat.sub_mul]; exact e0, by rw [List.getElem?_append_right (by omega), hcl, show i * 2 + 1 - row.length * 2 = (i - row.length) * 2 + 1 by omega]; exact e1, h1.ris NoInt.i hg r', hn'⟩

end Go.Proofs.Ythdhakpmhndbfaa

namespace Go.Proofs.Ythdhakpmhndbfaa
open Go.RowKit

theorem RIs.set2 {w : World} {neg : Bool} {p : Option Addr} {n c : Nat} {xs : List Nat} {z : Int} (h : RIs w neg p n c xs z) {B : Nat} {a : Bool} {q : Option Addr} {k d : Nat} {t : TypeId} (hb : Boxed2 w B (.bool a) (.slice q k d) t) (a' : Bool) (v : Value) :
    RIs ((w.setCell ⟨B, 0, none⟩ (.bool a')).setCell ⟨B, 1, none⟩ v) neg p n c xs z :=
  { h with rd := (h.rd.boxI hb _).boxI (hb.set0 (.bool a')) _ }

set_option maxRecDepth 100000 in
set_option maxHeartbeats 2000000 in
theorem rsub_any (a b : Bool) (p q : Option Addr) (n c m d : Nat) (xs ys : List Nat) (x y : Int) (w : World) (hn : n ≤ 100000000) (hm : m ≤ 100000000) (hx : RIs w a p n c xs x) (hy : RIs w b q m d ys y) :
    Calls Try.prog 98 #[.agg #[.bool a, .slice p n c], .agg #[.bool b, .slice q m d]] w (RV w (x - y) (max n m + 1)) := by
  have hb0 : Below w.heap.size w ((((w.alloc (.cells #[.bool a, .slice p n c] 82)).alloc (.cells #[.bool b, .slice q m d] 82)).alloc (.cells #[.bool false, .slice none 0 0] 82)).drew) :=
    ((((Below.refl _ w).alloc (Nat.le_refl _) _).alloc (by simp) _).alloc (by rw [World.size_alloc, World.size_alloc]; omega) _).drew
  have hx1 := hx.below hb0
  have hy1 := hy.below hb0
  go_enter Try.func98, Try.ntmps98
  go_wp2_with fail
  go_region_held3 (fun w' => w'.cell? ⟨w.heap.size, 0, none⟩ = some (.bool a) ∧ w'.cell? ⟨w.heap.size, 1, none⟩ = some (.slice p n c) ∧ w'.cell? ⟨w.heap.size + 1, 0, none⟩ = some (.bool b) ∧ w'.cell? ⟨w.heap.size + 1, 1, none⟩ = some (.slice q m d))
    (simp [go_sem, *])
    (first
      | (go_at_call 60; refine (rneg_any _ _ _ _ ys y _ (by omega) hy1).mono ?_; rintro e w1 ⟨neg1, p1, n1, c1, xs1, rfl, hx2, hn1, hb1⟩; obtain ⟨hc1, hf1⟩ := bcell hb1; have z1 : w.heap.size < w1.heap.size := (by have := hb1.size; simp at this; omega); have z2 : w.heap.size + 1 < w1.heap.size := (by have := hb1.size; simp at this; omega); have z3 : w.heap.size + 1 + 1 < w1.heap.size := (by have := hb1.size; simp at this; omega); have hxV := hx1.below hb1)
      | (go_at_call 85; refine (radd_any _ _ _ _ _ _ _ _ xs xs1 x (-y) _ (by omega) (by omega) hxV hx2).mono ?_; rintro e w2 ⟨neg2, p2, n2, c2, xs2, rfl, hx3, hn2, hb2⟩; obtain ⟨hc2, hf2⟩ := bcell hb2))
  go_wp2_with fail
  have q0 : w2.cell? ⟨w.heap.size + 1 + 1, 0, none⟩ = some (.bool false) := by rw [hc2 _ _ z3, hc1 _ _ (by simp)]; simp [go_sem]
  have q1 : w2.cell? ⟨w.heap.size + 1 + 1, 1, none⟩ = some (.slice none 0 0) := by rw [hc2 _ _ z3, hc1 _ _ (by simp)]; simp [go_sem]
  have hbx := hb0.trans (hb1.mono (by simp <;> omega))
  obtain ⟨r0, r1, _⟩ := two_set (.bool neg2) (.slice p2 n2 c2) q0 q1
  refine bodyPost_ret (v := .agg #[.bool neg2, .slice p2 n2 c2]) (by simp [results, Try.results98, go_sem, r0, r1]) rfl ⟨neg2, p2, n2, c2, xs2, rfl, { rd := (hx3.rd.setOther q0 (by intro x e; cases e) _).setOther (two_set (.bool neg2) (.slice p2 n2 c2) q0 q1).2.2 (by intro x e; cases e) _, cap := hx3.cap, cn := hx3.cn, pos := hx3.pos, val := ?_ }, by omega, ((hbx.trans (hb2.mono (by omega))).setCell (by simp <;> omega) _).setCell (by simp <;> omega) _⟩
  rw [← hx3.val]; omega

end Go.Proofs.Ythdhakpmhndbfaa

namespace Go.Proofs.Ythdhakpmhndbfaa
open Go.RowKit

/-- i digits of x are done. -/
def RMulOut (xs ys zs : List Nat) (i : Nat) : Prop :=
  zs.length = xs.length + ys.length ∧ Dg BR zs ∧ dv BR zs = dv BR (xs.take i) * dv BR ys ∧ ∀ t, i + ys.length ≤ t → zs[t]?.getD 0 = 0

/-- Digit i of x, j places of y. -/
def RMulIn (xs ys z0 zs : List Nat) (i j c : Nat) : Prop :=
  zs.length = xs.length + ys.length ∧ Dg BR zs ∧ c < BR ∧ dv BR zs + BR ^ (i + j) * c = dv BR z0 + BR ^ i * (xs[i]?.getD 0 * dv BR (ys.take j)) ∧ (∀ t, i + 1 + ys.length ≤ t → zs[t]?.getD 0 = 0) ∧ (j ≤ ys.length → zs[i + ys.length]?.getD 0 = 0) ∧ (ys.length < j → c = 0)

theorem RMulIn.start {xs ys zs : List Nat} {i : Nat} (h : RMulOut xs ys zs i) : RMulIn xs ys zs zs i 0 0 :=
  ⟨h.1, h.2.1, by decide, by simp [dv], fun t ht => h.2.2.2 t (by omega), fun _ => h.2.2.2 _ (Nat.le_refl _), fun h => by omega⟩

theorem RMulIn.step {xs ys z0 zs : List Nat} {i j c s : Nat} (h : RMulIn xs ys z0 zs i j c) (hi : i < xs.length) (hj : j ≤ ys.length) (gx : Dg BR xs) (gy : Dg BR ys) (hs : c + zs[i + j]?.getD 0 + xs[i]?.getD 0 * ys[j]?.getD 0 = s) :
    RMulIn xs ys z0 (zs.set (i + j) (s % 10000)) i (j + 1) (s / 10000) := by
  obtain ⟨h1, h2, h3, h4, h5, h6, h7⟩ := h
  have hs' : c + (xs[i]?.getD 0 * ys[j]?.getD 0 + zs[i + j]?.getD 0) = s := by omega
  have hz := h6 hj
  refine ⟨by simp [h1], h2.set _ (Nat.mod_lt _ (by decide)), ?_, ?_, ?_, ?_, ?_⟩
  · rw [← hs']
    show _ / BR < BR
    rw [Nat.div_lt_iff_lt_mul (by decide)]
    exact mul_fits (by decide) h3 (gx.get (by decide) i) (gy.get (by decide) j) (h2.get (by decide) (i + j))
  · have g := mul_place (b := BR) (zs := zs) (at_ := i + j) (x := xs[i]?.getD 0) (w := ys[j]?.getD 0) (c := c) (by omega) rfl
    rw [hs'] at g
    have g' : dv BR (zs.set (i + j) (s % 10000)) + BR ^ (i + (j + 1)) * (s / 10000) = _ := g
    rw [g', h4, dv_take_succ, Nat.mul_add, Nat.mul_add, Nat.pow_add]
    grind
  · intro t ht
    rw [set_get_other _ _ _ _ (by omega)]; exact h5 t ht
  · intro hj'
    rw [set_get_other _ _ _ _ (by omega)]; exact hz
  · intro hj'
    have e : j = ys.length := by omega
    rw [e, hz, List.getElem?_eq_none (Nat.le_refl _)] at hs
    simp at hs
    have : BR = 10000 := rfl
    omega

theorem RMulIn.finish {xs ys z0 zs : List Nat} {i j : Nat} (h : RMulIn xs ys z0 zs i j 0) (h0 : RMulOut xs ys z0 i) (hj : ys.length ≤ j) : RMulOut xs ys zs (i + 1) := by
  obtain ⟨h1, h2, h3, h4, h5, h6, h7⟩ := h
  refine ⟨h1, h2, ?_, h5⟩
  rw [Nat.mul_zero, Nat.add_zero, List.take_of_length_le hj, h0.2.2.1] at h4
  rw [h4, dv_take_succ, Nat.add_mul, Nat.mul_assoc]

/-- make([]int, n) -/
theorem mkInts (n : Nat) (hn : n ≤ 35184372088832) (w : World) :
    (Instr.makeSlice 80 (.int .i64 (n : Int)) (.int .i64 (n : Int))).run Try.prog w = .ok (.slice (some ⟨w.heap.size, 0, none⟩) n n) (w.alloc (.cells (Go.madeCells #[.int .i64 0] n) 3)) :=
  run_make_row' _ _ (.int .i64 0) 8 Try.underlying80 Try.info3 rfl .i64 .i64 n (by omega) (by omega) w

set_option maxRecDepth 100000 in
set_option maxHeartbeats 4000000 in
theorem rmul_any (a b : Bool) (p q : Option Addr) (n c m d : Nat) (xs ys : List Nat) (x y : Int) (w : World) (hn : n ≤ 100000000) (hm : m ≤ 100000000) (hx : RIs w a p n c xs x) (hy : RIs w b q m d ys y) :
    Calls Try.prog 84 #[.agg #[.bool a, .slice p n c], .agg #[.bool b, .slice q m d]] w (RV w (x * y) (n + m)) := by
  have hb0 : Below w.heap.size w (((w.alloc (.cells #[.bool a, .slice p n c] 82)).alloc (.cells #[.bool b, .slice q m d] 82)).alloc (.cells #[.bool false, .slice none 0 0] 82)) := (((Below.refl _ w).alloc (Nat.le_refl _) _).alloc (by simp) _).alloc (by rw [World.size_alloc, World.size_alloc]; omega) _
  have b0 : Boxed2 (((w.alloc (.cells #[.bool a, .slice p n c] 82)).alloc (.cells #[.bool b, .slice q m d] 82)).alloc (.cells #[.bool false, .slice none 0 0] 82)) w.heap.size (.bool a) (.slice p n c) 82 := ((Boxed2.new w _ _ _).alloc _).alloc _
  have b1 : Boxed2 (((w.alloc (.cells #[.bool a, .slice p n c] 82)).alloc (.cells #[.bool b, .slice q m d] 82)).alloc (.cells #[.bool false, .slice none 0 0] 82)) (w.heap.size + 1) (.bool b) (.slice q m d) 82 := by
    have := Boxed2.new (w.alloc (.cells #[.bool a, .slice p n c] 82)) (.bool b) (.slice q m d) 82
    rw [World.size_alloc] at this
    exact this.alloc _
  have b2 : Boxed2 (((w.alloc (.cells #[.bool a, .slice p n c] 82)).alloc (.cells #[.bool b, .slice q m d] 82)).alloc (.cells #[.bool false, .slice none 0 0] 82)) (w.heap.size + 1 + 1) (.bool false) (.slice none 0 0) 82 := by
    have := Boxed2.new ((w.alloc (.cells #[.bool a, .slice p n c] 82)).alloc (.cells #[.bool b, .slice q m d] 82)) (.bool false) (.slice none 0 0) 82
    rwa [World.size_alloc, World.size_alloc] at this
  have HX := Lib.hid hx
  have HY := Lib.hid hy
  have hown0 := Own.new .i64 3 (((w.alloc (.cells #[.bool a, .slice p n c] 82)).alloc (.cells #[.bool b, .slice q m d] 82)).alloc (.cells #[.bool false, .slice none 0 0] 82)) (n + m)
  have hsz0 : (((w.alloc (.cells #[.bool a, .slice p n c] 82)).alloc (.cells #[.bool b, .slice q m d] 82)).alloc (.cells #[.bool false, .slice none 0 0] 82)).heap.size = w.heap.size + 1 + 1 + 1 := by simp
  have hmk := mkInts (n + m) (by omega) (((w.alloc (.cells #[.bool a, .slice p n c] 82)).alloc (.cells #[.bool b, .slice q m d] 82)).alloc (.cells #[.bool false, .slice none 0 0] 82))
  rw [hsz0] at hown0 hmk
  have ec : ((n + m : Nat) : Int) = (n : Int) + (m : Int) := by omega
  rw [ec] at hmk
  have hbM : Below (w.heap.size + 1 + 1 + 1) (((w.alloc (.cells #[.bool a, .slice p n c] 82)).alloc (.cells #[.bool b, .slice q m d] 82)).alloc (.cells #[.bool false, .slice none 0 0] 82)) ((((w.alloc (.cells #[.bool a, .slice p n c] 82)).alloc (.cells #[.bool b, .slice q m d] 82)).alloc (.cells #[.bool false, .slice none 0 0] 82)).alloc (.cells (Go.madeCells #[.int .i64 0] (n + m)) 3)) := (Below.refl _ _).alloc (by rw [hsz0]; omega) _
  have hszM : w.heap.size + 1 + 1 + 1 < ((((w.alloc (.cells #[.bool a, .slice p n c] 82)).alloc (.cells #[.bool b, .slice q m d] 82)).alloc (.cells #[.bool false, .slice none 0 0] 82)).alloc (.cells (Go.madeCells #[.int .i64 0] (n + m)) 3)).heap.size := by rw [World.size_alloc, hsz0]; omega
  have HB0 := Lib.hid b0
  have HB1 := Lib.hid b1
  have HB2 := Lib.hid b2
  have HBW := Lib.hid hb0
  have HOW0 := Lib.hid hown0
  clear hx hy hown0 ec
  go_enter Try.func84, Try.ntmps84
  go_wp2_with fail
  generalize hwM : ((((w.alloc (.cells #[.bool a, .slice p n c] 82)).alloc (.cells #[.bool b, .slice q m d] 82)).alloc (.cells #[.bool false, .slice none 0 0] 82)).alloc (.cells (Go.madeCells #[.int .i64 0] (n + m)) 3)) = wM at *
  generalize hwZ : (((w.alloc (.cells #[.bool a, .slice p n c] 82)).alloc (.cells #[.bool b, .slice q m d] 82)).alloc (.cells #[.bool false, .slice none 0 0] 82)) = w1 at *
  clear b0 b1 b2 hb0 hsz0 hmk hwM hwZ
  go_loopg [6] n (fun gk v6 wr => ∃ (i : Nat) (zs : List Nat), i ≤ n ∧ gk = n - i ∧ v6 = .int .i64 (i : Int) ∧ Hid (RMulOut xs ys zs i) ∧ Hid (Own .i64 3 wr (w.heap.size + 1 + 1 + 1) zs) ∧ w.heap.size + 1 + 1 + 1 < wr.heap.size ∧ Below (w.heap.size + 1 + 1 + 1) w1 wr)
  case atStart => exact ⟨0, _, Nat.zero_le _, rfl, rfl, ⟨by simp [HX.out.rd.1, HY.out.rd.1], Dg.replicate (by decide) _, by rw [dv_replicate]; simp [dv], fun t _ => by rw [List.getElem?_replicate]; split <;> rfl⟩, HOW0.out, hszM, hbM⟩
  case round =>
    obtain ⟨i, z0, hi, hgk, rfl, HO, HOWN, hsz, hb⟩ := hrel
    have HGK := Lib.hid hgk
    have bb0 := HB0.out.below hb (by omega)
    have bb1 := HB1.out.below hb (by omega)
    have k0 := bb0.cell0
    have k1 := bb0.cell1
    have k2 := bb1.cell0
    have k3 := bb1.cell1
    clear hgk
    by_cases hlt : i < n
    · have hil : (i : Int) < (n : Int) := by omega
      go_wp2_with fail
      obtain ⟨wo, hwo⟩ : ∃ wo : World, wo = wr := ⟨_, rfl⟩
      go_loopg [7, 8] (m + 1) (fun gk v7 v8 wi => ∃ (j cy : Nat) (zs : List Nat), j ≤ m + 1 ∧ gk = m + 1 - j ∧ v8 = .int .i64 (j : Int) ∧ v7 = .int .i64 (cy : Int) ∧ Hid (RMulIn xs ys z0 zs i j cy) ∧ Hid (Own .i64 3 wi (w.heap.size + 1 + 1 + 1) zs) ∧ w.heap.size + 1 + 1 + 1 < wi.heap.size ∧ Below (w.heap.size + 1 + 1 + 1) w1 wi)
      case atStart => exact ⟨0, 0, z0, by omega, rfl, rfl, rfl, RMulIn.start HO.out, HOWN.out, hsz, hb⟩
      case round =>
        clear bb0 bb1 k0 k1 k2 k3 hwo
        obtain ⟨j, cy, zs, hj, hgk, rfl, rfl, HI, HOWI, hsz2, hb2⟩ := hrel
        have HGK2 := Lib.hid hgk
        clear hgk
        have bb0 := HB0.out.below hb2 (by omega)
        have bb1 := HB1.out.below hb2 (by omega)
        have k0 := bb0.cell0
        have k1 := bb0.cell1
        have k2 := bb1.cell0
        have k3 := bb1.cell1
        have hcy : cy < 10000 := HI.out.2.2.1
        have hrx : Rd .i64 wr p n xs := HX.out.rd.below (HBW.out.trans (hb2.mono (by omega)))
        have hry : Rd .i64 wr q m ys := HY.out.rd.below (HBW.out.trans (hb2.mono (by omega)))
        by_cases hgo : j < m ∨ 0 < cy
        · have hjm : j ≤ m := by
            rcases Nat.lt_or_ge m j with h | h
            · have := HI.out.2.2.2.2.2.2 (by rw [HY.out.rd.1]; exact h); omega
            · exact h
          have hdx : xs[i]?.getD 0 < 10000 := HX.out.cn.1.get (by decide) i
          have hdy : ys[j]?.getD 0 < 10000 := HY.out.cn.1.get (by decide) j
          have hdz : zs[i + j]?.getD 0 < 10000 := HI.out.2.1.get (by decide) _
          have hzl : i + j < zs.length := by rw [HI.out.1, HX.out.rd.1, HY.out.rd.1]; omega
          have HQ := Lib.hid (fun k => digit_same q m d j ys (wr.drewN k) (by omega) (hry.drewN k))
          obtain ⟨bb, off, rfl, hbb, hcell⟩ := hrx.2 i hlt
          have hcz := HOWI.out.cell (i + j) hzl
          have HFR := Lib.hid (HOWI.out.frozen (i + j))
          have hset := fun v => HOWI.out.set (i + j) v
          have hst := HI.out.step (s := cy + zs[i + j]?.getD 0 + xs[i]?.getD 0 * ys[j]?.getD 0) (by rw [HX.out.rd.1]; exact hlt) (by rw [HY.out.rd.1]; exact hjm) HX.out.cn.1 HY.out.cn.1 rfl
          generalize xs[i]?.getD 0 = dx at hdx hst hcell
          generalize ys[j]?.getD 0 = dy at hdy HQ hst
          generalize zs[i + j]?.getD 0 = dz at hdz hst hcz
          have HCI := Lib.hid hcz
          obtain ⟨s1, hs1⟩ : ∃ s1, cy + dz = s1 := ⟨_, rfl⟩
          obtain ⟨m1, hm1⟩ : ∃ m1, dx * dy = m1 := ⟨_, rfl⟩
          have hm1b : m1 ≤ 9999 * 9999 := by rw [← hm1]; exact Nat.mul_le_mul (by omega) (by omega)
          have hmI : (dx : Int) * (dy : Int) = (m1 : Int) := by rw [← hm1]; simp
          obtain ⟨s2, hs2⟩ : ∃ s2, s1 + m1 = s2 := ⟨_, rfl⟩
          obtain ⟨at2, hat⟩ : ∃ at2, i + j = at2 := ⟨_, rfl⟩
          have hw1 : IntKind.i64.wrap ((cy : Int) + (dz : Int)) = (s1 : Int) := by rw [IntWalk.i64_in _ (by omega)]; omega
          have hw2 : IntKind.i64.wrap ((dx : Int) * (dy : Int)) = (m1 : Int) := by rw [hmI, IntWalk.i64_in _ (by omega)]
          have hw3 : IntKind.i64.wrap ((s1 : Int) + (m1 : Int)) = (s2 : Int) := by rw [IntWalk.i64_in _ (by omega)]; omega
          have hw4 : IntKind.i64.wrap ((i : Int) + (j : Int)) = (at2 : Int) := by rw [IntWalk.i64_in _ (by omega)]; omega
          have hij : (i : Int) + (j : Int) = (at2 : Int) := by omega
          have HIJ := Lib.hid hij
          have hatl : at2 < n + m := by omega
          have hs2b : s2 < 200000000 := by omega
          rw [hs1, hm1, hs2, hat] at hst
          rw [hat] at hcz hset HFR HCI
          have HD := Lib.hid (show (s2 : Int) / 10000 = ((s2 / 10000 : Nat) : Int) by omega)
          have HM := Lib.hid (show (s2 : Int) % 10000 = ((s2 % 10000 : Nat) : Int) by omega)
          have HST := Lib.hid hst
          generalize s2 / 10000 = q2 at HD HST
          have HOW := Lib.hid (hset (s2 % 10000))
          generalize s2 % 10000 = r2 at HM HST HOW
          clear hs1 hm1 hs2 hat hst hset hmI hij
          have hways : (j < m) ∨ (¬ j < m ∧ (0 : Int) < (cy : Int)) := by omega
          clear hgo
          rcases hways with h1 | ⟨h1, h2⟩
          · go_wp2_with fail
            go_quiet ((go_at_call 105; (with_reducible exact Calls.quiet_of_same (HQ.out _))))
            clear hw1 hw2 hw3 hw4
            have hdiv := HD.out
            have hmod := HM.out
            have hij := HIJ.out
            have hci := HCI.out
            have hfr := HFR.out
            go_wp2_with fail
            go_roundg (m + 1 - (j + 1))
            case measure => rw [HGK2.out]; omega
            case rel => exact ⟨j + 1, q2, _, by omega, rfl, by go_num, rfl, HST.out, HOW.out, by simpa using hsz2, (hb2.trans (drewN_below _ _ _)).setCell (by simp <;> omega) _⟩
          · go_wp2_with fail
            go_quiet ((go_at_call 105; (with_reducible exact Calls.quiet_of_same (HQ.out _))))
            clear hw1 hw2 hw3 hw4
            have hdiv := HD.out
            have hmod := HM.out
            have hij := HIJ.out
            have hci := HCI.out
            have hfr := HFR.out
            go_wp2_with fail
            go_roundg (m + 1 - (j + 1))
            case measure => rw [HGK2.out]; omega
            case rel => exact ⟨j + 1, q2, _, by omega, rfl, by go_num, rfl, HST.out, HOW.out, by simpa using hsz2, (hb2.trans (drewN_below _ _ _)).setCell (by simp <;> omega) _⟩
        · have h1 : ¬ j < m := fun h => hgo (.inl h)
          obtain rfl : cy = 0 := by
            rcases Nat.eq_zero_or_pos cy with h | h
            · exact h
            · exact absurd (.inr h) hgo
          have HF := Lib.hid (HI.out.finish HO.out (by rw [HY.out.rd.1]; omega))
          clear hgo
          go_wp2_with fail
          go_roundg (n - (i + 1))
          case measure => rw [HGK.out]; omega
          case rel => exact ⟨i + 1, zs, by omega, rfl, by go_num, HF.out, HOWI.out, hsz2, hb2⟩
    · obtain rfl : i = n := by omega
      have hbb2 := HB2.out.below hb (by omega)
      have hbw := HBW.out.trans (hb.mono (by omega))
      have hrd : Rd .i64 wr (some ⟨w.heap.size + 1 + 1 + 1, 0, none⟩) (i + m) z0 := HOWN.out.rd (by rw [HO.out.1, HX.out.rd.1, HY.out.rd.1])
      have HDG := Lib.hid HO.out.2.1
      have HV : Hid (dv BR z0 = dv BR xs * dv BR ys) := by
        have := HO.out.2.2.1
        rw [List.take_of_length_le (by rw [HX.out.rd.1]; exact Nat.le_refl _)] at this
        exact this
      have hbne : ∀ (r : Bool), r = (a != b) → True := fun _ _ => trivial
      go_wp2_with (go_at_call 75; refine (rnumber_any _ _ _ _ z0 _ (by unfold maxLen; omega) (Nat.le_refl _) hrd HDG.out).mono ?_; rintro e w2 ⟨neg2, p2, n2, c2, xs2, rfl, hx2, hn2, hb2⟩; have b22 := hbb2.below hb2 hbb2.lt; have c20 := b22.cell0; have c21 := b22.cell1; have q20 := b22.frozen (i := 0); have q21 := b22.frozen (i := 1))
      have b3 := b22.set (.bool neg2) (.slice p2 n2 c2)
      have z0' := b3.cell0
      have z1' := b3.cell1
      refine bodyPost_ret (v := .agg #[.bool neg2, .slice p2 n2 c2]) (by simp [results, Try.results84, go_sem, z0', z1']) rfl ⟨neg2, p2, n2, c2, xs2, rfl, { rd := (hx2.rd.boxI b22 _).boxI (b22.set0 _) _, cap := hx2.cap, cn := hx2.cn, pos := hx2.pos, val := ?_ }, hn2, ((hbw.trans (hb2.mono hbw.size)).setCell (by simp <;> omega) _).setCell (by simp <;> omega) _⟩
      rw [← hx2.val, HV.out, HX.out.val, HY.out.val]
      cases a <;> cases b <;> simp [sv, Int.neg_mul, Int.mul_neg]

end Go.Proofs.Ythdhakpmhndbfaa

namespace Go.Proofs.Ythdhakpmhndbfaa
open Go.RowKit

theorem len_le {w w' : World} {p q : Option Addr} {n m : Nat} {ys rs : List Nat} (hy : Rd .u64 w p n ys) (hr : Rd .u64 w' q m rs) (gr : Cn BW rs) (gy : Cn BW ys) (h : dv BW rs < dv BW ys) : m ≤ n := by
  rcases Nat.lt_or_ge n m with hlt | hge
  · have := Cn.lt_of_length (b := BW) (by decide) gy.1 gr (by rw [hy.1, hr.1]; exact hlt)
    omega
  · exact hge

end Go.Proofs.Ythdhakpmhndbfaa

namespace Go.Proofs.Ythdhakpmhndbfaa
open Go.RowKit

theorem GrNum.form {w : World} {base : Nat} {v : Value} {row : List Int} {K n : Nat} (h : GrNum w base v row K) (hn : row.length = n) : ∃ p c, v = .slice p n c := by
  obtain ⟨p, c, e, _⟩ := h.rd
  rw [hn] at e
  exact ⟨p, c, e⟩
theorem GrMN.form {w : World} {base : Nat} {v : Value} {M : List (List Int)} {K n : Nat} (h : GrMN w base v M K) (hn : M.length = n) : ∃ p c, v = .slice p n c := by
  obtain ⟨p, c, e, _⟩ := h.rd
  rw [hn] at e
  exact ⟨p, c, e⟩

end Go.Proofs.Ythdhakpmhndbfaa

namespace Go.Proofs.Ythdhakpmhndbfaa
open Go.RowKit Go.Maps

/-- Elements are read as they are. -/
def anyR (v : Value) : Option (DataW Value × List MemPlace) := some (.held v, [])

def ulit (k : Nat) : Lit := .int .u64 (k : Int)
/-- Block b holds the map g, of at most n entries. -/
def MapIs (w : World) (b n : Nat) (g : Nat → Option Value) : Prop :=
  ∃ D : DataW Value, w.ownsMap Try.prog 110 anyR b n D ∧ IsMap D ∧ ∀ k, Maps.has D (ulit k) = (g k).isSome ∧ (∀ v, g k = some v → ∀ z, D.atKey (ulit k) z = .held v) ∧ (g k = none → ∀ z, D.atKey (ulit k) z = z)

theorem MapIs.made (w : World) : MapIs (w.alloc (.map #[] 0)) w.heap.size 0 (fun _ => none) :=
  ⟨.map [], World.ownsMap_made w _ _ _, (World.ownsMap_made w Try.prog 110 anyR).isMap, fun k => ⟨rfl, fun v h => (by simp at h), fun _ z => rfl⟩⟩

theorem MapIs.kept {w w' : World} {b n : Nat} {g : Nat → Option Value} {row : Option Nat} (h : MapIs w b n g) (hg : w.grownBy w' row) (hne : some b ≠ row) : MapIs w' b n g := by
  obtain ⟨D, h1, h2⟩ := h
  exact ⟨D, h1.kept hg hne, h2⟩

end Go.Proofs.Ythdhakpmhndbfaa

namespace Go.Proofs.Ythdhakpmhndbfaa

/-- An element of a row. -/
def ent (xs : List Int) (c : Nat) : Int := xs[c]?.getD 0

theorem ent_at {xs : List Int} {j : Nat} (h : j < xs.length) : ent xs j = xs[j] := by unfold ent; rw [List.getElem?_eq_getElem h]; rfl

/-- Along a row, the first j columns: the total, and whether the next term is turned. -/
def colS (xs : List Int) (f : Nat → Int) (u : Nat) : Nat → Int × Bool
  | 0 => (0, false)
  | j + 1 => if u.testBit j then colS xs f u j else ((colS xs f u j).1 + (if (colS xs f u j).2 then -(ent xs j * f j) else ent xs j * f j), !(colS xs f u j).2)

/-- The minor of the last k of n rows, without the columns of u. -/
def minorD (M : List (List Int)) (n : Nat) : Nat → Nat → Int
  | 0, _ => 1
  | k + 1, u => (colS ((M[n - (k + 1)]?).getD []) (fun c => minorD M n k (u ||| 2 ^ c)) u n).1

/-- How many of the first n columns are used. -/
def pop : Nat → Nat → Nat
  | 0, _ => 0
  | n + 1, u => pop n u + (if u.testBit n then 1 else 0)

/-- How long minors get, and how many are kept. -/
def detL (k : Nat) : Nat := 1 + k * 240
end Go.Proofs.Ythdhakpmhndbfaa

namespace Go.Proofs.Ythdhakpmhndbfaa
open Go.RowKit Go.Maps

/-- Block b holds a map. -/
def MapAt (w : World) (b : Nat) : Prop := ∃ es clock, w.heap[b]? = some (.map es clock)

theorem MapIs.at {w : World} {b n : Nat} {g : Nat → Option Value} (h : MapIs w b n g) : MapAt w b := by
  obtain ⟨D, ⟨es, clock, h1, _⟩, _⟩ := h
  exact ⟨es, clock, h1⟩

theorem MapAt.ne {w : World} {b : Nat} (h : MapAt w b) {a : Addr} {v : Value} (hc : w.cell? a = some v) : a.block ≠ b := by
  obtain ⟨es, clock, h1⟩ := h
  intro e
  rw [← e] at h1
  simp [World.cell?, h1] at hc

theorem cell_grown {w w' : World} {b : Nat} (hm : MapAt w b) (hg : w.grownBy w' (some b)) {a : Addr} {v : Value} (hc : w.cell? a = some v) : w'.cell? a = some v :=
  hg.cell hc (fun e => hm.ne hc (Option.some.inj e))

theorem Rd.grown {k : IntKind} {w w' : World} {b : Nat} (hm : MapAt w b) (hg : w.grownBy w' (some b)) {p : Option Addr} {n : Nat} {xs : List Nat} (h : Rd k w p n xs) : Rd k w' p n xs := by
  refine ⟨h.1, fun i hi => ?_⟩
  obtain ⟨b', off, hp, hlt, hc⟩ := h.2 i hi
  exact ⟨b', off, hp, Nat.lt_of_lt_of_le hlt hg.size, cell_grown hm hg hc⟩

theorem NumIs.grown {w w' : World} {b : Nat} (hm : MapAt w b) (hg : w.grownBy w' (some b)) {neg : Bool} {p : Option Addr} {n c : Nat} {xs : List Nat} {z : Int} {L : Nat} (h : NumIs w neg p n c xs z L) : NumIs w' neg p n c xs z L :=
  { h with rd := h.rd.grown hm hg }

theorem Nums.grown {w w' : World} {b : Nat} (hm : MapAt w b) (hg : w.grownBy w' (some b)) {a : Option Addr} {zs : List Int} {L : Nat} (h : Nums w a zs L) : Nums w' a zs L := by
  intro i z hz
  obtain ⟨b', off, neg, p, n, c, xs, ha, hlt, h0, h1, hn⟩ := h i z hz
  exact ⟨b', off, neg, p, n, c, xs, ha, Nat.lt_of_lt_of_le hlt hg.size, cell_grown hm hg h0, cell_grown hm hg h1, hn.grown hm hg⟩

theorem MapIs.setOther {w : World} {b n : Nat} {g : Nat → Option Value} (h : MapIs w b n g) {C i : Nat} (hne : b ≠ C) (v : Value) : MapIs (w.setCell ⟨C, i, none⟩ v) b n g := by
  obtain ⟨D, h1, h2⟩ := h
  exact ⟨D, h1.setCell (a := ⟨C, i, none⟩) hne v, h2⟩
theorem MapIs.drew {w : World} {b n : Nat} {g : Nat → Option Value} (h : MapIs w b n g) : MapIs w.drew b n g := h
theorem MapIs.mono {w : World} {b n m : Nat} {g : Nat → Option Value} (h : MapIs w b n g) (hm : n ≤ m) : MapIs w b m g := by
  obtain ⟨D, h1, h2⟩ := h
  exact ⟨D, h1.mono hm, h2⟩

/-- Rows of numbers. -/
def RowsIs (w : World) (ra : Option Addr) (M : List (List Int)) (L : Nat) : Prop :=
  ∀ i row, M[i]? = some row → ∃ b off p c, ra = some ⟨b, off, none⟩ ∧ b < w.heap.size ∧ w.cell? ⟨b, off + i, none⟩ = some (.slice p row.length c) ∧ Nums w p row L

theorem RowsIs.grown {w w' : World} {b : Nat} (hm : MapAt w b) (hg : w.grownBy w' (some b)) {ra : Option Addr} {M : List (List Int)} {L : Nat} (h : RowsIs w ra M L) : RowsIs w' ra M L := by
  intro i row hi
  obtain ⟨b', off, p, c, ha, hlt, hc, hn⟩ := h i row hi
  exact ⟨b', off, p, c, ha, Nat.lt_of_lt_of_le hlt hg.size, cell_grown hm hg hc, hn.grown hm hg⟩

theorem RowsIs.below {w w' : World} (hb : Below w.heap.size w w') {ra : Option Addr} {M : List (List Int)} {L : Nat} (h : RowsIs w ra M L) : RowsIs w' ra M L := by
  intro i row hi
  obtain ⟨b', off, p, c, ha, hlt, hc, hn⟩ := h i row hi
  exact ⟨b', off, p, c, ha, Nat.lt_of_lt_of_le hlt hb.size, (hb.cell (p := ⟨b', _, none⟩) hlt).trans hc, hn.below hb⟩

/-- A minor that is kept. -/
def KeptIs (w : World) (M : List (List Int)) (n : Nat) (g : Nat → Option Value) : Prop :=
  ∀ u v, g u = some v → ∃ neg p m c xs, v = .agg #[.bool neg, .slice p m c] ∧ NumIs w neg p m c xs (minorD M n (n - pop n u) u) (detL (n - pop n u))

theorem KeptIs.grown {w w' : World} {b : Nat} (hm : MapAt w b) (hg : w.grownBy w' (some b)) {M : List (List Int)} {n : Nat} {g : Nat → Option Value} (h : KeptIs w M n g) : KeptIs w' M n g := by
  intro u v hu
  obtain ⟨neg, p, m, c, xs, e, hx⟩ := h u v hu
  exact ⟨neg, p, m, c, xs, e, hx.grown hm hg⟩

theorem MapAt.ne_cells {w : World} {b b' : Nat} (h : MapAt w b) {cs : Array Value} {t : TypeId} {f : Nat × Nat} (h' : w.heap[b']? = some (.cells cs t f)) : b' ≠ b := by
  obtain ⟨es, clock, h1⟩ := h
  rintro rfl
  rw [h'] at h1; cases h1

theorem NumIs.setNum {w : World} {neg : Bool} {p : Option Addr} {n c : Nat} {xs : List Nat} {z : Int} {L : Nat} (h : NumIs w neg p n c xs z L) {B : Nat} {a : Bool} {q : Option Addr} {k d : Nat} {t : TypeId} (hb : Boxed2 w B (.bool a) (.slice q k d) t) (i : Nat) (v : Value) : NumIs (w.setCell ⟨B, i, none⟩ v) neg p n c xs z L :=
  { h with rd := h.rd.box hb v }

theorem NumIs.set2 {w : World} {neg : Bool} {p : Option Addr} {n c : Nat} {xs : List Nat} {z : Int} {L : Nat} (h : NumIs w neg p n c xs z L) {B : Nat} {a : Bool} {q : Option Addr} {k d : Nat} {t : TypeId} (hb : Boxed2 w B (.bool a) (.slice q k d) t) (a' : Bool) (v : Value) :
    NumIs ((w.setCell ⟨B, 0, none⟩ (.bool a')).setCell ⟨B, 1, none⟩ v) neg p n c xs z L := (h.setNum hb 0 _).setNum (hb.set0 (.bool a')) 1 _

theorem Boxed2.grown {w w' : World} {b : Nat} (hm : MapAt w b) (hg : w.grownBy w' (some b)) {B : Nat} {x y : Value} {t : TypeId} (h : Boxed2 w B x y t) : Boxed2 w' B x y t := by
  unfold Boxed2 at *
  exact (hg.block B (Array.getElem?_eq_some_iff.1 h).1 (fun e => hm.ne_cells h (Option.some.inj e))).trans h

end Go.Proofs.Ythdhakpmhndbfaa

namespace Go.Proofs.Ythdhakpmhndbfaa

/-- Sums with signs that alternate. -/
def altS (xs : List Int) (f : Nat → Int) : Nat → Int
  | 0 => 0
  | c + 1 => altS xs f c + (if c % 2 = 1 then -(ent xs c * f c) else ent xs c * f c)

/-- A row without one place. -/
def cutAt (c : Nat) (xs : List Int) : List Int := xs.take c ++ xs.drop (c + 1)

/-- The determinant by the first row. -/
def detR : Nat → List (List Int) → Int
  | 0, _ => 1
  | k + 1, M => altS (M.headD []) (fun c => detR k (M.tail.map (cutAt c))) (k + 1)

end Go.Proofs.Ythdhakpmhndbfaa
