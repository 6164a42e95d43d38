/-
  Rows of rows: of strings, of the reference's numbers; how they grow.
-/
import Derived.Test.YtapfkinpdinbgaaDoorGrowS
namespace Go.Proofs.YtapfkinpdinbgaaDoor
open Go.RowKit

/-- A slice that the call has made; R holds of every cell of its block. -/
def OwnQ (w : World) (base : Nat) (e : TypeId) (size : Nat) (v : Value) (n : Nat) (xs : List Value) (R : Value → Prop) : Prop :=
  w.ownsRow base e size v n xs ∧ ∀ g cs, v.ownBlock = some g → w.heap[g]? = some (.cells cs e (0, 0)) → ∀ u, u ∈ cs.toList → R u

theorem OwnQ.nil (w : World) (base : Nat) (e : TypeId) (size : Nat) (R : Value → Prop) : OwnQ w base e size (.slice none 0 0) 0 [] R :=
  ⟨World.ownsRow_nil _ _ _ _, fun g cs h => by simp [Value.ownBlock] at h⟩

theorem OwnQ.below {w w' : World} {base : Nat} {e : TypeId} {size : Nat} {v : Value} {n : Nat} {xs : List Value} {R : Value → Prop} (h : OwnQ w base e size v n xs R) (hb : Below w.heap.size w w') : OwnQ w' base e size v n xs R := by
  refine ⟨own_below h.1 hb, fun g cs hg hc => ?_⟩
  have hlt := (h.1.lt g hg).2
  rw [hb.block g hlt] at hc
  exact h.2 g cs hg hc

/-- A block that holds a cell of another kind is another one. -/
theorem OwnQ.apart {w : World} {base : Nat} {e : TypeId} {size : Nat} {v : Value} {n : Nat} {xs : List Value} {R : Value → Prop} (h : OwnQ w base e size v n xs R) {b o : Nat} {u : Value} (hc : w.cell? ⟨b, o, none⟩ = some u) (hu : ¬ R u) : some b ≠ v.ownBlock := by
  intro hb
  have hb' := hb.symm
  rcases h.1.2 with ⟨rfl, _⟩ | ⟨g, cap, cur, rfl, _, hg, _⟩
  · simp [Value.ownBlock] at hb
  · simp [Value.ownBlock] at hb
    subst hb
    refine hu (h.2 b cur hb' hg u ?_)
    simp only [World.cell?, hg] at hc
    exact List.mem_of_getElem? (by simpa using hc)

theorem OwnQ.keep {w w' : World} {base : Nat} {e : TypeId} {size : Nat} {v : Value} {n : Nat} {xs : List Value} {R : Value → Prop} (h : OwnQ w base e size v n xs R) (hg : w.grownBy w' v.ownBlock) {b o : Nat} {u : Value} (hc : w.cell? ⟨b, o, none⟩ = some u) (hu : ¬ R u) {o' : Nat} {u' : Value} (hc' : w.cell? ⟨b, o', none⟩ = some u') : w'.cell? ⟨b, o', none⟩ = some u' :=
  hg.cell hc' (h.apart hc hu)

theorem OwnQ.base_below {w w' : World} {base : Nat} {e : TypeId} {size : Nat} {v : Value} {n : Nat} {xs : List Value} {R : Value → Prop} (h : OwnQ w base e size v n xs R) (hg : w.grownBy w' v.ownBlock) (hb : base ≤ w.heap.size) : Below base w w' :=
  ⟨hg.os, hg.tape, hg.output, hg.size, fun k hk => hg.block k (by omega) (fun e => by have := (h.1.lt k e.symm).1; omega)⟩

/-- Integers' rows are kept by an append onto a row without integers. -/
theorem OwnQ.rd {k : IntKind} {w w' : World} {base : Nat} {e : TypeId} {size : Nat} {v : Value} {n : Nat} {xs : List Value} {R : Value → Prop} (h : OwnQ w base e size v n xs R) (hR : ∀ q x, ¬ R (.int q x)) (hg : w.grownBy w' v.ownBlock) {p : Option Addr} {m : Nat} {ns : List Nat} (hr : Rd k w p m ns) : Rd k w' p m ns := by
  refine ⟨hr.1, fun j hj => ?_⟩
  obtain ⟨b, off, hp, hlt, hc⟩ := hr.2 j hj
  exact ⟨b, off, hp, Nat.lt_of_lt_of_le hlt hg.size, h.keep hg hc (hR _ _) hc⟩
theorem OwnQ.ris {w w' : World} {base : Nat} {e : TypeId} {size : Nat} {v : Value} {n : Nat} {xs : List Value} {R : Value → Prop} (h : OwnQ w base e size v n xs R) (hR : ∀ q x, ¬ R (.int q x)) (hg : w.grownBy w' v.ownBlock) {neg : Bool} {p : Option Addr} {m c : Nat} {ns : List Nat} {z : Int} (hr : RIs w neg p m c ns z) : RIs w' neg p m c ns z :=
  { hr with rd := h.rd hR hg hr.rd }
theorem OwnQ.rdL {w w' : World} {base : Nat} {e : TypeId} {size : Nat} {v : Value} {n : Nat} {xs : List Value} {R : Value → Prop} (h : OwnQ w base e size v n xs R) (hR : ∀ s, ¬ R (.string s)) (hg : w.grownBy w' v.ownBlock) {p : Option Addr} {row : List (List UInt8)} (hr : RdL w p row) : RdL w' p row := by
  intro i s hs
  obtain ⟨b, off, hp, hlt, hc⟩ := hr i s hs
  exact ⟨b, off, hp, Nat.lt_of_lt_of_le hlt hg.size, h.keep hg hc (hR _) hc⟩

section
variable {P : Program} (w : World)
/-- append onto such a row. -/
theorem run_append_q (base : Nat) (t ty e : TypeId) (i : TypeInfo) (z : Value) (size bytes : Nat) (ht : P.underlying t = some (.slice e)) (hi : P.info? e = some i) (hz : i.zero = some z)
    (hsize : i.size = size) (hby : i.bytes = bytes) (hzs : z.cells.size = size) (R : Value → Prop) (hzR : ∀ u, u ∈ z.cells.toList → R u)
    (v : Value) (n : Nat) (xs : List Value) (hq : OwnQ w base e size v n xs R)
    (a : Addr) (m c : Nat) (news : List Value) (hl : news.length = m * size) (hnews : ∀ j u, news[j]? = some u → w.cell? (a.add j) = some u) (h1 : ∀ u ∈ news, u.oneCell' = true) (hn : ∀ u ∈ news, R u)
    (h63 : n + m ≤ maxLen) (hbytes : (n + m) * bytes ≤ 140737488355328) (hbase : base ≤ w.heap.size) :
    ∃ v' w', (Builtin.append_ #[t, t] ty #[v, .slice (some a) m c]).run P w = .ok v' w' ∧ OwnQ w' base e size v' (n + m) (xs ++ news) R ∧ w.grownBy w' v.ownBlock := by
  subst hsize hby
  have hsmall : n + m ≤ 9223372036854775807 := by simp only [maxLen] at h63; omega
  obtain ⟨hown, hR⟩ := hq
  have hlen : (xs ++ news).length = (n + m) * i.size := by rw [List.length_append, hown.1, hl, Nat.add_mul]
  have hzero : ∀ k u, u ∈ (Builtin.zeroCells z.cells k).toList → R u := by
    intro k u hu
    unfold Builtin.zeroCells at hu
    simp only [Array.toList_map, Array.toList_range, List.mem_map, List.mem_range] at hu
    obtain ⟨j, hj, rfl⟩ := hu
    have hs : 0 < z.cells.size := by
      rcases Nat.eq_zero_or_pos z.cells.size with h | h
      · rw [h] at hj; simp at hj
      · exact h
    rw [getElem!_pos z.cells _ (Nat.mod_lt j hs)]
    exact hzR _ (by simp)
  have grown : ∀ (old : Nat), (∀ u ∈ xs, R u) → ∀ (row : Option Nat),
      OwnQ (w.drew.alloc (.cells (xs.toArray ++ news.toArray ++ Builtin.zeroCells z.cells (grownCap w (n + m) old e - (n + m))) e)) base e i.size (.slice (some ⟨w.heap.size, 0, none⟩) (n + m) (grownCap w (n + m) old e)) (n + m) (xs ++ news) R ∧
      w.grownBy (w.drew.alloc (.cells (xs.toArray ++ news.toArray ++ Builtin.zeroCells z.cells (grownCap w (n + m) old e - (n + m))) e)) row := by
    intro old hxR row
    have hge := grownCap_ge w (n + m) old e
    have hcm : grownCap w (n + m) old e ≤ maxLen := grownCap_le_maxLen w (n + m) old e h63
    refine ⟨⟨⟨hlen, .inr ⟨w.heap.size, _, _, rfl, hbase, heap_alloc_new w.drew _, hge, hcm, ?_, ?_⟩⟩, ?_⟩, ⟨rfl, rfl, rfl, by simp, fun k hk _ => heap_alloc_old w.drew _ hk⟩⟩
    · simp only [Array.size_append, List.size_toArray, size_zeroCells, hzs, hown.1, hl, ← Nat.add_mul]
      congr 1
      omega
    · simp only [Array.toList_append, List.append_assoc]
      rw [← List.append_assoc, ← hlen]
      exact List.take_left
    · intro g cs hg hc u hu
      simp [Value.ownBlock] at hg
      subst hg
      have hnew := heap_alloc_new w.drew (.cells (xs.toArray ++ news.toArray ++ Builtin.zeroCells z.cells (grownCap w (n + m) old e - (n + m))) e)
      have e1 : w.drew.heap.size = w.heap.size := rfl
      rw [e1] at hnew
      rw [hnew] at hc
      cases hc
      simp only [Array.toList_append, List.mem_append] at hu
      rcases hu with (hu | hu) | hu
      · exact hxR u hu
      · exact hn u hu
      · exact hzero _ u hu
  rcases hown.2 with ⟨rfl, rfl⟩ | ⟨g, cap, cur, rfl, hbg, hg, hnc, hcm, hcs, htake⟩
  · have hx : xs = [] := List.eq_nil_of_length_eq_zero (by simpa using hown.1)
    subst hx
    by_cases hm : m = 0
    · subst hm
      have hn0 : news = [] := List.eq_nil_of_length_eq_zero (by simpa using hl)
      subst hn0
      refine ⟨.slice none 0 0, w, ?_, OwnQ.nil _ _ _ _ _, ⟨rfl, rfl, rfl, Nat.le_refl _, fun _ _ _ => rfl⟩⟩
      simp [Builtin.append_, run_underlying ht, sizeOf, typeInfo, hi, Builtin.lenOf, Builtin.firstCells, loadCells, loadCellsFrom]
    · have hr := run_append_nil (P := P) w t ty e i z ht hi hz a m c news hl hnews (by omega) (by omega) (by have hb := hbytes; simp only [Nat.zero_add] at hb; omega)
      have hgr := grown 0 (by simp) (Value.ownBlock (.slice none 0 0))
      simp only [Nat.zero_add, List.nil_append, Array.empty_append] at hgr ⊢
      exact ⟨_, _, hr, hgr.1, hgr.2⟩
  · have hcur : ∀ u, u ∈ cur.toList → R u := hR g cur rfl hg
    by_cases hroom : n + m ≤ cap
    · have hfit : n * i.size + news.length ≤ cur.size := by rw [hl, hcs, ← Nat.add_mul]; exact Nat.mul_le_mul_right _ hroom
      have hr := run_append_room (P := P) w t ty e i ht hi g n cap cur hg a m c news hl hnews h1 hroom hfit
      refine ⟨_, _, hr, ⟨⟨hlen, .inr ⟨g, cap, _, rfl, hbg, setRow_heap w g cur _ e _ hg, hroom, hcm, ?_, ?_⟩⟩, ?_⟩, ⟨rfl, rfl, rfl, by simp, fun k _ hk => setRow_other w g k _ (fun e => hk (by simp [Value.ownBlock, e]))⟩⟩
      · simp only [List.size_toArray, List.length_append, List.length_take, List.length_drop, Array.length_toList]
        omega
      · rw [htake, ← hlen]
        exact List.take_left
      · intro g' cs hg' hc u hu
        simp [Value.ownBlock] at hg'
        subst hg'
        rw [setRow_heap w g cur _ e _ hg] at hc
        cases hc
        simp only [List.mem_append] at hu
        rcases hu with (hu | hu) | hu
        · exact hcur u (List.mem_of_mem_take hu)
        · exact hn u hu
        · exact hcur u (List.mem_of_mem_drop hu)
    · have holds : ∀ j u, xs[j]? = some u → w.cell? ((⟨g, 0, none⟩ : Addr).add j) = some u := hown.cells (g := g) rfl
      have hr := run_append_grow (P := P) w t ty e i z ht hi hz ⟨g, 0, none⟩ n cap xs hown.1 holds a m c news hl hnews (by omega) (by omega) (growslice_fits (by omega) hbytes)
      have hgr := grown cap (fun u hu => hcur u (by rw [← htake] at hu; exact List.mem_of_mem_take hu)) (Value.ownBlock (.slice (some ⟨g, 0, none⟩) n cap))
      exact ⟨_, _, hr, hgr.1, hgr.2⟩

variable {w}
theorem wpList_append_q {ops : Array Oper} {rest : List Oper} {o : Oper} {a : Act} {Q : Exit → Act → World → Prop} (hgd : o.guard = none) (s x : Operand) (t : TypeId)
    (ho : o.op = .call { callee := .builtin .append, args := #[s, x], argTypes := #[t, t] })
    (base : Nat) (e : TypeId) (i : TypeInfo) (z : Value) (size bytes : Nat) (ht : P.underlying t = some (.slice e)) (hi : P.info? e = some i) (hz : i.zero = some z)
    (hsize : i.size = size) (hby : i.bytes = bytes) (hzs : z.cells.size = size) (R : Value → Prop) (hzR : ∀ u, u ∈ z.cells.toList → R u)
    (v : Value) (n : Nat) (xs : List Value) (hs : a.eval s = v) (hq : OwnQ w base e size v n xs R)
    (ad : Addr) (m c : Nat) (news : List Value) (hx : a.eval x = .slice (some ad) m c) (hl : news.length = m * size) (hnews : ∀ j u, news[j]? = some u → w.cell? (ad.add j) = some u) (h1 : ∀ u ∈ news, u.oneCell' = true) (hn : ∀ u ∈ news, R u)
    (h63 : n + m ≤ maxLen) (hbytes : (n + m) * bytes ≤ 140737488355328) (hbase : base ≤ w.heap.size)
    (h : ∀ v' w', OwnQ w' base e size v' (n + m) (xs ++ news) R → w.grownBy w' v.ownBlock → wpList P ops Q rest (a.put o.dst v') w') :
    wpList P ops Q (o :: rest) a w := by
  refine wpList_plain hgd fun K hK => ?_
  obtain ⟨v', w', hr, h2, h3⟩ := run_append_q (P := P) w base t o.type e i z size bytes ht hi hz hsize hby hzs R hzR v n xs hq ad m c news hl hnews h1 hn h63 hbytes hbase
  unfold Oper.wp execOp
  simp only [ho, resolve, invoke, builtin, Sem.run_bind, Sem.run_pure, Result.andThen_ok, List.map_toArray, List.map_cons, List.map_nil, hs, hx, hr]
  exact hK _ _ (h v' w' h2 h3)
end

end Go.Proofs.YtapfkinpdinbgaaDoor

namespace Go.Proofs.YtapfkinpdinbgaaDoor
open Go.RowKit

/-- No integer, no string. -/
def NoInt (u : Value) : Prop := (∀ q x, u ≠ .int q x) ∧ ∀ s, u ≠ .string s
/-- A slice. -/
def OnlySl (u : Value) : Prop := ∃ p n c, u = .slice p n c
theorem NoInt.i (q : IntKind) (x : Int) : ¬ NoInt (.int q x) := fun h => h.1 q x rfl
theorem OnlySl.i (q : IntKind) (x : Int) : ¬ OnlySl (.int q x) := fun ⟨_, _, _, h⟩ => by cases h
theorem OnlySl.s (s : ByteArray) : ¬ OnlySl (.string s) := fun ⟨_, _, _, h⟩ => by cases h
theorem OnlySl.b (x : Bool) : ¬ OnlySl (.bool x) := fun ⟨_, _, _, h⟩ => by cases h
theorem OnlySl.mk (p : Option Addr) (n c : Nat) : OnlySl (.slice p n c) := ⟨p, n, c, rfl⟩
theorem NoInt.bool (x : Bool) : NoInt (.bool x) := And.intro (fun _ _ h => by cases h) (fun _ h => by cases h)
theorem NoInt.slice (p : Option Addr) (n c : Nat) : NoInt (.slice p n c) := And.intro (fun _ _ h => by cases h) (fun _ h => by cases h)

theorem Tryd.infoSS : (Tryd.prog.info? 50).map (fun i => (i.zero, i.size, i.bytes)) = some (some (.slice none 0 0), 1, 24) := by kernel_rfl
theorem Tryd.infoNN : (Tryd.prog.info? 97).map (fun i => (i.zero, i.size, i.bytes)) = some (some (.slice none 0 0), 1, 24) := by kernel_rfl
theorem Tryd.infoN : (Tryd.prog.info? 29).map (fun i => (i.zero, i.size, i.bytes)) = some (some (.agg #[.bool false, .slice none 0 0]), 2, 32) := by kernel_rfl

/-- Rows of strings at an address. -/
def RdLL (w : World) (a : Option Addr) (rows : List (List (List UInt8))) : Prop :=
  ∀ i row, rows[i]? = some row → ∃ b off q c, a = some ⟨b, off, none⟩ ∧ b < w.heap.size ∧ w.cell? ⟨b, off + i, none⟩ = some (.slice q row.length c) ∧ RdL w q row
theorem RdLL.below {w w' : World} {a : Option Addr} {rows : List (List (List UInt8))} (h : RdLL w a rows) (hb : Below w.heap.size w w') : RdLL w' a rows := by
  intro i row hi
  obtain ⟨b, off, q, c, ha, hlt, hc, hr⟩ := h i row hi
  exact ⟨b, off, q, c, ha, Nat.lt_of_lt_of_le hlt hb.size, (hb.cell (p := ⟨b, _, none⟩) hlt).trans hc, hr.below hb⟩

/-- Numbers at an address. -/
def NumsR (w : World) (a : Option Addr) (row : List Int) (K : Nat) : Prop :=
  ∀ k z, row[k]? = some z → ∃ b off neg q n c xs, a = some ⟨b, off, none⟩ ∧ b < w.heap.size ∧ w.cell? ⟨b, off + k * 2, none⟩ = some (.bool neg) ∧ w.cell? ⟨b, off + k * 2 + 1, none⟩ = some (.slice q n c) ∧ RIs w neg q n c xs z ∧ n ≤ K
theorem NumsR.below {w w' : World} {a : Option Addr} {row : List Int} {K : Nat} (h : NumsR w a row K) (hb : Below w.heap.size w w') : NumsR w' a row K := by
  intro k z hk
  obtain ⟨b, off, neg, q, n, c, xs, ha, hlt, h0, h1, hr, hn⟩ := h k z hk
  exact ⟨b, off, neg, q, n, c, xs, ha, Nat.lt_of_lt_of_le hlt hb.size, (hb.cell (p := ⟨b, _, none⟩) hlt).trans h0, (hb.cell (p := ⟨b, _, none⟩) hlt).trans h1, hr.below hb, hn⟩
theorem OwnQ.numsR {w w' : World} {base : Nat} {e : TypeId} {size : Nat} {v : Value} {n : Nat} {xs : List Value} (h : OwnQ w base e size v n xs OnlySl) (hg : w.grownBy w' v.ownBlock) {a : Option Addr} {row : List Int} {K : Nat} (hr : NumsR w a row K) : NumsR w' a row K := by
  intro k z hk
  obtain ⟨b, off, neg, q, n, c, xs, ha, hlt, h0, h1, hr, hn⟩ := hr k z hk
  exact ⟨b, off, neg, q, n, c, xs, ha, Nat.lt_of_lt_of_le hlt hg.size, h.keep hg h0 (OnlySl.b _) h0, h.keep hg h0 (OnlySl.b _) h1, h.ris OnlySl.i hg hr, hn⟩

/-- Rows of numbers at an address. -/
def RdMN (w : World) (a : Option Addr) (M : List (List Int)) (K : Nat) : Prop :=
  ∀ i row, M[i]? = some row → ∃ b off q c, a = some ⟨b, off, none⟩ ∧ b < w.heap.size ∧ w.cell? ⟨b, off + i, none⟩ = some (.slice q row.length c) ∧ row.length ≤ c ∧ NumsR w q row K
theorem RdMN.below {w w' : World} {a : Option Addr} {M : List (List Int)} {K : Nat} (h : RdMN w a M K) (hb : Below w.heap.size w w') : RdMN w' a M K := by
  intro i row hi
  obtain ⟨b, off, q, c, ha, hlt, hc, hl, hr⟩ := h i row hi
  exact ⟨b, off, q, c, ha, Nat.lt_of_lt_of_le hlt hb.size, (hb.cell (p := ⟨b, _, none⟩) hlt).trans hc, hl, hr.below hb⟩

/-- Rows of strings of the call's own. -/
def GrM (w : World) (base : Nat) (v : Value) (rows : List (List (List UInt8))) : Prop :=
  ∃ vs : List Value, OwnQ w base 50 1 v rows.length vs OnlySl ∧ ∀ (i : Nat) (row : List (List UInt8)), rows[i]? = some row → ∃ (q : Option Addr) (c : Nat), vs[i]? = some (Value.slice q row.length c) ∧ RdL w q row
theorem GrM.nil (w : World) (base : Nat) : GrM w base (.slice none 0 0) [] := ⟨[], OwnQ.nil _ _ _ _ _, fun i row h => by simp at h⟩
theorem GrM.below {w w' : World} {base : Nat} {v : Value} {rows : List (List (List UInt8))} (h : GrM w base v rows) (hb : Below w.heap.size w w') : GrM w' base v rows := by
  obtain ⟨vs, h1, h2⟩ := h
  exact ⟨vs, h1.below hb, fun i row hi => by obtain ⟨q, c, e, r⟩ := h2 i row hi; exact ⟨q, c, e, r.below hb⟩⟩

/-- What an own row of cells reads as. -/
theorem own_cells {w : World} {base : Nat} {e : TypeId} {size : Nat} {v : Value} {n : Nat} {xs : List Value} (h : w.ownsRow base e size v n xs) : ∃ p c, v = .slice p n c ∧ n ≤ c ∧ ∀ j u, xs[j]? = some u → ∃ g, p = some ⟨g, 0, none⟩ ∧ g < w.heap.size ∧ w.cell? ⟨g, j, none⟩ = some u := by
  rcases h.2 with ⟨rfl, rfl⟩ | ⟨g, cap, cur, rfl, hb, hg, hc, _, hs, ht⟩
  · refine ⟨none, 0, rfl, Nat.le_refl _, fun j u hj => ?_⟩
    have : xs = [] := List.eq_nil_of_length_eq_zero (by simpa using h.1)
    subst this; simp at hj
  · refine ⟨_, cap, rfl, hc, fun j u hj => ⟨g, rfl, (Array.getElem?_eq_some_iff.1 hg).1, ?_⟩⟩
    have hjl : j < n * size := by have := (List.getElem?_eq_some_iff.1 hj).1; rw [h.1] at this; exact this
    rw [← ht, List.getElem?_take_of_lt hjl] at hj
    simpa [World.cell?, hg] using hj

theorem GrM.rd {w : World} {base : Nat} {v : Value} {rows : List (List (List UInt8))} (h : GrM w base v rows) : ∃ p c, v = .slice p rows.length c ∧ rows.length ≤ c ∧ RdLL w p rows := by
  obtain ⟨vs, h1, h2⟩ := h
  obtain ⟨p, c, rfl, hc, hcell⟩ := own_cells h1.1
  refine ⟨p, c, rfl, hc, fun i row hi => ?_⟩
  obtain ⟨q, c', e, r⟩ := h2 i row hi
  obtain ⟨g, hp, hlt, hcc⟩ := hcell i _ e
  exact ⟨g, 0, q, c', hp, hlt, by rw [Nat.zero_add]; exact hcc, r⟩

theorem snoc_cases {α : Type} {l : List α} {x y : α} {i : Nat} (h : (l ++ [x])[i]? = some y) : (i < l.length ∧ l[i]? = some y) ∨ (i = l.length ∧ y = x) := by
  rcases Nat.lt_or_ge i l.length with hi | hi
  · left; rw [List.getElem?_append_left hi] at h; exact ⟨hi, h⟩
  · right
    rw [List.getElem?_append_right hi] at h
    have hl := (List.getElem?_eq_some_iff.1 h).1
    simp at hl
    have e : i = l.length := by omega
    subst e
    simp at h
    exact ⟨rfl, h.symm⟩

/-- append(rows, row), as the walk meets it. -/
theorem pushRow_law {ops : Array Oper} {Q : Exit → Act → World → Prop} {o : Oper} {rest : List Oper} {a : Act} {W : World} (hgd : o.guard = none) (s x : Operand)
    (ho : o.op = .call { callee := .builtin .append, args := #[s, x], argTypes := #[53, 53] }) {base : Nat} {v : Value} {rows : List (List (List UInt8))} (hs : a.eval s = v) (h : GrM W base v rows)
    {q : Option Addr} {n c : Nat} {row : List (List UInt8)} (hn : row.length = n) (hr : RdL W q row)
    (hx : a.eval x = .slice (some ⟨W.heap.size, 0, none⟩) 1 1) (hl : rows.length ≤ 1000000000) (hbase : base ≤ W.heap.size)
    (k : ∀ v' w', GrM w' base v' (rows ++ [row]) → Below base W w' → RdL w' q row → wpList Tryd.prog ops Q rest (a.put o.dst v') w') : wpList Tryd.prog ops Q (o :: rest) a (W.alloc (.cells #[.slice q n c] 50)) := by
  subst hn
  obtain ⟨i0, hi, hz0, hz1, hz2⟩ := info_parts Tryd.infoSS
  have hbA : Below W.heap.size W (W.alloc (.cells #[.slice q row.length c] 50)) := (Below.refl _ _).alloc (Nat.le_refl _) _
  obtain ⟨vs, h1, h2⟩ := h.below hbA
  have hvl : vs.length = rows.length := by have := h1.1.1; omega
  have hr' := hr.below hbA
  refine wpList_append_q hgd s x 53 ho base 50 i0 (.slice none 0 0) 1 24 Tryd.underlying53 hi hz0 hz1 hz2 rfl OnlySl (by intro u hu; simp [Value.cells] at hu; subst hu; exact OnlySl.mk _ _ _) v rows.length vs hs h1 ⟨W.heap.size, 0, none⟩ 1 1 [.slice q row.length c] hx rfl
    (by intro j u hj; match j, hj with | 0, hj => simp at hj; subst hj; simp [Addr.add, go_sem]) (by simp [Value.oneCell']) (by intro u hu; simp at hu; subst hu; exact OnlySl.mk _ _ _) (by unfold maxLen; omega) (by omega) (by rw [World.size_alloc]; omega) ?_
  intro v' w' h3 hg
  have hbb := h1.base_below hg (by rw [World.size_alloc]; omega)
  refine k v' w' ⟨vs ++ [.slice q row.length c], by rw [List.length_append]; exact h3, fun i r hi => ?_⟩ (((Below.refl _ _).alloc hbase _).trans hbb) (h1.rdL OnlySl.s hg hr')
  rcases snoc_cases hi with ⟨hlt, hi⟩ | ⟨rfl, rfl⟩
  · obtain ⟨q', c', e, r'⟩ := h2 i r hi
    exact ⟨q', c', by rw [List.getElem?_append_left (by omega)]; exact e, h1.rdL OnlySl.s hg r'⟩
  · exact ⟨q, c, by rw [List.getElem?_append_right (by omega), hvl, Nat.sub_self]; rfl, h1.rdL OnlySl.s hg hr'⟩

/-- A row of numbers of the call's own. -/
def GrNum (w : World) (base : Nat) (v : Value) (row : List Int) (K : Nat) : Prop :=
  ∃ cs : List Value, OwnQ w base 29 2 v row.length cs NoInt ∧ ∀ k z, row[k]? = some z → ∃ neg q n c xs, cs[k * 2]? = some (.bool neg) ∧ cs[k * 2 + 1]? = some (.slice q n c) ∧ RIs w neg q n c xs z ∧ n ≤ K
theorem GrNum.nil (w : World) (base K : Nat) : GrNum w base (.slice none 0 0) [] K := ⟨[], OwnQ.nil _ _ _ _ _, fun i z h => by simp at h⟩
theorem GrNum.below {w w' : World} {base : Nat} {v : Value} {row : List Int} {K : Nat} (h : GrNum w base v row K) (hb : Below w.heap.size w w') : GrNum w' base v row K := by
  obtain ⟨vs, h1, h2⟩ := h
  exact ⟨vs, h1.below hb, fun i z hi => by obtain ⟨neg, q, n, c, xs, e0, e1, r, hn⟩ := h2 i z hi; exact ⟨neg, q, n, c, xs, e0, e1, r.below hb, hn⟩⟩
theorem GrNum.rd {w : World} {base : Nat} {v : Value} {row : List Int} {K : Nat} (h : GrNum w base v row K) : ∃ p c, v = .slice p row.length c ∧ row.length ≤ c ∧ NumsR w p row K := by
  obtain ⟨cs, h1, h2⟩ := h
  obtain ⟨p, c, rfl, hc, hcell⟩ := own_cells h1.1
  refine ⟨p, c, rfl, hc, fun k z hk => ?_⟩
  obtain ⟨neg, q, n, c', xs, e0, e1, r, hn⟩ := h2 k z hk
  obtain ⟨g, hp, hlt, h0⟩ := hcell _ _ e0
  obtain ⟨g', hp', _, h1⟩ := hcell _ _ e1
  rw [hp] at hp'
  cases hp'
  exact ⟨g, 0, neg, q, n, c', xs, hp, hlt, by rw [Nat.zero_add]; exact h0, by rw [Nat.zero_add]; exact h1, r, hn⟩

/-- append(row, x), as the walk meets it. -/
theorem pushNum_law {ops : Array Oper} {Q : Exit → Act → World → Prop} {o : Oper} {rest : List Oper} {a : Act} {W : World} (hgd : o.guard = none) (s x : Operand)
    (ho : o.op = .call { callee := .builtin .append, args := #[s, x], argTypes := #[97, 97] }) {base : Nat} {v : Value} {row : List Int} {K : Nat} (hs : a.eval s = v) (h : GrNum W base v row K)
    {neg : Bool} {q : Option Addr} {n c : Nat} {xs : List Nat} {z : Int} (hr : RIs W neg q n c xs z) (hn : n ≤ K)
    (hx : a.eval x = .slice (some ⟨W.heap.size, 0, none⟩) 1 1) (hl : row.length ≤ 1000000000) (hbase : base ≤ W.heap.size)
    (k : ∀ v' w', GrNum w' base v' (row ++ [z]) K → Below base W w' → wpList Tryd.prog ops Q rest (a.put o.dst v') w') : wpList Tryd.prog ops Q (o :: rest) a (W.alloc (.cells #[.bool neg, .slice q n c] 29)) := by
  obtain ⟨i0, hi, hz0, hz1, hz2⟩ := info_parts Tryd.infoN
  have hbA : Below W.heap.size W (W.alloc (.cells #[.bool neg, .slice q n c] 29)) := (Below.refl _ _).alloc (Nat.le_refl _) _
  obtain ⟨cs, h1, h2⟩ := h.below hbA
  have hcl : cs.length = row.length * 2 := h1.1.1
  have hr' := hr.below hbA
  refine wpList_append_q hgd s x 97 ho base 29 i0 (.agg #[.bool false, .slice none 0 0]) 2 32 Tryd.underlying97 hi hz0 hz1 hz2 rfl NoInt (by intro u hu; simp [Value.cells] at hu; rcases hu with rfl | rfl; exact NoInt.bool _; exact NoInt.slice _ _ _) v row.length cs hs h1 ⟨W.heap.size, 0, none⟩ 1 1 [.bool neg, .slice q n c] hx rfl
    (by intro j u hj; match j, hj with | 0, hj => simp at hj; subst hj; simp [Addr.add, go_sem] | 1, hj => simp at hj; subst hj; simp [Addr.add, go_sem]) (by simp [Value.oneCell']) (by intro u hu; simp at hu; rcases hu with rfl | rfl; exact NoInt.bool _; exact NoInt.slice _ _ _) (by unfold maxLen; omega) (by omega) (by rw [World.size_alloc]; omega) ?_
  intro v' w' h3 hg
  have hbb := h1.base_below hg (by rw [World.size_alloc]; omega)
  refine k v' w' ⟨cs ++ [.bool neg, .slice q n c], by rw [List.length_append]; exact h3, fun i y hi => ?_⟩ (((Below.refl _ _).alloc hbase _).trans hbb)
  rcases snoc_cases hi with ⟨hlt, hi⟩ | ⟨rfl, rfl⟩
  · obtain ⟨neg', q', n', c', xs', e0, e1, r', hn'⟩ := h2 i y hi
    exact ⟨neg', q', n', c', xs', by rw [List.getElem?_append_left (by omega)]; exact e0, by rw [List.getElem?_append_left (by omega)]; exact e1, h1.ris NoInt.i hg r', hn'⟩
  · exact ⟨neg, q, n, c, xs, by rw [List.getElem?_append_right (by omega), hcl, Nat.sub_self]; rfl, by rw [List.getElem?_append_right (by omega), hcl, show row.length * 2 + 1 - row.length * 2 = 1 by omega]; rfl, h1.ris NoInt.i hg hr', hn⟩

/-- Rows of numbers of the call's own. -/
def GrMN (w : World) (base : Nat) (v : Value) (M : List (List Int)) (K : Nat) : Prop :=
  ∃ vs : List Value, OwnQ w base 97 1 v M.length vs OnlySl ∧ ∀ (i : Nat) (row : List Int), M[i]? = some row → ∃ (q : Option Addr) (c : Nat), vs[i]? = some (Value.slice q row.length c) ∧ row.length ≤ c ∧ NumsR w q row K
theorem GrMN.nil (w : World) (base K : Nat) : GrMN w base (.slice none 0 0) [] K := ⟨[], OwnQ.nil _ _ _ _ _, fun i row h => by simp at h⟩
theorem GrMN.below {w w' : World} {base : Nat} {v : Value} {M : List (List Int)} {K : Nat} (h : GrMN w base v M K) (hb : Below w.heap.size w w') : GrMN w' base v M K := by
  obtain ⟨vs, h1, h2⟩ := h
  exact ⟨vs, h1.below hb, fun i row hi => by obtain ⟨q, c, e, l, r⟩ := h2 i row hi; exact ⟨q, c, e, l, r.below hb⟩⟩
theorem GrMN.rd {w : World} {base : Nat} {v : Value} {M : List (List Int)} {K : Nat} (h : GrMN w base v M K) : ∃ p c, v = .slice p M.length c ∧ M.length ≤ c ∧ RdMN w p M K := by
  obtain ⟨vs, h1, h2⟩ := h
  obtain ⟨p, c, rfl, hc, hcell⟩ := own_cells h1.1
  refine ⟨p, c, rfl, hc, fun i row hi => ?_⟩
  obtain ⟨q, c', e, l, r⟩ := h2 i row hi
  obtain ⟨g, hp, hlt, hcc⟩ := hcell i _ e
  exact ⟨g, 0, q, c', hp, hlt, by rw [Nat.zero_add]; exact hcc, l, r⟩
theorem pushNRow_law {ops : Array Oper} {Q : Exit → Act → World → Prop} {o : Oper} {rest : List Oper} {a : Act} {W : World} (hgd : o.guard = none) (s x : Operand)
    (ho : o.op = .call { callee := .builtin .append, args := #[s, x], argTypes := #[56, 56] }) {base : Nat} {v : Value} {M : List (List Int)} {K : Nat} (hs : a.eval s = v) (h : GrMN W base v M K)
    {q : Option Addr} {n c : Nat} {row : List Int} (hn : row.length = n) (hc : n ≤ c) (hr : NumsR W q row K)
    (hx : a.eval x = .slice (some ⟨W.heap.size, 0, none⟩) 1 1) (hl : M.length ≤ 1000000000) (hbase : base ≤ W.heap.size)
    (k : ∀ v' w', GrMN w' base v' (M ++ [row]) K → Below base W w' → wpList Tryd.prog ops Q rest (a.put o.dst v') w') : wpList Tryd.prog ops Q (o :: rest) a (W.alloc (.cells #[.slice q n c] 97)) := by
  subst hn
  obtain ⟨i0, hi, hz0, hz1, hz2⟩ := info_parts Tryd.infoNN
  have hbA : Below W.heap.size W (W.alloc (.cells #[.slice q row.length c] 97)) := (Below.refl _ _).alloc (Nat.le_refl _) _
  obtain ⟨vs, h1, h2⟩ := h.below hbA
  have hvl : vs.length = M.length := by have := h1.1.1; omega
  have hr' := hr.below hbA
  refine wpList_append_q hgd s x 56 ho base 97 i0 (.slice none 0 0) 1 24 Tryd.underlying56 hi hz0 hz1 hz2 rfl OnlySl (by intro u hu; simp [Value.cells] at hu; subst hu; exact OnlySl.mk _ _ _) v M.length vs hs h1 ⟨W.heap.size, 0, none⟩ 1 1 [.slice q row.length c] hx rfl
    (by intro j u hj; match j, hj with | 0, hj => simp at hj; subst hj; simp [Addr.add, go_sem]) (by simp [Value.oneCell']) (by intro u hu; simp at hu; subst hu; exact OnlySl.mk _ _ _) (by unfold maxLen; omega) (by omega) (by rw [World.size_alloc]; omega) ?_
  intro v' w' h3 hg
  have hbb := h1.base_below hg (by rw [World.size_alloc]; omega)
  refine k v' w' ⟨vs ++ [.slice q row.length c], by rw [List.length_append]; exact h3, fun i r hi => ?_⟩ (((Below.refl _ _).alloc hbase _).trans hbb)
  rcases snoc_cases hi with ⟨hlt, hi⟩ | ⟨rfl, rfl⟩
  · obtain ⟨q', c', e, l, r'⟩ := h2 i r hi
    exact ⟨q', c', by rw [List.getElem?_append_left (by omega)]; exact e, l, h1.numsR hg r'⟩
  · exact ⟨q, c, by rw [List.getElem?_append_right (by omega), hvl, Nat.sub_self]; rfl, hc, h1.numsR hg hr'⟩

theorem snoc_ind {α : Type} {P : List α → Prop} (h0 : P []) (h1 : ∀ l x, P l → P (l ++ [x])) : ∀ l, P l := by
  intro l
  rw [← List.reverse_reverse l]
  induction l.reverse with
  | nil => exact h0
  | cons x t ih => rw [List.reverse_cons]; exact h1 _ _ ih

/-- The cells of numbers. -/
theorem seg_cells {W : World} {b off K : Nat} : ∀ seg : List Int, NumsR W (some ⟨b, off, none⟩) seg K → ∃ news : List Value, news.length = seg.length * 2 ∧ (∀ j u, news[j]? = some u → W.cell? ⟨b, off + j, none⟩ = some u) ∧ (∀ u ∈ news, NoInt u ∧ u.oneCell' = true) ∧
      ∀ i z, seg[i]? = some z → ∃ neg q n c xs, news[i * 2]? = some (.bool neg) ∧ news[i * 2 + 1]? = some (.slice q n c) ∧ RIs W neg q n c xs z ∧ n ≤ K := by
  refine snoc_ind ?_ ?_
  · intro _; exact ⟨[], rfl, fun j u h => by simp at h, fun u h => by simp at h, fun i z h => by simp at h⟩
  · intro seg z ih hr
    obtain ⟨news, n1, n2, n3, n4⟩ := ih (fun i y hi => hr i y (by rw [List.getElem?_append_left (List.getElem?_eq_some_iff.1 hi).1]; exact hi))
    obtain ⟨b', off', neg, q, n, c', xs, hp, hlt, e0, e1, r, hn⟩ := hr seg.length z (by simp)
    cases hp
    refine ⟨news ++ [.bool neg, .slice q n c'], by simp; omega, fun j u hj => ?_, fun u hu => ?_, fun i y hi => ?_⟩
    · rcases Nat.lt_or_ge j news.length with hj' | hj'
      · rw [List.getElem?_append_left hj'] at hj; exact n2 j u hj
      · rw [List.getElem?_append_right hj'] at hj
        obtain ⟨m, hm⟩ : ∃ m, j - news.length = m := ⟨_, rfl⟩
        rw [hm] at hj
        match m, hj, hm with
        | 0, hj, hm =>
          simp at hj; subst hj
          rw [show j = seg.length * 2 by omega]; exact e0
        | 1, hj, hm =>
          simp at hj; subst hj
          rw [show off + j = off + seg.length * 2 + 1 by omega]; exact e1
        | m + 2, hj, _ => simp at hj
    · rcases List.mem_append.1 hu with hu | hu
      · exact n3 u hu
      · simp at hu
        rcases hu with rfl | rfl
        · exact ⟨NoInt.bool _, rfl⟩
        · exact ⟨NoInt.slice _ _ _, rfl⟩
    · rcases snoc_cases hi with ⟨hlt', hi⟩ | ⟨rfl, rfl⟩
      · obtain ⟨neg', q', n', c'', xs', e0', e1', r', hn'⟩ := n4 i y hi
        exact ⟨neg', q', n', c'', xs', by rw [List.getElem?_append_left (by omega)]; exact e0', by rw [List.getElem?_append_left (by omega)]; exact e1', r', hn'⟩
      · exact ⟨neg, q, n, c', xs, by rw [List.getElem?_append_right (by omega), n1, Nat.sub_self]; rfl, by rw [List.getElem?_append_right (by omega), n1, show seg.length * 2 + 1 - seg.length * 2 = 1 by omega]; rfl, r, hn⟩

/-- append(row, seg...), as the walk meets it. -/
theorem pushSeg_law {ops : Array Oper} {Q : Exit → Act → World → Prop} {o : Oper} {rest : List Oper} {a : Act} {W : World} (hgd : o.guard = none) (s x : Operand)
    (ho : o.op = .call { callee := .builtin .append, args := #[s, x], argTypes := #[97, 97] }) {base : Nat} {v : Value} {row : List Int} {K : Nat} (hs : a.eval s = v) (h : GrNum W base v row K)
    {b off n c : Nat} {seg : List Int} (hn : seg.length = n) (hr : NumsR W (some ⟨b, off, none⟩) seg K)
    (hx : a.eval x = .slice (some ⟨b, off, none⟩) n c) (hl : row.length ≤ 1000000000) (hl2 : n ≤ 1000000000) (hbase : base ≤ W.heap.size)
    (k : ∀ v' w', GrNum w' base v' (row ++ seg) K → Below base W w' → wpList Tryd.prog ops Q rest (a.put o.dst v') w') : wpList Tryd.prog ops Q (o :: rest) a W := by
  subst hn
  obtain ⟨i0, hi, hz0, hz1, hz2⟩ := info_parts Tryd.infoN
  obtain ⟨cs, h1, h2⟩ := h
  have hcl : cs.length = row.length * 2 := h1.1.1
  obtain ⟨news, n1, n2, n3, n4⟩ := seg_cells seg hr
  refine wpList_append_q hgd s x 97 ho base 29 i0 (.agg #[.bool false, .slice none 0 0]) 2 32 Tryd.underlying97 hi hz0 hz1 hz2 rfl NoInt (by intro u hu; simp [Value.cells] at hu; rcases hu with rfl | rfl; exact NoInt.bool _; exact NoInt.slice _ _ _) v row.length cs hs h1 ⟨b, off, none⟩ seg.length c news hx n1
    (by intro j u hj; rw [Go.WideShapes.add_plain]; exact n2 j u hj) (fun u hu => (n3 u hu).2) (fun u hu => (n3 u hu).1) (by unfold maxLen; omega) (by omega) hbase ?_
  intro v' w' h3 hg
  have hbb := h1.base_below hg hbase
  refine k v' w' ⟨cs ++ news, by rw [List.length_append]; exact h3, fun i y hi => ?_⟩ hbb
  rcases Nat.lt_or_ge i row.length with hlt | hge
  · rw [List.getElem?_append_left hlt] at hi
    obtain ⟨neg', q', n', c', xs', e0, e1, r', hn'⟩ := h2 i y hi
    exact ⟨neg', q', n', c', xs', by rw [List.getElem?_append_left (by omega)]; exact e0, by rw [List.getElem?_append_left (by omega)]; exact e1, h1.ris NoInt.i hg r', hn'⟩
  · rw [List.getElem?_append_right hge] at hi
    obtain ⟨neg', q', n', c', xs', e0, e1, r', hn'⟩ := n4 _ y hi
    exact ⟨neg', q', n', c', xs', by rw [List.getElem?_append_right (by omega), hcl, ← Nat.sub_mul]; exact e0, by rw [List.getElem?_append_right (by omega), hcl, show i * 2 + 1 - row.length * 2 = (i - row.length) * 2 + 1 by omega]; exact e1, h1.ris NoInt.i hg r', hn'⟩

end Go.Proofs.YtapfkinpdinbgaaDoor
