/-
  Rows of the call's own all of whose cells, spare ones too, are of a kind; append onto them; what stays as it was.
-/
import Derived.Test.YtapfkinpdinbgaaDoorGrowS
namespace Go.Proofs.YtapfkinpdinbgaaDoor
open Go.RowKit

/-- A slice that the call has made; R holds of every cell of its block. -/
def OwnQ (w : World) (base : Nat) (e : TypeId) (size : Nat) (v : Value) (n : Nat) (xs : List Value) (R : Value → Prop) : Prop :=
  w.ownsRow base e size v n xs ∧ ∀ g cs, v.ownBlock = some g → w.heap[g]? = some (.cells cs e (0, 0)) → ∀ u, u ∈ cs.toList → R u

theorem OwnQ.nil (w : World) (base : Nat) (e : TypeId) (size : Nat) (R : Value → Prop) : OwnQ w base e size (.slice none 0 0) 0 [] R :=
  ⟨World.ownsRow_nil _ _ _ _, fun g cs h => by simp [Value.ownBlock] at h⟩

theorem OwnQ.below {w w' : World} {base : Nat} {e : TypeId} {size : Nat} {v : Value} {n : Nat} {xs : List Value} {R : Value → Prop} (h : OwnQ w base e size v n xs R) (hb : Below w.heap.size w w') : OwnQ w' base e size v n xs R := by
  refine ⟨own_below h.1 hb, fun g cs hg hc => ?_⟩
  have hlt := (h.1.lt g hg).2
  rw [hb.block g hlt] at hc
  exact h.2 g cs hg hc

/-- A block that holds a cell of another kind is another one. -/
theorem OwnQ.apart {w : World} {base : Nat} {e : TypeId} {size : Nat} {v : Value} {n : Nat} {xs : List Value} {R : Value → Prop} (h : OwnQ w base e size v n xs R) {b o : Nat} {u : Value} (hc : w.cell? ⟨b, o, none⟩ = some u) (hu : ¬ R u) : some b ≠ v.ownBlock := by
  intro hb
  have hb' := hb.symm
  rcases h.1.2 with ⟨rfl, _⟩ | ⟨g, cap, cur, rfl, _, hg, _⟩
  · simp [Value.ownBlock] at hb
  · simp [Value.ownBlock] at hb
    subst hb
    refine hu (h.2 b cur hb' hg u ?_)
    simp only [World.cell?, hg] at hc
    exact List.mem_of_getElem? (by simpa using hc)

theorem OwnQ.keep {w w' : World} {base : Nat} {e : TypeId} {size : Nat} {v : Value} {n : Nat} {xs : List Value} {R : Value → Prop} (h : OwnQ w base e size v n xs R) (hg : w.grownBy w' v.ownBlock) {b o : Nat} {u : Value} (hc : w.cell? ⟨b, o, none⟩ = some u) (hu : ¬ R u) {o' : Nat} {u' : Value} (hc' : w.cell? ⟨b, o', none⟩ = some u') : w'.cell? ⟨b, o', none⟩ = some u' :=
  hg.cell hc' (h.apart hc hu)

theorem OwnQ.base_below {w w' : World} {base : Nat} {e : TypeId} {size : Nat} {v : Value} {n : Nat} {xs : List Value} {R : Value → Prop} (h : OwnQ w base e size v n xs R) (hg : w.grownBy w' v.ownBlock) (hb : base ≤ w.heap.size) : Below base w w' :=
  ⟨hg.os, hg.tape, hg.output, hg.size, fun k hk => hg.block k (by omega) (fun e => by have := (h.1.lt k e.symm).1; omega)⟩

/-- Integers' rows are kept by an append onto a row without integers. -/
theorem OwnQ.rd {k : IntKind} {w w' : World} {base : Nat} {e : TypeId} {size : Nat} {v : Value} {n : Nat} {xs : List Value} {R : Value → Prop} (h : OwnQ w base e size v n xs R) (hR : ∀ q x, ¬ R (.int q x)) (hg : w.grownBy w' v.ownBlock) {p : Option Addr} {m : Nat} {ns : List Nat} (hr : Rd k w p m ns) : Rd k w' p m ns := by
  refine ⟨hr.1, fun j hj => ?_⟩
  obtain ⟨b, off, hp, hlt, hc⟩ := hr.2 j hj
  exact ⟨b, off, hp, Nat.lt_of_lt_of_le hlt hg.size, h.keep hg hc (hR _ _) hc⟩
theorem OwnQ.ris {w w' : World} {base : Nat} {e : TypeId} {size : Nat} {v : Value} {n : Nat} {xs : List Value} {R : Value → Prop} (h : OwnQ w base e size v n xs R) (hR : ∀ q x, ¬ R (.int q x)) (hg : w.grownBy w' v.ownBlock) {neg : Bool} {p : Option Addr} {m c : Nat} {ns : List Nat} {z : Int} (hr : RIs w neg p m c ns z) : RIs w' neg p m c ns z :=
  { hr with rd := h.rd hR hg hr.rd }
theorem OwnQ.rdL {w w' : World} {base : Nat} {e : TypeId} {size : Nat} {v : Value} {n : Nat} {xs : List Value} {R : Value → Prop} (h : OwnQ w base e size v n xs R) (hR : ∀ s, ¬ R (.string s)) (hg : w.grownBy w' v.ownBlock) {p : Option Addr} {row : List (List UInt8)} (hr : RdL w p row) : RdL w' p row := by
  intro i s hs
  obtain ⟨b, off, hp, hlt, hc⟩ := hr i s hs
  exact ⟨b, off, hp, Nat.lt_of_lt_of_le hlt hg.size, h.keep hg hc (hR _) hc⟩

section
variable {P : Program} (w : World)
/-- append onto such a row. -/
theorem run_append_q (base : Nat) (t ty e : TypeId) (i : TypeInfo) (z : Value) (size bytes : Nat) (ht : P.underlying t = some (.slice e)) (hi : P.info? e = some i) (hz : i.zero = some z)
    (hsize : i.size = size) (hby : i.bytes = bytes) (hzs : z.cells.size = size) (R : Value → Prop) (hzR : ∀ u, u ∈ z.cells.toList → R u)
    (v : Value) (n : Nat) (xs : List Value) (hq : OwnQ w base e size v n xs R)
    (a : Addr) (m c : Nat) (news : List Value) (hl : news.length = m * size) (hnews : ∀ j u, news[j]? = some u → w.cell? (a.add j) = some u) (h1 : ∀ u ∈ news, u.oneCell' = true) (hn : ∀ u ∈ news, R u)
    (h63 : n + m ≤ maxLen) (hbytes : (n + m) * bytes ≤ 140737488355328) (hbase : base ≤ w.heap.size) :
    ∃ v' w', (Builtin.append_ #[t, t] ty #[v, .slice (some a) m c]).run P w = .ok v' w' ∧ OwnQ w' base e size v' (n + m) (xs ++ news) R ∧ w.grownBy w' v.ownBlock := by
  subst hsize hby
  have hsmall : n + m ≤ 9223372036854775807 := by simp only [maxLen] at h63; omega
  obtain ⟨hown, hR⟩ := hq
  have hlen : (xs ++ news).length = (n + m) * i.size := by rw [List.length_append, hown.1, hl, Nat.add_mul]
  have hzero : ∀ k u, u ∈ (Builtin.zeroCells z.cells k).toList → R u := by
    intro k u hu
    unfold Builtin.zeroCells at hu
    simp only [Array.toList_map, Array.toList_range, List.mem_map, List.mem_range] at hu
    obtain ⟨j, hj, rfl⟩ := hu
    have hs : 0 < z.cells.size := by
      rcases Nat.eq_zero_or_pos z.cells.size with h | h
      · rw [h] at hj; simp at hj
      · exact h
    rw [getElem!_pos z.cells _ (Nat.mod_lt j hs)]
    exact hzR _ (by simp)
  have grown : ∀ (old : Nat), (∀ u ∈ xs, R u) → ∀ (row : Option Nat),
      OwnQ (w.drew.alloc (.cells (xs.toArray ++ news.toArray ++ Builtin.zeroCells z.cells (grownCap w (n + m) old e - (n + m))) e)) base e i.size (.slice (some ⟨w.heap.size, 0, none⟩) (n + m) (grownCap w (n + m) old e)) (n + m) (xs ++ news) R ∧
      w.grownBy (w.drew.alloc (.cells (xs.toArray ++ news.toArray ++ Builtin.zeroCells z.cells (grownCap w (n + m) old e - (n + m))) e)) row := by
    intro old hxR row
    have hge := grownCap_ge w (n + m) old e
    have hcm : grownCap w (n + m) old e ≤ maxLen := grownCap_le_maxLen w (n + m) old e h63
    refine ⟨⟨⟨hlen, .inr ⟨w.heap.size, _, _, rfl, hbase, heap_alloc_new w.drew _, hge, hcm, ?_, ?_⟩⟩, ?_⟩, ⟨rfl, rfl, rfl, by simp, fun k hk _ => heap_alloc_old w.drew _ hk⟩⟩
    · simp only [Array.size_append, List.size_toArray, size_zeroCells, hzs, hown.1, hl, ← Nat.add_mul]
      congr 1
      omega
    · simp only [Array.toList_append, List.append_assoc]
      rw [← List.append_assoc, ← hlen]
      exact List.take_left
    · intro g cs hg hc u hu
      simp [Value.ownBlock] at hg
      subst hg
      have hnew := heap_alloc_new w.drew (.cells (xs.toArray ++ news.toArray ++ Builtin.zeroCells z.cells (grownCap w (n + m) old e - (n + m))) e)
      have e1 : w.drew.heap.size = w.heap.size := rfl
      rw [e1] at hnew
      rw [hnew] at hc
      cases hc
      simp only [Array.toList_append, List.mem_append] at hu
      rcases hu with (hu | hu) | hu
      · exact hxR u hu
      · exact hn u hu
      · exact hzero _ u hu
  rcases hown.2 with ⟨rfl, rfl⟩ | ⟨g, cap, cur, rfl, hbg, hg, hnc, hcm, hcs, htake⟩
  · have hx : xs = [] := List.eq_nil_of_length_eq_zero (by simpa using hown.1)
    subst hx
    by_cases hm : m = 0
    · subst hm
      have hn0 : news = [] := List.eq_nil_of_length_eq_zero (by simpa using hl)
      subst hn0
      refine ⟨.slice none 0 0, w, ?_, OwnQ.nil _ _ _ _ _, ⟨rfl, rfl, rfl, Nat.le_refl _, fun _ _ _ => rfl⟩⟩
      simp [Builtin.append_, run_underlying ht, sizeOf, typeInfo, hi, Builtin.lenOf, Builtin.firstCells, loadCells, loadCellsFrom]
    · have hr := run_append_nil (P := P) w t ty e i z ht hi hz a m c news hl hnews (by omega) (by omega) (by have hb := hbytes; simp only [Nat.zero_add] at hb; omega)
      have hgr := grown 0 (by simp) (Value.ownBlock (.slice none 0 0))
      simp only [Nat.zero_add, List.nil_append, Array.empty_append] at hgr ⊢
      exact ⟨_, _, hr, hgr.1, hgr.2⟩
  · have hcur : ∀ u, u ∈ cur.toList → R u := hR g cur rfl hg
    by_cases hroom : n + m ≤ cap
    · have hfit : n * i.size + news.length ≤ cur.size := by rw [hl, hcs, ← Nat.add_mul]; exact Nat.mul_le_mul_right _ hroom
      have hr := run_append_room (P := P) w t ty e i ht hi g n cap cur hg a m c news hl hnews h1 hroom hfit
      refine ⟨_, _, hr, ⟨⟨hlen, .inr ⟨g, cap, _, rfl, hbg, setRow_heap w g cur _ e _ hg, hroom, hcm, ?_, ?_⟩⟩, ?_⟩, ⟨rfl, rfl, rfl, by simp, fun k _ hk => setRow_other w g k _ (fun e => hk (by simp [Value.ownBlock, e]))⟩⟩
      · simp only [List.size_toArray, List.length_append, List.length_take, List.length_drop, Array.length_toList]
        omega
      · rw [htake, ← hlen]
        exact List.take_left
      · intro g' cs hg' hc u hu
        simp [Value.ownBlock] at hg'
        subst hg'
        rw [setRow_heap w g cur _ e _ hg] at hc
        cases hc
        simp only [List.mem_append] at hu
        rcases hu with (hu | hu) | hu
        · exact hcur u (List.mem_of_mem_take hu)
        · exact hn u hu
        · exact hcur u (List.mem_of_mem_drop hu)
    · have holds : ∀ j u, xs[j]? = some u → w.cell? ((⟨g, 0, none⟩ : Addr).add j) = some u := hown.cells (g := g) rfl
      have hr := run_append_grow (P := P) w t ty e i z ht hi hz ⟨g, 0, none⟩ n cap xs hown.1 holds a m c news hl hnews (by omega) (by omega) (growslice_fits (by omega) hbytes)
      have hgr := grown cap (fun u hu => hcur u (by rw [← htake] at hu; exact List.mem_of_mem_take hu)) (Value.ownBlock (.slice (some ⟨g, 0, none⟩) n cap))
      exact ⟨_, _, hr, hgr.1, hgr.2⟩

variable {w}
theorem wpList_append_q {ops : Array Oper} {rest : List Oper} {o : Oper} {a : Act} {Q : Exit → Act → World → Prop} (hgd : o.guard = none) (s x : Operand) (t : TypeId)
    (ho : o.op = .call { callee := .builtin .append, args := #[s, x], argTypes := #[t, t] })
    (base : Nat) (e : TypeId) (i : TypeInfo) (z : Value) (size bytes : Nat) (ht : P.underlying t = some (.slice e)) (hi : P.info? e = some i) (hz : i.zero = some z)
    (hsize : i.size = size) (hby : i.bytes = bytes) (hzs : z.cells.size = size) (R : Value → Prop) (hzR : ∀ u, u ∈ z.cells.toList → R u)
    (v : Value) (n : Nat) (xs : List Value) (hs : a.eval s = v) (hq : OwnQ w base e size v n xs R)
    (ad : Addr) (m c : Nat) (news : List Value) (hx : a.eval x = .slice (some ad) m c) (hl : news.length = m * size) (hnews : ∀ j u, news[j]? = some u → w.cell? (ad.add j) = some u) (h1 : ∀ u ∈ news, u.oneCell' = true) (hn : ∀ u ∈ news, R u)
    (h63 : n + m ≤ maxLen) (hbytes : (n + m) * bytes ≤ 140737488355328) (hbase : base ≤ w.heap.size)
    (h : ∀ v' w', OwnQ w' base e size v' (n + m) (xs ++ news) R → w.grownBy w' v.ownBlock → wpList P ops Q rest (a.put o.dst v') w') :
    wpList P ops Q (o :: rest) a w := by
  refine wpList_plain hgd fun K hK => ?_
  obtain ⟨v', w', hr, h2, h3⟩ := run_append_q (P := P) w base t o.type e i z size bytes ht hi hz hsize hby hzs R hzR v n xs hq ad m c news hl hnews h1 hn h63 hbytes hbase
  unfold Oper.wp execOp
  simp only [ho, resolve, invoke, builtin, Sem.run_bind, Sem.run_pure, Result.andThen_ok, List.map_toArray, List.map_cons, List.map_nil, hs, hx, hr]
  exact hK _ _ (h v' w' h2 h3)
end

end Go.Proofs.YtapfkinpdinbgaaDoor
