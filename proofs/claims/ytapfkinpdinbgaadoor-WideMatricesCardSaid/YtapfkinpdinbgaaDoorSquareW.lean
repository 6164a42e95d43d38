/-
  The law's 'square', its walk.
-/
import Derived.Test.YtapfkinpdinbgaaDoorGrids
import Derived.Test.YtapfkinpdinbgaaDoorCleanF
import Derived.Deep.CutBlock
namespace Go.Proofs.YtapfkinpdinbgaaDoor
open Go.RowKit

/-- Rows of strings of the call's own, each in a block of its own. -/
def GrSq (w : World) (base : Nat) (v : Value) (rows : List (List (List UInt8))) : Prop :=
  ∃ (vs : List Value) (gs : List Nat), OwnQ w base 50 1 v rows.length vs OnlySl ∧ gs.length = rows.length ∧ gs.Pairwise (· < ·) ∧ (∀ g ∈ gs, base ≤ g ∧ g < w.heap.size) ∧
    ∀ (i : Nat) (row : List (List UInt8)), rows[i]? = some row → ∃ (g c : Nat) (cs : Array Value), gs[i]? = some g ∧ vs[i]? = some (Value.slice (some ⟨g, 0, none⟩) row.length c) ∧ w.heap[g]? = some (.cells cs 9 (0, 0)) ∧ ∀ (k : Nat) (s : List UInt8), row[k]? = some s → cs[k]? = some (Value.string ⟨s.toArray⟩)

theorem GrSq.nil (w : World) (base : Nat) : GrSq w base (.slice none 0 0) [] := by
  refine ⟨[], [], OwnQ.nil _ _ _ _ _, rfl, List.Pairwise.nil, ?_, ?_⟩
  · intro g h; cases h
  · intro i row h; simp at h
theorem GrSq.below {w w' : World} {base : Nat} {v : Value} {rows : List (List (List UInt8))} (h : GrSq w base v rows) (hb : Below w.heap.size w w') : GrSq w' base v rows := by
  obtain ⟨vs, gs, h1, h2, h3, h4, h5⟩ := h
  refine ⟨vs, gs, h1.below hb, h2, h3, fun g hg => ⟨(h4 g hg).1, Nat.lt_of_lt_of_le (h4 g hg).2 hb.size⟩, fun i row hi => ?_⟩
  obtain ⟨g, c, cs, e1, e2, e3, e4⟩ := h5 i row hi
  exact ⟨g, c, cs, e1, e2, (hb.block g (h4 g (List.mem_of_getElem? e1)).2).trans e3, e4⟩

theorem GrSq.form {w : World} {base : Nat} {v : Value} {rows : List (List (List UInt8))} {n : Nat} (h : GrSq w base v rows) (hn : rows.length = n) : ∃ p c, v = .slice p n c := by
  obtain ⟨vs, gs, h1, _⟩ := h
  obtain ⟨p, c, e, _⟩ := own_cells h1.1
  rw [hn] at e
  exact ⟨p, c, e⟩

theorem GrSq.rd {w : World} {base : Nat} {p : Option Addr} {n c : Nat} {rows : List (List (List UInt8))} (h : GrSq w base (.slice p n c) rows) : RdLL w p rows := by
  obtain ⟨vs, gs, h1, _, _, h4, h5⟩ := h
  obtain ⟨p', c', e, _, hcell⟩ := own_cells h1.1
  cases e
  intro i row hi
  obtain ⟨g, c2, cs, e1, e2, e3, e4⟩ := h5 i row hi
  obtain ⟨b, hp, hlt, hcc⟩ := hcell i _ e2
  refine ⟨b, 0, _, c2, hp, hlt, by rw [Nat.zero_add]; exact hcc, fun k s hk => ?_⟩
  exact ⟨g, 0, rfl, (h4 g (List.mem_of_getElem? e1)).2, by rw [Nat.zero_add]; simpa [World.cell?, e3] using e4 k s hk⟩

theorem own_type {w : World} {base : Nat} {e e' : TypeId} {size : Nat} {v : Value} {n : Nat} {xs : List Value} (h : w.ownsRow base e size v n xs) (hne : e ≠ e') {g : Nat} {cs : Array Value} (hg : w.heap[g]? = some (.cells cs e' (0, 0))) : some g ≠ v.ownBlock := by
  intro he
  rcases h.2 with ⟨rfl, _⟩ | ⟨b, cap, cur, rfl, _, hb, _⟩
  · simp [Value.ownBlock] at he
  · simp [Value.ownBlock] at he
    subst he
    rw [hb] at hg
    cases hg
    exact hne rfl

theorem pairwise_snoc {gs : List Nat} {g : Nat} (h : gs.Pairwise (· < ·)) (hg : ∀ x ∈ gs, x < g) : (gs ++ [g]).Pairwise (· < ·) := by
  rw [List.pairwise_append]
  exact ⟨h, List.pairwise_singleton _ _, fun a ha b hb => by simp at hb; subst hb; exact hg a ha⟩

/-- append(rows, row), as the walk meets it. -/
theorem pushSq_law {ops : Array Oper} {Q : Exit → Act → World → Prop} {o : Oper} {rest : List Oper} {a : Act} {W : World} (hgd : o.guard = none) (s x : Operand)
    (ho : o.op = .call { callee := .builtin .append, args := #[s, x], argTypes := #[53, 53] }) {base : Nat} {v : Value} {rows : List (List (List UInt8))} (hs : a.eval s = v) {lim : Nat}
    {W0 : World} (hW0 : W0.heap.size = lim) (h0 : GrSq W0 base v rows) (hbl : Below lim W0 W)
    {q : Option Addr} {n c : Nat} {row : List (List UInt8)} (hn : row.length = n) (hn0 : 0 < n) (hr : GrS W lim (.slice q n c) row)
    (hx : a.eval x = .slice (some ⟨W.heap.size, 0, none⟩) 1 1) (hl : rows.length ≤ 1000000000) (hbase : base ≤ lim)
    (k : ∀ v' w', GrSq w' base v' (rows ++ [row]) → Below base W w' → wpList Tryd.prog ops Q rest (a.put o.dst v') w') : wpList Tryd.prog ops Q (o :: rest) a (W.alloc (.cells #[.slice q n c] 50)) := by
  subst hn
  obtain ⟨i0, hi, hz0, hz1, hz2⟩ := info_parts Tryd.infoSS
  have hlw : lim ≤ W.heap.size := by rw [← hW0]; exact hbl.size
  have hbA : Below W.heap.size W (W.alloc (.cells #[.slice q row.length c] 50)) := (Below.refl _ _).alloc (Nat.le_refl _) _
  -- the blocks of the rows lie below those of the call's world
  obtain ⟨vs, gs, a1, a2, a3, a4, a5⟩ := h0
  have h1 : OwnQ (W.alloc (.cells #[.slice q row.length c] 50)) base 50 1 v rows.length vs OnlySl := (a1.below (by rw [hW0]; exact hbl)).below hbA
  have hvl : vs.length = rows.length := by have := a1.1.1; omega
  have hrA := hr.below hbA
  rcases hr.2 with ⟨_, e0⟩ | ⟨g, cap, cur, e, hgb, hg, hc1, hc2, hc3, hc4⟩
  · rw [e0] at hn0; exact absurd hn0 (Nat.lt_irrefl 0)
  cases e
  have hgl : g < W.heap.size := (Array.getElem?_eq_some_iff.1 hg).1
  refine wpList_append_q hgd s x 53 ho base 50 i0 (.slice none 0 0) 1 24 Tryd.underlying53 hi hz0 hz1 hz2 rfl OnlySl (by intro u hu; simp [Value.cells] at hu; subst hu; exact OnlySl.mk _ _ _) v rows.length vs hs h1 ⟨W.heap.size, 0, none⟩ 1 1 [.slice (some ⟨g, 0, none⟩) row.length c] hx rfl
    (by intro j u hj; match j, hj with | 0, hj => simp at hj; subst hj; simp [Addr.add, go_sem]) (by simp [Value.oneCell']) (by intro u hu; simp at hu; subst hu; exact OnlySl.mk _ _ _) (by unfold maxLen; omega) (by omega) (by rw [World.size_alloc]; omega) ?_
  intro v' w' h3 hgr
  have hbb := h1.base_below hgr (by rw [World.size_alloc]; omega)
  -- a block of strings is as it was
  have keep : ∀ b (cs : Array Value), b < W.heap.size → W.heap[b]? = some (.cells cs 9 (0, 0)) → w'.heap[b]? = some (.cells cs 9 (0, 0)) := by
    intro b cs hb hcs
    have h1' : (W.alloc (.cells #[.slice (some ⟨g, 0, none⟩) row.length c] 50)).heap[b]? = some (.cells cs 9 (0, 0)) := (hbA.block b hb).trans hcs
    rw [hgr.block b (by rw [World.size_alloc]; omega) (own_type h1.1 (by decide) h1')]
    exact h1'
  have hsz : W.heap.size ≤ w'.heap.size := Nat.le_trans (by rw [World.size_alloc]; omega) hgr.size
  refine k v' w' ⟨vs ++ [.slice (some ⟨g, 0, none⟩) row.length c], gs ++ [g], by rw [List.length_append]; exact h3, by simp [a2], pairwise_snoc a3 (fun x hx => by have := (a4 x hx).2; omega), fun x hx => ?_, fun i r hi => ?_⟩ (((Below.refl _ _).alloc (by omega) _).trans hbb)
  · rcases List.mem_append.1 hx with hx | hx
    · have := a4 x hx; exact ⟨this.1, by omega⟩
    · simp at hx; subst hx; exact ⟨by omega, by omega⟩
  · rcases snoc_cases hi with ⟨hlt, hi⟩ | ⟨rfl, rfl⟩
    · obtain ⟨g', c', cs, e1, e2, e3, e4⟩ := a5 i r hi
      have hg' := (a4 g' (List.mem_of_getElem? e1)).2
      exact ⟨g', c', cs, by rw [List.getElem?_append_left (by omega)]; exact e1, by rw [List.getElem?_append_left (by omega)]; exact e2, keep g' cs (by omega) ((hbl.block g' (by omega)).trans e3), e4⟩
    · refine ⟨g, c, cur, by rw [List.getElem?_append_right (by omega), a2, Nat.sub_self]; rfl, by rw [List.getElem?_append_right (by omega), hvl, Nat.sub_self]; rfl, keep g cur hgl hg, fun k s hk => ?_⟩
      have hkl := (List.getElem?_eq_some_iff.1 hk).1
      have h1 : (scells r)[k]? = some (Value.string ⟨s.toArray⟩) := by unfold scells; simp [hk]
      rw [← hc4, Nat.mul_one, List.getElem?_take_of_lt hkl] at h1
      simpa using h1

/-- The element of a matrix of any texts. -/
def sqEnt (rows : List (List (List UInt8))) (i k : Nat) : List UInt8 := match rows[i]? with
  | some row => (match row[k]? with | some s => cleanF 12 s | none => [48])
  | none => [48]
def sqRow (rows : List (List (List UInt8))) (i n : Nat) : List (List UInt8) := (List.range n).map (sqEnt rows i)
def sqF (rows : List (List (List UInt8))) (N n : Nat) : List (List (List UInt8)) := (List.range n).map fun i => sqRow rows i N
theorem sqRow_succ (rows : List (List (List UInt8))) (i n : Nat) : sqRow rows i (n + 1) = sqRow rows i n ++ [sqEnt rows i n] := by unfold sqRow; rw [List.range_succ, List.map_append]; rfl
theorem sqF_succ (rows : List (List (List UInt8))) (N n : Nat) : sqF rows N (n + 1) = sqF rows N n ++ [sqRow rows n N] := by unfold sqF; rw [List.range_succ, List.map_append]; rfl
theorem sqRow_len (rows : List (List (List UInt8))) (i n : Nat) : (sqRow rows i n).length = n := by unfold sqRow; simp
theorem sqF_len (rows : List (List (List UInt8))) (N n : Nat) : (sqF rows N n).length = n := by unfold sqF; simp

end Go.Proofs.YtapfkinpdinbgaaDoor

namespace Go.Proofs.YtapfkinpdinbgaaDoor
open Go.RowKit

theorem GrS.form' {w : World} {base : Nat} {v : Value} {ls : List (List UInt8)} (h : GrS w base v ls) : ∃ p m c, v = .slice p m c ∧ Hid (ls.length = m) := by
  obtain ⟨p, c, e, _, _⟩ := h.rd
  exact ⟨p, ls.length, c, e, rfl⟩

theorem sqEnt_in {rows : List (List (List UInt8))} {i k : Nat} {row : List (List UInt8)} {s : List UInt8} (h : rows[i]? = some row) (h2 : row[k]? = some s) : sqEnt rows i k = cleanF 12 s := by unfold sqEnt; rw [h]; dsimp only; rw [h2]
theorem sqEnt_out1 {rows : List (List (List UInt8))} {i k : Nat} (h : rows.length ≤ i) : sqEnt rows i k = [48] := by unfold sqEnt; rw [List.getElem?_eq_none h]
theorem sqEnt_out2 {rows : List (List (List UInt8))} {i k : Nat} {row : List (List UInt8)} (h : rows[i]? = some row) (h2 : row.length ≤ k) : sqEnt rows i k = [48] := by unfold sqEnt; rw [h]; dsimp only; rw [List.getElem?_eq_none h2]

set_option maxRecDepth 100000 in
set_option maxHeartbeats 4000000 in
theorem square_any (a : Option Addr) (n0 c : Nat) (rows : List (List (List UInt8))) (N : Nat) (w : World) (hl : rows.length = n0) (hn0 : n0 ≤ 9223372036854775807) (hN : N ≤ 1000) (hr : RdLL w a rows) (hs : ∀ row ∈ rows, row.length ≤ 9223372036854775807 ∧ ∀ s ∈ row, s.length ≤ 9223372036854775807) :
    Calls Tryd.prog 38 #[.slice a n0 c, .int .i64 (N : Int)] w fun e w' => ∃ p c', e = .returned (.slice p N c') ∧ GrSq w' w.heap.size (.slice p N c') (sqF rows N N) ∧ Below w.heap.size w w' := by
  have HL := Lib.hid hl
  have HR := Lib.hid hr
  have HS := Lib.hid hs
  clear hl hr hs
  go_enter Tryd.func38, Tryd.ntmps38
  go_wp2_with fail
  go_loopg [5, 6] N (fun gk v5 v6 wr => ∃ (i : Nat) (p5 : Option Addr) (c5 : Nat), i ≤ N ∧ gk = N - i ∧ v6 = .int .i64 (i : Int) ∧ v5 = .slice p5 i c5 ∧ Hid (GrSq wr w.heap.size v5 (sqF rows N i)) ∧ w.heap.size ≤ wr.heap.size ∧ Below w.heap.size w wr)
  case atStart => exact ⟨0, none, 0, Nat.zero_le _, rfl, rfl, rfl, GrSq.nil _ _, Nat.le_refl _, Below.refl _ _⟩
  case round =>
    obtain ⟨i, p5, c5, hi, hgk, rfl, rfl, HG, hsz, hb⟩ := hrel
    have HGK := Lib.hid hgk
    clear hgk
    by_cases hlt : i < N
    · have hli : (i : Int) < (N : Int) := by omega
      go_wp2_with fail
      generalize wr = wo at *
      go_loopg [7, 8] N (fun gk v7 v8 wx => ∃ (k : Nat) (p7 : Option Addr) (c7 : Nat), k ≤ N ∧ gk = N - k ∧ v8 = .int .i64 (k : Int) ∧ v7 = .slice p7 k c7 ∧ Hid (GrS wx wo.heap.size v7 (sqRow rows i k)) ∧ wo.heap.size ≤ wx.heap.size ∧ Below wo.heap.size wo wx)
      case atStart => exact ⟨0, none, 0, Nat.zero_le _, rfl, rfl, rfl, GrS.nil _ _, Nat.le_refl _, Below.refl _ _⟩
      case round =>
        obtain ⟨k, p7, c7, hk, hgk2, rfl, rfl, HN, hsz2, hbx⟩ := hrel
        have HGK2 := Lib.hid hgk2
        clear hgk2
        have hbw := hb.trans (hbx.mono hb.size)
        by_cases hlt2 : k < N
        · have hki : (k : Int) < (N : Int) := by omega
          by_cases hin : i < n0
          · have hini : (i : Int) < (n0 : Int) := by omega
            have hil : i < rows.length := by rw [HL.out]; exact hin
            have hrow : rows[i]? = some rows[i] := List.getElem?_eq_getElem hil
            obtain ⟨b, off, q, cq, rfl, hbl, hcell, hrd⟩ := HR.out i _ hrow
            obtain ⟨hrl, hrs⟩ := HS.out _ (List.getElem_mem hil)
            generalize rows[i] = row at *
            have hcell := (hbw.cell (p := ⟨b, off + i, none⟩) hbl).trans hcell
            obtain ⟨L, hL⟩ : ∃ L, row.length = L := ⟨_, rfl⟩
            rw [hL] at hcell hrl
            have HLL := Lib.hid hL
            have HROW := Lib.hid hrow
            have HRS := Lib.hid hrs
            have HRD := Lib.hid hrd
            clear hL hrow hrs hrd
            by_cases hkn : k < L
            · have hkl : (k : Int) < (L : Int) := by omega
              have hkr : k < row.length := by rw [HLL.out]; exact hkn
              have hsk : row[k]? = some row[k] := List.getElem?_eq_getElem hkr
              have HE := Lib.hid (sqEnt_in HROW.out hsk)
              obtain ⟨b2, off2, rfl, hbl2, hcell2⟩ := (HRD.out.below hbw) k _ hsk
              have hsl := HRS.out _ (List.getElem_mem hkr)
              generalize row[k] = s at *
              clear hsk
              go_wp2_with fail
              refine (clean_fn s 12 _ hsl (by omega) (by omega)).mono ?_
              rintro e w5 ⟨rfl, hb5⟩
              have hsz5 := Nat.le_trans hsz2 hb5.size
              have hb5' := hbx.trans (hb5.mono hbx.size)
              have hgn := HN.out.below hb5
              go_wp2_with (at_builtin; refine pushS_law rfl _ _ rfl rfl hgn (cleanF 12 s) rfl (by rw [sqRow_len]; omega) hsz5 ?_; intro v' w' hgn' hb6)
              go_roundg (N - (k + 1))
              case measure => rw [HGK2.out]; omega
              case rel =>
                have hgr6 : GrS w' wo.heap.size v' (sqRow rows i (k + 1)) := by rw [sqRow_succ, HE.out]; exact hgn'
                obtain ⟨p', m', c', hv', hm'⟩ := hgr6.form'
                have hm2 := hm'.out
                rw [sqRow_len] at hm2
                subst hm2
                exact ⟨k + 1, p', c', by omega, rfl, by go_num, hv', hgr6, Nat.le_trans hsz5 hb6.size, hb5'.trans hb6⟩
            · have hkl : ¬ (k : Int) < (L : Int) := by omega
              have HE := Lib.hid (sqEnt_out2 HROW.out (show row.length ≤ k by rw [HLL.out]; omega))
              have hgn := HN.out
              go_wp2_with (at_builtin; refine pushS_law rfl _ _ rfl rfl hgn [48] rfl (by rw [sqRow_len]; omega) hsz2 ?_; intro v' w' hgn' hb6)
              go_roundg (N - (k + 1))
              case measure => rw [HGK2.out]; omega
              case rel =>
                have hgr6 : GrS w' wo.heap.size v' (sqRow rows i (k + 1)) := by rw [sqRow_succ, HE.out]; exact hgn'
                obtain ⟨p', m', c', hv', hm'⟩ := hgr6.form'
                have hm2 := hm'.out
                rw [sqRow_len] at hm2
                subst hm2
                exact ⟨k + 1, p', c', by omega, rfl, by go_num, hv', hgr6, Nat.le_trans hsz2 hb6.size, hbx.trans hb6⟩
          · have hini : ¬ (i : Int) < (n0 : Int) := by omega
            have HE := Lib.hid (sqEnt_out1 (rows := rows) (i := i) (k := k) (by rw [HL.out]; omega))
            have hgn := HN.out
            go_wp2_with (at_builtin; refine pushS_law rfl _ _ rfl rfl hgn [48] rfl (by rw [sqRow_len]; omega) hsz2 ?_; intro v' w' hgn' hb6)
            go_roundg (N - (k + 1))
            case measure => rw [HGK2.out]; omega
            case rel =>
              have hgr6 : GrS w' wo.heap.size v' (sqRow rows i (k + 1)) := by rw [sqRow_succ, HE.out]; exact hgn'
              obtain ⟨p', m', c', hv', hm'⟩ := hgr6.form'
              have hm2 := hm'.out
              rw [sqRow_len] at hm2
              subst hm2
              exact ⟨k + 1, p', c', by omega, rfl, by go_num, hv', hgr6, Nat.le_trans hsz2 hb6.size, hbx.trans hb6⟩
        · have hki : ¬ (k : Int) < (N : Int) := by omega
          obtain rfl : k = N := by omega
          have hmi := sqF_len rows k i
          have hsl := sqRow_len rows i k
          have hrow := HN.out
          have h0 := HG.out
          have hk0 : 0 < k := by omega
          go_wp2_with (at_builtin; refine pushSq_law rfl _ _ rfl rfl (W0 := wo) rfl h0 hbx hsl hk0 hrow rfl (by rw [hmi]; omega) hsz ?_; intro v' w' hgm' hb6)
          go_roundg (k - (i + 1))
          case measure => rw [HGK.out]; omega
          case rel =>
            rw [← sqF_succ] at hgm'
            obtain ⟨p', c', hv'⟩ := hgm'.form (sqF_len rows k (i + 1))
            exact ⟨i + 1, p', c', by omega, rfl, by go_num, hv', hgm', Nat.le_trans hsz (Nat.le_trans hsz2 hb6.size), hbw.trans hb6⟩
    · have hli : ¬ (i : Int) < (N : Int) := by omega
      obtain rfl : i = N := by omega
      go_wp2_with fail
      go_ret
      first | exact ⟨_, _, rfl, HG.out, hb⟩ | exact ⟨_, rfl, HG.out, hb⟩ | exact ⟨_, ⟨_, rfl⟩, HG.out, hb⟩

end Go.Proofs.YtapfkinpdinbgaaDoor
