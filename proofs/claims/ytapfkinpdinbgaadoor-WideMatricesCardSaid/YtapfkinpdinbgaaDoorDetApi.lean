/-
  The determinant of rows of strings.
-/
import Derived.Test.YtapfkinpdinbgaaDoorDet
import Derived.Laws.EntriesVeiled
namespace Go.Proofs.YtapfkinpdinbgaaDoor
open Go.RowKit Go.Maps

theorem MinorV.mono {w : World} {br bk bf bm : Nat} {ra : Option Addr} {n c cnt cnt' : Nat} {M : List (List Int)} {z : Int} {L : Nat} {e : Ending} {w' : World} (h : MinorV w br bk bf bm ra n c cnt M z L e w') (hc : cnt ≤ cnt') : MinorV w br bk bf bm ra n c cnt' M z L e w' := by
  obtain ⟨neg, p, m, d, xs, g', h1, h2, h3, h4⟩ := h
  exact ⟨neg, p, m, d, xs, g', h1, h2, h3.mono hc, h4⟩

theorem minor_any (br bk bf bm : Nat) (ra : Option Addr) (n c : Nat) (M : List (List Int)) (hn : n ≤ 6) (hM : M.length = n) (hsq : ∀ row ∈ M, row.length = n) :
    ∀ (k r u cnt : Nat) (g : Nat → Option Value) (w : World), r + k = n → u < 2 ^ n → pop n u = r → cnt + detS k ≤ 900000 → DetIs w br bk bf bm ra n c cnt M g →
      Calls Tryd.prog 81 (minorArgs r u br bk bf) w (MinorV w br bk bf bm ra n c (cnt + detS k) M (minorZ M n k u) (detL k)) := by
  intro k
  induction k with
  | zero =>
    intro r u cnt g w hr hu hp hc hd
    obtain rfl : r = n := by omega
    exact minor_none br bk bf bm ra r c cnt M g u w hn hd
  | succ k ih =>
    intro r u cnt g w hr hu hp hc hd
    cases hg : g u with
    | none => exact minor_step br bk bf bm ra n c M k hn hM hsq ih r u cnt g w hr hu hp hc hd hg
    | some v =>
      have h := minor_known br bk bf bm ra n c cnt M g r u w hn (by omega) hu hp hd v hg
      rw [show n - r = k + 1 by omega] at h
      exact h.mono fun e w' h => h.mono (by omega)

/-- Where the closure's variables lie. -/
def detW (w : World) (ra : Option Addr) (n c : Nat) : World :=
  (((((w.alloc (.cells #[.slice ra n c] 95)).alloc (.cells #[.bool false, .slice none 0 0] 79)).alloc (.map #[] 0)).alloc (.cells #[.map (some (w.heap.size + 1 + 1))] 115)).alloc
    (.cells #[.func (.func 81) #[] #[.pointer (some ⟨w.heap.size, 0, none⟩), .pointer (some ⟨w.heap.size + 1 + 1 + 1, 0, none⟩), .pointer (some ⟨w.heap.size + 1 + 1 + 1 + 1, 0, none⟩)]] 116))

theorem det_start (w : World) (ra : Option Addr) (n c : Nat) (M : List (List Int)) (hr : RowsIs w ra M 223) :
    DetIs (detW w ra n c) w.heap.size (w.heap.size + 1 + 1 + 1) (w.heap.size + 1 + 1 + 1 + 1) (w.heap.size + 1 + 1) ra n c 0 M (fun _ => none) ∧ Boxed2 (detW w ra n c) (w.heap.size + 1) (.bool false) (.slice none 0 0) 79 ∧ Below w.heap.size w (detW w ra n c) := by
  have hb : Below w.heap.size w (detW w ra n c) := by
    unfold detW
    exact (((((Below.refl _ w).alloc (Nat.le_refl _) _).alloc (by simp) _).alloc (by rw [World.size_alloc, World.size_alloc]; omega) _).alloc (by rw [World.size_alloc, World.size_alloc, World.size_alloc]; omega) _).alloc (by rw [World.size_alloc, World.size_alloc, World.size_alloc, World.size_alloc]; omega) _
  have keep : ∀ {W : World} {o' : Obj} (o : Obj) (i : Nat), W.heap[i]? = some o' → (W.alloc o).heap[i]? = some o' := fun {W} {_} o i h => ((World.grownBy_alloc W o none).block i (Array.getElem?_eq_some_iff.1 h).1 (by simp)).trans h
  refine ⟨{ r := ?_, k := ?_, f := ?_, m := ?_, rows := hr.below hb, kept := fun u v h => by cases h }, ?_, hb⟩
  · exact keep _ _ (keep _ _ (keep _ _ (keep _ _ (World.alloc_heap_new w _))))
  · refine keep _ _ ?_
    have := World.alloc_heap_new (((w.alloc (.cells #[.slice ra n c] 95)).alloc (.cells #[.bool false, .slice none 0 0] 79)).alloc (.map #[] 0)) (.cells #[.map (some (w.heap.size + 1 + 1))] 115)
    rwa [World.size_alloc, World.size_alloc, World.size_alloc] at this
  · have := World.alloc_heap_new ((((w.alloc (.cells #[.slice ra n c] 95)).alloc (.cells #[.bool false, .slice none 0 0] 79)).alloc (.map #[] 0)).alloc (.cells #[.map (some (w.heap.size + 1 + 1))] 115)) (.cells #[.func (.func 81) #[] #[.pointer (some ⟨w.heap.size, 0, none⟩), .pointer (some ⟨w.heap.size + 1 + 1 + 1, 0, none⟩), .pointer (some ⟨w.heap.size + 1 + 1 + 1 + 1, 0, none⟩)]] 116)
    rwa [World.size_alloc, World.size_alloc, World.size_alloc, World.size_alloc] at this
  · have h := MapIs.made ((w.alloc (.cells #[.slice ra n c] 95)).alloc (.cells #[.bool false, .slice none 0 0] 79))
    have e : ((w.alloc (.cells #[.slice ra n c] 95)).alloc (.cells #[.bool false, .slice none 0 0] 79)).heap.size = w.heap.size + 1 + 1 := by simp
    rw [e] at h
    exact (h.kept (World.grownBy_alloc _ _ none) (by simp)).kept (World.grownBy_alloc _ _ none) (by simp)
  · refine keep _ _ (keep _ _ (keep _ _ ?_))
    have := World.alloc_heap_new (w.alloc (.cells #[.slice ra n c] 95)) (.cells #[.bool false, .slice none 0 0] 79)
    rwa [World.size_alloc] at this

set_option maxHeartbeats 1000000 in
theorem determinant_in (ra : Option Addr) (n c : Nat) (M : List (List Int)) (w : World) (hn : n ≤ 6) (hM : M.length = n) (hsq : ∀ row ∈ M, row.length = n) (hr : RowsIs w ra M 223) :
    Calls Tryd.prog 62 #[.slice ra n c] w (NumV w (detZ M) (detL n)) := by
  have hmm := @run_makeMap Tryd.prog
  have hmf : ∀ (fn : Fn) (first cap : Array Value) (w : World), (Instr.makeFunc fn first cap).run Tryd.prog w = .ok (.func fn first cap) w := fun _ _ _ _ => rfl
  obtain ⟨h1, h2, h3⟩ := det_start w ra n c M hr
  have hcall := minor_any w.heap.size (w.heap.size + 1 + 1 + 1) (w.heap.size + 1 + 1 + 1 + 1) (w.heap.size + 1 + 1) ra n c M hn hM hsq n 0 0 0 (fun _ => none) (detW w ra n c) (by omega) (Nat.pow_pos (by decide)) (pop_zero n) (by have h4 : detS 6 = 9331 := (by decide); have h5 := detS_mono hn; omega) h1
  have hz : detZ M = minorZ M n n 0 := by unfold detZ; rw [hM]
  rw [hz]
  have HC := Lib.hid hcall
  have H1 := Lib.hid h1
  have H2 := Lib.hid h2
  have H3 := Lib.hid h3
  clear hr hM hsq hz hcall h1 h2 h3
  go_enter Tryd.func62, Tryd.ntmps62
  go_wp2_with fail
  refine HC.out.mono ?_
  rintro e w5 ⟨neg, p, m, d, xs, g', rfl, hx, hd, hg⟩
  have b5 := H2.out.grown H1.out.m.at hg
  have c0 := b5.cell0
  have c1 := b5.cell1
  have q0 := b5.frozen (i := 0)
  have q1 := b5.frozen (i := 1)
  have hb5 : Below w.heap.size w w5 := H3.out.trans ⟨hg.os, hg.tape, hg.output, hg.size, fun i hi => hg.block i (Nat.lt_of_lt_of_le hi H3.out.size) (fun e => by cases e; omega)⟩
  clear hg hd
  go_wp2_with fail
  have e0 := b5.set (.bool neg) (.slice p m d)
  have z0 := e0.cell0
  have z1 := e0.cell1
  exact bodyPost_ret (v := .agg #[.bool neg, .slice p m d]) (by simp [results, Tryd.results62, go_sem, z0, z1]) rfl ⟨neg, p, m, d, xs, rfl, hx.set2 b5 _ _, (hb5.setCell (by simp) _).setCell (by simp) _⟩

end Go.Proofs.YtapfkinpdinbgaaDoor

namespace Go.Proofs.YtapfkinpdinbgaaDoor
open Go.RowKit Go.Maps

/-- Rows of strings. -/
def RdM (w : World) (a : Option Addr) (m : List (List ByteArray)) : Prop :=
  ∀ i row, m[i]? = some row → ∃ b off p c, a = some ⟨b, off, none⟩ ∧ b < w.heap.size ∧ w.cell? ⟨b, off + i, none⟩ = some (.slice p row.length c) ∧ RdS w p row

theorem RdM.below {w w' : World} {a : Option Addr} {m : List (List ByteArray)} (h : RdM w a m) (hb : Below w.heap.size w w') : RdM w' a m := by
  intro i row hi
  obtain ⟨b, off, p, c, ha, hlt, hc, hr⟩ := h i row hi
  exact ⟨b, off, p, c, ha, Nat.lt_of_lt_of_le hlt hb.size, (hb.cell (p := ⟨b, _, none⟩) hlt).trans hc, hr.below hb⟩

/-- The first rows of n are as long as all are, and not too many. -/
def sqB (n : Nat) (m : List (List ByteArray)) : Bool := decide (n ≤ 6) && m.all fun row => decide (row.length = n)
def numsB (m : List (List ByteArray)) : Bool := m.all allB
def detErr (m : List (List ByteArray)) : Int := if numsB m then (if sqB m.length m then outE (detZ (m.map vals)) else 1) else 6
def detStr (m : List (List ByteArray)) : List UInt8 := if numsB m then (if sqB m.length m then outS (detZ (m.map vals)) else []) else []

theorem take_all {α : Type} {l : List α} {p : α → Bool} {j : Nat} (hj : j < l.length) : (l.take (j + 1)).all p = ((l.take j).all p && p l[j]) := by
  rw [List.take_succ_eq_append_getElem hj, List.all_append]; simp

theorem sq_take {n : Nat} {m : List (List ByteArray)} {j : Nat} (hj : j < m.length) : sqB n (m.take (j + 1)) = (sqB n (m.take j) && decide (m[j].length = n)) := by
  unfold sqB; rw [take_all hj, Bool.and_assoc]

theorem Tryd.info93 : (Tryd.prog.info? 93).map (fun i => (i.zero, i.size, i.bytes)) = some (some (.slice none 0 0), 1, 24) := by kernel_rfl

theorem mkRows (n : Nat) (hn : n ≤ 1000000) (w : World) : (Instr.makeSlice 95 (.int .i64 (n : Int)) (.int .i64 (n : Int))).run Tryd.prog w = .ok (.slice (some ⟨w.heap.size, 0, none⟩) n n) (w.alloc (.cells (Go.madeCells #[.slice none 0 0] n) 93)) :=
  run_make_row' _ _ (.slice none 0 0) 24 Tryd.underlying95 Tryd.info93 rfl .i64 .i64 n (by omega) (by omega) w

/-- Block B holds slices alone. -/
def Slices (w : World) (B : Nat) : Prop := ∃ cs, w.heap[B]? = some (.cells cs 93 (0, 0)) ∧ ∀ (i : Nat) (v : Value), cs[i]? = some v → ∃ p k c, v = Value.slice p k c

theorem Nums.setSlice {w : World} {p : Option Addr} {zs : List Int} {L : Nat} (h : Nums w p zs L) {B i : Nat} (hB : Slices w B) {u : Value} (hu : w.cell? ⟨B, i, none⟩ = some u) (v : Value) : Nums (w.setCell ⟨B, i, none⟩ v) p zs L := by
  obtain ⟨cs, hh, hall⟩ := hB
  have hcell : ∀ j, w.cell? ⟨B, j, none⟩ = cs[j]? := fun j => by simp [World.cell?, hh]
  have hu' := hall i u (by rw [← hcell]; exact hu)
  intro j z hz
  obtain ⟨b, off, neg, q, n, c, xs, ha, hlt, h0, h1, hn⟩ := h j z hz
  have hne : b ≠ B := by
    rintro rfl
    rw [hcell] at h0
    obtain ⟨_, _, _, e⟩ := hall _ _ h0
    cases e
  refine ⟨b, off, neg, q, n, c, xs, ha, by simpa using hlt, ?_, ?_, hn.set hu (fun x e => by obtain ⟨_, _, _, e'⟩ := hu'; rw [e'] at e; cases e) v⟩
  · rw [World.cell?_setCell_other _ _ _ _ (fun e => hne (by cases e; rfl))]; exact h0
  · rw [World.cell?_setCell_other _ _ _ _ (fun e => hne (by cases e; rfl))]; exact h1

/-- What is done of the rows. -/
def RPart (w : World) (B n : Nat) (M : List (List Int)) : Prop :=
  ∃ cs : Array Value, w.heap[B]? = some (.cells cs 93 (0, 0)) ∧ cs.size = n ∧ (∀ (i : Nat) (v : Value), cs[i]? = some v → ∃ p k c, v = Value.slice p k c) ∧
    ∀ (i : Nat) (row : List Int), M[i]? = some row → ∃ (p : Option Addr) (c : Nat), cs[i]? = some (Value.slice p row.length c) ∧ Nums w p row 223

theorem RPart.rows {w : World} {B n : Nat} {M : List (List Int)} (h : RPart w B n M) : RowsIs w (some ⟨B, 0, none⟩) M 223 := by
  obtain ⟨cs, hh, hn, _, hz⟩ := h
  intro i row hi
  obtain ⟨p, c, h0, hx⟩ := hz i row hi
  exact ⟨B, 0, p, c, rfl, (Array.getElem?_eq_some_iff.1 hh).1, by simp [World.cell?, hh, h0], hx⟩

theorem RPart.below {w w' : World} {B n : Nat} {M : List (List Int)} (h : RPart w B n M) (hb : Below w.heap.size w w') : RPart w' B n M := by
  obtain ⟨cs, hh, hn, hv, hz⟩ := h
  refine ⟨cs, (hb.block B (Array.getElem?_eq_some_iff.1 hh).1).trans hh, hn, hv, fun i row hi => ?_⟩
  obtain ⟨p, c, h0, hx⟩ := hz i row hi
  exact ⟨p, c, h0, hx.below hb⟩

theorem RPart.put {w : World} {B n : Nat} {M : List (List Int)} (h : RPart w B n M) {p : Option Addr} {k c : Nat} {row : List Int} (hk : row.length = k) (hx : Nums w p row 223) (hlt : M.length < n) :
    RPart (w.setCell ⟨B, M.length, none⟩ (.slice p k c)) B n (M ++ [row]) ∧ (∃ u, w.cell? ⟨B, M.length, none⟩ = some u) ∧ w.frozen? ⟨B, M.length, none⟩ = false := by
  subst hk
  obtain ⟨cs, hh, hn, hv, hz⟩ := h
  have hc : ∀ i, w.cell? ⟨B, i, none⟩ = cs[i]? := fun i => by simp [World.cell?, hh]
  have l0 : M.length < cs.size := by omega
  have u0 : w.cell? ⟨B, M.length, none⟩ = some cs[M.length] := by rw [hc, Array.getElem?_eq_getElem l0]
  refine ⟨⟨cs.setIfInBounds M.length (.slice p row.length c), ?_, by simp [hn], ?_, ?_⟩, ⟨_, u0⟩, by simp [World.frozen?, hh]⟩
  · rw [Lib.heap_setCell_same hh]
  · intro i v hi
    rw [Array.getElem?_setIfInBounds] at hi
    split at hi
    · first
        | (cases hi; exact ⟨_, _, _, rfl⟩)
        | (split at hi <;> cases hi; exact ⟨_, _, _, rfl⟩)
    · exact hv _ _ hi
  · intro i row' hi
    rcases Nat.lt_or_ge i M.length with hlt' | hge
    · rw [List.getElem?_append_left hlt'] at hi
      obtain ⟨p', c', h0, hx'⟩ := hz i row' hi
      exact ⟨p', c', by rw [Array.getElem?_setIfInBounds_ne (by omega)]; exact h0, hx'.setSlice ⟨cs, hh, hv⟩ u0 _⟩
    · obtain rfl : i = M.length := by
        have := (List.getElem?_eq_some_iff.1 hi).1
        simp at this; omega
      simp at hi
      subst hi
      exact ⟨p, c, by rw [Array.getElem?_setIfInBounds_self_of_lt l0], hx.setSlice ⟨cs, hh, hv⟩ u0 _⟩

def DetOut (w : World) (m : List (List ByteArray)) (e : Ending) (w' : World) : Prop := e = .returned (.tuple #[.string ⟨(detStr m).toArray⟩, .int .i64 (detErr m)]) ∧ Below w.heap.size w w'

set_option maxRecDepth 100000 in
set_option maxHeartbeats 2000000 in
theorem det_any (a : Option Addr) (n c : Nat) (m : List (List ByteArray)) (w : World) (hl : m.length = n) (hn : n ≤ 1000000000000) (hr : RdM w a m) (hs : ∀ row ∈ m, row.length ≤ 1000000000000 ∧ ∀ s ∈ row, s.size ≤ maxLen) (htab : Tab w) :
    Calls Tryd.prog 35 #[.slice a n c] w (DetOut w m) := by
  have HL := Lib.hid hl
  have HR := Lib.hid hr
  have HS := Lib.hid hs
  have HT := Lib.hid htab
  obtain ⟨s6, hs6⟩ : ∃ s6, decide ((n : Int) ≤ 6) = s6 := ⟨_, rfl⟩
  have h06 : Hid (sqB n (m.take 0) = s6) := by
    show sqB n (m.take 0) = s6
    rw [← hs6]; unfold sqB
    simp; omega
  clear hl hr hs htab
  go_enter Tryd.func35, Tryd.ntmps35
  go_wp2_with fail
  clear hs6
  go_loopg [4, 15] n (fun gk v4 i wr => ∃ (j : Nat) (sq : Bool), j ≤ n ∧ gk = n - j ∧ i = .int .i64 j ∧ v4 = .bool sq ∧ Hid (sqB n (m.take j) = sq) ∧ Hid (numsB (m.take j) = true) ∧ Below w.heap.size w wr)
  case atStart => exact ⟨0, s6, Nat.zero_le _, rfl, rfl, rfl, h06, rfl, Below.refl _ _⟩
  case round =>
    obtain ⟨j, sq, hj, hgk, rfl, rfl, HSQ, HNU, hb⟩ := hrel
    have HGK := Lib.hid hgk
    clear hgk
    by_cases hlt : j < n
    · have hjl : j < m.length := by rw [HL.out]; exact hlt
      obtain ⟨b, off, p, c', rfl, hb1, hc, hrs⟩ := (HR.out.below hb) j _ (List.getElem?_eq_getElem hjl)
      have hrow := HS.out _ (List.getElem_mem hjl)
      have hsq := sq_take (n := n) hjl
      have hnu : numsB (m.take (j + 1)) = (numsB (m.take j) && allB m[j]) := take_all hjl
      have hnf : allB m[j] = false → numsB m = false := fun h => by
        unfold numsB; rw [List.all_eq_false]; exact ⟨m[j], List.getElem_mem _, by simp [h]⟩
      generalize m[j] = row at *
      have H1 := Lib.hid hrow.1
      have H2 := Lib.hid hrow.2
      have H3 := Lib.hid hsq
      have H4 := Lib.hid hnu
      have H5 := Lib.hid hrs
      have H6 := Lib.hid hnf
      clear hrow hsq hnu hrs hnf
      cases hab : allB row
      · have HA := Lib.hid hab
        clear hab
        go_wp2_with (go_at_call 60; refine (areAll_any _ _ _ row _ rfl H1.out H5.out H2.out).mono ?_; rintro e w1 ⟨rfl, hb1⟩; rw [HA.out])
        go_ret2
        have h6 := H6.out HA.out
        refine ⟨?_, hb.trans (hb1.mono hb.size)⟩
        unfold detStr detErr
        rw [h6]; rfl
      · have HA := Lib.hid hab
        clear hab
        cases sq
        · go_wp2_with (go_at_call 60; refine (areAll_any _ _ _ row _ rfl H1.out H5.out H2.out).mono ?_; rintro e w1 ⟨rfl, hb1⟩; rw [HA.out])
          go_roundg (n - (j + 1))
          case measure => rw [HGK.out]; omega
          case rel => exact ⟨j + 1, false, by omega, rfl, by go_num, rfl, (by show sqB n (m.take (j + 1)) = false; rw [H3.out, HSQ.out]; rfl), (by show numsB (m.take (j + 1)) = true; rw [H4.out, HNU.out, HA.out]; rfl), hb.trans (hb1.mono hb.size)⟩
        · by_cases hrn : row.length = n
          · have hz : ((row.length : Int) == (n : Int)) = true := by simp; omega
            have HRN := Lib.hid hrn
            clear hrn
            go_wp2_with (go_at_call 60; refine (areAll_any _ _ _ row _ rfl H1.out H5.out H2.out).mono ?_; rintro e w1 ⟨rfl, hb1⟩; rw [HA.out])
            go_roundg (n - (j + 1))
            case measure => rw [HGK.out]; omega
            case rel => exact ⟨j + 1, true, by omega, rfl, by go_num, rfl, (by show sqB n (m.take (j + 1)) = true; rw [H3.out, HSQ.out, HRN.out]; simp), (by show numsB (m.take (j + 1)) = true; rw [H4.out, HNU.out, HA.out]; rfl), hb.trans (hb1.mono hb.size)⟩
          · have hz : ((row.length : Int) == (n : Int)) = false := by simp; omega
            have HRN := Lib.hid hrn
            clear hrn
            go_wp2_with (go_at_call 60; refine (areAll_any _ _ _ row _ rfl H1.out H5.out H2.out).mono ?_; rintro e w1 ⟨rfl, hb1⟩; rw [HA.out])
            go_roundg (n - (j + 1))
            case measure => rw [HGK.out]; omega
            case rel => exact ⟨j + 1, false, by omega, rfl, by go_num, rfl, (by show sqB n (m.take (j + 1)) = false; rw [H3.out, HSQ.out]; simp [HRN.out]), (by show numsB (m.take (j + 1)) = true; rw [H4.out, HNU.out, HA.out]; rfl), hb.trans (hb1.mono hb.size)⟩
    · obtain rfl : j = n := by omega
      have hmt : m.take j = m := List.take_of_length_le (by rw [HL.out]; exact Nat.le_refl _)
      rw [hmt] at HSQ HNU
      clear hmt
      cases sq
      · go_wp2_with fail
        go_ret2
        refine ⟨?_, hb⟩
        unfold detStr detErr
        rw [HL.out, HNU.out, HSQ.out]; rfl
      · have hq := HSQ.out
        unfold sqB at hq
        simp only [Bool.and_eq_true, decide_eq_true_eq, List.all_eq_true] at hq
        obtain ⟨hj6, hrl⟩ := hq
        have HRL := Lib.hid hrl
        have hmk := mkRows j (by omega) wr
        have hP : Hid (RPart (wr.alloc (.cells (Go.madeCells #[.slice none 0 0] j) 93)) wr.heap.size j ((m.take 0).map vals)) := by
          refine ⟨_, World.alloc_heap_new wr _, Go.size_madeCells _ _, fun i v h => ?_, fun i row h => by simp at h⟩
          have hi := (Array.getElem?_eq_some_iff.1 h).1
          rw [Go.size_madeCells] at hi
          simp [Go.madeCells, hi, Nat.mod_one] at h
          first | exact ⟨_, _, _, h.symm⟩ | exact ⟨_, _, _, h⟩
        have hb2 : Below w.heap.size w (wr.alloc (.cells (Go.madeCells #[.slice none 0 0] j) 93)) := hb.alloc hb.size _
        have y0 : wr.heap.size < (wr.alloc (.cells (Go.madeCells #[.slice none 0 0] j) 93)).heap.size := by simp
        have HSZ := hb.size
        clear hrl
        go_wp2_with fail
        clear hmk
        go_loopg [38] j (fun gk i wx => ∃ (q : Nat), q ≤ j ∧ gk = j - q ∧ i = .int .i64 q ∧ Hid (RPart wx wr.heap.size j ((m.take q).map vals)) ∧ wr.heap.size < wx.heap.size ∧ Below w.heap.size w wx)
        case atStart => exact ⟨0, Nat.zero_le _, rfl, rfl, hP, y0, hb2⟩
        case round =>
          clear hP y0 hb2
          obtain ⟨q, hq, hgk, rfl, hp, hlt0, hb3⟩ := hrel
          have HGK2 := Lib.hid hgk
          clear hgk
          by_cases hlt : q < j
          · have hjl : q < m.length := by rw [HL.out]; exact hlt
            have hlen : ((m.take q).map vals).length = q := by simp; omega
            obtain ⟨b, off, p, c', rfl, hb1, hc, hrs⟩ := (HR.out.below hb3) q _ (List.getElem?_eq_getElem hjl)
            have hrow := HS.out _ (List.getElem_mem hjl)
            have hrl := HRL.out _ (List.getElem_mem hjl)
            have hab : allB m[q] = true := (List.all_eq_true.1 HNU.out) _ (List.getElem_mem hjl)
            have hvs : (m.take (q + 1)).map vals = (m.take q).map vals ++ [vals m[q]] := by rw [List.take_succ_eq_append_getElem hjl, List.map_append]; rfl
            generalize m[q] = row at *
            have H2 := Lib.hid hrow.2
            have H5 := Lib.hid hrs
            have HA := Lib.hid hab
            have HV := Lib.hid hvs
            have HRW := Lib.hid hrl
            rw [hrl] at hc
            clear hrow hrs hab hvs hrl
            go_wp2_with (go_at_call 61; refine (readAll_any _ _ _ row _ HRW.out (by omega) H5.out H2.out HA.out).mono ?_; rintro e w1 ⟨B, rfl, hnum, hb4⟩; obtain ⟨q1, ⟨u, q2⟩, q3⟩ := (hp.out.below hb4).put (k := j) (c := j) (by unfold vals; rw [List.length_map]; exact HRW.out) hnum (by rw [hlen]; exact hlt); rw [hlen] at q1 q2 q3)
            go_roundg (j - (q + 1))
            case measure => rw [HGK2.out]; omega
            case rel => exact ⟨q + 1, by omega, rfl, by go_num, (by rw [HV.out]; exact q1), by simp; exact Nat.lt_of_lt_of_le hlt0 hb4.size, (hb3.trans (hb4.mono hb3.size)).setCell HSZ _⟩
          · obtain rfl : q = j := by omega
            have hmt : m.take q = m := List.take_of_length_le (by rw [HL.out]; exact Nat.le_refl _)
            have hrows := hp.out.rows
            rw [hmt] at hrows
            have hML : (m.map vals).length = q := by rw [List.length_map]; exact HL.out
            have hMS : ∀ row ∈ m.map vals, row.length = q := fun row hrow => by
              obtain ⟨r, h1, rfl⟩ := List.mem_map.1 hrow
              unfold vals; rw [List.length_map]; exact HRL.out r h1
            have HMT := Lib.hid hmt
            have HML := Lib.hid hML
            have HMS := Lib.hid hMS
            have HRO := Lib.hid hrows
            clear hmt hML hMS hrows hp
            go_wp2_with (first
              | (go_at_call 62; refine (determinant_in _ _ _ _ _ hj6 HML.out HMS.out HRO.out).mono ?_; rintro e w5 ⟨neg, p, k, d, xs, rfl, hx, hb5⟩; have hb6 := hb3.trans (hb5.mono hb3.size))
              | (go_at_call 50; refine (written_any _ _ _ _ _ _ _ _ hx (by unfold detL; omega) (HT.out.below hb6)).mono ?_; rintro e w6 ⟨rfl, hb7⟩))
            go_ret2
            refine ⟨?_, hb6.trans (hb7.mono hb6.size)⟩
            unfold detStr detErr
            rw [HL.out, HNU.out, HSQ.out]; rfl

end Go.Proofs.YtapfkinpdinbgaaDoor
