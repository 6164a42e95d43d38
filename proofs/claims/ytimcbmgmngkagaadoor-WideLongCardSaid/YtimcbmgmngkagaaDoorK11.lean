/-
  The determinant of rows of strings; What each law asks besides: a few plain answers; Lehmer's steps of Euclid's algorithm, plain: cofactors of two numbers out of their highest digits. It imports nothing of the program; Blocks of the call's own, known whole; Greatest common divisors: Lehmer's steps; Gcd of two strings; The calls of wide, for the texts of integers; Sum of a list; Rows of strings of the call's own that grow by one, or are changed at one place.
-/
import Derived.Laws.EntriesVeiled
import Derived.Test.YtimcbmgmngkagaaDoorK1
import Derived.Test.YtimcbmgmngkagaaDoorK2
import Derived.Test.YtimcbmgmngkagaaDoorK3
import Derived.Test.YtimcbmgmngkagaaDoorK4
import Derived.Test.YtimcbmgmngkagaaDoorK5
import Derived.Test.YtimcbmgmngkagaaDoorK6
import Derived.Test.YtimcbmgmngkagaaDoorK7
import Derived.Test.YtimcbmgmngkagaaDoorK8
import Derived.Test.YtimcbmgmngkagaaDoorK9
import Derived.Test.YtimcbmgmngkagaaDoorK10
namespace Go.Proofs.YtimcbmgmngkagaaDoor
open Go.RowKit Go.Maps

theorem MinorV.mono {w : World} {br bk bf bm : Nat} {ra : Option Addr} {n c cnt cnt' : Nat} {M : List (List Int)} {z : Int} {L : Nat} {e : Ending} {w' : World} (h : MinorV w br bk bf bm ra n c cnt M z L e w') (hc : cnt ≤ cnt') : MinorV w br bk bf bm ra n c cnt' M z L e w' := by
  obtain ⟨neg, p, m, d, xs, g', h1, h2, h3, h4⟩ := h
  exact ⟨neg, p, m, d, xs, g', h1, h2, h3.mono hc, h4⟩

theorem minor_any (br bk bf bm : Nat) (ra : Option Addr) (n c : Nat) (M : List (List Int)) (hn : n ≤ 6) (hM : M.length = n) (hsq : ∀ row ∈ M, row.length = n) :
    ∀ (k r u cnt : Nat) (g : Nat → Option Value) (w : World), r + k = n → u < 2 ^ n → pop n u = r → cnt + detS k ≤ 900000 → DetIs w br bk bf bm ra n c cnt M g →
      Calls Tryd.prog 59 (minorArgs r u br bk bf) w (MinorV w br bk bf bm ra n c (cnt + detS k) M (minorZ M n k u) (detL k)) := by
  intro k
  induction k with
  | zero =>
    intro r u cnt g w hr hu hp hc hd
    obtain rfl : r = n := by omega
    exact minor_none br bk bf bm ra r c cnt M g u w hn hd
  | succ k ih =>
    intro r u cnt g w hr hu hp hc hd
    cases hg : g u with
    | none => exact minor_step br bk bf bm ra n c M k hn hM hsq ih r u cnt g w hr hu hp hc hd hg
    | some v =>
      have h := minor_known br bk bf bm ra n c cnt M g r u w hn (by omega) hu hp hd v hg
      rw [show n - r = k + 1 by omega] at h
      exact h.mono fun e w' h => h.mono (by omega)

/-- Where the closure's variables lie. -/
def detW (w : World) (ra : Option Addr) (n c : Nat) : World :=
  (((((w.alloc (.cells #[.slice ra n c] 78)).alloc (.cells #[.bool false, .slice none 0 0] 47)).alloc (.map #[] 0)).alloc (.cells #[.map (some (w.heap.size + 1 + 1))] 98)).alloc
    (.cells #[.func (.func 59) #[] #[.pointer (some ⟨w.heap.size, 0, none⟩), .pointer (some ⟨w.heap.size + 1 + 1 + 1, 0, none⟩), .pointer (some ⟨w.heap.size + 1 + 1 + 1 + 1, 0, none⟩)]] 99))

theorem det_start (w : World) (ra : Option Addr) (n c : Nat) (M : List (List Int)) (hr : RowsIs w ra M 223) :
    DetIs (detW w ra n c) w.heap.size (w.heap.size + 1 + 1 + 1) (w.heap.size + 1 + 1 + 1 + 1) (w.heap.size + 1 + 1) ra n c 0 M (fun _ => none) ∧ Boxed2 (detW w ra n c) (w.heap.size + 1) (.bool false) (.slice none 0 0) 47 ∧ Below w.heap.size w (detW w ra n c) := by
  have hb : Below w.heap.size w (detW w ra n c) := by
    unfold detW
    exact (((((Below.refl _ w).alloc (Nat.le_refl _) _).alloc (by simp) _).alloc (by rw [World.size_alloc, World.size_alloc]; omega) _).alloc (by rw [World.size_alloc, World.size_alloc, World.size_alloc]; omega) _).alloc (by rw [World.size_alloc, World.size_alloc, World.size_alloc, World.size_alloc]; omega) _
  have keep : ∀ {W : World} {o' : Obj} (o : Obj) (i : Nat), W.heap[i]? = some o' → (W.alloc o).heap[i]? = some o' := fun {W} {_} o i h => ((World.grownBy_alloc W o none).block i (Array.getElem?_eq_some_iff.1 h).1 (by simp)).trans h
  refine ⟨{ r := ?_, k := ?_, f := ?_, m := ?_, rows := hr.below hb, kept := fun u v h => by cases h }, ?_, hb⟩
  · exact keep _ _ (keep _ _ (keep _ _ (keep _ _ (World.alloc_heap_new w _))))
  · refine keep _ _ ?_
    have := World.alloc_heap_new (((w.alloc (.cells #[.slice ra n c] 78)).alloc (.cells #[.bool false, .slice none 0 0] 47)).alloc (.map #[] 0)) (.cells #[.map (some (w.heap.size + 1 + 1))] 98)
    rwa [World.size_alloc, World.size_alloc, World.size_alloc] at this
  · have := World.alloc_heap_new ((((w.alloc (.cells #[.slice ra n c] 78)).alloc (.cells #[.bool false, .slice none 0 0] 47)).alloc (.map #[] 0)).alloc (.cells #[.map (some (w.heap.size + 1 + 1))] 98)) (.cells #[.func (.func 59) #[] #[.pointer (some ⟨w.heap.size, 0, none⟩), .pointer (some ⟨w.heap.size + 1 + 1 + 1, 0, none⟩), .pointer (some ⟨w.heap.size + 1 + 1 + 1 + 1, 0, none⟩)]] 99)
    rwa [World.size_alloc, World.size_alloc, World.size_alloc, World.size_alloc] at this
  · have h := MapIs.made ((w.alloc (.cells #[.slice ra n c] 78)).alloc (.cells #[.bool false, .slice none 0 0] 47))
    have e : ((w.alloc (.cells #[.slice ra n c] 78)).alloc (.cells #[.bool false, .slice none 0 0] 47)).heap.size = w.heap.size + 1 + 1 := by simp
    rw [e] at h
    exact (h.kept (World.grownBy_alloc _ _ none) (by simp)).kept (World.grownBy_alloc _ _ none) (by simp)
  · refine keep _ _ (keep _ _ (keep _ _ ?_))
    have := World.alloc_heap_new (w.alloc (.cells #[.slice ra n c] 78)) (.cells #[.bool false, .slice none 0 0] 47)
    rwa [World.size_alloc] at this

set_option maxHeartbeats 1000000 in
theorem determinant_in (ra : Option Addr) (n c : Nat) (M : List (List Int)) (w : World) (hn : n ≤ 6) (hM : M.length = n) (hsq : ∀ row ∈ M, row.length = n) (hr : RowsIs w ra M 223) :
    Calls Tryd.prog 45 #[.slice ra n c] w (NumV w (detZ M) (detL n)) := by
  have hmm := @run_makeMap Tryd.prog
  have hmf : ∀ (fn : Fn) (first cap : Array Value) (w : World), (Instr.makeFunc fn first cap).run Tryd.prog w = .ok (.func fn first cap) w := fun _ _ _ _ => rfl
  obtain ⟨h1, h2, h3⟩ := det_start w ra n c M hr
  have hcall := minor_any w.heap.size (w.heap.size + 1 + 1 + 1) (w.heap.size + 1 + 1 + 1 + 1) (w.heap.size + 1 + 1) ra n c M hn hM hsq n 0 0 0 (fun _ => none) (detW w ra n c) (by omega) (Nat.pow_pos (by decide)) (pop_zero n) (by have h4 : detS 6 = 9331 := (by decide); have h5 := detS_mono hn; omega) h1
  have hz : detZ M = minorZ M n n 0 := by unfold detZ; rw [hM]
  rw [hz]
  have HC := Lib.hid hcall
  have H1 := Lib.hid h1
  have H2 := Lib.hid h2
  have H3 := Lib.hid h3
  clear hr hM hsq hz hcall h1 h2 h3
  go_enter Tryd.func45, Tryd.ntmps45
  go_wp2_with fail
  refine HC.out.mono ?_
  rintro e w5 ⟨neg, p, m, d, xs, g', rfl, hx, hd, hg⟩
  have b5 := H2.out.grown H1.out.m.at hg
  have c0 := b5.cell0
  have c1 := b5.cell1
  have q0 := b5.frozen (i := 0)
  have q1 := b5.frozen (i := 1)
  have hb5 : Below w.heap.size w w5 := H3.out.trans ⟨hg.os, hg.tape, hg.output, hg.size, fun i hi => hg.block i (Nat.lt_of_lt_of_le hi H3.out.size) (fun e => by cases e; omega)⟩
  clear hg hd
  go_wp2_with fail
  have e0 := b5.set (.bool neg) (.slice p m d)
  have z0 := e0.cell0
  have z1 := e0.cell1
  exact bodyPost_ret (v := .agg #[.bool neg, .slice p m d]) (by simp [results, Tryd.results45, go_sem, z0, z1]) rfl ⟨neg, p, m, d, xs, rfl, hx.set2 b5 _ _, (hb5.setCell (by simp) _).setCell (by simp) _⟩

end Go.Proofs.YtimcbmgmngkagaaDoor

namespace Go.Proofs.YtimcbmgmngkagaaDoor
open Go.RowKit Go.Maps

/-- Rows of strings. -/
def RdM (w : World) (a : Option Addr) (m : List (List ByteArray)) : Prop :=
  ∀ i row, m[i]? = some row → ∃ b off p c, a = some ⟨b, off, none⟩ ∧ b < w.heap.size ∧ w.cell? ⟨b, off + i, none⟩ = some (.slice p row.length c) ∧ RdS w p row

theorem RdM.below {w w' : World} {a : Option Addr} {m : List (List ByteArray)} (h : RdM w a m) (hb : Below w.heap.size w w') : RdM w' a m := by
  intro i row hi
  obtain ⟨b, off, p, c, ha, hlt, hc, hr⟩ := h i row hi
  exact ⟨b, off, p, c, ha, Nat.lt_of_lt_of_le hlt hb.size, (hb.cell (p := ⟨b, _, none⟩) hlt).trans hc, hr.below hb⟩

/-- The first rows of n are as long as all are, and not too many. -/
def sqB (n : Nat) (m : List (List ByteArray)) : Bool := decide (n ≤ 6) && m.all fun row => decide (row.length = n)
def numsB (m : List (List ByteArray)) : Bool := m.all allB
def detErr (m : List (List ByteArray)) : Int := if numsB m then (if sqB m.length m then outE (detZ (m.map vals)) else 1) else 6
def detStr (m : List (List ByteArray)) : List UInt8 := if numsB m then (if sqB m.length m then outS (detZ (m.map vals)) else []) else []

theorem take_all {α : Type} {l : List α} {p : α → Bool} {j : Nat} (hj : j < l.length) : (l.take (j + 1)).all p = ((l.take j).all p && p l[j]) := by
  rw [List.take_succ_eq_append_getElem hj, List.all_append]; simp

theorem sq_take {n : Nat} {m : List (List ByteArray)} {j : Nat} (hj : j < m.length) : sqB n (m.take (j + 1)) = (sqB n (m.take j) && decide (m[j].length = n)) := by
  unfold sqB; rw [take_all hj, Bool.and_assoc]

theorem Tryd.info93 : (Tryd.prog.info? 57).map (fun i => (i.zero, i.size, i.bytes)) = some (some (.slice none 0 0), 1, 24) := by kernel_rfl

theorem mkRows (n : Nat) (hn : n ≤ 1000000) (w : World) : (Instr.makeSlice 78 (.int .i64 (n : Int)) (.int .i64 (n : Int))).run Tryd.prog w = .ok (.slice (some ⟨w.heap.size, 0, none⟩) n n) (w.alloc (.cells (Go.madeCells #[.slice none 0 0] n) 57)) :=
  run_make_row' _ _ (.slice none 0 0) 24 Tryd.underlying78 Tryd.info93 rfl .i64 .i64 n (by omega) (by omega) w

/-- Block B holds slices alone. -/
def Slices (w : World) (B : Nat) : Prop := ∃ cs, w.heap[B]? = some (.cells cs 57 (0, 0)) ∧ ∀ (i : Nat) (v : Value), cs[i]? = some v → ∃ p k c, v = Value.slice p k c

theorem Nums.setSlice {w : World} {p : Option Addr} {zs : List Int} {L : Nat} (h : Nums w p zs L) {B i : Nat} (hB : Slices w B) {u : Value} (hu : w.cell? ⟨B, i, none⟩ = some u) (v : Value) : Nums (w.setCell ⟨B, i, none⟩ v) p zs L := by
  obtain ⟨cs, hh, hall⟩ := hB
  have hcell : ∀ j, w.cell? ⟨B, j, none⟩ = cs[j]? := fun j => by simp [World.cell?, hh]
  have hu' := hall i u (by rw [← hcell]; exact hu)
  intro j z hz
  obtain ⟨b, off, neg, q, n, c, xs, ha, hlt, h0, h1, hn⟩ := h j z hz
  have hne : b ≠ B := by
    rintro rfl
    rw [hcell] at h0
    obtain ⟨_, _, _, e⟩ := hall _ _ h0
    cases e
  refine ⟨b, off, neg, q, n, c, xs, ha, by simpa using hlt, ?_, ?_, hn.set hu (fun x e => by obtain ⟨_, _, _, e'⟩ := hu'; rw [e'] at e; cases e) v⟩
  · rw [World.cell?_setCell_other _ _ _ _ (fun e => hne (by cases e; rfl))]; exact h0
  · rw [World.cell?_setCell_other _ _ _ _ (fun e => hne (by cases e; rfl))]; exact h1

/-- What is done of the rows. -/
def RPart (w : World) (B n : Nat) (M : List (List Int)) : Prop :=
  ∃ cs : Array Value, w.heap[B]? = some (.cells cs 57 (0, 0)) ∧ cs.size = n ∧ (∀ (i : Nat) (v : Value), cs[i]? = some v → ∃ p k c, v = Value.slice p k c) ∧
    ∀ (i : Nat) (row : List Int), M[i]? = some row → ∃ (p : Option Addr) (c : Nat), cs[i]? = some (Value.slice p row.length c) ∧ Nums w p row 223

theorem RPart.rows {w : World} {B n : Nat} {M : List (List Int)} (h : RPart w B n M) : RowsIs w (some ⟨B, 0, none⟩) M 223 := by
  obtain ⟨cs, hh, hn, _, hz⟩ := h
  intro i row hi
  obtain ⟨p, c, h0, hx⟩ := hz i row hi
  exact ⟨B, 0, p, c, rfl, (Array.getElem?_eq_some_iff.1 hh).1, by simp [World.cell?, hh, h0], hx⟩

theorem RPart.below {w w' : World} {B n : Nat} {M : List (List Int)} (h : RPart w B n M) (hb : Below w.heap.size w w') : RPart w' B n M := by
  obtain ⟨cs, hh, hn, hv, hz⟩ := h
  refine ⟨cs, (hb.block B (Array.getElem?_eq_some_iff.1 hh).1).trans hh, hn, hv, fun i row hi => ?_⟩
  obtain ⟨p, c, h0, hx⟩ := hz i row hi
  exact ⟨p, c, h0, hx.below hb⟩

theorem RPart.put {w : World} {B n : Nat} {M : List (List Int)} (h : RPart w B n M) {p : Option Addr} {k c : Nat} {row : List Int} (hk : row.length = k) (hx : Nums w p row 223) (hlt : M.length < n) :
    RPart (w.setCell ⟨B, M.length, none⟩ (.slice p k c)) B n (M ++ [row]) ∧ (∃ u, w.cell? ⟨B, M.length, none⟩ = some u) ∧ w.frozen? ⟨B, M.length, none⟩ = false := by
  subst hk
  obtain ⟨cs, hh, hn, hv, hz⟩ := h
  have hc : ∀ i, w.cell? ⟨B, i, none⟩ = cs[i]? := fun i => by simp [World.cell?, hh]
  have l0 : M.length < cs.size := by omega
  have u0 : w.cell? ⟨B, M.length, none⟩ = some cs[M.length] := by rw [hc, Array.getElem?_eq_getElem l0]
  refine ⟨⟨cs.setIfInBounds M.length (.slice p row.length c), ?_, by simp [hn], ?_, ?_⟩, ⟨_, u0⟩, by simp [World.frozen?, hh]⟩
  · rw [Lib.heap_setCell_same hh]
  · intro i v hi
    rw [Array.getElem?_setIfInBounds] at hi
    split at hi
    · first
        | (cases hi; exact ⟨_, _, _, rfl⟩)
        | (split at hi <;> cases hi; exact ⟨_, _, _, rfl⟩)
    · exact hv _ _ hi
  · intro i row' hi
    rcases Nat.lt_or_ge i M.length with hlt' | hge
    · rw [List.getElem?_append_left hlt'] at hi
      obtain ⟨p', c', h0, hx'⟩ := hz i row' hi
      exact ⟨p', c', by rw [Array.getElem?_setIfInBounds_ne (by omega)]; exact h0, hx'.setSlice ⟨cs, hh, hv⟩ u0 _⟩
    · obtain rfl : i = M.length := by
        have := (List.getElem?_eq_some_iff.1 hi).1
        simp at this; omega
      simp at hi
      subst hi
      exact ⟨p, c, by rw [Array.getElem?_setIfInBounds_self_of_lt l0], hx.setSlice ⟨cs, hh, hv⟩ u0 _⟩

def DetOut (w : World) (m : List (List ByteArray)) (e : Ending) (w' : World) : Prop := e = .returned (.tuple #[.string ⟨(detStr m).toArray⟩, .int .i64 (detErr m)]) ∧ Below w.heap.size w w'

set_option maxRecDepth 100000 in
set_option maxHeartbeats 2000000 in
theorem det_any (a : Option Addr) (n c : Nat) (m : List (List ByteArray)) (w : World) (hl : m.length = n) (hn : n ≤ 1000000000000) (hr : RdM w a m) (hs : ∀ row ∈ m, row.length ≤ 1000000000000 ∧ ∀ s ∈ row, s.size ≤ maxLen) (htab : Tab w) :
    Calls Tryd.prog 30 #[.slice a n c] w (DetOut w m) := by
  have HL := Lib.hid hl
  have HR := Lib.hid hr
  have HS := Lib.hid hs
  have HT := Lib.hid htab
  obtain ⟨s6, hs6⟩ : ∃ s6, decide ((n : Int) ≤ 6) = s6 := ⟨_, rfl⟩
  have h06 : Hid (sqB n (m.take 0) = s6) := by
    show sqB n (m.take 0) = s6
    rw [← hs6]; unfold sqB
    simp; omega
  clear hl hr hs htab
  go_enter Tryd.func30, Tryd.ntmps30
  go_wp2_with fail
  clear hs6
  go_loopg [4, 15] n (fun gk v4 i wr => ∃ (j : Nat) (sq : Bool), j ≤ n ∧ gk = n - j ∧ i = .int .i64 j ∧ v4 = .bool sq ∧ Hid (sqB n (m.take j) = sq) ∧ Hid (numsB (m.take j) = true) ∧ Below w.heap.size w wr)
  case atStart => exact ⟨0, s6, Nat.zero_le _, rfl, rfl, rfl, h06, rfl, Below.refl _ _⟩
  case round =>
    obtain ⟨j, sq, hj, hgk, rfl, rfl, HSQ, HNU, hb⟩ := hrel
    have HGK := Lib.hid hgk
    clear hgk
    by_cases hlt : j < n
    · have hjl : j < m.length := by rw [HL.out]; exact hlt
      obtain ⟨b, off, p, c', rfl, hb1, hc, hrs⟩ := (HR.out.below hb) j _ (List.getElem?_eq_getElem hjl)
      have hrow := HS.out _ (List.getElem_mem hjl)
      have hsq := sq_take (n := n) hjl
      have hnu : numsB (m.take (j + 1)) = (numsB (m.take j) && allB m[j]) := take_all hjl
      have hnf : allB m[j] = false → numsB m = false := fun h => by
        unfold numsB; rw [List.all_eq_false]; exact ⟨m[j], List.getElem_mem _, by simp [h]⟩
      generalize m[j] = row at *
      have H1 := Lib.hid hrow.1
      have H2 := Lib.hid hrow.2
      have H3 := Lib.hid hsq
      have H4 := Lib.hid hnu
      have H5 := Lib.hid hrs
      have H6 := Lib.hid hnf
      clear hrow hsq hnu hrs hnf
      cases hab : allB row
      · have HA := Lib.hid hab
        clear hab
        go_wp2_with (go_at_call 25; refine (areAll_any _ _ _ row _ rfl H1.out H5.out H2.out).mono ?_; rintro e w1 ⟨rfl, hb1⟩; rw [HA.out])
        go_ret2
        have h6 := H6.out HA.out
        refine ⟨?_, hb.trans (hb1.mono hb.size)⟩
        unfold detStr detErr
        rw [h6]; rfl
      · have HA := Lib.hid hab
        clear hab
        cases sq
        · go_wp2_with (go_at_call 25; refine (areAll_any _ _ _ row _ rfl H1.out H5.out H2.out).mono ?_; rintro e w1 ⟨rfl, hb1⟩; rw [HA.out])
          go_roundg (n - (j + 1))
          case measure => rw [HGK.out]; omega
          case rel => exact ⟨j + 1, false, by omega, rfl, by go_num, rfl, (by show sqB n (m.take (j + 1)) = false; rw [H3.out, HSQ.out]; rfl), (by show numsB (m.take (j + 1)) = true; rw [H4.out, HNU.out, HA.out]; rfl), hb.trans (hb1.mono hb.size)⟩
        · by_cases hrn : row.length = n
          · have hz : ((row.length : Int) == (n : Int)) = true := by simp; omega
            have HRN := Lib.hid hrn
            clear hrn
            go_wp2_with (go_at_call 25; refine (areAll_any _ _ _ row _ rfl H1.out H5.out H2.out).mono ?_; rintro e w1 ⟨rfl, hb1⟩; rw [HA.out])
            go_roundg (n - (j + 1))
            case measure => rw [HGK.out]; omega
            case rel => exact ⟨j + 1, true, by omega, rfl, by go_num, rfl, (by show sqB n (m.take (j + 1)) = true; rw [H3.out, HSQ.out, HRN.out]; simp), (by show numsB (m.take (j + 1)) = true; rw [H4.out, HNU.out, HA.out]; rfl), hb.trans (hb1.mono hb.size)⟩
          · have hz : ((row.length : Int) == (n : Int)) = false := by simp; omega
            have HRN := Lib.hid hrn
            clear hrn
            go_wp2_with (go_at_call 25; refine (areAll_any _ _ _ row _ rfl H1.out H5.out H2.out).mono ?_; rintro e w1 ⟨rfl, hb1⟩; rw [HA.out])
            go_roundg (n - (j + 1))
            case measure => rw [HGK.out]; omega
            case rel => exact ⟨j + 1, false, by omega, rfl, by go_num, rfl, (by show sqB n (m.take (j + 1)) = false; rw [H3.out, HSQ.out]; simp [HRN.out]), (by show numsB (m.take (j + 1)) = true; rw [H4.out, HNU.out, HA.out]; rfl), hb.trans (hb1.mono hb.size)⟩
    · obtain rfl : j = n := by omega
      have hmt : m.take j = m := List.take_of_length_le (by rw [HL.out]; exact Nat.le_refl _)
      rw [hmt] at HSQ HNU
      clear hmt
      cases sq
      · go_wp2_with fail
        go_ret2
        refine ⟨?_, hb⟩
        unfold detStr detErr
        rw [HL.out, HNU.out, HSQ.out]; rfl
      · have hq := HSQ.out
        unfold sqB at hq
        simp only [Bool.and_eq_true, decide_eq_true_eq, List.all_eq_true] at hq
        obtain ⟨hj6, hrl⟩ := hq
        have HRL := Lib.hid hrl
        have hmk := mkRows j (by omega) wr
        have hP : Hid (RPart (wr.alloc (.cells (Go.madeCells #[.slice none 0 0] j) 57)) wr.heap.size j ((m.take 0).map vals)) := by
          refine ⟨_, World.alloc_heap_new wr _, Go.size_madeCells _ _, fun i v h => ?_, fun i row h => by simp at h⟩
          have hi := (Array.getElem?_eq_some_iff.1 h).1
          rw [Go.size_madeCells] at hi
          simp [Go.madeCells, hi, Nat.mod_one] at h
          first | exact ⟨_, _, _, h.symm⟩ | exact ⟨_, _, _, h⟩
        have hb2 : Below w.heap.size w (wr.alloc (.cells (Go.madeCells #[.slice none 0 0] j) 57)) := hb.alloc hb.size _
        have y0 : wr.heap.size < (wr.alloc (.cells (Go.madeCells #[.slice none 0 0] j) 57)).heap.size := by simp
        have HSZ := hb.size
        clear hrl
        go_wp2_with fail
        clear hmk
        go_loopg [38] j (fun gk i wx => ∃ (q : Nat), q ≤ j ∧ gk = j - q ∧ i = .int .i64 q ∧ Hid (RPart wx wr.heap.size j ((m.take q).map vals)) ∧ wr.heap.size < wx.heap.size ∧ Below w.heap.size w wx)
        case atStart => exact ⟨0, Nat.zero_le _, rfl, rfl, hP, y0, hb2⟩
        case round =>
          clear hP y0 hb2
          obtain ⟨q, hq, hgk, rfl, hp, hlt0, hb3⟩ := hrel
          have HGK2 := Lib.hid hgk
          clear hgk
          by_cases hlt : q < j
          · have hjl : q < m.length := by rw [HL.out]; exact hlt
            have hlen : ((m.take q).map vals).length = q := by simp; omega
            obtain ⟨b, off, p, c', rfl, hb1, hc, hrs⟩ := (HR.out.below hb3) q _ (List.getElem?_eq_getElem hjl)
            have hrow := HS.out _ (List.getElem_mem hjl)
            have hrl := HRL.out _ (List.getElem_mem hjl)
            have hab : allB m[q] = true := (List.all_eq_true.1 HNU.out) _ (List.getElem_mem hjl)
            have hvs : (m.take (q + 1)).map vals = (m.take q).map vals ++ [vals m[q]] := by rw [List.take_succ_eq_append_getElem hjl, List.map_append]; rfl
            generalize m[q] = row at *
            have H2 := Lib.hid hrow.2
            have H5 := Lib.hid hrs
            have HA := Lib.hid hab
            have HV := Lib.hid hvs
            have HRW := Lib.hid hrl
            rw [hrl] at hc
            clear hrow hrs hab hvs hrl
            go_wp2_with (go_at_call 26; refine (readAll_any _ _ _ row _ HRW.out (by omega) H5.out H2.out HA.out).mono ?_; rintro e w1 ⟨B, rfl, hnum, hb4⟩; obtain ⟨q1, ⟨u, q2⟩, q3⟩ := (hp.out.below hb4).put (k := j) (c := j) (by unfold vals; rw [List.length_map]; exact HRW.out) hnum (by rw [hlen]; exact hlt); rw [hlen] at q1 q2 q3)
            go_roundg (j - (q + 1))
            case measure => rw [HGK2.out]; omega
            case rel => exact ⟨q + 1, by omega, rfl, by go_num, (by rw [HV.out]; exact q1), by simp; exact Nat.lt_of_lt_of_le hlt0 hb4.size, (hb3.trans (hb4.mono hb3.size)).setCell HSZ _⟩
          · obtain rfl : q = j := by omega
            have hmt : m.take q = m := List.take_of_length_le (by rw [HL.out]; exact Nat.le_refl _)
            have hrows := hp.out.rows
            rw [hmt] at hrows
            have hML : (m.map vals).length = q := by rw [List.length_map]; exact HL.out
            have hMS : ∀ row ∈ m.map vals, row.length = q := fun row hrow => by
              obtain ⟨r, h1, rfl⟩ := List.mem_map.1 hrow
              unfold vals; rw [List.length_map]; exact HRL.out r h1
            have HMT := Lib.hid hmt
            have HML := Lib.hid hML
            have HMS := Lib.hid hMS
            have HRO := Lib.hid hrows
            clear hmt hML hMS hrows hp
            go_wp2_with (first
              | (go_at_call 45; refine (determinant_in _ _ _ _ _ hj6 HML.out HMS.out HRO.out).mono ?_; rintro e w5 ⟨neg, p, k, d, xs, rfl, hx, hb5⟩; have hb6 := hb3.trans (hb5.mono hb3.size))
              | (go_at_call 20; refine (written_any _ _ _ _ _ _ _ _ hx (by unfold detL; omega) (HT.out.below hb6)).mono ?_; rintro e w6 ⟨rfl, hb7⟩))
            go_ret2
            refine ⟨?_, hb6.trans (hb7.mono hb6.size)⟩
            unfold detStr detErr
            rw [HL.out, HNU.out, HSQ.out]; rfl

end Go.Proofs.YtimcbmgmngkagaaDoor

namespace Go.Proofs.YtimcbmgmngkagaaDoor
open Go.RowKit

def b20 : ByteArray := ⟨#[57, 57, 57, 57, 57, 57, 57, 57, 57, 57, 57, 57, 57, 57, 57, 57, 57, 57, 57, 57]⟩
def b40 : ByteArray := ⟨#[57, 57, 57, 57, 57, 57, 57, 57, 57, 57, 57, 57, 57, 57, 57, 57, 57, 57, 57, 56, 48, 48, 48, 48, 48, 48, 48, 48, 48, 48, 48, 48, 48, 48, 48, 48, 48, 48, 48, 49]⟩

theorem aw_mul (w : World) (htab : Tab w) : Calls Tryd.prog 7 #[.string b20, .string b20] w fun e w' => e = .returned (.tuple #[.string b40, .int .i64 0]) ∧ Below w.heap.size w w' := by
  refine (mul_any b20 b20 w (by decide) (by decide) htab).mono ?_
  rintro e w' ⟨rfl, hb⟩
  have h1 : apiS (numB b20.data.toList && numB b20.data.toList) (strV b20.data.toList * strV b20.data.toList) = b40.data.toList := by decide +kernel
  have h2 : apiE (numB b20.data.toList && numB b20.data.toList) (strV b20.data.toList * strV b20.data.toList) = 0 := by decide +kernel
  rw [h1, h2]
  exact ⟨rfl, hb⟩

theorem aw_div1 (w : World) (htab : Tab w) : Calls Tryd.prog 9 #[.string ⟨#[45, 55]⟩, .string ⟨#[50]⟩] w fun e w' => e = .returned (.tuple #[.string ⟨#[45, 52]⟩, .string ⟨#[49]⟩, .int .i64 0]) ∧ Below w.heap.size w w' := by
  refine (div_any ⟨#[45, 55]⟩ ⟨#[50]⟩ w (by decide) (by decide) htab (fun _ _ _ => canDiv_one (by decide +kernel) (by decide +kernel))).mono ?_
  rintro e w' ⟨rfl, hb⟩
  have h1 : divQ (numB (⟨#[45, 55]⟩ : ByteArray).data.toList && numB (⟨#[50]⟩ : ByteArray).data.toList) (strV (⟨#[45, 55]⟩ : ByteArray).data.toList) (strV (⟨#[50]⟩ : ByteArray).data.toList) = [45, 52] := by decide +kernel
  have h2 : divR (numB (⟨#[45, 55]⟩ : ByteArray).data.toList && numB (⟨#[50]⟩ : ByteArray).data.toList) (strV (⟨#[45, 55]⟩ : ByteArray).data.toList) (strV (⟨#[50]⟩ : ByteArray).data.toList) = [49] := by decide +kernel
  have h3 : divE (numB (⟨#[45, 55]⟩ : ByteArray).data.toList && numB (⟨#[50]⟩ : ByteArray).data.toList) (strV (⟨#[50]⟩ : ByteArray).data.toList) = 0 := by decide +kernel
  rw [h1, h2, h3]
  exact ⟨rfl, hb⟩

theorem aw_div2 (w : World) (htab : Tab w) : Calls Tryd.prog 9 #[.string ⟨#[45, 55]⟩, .string ⟨#[45, 50]⟩] w fun e w' => e = .returned (.tuple #[.string ⟨#[52]⟩, .string ⟨#[49]⟩, .int .i64 0]) ∧ Below w.heap.size w w' := by
  refine (div_any ⟨#[45, 55]⟩ ⟨#[45, 50]⟩ w (by decide) (by decide) htab (fun _ _ _ => canDiv_one (by decide +kernel) (by decide +kernel))).mono ?_
  rintro e w' ⟨rfl, hb⟩
  have h1 : divQ (numB (⟨#[45, 55]⟩ : ByteArray).data.toList && numB (⟨#[45, 50]⟩ : ByteArray).data.toList) (strV (⟨#[45, 55]⟩ : ByteArray).data.toList) (strV (⟨#[45, 50]⟩ : ByteArray).data.toList) = [52] := by decide +kernel
  have h2 : divR (numB (⟨#[45, 55]⟩ : ByteArray).data.toList && numB (⟨#[45, 50]⟩ : ByteArray).data.toList) (strV (⟨#[45, 55]⟩ : ByteArray).data.toList) (strV (⟨#[45, 50]⟩ : ByteArray).data.toList) = [49] := by decide +kernel
  have h3 : divE (numB (⟨#[45, 55]⟩ : ByteArray).data.toList && numB (⟨#[45, 50]⟩ : ByteArray).data.toList) (strV (⟨#[45, 50]⟩ : ByteArray).data.toList) = 0 := by decide +kernel
  rw [h1, h2, h3]
  exact ⟨rfl, hb⟩

def aw4 : List (List ByteArray) := [[⟨#[49]⟩, ⟨#[50]⟩], [⟨#[51]⟩, ⟨#[52]⟩]]

def awW (w : World) : World := ((w.alloc (.cells #[.string ⟨#[49]⟩, .string ⟨#[50]⟩] 9)).alloc (.cells #[.string ⟨#[51]⟩, .string ⟨#[52]⟩] 9)).alloc (.cells #[.slice (some ⟨w.heap.size, 0, none⟩) 2 2, .slice (some ⟨w.heap.size + 1, 0, none⟩) 2 2] 31)

theorem awW_below (w : World) : Below w.heap.size w (awW w) := (((Below.refl _ w).alloc (Nat.le_refl _) _).alloc (by simp) _).alloc (by rw [World.size_alloc, World.size_alloc]; omega) _

theorem aw_rows (w : World) : RdM (awW w) (some ⟨w.heap.size + 1 + 1, 0, none⟩) aw4 := by
  have keep : ∀ {W : World} {o' : Obj} (o : Obj) (i : Nat), W.heap[i]? = some o' → (W.alloc o).heap[i]? = some o' := fun {W} {_} o i h => ((World.grownBy_alloc W o none).block i (Array.getElem?_eq_some_iff.1 h).1 (by simp)).trans h
  have h0 : (awW w).heap[w.heap.size]? = some (.cells #[.string ⟨#[49]⟩, .string ⟨#[50]⟩] 9 (0, 0)) := keep _ _ (keep _ _ (World.alloc_heap_new w _))
  have h1 : (awW w).heap[w.heap.size + 1]? = some (.cells #[.string ⟨#[51]⟩, .string ⟨#[52]⟩] 9 (0, 0)) := by
    refine keep _ _ ?_
    have := World.alloc_heap_new (w.alloc (.cells #[.string ⟨#[49]⟩, .string ⟨#[50]⟩] 9)) (.cells #[.string ⟨#[51]⟩, .string ⟨#[52]⟩] 9)
    rwa [World.size_alloc] at this
  have h2 : (awW w).heap[w.heap.size + 1 + 1]? = some (.cells #[.slice (some ⟨w.heap.size, 0, none⟩) 2 2, .slice (some ⟨w.heap.size + 1, 0, none⟩) 2 2] 31 (0, 0)) := by
    have := World.alloc_heap_new ((w.alloc (.cells #[.string ⟨#[49]⟩, .string ⟨#[50]⟩] 9)).alloc (.cells #[.string ⟨#[51]⟩, .string ⟨#[52]⟩] 9)) (.cells #[.slice (some ⟨w.heap.size, 0, none⟩) 2 2, .slice (some ⟨w.heap.size + 1, 0, none⟩) 2 2] 31)
    rwa [World.size_alloc, World.size_alloc] at this
  have lt : ∀ {b : Nat} {o : Obj}, (awW w).heap[b]? = some o → b < (awW w).heap.size := fun h => (Array.getElem?_eq_some_iff.1 h).1
  have r0 : RdS (awW w) (some ⟨w.heap.size, 0, none⟩) [⟨#[49]⟩, ⟨#[50]⟩] := by
    intro i s hs
    refine ⟨w.heap.size, 0, rfl, lt h0, ?_⟩
    match i, hs with
    | 0, hs => cases hs; simp [World.cell?, h0]
    | 1, hs => cases hs; simp [World.cell?, h0]
    | i + 2, hs => simp at hs
  have r1 : RdS (awW w) (some ⟨w.heap.size + 1, 0, none⟩) [⟨#[51]⟩, ⟨#[52]⟩] := by
    intro i s hs
    refine ⟨w.heap.size + 1, 0, rfl, lt h1, ?_⟩
    match i, hs with
    | 0, hs => cases hs; simp [World.cell?, h1]
    | 1, hs => cases hs; simp [World.cell?, h1]
    | i + 2, hs => simp at hs
  intro i row hi
  match i, hi with
  | 0, hi => cases hi; exact ⟨w.heap.size + 1 + 1, 0, _, 2, rfl, lt h2, by simp [World.cell?, h2], r0⟩
  | 1, hi => cases hi; exact ⟨w.heap.size + 1 + 1, 0, _, 2, rfl, lt h2, by simp [World.cell?, h2], r1⟩
  | i + 2, hi => simp [aw4] at hi

theorem aw_det (w : World) (htab : Tab w) : Calls Tryd.prog 30 #[.slice (some ⟨w.heap.size + 1 + 1, 0, none⟩) 2 2] (awW w) fun e w' => e = .returned (.tuple #[.string ⟨#[45, 50]⟩, .int .i64 0]) ∧ Below w.heap.size w w' := by
  have hb := awW_below w
  refine (det_any (some ⟨w.heap.size + 1 + 1, 0, none⟩) 2 2 aw4 (awW w) rfl (by decide) (aw_rows w) (by unfold aw4 maxLen; decide) (htab.below hb)).mono ?_
  rintro e w' ⟨rfl, hb2⟩
  have h1 : detStr aw4 = [45, 50] := by decide +kernel
  have h2 : detErr aw4 = 0 := by decide +kernel
  rw [h1, h2]
  exact ⟨rfl, hb.trans (hb2.mono hb.size)⟩

def bMin : ByteArray := ⟨#[45, 57, 50, 50, 51, 51, 55, 50, 48, 51, 54, 56, 53, 52, 55, 55, 53, 56, 48, 56]⟩
theorem aw_toInt (w : World) (herr : ErrLaid w) : Calls Tryd.prog 31 #[.string bMin] w fun e w' => e = .returned (.tuple #[.int .i64 (-9223372036854775808), .bool true]) ∧ Below w.heap.size w w' := by
  refine (toInt_any bMin w (by decide) herr).mono ?_
  rintro e w' ⟨rfl, hb⟩
  have h1 : toInt bMin.data.toList = -9223372036854775808 := by decide +kernel
  have h2 : toOk bMin.data.toList = true := by decide +kernel
  rw [h1, h2]
  exact ⟨rfl, hb⟩

theorem aw_is (s : ByteArray) (b : Bool) (h : numB s.data.toList = b) (hs : s.size ≤ maxLen) (w : World) : Calls Tryd.prog 14 #[.string s] w fun e w' => e = .returned (.bool b) ∧ Below w.heap.size w w' := by
  subst h; exact is_any s w hs

set_option maxRecDepth 100000 in
set_option maxHeartbeats 2000000 in
theorem awake_any (w : World) (htab : Tab w) (herr : ErrLaid w) : Calls Tryd.prog 15 #[] w fun e w' => e = .returned (.bool true) ∧ Below w.heap.size w w' := by
  go_enter Tryd.func15, Tryd.ntmps15
  go_wp2_with fail
  refine (aw_mul _ htab).mono ?_
  rintro e w1 ⟨rfl, hb1⟩
  unfold b40
  go_wp2_with fail
  refine (aw_div1 _ (htab.below hb1)).mono ?_
  rintro e w2 ⟨rfl, hb2'⟩
  have hb2 := hb1.trans (hb2'.mono hb1.size)
  go_wp2_with fail
  refine (aw_div2 _ (htab.below hb2)).mono ?_
  rintro e w3 ⟨rfl, hb3'⟩
  have hb3 := hb2.trans (hb3'.mono hb2.size)
  go_wp2_with fail
  refine (aw_det w3 (htab.below hb3)).mono ?_
  rintro e w4 ⟨rfl, hb4'⟩
  have hb4 := hb3.trans (hb4'.mono hb3.size)
  go_wp2_with fail
  refine (aw_toInt _ (herr.below hb4)).mono ?_
  rintro e w5 ⟨rfl, hb5'⟩
  have hb5 := hb4.trans (hb5'.mono hb4.size)
  go_wp2_with fail
  refine (aw_is ⟨#[45, 48]⟩ false (by decide +kernel) (by decide) _).mono ?_
  rintro e w6 ⟨rfl, hb6'⟩
  have hb6 := hb5.trans (hb6'.mono hb5.size)
  go_wp2_with fail
  refine (aw_is ⟨#[48, 49]⟩ false (by decide +kernel) (by decide) _).mono ?_
  rintro e w7 ⟨rfl, hb7'⟩
  have hb7 := hb6.trans (hb7'.mono hb6.size)
  go_wp2_with fail
  refine (aw_is ⟨#[43, 49]⟩ false (by decide +kernel) (by decide) _).mono ?_
  rintro e w8 ⟨rfl, hb8'⟩
  have hb8 := hb7.trans (hb8'.mono hb7.size)
  go_wp2_with fail
  refine (aw_is ⟨#[45, 49, 48]⟩ true (by decide +kernel) (by decide) _).mono ?_
  rintro e w9 ⟨rfl, hb9'⟩
  have hb9 := hb8.trans (hb9'.mono hb8.size)
  go_wp2_with fail
  go_ret
  exact ⟨rfl, hb9⟩


end Go.Proofs.YtimcbmgmngkagaaDoor

namespace Go.Proofs.YtimcbmgmngkagaaDoor

/-- What holds of Lehmer's cofactors a, b, c, d of X and Y (P and Q the highest digits of both): p, q are the highest parts of a X + b Y and c X + d Y. -/
structure Leh (X Y P Q a b c d p q : Int) : Prop where
  hp : p = a * P + b * Q
  hq : q = c * P + d * Q
  q0 : 0 ≤ q
  qp : q ≤ p
  sg : (0 ≤ a ∧ b ≤ 0 ∧ c ≤ 0 ∧ 0 ≤ d ∧ d * p - b * q = P ∧ d ≤ p ∧ ((a ≤ -b ∧ -c ≤ d ∧ -b ≤ d) ∨ (a = 1 ∧ b = 0 ∧ c = 0 ∧ d = 1))) ∨
    (a ≤ 0 ∧ 0 ≤ b ∧ 0 ≤ c ∧ d ≤ 0 ∧ b * q - d * p = P ∧ -d ≤ p ∧ -a ≤ b ∧ c ≤ -d ∧ b ≤ -d)
  y0 : 0 ≤ c * X + d * Y
  yx : c * X + d * Y ≤ a * X + b * Y
  xy : a * X + b * Y ≤ X
  b0 : b = 0 ∧ a = 1 ∧ c = 0 ∧ d = 1 ∨ b ≠ 0 ∧ a * X + b * Y ≤ Y ∧ c * X + d * Y < a * X + b * Y
  yl : c * X + d * Y ≤ Y
  gc : Int.gcd (a * X + b * Y) (c * X + d * Y) = Int.gcd X Y

theorem Leh.start {X Y P Q : Int} (h0 : 0 ≤ Y) (h1 : Y ≤ X) (hQ : 0 ≤ Q) (hQP : Q ≤ P) (hP : 1 ≤ P) : Leh X Y P Q 1 0 0 1 P Q where
  hp := by omega
  hq := by omega
  q0 := hQ
  qp := hQP
  sg := Or.inl ⟨by omega, by omega, by omega, by omega, by omega, by omega, Or.inr ⟨rfl, rfl, rfl, rfl⟩⟩
  y0 := by omega
  yx := by omega
  xy := by omega
  b0 := Or.inl ⟨rfl, rfl, rfl, rfl⟩
  yl := by omega
  gc := by simp

/-- One quotient that is certain. -/
theorem certain {s p q t A B C D r u : Int} (hs : 0 < s) (hr : 0 ≤ r) (hr1 : r < s) (hu : 0 ≤ u) (hu1 : u < s) (ht : 0 ≤ t) (hA : 0 ≤ A) (hB : 0 ≤ B) (hC : 0 ≤ C) (hD : 0 ≤ D)
    (h1 : t * (q + D) ≤ p - B) (h2 : p + A < (t + 1) * (q - C)) :
    0 ≤ (p * s + A * r - B * u) - t * (q * s + D * u - C * r) ∧ (p * s + A * r - B * u) < (t + 1) * (q * s + D * u - C * r) := by
  have e1 : (p * s + A * r - B * u) - t * (q * s + D * u - C * r) = (p - B - t * (q + D)) * s + (B + t * D) * (s - u) + (A + t * C) * r := by grind
  have e2 : (t + 1) * (q * s + D * u - C * r) - (p * s + A * r - B * u) = ((t + 1) * (q - C) - (p + A)) * s + ((t + 1) * C + A) * (s - r) + ((t + 1) * D + B) * u := by grind
  have k1 : 0 ≤ t * D := Int.mul_nonneg ht hD
  have k2 : 0 ≤ t * C := Int.mul_nonneg ht hC
  have k3 : 0 ≤ (t + 1) * C := Int.mul_nonneg (by omega) hC
  have k4 : 0 ≤ (t + 1) * D := Int.mul_nonneg (by omega) hD
  have m1 : 0 ≤ (p - B - t * (q + D)) * s := Int.mul_nonneg (by omega) (by omega)
  have m2 : 0 ≤ (B + t * D) * (s - u) := Int.mul_nonneg (by omega) (by omega)
  have m3 : 0 ≤ (A + t * C) * r := Int.mul_nonneg (by omega) hr
  have m4 : 0 < ((t + 1) * (q - C) - (p + A)) * s := Int.mul_pos (by omega) hs
  have m5 : 0 ≤ ((t + 1) * C + A) * (s - r) := Int.mul_nonneg (by omega) (by omega)
  have m6 : 0 ≤ ((t + 1) * D + B) * u := Int.mul_nonneg (by omega) hu
  omega

theorem Leh.next {X Y P Q s r u a b c d p q t : Int} (h : Leh X Y P Q a b c d p q) (hX : X = P * s + r) (hY : Y = Q * s + u) (hs : 0 < s) (hr : 0 ≤ r) (hr1 : r < s) (hu : 0 ≤ u) (hu1 : u < s)
    (hqc : 0 < q + c) (hqd : 0 < q + d) (t1 : t = (p + a) / (q + c)) (t2 : t = (p + b) / (q + d)) :
    Leh X Y P Q c d (a - t * c) (b - t * d) q (p - t * q) ∧ p - t * q < q ∧ 1 ≤ t := by
  obtain ⟨hp, hq, q0, qp, sg, y0, yx, xy, b0, yl, gc⟩ := h
  have ta1 : t * (q + c) ≤ p + a := by rw [t1]; exact Int.ediv_mul_le _ (by omega)
  have ta2 : p + a < (t + 1) * (q + c) := by rw [t1]; exact Int.lt_ediv_add_one_mul_self _ hqc
  have tb1 : t * (q + d) ≤ p + b := by rw [t2]; exact Int.ediv_mul_le _ (by omega)
  have tb2 : p + b < (t + 1) * (q + d) := by rw [t2]; exact Int.lt_ediv_add_one_mul_self _ hqd
  have hpa : 0 ≤ p + a := by rcases sg with ⟨_, _, _, _, _, _, _⟩ | ⟨_, _, _, _, _, _, _⟩ <;> omega
  have ht : 0 ≤ t := by rw [t1]; exact Int.ediv_nonneg hpa (by omega)
  have ex : a * X + b * Y = p * s + a * r + b * u := by rw [hX, hY, hp]; grind
  have ey : c * X + d * Y = q * s + c * r + d * u := by rw [hX, hY, hq]; grind
  have key : 0 ≤ (a * X + b * Y) - t * (c * X + d * Y) ∧ (a * X + b * Y) < (t + 1) * (c * X + d * Y) := by
    rw [ex, ey]
    rcases sg with ⟨sa, sb, sc, sd, _, _, _⟩ | ⟨sa, sb, sc, sd, _, _, _⟩
    · have := certain (s := s) (p := p) (q := q) (t := t) (A := a) (B := -b) (C := -c) (D := d) (r := r) (u := u) hs hr hr1 hu hu1 ht sa (by omega) (by omega) sd (by omega) (by rw [Int.sub_neg]; exact ta2)
      have e1 : p * s + a * r - -b * u = p * s + a * r + b * u := by grind
      have e2 : q * s + d * u - -c * r = q * s + c * r + d * u := by grind
      rw [e1, e2] at this
      exact this
    · have := certain (s := s) (p := p) (q := q) (t := t) (A := b) (B := -a) (C := -d) (D := c) (r := u) (u := r) hs hu hu1 hr hr1 ht sb (by omega) (by omega) sc (by omega) (by rw [Int.sub_neg]; exact tb2)
      have e1 : p * s + b * u - -a * r = p * s + a * r + b * u := by grind
      have e2 : q * s + c * r - -d * u = q * s + c * r + d * u := by grind
      rw [e1, e2] at this
      exact this
  have ht1 : 1 ≤ t := by
    rcases Int.lt_or_le t 1 with h | h
    · have : t = 0 := by omega
      rw [this] at key
      omega
    · exact h
  have en : (a - t * c) * X + (b - t * d) * Y = (a * X + b * Y) - t * (c * X + d * Y) := by grind
  have e1 : (t + 1) * (q + c) = t * q + q + (t * c + c) := by grind
  have e2 : (t + 1) * (q + d) = t * q + q + (t * d + d) := by grind
  have e3 : t * (q + c) = t * q + t * c := by grind
  have e4 : t * (q + d) = t * q + t * d := by grind
  have e5 : (t + 1) * (c * X + d * Y) = t * (c * X + d * Y) + (c * X + d * Y) := by grind
  rw [e1] at ta2
  rw [e2] at tb2
  rw [e3] at ta1
  rw [e4] at tb1
  rw [e5] at key
  have tc0 : 0 ≤ c → c ≤ t * c := fun h => by have := Int.mul_le_mul_of_nonneg_right ht1 h; omega
  have tc1 : c ≤ 0 → t * c ≤ c := fun h => by have := Int.mul_le_mul_of_nonneg_right ht1 (show 0 ≤ -c by omega); rw [Int.mul_neg, Int.mul_neg] at this; omega
  have td0 : 0 ≤ d → d ≤ t * d := fun h => by have := Int.mul_le_mul_of_nonneg_right ht1 h; omega
  have td1 : d ≤ 0 → t * d ≤ d := fun h => by have := Int.mul_le_mul_of_nonneg_right ht1 (show 0 ≤ -d by omega); rw [Int.mul_neg, Int.mul_neg] at this; omega
  have tcd : 0 ≤ c + d → 0 ≤ t * c + t * d := fun h => by have := Int.mul_nonneg ht h; rw [Int.mul_add] at this; exact this
  have tdc : c + d ≤ 0 → t * c + t * d ≤ 0 := fun h => by have := Int.mul_nonneg ht (show 0 ≤ -(c + d) by omega); rw [Int.mul_neg, Int.mul_add] at this; omega
  have hlt : p - t * q < q := by
    rcases sg with ⟨sa, sb, sc, sd, _, _, _⟩ | ⟨sa, sb, sc, sd, _, _, _⟩
    · have := tc1 sc; omega
    · have := td1 sd; omega
  refine ⟨⟨hq, by rw [hp, hq]; grind, ?_, by omega, ?_, by rw [en]; exact key.1, by rw [en]; omega, by omega, ?_, ?_, ?_⟩, hlt, ht1⟩
  · rcases sg with ⟨sa, sb, sc, sd, _, _, _⟩ | ⟨sa, sb, sc, sd, _, _, _⟩
    · have := td0 sd; omega
    · have := tc0 sc; omega
  · rcases sg with ⟨sa, sb, sc, sd, sP, sD, sx⟩ | ⟨sa, sb, sc, sd, sP, sD, s1, s2, s3⟩
    · refine Or.inr ⟨sc, sd, by have := tc1 sc; omega, by have := td0 sd; omega, ?_, by have := td0 sd; omega, ?_, ?_, by have := td0 sd; omega⟩
      · rw [← sP]; grind
      · rcases sx with ⟨x1, x2, x3⟩ | ⟨rfl, rfl, rfl, rfl⟩ <;> omega
      · rcases sx with ⟨x1, x2, x3⟩ | ⟨rfl, rfl, rfl, rfl⟩
        · have := tcd (by omega); omega
        · omega
    · refine Or.inl ⟨sc, sd, by have := tc0 sc; omega, by have := td1 sd; omega, ?_, by have := td1 sd; omega, Or.inl ⟨by omega, ?_, by have := td1 sd; omega⟩⟩
      · rw [← sP]; grind
      · have := tdc (by omega); omega
  · refine Or.inr ⟨?_, by omega, by rw [en]; omega⟩
    rcases sg with ⟨sa, sb, sc, sd, sP, sD, sx⟩ | ⟨sa, sb, sc, sd, sP, sD, s1, s2, s3⟩
    · intro e
      rcases sx with ⟨x1, x2, x3⟩ | ⟨rfl, rfl, rfl, rfl⟩
      · -- d = 0: then b = 0, a = 0
        have hb : b = 0 := by omega
        rcases b0 with ⟨_, _, _, z⟩ | ⟨z, _⟩
        · omega
        · exact z hb
      · omega
    · intro e
      have hb : b = 0 := by omega
      rcases b0 with ⟨_, _, _, z⟩ | ⟨z, _⟩
      · omega
      · exact z hb
  · rw [en]; omega
  · rw [en, ← gc, Int.gcd_comm (a * X + b * Y)]
    exact Int.gcd_sub_mul_right_right _ _ _

/-- None of the cofactors is longer than a word. -/
theorem Leh.small {X Y P Q a b c d p q : Int} (h : Leh X Y P Q a b c d p q) (hP : P < 1000000000000000000) (hP1 : 1 ≤ P) :
    (-1000000000 < a ∧ a < 1000000000) ∧ (-1000000000 < b ∧ b < 1000000000) ∧ (-1000000000 < c ∧ c < 1000000000) ∧ (-1000000000 < d ∧ d < 1000000000) ∧ p ≤ P ∧ 0 ≤ p + a ∧ 0 ≤ p + b := by
  obtain ⟨hp, hq, q0, qp, sg, y0, yx, xy, b0, yl, gc⟩ := h
  have sq : ∀ D : Int, 0 ≤ D → D ≤ p → D * p ≤ P → D < 1000000000 := fun D h0 h1 h2 => by
    rcases Int.lt_or_le D 1000000000 with h | h
    · exact h
    · have m1 : 1000000000 * 1000000000 ≤ D * p := Int.mul_le_mul h (by omega) (by omega) (by omega)
      omega
  have one : ∀ D : Int, 1 ≤ D → D * p ≤ P → 0 ≤ p → p ≤ P := fun D h1 h2 h3 => by
    have := Int.mul_le_mul_of_nonneg_right h1 h3
    omega
  rcases sg with ⟨sa, sb, sc, sd, sP, sD, sx⟩ | ⟨sa, sb, sc, sd, sP, sD, s1, s2, s3⟩
  · have m0 : 0 ≤ (-b) * q := Int.mul_nonneg (by omega) q0
    rw [Int.neg_mul] at m0
    have hd := sq d sd sD (by omega)
    have h1 : 1 ≤ d := by
      rcases sx with ⟨x1, x2, x3⟩ | ⟨rfl, rfl, rfl, rfl⟩
      · rcases Int.lt_or_le d 1 with h | h
        · have e : d = 0 := by omega
          have e2 : b = 0 := by omega
          rw [e, e2] at sP
          omega
        · exact h
      · omega
    have hpP := one d h1 (by omega) (by omega)
    rcases sx with ⟨x1, x2, x3⟩ | ⟨rfl, rfl, rfl, rfl⟩ <;> omega
  · have m0 : 0 ≤ b * q := Int.mul_nonneg (by omega) q0
    have hd := sq (-d) (by omega) sD (by rw [Int.neg_mul]; omega)
    have h1 : 1 ≤ -d := by
      rcases Int.lt_or_le (-d) 1 with h | h
      · have e : d = 0 := by omega
        have e2 : b = 0 := by omega
        rw [e, e2] at sP
        omega
      · exact h
    have hpP := one (-d) h1 (by rw [Int.neg_mul]; omega) (by omega)
    omega

/-- What `combined` has done below a place: the digits that are written, and what is carried. -/
def CombI (xs ys : List Nat) (a b : Int) (zs : List Nat) (k : Nat) (c : Int) : Prop :=
  zs.length = k ∧ Dg BW zs ∧ (dv BW zs : Int) + ((BW ^ k : Nat) : Int) * c = a * (dv BW (xs.take k) : Nat) + b * (dv BW (ys.take k) : Nat)

theorem CombI.start (xs ys : List Nat) (a b : Int) : CombI xs ys a b [] 0 0 := ⟨rfl, Dg.nil _, by simp [dv]⟩

theorem CombI.step {xs ys zs : List Nat} {a b c s c' : Int} {k low : Nat} (h : CombI xs ys a b zs k c) (hs : s = c + a * (xs[k]?.getD 0 : Nat) + b * (ys[k]?.getD 0 : Nat)) (hl : (low : Int) + BW * c' = s) (hl9 : low < BW) :
    CombI xs ys a b (zs ++ [low]) (k + 1) c' := by
  obtain ⟨h1, h2, h3⟩ := h
  refine ⟨by simp [h1], h2.append (Dg.cons hl9 (Dg.nil _)), ?_⟩
  rw [dv_snoc, h1, dv_take_succ, dv_take_succ, Nat.pow_succ]
  generalize (xs[k]?.getD 0) = x at *
  generalize (ys[k]?.getD 0) = y at *
  generalize BW = B at *
  generalize B ^ k = M at *
  rw [Int.natCast_add, Int.natCast_add, Int.natCast_add, Int.natCast_mul, Int.natCast_mul, Int.natCast_mul, Int.natCast_mul]
  have e2 : (B : Int) * c' = s - low := by omega
  have e : (M : Int) * (B : Int) * c' = (M : Int) * (s - low) := by rw [← e2, Int.mul_assoc]
  rw [e, hs]
  grind

theorem CombI.done {xs ys zs : List Nat} {a b c : Int} {k : Nat} (h : CombI xs ys a b zs k c) (hx : xs.length ≤ k) (hy : ys.length ≤ k) (h0 : 0 ≤ a * (dv BW xs : Nat) + b * (dv BW ys : Nat)) (h1 : a * (dv BW xs : Nat) + b * (dv BW ys : Nat) < ((BW ^ k : Nat) : Int)) :
    (dv BW zs : Int) = a * (dv BW xs : Nat) + b * (dv BW ys : Nat) := by
  obtain ⟨g1, g2, g3⟩ := h
  rw [List.take_of_length_le hx, List.take_of_length_le hy] at g3
  have hz : (dv BW zs : Int) < ((BW ^ k : Nat) : Int) := by
    have := dv_lt g2
    rw [g1] at this
    exact Int.ofNat_lt.2 this
  generalize a * (dv BW xs : Nat) + b * (dv BW ys : Nat) = T at *
  have hp : (0 : Int) < ((BW ^ k : Nat) : Int) := by omega
  generalize ((BW ^ k : Nat) : Int) = M at *
  have hc : c = 0 := by
    rcases Int.lt_trichotomy c 0 with h | h | h
    · have := Int.mul_le_mul_of_nonneg_left (show c ≤ -1 by omega) (Int.le_of_lt hp); omega
    · exact h
    · have := Int.mul_le_mul_of_nonneg_left (show 1 ≤ c by omega) (Int.le_of_lt hp); omega
  rw [hc] at g3
  omega

end Go.Proofs.YtimcbmgmngkagaaDoor

namespace Go.Proofs.YtimcbmgmngkagaaDoor
open Go.RowKit

/-- Block B holds these cells. -/
def Blk (W : World) (B : Nat) (cs : Array Value) (t : TypeId) : Prop := W.heap[B]? = some (.cells cs t (0, 0))

theorem Blk.cell {W : World} {B : Nat} {cs : Array Value} {t : TypeId} (h : Blk W B cs t) {i : Nat} {v : Value} (hi : cs[i]? = some v) : W.cell? ⟨B, i, none⟩ = some v := by
  unfold Blk at h; unfold World.cell?; simp only [h]; simpa using hi
theorem Blk.frozen {W : World} {B : Nat} {cs : Array Value} {t : TypeId} (h : Blk W B cs t) (i : Nat) : W.frozen? ⟨B, i, none⟩ = false := by
  unfold Blk at h; unfold World.frozen?; simp [h]
theorem Blk.lt {W : World} {B : Nat} {cs : Array Value} {t : TypeId} (h : Blk W B cs t) : B < W.heap.size := by
  unfold Blk at h; exact (Array.getElem?_eq_some_iff.1 h).1
theorem Blk.new (W : World) (cs : Array Value) (t : TypeId) : Blk (W.alloc (.cells cs t)) W.heap.size cs t := by unfold Blk World.alloc; simp
theorem Blk.alloc {W : World} {B : Nat} {cs : Array Value} {t : TypeId} (h : Blk W B cs t) (o : Obj) : Blk (W.alloc o) B cs t := by
  unfold Blk at h ⊢
  exact ((World.grownBy_alloc W o none).block B (Array.getElem?_eq_some_iff.1 h).1 (by simp)).trans h
theorem Blk.below {W W' : World} {B C : Nat} {cs : Array Value} {t : TypeId} (h : Blk W B cs t) (hb : Below C W W') (hC : B < C) : Blk W' B cs t := by
  unfold Blk at h ⊢; rw [hb.block B hC]; exact h
theorem Blk.kept {W W' : World} {B : Nat} {cs : Array Value} {t : TypeId} (h : Blk W B cs t) (hb : Below W.heap.size W W') : Blk W' B cs t := h.below hb h.lt
theorem Blk.drew {W : World} {B : Nat} {cs : Array Value} {t : TypeId} (h : Blk W B cs t) : Blk W.drew B cs t := h
theorem Blk.set {W : World} {B : Nat} {cs : Array Value} {t : TypeId} (h : Blk W B cs t) (i : Nat) (v : Value) : Blk (W.setCell ⟨B, i, none⟩ v) B (cs.setIfInBounds i v) t := by
  unfold Blk at h ⊢; simp [World.setCell, Array.getElem?_modify, h]
end Go.Proofs.YtimcbmgmngkagaaDoor

namespace Go.Proofs.YtimcbmgmngkagaaDoor
open Go.RowKit

theorem Leh.out {X Y P Q a b c d p q : Int} (h : Leh X Y P Q a b c d p q) : b ≠ 0 → 0 ≤ c * X + d * Y ∧ c * X + d * Y < a * X + b * Y ∧ a * X + b * Y ≤ Y ∧ Int.gcd (a * X + b * Y) (c * X + d * Y) = Int.gcd X Y := fun hb => by
  rcases h.b0 with ⟨e, _⟩ | ⟨_, h1, h2⟩
  · exact absurd e hb
  · exact ⟨h.y0, h2, h1, h.gc⟩

end Go.Proofs.YtimcbmgmngkagaaDoor

namespace Go.Proofs.YtimcbmgmngkagaaDoor
open Go.RowKit

theorem num_bound {l : List UInt8} (h : numB l = true) : ∃ k, k = 2000 ∧ (strV l).natAbs < 10 ^ k := by
  refine ⟨2000, rfl, ?_⟩
  generalize hk : (2000 : Nat) = k
  unfold numB plainB at h
  simp only [Bool.and_eq_true, decide_eq_true_eq] at h
  have h1 := decV_lt _ h.1.1.2
  have h3 : (10 : Nat) ^ (digitsOf l).length ≤ 10 ^ k := Nat.pow_le_pow_right (by decide) (by omega)
  have h4 : (strV l).natAbs = decV (digitsOf l) := by unfold strV; split <;> simp
  rw [h4]
  exact Nat.lt_of_lt_of_le h1 h3

end Go.Proofs.YtimcbmgmngkagaaDoor

namespace Go.Proofs.YtimcbmgmngkagaaDoor
open Go.RowKit

/-- An integer is short enough to be a number. -/
def Fits (z : Int) : Prop := longB z = false

theorem fits_pow {z : Int} {k : Nat} (h : z.natAbs < 10 ^ k) (hk : k ≤ 2000) (hk1 : 1 ≤ k := by omega) : Fits z := longB_of hk1 h hk
theorem fits_digits {z : Int} (h : Fits z) : (digitsOf (Lib.itoa z)).length ≤ 2000 := by
  unfold Fits at h
  rw [long_itoa] at h
  simpa using h
theorem fits_num {z : Int} (h : Fits z) : numB (Lib.itoa z) = true := by
  unfold numB
  rw [(itoa_says z).1, decide_eq_true (fits_digits h)]
  rfl
theorem fits_len {z : Int} (h : Fits z) : (Lib.itoa z).length ≤ 2001 := numB_len (fits_num h)
theorem fits_val (z : Int) : strV (Lib.itoa z) = z := (itoa_says z).2.1
theorem num_fits {l : List UInt8} (h : numB l = true) : Fits (strV l) := by
  unfold Fits
  rw [long_itoa, itoa_strV h]
  unfold numB at h
  rw [Bool.and_eq_true] at h
  have := of_decide_eq_true h.2
  simpa using this
theorem fits_bound {z : Int} (h : Fits z) : ∃ k, k = 2000 ∧ z.natAbs < 10 ^ k := by
  obtain ⟨k, h1, h2⟩ := num_bound (fits_num h)
  rw [fits_val] at h2
  exact ⟨k, h1, h2⟩
theorem fits_of_le {z x : Int} (hx : Fits x) (h : z.natAbs ≤ x.natAbs) : Fits z := by
  obtain ⟨k, h1, h2⟩ := fits_bound hx
  exact fits_pow (k := k) (by omega) (by omega)

theorem addZ {x y z : Int} (w : World) (hx : Fits x) (hy : Fits y) (h : x + y = z) (hz : Fits z) (htab : Tab w) : Calls Tryd.prog 6 #[.string ⟨(Lib.itoa x).toArray⟩, .string ⟨(Lib.itoa y).toArray⟩] w fun e w' => e = .returned (.tuple #[.string ⟨(Lib.itoa z).toArray⟩, .int .i64 0]) ∧ Below w.heap.size w w' := by
  have := addL (Lib.itoa x) (Lib.itoa y) w (by have := fits_len hx; omega) (by have := fits_len hy; omega) (fits_num hx) (fits_num hy) htab
  unfold OutIs at this
  rw [fits_val, fits_val, h, (out_plain hz).1, (out_plain hz).2] at this
  exact this
theorem addZ_long {x y z : Int} (w : World) (hx : Fits x) (hy : Fits y) (h : x + y = z) (hz : longB z = true) (htab : Tab w) : Calls Tryd.prog 6 #[.string ⟨(Lib.itoa x).toArray⟩, .string ⟨(Lib.itoa y).toArray⟩] w fun e w' => e = .returned (.tuple #[.string ⟨#[]⟩, .int .i64 2]) ∧ Below w.heap.size w w' := by
  have := addL (Lib.itoa x) (Lib.itoa y) w (by have := fits_len hx; omega) (by have := fits_len hy; omega) (fits_num hx) (fits_num hy) htab
  unfold OutIs outS outE at this
  rw [fits_val, fits_val, h, hz] at this
  exact this
theorem subZ {x y z : Int} (w : World) (hx : Fits x) (hy : Fits y) (h : x - y = z) (hz : Fits z) (htab : Tab w) : Calls Tryd.prog 8 #[.string ⟨(Lib.itoa x).toArray⟩, .string ⟨(Lib.itoa y).toArray⟩] w fun e w' => e = .returned (.tuple #[.string ⟨(Lib.itoa z).toArray⟩, .int .i64 0]) ∧ Below w.heap.size w w' := by
  have := subL (Lib.itoa x) (Lib.itoa y) w (by have := fits_len hx; omega) (by have := fits_len hy; omega) (fits_num hx) (fits_num hy) htab
  unfold OutIs at this
  rw [fits_val, fits_val, h, (out_plain hz).1, (out_plain hz).2] at this
  exact this
theorem mulZ_long {x y z : Int} (w : World) (hx : Fits x) (hy : Fits y) (h : x * y = z) (hz : longB z = true) (htab : Tab w) : Calls Tryd.prog 7 #[.string ⟨(Lib.itoa x).toArray⟩, .string ⟨(Lib.itoa y).toArray⟩] w fun e w' => e = .returned (.tuple #[.string ⟨#[]⟩, .int .i64 2]) ∧ Below w.heap.size w w' := by
  have := mulL (Lib.itoa x) (Lib.itoa y) w (by have := fits_len hx; omega) (by have := fits_len hy; omega) (fits_num hx) (fits_num hy) htab
  unfold OutIs outS outE at this
  rw [fits_val, fits_val, h, hz] at this
  exact this
theorem divZ {x y q r : Int} (w : World) (hx : Fits x) (hy : Fits y) (h0 : y ≠ 0) (hq : x / y = q) (hr : x % y = r) (htab : Tab w) : Calls Tryd.prog 9 #[.string ⟨(Lib.itoa x).toArray⟩, .string ⟨(Lib.itoa y).toArray⟩] w fun e w' => e = .returned (.tuple #[.string ⟨(Lib.itoa q).toArray⟩, .string ⟨(Lib.itoa r).toArray⟩, .int .i64 0]) ∧ Below w.heap.size w w' := by
  have := div_all ⟨(Lib.itoa x).toArray⟩ ⟨(Lib.itoa y).toArray⟩ w (bytes_small (by have := fits_len hx; omega)) (bytes_small (by have := fits_len hy; omega)) htab
  rw [bytes_data, bytes_data, fits_num hx, fits_num hy, fits_val, fits_val] at this
  unfold DivIs divQ divR divE at this
  rw [hq, hr] at this
  simpa [h0] using this
theorem isZ {x : Int} (w : World) (hx : Fits x) : Calls Tryd.prog 14 #[.string ⟨(Lib.itoa x).toArray⟩] w fun e w' => e = .returned (.bool true) ∧ Below w.heap.size w w' := by
  have := isL (Lib.itoa x) w (by have := fits_len hx; omega)
  rw [fits_num hx] at this
  exact this
theorem itoa_neg {z : Int} (h : z < 0) : Lib.itoa z = 45 :: Lib.itoa (-z) := by
  refine plain_inj (itoa_says z).1 ?_ ?_
  · obtain ⟨h1, h2, _⟩ := itoa_says (-z)
    have hn : isNeg (Lib.itoa (-z)) = false := by
      cases hh : isNeg (Lib.itoa (-z))
      · rfl
      · unfold strV at h2
        rw [hh, if_pos rfl] at h2
        omega
    have hd : digitsOf (Lib.itoa (-z)) = Lib.itoa (-z) := by
      have := text_of (l := Lib.itoa (-z))
      rw [hn] at this
      exact this.symm
    have hd2 : digitsOf (45 :: Lib.itoa (-z)) = Lib.itoa (-z) := rfl
    have hp := h1
    unfold plainB at h1 ⊢
    rw [hd] at h1
    rw [hd2]
    simp only [Bool.and_eq_true, Bool.or_eq_true] at h1 ⊢
    refine ⟨h1.1, ?_⟩
    left
    rcases h1.2 with h | h
    · exact h
    · have e : Lib.itoa (-z) = [48] := by simpa using h
      rw [e] at h2
      have : strV [48] = 0 := by decide
      omega
  · rw [fits_val]
    have h2 := fits_val (-z)
    have hn : isNeg (Lib.itoa (-z)) = false := by
      cases hh : isNeg (Lib.itoa (-z))
      · rfl
      · unfold strV at h2
        rw [hh, if_pos rfl] at h2
        omega
    unfold strV at h2 ⊢
    rw [hn] at h2
    have hd : digitsOf (Lib.itoa (-z)) = Lib.itoa (-z) := by
      have := text_of (l := Lib.itoa (-z))
      rw [hn] at this
      exact this.symm
    rw [hd] at h2
    show z = (if isNeg (45 :: Lib.itoa (-z)) = true then -(decV (digitsOf (45 :: Lib.itoa (-z))) : Int) else _)
    rw [show isNeg (45 :: Lib.itoa (-z)) = true from rfl, if_pos rfl, show digitsOf (45 :: Lib.itoa (-z)) = Lib.itoa (-z) from rfl]
    simp at h2
    omega

end Go.Proofs.YtimcbmgmngkagaaDoor

namespace Go.Proofs.YtimcbmgmngkagaaDoor
open Go.RowKit

/-- What Sum hands back. -/
def sumErr (l : List ByteArray) : Int := if allB l then (if 1000 < l.length then 1 else outE (sumZ (vals l))) else 6
def sumStr (l : List ByteArray) : List UInt8 := if allB l then (if 1000 < l.length then [] else outS (sumZ (vals l))) else []

set_option maxHeartbeats 1000000 in
theorem sumList_any (a : Option Addr) (n c : Nat) (l : List ByteArray) (w : World) (hl : l.length = n) (hn : n ≤ 1000000000000) (hr : RdS w a l) (hs : ∀ s ∈ l, s.size ≤ maxLen) (htab : Tab w) :
    Calls Tryd.prog 10 #[.slice a n c] w fun e w' => e = .returned (.tuple #[.string ⟨(sumStr l).toArray⟩, .int .i64 (sumErr l)]) ∧ Below w.heap.size w w' := by
  by_cases hall : allB l = true
  · by_cases h1000 : 1000 < n
    · have h1 : sumStr l = [] := by unfold sumStr; rw [if_pos hall, if_pos (by omega)]
      have h2 : sumErr l = 1 := by unfold sumErr; rw [if_pos hall, if_pos (by omega)]
      rw [h1, h2]
      have hi : (1000 : Int) < (n : Int) := by omega
      have HA := Lib.hid hall
      clear hall h1 h2 h1000
      go_enter Tryd.func10, Tryd.ntmps10
      go_wp2_with (go_at_call 25; refine (areAll_any _ _ _ l _ hl hn hr hs).mono ?_; rintro e w1 ⟨rfl, hb1⟩; rw [HA.out])
      go_ret2
      exact ⟨rfl, hb1⟩
    · have h1 : sumStr l = outS (sumZ (vals l)) := by unfold sumStr; rw [if_pos hall, if_neg (by omega)]
      have h2 : sumErr l = outE (sumZ (vals l)) := by unfold sumErr; rw [if_pos hall, if_neg (by omega)]
      rw [h1, h2]
      have hi : ¬ (1000 : Int) < (n : Int) := by omega
      have hvl : (vals l).length = n := by simp [vals, hl]
      have HA := Lib.hid hall
      have HV := Lib.hid hvl
      have hn' : n ≤ 1000 := by omega
      clear hall h1 h2 h1000 hvl
      go_enter Tryd.func10, Tryd.ntmps10
      go_wp2_with (first
        | (go_at_call 25; refine (areAll_any _ _ _ l _ hl hn hr hs).mono ?_; rintro e w1 ⟨rfl, hb1⟩; rw [HA.out])
        | (go_at_call 26; refine (readAll_any _ _ _ l _ hl (by omega) (hr.below hb1) hs HA.out).mono ?_; rintro e w2 ⟨B, rfl, hz, hb2⟩; have hbX := hb1.trans (hb2.mono hb1.size))
        | (go_at_call 19; refine (sum_any _ _ _ (vals l) 223 _ HV.out (by omega) (by omega) hz).mono ?_; rintro e w3 ⟨neg, p, m, d, xs, rfl, hx, hb3⟩; have hbY := hbX.trans (hb3.mono hbX.size))
        | (go_at_call 20; refine (written_any _ _ _ _ _ _ _ _ hx (by omega) (htab.below hbY)).mono ?_; rintro e w4 ⟨rfl, hb4⟩))
      go_ret2
      exact ⟨rfl, hbY.trans (hb4.mono hbY.size)⟩
  · have h1 : sumStr l = [] := by unfold sumStr; rw [if_neg hall]
    have h2 : sumErr l = 6 := by unfold sumErr; rw [if_neg hall]
    rw [h1, h2]
    have hall' : allB l = false := by simpa using hall
    have HA := Lib.hid hall'
    clear hall hall' h1 h2
    go_enter Tryd.func10, Tryd.ntmps10
    go_wp2_with (go_at_call 25; refine (areAll_any _ _ _ l _ hl hn hr hs).mono ?_; rintro e w1 ⟨rfl, hb1⟩; rw [HA.out])
    go_ret2
    exact ⟨rfl, hb1⟩

end Go.Proofs.YtimcbmgmngkagaaDoor

namespace Go.Proofs.YtimcbmgmngkagaaDoor
open Go.RowKit

def scells (ls : List (List UInt8)) : List Value := ls.map fun s => Value.string ⟨s.toArray⟩
/-- A slice of strings that the call has made. -/
def GrS (w : World) (base : Nat) (v : Value) (ls : List (List UInt8)) : Prop := w.ownsRow base 9 1 v ls.length (scells ls)
theorem GrS.nil (w : World) (base : Nat) : GrS w base (.slice none 0 0) [] := ownsRow_nil _ _ _
theorem GrS.below {w w' : World} {base : Nat} {v : Value} {ls : List (List UInt8)} (h : GrS w base v ls) (hb : Below w.heap.size w w') : GrS w' base v ls :=
  own_below h hb

theorem GrS.rd {w : World} {base : Nat} {v : Value} {ls : List (List UInt8)} (h : GrS w base v ls) : ∃ p c, v = .slice p ls.length c ∧ ls.length ≤ c ∧ RdL w p ls := by
  rcases h.2 with ⟨rfl, hn⟩ | ⟨g, cap, cur, rfl, hb, hg, hc, _, hs, ht⟩
  · rw [hn]
    have : ls = [] := List.length_eq_zero_iff.1 hn
    subst this
    exact ⟨none, 0, rfl, Nat.le_refl _, fun i s hs => by simp at hs⟩
  · refine ⟨_, cap, rfl, hc, fun i s hs => ?_⟩
    have hi : i < ls.length := (List.getElem?_eq_some_iff.1 hs).1
    refine ⟨g, 0, rfl, (Array.getElem?_eq_some_iff.1 hg).1, ?_⟩
    have h1 : (scells ls)[i]? = some (.string ⟨s.toArray⟩) := by unfold scells; simp [hs]
    rw [← ht, Nat.mul_one, List.getElem?_take_of_lt hi] at h1
    rw [Nat.zero_add]
    simpa [World.cell?, hg] using h1

/-- x[i] = s. -/
theorem GrS.put {w : World} {base : Nat} {p : Option Addr} {n c : Nat} {ls : List (List UInt8)} (h : GrS w base (.slice p n c) ls) {i : Nat} (hi : i < ls.length) (s : List UInt8) :
    ∃ g, p = some ⟨g, 0, none⟩ ∧ base ≤ g ∧ (∃ u, w.cell? ⟨g, i, none⟩ = some u) ∧ w.frozen? ⟨g, i, none⟩ = false ∧ GrS (w.setCell ⟨g, i, none⟩ (.string ⟨s.toArray⟩)) base (.slice p n c) (ls.set i s) := by
  rcases h.2 with ⟨e, hn⟩ | ⟨g, cap, cur, e, hb, hg, hc, hz, hs, ht⟩
  · rw [hn] at hi; omega
  · cases e
    have hlt : i < cur.size := by omega
    refine ⟨g, rfl, hb, ⟨cur[i], by simp [World.cell?, hg, hlt]⟩, by simp [World.frozen?, hg], ?_⟩
    refine ⟨by rw [List.length_set]; unfold scells; simp, Or.inr ⟨g, c, cur.setIfInBounds i (.string ⟨s.toArray⟩), by rw [List.length_set], hb, ?_, by rw [List.length_set]; exact hc, by simpa using hz, by simpa using hs, ?_⟩⟩
    · rw [Lib.heap_setCell_same hg]
    · rw [List.length_set]
      rw [Array.toList_setIfInBounds, List.take_set, ht]
      unfold scells
      rw [List.map_set]

end Go.Proofs.YtimcbmgmngkagaaDoor
